/-
  Plain words for lists of pairs in memory: no program is walked here.
-/
import Derived.Test.YtipccjonkgjccaaRows
import Derived.WalkKit
import Derived.Lib.Hide
namespace Go.Proofs.Ytipccjonkgjccaa
open Go.RowKit

end Go.Proofs.Ytipccjonkgjccaa
