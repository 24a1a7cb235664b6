/-
  Plain words for lists of integers in memory.
-/
import Derived.Test.YtipccjonkgjccaaKNewSession1
namespace Go.Proofs.Ytipccjonkgjccaa
open Go.RowKit

end Go.Proofs.Ytipccjonkgjccaa
