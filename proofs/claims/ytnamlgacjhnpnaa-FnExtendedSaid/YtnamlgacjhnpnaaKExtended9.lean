/-
  Copying a list of integers, as a contract.
-/
import Derived.Test.YtnamlgacjhnpnaaKExtended3
import Derived.WalkLawsBesides
import Derived.WalkSpells
import Derived.Lib.QuietBelow
namespace Go.Proofs.Ytnamlgacjhnpnaa
open Go.RowKit Go.Sort

theorem int_info : (Try.prog.info? 3).map (fun i => (i.zero, i.size, i.bytes)) = some (some (.int .i64 0), 1, 8) := by kernel_rfl

end Go.Proofs.Ytnamlgacjhnpnaa
