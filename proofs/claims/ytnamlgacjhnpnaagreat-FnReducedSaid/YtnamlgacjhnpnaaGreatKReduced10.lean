/-
  Copying a list of integers, as a contract.
-/
import Derived.Test.YtnamlgacjhnpnaaGreatKReduced3
import Derived.WalkLawsBesides
import Derived.WalkSpells
import Derived.Lib.QuietBelow
namespace Go.Proofs.YtnamlgacjhnpnaaGreat
open Go.RowKit Go.Sort

theorem int_info : (Tryz.prog.info? 3).map (fun i => (i.zero, i.size, i.bytes)) = some (some (.int .i64 0), 1, 8) := by kernel_rfl

end Go.Proofs.YtnamlgacjhnpnaaGreat
