/-
  Copying a list of booleans, as a contract. Copying a list of integers, as a contract.
-/
import Derived.Test.YthacnbeckhdhiaaKComplement1
import Derived.WalkLawsBesides
import Derived.WalkSpells
import Derived.Lib.QuietBelow
section
namespace Go.Proofs.Ythacnbeckhdhiaa
open Go.RowKit Go.Sort

theorem bool_info : (Try.prog.info? 4).map (fun i => (i.zero, i.size, i.bytes)) = some (some (.bool false), 1, 1) := by kernel_rfl

end Go.Proofs.Ythacnbeckhdhiaa
end

section
namespace Go.Proofs.Ythacnbeckhdhiaa
open Go.RowKit Go.Sort

theorem int_info : (Try.prog.info? 3).map (fun i => (i.zero, i.size, i.bytes)) = some (some (.int .i64 0), 1, 8) := by kernel_rfl

end Go.Proofs.Ythacnbeckhdhiaa
end

