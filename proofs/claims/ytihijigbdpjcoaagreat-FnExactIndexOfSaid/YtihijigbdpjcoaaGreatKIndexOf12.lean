/-
  Index forms as values; the methods of index forms and what a type switch finds, as closed facts.
-/
import Derived.Test.YtihijigbdpjcoaaGreatKIndexOf3
import Derived.Deep.RegionHeld3
import Derived.Deep.AppendLies
namespace Go.Proofs.YtihijigbdpjcoaaGreat
open Go.RowKit
set_option linter.unusedVariables false

def ityL : Li → TypeId
  | .bnd _ => 104
  | .free _ => 106
  | .fn _ => 99
  | .app _ _ => 101
def ivL : Li → Value
  | .bnd n => .agg #[.int .i64 n]
  | .free a => .agg #[.int .i64 a]
  | .fn x => .agg #[.iface (ityL x) (ivL x)]
  | .app x y => .agg #[.iface (ityL x) (ivL x), .iface (ityL y) (ivL y)]
def liV (l : Li) : Value := .iface (ityL l) (ivL l)
/-- The answer, and new blocks at most. -/
def ValPost (v : Value) (w : World) (e : Ending) (w' : World) : Prop := e = .returned v ∧ Below w.heap.size w w'

def mIndexF : Li → FuncId
  | .bnd _ => 188
  | .free _ => 193
  | .fn _ => 175
  | .app _ _ => 183
theorem askIndexL (l : Li) (v : Value) (w : World) : (method 304 (ityL l) v "loop.example/g03112/impl.index").run Tryz.prog w = .ok (mIndexF l, v) w := by
  cases l <;> kernel_rfl
theorem enterIndexL (l : Li) (args : Array Value) (w : World) : (callFunc (mIndexF l) args).run Tryz.prog w = .ok (.enter (mIndexF l) args) w := by
  cases l <;> kernel_rfl

end Go.Proofs.YtihijigbdpjcoaaGreat
