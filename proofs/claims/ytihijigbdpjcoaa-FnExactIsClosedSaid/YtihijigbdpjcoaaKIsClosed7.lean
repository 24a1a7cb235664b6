/-
  Index forms as values; the methods of index forms and what a type switch finds, as closed facts.
-/
import Derived.Test.YtihijigbdpjcoaaKIsClosed6
import Derived.Deep.RegionHeld3
import Derived.Deep.AppendLies
namespace Go.Proofs.Ytihijigbdpjcoaa
open Go.RowKit
set_option linter.unusedVariables false

def ityL : Li → TypeId
  | .bnd _ => 103
  | .free _ => 105
  | .fn _ => 107
  | .app _ _ => 109
def ivL : Li → Value
  | .bnd n => .agg #[.int .i64 n]
  | .free a => .agg #[.int .i64 a]
  | .fn x => .agg #[.iface (ityL x) (ivL x)]
  | .app x y => .agg #[.iface (ityL x) (ivL x), .iface (ityL y) (ivL y)]
def liV (l : Li) : Value := .iface (ityL l) (ivL l)
/-- The answer, and new blocks at most. -/
def ValPost (v : Value) (w : World) (e : Ending) (w' : World) : Prop := e = .returned v ∧ Below w.heap.size w w'

def mClosedF : Li → FuncId
  | .bnd _ => 108
  | .free _ => 166
  | .fn _ => 171
  | .app _ _ => 176
theorem askClosedL (l : Li) (v : Value) (w : World) : (method 291 (ityL l) v "loop.example/g03112/impl.isClosedIn").run Try.prog w = .ok (mClosedF l, v) w := by
  cases l <;> kernel_rfl
theorem enterClosedL (l : Li) (args : Array Value) (w : World) : (callFunc (mClosedF l) args).run Try.prog w = .ok (.enter (mClosedF l) args) w := by
  cases l <;> kernel_rfl

end Go.Proofs.Ytihijigbdpjcoaa
