/-
  Index forms as values; the methods of index forms and what a type switch finds, as closed facts.
-/
import Derived.Test.YtihijigbdpjcoaaKStepIndices3
import Derived.Deep.RegionHeld3
import Derived.Deep.AppendLies
namespace Go.Proofs.Ytihijigbdpjcoaa
open Go.RowKit
set_option linter.unusedVariables false

def ityL : Li → TypeId
  | .bnd _ => 103
  | .free _ => 105
  | .fn _ => 107
  | .app _ _ => 109
def ivL : Li → Value
  | .bnd n => .agg #[.int .i64 n]
  | .free a => .agg #[.int .i64 a]
  | .fn x => .agg #[.iface (ityL x) (ivL x)]
  | .app x y => .agg #[.iface (ityL x) (ivL x), .iface (ityL y) (ivL y)]
def liV (l : Li) : Value := .iface (ityL l) (ivL l)
/-- The answer, and new blocks at most. -/
def ValPost (v : Value) (w : World) (e : Ending) (w' : World) : Prop := e = .returned v ∧ Below w.heap.size w w'

def mIndexF : Li → FuncId
  | .bnd _ => 161
  | .free _ => 165
  | .fn _ => 170
  | .app _ _ => 175
theorem askIndexL (l : Li) (v : Value) (w : World) : (method 291 (ityL l) v "loop.example/g03112/impl.index").run Try.prog w = .ok (mIndexF l, v) w := by
  cases l <;> kernel_rfl
theorem enterIndexL (l : Li) (args : Array Value) (w : World) : (callFunc (mIndexF l) args).run Try.prog w = .ok (.enter (mIndexF l) args) w := by
  cases l <;> kernel_rfl

theorem is_boundIndex_boundIndex (v : Value) (w : World) : (Instr.typeAssert (.iface 103 v) 76 103 true).run Try.prog w = .ok (.tuple #[v, .bool true]) w := by kernel_rfl
theorem is_boundIndex_funIndex (v : Value) (w : World) : (Instr.typeAssert (.iface 103 v) 76 107 true).run Try.prog w = .ok (.tuple #[.agg #[.nilIface], .bool false]) w := by kernel_rfl
theorem is_boundIndex_applyIndex (v : Value) (w : World) : (Instr.typeAssert (.iface 103 v) 76 109 true).run Try.prog w = .ok (.tuple #[.agg #[.nilIface, .nilIface], .bool false]) w := by kernel_rfl
theorem is_freeIndex_boundIndex (v : Value) (w : World) : (Instr.typeAssert (.iface 105 v) 76 103 true).run Try.prog w = .ok (.tuple #[.agg #[.int .i64 0], .bool false]) w := by kernel_rfl
theorem is_freeIndex_funIndex (v : Value) (w : World) : (Instr.typeAssert (.iface 105 v) 76 107 true).run Try.prog w = .ok (.tuple #[.agg #[.nilIface], .bool false]) w := by kernel_rfl
theorem is_freeIndex_applyIndex (v : Value) (w : World) : (Instr.typeAssert (.iface 105 v) 76 109 true).run Try.prog w = .ok (.tuple #[.agg #[.nilIface, .nilIface], .bool false]) w := by kernel_rfl
theorem is_funIndex_boundIndex (v : Value) (w : World) : (Instr.typeAssert (.iface 107 v) 76 103 true).run Try.prog w = .ok (.tuple #[.agg #[.int .i64 0], .bool false]) w := by kernel_rfl
theorem is_funIndex_funIndex (v : Value) (w : World) : (Instr.typeAssert (.iface 107 v) 76 107 true).run Try.prog w = .ok (.tuple #[v, .bool true]) w := by kernel_rfl
theorem is_funIndex_applyIndex (v : Value) (w : World) : (Instr.typeAssert (.iface 107 v) 76 109 true).run Try.prog w = .ok (.tuple #[.agg #[.nilIface, .nilIface], .bool false]) w := by kernel_rfl
theorem is_applyIndex_boundIndex (v : Value) (w : World) : (Instr.typeAssert (.iface 109 v) 76 103 true).run Try.prog w = .ok (.tuple #[.agg #[.int .i64 0], .bool false]) w := by kernel_rfl
theorem is_applyIndex_funIndex (v : Value) (w : World) : (Instr.typeAssert (.iface 109 v) 76 107 true).run Try.prog w = .ok (.tuple #[.agg #[.nilIface], .bool false]) w := by kernel_rfl
theorem is_applyIndex_applyIndex (v : Value) (w : World) : (Instr.typeAssert (.iface 109 v) 76 109 true).run Try.prog w = .ok (.tuple #[v, .bool true]) w := by kernel_rfl
end Go.Proofs.Ytihijigbdpjcoaa
