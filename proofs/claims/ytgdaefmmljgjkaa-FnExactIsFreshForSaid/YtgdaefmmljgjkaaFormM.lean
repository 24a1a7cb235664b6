/-
  The methods of forms: which function is called, as closed facts.
-/
import Derived.Test.YtgdaefmmljgjkaaFormR
namespace Go.Proofs.Ytgdaefmmljgjkaa
open Go.RowKit Go.Sort
set_option linter.unusedVariables false

/-- The free atoms of a form, by its kind. -/
def freeF (t : Tm) : FuncId := if t.op = 1 then 159 else if t.op = 2 then 164 else if t.op = 3 then 170 else 177
theorem askFree (t : Tm) (v : Value) (w : World) : (method 292 (fty t) v "loop.example/g03112/impl.free").run Try.prog w = .ok (freeF t, v) w := by
  unfold fty freeF
  split
  · kernel_rfl
  split
  · kernel_rfl
  split
  · kernel_rfl
  · kernel_rfl
theorem enterFree (t : Tm) (args : Array Value) (w : World) : (callFunc (freeF t) args).run Try.prog w = .ok (.enter (freeF t) args) w := by
  unfold freeF
  split
  · kernel_rfl
  split
  · kernel_rfl
  split
  · kernel_rfl
  · kernel_rfl

/-- What acting makes of a form, by its kind. -/
def actF (t : Tm) : FuncId := if t.op = 1 then 158 else if t.op = 2 then 163 else if t.op = 3 then 169 else 176
theorem askAct (t : Tm) (v : Value) (w : World) : (method 292 (fty t) v "loop.example/g03112/impl.acted").run Try.prog w = .ok (actF t, v) w := by
  unfold fty actF
  split
  · kernel_rfl
  split
  · kernel_rfl
  split
  · kernel_rfl
  · kernel_rfl
theorem enterAct (t : Tm) (args : Array Value) (w : World) : (callFunc (actF t) args).run Try.prog w = .ok (.enter (actF t) args) w := by
  unfold actF
  split
  · kernel_rfl
  split
  · kernel_rfl
  split
  · kernel_rfl
  · kernel_rfl

/-- The term of a form, by its kind. -/
def termF (t : Tm) : FuncId := if t.op = 1 then 160 else if t.op = 2 then 165 else if t.op = 3 then 171 else 178
theorem askTerm (t : Tm) (v : Value) (w : World) : (method 292 (fty t) v "loop.example/g03112/impl.term").run Try.prog w = .ok (termF t, v) w := by
  unfold fty termF
  split
  · kernel_rfl
  split
  · kernel_rfl
  split
  · kernel_rfl
  · kernel_rfl
theorem enterTerm (t : Tm) (args : Array Value) (w : World) : (callFunc (termF t) args).run Try.prog w = .ok (.enter (termF t) args) w := by
  unfold termF
  split
  · kernel_rfl
  split
  · kernel_rfl
  split
  · kernel_rfl
  · kernel_rfl
end Go.Proofs.Ytgdaefmmljgjkaa
