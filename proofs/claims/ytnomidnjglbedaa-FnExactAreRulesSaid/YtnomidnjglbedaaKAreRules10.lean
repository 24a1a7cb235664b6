/-
  Terms as the program holds them while it works on them; plain words, no program is walked here. Rows of forms that a call makes: plain words. The form of a term, in the program, as a contract. The methods of forms: which function is called, as closed facts.
-/
import Derived.Test.YtnomidnjglbedaaKAreRules2
import Derived.Test.YtnomidnjglbedaaKAreRules9
import Derived.Test.YtnomidnjglbedaaKAreRules5
import Derived.Deep.AppendLies
import Derived.Deep.RegionHeld3
section
namespace Go.Proofs.Ytnomidnjglbedaa
section
open Go.RowKit
set_option linter.unusedVariables false

mutual
/-- An interface value reads as a term; what it reaches lies in blocks of a kind. -/
inductive FIn (w : World) (q : Nat → Prop) : Value → Tm → Prop
  | atom (n : Int) : FIn w q (.iface 159 (.agg #[.int .i64 n])) (.mk 1 n [] [])
  | node (n : Int) {b off m c : Nat} {xs : List Value} {ks : List Tm} (hm : m = ks.length) (hq : q b) (hb : b < w.heap.size) (hc : ∀ j u, xs[j]? = some u → w.cell? ⟨b, off + j, none⟩ = some u) (h : FsIn w q xs ks) :
      FIn w q (.iface 154 (.agg #[.int .i64 n, .slice (some ⟨b, off, none⟩) m c])) (.mk 2 n [] ks)
  | bind (n : Int) {v : Value} {k : Tm} (h : FIn w q v k) : FIn w q (.iface 157 (.agg #[.int .i64 n, v])) (.mk 3 n [] [k])
  | hole (n : Int) {A : Option Addr} {m c : Nat} {p : List (Int × Int)} (hm : m = p.length) (h : PairsAt w A p) (hq : ∀ b off, 0 < p.length → A = some ⟨b, off, none⟩ → q b) : FIn w q (.iface 161 (.agg #[.int .i64 n, .slice A m c])) (.mk 4 n p [])
inductive FsIn (w : World) (q : Nat → Prop) : List Value → List Tm → Prop
  | nil : FsIn w q [] []
  | cons {v : Value} {t : Tm} {vs : List Value} {ts : List Tm} (h : FIn w q v t) (k : FsIn w q vs ts) : FsIn w q (v :: vs) (t :: ts)
end

/-- In another world the blocks of a kind are as they were, and of another kind. -/
structure Over (w w' : World) (q q' : Nat → Prop) : Prop where
  size : w.heap.size ≤ w'.heap.size
  block : ∀ b, q b → b < w.heap.size → w'.heap[b]? = w.heap[b]?
  kind : ∀ b, q b → b < w.heap.size → q' b

theorem Over.pairs {w w' : World} {q q' : Nat → Prop} (hb : Over w w' q q') {A : Option Addr} {l : List (Int × Int)} (h : PairsAt w A l) (hq : ∀ b off, 0 < l.length → A = some ⟨b, off, none⟩ → q b) : PairsAt w' A l := by
  intro hl
  obtain ⟨b, off, rfl, hlt, hc⟩ := h hl
  have hw := hb.block b (hq b off hl rfl) hlt
  refine ⟨b, off, rfl, Nat.lt_of_lt_of_le hlt hb.size, fun i hi => ?_⟩
  obtain ⟨h1, h2⟩ := hc i hi
  exact ⟨(World.cell?_of_block (w := w) (a := ⟨b, off + i * 2, none⟩) hw).trans h1, (World.cell?_of_block (w := w) (a := ⟨b, off + i * 2 + 1, none⟩) hw).trans h2⟩

mutual
theorem FIn.over {w w' : World} {q q' : Nat → Prop} (hb : Over w w' q q') : ∀ {v : Value} {t : Tm}, FIn w q v t → FIn w' q' v t
  | _, _, .atom n => .atom n
  | _, _, .node (b := b) (off := off) n hm hq hlt hc h => .node n hm (hb.kind b hq hlt) (Nat.lt_of_lt_of_le hlt hb.size) (fun j u hj => (World.cell?_of_block (w := w) (a := ⟨b, off + j, none⟩) (hb.block b hq hlt)).trans (hc j u hj)) (h.over hb)
  | _, _, .bind n h => .bind n (h.over hb)
  | _, _, .hole n hm h hq => .hole n hm (hb.pairs h hq) (fun b off hl hA => by
      obtain ⟨b', off', e, hlt, _⟩ := h hl
      rw [hA] at e
      injection e with e
      injection e with e
      subst e
      exact hb.kind b (hq b off hl hA) hlt)
theorem FsIn.over {w w' : World} {q q' : Nat → Prop} (hb : Over w w' q q') : ∀ {vs : List Value} {ts : List Tm}, FsIn w q vs ts → FsIn w' q' vs ts
  | _, _, .nil => .nil
  | _, _, .cons h k => .cons (h.over hb) (k.over hb)
end

theorem FsIn.len {w : World} {q : Nat → Prop} : ∀ {vs : List Value} {ts : List Tm}, FsIn w q vs ts → vs.length = ts.length
  | _, _, .nil => rfl
  | _, _, .cons _ k => by rw [List.length_cons, List.length_cons, k.len]
theorem FsIn.get {w : World} {q : Nat → Prop} : ∀ {vs : List Value} {ts : List Tm}, FsIn w q vs ts → ∀ i : Nat, i < ts.length → ∃ u, vs[i]? = some u ∧ FIn w q u (tmAt ts i)
  | _, _, .nil, i, h => by simp at h
  | _, _, .cons (v := v) h _, 0, _ => ⟨v, rfl, h⟩
  | _, _, .cons _ k, i + 1, h => by
    obtain ⟨u, hu, hf⟩ := k.get i (by simpa using h)
    exact ⟨u, by simpa using hu, by rw [tmAt_cons_succ]; exact hf⟩
/-- Every block. -/
def AnyB (_ : Nat) : Prop := True

theorem FIn.old {w w' : World} {q : Nat → Prop} {v : Value} {t : Tm} (h : FIn w q v t) (hb : Below w.heap.size w w') : FIn w' (fun b => b < w.heap.size) v t :=
  h.over ⟨hb.size, fun b _ hl => hb.block b hl, fun _ _ hl => hl⟩
theorem FIn.keep {w w' : World} {q : Nat → Prop} {v : Value} {t : Tm} (h : FIn w q v t) (hb : Below w.heap.size w w') : FIn w' q v t :=
  h.over ⟨hb.size, fun b _ hl => hb.block b hl, fun _ h _ => h⟩
theorem FIn.kind {w : World} {q q' : Nat → Prop} {v : Value} {t : Tm} (h : FIn w q v t) (hk : ∀ b, b < w.heap.size → q b → q' b) : FIn w q' v t :=
  h.over ⟨Nat.le_refl _, fun _ _ _ => rfl, fun b h hl => hk b hl h⟩
theorem FIn.any {w : World} {q : Nat → Prop} {v : Value} {t : Tm} (h : FIn w q v t) : FIn w AnyB v t := h.kind fun _ _ _ => trivial

theorem FIn.setOther {w : World} {q : Nat → Prop} {v : Value} {t : Tm} (h : FIn w q v t) (a : Addr) (u : Value) (hn : ∀ b, q b → b ≠ a.block) : FIn (w.setCell a u) q v t :=
  h.over ⟨by simp, fun b hq _ => Below.heap_setCell w a u b (hn b hq), fun _ h _ => h⟩

/-- The dynamic type of a form. -/
def fty (t : Tm) : TypeId := if t.op = 1 then 159 else if t.op = 2 then 154 else if t.op = 3 then 157 else 161

theorem FIn.iface {w : World} {q : Nat → Prop} {v : Value} {t : Tm} (h : FIn w q v t) : ∃ x, v = .iface (fty t) x := by
  cases h with
  | atom n => exact ⟨_, rfl⟩
  | node n => exact ⟨_, rfl⟩
  | bind n => exact ⟨_, rfl⟩
  | hole n => exact ⟨_, rfl⟩

/-- It is one cell. -/
theorem FIn.one {w : World} {q : Nat → Prop} {v : Value} {t : Tm} (h : FIn w q v t) : v.oneCell' = true := by
  obtain ⟨x, rfl⟩ := h.iface
  rfl

end

section
open Go.RowKit Go.Sort
set_option linter.unusedVariables false

end

section
open Go.RowKit Go.Sort
set_option linter.unusedVariables false

end
section
open Go.RowKit Go.Sort
set_option linter.unusedVariables false

end
end Go.Proofs.Ytnomidnjglbedaa
end

section
namespace Go.Proofs.Ytnomidnjglbedaa
section
open Go.RowKit Go.Sort
set_option linter.unusedVariables false

end
end Go.Proofs.Ytnomidnjglbedaa
end

