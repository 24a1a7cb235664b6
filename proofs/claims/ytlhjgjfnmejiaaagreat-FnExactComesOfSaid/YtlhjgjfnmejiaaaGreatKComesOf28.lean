/-
  A set of elements of contexts, as a map of the call's own that gives true for them. The elements of a list are added to a set: a contract.
-/
import Derived.Test.YtlhjgjfnmejiaaaGreatKComesOf20
import Derived.Test.YtlhjgjfnmejiaaaGreatKComesOf8
import Derived.DeepKeys4
import Derived.MapViews
import Derived.Maps.OwnOps
import Derived.Maps.Views
import Derived.Lib.SmallJoins
section
namespace Go.Proofs.YtlhjgjfnmejiaaaGreat
open Go.RowKit Go.Sort Go.ChangeShapes Go.WideShapes Go.WideMaps Go.Maps
set_option linter.unusedVariables false

theorem frWide : (match Tryz.prog.underlying 119 with | some (.array _ _) | some (.struct _) => true | _ => false) = true := by rw [Tryz.underlying119]
set_option maxRecDepth 100000 in
theorem frLaw : KeyLaw Tryz.prog 119 := deep_law_laid laidOut (m := 2) (by omega) (of_decide_eq_true (by kernel_rfl)) (by kernel_rfl) frWide
theorem frKeyed : Keyed Tryz.prog 119 := Keyed.of_law frLaw
theorem frDeep : Tryz.prog.keyTypeAt (Tryz.prog.types.size + 1) 119 = true := by kernel_rfl
theorem frCells2 : Tryz.prog.cellsOf 119 = 2 := by kernel_rfl
theorem frFormed (a b : Value) : (Value.agg #[a, b]).formed Tryz.prog 119 = true := by simp [Value.formed, Tryz.underlying119, frCells2]
def frD (x : Int × Int) : DataW Unit := .agg [.lit (.int .i64 x.1), .lit (.int .i64 x.2)]
def keyF (x : Int × Int) : Lit := (frD x).asKey
def frV (x : Int × Int) : Value := .agg #[.int .i64 x.1, .int .i64 x.2]
def okF (x : Int × Int) : Prop := (Lit.int .i64 x.1).wf = true ∧ (Lit.int .i64 x.2).wf = true

set_option maxRecDepth 100000 in
theorem keyF_of (w : World) {x : Int × Int} (h : okF x) : keyOf Tryz.prog 119 (frV x) = some (keyF x) := by
  have ht := Go.Joins.shut_agg2 (enc := fun _ => ()) (P := Tryz.prog) (w := w) (base := 0) (spare := fun _ => true) (held := true) (v0 := .int .i64 x.1) (v1 := .int .i64 x.2) (y0 := (.lit (.int .i64 x.1), [])) (y1 := (.lit (.int .i64 x.2), [])) Tryz.underlying119 (by kernel_rfl) frCells2
    ⟨1, by simp [DataW.trod, Tryz.underlying3, h.1]⟩ ⟨1, by simp [DataW.trod, Tryz.underlying3, h.2]⟩
  exact (keyOf_asKey frDeep frWide (frFormed _ _) ht).1

set_option maxRecDepth 100000 in
theorem keyF_inj (w : World) {x y : Int × Int} (hx : okF x) (hy : okF y) (h : keyF x = keyF y) : x = y := by
  have h1 := keyF_of w hx
  rw [h] at h1
  have h2 := frKeyed.inj h1 (keyF_of w hy)
  obtain ⟨a, b⟩ := x
  obtain ⟨c, d⟩ := y
  simpa [frV] using h2

/-- Block b is a map of at most n keys, exactly the elements of S, and gives true for them. -/
def SetAt (w : World) (b n : Nat) (S : List (Int × Int)) : Prop :=
  ∃ D : DataW Unit, w.ownsMap Tryz.prog 119 (plainElem Tryz.prog 4) b n D ∧ (∀ x, okF x → D.atKey (keyF x) (.lit (.bool false)) = .lit (.bool (decide (x ∈ S)))) ∧ (∀ x, okF x → has D (keyF x) = hasF S x) ∧ size D = (sortF S).length

theorem setAt_made (w : World) : SetAt (w.alloc (.map #[] 0)) w.heap.size 0 [] :=
  ⟨.map [], World.ownsMap_made w _ _ _, fun x _ => by simp [DataW.atKey], fun x _ => by simp [has_eq, hasF], rfl⟩

theorem SetAt.kept {w w' : World} {b n : Nat} {S : List (Int × Int)} {row : Option Nat} (h : SetAt w b n S) (hg : w.grownBy w' row) (hne : some b ≠ row) : SetAt w' b n S := by
  obtain ⟨D, ho, hd⟩ := h
  exact ⟨D, ho.kept hg hne, hd⟩
theorem SetAt.alloc {w : World} {b n : Nat} {S : List (Int × Int)} (h : SetAt w b n S) (o : Obj) : SetAt (w.alloc o) b n S := h.kept (World.grownBy_alloc w o none) (by simp)
theorem SetAt.lt {w : World} {b n : Nat} {S : List (Int × Int)} (h : SetAt w b n S) : b < w.heap.size := by
  obtain ⟨D, ho, _⟩ := h
  exact ho.lt
theorem SetAt.below {w w' : World} {b n : Nat} {S : List (Int × Int)} (h : SetAt w b n S) (hb : Below w.heap.size w w') : SetAt w' b n S :=
  h.kept (grown_of_below hb none) (by simp)
theorem SetAt.noCell {w : World} {b n : Nat} {S : List (Int × Int)} (h : SetAt w b n S) {g o : Nat} {v : Value} (hc : w.cell? ⟨g, o, none⟩ = some v) : g ≠ b := by
  rintro rfl
  obtain ⟨D, ⟨es, clock, hb, _⟩, _⟩ := h
  simp [World.cell?, hb] at hc

theorem SetAt.put_ {D : DataW Unit} {S : List (Int × Int)} {x0 : Int × Int} (w : World) (hT : Tidy D) (hm : IsMap D) (hok : okF x0) (h : (∀ x, okF x → D.atKey (keyF x) (.lit (.bool false)) = .lit (.bool (decide (x ∈ S)))) ∧ (∀ x, okF x → has D (keyF x) = hasF S x) ∧ size D = (sortF S).length) :
    (∀ x, okF x → (D.put (keyF x0) (.lit (.bool true))).atKey (keyF x) (.lit (.bool false)) = .lit (.bool (decide (x ∈ S ++ [x0])))) ∧ (∀ x, okF x → has (D.put (keyF x0) (.lit (.bool true))) (keyF x) = hasF (S ++ [x0]) x) ∧ size (D.put (keyF x0) (.lit (.bool true))) = (sortF (S ++ [x0])).length := by
  obtain ⟨h1, h2, h3⟩ := h
  refine ⟨fun x hx => ?_, fun x hx => ?_, ?_⟩
  · by_cases e : x = x0
    · subst e
      rw [atKey_put_same hm (frKeyed.key (keyF_of w hok))]
      simp
    · rw [atKey_put_other (fun h' => e (keyF_inj w hx hok h')), h1 x hx]
      simp [e]
  · by_cases e : x = x0
    · subst e
      rw [has_put_same hm (frKeyed.key (keyF_of w hok))]
      simp [hasF]
    · rw [has_put_other (fun h' => e (keyF_inj w hx hok h')), h2 x hx]
      simp [hasF, e]
  · rw [size_put hT, h2 x0 hok, sortF_snoc, putF_len, h3]
    have e : hasF (sortF S) x0 = hasF S x0 := by
      by_cases hh : hasF S x0 = true
      · rw [hh]; exact hasF_iff.2 (mem_sortF.2 (hasF_iff.1 hh))
      · have hf : hasF S x0 = false := by simpa using hh
        rw [hf]; exact hasF_not.2 (fun hm => hasF_not.1 hf (mem_sortF.1 hm))
    rw [e]

theorem wpList_len_set (w : World) {ops : Array Oper} {rest : List Oper} {o : Oper} {a : Act} {Q : Exit → Act → World → Prop}
    (hg : o.guard = none) (m : Operand) (t : TypeId) (hop : o.op = Op.call { callee := Callee.builtin Builtin.len, args := #[m], argTypes := #[t] }) (ht : Tryz.prog.underlying t = some (.map 119 4)) (b n : Nat) (S : List (Int × Int))
    (hm : a.eval m = .map (some b)) (hs : SetAt w b n S) (r : Nat) (hr : (sortF S).length = r)
    (hK : wpList Tryz.prog ops Q rest (a.put o.dst (.int .i64 r)) w) :
    wpList Tryz.prog ops Q (o :: rest) a w := by
  obtain ⟨D, ho, _, _, hd⟩ := hs
  refine wpList_len_own w hg m t hop 119 4 ht _ b n D hm ho ?_
  rw [hd, hr]
  exact hK

theorem okF_of_ctx {x : Int × Int} (h1 : atomB x.1 = true) (h2 : holeB x.2 = true) : okF x := by
  simp only [atomB, holeB, decide_eq_true_eq] at h1 h2
  exact ⟨WalkArith.wf_i64 (n := x.1) ⟨by omega, by omega⟩, WalkArith.wf_i64 (n := x.2) ⟨by omega, by omega⟩⟩

end Go.Proofs.YtlhjgjfnmejiaaaGreat
end

section
namespace Go.Proofs.YtlhjgjfnmejiaaaGreat
open Go.RowKit Go.Sort Go.ChangeShapes Go.WideShapes Go.WideMaps Go.Maps
set_option linter.unusedVariables false

end Go.Proofs.YtlhjgjfnmejiaaaGreat
end

