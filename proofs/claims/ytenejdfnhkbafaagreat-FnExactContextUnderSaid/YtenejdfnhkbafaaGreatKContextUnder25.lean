/-
  A set of elements of contexts, as a map of the call's own that gives true for them. The elements of a list are added to a set: a contract.
-/
import Derived.Test.YtenejdfnhkbafaaGreatKContextUnder14
import Derived.Test.YtenejdfnhkbafaaGreatKContextUnder8
import Derived.DeepKeys4
import Derived.MapViews
import Derived.Maps.OwnOps
import Derived.Maps.Views
import Derived.Lib.SmallJoins
section
namespace Go.Proofs.YtenejdfnhkbafaaGreat
open Go.RowKit Go.Sort Go.ChangeShapes Go.WideShapes Go.WideMaps Go.Maps
set_option linter.unusedVariables false

theorem frWide : (match Tryz.prog.underlying 115 with | some (.array _ _) | some (.struct _) => true | _ => false) = true := by rw [Tryz.underlying115]
set_option maxRecDepth 100000 in
theorem frLaw : KeyLaw Tryz.prog 115 := deep_law_laid laidOut (m := 2) (by omega) (of_decide_eq_true (by kernel_rfl)) (by kernel_rfl) frWide
theorem frKeyed : Keyed Tryz.prog 115 := Keyed.of_law frLaw
theorem frDeep : Tryz.prog.keyTypeAt (Tryz.prog.types.size + 1) 115 = true := by kernel_rfl
theorem frCells2 : Tryz.prog.cellsOf 115 = 2 := by kernel_rfl
theorem frFormed (a b : Value) : (Value.agg #[a, b]).formed Tryz.prog 115 = true := by simp [Value.formed, Tryz.underlying115, frCells2]
theorem boolZero (w : World) : (zeroValue 4).run Tryz.prog w = .ok (.bool false) w := by kernel_rfl

def frD (x : Int × Int) : DataW Unit := .agg [.lit (.int .i64 x.1), .lit (.int .i64 x.2)]
def keyF (x : Int × Int) : Lit := (frD x).asKey
def frV (x : Int × Int) : Value := .agg #[.int .i64 x.1, .int .i64 x.2]
def okF (x : Int × Int) : Prop := (Lit.int .i64 x.1).wf = true ∧ (Lit.int .i64 x.2).wf = true

set_option maxRecDepth 100000 in
theorem keyF_of (w : World) {x : Int × Int} (h : okF x) : keyOf Tryz.prog 115 (frV x) = some (keyF x) := by
  have ht := Go.Joins.shut_agg2 (enc := fun _ => ()) (P := Tryz.prog) (w := w) (base := 0) (spare := fun _ => true) (held := true) (v0 := .int .i64 x.1) (v1 := .int .i64 x.2) (y0 := (.lit (.int .i64 x.1), [])) (y1 := (.lit (.int .i64 x.2), [])) Tryz.underlying115 (by kernel_rfl) frCells2
    ⟨1, by simp [DataW.trod, Tryz.underlying3, h.1]⟩ ⟨1, by simp [DataW.trod, Tryz.underlying3, h.2]⟩
  exact (keyOf_asKey frDeep frWide (frFormed _ _) ht).1

set_option maxRecDepth 100000 in
theorem keyF_inj (w : World) {x y : Int × Int} (hx : okF x) (hy : okF y) (h : keyF x = keyF y) : x = y := by
  have h1 := keyF_of w hx
  rw [h] at h1
  have h2 := frKeyed.inj h1 (keyF_of w hy)
  obtain ⟨a, b⟩ := x
  obtain ⟨c, d⟩ := y
  simpa [frV] using h2

theorem plainElem_bool_inv {H : Type} {P : Program} {e : TypeId} {v : Value} {z : DataW H × List MemPlace} (he : P.underlying e = some .bool) (h : plainElem P e v = some z) : ∃ x, v = .bool x ∧ z = (.lit (.bool x), []) := by
  unfold plainElem at h
  rw [he] at h
  cases v <;> simp at h
  exact ⟨_, rfl, h.symm⟩

/-- Block b is a map of at most n keys, exactly the elements of S, and gives true for them. -/
def SetAt (w : World) (b n : Nat) (S : List (Int × Int)) : Prop :=
  ∃ D : DataW Unit, w.ownsMap Tryz.prog 115 (plainElem Tryz.prog 4) b n D ∧ (∀ x, okF x → D.atKey (keyF x) (.lit (.bool false)) = .lit (.bool (decide (x ∈ S)))) ∧ (∀ x, okF x → has D (keyF x) = hasF S x) ∧ size D = (sortF S).length

theorem setAt_made (w : World) : SetAt (w.alloc (.map #[] 0)) w.heap.size 0 [] :=
  ⟨.map [], World.ownsMap_made w _ _ _, fun x _ => by simp [DataW.atKey], fun x _ => by simp [has_eq, hasF], rfl⟩

theorem SetAt.kept {w w' : World} {b n : Nat} {S : List (Int × Int)} {row : Option Nat} (h : SetAt w b n S) (hg : w.grownBy w' row) (hne : some b ≠ row) : SetAt w' b n S := by
  obtain ⟨D, ho, hd⟩ := h
  exact ⟨D, ho.kept hg hne, hd⟩
theorem SetAt.alloc {w : World} {b n : Nat} {S : List (Int × Int)} (h : SetAt w b n S) (o : Obj) : SetAt (w.alloc o) b n S := h.kept (World.grownBy_alloc w o none) (by simp)
theorem SetAt.lt {w : World} {b n : Nat} {S : List (Int × Int)} (h : SetAt w b n S) : b < w.heap.size := by
  obtain ⟨D, ho, _⟩ := h
  exact ho.lt
theorem SetAt.below {w w' : World} {b n : Nat} {S : List (Int × Int)} (h : SetAt w b n S) (hb : Below w.heap.size w w') : SetAt w' b n S :=
  h.kept (grown_of_below hb none) (by simp)
theorem SetAt.noCell {w : World} {b n : Nat} {S : List (Int × Int)} (h : SetAt w b n S) {g o : Nat} {v : Value} (hc : w.cell? ⟨g, o, none⟩ = some v) : g ≠ b := by
  rintro rfl
  obtain ⟨D, ⟨es, clock, hb, _⟩, _⟩ := h
  simp [World.cell?, hb] at hc

theorem SetAt.put_ {D : DataW Unit} {S : List (Int × Int)} {x0 : Int × Int} (w : World) (hT : Tidy D) (hm : IsMap D) (hok : okF x0) (h : (∀ x, okF x → D.atKey (keyF x) (.lit (.bool false)) = .lit (.bool (decide (x ∈ S)))) ∧ (∀ x, okF x → has D (keyF x) = hasF S x) ∧ size D = (sortF S).length) :
    (∀ x, okF x → (D.put (keyF x0) (.lit (.bool true))).atKey (keyF x) (.lit (.bool false)) = .lit (.bool (decide (x ∈ S ++ [x0])))) ∧ (∀ x, okF x → has (D.put (keyF x0) (.lit (.bool true))) (keyF x) = hasF (S ++ [x0]) x) ∧ size (D.put (keyF x0) (.lit (.bool true))) = (sortF (S ++ [x0])).length := by
  obtain ⟨h1, h2, h3⟩ := h
  refine ⟨fun x hx => ?_, fun x hx => ?_, ?_⟩
  · by_cases e : x = x0
    · subst e
      rw [atKey_put_same hm (frKeyed.key (keyF_of w hok))]
      simp
    · rw [atKey_put_other (fun h' => e (keyF_inj w hx hok h')), h1 x hx]
      simp [e]
  · by_cases e : x = x0
    · subst e
      rw [has_put_same hm (frKeyed.key (keyF_of w hok))]
      simp [hasF]
    · rw [has_put_other (fun h' => e (keyF_inj w hx hok h')), h2 x hx]
      simp [hasF, e]
  · rw [size_put hT, h2 x0 hok, sortF_snoc, putF_len, h3]
    have e : hasF (sortF S) x0 = hasF S x0 := by
      by_cases hh : hasF S x0 = true
      · rw [hh]; exact hasF_iff.2 (mem_sortF.2 (hasF_iff.1 hh))
      · have hf : hasF S x0 = false := by simpa using hh
        rw [hf]; exact hasF_not.2 (fun hm => hasF_not.1 hf (mem_sortF.1 hm))
    rw [e]

theorem wpList_mapUpdate_set (w : World) {ops : Array Oper} {rest : List Oper} {o : Oper} {a : Act} {Q : Exit → Act → World → Prop}
    (hg : o.guard = none) (m x v : Operand) (t : TypeId) (hop : o.op = Op.mapUpdate t m x v) (ht : Tryz.prog.underlying t = some (.map 115 4)) (b n : Nat) (S : List (Int × Int))
    (hm : a.eval m = .map (some b)) (hs : SetAt w b n S) (hn : n < maxLen) (x0 : Int × Int) (hx : a.eval x = frV x0) (hok : okF x0) (hv : a.eval v = .bool true)
    (hK : ∀ w', SetAt w' b (n + 1) (S ++ [x0]) → w.grownBy w' (some b) → wpList Tryz.prog ops Q rest (a.put o.dst undef) w') :
    wpList Tryz.prog ops Q (o :: rest) a w := by
  obtain ⟨D, ho, hd⟩ := hs
  exact wpList_mapUpdate_own w hg m x v t hop _ _ frKeyed ht _ b n D hm ho hn (frV x0) (.bool true) (keyF x0) hx hv (keyF_of w hok) (.lit (.bool true)) [] (plainElem_bool Tryz.underlying4 true)
    (fun w' h1 h2 => hK w' ⟨_, h1, SetAt.put_ w (ho.tidy frKeyed) ho.isMap hok hd⟩ h2)

theorem wpList_lookup_set (w : World) {ops : Array Oper} {rest : List Oper} {o : Oper} {a : Act} {Q : Exit → Act → World → Prop}
    (hg : o.guard = none) (m x : Operand) (t : TypeId) (hop : o.op = Op.lookup t m x false) (ht : Tryz.prog.underlying t = some (.map 115 4)) (b n : Nat) (S : List (Int × Int))
    (hm : a.eval m = .map (some b)) (hs : SetAt w b n S) (x0 : Int × Int) (hx : a.eval x = frV x0) (hok : okF x0) (r : Bool) (hr : r = decide (x0 ∈ S))
    (hK : wpList Tryz.prog ops Q rest (a.put o.dst (.bool r)) w) :
    wpList Tryz.prog ops Q (o :: rest) a w := by
  obtain ⟨D, ho, hd, _, _⟩ := hs
  refine wpList_plain hg fun K' hK' => ?_
  obtain ⟨v, ps, hrun, hv⟩ := ho.lookup frKeyed ht (boolZero w) (plainElem_bool Tryz.underlying4 false) (keyF_of w hok)
  rw [hd x0 hok] at hv
  obtain ⟨c, rfl, hc⟩ := plainElem_bool_inv Tryz.underlying4 hv
  simp only [Prod.mk.injEq, DataW.lit.injEq, Lit.bool.injEq] at hc
  have e : c = r := by rw [hr]; exact hc.1.symm
  subst e
  unfold Oper.wp
  simp [execOp, hop, hm, hx, hrun, Result.andThen]
  exact hK' _ _ hK

theorem wpList_len_set (w : World) {ops : Array Oper} {rest : List Oper} {o : Oper} {a : Act} {Q : Exit → Act → World → Prop}
    (hg : o.guard = none) (m : Operand) (t : TypeId) (hop : o.op = Op.call { callee := Callee.builtin Builtin.len, args := #[m], argTypes := #[t] }) (ht : Tryz.prog.underlying t = some (.map 115 4)) (b n : Nat) (S : List (Int × Int))
    (hm : a.eval m = .map (some b)) (hs : SetAt w b n S) (r : Nat) (hr : (sortF S).length = r)
    (hK : wpList Tryz.prog ops Q rest (a.put o.dst (.int .i64 r)) w) :
    wpList Tryz.prog ops Q (o :: rest) a w := by
  obtain ⟨D, ho, _, _, hd⟩ := hs
  refine wpList_len_own w hg m t hop 115 4 ht _ b n D hm ho ?_
  rw [hd, hr]
  exact hK

theorem okF_of_ctx {x : Int × Int} (h1 : atomB x.1 = true) (h2 : holeB x.2 = true) : okF x := by
  simp only [atomB, holeB, decide_eq_true_eq] at h1 h2
  exact ⟨WalkArith.wf_i64 (n := x.1) ⟨by omega, by omega⟩, WalkArith.wf_i64 (n := x.2) ⟨by omega, by omega⟩⟩

end Go.Proofs.YtenejdfnhkbafaaGreat
end

section
namespace Go.Proofs.YtenejdfnhkbafaaGreat
open Go.RowKit Go.Sort Go.ChangeShapes Go.WideShapes Go.WideMaps Go.Maps
set_option linter.unusedVariables false

theorem take_snoc (l : List (Int × Int)) (k : Nat) (h : k < l.length) : l.take (k + 1) = l.take k ++ [prAt l k] := by
  rw [List.take_succ_eq_append_getElem h]
  simp [prAt, h]

set_option maxRecDepth 100000 in
set_option maxHeartbeats 1000000 in
/-- The elements of a list are added to a set. -/
theorem addAll_any (A : Option Addr) (c b n : Nat) (l S : List (Int × Int)) (w : World) (hA : PairsAt w A l) (hs : SetAt w b n S) (hok : ∀ i, i < l.length → okF (prAt l i)) (hn : n + l.length ≤ 1099511627776) :
    Calls Tryz.prog 165 #[.map (some b), .slice A l.length c] w fun e w' => e = .returned (.tuple #[]) ∧ SetAt w' b (n + l.length) (S ++ l) ∧ w.grownBy w' (some b) := by
  have hg0 : w.grownBy w (some b) := grown_of_below (Below.refl _ _) _
  go_enter Tryz.func165, Tryz.ntmps165
  go_wp2
  go_loopw [8] (fun i wr => ∃ k : Nat, k ≤ l.length ∧ i = .int .i64 k ∧ SetAt wr b (n + k) (S ++ l.take k) ∧ w.grownBy wr (some b)) (fun i _ => l.length - (intOf i).toNat)
  case atStart => exact ⟨0, Nat.zero_le _, rfl, by simpa using hs, hg0⟩
  case round =>
    obtain ⟨k, hk, rfl, hsk, hg⟩ := hrel
    by_cases hlt : k < l.length
    · obtain ⟨b1, o1, rfl, hb1, hc1⟩ := hA (by omega)
      obtain ⟨c1, c2⟩ := hc1 k hlt
      have hne := hs.noCell c1
      have d1 := hg.cell c1 (fun e => hne (by injection e))
      have d2 := hg.cell c2 (fun e => hne (by injection e))
      have hokk := hok k hlt
      have hts := Lib.hid (take_snoc l k hlt)
      have hsa := hsk.alloc (.cells #[.int .i64 (prAt l k).1, .int .i64 (prAt l k).2] 115)
      have hga : wr.grownBy (wr.alloc (.cells #[.int .i64 (prAt l k).1, .int .i64 (prAt l k).2] 115)) (some b) := World.grownBy_alloc wr _ _
      have hn2 : n + k < maxLen := by unfold maxLen; omega
      clear hc1 hA hs hsk c1 c2 hg0 hok
      go_wp2_with (at_mapUpdate; refine wpList_mapUpdate_set _ rfl _ _ _ 121 rfl Tryz.underlying121 b (n + k) (S ++ l.take k) rfl hsa hn2 (prAt l k) rfl hokk rfl ?_)
      intro w2 hs2 hg2
      have hs3 : SetAt w2 b (n + (k + 1)) (S ++ l.take (k + 1)) := by
        rw [hts.out]
        exact hs2
      have hg3 : w.grownBy w2 (some b) := grownBy_trans hg (grownBy_trans hga hg2)
      clear hs2 hg2 hga hsa hg d1 d2
      go_wp2
      refine ⟨⟨k + 1, by omega, by go_num, hs3, hg3⟩, ?_⟩
      simp only [intOf]
      omega
    · have e : k = l.length := by omega
      have hfin : SetAt wr b (n + l.length) (S ++ l) := by
        rw [← List.take_of_length_le (show l.length ≤ k by omega)]
        rw [e] at hsk ⊢
        simpa using hsk
      clear hsk hs hA
      go_wp2
      go_end0
      exact ⟨rfl, hfin, hg⟩

end Go.Proofs.YtenejdfnhkbafaaGreat
end

