/-
  A set of elements of contexts, as a map of the call's own that gives true for them. The elements of a list are added to a set: a contract. IncludesContext in the program, as a contract. IncludesContext in the program, as a contract.
-/
import Derived.Test.YtbfkfklaplgebaaGreatKHoldsFor20
import Derived.Test.YtbfkfklaplgebaaGreatKHoldsFor8
import Derived.DeepKeys4
import Derived.MapViews
import Derived.Maps.OwnOps
import Derived.Maps.Views
import Derived.Lib.SmallJoins
import Derived.Carry
section
namespace Go.Proofs.YtbfkfklaplgebaaGreat
open Go.RowKit Go.Sort Go.ChangeShapes Go.WideShapes Go.WideMaps Go.Maps
set_option linter.unusedVariables false

theorem frWide : (match Tryz.prog.underlying 102 with | some (.array _ _) | some (.struct _) => true | _ => false) = true := by rw [Tryz.underlying102]
set_option maxRecDepth 100000 in
theorem frLaw : KeyLaw Tryz.prog 102 := deep_law_laid laidOut (m := 2) (by omega) (of_decide_eq_true (by kernel_rfl)) (by kernel_rfl) frWide
theorem frKeyed : Keyed Tryz.prog 102 := Keyed.of_law frLaw
theorem frDeep : Tryz.prog.keyTypeAt (Tryz.prog.types.size + 1) 102 = true := by kernel_rfl
theorem frCells2 : Tryz.prog.cellsOf 102 = 2 := by kernel_rfl
theorem frFormed (a b : Value) : (Value.agg #[a, b]).formed Tryz.prog 102 = true := by simp [Value.formed, Tryz.underlying102, frCells2]
theorem boolZero (w : World) : (zeroValue 4).run Tryz.prog w = .ok (.bool false) w := by kernel_rfl

def frD (x : Int × Int) : DataW Unit := .agg [.lit (.int .i64 x.1), .lit (.int .i64 x.2)]
def keyF (x : Int × Int) : Lit := (frD x).asKey
def frV (x : Int × Int) : Value := .agg #[.int .i64 x.1, .int .i64 x.2]
def okF (x : Int × Int) : Prop := (Lit.int .i64 x.1).wf = true ∧ (Lit.int .i64 x.2).wf = true

set_option maxRecDepth 100000 in
theorem keyF_of (w : World) {x : Int × Int} (h : okF x) : keyOf Tryz.prog 102 (frV x) = some (keyF x) := by
  have ht := Go.Joins.shut_agg2 (enc := fun _ => ()) (P := Tryz.prog) (w := w) (base := 0) (spare := fun _ => true) (held := true) (v0 := .int .i64 x.1) (v1 := .int .i64 x.2) (y0 := (.lit (.int .i64 x.1), [])) (y1 := (.lit (.int .i64 x.2), [])) Tryz.underlying102 (by kernel_rfl) frCells2
    ⟨1, by simp [DataW.trod, Tryz.underlying3, h.1]⟩ ⟨1, by simp [DataW.trod, Tryz.underlying3, h.2]⟩
  exact (keyOf_asKey frDeep frWide (frFormed _ _) ht).1

set_option maxRecDepth 100000 in
theorem keyF_inj (w : World) {x y : Int × Int} (hx : okF x) (hy : okF y) (h : keyF x = keyF y) : x = y := by
  have h1 := keyF_of w hx
  rw [h] at h1
  have h2 := frKeyed.inj h1 (keyF_of w hy)
  obtain ⟨a, b⟩ := x
  obtain ⟨c, d⟩ := y
  simpa [frV] using h2

theorem plainElem_bool_inv {H : Type} {P : Program} {e : TypeId} {v : Value} {z : DataW H × List MemPlace} (he : P.underlying e = some .bool) (h : plainElem P e v = some z) : ∃ x, v = .bool x ∧ z = (.lit (.bool x), []) := by
  unfold plainElem at h
  rw [he] at h
  cases v <;> simp at h
  exact ⟨_, rfl, h.symm⟩

/-- Block b is a map of at most n keys, exactly the elements of S, and gives true for them. -/
def SetAt (w : World) (b n : Nat) (S : List (Int × Int)) : Prop :=
  ∃ D : DataW Unit, w.ownsMap Tryz.prog 102 (plainElem Tryz.prog 4) b n D ∧ (∀ x, okF x → D.atKey (keyF x) (.lit (.bool false)) = .lit (.bool (decide (x ∈ S)))) ∧ (∀ x, okF x → has D (keyF x) = hasF S x) ∧ size D = (sortF S).length

theorem setAt_made (w : World) : SetAt (w.alloc (.map #[] 0)) w.heap.size 0 [] :=
  ⟨.map [], World.ownsMap_made w _ _ _, fun x _ => by simp [DataW.atKey], fun x _ => by simp [has_eq, hasF], rfl⟩

theorem SetAt.kept {w w' : World} {b n : Nat} {S : List (Int × Int)} {row : Option Nat} (h : SetAt w b n S) (hg : w.grownBy w' row) (hne : some b ≠ row) : SetAt w' b n S := by
  obtain ⟨D, ho, hd⟩ := h
  exact ⟨D, ho.kept hg hne, hd⟩
theorem SetAt.alloc {w : World} {b n : Nat} {S : List (Int × Int)} (h : SetAt w b n S) (o : Obj) : SetAt (w.alloc o) b n S := h.kept (World.grownBy_alloc w o none) (by simp)
theorem SetAt.lt {w : World} {b n : Nat} {S : List (Int × Int)} (h : SetAt w b n S) : b < w.heap.size := by
  obtain ⟨D, ho, _⟩ := h
  exact ho.lt
theorem SetAt.below {w w' : World} {b n : Nat} {S : List (Int × Int)} (h : SetAt w b n S) (hb : Below w.heap.size w w') : SetAt w' b n S :=
  h.kept (grown_of_below hb none) (by simp)
theorem SetAt.noCell {w : World} {b n : Nat} {S : List (Int × Int)} (h : SetAt w b n S) {g o : Nat} {v : Value} (hc : w.cell? ⟨g, o, none⟩ = some v) : g ≠ b := by
  rintro rfl
  obtain ⟨D, ⟨es, clock, hb, _⟩, _⟩ := h
  simp [World.cell?, hb] at hc

theorem SetAt.put_ {D : DataW Unit} {S : List (Int × Int)} {x0 : Int × Int} (w : World) (hT : Tidy D) (hm : IsMap D) (hok : okF x0) (h : (∀ x, okF x → D.atKey (keyF x) (.lit (.bool false)) = .lit (.bool (decide (x ∈ S)))) ∧ (∀ x, okF x → has D (keyF x) = hasF S x) ∧ size D = (sortF S).length) :
    (∀ x, okF x → (D.put (keyF x0) (.lit (.bool true))).atKey (keyF x) (.lit (.bool false)) = .lit (.bool (decide (x ∈ S ++ [x0])))) ∧ (∀ x, okF x → has (D.put (keyF x0) (.lit (.bool true))) (keyF x) = hasF (S ++ [x0]) x) ∧ size (D.put (keyF x0) (.lit (.bool true))) = (sortF (S ++ [x0])).length := by
  obtain ⟨h1, h2, h3⟩ := h
  refine ⟨fun x hx => ?_, fun x hx => ?_, ?_⟩
  · by_cases e : x = x0
    · subst e
      rw [atKey_put_same hm (frKeyed.key (keyF_of w hok))]
      simp
    · rw [atKey_put_other (fun h' => e (keyF_inj w hx hok h')), h1 x hx]
      simp [e]
  · by_cases e : x = x0
    · subst e
      rw [has_put_same hm (frKeyed.key (keyF_of w hok))]
      simp [hasF]
    · rw [has_put_other (fun h' => e (keyF_inj w hx hok h')), h2 x hx]
      simp [hasF, e]
  · rw [size_put hT, h2 x0 hok, sortF_snoc, putF_len, h3]
    have e : hasF (sortF S) x0 = hasF S x0 := by
      by_cases hh : hasF S x0 = true
      · rw [hh]; exact hasF_iff.2 (mem_sortF.2 (hasF_iff.1 hh))
      · have hf : hasF S x0 = false := by simpa using hh
        rw [hf]; exact hasF_not.2 (fun hm => hasF_not.1 hf (mem_sortF.1 hm))
    rw [e]

theorem wpList_mapUpdate_set (w : World) {ops : Array Oper} {rest : List Oper} {o : Oper} {a : Act} {Q : Exit → Act → World → Prop}
    (hg : o.guard = none) (m x v : Operand) (t : TypeId) (hop : o.op = Op.mapUpdate t m x v) (ht : Tryz.prog.underlying t = some (.map 102 4)) (b n : Nat) (S : List (Int × Int))
    (hm : a.eval m = .map (some b)) (hs : SetAt w b n S) (hn : n < maxLen) (x0 : Int × Int) (hx : a.eval x = frV x0) (hok : okF x0) (hv : a.eval v = .bool true)
    (hK : ∀ w', SetAt w' b (n + 1) (S ++ [x0]) → w.grownBy w' (some b) → wpList Tryz.prog ops Q rest (a.put o.dst undef) w') :
    wpList Tryz.prog ops Q (o :: rest) a w := by
  obtain ⟨D, ho, hd⟩ := hs
  exact wpList_mapUpdate_own w hg m x v t hop _ _ frKeyed ht _ b n D hm ho hn (frV x0) (.bool true) (keyF x0) hx hv (keyF_of w hok) (.lit (.bool true)) [] (plainElem_bool Tryz.underlying4 true)
    (fun w' h1 h2 => hK w' ⟨_, h1, SetAt.put_ w (ho.tidy frKeyed) ho.isMap hok hd⟩ h2)

theorem wpList_lookup_set (w : World) {ops : Array Oper} {rest : List Oper} {o : Oper} {a : Act} {Q : Exit → Act → World → Prop}
    (hg : o.guard = none) (m x : Operand) (t : TypeId) (hop : o.op = Op.lookup t m x false) (ht : Tryz.prog.underlying t = some (.map 102 4)) (b n : Nat) (S : List (Int × Int))
    (hm : a.eval m = .map (some b)) (hs : SetAt w b n S) (x0 : Int × Int) (hx : a.eval x = frV x0) (hok : okF x0) (r : Bool) (hr : r = decide (x0 ∈ S))
    (hK : wpList Tryz.prog ops Q rest (a.put o.dst (.bool r)) w) :
    wpList Tryz.prog ops Q (o :: rest) a w := by
  obtain ⟨D, ho, hd, _, _⟩ := hs
  refine wpList_plain hg fun K' hK' => ?_
  obtain ⟨v, ps, hrun, hv⟩ := ho.lookup frKeyed ht (boolZero w) (plainElem_bool Tryz.underlying4 false) (keyF_of w hok)
  rw [hd x0 hok] at hv
  obtain ⟨c, rfl, hc⟩ := plainElem_bool_inv Tryz.underlying4 hv
  simp only [Prod.mk.injEq, DataW.lit.injEq, Lit.bool.injEq] at hc
  have e : c = r := by rw [hr]; exact hc.1.symm
  subst e
  unfold Oper.wp
  simp [execOp, hop, hm, hx, hrun, Result.andThen]
  exact hK' _ _ hK

theorem wpList_len_set (w : World) {ops : Array Oper} {rest : List Oper} {o : Oper} {a : Act} {Q : Exit → Act → World → Prop}
    (hg : o.guard = none) (m : Operand) (t : TypeId) (hop : o.op = Op.call { callee := Callee.builtin Builtin.len, args := #[m], argTypes := #[t] }) (ht : Tryz.prog.underlying t = some (.map 102 4)) (b n : Nat) (S : List (Int × Int))
    (hm : a.eval m = .map (some b)) (hs : SetAt w b n S) (r : Nat) (hr : (sortF S).length = r)
    (hK : wpList Tryz.prog ops Q rest (a.put o.dst (.int .i64 r)) w) :
    wpList Tryz.prog ops Q (o :: rest) a w := by
  obtain ⟨D, ho, _, _, hd⟩ := hs
  refine wpList_len_own w hg m t hop 102 4 ht _ b n D hm ho ?_
  rw [hd, hr]
  exact hK

theorem okF_of_ctx {x : Int × Int} (h1 : atomB x.1 = true) (h2 : holeB x.2 = true) : okF x := by
  simp only [atomB, holeB, decide_eq_true_eq] at h1 h2
  exact ⟨WalkArith.wf_i64 (n := x.1) ⟨by omega, by omega⟩, WalkArith.wf_i64 (n := x.2) ⟨by omega, by omega⟩⟩

end Go.Proofs.YtbfkfklaplgebaaGreat
end

section
namespace Go.Proofs.YtbfkfklaplgebaaGreat
open Go.RowKit Go.Sort Go.ChangeShapes Go.WideShapes Go.WideMaps Go.Maps
set_option linter.unusedVariables false

theorem take_snoc (l : List (Int × Int)) (k : Nat) (h : k < l.length) : l.take (k + 1) = l.take k ++ [prAt l k] := by
  rw [List.take_succ_eq_append_getElem h]
  simp [prAt, h]

set_option maxRecDepth 100000 in
set_option maxHeartbeats 1000000 in
/-- The elements of a list are added to a set. -/
theorem addAll_any (A : Option Addr) (c b n : Nat) (l S : List (Int × Int)) (w : World) (hA : PairsAt w A l) (hs : SetAt w b n S) (hok : ∀ i, i < l.length → okF (prAt l i)) (hn : n + l.length ≤ 1099511627776) :
    Calls Tryz.prog 130 #[.map (some b), .slice A l.length c] w fun e w' => e = .returned (.tuple #[]) ∧ SetAt w' b (n + l.length) (S ++ l) ∧ w.grownBy w' (some b) := by
  have hg0 : w.grownBy w (some b) := grown_of_below (Below.refl _ _) _
  go_enter Tryz.func130, Tryz.ntmps130
  go_wp2
  go_loopw [8] (fun i wr => ∃ k : Nat, k ≤ l.length ∧ i = .int .i64 k ∧ SetAt wr b (n + k) (S ++ l.take k) ∧ w.grownBy wr (some b)) (fun i _ => l.length - (intOf i).toNat)
  case atStart => exact ⟨0, Nat.zero_le _, rfl, by simpa using hs, hg0⟩
  case round =>
    obtain ⟨k, hk, rfl, hsk, hg⟩ := hrel
    by_cases hlt : k < l.length
    · obtain ⟨b1, o1, rfl, hb1, hc1⟩ := hA (by omega)
      obtain ⟨c1, c2⟩ := hc1 k hlt
      have hne := hs.noCell c1
      have d1 := hg.cell c1 (fun e => hne (by injection e))
      have d2 := hg.cell c2 (fun e => hne (by injection e))
      have hokk := hok k hlt
      have hts := Lib.hid (take_snoc l k hlt)
      have hsa := hsk.alloc (.cells #[.int .i64 (prAt l k).1, .int .i64 (prAt l k).2] 102)
      have hga : wr.grownBy (wr.alloc (.cells #[.int .i64 (prAt l k).1, .int .i64 (prAt l k).2] 102)) (some b) := World.grownBy_alloc wr _ _
      have hn2 : n + k < maxLen := by unfold maxLen; omega
      clear hc1 hA hs hsk c1 c2 hg0 hok
      go_wp2_with (at_mapUpdate; refine wpList_mapUpdate_set _ rfl _ _ _ 98 rfl Tryz.underlying98 b (n + k) (S ++ l.take k) rfl hsa hn2 (prAt l k) rfl hokk rfl ?_)
      intro w2 hs2 hg2
      have hs3 : SetAt w2 b (n + (k + 1)) (S ++ l.take (k + 1)) := by
        rw [hts.out]
        exact hs2
      have hg3 : w.grownBy w2 (some b) := grownBy_trans hg (grownBy_trans hga hg2)
      clear hs2 hg2 hga hsa hg d1 d2
      go_wp2
      refine ⟨⟨k + 1, by omega, by go_num, hs3, hg3⟩, ?_⟩
      simp only [intOf]
      omega
    · have e : k = l.length := by omega
      have hfin : SetAt wr b (n + l.length) (S ++ l) := by
        rw [← List.take_of_length_le (show l.length ≤ k by omega)]
        rw [e] at hsk ⊢
        simpa using hsk
      clear hsk hs hA
      go_wp2
      go_end0
      exact ⟨rfl, hfin, hg⟩

end Go.Proofs.YtbfkfklaplgebaaGreat
end

section
namespace Go.Proofs.YtbfkfklaplgebaaGreat
open Go.RowKit Go.Sort Go.ChangeShapes Go.WideShapes Go.WideMaps Go.Maps
set_option linter.unusedVariables false

def allIn (S l : List (Int × Int)) : Bool := (List.range l.length).all fun i => hasF S (prAt l i)
def inclB (l part : List (Int × Int)) : Bool := ctxB l && (ctxB part && allIn l part)

theorem allIn_no {S l : List (Int × Int)} {i : Nat} (hi : i < l.length) (h : hasF S (prAt l i) = false) : allIn S l = false := by
  unfold allIn
  rw [List.all_eq_false]
  exact ⟨i, List.mem_range.2 hi, by simp [h]⟩

theorem allIn_yes {S l : List (Int × Int)} (h : ∀ j, j < l.length → hasF S (prAt l j) = true) : allIn S l = true := by
  unfold allIn
  rw [List.all_eq_true]
  exact fun x hx => h x (List.mem_range.1 hx)

theorem okF_at {l : List (Int × Int)} (h : ctxB l = true) (i : Nat) (hi : i < l.length) : okF (prAt l i) := by
  unfold ctxB rightB at h
  rw [Bool.and_eq_true, List.all_eq_true] at h
  have h1 := h.2 i (List.mem_range.2 hi)
  unfold ctxAt at h1
  rw [Bool.and_eq_true, Bool.and_eq_true] at h1
  exact okF_of_ctx h1.1 h1.2.1

/-- The function literal: whether an element is not in the set. -/
theorem missing_any (V b n : Nat) (S : List (Int × Int)) (x : Int × Int) (r : Bool) (hr : r = hasF S x) (w : World) (hV : w.cell? ⟨V, 0, none⟩ = some (.map (some b))) (hs : SetAt w b n S) (hok : okF x) :
    Calls Tryz.prog 132 #[.agg #[.int .i64 x.1, .int .i64 x.2], .pointer (some ⟨V, 0, none⟩)] w fun e w' => e = .returned (.bool (!r)) ∧ Below w.heap.size w w' := by
  have hb : Below w.heap.size w (w.alloc (.cells #[.int .i64 x.1, .int .i64 x.2] 102)) := (Below.refl _ _).alloc (Nat.le_refl _) _
  have hsa := hs.alloc (.cells #[.int .i64 x.1, .int .i64 x.2] 102)
  have hVl : V < w.heap.size := block_lt_of_cell hV
  clear hs
  go_enter Tryz.func132, Tryz.ntmps132
  go_wp2_with (at_lookup; refine wpList_lookup_set _ rfl _ _ 98 rfl Tryz.underlying98 b n S rfl hsa x rfl hok r hr ?_)
  go_ret
  exact ⟨bool_end (by rw [hr]), hb⟩

set_option maxRecDepth 100000 in
set_option maxHeartbeats 1000000 in
theorem indexMissing_any (A : Option Addr) (c V b n : Nat) (S l : List (Int × Int)) (w : World) (hA : PairsAt w A l) (hV : w.cell? ⟨V, 0, none⟩ = some (.map (some b))) (hs : SetAt w b n S) (hok : ∀ i, i < l.length → okF (prAt l i)) (hl : l.length ≤ 1099511627776) :
    Calls Tryz.prog 161 #[.slice A l.length c, .func (.func 132) #[] #[.pointer (some ⟨V, 0, none⟩)]] w
      fun e w' => (∃ i : Int, e = .returned (.int .i64 i) ∧ ((0 ≤ i ∧ allIn S l = false) ∨ (i < 0 ∧ allIn S l = true))) ∧ Below w.heap.size w w' := by
  have hVl : V < w.heap.size := block_lt_of_cell hV
  go_enter Tryz.func161, Tryz.ntmps161
  go_wp2
  go_loopw [5, 8] (fun _ i wr => ∃ k : Nat, k ≤ l.length ∧ i = .int .i64 k ∧ Hid (∀ j, j < k → hasF S (prAt l j) = true) ∧ Below w.heap.size w wr) (fun _ i _ => l.length - (intOf i).toNat)
  case atStart => exact ⟨0, Nat.zero_le _, rfl, fun j hj => absurd hj (by omega), Below.refl _ _⟩
  case round =>
    obtain ⟨k, hk, rfl, hq, hb⟩ := hrel
    by_cases hlt : k < l.length
    · obtain ⟨b1, o1, rfl, hb1, hc1⟩ := hA (by omega)
      obtain ⟨c1, c2⟩ := hc1 k hlt
      rw [← hb.cell (p := ⟨b1, _, none⟩) hb1] at c1 c2
      have hV2 := (hb.cell (p := ⟨V, 0, none⟩) hVl).trans hV
      by_cases hx : hasF S (prAt l k) = true
      · have hcall := missing_any V b n S (prAt l k) true hx.symm wr hV2 (hs.below hb) (hok k hlt)
        have hn : Hid (∀ j, j < k + 1 → hasF S (prAt l j) = true) := ctx_next hq.out hx
        clear hc1 hA hV hV2 hs hok hq hx
        generalize prAt l k = p1 at c1 c2 hcall
        go_wp2_with (go_at_call 132; refine hcall.mono ?_; rintro e w2 ⟨rfl, hb2⟩)
        have hb3 := hb.trans (hb2.mono hb.size)
        clear hcall c1 c2
        refine ⟨⟨k + 1, by omega, by go_num, hn, hb3⟩, ?_⟩
        simp only [intOf]
        omega
      · have hx' : hasF S (prAt l k) = false := by simpa using hx
        have hcall := missing_any V b n S (prAt l k) false hx'.symm wr hV2 (hs.below hb) (hok k hlt)
        have hn : Hid (allIn S l = false) := allIn_no hlt hx'
        clear hc1 hA hV hV2 hs hok hq hx hx'
        generalize prAt l k = p1 at c1 c2 hcall
        go_wp2_with (go_at_call 132; refine hcall.mono ?_; rintro e w2 ⟨rfl, hb2⟩)
        have hb3 := hb.trans (hb2.mono hb.size)
        clear hcall c1 c2
        go_ret
        exact ⟨⟨_, rfl, Or.inl ⟨by omega, hn.out⟩⟩, hb3⟩
    · have hn : Hid (allIn S l = true) := allIn_yes fun j hj => hq.out j (by omega)
      clear hq hs hA hV
      go_wp2
      go_ret
      exact ⟨⟨_, rfl, Or.inr ⟨by decide, hn.out⟩⟩, hb⟩

theorem containsMissing_any (A : Option Addr) (c V b n : Nat) (S l : List (Int × Int)) (w : World) (hA : PairsAt w A l) (hV : w.cell? ⟨V, 0, none⟩ = some (.map (some b))) (hs : SetAt w b n S) (hok : ∀ i, i < l.length → okF (prAt l i)) (hl : l.length ≤ 1099511627776) :
    Calls Tryz.prog 131 #[.slice A l.length c, .func (.func 132) #[] #[.pointer (some ⟨V, 0, none⟩)]] w
      fun e w' => e = .returned (.bool (!allIn S l)) ∧ Below w.heap.size w w' := by
  have hi := indexMissing_any A c V b n S l w hA hV hs hok hl
  clear hA hV hs hok
  generalize allIn S l = r at hi ⊢
  go_enter Tryz.func131, Tryz.ntmps131
  go_wp2_with fail
  refine hi.mono ?_
  rintro e w2 ⟨⟨i, rfl, h⟩, hb⟩
  clear hi
  rcases h with ⟨h, rfl⟩ | ⟨h, rfl⟩
  · go_wp2
    go_ret
    exact ⟨rfl, hb⟩
  · have h' : ¬ 0 ≤ i := by omega
    go_wp2
    go_ret
    exact ⟨bool_end (by first | rfl | (simp; omega)), hb⟩

end Go.Proofs.YtbfkfklaplgebaaGreat
end

section
namespace Go.Proofs.YtbfkfklaplgebaaGreat
open Go.RowKit Go.Sort Go.ChangeShapes Go.WideShapes Go.WideMaps Go.Maps
set_option linter.unusedVariables false

set_option maxRecDepth 100000 in
set_option maxHeartbeats 1000000 in
theorem includes_impl (A B : Option Addr) (c d : Nat) (l m : List (Int × Int)) (w : World) (hA : PairsAt w A l) (hB : PairsAt w B m) (hl : l.length ≤ 1048576) (hm : m.length ≤ 1048576) :
    Calls Tryz.prog 78 #[.slice A l.length c, .slice B m.length d] w fun e w' => e = .returned (.bool (inclB l m)) ∧ Below w.heap.size w w' := by
  have h1 := isContext_impl A c l w hA (by omega)
  have h2 := fun W hW => isContext_impl B d m W hW (by omega)
  by_cases k1 : ctxB l = true
  · rw [k1] at h1
    by_cases k2 : ctxB m = true
    · rw [k2] at h2
      have hr : Hid (inclB l m = allIn l m) := by show inclB l m = allIn l m; unfold inclB; rw [k1, k2]; simp
      rw [hr.out]
      have ho1 := Lib.hid (okF_at k1)
      have ho2 := Lib.hid (okF_at k2)
      clear k1 k2 hr
      have hmm := @run_makeMap Tryz.prog
      go_enter Tryz.func78, Tryz.ntmps78
      go_wp2_with fail
      refine h1.mono ?_
      rintro e w1 ⟨rfl, hb1⟩
      have h2' := h2 w1 (hB.below hb1)
      clear h1 h2
      go_wp2_with fail
      refine h2'.mono ?_
      rintro e w2 ⟨rfl, hb2⟩
      have hs2 := hb1.trans (hb2.mono hb1.size)
      clear h2' hb1 hb2
      go_wp2_with fail
      have hbM : Below w.heap.size w ((w2.alloc (.map #[] 0)).alloc (.cells #[.map (some w2.heap.size)] 98)) := (hs2.alloc hs2.size _).alloc (by have := hs2.size; simp; omega) _
      have hsM : SetAt ((w2.alloc (.map #[] 0)).alloc (.cells #[.map (some w2.heap.size)] 98)) w2.heap.size 0 [] := (setAt_made w2).alloc _
      have hVM : (((w2.alloc (.map #[] 0)).alloc (.cells #[.map (some w2.heap.size)] 98)) : World).cell? ⟨w2.heap.size + 1, 0, none⟩ = some (.map (some w2.heap.size)) := by simp
      have hAM := hA.below (hbM.mono (Nat.le_refl _))
      generalize ((w2.alloc (.map #[] 0)).alloc (.cells #[.map (some w2.heap.size)] 98)) = w3 at hbM hsM hVM hAM ⊢
      refine (addAll_any A c w2.heap.size 0 l [] w3 hAM hsM ho1.out (by omega)).mono ?_
      rintro e w4 ⟨rfl, hs4, hg4⟩
      have hb4 : Below w.heap.size w w4 := hbM.grown hg4 hbM.size (fun j hj => by injection hj with hj; have := hs2.size; omega)
      have hV4 := hg4.cell hVM (fun e => by injection e with e; simp at e)
      have hc := containsMissing_any B d (w2.heap.size + 1) w2.heap.size _ _ m w4 (hB.below hb4) hV4 hs4 ho2.out (by omega)
      rw [List.nil_append] at hc
      generalize hR : allIn l m = r at hc
      have HR := Lib.hid hR
      clear hR
      clear hbM hsM hVM hAM hs4 hg4 ho1 ho2 hmm hA hB
      go_wp2_with fail
      refine hc.mono ?_
      rintro e w5 ⟨rfl, hb5⟩
      have hfin := hb4.trans (hb5.mono hb4.size)
      clear hc hb4 hV4
      go_wp2
      go_ret
      exact ⟨bool_end HR.out.symm, hfin⟩
    · have k2' : ctxB m = false := by simpa using k2
      have hr : Hid (inclB l m = false) := by show inclB l m = false; unfold inclB; rw [k2']; simp
      rw [k2'] at h2
      clear k1 k2 k2'
      go_enter Tryz.func78, Tryz.ntmps78
      go_wp2_with fail
      refine h1.mono ?_
      rintro e w1 ⟨rfl, hb1⟩
      have h2' := h2 w1 (hB.below hb1)
      clear h1 h2
      go_wp2_with fail
      refine h2'.mono ?_
      rintro e w2 ⟨rfl, hb2⟩
      have hs2 := hb1.trans (hb2.mono hb1.size)
      clear h2' hb1 hb2
      go_wp2
      go_ret
      exact ⟨bool_end hr.out.symm, hs2⟩
  · have k1' : ctxB l = false := by simpa using k1
    have hr : Hid (inclB l m = false) := by show inclB l m = false; unfold inclB; rw [k1']; simp
    rw [k1'] at h1
    clear k1 k1' h2
    go_enter Tryz.func78, Tryz.ntmps78
    go_wp2_with fail
    refine h1.mono ?_
    rintro e w1 ⟨rfl, hb1⟩
    clear h1
    go_wp2
    go_ret
    exact ⟨bool_end hr.out.symm, hb1⟩

end Go.Proofs.YtbfkfklaplgebaaGreat
end

