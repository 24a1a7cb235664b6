/-
  FreshNeeds in the program, as a contract. FreshNeeds in the model, as a contract.
-/
import Derived.Test.YtddmoempagcjeaaGreatNdI
import Derived.Test.YtddmoempagcjeaaGreatCtxQ
import Derived.Test.YtddmoempagcjeaaGreatTermI
import Derived.Test.YtddmoempagcjeaaGreatNdS
import Derived.Test.YtddmoempagcjeaaGreatTermS
namespace Go.Proofs.YtddmoempagcjeaaGreat
section
open Go.RowKit Go.Sort Go.ChangeShapes Go.WideShapes Go.WideMaps Go.Maps
set_option linter.unusedVariables false

def frnB (a : Int) (t : Tm) : Bool := atomB a && (isTermB t && (okT a t && fewB (ndT a t)))
def frnL (a : Int) (t : Tm) : List (Int × Int) := if atomB a && (isTermB t && okT a t) then ctxOf (ndT a t) else []
theorem frn_no1 {a : Int} {t : Tm} (h : atomB a = false) : frnL a t = [] ∧ frnB a t = false := by simp [frnL, frnB, h]
theorem frn_no2 {a : Int} {t : Tm} (h : isTermB t = false) : frnL a t = [] ∧ frnB a t = false := by simp [frnL, frnB, h]
theorem frn_no3 {a : Int} {t : Tm} (h : okT a t = false) : frnL a t = [] ∧ frnB a t = false := by simp [frnL, frnB, h]
theorem frn_yes {a : Int} {t : Tm} (h1 : atomB a = true) (h2 : isTermB t = true) (h3 : okT a t = true) : frnL a t = ctxOf (ndT a t) ∧ frnB a t = fewB (ndT a t) := by simp [frnL, frnB, h1, h2, h3]
theorem ctxOf_len (S : List (Int × Int)) : (ctxOf S).length ≤ 40 := by
  unfold ctxOf fewB
  split
  · rename_i h; simpa using h
  · simp
theorem frnL_len (a : Int) (t : Tm) : (frnL a t).length ≤ 40 := by
  unfold frnL
  split
  · exact ctxOf_len _
  · simp
theorem okF_right {x : Int × Int} (h : atomB x.1 = true ∧ holeB x.2 = true) : okF x := okF_of_ctx h.1 h.2

set_option maxRecDepth 100000 in
set_option maxHeartbeats 2000000 in
theorem freshNeeds_impl (a : Int) (t : Tm) (x : Value) (w : World) (hx : TmIn w x t) (hf : Fit t) :
    Calls Tryz.prog 36 #[.int .i64 a, x] w (NewFreshsB (frnL a t) (frnB a t) w) := by
  have hx' := hx
  obtain ⟨A, c, kv, rfl, hp, hk⟩ := hx
  obtain ⟨B, d, rfl⟩ := hk.form
  have hmm := @run_makeMap Tryz.prog
  have hat := isAtom_any a
  have hbA : Below w.heap.size w (w.alloc (.cells #[.int .i64 t.op, .int .i64 t.num, .slice A t.perm.length c, .slice B t.kids.length d] 35)) := (Below.refl _ _).alloc (Nat.le_refl _) _
  have hb1 : Below (w.alloc (.cells #[.int .i64 t.op, .int .i64 t.num, .slice A t.perm.length c, .slice B t.kids.length d] 35)).heap.size (w.alloc (.cells #[.int .i64 t.op, .int .i64 t.num, .slice A t.perm.length c, .slice B t.kids.length d] 35)) ((w.alloc (.cells #[.int .i64 t.op, .int .i64 t.num, .slice A t.perm.length c, .slice B t.kids.length d] 35)).alloc (.map #[] 0)) := (Below.refl _ _).alloc (Nat.le_refl _) _
  have hb0 := hbA.trans (hb1.mono hbA.size)
  have hs0 : SetAt ((w.alloc (.cells #[.int .i64 t.op, .int .i64 t.num, .slice A t.perm.length c, .slice B t.kids.length d] 35)).alloc (.map #[] 0)) (w.heap.size + 1) 0 [] := by
    have h := setAt_made (w.alloc (.cells #[.int .i64 t.op, .int .i64 t.num, .slice A t.perm.length c, .slice B t.kids.length d] 35))
    rw [World.size_alloc] at h
    exact h
  have hsz0 : ((w.alloc (.cells #[.int .i64 t.op, .int .i64 t.num, .slice A t.perm.length c, .slice B t.kids.length d] 35)).alloc (.map #[] 0)).heap.size = w.heap.size + 2 := by simp
  have hit := isTerm_impl t _ _ (hx'.below hb0) hf
  obtain ⟨b0, b1, b2, b3⟩ := box4 hb1
  clear hp hk
  by_cases ha : atomB a = true
  · rw [ha] at hat
    by_cases ht : isTermB t = true
    · rw [ht] at hit
      have hfo := fun W hW => formOf_any (szT t) t (Nat.le_refl _) (term_good ht) w W _ hx' hW
      have hszt := term_size ht
      have hright := Lib.hid (ndT_right ha t (term_good ht))
      have hadd := fun (W : World) (v : Value) h1 h2 => addFresh_any (w.heap.size + 1) a 40 (by decide) (szT t) t (Nat.le_refl _) (okP_good (term_good ht)) (fun x hx => okF_right (hright.out x hx)) 0 [] W v (by omega) h1 h2
      have hndl := Nat.le_trans (ndT_len a t) hszt
      cases hok : okT a t with
      | true =>
        have HY := Lib.hid (frn_yes ha ht hok)
        rw [hok] at hadd
        generalize hD : ndT a t = D at hadd HY hright hndl
        generalize hL : ctxOf D = L at HY
        generalize hF : fewB D = fl at HY
        have HL := Lib.hid hL
        have HF := Lib.hid hF
        clear ha ht hok hD hL hF
        go_enter Tryz.func36, Tryz.ntmps36
        go_wp2_with fail
        refine (hat _).mono ?_
        rintro e w1 ⟨rfl, rfl⟩
        go_wp2_with fail
        refine hit.mono ?_
        rintro e w1 ⟨rfl, hbt⟩
        have hbs := hb1.trans (hbt.mono hb1.size)
        have hs1 := hs0.below hbt
        have hw1 := hb0.trans (hbt.mono hb0.size)
        have hsz1 := hbt.size
        rw [hsz0] at hsz1
        obtain ⟨c0, c1, c2, c3⟩ := box4 hbs
        have hfo1 := hfo w1 hw1
        clear hit hbt hbs hs0 hb0 hb1 hbA hfo hx' hat b0 b1 b2 b3 hsz0
        go_wp2_with fail
        refine hfo1.mono ?_
        rintro e w2 ⟨fv, rfl, hfv, hb2⟩
        have hw2 := hw1.trans (hb2.mono hw1.size)
        have hs2 := hs1.below hb2
        have hfv2 : FIn w2 (fun x => x ≠ w.heap.size + 1) fv t := hfv.kind (fun b _ h => by
          rcases h with h | h
          · omega
          · omega)
        have hadd2 := hadd w2 fv hfv2 hs2
        clear hfo1 hb2 hs1 hs2 hfv hfv2 hadd hw1 c0 c1 c2 c3
        go_wp2_with fail
        refine hadd2.mono ?_
        rintro e w3 ⟨d', rfl, h1, h2, h3, h4⟩
        have e3 : d' = D := by simpa using h3
        subst e3
        rw [List.nil_append] at h1
        have hw3 := hw2.grown h4 hw2.size (fun j hj => by injection hj with hj; omega)
        have hcx := context_any (w.heap.size + 1) _ d' w3 h1 (fun x hx => okF_right (hright.out x hx)) (by omega)
        rw [HL.out, HF.out] at hcx
        clear hadd2 h1 h2 h3 h4 hw2 HL HF
        go_wp2_with fail
        refine hcx.mono ?_
        rintro e w4 ⟨v, rfl, ho4, hb4⟩
        have hpost : NewFreshsB (frnL a t) (frnB a t) w (.returned (.tuple #[v, .bool fl])) w4 := by
          rw [HY.out.1, HY.out.2]
          exact newFreshsB_later ho4 hb4 hw3
        clear hcx ho4 hb4 hw3 HY
        go_wp2
        go_ret2
        exact hpost
      | false =>
        have HY := Lib.hid (frn_no3 hok)
        rw [hok] at hadd
        generalize hD : ndT a t = D at hadd hright hndl
        clear ha ht hok hD
        go_enter Tryz.func36, Tryz.ntmps36
        go_wp2_with fail
        refine (hat _).mono ?_
        rintro e w1 ⟨rfl, rfl⟩
        go_wp2_with fail
        refine hit.mono ?_
        rintro e w1 ⟨rfl, hbt⟩
        have hbs := hb1.trans (hbt.mono hb1.size)
        have hs1 := hs0.below hbt
        have hw1 := hb0.trans (hbt.mono hb0.size)
        have hsz1 := hbt.size
        rw [hsz0] at hsz1
        obtain ⟨c0, c1, c2, c3⟩ := box4 hbs
        have hfo1 := hfo w1 hw1
        clear hit hbt hbs hs0 hb0 hb1 hbA hfo hx' hat b0 b1 b2 b3 hsz0
        go_wp2_with fail
        refine hfo1.mono ?_
        rintro e w2 ⟨fv, rfl, hfv, hb2⟩
        have hw2 := hw1.trans (hb2.mono hw1.size)
        have hs2 := hs1.below hb2
        have hfv2 : FIn w2 (fun x => x ≠ w.heap.size + 1) fv t := hfv.kind (fun b _ h => by
          rcases h with h | h
          · omega
          · omega)
        have hadd2 := hadd w2 fv hfv2 hs2
        clear hfo1 hb2 hs1 hs2 hfv hfv2 hadd hw1 c0 c1 c2 c3
        go_wp2_with fail
        refine hadd2.mono ?_
        rintro e w3 ⟨d', rfl, h1, h2, h3, h4⟩
        have hw3 := hw2.grown h4 hw2.size (fun j hj => by injection hj with hj; omega)
        have hpost : NewFreshsB (frnL a t) (frnB a t) w (.returned (.tuple #[.slice (some ⟨w3.heap.size, 0, none⟩) 0 0, .bool false])) (w3.alloc (.cells #[] 55)) := by
          rw [HY.out.1, HY.out.2]
          exact newFreshsB_empty hw3
        clear hadd2 h1 h2 h3 h4 hw2 hw3 HY
        go_wp2
        go_ret2
        exact hpost
    · have ht' : isTermB t = false := by simpa using ht
      have HY := Lib.hid (frn_no2 (a := a) ht')
      rw [ht'] at hit
      clear ha ht ht' hx' hs0
      go_enter Tryz.func36, Tryz.ntmps36
      go_wp2_with fail
      refine (hat _).mono ?_
      rintro e w1 ⟨rfl, rfl⟩
      go_wp2_with fail
      refine hit.mono ?_
      rintro e w1 ⟨rfl, hbt⟩
      have hpost : NewFreshsB (frnL a t) (frnB a t) w (.returned (.tuple #[.slice (some ⟨w1.heap.size, 0, none⟩) 0 0, .bool false])) (w1.alloc (.cells #[] 55)) := by
        rw [HY.out.1, HY.out.2]
        exact newFreshsB_empty (hb0.trans (hbt.mono hb0.size))
      clear hit hbt hb0 hb1 hbA hat HY b0 b1 b2 b3
      go_wp2
      go_ret2
      exact hpost
  · have ha' : atomB a = false := by simpa using ha
    have HY := frn_no1 (t := t) ha'
    have hpost : NewFreshsB (frnL a t) (frnB a t) w (.returned (.tuple #[.slice (some ⟨w.heap.size + 2, 0, none⟩) 0 0, .bool false])) (((w.alloc (.cells #[.int .i64 t.op, .int .i64 t.num, .slice A t.perm.length c, .slice B t.kids.length d] 35)).alloc (.map #[] 0)).alloc (.cells #[] 55)) := by
      rw [HY.1, HY.2]
      have h := newFreshsB_empty (b := false) hb0
      rw [hsz0] at h
      exact h
    rw [ha'] at hat
    clear ha ha' hx' hit hb0 hb1 hbA hs0 HY b0 b1 b2 b3
    go_enter Tryz.func36, Tryz.ntmps36
    go_wp2_with fail
    refine (hat _).mono ?_
    rintro e w1 ⟨rfl, rfl⟩
    clear hat
    go_wp2
    go_ret2
    exact hpost
end

section
open Go.RowKit Go.Sort
set_option linter.unusedVariables false

theorem l3Fresh_any (a : Int) : ∀ (N : Nat) (t : Tm), szT t ≤ N → szT t ≤ 60 → OkP 1048576 t → ∀ (w : World) (x : Value), TmIn w x t → Calls Tryz.prog 61 #[.int .i64 a, x] w (NewFreshsB (frL a t) (okT a t) w) := by
  intro N
  induction N with
  | zero => intro t h; rw [szT_eq] at h; omega
  | succ N ih =>
    intro t hN h60 hP w x hx
    have hP1 : t.perm.length ≤ 1048576 ∧ OkPs 1048576 t.kids := by
      cases t with
      | mk o n p ks => exact ⟨hP.2.1, hP.2.2⟩
    refine l3Fresh_step a t x w hx h60 hP1.1 fun i hi w' y hy => ?_
    have h1 := szT_at hi
    rw [szT_eq] at hN h60
    exact ih _ (by omega) (by omega) (okPs_at hP1.2 hi) w' y hy

theorem ctxB_nd {a : Int} {t : Tm} (ha : atomB a = true) (hg : goodT t = true) : ctxB (sortF (ndT a t)) = fewB (ndT a t) := by
  have hr : rightB (sortF (ndT a t)) = true := rightB_of (fun x hx => ndT_right ha t hg x (mem_sortF.1 hx)) (sortF_asc _)
  unfold ctxB fewB
  rw [hr, Bool.and_true]

set_option maxRecDepth 100000 in
set_option maxHeartbeats 2000000 in
theorem freshNeeds_spec (a : Int) (t : Tm) (x : Value) (w : World) (hx : TmIn w x t) (hc : cntT t ≤ 1048576) :
    Calls Tryz.prog 30 #[.int .i64 a, x] w (NewFreshsB (frnL a t) (frnB a t) w) := by
  have hx' := hx
  obtain ⟨A, c, kv, rfl, hp, hk⟩ := hx
  obtain ⟨B, d, rfl⟩ := hk.form
  have hb0 : Below w.heap.size w (w.alloc (.cells #[.int .i64 t.op, .int .i64 t.num, .slice A t.perm.length c, .slice B t.kids.length d] 35)) := (Below.refl _ _).alloc (Nat.le_refl _) _
  have hit := isTerm_spec t _ _ (hx'.below hb0) hc
  have hat := l1Atom_any a
  clear hp hk
  by_cases ha : atomB a = true
  · rw [ha] at hat
    by_cases ht : isTermB t = true
    · rw [ht] at hit
      have hfr := fun (W : World) (y : Value) (hW : TmIn W y t) => l3Fresh_any a (szT t) t (Nat.le_refl _) (term_size ht) (okP_le (by decide) (okP_good (term_good ht))) W y hW
      have hcb := ctxB_nd ha (term_good ht)
      have hlen := Nat.le_trans (Nat.le_trans (sortF_len_le (ndT a t)) (ndT_len a t)) (term_size ht)
      cases hok : okT a t with
      | true =>
        have HY := Lib.hid (frn_yes ha ht hok)
        rw [hok, frL_yes hok] at hfr
        have HD := Lib.hid (show ctxOf (ndT a t) = if fewB (ndT a t) then sortF (ndT a t) else [] from rfl)
        generalize sortF (ndT a t) = S at hfr hcb hlen HD
        generalize ctxOf (ndT a t) = L at HY HD
        generalize fewB (ndT a t) = fl at HY HD hcb
        have HC := Lib.hid hcb
        clear ha ht hok hcb
        go_enter Tryz.func30, Tryz.ntmps30
        go_wp2_with fail
        refine (hat _).mono ?_
        rintro e w1 ⟨rfl, rfl⟩
        go_wp2_with fail
        refine hit.mono ?_
        rintro e w1 ⟨rfl, hbt⟩
        obtain ⟨b0, b1, b2, b3⟩ := box4 hbt
        have hs1 := hb0.trans (hbt.mono hb0.size)
        have hfr1 := hfr w1 _ (hx'.below hs1)
        clear hit hbt hb0 hfr hx' hat
        go_wp2_with fail
        refine hfr1.mono ?_
        rintro e w2 ⟨v2, rfl, ho2, hb2⟩
        have hs2 := hs1.trans (hb2.mono hs1.size)
        have ho2' := own_le ho2 hs1.size
        obtain ⟨G, cap, rfl, hP⟩ := own_pairsAt ho2
        have hcx := isContext_spec G cap S w2 hP (by omega)
        rw [HC.out] at hcx
        clear hfr1 hb2 hs1 ho2 hP b0 b1 b2 b3 HC
        cases fl with
        | true =>
          have HR : Hid (L = S) := by show L = S; rw [HD.out]; simp
          go_wp2_with fail
          refine hcx.mono ?_
          rintro e w3 ⟨rfl, hb3⟩
          have hpost : NewFreshsB (frnL a t) (frnB a t) w (.returned (.tuple #[.slice G S.length cap, .bool true])) w3 := by
            rw [HY.out.1, HY.out.2, HR.out]
            exact ⟨_, rfl, own_below ho2' hb3, hs2.trans (hb3.mono hs2.size)⟩
          clear hcx ho2' hb3 hs2 HR HD HY
          go_wp2
          go_ret2
          exact hpost
        | false =>
          have HR : L = [] := by rw [HD.out]; simp
          subst HR
          go_wp2_with fail
          refine hcx.mono ?_
          rintro e w3 ⟨rfl, hb3⟩
          have hpost : NewFreshsB (frnL a t) (frnB a t) w (.returned (.tuple #[.slice (some ⟨w3.heap.size, 0, none⟩) 0 0, .bool false])) (w3.alloc (.cells #[] 55)) := by
            rw [HY.out.1, HY.out.2]
            exact newFreshsB_empty (hs2.trans (hb3.mono hs2.size))
          clear hcx ho2' hb3 hs2 HD HY
          go_wp2
          go_ret2
          exact hpost
      | false =>
        have HY := Lib.hid (frn_no3 hok)
        rw [hok] at hfr
        generalize frL a t = S at hfr
        clear ha ht hok hcb hlen
        go_enter Tryz.func30, Tryz.ntmps30
        go_wp2_with fail
        refine (hat _).mono ?_
        rintro e w1 ⟨rfl, rfl⟩
        go_wp2_with fail
        refine hit.mono ?_
        rintro e w1 ⟨rfl, hbt⟩
        obtain ⟨b0, b1, b2, b3⟩ := box4 hbt
        have hs1 := hb0.trans (hbt.mono hb0.size)
        have hfr1 := hfr w1 _ (hx'.below hs1)
        clear hit hbt hb0 hfr hx' hat
        go_wp2_with fail
        refine hfr1.mono ?_
        rintro e w2 ⟨v2, rfl, ho2, hb2⟩
        have hpost : NewFreshsB (frnL a t) (frnB a t) w (.returned (.tuple #[.slice (some ⟨w2.heap.size, 0, none⟩) 0 0, .bool false])) (w2.alloc (.cells #[] 55)) := by
          rw [HY.out.1, HY.out.2]
          exact newFreshsB_empty (hs1.trans (hb2.mono hs1.size))
        clear hfr1 hb2 hs1 ho2 b0 b1 b2 b3 HY
        go_wp2
        go_ret2
        exact hpost
    · have ht' : isTermB t = false := by simpa using ht
      have HY := Lib.hid (frn_no2 (a := a) ht')
      rw [ht'] at hit
      clear ha ht ht' hx'
      go_enter Tryz.func30, Tryz.ntmps30
      go_wp2_with fail
      refine (hat _).mono ?_
      rintro e w1 ⟨rfl, rfl⟩
      go_wp2_with fail
      refine hit.mono ?_
      rintro e w1 ⟨rfl, hbt⟩
      have hpost : NewFreshsB (frnL a t) (frnB a t) w (.returned (.tuple #[.slice (some ⟨w1.heap.size, 0, none⟩) 0 0, .bool false])) (w1.alloc (.cells #[] 55)) := by
        rw [HY.out.1, HY.out.2]
        exact newFreshsB_empty (hb0.trans (hbt.mono hb0.size))
      clear hit hbt hb0 hat HY
      go_wp2
      go_ret2
      exact hpost
  · have ha' : atomB a = false := by simpa using ha
    have HY := frn_no1 (t := t) ha'
    have hpost : NewFreshsB (frnL a t) (frnB a t) w (.returned (.tuple #[.slice (some ⟨w.heap.size + 1, 0, none⟩) 0 0, .bool false])) ((w.alloc (.cells #[.int .i64 t.op, .int .i64 t.num, .slice A t.perm.length c, .slice B t.kids.length d] 35)).alloc (.cells #[] 55)) := by
      rw [HY.1, HY.2]
      have h := newFreshsB_empty (b := false) hb0
      rw [World.size_alloc] at h
      exact h
    rw [ha'] at hat
    clear ha ha' hx' hit hb0 HY
    go_enter Tryz.func30, Tryz.ntmps30
    go_wp2_with fail
    refine (hat _).mono ?_
    rintro e w1 ⟨rfl, rfl⟩
    clear hat
    go_wp2
    go_ret2
    exact hpost
end
end Go.Proofs.YtddmoempagcjeaaGreat
