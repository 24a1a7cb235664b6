/-
  EqualNeeds in the program, as a contract. The comparison of two terms in the model, and what two terms need, as contracts.
-/
import Derived.Test.YtbfkfklaplgebaaGreatKHoldsFor35
import Derived.Test.YtbfkfklaplgebaaGreatKHoldsFor23
import Derived.Test.YtbfkfklaplgebaaGreatKHoldsFor34
section
namespace Go.Proofs.YtbfkfklaplgebaaGreat
open Go.RowKit Go.Sort Go.ChangeShapes Go.WideShapes Go.WideMaps Go.Maps
set_option linter.unusedVariables false

def eqnB (s t : Tm) : Bool := isTermB s && (isTermB t && (eqOk okT hoOk s t && fewB (eqNd ndT hoNd s t)))
def eqnL (s t : Tm) : List (Int × Int) := if isTermB s && (isTermB t && eqOk okT hoOk s t) then ctxOf (eqNd ndT hoNd s t) else []
theorem eqn_no1 {s t : Tm} (h : isTermB s = false) : eqnL s t = [] ∧ eqnB s t = false := by simp [eqnL, eqnB, h]
theorem eqn_no2 {s t : Tm} (h : isTermB t = false) : eqnL s t = [] ∧ eqnB s t = false := by simp [eqnL, eqnB, h]
theorem eqn_no3 {s t : Tm} (h : eqOk okT hoOk s t = false) : eqnL s t = [] ∧ eqnB s t = false := by simp [eqnL, eqnB, h]
theorem eqn_yes {s t : Tm} (h1 : isTermB s = true) (h2 : isTermB t = true) (h3 : eqOk okT hoOk s t = true) : eqnL s t = ctxOf (eqNd ndT hoNd s t) ∧ eqnB s t = fewB (eqNd ndT hoNd s t) := by simp [eqnL, eqnB, h1, h2, h3]
theorem eqnL_len (s t : Tm) : (eqnL s t).length ≤ 40 := by
  unfold eqnL
  split
  · exact ctxOf_len _
  · simp
/-- What two terms need: right, and few. -/
theorem eqn_right {s t : Tm} (h1 : isTermB s = true) (h2 : isTermB t = true) : (∀ x ∈ eqNd ndT hoNd s t, atomB x.1 = true ∧ holeB x.2 = true) ∧ (eqNd ndT hoNd s t).length ≤ 15600 := by
  have g1 := term_good h1
  have g2 := term_good h2
  have z1 := term_size h1
  have z2 := term_size h2
  have h := eqNd_rg s 40 260 t (op_good g1) (ops_good g1) (rg_good g1) (rg_good g2) (okP_good g1) (okP_good g2) (by unfold szB; omega)
  exact ⟨h.1, by have := h.2; omega⟩

theorem row4e {w : World} {g : Nat} {a b c d : Value} {T : TypeId} (h : w.heap[g]? = some (.cells #[a, b, c, d] T (0, 0))) : w.cell? ⟨g, 0, none⟩ = some a ∧ w.cell? ⟨g, 1, none⟩ = some b ∧ w.cell? ⟨g, 2, none⟩ = some c ∧ w.cell? ⟨g, 3, none⟩ = some d := by
  refine ⟨?_, ?_, ?_, ?_⟩ <;> rw [cell_of_row w g _ _ _ _ h] <;> rfl

set_option maxRecDepth 100000 in
set_option maxHeartbeats 2000000 in
theorem addEqual_any (b n0 : Nat) (S d : List (Int × Int)) (ok : Bool) (T1 T2 : TypeId) (v u : Value) (w : World) (h : Calls Tryz.prog 57 #[(.agg #[.func (.func 92) #[.map (some b)] #[], .func (.func 122) #[.map (some b)] #[]]), .iface T1 v, .iface T2 u] w (AddPost b n0 S d ok ok w)) :
    Calls Tryz.prog 71 #[.map (some b), .iface T1 v, .iface T2 u] w (AddPost b n0 S d ok ok w) := by
  go_enter Tryz.func71, Tryz.ntmps71
  go_wp2_with (go_at_call 57; refine h.mono ?_; rintro e w2 ⟨d', rfl, g1, g2, g3, g4⟩)
  go_ret
  exact ⟨d', rfl, g1, g2, g3, g4⟩

set_option maxRecDepth 100000 in
set_option maxHeartbeats 4000000 in
theorem equalNeeds_impl (s t : Tm) (x y : Value) (w : World) (hx : TmIn w x s) (hy : TmIn w y t) (hf : Fit s) (hf' : Fit t) :
    Calls Tryz.prog 21 #[x, y] w (NewFreshsB (eqnL s t) (eqnB s t) w) := by
  have hx' := hx
  have hy' := hy
  obtain ⟨A, c, kv, rfl, hp, hk⟩ := hx
  obtain ⟨B, d, rfl⟩ := hk.form
  obtain ⟨A', c', kv', rfl, hp', hk'⟩ := hy
  obtain ⟨B', d', rfl⟩ := hk'.form
  have hmm := @run_makeMap Tryz.prog
  have hb := below3 w (.cells #[.int .i64 s.op, .int .i64 s.num, .slice A s.perm.length c, .slice B s.kids.length d] 31) (.cells #[.int .i64 t.op, .int .i64 t.num, .slice A' t.perm.length c', .slice B' t.kids.length d'] 31) (.map #[] 0)
  have k0 : (((w.alloc (.cells #[.int .i64 s.op, .int .i64 s.num, .slice A s.perm.length c, .slice B s.kids.length d] 31)).alloc (.cells #[.int .i64 t.op, .int .i64 t.num, .slice A' t.perm.length c', .slice B' t.kids.length d'] 31)).alloc (.map #[] 0)).heap[w.heap.size]? = some (.cells #[.int .i64 s.op, .int .i64 s.num, .slice A s.perm.length c, .slice B s.kids.length d] 31 (0, 0)) :=
    (Below.heap_alloc _ _ _ (by simp; omega)).trans ((Below.heap_alloc _ _ _ (by simp)).trans (heap_alloc_new w _))
  have k1 : (((w.alloc (.cells #[.int .i64 s.op, .int .i64 s.num, .slice A s.perm.length c, .slice B s.kids.length d] 31)).alloc (.cells #[.int .i64 t.op, .int .i64 t.num, .slice A' t.perm.length c', .slice B' t.kids.length d'] 31)).alloc (.map #[] 0)).heap[w.heap.size + 1]? = some (.cells #[.int .i64 t.op, .int .i64 t.num, .slice A' t.perm.length c', .slice B' t.kids.length d'] 31 (0, 0)) := by
    have h := heap_alloc_new (w.alloc (.cells #[.int .i64 s.op, .int .i64 s.num, .slice A s.perm.length c, .slice B s.kids.length d] 31)) (.cells #[.int .i64 t.op, .int .i64 t.num, .slice A' t.perm.length c', .slice B' t.kids.length d'] 31)
    rw [World.size_alloc] at h
    exact (Below.heap_alloc _ _ _ (by simp)).trans h
  have hs0 : SetAt (((w.alloc (.cells #[.int .i64 s.op, .int .i64 s.num, .slice A s.perm.length c, .slice B s.kids.length d] 31)).alloc (.cells #[.int .i64 t.op, .int .i64 t.num, .slice A' t.perm.length c', .slice B' t.kids.length d'] 31)).alloc (.map #[] 0)) (w.heap.size + 1 + 1) 0 [] := by
    have h := setAt_made ((w.alloc (.cells #[.int .i64 s.op, .int .i64 s.num, .slice A s.perm.length c, .slice B s.kids.length d] 31)).alloc (.cells #[.int .i64 t.op, .int .i64 t.num, .slice A' t.perm.length c', .slice B' t.kids.length d'] 31))
    rw [World.size_alloc, World.size_alloc] at h
    exact h
  have hsz0 : (((w.alloc (.cells #[.int .i64 s.op, .int .i64 s.num, .slice A s.perm.length c, .slice B s.kids.length d] 31)).alloc (.cells #[.int .i64 t.op, .int .i64 t.num, .slice A' t.perm.length c', .slice B' t.kids.length d'] 31)).alloc (.map #[] 0)).heap.size = w.heap.size + 3 := by simp
  have HX := Lib.hid (fun W (hW : Below w.heap.size w W) => isTerm_impl s _ _ (hx'.below hW) hf)
  have HY := Lib.hid (fun W (hW : Below w.heap.size w W) => isTerm_impl t _ _ (hy'.below hW) hf')
  have HFX := Lib.hid (fun (hg : isTermB s = true) W (hW : Below w.heap.size w W) => formOf_any (szT s) s (Nat.le_refl _) (term_good hg) w W _ hx' hW)
  have HFY := Lib.hid (fun (hg : isTermB t = true) W (hW : Below w.heap.size w W) => formOf_any (szT t) t (Nat.le_refl _) (term_good hg) w W _ hy' hW)
  have HSAME := Lib.hid (fun (h1 : isTermB s = true) (h2 : isTermB t = true) (W : World) (v u : Value) hv hu hS => same_any (w.heap.size + 1 + 1) (szT s) s (Nat.le_refl _) 40 t (by have := term_size h1; omega) (okP_good (term_good h2)) (okP_le (by decide) (okP_good (term_good h1))) (by have := term_size h2; omega) W v u 0 [] hv hu hS (by have := (eqn_right h1 h2).2; have := term_size h2; omega) (fun x hx => okF_right ((eqn_right h1 h2).1 x hx)))
  have HRIGHT := Lib.hid (fun (h1 : isTermB s = true) (h2 : isTermB t = true) => eqn_right h1 h2)
  obtain ⟨m0, m1, m2, m3⟩ := row4e k0
  obtain ⟨m4, m5, m6, m7⟩ := row4e k1
  clear hp hk hp' hk' hx' hy' hf hf' k0 k1
  generalize hE : eqNd ndT hoNd s t = D at HSAME HRIGHT
  generalize hO : eqOk okT hoOk s t = ok at HSAME
  have HE := Lib.hid hE
  have HO := Lib.hid hO
  clear hE hO
  by_cases hts : isTermB s = true
  · by_cases htt : isTermB t = true
    · rw [hts] at HX
      rw [htt] at HY
      have hR := HRIGHT.out hts htt
      have HYES := Lib.hid (fun h : ok = true => eqn_yes hts htt (HO.out.trans h))
      have HNO := Lib.hid (fun h : ok = false => eqn_no3 (s := s) (t := t) (HO.out.trans h))
      rw [HE.out] at HYES
      generalize hL : ctxOf D = L at HYES
      generalize hF : fewB D = fl at HYES
      have HL := Lib.hid hL
      have HF := Lib.hid hF
      clear hL hF
      go_enter Tryz.func21, Tryz.ntmps21
      go_wp2
      generalize (((w.alloc (.cells #[.int .i64 s.op, .int .i64 s.num, .slice A s.perm.length c, .slice B s.kids.length d] 31)).alloc (.cells #[.int .i64 t.op, .int .i64 t.num, .slice A' t.perm.length c', .slice B' t.kids.length d'] 31)).alloc (.map #[] 0)) = W at hb hs0 hsz0 m0 m1 m2 m3 m4 m5 m6 m7 ⊢
      have hdw : Below W.heap.size W W.drew := ⟨rfl, rfl, rfl, Nat.le_refl _, fun _ _ => rfl⟩
      have hbw : Below w.heap.size w W.drew := hb.trans (hdw.mono hb.size)
      have hszd : W.drew.heap.size = w.heap.size + 3 := hsz0
      have hsd := hs0.below hdw
      have ne (j : Nat) (hj : j < 2) : some (w.heap.size + j) ≠ some (w.heap.size + 1 + 1) := fun e => by injection e with e; omega
      have HC : Hid (∀ w2, W.drew.grownBy w2 (some (w.heap.size + 1 + 1)) → w2.cell? ⟨w.heap.size, 0, none⟩ = some (.int .i64 s.op) ∧ w2.cell? ⟨w.heap.size, 1, none⟩ = some (.int .i64 s.num) ∧ w2.cell? ⟨w.heap.size, 2, none⟩ = some (.slice A s.perm.length c) ∧ w2.cell? ⟨w.heap.size, 3, none⟩ = some (.slice B s.kids.length d) ∧ w2.cell? ⟨w.heap.size + 1, 0, none⟩ = some (.int .i64 t.op) ∧ w2.cell? ⟨w.heap.size + 1, 1, none⟩ = some (.int .i64 t.num) ∧ w2.cell? ⟨w.heap.size + 1, 2, none⟩ = some (.slice A' t.perm.length c') ∧ w2.cell? ⟨w.heap.size + 1, 3, none⟩ = some (.slice B' t.kids.length d')) := Lib.hid fun w2 hg =>
        ⟨hg.cell (a := ⟨w.heap.size, 0, none⟩) m0 (ne 0 (by omega)), hg.cell (a := ⟨w.heap.size, 1, none⟩) m1 (ne 0 (by omega)), hg.cell (a := ⟨w.heap.size, 2, none⟩) m2 (ne 0 (by omega)), hg.cell (a := ⟨w.heap.size, 3, none⟩) m3 (ne 0 (by omega)), hg.cell (a := ⟨w.heap.size + 1, 0, none⟩) m4 (ne 1 (by omega)), hg.cell (a := ⟨w.heap.size + 1, 1, none⟩) m5 (ne 1 (by omega)), hg.cell (a := ⟨w.heap.size + 1, 2, none⟩) m6 (ne 1 (by omega)), hg.cell (a := ⟨w.heap.size + 1, 3, none⟩) m7 (ne 1 (by omega))⟩
      clear hs0 hdw hsz0
      clear m0 m1 m2 m3 m4 m5 m6 m7
      obtain ⟨m0, m1, m2, m3, m4, m5, m6, m7⟩ := HC.out W.drew (grown_of_below (Below.refl _ _) _)
      have hcS := HX.out _ hbw
      clear HE HO
      cases ok with
      | true =>
        go_region_held3 (fun w' => w'.cell? ⟨w.heap.size, 0, none⟩ = some (.int .i64 s.op) ∧ w'.cell? ⟨w.heap.size, 1, none⟩ = some (.int .i64 s.num) ∧ w'.cell? ⟨w.heap.size, 2, none⟩ = some (.slice A s.perm.length c) ∧ w'.cell? ⟨w.heap.size, 3, none⟩ = some (.slice B s.kids.length d) ∧ w'.cell? ⟨w.heap.size + 1, 0, none⟩ = some (.int .i64 t.op) ∧ w'.cell? ⟨w.heap.size + 1, 1, none⟩ = some (.int .i64 t.num) ∧ w'.cell? ⟨w.heap.size + 1, 2, none⟩ = some (.slice A' t.perm.length c') ∧ w'.cell? ⟨w.heap.size + 1, 3, none⟩ = some (.slice B' t.kids.length d'))
          (first | (with_reducible exact ⟨by assumption, by assumption, by assumption, by assumption, by assumption, by assumption, by assumption, by assumption⟩) | ((try dsimp only); exact ⟨by assumption, by assumption, by assumption, by assumption, by assumption, by assumption, by assumption, by assumption⟩) | go_keep)
          (first
            | (go_at_call_of 70 A; refine hcS.mono ?_; rintro e w1 ⟨rfl, hb1⟩; have hb1w := hbw.trans (hb1.mono hbw.size); have hg1 := grown_of_below hb1 (some (w.heap.size + 1 + 1)); have hs1 := hsd.below hb1; have z1 := hb1.size; obtain ⟨a0, a1, a2, a3, a4, a5, a6, a7⟩ := HC.out w1 hg1; have hcT := HY.out w1 hb1w)
            | (go_at_call_of 70 A'; refine hcT.mono ?_; rintro e w2 ⟨rfl, hb2⟩; have hb2w := hb1w.trans (hb2.mono hb1w.size); have hg2 := grownBy_trans hg1 (grown_of_below hb2 _); have hs2 := hs1.below hb2; have z2 := hb2.size; obtain ⟨b0, b1, b2, b3, b4, b5, b6, b7⟩ := HC.out w2 hg2; have hfS := HFX.out hts w2 hb2w)
            | (go_at_call_of 58 A; refine hfS.mono ?_; rintro e w3 ⟨fv, rfl, hfv, hb3⟩; obtain ⟨fa, rfl⟩ := hfv.iface; have hb3w := hb2w.trans (hb3.mono hb2w.size); have hg3 := grownBy_trans hg2 (grown_of_below hb3 _); have hs3 := hs2.below hb3; have z3 := hb3.size; obtain ⟨r0, r1, r2, r3, r4, r5, r6, r7⟩ := HC.out w3 hg3; have hv3 := hfv.kind (q' := fun x => x ≠ w.heap.size + 1 + 1) (fun x _ h => by rcases h with h | h <;> omega); have hfT := HFY.out htt w3 hb3w)
            | (go_at_call_of 58 A'; refine hfT.mono ?_; rintro e w4 ⟨fu, rfl, hfu, hb4⟩; obtain ⟨fb, rfl⟩ := hfu.iface; have hb4w := hb3w.trans (hb4.mono hb3w.size); have hg4 := grownBy_trans hg3 (grown_of_below hb4 _); have hs4 := hs3.below hb4; have z4 := hb4.size; obtain ⟨s0, s1, s2, s3, s4, s5, s6, s7⟩ := HC.out w4 hg4; have hu4 := hfu.kind (q' := fun x => x ≠ w.heap.size + 1 + 1) (fun x _ h => by rcases h with h | h <;> omega); have hcA := addEqual_any _ _ _ _ _ _ _ _ _ _ (HSAME.out hts htt w4 _ _ (hv3.keep hb4) hu4 hs4))
            | (go_at_call 71; refine hcA.mono ?_; rintro e w5 ⟨d1, rfl, g1, g2, g3, g4⟩; have hg5 := grownBy_trans hg4 g4; obtain ⟨q0, q1, q2, q3, q4, q5, q6, q7⟩ := HC.out w5 hg5)
            | fail)
        have hw5 := hb4w.grown g4 hb4w.size (fun j hj => by injection hj with hj; omega)
        have e5 : d1 = D := by simpa using g3
        subst e5
        rw [List.nil_append] at g1
        have hcx := context_any (w.heap.size + 1 + 1) _ d1 w5 g1 (fun x hx => okF_right (hR.1 x hx)) (by have := hR.2; omega)
        rw [HL.out, HF.out] at hcx
        have HY2 := Lib.hid (HYES.out (by trivial))
        clear HYES HNO HL HF g1 g2 g3 g4 hb4w hR hcS hcT hfS hfT hcA HC HX HY HFX HFY HSAME HRIGHT hv3 hfv hfu hu4 hb1 hb2 hb3 hb4 hb1w hb2w hb3w hg1 hg2 hg3 hg4 hg5 hs1 hs2 hs3 hs4 hsd hbw m0 m1 m2 m3 m4 m5 m6 m7 a0 a1 a2 a3 a4 a5 a6 a7 b0 b1 b2 b3 b4 b5 b6 b7 r0 r1 r2 r3 r4 r5 r6 r7 s0 s1 s2 s3 s4 s5 s6 s7 q0 q1 q2 q3 q4 q5 q6 q7
        go_wp2_with fail
        refine hcx.mono ?_
        rintro e w6 ⟨v, rfl, ho6, hb6⟩
        have hpost : NewFreshsB (eqnL s t) (eqnB s t) w (.returned (.tuple #[v, .bool fl])) w6 := by
          rw [HY2.out.1, HY2.out.2]
          exact newFreshsB_later ho6 hb6 hw5
        clear hcx ho6 hb6 hw5 HY2
        go_wp2
        go_ret2
        exact hpost
      | false =>
        go_region_held3 (fun w' => w'.cell? ⟨w.heap.size, 0, none⟩ = some (.int .i64 s.op) ∧ w'.cell? ⟨w.heap.size, 1, none⟩ = some (.int .i64 s.num) ∧ w'.cell? ⟨w.heap.size, 2, none⟩ = some (.slice A s.perm.length c) ∧ w'.cell? ⟨w.heap.size, 3, none⟩ = some (.slice B s.kids.length d) ∧ w'.cell? ⟨w.heap.size + 1, 0, none⟩ = some (.int .i64 t.op) ∧ w'.cell? ⟨w.heap.size + 1, 1, none⟩ = some (.int .i64 t.num) ∧ w'.cell? ⟨w.heap.size + 1, 2, none⟩ = some (.slice A' t.perm.length c') ∧ w'.cell? ⟨w.heap.size + 1, 3, none⟩ = some (.slice B' t.kids.length d'))
          (first | (with_reducible exact ⟨by assumption, by assumption, by assumption, by assumption, by assumption, by assumption, by assumption, by assumption⟩) | ((try dsimp only); exact ⟨by assumption, by assumption, by assumption, by assumption, by assumption, by assumption, by assumption, by assumption⟩) | go_keep)
          (first
            | (go_at_call_of 70 A; refine hcS.mono ?_; rintro e w1 ⟨rfl, hb1⟩; have hb1w := hbw.trans (hb1.mono hbw.size); have hg1 := grown_of_below hb1 (some (w.heap.size + 1 + 1)); have hs1 := hsd.below hb1; have z1 := hb1.size; obtain ⟨a0, a1, a2, a3, a4, a5, a6, a7⟩ := HC.out w1 hg1; have hcT := HY.out w1 hb1w)
            | (go_at_call_of 70 A'; refine hcT.mono ?_; rintro e w2 ⟨rfl, hb2⟩; have hb2w := hb1w.trans (hb2.mono hb1w.size); have hg2 := grownBy_trans hg1 (grown_of_below hb2 _); have hs2 := hs1.below hb2; have z2 := hb2.size; obtain ⟨b0, b1, b2, b3, b4, b5, b6, b7⟩ := HC.out w2 hg2; have hfS := HFX.out hts w2 hb2w)
            | (go_at_call_of 58 A; refine hfS.mono ?_; rintro e w3 ⟨fv, rfl, hfv, hb3⟩; obtain ⟨fa, rfl⟩ := hfv.iface; have hb3w := hb2w.trans (hb3.mono hb2w.size); have hg3 := grownBy_trans hg2 (grown_of_below hb3 _); have hs3 := hs2.below hb3; have z3 := hb3.size; obtain ⟨r0, r1, r2, r3, r4, r5, r6, r7⟩ := HC.out w3 hg3; have hv3 := hfv.kind (q' := fun x => x ≠ w.heap.size + 1 + 1) (fun x _ h => by rcases h with h | h <;> omega); have hfT := HFY.out htt w3 hb3w)
            | (go_at_call_of 58 A'; refine hfT.mono ?_; rintro e w4 ⟨fu, rfl, hfu, hb4⟩; obtain ⟨fb, rfl⟩ := hfu.iface; have hb4w := hb3w.trans (hb4.mono hb3w.size); have hg4 := grownBy_trans hg3 (grown_of_below hb4 _); have hs4 := hs3.below hb4; have z4 := hb4.size; obtain ⟨s0, s1, s2, s3, s4, s5, s6, s7⟩ := HC.out w4 hg4; have hu4 := hfu.kind (q' := fun x => x ≠ w.heap.size + 1 + 1) (fun x _ h => by rcases h with h | h <;> omega); have hcA := addEqual_any _ _ _ _ _ _ _ _ _ _ (HSAME.out hts htt w4 _ _ (hv3.keep hb4) hu4 hs4))
            | (go_at_call 71; refine hcA.mono ?_; rintro e w5 ⟨d1, rfl, g1, g2, g3, g4⟩; have hg5 := grownBy_trans hg4 g4; obtain ⟨q0, q1, q2, q3, q4, q5, q6, q7⟩ := HC.out w5 hg5)
            | fail)
        have hw5 := hb4w.grown g4 hb4w.size (fun j hj => by injection hj with hj; omega)
        have hpost : NewFreshsB (eqnL s t) (eqnB s t) w (.returned (.tuple #[.slice (some ⟨w5.heap.size, 0, none⟩) 0 0, .bool false])) (w5.alloc (.cells #[] 102)) := by
          rw [(HNO.out (by trivial)).1, (HNO.out (by trivial)).2]
          exact newFreshsB_empty hw5
        clear HYES HNO HL HF g1 g2 g3 g4 hb4w hR hw5 hcS hcT hfS hfT hcA HC HX HY HFX HFY HSAME HRIGHT hv3 hfv hfu hu4 hb1 hb2 hb3 hb4 hb1w hb2w hb3w hg1 hg2 hg3 hg4 hg5 hs1 hs2 hs3 hs4 hsd hbw m0 m1 m2 m3 m4 m5 m6 m7 a0 a1 a2 a3 a4 a5 a6 a7 b0 b1 b2 b3 b4 b5 b6 b7 r0 r1 r2 r3 r4 r5 r6 r7 s0 s1 s2 s3 s4 s5 s6 s7 q0 q1 q2 q3 q4 q5 q6 q7
        go_wp2
        go_ret2
        exact hpost
    · have htt' : isTermB t = false := by simpa using htt
      have HNO := Lib.hid (eqn_no2 (s := s) htt')
      rw [hts] at HX
      rw [htt'] at HY
      go_enter Tryz.func21, Tryz.ntmps21
      go_wp2
      generalize (((w.alloc (.cells #[.int .i64 s.op, .int .i64 s.num, .slice A s.perm.length c, .slice B s.kids.length d] 31)).alloc (.cells #[.int .i64 t.op, .int .i64 t.num, .slice A' t.perm.length c', .slice B' t.kids.length d'] 31)).alloc (.map #[] 0)) = W at hb hs0 hsz0 m0 m1 m2 m3 m4 m5 m6 m7 ⊢
      have hdw : Below W.heap.size W W.drew := ⟨rfl, rfl, rfl, Nat.le_refl _, fun _ _ => rfl⟩
      have hbw : Below w.heap.size w W.drew := hb.trans (hdw.mono hb.size)
      have hszd : W.drew.heap.size = w.heap.size + 3 := hsz0
      have hsd := hs0.below hdw
      have ne (j : Nat) (hj : j < 2) : some (w.heap.size + j) ≠ some (w.heap.size + 1 + 1) := fun e => by injection e with e; omega
      have HC : Hid (∀ w2, W.drew.grownBy w2 (some (w.heap.size + 1 + 1)) → w2.cell? ⟨w.heap.size, 0, none⟩ = some (.int .i64 s.op) ∧ w2.cell? ⟨w.heap.size, 1, none⟩ = some (.int .i64 s.num) ∧ w2.cell? ⟨w.heap.size, 2, none⟩ = some (.slice A s.perm.length c) ∧ w2.cell? ⟨w.heap.size, 3, none⟩ = some (.slice B s.kids.length d) ∧ w2.cell? ⟨w.heap.size + 1, 0, none⟩ = some (.int .i64 t.op) ∧ w2.cell? ⟨w.heap.size + 1, 1, none⟩ = some (.int .i64 t.num) ∧ w2.cell? ⟨w.heap.size + 1, 2, none⟩ = some (.slice A' t.perm.length c') ∧ w2.cell? ⟨w.heap.size + 1, 3, none⟩ = some (.slice B' t.kids.length d')) := Lib.hid fun w2 hg =>
        ⟨hg.cell (a := ⟨w.heap.size, 0, none⟩) m0 (ne 0 (by omega)), hg.cell (a := ⟨w.heap.size, 1, none⟩) m1 (ne 0 (by omega)), hg.cell (a := ⟨w.heap.size, 2, none⟩) m2 (ne 0 (by omega)), hg.cell (a := ⟨w.heap.size, 3, none⟩) m3 (ne 0 (by omega)), hg.cell (a := ⟨w.heap.size + 1, 0, none⟩) m4 (ne 1 (by omega)), hg.cell (a := ⟨w.heap.size + 1, 1, none⟩) m5 (ne 1 (by omega)), hg.cell (a := ⟨w.heap.size + 1, 2, none⟩) m6 (ne 1 (by omega)), hg.cell (a := ⟨w.heap.size + 1, 3, none⟩) m7 (ne 1 (by omega))⟩
      clear hs0 hdw hsz0
      clear m0 m1 m2 m3 m4 m5 m6 m7
      obtain ⟨m0, m1, m2, m3, m4, m5, m6, m7⟩ := HC.out W.drew (grown_of_below (Below.refl _ _) _)
      have hcS := HX.out _ hbw
      refine wp_region_held_drew (S := (fun w' => w'.cell? ⟨w.heap.size, 0, none⟩ = some (.int .i64 s.op) ∧ w'.cell? ⟨w.heap.size, 1, none⟩ = some (.int .i64 s.num) ∧ w'.cell? ⟨w.heap.size, 2, none⟩ = some (.slice A s.perm.length c) ∧ w'.cell? ⟨w.heap.size, 3, none⟩ = some (.slice B s.kids.length d) ∧ w'.cell? ⟨w.heap.size + 1, 0, none⟩ = some (.int .i64 t.op) ∧ w'.cell? ⟨w.heap.size + 1, 1, none⟩ = some (.int .i64 t.num) ∧ w'.cell? ⟨w.heap.size + 1, 2, none⟩ = some (.slice A' t.perm.length c') ∧ w'.cell? ⟨w.heap.size + 1, 3, none⟩ = some (.slice B' t.kids.length d'))) (by kernel_rfl) ⟨m0, m1, m2, m3, m4, m5, m6, m7⟩ (fun hHeld => ?_)
      refine wpAnyH_take (i := 0) (v := ?vv7) rfl (by kernel_rfl) (by kernel_rfl) (by kernel_rfl) (fun _ _ _ h => h) (Or.inl ⟨by rfl, ?hy7⟩) (by assumption) ?rest7
      case hy7 => (intro w hSw; (try dsimp only at hSw); go_simp; (try with_reducible rfl))
      (try simp only [Act.put, List.getElem_toArray, List.getElem_cons_zero, List.setIfInBounds_toArray, List.set_cons_zero, List.set_cons_succ])
      refine wpAnyH_ready (rs := [1]) (by kernel_rfl) (by simp) ?_
      refine AllReadyH.cons rfl (fun K hK => ?_) AllReadyH.nil
      go_simp
      go_at_call 70
      refine hcS.mono ?_
      rintro e w1 ⟨rfl, hb1⟩
      (try go_wp2_with fail)
      refine hK.out _ _ (HC.out w1 (grown_of_below hb1 _)) (fun hHeld => ?_)
      clear hK K
      (try simp only [Act.put, List.getElem_toArray, List.getElem_cons_zero, List.getElem_cons_succ, List.setIfInBounds_toArray, List.set_cons_zero, List.set_cons_succ])
      have hb1w := hbw.trans (hb1.mono hbw.size)
      have hcT := HY.out w1 hb1w
      refine wpAnyH_take (i := 2) (v := ?vv8) rfl (by kernel_rfl) (by kernel_rfl) (by kernel_rfl) (fun _ _ _ h => h) (Or.inl ⟨by rfl, ?hy8⟩) (by assumption) ?rest8
      case hy8 => (intro w hSw; (try dsimp only at hSw); go_simp; (try with_reducible rfl))
      (try simp only [Act.put, List.getElem_toArray, List.getElem_cons_zero, List.getElem_cons_succ, List.setIfInBounds_toArray, List.set_cons_zero, List.set_cons_succ])
      refine wpAnyH_take (i := 3) (v := ?vv9) rfl (by kernel_rfl) (by kernel_rfl) (by kernel_rfl) (fun _ _ _ h => h) (Or.inl ⟨by rfl, ?hy9⟩) (by assumption) ?rest9
      case hy9 => (intro w hSw; (try dsimp only at hSw); go_simp; (try with_reducible rfl))
      (try simp only [Act.put, List.getElem_toArray, List.getElem_cons_zero, List.getElem_cons_succ, List.setIfInBounds_toArray, List.set_cons_zero, List.set_cons_succ])
      refine wpAnyH_take (i := 4) (v := ?vv10) rfl (by kernel_rfl) (by kernel_rfl) (by kernel_rfl) (fun _ _ _ h => h) (Or.inl ⟨by rfl, ?hy10⟩) (by assumption) ?rest10
      case hy10 => (intro w hSw; (try dsimp only at hSw); go_simp; (try with_reducible rfl))
      (try simp only [Act.put, List.getElem_toArray, List.getElem_cons_zero, List.getElem_cons_succ, List.setIfInBounds_toArray, List.set_cons_zero, List.set_cons_succ])
      refine wpAnyH_ready (rs := [5]) (by kernel_rfl) (by simp) ?_
      refine AllReadyH.cons rfl (fun K hK => ?_) AllReadyH.nil
      go_simp
      go_at_call 70
      refine hcT.mono ?_
      rintro e w2 ⟨rfl, hb2⟩
      (try go_wp2_with fail)
      refine hK.out _ _ (HC.out w2 (grownBy_trans (grown_of_below hb1 _) (grown_of_below hb2 _))) (fun hHeld => ?_)
      clear hK K
      (try simp only [Act.put, List.getElem_toArray, List.getElem_cons_zero, List.getElem_cons_succ, List.setIfInBounds_toArray, List.set_cons_zero, List.set_cons_succ])
      refine wpAnyH_take (i := 6) (v := ?vv11) rfl (by kernel_rfl) (by kernel_rfl) (by kernel_rfl) (fun _ _ _ h => h) (Or.inl ⟨by rfl, ?hy11⟩) (by assumption) ?rest11
      case hy11 => (intro w hSw; (try dsimp only at hSw); go_simp; (try with_reducible rfl))
      (try simp only [Act.put, List.getElem_toArray, List.getElem_cons_zero, List.getElem_cons_succ, List.setIfInBounds_toArray, List.set_cons_zero, List.set_cons_succ])
      refine wpAnyH_take (i := 7) (v := ?vv12) rfl (by kernel_rfl) (by kernel_rfl) (by kernel_rfl) (fun _ _ _ h => h) (Or.inl ⟨by rfl, ?hy12⟩) (by assumption) ?rest12
      case hy12 => (intro w hSw; (try dsimp only at hSw); go_simp; (try with_reducible rfl))
      (try simp only [Act.put, List.getElem_toArray, List.getElem_cons_zero, List.getElem_cons_succ, List.setIfInBounds_toArray, List.set_cons_zero, List.set_cons_succ])
      refine wpAnyH_take (i := 8) (v := ?vv13) rfl (by kernel_rfl) (by kernel_rfl) (by kernel_rfl) (fun _ _ _ h => h) (Or.inl ⟨by rfl, ?hy13⟩) (by assumption) ?rest13
      case hy13 => (intro w hSw; (try dsimp only at hSw); go_simp; (try with_reducible rfl))
      (try simp only [Act.put, List.getElem_toArray, List.getElem_cons_zero, List.getElem_cons_succ, List.setIfInBounds_toArray, List.set_cons_zero, List.set_cons_succ])
      refine wpAnyH_take (i := 9) rfl (by kernel_rfl) (by kernel_rfl) (by kernel_rfl) (fun _ _ _ h => h) (Or.inr ⟨by rfl, rfl⟩) (by assumption) ?_
      (try simp only [Act.put, List.getElem_toArray, List.getElem_cons_zero, List.getElem_cons_succ, List.setIfInBounds_toArray, List.set_cons_zero, List.set_cons_succ])
      refine wpAnyH_take (i := 10) rfl (by kernel_rfl) (by kernel_rfl) (by kernel_rfl) (fun _ _ _ h => h) (Or.inr ⟨by rfl, rfl⟩) (by assumption) ?_
      (try simp only [Act.put, List.getElem_toArray, List.getElem_cons_zero, List.getElem_cons_succ, List.setIfInBounds_toArray, List.set_cons_zero, List.set_cons_succ])
      refine wpAnyH_take (i := 11) rfl (by kernel_rfl) (by kernel_rfl) (by kernel_rfl) (fun _ _ _ h => h) (Or.inr ⟨by rfl, rfl⟩) (by assumption) ?_
      (try simp only [Act.put, List.getElem_toArray, List.getElem_cons_zero, List.getElem_cons_succ, List.setIfInBounds_toArray, List.set_cons_zero, List.set_cons_succ])
      refine wpAnyH_take (i := 12) rfl (by kernel_rfl) (by kernel_rfl) (by kernel_rfl) (fun _ _ _ h => h) (Or.inr ⟨by rfl, rfl⟩) (by assumption) ?_
      (try simp only [Act.put, List.getElem_toArray, List.getElem_cons_zero, List.getElem_cons_succ, List.setIfInBounds_toArray, List.set_cons_zero, List.set_cons_succ])
      refine wpAnyH_take (i := 13) rfl (by kernel_rfl) (by kernel_rfl) (by kernel_rfl) (fun _ _ _ h => h) (Or.inr ⟨by rfl, rfl⟩) (by assumption) ?_
      (try simp only [Act.put, List.getElem_toArray, List.getElem_cons_zero, List.getElem_cons_succ, List.setIfInBounds_toArray, List.set_cons_zero, List.set_cons_succ])
      refine wpAnyH_take (i := 14) rfl (by kernel_rfl) (by kernel_rfl) (by kernel_rfl) (fun _ _ _ h => h) (Or.inr ⟨by rfl, rfl⟩) (by assumption) ?_
      (try simp only [Act.put, List.getElem_toArray, List.getElem_cons_zero, List.getElem_cons_succ, List.setIfInBounds_toArray, List.set_cons_zero, List.set_cons_succ])
      refine wpAnyH_take (i := 15) rfl (by kernel_rfl) (by kernel_rfl) (by kernel_rfl) (fun _ _ _ h => h) (Or.inr ⟨by rfl, rfl⟩) (by assumption) ?_
      (try simp only [Act.put, List.getElem_toArray, List.getElem_cons_zero, List.getElem_cons_succ, List.setIfInBounds_toArray, List.set_cons_zero, List.set_cons_succ])
      refine wpAnyH_take (i := 16) (v := ?vv14) rfl (by kernel_rfl) (by kernel_rfl) (by kernel_rfl) (fun _ _ _ h => h) (Or.inl ⟨by rfl, ?hy14⟩) (by assumption) ?rest14
      case hy14 => (intro w hSw; (try dsimp only at hSw); go_simp; (try with_reducible rfl))
      (try simp only [Act.put, List.getElem_toArray, List.getElem_cons_zero, List.getElem_cons_succ, List.setIfInBounds_toArray, List.set_cons_zero, List.set_cons_succ])
      refine wpAnyH_done (by kernel_rfl) ?_ _
      have hpost : NewFreshsB (eqnL s t) (eqnB s t) w (.returned (.tuple #[.slice (some ⟨w2.heap.size, 0, none⟩) 0 0, .bool false])) (w2.alloc (.cells #[] 102)) := by
        rw [HNO.out.1, HNO.out.2]
        exact newFreshsB_empty (hb1w.trans (hb2.mono hb1w.size))
      clear hcS hcT hb1 hb2 hb1w HC HX HY HFX HFY HSAME HRIGHT HE HO HNO hbw hsd m0 m1 m2 m3 m4 m5 m6 m7 hHeld
      go_wp2
      go_ret2
      exact hpost
  · have hts' : isTermB s = false := by simpa using hts
    have HNO := Lib.hid (eqn_no1 (t := t) hts')
    rw [hts'] at HX
    go_enter Tryz.func21, Tryz.ntmps21
    go_wp2
    generalize (((w.alloc (.cells #[.int .i64 s.op, .int .i64 s.num, .slice A s.perm.length c, .slice B s.kids.length d] 31)).alloc (.cells #[.int .i64 t.op, .int .i64 t.num, .slice A' t.perm.length c', .slice B' t.kids.length d'] 31)).alloc (.map #[] 0)) = W at hb hs0 hsz0 m0 m1 m2 m3 m4 m5 m6 m7 ⊢
    have hdw : Below W.heap.size W W.drew := ⟨rfl, rfl, rfl, Nat.le_refl _, fun _ _ => rfl⟩
    have hbw : Below w.heap.size w W.drew := hb.trans (hdw.mono hb.size)
    have hszd : W.drew.heap.size = w.heap.size + 3 := hsz0
    have hsd := hs0.below hdw
    have ne (j : Nat) (hj : j < 2) : some (w.heap.size + j) ≠ some (w.heap.size + 1 + 1) := fun e => by injection e with e; omega
    have HC : Hid (∀ w2, W.drew.grownBy w2 (some (w.heap.size + 1 + 1)) → w2.cell? ⟨w.heap.size, 0, none⟩ = some (.int .i64 s.op) ∧ w2.cell? ⟨w.heap.size, 1, none⟩ = some (.int .i64 s.num) ∧ w2.cell? ⟨w.heap.size, 2, none⟩ = some (.slice A s.perm.length c) ∧ w2.cell? ⟨w.heap.size, 3, none⟩ = some (.slice B s.kids.length d) ∧ w2.cell? ⟨w.heap.size + 1, 0, none⟩ = some (.int .i64 t.op) ∧ w2.cell? ⟨w.heap.size + 1, 1, none⟩ = some (.int .i64 t.num) ∧ w2.cell? ⟨w.heap.size + 1, 2, none⟩ = some (.slice A' t.perm.length c') ∧ w2.cell? ⟨w.heap.size + 1, 3, none⟩ = some (.slice B' t.kids.length d')) := Lib.hid fun w2 hg =>
      ⟨hg.cell (a := ⟨w.heap.size, 0, none⟩) m0 (ne 0 (by omega)), hg.cell (a := ⟨w.heap.size, 1, none⟩) m1 (ne 0 (by omega)), hg.cell (a := ⟨w.heap.size, 2, none⟩) m2 (ne 0 (by omega)), hg.cell (a := ⟨w.heap.size, 3, none⟩) m3 (ne 0 (by omega)), hg.cell (a := ⟨w.heap.size + 1, 0, none⟩) m4 (ne 1 (by omega)), hg.cell (a := ⟨w.heap.size + 1, 1, none⟩) m5 (ne 1 (by omega)), hg.cell (a := ⟨w.heap.size + 1, 2, none⟩) m6 (ne 1 (by omega)), hg.cell (a := ⟨w.heap.size + 1, 3, none⟩) m7 (ne 1 (by omega))⟩
    clear hs0 hdw hsz0
    clear m0 m1 m2 m3 m4 m5 m6 m7
    obtain ⟨m0, m1, m2, m3, m4, m5, m6, m7⟩ := HC.out W.drew (grown_of_below (Below.refl _ _) _)
    have hcS := HX.out _ hbw
    refine wp_region_held_drew (S := (fun w' => w'.cell? ⟨w.heap.size, 0, none⟩ = some (.int .i64 s.op) ∧ w'.cell? ⟨w.heap.size, 1, none⟩ = some (.int .i64 s.num) ∧ w'.cell? ⟨w.heap.size, 2, none⟩ = some (.slice A s.perm.length c) ∧ w'.cell? ⟨w.heap.size, 3, none⟩ = some (.slice B s.kids.length d) ∧ w'.cell? ⟨w.heap.size + 1, 0, none⟩ = some (.int .i64 t.op) ∧ w'.cell? ⟨w.heap.size + 1, 1, none⟩ = some (.int .i64 t.num) ∧ w'.cell? ⟨w.heap.size + 1, 2, none⟩ = some (.slice A' t.perm.length c') ∧ w'.cell? ⟨w.heap.size + 1, 3, none⟩ = some (.slice B' t.kids.length d'))) (by kernel_rfl) ⟨m0, m1, m2, m3, m4, m5, m6, m7⟩ (fun hHeld => ?_)
    refine wpAnyH_take (i := 0) (v := ?vv1) rfl (by kernel_rfl) (by kernel_rfl) (by kernel_rfl) (fun _ _ _ h => h) (Or.inl ⟨by rfl, ?hy1⟩) (by assumption) ?rest1
    case hy1 => (intro w hSw; (try dsimp only at hSw); go_simp; (try with_reducible rfl))
    (try simp only [Act.put, List.getElem_toArray, List.getElem_cons_zero, List.setIfInBounds_toArray, List.set_cons_zero, List.set_cons_succ])
    refine wpAnyH_ready (rs := [1]) (by kernel_rfl) (by simp) ?_
    refine AllReadyH.cons rfl (fun K hK => ?_) AllReadyH.nil
    go_simp
    go_at_call 70
    refine hcS.mono ?_
    rintro e w1 ⟨rfl, hb1⟩
    (try go_wp2_with fail)
    refine hK.out _ _ (HC.out w1 (grown_of_below hb1 _)) (fun hHeld => ?_)
    clear hK K
    (try simp only [Act.put, List.getElem_toArray, List.getElem_cons_zero, List.getElem_cons_succ, List.setIfInBounds_toArray, List.set_cons_zero, List.set_cons_succ])
    refine wpAnyH_take (i := 2) (v := ?vv2) rfl (by kernel_rfl) (by kernel_rfl) (by kernel_rfl) (fun _ _ _ h => h) (Or.inl ⟨by rfl, ?hy2⟩) (by assumption) ?rest2
    case hy2 => (intro w hSw; (try dsimp only at hSw); go_simp; (try with_reducible rfl))
    (try simp only [Act.put, List.getElem_toArray, List.getElem_cons_zero, List.getElem_cons_succ, List.setIfInBounds_toArray, List.set_cons_zero, List.set_cons_succ])
    refine wpAnyH_take (i := 3) (v := ?vv3) rfl (by kernel_rfl) (by kernel_rfl) (by kernel_rfl) (fun _ _ _ h => h) (Or.inl ⟨by rfl, ?hy3⟩) (by assumption) ?rest3
    case hy3 => (intro w hSw; (try dsimp only at hSw); go_simp; (try with_reducible rfl))
    (try simp only [Act.put, List.getElem_toArray, List.getElem_cons_zero, List.getElem_cons_succ, List.setIfInBounds_toArray, List.set_cons_zero, List.set_cons_succ])
    refine wpAnyH_take (i := 4) rfl (by kernel_rfl) (by kernel_rfl) (by kernel_rfl) (fun _ _ _ h => h) (Or.inr ⟨by rfl, rfl⟩) (by assumption) ?_
    (try simp only [Act.put, List.getElem_toArray, List.getElem_cons_zero, List.getElem_cons_succ, List.setIfInBounds_toArray, List.set_cons_zero, List.set_cons_succ])
    refine wpAnyH_take (i := 5) rfl (by kernel_rfl) (by kernel_rfl) (by kernel_rfl) (fun _ _ _ h => h) (Or.inr ⟨by rfl, rfl⟩) (by assumption) ?_
    (try simp only [Act.put, List.getElem_toArray, List.getElem_cons_zero, List.getElem_cons_succ, List.setIfInBounds_toArray, List.set_cons_zero, List.set_cons_succ])
    refine wpAnyH_take (i := 6) rfl (by kernel_rfl) (by kernel_rfl) (by kernel_rfl) (fun _ _ _ h => h) (Or.inr ⟨by rfl, rfl⟩) (by assumption) ?_
    (try simp only [Act.put, List.getElem_toArray, List.getElem_cons_zero, List.getElem_cons_succ, List.setIfInBounds_toArray, List.set_cons_zero, List.set_cons_succ])
    refine wpAnyH_take (i := 7) (v := ?vv4) rfl (by kernel_rfl) (by kernel_rfl) (by kernel_rfl) (fun _ _ _ h => h) (Or.inl ⟨by rfl, ?hy4⟩) (by assumption) ?rest4
    case hy4 => (intro w hSw; (try dsimp only at hSw); go_simp; (try with_reducible rfl))
    (try simp only [Act.put, List.getElem_toArray, List.getElem_cons_zero, List.getElem_cons_succ, List.setIfInBounds_toArray, List.set_cons_zero, List.set_cons_succ])
    refine wpAnyH_take (i := 8) (v := ?vv5) rfl (by kernel_rfl) (by kernel_rfl) (by kernel_rfl) (fun _ _ _ h => h) (Or.inl ⟨by rfl, ?hy5⟩) (by assumption) ?rest5
    case hy5 => (intro w hSw; (try dsimp only at hSw); go_simp; (try with_reducible rfl))
    (try simp only [Act.put, List.getElem_toArray, List.getElem_cons_zero, List.getElem_cons_succ, List.setIfInBounds_toArray, List.set_cons_zero, List.set_cons_succ])
    refine wpAnyH_take (i := 9) rfl (by kernel_rfl) (by kernel_rfl) (by kernel_rfl) (fun _ _ _ h => h) (Or.inr ⟨by rfl, rfl⟩) (by assumption) ?_
    (try simp only [Act.put, List.getElem_toArray, List.getElem_cons_zero, List.getElem_cons_succ, List.setIfInBounds_toArray, List.set_cons_zero, List.set_cons_succ])
    refine wpAnyH_take (i := 10) rfl (by kernel_rfl) (by kernel_rfl) (by kernel_rfl) (fun _ _ _ h => h) (Or.inr ⟨by rfl, rfl⟩) (by assumption) ?_
    (try simp only [Act.put, List.getElem_toArray, List.getElem_cons_zero, List.getElem_cons_succ, List.setIfInBounds_toArray, List.set_cons_zero, List.set_cons_succ])
    refine wpAnyH_take (i := 11) rfl (by kernel_rfl) (by kernel_rfl) (by kernel_rfl) (fun _ _ _ h => h) (Or.inr ⟨by rfl, rfl⟩) (by assumption) ?_
    (try simp only [Act.put, List.getElem_toArray, List.getElem_cons_zero, List.getElem_cons_succ, List.setIfInBounds_toArray, List.set_cons_zero, List.set_cons_succ])
    refine wpAnyH_take (i := 12) rfl (by kernel_rfl) (by kernel_rfl) (by kernel_rfl) (fun _ _ _ h => h) (Or.inr ⟨by rfl, rfl⟩) (by assumption) ?_
    (try simp only [Act.put, List.getElem_toArray, List.getElem_cons_zero, List.getElem_cons_succ, List.setIfInBounds_toArray, List.set_cons_zero, List.set_cons_succ])
    refine wpAnyH_take (i := 13) rfl (by kernel_rfl) (by kernel_rfl) (by kernel_rfl) (fun _ _ _ h => h) (Or.inr ⟨by rfl, rfl⟩) (by assumption) ?_
    (try simp only [Act.put, List.getElem_toArray, List.getElem_cons_zero, List.getElem_cons_succ, List.setIfInBounds_toArray, List.set_cons_zero, List.set_cons_succ])
    refine wpAnyH_take (i := 14) rfl (by kernel_rfl) (by kernel_rfl) (by kernel_rfl) (fun _ _ _ h => h) (Or.inr ⟨by rfl, rfl⟩) (by assumption) ?_
    (try simp only [Act.put, List.getElem_toArray, List.getElem_cons_zero, List.getElem_cons_succ, List.setIfInBounds_toArray, List.set_cons_zero, List.set_cons_succ])
    refine wpAnyH_take (i := 15) rfl (by kernel_rfl) (by kernel_rfl) (by kernel_rfl) (fun _ _ _ h => h) (Or.inr ⟨by rfl, rfl⟩) (by assumption) ?_
    (try simp only [Act.put, List.getElem_toArray, List.getElem_cons_zero, List.getElem_cons_succ, List.setIfInBounds_toArray, List.set_cons_zero, List.set_cons_succ])
    refine wpAnyH_take (i := 16) (v := ?vv6) rfl (by kernel_rfl) (by kernel_rfl) (by kernel_rfl) (fun _ _ _ h => h) (Or.inl ⟨by rfl, ?hy6⟩) (by assumption) ?rest6
    case hy6 => (intro w hSw; (try dsimp only at hSw); go_simp; (try with_reducible rfl))
    (try simp only [Act.put, List.getElem_toArray, List.getElem_cons_zero, List.getElem_cons_succ, List.setIfInBounds_toArray, List.set_cons_zero, List.set_cons_succ])
    refine wpAnyH_done (by kernel_rfl) ?_ _
    have hpost : NewFreshsB (eqnL s t) (eqnB s t) w (.returned (.tuple #[.slice (some ⟨w1.heap.size, 0, none⟩) 0 0, .bool false])) (w1.alloc (.cells #[] 102)) := by
      rw [HNO.out.1, HNO.out.2]
      exact newFreshsB_empty (hbw.trans (hb1.mono hbw.size))
    clear hcS hb1 HC HX HY HFX HFY HSAME HRIGHT HE HO HNO hbw hsd m0 m1 m2 m3 m4 m5 m6 m7 hHeld
    go_wp2
    go_ret2
    exact hpost

end Go.Proofs.YtbfkfklaplgebaaGreat
end

section
namespace Go.Proofs.YtbfkfklaplgebaaGreat
open Go.RowKit Go.Sort
set_option linter.unusedVariables false

theorem l3Equal_any : ∀ (N : Nat) (s : Tm), szT s ≤ N → szT s ≤ 60 → ∀ (M : Nat) (t : Tm), M + 2 * N ≤ 1000 → OkP M t → OkP 40 s → szT t ≤ 60 → ShT s → ShT t → ∀ (w : World) (x y : Value), TmIn w x s → TmIn w y t →
    Calls Tryz.prog 68 #[x, y] w (NewFreshsB (sortF (rL s t)) (bL s t) w) := by
  intro N
  induction N with
  | zero => intro s h; rw [szT_eq] at h; omega
  | succ N ih =>
    intro s hN h60 M t hM hPt hPs ht60 hs ht w x y hx hy
    have hlen := rL_len s M (szB M s t) t hs ht hPs hPt (Nat.le_refl _)
    have hmul : szT s * szB M s t ≤ 60 * 1220 := Nat.mul_le_mul h60 (by unfold szB; omega)
    refine l3Equal_step s t x y w hx hy hs ht h60 ht60 (okP_le (by decide) hPs) (okP_le (by omega) hPt) (by omega) (fun h3 hne h1 h2 w' u v hu hv => ?_) (fun i hi hj w' u v hu hv => ?_)
    · have z1 := szT_at h1
      have z2 := szT_at h2
      rw [szT_eq] at hN h60 ht60
      exact ih (tmAt s.kids 0) (by omega) (by omega) (M + 2) (actT (swapL s.num t.num) (tmAt t.kids 0)) (by omega) (okP_le (by have := sw_len s.num t.num; omega) (okP_act (swapL s.num t.num) (okP_at (okP_kids hPt) h2))) (okP_at (okP_kids hPs) h1) (by rw [szT_actT]; omega) (sh_at (sh_kids hs) h1) (sh_act _ (sh_at (sh_kids ht) h2)) w' u v hu hv
    · have z1 := szT_at hi
      have z2 := szT_at hj
      rw [szT_eq] at hN h60 ht60
      exact ih (tmAt s.kids i) (by omega) (by omega) M (tmAt t.kids i) (by omega) (okP_at (okP_kids hPt) hj) (okP_at (okP_kids hPs) hi) (by omega) (sh_at (sh_kids hs) hi) (sh_at (sh_kids ht) hj) w' u v hu hv

theorem ctxB_eq {s t : Tm} (h1 : isTermB s = true) (h2 : isTermB t = true) : ctxB (sortF (eqNd ndT hoNd s t)) = fewB (eqNd ndT hoNd s t) := by
  have hr : rightB (sortF (eqNd ndT hoNd s t)) = true := rightB_of (fun x hx => (eqn_right h1 h2).1 x (mem_sortF.1 hx)) (sortF_asc _)
  unfold ctxB fewB
  rw [hr, Bool.and_true]

set_option maxRecDepth 100000 in
set_option maxHeartbeats 2000000 in
theorem equalNeeds_spec (s t : Tm) (x y : Value) (w : World) (hx : TmIn w x s) (hy : TmIn w y t) (hc : cntT s ≤ 1048576) (hc' : cntT t ≤ 1048576) :
    Calls Tryz.prog 20 #[x, y] w (NewFreshsB (eqnL s t) (eqnB s t) w) := by
  have hx' := hx
  have hy' := hy
  obtain ⟨A, c, kv, rfl, hp, hk⟩ := hx
  obtain ⟨B, d, rfl⟩ := hk.form
  obtain ⟨A', c', kv', rfl, hp', hk'⟩ := hy
  obtain ⟨B', d', rfl⟩ := hk'.form
  have hb0 : Below w.heap.size w ((w.alloc (.cells #[.int .i64 s.op, .int .i64 s.num, .slice A s.perm.length c, .slice B s.kids.length d] 31)).alloc (.cells #[.int .i64 t.op, .int .i64 t.num, .slice A' t.perm.length c', .slice B' t.kids.length d'] 31)) := ((Below.refl _ w).alloc (Nat.le_refl _) _).alloc (by simp) _
  have k0 : ((w.alloc (.cells #[.int .i64 s.op, .int .i64 s.num, .slice A s.perm.length c, .slice B s.kids.length d] 31)).alloc (.cells #[.int .i64 t.op, .int .i64 t.num, .slice A' t.perm.length c', .slice B' t.kids.length d'] 31)).heap[w.heap.size]? = some (.cells #[.int .i64 s.op, .int .i64 s.num, .slice A s.perm.length c, .slice B s.kids.length d] 31 (0, 0)) := (Below.heap_alloc _ _ _ (by simp)).trans (heap_alloc_new w _)
  have k1 : ((w.alloc (.cells #[.int .i64 s.op, .int .i64 s.num, .slice A s.perm.length c, .slice B s.kids.length d] 31)).alloc (.cells #[.int .i64 t.op, .int .i64 t.num, .slice A' t.perm.length c', .slice B' t.kids.length d'] 31)).heap[w.heap.size + 1]? = some (.cells #[.int .i64 t.op, .int .i64 t.num, .slice A' t.perm.length c', .slice B' t.kids.length d'] 31 (0, 0)) := by
    have h := heap_alloc_new (w.alloc (.cells #[.int .i64 s.op, .int .i64 s.num, .slice A s.perm.length c, .slice B s.kids.length d] 31)) (.cells #[.int .i64 t.op, .int .i64 t.num, .slice A' t.perm.length c', .slice B' t.kids.length d'] 31)
    rw [World.size_alloc] at h
    exact h
  have hsz0 : ((w.alloc (.cells #[.int .i64 s.op, .int .i64 s.num, .slice A s.perm.length c, .slice B s.kids.length d] 31)).alloc (.cells #[.int .i64 t.op, .int .i64 t.num, .slice A' t.perm.length c', .slice B' t.kids.length d'] 31)).heap.size = w.heap.size + 2 := by simp
  obtain ⟨a0, a1, a2, a3⟩ := row4' k0
  obtain ⟨a4, a5, a6, a7⟩ := row4' k1
  have HX := Lib.hid (fun W (hW : Below w.heap.size w W) => isTerm_spec s _ _ (hx'.below hW) hc)
  have HY := Lib.hid (fun W (hW : Below w.heap.size w W) => isTerm_spec t _ _ (hy'.below hW) hc')
  have HQ := Lib.hid (fun (h1 : isTermB s = true) (h2 : isTermB t = true) W (hW : Below w.heap.size w W) => l3Equal_any (szT s) s (Nat.le_refl _) (term_size h1) 40 t (by have := term_size h1; omega) (okP_good (term_good h2)) (okP_good (term_good h1)) (term_size h2) (sh_good (term_good h1)) (sh_good (term_good h2)) W _ _ (hx'.below hW) (hy'.below hW))
  clear hp hk hp' hk' hx' hy' k0 k1
  have HC : Hid (∀ w2, Below ((w.alloc (.cells #[.int .i64 s.op, .int .i64 s.num, .slice A s.perm.length c, .slice B s.kids.length d] 31)).alloc (.cells #[.int .i64 t.op, .int .i64 t.num, .slice A' t.perm.length c', .slice B' t.kids.length d'] 31)).heap.size ((w.alloc (.cells #[.int .i64 s.op, .int .i64 s.num, .slice A s.perm.length c, .slice B s.kids.length d] 31)).alloc (.cells #[.int .i64 t.op, .int .i64 t.num, .slice A' t.perm.length c', .slice B' t.kids.length d'] 31)) w2 → w2.cell? ⟨w.heap.size, 0, none⟩ = some (.int .i64 s.op) ∧ w2.cell? ⟨w.heap.size, 1, none⟩ = some (.int .i64 s.num) ∧ w2.cell? ⟨w.heap.size, 2, none⟩ = some (.slice A s.perm.length c) ∧ w2.cell? ⟨w.heap.size, 3, none⟩ = some (.slice B s.kids.length d) ∧ w2.cell? ⟨w.heap.size + 1, 0, none⟩ = some (.int .i64 t.op) ∧ w2.cell? ⟨w.heap.size + 1, 1, none⟩ = some (.int .i64 t.num) ∧ w2.cell? ⟨w.heap.size + 1, 2, none⟩ = some (.slice A' t.perm.length c') ∧ w2.cell? ⟨w.heap.size + 1, 3, none⟩ = some (.slice B' t.kids.length d')) := Lib.hid fun w2 h => ⟨(h.cell (p := ⟨w.heap.size, 0, none⟩) (show w.heap.size < ((w.alloc (.cells #[.int .i64 s.op, .int .i64 s.num, .slice A s.perm.length c, .slice B s.kids.length d] 31)).alloc (.cells #[.int .i64 t.op, .int .i64 t.num, .slice A' t.perm.length c', .slice B' t.kids.length d'] 31)).heap.size by omega)).trans a0, (h.cell (p := ⟨w.heap.size, 1, none⟩) (show w.heap.size < ((w.alloc (.cells #[.int .i64 s.op, .int .i64 s.num, .slice A s.perm.length c, .slice B s.kids.length d] 31)).alloc (.cells #[.int .i64 t.op, .int .i64 t.num, .slice A' t.perm.length c', .slice B' t.kids.length d'] 31)).heap.size by omega)).trans a1, (h.cell (p := ⟨w.heap.size, 2, none⟩) (show w.heap.size < ((w.alloc (.cells #[.int .i64 s.op, .int .i64 s.num, .slice A s.perm.length c, .slice B s.kids.length d] 31)).alloc (.cells #[.int .i64 t.op, .int .i64 t.num, .slice A' t.perm.length c', .slice B' t.kids.length d'] 31)).heap.size by omega)).trans a2, (h.cell (p := ⟨w.heap.size, 3, none⟩) (show w.heap.size < ((w.alloc (.cells #[.int .i64 s.op, .int .i64 s.num, .slice A s.perm.length c, .slice B s.kids.length d] 31)).alloc (.cells #[.int .i64 t.op, .int .i64 t.num, .slice A' t.perm.length c', .slice B' t.kids.length d'] 31)).heap.size by omega)).trans a3, (h.cell (p := ⟨w.heap.size + 1, 0, none⟩) (show w.heap.size + 1 < ((w.alloc (.cells #[.int .i64 s.op, .int .i64 s.num, .slice A s.perm.length c, .slice B s.kids.length d] 31)).alloc (.cells #[.int .i64 t.op, .int .i64 t.num, .slice A' t.perm.length c', .slice B' t.kids.length d'] 31)).heap.size by omega)).trans a4, (h.cell (p := ⟨w.heap.size + 1, 1, none⟩) (show w.heap.size + 1 < ((w.alloc (.cells #[.int .i64 s.op, .int .i64 s.num, .slice A s.perm.length c, .slice B s.kids.length d] 31)).alloc (.cells #[.int .i64 t.op, .int .i64 t.num, .slice A' t.perm.length c', .slice B' t.kids.length d'] 31)).heap.size by omega)).trans a5, (h.cell (p := ⟨w.heap.size + 1, 2, none⟩) (show w.heap.size + 1 < ((w.alloc (.cells #[.int .i64 s.op, .int .i64 s.num, .slice A s.perm.length c, .slice B s.kids.length d] 31)).alloc (.cells #[.int .i64 t.op, .int .i64 t.num, .slice A' t.perm.length c', .slice B' t.kids.length d'] 31)).heap.size by omega)).trans a6, (h.cell (p := ⟨w.heap.size + 1, 3, none⟩) (show w.heap.size + 1 < ((w.alloc (.cells #[.int .i64 s.op, .int .i64 s.num, .slice A s.perm.length c, .slice B s.kids.length d] 31)).alloc (.cells #[.int .i64 t.op, .int .i64 t.num, .slice A' t.perm.length c', .slice B' t.kids.length d'] 31)).heap.size by omega)).trans a7⟩
  have hc1 := HX.out _ hb0
  by_cases hts : isTermB s = true
  · by_cases htt : isTermB t = true
    · have HS := Lib.hid hts
      have HT := Lib.hid htt
      rw [hts] at hc1
      rw [htt] at HY
      have HQ1 := Lib.hid (HQ.out hts htt)
      have HBL := Lib.hid (bL_eq s t (sh_good (term_good hts)) (sh_good (term_good htt)))
      have hcb := ctxB_eq hts htt
      have hlen := Nat.le_trans (sortF_len_le (eqNd ndT hoNd s t)) (eqn_right hts htt).2
      clear hts htt HQ hc hc'
      cases hok : eqOk okT hoOk s t with
      | true =>
        have HYES := Lib.hid (eqn_yes HS.out HT.out hok)
        have hbl := HBL.out.1
        rw [hok] at hbl
        rw [hbl, HBL.out.2 hok] at HQ1
        have HD := Lib.hid (show ctxOf (eqNd ndT hoNd s t) = if fewB (eqNd ndT hoNd s t) then sortF (eqNd ndT hoNd s t) else [] from rfl)
        generalize sortF (eqNd ndT hoNd s t) = S at HQ1 hcb hlen HD
        generalize ctxOf (eqNd ndT hoNd s t) = L at HYES HD
        generalize fewB (eqNd ndT hoNd s t) = fl at HYES HD hcb
        have HCB := Lib.hid hcb
        clear hok hcb hbl HBL HS HT
        go_enter Tryz.func20, Tryz.ntmps20
        go_wp2_with fail
        refine hc1.mono ?_
        rintro e w1 ⟨rfl, hb1⟩
        have hs1 := hb0.trans (hb1.mono hb0.size)
        obtain ⟨b0, b1, b2, b3, b4, b5, b6, b7⟩ := HC.out w1 hb1
        have hc2 := HY.out w1 hs1
        clear hc1 a0 a1 a2 a3 a4 a5 a6 a7
        go_wp2_with fail
        refine hc2.mono ?_
        rintro e w2 ⟨rfl, hb2⟩
        have hs2 := hs1.trans (hb2.mono hs1.size)
        obtain ⟨m0, m1, m2, m3, m4, m5, m6, m7⟩ := HC.out w2 (hb1.trans (hb2.mono hb1.size))
        have hc3 := HQ1.out w2 hs2
        clear hc2 b0 b1 b2 b3 b4 b5 b6 b7 hb1 hb2 hs1 HX HY HC HQ1 hb0 hsz0
        go_wp2_with fail
        refine hc3.mono ?_
        rintro e w3 ⟨v3, rfl, ho3, hb3⟩
        have hs3 := hs2.trans (hb3.mono hs2.size)
        have ho3' := own_le ho3 hs2.size
        obtain ⟨G, cap, rfl, hP⟩ := own_pairsAt ho3
        have hcx := isContext_spec G cap S w3 hP (by omega)
        rw [HCB.out] at hcx
        clear hc3 m0 m1 m2 m3 m4 m5 m6 m7 hb3 hs2 ho3 hP HCB
        cases fl with
        | true =>
          have HR : Hid (L = S) := by show L = S; rw [HD.out]; simp
          go_wp2_with fail
          refine hcx.mono ?_
          rintro e w4 ⟨rfl, hb4⟩
          have hpost : NewFreshsB (eqnL s t) (eqnB s t) w (.returned (.tuple #[.slice G S.length cap, .bool true])) w4 := by
            rw [HYES.out.1, HYES.out.2, HR.out]
            exact ⟨_, rfl, own_below ho3' hb4, hs3.trans (hb4.mono hs3.size)⟩
          clear hcx ho3' hb4 hs3 HR HD HYES
          go_wp2
          go_ret2
          exact hpost
        | false =>
          have HR : L = [] := by rw [HD.out]; simp
          subst HR
          go_wp2_with fail
          refine hcx.mono ?_
          rintro e w4 ⟨rfl, hb4⟩
          have hpost : NewFreshsB (eqnL s t) (eqnB s t) w (.returned (.tuple #[.slice (some ⟨w4.heap.size, 0, none⟩) 0 0, .bool false])) (w4.alloc (.cells #[] 102)) := by
            rw [HYES.out.1, HYES.out.2]
            exact newFreshsB_empty (hs3.trans (hb4.mono hs3.size))
          clear hcx ho3' hb4 hs3 HD HYES
          go_wp2
          go_ret2
          exact hpost
      | false =>
        have HNO := Lib.hid (eqn_no3 hok)
        have hbl := HBL.out.1
        rw [hok] at hbl
        rw [hbl] at HQ1
        generalize sortF (rL s t) = S at HQ1
        clear hok hcb hbl HBL HS HT hlen
        go_enter Tryz.func20, Tryz.ntmps20
        go_wp2_with fail
        refine hc1.mono ?_
        rintro e w1 ⟨rfl, hb1⟩
        have hs1 := hb0.trans (hb1.mono hb0.size)
        obtain ⟨b0, b1, b2, b3, b4, b5, b6, b7⟩ := HC.out w1 hb1
        have hc2 := HY.out w1 hs1
        clear hc1 a0 a1 a2 a3 a4 a5 a6 a7
        go_wp2_with fail
        refine hc2.mono ?_
        rintro e w2 ⟨rfl, hb2⟩
        have hs2 := hs1.trans (hb2.mono hs1.size)
        obtain ⟨m0, m1, m2, m3, m4, m5, m6, m7⟩ := HC.out w2 (hb1.trans (hb2.mono hb1.size))
        have hc3 := HQ1.out w2 hs2
        clear hc2 b0 b1 b2 b3 b4 b5 b6 b7 hb1 hb2 hs1 HX HY HC HQ1 hb0 hsz0
        go_wp2_with fail
        refine hc3.mono ?_
        rintro e w3 ⟨v3, rfl, ho3, hb3⟩
        have hpost : NewFreshsB (eqnL s t) (eqnB s t) w (.returned (.tuple #[.slice (some ⟨w3.heap.size, 0, none⟩) 0 0, .bool false])) (w3.alloc (.cells #[] 102)) := by
          rw [HNO.out.1, HNO.out.2]
          exact newFreshsB_empty (hs2.trans (hb3.mono hs2.size))
        clear hc3 m0 m1 m2 m3 m4 m5 m6 m7 hb3 hs2 ho3 HNO
        go_wp2
        go_ret2
        exact hpost
    · have htt' : isTermB t = false := by simpa using htt
      have HNO := Lib.hid (eqn_no2 (s := s) htt')
      rw [hts] at hc1
      rw [htt'] at HY
      clear hts htt htt' hc hc' HQ
      go_enter Tryz.func20, Tryz.ntmps20
      go_wp2_with fail
      refine hc1.mono ?_
      rintro e w1 ⟨rfl, hb1⟩
      have hs1 := hb0.trans (hb1.mono hb0.size)
      obtain ⟨b0, b1, b2, b3, b4, b5, b6, b7⟩ := HC.out w1 hb1
      have hc2 := HY.out w1 hs1
      clear hc1 a0 a1 a2 a3 a4 a5 a6 a7
      go_wp2_with fail
      refine hc2.mono ?_
      rintro e w2 ⟨rfl, hb2⟩
      have hpost : NewFreshsB (eqnL s t) (eqnB s t) w (.returned (.tuple #[.slice (some ⟨w2.heap.size, 0, none⟩) 0 0, .bool false])) (w2.alloc (.cells #[] 102)) := by
        rw [HNO.out.1, HNO.out.2]
        exact newFreshsB_empty (hs1.trans (hb2.mono hs1.size))
      clear hc2 b0 b1 b2 b3 b4 b5 b6 b7 hb1 hb2 hs1 HX HY HC HNO hb0 hsz0
      go_wp2
      go_ret2
      exact hpost
  · have hts' : isTermB s = false := by simpa using hts
    have HNO := Lib.hid (eqn_no1 (t := t) hts')
    rw [hts'] at hc1
    clear hts hts' hc hc' HQ
    go_enter Tryz.func20, Tryz.ntmps20
    go_wp2_with fail
    refine hc1.mono ?_
    rintro e w1 ⟨rfl, hb1⟩
    have hpost : NewFreshsB (eqnL s t) (eqnB s t) w (.returned (.tuple #[.slice (some ⟨w1.heap.size, 0, none⟩) 0 0, .bool false])) (w1.alloc (.cells #[] 102)) := by
      rw [HNO.out.1, HNO.out.2]
      exact newFreshsB_empty (hb0.trans (hb1.mono hb0.size))
    clear hc1 hb1 HX HY HC HNO hb0 hsz0 a0 a1 a2 a3 a4 a5 a6 a7
    go_wp2
    go_ret2
    exact hpost

end Go.Proofs.YtbfkfklaplgebaaGreat
end

