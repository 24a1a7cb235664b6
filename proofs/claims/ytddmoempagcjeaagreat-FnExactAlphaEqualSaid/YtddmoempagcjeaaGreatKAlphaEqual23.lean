/-
  AlphaEqual in the program, as a contract. The comparison of terms without holes as the model makes it: plain words.
-/
import Derived.Test.YtddmoempagcjeaaGreatKAlphaEqual21
import Derived.Test.YtddmoempagcjeaaGreatKAlphaEqual22
import Derived.Laws.EntriesVeiled
import Derived.Test.YtddmoempagcjeaaGreatKAlphaEqual19
section
namespace Go.Proofs.YtddmoempagcjeaaGreat
open Go.RowKit Go.Sort Go.ChangeShapes Go.WideShapes
set_option linter.unusedVariables false

def alB (s t : Tm) : Bool := groundB s && (groundB t && eqOk frG hoG s t)
theorem al_no1 {s t : Tm} (h : groundB s = false) : alB s t = false := by simp [alB, h]
theorem al_no2 {s t : Tm} (h : groundB t = false) : alB s t = false := by simp [alB, h]
theorem al_yes {s t : Tm} (h1 : groundB s = true) (h2 : groundB t = true) : alB s t = eqOk frG hoG s t := by simp [alB, h1, h2]
theorem ground_no {t : Tm} (h : groundB t = true) : holesB t = false := by
  unfold groundB at h
  simp only [Bool.and_eq_true] at h
  simpa using h.2

set_option maxRecDepth 100000 in
set_option maxHeartbeats 4000000 in
theorem alphaEqual_impl (s t : Tm) (x y : Value) (w : World) (hx : TmIn w x s) (hy : TmIn w y t) (hf : Fit s) (hf' : Fit t) :
    Calls Tryz.prog 24 #[x, y] w (BoolPost (alB s t) w) := by
  have hx' := hx
  have hy' := hy
  obtain ⟨A, c, kv, rfl, hp, hk⟩ := hx
  obtain ⟨B, d, rfl⟩ := hk.form
  obtain ⟨A', c', kv', rfl, hp', hk'⟩ := hy
  obtain ⟨B', d', rfl⟩ := hk'.form
  have hbV : Below w.heap.size w ((w.alloc (.cells #[.int .i64 s.op, .int .i64 s.num, .slice A s.perm.length c, .slice B s.kids.length d] 35)).alloc (.cells #[.int .i64 t.op, .int .i64 t.num, .slice A' t.perm.length c', .slice B' t.kids.length d'] 35)) := ((Below.refl _ w).alloc (Nat.le_refl _) _).alloc (by simp) _
  have k0 : ((w.alloc (.cells #[.int .i64 s.op, .int .i64 s.num, .slice A s.perm.length c, .slice B s.kids.length d] 35)).alloc (.cells #[.int .i64 t.op, .int .i64 t.num, .slice A' t.perm.length c', .slice B' t.kids.length d'] 35)).heap[w.heap.size]? = some (.cells #[.int .i64 s.op, .int .i64 s.num, .slice A s.perm.length c, .slice B s.kids.length d] 35 (0, 0)) := (Below.heap_alloc _ _ _ (by simp)).trans (heap_alloc_new w _)
  have k1 : ((w.alloc (.cells #[.int .i64 s.op, .int .i64 s.num, .slice A s.perm.length c, .slice B s.kids.length d] 35)).alloc (.cells #[.int .i64 t.op, .int .i64 t.num, .slice A' t.perm.length c', .slice B' t.kids.length d'] 35)).heap[w.heap.size + 1]? = some (.cells #[.int .i64 t.op, .int .i64 t.num, .slice A' t.perm.length c', .slice B' t.kids.length d'] 35 (0, 0)) := by
    have h := heap_alloc_new (w.alloc (.cells #[.int .i64 s.op, .int .i64 s.num, .slice A s.perm.length c, .slice B s.kids.length d] 35)) (.cells #[.int .i64 t.op, .int .i64 t.num, .slice A' t.perm.length c', .slice B' t.kids.length d'] 35)
    rw [World.size_alloc] at h
    exact h
  have hszV : ((w.alloc (.cells #[.int .i64 s.op, .int .i64 s.num, .slice A s.perm.length c, .slice B s.kids.length d] 35)).alloc (.cells #[.int .i64 t.op, .int .i64 t.num, .slice A' t.perm.length c', .slice B' t.kids.length d'] 35)).heap.size = w.heap.size + 2 := by simp
  have HX := Lib.hid (fun W (hW : Below w.heap.size w W) => ground_impl s _ _ (hx'.below hW) hf)
  have HY := Lib.hid (fun W (hW : Below w.heap.size w W) => ground_impl t _ _ (hy'.below hW) hf')
  have HFX := Lib.hid (fun (hg : groundB s = true) W (hW : Below w.heap.size w W) => formOf_any (szT s) s (Nat.le_refl _) (term_good (ground_term hg)) w W _ hx' hW)
  have HFY := Lib.hid (fun (hg : groundB t = true) W (hW : Below w.heap.size w W) => formOf_any (szT t) t (Nat.le_refl _) (term_good (ground_term hg)) w W _ hy' hW)
  have HSAME := Lib.hid (fun (h1 : groundB s = true) (h2 : groundB t = true) (W : World) (v u : Value) hv hu => gSame (szT s) s (Nat.le_refl _) (ground_no h1) 40 t (by have := term_size (ground_term h1); omega) (okP_good (term_good (ground_term h2))) (by have := term_size (ground_term h2); omega) W v u hv hu)
  obtain ⟨v0, v1, v2, v3⟩ := BoxR.row4 k0
  obtain ⟨v4, v5, v6, v7⟩ := BoxR.row4 k1
  clear hp hk hp' hk' hx' hy' hf hf' k0 k1
  by_cases hts : groundB s = true
  · by_cases htt : groundB t = true
    · rw [hts] at HX
      rw [htt] at HY
      have HYES := Lib.hid (al_yes hts htt)
      go_enter Tryz.func24, Tryz.ntmps24
      go_upto_region 1 with fail
      generalize ((w.alloc (.cells #[.int .i64 s.op, .int .i64 s.num, .slice A s.perm.length c, .slice B s.kids.length d] 35)).alloc (.cells #[.int .i64 t.op, .int .i64 t.num, .slice A' t.perm.length c', .slice B' t.kids.length d'] 35)) = V at hbV hszV v0 v1 v2 v3 v4 v5 v6 v7 ⊢
      have HSZ := Lib.hid hszV
      clear hszV
      go_wp2
      have hszV := HSZ.out
      clear HSZ
      have hb : Below w.heap.size w (V.alloc (.cells #[.func (.func 51) #[] #[], .func (.func 53) #[] #[]] 78)) := hbV.alloc hbV.size _
      have hsz0 : (V.alloc (.cells #[.func (.func 51) #[] #[], .func (.func 53) #[] #[]] 78)).heap.size = w.heap.size + 3 := by rw [World.size_alloc]; omega
      have hb3 : Below V.heap.size V (V.alloc (.cells #[.func (.func 51) #[] #[], .func (.func 53) #[] #[]] 78)) := (Below.refl _ _).alloc (Nat.le_refl _) _
      obtain ⟨m8, m9, _, _⟩ := row2 (heap_alloc_new V (.cells #[.func (.func 51) #[] #[], .func (.func 53) #[] #[]] 78))
      have m0 := (hb3.cell (p := ⟨w.heap.size, 0, none⟩) (show w.heap.size < V.heap.size by omega)).trans v0
      have m1 := (hb3.cell (p := ⟨w.heap.size, 1, none⟩) (show w.heap.size < V.heap.size by omega)).trans v1
      have m2 := (hb3.cell (p := ⟨w.heap.size, 2, none⟩) (show w.heap.size < V.heap.size by omega)).trans v2
      have m3 := (hb3.cell (p := ⟨w.heap.size, 3, none⟩) (show w.heap.size < V.heap.size by omega)).trans v3
      have m4 := (hb3.cell (p := ⟨w.heap.size + 1, 0, none⟩) (show w.heap.size + 1 < V.heap.size by omega)).trans v4
      have m5 := (hb3.cell (p := ⟨w.heap.size + 1, 1, none⟩) (show w.heap.size + 1 < V.heap.size by omega)).trans v5
      have m6 := (hb3.cell (p := ⟨w.heap.size + 1, 2, none⟩) (show w.heap.size + 1 < V.heap.size by omega)).trans v6
      have m7 := (hb3.cell (p := ⟨w.heap.size + 1, 3, none⟩) (show w.heap.size + 1 < V.heap.size by omega)).trans v7
      clear hbV v0 v1 v2 v3 v4 v5 v6 v7 hb3
      generalize (V.alloc (.cells #[.func (.func 51) #[] #[], .func (.func 53) #[] #[]] 78)) = W at hb hsz0 m0 m1 m2 m3 m4 m5 m6 m7 m8 m9 ⊢
      have hdw : Below W.heap.size W W.drew := ⟨rfl, rfl, rfl, Nat.le_refl _, fun _ _ => rfl⟩
      have hbw : Below w.heap.size w W.drew := hb.trans (hdw.mono hb.size)
      have HC : Hid (∀ w2, Below W.drew.heap.size W.drew w2 → w2.cell? ⟨w.heap.size, 0, none⟩ = some (.int .i64 s.op) ∧ w2.cell? ⟨w.heap.size, 1, none⟩ = some (.int .i64 s.num) ∧ w2.cell? ⟨w.heap.size, 2, none⟩ = some (.slice A s.perm.length c) ∧ w2.cell? ⟨w.heap.size, 3, none⟩ = some (.slice B s.kids.length d) ∧ w2.cell? ⟨w.heap.size + 1, 0, none⟩ = some (.int .i64 t.op) ∧ w2.cell? ⟨w.heap.size + 1, 1, none⟩ = some (.int .i64 t.num) ∧ w2.cell? ⟨w.heap.size + 1, 2, none⟩ = some (.slice A' t.perm.length c') ∧ w2.cell? ⟨w.heap.size + 1, 3, none⟩ = some (.slice B' t.kids.length d') ∧ w2.cell? ⟨V.heap.size, 0, none⟩ = some (.func (.func 51) #[] #[]) ∧ w2.cell? ⟨V.heap.size, 1, none⟩ = some (.func (.func 53) #[] #[])) := Lib.hid fun w2 hg =>
        ⟨(hg.cell (p := ⟨w.heap.size, 0, none⟩) (show w.heap.size < W.drew.heap.size from by show w.heap.size < W.heap.size; omega)).trans m0, (hg.cell (p := ⟨w.heap.size, 1, none⟩) (show w.heap.size < W.drew.heap.size from by show w.heap.size < W.heap.size; omega)).trans m1, (hg.cell (p := ⟨w.heap.size, 2, none⟩) (show w.heap.size < W.drew.heap.size from by show w.heap.size < W.heap.size; omega)).trans m2, (hg.cell (p := ⟨w.heap.size, 3, none⟩) (show w.heap.size < W.drew.heap.size from by show w.heap.size < W.heap.size; omega)).trans m3, (hg.cell (p := ⟨w.heap.size + 1, 0, none⟩) (show w.heap.size + 1 < W.drew.heap.size from by show w.heap.size + 1 < W.heap.size; omega)).trans m4, (hg.cell (p := ⟨w.heap.size + 1, 1, none⟩) (show w.heap.size + 1 < W.drew.heap.size from by show w.heap.size + 1 < W.heap.size; omega)).trans m5, (hg.cell (p := ⟨w.heap.size + 1, 2, none⟩) (show w.heap.size + 1 < W.drew.heap.size from by show w.heap.size + 1 < W.heap.size; omega)).trans m6, (hg.cell (p := ⟨w.heap.size + 1, 3, none⟩) (show w.heap.size + 1 < W.drew.heap.size from by show w.heap.size + 1 < W.heap.size; omega)).trans m7, (hg.cell (p := ⟨V.heap.size, 0, none⟩) (show V.heap.size < W.drew.heap.size from by show V.heap.size < W.heap.size; omega)).trans m8, (hg.cell (p := ⟨V.heap.size, 1, none⟩) (show V.heap.size < W.drew.heap.size from by show V.heap.size < W.heap.size; omega)).trans m9⟩
      clear hdw hsz0 hszV
      clear m0 m1 m2 m3 m4 m5 m6 m7 m8 m9
      obtain ⟨m0, m1, m2, m3, m4, m5, m6, m7, m8, m9⟩ := HC.out W.drew (Below.refl _ _)
      have hcS := HX.out _ hbw
      generalize eqOk frG hoG s t = r at HSAME HYES
      go_region_held3 (fun w' => w'.cell? ⟨w.heap.size, 0, none⟩ = some (.int .i64 s.op) ∧ w'.cell? ⟨w.heap.size, 1, none⟩ = some (.int .i64 s.num) ∧ w'.cell? ⟨w.heap.size, 2, none⟩ = some (.slice A s.perm.length c) ∧ w'.cell? ⟨w.heap.size, 3, none⟩ = some (.slice B s.kids.length d) ∧ w'.cell? ⟨w.heap.size + 1, 0, none⟩ = some (.int .i64 t.op) ∧ w'.cell? ⟨w.heap.size + 1, 1, none⟩ = some (.int .i64 t.num) ∧ w'.cell? ⟨w.heap.size + 1, 2, none⟩ = some (.slice A' t.perm.length c') ∧ w'.cell? ⟨w.heap.size + 1, 3, none⟩ = some (.slice B' t.kids.length d') ∧ w'.cell? ⟨V.heap.size, 0, none⟩ = some (.func (.func 51) #[] #[]) ∧ w'.cell? ⟨V.heap.size, 1, none⟩ = some (.func (.func 53) #[] #[]))
        (first | (with_reducible exact ⟨by assumption, by assumption, by assumption, by assumption, by assumption, by assumption, by assumption, by assumption, by assumption, by assumption⟩) | ((try dsimp only); exact ⟨by assumption, by assumption, by assumption, by assumption, by assumption, by assumption, by assumption, by assumption, by assumption, by assumption⟩) | go_keep)
        (first
          | (go_at_call_of 54 A; refine hcS.mono ?_; rintro e w1 ⟨rfl, hb1⟩; have hb1w := hbw.trans (hb1.mono hbw.size); obtain ⟨a0, a1, a2, a3, a4, a5, a6, a7, a8, a9⟩ := HC.out w1 hb1; have hcT := HY.out w1 hb1w)
          | (go_at_call_of 54 A'; refine hcT.mono ?_; rintro e w2 ⟨rfl, hb2⟩; have hb2w := hb1w.trans (hb2.mono hb1w.size); have hg2 := hb1.trans (hb2.mono hb1.size); obtain ⟨b0, b1, b2, b3, b4, b5, b6, b7, b8, b9⟩ := HC.out w2 hg2; have hfS := HFX.out hts w2 hb2w)
          | (go_at_call_of 45 A; refine hfS.mono ?_; rintro e w3 ⟨fv, rfl, hfv, hb3⟩; obtain ⟨fa, rfl⟩ := hfv.iface; have hb3w := hb2w.trans (hb3.mono hb2w.size); have hg3 := hg2.trans (hb3.mono hg2.size); obtain ⟨r0, r1, r2, r3, r4, r5, r6, r7, r8, r9⟩ := HC.out w3 hg3; have hv3 := hfv.any; have hfT := HFY.out htt w3 hb3w)
          | (go_at_call_of 45 A'; refine hfT.mono ?_; rintro e w4 ⟨fu, rfl, hfu, hb4⟩; obtain ⟨fb, rfl⟩ := hfu.iface; have hb4w := hb3w.trans (hb4.mono hb3w.size); have hg4 := hg3.trans (hb4.mono hg3.size); obtain ⟨s0, s1, s2, s3, s4, s5, s6, s7, s8, s9⟩ := HC.out w4 hg4; have hcA := HSAME.out hts htt w4 _ _ (hv3.keep hb4) hfu.any)
          | (go_at_call 55; refine hcA.mono ?_; rintro e w5 ⟨rfl, hb5⟩; have hg5 := hg4.trans (hb5.mono hg4.size); obtain ⟨q0, q1, q2, q3, q4, q5, q6, q7, q8, q9⟩ := HC.out w5 hg5)
          | fail)
      have hpost : BoolPost (alB s t) w (.returned (.bool r)) w5 := ⟨by rw [HYES.out], hb4w.trans (hb5.mono hb4w.size)⟩
      clear hcS hcT hfS hfT hcA HC HX HY HFX HFY HSAME HYES hfv hfu hv3 hb1 hb2 hb3 hb4 hb5 hb1w hb2w hb3w hb4w hg2 hg3 hg4 hg5 hbw m0 m1 m2 m3 m4 m5 m6 m7 m8 m9 a0 a1 a2 a3 a4 a5 a6 a7 a8 a9 b0 b1 b2 b3 b4 b5 b6 b7 b8 b9 r0 r1 r2 r3 r4 r5 r6 r7 r8 r9 s0 s1 s2 s3 s4 s5 s6 s7 s8 s9 q0 q1 q2 q3 q4 q5 q6 q7 q8 q9
      go_wp2
      go_ret
      exact hpost
    · have htt' : groundB t = false := by simpa using htt
      have HNO := Lib.hid (al_no2 (s := s) htt')
      rw [hts] at HX
      rw [htt'] at HY
      go_enter Tryz.func24, Tryz.ntmps24
      go_upto_region 1 with fail
      generalize ((w.alloc (.cells #[.int .i64 s.op, .int .i64 s.num, .slice A s.perm.length c, .slice B s.kids.length d] 35)).alloc (.cells #[.int .i64 t.op, .int .i64 t.num, .slice A' t.perm.length c', .slice B' t.kids.length d'] 35)) = V at hbV hszV v0 v1 v2 v3 v4 v5 v6 v7 ⊢
      have HSZ := Lib.hid hszV
      clear hszV
      go_wp2
      have hszV := HSZ.out
      clear HSZ
      have hb : Below w.heap.size w (V.alloc (.cells #[.func (.func 51) #[] #[], .func (.func 53) #[] #[]] 78)) := hbV.alloc hbV.size _
      have hsz0 : (V.alloc (.cells #[.func (.func 51) #[] #[], .func (.func 53) #[] #[]] 78)).heap.size = w.heap.size + 3 := by rw [World.size_alloc]; omega
      have hb3 : Below V.heap.size V (V.alloc (.cells #[.func (.func 51) #[] #[], .func (.func 53) #[] #[]] 78)) := (Below.refl _ _).alloc (Nat.le_refl _) _
      obtain ⟨m8, m9, _, _⟩ := row2 (heap_alloc_new V (.cells #[.func (.func 51) #[] #[], .func (.func 53) #[] #[]] 78))
      have m0 := (hb3.cell (p := ⟨w.heap.size, 0, none⟩) (show w.heap.size < V.heap.size by omega)).trans v0
      have m1 := (hb3.cell (p := ⟨w.heap.size, 1, none⟩) (show w.heap.size < V.heap.size by omega)).trans v1
      have m2 := (hb3.cell (p := ⟨w.heap.size, 2, none⟩) (show w.heap.size < V.heap.size by omega)).trans v2
      have m3 := (hb3.cell (p := ⟨w.heap.size, 3, none⟩) (show w.heap.size < V.heap.size by omega)).trans v3
      have m4 := (hb3.cell (p := ⟨w.heap.size + 1, 0, none⟩) (show w.heap.size + 1 < V.heap.size by omega)).trans v4
      have m5 := (hb3.cell (p := ⟨w.heap.size + 1, 1, none⟩) (show w.heap.size + 1 < V.heap.size by omega)).trans v5
      have m6 := (hb3.cell (p := ⟨w.heap.size + 1, 2, none⟩) (show w.heap.size + 1 < V.heap.size by omega)).trans v6
      have m7 := (hb3.cell (p := ⟨w.heap.size + 1, 3, none⟩) (show w.heap.size + 1 < V.heap.size by omega)).trans v7
      clear hbV v0 v1 v2 v3 v4 v5 v6 v7 hb3
      generalize (V.alloc (.cells #[.func (.func 51) #[] #[], .func (.func 53) #[] #[]] 78)) = W at hb hsz0 m0 m1 m2 m3 m4 m5 m6 m7 m8 m9 ⊢
      have hdw : Below W.heap.size W W.drew := ⟨rfl, rfl, rfl, Nat.le_refl _, fun _ _ => rfl⟩
      have hbw : Below w.heap.size w W.drew := hb.trans (hdw.mono hb.size)
      have HC : Hid (∀ w2, Below W.drew.heap.size W.drew w2 → w2.cell? ⟨w.heap.size, 0, none⟩ = some (.int .i64 s.op) ∧ w2.cell? ⟨w.heap.size, 1, none⟩ = some (.int .i64 s.num) ∧ w2.cell? ⟨w.heap.size, 2, none⟩ = some (.slice A s.perm.length c) ∧ w2.cell? ⟨w.heap.size, 3, none⟩ = some (.slice B s.kids.length d) ∧ w2.cell? ⟨w.heap.size + 1, 0, none⟩ = some (.int .i64 t.op) ∧ w2.cell? ⟨w.heap.size + 1, 1, none⟩ = some (.int .i64 t.num) ∧ w2.cell? ⟨w.heap.size + 1, 2, none⟩ = some (.slice A' t.perm.length c') ∧ w2.cell? ⟨w.heap.size + 1, 3, none⟩ = some (.slice B' t.kids.length d') ∧ w2.cell? ⟨V.heap.size, 0, none⟩ = some (.func (.func 51) #[] #[]) ∧ w2.cell? ⟨V.heap.size, 1, none⟩ = some (.func (.func 53) #[] #[])) := Lib.hid fun w2 hg =>
        ⟨(hg.cell (p := ⟨w.heap.size, 0, none⟩) (show w.heap.size < W.drew.heap.size from by show w.heap.size < W.heap.size; omega)).trans m0, (hg.cell (p := ⟨w.heap.size, 1, none⟩) (show w.heap.size < W.drew.heap.size from by show w.heap.size < W.heap.size; omega)).trans m1, (hg.cell (p := ⟨w.heap.size, 2, none⟩) (show w.heap.size < W.drew.heap.size from by show w.heap.size < W.heap.size; omega)).trans m2, (hg.cell (p := ⟨w.heap.size, 3, none⟩) (show w.heap.size < W.drew.heap.size from by show w.heap.size < W.heap.size; omega)).trans m3, (hg.cell (p := ⟨w.heap.size + 1, 0, none⟩) (show w.heap.size + 1 < W.drew.heap.size from by show w.heap.size + 1 < W.heap.size; omega)).trans m4, (hg.cell (p := ⟨w.heap.size + 1, 1, none⟩) (show w.heap.size + 1 < W.drew.heap.size from by show w.heap.size + 1 < W.heap.size; omega)).trans m5, (hg.cell (p := ⟨w.heap.size + 1, 2, none⟩) (show w.heap.size + 1 < W.drew.heap.size from by show w.heap.size + 1 < W.heap.size; omega)).trans m6, (hg.cell (p := ⟨w.heap.size + 1, 3, none⟩) (show w.heap.size + 1 < W.drew.heap.size from by show w.heap.size + 1 < W.heap.size; omega)).trans m7, (hg.cell (p := ⟨V.heap.size, 0, none⟩) (show V.heap.size < W.drew.heap.size from by show V.heap.size < W.heap.size; omega)).trans m8, (hg.cell (p := ⟨V.heap.size, 1, none⟩) (show V.heap.size < W.drew.heap.size from by show V.heap.size < W.heap.size; omega)).trans m9⟩
      clear hdw hsz0 hszV
      clear m0 m1 m2 m3 m4 m5 m6 m7 m8 m9
      obtain ⟨m0, m1, m2, m3, m4, m5, m6, m7, m8, m9⟩ := HC.out W.drew (Below.refl _ _)
      have hcS := HX.out _ hbw
      refine wp_region_held_drew (S := (fun w' => w'.cell? ⟨w.heap.size, 0, none⟩ = some (.int .i64 s.op) ∧ w'.cell? ⟨w.heap.size, 1, none⟩ = some (.int .i64 s.num) ∧ w'.cell? ⟨w.heap.size, 2, none⟩ = some (.slice A s.perm.length c) ∧ w'.cell? ⟨w.heap.size, 3, none⟩ = some (.slice B s.kids.length d) ∧ w'.cell? ⟨w.heap.size + 1, 0, none⟩ = some (.int .i64 t.op) ∧ w'.cell? ⟨w.heap.size + 1, 1, none⟩ = some (.int .i64 t.num) ∧ w'.cell? ⟨w.heap.size + 1, 2, none⟩ = some (.slice A' t.perm.length c') ∧ w'.cell? ⟨w.heap.size + 1, 3, none⟩ = some (.slice B' t.kids.length d') ∧ w'.cell? ⟨V.heap.size, 0, none⟩ = some (.func (.func 51) #[] #[]) ∧ w'.cell? ⟨V.heap.size, 1, none⟩ = some (.func (.func 53) #[] #[]))) (by kernel_rfl) ⟨m0, m1, m2, m3, m4, m5, m6, m7, m8, m9⟩ (fun hHeld => ?_)
      refine wpAnyH_take (i := 0) (v := ?vv7) rfl (by kernel_rfl) (by kernel_rfl) (by kernel_rfl) (fun _ _ _ h => h) (Or.inl ⟨by rfl, ?hy7⟩) (by assumption) ?rest7
      case hy7 => (intro w hSw; (try dsimp only at hSw); go_simp; (try with_reducible rfl))
      (try simp only [Act.put, List.getElem_toArray, List.getElem_cons_zero, List.setIfInBounds_toArray, List.set_cons_zero, List.set_cons_succ])
      refine wpAnyH_ready (rs := [1]) (by kernel_rfl) (by simp) ?_
      refine AllReadyH.cons rfl (fun K hK => ?_) AllReadyH.nil
      go_simp
      go_at_call 54
      refine hcS.mono ?_
      rintro e w1 ⟨rfl, hb1⟩
      (try go_wp2_with fail)
      refine hK.out _ _ (HC.out w1 hb1) (fun hHeld => ?_)
      clear hK K
      (try simp only [Act.put, List.getElem_toArray, List.getElem_cons_zero, List.getElem_cons_succ, List.setIfInBounds_toArray, List.set_cons_zero, List.set_cons_succ])
      have hb1w := hbw.trans (hb1.mono hbw.size)
      have hcT := HY.out w1 hb1w
      refine wpAnyH_take (i := 2) (v := ?vv8) rfl (by kernel_rfl) (by kernel_rfl) (by kernel_rfl) (fun _ _ _ h => h) (Or.inl ⟨by rfl, ?hy8⟩) (by assumption) ?rest8
      case hy8 => (intro w hSw; (try dsimp only at hSw); go_simp; (try with_reducible rfl))
      (try simp only [Act.put, List.getElem_toArray, List.getElem_cons_zero, List.getElem_cons_succ, List.setIfInBounds_toArray, List.set_cons_zero, List.set_cons_succ])
      refine wpAnyH_take (i := 3) (v := ?vv9) rfl (by kernel_rfl) (by kernel_rfl) (by kernel_rfl) (fun _ _ _ h => h) (Or.inl ⟨by rfl, ?hy9⟩) (by assumption) ?rest9
      case hy9 => (intro w hSw; (try dsimp only at hSw); go_simp; (try with_reducible rfl))
      (try simp only [Act.put, List.getElem_toArray, List.getElem_cons_zero, List.getElem_cons_succ, List.setIfInBounds_toArray, List.set_cons_zero, List.set_cons_succ])
      refine wpAnyH_ready (rs := [4]) (by kernel_rfl) (by simp) ?_
      refine AllReadyH.cons rfl (fun K hK => ?_) AllReadyH.nil
      go_simp
      go_at_call 54
      refine hcT.mono ?_
      rintro e w2 ⟨rfl, hb2⟩
      (try go_wp2_with fail)
      refine hK.out _ _ (HC.out w2 (hb1.trans (hb2.mono hb1.size))) (fun hHeld => ?_)
      clear hK K
      (try simp only [Act.put, List.getElem_toArray, List.getElem_cons_zero, List.getElem_cons_succ, List.setIfInBounds_toArray, List.set_cons_zero, List.set_cons_succ])
      refine wpAnyH_take (i := 5) (v := ?vv10) rfl (by kernel_rfl) (by kernel_rfl) (by kernel_rfl) (fun _ _ _ h => h) (Or.inl ⟨by rfl, ?hy10⟩) (by assumption) ?rest10
      case hy10 => (intro w hSw; (try dsimp only at hSw); go_simp; (try with_reducible rfl))
      (try simp only [Act.put, List.getElem_toArray, List.getElem_cons_zero, List.getElem_cons_succ, List.setIfInBounds_toArray, List.set_cons_zero, List.set_cons_succ])
      refine wpAnyH_take (i := 6) (v := ?vv11) rfl (by kernel_rfl) (by kernel_rfl) (by kernel_rfl) (fun _ _ _ h => h) (Or.inl ⟨by rfl, ?hy11⟩) (by assumption) ?rest11
      case hy11 => (intro w hSw; (try dsimp only at hSw); go_simp; (try with_reducible rfl))
      (try simp only [Act.put, List.getElem_toArray, List.getElem_cons_zero, List.getElem_cons_succ, List.setIfInBounds_toArray, List.set_cons_zero, List.set_cons_succ])
      refine wpAnyH_take (i := 7) rfl (by kernel_rfl) (by kernel_rfl) (by kernel_rfl) (fun _ _ _ h => h) (Or.inr ⟨by rfl, rfl⟩) (by assumption) ?_
      (try simp only [Act.put, List.getElem_toArray, List.getElem_cons_zero, List.getElem_cons_succ, List.setIfInBounds_toArray, List.set_cons_zero, List.set_cons_succ])
      refine wpAnyH_take (i := 8) rfl (by kernel_rfl) (by kernel_rfl) (by kernel_rfl) (fun _ _ _ h => h) (Or.inr ⟨by rfl, rfl⟩) (by assumption) ?_
      (try simp only [Act.put, List.getElem_toArray, List.getElem_cons_zero, List.getElem_cons_succ, List.setIfInBounds_toArray, List.set_cons_zero, List.set_cons_succ])
      refine wpAnyH_take (i := 9) rfl (by kernel_rfl) (by kernel_rfl) (by kernel_rfl) (fun _ _ _ h => h) (Or.inr ⟨by rfl, rfl⟩) (by assumption) ?_
      (try simp only [Act.put, List.getElem_toArray, List.getElem_cons_zero, List.getElem_cons_succ, List.setIfInBounds_toArray, List.set_cons_zero, List.set_cons_succ])
      refine wpAnyH_take (i := 10) rfl (by kernel_rfl) (by kernel_rfl) (by kernel_rfl) (fun _ _ _ h => h) (Or.inr ⟨by rfl, rfl⟩) (by assumption) ?_
      (try simp only [Act.put, List.getElem_toArray, List.getElem_cons_zero, List.getElem_cons_succ, List.setIfInBounds_toArray, List.set_cons_zero, List.set_cons_succ])
      refine wpAnyH_take (i := 11) rfl (by kernel_rfl) (by kernel_rfl) (by kernel_rfl) (fun _ _ _ h => h) (Or.inr ⟨by rfl, rfl⟩) (by assumption) ?_
      (try simp only [Act.put, List.getElem_toArray, List.getElem_cons_zero, List.getElem_cons_succ, List.setIfInBounds_toArray, List.set_cons_zero, List.set_cons_succ])
      refine wpAnyH_take (i := 12) rfl (by kernel_rfl) (by kernel_rfl) (by kernel_rfl) (fun _ _ _ h => h) (Or.inr ⟨by rfl, rfl⟩) (by assumption) ?_
      (try simp only [Act.put, List.getElem_toArray, List.getElem_cons_zero, List.getElem_cons_succ, List.setIfInBounds_toArray, List.set_cons_zero, List.set_cons_succ])
      refine wpAnyH_take (i := 13) (v := ?vv12) rfl (by kernel_rfl) (by kernel_rfl) (by kernel_rfl) (fun _ _ _ h => h) (Or.inl ⟨by rfl, ?hy12⟩) (by assumption) ?rest12
      case hy12 => (intro w hSw; (try dsimp only at hSw); go_simp; (try with_reducible rfl))
      (try simp only [Act.put, List.getElem_toArray, List.getElem_cons_zero, List.getElem_cons_succ, List.setIfInBounds_toArray, List.set_cons_zero, List.set_cons_succ])
      refine wpAnyH_take (i := 14) (v := ?vv13) rfl (by kernel_rfl) (by kernel_rfl) (by kernel_rfl) (fun _ _ _ h => h) (Or.inl ⟨by rfl, ?hy13⟩) (by assumption) ?rest13
      case hy13 => (intro w hSw; (try dsimp only at hSw); go_simp; (try with_reducible rfl))
      (try simp only [Act.put, List.getElem_toArray, List.getElem_cons_zero, List.getElem_cons_succ, List.setIfInBounds_toArray, List.set_cons_zero, List.set_cons_succ])
      refine wpAnyH_done (by kernel_rfl) ?_ _
      have hpost : BoolPost (alB s t) w (.returned (.bool false)) w2 := ⟨by rw [HNO.out], hb1w.trans (hb2.mono hb1w.size)⟩
      clear hcS hcT hb1 hb2 hb1w HC HX HY HFX HFY HSAME HNO hbw m0 m1 m2 m3 m4 m5 m6 m7 m8 m9 hHeld
      go_wp2
      go_ret
      exact hpost
  · have hts' : groundB s = false := by simpa using hts
    have HNO := Lib.hid (al_no1 (t := t) hts')
    rw [hts'] at HX
    go_enter Tryz.func24, Tryz.ntmps24
    go_upto_region 1 with fail
    generalize ((w.alloc (.cells #[.int .i64 s.op, .int .i64 s.num, .slice A s.perm.length c, .slice B s.kids.length d] 35)).alloc (.cells #[.int .i64 t.op, .int .i64 t.num, .slice A' t.perm.length c', .slice B' t.kids.length d'] 35)) = V at hbV hszV v0 v1 v2 v3 v4 v5 v6 v7 ⊢
    have HSZ := Lib.hid hszV
    clear hszV
    go_wp2
    have hszV := HSZ.out
    clear HSZ
    have hb : Below w.heap.size w (V.alloc (.cells #[.func (.func 51) #[] #[], .func (.func 53) #[] #[]] 78)) := hbV.alloc hbV.size _
    have hsz0 : (V.alloc (.cells #[.func (.func 51) #[] #[], .func (.func 53) #[] #[]] 78)).heap.size = w.heap.size + 3 := by rw [World.size_alloc]; omega
    have hb3 : Below V.heap.size V (V.alloc (.cells #[.func (.func 51) #[] #[], .func (.func 53) #[] #[]] 78)) := (Below.refl _ _).alloc (Nat.le_refl _) _
    obtain ⟨m8, m9, _, _⟩ := row2 (heap_alloc_new V (.cells #[.func (.func 51) #[] #[], .func (.func 53) #[] #[]] 78))
    have m0 := (hb3.cell (p := ⟨w.heap.size, 0, none⟩) (show w.heap.size < V.heap.size by omega)).trans v0
    have m1 := (hb3.cell (p := ⟨w.heap.size, 1, none⟩) (show w.heap.size < V.heap.size by omega)).trans v1
    have m2 := (hb3.cell (p := ⟨w.heap.size, 2, none⟩) (show w.heap.size < V.heap.size by omega)).trans v2
    have m3 := (hb3.cell (p := ⟨w.heap.size, 3, none⟩) (show w.heap.size < V.heap.size by omega)).trans v3
    have m4 := (hb3.cell (p := ⟨w.heap.size + 1, 0, none⟩) (show w.heap.size + 1 < V.heap.size by omega)).trans v4
    have m5 := (hb3.cell (p := ⟨w.heap.size + 1, 1, none⟩) (show w.heap.size + 1 < V.heap.size by omega)).trans v5
    have m6 := (hb3.cell (p := ⟨w.heap.size + 1, 2, none⟩) (show w.heap.size + 1 < V.heap.size by omega)).trans v6
    have m7 := (hb3.cell (p := ⟨w.heap.size + 1, 3, none⟩) (show w.heap.size + 1 < V.heap.size by omega)).trans v7
    clear hbV v0 v1 v2 v3 v4 v5 v6 v7 hb3
    generalize (V.alloc (.cells #[.func (.func 51) #[] #[], .func (.func 53) #[] #[]] 78)) = W at hb hsz0 m0 m1 m2 m3 m4 m5 m6 m7 m8 m9 ⊢
    have hdw : Below W.heap.size W W.drew := ⟨rfl, rfl, rfl, Nat.le_refl _, fun _ _ => rfl⟩
    have hbw : Below w.heap.size w W.drew := hb.trans (hdw.mono hb.size)
    have HC : Hid (∀ w2, Below W.drew.heap.size W.drew w2 → w2.cell? ⟨w.heap.size, 0, none⟩ = some (.int .i64 s.op) ∧ w2.cell? ⟨w.heap.size, 1, none⟩ = some (.int .i64 s.num) ∧ w2.cell? ⟨w.heap.size, 2, none⟩ = some (.slice A s.perm.length c) ∧ w2.cell? ⟨w.heap.size, 3, none⟩ = some (.slice B s.kids.length d) ∧ w2.cell? ⟨w.heap.size + 1, 0, none⟩ = some (.int .i64 t.op) ∧ w2.cell? ⟨w.heap.size + 1, 1, none⟩ = some (.int .i64 t.num) ∧ w2.cell? ⟨w.heap.size + 1, 2, none⟩ = some (.slice A' t.perm.length c') ∧ w2.cell? ⟨w.heap.size + 1, 3, none⟩ = some (.slice B' t.kids.length d') ∧ w2.cell? ⟨V.heap.size, 0, none⟩ = some (.func (.func 51) #[] #[]) ∧ w2.cell? ⟨V.heap.size, 1, none⟩ = some (.func (.func 53) #[] #[])) := Lib.hid fun w2 hg =>
      ⟨(hg.cell (p := ⟨w.heap.size, 0, none⟩) (show w.heap.size < W.drew.heap.size from by show w.heap.size < W.heap.size; omega)).trans m0, (hg.cell (p := ⟨w.heap.size, 1, none⟩) (show w.heap.size < W.drew.heap.size from by show w.heap.size < W.heap.size; omega)).trans m1, (hg.cell (p := ⟨w.heap.size, 2, none⟩) (show w.heap.size < W.drew.heap.size from by show w.heap.size < W.heap.size; omega)).trans m2, (hg.cell (p := ⟨w.heap.size, 3, none⟩) (show w.heap.size < W.drew.heap.size from by show w.heap.size < W.heap.size; omega)).trans m3, (hg.cell (p := ⟨w.heap.size + 1, 0, none⟩) (show w.heap.size + 1 < W.drew.heap.size from by show w.heap.size + 1 < W.heap.size; omega)).trans m4, (hg.cell (p := ⟨w.heap.size + 1, 1, none⟩) (show w.heap.size + 1 < W.drew.heap.size from by show w.heap.size + 1 < W.heap.size; omega)).trans m5, (hg.cell (p := ⟨w.heap.size + 1, 2, none⟩) (show w.heap.size + 1 < W.drew.heap.size from by show w.heap.size + 1 < W.heap.size; omega)).trans m6, (hg.cell (p := ⟨w.heap.size + 1, 3, none⟩) (show w.heap.size + 1 < W.drew.heap.size from by show w.heap.size + 1 < W.heap.size; omega)).trans m7, (hg.cell (p := ⟨V.heap.size, 0, none⟩) (show V.heap.size < W.drew.heap.size from by show V.heap.size < W.heap.size; omega)).trans m8, (hg.cell (p := ⟨V.heap.size, 1, none⟩) (show V.heap.size < W.drew.heap.size from by show V.heap.size < W.heap.size; omega)).trans m9⟩
    clear hdw hsz0 hszV
    clear m0 m1 m2 m3 m4 m5 m6 m7 m8 m9
    obtain ⟨m0, m1, m2, m3, m4, m5, m6, m7, m8, m9⟩ := HC.out W.drew (Below.refl _ _)
    have hcS := HX.out _ hbw
    refine wp_region_held_drew (S := (fun w' => w'.cell? ⟨w.heap.size, 0, none⟩ = some (.int .i64 s.op) ∧ w'.cell? ⟨w.heap.size, 1, none⟩ = some (.int .i64 s.num) ∧ w'.cell? ⟨w.heap.size, 2, none⟩ = some (.slice A s.perm.length c) ∧ w'.cell? ⟨w.heap.size, 3, none⟩ = some (.slice B s.kids.length d) ∧ w'.cell? ⟨w.heap.size + 1, 0, none⟩ = some (.int .i64 t.op) ∧ w'.cell? ⟨w.heap.size + 1, 1, none⟩ = some (.int .i64 t.num) ∧ w'.cell? ⟨w.heap.size + 1, 2, none⟩ = some (.slice A' t.perm.length c') ∧ w'.cell? ⟨w.heap.size + 1, 3, none⟩ = some (.slice B' t.kids.length d') ∧ w'.cell? ⟨V.heap.size, 0, none⟩ = some (.func (.func 51) #[] #[]) ∧ w'.cell? ⟨V.heap.size, 1, none⟩ = some (.func (.func 53) #[] #[]))) (by kernel_rfl) ⟨m0, m1, m2, m3, m4, m5, m6, m7, m8, m9⟩ (fun hHeld => ?_)
    refine wpAnyH_take (i := 0) (v := ?vv1) rfl (by kernel_rfl) (by kernel_rfl) (by kernel_rfl) (fun _ _ _ h => h) (Or.inl ⟨by rfl, ?hy1⟩) (by assumption) ?rest1
    case hy1 => (intro w hSw; (try dsimp only at hSw); go_simp; (try with_reducible rfl))
    (try simp only [Act.put, List.getElem_toArray, List.getElem_cons_zero, List.setIfInBounds_toArray, List.set_cons_zero, List.set_cons_succ])
    refine wpAnyH_ready (rs := [1]) (by kernel_rfl) (by simp) ?_
    refine AllReadyH.cons rfl (fun K hK => ?_) AllReadyH.nil
    go_simp
    go_at_call 54
    refine hcS.mono ?_
    rintro e w1 ⟨rfl, hb1⟩
    (try go_wp2_with fail)
    refine hK.out _ _ (HC.out w1 hb1) (fun hHeld => ?_)
    clear hK K
    (try simp only [Act.put, List.getElem_toArray, List.getElem_cons_zero, List.getElem_cons_succ, List.setIfInBounds_toArray, List.set_cons_zero, List.set_cons_succ])
    refine wpAnyH_take (i := 2) (v := ?vv2) rfl (by kernel_rfl) (by kernel_rfl) (by kernel_rfl) (fun _ _ _ h => h) (Or.inl ⟨by rfl, ?hy2⟩) (by assumption) ?rest2
    case hy2 => (intro w hSw; (try dsimp only at hSw); go_simp; (try with_reducible rfl))
    (try simp only [Act.put, List.getElem_toArray, List.getElem_cons_zero, List.getElem_cons_succ, List.setIfInBounds_toArray, List.set_cons_zero, List.set_cons_succ])
    refine wpAnyH_take (i := 3) rfl (by kernel_rfl) (by kernel_rfl) (by kernel_rfl) (fun _ _ _ h => h) (Or.inr ⟨by rfl, rfl⟩) (by assumption) ?_
    (try simp only [Act.put, List.getElem_toArray, List.getElem_cons_zero, List.getElem_cons_succ, List.setIfInBounds_toArray, List.set_cons_zero, List.set_cons_succ])
    refine wpAnyH_take (i := 4) rfl (by kernel_rfl) (by kernel_rfl) (by kernel_rfl) (fun _ _ _ h => h) (Or.inr ⟨by rfl, rfl⟩) (by assumption) ?_
    (try simp only [Act.put, List.getElem_toArray, List.getElem_cons_zero, List.getElem_cons_succ, List.setIfInBounds_toArray, List.set_cons_zero, List.set_cons_succ])
    refine wpAnyH_take (i := 5) (v := ?vv3) rfl (by kernel_rfl) (by kernel_rfl) (by kernel_rfl) (fun _ _ _ h => h) (Or.inl ⟨by rfl, ?hy3⟩) (by assumption) ?rest3
    case hy3 => (intro w hSw; (try dsimp only at hSw); go_simp; (try with_reducible rfl))
    (try simp only [Act.put, List.getElem_toArray, List.getElem_cons_zero, List.getElem_cons_succ, List.setIfInBounds_toArray, List.set_cons_zero, List.set_cons_succ])
    refine wpAnyH_take (i := 6) (v := ?vv4) rfl (by kernel_rfl) (by kernel_rfl) (by kernel_rfl) (fun _ _ _ h => h) (Or.inl ⟨by rfl, ?hy4⟩) (by assumption) ?rest4
    case hy4 => (intro w hSw; (try dsimp only at hSw); go_simp; (try with_reducible rfl))
    (try simp only [Act.put, List.getElem_toArray, List.getElem_cons_zero, List.getElem_cons_succ, List.setIfInBounds_toArray, List.set_cons_zero, List.set_cons_succ])
    refine wpAnyH_take (i := 7) rfl (by kernel_rfl) (by kernel_rfl) (by kernel_rfl) (fun _ _ _ h => h) (Or.inr ⟨by rfl, rfl⟩) (by assumption) ?_
    (try simp only [Act.put, List.getElem_toArray, List.getElem_cons_zero, List.getElem_cons_succ, List.setIfInBounds_toArray, List.set_cons_zero, List.set_cons_succ])
    refine wpAnyH_take (i := 8) rfl (by kernel_rfl) (by kernel_rfl) (by kernel_rfl) (fun _ _ _ h => h) (Or.inr ⟨by rfl, rfl⟩) (by assumption) ?_
    (try simp only [Act.put, List.getElem_toArray, List.getElem_cons_zero, List.getElem_cons_succ, List.setIfInBounds_toArray, List.set_cons_zero, List.set_cons_succ])
    refine wpAnyH_take (i := 9) rfl (by kernel_rfl) (by kernel_rfl) (by kernel_rfl) (fun _ _ _ h => h) (Or.inr ⟨by rfl, rfl⟩) (by assumption) ?_
    (try simp only [Act.put, List.getElem_toArray, List.getElem_cons_zero, List.getElem_cons_succ, List.setIfInBounds_toArray, List.set_cons_zero, List.set_cons_succ])
    refine wpAnyH_take (i := 10) rfl (by kernel_rfl) (by kernel_rfl) (by kernel_rfl) (fun _ _ _ h => h) (Or.inr ⟨by rfl, rfl⟩) (by assumption) ?_
    (try simp only [Act.put, List.getElem_toArray, List.getElem_cons_zero, List.getElem_cons_succ, List.setIfInBounds_toArray, List.set_cons_zero, List.set_cons_succ])
    refine wpAnyH_take (i := 11) rfl (by kernel_rfl) (by kernel_rfl) (by kernel_rfl) (fun _ _ _ h => h) (Or.inr ⟨by rfl, rfl⟩) (by assumption) ?_
    (try simp only [Act.put, List.getElem_toArray, List.getElem_cons_zero, List.getElem_cons_succ, List.setIfInBounds_toArray, List.set_cons_zero, List.set_cons_succ])
    refine wpAnyH_take (i := 12) rfl (by kernel_rfl) (by kernel_rfl) (by kernel_rfl) (fun _ _ _ h => h) (Or.inr ⟨by rfl, rfl⟩) (by assumption) ?_
    (try simp only [Act.put, List.getElem_toArray, List.getElem_cons_zero, List.getElem_cons_succ, List.setIfInBounds_toArray, List.set_cons_zero, List.set_cons_succ])
    refine wpAnyH_take (i := 13) (v := ?vv5) rfl (by kernel_rfl) (by kernel_rfl) (by kernel_rfl) (fun _ _ _ h => h) (Or.inl ⟨by rfl, ?hy5⟩) (by assumption) ?rest5
    case hy5 => (intro w hSw; (try dsimp only at hSw); go_simp; (try with_reducible rfl))
    (try simp only [Act.put, List.getElem_toArray, List.getElem_cons_zero, List.getElem_cons_succ, List.setIfInBounds_toArray, List.set_cons_zero, List.set_cons_succ])
    refine wpAnyH_take (i := 14) (v := ?vv6) rfl (by kernel_rfl) (by kernel_rfl) (by kernel_rfl) (fun _ _ _ h => h) (Or.inl ⟨by rfl, ?hy6⟩) (by assumption) ?rest6
    case hy6 => (intro w hSw; (try dsimp only at hSw); go_simp; (try with_reducible rfl))
    (try simp only [Act.put, List.getElem_toArray, List.getElem_cons_zero, List.getElem_cons_succ, List.setIfInBounds_toArray, List.set_cons_zero, List.set_cons_succ])
    refine wpAnyH_done (by kernel_rfl) ?_ _
    have hpost : BoolPost (alB s t) w (.returned (.bool false)) w1 := ⟨by rw [HNO.out], hbw.trans (hb1.mono hbw.size)⟩
    clear hcS hb1 HC HX HY HFX HFY HSAME HNO hbw m0 m1 m2 m3 m4 m5 m6 m7 m8 m9 hHeld
    go_wp2
    go_ret
    exact hpost

end Go.Proofs.YtddmoempagcjeaaGreat
end

section
namespace Go.Proofs.YtddmoempagcjeaaGreat
open Go.RowKit Go.Sort
set_option linter.unusedVariables false

mutual
/-- The model's comparison of terms without holes. -/
def alT : Tm → Tm → Bool
  | .mk o n p ks, t =>
    if o ≠ t.op ∨ ks.length ≠ t.kids.length then false
    else if o = 3 ∧ n ≠ t.num then frG n (tmAt t.kids 0) && alTs ks [actT (swapL n t.num) (tmAt t.kids 0)]
    else alTs ks t.kids && (n == t.num)
def alTs : List Tm → List Tm → Bool
  | [], _ => true
  | _ :: _, [] => true
  | s :: r, t :: q => alT s t && alTs r q
end
theorem alT_no {s t : Tm} (h : s.op ≠ t.op ∨ s.kids.length ≠ t.kids.length) : alT s t = false := by
  cases s with
  | mk o n p ks =>
    rw [op_mk, kids_mk] at h
    rw [alT, if_pos h]
theorem alT_bind {s t : Tm} (h1 : s.op = t.op) (h2 : s.kids.length = t.kids.length) (h3 : s.op = 3) (h4 : s.num ≠ t.num) (hk : s.kids.length = 1) :
    alT s t = (frG s.num (tmAt t.kids 0) && alT (tmAt s.kids 0) (actT (swapL s.num t.num) (tmAt t.kids 0))) := by
  cases s with
  | mk o n p ks =>
    rw [op_mk] at h1 h3
    rw [kids_mk] at h2 hk
    rw [num_mk] at h4 ⊢
    obtain ⟨k, rfl⟩ := List.length_eq_one_iff.1 hk
    have hc : ¬ (o ≠ t.op ∨ [k].length ≠ t.kids.length) := fun h => h.elim (fun e => e h1) (fun e => e h2)
    have h34 : o = 3 ∧ n ≠ t.num := ⟨h3, h4⟩
    rw [alT, if_neg hc, if_pos h34, kids_mk, tmAt_cons_zero]
    simp [alTs]
theorem alT_kids {s t : Tm} (h1 : s.op = t.op) (h2 : s.kids.length = t.kids.length) (h3 : ¬ (s.op = 3 ∧ s.num ≠ t.num)) : alT s t = (alTs s.kids t.kids && (s.num == t.num)) := by
  cases s with
  | mk o n p ks =>
    rw [op_mk] at h1 h3
    rw [num_mk] at h3
    rw [kids_mk] at h2
    rw [num_mk, kids_mk]
    have hc : ¬ (o ≠ t.op ∨ ks.length ≠ t.kids.length) := fun h => h.elim (fun e => e h1) (fun e => e h2)
    rw [alT, if_neg hc, if_neg h3]
theorem alTs_next : ∀ {ks ls : List Tm} {i : Nat}, i < ks.length → i < ls.length → alTs (ks.take (i + 1)) (ls.take (i + 1)) = (alTs (ks.take i) (ls.take i) && alT (tmAt ks i) (tmAt ls i))
  | [], _, i, h, _ => by simp at h
  | _ :: _, [], i, _, h => by simp at h
  | s :: r, t :: q, 0, _, _ => by simp [alTs, tmAt_cons_zero]
  | s :: r, t :: q, i + 1, h, h' => by
    rw [List.take_succ_cons, List.take_succ_cons, List.take_succ_cons, List.take_succ_cons, alTs, alTs, alTs_next (ks := r) (ls := q) (i := i) (by simpa using h) (by simpa using h'), tmAt_cons_succ, tmAt_cons_succ, Bool.and_assoc]
theorem alTs_no : ∀ {ks ls : List Tm} {i : Nat}, i < ks.length → i < ls.length → alT (tmAt ks i) (tmAt ls i) = false → alTs ks ls = false
  | [], _, i, h, _, _ => by simp at h
  | _ :: _, [], i, _, h, _ => by simp at h
  | s :: r, t :: q, 0, _, _, h => by rw [tmAt_cons_zero, tmAt_cons_zero] at h; rw [alTs, h]; rfl
  | s :: r, t :: q, i + 1, h, h', hn => by
    rw [tmAt_cons_succ, tmAt_cons_succ] at hn
    rw [alTs, alTs_no (ks := r) (ls := q) (i := i) (by simpa using h) (by simpa using h') hn, Bool.and_false]

mutual
/-- Of terms without holes it is the program's comparison. -/
theorem alT_eq : ∀ (s t : Tm), ShT s → ShT t → holesB s = false → alT s t = eqOk frG hoG s t
  | .mk o n p ks, .mk o' n' p' ls, hs, ht, hh => by
    rw [holesB_eq, op_mk, kids_mk, Bool.or_eq_false_iff] at hh
    have h4 : o ≠ 4 := by simpa using hh.2
    rw [alT, eqOk, op_mk, num_mk, kids_mk]
    by_cases h1 : o = 1
    · subst h1
      have e := hs.2.1 (.inl rfl)
      subst e
      by_cases h : o' = 1
      · subst h
        have e' := ht.2.1 (.inl rfl)
        subst e'
        simp [alTs]
      · simp [h, Ne.symm h]
    · by_cases h2 : o = 2
      · subst h2
        by_cases h : o' = 2
        · subst h
          by_cases hl : ks.length = ls.length
          · have hk := alTs_eq ks ls hs.2.2.2 ht.2.2.2 hl hh.1
            simp only [hl, ne_eq, not_true_eq_false, or_self, if_false, h1]
            simp only [show ¬ ((2 : Int) = 3) by decide, false_and, if_false, if_true, decide_true, Bool.true_and]
            rw [hk, Bool.and_comm]
          · have hf := eqOks_len frG hoG hl
            simp [hl, hf]
        · simp [h, Ne.symm h]
      · have h3 : o = 3 := by have := hs.1; omega
        subst h3
        by_cases h : o' = 3
        · subst h
          have g1 := hs.2.2.1 rfl
          have g2 := ht.2.2.1 rfl
          have hl : ks.length = ls.length := by omega
          by_cases hn : n = n'
          · subst hn
            have hk := alTs_eq ks ls hs.2.2.2 ht.2.2.2 hl hh.1
            simp only [hl, ne_eq, not_true_eq_false, or_self, if_false, h1, and_false]
            simp only [show ¬ ((3 : Int) = 2) by decide, if_false, if_true, decide_true, Bool.true_and, beq_self_eq_true, Bool.and_true]
            exact hk
          · have h0 : 0 < ls.length := by omega
            have hk := alTs_eq ks [actT (swapL n n') (tmAt ls 0)] hs.2.2.2 ⟨sh_act _ (sh_at ht.2.2.2 h0), trivial⟩ (by simpa using g1) hh.1
            rw [swapL_comm n' n]
            simp only [hl, ne_eq, not_true_eq_false, or_self, if_false, h1, hn, not_false_eq_true, and_self, if_true]
            simp only [show ¬ ((3 : Int) = 2) by decide, if_false, decide_true, Bool.true_and]
            rw [hk]
        · simp [h, Ne.symm h]
theorem alTs_eq : ∀ (ks ls : List Tm), ShTs ks → ShTs ls → ks.length = ls.length → holesBs ks = false → alTs ks ls = eqOks frG hoG ks ls
  | [], [], _, _, _, _ => by simp [alTs, eqOks]
  | [], _ :: _, _, _, h, _ => by simp at h
  | _ :: _, [], _, _, h, _ => by simp at h
  | s :: r, t :: q, hs, ht, hl, hh => by
    rw [holesBs, Bool.or_eq_false_iff] at hh
    rw [alTs, eqOks, alT_eq s t hs.1 ht.1 hh.1, alTs_eq r q hs.2 ht.2 (by simpa using hl) hh.2]
end

end Go.Proofs.YtddmoempagcjeaaGreat
end

