/-
  AlphaEqual in the program, as a contract. The comparison of terms without holes as the model makes it: plain words. The comparison of terms without holes in the model, and AlphaEqual of the model, as contracts. The comparison of terms without holes in the model, every two terms; AlphaEqual of the model, as contracts.
-/
import Derived.Test.YtlhjgjfnmejiaaaGreatKComesOf25
import Derived.Test.YtlhjgjfnmejiaaaGreatKComesOf18
import Derived.Laws.EntriesVeiled
import Derived.Test.YtlhjgjfnmejiaaaGreatKComesOf23
import Derived.Test.YtlhjgjfnmejiaaaGreatKComesOf12
import Derived.Test.YtlhjgjfnmejiaaaGreatKComesOf17
import Derived.Test.YtlhjgjfnmejiaaaGreatKComesOf22
section
namespace Go.Proofs.YtlhjgjfnmejiaaaGreat
open Go.RowKit Go.Sort Go.ChangeShapes Go.WideShapes
set_option linter.unusedVariables false

def alB (s t : Tm) : Bool := groundB s && (groundB t && eqOk frG hoG s t)
theorem al_no1 {s t : Tm} (h : groundB s = false) : alB s t = false := by simp [alB, h]
theorem al_no2 {s t : Tm} (h : groundB t = false) : alB s t = false := by simp [alB, h]
theorem al_yes {s t : Tm} (h1 : groundB s = true) (h2 : groundB t = true) : alB s t = eqOk frG hoG s t := by simp [alB, h1, h2]

set_option maxRecDepth 100000 in
set_option maxHeartbeats 4000000 in
theorem alphaEqual_impl (s t : Tm) (x y : Value) (w : World) (hx : TmIn w x s) (hy : TmIn w y t) (hf : Fit s) (hf' : Fit t) :
    Calls Tryz.prog 45 #[x, y] w (BoolPost (alB s t) w) := by
  have hx' := hx
  have hy' := hy
  obtain ⟨A, c, kv, rfl, hp, hk⟩ := hx
  obtain ⟨B, d, rfl⟩ := hk.form
  obtain ⟨A', c', kv', rfl, hp', hk'⟩ := hy
  obtain ⟨B', d', rfl⟩ := hk'.form
  have hbV : Below w.heap.size w ((w.alloc (.cells #[.int .i64 s.op, .int .i64 s.num, .slice A s.perm.length c, .slice B s.kids.length d] 46)).alloc (.cells #[.int .i64 t.op, .int .i64 t.num, .slice A' t.perm.length c', .slice B' t.kids.length d'] 46)) := ((Below.refl _ w).alloc (Nat.le_refl _) _).alloc (by simp) _
  have k0 : ((w.alloc (.cells #[.int .i64 s.op, .int .i64 s.num, .slice A s.perm.length c, .slice B s.kids.length d] 46)).alloc (.cells #[.int .i64 t.op, .int .i64 t.num, .slice A' t.perm.length c', .slice B' t.kids.length d'] 46)).heap[w.heap.size]? = some (.cells #[.int .i64 s.op, .int .i64 s.num, .slice A s.perm.length c, .slice B s.kids.length d] 46 (0, 0)) := (Below.heap_alloc _ _ _ (by simp)).trans (heap_alloc_new w _)
  have k1 : ((w.alloc (.cells #[.int .i64 s.op, .int .i64 s.num, .slice A s.perm.length c, .slice B s.kids.length d] 46)).alloc (.cells #[.int .i64 t.op, .int .i64 t.num, .slice A' t.perm.length c', .slice B' t.kids.length d'] 46)).heap[w.heap.size + 1]? = some (.cells #[.int .i64 t.op, .int .i64 t.num, .slice A' t.perm.length c', .slice B' t.kids.length d'] 46 (0, 0)) := by
    have h := heap_alloc_new (w.alloc (.cells #[.int .i64 s.op, .int .i64 s.num, .slice A s.perm.length c, .slice B s.kids.length d] 46)) (.cells #[.int .i64 t.op, .int .i64 t.num, .slice A' t.perm.length c', .slice B' t.kids.length d'] 46)
    rw [World.size_alloc] at h
    exact h
  have hszV : ((w.alloc (.cells #[.int .i64 s.op, .int .i64 s.num, .slice A s.perm.length c, .slice B s.kids.length d] 46)).alloc (.cells #[.int .i64 t.op, .int .i64 t.num, .slice A' t.perm.length c', .slice B' t.kids.length d'] 46)).heap.size = w.heap.size + 2 := by simp
  have HX := Lib.hid (fun W (hW : Below w.heap.size w W) => ground_impl s _ _ (hx'.below hW) hf)
  have HY := Lib.hid (fun W (hW : Below w.heap.size w W) => ground_impl t _ _ (hy'.below hW) hf')
  have HFX := Lib.hid (fun (hg : groundB s = true) W (hW : Below w.heap.size w W) => formOf_any (szT s) s (Nat.le_refl _) (term_good (ground_term hg)) w W _ hx' hW)
  have HFY := Lib.hid (fun (hg : groundB t = true) W (hW : Below w.heap.size w W) => formOf_any (szT t) t (Nat.le_refl _) (term_good (ground_term hg)) w W _ hy' hW)
  have HSAME := Lib.hid (fun (h1 : groundB s = true) (h2 : groundB t = true) (W : World) (v u : Value) hv hu => gSame (szT s) s (Nat.le_refl _) (ground_no h1) 40 t (by have := term_size (ground_term h1); omega) (okP_good (term_good (ground_term h2))) (by have := term_size (ground_term h2); omega) W v u hv hu)
  obtain ⟨v0, v1, v2, v3⟩ := BoxR.row4 k0
  obtain ⟨v4, v5, v6, v7⟩ := BoxR.row4 k1
  clear hp hk hp' hk' hx' hy' hf hf' k0 k1
  by_cases hts : groundB s = true
  · by_cases htt : groundB t = true
    · rw [hts] at HX
      rw [htt] at HY
      have HYES := Lib.hid (al_yes hts htt)
      go_enter Tryz.func45, Tryz.ntmps45
      go_upto_region 1 with fail
      generalize ((w.alloc (.cells #[.int .i64 s.op, .int .i64 s.num, .slice A s.perm.length c, .slice B s.kids.length d] 46)).alloc (.cells #[.int .i64 t.op, .int .i64 t.num, .slice A' t.perm.length c', .slice B' t.kids.length d'] 46)) = V at hbV hszV v0 v1 v2 v3 v4 v5 v6 v7 ⊢
      have HSZ := Lib.hid hszV
      clear hszV
      go_wp2
      have hszV := HSZ.out
      clear HSZ
      have hb : Below w.heap.size w (V.alloc (.cells #[.func (.func 98) #[] #[], .func (.func 100) #[] #[]] 139)) := hbV.alloc hbV.size _
      have hsz0 : (V.alloc (.cells #[.func (.func 98) #[] #[], .func (.func 100) #[] #[]] 139)).heap.size = w.heap.size + 3 := by rw [World.size_alloc]; omega
      have hb3 : Below V.heap.size V (V.alloc (.cells #[.func (.func 98) #[] #[], .func (.func 100) #[] #[]] 139)) := (Below.refl _ _).alloc (Nat.le_refl _) _
      obtain ⟨m8, m9, _, _⟩ := row2 (heap_alloc_new V (.cells #[.func (.func 98) #[] #[], .func (.func 100) #[] #[]] 139))
      have m0 := (hb3.cell (p := ⟨w.heap.size, 0, none⟩) (show w.heap.size < V.heap.size by omega)).trans v0
      have m1 := (hb3.cell (p := ⟨w.heap.size, 1, none⟩) (show w.heap.size < V.heap.size by omega)).trans v1
      have m2 := (hb3.cell (p := ⟨w.heap.size, 2, none⟩) (show w.heap.size < V.heap.size by omega)).trans v2
      have m3 := (hb3.cell (p := ⟨w.heap.size, 3, none⟩) (show w.heap.size < V.heap.size by omega)).trans v3
      have m4 := (hb3.cell (p := ⟨w.heap.size + 1, 0, none⟩) (show w.heap.size + 1 < V.heap.size by omega)).trans v4
      have m5 := (hb3.cell (p := ⟨w.heap.size + 1, 1, none⟩) (show w.heap.size + 1 < V.heap.size by omega)).trans v5
      have m6 := (hb3.cell (p := ⟨w.heap.size + 1, 2, none⟩) (show w.heap.size + 1 < V.heap.size by omega)).trans v6
      have m7 := (hb3.cell (p := ⟨w.heap.size + 1, 3, none⟩) (show w.heap.size + 1 < V.heap.size by omega)).trans v7
      clear hbV v0 v1 v2 v3 v4 v5 v6 v7 hb3
      generalize (V.alloc (.cells #[.func (.func 98) #[] #[], .func (.func 100) #[] #[]] 139)) = W at hb hsz0 m0 m1 m2 m3 m4 m5 m6 m7 m8 m9 ⊢
      have hdw : Below W.heap.size W W.drew := ⟨rfl, rfl, rfl, Nat.le_refl _, fun _ _ => rfl⟩
      have hbw : Below w.heap.size w W.drew := hb.trans (hdw.mono hb.size)
      have HC : Hid (∀ w2, Below W.drew.heap.size W.drew w2 → w2.cell? ⟨w.heap.size, 0, none⟩ = some (.int .i64 s.op) ∧ w2.cell? ⟨w.heap.size, 1, none⟩ = some (.int .i64 s.num) ∧ w2.cell? ⟨w.heap.size, 2, none⟩ = some (.slice A s.perm.length c) ∧ w2.cell? ⟨w.heap.size, 3, none⟩ = some (.slice B s.kids.length d) ∧ w2.cell? ⟨w.heap.size + 1, 0, none⟩ = some (.int .i64 t.op) ∧ w2.cell? ⟨w.heap.size + 1, 1, none⟩ = some (.int .i64 t.num) ∧ w2.cell? ⟨w.heap.size + 1, 2, none⟩ = some (.slice A' t.perm.length c') ∧ w2.cell? ⟨w.heap.size + 1, 3, none⟩ = some (.slice B' t.kids.length d') ∧ w2.cell? ⟨V.heap.size, 0, none⟩ = some (.func (.func 98) #[] #[]) ∧ w2.cell? ⟨V.heap.size, 1, none⟩ = some (.func (.func 100) #[] #[])) := Lib.hid fun w2 hg =>
        ⟨(hg.cell (p := ⟨w.heap.size, 0, none⟩) (show w.heap.size < W.drew.heap.size from by show w.heap.size < W.heap.size; omega)).trans m0, (hg.cell (p := ⟨w.heap.size, 1, none⟩) (show w.heap.size < W.drew.heap.size from by show w.heap.size < W.heap.size; omega)).trans m1, (hg.cell (p := ⟨w.heap.size, 2, none⟩) (show w.heap.size < W.drew.heap.size from by show w.heap.size < W.heap.size; omega)).trans m2, (hg.cell (p := ⟨w.heap.size, 3, none⟩) (show w.heap.size < W.drew.heap.size from by show w.heap.size < W.heap.size; omega)).trans m3, (hg.cell (p := ⟨w.heap.size + 1, 0, none⟩) (show w.heap.size + 1 < W.drew.heap.size from by show w.heap.size + 1 < W.heap.size; omega)).trans m4, (hg.cell (p := ⟨w.heap.size + 1, 1, none⟩) (show w.heap.size + 1 < W.drew.heap.size from by show w.heap.size + 1 < W.heap.size; omega)).trans m5, (hg.cell (p := ⟨w.heap.size + 1, 2, none⟩) (show w.heap.size + 1 < W.drew.heap.size from by show w.heap.size + 1 < W.heap.size; omega)).trans m6, (hg.cell (p := ⟨w.heap.size + 1, 3, none⟩) (show w.heap.size + 1 < W.drew.heap.size from by show w.heap.size + 1 < W.heap.size; omega)).trans m7, (hg.cell (p := ⟨V.heap.size, 0, none⟩) (show V.heap.size < W.drew.heap.size from by show V.heap.size < W.heap.size; omega)).trans m8, (hg.cell (p := ⟨V.heap.size, 1, none⟩) (show V.heap.size < W.drew.heap.size from by show V.heap.size < W.heap.size; omega)).trans m9⟩
      clear hdw hsz0 hszV
      clear m0 m1 m2 m3 m4 m5 m6 m7 m8 m9
      obtain ⟨m0, m1, m2, m3, m4, m5, m6, m7, m8, m9⟩ := HC.out W.drew (Below.refl _ _)
      have hcS := HX.out _ hbw
      generalize eqOk frG hoG s t = r at HSAME HYES
      go_region_held3 (fun w' => w'.cell? ⟨w.heap.size, 0, none⟩ = some (.int .i64 s.op) ∧ w'.cell? ⟨w.heap.size, 1, none⟩ = some (.int .i64 s.num) ∧ w'.cell? ⟨w.heap.size, 2, none⟩ = some (.slice A s.perm.length c) ∧ w'.cell? ⟨w.heap.size, 3, none⟩ = some (.slice B s.kids.length d) ∧ w'.cell? ⟨w.heap.size + 1, 0, none⟩ = some (.int .i64 t.op) ∧ w'.cell? ⟨w.heap.size + 1, 1, none⟩ = some (.int .i64 t.num) ∧ w'.cell? ⟨w.heap.size + 1, 2, none⟩ = some (.slice A' t.perm.length c') ∧ w'.cell? ⟨w.heap.size + 1, 3, none⟩ = some (.slice B' t.kids.length d') ∧ w'.cell? ⟨V.heap.size, 0, none⟩ = some (.func (.func 98) #[] #[]) ∧ w'.cell? ⟨V.heap.size, 1, none⟩ = some (.func (.func 100) #[] #[]))
        (first | (with_reducible exact ⟨by assumption, by assumption, by assumption, by assumption, by assumption, by assumption, by assumption, by assumption, by assumption, by assumption⟩) | ((try dsimp only); exact ⟨by assumption, by assumption, by assumption, by assumption, by assumption, by assumption, by assumption, by assumption, by assumption, by assumption⟩) | go_keep)
        (first
          | (go_at_call_of 56 A; refine hcS.mono ?_; rintro e w1 ⟨rfl, hb1⟩; have hb1w := hbw.trans (hb1.mono hbw.size); obtain ⟨a0, a1, a2, a3, a4, a5, a6, a7, a8, a9⟩ := HC.out w1 hb1; have hcT := HY.out w1 hb1w)
          | (go_at_call_of 56 A'; refine hcT.mono ?_; rintro e w2 ⟨rfl, hb2⟩; have hb2w := hb1w.trans (hb2.mono hb1w.size); have hg2 := hb1.trans (hb2.mono hb1.size); obtain ⟨b0, b1, b2, b3, b4, b5, b6, b7, b8, b9⟩ := HC.out w2 hg2; have hfS := HFX.out hts w2 hb2w)
          | (go_at_call_of 60 A; refine hfS.mono ?_; rintro e w3 ⟨fv, rfl, hfv, hb3⟩; obtain ⟨fa, rfl⟩ := hfv.iface; have hb3w := hb2w.trans (hb3.mono hb2w.size); have hg3 := hg2.trans (hb3.mono hg2.size); obtain ⟨r0, r1, r2, r3, r4, r5, r6, r7, r8, r9⟩ := HC.out w3 hg3; have hv3 := hfv.any; have hfT := HFY.out htt w3 hb3w)
          | (go_at_call_of 60 A'; refine hfT.mono ?_; rintro e w4 ⟨fu, rfl, hfu, hb4⟩; obtain ⟨fb, rfl⟩ := hfu.iface; have hb4w := hb3w.trans (hb4.mono hb3w.size); have hg4 := hg3.trans (hb4.mono hg3.size); obtain ⟨s0, s1, s2, s3, s4, s5, s6, s7, s8, s9⟩ := HC.out w4 hg4; have hcA := HSAME.out hts htt w4 _ _ (hv3.keep hb4) hfu.any)
          | (go_at_call 101; refine hcA.mono ?_; rintro e w5 ⟨rfl, hb5⟩; have hg5 := hg4.trans (hb5.mono hg4.size); obtain ⟨q0, q1, q2, q3, q4, q5, q6, q7, q8, q9⟩ := HC.out w5 hg5)
          | fail)
      have hpost : BoolPost (alB s t) w (.returned (.bool r)) w5 := ⟨by rw [HYES.out], hb4w.trans (hb5.mono hb4w.size)⟩
      clear hcS hcT hfS hfT hcA HC HX HY HFX HFY HSAME HYES hfv hfu hv3 hb1 hb2 hb3 hb4 hb5 hb1w hb2w hb3w hb4w hg2 hg3 hg4 hg5 hbw m0 m1 m2 m3 m4 m5 m6 m7 m8 m9 a0 a1 a2 a3 a4 a5 a6 a7 a8 a9 b0 b1 b2 b3 b4 b5 b6 b7 b8 b9 r0 r1 r2 r3 r4 r5 r6 r7 r8 r9 s0 s1 s2 s3 s4 s5 s6 s7 s8 s9 q0 q1 q2 q3 q4 q5 q6 q7 q8 q9
      go_wp2
      go_ret
      exact hpost
    · have htt' : groundB t = false := by simpa using htt
      have HNO := Lib.hid (al_no2 (s := s) htt')
      rw [hts] at HX
      rw [htt'] at HY
      go_enter Tryz.func45, Tryz.ntmps45
      go_upto_region 1 with fail
      generalize ((w.alloc (.cells #[.int .i64 s.op, .int .i64 s.num, .slice A s.perm.length c, .slice B s.kids.length d] 46)).alloc (.cells #[.int .i64 t.op, .int .i64 t.num, .slice A' t.perm.length c', .slice B' t.kids.length d'] 46)) = V at hbV hszV v0 v1 v2 v3 v4 v5 v6 v7 ⊢
      have HSZ := Lib.hid hszV
      clear hszV
      go_wp2
      have hszV := HSZ.out
      clear HSZ
      have hb : Below w.heap.size w (V.alloc (.cells #[.func (.func 98) #[] #[], .func (.func 100) #[] #[]] 139)) := hbV.alloc hbV.size _
      have hsz0 : (V.alloc (.cells #[.func (.func 98) #[] #[], .func (.func 100) #[] #[]] 139)).heap.size = w.heap.size + 3 := by rw [World.size_alloc]; omega
      have hb3 : Below V.heap.size V (V.alloc (.cells #[.func (.func 98) #[] #[], .func (.func 100) #[] #[]] 139)) := (Below.refl _ _).alloc (Nat.le_refl _) _
      obtain ⟨m8, m9, _, _⟩ := row2 (heap_alloc_new V (.cells #[.func (.func 98) #[] #[], .func (.func 100) #[] #[]] 139))
      have m0 := (hb3.cell (p := ⟨w.heap.size, 0, none⟩) (show w.heap.size < V.heap.size by omega)).trans v0
      have m1 := (hb3.cell (p := ⟨w.heap.size, 1, none⟩) (show w.heap.size < V.heap.size by omega)).trans v1
      have m2 := (hb3.cell (p := ⟨w.heap.size, 2, none⟩) (show w.heap.size < V.heap.size by omega)).trans v2
      have m3 := (hb3.cell (p := ⟨w.heap.size, 3, none⟩) (show w.heap.size < V.heap.size by omega)).trans v3
      have m4 := (hb3.cell (p := ⟨w.heap.size + 1, 0, none⟩) (show w.heap.size + 1 < V.heap.size by omega)).trans v4
      have m5 := (hb3.cell (p := ⟨w.heap.size + 1, 1, none⟩) (show w.heap.size + 1 < V.heap.size by omega)).trans v5
      have m6 := (hb3.cell (p := ⟨w.heap.size + 1, 2, none⟩) (show w.heap.size + 1 < V.heap.size by omega)).trans v6
      have m7 := (hb3.cell (p := ⟨w.heap.size + 1, 3, none⟩) (show w.heap.size + 1 < V.heap.size by omega)).trans v7
      clear hbV v0 v1 v2 v3 v4 v5 v6 v7 hb3
      generalize (V.alloc (.cells #[.func (.func 98) #[] #[], .func (.func 100) #[] #[]] 139)) = W at hb hsz0 m0 m1 m2 m3 m4 m5 m6 m7 m8 m9 ⊢
      have hdw : Below W.heap.size W W.drew := ⟨rfl, rfl, rfl, Nat.le_refl _, fun _ _ => rfl⟩
      have hbw : Below w.heap.size w W.drew := hb.trans (hdw.mono hb.size)
      have HC : Hid (∀ w2, Below W.drew.heap.size W.drew w2 → w2.cell? ⟨w.heap.size, 0, none⟩ = some (.int .i64 s.op) ∧ w2.cell? ⟨w.heap.size, 1, none⟩ = some (.int .i64 s.num) ∧ w2.cell? ⟨w.heap.size, 2, none⟩ = some (.slice A s.perm.length c) ∧ w2.cell? ⟨w.heap.size, 3, none⟩ = some (.slice B s.kids.length d) ∧ w2.cell? ⟨w.heap.size + 1, 0, none⟩ = some (.int .i64 t.op) ∧ w2.cell? ⟨w.heap.size + 1, 1, none⟩ = some (.int .i64 t.num) ∧ w2.cell? ⟨w.heap.size + 1, 2, none⟩ = some (.slice A' t.perm.length c') ∧ w2.cell? ⟨w.heap.size + 1, 3, none⟩ = some (.slice B' t.kids.length d') ∧ w2.cell? ⟨V.heap.size, 0, none⟩ = some (.func (.func 98) #[] #[]) ∧ w2.cell? ⟨V.heap.size, 1, none⟩ = some (.func (.func 100) #[] #[])) := Lib.hid fun w2 hg =>
        ⟨(hg.cell (p := ⟨w.heap.size, 0, none⟩) (show w.heap.size < W.drew.heap.size from by show w.heap.size < W.heap.size; omega)).trans m0, (hg.cell (p := ⟨w.heap.size, 1, none⟩) (show w.heap.size < W.drew.heap.size from by show w.heap.size < W.heap.size; omega)).trans m1, (hg.cell (p := ⟨w.heap.size, 2, none⟩) (show w.heap.size < W.drew.heap.size from by show w.heap.size < W.heap.size; omega)).trans m2, (hg.cell (p := ⟨w.heap.size, 3, none⟩) (show w.heap.size < W.drew.heap.size from by show w.heap.size < W.heap.size; omega)).trans m3, (hg.cell (p := ⟨w.heap.size + 1, 0, none⟩) (show w.heap.size + 1 < W.drew.heap.size from by show w.heap.size + 1 < W.heap.size; omega)).trans m4, (hg.cell (p := ⟨w.heap.size + 1, 1, none⟩) (show w.heap.size + 1 < W.drew.heap.size from by show w.heap.size + 1 < W.heap.size; omega)).trans m5, (hg.cell (p := ⟨w.heap.size + 1, 2, none⟩) (show w.heap.size + 1 < W.drew.heap.size from by show w.heap.size + 1 < W.heap.size; omega)).trans m6, (hg.cell (p := ⟨w.heap.size + 1, 3, none⟩) (show w.heap.size + 1 < W.drew.heap.size from by show w.heap.size + 1 < W.heap.size; omega)).trans m7, (hg.cell (p := ⟨V.heap.size, 0, none⟩) (show V.heap.size < W.drew.heap.size from by show V.heap.size < W.heap.size; omega)).trans m8, (hg.cell (p := ⟨V.heap.size, 1, none⟩) (show V.heap.size < W.drew.heap.size from by show V.heap.size < W.heap.size; omega)).trans m9⟩
      clear hdw hsz0 hszV
      clear m0 m1 m2 m3 m4 m5 m6 m7 m8 m9
      obtain ⟨m0, m1, m2, m3, m4, m5, m6, m7, m8, m9⟩ := HC.out W.drew (Below.refl _ _)
      have hcS := HX.out _ hbw
      refine wp_region_held_drew (S := (fun w' => w'.cell? ⟨w.heap.size, 0, none⟩ = some (.int .i64 s.op) ∧ w'.cell? ⟨w.heap.size, 1, none⟩ = some (.int .i64 s.num) ∧ w'.cell? ⟨w.heap.size, 2, none⟩ = some (.slice A s.perm.length c) ∧ w'.cell? ⟨w.heap.size, 3, none⟩ = some (.slice B s.kids.length d) ∧ w'.cell? ⟨w.heap.size + 1, 0, none⟩ = some (.int .i64 t.op) ∧ w'.cell? ⟨w.heap.size + 1, 1, none⟩ = some (.int .i64 t.num) ∧ w'.cell? ⟨w.heap.size + 1, 2, none⟩ = some (.slice A' t.perm.length c') ∧ w'.cell? ⟨w.heap.size + 1, 3, none⟩ = some (.slice B' t.kids.length d') ∧ w'.cell? ⟨V.heap.size, 0, none⟩ = some (.func (.func 98) #[] #[]) ∧ w'.cell? ⟨V.heap.size, 1, none⟩ = some (.func (.func 100) #[] #[]))) (by kernel_rfl) ⟨m0, m1, m2, m3, m4, m5, m6, m7, m8, m9⟩ (fun hHeld => ?_)
      refine wpAnyH_take (i := 0) (v := ?vv7) rfl (by kernel_rfl) (by kernel_rfl) (by kernel_rfl) (fun _ _ _ h => h) (Or.inl ⟨by rfl, ?hy7⟩) (by assumption) ?rest7
      case hy7 => (intro w hSw; (try dsimp only at hSw); go_simp; (try with_reducible rfl))
      (try simp only [Act.put, List.getElem_toArray, List.getElem_cons_zero, List.setIfInBounds_toArray, List.set_cons_zero, List.set_cons_succ])
      refine wpAnyH_ready (rs := [1]) (by kernel_rfl) (by simp) ?_
      refine AllReadyH.cons rfl (fun K hK => ?_) AllReadyH.nil
      go_simp
      go_at_call 56
      refine hcS.mono ?_
      rintro e w1 ⟨rfl, hb1⟩
      (try go_wp2_with fail)
      refine hK.out _ _ (HC.out w1 hb1) (fun hHeld => ?_)
      clear hK K
      (try simp only [Act.put, List.getElem_toArray, List.getElem_cons_zero, List.getElem_cons_succ, List.setIfInBounds_toArray, List.set_cons_zero, List.set_cons_succ])
      have hb1w := hbw.trans (hb1.mono hbw.size)
      have hcT := HY.out w1 hb1w
      refine wpAnyH_take (i := 2) (v := ?vv8) rfl (by kernel_rfl) (by kernel_rfl) (by kernel_rfl) (fun _ _ _ h => h) (Or.inl ⟨by rfl, ?hy8⟩) (by assumption) ?rest8
      case hy8 => (intro w hSw; (try dsimp only at hSw); go_simp; (try with_reducible rfl))
      (try simp only [Act.put, List.getElem_toArray, List.getElem_cons_zero, List.getElem_cons_succ, List.setIfInBounds_toArray, List.set_cons_zero, List.set_cons_succ])
      refine wpAnyH_take (i := 3) (v := ?vv9) rfl (by kernel_rfl) (by kernel_rfl) (by kernel_rfl) (fun _ _ _ h => h) (Or.inl ⟨by rfl, ?hy9⟩) (by assumption) ?rest9
      case hy9 => (intro w hSw; (try dsimp only at hSw); go_simp; (try with_reducible rfl))
      (try simp only [Act.put, List.getElem_toArray, List.getElem_cons_zero, List.getElem_cons_succ, List.setIfInBounds_toArray, List.set_cons_zero, List.set_cons_succ])
      refine wpAnyH_ready (rs := [4]) (by kernel_rfl) (by simp) ?_
      refine AllReadyH.cons rfl (fun K hK => ?_) AllReadyH.nil
      go_simp
      go_at_call 56
      refine hcT.mono ?_
      rintro e w2 ⟨rfl, hb2⟩
      (try go_wp2_with fail)
      refine hK.out _ _ (HC.out w2 (hb1.trans (hb2.mono hb1.size))) (fun hHeld => ?_)
      clear hK K
      (try simp only [Act.put, List.getElem_toArray, List.getElem_cons_zero, List.getElem_cons_succ, List.setIfInBounds_toArray, List.set_cons_zero, List.set_cons_succ])
      refine wpAnyH_take (i := 5) (v := ?vv10) rfl (by kernel_rfl) (by kernel_rfl) (by kernel_rfl) (fun _ _ _ h => h) (Or.inl ⟨by rfl, ?hy10⟩) (by assumption) ?rest10
      case hy10 => (intro w hSw; (try dsimp only at hSw); go_simp; (try with_reducible rfl))
      (try simp only [Act.put, List.getElem_toArray, List.getElem_cons_zero, List.getElem_cons_succ, List.setIfInBounds_toArray, List.set_cons_zero, List.set_cons_succ])
      refine wpAnyH_take (i := 6) (v := ?vv11) rfl (by kernel_rfl) (by kernel_rfl) (by kernel_rfl) (fun _ _ _ h => h) (Or.inl ⟨by rfl, ?hy11⟩) (by assumption) ?rest11
      case hy11 => (intro w hSw; (try dsimp only at hSw); go_simp; (try with_reducible rfl))
      (try simp only [Act.put, List.getElem_toArray, List.getElem_cons_zero, List.getElem_cons_succ, List.setIfInBounds_toArray, List.set_cons_zero, List.set_cons_succ])
      refine wpAnyH_take (i := 7) rfl (by kernel_rfl) (by kernel_rfl) (by kernel_rfl) (fun _ _ _ h => h) (Or.inr ⟨by rfl, rfl⟩) (by assumption) ?_
      (try simp only [Act.put, List.getElem_toArray, List.getElem_cons_zero, List.getElem_cons_succ, List.setIfInBounds_toArray, List.set_cons_zero, List.set_cons_succ])
      refine wpAnyH_take (i := 8) rfl (by kernel_rfl) (by kernel_rfl) (by kernel_rfl) (fun _ _ _ h => h) (Or.inr ⟨by rfl, rfl⟩) (by assumption) ?_
      (try simp only [Act.put, List.getElem_toArray, List.getElem_cons_zero, List.getElem_cons_succ, List.setIfInBounds_toArray, List.set_cons_zero, List.set_cons_succ])
      refine wpAnyH_take (i := 9) rfl (by kernel_rfl) (by kernel_rfl) (by kernel_rfl) (fun _ _ _ h => h) (Or.inr ⟨by rfl, rfl⟩) (by assumption) ?_
      (try simp only [Act.put, List.getElem_toArray, List.getElem_cons_zero, List.getElem_cons_succ, List.setIfInBounds_toArray, List.set_cons_zero, List.set_cons_succ])
      refine wpAnyH_take (i := 10) rfl (by kernel_rfl) (by kernel_rfl) (by kernel_rfl) (fun _ _ _ h => h) (Or.inr ⟨by rfl, rfl⟩) (by assumption) ?_
      (try simp only [Act.put, List.getElem_toArray, List.getElem_cons_zero, List.getElem_cons_succ, List.setIfInBounds_toArray, List.set_cons_zero, List.set_cons_succ])
      refine wpAnyH_take (i := 11) rfl (by kernel_rfl) (by kernel_rfl) (by kernel_rfl) (fun _ _ _ h => h) (Or.inr ⟨by rfl, rfl⟩) (by assumption) ?_
      (try simp only [Act.put, List.getElem_toArray, List.getElem_cons_zero, List.getElem_cons_succ, List.setIfInBounds_toArray, List.set_cons_zero, List.set_cons_succ])
      refine wpAnyH_take (i := 12) rfl (by kernel_rfl) (by kernel_rfl) (by kernel_rfl) (fun _ _ _ h => h) (Or.inr ⟨by rfl, rfl⟩) (by assumption) ?_
      (try simp only [Act.put, List.getElem_toArray, List.getElem_cons_zero, List.getElem_cons_succ, List.setIfInBounds_toArray, List.set_cons_zero, List.set_cons_succ])
      refine wpAnyH_take (i := 13) (v := ?vv12) rfl (by kernel_rfl) (by kernel_rfl) (by kernel_rfl) (fun _ _ _ h => h) (Or.inl ⟨by rfl, ?hy12⟩) (by assumption) ?rest12
      case hy12 => (intro w hSw; (try dsimp only at hSw); go_simp; (try with_reducible rfl))
      (try simp only [Act.put, List.getElem_toArray, List.getElem_cons_zero, List.getElem_cons_succ, List.setIfInBounds_toArray, List.set_cons_zero, List.set_cons_succ])
      refine wpAnyH_take (i := 14) (v := ?vv13) rfl (by kernel_rfl) (by kernel_rfl) (by kernel_rfl) (fun _ _ _ h => h) (Or.inl ⟨by rfl, ?hy13⟩) (by assumption) ?rest13
      case hy13 => (intro w hSw; (try dsimp only at hSw); go_simp; (try with_reducible rfl))
      (try simp only [Act.put, List.getElem_toArray, List.getElem_cons_zero, List.getElem_cons_succ, List.setIfInBounds_toArray, List.set_cons_zero, List.set_cons_succ])
      refine wpAnyH_done (by kernel_rfl) ?_ _
      have hpost : BoolPost (alB s t) w (.returned (.bool false)) w2 := ⟨by rw [HNO.out], hb1w.trans (hb2.mono hb1w.size)⟩
      clear hcS hcT hb1 hb2 hb1w HC HX HY HFX HFY HSAME HNO hbw m0 m1 m2 m3 m4 m5 m6 m7 m8 m9 hHeld
      go_wp2
      go_ret
      exact hpost
  · have hts' : groundB s = false := by simpa using hts
    have HNO := Lib.hid (al_no1 (t := t) hts')
    rw [hts'] at HX
    go_enter Tryz.func45, Tryz.ntmps45
    go_upto_region 1 with fail
    generalize ((w.alloc (.cells #[.int .i64 s.op, .int .i64 s.num, .slice A s.perm.length c, .slice B s.kids.length d] 46)).alloc (.cells #[.int .i64 t.op, .int .i64 t.num, .slice A' t.perm.length c', .slice B' t.kids.length d'] 46)) = V at hbV hszV v0 v1 v2 v3 v4 v5 v6 v7 ⊢
    have HSZ := Lib.hid hszV
    clear hszV
    go_wp2
    have hszV := HSZ.out
    clear HSZ
    have hb : Below w.heap.size w (V.alloc (.cells #[.func (.func 98) #[] #[], .func (.func 100) #[] #[]] 139)) := hbV.alloc hbV.size _
    have hsz0 : (V.alloc (.cells #[.func (.func 98) #[] #[], .func (.func 100) #[] #[]] 139)).heap.size = w.heap.size + 3 := by rw [World.size_alloc]; omega
    have hb3 : Below V.heap.size V (V.alloc (.cells #[.func (.func 98) #[] #[], .func (.func 100) #[] #[]] 139)) := (Below.refl _ _).alloc (Nat.le_refl _) _
    obtain ⟨m8, m9, _, _⟩ := row2 (heap_alloc_new V (.cells #[.func (.func 98) #[] #[], .func (.func 100) #[] #[]] 139))
    have m0 := (hb3.cell (p := ⟨w.heap.size, 0, none⟩) (show w.heap.size < V.heap.size by omega)).trans v0
    have m1 := (hb3.cell (p := ⟨w.heap.size, 1, none⟩) (show w.heap.size < V.heap.size by omega)).trans v1
    have m2 := (hb3.cell (p := ⟨w.heap.size, 2, none⟩) (show w.heap.size < V.heap.size by omega)).trans v2
    have m3 := (hb3.cell (p := ⟨w.heap.size, 3, none⟩) (show w.heap.size < V.heap.size by omega)).trans v3
    have m4 := (hb3.cell (p := ⟨w.heap.size + 1, 0, none⟩) (show w.heap.size + 1 < V.heap.size by omega)).trans v4
    have m5 := (hb3.cell (p := ⟨w.heap.size + 1, 1, none⟩) (show w.heap.size + 1 < V.heap.size by omega)).trans v5
    have m6 := (hb3.cell (p := ⟨w.heap.size + 1, 2, none⟩) (show w.heap.size + 1 < V.heap.size by omega)).trans v6
    have m7 := (hb3.cell (p := ⟨w.heap.size + 1, 3, none⟩) (show w.heap.size + 1 < V.heap.size by omega)).trans v7
    clear hbV v0 v1 v2 v3 v4 v5 v6 v7 hb3
    generalize (V.alloc (.cells #[.func (.func 98) #[] #[], .func (.func 100) #[] #[]] 139)) = W at hb hsz0 m0 m1 m2 m3 m4 m5 m6 m7 m8 m9 ⊢
    have hdw : Below W.heap.size W W.drew := ⟨rfl, rfl, rfl, Nat.le_refl _, fun _ _ => rfl⟩
    have hbw : Below w.heap.size w W.drew := hb.trans (hdw.mono hb.size)
    have HC : Hid (∀ w2, Below W.drew.heap.size W.drew w2 → w2.cell? ⟨w.heap.size, 0, none⟩ = some (.int .i64 s.op) ∧ w2.cell? ⟨w.heap.size, 1, none⟩ = some (.int .i64 s.num) ∧ w2.cell? ⟨w.heap.size, 2, none⟩ = some (.slice A s.perm.length c) ∧ w2.cell? ⟨w.heap.size, 3, none⟩ = some (.slice B s.kids.length d) ∧ w2.cell? ⟨w.heap.size + 1, 0, none⟩ = some (.int .i64 t.op) ∧ w2.cell? ⟨w.heap.size + 1, 1, none⟩ = some (.int .i64 t.num) ∧ w2.cell? ⟨w.heap.size + 1, 2, none⟩ = some (.slice A' t.perm.length c') ∧ w2.cell? ⟨w.heap.size + 1, 3, none⟩ = some (.slice B' t.kids.length d') ∧ w2.cell? ⟨V.heap.size, 0, none⟩ = some (.func (.func 98) #[] #[]) ∧ w2.cell? ⟨V.heap.size, 1, none⟩ = some (.func (.func 100) #[] #[])) := Lib.hid fun w2 hg =>
      ⟨(hg.cell (p := ⟨w.heap.size, 0, none⟩) (show w.heap.size < W.drew.heap.size from by show w.heap.size < W.heap.size; omega)).trans m0, (hg.cell (p := ⟨w.heap.size, 1, none⟩) (show w.heap.size < W.drew.heap.size from by show w.heap.size < W.heap.size; omega)).trans m1, (hg.cell (p := ⟨w.heap.size, 2, none⟩) (show w.heap.size < W.drew.heap.size from by show w.heap.size < W.heap.size; omega)).trans m2, (hg.cell (p := ⟨w.heap.size, 3, none⟩) (show w.heap.size < W.drew.heap.size from by show w.heap.size < W.heap.size; omega)).trans m3, (hg.cell (p := ⟨w.heap.size + 1, 0, none⟩) (show w.heap.size + 1 < W.drew.heap.size from by show w.heap.size + 1 < W.heap.size; omega)).trans m4, (hg.cell (p := ⟨w.heap.size + 1, 1, none⟩) (show w.heap.size + 1 < W.drew.heap.size from by show w.heap.size + 1 < W.heap.size; omega)).trans m5, (hg.cell (p := ⟨w.heap.size + 1, 2, none⟩) (show w.heap.size + 1 < W.drew.heap.size from by show w.heap.size + 1 < W.heap.size; omega)).trans m6, (hg.cell (p := ⟨w.heap.size + 1, 3, none⟩) (show w.heap.size + 1 < W.drew.heap.size from by show w.heap.size + 1 < W.heap.size; omega)).trans m7, (hg.cell (p := ⟨V.heap.size, 0, none⟩) (show V.heap.size < W.drew.heap.size from by show V.heap.size < W.heap.size; omega)).trans m8, (hg.cell (p := ⟨V.heap.size, 1, none⟩) (show V.heap.size < W.drew.heap.size from by show V.heap.size < W.heap.size; omega)).trans m9⟩
    clear hdw hsz0 hszV
    clear m0 m1 m2 m3 m4 m5 m6 m7 m8 m9
    obtain ⟨m0, m1, m2, m3, m4, m5, m6, m7, m8, m9⟩ := HC.out W.drew (Below.refl _ _)
    have hcS := HX.out _ hbw
    refine wp_region_held_drew (S := (fun w' => w'.cell? ⟨w.heap.size, 0, none⟩ = some (.int .i64 s.op) ∧ w'.cell? ⟨w.heap.size, 1, none⟩ = some (.int .i64 s.num) ∧ w'.cell? ⟨w.heap.size, 2, none⟩ = some (.slice A s.perm.length c) ∧ w'.cell? ⟨w.heap.size, 3, none⟩ = some (.slice B s.kids.length d) ∧ w'.cell? ⟨w.heap.size + 1, 0, none⟩ = some (.int .i64 t.op) ∧ w'.cell? ⟨w.heap.size + 1, 1, none⟩ = some (.int .i64 t.num) ∧ w'.cell? ⟨w.heap.size + 1, 2, none⟩ = some (.slice A' t.perm.length c') ∧ w'.cell? ⟨w.heap.size + 1, 3, none⟩ = some (.slice B' t.kids.length d') ∧ w'.cell? ⟨V.heap.size, 0, none⟩ = some (.func (.func 98) #[] #[]) ∧ w'.cell? ⟨V.heap.size, 1, none⟩ = some (.func (.func 100) #[] #[]))) (by kernel_rfl) ⟨m0, m1, m2, m3, m4, m5, m6, m7, m8, m9⟩ (fun hHeld => ?_)
    refine wpAnyH_take (i := 0) (v := ?vv1) rfl (by kernel_rfl) (by kernel_rfl) (by kernel_rfl) (fun _ _ _ h => h) (Or.inl ⟨by rfl, ?hy1⟩) (by assumption) ?rest1
    case hy1 => (intro w hSw; (try dsimp only at hSw); go_simp; (try with_reducible rfl))
    (try simp only [Act.put, List.getElem_toArray, List.getElem_cons_zero, List.setIfInBounds_toArray, List.set_cons_zero, List.set_cons_succ])
    refine wpAnyH_ready (rs := [1]) (by kernel_rfl) (by simp) ?_
    refine AllReadyH.cons rfl (fun K hK => ?_) AllReadyH.nil
    go_simp
    go_at_call 56
    refine hcS.mono ?_
    rintro e w1 ⟨rfl, hb1⟩
    (try go_wp2_with fail)
    refine hK.out _ _ (HC.out w1 hb1) (fun hHeld => ?_)
    clear hK K
    (try simp only [Act.put, List.getElem_toArray, List.getElem_cons_zero, List.getElem_cons_succ, List.setIfInBounds_toArray, List.set_cons_zero, List.set_cons_succ])
    refine wpAnyH_take (i := 2) (v := ?vv2) rfl (by kernel_rfl) (by kernel_rfl) (by kernel_rfl) (fun _ _ _ h => h) (Or.inl ⟨by rfl, ?hy2⟩) (by assumption) ?rest2
    case hy2 => (intro w hSw; (try dsimp only at hSw); go_simp; (try with_reducible rfl))
    (try simp only [Act.put, List.getElem_toArray, List.getElem_cons_zero, List.getElem_cons_succ, List.setIfInBounds_toArray, List.set_cons_zero, List.set_cons_succ])
    refine wpAnyH_take (i := 3) rfl (by kernel_rfl) (by kernel_rfl) (by kernel_rfl) (fun _ _ _ h => h) (Or.inr ⟨by rfl, rfl⟩) (by assumption) ?_
    (try simp only [Act.put, List.getElem_toArray, List.getElem_cons_zero, List.getElem_cons_succ, List.setIfInBounds_toArray, List.set_cons_zero, List.set_cons_succ])
    refine wpAnyH_take (i := 4) rfl (by kernel_rfl) (by kernel_rfl) (by kernel_rfl) (fun _ _ _ h => h) (Or.inr ⟨by rfl, rfl⟩) (by assumption) ?_
    (try simp only [Act.put, List.getElem_toArray, List.getElem_cons_zero, List.getElem_cons_succ, List.setIfInBounds_toArray, List.set_cons_zero, List.set_cons_succ])
    refine wpAnyH_take (i := 5) (v := ?vv3) rfl (by kernel_rfl) (by kernel_rfl) (by kernel_rfl) (fun _ _ _ h => h) (Or.inl ⟨by rfl, ?hy3⟩) (by assumption) ?rest3
    case hy3 => (intro w hSw; (try dsimp only at hSw); go_simp; (try with_reducible rfl))
    (try simp only [Act.put, List.getElem_toArray, List.getElem_cons_zero, List.getElem_cons_succ, List.setIfInBounds_toArray, List.set_cons_zero, List.set_cons_succ])
    refine wpAnyH_take (i := 6) (v := ?vv4) rfl (by kernel_rfl) (by kernel_rfl) (by kernel_rfl) (fun _ _ _ h => h) (Or.inl ⟨by rfl, ?hy4⟩) (by assumption) ?rest4
    case hy4 => (intro w hSw; (try dsimp only at hSw); go_simp; (try with_reducible rfl))
    (try simp only [Act.put, List.getElem_toArray, List.getElem_cons_zero, List.getElem_cons_succ, List.setIfInBounds_toArray, List.set_cons_zero, List.set_cons_succ])
    refine wpAnyH_take (i := 7) rfl (by kernel_rfl) (by kernel_rfl) (by kernel_rfl) (fun _ _ _ h => h) (Or.inr ⟨by rfl, rfl⟩) (by assumption) ?_
    (try simp only [Act.put, List.getElem_toArray, List.getElem_cons_zero, List.getElem_cons_succ, List.setIfInBounds_toArray, List.set_cons_zero, List.set_cons_succ])
    refine wpAnyH_take (i := 8) rfl (by kernel_rfl) (by kernel_rfl) (by kernel_rfl) (fun _ _ _ h => h) (Or.inr ⟨by rfl, rfl⟩) (by assumption) ?_
    (try simp only [Act.put, List.getElem_toArray, List.getElem_cons_zero, List.getElem_cons_succ, List.setIfInBounds_toArray, List.set_cons_zero, List.set_cons_succ])
    refine wpAnyH_take (i := 9) rfl (by kernel_rfl) (by kernel_rfl) (by kernel_rfl) (fun _ _ _ h => h) (Or.inr ⟨by rfl, rfl⟩) (by assumption) ?_
    (try simp only [Act.put, List.getElem_toArray, List.getElem_cons_zero, List.getElem_cons_succ, List.setIfInBounds_toArray, List.set_cons_zero, List.set_cons_succ])
    refine wpAnyH_take (i := 10) rfl (by kernel_rfl) (by kernel_rfl) (by kernel_rfl) (fun _ _ _ h => h) (Or.inr ⟨by rfl, rfl⟩) (by assumption) ?_
    (try simp only [Act.put, List.getElem_toArray, List.getElem_cons_zero, List.getElem_cons_succ, List.setIfInBounds_toArray, List.set_cons_zero, List.set_cons_succ])
    refine wpAnyH_take (i := 11) rfl (by kernel_rfl) (by kernel_rfl) (by kernel_rfl) (fun _ _ _ h => h) (Or.inr ⟨by rfl, rfl⟩) (by assumption) ?_
    (try simp only [Act.put, List.getElem_toArray, List.getElem_cons_zero, List.getElem_cons_succ, List.setIfInBounds_toArray, List.set_cons_zero, List.set_cons_succ])
    refine wpAnyH_take (i := 12) rfl (by kernel_rfl) (by kernel_rfl) (by kernel_rfl) (fun _ _ _ h => h) (Or.inr ⟨by rfl, rfl⟩) (by assumption) ?_
    (try simp only [Act.put, List.getElem_toArray, List.getElem_cons_zero, List.getElem_cons_succ, List.setIfInBounds_toArray, List.set_cons_zero, List.set_cons_succ])
    refine wpAnyH_take (i := 13) (v := ?vv5) rfl (by kernel_rfl) (by kernel_rfl) (by kernel_rfl) (fun _ _ _ h => h) (Or.inl ⟨by rfl, ?hy5⟩) (by assumption) ?rest5
    case hy5 => (intro w hSw; (try dsimp only at hSw); go_simp; (try with_reducible rfl))
    (try simp only [Act.put, List.getElem_toArray, List.getElem_cons_zero, List.getElem_cons_succ, List.setIfInBounds_toArray, List.set_cons_zero, List.set_cons_succ])
    refine wpAnyH_take (i := 14) (v := ?vv6) rfl (by kernel_rfl) (by kernel_rfl) (by kernel_rfl) (fun _ _ _ h => h) (Or.inl ⟨by rfl, ?hy6⟩) (by assumption) ?rest6
    case hy6 => (intro w hSw; (try dsimp only at hSw); go_simp; (try with_reducible rfl))
    (try simp only [Act.put, List.getElem_toArray, List.getElem_cons_zero, List.getElem_cons_succ, List.setIfInBounds_toArray, List.set_cons_zero, List.set_cons_succ])
    refine wpAnyH_done (by kernel_rfl) ?_ _
    have hpost : BoolPost (alB s t) w (.returned (.bool false)) w1 := ⟨by rw [HNO.out], hbw.trans (hb1.mono hbw.size)⟩
    clear hcS hb1 HC HX HY HFX HFY HSAME HNO hbw m0 m1 m2 m3 m4 m5 m6 m7 m8 m9 hHeld
    go_wp2
    go_ret
    exact hpost

end Go.Proofs.YtlhjgjfnmejiaaaGreat
end

section
namespace Go.Proofs.YtlhjgjfnmejiaaaGreat
open Go.RowKit Go.Sort
set_option linter.unusedVariables false

mutual
/-- The model's comparison of terms without holes. -/
def alT : Tm → Tm → Bool
  | .mk o n p ks, t =>
    if o ≠ t.op ∨ ks.length ≠ t.kids.length then false
    else if o = 3 ∧ n ≠ t.num then frG n (tmAt t.kids 0) && alTs ks [actT (swapL n t.num) (tmAt t.kids 0)]
    else alTs ks t.kids && (n == t.num)
def alTs : List Tm → List Tm → Bool
  | [], _ => true
  | _ :: _, [] => true
  | s :: r, t :: q => alT s t && alTs r q
end
theorem alT_no {s t : Tm} (h : s.op ≠ t.op ∨ s.kids.length ≠ t.kids.length) : alT s t = false := by
  cases s with
  | mk o n p ks =>
    rw [op_mk, kids_mk] at h
    rw [alT, if_pos h]
theorem alT_bind {s t : Tm} (h1 : s.op = t.op) (h2 : s.kids.length = t.kids.length) (h3 : s.op = 3) (h4 : s.num ≠ t.num) (hk : s.kids.length = 1) :
    alT s t = (frG s.num (tmAt t.kids 0) && alT (tmAt s.kids 0) (actT (swapL s.num t.num) (tmAt t.kids 0))) := by
  cases s with
  | mk o n p ks =>
    rw [op_mk] at h1 h3
    rw [kids_mk] at h2 hk
    rw [num_mk] at h4 ⊢
    obtain ⟨k, rfl⟩ := List.length_eq_one_iff.1 hk
    have hc : ¬ (o ≠ t.op ∨ [k].length ≠ t.kids.length) := fun h => h.elim (fun e => e h1) (fun e => e h2)
    have h34 : o = 3 ∧ n ≠ t.num := ⟨h3, h4⟩
    rw [alT, if_neg hc, if_pos h34, kids_mk, tmAt_cons_zero]
    simp [alTs]
theorem alT_kids {s t : Tm} (h1 : s.op = t.op) (h2 : s.kids.length = t.kids.length) (h3 : ¬ (s.op = 3 ∧ s.num ≠ t.num)) : alT s t = (alTs s.kids t.kids && (s.num == t.num)) := by
  cases s with
  | mk o n p ks =>
    rw [op_mk] at h1 h3
    rw [num_mk] at h3
    rw [kids_mk] at h2
    rw [num_mk, kids_mk]
    have hc : ¬ (o ≠ t.op ∨ ks.length ≠ t.kids.length) := fun h => h.elim (fun e => e h1) (fun e => e h2)
    rw [alT, if_neg hc, if_neg h3]
theorem alTs_next : ∀ {ks ls : List Tm} {i : Nat}, i < ks.length → i < ls.length → alTs (ks.take (i + 1)) (ls.take (i + 1)) = (alTs (ks.take i) (ls.take i) && alT (tmAt ks i) (tmAt ls i))
  | [], _, i, h, _ => by simp at h
  | _ :: _, [], i, _, h => by simp at h
  | s :: r, t :: q, 0, _, _ => by simp [alTs, tmAt_cons_zero]
  | s :: r, t :: q, i + 1, h, h' => by
    rw [List.take_succ_cons, List.take_succ_cons, List.take_succ_cons, List.take_succ_cons, alTs, alTs, alTs_next (ks := r) (ls := q) (i := i) (by simpa using h) (by simpa using h'), tmAt_cons_succ, tmAt_cons_succ, Bool.and_assoc]
theorem alTs_no : ∀ {ks ls : List Tm} {i : Nat}, i < ks.length → i < ls.length → alT (tmAt ks i) (tmAt ls i) = false → alTs ks ls = false
  | [], _, i, h, _, _ => by simp at h
  | _ :: _, [], i, _, h, _ => by simp at h
  | s :: r, t :: q, 0, _, _, h => by rw [tmAt_cons_zero, tmAt_cons_zero] at h; rw [alTs, h]; rfl
  | s :: r, t :: q, i + 1, h, h', hn => by
    rw [tmAt_cons_succ, tmAt_cons_succ] at hn
    rw [alTs, alTs_no (ks := r) (ls := q) (i := i) (by simpa using h) (by simpa using h') hn, Bool.and_false]

mutual
/-- Of terms without holes it is the program's comparison. -/
theorem alT_eq : ∀ (s t : Tm), ShT s → ShT t → holesB s = false → alT s t = eqOk frG hoG s t
  | .mk o n p ks, .mk o' n' p' ls, hs, ht, hh => by
    rw [holesB_eq, op_mk, kids_mk, Bool.or_eq_false_iff] at hh
    have h4 : o ≠ 4 := by simpa using hh.2
    rw [alT, eqOk, op_mk, num_mk, kids_mk]
    by_cases h1 : o = 1
    · subst h1
      have e := hs.2.1 (.inl rfl)
      subst e
      by_cases h : o' = 1
      · subst h
        have e' := ht.2.1 (.inl rfl)
        subst e'
        simp [alTs]
      · simp [h, Ne.symm h]
    · by_cases h2 : o = 2
      · subst h2
        by_cases h : o' = 2
        · subst h
          by_cases hl : ks.length = ls.length
          · have hk := alTs_eq ks ls hs.2.2.2 ht.2.2.2 hl hh.1
            simp only [hl, ne_eq, not_true_eq_false, or_self, if_false, h1]
            simp only [show ¬ ((2 : Int) = 3) by decide, false_and, if_false, if_true, decide_true, Bool.true_and]
            rw [hk, Bool.and_comm]
          · have hf := eqOks_len frG hoG hl
            simp [hl, hf]
        · simp [h, Ne.symm h]
      · have h3 : o = 3 := by have := hs.1; omega
        subst h3
        by_cases h : o' = 3
        · subst h
          have g1 := hs.2.2.1 rfl
          have g2 := ht.2.2.1 rfl
          have hl : ks.length = ls.length := by omega
          by_cases hn : n = n'
          · subst hn
            have hk := alTs_eq ks ls hs.2.2.2 ht.2.2.2 hl hh.1
            simp only [hl, ne_eq, not_true_eq_false, or_self, if_false, h1, and_false]
            simp only [show ¬ ((3 : Int) = 2) by decide, if_false, if_true, decide_true, Bool.true_and, beq_self_eq_true, Bool.and_true]
            exact hk
          · have h0 : 0 < ls.length := by omega
            have hk := alTs_eq ks [actT (swapL n n') (tmAt ls 0)] hs.2.2.2 ⟨sh_act _ (sh_at ht.2.2.2 h0), trivial⟩ (by simpa using g1) hh.1
            rw [swapL_comm n' n]
            simp only [hl, ne_eq, not_true_eq_false, or_self, if_false, h1, hn, not_false_eq_true, and_self, if_true]
            simp only [show ¬ ((3 : Int) = 2) by decide, if_false, decide_true, Bool.true_and]
            rw [hk]
        · simp [h, Ne.symm h]
theorem alTs_eq : ∀ (ks ls : List Tm), ShTs ks → ShTs ls → ks.length = ls.length → holesBs ks = false → alTs ks ls = eqOks frG hoG ks ls
  | [], [], _, _, _, _ => by simp [alTs, eqOks]
  | [], _ :: _, _, _, h, _ => by simp at h
  | _ :: _, [], _, _, h, _ => by simp at h
  | s :: r, t :: q, hs, ht, hl, hh => by
    rw [holesBs, Bool.or_eq_false_iff] at hh
    rw [alTs, eqOks, alT_eq s t hs.1 ht.1 hh.1, alTs_eq r q hs.2 ht.2 (by simpa using hl) hh.2]
end

end Go.Proofs.YtlhjgjfnmejiaaaGreat
end

section
namespace Go.Proofs.YtlhjgjfnmejiaaaGreat
open Go.RowKit Go.Sort
set_option linter.unusedVariables false

theorem intsAt_ofIns {w : World} {base g cap : Nat} {L : List Int} (h : w.ownsRow base 3 1 (.slice (some ⟨g, 0, none⟩) L.length cap) L.length (icells L)) : IntsAt w (some ⟨g, 0, none⟩) L := by
  obtain ⟨A, c, e, hh⟩ := own_intsAt h
  simp only [Value.slice.injEq] at e
  rw [e.1]
  exact hh

set_option maxRecDepth 100000 in
set_option maxHeartbeats 4000000 in
theorem l2Alpha_bind (s t : Tm) (x y : Value) (w : World) (hx : TmIn w x s) (hy : TmIn w y t) (hop : s.op = t.op) (hl : s.kids.length = t.kids.length) (h3 : s.op = 3) (hne : s.num ≠ t.num) (hs1 : 0 < s.kids.length) (hsz : szT (tmAt t.kids 0) ≤ 60) (hP : OkP 1048576 (tmAt t.kids 0))
    (ih : ∀ (w' : World) (u v : Value), TmIn w' u (tmAt s.kids 0) → TmIn w' v (actT (swapL s.num t.num) (tmAt t.kids 0)) → Calls Tryz.prog 89 #[u, v] w' (BoolPost (alT (tmAt s.kids 0) (actT (swapL s.num t.num) (tmAt t.kids 0))) w')) :
    Calls Tryz.prog 89 #[x, y] w (BoolPost (frG s.num (tmAt t.kids 0) && alT (tmAt s.kids 0) (actT (swapL s.num t.num) (tmAt t.kids 0))) w) := by
  have ht1 : 0 < t.kids.length := by omega
  obtain ⟨A, c, kv, rfl, hp, hk⟩ := hx
  obtain ⟨B, d, rfl⟩ := hk.form
  obtain ⟨A', c', kv', rfl, hp', hk'⟩ := hy
  obtain ⟨B', d', rfl⟩ := hk'.form
  obtain ⟨g, off, rfl, hgl, hget⟩ := hk.get hs1
  obtain ⟨g', off', rfl, hgl', hget'⟩ := hk'.get ht1
  obtain ⟨A1, c1, kv1, d0, d1, d2, d3, hp1, hk1⟩ := hget 0 hs1
  obtain ⟨B1, e1, rfl⟩ := hk1.form
  obtain ⟨A2, c2, kv2, f0, f1, f2, f3, hp2, hk2⟩ := hget' 0 ht1
  obtain ⟨B2, e2, rfl⟩ := hk2.form
  rw [Nat.zero_mul, Nat.add_zero] at d0 d1 d2 d3 f0 f1 f2 f3
  have hq1 : (s.op != t.op) = false := by simp [hop]
  have hq2 : ((s.kids.length : Int) != (t.kids.length : Int)) = false := by simp [hl]
  have hq3 : (s.op == 3) = true := by simp [h3]
  have hq4 : (s.num != t.num) = true := by simp [hne]
  have i1 : (0 : Int) < (s.kids.length : Int) := by omega
  have i2 : (0 : Int) < (t.kids.length : Int) := by omega
  have HA := Lib.hid (fun W P cp y hW hp => l2Act_any (szT (tmAt t.kids 0)) (tmAt t.kids 0) (Nat.le_refl _) (by omega) hP W y P cp (swapL s.num t.num) hW hp (by have := sw_len s.num t.num; omega))
  have HFR := Lib.hid (fun W y hW => l2Free_all (szT (tmAt t.kids 0)) (tmAt t.kids 0) (Nat.le_refl _) hsz W y hW)
  have hfl := Nat.le_trans (freeT_len (tmAt t.kids 0)) hsz
  have HI := Lib.hid ih
  have HSW := Lib.hid (fun W => swapOf_spec s.num t.num W)
  have hfr : frG s.num (tmAt t.kids 0) = !hasB (freeT (tmAt t.kids 0)) s.num := rfl
  rw [hfr]
  generalize hK : tmAt s.kids 0 = k at *
  generalize hL : tmAt t.kids 0 = l at *
  generalize alT k (actT (swapL s.num t.num) l) = r at *
  generalize actT (swapL s.num t.num) l = l2 at *
  generalize swapL s.num t.num = PP at *
  generalize hQ : hasB (freeT l) s.num = q at *
  have HQ := Lib.hid hQ
  have hbV : Below w.heap.size w ((w.alloc (.cells #[.int .i64 s.op, .int .i64 s.num, .slice A s.perm.length c, .slice (some ⟨g, off, none⟩) s.kids.length d] 46)).alloc (.cells #[.int .i64 t.op, .int .i64 t.num, .slice A' t.perm.length c', .slice (some ⟨g', off', none⟩) t.kids.length d'] 46)) := ((Below.refl _ w).alloc (Nat.le_refl _) _).alloc (by simp) _
  have k0 : ((w.alloc (.cells #[.int .i64 s.op, .int .i64 s.num, .slice A s.perm.length c, .slice (some ⟨g, off, none⟩) s.kids.length d] 46)).alloc (.cells #[.int .i64 t.op, .int .i64 t.num, .slice A' t.perm.length c', .slice (some ⟨g', off', none⟩) t.kids.length d'] 46)).heap[w.heap.size]? = some (.cells #[.int .i64 s.op, .int .i64 s.num, .slice A s.perm.length c, .slice (some ⟨g, off, none⟩) s.kids.length d] 46 (0, 0)) := (Below.heap_alloc _ _ _ (by simp)).trans (heap_alloc_new w _)
  have k1 : ((w.alloc (.cells #[.int .i64 s.op, .int .i64 s.num, .slice A s.perm.length c, .slice (some ⟨g, off, none⟩) s.kids.length d] 46)).alloc (.cells #[.int .i64 t.op, .int .i64 t.num, .slice A' t.perm.length c', .slice (some ⟨g', off', none⟩) t.kids.length d'] 46)).heap[w.heap.size + 1]? = some (.cells #[.int .i64 t.op, .int .i64 t.num, .slice A' t.perm.length c', .slice (some ⟨g', off', none⟩) t.kids.length d'] 46 (0, 0)) := by
    have h := heap_alloc_new (w.alloc (.cells #[.int .i64 s.op, .int .i64 s.num, .slice A s.perm.length c, .slice (some ⟨g, off, none⟩) s.kids.length d] 46)) (.cells #[.int .i64 t.op, .int .i64 t.num, .slice A' t.perm.length c', .slice (some ⟨g', off', none⟩) t.kids.length d'] 46)
    rw [World.size_alloc] at h
    exact h
  have hszV : ((w.alloc (.cells #[.int .i64 s.op, .int .i64 s.num, .slice A s.perm.length c, .slice (some ⟨g, off, none⟩) s.kids.length d] 46)).alloc (.cells #[.int .i64 t.op, .int .i64 t.num, .slice A' t.perm.length c', .slice (some ⟨g', off', none⟩) t.kids.length d'] 46)).heap.size = w.heap.size + 2 := by simp
  obtain ⟨v0, v1, v2, v3⟩ := BoxR.row4 k0
  obtain ⟨v4, v5, v6, v7⟩ := BoxR.row4 k1
  have HTK := Lib.hid (fun W (h : Below w.heap.size w W) => (show TmIn W (.agg #[.int .i64 k.op, .int .i64 k.num, .slice A1 k.perm.length c1, .slice B1 k.kids.length e1]) k from ⟨A1, c1, _, rfl, hp1.below h, hk1.below h⟩))
  have HTL0 := Lib.hid (fun W (h : Below w.heap.size w W) => (show TmIn W (.agg #[.int .i64 l.op, .int .i64 l.num, .slice A2 l.perm.length c2, .slice B2 l.kids.length e2]) l from ⟨A2, c2, _, rfl, hp2.below h, hk2.below h⟩))
  have HD := Lib.hid (fun W (h : Below w.heap.size w W) => (show W.cell? ⟨g, off, none⟩ = some (.int .i64 k.op) ∧ W.cell? ⟨g, off + 1, none⟩ = some (.int .i64 k.num) ∧ W.cell? ⟨g, off + 2, none⟩ = some (.slice A1 k.perm.length c1) ∧ W.cell? ⟨g, off + 3, none⟩ = some (.slice B1 k.kids.length e1) ∧ W.cell? ⟨g', off', none⟩ = some (.int .i64 l.op) ∧ W.cell? ⟨g', off' + 1, none⟩ = some (.int .i64 l.num) ∧ W.cell? ⟨g', off' + 2, none⟩ = some (.slice A2 l.perm.length c2) ∧ W.cell? ⟨g', off' + 3, none⟩ = some (.slice B2 l.kids.length e2) from ⟨(h.cell (p := ⟨g, off, none⟩) hgl).trans d0, (h.cell (p := ⟨g, off + 1, none⟩) hgl).trans d1, (h.cell (p := ⟨g, off + 2, none⟩) hgl).trans d2, (h.cell (p := ⟨g, off + 3, none⟩) hgl).trans d3, (h.cell (p := ⟨g', off', none⟩) hgl').trans f0, (h.cell (p := ⟨g', off' + 1, none⟩) hgl').trans f1, (h.cell (p := ⟨g', off' + 2, none⟩) hgl').trans f2, (h.cell (p := ⟨g', off' + 3, none⟩) hgl').trans f3⟩))
  clear hp hk hp' hk' hget hget' hp1 hk1 hp2 hk2 ih d0 d1 d2 d3 f0 f1 f2 f3 k0 k1 hP hsz hK hL hQ hop hl h3 hne hfr
  go_enter Tryz.func89, Tryz.ntmps89
  go_upto_region 1 with fail
  generalize ((w.alloc (.cells #[.int .i64 s.op, .int .i64 s.num, .slice A s.perm.length c, .slice (some ⟨g, off, none⟩) s.kids.length d] 46)).alloc (.cells #[.int .i64 t.op, .int .i64 t.num, .slice A' t.perm.length c', .slice (some ⟨g', off', none⟩) t.kids.length d'] 46)) = V at hbV hszV v0 v1 v2 v3 v4 v5 v6 v7 ⊢
  have lt0 : w.heap.size < V.heap.size := by omega
  have lt1 : w.heap.size + 1 < V.heap.size := by omega
  have lt2 : g' < V.heap.size := Nat.lt_of_lt_of_le hgl' hbV.size
  have ltg : g < V.heap.size := Nat.lt_of_lt_of_le hgl hbV.size
  clear hszV hgl hgl'
  have HTL : Hid (∀ W, Below V.heap.size V W → TmIn W (.agg #[.int .i64 l.op, .int .i64 l.num, .slice A2 l.perm.length c2, .slice B2 l.kids.length e2]) l) := Lib.hid (fun W h => HTL0.out W (hbV.trans (h.mono hbV.size)))
  have HC5a : Hid (∀ w2, Below V.heap.size V w2 → w2.cell? ⟨w.heap.size, 1, none⟩ = some (.int .i64 s.num) ∧ w2.cell? ⟨w.heap.size, 3, none⟩ = some (.slice (some ⟨g, off, none⟩) s.kids.length d) ∧ w2.cell? ⟨w.heap.size + 1, 1, none⟩ = some (.int .i64 t.num) ∧ w2.cell? ⟨w.heap.size + 1, 3, none⟩ = some (.slice (some ⟨g', off', none⟩) t.kids.length d') ∧ w2.cell? ⟨g, off, none⟩ = some (.int .i64 k.op) ∧ w2.cell? ⟨g, off + 1, none⟩ = some (.int .i64 k.num) ∧ w2.cell? ⟨g, off + 2, none⟩ = some (.slice A1 k.perm.length c1) ∧ w2.cell? ⟨g, off + 3, none⟩ = some (.slice B1 k.kids.length e1) ∧ w2.cell? ⟨g', off', none⟩ = some (.int .i64 l.op) ∧ w2.cell? ⟨g', off' + 1, none⟩ = some (.int .i64 l.num) ∧ w2.cell? ⟨g', off' + 2, none⟩ = some (.slice A2 l.perm.length c2) ∧ w2.cell? ⟨g', off' + 3, none⟩ = some (.slice B2 l.kids.length e2)) := Lib.hid fun w2 h => by
    obtain ⟨p0, p1, p2, p3, p4, p5, p6, p7⟩ := HD.out w2 (hbV.trans (h.mono hbV.size))
    exact ⟨(h.cell (p := ⟨w.heap.size, 1, none⟩) lt0).trans v1, (h.cell (p := ⟨w.heap.size, 3, none⟩) lt0).trans v3, (h.cell (p := ⟨w.heap.size + 1, 1, none⟩) lt1).trans v5, (h.cell (p := ⟨w.heap.size + 1, 3, none⟩) lt1).trans v7, p0, p1, p2, p3, p4, p5, p6, p7⟩
  have HC4 : Hid (∀ w2, Below V.heap.size V w2 → w2.cell? ⟨w.heap.size, 1, none⟩ = some (.int .i64 s.num) ∧ w2.cell? ⟨w.heap.size + 1, 1, none⟩ = some (.int .i64 t.num) ∧ w2.cell? ⟨w.heap.size + 1, 3, none⟩ = some (.slice (some ⟨g', off', none⟩) t.kids.length d') ∧ w2.cell? ⟨g', off', none⟩ = some (.int .i64 l.op) ∧ w2.cell? ⟨g', off' + 1, none⟩ = some (.int .i64 l.num) ∧ w2.cell? ⟨g', off' + 2, none⟩ = some (.slice A2 l.perm.length c2) ∧ w2.cell? ⟨g', off' + 3, none⟩ = some (.slice B2 l.kids.length e2)) := Lib.hid fun w2 h => by
    obtain ⟨n0, n1, n2, n3, n4, n5, n6, n7, n8, n9, n10, n11⟩ := HC5a.out w2 h
    exact ⟨n0, n2, n3, n8, n9, n10, n11⟩
  go_upto_region 4 with fail
  go_cut [5] (fun s wx => BoxR.Rel V l2 s wx)
  case first =>
    have hdw : Below V.heap.size V V.drew := ⟨rfl, rfl, rfl, Nat.le_refl _, fun _ _ => rfl⟩
    have hal : Below V.heap.size V (V.alloc (.cells #[.int .i64 0, .int .i64 0, .slice none 0 0, .slice none 0 0] 46)).drew := by
      have h : Below V.heap.size V (V.alloc (.cells #[.int .i64 0, .int .i64 0, .slice none 0 0, .slice none 0 0] 46)) := (Below.refl _ _).alloc (Nat.le_refl _) _
      exact ⟨h.os, h.tape, h.output, h.size, h.block⟩
    obtain ⟨u0, u1, u2, u3, u4, u5, u6⟩ := HC4.out V.drew (hdw)
    obtain ⟨x0, x1, x2, x3, x4, x5, x6⟩ := HC4.out (V.alloc (.cells #[.int .i64 0, .int .i64 0, .slice none 0 0, .slice none 0 0] 46)).drew (hal)
    have ne0_0 : w.heap.size ≠ V.heap.size := Nat.ne_of_lt lt0
    have ne1_0 : w.heap.size + 1 ≠ V.heap.size := Nat.ne_of_lt lt1
    have ne2_0 : g' ≠ V.heap.size := Nat.ne_of_lt lt2
    have h0a := HSW.out (V.drew)
    have h0b := HSW.out ((V.alloc (.cells #[.int .i64 0, .int .i64 0, .slice none 0 0, .slice none 0 0] 46)).drew)
    go_region_held3 (fun w' => w'.cell? ⟨w.heap.size, 1, none⟩ = some (.int .i64 s.num) ∧ w'.cell? ⟨w.heap.size + 1, 1, none⟩ = some (.int .i64 t.num) ∧ w'.cell? ⟨w.heap.size + 1, 3, none⟩ = some (.slice (some ⟨g', off', none⟩) t.kids.length d') ∧ w'.cell? ⟨g', off', none⟩ = some (.int .i64 l.op) ∧ w'.cell? ⟨g', off' + 1, none⟩ = some (.int .i64 l.num) ∧ w'.cell? ⟨g', off' + 2, none⟩ = some (.slice A2 l.perm.length c2) ∧ w'.cell? ⟨g', off' + 3, none⟩ = some (.slice B2 l.kids.length e2))
      (first | ((try dsimp only); (with_reducible exact ⟨by assumption, by assumption, by assumption, by assumption, by assumption, by assumption, by assumption⟩)) | (with_reducible exact ⟨BoxR.set4_keep (by assumption) (by assumption), BoxR.set4_keep (by assumption) (by assumption), BoxR.set4_keep (by assumption) (by assumption), BoxR.set4_keep (by assumption) (by assumption), BoxR.set4_keep (by assumption) (by assumption), BoxR.set4_keep (by assumption) (by assumption), BoxR.set4_keep (by assumption) (by assumption)⟩) | go_keep)
      (first
        | (go_at_call 107; (first | (with_reducible refine h0a.mono ?_) | (with_reducible refine h0b.mono ?_)); rintro e wq0 ⟨vp, rfl, opp, hb0⟩; have fr0 : Below V.heap.size V wq0 := (by first | (with_reducible exact hdw.trans (hb0.mono hdw.size)) | (with_reducible exact hal.trans (hb0.mono hal.size))); (try (have z0 : wq0.heap[V.heap.size]? = some (.cells #[.int .i64 0, .int .i64 0, .slice none 0 0, .slice none 0 0] 46) := (hb0.block V.heap.size (by simp)).trans (heap_alloc_new V (.cells #[.int .i64 0, .int .i64 0, .slice none 0 0, .slice none 0 0] 46)))); obtain ⟨Ap, cp, rfl, hpa⟩ := own_pairsAt opp; obtain ⟨au0, au1, au2, au3, au4, au5, au6⟩ := HC4.out wq0 (fr0); have ne0_1 : w.heap.size ≠ wq0.heap.size := Nat.ne_of_lt (Nat.lt_of_lt_of_le lt0 fr0.size); have ne1_1 : w.heap.size + 1 ≠ wq0.heap.size := Nat.ne_of_lt (Nat.lt_of_lt_of_le lt1 fr0.size); have ne2_1 : g' ≠ wq0.heap.size := Nat.ne_of_lt (Nat.lt_of_lt_of_le lt2 fr0.size); have al0 : Below wq0.heap.size wq0 (wq0.alloc (.cells #[.int .i64 0, .int .i64 0, .slice none 0 0, .slice none 0 0] 46)) := (Below.refl _ _).alloc (Nat.le_refl _) _; have h1a := HA.out (wq0) Ap cp _ (HTL.out (wq0) (fr0)) hpa; have h1b := HA.out ((wq0.alloc (.cells #[.int .i64 0, .int .i64 0, .slice none 0 0, .slice none 0 0] 46))) Ap cp _ (HTL.out ((wq0.alloc (.cells #[.int .i64 0, .int .i64 0, .slice none 0 0, .slice none 0 0] 46))) ((fr0.trans (al0.mono fr0.size)))) (hpa.below al0))
        | (go_at_call 87; (first | (with_reducible refine h1a.mono ?_) | (with_reducible refine h1b.mono ?_)); rintro e wq1 ⟨Aw, cw, Bw, dw, Sw, rfl, hLw, hSw, hb1⟩; have bx1 : Below wq0.heap.size wq0 wq1 := (by first | (with_reducible exact hb1) | (with_reducible exact al0.trans (hb1.mono al0.size))); have fr1 := fr0.trans (bx1.mono fr0.size); (try (have z1 := (bx1.block _ (BoxR.box_lt z0)).trans z0)); (try (have z1 : wq1.heap[wq0.heap.size]? = some (.cells #[.int .i64 0, .int .i64 0, .slice none 0 0, .slice none 0 0] 46) := (hb1.block _ (by simp)).trans (heap_alloc_new wq0 (.cells #[.int .i64 0, .int .i64 0, .slice none 0 0, .slice none 0 0] 46)))); obtain ⟨bu0, bu1, bu2, bu3, bu4, bu5, bu6⟩ := HC4.out wq1 (fr1); have ne0_2 : w.heap.size ≠ wq1.heap.size := Nat.ne_of_lt (Nat.lt_of_lt_of_le lt0 fr1.size); have ne1_2 : w.heap.size + 1 ≠ wq1.heap.size := Nat.ne_of_lt (Nat.lt_of_lt_of_le lt1 fr1.size); have ne2_2 : g' ≠ wq1.heap.size := Nat.ne_of_lt (Nat.lt_of_lt_of_le lt2 fr1.size); (try (obtain ⟨q0, q1, q2, q3⟩ := BoxR.row4 z1; have y0 := frozen_of_row _ _ 0 _ _ z1; have y1 := frozen_of_row _ _ 1 _ _ z1; have y2 := frozen_of_row _ _ 2 _ _ z1; have y3 := frozen_of_row _ _ 3 _ _ z1)))
        | fail)
    all_goals
      have sz0 : V.heap.size ≤ wq0.heap.size := fr0.size
      go_wp2_with fail
      go_meet
      first | (with_reducible exact BoxR.rel_set z1 hLw (fun b hb => Nat.le_trans (by omega) (hSw b hb)) (fun b hb => Nat.ne_of_gt (Nat.lt_of_lt_of_le (BoxR.box_lt z0) (hSw b hb))) (by omega) fr1) | (with_reducible exact BoxR.rel_set z1 hLw (fun b hb => Nat.le_trans (by simp; omega) (hSw b hb)) (fun b hb => Nat.ne_of_gt (Nat.lt_of_lt_of_le (by simp) (hSw b hb))) (by omega) fr1) | (with_reducible exact BoxR.rel_new hLw (fun b hb => Nat.le_trans (by omega) (hSw b hb)) fr1)
  case rest =>
    obtain ⟨gb, Ab, cb, Bb, db, Sb, rfl, hbox, hLb, hgS, hSb, hgb, hbb⟩ := hcut
    have hsv : V.heap.size ≤ wc.heap.size := hbb.size
    have hdw : Below wc.heap.size wc wc.drew := ⟨rfl, rfl, rfl, Nat.le_refl _, fun _ _ => rfl⟩
    have hbd := hbb.trans (hdw.mono hbb.size)
    have hti : TmIn wc (.agg #[.int .i64 l2.op, .int .i64 l2.num, .slice Ab l2.perm.length cb, .slice Bb l2.kids.length db]) l2 := tmOut_in hLb
    have hboxd : wc.drew.heap[gb]? = _ := hbox
    have hltb : gb < wc.drew.heap.size := BoxR.box_lt hboxd
    have HC5 : Hid (∀ w2, Below wc.drew.heap.size wc.drew w2 → w2.cell? ⟨w.heap.size, 1, none⟩ = some (.int .i64 s.num) ∧ w2.cell? ⟨w.heap.size, 3, none⟩ = some (.slice (some ⟨g, off, none⟩) s.kids.length d) ∧ w2.cell? ⟨w.heap.size + 1, 1, none⟩ = some (.int .i64 t.num) ∧ w2.cell? ⟨w.heap.size + 1, 3, none⟩ = some (.slice (some ⟨g', off', none⟩) t.kids.length d') ∧ w2.cell? ⟨g, off, none⟩ = some (.int .i64 k.op) ∧ w2.cell? ⟨g, off + 1, none⟩ = some (.int .i64 k.num) ∧ w2.cell? ⟨g, off + 2, none⟩ = some (.slice A1 k.perm.length c1) ∧ w2.cell? ⟨g, off + 3, none⟩ = some (.slice B1 k.kids.length e1) ∧ w2.cell? ⟨g', off', none⟩ = some (.int .i64 l.op) ∧ w2.cell? ⟨g', off' + 1, none⟩ = some (.int .i64 l.num) ∧ w2.cell? ⟨g', off' + 2, none⟩ = some (.slice A2 l.perm.length c2) ∧ w2.cell? ⟨g', off' + 3, none⟩ = some (.slice B2 l.kids.length e2) ∧ w2.cell? ⟨gb, 0, none⟩ = some (.int .i64 l2.op) ∧ w2.cell? ⟨gb, 1, none⟩ = some (.int .i64 l2.num) ∧ w2.cell? ⟨gb, 2, none⟩ = some (.slice Ab l2.perm.length cb) ∧ w2.cell? ⟨gb, 3, none⟩ = some (.slice Bb l2.kids.length db)) := Lib.hid fun w2 h => by
      obtain ⟨n0, n1, n2, n3, n4, n5, n6, n7, n8, n9, n10, n11⟩ := HC5a.out w2 (hbd.trans (h.mono hbd.size))
      obtain ⟨n12, n13, n14, n15⟩ := BoxR.row4 ((h.block gb hltb).trans hboxd)
      exact ⟨n0, n1, n2, n3, n4, n5, n6, n7, n8, n9, n10, n11, n12, n13, n14, n15⟩
    have HB := Lib.hid (fun (w2 : World) (h : Below wc.drew.heap.size wc.drew w2) => hti.below (hdw.trans (h.mono hdw.size)))
    have HTKd := Lib.hid (fun (w2 : World) (h : Below wc.drew.heap.size wc.drew w2) => HTK.out w2 (hbV.trans ((hbd.trans (h.mono hbd.size)).mono hbV.size)))
    have HW := Lib.hid (fun (w2 : World) (h : Below wc.drew.heap.size wc.drew w2) => hbV.trans ((hbd.trans (h.mono hbd.size)).mono hbV.size))
    have hcF := HFR.out wc.drew _ (HTL.out _ hbd)
    obtain ⟨m0, m1, m2, m3, m4, m5, m6, m7, m8, m9, m10, m11, m12, m13, m14, m15⟩ := HC5.out wc.drew (Below.refl _ _)
    clear hbox hLb hgS hSb hgb hbb hdw hbd hti hboxd hltb HC4 HC5a HA HSW HTL HTL0 HTK HD v0 v1 v2 v3 v4 v5 v6 v7 hbV hsv lt0 lt1 lt2 ltg
    generalize freeT l = F at *
    cases q with
    | false =>
      go_wp2
      go_region_held3 (fun w' => w'.cell? ⟨w.heap.size, 1, none⟩ = some (.int .i64 s.num) ∧ w'.cell? ⟨w.heap.size, 3, none⟩ = some (.slice (some ⟨g, off, none⟩) s.kids.length d) ∧ w'.cell? ⟨w.heap.size + 1, 1, none⟩ = some (.int .i64 t.num) ∧ w'.cell? ⟨w.heap.size + 1, 3, none⟩ = some (.slice (some ⟨g', off', none⟩) t.kids.length d') ∧ w'.cell? ⟨g, off, none⟩ = some (.int .i64 k.op) ∧ w'.cell? ⟨g, off + 1, none⟩ = some (.int .i64 k.num) ∧ w'.cell? ⟨g, off + 2, none⟩ = some (.slice A1 k.perm.length c1) ∧ w'.cell? ⟨g, off + 3, none⟩ = some (.slice B1 k.kids.length e1) ∧ w'.cell? ⟨g', off', none⟩ = some (.int .i64 l.op) ∧ w'.cell? ⟨g', off' + 1, none⟩ = some (.int .i64 l.num) ∧ w'.cell? ⟨g', off' + 2, none⟩ = some (.slice A2 l.perm.length c2) ∧ w'.cell? ⟨g', off' + 3, none⟩ = some (.slice B2 l.kids.length e2) ∧ w'.cell? ⟨gb, 0, none⟩ = some (.int .i64 l2.op) ∧ w'.cell? ⟨gb, 1, none⟩ = some (.int .i64 l2.num) ∧ w'.cell? ⟨gb, 2, none⟩ = some (.slice Ab l2.perm.length cb) ∧ w'.cell? ⟨gb, 3, none⟩ = some (.slice Bb l2.kids.length db))
        (first | (with_reducible exact ⟨by assumption, by assumption, by assumption, by assumption, by assumption, by assumption, by assumption, by assumption, by assumption, by assumption, by assumption, by assumption, by assumption, by assumption, by assumption, by assumption⟩) | ((try dsimp only); exact ⟨by assumption, by assumption, by assumption, by assumption, by assumption, by assumption, by assumption, by assumption, by assumption, by assumption, by assumption, by assumption, by assumption, by assumption, by assumption, by assumption⟩) | go_keep)
        (first
          | (go_at_call 105; refine hcF.mono ?_; rintro e wf ⟨gf, cf, rfl, hof, hbf⟩; have hia := intsAt_ofIns hof; have hcH := l1Has_any (some ⟨gf, 0, none⟩) cf F s.num wf hia (by omega); rw [HQ.out] at hcH; obtain ⟨a0, a1, a2, a3, a4, a5, a6, a7, a8, a9, a10, a11, a12, a13, a14, a15⟩ := HC5.out wf hbf)
          | (go_at_call 104; refine hcH.mono ?_; rintro e wh ⟨rfl, rfl⟩; have hcA := HI.out wf _ _ (HTKd.out wf hbf) (HB.out wf hbf))
          | (go_at_call 89; refine hcA.mono ?_; rintro e wz ⟨rfl, hbz⟩; have hbt := hbf.trans (hbz.mono hbf.size); obtain ⟨b0, b1, b2, b3, b4, b5, b6, b7, b8, b9, b10, b11, b12, b13, b14, b15⟩ := HC5.out wz hbt)
          | fail)
      have hpost : BoolPost (!false && r) w (.returned (.bool r)) wz := ⟨by simp, HW.out wz hbt⟩
      clear hcF hcH hcA hof hia hbf hbz hbt HC5 HB HTKd HW HFR HI HQ m0 m1 m2 m3 m4 m5 m6 m7 m8 m9 m10 m11 m12 m13 m14 m15 a0 a1 a2 a3 a4 a5 a6 a7 a8 a9 a10 a11 a12 a13 a14 a15 b0 b1 b2 b3 b4 b5 b6 b7 b8 b9 b10 b11 b12 b13 b14 b15
      go_wp2
      go_ret
      exact hpost
    | true =>
      go_wp2
      refine wp_region_held_drew (S := (fun w' => w'.cell? ⟨w.heap.size, 1, none⟩ = some (.int .i64 s.num) ∧ w'.cell? ⟨w.heap.size, 3, none⟩ = some (.slice (some ⟨g, off, none⟩) s.kids.length d) ∧ w'.cell? ⟨w.heap.size + 1, 1, none⟩ = some (.int .i64 t.num) ∧ w'.cell? ⟨w.heap.size + 1, 3, none⟩ = some (.slice (some ⟨g', off', none⟩) t.kids.length d') ∧ w'.cell? ⟨g, off, none⟩ = some (.int .i64 k.op) ∧ w'.cell? ⟨g, off + 1, none⟩ = some (.int .i64 k.num) ∧ w'.cell? ⟨g, off + 2, none⟩ = some (.slice A1 k.perm.length c1) ∧ w'.cell? ⟨g, off + 3, none⟩ = some (.slice B1 k.kids.length e1) ∧ w'.cell? ⟨g', off', none⟩ = some (.int .i64 l.op) ∧ w'.cell? ⟨g', off' + 1, none⟩ = some (.int .i64 l.num) ∧ w'.cell? ⟨g', off' + 2, none⟩ = some (.slice A2 l.perm.length c2) ∧ w'.cell? ⟨g', off' + 3, none⟩ = some (.slice B2 l.kids.length e2) ∧ w'.cell? ⟨gb, 0, none⟩ = some (.int .i64 l2.op) ∧ w'.cell? ⟨gb, 1, none⟩ = some (.int .i64 l2.num) ∧ w'.cell? ⟨gb, 2, none⟩ = some (.slice Ab l2.perm.length cb) ∧ w'.cell? ⟨gb, 3, none⟩ = some (.slice Bb l2.kids.length db))) (by kernel_rfl) ⟨m0, m1, m2, m3, m4, m5, m6, m7, m8, m9, m10, m11, m12, m13, m14, m15⟩ (fun hHeld => ?_)
      refine wpAnyH_take (i := 0) (v := ?vv1) rfl (by kernel_rfl) (by kernel_rfl) (by kernel_rfl) (fun _ _ _ h => h) (Or.inl ⟨by rfl, ?hy1⟩) (by assumption) ?rest1
      case hy1 => (intro w hSw; (try dsimp only at hSw); go_simp; (try with_reducible rfl))
      (try simp only [Act.put, List.getElem_toArray, List.getElem_cons_zero, List.setIfInBounds_toArray, List.set_cons_zero, List.set_cons_succ])
      refine wpAnyH_take (i := 1) (v := ?vv2) rfl (by kernel_rfl) (by kernel_rfl) (by kernel_rfl) (fun _ _ _ h => h) (Or.inl ⟨by rfl, ?hy2⟩) (by assumption) ?rest2
      case hy2 => (intro w hSw; (try dsimp only at hSw); go_simp; (try with_reducible rfl))
      (try simp only [Act.put, List.getElem_toArray, List.getElem_cons_zero, List.getElem_cons_succ, List.setIfInBounds_toArray, List.set_cons_zero, List.set_cons_succ])
      refine wpAnyH_take (i := 2) (v := ?vv3) rfl (by kernel_rfl) (by kernel_rfl) (by kernel_rfl) (fun _ _ _ h => h) (Or.inl ⟨by rfl, ?hy3⟩) (by assumption) ?rest3
      case hy3 => (intro w hSw; (try dsimp only at hSw); go_simp; (try with_reducible rfl))
      (try simp only [Act.put, List.getElem_toArray, List.getElem_cons_zero, List.getElem_cons_succ, List.setIfInBounds_toArray, List.set_cons_zero, List.set_cons_succ])
      refine wpAnyH_take (i := 3) (v := ?vv4) rfl (by kernel_rfl) (by kernel_rfl) (by kernel_rfl) (fun _ _ _ h => h) (Or.inl ⟨by rfl, ?hy4⟩) (by assumption) ?rest4
      case hy4 => (intro w hSw; (try dsimp only at hSw); go_simp; (try with_reducible rfl))
      (try simp only [Act.put, List.getElem_toArray, List.getElem_cons_zero, List.getElem_cons_succ, List.setIfInBounds_toArray, List.set_cons_zero, List.set_cons_succ])
      refine wpAnyH_take (i := 5) (v := ?vv5) rfl (by kernel_rfl) (by kernel_rfl) (by kernel_rfl) (fun _ _ _ h => h) (Or.inl ⟨by rfl, ?hy5⟩) (by assumption) ?rest5
      case hy5 => (intro w hSw; (try dsimp only at hSw); go_simp; (try with_reducible rfl))
      (try simp only [Act.put, List.getElem_toArray, List.getElem_cons_zero, List.getElem_cons_succ, List.setIfInBounds_toArray, List.set_cons_zero, List.set_cons_succ])
      refine wpAnyH_take (i := 6) (v := ?vv6) rfl (by kernel_rfl) (by kernel_rfl) (by kernel_rfl) (fun _ _ _ h => h) (Or.inl ⟨by rfl, ?hy6⟩) (by assumption) ?rest6
      case hy6 => (intro w hSw; (try dsimp only at hSw); go_simp; (try with_reducible rfl))
      (try simp only [Act.put, List.getElem_toArray, List.getElem_cons_zero, List.getElem_cons_succ, List.setIfInBounds_toArray, List.set_cons_zero, List.set_cons_succ])
      refine wpAnyH_ready (rs := [4]) (by kernel_rfl) (by simp) ?_
      refine AllReadyH.cons rfl (fun K hK => ?_) AllReadyH.nil
      go_simp
      go_at_call 105
      refine hcF.mono ?_
      rintro e wf ⟨gf, cf, rfl, hof, hbf⟩
      (try go_wp2_with fail)
      refine hK.out _ _ (HC5.out wf hbf) (fun hHeld => ?_)
      clear hK K
      (try simp only [Act.put, List.getElem_toArray, List.getElem_cons_zero, List.getElem_cons_succ, List.setIfInBounds_toArray, List.set_cons_zero, List.set_cons_succ])
      have hia := intsAt_ofIns hof
      have hcH := l1Has_any (some ⟨gf, 0, none⟩) cf F s.num wf hia (by omega)
      rw [HQ.out] at hcH
      refine wpAnyH_ready (rs := [7]) (by kernel_rfl) (by simp) ?_
      refine AllReadyH.cons rfl (fun K hK => ?_) AllReadyH.nil
      go_simp
      go_at_call 104
      refine hcH.mono ?_
      rintro e wh ⟨rfl, rfl⟩
      (try go_wp2_with fail)
      refine hK.out _ _ (HC5.out wf hbf) (fun hHeld => ?_)
      clear hK K
      (try simp only [Act.put, List.getElem_toArray, List.getElem_cons_zero, List.getElem_cons_succ, List.setIfInBounds_toArray, List.set_cons_zero, List.set_cons_succ])
      refine wpAnyH_take (i := 8) (v := ?vv7) rfl (by kernel_rfl) (by kernel_rfl) (by kernel_rfl) (fun _ _ _ h => h) (Or.inl ⟨by rfl, ?hy7⟩) (by assumption) ?rest7
      case hy7 => (intro w hSw; (try dsimp only at hSw); go_simp; (try with_reducible rfl))
      (try simp only [Act.put, List.getElem_toArray, List.getElem_cons_zero, List.getElem_cons_succ, List.setIfInBounds_toArray, List.set_cons_zero, List.set_cons_succ])
      refine wpAnyH_take (i := 9) (v := ?vv8) rfl (by kernel_rfl) (by kernel_rfl) (by kernel_rfl) (fun _ _ _ h => h) (Or.inl ⟨by rfl, ?hy8⟩) (by assumption) ?rest8
      case hy8 => (intro w hSw; (try dsimp only at hSw); go_simp; (try with_reducible rfl))
      (try simp only [Act.put, List.getElem_toArray, List.getElem_cons_zero, List.getElem_cons_succ, List.setIfInBounds_toArray, List.set_cons_zero, List.set_cons_succ])
      refine wpAnyH_take (i := 10) rfl (by kernel_rfl) (by kernel_rfl) (by kernel_rfl) (fun _ _ _ h => h) (Or.inr ⟨by rfl, rfl⟩) (by assumption) ?_
      (try simp only [Act.put, List.getElem_toArray, List.getElem_cons_zero, List.getElem_cons_succ, List.setIfInBounds_toArray, List.set_cons_zero, List.set_cons_succ])
      refine wpAnyH_take (i := 11) rfl (by kernel_rfl) (by kernel_rfl) (by kernel_rfl) (fun _ _ _ h => h) (Or.inr ⟨by rfl, rfl⟩) (by assumption) ?_
      (try simp only [Act.put, List.getElem_toArray, List.getElem_cons_zero, List.getElem_cons_succ, List.setIfInBounds_toArray, List.set_cons_zero, List.set_cons_succ])
      refine wpAnyH_take (i := 12) rfl (by kernel_rfl) (by kernel_rfl) (by kernel_rfl) (fun _ _ _ h => h) (Or.inr ⟨by rfl, rfl⟩) (by assumption) ?_
      (try simp only [Act.put, List.getElem_toArray, List.getElem_cons_zero, List.getElem_cons_succ, List.setIfInBounds_toArray, List.set_cons_zero, List.set_cons_succ])
      refine wpAnyH_take (i := 13) rfl (by kernel_rfl) (by kernel_rfl) (by kernel_rfl) (fun _ _ _ h => h) (Or.inr ⟨by rfl, rfl⟩) (by assumption) ?_
      (try simp only [Act.put, List.getElem_toArray, List.getElem_cons_zero, List.getElem_cons_succ, List.setIfInBounds_toArray, List.set_cons_zero, List.set_cons_succ])
      refine wpAnyH_take (i := 14) rfl (by kernel_rfl) (by kernel_rfl) (by kernel_rfl) (fun _ _ _ h => h) (Or.inr ⟨by rfl, rfl⟩) (by assumption) ?_
      (try simp only [Act.put, List.getElem_toArray, List.getElem_cons_zero, List.getElem_cons_succ, List.setIfInBounds_toArray, List.set_cons_zero, List.set_cons_succ])
      refine wpAnyH_take (i := 15) rfl (by kernel_rfl) (by kernel_rfl) (by kernel_rfl) (fun _ _ _ h => h) (Or.inr ⟨by rfl, rfl⟩) (by assumption) ?_
      (try simp only [Act.put, List.getElem_toArray, List.getElem_cons_zero, List.getElem_cons_succ, List.setIfInBounds_toArray, List.set_cons_zero, List.set_cons_succ])
      refine wpAnyH_take (i := 16) (v := ?vv9) rfl (by kernel_rfl) (by kernel_rfl) (by kernel_rfl) (fun _ _ _ h => h) (Or.inl ⟨by rfl, ?hy9⟩) (by assumption) ?rest9
      case hy9 => (intro w hSw; (try dsimp only at hSw); go_simp; (try with_reducible rfl))
      (try simp only [Act.put, List.getElem_toArray, List.getElem_cons_zero, List.getElem_cons_succ, List.setIfInBounds_toArray, List.set_cons_zero, List.set_cons_succ])
      refine wpAnyH_take (i := 17) (v := ?vv10) rfl (by kernel_rfl) (by kernel_rfl) (by kernel_rfl) (fun _ _ _ h => h) (Or.inl ⟨by rfl, ?hy10⟩) (by assumption) ?rest10
      case hy10 => (intro w hSw; (try dsimp only at hSw); go_simp; (try with_reducible rfl))
      (try simp only [Act.put, List.getElem_toArray, List.getElem_cons_zero, List.getElem_cons_succ, List.setIfInBounds_toArray, List.set_cons_zero, List.set_cons_succ])
      refine wpAnyH_done (by kernel_rfl) ?_ _
      have hpost : BoolPost (!true && r) w (.returned (.bool false)) wf := ⟨by simp, HW.out wf hbf⟩
      clear hcF hcH hof hia hbf HC5 HB HTKd HW HFR HI HQ m0 m1 m2 m3 m4 m5 m6 m7 m8 m9 m10 m11 m12 m13 m14 m15
      go_wp2
      go_ret
      exact hpost

end Go.Proofs.YtlhjgjfnmejiaaaGreat
end

section
namespace Go.Proofs.YtlhjgjfnmejiaaaGreat
open Go.RowKit Go.Sort
set_option linter.unusedVariables false

set_option maxRecDepth 100000 in
set_option maxHeartbeats 4000000 in
theorem l2Alpha_kids (s t : Tm) (x y : Value) (w : World) (hx : TmIn w x s) (hy : TmIn w y t) (hop : s.op = t.op) (hl : s.kids.length = t.kids.length) (hnb : ¬ (s.op = 3 ∧ s.num ≠ t.num)) (hk60 : s.kids.length ≤ 60)
    (ihK : ∀ i, i < s.kids.length → i < t.kids.length → ∀ (w' : World) (u v : Value), TmIn w' u (tmAt s.kids i) → TmIn w' v (tmAt t.kids i) → Calls Tryz.prog 89 #[u, v] w' (BoolPost (alT (tmAt s.kids i) (tmAt t.kids i)) w')) :
    Calls Tryz.prog 89 #[x, y] w (BoolPost (alTs s.kids t.kids && (s.num == t.num)) w) := by
  have hx' := hx
  have hy' := hy
  obtain ⟨A, c, kv, rfl, hp, hk⟩ := hx
  obtain ⟨B, d, rfl⟩ := hk.form
  obtain ⟨A', c', kv', rfl, hp', hk'⟩ := hy
  obtain ⟨B', d', rfl⟩ := hk'.form
  have hbV : Below w.heap.size w ((w.alloc (.cells #[.int .i64 s.op, .int .i64 s.num, .slice A s.perm.length c, .slice B s.kids.length d] 46)).alloc (.cells #[.int .i64 t.op, .int .i64 t.num, .slice A' t.perm.length c', .slice B' t.kids.length d'] 46)) := ((Below.refl _ w).alloc (Nat.le_refl _) _).alloc (by simp) _
  have k0 : ((w.alloc (.cells #[.int .i64 s.op, .int .i64 s.num, .slice A s.perm.length c, .slice B s.kids.length d] 46)).alloc (.cells #[.int .i64 t.op, .int .i64 t.num, .slice A' t.perm.length c', .slice B' t.kids.length d'] 46)).heap[w.heap.size]? = some (.cells #[.int .i64 s.op, .int .i64 s.num, .slice A s.perm.length c, .slice B s.kids.length d] 46 (0, 0)) := (Below.heap_alloc _ _ _ (by simp)).trans (heap_alloc_new w _)
  have k1 : ((w.alloc (.cells #[.int .i64 s.op, .int .i64 s.num, .slice A s.perm.length c, .slice B s.kids.length d] 46)).alloc (.cells #[.int .i64 t.op, .int .i64 t.num, .slice A' t.perm.length c', .slice B' t.kids.length d'] 46)).heap[w.heap.size + 1]? = some (.cells #[.int .i64 t.op, .int .i64 t.num, .slice A' t.perm.length c', .slice B' t.kids.length d'] 46 (0, 0)) := by
    have h := heap_alloc_new (w.alloc (.cells #[.int .i64 s.op, .int .i64 s.num, .slice A s.perm.length c, .slice B s.kids.length d] 46)) (.cells #[.int .i64 t.op, .int .i64 t.num, .slice A' t.perm.length c', .slice B' t.kids.length d'] 46)
    rw [World.size_alloc] at h
    exact h
  have hszV : ((w.alloc (.cells #[.int .i64 s.op, .int .i64 s.num, .slice A s.perm.length c, .slice B s.kids.length d] 46)).alloc (.cells #[.int .i64 t.op, .int .i64 t.num, .slice A' t.perm.length c', .slice B' t.kids.length d'] 46)).heap.size = w.heap.size + 2 := by simp
  obtain ⟨v0, v1, v2, v3⟩ := BoxR.row4 k0
  obtain ⟨v4, v5, v6, v7⟩ := BoxR.row4 k1
  have hq1 : (s.op != t.op) = false := by simp [hop]
  have hq2 : ((s.kids.length : Int) != (t.kids.length : Int)) = false := by simp [hl]
  by_cases h3 : s.op = 3
  · have hq3 : (s.op == 3) = true := by simp [h3]
    have hq5 : (s.num != t.num) = false := by
      by_cases e : s.num = t.num
      · simp [e]
      · exact absurd ⟨h3, e⟩ hnb
    have HLEN := Lib.hid hl
    clear hop hl hnb h3 hx' hy' hp hp' k0 k1
    go_enter Tryz.func89, Tryz.ntmps89
    go_upto_region 1 with fail
    generalize ((w.alloc (.cells #[.int .i64 s.op, .int .i64 s.num, .slice A s.perm.length c, .slice B s.kids.length d] 46)).alloc (.cells #[.int .i64 t.op, .int .i64 t.num, .slice A' t.perm.length c', .slice B' t.kids.length d'] 46)) = V at hbV hszV v0 v1 v2 v3 v4 v5 v6 v7 ⊢
    have lt0 : w.heap.size < V.heap.size := by omega
    have lt1 : w.heap.size + 1 < V.heap.size := by omega
    clear hszV
    go_wp2
    go_loopw [6, 61] (fun _ i wr => ∃ k : Nat, k ≤ s.kids.length ∧ i = .int .i64 k ∧ Hid (alTs (s.kids.take k) (t.kids.take k) = true) ∧ Below V.heap.size V wr) (fun _ i _ => s.kids.length - (intOf i).toNat)
    case atStart => exact ⟨0, Nat.zero_le _, rfl, Lib.hid (by simp [alTs]), Below.refl _ _⟩
    case round =>
      obtain ⟨k, hkk, rfl, hq, hbw⟩ := hrel
      have hb := hbV.trans (hbw.mono hbV.size)
      have y1 := (hbw.cell (p := ⟨w.heap.size, 1, none⟩) lt0).trans v1
      have y3 := (hbw.cell (p := ⟨w.heap.size, 3, none⟩) lt0).trans v3
      have y5 := (hbw.cell (p := ⟨w.heap.size + 1, 1, none⟩) lt1).trans v5
      have y7 := (hbw.cell (p := ⟨w.heap.size + 1, 3, none⟩) lt1).trans v7
      by_cases hlt : k < s.kids.length
      · have hlt2 : k < t.kids.length := by have := HLEN.out; omega
        obtain ⟨g, off, rfl, hgl, hget⟩ := (hk.below hb).get (by omega)
        obtain ⟨g', off', rfl, hgl', hget'⟩ := (hk'.below hb).get (by omega)
        obtain ⟨A1, c1, kv1, d0, d1, d2, d3, hp1, hk1⟩ := hget k hlt
        obtain ⟨B1, e1, rfl⟩ := hk1.form
        obtain ⟨A2, c2, kv2, f0, f1, f2, f3, hp2, hk2⟩ := hget' k hlt2
        obtain ⟨B2, e2, rfl⟩ := hk2.form
        have hdw : Below wr.heap.size wr wr.drew := ⟨rfl, rfl, rfl, Nat.le_refl _, fun _ _ => rfl⟩
        have hct := ihK k hlt hlt2 wr.drew _ _ ⟨A1, c1, _, rfl, hp1.below hdw, hk1.below hdw⟩ ⟨A2, c2, _, rfl, hp2.below hdw, hk2.below hdw⟩
        have HN := Lib.hid (alTs_next hlt hlt2)
        have HNO := Lib.hid (fun h => alTs_no hlt hlt2 h)
        have i1 : (k : Int) < (s.kids.length : Int) := by omega
        have i2 : (k : Int) < (t.kids.length : Int) := by omega
        have i3 : (0 : Int) ≤ (k : Int) := by omega
        have HLT := Lib.hid hlt
        generalize tmAt s.kids k = ks at *
        generalize tmAt t.kids k = kt at *
        generalize alT ks kt = ok at *
        have b0 : wr.drew.cell? ⟨w.heap.size, 3, none⟩ = _ := y3
        have b1 : wr.drew.cell? ⟨w.heap.size + 1, 3, none⟩ = _ := y7
        have b2 : wr.drew.cell? ⟨g, off + k * 4, none⟩ = _ := d0
        have b3 : wr.drew.cell? ⟨g, off + k * 4 + 1, none⟩ = _ := d1
        have b4 : wr.drew.cell? ⟨g, off + k * 4 + 2, none⟩ = _ := d2
        have b5 : wr.drew.cell? ⟨g, off + k * 4 + 3, none⟩ = _ := d3
        have b6 : wr.drew.cell? ⟨g', off' + k * 4, none⟩ = _ := f0
        have b7 : wr.drew.cell? ⟨g', off' + k * 4 + 1, none⟩ = _ := f1
        have b8 : wr.drew.cell? ⟨g', off' + k * 4 + 2, none⟩ = _ := f2
        have b9 : wr.drew.cell? ⟨g', off' + k * 4 + 3, none⟩ = _ := f3
        have hw8 : w.heap.size < wr.drew.heap.size := by have := hbw.size; show _ < wr.heap.size; omega
        have hw0 : w.heap.size + 1 < wr.drew.heap.size := by have := hbw.size; show _ < wr.heap.size; omega
        have hw1 : g < wr.drew.heap.size := hgl
        have hw2 : g' < wr.drew.heap.size := hgl'
        clear hget hget' hp1 hk1 hp2 hk2 ihK y3 y7 d0 d1 d2 d3 f0 f1 f2 f3 v0 v1 v2 v3 v4 v5 v6 v7
        go_wp2
        go_region_held3 (fun w' => w'.cell? ⟨w.heap.size, 3, none⟩ = some (.slice (some ⟨g, off, none⟩) s.kids.length d) ∧ w'.cell? ⟨w.heap.size + 1, 3, none⟩ = some (.slice (some ⟨g', off', none⟩) t.kids.length d') ∧ w'.cell? ⟨g, off + k * 4, none⟩ = some (.int .i64 ks.op) ∧ w'.cell? ⟨g, off + k * 4 + 1, none⟩ = some (.int .i64 ks.num) ∧ w'.cell? ⟨g, off + k * 4 + 2, none⟩ = some (.slice A1 ks.perm.length c1) ∧ w'.cell? ⟨g, off + k * 4 + 3, none⟩ = some (.slice B1 ks.kids.length e1) ∧ w'.cell? ⟨g', off' + k * 4, none⟩ = some (.int .i64 kt.op) ∧ w'.cell? ⟨g', off' + k * 4 + 1, none⟩ = some (.int .i64 kt.num) ∧ w'.cell? ⟨g', off' + k * 4 + 2, none⟩ = some (.slice A2 kt.perm.length c2) ∧ w'.cell? ⟨g', off' + k * 4 + 3, none⟩ = some (.slice B2 kt.kids.length e2))
          (first | (with_reducible exact ⟨by assumption, by assumption, by assumption, by assumption, by assumption, by assumption, by assumption, by assumption, by assumption, by assumption⟩) | ((try dsimp only); exact ⟨by assumption, by assumption, by assumption, by assumption, by assumption, by assumption, by assumption, by assumption, by assumption, by assumption⟩) | go_keep)
          (first
            | (go_at_call 89; refine hct.mono ?_; rintro e w2 ⟨rfl, hb2⟩; have n0 := (hb2.cell (p := ⟨w.heap.size, 3, none⟩) hw8).trans b0; have n1 := (hb2.cell (p := ⟨w.heap.size + 1, 3, none⟩) hw0).trans b1; have n2 := (hb2.cell (p := ⟨g, off + k * 4, none⟩) hw1).trans b2; have n3 := (hb2.cell (p := ⟨g, off + k * 4 + 1, none⟩) hw1).trans b3; have n4 := (hb2.cell (p := ⟨g, off + k * 4 + 2, none⟩) hw1).trans b4; have n5 := (hb2.cell (p := ⟨g, off + k * 4 + 3, none⟩) hw1).trans b5; have n6 := (hb2.cell (p := ⟨g', off' + k * 4, none⟩) hw2).trans b6; have n7 := (hb2.cell (p := ⟨g', off' + k * 4 + 1, none⟩) hw2).trans b7; have n8 := (hb2.cell (p := ⟨g', off' + k * 4 + 2, none⟩) hw2).trans b8; have n9 := (hb2.cell (p := ⟨g', off' + k * 4 + 3, none⟩) hw2).trans b9)
            | fail)
        have hbs := hbw.trans ((hdw.trans (hb2.mono hdw.size)).mono hbw.size)
        have hbf := hbV.trans (hbs.mono hbV.size)
        clear hct hb2 hdw hbw hb b0 b1 b2 b3 b4 b5 b6 b7 b8 b9 n0 n1 n2 n3 n4 n5 n6 n7 n8 n9 hw0 hw1 hw2 hw8 y1 y5
        cases ok with
        | true =>
          have hq3' : Hid (alTs (s.kids.take (k + 1)) (t.kids.take (k + 1)) = true) := Lib.hid (by rw [HN.out, hq.out]; rfl)
          clear HN HNO hq hbf
          go_wp2
          have hlt' := HLT.out
          refine ⟨⟨k + 1, by omega, by go_num, hq3', hbs⟩, ?_⟩
          simp only [intOf]
          omega
        | false =>
          have hno : alTs s.kids t.kids = false := HNO.out rfl
          have hpost : BoolPost (alTs s.kids t.kids && (s.num == t.num)) w (.returned (.bool false)) w2 := ⟨by rw [hno]; rfl, hbf⟩
          clear HN HNO hq hbf hbs hno
          go_wp2
          go_ret
          exact hpost
      · have ek : k = s.kids.length := by omega
        have ek2 : k = t.kids.length := by have := HLEN.out; omega
        have hq' := hq.out
        rw [List.take_of_length_le (show s.kids.length ≤ k by omega), List.take_of_length_le (show t.kids.length ≤ k by omega)] at hq'
        have hpost : BoolPost (alTs s.kids t.kids && (s.num == t.num)) w (.returned (.bool (s.num == t.num))) wr := ⟨by rw [hq', Bool.true_and], hb⟩
        clear hq hq' hb hbw hk hk' ihK hbV y3 y7 v0 v1 v2 v3 v4 v5 v6 v7
        go_wp2
        go_ret
        exact hpost
  · have hq3 : (s.op == 3) = false := by simp [h3]
    have HLEN := Lib.hid hl
    clear hop hl hnb h3 hx' hy' hp hp' k0 k1
    go_enter Tryz.func89, Tryz.ntmps89
    go_upto_region 1 with fail
    generalize ((w.alloc (.cells #[.int .i64 s.op, .int .i64 s.num, .slice A s.perm.length c, .slice B s.kids.length d] 46)).alloc (.cells #[.int .i64 t.op, .int .i64 t.num, .slice A' t.perm.length c', .slice B' t.kids.length d'] 46)) = V at hbV hszV v0 v1 v2 v3 v4 v5 v6 v7 ⊢
    have lt0 : w.heap.size < V.heap.size := by omega
    have lt1 : w.heap.size + 1 < V.heap.size := by omega
    clear hszV
    go_wp2
    go_loopw [6, 61] (fun _ i wr => ∃ k : Nat, k ≤ s.kids.length ∧ i = .int .i64 k ∧ Hid (alTs (s.kids.take k) (t.kids.take k) = true) ∧ Below V.heap.size V wr) (fun _ i _ => s.kids.length - (intOf i).toNat)
    case atStart => exact ⟨0, Nat.zero_le _, rfl, Lib.hid (by simp [alTs]), Below.refl _ _⟩
    case round =>
      obtain ⟨k, hkk, rfl, hq, hbw⟩ := hrel
      have hb := hbV.trans (hbw.mono hbV.size)
      have y1 := (hbw.cell (p := ⟨w.heap.size, 1, none⟩) lt0).trans v1
      have y3 := (hbw.cell (p := ⟨w.heap.size, 3, none⟩) lt0).trans v3
      have y5 := (hbw.cell (p := ⟨w.heap.size + 1, 1, none⟩) lt1).trans v5
      have y7 := (hbw.cell (p := ⟨w.heap.size + 1, 3, none⟩) lt1).trans v7
      by_cases hlt : k < s.kids.length
      · have hlt2 : k < t.kids.length := by have := HLEN.out; omega
        obtain ⟨g, off, rfl, hgl, hget⟩ := (hk.below hb).get (by omega)
        obtain ⟨g', off', rfl, hgl', hget'⟩ := (hk'.below hb).get (by omega)
        obtain ⟨A1, c1, kv1, d0, d1, d2, d3, hp1, hk1⟩ := hget k hlt
        obtain ⟨B1, e1, rfl⟩ := hk1.form
        obtain ⟨A2, c2, kv2, f0, f1, f2, f3, hp2, hk2⟩ := hget' k hlt2
        obtain ⟨B2, e2, rfl⟩ := hk2.form
        have hdw : Below wr.heap.size wr wr.drew := ⟨rfl, rfl, rfl, Nat.le_refl _, fun _ _ => rfl⟩
        have hct := ihK k hlt hlt2 wr.drew _ _ ⟨A1, c1, _, rfl, hp1.below hdw, hk1.below hdw⟩ ⟨A2, c2, _, rfl, hp2.below hdw, hk2.below hdw⟩
        have HN := Lib.hid (alTs_next hlt hlt2)
        have HNO := Lib.hid (fun h => alTs_no hlt hlt2 h)
        have i1 : (k : Int) < (s.kids.length : Int) := by omega
        have i2 : (k : Int) < (t.kids.length : Int) := by omega
        have i3 : (0 : Int) ≤ (k : Int) := by omega
        have HLT := Lib.hid hlt
        generalize tmAt s.kids k = ks at *
        generalize tmAt t.kids k = kt at *
        generalize alT ks kt = ok at *
        have b0 : wr.drew.cell? ⟨w.heap.size, 3, none⟩ = _ := y3
        have b1 : wr.drew.cell? ⟨w.heap.size + 1, 3, none⟩ = _ := y7
        have b2 : wr.drew.cell? ⟨g, off + k * 4, none⟩ = _ := d0
        have b3 : wr.drew.cell? ⟨g, off + k * 4 + 1, none⟩ = _ := d1
        have b4 : wr.drew.cell? ⟨g, off + k * 4 + 2, none⟩ = _ := d2
        have b5 : wr.drew.cell? ⟨g, off + k * 4 + 3, none⟩ = _ := d3
        have b6 : wr.drew.cell? ⟨g', off' + k * 4, none⟩ = _ := f0
        have b7 : wr.drew.cell? ⟨g', off' + k * 4 + 1, none⟩ = _ := f1
        have b8 : wr.drew.cell? ⟨g', off' + k * 4 + 2, none⟩ = _ := f2
        have b9 : wr.drew.cell? ⟨g', off' + k * 4 + 3, none⟩ = _ := f3
        have hw8 : w.heap.size < wr.drew.heap.size := by have := hbw.size; show _ < wr.heap.size; omega
        have hw0 : w.heap.size + 1 < wr.drew.heap.size := by have := hbw.size; show _ < wr.heap.size; omega
        have hw1 : g < wr.drew.heap.size := hgl
        have hw2 : g' < wr.drew.heap.size := hgl'
        clear hget hget' hp1 hk1 hp2 hk2 ihK y3 y7 d0 d1 d2 d3 f0 f1 f2 f3 v0 v1 v2 v3 v4 v5 v6 v7
        go_wp2
        go_region_held3 (fun w' => w'.cell? ⟨w.heap.size, 3, none⟩ = some (.slice (some ⟨g, off, none⟩) s.kids.length d) ∧ w'.cell? ⟨w.heap.size + 1, 3, none⟩ = some (.slice (some ⟨g', off', none⟩) t.kids.length d') ∧ w'.cell? ⟨g, off + k * 4, none⟩ = some (.int .i64 ks.op) ∧ w'.cell? ⟨g, off + k * 4 + 1, none⟩ = some (.int .i64 ks.num) ∧ w'.cell? ⟨g, off + k * 4 + 2, none⟩ = some (.slice A1 ks.perm.length c1) ∧ w'.cell? ⟨g, off + k * 4 + 3, none⟩ = some (.slice B1 ks.kids.length e1) ∧ w'.cell? ⟨g', off' + k * 4, none⟩ = some (.int .i64 kt.op) ∧ w'.cell? ⟨g', off' + k * 4 + 1, none⟩ = some (.int .i64 kt.num) ∧ w'.cell? ⟨g', off' + k * 4 + 2, none⟩ = some (.slice A2 kt.perm.length c2) ∧ w'.cell? ⟨g', off' + k * 4 + 3, none⟩ = some (.slice B2 kt.kids.length e2))
          (first | (with_reducible exact ⟨by assumption, by assumption, by assumption, by assumption, by assumption, by assumption, by assumption, by assumption, by assumption, by assumption⟩) | ((try dsimp only); exact ⟨by assumption, by assumption, by assumption, by assumption, by assumption, by assumption, by assumption, by assumption, by assumption, by assumption⟩) | go_keep)
          (first
            | (go_at_call 89; refine hct.mono ?_; rintro e w2 ⟨rfl, hb2⟩; have n0 := (hb2.cell (p := ⟨w.heap.size, 3, none⟩) hw8).trans b0; have n1 := (hb2.cell (p := ⟨w.heap.size + 1, 3, none⟩) hw0).trans b1; have n2 := (hb2.cell (p := ⟨g, off + k * 4, none⟩) hw1).trans b2; have n3 := (hb2.cell (p := ⟨g, off + k * 4 + 1, none⟩) hw1).trans b3; have n4 := (hb2.cell (p := ⟨g, off + k * 4 + 2, none⟩) hw1).trans b4; have n5 := (hb2.cell (p := ⟨g, off + k * 4 + 3, none⟩) hw1).trans b5; have n6 := (hb2.cell (p := ⟨g', off' + k * 4, none⟩) hw2).trans b6; have n7 := (hb2.cell (p := ⟨g', off' + k * 4 + 1, none⟩) hw2).trans b7; have n8 := (hb2.cell (p := ⟨g', off' + k * 4 + 2, none⟩) hw2).trans b8; have n9 := (hb2.cell (p := ⟨g', off' + k * 4 + 3, none⟩) hw2).trans b9)
            | fail)
        have hbs := hbw.trans ((hdw.trans (hb2.mono hdw.size)).mono hbw.size)
        have hbf := hbV.trans (hbs.mono hbV.size)
        clear hct hb2 hdw hbw hb b0 b1 b2 b3 b4 b5 b6 b7 b8 b9 n0 n1 n2 n3 n4 n5 n6 n7 n8 n9 hw0 hw1 hw2 hw8 y1 y5
        cases ok with
        | true =>
          have hq3' : Hid (alTs (s.kids.take (k + 1)) (t.kids.take (k + 1)) = true) := Lib.hid (by rw [HN.out, hq.out]; rfl)
          clear HN HNO hq hbf
          go_wp2
          have hlt' := HLT.out
          refine ⟨⟨k + 1, by omega, by go_num, hq3', hbs⟩, ?_⟩
          simp only [intOf]
          omega
        | false =>
          have hno : alTs s.kids t.kids = false := HNO.out rfl
          have hpost : BoolPost (alTs s.kids t.kids && (s.num == t.num)) w (.returned (.bool false)) w2 := ⟨by rw [hno]; rfl, hbf⟩
          clear HN HNO hq hbf hbs hno
          go_wp2
          go_ret
          exact hpost
      · have ek : k = s.kids.length := by omega
        have ek2 : k = t.kids.length := by have := HLEN.out; omega
        have hq' := hq.out
        rw [List.take_of_length_le (show s.kids.length ≤ k by omega), List.take_of_length_le (show t.kids.length ≤ k by omega)] at hq'
        have hpost : BoolPost (alTs s.kids t.kids && (s.num == t.num)) w (.returned (.bool (s.num == t.num))) wr := ⟨by rw [hq', Bool.true_and], hb⟩
        clear hq hq' hb hbw hk hk' ihK hbV y3 y7 v0 v1 v2 v3 v4 v5 v6 v7
        go_wp2
        go_ret
        exact hpost

set_option maxRecDepth 100000 in
set_option maxHeartbeats 4000000 in
theorem l2Alpha_no (s t : Tm) (x y : Value) (w : World) (hx : TmIn w x s) (hy : TmIn w y t) (hno : s.op ≠ t.op ∨ s.kids.length ≠ t.kids.length) :
    Calls Tryz.prog 89 #[x, y] w (BoolPost false w) := by
  have hx' := hx
  have hy' := hy
  obtain ⟨A, c, kv, rfl, hp, hk⟩ := hx
  obtain ⟨B, d, rfl⟩ := hk.form
  obtain ⟨A', c', kv', rfl, hp', hk'⟩ := hy
  obtain ⟨B', d', rfl⟩ := hk'.form
  have hbV : Below w.heap.size w ((w.alloc (.cells #[.int .i64 s.op, .int .i64 s.num, .slice A s.perm.length c, .slice B s.kids.length d] 46)).alloc (.cells #[.int .i64 t.op, .int .i64 t.num, .slice A' t.perm.length c', .slice B' t.kids.length d'] 46)) := ((Below.refl _ w).alloc (Nat.le_refl _) _).alloc (by simp) _
  have k0 : ((w.alloc (.cells #[.int .i64 s.op, .int .i64 s.num, .slice A s.perm.length c, .slice B s.kids.length d] 46)).alloc (.cells #[.int .i64 t.op, .int .i64 t.num, .slice A' t.perm.length c', .slice B' t.kids.length d'] 46)).heap[w.heap.size]? = some (.cells #[.int .i64 s.op, .int .i64 s.num, .slice A s.perm.length c, .slice B s.kids.length d] 46 (0, 0)) := (Below.heap_alloc _ _ _ (by simp)).trans (heap_alloc_new w _)
  have k1 : ((w.alloc (.cells #[.int .i64 s.op, .int .i64 s.num, .slice A s.perm.length c, .slice B s.kids.length d] 46)).alloc (.cells #[.int .i64 t.op, .int .i64 t.num, .slice A' t.perm.length c', .slice B' t.kids.length d'] 46)).heap[w.heap.size + 1]? = some (.cells #[.int .i64 t.op, .int .i64 t.num, .slice A' t.perm.length c', .slice B' t.kids.length d'] 46 (0, 0)) := by
    have h := heap_alloc_new (w.alloc (.cells #[.int .i64 s.op, .int .i64 s.num, .slice A s.perm.length c, .slice B s.kids.length d] 46)) (.cells #[.int .i64 t.op, .int .i64 t.num, .slice A' t.perm.length c', .slice B' t.kids.length d'] 46)
    rw [World.size_alloc] at h
    exact h
  have hszV : ((w.alloc (.cells #[.int .i64 s.op, .int .i64 s.num, .slice A s.perm.length c, .slice B s.kids.length d] 46)).alloc (.cells #[.int .i64 t.op, .int .i64 t.num, .slice A' t.perm.length c', .slice B' t.kids.length d'] 46)).heap.size = w.heap.size + 2 := by simp
  obtain ⟨v0, v1, v2, v3⟩ := BoxR.row4 k0
  obtain ⟨v4, v5, v6, v7⟩ := BoxR.row4 k1
  have hpost : BoolPost false w (.returned (.bool false)) ((w.alloc (.cells #[.int .i64 s.op, .int .i64 s.num, .slice A s.perm.length c, .slice B s.kids.length d] 46)).alloc (.cells #[.int .i64 t.op, .int .i64 t.num, .slice A' t.perm.length c', .slice B' t.kids.length d'] 46)) := ⟨rfl, hbV⟩
  clear hx' hy' hp hp' hk hk' k0 k1 hszV hbV
  by_cases hop : s.op = t.op
  · have hq1 : (s.op != t.op) = false := by simp [hop]
    have hq2 : ((s.kids.length : Int) != (t.kids.length : Int)) = true := by simp; omega
    clear hop hno
    go_enter Tryz.func89, Tryz.ntmps89
    go_wp2
    go_ret
    exact hpost
  · have hq1 : (s.op != t.op) = true := by simp [hop]
    clear hop hno
    go_enter Tryz.func89, Tryz.ntmps89
    go_wp2
    go_ret
    exact hpost

theorem l2Alpha_any : ∀ (N : Nat) (s : Tm), szT s ≤ N → szT s ≤ 60 → ∀ (M : Nat) (t : Tm), M + 2 * N ≤ 1000 → OkP M t → szT t ≤ 60 → ShT s → ShT t → ∀ (w : World) (x y : Value), TmIn w x s → TmIn w y t →
    Calls Tryz.prog 89 #[x, y] w (BoolPost (alT s t) w) := by
  intro N
  induction N with
  | zero => intro s h; rw [szT_eq] at h; omega
  | succ N ih =>
    intro s hN h60 M t hM hPt ht60 hs ht w x y hx hy
    by_cases hno : s.op ≠ t.op ∨ s.kids.length ≠ t.kids.length
    · rw [alT_no hno]
      exact l2Alpha_no s t x y w hx hy hno
    · have hop : s.op = t.op := by omega
      have hl : s.kids.length = t.kids.length := by omega
      rw [szT_eq] at hN h60 ht60
      have hlen := len_szTs s.kids
      by_cases hbd : s.op = 3 ∧ s.num ≠ t.num
      · have hk1 : s.kids.length = 1 := by
          cases s with
          | mk o n p ks => exact hs.2.2.1 hbd.1
        have z1 := szT_at (ts := s.kids) (i := 0) (by omega)
        have z2 := szT_at (ts := t.kids) (i := 0) (by omega)
        have hPk : OkP M (tmAt t.kids 0) := okP_at (okP_kids hPt) (by omega)
        rw [alT_bind hop hl hbd.1 hbd.2 hk1]
        exact l2Alpha_bind s t x y w hx hy hop hl hbd.1 hbd.2 (by omega) (by omega) (okP_le (by omega) hPk)
          (fun w' u v hu hv => ih (tmAt s.kids 0) (by omega) (by omega) (M + 2) (actT (swapL s.num t.num) (tmAt t.kids 0)) (by omega) (okP_le (by have := sw_len s.num t.num; omega) (okP_act (swapL s.num t.num) hPk)) (by rw [szT_actT]; omega) (sh_at (sh_kids hs) (by omega)) (sh_act _ (sh_at (sh_kids ht) (by omega))) w' u v hu hv)
      · rw [alT_kids hop hl hbd]
        refine l2Alpha_kids s t x y w hx hy hop hl hbd (by omega) (fun i hi hj w' u v hu hv => ?_)
        have z1 := szT_at hi
        have z2 := szT_at hj
        exact ih (tmAt s.kids i) (by omega) (by omega) M (tmAt t.kids i) (by omega) (okP_at (okP_kids hPt) hj) (by omega) (sh_at (sh_kids hs) hi) (sh_at (sh_kids ht) hj) w' u v hu hv

set_option maxRecDepth 100000 in
set_option maxHeartbeats 2000000 in
theorem alphaEqual_spec (s t : Tm) (x y : Value) (w : World) (hx : TmIn w x s) (hy : TmIn w y t) (hc : cntT s ≤ 1048576) (hc' : cntT t ≤ 1048576) :
    Calls Tryz.prog 39 #[x, y] w (BoolPost (alB s t) w) := by
  have hx' := hx
  have hy' := hy
  obtain ⟨A, c, kv, rfl, hp, hk⟩ := hx
  obtain ⟨B, d, rfl⟩ := hk.form
  obtain ⟨A', c', kv', rfl, hp', hk'⟩ := hy
  obtain ⟨B', d', rfl⟩ := hk'.form
  have hbV : Below w.heap.size w ((w.alloc (.cells #[.int .i64 s.op, .int .i64 s.num, .slice A s.perm.length c, .slice B s.kids.length d] 46)).alloc (.cells #[.int .i64 t.op, .int .i64 t.num, .slice A' t.perm.length c', .slice B' t.kids.length d'] 46)) := ((Below.refl _ w).alloc (Nat.le_refl _) _).alloc (by simp) _
  have k0 : ((w.alloc (.cells #[.int .i64 s.op, .int .i64 s.num, .slice A s.perm.length c, .slice B s.kids.length d] 46)).alloc (.cells #[.int .i64 t.op, .int .i64 t.num, .slice A' t.perm.length c', .slice B' t.kids.length d'] 46)).heap[w.heap.size]? = some (.cells #[.int .i64 s.op, .int .i64 s.num, .slice A s.perm.length c, .slice B s.kids.length d] 46 (0, 0)) := (Below.heap_alloc _ _ _ (by simp)).trans (heap_alloc_new w _)
  have k1 : ((w.alloc (.cells #[.int .i64 s.op, .int .i64 s.num, .slice A s.perm.length c, .slice B s.kids.length d] 46)).alloc (.cells #[.int .i64 t.op, .int .i64 t.num, .slice A' t.perm.length c', .slice B' t.kids.length d'] 46)).heap[w.heap.size + 1]? = some (.cells #[.int .i64 t.op, .int .i64 t.num, .slice A' t.perm.length c', .slice B' t.kids.length d'] 46 (0, 0)) := by
    have h := heap_alloc_new (w.alloc (.cells #[.int .i64 s.op, .int .i64 s.num, .slice A s.perm.length c, .slice B s.kids.length d] 46)) (.cells #[.int .i64 t.op, .int .i64 t.num, .slice A' t.perm.length c', .slice B' t.kids.length d'] 46)
    rw [World.size_alloc] at h
    exact h
  have hszV : ((w.alloc (.cells #[.int .i64 s.op, .int .i64 s.num, .slice A s.perm.length c, .slice B s.kids.length d] 46)).alloc (.cells #[.int .i64 t.op, .int .i64 t.num, .slice A' t.perm.length c', .slice B' t.kids.length d'] 46)).heap.size = w.heap.size + 2 := by simp
  obtain ⟨v0, v1, v2, v3⟩ := BoxR.row4 k0
  obtain ⟨v4, v5, v6, v7⟩ := BoxR.row4 k1
  have HX := Lib.hid (fun W (hW : Below w.heap.size w W) => ground_spec s _ _ (hx'.below hW) hc)
  have HY := Lib.hid (fun W (hW : Below w.heap.size w W) => ground_spec t _ _ (hy'.below hW) hc')
  have HQ := Lib.hid (fun (h1 : groundB s = true) (h2 : groundB t = true) W (hW : Below w.heap.size w W) => l2Alpha_any (szT s) s (Nat.le_refl _) (term_size (ground_term h1)) 40 t (by have := term_size (ground_term h1); omega) (okP_good (term_good (ground_term h2))) (term_size (ground_term h2)) (sh_good (term_good (ground_term h1))) (sh_good (term_good (ground_term h2))) W _ _ (hx'.below hW) (hy'.below hW))
  have HEQ := Lib.hid (fun (h1 : groundB s = true) (h2 : groundB t = true) => (al_yes h1 h2).trans (alT_eq s t (sh_good (term_good (ground_term h1))) (sh_good (term_good (ground_term h2))) (ground_no h1)).symm)
  clear hp hk hp' hk' hx' hy' k0 k1 hc hc'
  have HC : Hid (∀ w2, Below ((w.alloc (.cells #[.int .i64 s.op, .int .i64 s.num, .slice A s.perm.length c, .slice B s.kids.length d] 46)).alloc (.cells #[.int .i64 t.op, .int .i64 t.num, .slice A' t.perm.length c', .slice B' t.kids.length d'] 46)).heap.size ((w.alloc (.cells #[.int .i64 s.op, .int .i64 s.num, .slice A s.perm.length c, .slice B s.kids.length d] 46)).alloc (.cells #[.int .i64 t.op, .int .i64 t.num, .slice A' t.perm.length c', .slice B' t.kids.length d'] 46)) w2 → w2.cell? ⟨w.heap.size, 0, none⟩ = some (.int .i64 s.op) ∧ w2.cell? ⟨w.heap.size, 1, none⟩ = some (.int .i64 s.num) ∧ w2.cell? ⟨w.heap.size, 2, none⟩ = some (.slice A s.perm.length c) ∧ w2.cell? ⟨w.heap.size, 3, none⟩ = some (.slice B s.kids.length d) ∧ w2.cell? ⟨w.heap.size + 1, 0, none⟩ = some (.int .i64 t.op) ∧ w2.cell? ⟨w.heap.size + 1, 1, none⟩ = some (.int .i64 t.num) ∧ w2.cell? ⟨w.heap.size + 1, 2, none⟩ = some (.slice A' t.perm.length c') ∧ w2.cell? ⟨w.heap.size + 1, 3, none⟩ = some (.slice B' t.kids.length d')) := Lib.hid fun w2 h => ⟨(h.cell (p := ⟨w.heap.size, 0, none⟩) (show w.heap.size < ((w.alloc (.cells #[.int .i64 s.op, .int .i64 s.num, .slice A s.perm.length c, .slice B s.kids.length d] 46)).alloc (.cells #[.int .i64 t.op, .int .i64 t.num, .slice A' t.perm.length c', .slice B' t.kids.length d'] 46)).heap.size by omega)).trans v0, (h.cell (p := ⟨w.heap.size, 1, none⟩) (show w.heap.size < ((w.alloc (.cells #[.int .i64 s.op, .int .i64 s.num, .slice A s.perm.length c, .slice B s.kids.length d] 46)).alloc (.cells #[.int .i64 t.op, .int .i64 t.num, .slice A' t.perm.length c', .slice B' t.kids.length d'] 46)).heap.size by omega)).trans v1, (h.cell (p := ⟨w.heap.size, 2, none⟩) (show w.heap.size < ((w.alloc (.cells #[.int .i64 s.op, .int .i64 s.num, .slice A s.perm.length c, .slice B s.kids.length d] 46)).alloc (.cells #[.int .i64 t.op, .int .i64 t.num, .slice A' t.perm.length c', .slice B' t.kids.length d'] 46)).heap.size by omega)).trans v2, (h.cell (p := ⟨w.heap.size, 3, none⟩) (show w.heap.size < ((w.alloc (.cells #[.int .i64 s.op, .int .i64 s.num, .slice A s.perm.length c, .slice B s.kids.length d] 46)).alloc (.cells #[.int .i64 t.op, .int .i64 t.num, .slice A' t.perm.length c', .slice B' t.kids.length d'] 46)).heap.size by omega)).trans v3, (h.cell (p := ⟨w.heap.size + 1, 0, none⟩) (show w.heap.size + 1 < ((w.alloc (.cells #[.int .i64 s.op, .int .i64 s.num, .slice A s.perm.length c, .slice B s.kids.length d] 46)).alloc (.cells #[.int .i64 t.op, .int .i64 t.num, .slice A' t.perm.length c', .slice B' t.kids.length d'] 46)).heap.size by omega)).trans v4, (h.cell (p := ⟨w.heap.size + 1, 1, none⟩) (show w.heap.size + 1 < ((w.alloc (.cells #[.int .i64 s.op, .int .i64 s.num, .slice A s.perm.length c, .slice B s.kids.length d] 46)).alloc (.cells #[.int .i64 t.op, .int .i64 t.num, .slice A' t.perm.length c', .slice B' t.kids.length d'] 46)).heap.size by omega)).trans v5, (h.cell (p := ⟨w.heap.size + 1, 2, none⟩) (show w.heap.size + 1 < ((w.alloc (.cells #[.int .i64 s.op, .int .i64 s.num, .slice A s.perm.length c, .slice B s.kids.length d] 46)).alloc (.cells #[.int .i64 t.op, .int .i64 t.num, .slice A' t.perm.length c', .slice B' t.kids.length d'] 46)).heap.size by omega)).trans v6, (h.cell (p := ⟨w.heap.size + 1, 3, none⟩) (show w.heap.size + 1 < ((w.alloc (.cells #[.int .i64 s.op, .int .i64 s.num, .slice A s.perm.length c, .slice B s.kids.length d] 46)).alloc (.cells #[.int .i64 t.op, .int .i64 t.num, .slice A' t.perm.length c', .slice B' t.kids.length d'] 46)).heap.size by omega)).trans v7⟩
  have hc1 := HX.out _ hbV
  cases hgs : groundB s with
  | true =>
    rw [hgs] at hc1
    cases hgt : groundB t with
    | true =>
      rw [hgt] at HY
      have HE := Lib.hid (HEQ.out hgs hgt)
      have HQ1 := Lib.hid (HQ.out hgs hgt)
      generalize alT s t = r at HE HQ1
      clear hgs hgt HQ HEQ
      go_enter Tryz.func39, Tryz.ntmps39
      go_wp2_with fail
      refine hc1.mono ?_
      rintro e w1 ⟨rfl, hb1⟩
      have hs1 := hbV.trans (hb1.mono hbV.size)
      obtain ⟨b0, b1, b2, b3, b4, b5, b6, b7⟩ := HC.out w1 hb1
      have hc2 := HY.out w1 hs1
      clear hc1 v0 v1 v2 v3 v4 v5 v6 v7
      go_wp2_with fail
      refine hc2.mono ?_
      rintro e w2 ⟨rfl, hb2⟩
      have hs2 := hs1.trans (hb2.mono hs1.size)
      obtain ⟨n0, n1, n2, n3, n4, n5, n6, n7⟩ := HC.out w2 (hb1.trans (hb2.mono hb1.size))
      have hc3 := HQ1.out w2 hs2
      clear hc2 b0 b1 b2 b3 b4 b5 b6 b7 hb1 hb2 hs1 HX HY HC HQ1 hbV hszV
      go_wp2_with fail
      refine hc3.mono ?_
      rintro e w3 ⟨rfl, hb3⟩
      have hpost : BoolPost (alB s t) w (.returned (.bool r)) w3 := ⟨by rw [HE.out], hs2.trans (hb3.mono hs2.size)⟩
      clear hc3 hb3 hs2 HE n0 n1 n2 n3 n4 n5 n6 n7
      go_wp2
      go_ret
      exact hpost
    | false =>
      rw [hgt] at HY
      have HNO := Lib.hid (al_no2 (s := s) hgt)
      clear hgs hgt HQ HEQ
      go_enter Tryz.func39, Tryz.ntmps39
      go_wp2_with fail
      refine hc1.mono ?_
      rintro e w1 ⟨rfl, hb1⟩
      have hs1 := hbV.trans (hb1.mono hbV.size)
      obtain ⟨b0, b1, b2, b3, b4, b5, b6, b7⟩ := HC.out w1 hb1
      have hc2 := HY.out w1 hs1
      clear hc1 v0 v1 v2 v3 v4 v5 v6 v7
      go_wp2_with fail
      refine hc2.mono ?_
      rintro e w2 ⟨rfl, hb2⟩
      have hpost : BoolPost (alB s t) w (.returned (.bool false)) w2 := ⟨by rw [HNO.out], hs1.trans (hb2.mono hs1.size)⟩
      clear hc2 b0 b1 b2 b3 b4 b5 b6 b7 hb1 hb2 hs1 HX HY HC HNO hbV hszV
      go_wp2
      go_ret
      exact hpost
  | false =>
    rw [hgs] at hc1
    have HNO := Lib.hid (al_no1 (t := t) hgs)
    clear hgs HQ HEQ
    go_enter Tryz.func39, Tryz.ntmps39
    go_wp2_with fail
    refine hc1.mono ?_
    rintro e w1 ⟨rfl, hb1⟩
    have hpost : BoolPost (alB s t) w (.returned (.bool false)) w1 := ⟨by rw [HNO.out], hbV.trans (hb1.mono hbV.size)⟩
    clear hc1 hb1 HX HY HC HNO hbV hszV v0 v1 v2 v3 v4 v5 v6 v7
    go_wp2
    go_ret
    exact hpost

end Go.Proofs.YtlhjgjfnmejiaaaGreat
end

