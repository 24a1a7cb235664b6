/-
  Function terms without names, in the model: functions; IndexOf of both sides, as contracts. IndexOf of both sides, as contracts.
-/
import Derived.Test.YtihijigbdpjcoaaGreatKIndexOf21
import Derived.Test.YtihijigbdpjcoaaGreatKIndexOf24
section
namespace Go.Proofs.YtihijigbdpjcoaaGreat
open Go.RowKit Go.Sort
set_option linter.unusedVariables false

theorem set3_cell (w : World) (R : Nat) (a b c : Value) (o : Obj) (k j : Nat) (hk : k < w.heap.size) (hn : k ≠ R) :
    ((((w.setCell ⟨R, 0, none⟩ a).setCell ⟨R, 1, none⟩ b).setCell ⟨R, 2, none⟩ c).alloc o).cell? ⟨k, j, none⟩ = w.cell? ⟨k, j, none⟩ := by
  refine World.cell?_of_block (a := ⟨k, j, none⟩) ?_
  show ((((w.setCell ⟨R, 0, none⟩ a).setCell ⟨R, 1, none⟩ b).setCell ⟨R, 2, none⟩ c).alloc o).heap[k]? = w.heap[k]?
  rw [Below.heap_alloc _ _ _ (by rw [set3_size]; exact hk), Below.heap_setCell _ _ _ _ hn, Below.heap_setCell _ _ _ _ hn, Below.heap_setCell _ _ _ _ hn]

set_option maxRecDepth 100000 in
set_option maxHeartbeats 16000000 in
theorem l8_lam (a : Int) (v : Tm) (kv : Value) (k : Ix) (At : Option Addr) (pl ct : Nat) (A : Option Addr) (c : Nat) (bd : List Int) (w : World) (hk : TmsIn w kv [.mk 3 a [] [v]])
    (hA : IntsAt w A bd) (hz : A = none → c = 0) (hl : bd.length ≤ 1048576)
    (ih : ∀ (w' : World) (y : Value) (A' : Option Addr) (c' : Nat), TmIn w' y v → IntsAt w' A' (bd ++ [a]) → (A' = none → c' = 0) → Calls Tryz.prog 31 #[y, .slice A' (bd ++ [a]).length c'] w' (IxOut k w')) :
    Calls Tryz.prog 31 #[.agg #[.int .i64 2, .int .i64 1, .slice At pl ct, kv], .slice A bd.length c] w (IxOut (.mk 3 0 [k]) w) := by
  obtain ⟨B, d, rfl⟩ := hk.form
  obtain ⟨b, off, P1, q1, B1, e1, rfl, hbl, d0, d1, d2, d3, hy, hk1⟩ := lam_cells hk (by simp)
  rw [tmAt_cons_zero] at d0 d1 d2 d3 hy hk1
  simp only [op_mk, num_mk, perm_mk, kids_mk, List.length_nil] at d0 d1 d2 d3 hk1
  obtain ⟨b2, off2, P2, q2, B2, e2, rfl, hbl2, f0, f1, f2, f3, hy2, hk3⟩ := lam_cells hk1 (by simp)
  rw [tmAt_cons_zero] at f0 f1 f2 f3 hy2
  simp only [List.length_cons, List.length_nil, Nat.zero_add] at d3 ⊢
  have hb0 : Below w.heap.size w ((w.alloc (.cells #[.int .i64 2, .int .i64 1, .slice At pl ct, .slice (some ⟨b, off, none⟩) 1 d] 35)).alloc (.cells #[.int .i64 0, .int .i64 0, .slice none 0 0] 29)) := ((Below.refl _ _).alloc (Nat.le_refl _) _).alloc (by simp) _
  have hb1 : Below w.heap.size w (((w.alloc (.cells #[.int .i64 2, .int .i64 1, .slice At pl ct, .slice (some ⟨b, off, none⟩) 1 d] 35)).alloc (.cells #[.int .i64 0, .int .i64 0, .slice none 0 0] 29)).alloc (.cells #[.int .i64 3, .int .i64 a, .slice P1 0 q1, .slice (some ⟨b2, off2, none⟩) 1 e1] 35)) := hb0.alloc (by simp; omega) _
  have hr0 := secondI w (.cells #[.int .i64 2, .int .i64 1, .slice At pl ct, .slice (some ⟨b, off, none⟩) 1 d] 35) #[.int .i64 0, .int .i64 0, .slice none 0 0] 29
  have hr1 : (((w.alloc (.cells #[.int .i64 2, .int .i64 1, .slice At pl ct, .slice (some ⟨b, off, none⟩) 1 d] 35)).alloc (.cells #[.int .i64 0, .int .i64 0, .slice none 0 0] 29)).alloc (.cells #[.int .i64 3, .int .i64 a, .slice P1 0 q1, .slice (some ⟨b2, off2, none⟩) 1 e1] 35)).heap[w.heap.size + 1]? = some (.cells #[.int .i64 0, .int .i64 0, .slice none 0 0] 29 (0, 0)) := (Below.heap_alloc ((w.alloc (.cells #[.int .i64 2, .int .i64 1, .slice At pl ct, .slice (some ⟨b, off, none⟩) 1 d] 35)).alloc (.cells #[.int .i64 0, .int .i64 0, .slice none 0 0] 29)) _ _ (by simp)).trans hr0
  have hx1 : (((w.alloc (.cells #[.int .i64 2, .int .i64 1, .slice At pl ct, .slice (some ⟨b, off, none⟩) 1 d] 35)).alloc (.cells #[.int .i64 0, .int .i64 0, .slice none 0 0] 29)).alloc (.cells #[.int .i64 3, .int .i64 a, .slice P1 0 q1, .slice (some ⟨b2, off2, none⟩) 1 e1] 35)).heap[w.heap.size + 2]? = some (.cells #[.int .i64 3, .int .i64 a, .slice P1 0 q1, .slice (some ⟨b2, off2, none⟩) 1 e1] 35 (0, 0)) := by
    have h := heap_alloc_new ((w.alloc (.cells #[.int .i64 2, .int .i64 1, .slice At pl ct, .slice (some ⟨b, off, none⟩) 1 d] 35)).alloc (.cells #[.int .i64 0, .int .i64 0, .slice none 0 0] 29)) (.cells #[.int .i64 3, .int .i64 a, .slice P1 0 q1, .slice (some ⟨b2, off2, none⟩) 1 e1] 35)
    rw [World.size_alloc, World.size_alloc] at h
    exact h
  have hs1 : (((w.alloc (.cells #[.int .i64 2, .int .i64 1, .slice At pl ct, .slice (some ⟨b, off, none⟩) 1 d] 35)).alloc (.cells #[.int .i64 0, .int .i64 0, .slice none 0 0] 29)).alloc (.cells #[.int .i64 3, .int .i64 a, .slice P1 0 q1, .slice (some ⟨b2, off2, none⟩) 1 e1] 35)).heap.size = w.heap.size + 3 := by simp
  have HSZ := Lib.hid hs1
  have HB1 := Lib.hid hb1
  have HB : Hid (∀ w' : World, Below (((w.alloc (.cells #[.int .i64 2, .int .i64 1, .slice At pl ct, .slice (some ⟨b, off, none⟩) 1 d] 35)).alloc (.cells #[.int .i64 0, .int .i64 0, .slice none 0 0] 29)).alloc (.cells #[.int .i64 3, .int .i64 a, .slice P1 0 q1, .slice (some ⟨b2, off2, none⟩) 1 e1] 35)).heap.size (((w.alloc (.cells #[.int .i64 2, .int .i64 1, .slice At pl ct, .slice (some ⟨b, off, none⟩) 1 d] 35)).alloc (.cells #[.int .i64 0, .int .i64 0, .slice none 0 0] 29)).alloc (.cells #[.int .i64 3, .int .i64 a, .slice P1 0 q1, .slice (some ⟨b2, off2, none⟩) 1 e1] 35)) w' → w'.cell? ⟨w.heap.size + 2, 1, none⟩ = some (.int .i64 a) ∧ w'.cell? ⟨w.heap.size + 2, 3, none⟩ = some (.slice (some ⟨b2, off2, none⟩) 1 e1) ∧ w'.cell? ⟨b2, off2, none⟩ = some (.int .i64 v.op) ∧ w'.cell? ⟨b2, off2 + 1, none⟩ = some (.int .i64 v.num) ∧ w'.cell? ⟨b2, off2 + 2, none⟩ = some (.slice P2 v.perm.length q2) ∧ w'.cell? ⟨b2, off2 + 3, none⟩ = some (.slice B2 v.kids.length e2)) := Lib.hid (fun w' h => by
    have hc := fun (q : Nat) => (hb1.trans (h.mono hb1.size)).cell (p := ⟨b2, q, none⟩) hbl2
    have hr := Args8.row4 ((h.block (w.heap.size + 2) (by rw [hs1]; omega)).trans hx1)
    exact ⟨hr.2.1, hr.2.2.2, (hc _).trans f0, (hc _).trans f1, (hc _).trans f2, (hc _).trans f3⟩)
  have HR : Hid (∀ w' : World, Below (((w.alloc (.cells #[.int .i64 2, .int .i64 1, .slice At pl ct, .slice (some ⟨b, off, none⟩) 1 d] 35)).alloc (.cells #[.int .i64 0, .int .i64 0, .slice none 0 0] 29)).alloc (.cells #[.int .i64 3, .int .i64 a, .slice P1 0 q1, .slice (some ⟨b2, off2, none⟩) 1 e1] 35)).heap.size (((w.alloc (.cells #[.int .i64 2, .int .i64 1, .slice At pl ct, .slice (some ⟨b, off, none⟩) 1 d] 35)).alloc (.cells #[.int .i64 0, .int .i64 0, .slice none 0 0] 29)).alloc (.cells #[.int .i64 3, .int .i64 a, .slice P1 0 q1, .slice (some ⟨b2, off2, none⟩) 1 e1] 35)) w' → w'.cell? ⟨w.heap.size + 1, 0, none⟩ = some (.int .i64 0) ∧ w'.cell? ⟨w.heap.size + 1, 1, none⟩ = some (.int .i64 0) ∧ w'.cell? ⟨w.heap.size + 1, 2, none⟩ = some (.slice none 0 0) ∧ w'.frozen? ⟨w.heap.size + 1, 0, none⟩ = false ∧ w'.frozen? ⟨w.heap.size + 1, 1, none⟩ = false ∧ w'.frozen? ⟨w.heap.size + 1, 2, none⟩ = false) := Lib.hid (fun w' h => by
    have hr := (h.block (w.heap.size + 1) (by rw [hs1]; omega)).trans hr1
    exact ⟨(IxK.row3 hr).1, (IxK.row3 hr).2.1, (IxK.row3 hr).2.2, frozen_of_row _ _ 0 _ _ hr, frozen_of_row _ _ 1 _ _ hr, frozen_of_row _ _ 2 _ _ hr⟩)
  have HC : Hid (∀ w' : World, Below w.heap.size w w' → w'.cell? ⟨b2, off2, none⟩ = some (.int .i64 v.op) ∧ w'.cell? ⟨b2, off2 + 1, none⟩ = some (.int .i64 v.num) ∧ w'.cell? ⟨b2, off2 + 2, none⟩ = some (.slice P2 v.perm.length q2) ∧ w'.cell? ⟨b2, off2 + 3, none⟩ = some (.slice B2 v.kids.length e2)) := Lib.hid (fun w' h => by
    have hc := fun (q : Nat) => h.cell (p := ⟨b2, q, none⟩) hbl2
    exact ⟨(hc _).trans f0, (hc _).trans f1, (hc _).trans f2, (hc _).trans f3⟩)
  rw [← hb0.cell (p := ⟨b, _, none⟩) hbl] at d0 d1 d2 d3
  have hcp := fun W (h : Below w.heap.size w W) => l1Copy_ints A c bd W (hA.below h) hz (by omega)
  have hre := fun W (h : Below w.heap.size w W) (A4 : Option Addr) (c4 : Nat) (h4 : IntsAt W A4 (bd ++ [a])) (hz4 : A4 = none → c4 = 0) => ih W _ A4 c4 (hy2.below h) h4 hz4
  have eL : Hid (bd.length + [a].length = (bd ++ [a]).length) := Lib.hid (by simp)
  have eI : Hid (icells bd ++ icells [a] = icells (bd ++ [a])) := Lib.hid (by simp [icells])
  have hl2 : bd.length + [a].length ≤ 1099511627776 := by simp; omega
  have HD : ∀ W : World, Below W.heap.size W W.drew := fun W => ⟨rfl, rfl, rfl, Nat.le_refl _, fun _ _ => rfl⟩
  clear ih hy2 hk hk1 hk3 hy f0 f1 f2 f3 hA hz hbl2 hr0 hr1 hx1
  generalize bd ++ [a] = Y at *
  have gA1 := HD (((w.alloc (.cells #[.int .i64 2, .int .i64 1, .slice At pl ct, .slice (some ⟨b, off, none⟩) 1 d] 35)).alloc (.cells #[.int .i64 0, .int .i64 0, .slice none 0 0] 29)).alloc (.cells #[.int .i64 3, .int .i64 a, .slice P1 0 q1, .slice (some ⟨b2, off2, none⟩) 1 e1] 35))
  have hA1 := hb1.trans (gA1.mono hb1.size)
  have gB0 : Below (((w.alloc (.cells #[.int .i64 2, .int .i64 1, .slice At pl ct, .slice (some ⟨b, off, none⟩) 1 d] 35)).alloc (.cells #[.int .i64 0, .int .i64 0, .slice none 0 0] 29)).alloc (.cells #[.int .i64 3, .int .i64 a, .slice P1 0 q1, .slice (some ⟨b2, off2, none⟩) 1 e1] 35)).heap.size (((w.alloc (.cells #[.int .i64 2, .int .i64 1, .slice At pl ct, .slice (some ⟨b, off, none⟩) 1 d] 35)).alloc (.cells #[.int .i64 0, .int .i64 0, .slice none 0 0] 29)).alloc (.cells #[.int .i64 3, .int .i64 a, .slice P1 0 q1, .slice (some ⟨b2, off2, none⟩) 1 e1] 35)) ((((w.alloc (.cells #[.int .i64 2, .int .i64 1, .slice At pl ct, .slice (some ⟨b, off, none⟩) 1 d] 35)).alloc (.cells #[.int .i64 0, .int .i64 0, .slice none 0 0] 29)).alloc (.cells #[.int .i64 3, .int .i64 a, .slice P1 0 q1, .slice (some ⟨b2, off2, none⟩) 1 e1] 35)).alloc (.cells #[.int .i64 a] 3)) := (Below.refl _ _).alloc (Nat.le_refl _) _
  have hB0 := hb1.trans (gB0.mono hb1.size)
  have gB1 := gB0.trans ((HD _).mono gB0.size)
  have hB1 := hB0.trans ((HD _).mono hB0.size)
  have hoB := (one8 (((w.alloc (.cells #[.int .i64 2, .int .i64 1, .slice At pl ct, .slice (some ⟨b, off, none⟩) 1 d] 35)).alloc (.cells #[.int .i64 0, .int .i64 0, .slice none 0 0] 29)).alloc (.cells #[.int .i64 3, .int .i64 a, .slice P1 0 q1, .slice (some ⟨b2, off2, none⟩) 1 e1] 35)) a 3).below (HD _)
  have hcpA := hcp _ hA1
  have hcpB := hcp _ hB1
  obtain ⟨m0, m1, m2, m3, m4, m5⟩ := HB.out (((w.alloc (.cells #[.int .i64 2, .int .i64 1, .slice At pl ct, .slice (some ⟨b, off, none⟩) 1 d] 35)).alloc (.cells #[.int .i64 0, .int .i64 0, .slice none 0 0] 29)).alloc (.cells #[.int .i64 3, .int .i64 a, .slice P1 0 q1, .slice (some ⟨b2, off2, none⟩) 1 e1] 35)).drew gA1
  obtain ⟨l0, l1, l2, l3, l4, l5⟩ := HB.out _ gB1
  have hq := Lib.hid (show w.heap.size + 2 ≠ w.heap.size + 1 by omega)
  clear hb0 hb1 hs1
  go_enter Tryz.func31, Tryz.ntmps31
  go_wp2
  clear d0 d1 d2 d3 gB0 hB0
  generalize (((w.alloc (.cells #[.int .i64 2, .int .i64 1, .slice At pl ct, .slice (some ⟨b, off, none⟩) 1 d] 35)).alloc (.cells #[.int .i64 0, .int .i64 0, .slice none 0 0] 29)).alloc (.cells #[.int .i64 3, .int .i64 a, .slice P1 0 q1, .slice (some ⟨b2, off2, none⟩) 1 e1] 35)) = V1 at *
  go_region_held3 (fun w' => w'.cell? ⟨w.heap.size + 2, 1, none⟩ = some (.int .i64 a) ∧ w'.cell? ⟨w.heap.size + 2, 3, none⟩ = some (.slice (some ⟨b2, off2, none⟩) 1 e1) ∧ w'.cell? ⟨b2, off2, none⟩ = some (.int .i64 v.op) ∧ w'.cell? ⟨b2, off2 + 1, none⟩ = some (.int .i64 v.num) ∧ w'.cell? ⟨b2, off2 + 2, none⟩ = some (.slice P2 v.perm.length q2) ∧ w'.cell? ⟨b2, off2 + 3, none⟩ = some (.slice B2 v.kids.length e2))
    (first | (with_reducible exact ⟨by assumption, by assumption, by assumption, by assumption, by assumption, by assumption⟩) | ((try dsimp only); (with_reducible exact ⟨by assumption, by assumption, by assumption, by assumption, by assumption, by assumption⟩)) | go_keep)
    (first
      | (go_at_call 67; (with_reducible refine hcpA.mono ?_); rintro e w4 ⟨v4, rfl, ho4, hb4⟩; have h4 := hA1.trans (hb4.mono hA1.size); have g4 := gA1.trans (hb4.mono gA1.size); have h5 := h4.alloc h4.size (.cells #[.int .i64 a] 3); have g5 := g4.alloc g4.size (.cells #[.int .i64 a] 3); have ho5 := (own_le ho4 hA1.size).alloc (.cells #[.int .i64 a] 3); have ho5b := (own_le ho4 gA1.size).alloc (.cells #[.int .i64 a] 3); have hone := one8 w4 a 3; obtain ⟨n0, n1, n2, n3, n4, n5⟩ := HB.out w4 g4; obtain ⟨nn0, nn1, nn2, nn3, nn4, nn5⟩ := HB.out _ g5)
      | (go_at_call 67; (with_reducible refine hcpB.mono ?_); rintro e w4 ⟨v4, rfl, ho4, hb4⟩; have h5 := hB1.trans (hb4.mono hB1.size); have g5 := gB1.trans (hb4.mono gB1.size); have ho5 := own_le ho4 hB1.size; have ho5b := own_le ho4 gB1.size; have hone := hoB.below hb4; obtain ⟨n0, n1, n2, n3, n4, n5⟩ := HB.out w4 g5)
      | (refine step_append_ints8 (by rfl) _ _ (by rfl) w.heap.size _ bd.length _ (by rfl) ho5 _ 1 [a] (by rfl) hone hl2 h5.size ?_; intro v6 w6 ho6 hg6; rw [eL.out, eI.out] at ho6; obtain ⟨A6, c6, rfl, hA6⟩ := own_intsAt ho6; have hz6 := hz_own8 ho6; have h6 := below_own h5 ho5 (Nat.le_refl _) h5.size hg6; have g6 := below_own g5 ho5b (Nat.le_refl _) g5.size hg6; have hrec := hre w6 h6 A6 c6 hA6 hz6; obtain ⟨p0, p1, p2, p3, p4, p5⟩ := HB.out w6 g6)
      | (go_at_call 31; (with_reducible refine hrec.mono ?_); rintro e w7 ⟨A7, c7, S7, rfl, hS7, hS7b, hb7⟩; have h7 := h6.trans (hb7.mono h6.size); have g7 := g6.trans (hb7.mono g6.size); obtain ⟨s0, s1, s2, s3, s4, s5⟩ := HB.out w7 g7; obtain ⟨r0, r1, r2, z0, z1, z2⟩ := HR.out w7 g7; have hlt7 : w.heap.size + 2 < w7.heap.size := Nat.lt_of_lt_of_le (by have e := HSZ.out; omega) g7.size; have hlt3 : w.heap.size + 1 < w7.heap.size := Nat.lt_of_succ_lt hlt7; have hne3 : w.heap.size + 1 ≠ w7.heap.size := Nat.ne_of_lt hlt3; have hne4 : w.heap.size ≠ w7.heap.size := Nat.ne_of_lt (Nat.lt_of_succ_lt (Nat.lt_of_succ_lt hlt7)); have hne5 : w.heap.size + 2 ≠ w7.heap.size := Nat.ne_of_lt hlt7; have hbel := set3_below h7 (show w.heap.size ≤ w.heap.size + 1 from Nat.le_succ _) (.int .i64 3) (.int .i64 0) (.slice (some ⟨w7.heap.size, 0, none⟩) 1 1); obtain ⟨y0, y1, y2, y3⟩ := HC.out ((((w7.setCell ⟨w.heap.size + 1, 0, none⟩ (.int .i64 3)).setCell ⟨w.heap.size + 1, 1, none⟩ (.int .i64 0)).setCell ⟨w.heap.size + 1, 2, none⟩ (.slice (some ⟨w7.heap.size, 0, none⟩) 1 1)).alloc (.cells #[.int .i64 k.op, .int .i64 k.num, .slice A7 k.kids.length c7] 29)) (hbel.alloc hbel.size _); have y4 := (set3_cell w7 (w.heap.size + 1) (.int .i64 3) (.int .i64 0) (.slice (some ⟨w7.heap.size, 0, none⟩) 1 1) (.cells #[.int .i64 k.op, .int .i64 k.num, .slice A7 k.kids.length c7] 29) (w.heap.size + 2) 1 hlt7 hq.out).trans s0; have y5 := (set3_cell w7 (w.heap.size + 1) (.int .i64 3) (.int .i64 0) (.slice (some ⟨w7.heap.size, 0, none⟩) 1 1) (.cells #[.int .i64 k.op, .int .i64 k.num, .slice A7 k.kids.length c7] 29) (w.heap.size + 2) 3 hlt7 hq.out).trans s1; obtain ⟨x0, x1, x2, x3, x4, x5⟩ := HB.out (w7.alloc (.cells #[.int .i64 k.op, .int .i64 k.num, .slice A7 k.kids.length c7] 29)) (g7.alloc g7.size _))
      | fail)
  all_goals (
    have hpost : IxOut (.mk 3 0 [k]) w (.returned (.agg #[.int .i64 3, .int .i64 0, .slice (some ⟨w7.heap.size, 0, none⟩) 1 1])) ((((w7.setCell ⟨w.heap.size + 1, 0, none⟩ (.int .i64 3)).setCell ⟨w.heap.size + 1, 1, none⟩ (.int .i64 0)).setCell ⟨w.heap.size + 1, 2, none⟩ (.slice (some ⟨w7.heap.size, 0, none⟩) 1 1)).alloc (.cells #[.int .i64 k.op, .int .i64 k.num, .slice A7 k.kids.length c7] 29)) := by
      have q6 := g6.size
      rw [HSZ.out] at q6
      have hSb : ∀ b ∈ S7, w.heap.size + 3 ≤ b ∧ b < w7.heap.size := fun b hb => ⟨by have h1 := hS7b b hb; omega, hS7.lt b hb⟩
      have hL4 := set3_own hS7 (R := w.heap.size + 1) (fun b hb => by have := (hSb b hb).1; omega) (.int .i64 3) (.int .i64 0) (.slice (some ⟨w7.heap.size, 0, none⟩) 1 1)
      have hsz4 : (((w7.setCell ⟨w.heap.size + 1, 0, none⟩ (.int .i64 3)).setCell ⟨w.heap.size + 1, 1, none⟩ (.int .i64 0)).setCell ⟨w.heap.size + 1, 2, none⟩ (.slice (some ⟨w7.heap.size, 0, none⟩) 1 1)).heap.size = w7.heap.size := by simp
      have hL5 := hL4.alike (w' := ((((w7.setCell ⟨w.heap.size + 1, 0, none⟩ (.int .i64 3)).setCell ⟨w.heap.size + 1, 1, none⟩ (.int .i64 0)).setCell ⟨w.heap.size + 1, 2, none⟩ (.slice (some ⟨w7.heap.size, 0, none⟩) 1 1)).alloc (.cells #[.int .i64 k.op, .int .i64 k.num, .slice A7 k.kids.length c7] 29))) (fun b hb => Below.heap_alloc _ _ _ (by rw [hsz4]; exact (hSb b hb).2))
      have h9 := World.ownsRow_lit (base := 0) (e := 29) (size := 3) (((w7.setCell ⟨w.heap.size + 1, 0, none⟩ (.int .i64 3)).setCell ⟨w.heap.size + 1, 1, none⟩ (.int .i64 0)).setCell ⟨w.heap.size + 1, 2, none⟩ (.slice (some ⟨w7.heap.size, 0, none⟩) 1 1)) #[.int .i64 k.op, .int .i64 k.num, .slice A7 k.kids.length c7] 1 (Nat.zero_le _) (by decide) rfl
      rw [hsz4] at h9
      have hk4 := own_of_ixs (ts := [k]) rfl h9 (by rw [encIxs, encIxs, List.append_nil]; exact hL5) (fun hm => by have := (hSb _ hm).2; omega)
      have hL := ownL_ix (t := .mk 3 0 [k]) hk4
      refine ⟨_, _, _, rfl, hL, fun b hb => ?_, hbel.alloc hbel.size _⟩
      simp only [List.append_nil, List.mem_cons] at hb
      rcases hb with rfl | hb
      · omega
      · have := (hSb b hb).1; omega
    have hsz4 : (((w7.setCell ⟨w.heap.size + 1, 0, none⟩ (.int .i64 3)).setCell ⟨w.heap.size + 1, 1, none⟩ (.int .i64 0)).setCell ⟨w.heap.size + 1, 2, none⟩ (.slice (some ⟨w7.heap.size, 0, none⟩) 1 1)).heap.size = w7.heap.size := by simp
    have hbx : Below (((w7.setCell ⟨w.heap.size + 1, 0, none⟩ (.int .i64 3)).setCell ⟨w.heap.size + 1, 1, none⟩ (.int .i64 0)).setCell ⟨w.heap.size + 1, 2, none⟩ (.slice (some ⟨w7.heap.size, 0, none⟩) 1 1)).heap.size (((w7.setCell ⟨w.heap.size + 1, 0, none⟩ (.int .i64 3)).setCell ⟨w.heap.size + 1, 1, none⟩ (.int .i64 0)).setCell ⟨w.heap.size + 1, 2, none⟩ (.slice (some ⟨w7.heap.size, 0, none⟩) 1 1)) ((((w7.setCell ⟨w.heap.size + 1, 0, none⟩ (.int .i64 3)).setCell ⟨w.heap.size + 1, 1, none⟩ (.int .i64 0)).setCell ⟨w.heap.size + 1, 2, none⟩ (.slice (some ⟨w7.heap.size, 0, none⟩) 1 1)).alloc (.cells #[.int .i64 k.op, .int .i64 k.num, .slice A7 k.kids.length c7] 29)) := (Below.refl _ _).alloc (Nat.le_refl _) _
    have f0 : ((((w7.setCell ⟨w.heap.size + 1, 0, none⟩ (.int .i64 3)).setCell ⟨w.heap.size + 1, 1, none⟩ (.int .i64 0)).setCell ⟨w.heap.size + 1, 2, none⟩ (.slice (some ⟨w7.heap.size, 0, none⟩) 1 1)).alloc (.cells #[.int .i64 k.op, .int .i64 k.num, .slice A7 k.kids.length c7] 29)).cell? ⟨w.heap.size + 1, 0, none⟩ = some (.int .i64 3) := (hbx.cell (p := ⟨w.heap.size + 1, 0, none⟩) (by rw [hsz4]; exact Nat.lt_of_succ_lt hlt7)).trans (by simp [go_sem, r0])
    have f1 : ((((w7.setCell ⟨w.heap.size + 1, 0, none⟩ (.int .i64 3)).setCell ⟨w.heap.size + 1, 1, none⟩ (.int .i64 0)).setCell ⟨w.heap.size + 1, 2, none⟩ (.slice (some ⟨w7.heap.size, 0, none⟩) 1 1)).alloc (.cells #[.int .i64 k.op, .int .i64 k.num, .slice A7 k.kids.length c7] 29)).cell? ⟨w.heap.size + 1, 1, none⟩ = some (.int .i64 0) := (hbx.cell (p := ⟨w.heap.size + 1, 1, none⟩) (by rw [hsz4]; exact Nat.lt_of_succ_lt hlt7)).trans (by simp [go_sem, r1])
    have f2 : ((((w7.setCell ⟨w.heap.size + 1, 0, none⟩ (.int .i64 3)).setCell ⟨w.heap.size + 1, 1, none⟩ (.int .i64 0)).setCell ⟨w.heap.size + 1, 2, none⟩ (.slice (some ⟨w7.heap.size, 0, none⟩) 1 1)).alloc (.cells #[.int .i64 k.op, .int .i64 k.num, .slice A7 k.kids.length c7] 29)).cell? ⟨w.heap.size + 1, 2, none⟩ = some (.slice (some ⟨w7.heap.size, 0, none⟩) 1 1) := (hbx.cell (p := ⟨w.heap.size + 1, 2, none⟩) (by rw [hsz4]; exact Nat.lt_of_succ_lt hlt7)).trans (by simp [go_sem, r2])
    clear hsz4 hbx hbel y4 y5 hS7 hS7b hb7 HB HR HC HSZ HB1 hcp hcpA hcpB hre hrec h5 g5 h6 g6 h7 g7 eL eI
    go_wp2
    exact bodyPost_ret (v := .agg #[.int .i64 3, .int .i64 0, .slice (some ⟨w7.heap.size, 0, none⟩) 1 1]) (by simp [results, Tryz.results31, go_sem, f0, f1, f2]) rfl hpost)

end Go.Proofs.YtihijigbdpjcoaaGreat
end

section
namespace Go.Proofs.YtihijigbdpjcoaaGreat
open Go.RowKit Go.Sort
set_option linter.unusedVariables false

theorem l8Index_any : ∀ (f : Ft) (bd : List Int) (w : World) (x : Value) (A : Option Addr) (c : Nat), TmIn w x (ftTm f) → IntsAt w A bd → (A = none → c = 0) → bd.length + szF8 f ≤ 1048576 →
    Calls Tryz.prog 31 #[x, .slice A bd.length c] w (IxOut (liIx (unL f bd.reverse)) w)
  | .var a, bd, w, x, A, c, hx, hA, hz, hl => by
    obtain ⟨At, ct, kv, rfl, hp, hk⟩ := hx
    obtain ⟨B, d, rfl⟩ := hk.form
    exact l8_var a At B _ ct _ d A c bd w hA (by omega)
  | .lam a b, bd, w, x, A, c, hx, hA, hz, hl => by
    obtain ⟨At, ct, kv, rfl, hp, hk⟩ := hx
    rw [szF8] at hl
    have h := l8_lam a (ftTm b) kv (liIx (unL b (bd ++ [a]).reverse)) At 0 ct A c bd w hk hA hz (by omega) (fun w' y A' c' hy hA' hz' => l8Index_any b (bd ++ [a]) w' y A' c' hy hA' hz' (by rw [List.length_append]; simp; omega))
    rw [show (bd ++ [a]).reverse = a :: bd.reverse by simp] at h
    exact h
  | .app s t, bd, w, x, A, c, hx, hA, hz, hl => by
    obtain ⟨At, ct, kv, rfl, hp, hk⟩ := hx
    rw [szF8] at hl
    exact l8_app (ftTm s) (ftTm t) kv (liIx (unL s bd.reverse)) (liIx (unL t bd.reverse)) At _ ct A c bd.length w hk (fun w' y hw hy => l8Index_any s bd w' y A c hy (hA.below hw) hz (by omega)) (fun w' y hw hy => l8Index_any t bd w' y A c hy (hA.below hw) hz (by omega))

/-- An index term, and a flag, in memory of the call's own. -/
def IxBPost (r : Ix) (b : Bool) (w : World) (e : Ending) (w' : World) : Prop :=
  ∃ B d S, e = .returned (.tuple #[.agg #[.int .i64 r.op, .int .i64 r.num, .slice B r.kids.length d], .bool b]) ∧
    OwnL w' S [.int .i64 r.op, .int .i64 r.num, .slice B r.kids.length d] (encIx r) ∧ (∀ b ∈ S, w.heap.size ≤ b) ∧ Below w.heap.size w w'
/-- What a function term is of. -/
noncomputable def ftOf (t : Tm) : Ft := @dite _ (FunP t) (Classical.propDecidable _) (fun h => Classical.choose h) (fun _ => .var 0)
theorem ftOf_eq {t : Tm} (h : FunP t) : t = ftTm (ftOf t) := by
  unfold ftOf
  rw [dif_pos h]
  exact Classical.choose_spec h
noncomputable def indexR (t : Tm) : Ix := if groundB t && funB t then liIx (unL (ftOf t) []) else ix0
theorem indexR_no {t : Tm} (h : (groundB t && funB t) = false) : indexR t = ix0 := by unfold indexR; rw [h]; rfl
theorem indexR_yes {t : Tm} (h : (groundB t && funB t) = true) : indexR t = liIx (unL (ftOf t) []) := by unfold indexR; rw [h]; rfl
theorem indexR_fit (t : Tm) : FitIx (indexR t) := by
  cases h : (groundB t && funB t) with
  | false => rw [indexR_no h]; simp [ix0, FitIx, FitIxs]
  | true => rw [indexR_yes h]; exact fit_li _
mutual
theorem mcIx_sz : ∀ t : Ix, mcIx t ≤ 2 * szIx t
  | .mk _ _ ks => by have := mcIxs_sz ks; rw [mcIx, szIx]; omega
theorem mcIxs_sz : ∀ ts : List Ix, mcIxs ts ≤ 2 * szIxs ts
  | [] => by simp [mcIxs]
  | t :: r => by have h1 := mcIx_sz t; have h2 := mcIxs_sz r; rw [mcIxs, szIxs]; omega
end
theorem fun_size {t : Tm} (h : (groundB t && funB t) = true) : FunP t ∧ szF8 (ftOf t) ≤ 60 := by
  rw [Bool.and_eq_true] at h
  have hf := funB_true.1 h.2
  refine ⟨hf, ?_⟩
  have h1 := szT_ft (ftOf t)
  rw [← ftOf_eq hf] at h1
  have := term_size (ground_term8 h.1)
  omega
theorem indexR_mc (t : Tm) : mcIxs (indexR t).kids ≤ 2097152 := by
  cases h : (groundB t && funB t) with
  | false => rw [indexR_no h]; simp [ix0, Ix.kids, mcIxs]
  | true =>
    rw [indexR_yes h]
    have h1 := mcIxs_sz (liIx (unL (ftOf t) [])).kids
    have h2 := szIx_eq (liIx (unL (ftOf t) []))
    have h3 := szIx_li (unL (ftOf t) [])
    have h4 := szL_un (ftOf t) []
    have h5 := (fun_size h).2
    omega

set_option maxRecDepth 100000 in
set_option maxHeartbeats 2000000 in
theorem indexOf_spec (t : Tm) (x : Value) (w : World) (hx : TmIn w x t) (hc : cntT t ≤ 1048576) :
    Calls Tryz.prog 9 #[x] w (IxBPost (indexR t) (groundB t && funB t) w) := by
  have hif := fun W hW => isFunctionTerm_spec t x W hW hc
  have hx' := hx
  obtain ⟨A, c, kv, rfl, hp, hk⟩ := hx
  obtain ⟨B, d, rfl⟩ := hk.form
  have hb0 : Below w.heap.size w ((w.alloc (.cells #[.int .i64 t.op, .int .i64 t.num, .slice A t.perm.length c, .slice B t.kids.length d] 35)).alloc (.cells #[.int .i64 0, .int .i64 0, .slice none 0 0] 29)) := ((Below.refl _ _).alloc (Nat.le_refl _) _).alloc (by simp) _
  have hres := secondI w (.cells #[.int .i64 t.op, .int .i64 t.num, .slice A t.perm.length c, .slice B t.kids.length d] 35) #[.int .i64 0, .int .i64 0, .slice none 0 0] 29
  have hbox : ((w.alloc (.cells #[.int .i64 t.op, .int .i64 t.num, .slice A t.perm.length c, .slice B t.kids.length d] 35)).alloc (.cells #[.int .i64 0, .int .i64 0, .slice none 0 0] 29)).heap[w.heap.size]? = some (.cells #[.int .i64 t.op, .int .i64 t.num, .slice A t.perm.length c, .slice B t.kids.length d] 35 (0, 0)) := (Below.heap_alloc (w.alloc (.cells #[.int .i64 t.op, .int .i64 t.num, .slice A t.perm.length c, .slice B t.kids.length d] 35)) _ _ (by simp)).trans (heap_alloc_new w _)
  have hi0 := hif _ (hx'.below hb0)
  have HR : Hid (∀ w' : World, Below ((w.alloc (.cells #[.int .i64 t.op, .int .i64 t.num, .slice A t.perm.length c, .slice B t.kids.length d] 35)).alloc (.cells #[.int .i64 0, .int .i64 0, .slice none 0 0] 29)).heap.size ((w.alloc (.cells #[.int .i64 t.op, .int .i64 t.num, .slice A t.perm.length c, .slice B t.kids.length d] 35)).alloc (.cells #[.int .i64 0, .int .i64 0, .slice none 0 0] 29)) w' → w'.heap[w.heap.size + 1]? = some (.cells #[.int .i64 0, .int .i64 0, .slice none 0 0] 29 (0, 0)) ∧ w'.heap[w.heap.size]? = some (.cells #[.int .i64 t.op, .int .i64 t.num, .slice A t.perm.length c, .slice B t.kids.length d] 35 (0, 0))) := Lib.hid (fun w' h => ⟨(h.block (w.heap.size + 1) (by simp)).trans hres, (h.block w.heap.size (by simp; omega)).trans hbox⟩)
  have hsz : ((w.alloc (.cells #[.int .i64 t.op, .int .i64 t.num, .slice A t.perm.length c, .slice B t.kids.length d] 35)).alloc (.cells #[.int .i64 0, .int .i64 0, .slice none 0 0] 29)).heap.size = w.heap.size + 2 := by simp
  have HSZ := Lib.hid hsz
  have HB0 := Lib.hid hb0
  have HX := Lib.hid (fun W (hW : Below w.heap.size w W) => hx'.below hW)
  clear hif hp hk hres hbox hsz hx' hb0
  cases h1 : (groundB t && funB t) with
  | false =>
    rw [indexR_no h1]
    rw [h1] at hi0
    clear h1 HX
    go_enter Tryz.func9, Tryz.ntmps9
    go_wp2_with fail
    refine hi0.mono ?_
    rintro e w1 ⟨rfl, hb1⟩
    obtain ⟨r0, r1, r2⟩ := IxK.row3 (HR.out w1 hb1).1
    have z0 := frozen_of_row _ _ 0 _ _ (HR.out w1 hb1).1
    have z1 := frozen_of_row _ _ 1 _ _ (HR.out w1 hb1).1
    have z2 := frozen_of_row _ _ 2 _ _ (HR.out w1 hb1).1
    have hbel := set3_below (HB0.out.trans (hb1.mono HB0.out.size)) (show w.heap.size ≤ w.heap.size + 1 by omega) (.int .i64 0) (.int .i64 0) (.slice none 0 0)
    have hpost : IxBPost ix0 false w (.returned (.tuple #[.agg #[.int .i64 0, .int .i64 0, .slice none 0 0], .bool false])) _ := ⟨none, 0, _, rfl, ownL_leafI 0 0, fun b hb => by simp at hb, hbel⟩
    clear hi0 hb1 HR HSZ HB0 hbel
    go_wp2
    exact bodyPost_ret (v := .tuple #[.agg #[.int .i64 0, .int .i64 0, .slice none 0 0], .bool false]) (by simp [results, Tryz.results9, go_sem, r0, r1, r2]) rfl hpost
  | true =>
    obtain ⟨hf, hs60⟩ := fun_size h1
    have hft := ftOf_eq hf
    rw [indexR_yes h1]
    rw [h1] at hi0
    have hct : ∀ W : World, Below w.heap.size w W → Calls Tryz.prog 31 #[(.agg #[.int .i64 t.op, .int .i64 t.num, .slice A t.perm.length c, .slice B t.kids.length d]), .slice none 0 0] W (IxOut (liIx (unL (ftOf t) [])) W) := fun W hW => l8Index_any (ftOf t) [] W _ none 0 (by rw [← hft]; exact HX.out W hW) (fun h => by simp at h) (fun _ => rfl) (by simp; omega)
    generalize liIx (unL (ftOf t) []) = r at hct ⊢
    clear h1 hf hs60 hft HX
    go_enter Tryz.func9, Tryz.ntmps9
    go_wp2_with fail
    refine hi0.mono ?_
    rintro e w1 ⟨rfl, hb1⟩
    have hc0 := hct w1 (HB0.out.trans (hb1.mono HB0.out.size))
    obtain ⟨b0, b1, b2, b3⟩ := Args8.row4 (HR.out w1 hb1).2
    clear hi0 hct
    go_wp2_with fail
    refine hc0.mono ?_
    rintro e w9 ⟨A9, c9, S9, rfl, hS9, hS9b, hb9⟩
    have hsb := hb1.size
    have hb19 := hb1.trans (hb9.mono hb1.size)
    replace hS9b : ∀ b ∈ S9, ((w.alloc (.cells #[.int .i64 t.op, .int .i64 t.num, .slice A t.perm.length c, .slice B t.kids.length d] 35)).alloc (.cells #[.int .i64 0, .int .i64 0, .slice none 0 0] 29)).heap.size ≤ b := fun b hb => Nat.le_trans hsb (hS9b b hb)
    have hres9 := (HR.out w9 hb19).1
    obtain ⟨r0, r1, r2⟩ := IxK.row3 hres9
    have z0 := frozen_of_row _ _ 0 _ _ hres9
    have z1 := frozen_of_row _ _ 1 _ _ hres9
    have z2 := frozen_of_row _ _ 2 _ _ hres9
    have hbz := HB0.out.trans ((hb19).mono HB0.out.size)
    have hSb : ∀ b ∈ S9, w.heap.size + 2 ≤ b := fun b hb => by have h3 := hS9b b hb; have h4 := HSZ.out; omega
    have hL := set3_own hS9 (R := w.heap.size + 1) (fun b hb => by have := hSb b hb; omega) (.int .i64 r.op) (.int .i64 r.num) (.slice A9 r.kids.length c9)
    have hbel := set3_below hbz (show w.heap.size ≤ w.heap.size + 1 by omega) (.int .i64 r.op) (.int .i64 r.num) (.slice A9 r.kids.length c9)
    have hpost : IxBPost r true w (.returned (.tuple #[.agg #[.int .i64 r.op, .int .i64 r.num, .slice A9 r.kids.length c9], .bool true])) _ := ⟨A9, c9, S9, rfl, hL, fun b hb => by have := hSb b hb; omega, hbel⟩
    clear hc0 hb1 hb9 hb19 hsb hS9 hS9b hSb hL hbel hbz hres9 HR HSZ HB0 b0 b1 b2 b3
    go_wp2
    exact bodyPost_ret (v := .tuple #[.agg #[.int .i64 r.op, .int .i64 r.num, .slice A9 r.kids.length c9], .bool true]) (by simp [results, Tryz.results9, go_sem, r0, r1, r2]) rfl hpost

set_option maxRecDepth 100000 in
set_option maxHeartbeats 2000000 in
theorem indexOf_impl (t : Tm) (x : Value) (w : World) (hx : TmIn w x t) (hf0 : Fit t) :
    Calls Tryz.prog 11 #[x] w (IxBPost (indexR t) (groundB t && funB t) w) := by
  have hif := fun W hW => isFunctionTerm_impl t x W hW hf0
  have hx' := hx
  obtain ⟨A, c, kv, rfl, hp, hk⟩ := hx
  obtain ⟨B, d, rfl⟩ := hk.form
  have hb0 : Below w.heap.size w ((w.alloc (.cells #[.int .i64 t.op, .int .i64 t.num, .slice A t.perm.length c, .slice B t.kids.length d] 35)).alloc (.cells #[.int .i64 0, .int .i64 0, .slice none 0 0] 29)) := ((Below.refl _ _).alloc (Nat.le_refl _) _).alloc (by simp) _
  have hres := secondI w (.cells #[.int .i64 t.op, .int .i64 t.num, .slice A t.perm.length c, .slice B t.kids.length d] 35) #[.int .i64 0, .int .i64 0, .slice none 0 0] 29
  have hbox : ((w.alloc (.cells #[.int .i64 t.op, .int .i64 t.num, .slice A t.perm.length c, .slice B t.kids.length d] 35)).alloc (.cells #[.int .i64 0, .int .i64 0, .slice none 0 0] 29)).heap[w.heap.size]? = some (.cells #[.int .i64 t.op, .int .i64 t.num, .slice A t.perm.length c, .slice B t.kids.length d] 35 (0, 0)) := (Below.heap_alloc (w.alloc (.cells #[.int .i64 t.op, .int .i64 t.num, .slice A t.perm.length c, .slice B t.kids.length d] 35)) _ _ (by simp)).trans (heap_alloc_new w _)
  have hi0 := hif _ (hx'.below hb0)
  have HR : Hid (∀ w' : World, Below ((w.alloc (.cells #[.int .i64 t.op, .int .i64 t.num, .slice A t.perm.length c, .slice B t.kids.length d] 35)).alloc (.cells #[.int .i64 0, .int .i64 0, .slice none 0 0] 29)).heap.size ((w.alloc (.cells #[.int .i64 t.op, .int .i64 t.num, .slice A t.perm.length c, .slice B t.kids.length d] 35)).alloc (.cells #[.int .i64 0, .int .i64 0, .slice none 0 0] 29)) w' → w'.heap[w.heap.size + 1]? = some (.cells #[.int .i64 0, .int .i64 0, .slice none 0 0] 29 (0, 0)) ∧ w'.heap[w.heap.size]? = some (.cells #[.int .i64 t.op, .int .i64 t.num, .slice A t.perm.length c, .slice B t.kids.length d] 35 (0, 0))) := Lib.hid (fun w' h => ⟨(h.block (w.heap.size + 1) (by simp)).trans hres, (h.block w.heap.size (by simp; omega)).trans hbox⟩)
  have hsz : ((w.alloc (.cells #[.int .i64 t.op, .int .i64 t.num, .slice A t.perm.length c, .slice B t.kids.length d] 35)).alloc (.cells #[.int .i64 0, .int .i64 0, .slice none 0 0] 29)).heap.size = w.heap.size + 2 := by simp
  have HSZ := Lib.hid hsz
  have HB0 := Lib.hid hb0
  have HX := Lib.hid (fun W (hW : Below w.heap.size w W) => hx'.below hW)
  clear hif hp hk hres hbox hsz hx' hb0
  cases h1 : (groundB t && funB t) with
  | false =>
    rw [indexR_no h1]
    rw [h1] at hi0
    clear h1 HX
    go_enter Tryz.func11, Tryz.ntmps11
    go_wp2_with fail
    refine hi0.mono ?_
    rintro e w1 ⟨rfl, hb1⟩
    obtain ⟨r0, r1, r2⟩ := IxK.row3 (HR.out w1 hb1).1
    have z0 := frozen_of_row _ _ 0 _ _ (HR.out w1 hb1).1
    have z1 := frozen_of_row _ _ 1 _ _ (HR.out w1 hb1).1
    have z2 := frozen_of_row _ _ 2 _ _ (HR.out w1 hb1).1
    have hbel := set3_below (HB0.out.trans (hb1.mono HB0.out.size)) (show w.heap.size ≤ w.heap.size + 1 by omega) (.int .i64 0) (.int .i64 0) (.slice none 0 0)
    have hpost : IxBPost ix0 false w (.returned (.tuple #[.agg #[.int .i64 0, .int .i64 0, .slice none 0 0], .bool false])) _ := ⟨none, 0, _, rfl, ownL_leafI 0 0, fun b hb => by simp at hb, hbel⟩
    clear hi0 hb1 HR HSZ HB0 hbel
    go_wp2
    exact bodyPost_ret (v := .tuple #[.agg #[.int .i64 0, .int .i64 0, .slice none 0 0], .bool false]) (by simp [results, Tryz.results11, go_sem, r0, r1, r2]) rfl hpost
  | true =>
    obtain ⟨hf, hs60⟩ := fun_size h1
    have hft := ftOf_eq hf
    rw [indexR_yes h1]
    rw [h1] at hi0
    have hct : ∀ (W : World), Below w.heap.size w W → ∀ (A4 : Option Addr), Calls Tryz.prog 35 #[(.agg #[.int .i64 t.op, .int .i64 t.num, .slice A t.perm.length c, .slice B t.kids.length d]), .slice A4 0 0] W (ValPost (liV (unL (ftOf t) [])) W) := fun W hW A4 => withoutNames_any (ftOf t) [] W _ A4 0 (by rw [← hft]; exact HX.out W hW) (fun h => by simp at h) (fun _ => rfl) (by simp; omega)
    have hix := fun W => index_any (unL (ftOf t) []) W
    have hm := askIndexL (unL (ftOf t) [])
    have hn := enterIndexL (unL (ftOf t) [])
    unfold liV at hct
    generalize liIx (unL (ftOf t) []) = r at hix ⊢
    generalize mIndexF (unL (ftOf t) []) = F at *
    generalize ityL (unL (ftOf t) []) = T at *
    generalize ivL (unL (ftOf t) []) = V at *
    clear h1 hf hs60 hft HX
    go_enter Tryz.func11, Tryz.ntmps11
    go_wp2_with fail
    refine hi0.mono ?_
    rintro e w1 ⟨rfl, hb1⟩
    have hs1 := HB0.out.trans (hb1.mono HB0.out.size)
    have hs2 := hs1.alloc hs1.size (.cells #[] 3)
    have hb2 := hb1.alloc hb1.size (.cells #[] 3)
    have hc0 := hct _ hs2 (some ⟨w1.heap.size, 0, none⟩)
    obtain ⟨b0, b1, b2, b3⟩ := Args8.row4 (HR.out w1 hb1).2
    clear hi0 hct hs1 hs2
    go_wp2_with fail
    refine hc0.mono ?_
    rintro e w3 ⟨rfl, hb3⟩
    have hb4 := hb2.trans (hb3.mono hb2.size)
    have hi1 := hix w3
    clear hc0 hix hb2 hb3
    go_wp2_with fail
    refine hi1.mono ?_
    rintro e w9 ⟨A9, c9, S9, rfl, hS9, hS9b, hb9⟩
    have hsb := hb4.size
    have hb19 := hb4.trans (hb9.mono hb4.size)
    replace hS9b : ∀ b ∈ S9, ((w.alloc (.cells #[.int .i64 t.op, .int .i64 t.num, .slice A t.perm.length c, .slice B t.kids.length d] 35)).alloc (.cells #[.int .i64 0, .int .i64 0, .slice none 0 0] 29)).heap.size ≤ b := fun b hb => Nat.le_trans hsb (hS9b b hb)
    have hres9 := (HR.out w9 hb19).1
    obtain ⟨r0, r1, r2⟩ := IxK.row3 hres9
    have z0 := frozen_of_row _ _ 0 _ _ hres9
    have z1 := frozen_of_row _ _ 1 _ _ hres9
    have z2 := frozen_of_row _ _ 2 _ _ hres9
    have hbz := HB0.out.trans ((hb19).mono HB0.out.size)
    have hSb : ∀ b ∈ S9, w.heap.size + 2 ≤ b := fun b hb => by have h3 := hS9b b hb; have h4 := HSZ.out; omega
    have hL := set3_own hS9 (R := w.heap.size + 1) (fun b hb => by have := hSb b hb; omega) (.int .i64 r.op) (.int .i64 r.num) (.slice A9 r.kids.length c9)
    have hbel := set3_below hbz (show w.heap.size ≤ w.heap.size + 1 by omega) (.int .i64 r.op) (.int .i64 r.num) (.slice A9 r.kids.length c9)
    have hpost : IxBPost r true w (.returned (.tuple #[.agg #[.int .i64 r.op, .int .i64 r.num, .slice A9 r.kids.length c9], .bool true])) _ := ⟨A9, c9, S9, rfl, hL, fun b hb => by have := hSb b hb; omega, hbel⟩
    clear hi1 hb1 hb4 hb9 hb19 hsb hS9 hS9b hSb hL hbel hbz hres9 HR HSZ HB0 b0 b1 b2 b3 hm hn
    go_wp2
    exact bodyPost_ret (v := .tuple #[.agg #[.int .i64 r.op, .int .i64 r.num, .slice A9 r.kids.length c9], .bool true]) (by simp [results, Tryz.results11, go_sem, r0, r1, r2]) rfl hpost

end Go.Proofs.YtihijigbdpjcoaaGreat
end

