/-
  The same bindings compared, as contracts.
-/
import Derived.Test.YtnomidnjglbedaaKIsSubstitution12
import Derived.Deep.RegionHeld3
namespace Go.Proofs.Ytnomidnjglbedaa
open Go.RowKit
set_option linter.unusedVariables false

set_option maxRecDepth 100000 in
set_option maxHeartbeats 2000000 in
theorem eqBinding_any (r : RBinding) (hf1 : Fit r.f1) (w : World) (x y : Value) (hx : RBindingIn w x r) (hy : RBindingIn w y r) : Calls Try.prog 83 #[x, y] w (YesPost w) := by
  obtain ⟨A1, c1, B1, d1, rfl, hx1⟩ := hx
  obtain ⟨A1q, c1q, B1q, d1q, rfl, hy1⟩ := hy
  have hb0 : Below w.heap.size w ((w.alloc (.cells #[.int .i64 r.f0, .int .i64 r.f1.op, .int .i64 r.f1.num, .slice A1 r.f1.perm.length c1, .slice B1 r.f1.kids.length d1] 106)).alloc (.cells #[.int .i64 r.f0, .int .i64 r.f1.op, .int .i64 r.f1.num, .slice A1q r.f1.perm.length c1q, .slice B1q r.f1.kids.length d1q] 106)) := ((Below.refl _ w).alloc (Nat.le_refl _) _).alloc (by simp) _
  have k0 : ((w.alloc (.cells #[.int .i64 r.f0, .int .i64 r.f1.op, .int .i64 r.f1.num, .slice A1 r.f1.perm.length c1, .slice B1 r.f1.kids.length d1] 106)).alloc (.cells #[.int .i64 r.f0, .int .i64 r.f1.op, .int .i64 r.f1.num, .slice A1q r.f1.perm.length c1q, .slice B1q r.f1.kids.length d1q] 106)).heap[w.heap.size]? = some (.cells #[.int .i64 r.f0, .int .i64 r.f1.op, .int .i64 r.f1.num, .slice A1 r.f1.perm.length c1, .slice B1 r.f1.kids.length d1] 106 (0, 0)) := (Below.heap_alloc _ _ _ (by simp)).trans (heap_alloc_new w _)
  have k1 : ((w.alloc (.cells #[.int .i64 r.f0, .int .i64 r.f1.op, .int .i64 r.f1.num, .slice A1 r.f1.perm.length c1, .slice B1 r.f1.kids.length d1] 106)).alloc (.cells #[.int .i64 r.f0, .int .i64 r.f1.op, .int .i64 r.f1.num, .slice A1q r.f1.perm.length c1q, .slice B1q r.f1.kids.length d1q] 106)).heap[w.heap.size + 1]? = some (.cells #[.int .i64 r.f0, .int .i64 r.f1.op, .int .i64 r.f1.num, .slice A1q r.f1.perm.length c1q, .slice B1q r.f1.kids.length d1q] 106 (0, 0)) := by
    have h := heap_alloc_new (w.alloc (.cells #[.int .i64 r.f0, .int .i64 r.f1.op, .int .i64 r.f1.num, .slice A1 r.f1.perm.length c1, .slice B1 r.f1.kids.length d1] 106)) (.cells #[.int .i64 r.f0, .int .i64 r.f1.op, .int .i64 r.f1.num, .slice A1q r.f1.perm.length c1q, .slice B1q r.f1.kids.length d1q] 106)
    rw [World.size_alloc] at h
    exact h
  have m0 : ((w.alloc (.cells #[.int .i64 r.f0, .int .i64 r.f1.op, .int .i64 r.f1.num, .slice A1 r.f1.perm.length c1, .slice B1 r.f1.kids.length d1] 106)).alloc (.cells #[.int .i64 r.f0, .int .i64 r.f1.op, .int .i64 r.f1.num, .slice A1q r.f1.perm.length c1q, .slice B1q r.f1.kids.length d1q] 106)).cell? ⟨w.heap.size, 0, none⟩ = some (.int .i64 r.f0) := by rw [cell_of_row _ _ 0 _ _ _ k0]; rfl
  have m1 : ((w.alloc (.cells #[.int .i64 r.f0, .int .i64 r.f1.op, .int .i64 r.f1.num, .slice A1 r.f1.perm.length c1, .slice B1 r.f1.kids.length d1] 106)).alloc (.cells #[.int .i64 r.f0, .int .i64 r.f1.op, .int .i64 r.f1.num, .slice A1q r.f1.perm.length c1q, .slice B1q r.f1.kids.length d1q] 106)).cell? ⟨w.heap.size, 1, none⟩ = some (.int .i64 r.f1.op) := by rw [cell_of_row _ _ 1 _ _ _ k0]; rfl
  have m2 : ((w.alloc (.cells #[.int .i64 r.f0, .int .i64 r.f1.op, .int .i64 r.f1.num, .slice A1 r.f1.perm.length c1, .slice B1 r.f1.kids.length d1] 106)).alloc (.cells #[.int .i64 r.f0, .int .i64 r.f1.op, .int .i64 r.f1.num, .slice A1q r.f1.perm.length c1q, .slice B1q r.f1.kids.length d1q] 106)).cell? ⟨w.heap.size, 2, none⟩ = some (.int .i64 r.f1.num) := by rw [cell_of_row _ _ 2 _ _ _ k0]; rfl
  have m3 : ((w.alloc (.cells #[.int .i64 r.f0, .int .i64 r.f1.op, .int .i64 r.f1.num, .slice A1 r.f1.perm.length c1, .slice B1 r.f1.kids.length d1] 106)).alloc (.cells #[.int .i64 r.f0, .int .i64 r.f1.op, .int .i64 r.f1.num, .slice A1q r.f1.perm.length c1q, .slice B1q r.f1.kids.length d1q] 106)).cell? ⟨w.heap.size, 3, none⟩ = some (.slice A1 r.f1.perm.length c1) := by rw [cell_of_row _ _ 3 _ _ _ k0]; rfl
  have m4 : ((w.alloc (.cells #[.int .i64 r.f0, .int .i64 r.f1.op, .int .i64 r.f1.num, .slice A1 r.f1.perm.length c1, .slice B1 r.f1.kids.length d1] 106)).alloc (.cells #[.int .i64 r.f0, .int .i64 r.f1.op, .int .i64 r.f1.num, .slice A1q r.f1.perm.length c1q, .slice B1q r.f1.kids.length d1q] 106)).cell? ⟨w.heap.size, 4, none⟩ = some (.slice B1 r.f1.kids.length d1) := by rw [cell_of_row _ _ 4 _ _ _ k0]; rfl
  have m0q : ((w.alloc (.cells #[.int .i64 r.f0, .int .i64 r.f1.op, .int .i64 r.f1.num, .slice A1 r.f1.perm.length c1, .slice B1 r.f1.kids.length d1] 106)).alloc (.cells #[.int .i64 r.f0, .int .i64 r.f1.op, .int .i64 r.f1.num, .slice A1q r.f1.perm.length c1q, .slice B1q r.f1.kids.length d1q] 106)).cell? ⟨w.heap.size + 1, 0, none⟩ = some (.int .i64 r.f0) := by rw [cell_of_row _ _ 0 _ _ _ k1]; rfl
  have m1q : ((w.alloc (.cells #[.int .i64 r.f0, .int .i64 r.f1.op, .int .i64 r.f1.num, .slice A1 r.f1.perm.length c1, .slice B1 r.f1.kids.length d1] 106)).alloc (.cells #[.int .i64 r.f0, .int .i64 r.f1.op, .int .i64 r.f1.num, .slice A1q r.f1.perm.length c1q, .slice B1q r.f1.kids.length d1q] 106)).cell? ⟨w.heap.size + 1, 1, none⟩ = some (.int .i64 r.f1.op) := by rw [cell_of_row _ _ 1 _ _ _ k1]; rfl
  have m2q : ((w.alloc (.cells #[.int .i64 r.f0, .int .i64 r.f1.op, .int .i64 r.f1.num, .slice A1 r.f1.perm.length c1, .slice B1 r.f1.kids.length d1] 106)).alloc (.cells #[.int .i64 r.f0, .int .i64 r.f1.op, .int .i64 r.f1.num, .slice A1q r.f1.perm.length c1q, .slice B1q r.f1.kids.length d1q] 106)).cell? ⟨w.heap.size + 1, 2, none⟩ = some (.int .i64 r.f1.num) := by rw [cell_of_row _ _ 2 _ _ _ k1]; rfl
  have m3q : ((w.alloc (.cells #[.int .i64 r.f0, .int .i64 r.f1.op, .int .i64 r.f1.num, .slice A1 r.f1.perm.length c1, .slice B1 r.f1.kids.length d1] 106)).alloc (.cells #[.int .i64 r.f0, .int .i64 r.f1.op, .int .i64 r.f1.num, .slice A1q r.f1.perm.length c1q, .slice B1q r.f1.kids.length d1q] 106)).cell? ⟨w.heap.size + 1, 3, none⟩ = some (.slice A1q r.f1.perm.length c1q) := by rw [cell_of_row _ _ 3 _ _ _ k1]; rfl
  have m4q : ((w.alloc (.cells #[.int .i64 r.f0, .int .i64 r.f1.op, .int .i64 r.f1.num, .slice A1 r.f1.perm.length c1, .slice B1 r.f1.kids.length d1] 106)).alloc (.cells #[.int .i64 r.f0, .int .i64 r.f1.op, .int .i64 r.f1.num, .slice A1q r.f1.perm.length c1q, .slice B1q r.f1.kids.length d1q] 106)).cell? ⟨w.heap.size + 1, 4, none⟩ = some (.slice B1q r.f1.kids.length d1q) := by rw [cell_of_row _ _ 4 _ _ _ k1]; rfl
  have q0 : (r.f0 != r.f0) = false := by simp
  have hlt : w.heap.size + 1 < ((w.alloc (.cells #[.int .i64 r.f0, .int .i64 r.f1.op, .int .i64 r.f1.num, .slice A1 r.f1.perm.length c1, .slice B1 r.f1.kids.length d1] 106)).alloc (.cells #[.int .i64 r.f0, .int .i64 r.f1.op, .int .i64 r.f1.num, .slice A1q r.f1.perm.length c1q, .slice B1q r.f1.kids.length d1q] 106)).heap.size := by simp
  have HC : Hid (∀ w', Below ((w.alloc (.cells #[.int .i64 r.f0, .int .i64 r.f1.op, .int .i64 r.f1.num, .slice A1 r.f1.perm.length c1, .slice B1 r.f1.kids.length d1] 106)).alloc (.cells #[.int .i64 r.f0, .int .i64 r.f1.op, .int .i64 r.f1.num, .slice A1q r.f1.perm.length c1q, .slice B1q r.f1.kids.length d1q] 106)).heap.size ((w.alloc (.cells #[.int .i64 r.f0, .int .i64 r.f1.op, .int .i64 r.f1.num, .slice A1 r.f1.perm.length c1, .slice B1 r.f1.kids.length d1] 106)).alloc (.cells #[.int .i64 r.f0, .int .i64 r.f1.op, .int .i64 r.f1.num, .slice A1q r.f1.perm.length c1q, .slice B1q r.f1.kids.length d1q] 106)) w' → w'.cell? ⟨w.heap.size, 0, none⟩ = some (.int .i64 r.f0) ∧ w'.cell? ⟨w.heap.size, 1, none⟩ = some (.int .i64 r.f1.op) ∧ w'.cell? ⟨w.heap.size, 2, none⟩ = some (.int .i64 r.f1.num) ∧ w'.cell? ⟨w.heap.size, 3, none⟩ = some (.slice A1 r.f1.perm.length c1) ∧ w'.cell? ⟨w.heap.size, 4, none⟩ = some (.slice B1 r.f1.kids.length d1) ∧ w'.cell? ⟨w.heap.size + 1, 0, none⟩ = some (.int .i64 r.f0) ∧ w'.cell? ⟨w.heap.size + 1, 1, none⟩ = some (.int .i64 r.f1.op) ∧ w'.cell? ⟨w.heap.size + 1, 2, none⟩ = some (.int .i64 r.f1.num) ∧ w'.cell? ⟨w.heap.size + 1, 3, none⟩ = some (.slice A1q r.f1.perm.length c1q) ∧ w'.cell? ⟨w.heap.size + 1, 4, none⟩ = some (.slice B1q r.f1.kids.length d1q)) := Lib.hid fun w' h => ⟨(h.cell (p := ⟨w.heap.size, 0, none⟩) (show w.heap.size < _ by omega)).trans m0, (h.cell (p := ⟨w.heap.size, 1, none⟩) (show w.heap.size < _ by omega)).trans m1, (h.cell (p := ⟨w.heap.size, 2, none⟩) (show w.heap.size < _ by omega)).trans m2, (h.cell (p := ⟨w.heap.size, 3, none⟩) (show w.heap.size < _ by omega)).trans m3, (h.cell (p := ⟨w.heap.size, 4, none⟩) (show w.heap.size < _ by omega)).trans m4, (h.cell (p := ⟨w.heap.size + 1, 0, none⟩) hlt).trans m0q, (h.cell (p := ⟨w.heap.size + 1, 1, none⟩) hlt).trans m1q, (h.cell (p := ⟨w.heap.size + 1, 2, none⟩) hlt).trans m2q, (h.cell (p := ⟨w.heap.size + 1, 3, none⟩) hlt).trans m3q, (h.cell (p := ⟨w.heap.size + 1, 4, none⟩) hlt).trans m4q⟩
  have HE1 := Lib.hid (fun W (h : Below w.heap.size w W) => eqTerm_any r.f1 hf1 W _ _ (hx1.below h) (hy1.below h))
  have hbw := hb0
  have HB0 := Lib.hid hb0
  clear k0 k1 hlt hx1 hy1 hb0
  go_enter Try.func83, Try.ntmps83
  have he1 := HE1.out _ hbw
  go_wp2_with fail
  refine he1.mono ?_
  rintro e w1 ⟨rfl, hb1⟩
  have hbw1 := hbw.trans (hb1.mono hbw.size)
  clear he1 hb1 m0 m0q m1 m1q m2 m2q m3 m3q m4 m4q
  go_wp2
  go_ret
  exact ⟨rfl, hbw1⟩

set_option maxRecDepth 100000 in
set_option maxHeartbeats 4000000 in
theorem eqBindingS_any (rs : List RBinding) (hf : ∀ k, k < rs.length → Fit (atRBinding rs k).f1) (hlen : rs.length ≤ 1048576) (w : World) (x y : Value) (hx : RBindingsIn w x rs) (hy : RBindingsIn w y rs) : Calls Try.prog 34 #[x, y] w (YesPost w) := by
  obtain ⟨A, c, rfl, hg⟩ := hx
  obtain ⟨B, d, rfl, hg'⟩ := hy
  have hq0 : ((rs.length : Int) != (rs.length : Int)) = false := by simp
  go_enter Try.func34, Try.ntmps34
  go_wp2
  go_loopw [5] (fun i wr => ∃ k : Nat, k ≤ rs.length ∧ i = .int .i64 k ∧ Below w.heap.size w wr) (fun i _ => rs.length - (intOf i).toNat)
  case atStart => exact ⟨0, Nat.zero_le _, rfl, Below.refl _ _⟩
  case round =>
    obtain ⟨k, hk, rfl, hb⟩ := hrel
    by_cases hlt : k < rs.length
    · obtain ⟨b, off, rfl, hbl, hget⟩ := hg (by omega)
      obtain ⟨b', off', rfl, hbl', hget'⟩ := hg' (by omega)
      have hdw : Below wr.heap.size wr wr.drew := ⟨rfl, rfl, rfl, Nat.le_refl _, fun _ _ => rfl⟩
      have hbd := hb.trans (hdw.mono hb.size)
      obtain ⟨A1, c1, B1, d1, e0, e1, e2, e3, e4, h1⟩ := (hget k hlt).below hbl hbd
      obtain ⟨A1q, c1q, B1q, d1q, e0q, e1q, e2q, e3q, e4q, h1q⟩ := (hget' k hlt).below hbl' hbd
      have hct := eqBinding_any (atRBinding rs k) (hf k hlt) wr.drew _ _ ⟨A1, c1, B1, d1, rfl, h1⟩ ⟨A1q, c1q, B1q, d1q, rfl, h1q⟩
      have i1 : (k : Int) < (rs.length : Int) := by omega
      have i3 : (0 : Int) ≤ (k : Int) := by omega
      have hw1 : b < wr.drew.heap.size := Nat.lt_of_lt_of_le hbl hbd.size
      have hw2 : b' < wr.drew.heap.size := Nat.lt_of_lt_of_le hbl' hbd.size
      have HLT := Lib.hid hlt
      generalize atRBinding rs k = r at *
      clear hget hget' hg hg' hf h1 h1q hbl hbl'
      go_wp2
      go_region_held3 (fun w' => w'.cell? ⟨b, off + k * 5, none⟩ = some (.int .i64 r.f0) ∧ w'.cell? ⟨b, off + k * 5 + 1, none⟩ = some (.int .i64 r.f1.op) ∧ w'.cell? ⟨b, off + k * 5 + 2, none⟩ = some (.int .i64 r.f1.num) ∧ w'.cell? ⟨b, off + k * 5 + 3, none⟩ = some (.slice A1 r.f1.perm.length c1) ∧ w'.cell? ⟨b, off + k * 5 + 4, none⟩ = some (.slice B1 r.f1.kids.length d1) ∧ w'.cell? ⟨b', off' + k * 5, none⟩ = some (.int .i64 r.f0) ∧ w'.cell? ⟨b', off' + k * 5 + 1, none⟩ = some (.int .i64 r.f1.op) ∧ w'.cell? ⟨b', off' + k * 5 + 2, none⟩ = some (.int .i64 r.f1.num) ∧ w'.cell? ⟨b', off' + k * 5 + 3, none⟩ = some (.slice A1q r.f1.perm.length c1q) ∧ w'.cell? ⟨b', off' + k * 5 + 4, none⟩ = some (.slice B1q r.f1.kids.length d1q))
        (first | (with_reducible exact ⟨by assumption, by assumption, by assumption, by assumption, by assumption, by assumption, by assumption, by assumption, by assumption, by assumption⟩) | ((try dsimp only); exact ⟨by assumption, by assumption, by assumption, by assumption, by assumption, by assumption, by assumption, by assumption, by assumption, by assumption⟩) | go_keep)
        (first
          | (go_at_call 83; refine hct.mono ?_; rintro e w2 ⟨rfl, hb2⟩; have n0 := (hb2.cell (p := ⟨b, off + k * 5, none⟩) hw1).trans e0; have n1 := (hb2.cell (p := ⟨b, off + k * 5 + 1, none⟩) hw1).trans e1; have n2 := (hb2.cell (p := ⟨b, off + k * 5 + 2, none⟩) hw1).trans e2; have n3 := (hb2.cell (p := ⟨b, off + k * 5 + 3, none⟩) hw1).trans e3; have n4 := (hb2.cell (p := ⟨b, off + k * 5 + 4, none⟩) hw1).trans e4; have n0q := (hb2.cell (p := ⟨b', off' + k * 5, none⟩) hw2).trans e0q; have n1q := (hb2.cell (p := ⟨b', off' + k * 5 + 1, none⟩) hw2).trans e1q; have n2q := (hb2.cell (p := ⟨b', off' + k * 5 + 2, none⟩) hw2).trans e2q; have n3q := (hb2.cell (p := ⟨b', off' + k * 5 + 3, none⟩) hw2).trans e3q; have n4q := (hb2.cell (p := ⟨b', off' + k * 5 + 4, none⟩) hw2).trans e4q)
          | fail)
      have hb3 := hbd.trans (hb2.mono hbd.size)
      clear hct hb2 hdw hb hbd hw1 hw2 e0 e0q n0 n0q e1 e1q n1 n1q e2 e2q n2 n2q e3 e3q n3 n3q e4 e4q n4 n4q
      go_wp2
      have hlt' := HLT.out
      refine ⟨⟨k + 1, by omega, by go_num, hb3⟩, ?_⟩
      simp only [intOf]
      omega
    · have e : k = rs.length := by omega
      subst e
      clear hg hg' hf
      go_wp2
      go_ret
      exact ⟨rfl, hb⟩
end Go.Proofs.Ytnomidnjglbedaa
