/-
  The comparison of two pairs, in the program, as a contract. The comparison of two elements of contexts, in the program, as a contract.
-/
import Derived.Test.YtddmoempagcjeaaGreatOrder
import Derived.Test.YtddmoempagcjeaaGreatBase
import Derived.StillTailTactics
import Derived.OwnWalk
import Derived.Laws.Pointers
import Derived.Sort.Grow
namespace Go.Proofs.YtddmoempagcjeaaGreat
section
open Go.RowKit Go.Sort

def orZ (a b : Int) : Int := if a = 0 then b else a

set_option maxHeartbeats 1000000 in
theorem cmpOr_any (g : Nat) (a b : Int) (w : World) (c0 : w.cell? ⟨g, 0, none⟩ = some (.int .i64 a)) (c1 : w.cell? ⟨g, 1, none⟩ = some (.int .i64 b)) :
    Calls Tryz.prog 115 #[.slice (some ⟨g, 0, none⟩) 2 2] w fun e w' => e = .returned (.int .i64 (orZ a b)) ∧ w' = w := by
  go_enter Tryz.func115, Tryz.ntmps115
  go_wp2
  go_loop [8] (fun i => ∃ k : Nat, k ≤ 2 ∧ i = .int .i64 k ∧ (1 ≤ k → a = 0) ∧ (2 ≤ k → b = 0)) (fun i => 2 - (intOf i).toNat)
  case atStart => exact ⟨0, by omega, rfl, by omega, by omega⟩
  case round =>
    obtain ⟨k, hk, rfl, ha, hb⟩ := hrel
    have hk' : k = 0 ∨ k = 1 ∨ k = 2 := by omega
    rcases hk' with rfl | rfl | rfl
    · clear ha hb
      by_cases hz : a = 0
      · have t0 : (a != 0) = false := by simp [hz]
        have HZ := Lib.hid hz
        clear hz
        go_wp2
        go_round
        case rel => exact ⟨1, by omega, rfl, fun _ => HZ.out, by omega⟩
        case measure => simp [intOf]
      · have t0 : (a != 0) = true := by simp [hz]
        have hr : Hid (a = orZ a b) := by show a = orZ a b; unfold orZ; rw [if_neg hz]
        clear hz
        go_wp2
        go_ret
        exact ⟨int_end hr.out, rfl⟩
    · have HA := Lib.hid (ha (by omega))
      clear ha hb
      by_cases hz : b = 0
      · have t0 : (b != 0) = false := by simp [hz]
        have HZ := Lib.hid hz
        clear hz
        go_wp2
        go_round
        case rel => exact ⟨2, by omega, rfl, fun _ => HA.out, fun _ => HZ.out⟩
        case measure => simp [intOf]
      · have t0 : (b != 0) = true := by simp [hz]
        have hr : Hid (b = orZ a b) := by show b = orZ a b; unfold orZ; rw [if_pos HA.out]
        clear hz
        go_wp2
        go_ret
        exact ⟨int_end hr.out, rfl⟩
    · have hr : Hid ((0 : Int) = orZ a b) := by show (0 : Int) = orZ a b; unfold orZ; rw [if_pos (ha (by omega)), hb (by omega)]
      clear ha hb
      go_wp2
      go_ret
      exact ⟨int_end hr.out, rfl⟩

def cmpP (x y : Int × Int) : Int := orZ (cmpI x.1 y.1) (cmpI x.2 y.2)

theorem compare_still (a b : Int) (w : World) : Calls Tryz.prog 116 #[.int .i64 a, .int .i64 b] w fun e w' => e = .returned (.int .i64 (cmpI a b)) ∧ w' = w :=
  (compare_any a b w).mono fun _ _ ⟨he, hw⟩ => ⟨he, hw.symm⟩

/-- The answer, behind some draws and some new blocks. -/
def CmpPost (r : Int) (w : World) (e : Ending) (w' : World) : Prop := e = .returned (.int .i64 r) ∧ ∃ q os', w' = grow (w.drewN q) os'

end

section
open Go.RowKit Go.Sort
set_option linter.unusedVariables false

def cmpF (x y : Int × Int) : Int := orZ (cmpI x.2 y.2) (cmpI x.1 y.1)

set_option maxRecDepth 100000 in
set_option maxHeartbeats 400000 in
theorem compareFresh_any (x y : Int × Int) (w : World) :
    Calls Tryz.prog 83 #[.agg #[.int .i64 x.1, .int .i64 x.2], .agg #[.int .i64 y.1, .int .i64 y.2]] w
      (CmpPost (cmpF x y) w) := by
  have h1 := fun W => compare_still x.2 y.2 W
  have h2 := fun W => compare_still x.1 y.1 W
  have h3 := fun g W h0 h1 => cmpOr_any g (cmpI x.2 y.2) (cmpI x.1 y.1) W h0 h1
  have hr : Hid (cmpF x y = orZ (cmpI x.2 y.2) (cmpI x.1 y.1)) := rfl
  generalize cmpI x.2 y.2 = a at h1 h3 hr
  generalize cmpI x.1 y.1 = b at h2 h3 hr
  go_enter Tryz.func83, Tryz.ntmps83
  go_wp2
  have hx0 : ((w.alloc (.cells #[.int .i64 x.1, .int .i64 x.2] 55)).alloc (.cells #[.int .i64 y.1, .int .i64 y.2] 55)).cell? ⟨w.heap.size, 0, none⟩ = some (.int .i64 x.1) := by simp
  have hx1 : ((w.alloc (.cells #[.int .i64 x.1, .int .i64 x.2] 55)).alloc (.cells #[.int .i64 y.1, .int .i64 y.2] 55)).cell? ⟨w.heap.size, 1, none⟩ = some (.int .i64 x.2) := by simp
  have hy0 : ((w.alloc (.cells #[.int .i64 x.1, .int .i64 x.2] 55)).alloc (.cells #[.int .i64 y.1, .int .i64 y.2] 55)).cell? ⟨w.heap.size + 1, 0, none⟩ = some (.int .i64 y.1) := by simp
  have hy1 : ((w.alloc (.cells #[.int .i64 x.1, .int .i64 x.2] 55)).alloc (.cells #[.int .i64 y.1, .int .i64 y.2] 55)).cell? ⟨w.heap.size + 1, 1, none⟩ = some (.int .i64 y.2) := by simp
  have hgr : Hid ((w.alloc (.cells #[.int .i64 x.1, .int .i64 x.2] 55)).alloc (.cells #[.int .i64 y.1, .int .i64 y.2] 55) = grow w #[.cells #[.int .i64 x.1, .int .i64 x.2] 55, .cells #[.int .i64 y.1, .int .i64 y.2] 55]) := by
    show (w.alloc (.cells #[.int .i64 x.1, .int .i64 x.2] 55)).alloc (.cells #[.int .i64 y.1, .int .i64 y.2] 55) = grow w #[.cells #[.int .i64 x.1, .int .i64 x.2] 55, .cells #[.int .i64 y.1, .int .i64 y.2] 55]
    rw [alloc_eq_grow, alloc_eq_grow, grow_grow]; rfl
  have hwd : ((w.alloc (.cells #[.int .i64 x.1, .int .i64 x.2] 55)).alloc (.cells #[.int .i64 y.1, .int .i64 y.2] 55)).heap.size = w.heap.size + 2 := by simp
  generalize (w.alloc (.cells #[.int .i64 x.1, .int .i64 x.2] 55)).alloc (.cells #[.int .i64 y.1, .int .i64 y.2] 55) = W2 at hx0 hx1 hy0 hy1 hgr hwd ⊢
  have HW := Lib.hid hwd
  clear hwd
  refine wp_region_still_tail 10 (by kernel_rfl) (by kernel_rfl) ?_
  simp only [List.take_succ_cons, List.take_zero, List.drop_succ_cons, List.drop_zero]
  have hgr2 : Hid (({ W2 with drawn := W2.drawn + 1 } : World) = grow (w.drewN 1) #[.cells #[.int .i64 x.1, .int .i64 x.2] 55, .cells #[.int .i64 y.1, .int .i64 y.2] 55]) := by
    show ({ W2 with drawn := W2.drawn + 1 } : World) = grow (w.drewN 1) #[.cells #[.int .i64 x.1, .int .i64 x.2] 55, .cells #[.int .i64 y.1, .int .i64 y.2] 55]
    rw [hgr.out]; rfl
  have kx0 : ({ W2 with drawn := W2.drawn + 1 } : World).cell? ⟨w.heap.size, 0, none⟩ = some (.int .i64 x.1) := hx0
  have kx1 : ({ W2 with drawn := W2.drawn + 1 } : World).cell? ⟨w.heap.size, 1, none⟩ = some (.int .i64 x.2) := hx1
  have ky0 : ({ W2 with drawn := W2.drawn + 1 } : World).cell? ⟨w.heap.size + 1, 0, none⟩ = some (.int .i64 y.1) := hy0
  have ky1 : ({ W2 with drawn := W2.drawn + 1 } : World).cell? ⟨w.heap.size + 1, 1, none⟩ = some (.int .i64 y.2) := hy1
  clear hgr HW hx0 hx1 hy0 hy1
  generalize ({ W2 with drawn := W2.drawn + 1 } : World) = W3 at kx0 kx1 ky0 ky1 hgr2 ⊢
  have h1' := h1 W3
  have h2' := h2 W3
  clear h1 h2
  still_step
  still_step
  still_step
  still_step
  still_call h1'
  iterate 4 still_step
  still_call h2'
  refine wpStill_nil ?_
  have hs0 : (W3.alloc (.cells #[.int .i64 a, .int .i64 b] 3)).cell? ⟨W3.heap.size, 0, none⟩ = some (.int .i64 a) := by simp
  have hs1 : (W3.alloc (.cells #[.int .i64 a, .int .i64 b] 3)).cell? ⟨W3.heap.size, 1, none⟩ = some (.int .i64 b) := by simp
  have h4 := h3 W3.heap.size _ hs0 hs1
  clear h1' h2' h3 kx0 kx1 ky0 ky1 hs0 hs1
  go_wp2_with fail
  refine h4.mono ?_
  rintro e w' ⟨rfl, rfl⟩
  clear h4
  go_wp2
  go_ret
  exact ⟨int_end hr.out.symm, 1, _, by rw [hgr2.out, alloc_eq_grow, grow_grow]⟩
end
end Go.Proofs.YtddmoempagcjeaaGreat
