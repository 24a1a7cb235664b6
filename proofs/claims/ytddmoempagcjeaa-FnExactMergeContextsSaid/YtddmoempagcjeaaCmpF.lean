/-
  The comparison of two elements of contexts, in the program, as a contract.
-/
import Derived.Test.YtddmoempagcjeaaCmpP
namespace Go.Proofs.Ytddmoempagcjeaa
open Go.RowKit Go.Sort
set_option linter.unusedVariables false

def cmpF (x y : Int × Int) : Int := orZ (cmpI x.2 y.2) (cmpI x.1 y.1)

set_option maxRecDepth 100000 in
set_option maxHeartbeats 400000 in
theorem compareFresh_any (x y : Int × Int) (w : World) :
    Calls Try.prog 118 #[.agg #[.int .i64 x.1, .int .i64 x.2], .agg #[.int .i64 y.1, .int .i64 y.2]] w
      (CmpPost (cmpF x y) w) := by
  have h1 := fun W => compare_still x.2 y.2 W
  have h2 := fun W => compare_still x.1 y.1 W
  have h3 := fun g W h0 h1 => cmpOr_any g (cmpI x.2 y.2) (cmpI x.1 y.1) W h0 h1
  have hr : Hid (cmpF x y = orZ (cmpI x.2 y.2) (cmpI x.1 y.1)) := rfl
  generalize cmpI x.2 y.2 = a at h1 h3 hr
  generalize cmpI x.1 y.1 = b at h2 h3 hr
  go_enter Try.func118, Try.ntmps118
  go_wp2
  have hx0 : ((w.alloc (.cells #[.int .i64 x.1, .int .i64 x.2] 118)).alloc (.cells #[.int .i64 y.1, .int .i64 y.2] 118)).cell? ⟨w.heap.size, 0, none⟩ = some (.int .i64 x.1) := by simp
  have hx1 : ((w.alloc (.cells #[.int .i64 x.1, .int .i64 x.2] 118)).alloc (.cells #[.int .i64 y.1, .int .i64 y.2] 118)).cell? ⟨w.heap.size, 1, none⟩ = some (.int .i64 x.2) := by simp
  have hy0 : ((w.alloc (.cells #[.int .i64 x.1, .int .i64 x.2] 118)).alloc (.cells #[.int .i64 y.1, .int .i64 y.2] 118)).cell? ⟨w.heap.size + 1, 0, none⟩ = some (.int .i64 y.1) := by simp
  have hy1 : ((w.alloc (.cells #[.int .i64 x.1, .int .i64 x.2] 118)).alloc (.cells #[.int .i64 y.1, .int .i64 y.2] 118)).cell? ⟨w.heap.size + 1, 1, none⟩ = some (.int .i64 y.2) := by simp
  have hgr : Hid ((w.alloc (.cells #[.int .i64 x.1, .int .i64 x.2] 118)).alloc (.cells #[.int .i64 y.1, .int .i64 y.2] 118) = grow w #[.cells #[.int .i64 x.1, .int .i64 x.2] 118, .cells #[.int .i64 y.1, .int .i64 y.2] 118]) := by
    show (w.alloc (.cells #[.int .i64 x.1, .int .i64 x.2] 118)).alloc (.cells #[.int .i64 y.1, .int .i64 y.2] 118) = grow w #[.cells #[.int .i64 x.1, .int .i64 x.2] 118, .cells #[.int .i64 y.1, .int .i64 y.2] 118]
    rw [alloc_eq_grow, alloc_eq_grow, grow_grow]; rfl
  have hwd : ((w.alloc (.cells #[.int .i64 x.1, .int .i64 x.2] 118)).alloc (.cells #[.int .i64 y.1, .int .i64 y.2] 118)).heap.size = w.heap.size + 2 := by simp
  generalize (w.alloc (.cells #[.int .i64 x.1, .int .i64 x.2] 118)).alloc (.cells #[.int .i64 y.1, .int .i64 y.2] 118) = W2 at hx0 hx1 hy0 hy1 hgr hwd ⊢
  have HW := Lib.hid hwd
  clear hwd
  refine wp_region_still_tail 10 (by kernel_rfl) (by kernel_rfl) ?_
  simp only [List.take_succ_cons, List.take_zero, List.drop_succ_cons, List.drop_zero]
  have hgr2 : Hid (({ W2 with drawn := W2.drawn + 1 } : World) = grow (w.drewN 1) #[.cells #[.int .i64 x.1, .int .i64 x.2] 118, .cells #[.int .i64 y.1, .int .i64 y.2] 118]) := by
    show ({ W2 with drawn := W2.drawn + 1 } : World) = grow (w.drewN 1) #[.cells #[.int .i64 x.1, .int .i64 x.2] 118, .cells #[.int .i64 y.1, .int .i64 y.2] 118]
    rw [hgr.out]; rfl
  have kx0 : ({ W2 with drawn := W2.drawn + 1 } : World).cell? ⟨w.heap.size, 0, none⟩ = some (.int .i64 x.1) := hx0
  have kx1 : ({ W2 with drawn := W2.drawn + 1 } : World).cell? ⟨w.heap.size, 1, none⟩ = some (.int .i64 x.2) := hx1
  have ky0 : ({ W2 with drawn := W2.drawn + 1 } : World).cell? ⟨w.heap.size + 1, 0, none⟩ = some (.int .i64 y.1) := hy0
  have ky1 : ({ W2 with drawn := W2.drawn + 1 } : World).cell? ⟨w.heap.size + 1, 1, none⟩ = some (.int .i64 y.2) := hy1
  clear hgr HW hx0 hx1 hy0 hy1
  generalize ({ W2 with drawn := W2.drawn + 1 } : World) = W3 at kx0 kx1 ky0 ky1 hgr2 ⊢
  have h1' := h1 W3
  have h2' := h2 W3
  clear h1 h2
  still_step
  still_step
  still_step
  still_step
  still_call h1'
  iterate 4 still_step
  still_call h2'
  refine wpStill_nil ?_
  have hs0 : (W3.alloc (.cells #[.int .i64 a, .int .i64 b] 3)).cell? ⟨W3.heap.size, 0, none⟩ = some (.int .i64 a) := by simp
  have hs1 : (W3.alloc (.cells #[.int .i64 a, .int .i64 b] 3)).cell? ⟨W3.heap.size, 1, none⟩ = some (.int .i64 b) := by simp
  have h4 := h3 W3.heap.size _ hs0 hs1
  clear h1' h2' h3 kx0 kx1 ky0 ky1 hs0 hs1
  go_wp2_with fail
  refine h4.mono ?_
  rintro e w' ⟨rfl, rfl⟩
  clear h4
  go_wp2
  go_ret
  exact ⟨int_end hr.out.symm, 1, _, by rw [hgr2.out, alloc_eq_grow, grow_grow]⟩

end Go.Proofs.Ytddmoempagcjeaa
