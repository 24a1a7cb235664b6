/-
  Index terms raised and filled, in the model, as contracts. Steps by indices in the model, as contracts.
-/
import Derived.Test.YtihijigbdpjcoaaKStepIndices16
import Derived.Test.YtihijigbdpjcoaaKStepIndices14
section
namespace Go.Proofs.Ytihijigbdpjcoaa
open Go.RowKit Go.Sort
set_option linter.unusedVariables false

set_option maxRecDepth 100000 in
set_option maxHeartbeats 2000000 in
theorem l8Add_keep (q : Int) (n a : Int) (B : Option Addr) (d : Nat) (w : World) (h : n < a) :
    Calls Try.prog 89 #[.agg #[.int .i64 1, .int .i64 n, .slice B 0 d], .int .i64 q, .int .i64 a] w (IxOut (.mk 1 (n) []) w) := by
  have hb0 : Below w.heap.size w (((w.alloc (.cells #[.int .i64 1, .int .i64 n, .slice B 0 d] 42)).alloc (.cells #[.int .i64 0, .int .i64 0, .slice none 0 0] 42)).alloc (.cells #[.int .i64 1, .int .i64 (n), .slice none 0 0] 42)) := ((((Below.refl _ _).alloc (Nat.le_refl _) _)).alloc (by first | (simp; done) | (simp; omega)) _).alloc (by first | (simp; done) | (simp; omega)) _
  have hr1' : (((w.alloc (.cells #[.int .i64 1, .int .i64 n, .slice B 0 d] 42)).alloc (.cells #[.int .i64 0, .int .i64 0, .slice none 0 0] 42)).alloc (.cells #[.int .i64 1, .int .i64 (n), .slice none 0 0] 42)).heap[w.heap.size + 1]? = some (.cells #[.int .i64 0, .int .i64 0, .slice none 0 0] 42 (0, 0)) := (Below.heap_alloc ((w.alloc (.cells #[.int .i64 1, .int .i64 n, .slice B 0 d] 42)).alloc (.cells #[.int .i64 0, .int .i64 0, .slice none 0 0] 42)) _ _ (by simp)).trans (by
    have h := heap_alloc_new (w.alloc (.cells #[.int .i64 1, .int .i64 n, .slice B 0 d] 42)) (.cells #[.int .i64 0, .int .i64 0, .slice none 0 0] 42)
    simp only [World.size_alloc] at h
    exact h)
  have hr2' : (((w.alloc (.cells #[.int .i64 1, .int .i64 n, .slice B 0 d] 42)).alloc (.cells #[.int .i64 0, .int .i64 0, .slice none 0 0] 42)).alloc (.cells #[.int .i64 1, .int .i64 (n), .slice none 0 0] 42)).heap[w.heap.size + 1 + 1]? = some (.cells #[.int .i64 1, .int .i64 (n), .slice none 0 0] 42 (0, 0)) := by
    have h := heap_alloc_new ((w.alloc (.cells #[.int .i64 1, .int .i64 n, .slice B 0 d] 42)).alloc (.cells #[.int .i64 0, .int .i64 0, .slice none 0 0] 42)) (.cells #[.int .i64 1, .int .i64 (n), .slice none 0 0] 42)
    simp only [World.size_alloc] at h
    exact h
  have k1 : decide (a ≤ n) = false := decide_eq_false (by omega)
  have k3 : ¬ n ≥ a := by omega
  have HST := Lib.hid (And.intro hr2' (And.intro hr1' hb0))
  clear hr1' hr2' hb0
  go_enter Try.func89, Try.ntmps89
  go_wp2
  go_loopw [37] (fun i wr => i = .int .i64 0 ∧ wr.heap[w.heap.size + 1 + 1]? = some (.cells #[.int .i64 1, .int .i64 (n), .slice none 0 0] 42 (0, 0)) ∧ wr.heap[w.heap.size + 1]? = some (.cells #[.int .i64 0, .int .i64 0, .slice none 0 0] 42 (0, 0)) ∧ Below w.heap.size w wr) (fun _ _ => 0)
  case atStart => exact ⟨rfl, HST.out⟩
  case round =>
    clear HST
    obtain ⟨rfl, hr2, hr1, hb1⟩ := hrel
    have hbel := set3_below hb1 (show w.heap.size ≤ w.heap.size + 1 by omega) (.int .i64 1) (.int .i64 (n)) (.slice none 0 0)
    have hpost : IxOut (.mk 1 (n) []) w (.returned (.agg #[.int .i64 1, .int .i64 (n), .slice none 0 0])) _ := ⟨none, 0, _, rfl, ownL_leafI 1 (n), fun b hb => by simp at hb, hbel⟩
    obtain ⟨r0, r1, r2⟩ := IxK.row3 hr1
    obtain ⟨m0, m1, m2⟩ := IxK.row3 hr2
    have z0 := frozen_of_row _ _ 0 _ _ hr1
    have z1 := frozen_of_row _ _ 1 _ _ hr1
    have z2 := frozen_of_row _ _ 2 _ _ hr1
    clear hbel hr1 hr2 hb1
    go_wp2
    exact bodyPost_ret (v := .agg #[.int .i64 1, .int .i64 (n), .slice none 0 0]) (by simp [results, Try.results89, go_sem, r0, r1, r2]) rfl hpost

set_option maxRecDepth 100000 in
set_option maxHeartbeats 2000000 in
theorem l8Add_more (q : Int) (n a : Int) (B : Option Addr) (d : Nat) (w : World) (h : a ≤ n) (hn : 0 ≤ n) (hn2 : n ≤ 1099511627776) (hq : 0 ≤ q) (hq2 : q ≤ 1099511627776) :
    Calls Try.prog 89 #[.agg #[.int .i64 1, .int .i64 n, .slice B 0 d], .int .i64 q, .int .i64 a] w (IxOut (.mk 1 (n + q) []) w) := by
  have hb0 : Below w.heap.size w (((w.alloc (.cells #[.int .i64 1, .int .i64 n, .slice B 0 d] 42)).alloc (.cells #[.int .i64 0, .int .i64 0, .slice none 0 0] 42)).alloc (.cells #[.int .i64 1, .int .i64 (n + q), .slice none 0 0] 42)) := ((((Below.refl _ _).alloc (Nat.le_refl _) _)).alloc (by first | (simp; done) | (simp; omega)) _).alloc (by first | (simp; done) | (simp; omega)) _
  have hr1' : (((w.alloc (.cells #[.int .i64 1, .int .i64 n, .slice B 0 d] 42)).alloc (.cells #[.int .i64 0, .int .i64 0, .slice none 0 0] 42)).alloc (.cells #[.int .i64 1, .int .i64 (n + q), .slice none 0 0] 42)).heap[w.heap.size + 1]? = some (.cells #[.int .i64 0, .int .i64 0, .slice none 0 0] 42 (0, 0)) := (Below.heap_alloc ((w.alloc (.cells #[.int .i64 1, .int .i64 n, .slice B 0 d] 42)).alloc (.cells #[.int .i64 0, .int .i64 0, .slice none 0 0] 42)) _ _ (by simp)).trans (by
    have h := heap_alloc_new (w.alloc (.cells #[.int .i64 1, .int .i64 n, .slice B 0 d] 42)) (.cells #[.int .i64 0, .int .i64 0, .slice none 0 0] 42)
    simp only [World.size_alloc] at h
    exact h)
  have hr2' : (((w.alloc (.cells #[.int .i64 1, .int .i64 n, .slice B 0 d] 42)).alloc (.cells #[.int .i64 0, .int .i64 0, .slice none 0 0] 42)).alloc (.cells #[.int .i64 1, .int .i64 (n + q), .slice none 0 0] 42)).heap[w.heap.size + 1 + 1]? = some (.cells #[.int .i64 1, .int .i64 (n + q), .slice none 0 0] 42 (0, 0)) := by
    have h := heap_alloc_new ((w.alloc (.cells #[.int .i64 1, .int .i64 n, .slice B 0 d] 42)).alloc (.cells #[.int .i64 0, .int .i64 0, .slice none 0 0] 42)) (.cells #[.int .i64 1, .int .i64 (n + q), .slice none 0 0] 42)
    simp only [World.size_alloc] at h
    exact h
  have HST := Lib.hid (And.intro hr2' (And.intro hr1' hb0))
  clear hr1' hr2' hb0
  go_enter Try.func89, Try.ntmps89
  go_wp2
  go_loopw [37] (fun i wr => i = .int .i64 0 ∧ wr.heap[w.heap.size + 1 + 1]? = some (.cells #[.int .i64 1, .int .i64 (n + q), .slice none 0 0] 42 (0, 0)) ∧ wr.heap[w.heap.size + 1]? = some (.cells #[.int .i64 0, .int .i64 0, .slice none 0 0] 42 (0, 0)) ∧ Below w.heap.size w wr) (fun _ _ => 0)
  case atStart => exact ⟨rfl, HST.out⟩
  case round =>
    clear HST
    obtain ⟨rfl, hr2, hr1, hb1⟩ := hrel
    have hbel := set3_below hb1 (show w.heap.size ≤ w.heap.size + 1 by omega) (.int .i64 1) (.int .i64 (n + q)) (.slice none 0 0)
    have hpost : IxOut (.mk 1 (n + q) []) w (.returned (.agg #[.int .i64 1, .int .i64 (n + q), .slice none 0 0])) _ := ⟨none, 0, _, rfl, ownL_leafI 1 (n + q), fun b hb => by simp at hb, hbel⟩
    obtain ⟨r0, r1, r2⟩ := IxK.row3 hr1
    obtain ⟨m0, m1, m2⟩ := IxK.row3 hr2
    have z0 := frozen_of_row _ _ 0 _ _ hr1
    have z1 := frozen_of_row _ _ 1 _ _ hr1
    have z2 := frozen_of_row _ _ 2 _ _ hr1
    clear hbel hr1 hr2 hb1
    go_wp2
    exact bodyPost_ret (v := .agg #[.int .i64 1, .int .i64 (n + q), .slice none 0 0]) (by simp [results, Try.results89, go_sem, r0, r1, r2]) rfl hpost

set_option maxRecDepth 100000 in
set_option maxHeartbeats 2000000 in
theorem l8Fill_keep (f : Ix) (Bf : Option Addr) (df : Nat) (n a : Int) (B : Option Addr) (d : Nat) (w : World) (h : n < a) :
    Calls Try.prog 88 #[.agg #[.int .i64 1, .int .i64 n, .slice B 0 d], .agg #[.int .i64 f.op, .int .i64 f.num, .slice Bf f.kids.length df], .int .i64 a] w (IxOut (.mk 1 (n) []) w) := by
  have hb0 : Below w.heap.size w ((((w.alloc (.cells #[.int .i64 1, .int .i64 n, .slice B 0 d] 42)).alloc (.cells #[.int .i64 f.op, .int .i64 f.num, .slice Bf f.kids.length df] 42)).alloc (.cells #[.int .i64 0, .int .i64 0, .slice none 0 0] 42)).alloc (.cells #[.int .i64 1, .int .i64 (n), .slice none 0 0] 42)) := (((((Below.refl _ _).alloc (Nat.le_refl _) _)).alloc (by first | (simp; done) | (simp; omega)) _).alloc (by first | (simp; done) | (simp; omega)) _).alloc (by first | (simp; done) | (simp; omega)) _
  have hr1' : ((((w.alloc (.cells #[.int .i64 1, .int .i64 n, .slice B 0 d] 42)).alloc (.cells #[.int .i64 f.op, .int .i64 f.num, .slice Bf f.kids.length df] 42)).alloc (.cells #[.int .i64 0, .int .i64 0, .slice none 0 0] 42)).alloc (.cells #[.int .i64 1, .int .i64 (n), .slice none 0 0] 42)).heap[w.heap.size + 1 + 1]? = some (.cells #[.int .i64 0, .int .i64 0, .slice none 0 0] 42 (0, 0)) := (Below.heap_alloc (((w.alloc (.cells #[.int .i64 1, .int .i64 n, .slice B 0 d] 42)).alloc (.cells #[.int .i64 f.op, .int .i64 f.num, .slice Bf f.kids.length df] 42)).alloc (.cells #[.int .i64 0, .int .i64 0, .slice none 0 0] 42)) _ _ (by simp)).trans (by
    have h := heap_alloc_new ((w.alloc (.cells #[.int .i64 1, .int .i64 n, .slice B 0 d] 42)).alloc (.cells #[.int .i64 f.op, .int .i64 f.num, .slice Bf f.kids.length df] 42)) (.cells #[.int .i64 0, .int .i64 0, .slice none 0 0] 42)
    simp only [World.size_alloc] at h
    exact h)
  have hr2' : ((((w.alloc (.cells #[.int .i64 1, .int .i64 n, .slice B 0 d] 42)).alloc (.cells #[.int .i64 f.op, .int .i64 f.num, .slice Bf f.kids.length df] 42)).alloc (.cells #[.int .i64 0, .int .i64 0, .slice none 0 0] 42)).alloc (.cells #[.int .i64 1, .int .i64 (n), .slice none 0 0] 42)).heap[w.heap.size + 1 + 1 + 1]? = some (.cells #[.int .i64 1, .int .i64 (n), .slice none 0 0] 42 (0, 0)) := by
    have h := heap_alloc_new (((w.alloc (.cells #[.int .i64 1, .int .i64 n, .slice B 0 d] 42)).alloc (.cells #[.int .i64 f.op, .int .i64 f.num, .slice Bf f.kids.length df] 42)).alloc (.cells #[.int .i64 0, .int .i64 0, .slice none 0 0] 42)) (.cells #[.int .i64 1, .int .i64 (n), .slice none 0 0] 42)
    simp only [World.size_alloc] at h
    exact h
  have t1 : (n == a) = false := by simp; omega
  have k1 : decide (a < n) = false := decide_eq_false (by omega)
  have k3 : ¬ n > a := by omega
  have HST := Lib.hid (And.intro hr2' (And.intro hr1' hb0))
  clear hr1' hr2' hb0
  go_enter Try.func88, Try.ntmps88
  go_wp2
  go_loopw [48] (fun i wr => i = .int .i64 0 ∧ wr.heap[w.heap.size + 1 + 1 + 1]? = some (.cells #[.int .i64 1, .int .i64 (n), .slice none 0 0] 42 (0, 0)) ∧ wr.heap[w.heap.size + 1 + 1]? = some (.cells #[.int .i64 0, .int .i64 0, .slice none 0 0] 42 (0, 0)) ∧ Below w.heap.size w wr) (fun _ _ => 0)
  case atStart => exact ⟨rfl, HST.out⟩
  case round =>
    clear HST
    obtain ⟨rfl, hr2, hr1, hb1⟩ := hrel
    have hbel := set3_below hb1 (show w.heap.size ≤ w.heap.size + 1 + 1 by omega) (.int .i64 1) (.int .i64 (n)) (.slice none 0 0)
    have hpost : IxOut (.mk 1 (n) []) w (.returned (.agg #[.int .i64 1, .int .i64 (n), .slice none 0 0])) _ := ⟨none, 0, _, rfl, ownL_leafI 1 (n), fun b hb => by simp at hb, hbel⟩
    obtain ⟨r0, r1, r2⟩ := IxK.row3 hr1
    obtain ⟨m0, m1, m2⟩ := IxK.row3 hr2
    have z0 := frozen_of_row _ _ 0 _ _ hr1
    have z1 := frozen_of_row _ _ 1 _ _ hr1
    have z2 := frozen_of_row _ _ 2 _ _ hr1
    clear hbel hr1 hr2 hb1
    go_wp2
    exact bodyPost_ret (v := .agg #[.int .i64 1, .int .i64 (n), .slice none 0 0]) (by simp [results, Try.results88, go_sem, r0, r1, r2]) rfl hpost

set_option maxRecDepth 100000 in
set_option maxHeartbeats 2000000 in
theorem l8Fill_less (f : Ix) (Bf : Option Addr) (df : Nat) (n a : Int) (B : Option Addr) (d : Nat) (w : World) (h : a < n) (hn : 0 ≤ a) (hn2 : n ≤ 1099511627776) :
    Calls Try.prog 88 #[.agg #[.int .i64 1, .int .i64 n, .slice B 0 d], .agg #[.int .i64 f.op, .int .i64 f.num, .slice Bf f.kids.length df], .int .i64 a] w (IxOut (.mk 1 (n - 1) []) w) := by
  have hb0 : Below w.heap.size w ((((w.alloc (.cells #[.int .i64 1, .int .i64 n, .slice B 0 d] 42)).alloc (.cells #[.int .i64 f.op, .int .i64 f.num, .slice Bf f.kids.length df] 42)).alloc (.cells #[.int .i64 0, .int .i64 0, .slice none 0 0] 42)).alloc (.cells #[.int .i64 1, .int .i64 (n - 1), .slice none 0 0] 42)) := (((((Below.refl _ _).alloc (Nat.le_refl _) _)).alloc (by first | (simp; done) | (simp; omega)) _).alloc (by first | (simp; done) | (simp; omega)) _).alloc (by first | (simp; done) | (simp; omega)) _
  have hr1' : ((((w.alloc (.cells #[.int .i64 1, .int .i64 n, .slice B 0 d] 42)).alloc (.cells #[.int .i64 f.op, .int .i64 f.num, .slice Bf f.kids.length df] 42)).alloc (.cells #[.int .i64 0, .int .i64 0, .slice none 0 0] 42)).alloc (.cells #[.int .i64 1, .int .i64 (n - 1), .slice none 0 0] 42)).heap[w.heap.size + 1 + 1]? = some (.cells #[.int .i64 0, .int .i64 0, .slice none 0 0] 42 (0, 0)) := (Below.heap_alloc (((w.alloc (.cells #[.int .i64 1, .int .i64 n, .slice B 0 d] 42)).alloc (.cells #[.int .i64 f.op, .int .i64 f.num, .slice Bf f.kids.length df] 42)).alloc (.cells #[.int .i64 0, .int .i64 0, .slice none 0 0] 42)) _ _ (by simp)).trans (by
    have h := heap_alloc_new ((w.alloc (.cells #[.int .i64 1, .int .i64 n, .slice B 0 d] 42)).alloc (.cells #[.int .i64 f.op, .int .i64 f.num, .slice Bf f.kids.length df] 42)) (.cells #[.int .i64 0, .int .i64 0, .slice none 0 0] 42)
    simp only [World.size_alloc] at h
    exact h)
  have hr2' : ((((w.alloc (.cells #[.int .i64 1, .int .i64 n, .slice B 0 d] 42)).alloc (.cells #[.int .i64 f.op, .int .i64 f.num, .slice Bf f.kids.length df] 42)).alloc (.cells #[.int .i64 0, .int .i64 0, .slice none 0 0] 42)).alloc (.cells #[.int .i64 1, .int .i64 (n - 1), .slice none 0 0] 42)).heap[w.heap.size + 1 + 1 + 1]? = some (.cells #[.int .i64 1, .int .i64 (n - 1), .slice none 0 0] 42 (0, 0)) := by
    have h := heap_alloc_new (((w.alloc (.cells #[.int .i64 1, .int .i64 n, .slice B 0 d] 42)).alloc (.cells #[.int .i64 f.op, .int .i64 f.num, .slice Bf f.kids.length df] 42)).alloc (.cells #[.int .i64 0, .int .i64 0, .slice none 0 0] 42)) (.cells #[.int .i64 1, .int .i64 (n - 1), .slice none 0 0] 42)
    simp only [World.size_alloc] at h
    exact h
  have t1 : (n == a) = false := by simp; omega
  have HST := Lib.hid (And.intro hr2' (And.intro hr1' hb0))
  clear hr1' hr2' hb0
  go_enter Try.func88, Try.ntmps88
  go_wp2
  go_loopw [48] (fun i wr => i = .int .i64 0 ∧ wr.heap[w.heap.size + 1 + 1 + 1]? = some (.cells #[.int .i64 1, .int .i64 (n - 1), .slice none 0 0] 42 (0, 0)) ∧ wr.heap[w.heap.size + 1 + 1]? = some (.cells #[.int .i64 0, .int .i64 0, .slice none 0 0] 42 (0, 0)) ∧ Below w.heap.size w wr) (fun _ _ => 0)
  case atStart => exact ⟨rfl, HST.out⟩
  case round =>
    clear HST
    obtain ⟨rfl, hr2, hr1, hb1⟩ := hrel
    have hbel := set3_below hb1 (show w.heap.size ≤ w.heap.size + 1 + 1 by omega) (.int .i64 1) (.int .i64 (n - 1)) (.slice none 0 0)
    have hpost : IxOut (.mk 1 (n - 1) []) w (.returned (.agg #[.int .i64 1, .int .i64 (n - 1), .slice none 0 0])) _ := ⟨none, 0, _, rfl, ownL_leafI 1 (n - 1), fun b hb => by simp at hb, hbel⟩
    obtain ⟨r0, r1, r2⟩ := IxK.row3 hr1
    obtain ⟨m0, m1, m2⟩ := IxK.row3 hr2
    have z0 := frozen_of_row _ _ 0 _ _ hr1
    have z1 := frozen_of_row _ _ 1 _ _ hr1
    have z2 := frozen_of_row _ _ 2 _ _ hr1
    clear hbel hr1 hr2 hb1
    go_wp2
    exact bodyPost_ret (v := .agg #[.int .i64 1, .int .i64 (n - 1), .slice none 0 0]) (by simp [results, Try.results88, go_sem, r0, r1, r2]) rfl hpost

set_option maxRecDepth 100000 in
set_option maxHeartbeats 2000000 in
theorem l8Fill_here (f : Ix) (Bf : Option Addr) (df : Nat) (r : Ix) (n : Int) (B : Option Addr) (d : Nat) (w : World) (hf : IxsIn w (.slice Bf f.kids.length df) f.kids)
    (hc : ∀ (w' : World) (y : Value), IxIn w' y f → Calls Try.prog 89 #[y, .int .i64 n, .int .i64 0] w' (IxOut r w')) :
    Calls Try.prog 88 #[.agg #[.int .i64 1, .int .i64 n, .slice B 0 d], .agg #[.int .i64 f.op, .int .i64 f.num, .slice Bf f.kids.length df], .int .i64 n] w (IxOut r w) := by
  have hb0 : Below w.heap.size w (((w.alloc (.cells #[.int .i64 1, .int .i64 n, .slice B 0 d] 42)).alloc (.cells #[.int .i64 f.op, .int .i64 f.num, .slice Bf f.kids.length df] 42)).alloc (.cells #[.int .i64 0, .int .i64 0, .slice none 0 0] 42)) := (((Below.refl _ _).alloc (Nat.le_refl _) _).alloc (by first | (simp; done) | (simp; omega)) _).alloc (by first | (simp; done) | (simp; omega)) _
  have hr1 : (((w.alloc (.cells #[.int .i64 1, .int .i64 n, .slice B 0 d] 42)).alloc (.cells #[.int .i64 f.op, .int .i64 f.num, .slice Bf f.kids.length df] 42)).alloc (.cells #[.int .i64 0, .int .i64 0, .slice none 0 0] 42)).heap[w.heap.size + 1 + 1]? = some (.cells #[.int .i64 0, .int .i64 0, .slice none 0 0] 42 (0, 0)) := by
    have h := heap_alloc_new ((w.alloc (.cells #[.int .i64 1, .int .i64 n, .slice B 0 d] 42)).alloc (.cells #[.int .i64 f.op, .int .i64 f.num, .slice Bf f.kids.length df] 42)) (.cells #[.int .i64 0, .int .i64 0, .slice none 0 0] 42)
    simp only [World.size_alloc] at h
    exact h
  have hsz : (((w.alloc (.cells #[.int .i64 1, .int .i64 n, .slice B 0 d] 42)).alloc (.cells #[.int .i64 f.op, .int .i64 f.num, .slice Bf f.kids.length df] 42)).alloc (.cells #[.int .i64 0, .int .i64 0, .slice none 0 0] 42)).heap.size = w.heap.size + 3 := by simp
  have HSZ := Lib.hid hsz
  have hct := hc (((w.alloc (.cells #[.int .i64 1, .int .i64 n, .slice B 0 d] 42)).alloc (.cells #[.int .i64 f.op, .int .i64 f.num, .slice Bf f.kids.length df] 42)).alloc (.cells #[.int .i64 0, .int .i64 0, .slice none 0 0] 42)) _ (⟨Bf, df, rfl, hf.below hb0⟩ : IxIn (((w.alloc (.cells #[.int .i64 1, .int .i64 n, .slice B 0 d] 42)).alloc (.cells #[.int .i64 f.op, .int .i64 f.num, .slice Bf f.kids.length df] 42)).alloc (.cells #[.int .i64 0, .int .i64 0, .slice none 0 0] 42)) (.agg #[.int .i64 f.op, .int .i64 f.num, .slice Bf f.kids.length df]) f)
  have HR := Lib.hid hr1
  clear hc hsz hr1 hf
  go_enter Try.func88, Try.ntmps88
  go_wp2_with fail
  refine hct.mono ?_
  rintro e w2 ⟨A9, c9, S9, rfl, hS9, hS9b, hb2⟩
  have hr2 := (hb2.block (w.heap.size + 1 + 1) (by rw [HSZ.out]; omega)).trans HR.out
  obtain ⟨r0, r1, r2⟩ := IxK.row3 hr2
  have z0 := frozen_of_row _ _ 0 _ _ hr2
  have z1 := frozen_of_row _ _ 1 _ _ hr2
  have z2 := frozen_of_row _ _ 2 _ _ hr2
  have hSb : ∀ b ∈ S9, w.heap.size + 3 ≤ b := fun b hb => by have h3 := hS9b b hb; have h4 := HSZ.out; omega
  have hL := set3_own hS9 (R := w.heap.size + 1 + 1) (fun b hb => by have := hSb b hb; omega) (.int .i64 r.op) (.int .i64 r.num) (.slice A9 r.kids.length c9)
  have hbel := set3_below (hb0.trans (hb2.mono hb0.size)) (show w.heap.size ≤ w.heap.size + 1 + 1 by omega) (.int .i64 r.op) (.int .i64 r.num) (.slice A9 r.kids.length c9)
  have hpost : IxOut r w (.returned (.agg #[.int .i64 r.op, .int .i64 r.num, .slice A9 r.kids.length c9])) _ := ⟨A9, c9, S9, rfl, hL, fun b hb => by have := hSb b hb; omega, hbel⟩
  clear hct hS9 hS9b hSb hL hbel hb2 hr2 HR HSZ hb0
  go_wp2
  exact bodyPost_ret (v := .agg #[.int .i64 r.op, .int .i64 r.num, .slice A9 r.kids.length c9]) (by simp [results, Try.results88, go_sem, r0, r1, r2]) rfl hpost

theorem l8Add_any : ∀ (l : Li) (q a : Int) (w : World) (x : Value), IxIn w x (liIx l) → okL l → 0 ≤ q → q ≤ 1099511627776 → 0 ≤ a → a + szL l ≤ 1099511627776 → Calls Try.prog 89 #[x, .int .i64 q, .int .i64 a] w (IxOut (liIx (raiseL l q a)) w)
  | .bnd n, q, a, w, x, hx, ho, h0, h1, h2, h3 => by
    obtain ⟨B, d, rfl, hk⟩ := hx
    rw [raiseL]
    by_cases h : n < a
    · rw [if_pos h]; exact l8Add_keep q n a B d w h
    · rw [if_neg h]; exact l8Add_more q n a B d w (by omega) ho.1 (by have := ho.2; omega) h0 h1
  | .free n, q, a, w, x, hx, ho, h0, h1, h2, h3 => by
    obtain ⟨B, d, rfl, hk⟩ := hx
    exact l8Add_loop q n 2 a a B d [] [] w rfl (by simp) hk rfl ⟨false, rfl, rfl⟩ h2 (by omega) (fun i hi => by simp at hi)
  | .fn y, q, a, w, x, hx, ho, h0, h1, h2, h3 => by
    obtain ⟨B, d, rfl, hk⟩ := hx
    rw [szL] at h3
    exact l8Add_loop q 0 3 a (a + 1) B d [liIx y] [liIx (raiseL y q (a + 1))] w rfl (by simp) hk rfl ⟨true, rfl, rfl⟩ h2 (by omega) (fun i hi w' z hw hz => by
      have e : i = 0 := by simp at hi; omega
      subst e
      exact l8Add_any y q (a + 1) w' z hz ho h0 h1 (by omega) (by omega))
  | .app y z, q, a, w, x, hx, ho, h0, h1, h2, h3 => by
    obtain ⟨B, d, rfl, hk⟩ := hx
    rw [szL] at h3
    exact l8Add_loop q 0 4 a a B d [liIx y, liIx z] [liIx (raiseL y q a), liIx (raiseL z q a)] w rfl (by simp) hk rfl ⟨false, rfl, rfl⟩ h2 (by omega) (fun i hi w' u hw hu => by
      have e : i = 0 ∨ i = 1 := by simp at hi; omega
      rcases e with rfl | rfl
      · exact l8Add_any y q a w' u hu ho.1 h0 h1 h2 (by omega)
      · exact l8Add_any z q a w' u hu ho.2 h0 h1 h2 (by omega))

theorem l8Fill_any (u : Li) (hu : okL u) (hs : szL u ≤ 1048576) : ∀ (l : Li) (a : Int) (w : World) (x y : Value), IxIn w x (liIx l) → IxIn w y (liIx u) → okL l → 0 ≤ a → a + szL l ≤ 1099511627776 → Calls Try.prog 88 #[x, y, .int .i64 a] w (IxOut (liIx (fillL l a u)) w)
  | .bnd n, a, w, x, y, hx, hy, ho, h2, h3 => by
    obtain ⟨B, d, rfl, hk⟩ := hx
    obtain ⟨Bf, df, rfl, hf⟩ := hy
    rw [fillL]
    by_cases h : n = a
    · rw [if_pos h]
      subst h
      exact l8Fill_here (liIx u) Bf df _ n B d w hf (fun w' y hy => l8Add_any u n 0 w' y hy hu h2 (by omega) (by omega) (by omega))
    · rw [if_neg h]
      by_cases h4 : a < n
      · rw [if_pos h4]; exact l8Fill_less (liIx u) Bf df n a B d w h4 h2 (by have := ho.2; omega)
      · rw [if_neg h4]; exact l8Fill_keep (liIx u) Bf df n a B d w (by omega)
  | .free n, a, w, x, y, hx, hy, ho, h2, h3 => by
    obtain ⟨B, d, rfl, hk⟩ := hx
    obtain ⟨Bf, df, rfl, hf⟩ := hy
    exact l8Fill_loop (liIx u) Bf df n 2 a a B d [] [] w rfl (by simp) hk rfl ⟨false, rfl, rfl⟩ h2 (by omega) (fun i hi => by simp at hi)
  | .fn z, a, w, x, y, hx, hy, ho, h2, h3 => by
    obtain ⟨B, d, rfl, hk⟩ := hx
    obtain ⟨Bf, df, rfl, hf⟩ := hy
    rw [szL] at h3
    exact l8Fill_loop (liIx u) Bf df 0 3 a (a + 1) B d [liIx z] [liIx (fillL z (a + 1) u)] w rfl (by simp) hk rfl ⟨true, rfl, rfl⟩ h2 (by omega) (fun i hi w' v hw hv => by
      have e : i = 0 := by simp at hi; omega
      subst e
      exact l8Fill_any u hu hs z (a + 1) w' v _ hv ⟨Bf, df, rfl, hf.below hw⟩ ho (by omega) (by omega))
  | .app z z2, a, w, x, y, hx, hy, ho, h2, h3 => by
    obtain ⟨B, d, rfl, hk⟩ := hx
    obtain ⟨Bf, df, rfl, hf⟩ := hy
    rw [szL] at h3
    exact l8Fill_loop (liIx u) Bf df 0 4 a a B d [liIx z, liIx z2] [liIx (fillL z a u), liIx (fillL z2 a u)] w rfl (by simp) hk rfl ⟨false, rfl, rfl⟩ h2 (by omega) (fun i hi w' v hw hv => by
      have e : i = 0 ∨ i = 1 := by simp at hi; omega
      rcases e with rfl | rfl
      · exact l8Fill_any u hu hs z a w' v _ hv ⟨Bf, df, rfl, hf.below hw⟩ ho.1 h2 (by omega)
      · exact l8Fill_any u hu hs z2 a w' v _ hv ⟨Bf, df, rfl, hf.below hw⟩ ho.2 h2 (by omega))
end Go.Proofs.Ytihijigbdpjcoaa
end

section
namespace Go.Proofs.Ytihijigbdpjcoaa
open Go.RowKit Go.Sort
set_option linter.unusedVariables false

set_option maxRecDepth 100000 in
set_option maxHeartbeats 2000000 in
theorem ind_leaf (o n : Int) (B : Option Addr) (d : Nat) (w : World) (h4 : (o == 4) = false) :
    Calls Try.prog 58 #[.agg #[.int .i64 o, .int .i64 n, .slice B 0 d]] w (IxBPost ix0 false w) := by
  have hb0 : Below w.heap.size w ((w.alloc (.cells #[.int .i64 o, .int .i64 n, .slice B 0 d] 42)).alloc (.cells #[.int .i64 0, .int .i64 0, .slice none 0 0] 42)) := ((Below.refl _ _).alloc (Nat.le_refl _) _).alloc (by simp) _
  have hr1 := secondI w (.cells #[.int .i64 o, .int .i64 n, .slice B 0 d] 42) #[.int .i64 0, .int .i64 0, .slice none 0 0] 42
  have HST := Lib.hid (And.intro hr1 hb0)
  clear hr1 hb0
  go_enter Try.func58, Try.ntmps58
  go_wp2
  go_loopw [35] (fun i wr => i = .int .i64 0 ∧ wr.heap[w.heap.size + 1]? = some (.cells #[.int .i64 0, .int .i64 0, .slice none 0 0] 42 (0, 0)) ∧ Below w.heap.size w wr) (fun _ _ => 0)
  case atStart => exact ⟨rfl, HST.out⟩
  case round =>
    clear HST
    obtain ⟨rfl, hr1, hb0⟩ := hrel
    obtain ⟨r0, r1, r2⟩ := IxK.row3 hr1
    have z0 := frozen_of_row _ _ 0 _ _ hr1
    have z1 := frozen_of_row _ _ 1 _ _ hr1
    have z2 := frozen_of_row _ _ 2 _ _ hr1
    have hbel := set3_below hb0 (show w.heap.size ≤ w.heap.size + 1 by omega) (.int .i64 0) (.int .i64 0) (.slice none 0 0)
    have hpost : IxBPost ix0 false w (.returned (.tuple #[.agg #[.int .i64 0, .int .i64 0, .slice none 0 0], .bool false])) _ := ⟨none, 0, _, rfl, ownL_leafI 0 0, fun b hb => by simp at hb, hbel⟩
    clear hbel hr1 hb0
    go_wp2
    exact bodyPost_ret (v := .tuple #[.agg #[.int .i64 0, .int .i64 0, .slice none 0 0], .bool false]) (by simp [results, Try.results58, go_sem, r0, r1, r2]) rfl hpost

set_option maxRecDepth 100000 in
set_option maxHeartbeats 8000000 in
theorem ind_redex (n n1 : Int) (v y r : Ix) (B : Option Addr) (d : Nat) (w : World) (hk : IxsIn w (.slice B 2 d) [.mk 3 n1 [v], y])
    (hc : ∀ (w' : World) (x z : Value), IxIn w' x v → IxIn w' z y → Calls Try.prog 88 #[x, z, .int .i64 0] w' (IxOut r w')) :
    Calls Try.prog 58 #[.agg #[.int .i64 4, .int .i64 n, .slice B 2 d]] w (IxBPost r true w) := by
  obtain ⟨b, off, B1, e1, rfl, hbl, d0, d1, d2, hx1⟩ := kid_ix hk (k := 0) (by simp)
  obtain ⟨b', off', B2, e2, eB, _, f0, f1, f2, hy⟩ := kid_ix hk (k := 1) (by simp)
  injection eB with eB
  injection eB with eB1 eB2
  subst eB1
  subst eB2
  rw [Nat.zero_mul, Nat.add_zero] at d0 d1 d2
  rw [Nat.one_mul] at f0 f1 f2
  have e0 : ixAt [.mk 3 n1 [v], y] 0 = .mk 3 n1 [v] := rfl
  have e9 : ixAt [.mk 3 n1 [v], y] 1 = y := rfl
  rw [e0] at d0 d1 d2 hx1
  rw [e9] at f0 f1 f2 hy
  simp only [ixop_mk, ixnum_mk, ixkids_mk, List.length_cons, List.length_nil, Nat.zero_add] at d0 d1 d2 hx1
  obtain ⟨B1', e1', eq1, hk1⟩ := hx1
  simp only [ixop_mk, ixnum_mk, ixkids_mk, List.length_cons, List.length_nil, Nat.zero_add] at eq1 hk1
  injection eq1 with eq1
  have eq2 : Value.slice B1 1 e1 = .slice B1' 1 e1' := by simpa using eq1
  injection eq2 with q1 q2 q3
  subst q1
  subst q3
  obtain ⟨b2, off2, B3, e3, rfl, hbl2, g0, g1, g2, hv⟩ := kid_ix hk1 (k := 0) (by simp)
  rw [Nat.zero_mul, Nat.add_zero] at g0 g1 g2
  rw [ixAt_cons_zero] at g0 g1 g2 hv
  have hb0 : Below w.heap.size w ((w.alloc (.cells #[.int .i64 4, .int .i64 n, .slice (some ⟨b, off, none⟩) 2 d] 42)).alloc (.cells #[.int .i64 0, .int .i64 0, .slice none 0 0] 42)) := ((Below.refl _ _).alloc (Nat.le_refl _) _).alloc (by simp) _
  have hbx : ((w.alloc (.cells #[.int .i64 4, .int .i64 n, .slice (some ⟨b, off, none⟩) 2 d] 42)).alloc (.cells #[.int .i64 0, .int .i64 0, .slice none 0 0] 42)).heap[w.heap.size]? = some (.cells #[.int .i64 4, .int .i64 n, .slice (some ⟨b, off, none⟩) 2 d] 42 (0, 0)) := (Below.heap_alloc (w.alloc (.cells #[.int .i64 4, .int .i64 n, .slice (some ⟨b, off, none⟩) 2 d] 42)) _ _ (by simp)).trans (heap_alloc_new w _)
  have hres := secondI w (.cells #[.int .i64 4, .int .i64 n, .slice (some ⟨b, off, none⟩) 2 d] 42) #[.int .i64 0, .int .i64 0, .slice none 0 0] 42
  have hdw : Below ((w.alloc (.cells #[.int .i64 4, .int .i64 n, .slice (some ⟨b, off, none⟩) 2 d] 42)).alloc (.cells #[.int .i64 0, .int .i64 0, .slice none 0 0] 42)).heap.size ((w.alloc (.cells #[.int .i64 4, .int .i64 n, .slice (some ⟨b, off, none⟩) 2 d] 42)).alloc (.cells #[.int .i64 0, .int .i64 0, .slice none 0 0] 42)) ((w.alloc (.cells #[.int .i64 4, .int .i64 n, .slice (some ⟨b, off, none⟩) 2 d] 42)).alloc (.cells #[.int .i64 0, .int .i64 0, .slice none 0 0] 42)).drew := ⟨rfl, rfl, rfl, Nat.le_refl _, fun _ _ => rfl⟩
  have HC : Hid (∀ w' : World, Below w.heap.size w w' → w'.cell? ⟨b, off + 2, none⟩ = some (.slice (some ⟨b2, off2, none⟩) 1 e1) ∧ w'.cell? ⟨b, off + 3, none⟩ = some (.int .i64 y.op) ∧ w'.cell? ⟨b, off + 3 + 1, none⟩ = some (.int .i64 y.num) ∧ w'.cell? ⟨b, off + 3 + 2, none⟩ = some (.slice B2 y.kids.length e2) ∧ w'.cell? ⟨b2, off2, none⟩ = some (.int .i64 v.op) ∧ w'.cell? ⟨b2, off2 + 1, none⟩ = some (.int .i64 v.num) ∧ w'.cell? ⟨b2, off2 + 2, none⟩ = some (.slice B3 v.kids.length e3)) := Lib.hid (fun w' h => by
    have hc1 := fun (q : Nat) => h.cell (p := ⟨b, q, none⟩) hbl
    have hc2 := fun (q : Nat) => h.cell (p := ⟨b2, q, none⟩) hbl2
    exact ⟨(hc1 _).trans d2, (hc1 _).trans f0, (hc1 _).trans f1, (hc1 _).trans f2, (hc2 _).trans g0, (hc2 _).trans g1, (hc2 _).trans g2⟩)
  have HB : Hid (∀ w' : World, Below ((w.alloc (.cells #[.int .i64 4, .int .i64 n, .slice (some ⟨b, off, none⟩) 2 d] 42)).alloc (.cells #[.int .i64 0, .int .i64 0, .slice none 0 0] 42)).heap.size ((w.alloc (.cells #[.int .i64 4, .int .i64 n, .slice (some ⟨b, off, none⟩) 2 d] 42)).alloc (.cells #[.int .i64 0, .int .i64 0, .slice none 0 0] 42)) w' → w'.cell? ⟨w.heap.size, 2, none⟩ = some (.slice (some ⟨b, off, none⟩) 2 d) ∧ w'.heap[w.heap.size + 1]? = some (.cells #[.int .i64 0, .int .i64 0, .slice none 0 0] 42 (0, 0))) := Lib.hid (fun w' h => ⟨(IxK.row3 ((h.block w.heap.size (by simp; omega)).trans hbx)).2.2, (h.block (w.heap.size + 1) (by simp)).trans hres⟩)
  have hct := hc ((w.alloc (.cells #[.int .i64 4, .int .i64 n, .slice (some ⟨b, off, none⟩) 2 d] 42)).alloc (.cells #[.int .i64 0, .int .i64 0, .slice none 0 0] 42)).drew _ _ (hv.below (hb0.trans (hdw.mono hb0.size))) (hy.below (hb0.trans (hdw.mono hb0.size)))
  have p0 := (hb0.cell (p := ⟨b, off, none⟩) hbl).trans d0
  obtain ⟨m0, m1, m2, m3, m4, m5, m6⟩ := HC.out ((w.alloc (.cells #[.int .i64 4, .int .i64 n, .slice (some ⟨b, off, none⟩) 2 d] 42)).alloc (.cells #[.int .i64 0, .int .i64 0, .slice none 0 0] 42)).drew (hb0.trans (hdw.mono hb0.size))
  have mb := (HB.out ((w.alloc (.cells #[.int .i64 4, .int .i64 n, .slice (some ⟨b, off, none⟩) 2 d] 42)).alloc (.cells #[.int .i64 0, .int .i64 0, .slice none 0 0] 42)).drew hdw).1
  have HSZ := Lib.hid (show ((w.alloc (.cells #[.int .i64 4, .int .i64 n, .slice (some ⟨b, off, none⟩) 2 d] 42)).alloc (.cells #[.int .i64 0, .int .i64 0, .slice none 0 0] 42)).heap.size = w.heap.size + 2 by simp)
  have HD := Lib.hid hdw
  have HB0 := Lib.hid hb0
  have HNE := Lib.hid (show b ≠ w.heap.size + 1 by omega)
  clear hc hv hy hk hk1 hbl hbl2 d0 d1 d2 f0 f1 f2 g0 g1 g2 e0 e9 hbx hres hdw hb0 eq1
  go_enter Try.func58, Try.ntmps58
  go_wp2
  clear p0
  go_region_held3 (fun w' => w'.cell? ⟨w.heap.size, 2, none⟩ = some (.slice (some ⟨b, off, none⟩) 2 d) ∧ w'.cell? ⟨b, off + 2, none⟩ = some (.slice (some ⟨b2, off2, none⟩) 1 e1) ∧ w'.cell? ⟨b, off + 3, none⟩ = some (.int .i64 y.op) ∧ w'.cell? ⟨b, off + 3 + 1, none⟩ = some (.int .i64 y.num) ∧ w'.cell? ⟨b, off + 3 + 2, none⟩ = some (.slice B2 y.kids.length e2) ∧ w'.cell? ⟨b2, off2, none⟩ = some (.int .i64 v.op) ∧ w'.cell? ⟨b2, off2 + 1, none⟩ = some (.int .i64 v.num) ∧ w'.cell? ⟨b2, off2 + 2, none⟩ = some (.slice B3 v.kids.length e3))
    (first | (with_reducible exact ⟨by assumption, by assumption, by assumption, by assumption, by assumption, by assumption, by assumption, by assumption⟩) | ((try dsimp only); (with_reducible exact ⟨by assumption, by assumption, by assumption, by assumption, by assumption, by assumption, by assumption, by assumption⟩)) | go_keep)
    (first
      | ((with_reducible refine hct.mono ?_); rintro e w2 ⟨A9, c9, S9, rfl, hS9, hS9b, hb2⟩; have hc2 := HD.out.trans (hb2.mono HD.out.size); have hs2 := HB0.out.trans (hc2.mono HB0.out.size); obtain ⟨p0, p1, p2, p3, p4, p5, p6⟩ := HC.out w2 hs2; obtain ⟨pb, hr2⟩ := HB.out w2 hc2; obtain ⟨r0, r1, r2⟩ := IxK.row3 hr2; have z0 := frozen_of_row _ _ 0 _ _ hr2; have z1 := frozen_of_row _ _ 1 _ _ hr2; have z2 := frozen_of_row _ _ 2 _ _ hr2; have hbel := set3_below hs2 (show w.heap.size ≤ w.heap.size + 1 from Nat.le_succ _) (.int .i64 r.op) (.int .i64 r.num) (.slice A9 r.kids.length c9); obtain ⟨s0, s1, s2, s3, s4, s5, s6⟩ := HC.out (((w2.setCell ⟨w.heap.size + 1, 0, none⟩ (.int .i64 r.op)).setCell ⟨w.heap.size + 1, 1, none⟩ (.int .i64 r.num)).setCell ⟨w.heap.size + 1, 2, none⟩ (.slice A9 r.kids.length c9)) hbel)
      | fail)
  have hSb : ∀ b ∈ S9, w.heap.size + 2 ≤ b := fun b hb => by have h3 := hS9b b hb; have h4 := HSZ.out; have h5 := HD.out.size; omega
  have hL := set3_own hS9 (R := w.heap.size + 1) (fun b hb => by have := hSb b hb; omega) (.int .i64 r.op) (.int .i64 r.num) (.slice A9 r.kids.length c9)
  have hpost : IxBPost r true w (.returned (.tuple #[.agg #[.int .i64 r.op, .int .i64 r.num, .slice A9 r.kids.length c9], .bool true])) _ := ⟨A9, c9, S9, rfl, hL, fun b hb => by have := hSb b hb; omega, hbel⟩
  clear hct hS9 hS9b hSb hL hbel hb2 hr2 HB HC HSZ HD HB0 HNE hc2 hs2 m0 m1 m2 m3 m4 m5 m6 p0 p1 p2 p3 p4 p5 p6 s0 s1 s2 s3 s4 s5 s6 mb pb
  go_wp2
  exact bodyPost_ret (v := .tuple #[.agg #[.int .i64 r.op, .int .i64 r.num, .slice A9 r.kids.length c9], .bool true]) (by simp [results, Try.results58, go_sem, r0, r1, r2]) rfl hpost

end Go.Proofs.Ytihijigbdpjcoaa
end

