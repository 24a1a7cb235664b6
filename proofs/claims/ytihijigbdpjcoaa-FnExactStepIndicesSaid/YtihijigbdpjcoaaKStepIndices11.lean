/-
  What is an index term, in the program, as contracts: the shape, all within one, IsIndexTerm.
-/
import Derived.Test.YtihijigbdpjcoaaKStepIndices6
import Derived.Test.YtihijigbdpjcoaaKStepIndices3
import Derived.Test.YtihijigbdpjcoaaKStepIndices10
namespace Go.Proofs.Ytihijigbdpjcoaa
open Go.RowKit Go.Sort
set_option linter.unusedVariables false

set_option maxRecDepth 100000 in
set_option maxHeartbeats 1000000 in
theorem shapeI_impl_1_0 (n : Int) (B : Option Addr) (kl d : Nat) (w : World) (hkl : kl ≤ 9223372036854775807) (h0 : n < 0) :
    Calls Try.prog 54 #[.agg #[.int .i64 1, .int .i64 n, .slice B kl d]] w fun e w' => e = .returned (.bool false) ∧ Below w.heap.size w w' := by
  have hb0 : Below w.heap.size w (w.alloc (.cells #[.int .i64 1, .int .i64 n, .slice B kl d] 42)) := (Below.refl _ _).alloc (Nat.le_refl _) _
  have k1 : decide (0 ≤ n) = false := decide_eq_false (by omega)
  go_enter Try.func54, Try.ntmps54
  go_wp2
  go_ret
  exact ⟨rfl, hb0⟩

set_option maxRecDepth 100000 in
set_option maxHeartbeats 1000000 in
theorem shapeI_impl_1_1 (n : Int) (B : Option Addr) (kl d : Nat) (w : World) (hkl : kl ≤ 9223372036854775807) (h0 : 0 ≤ n) (h1 : 999 < n) :
    Calls Try.prog 54 #[.agg #[.int .i64 1, .int .i64 n, .slice B kl d]] w fun e w' => e = .returned (.bool false) ∧ Below w.heap.size w w' := by
  have hb0 : Below w.heap.size w (w.alloc (.cells #[.int .i64 1, .int .i64 n, .slice B kl d] 42)) := (Below.refl _ _).alloc (Nat.le_refl _) _
  have k1 : decide (n ≤ 999) = false := decide_eq_false (by omega)
  go_enter Try.func54, Try.ntmps54
  go_wp2
  go_ret
  exact ⟨rfl, hb0⟩

set_option maxRecDepth 100000 in
set_option maxHeartbeats 1000000 in
theorem shapeI_impl_1_2 (n : Int) (B : Option Addr) (kl d : Nat) (w : World) (hkl : kl ≤ 9223372036854775807) (h0 : 0 ≤ n) (h1 : n ≤ 999) (h2 : ¬ kl = 0) :
    Calls Try.prog 54 #[.agg #[.int .i64 1, .int .i64 n, .slice B kl d]] w fun e w' => e = .returned (.bool false) ∧ Below w.heap.size w w' := by
  have hb0 : Below w.heap.size w (w.alloc (.cells #[.int .i64 1, .int .i64 n, .slice B kl d] 42)) := (Below.refl _ _).alloc (Nat.le_refl _) _
  have tk : ((kl : Int) == 0) = false := by simp; omega
  clear h2
  go_enter Try.func54, Try.ntmps54
  go_wp2
  go_ret
  exact ⟨rfl, hb0⟩

set_option maxRecDepth 100000 in
set_option maxHeartbeats 1000000 in
theorem shapeI_impl_1_3 (n : Int) (B : Option Addr) (kl d : Nat) (w : World) (hkl : kl ≤ 9223372036854775807) (h0 : 0 ≤ n) (h1 : n ≤ 999) (h2 : kl = 0) :
    Calls Try.prog 54 #[.agg #[.int .i64 1, .int .i64 n, .slice B kl d]] w fun e w' => e = .returned (.bool true) ∧ Below w.heap.size w w' := by
  have hb0 : Below w.heap.size w (w.alloc (.cells #[.int .i64 1, .int .i64 n, .slice B kl d] 42)) := (Below.refl _ _).alloc (Nat.le_refl _) _
  subst h2
  go_enter Try.func54, Try.ntmps54
  go_wp2
  go_ret
  exact ⟨rfl, hb0⟩

set_option maxRecDepth 100000 in
set_option maxHeartbeats 1000000 in
theorem shapeI_impl_2_0 (n : Int) (B : Option Addr) (kl d : Nat) (w : World) (hkl : kl ≤ 9223372036854775807) (h0 : atomB n = false) :
    Calls Try.prog 54 #[.agg #[.int .i64 2, .int .i64 n, .slice B kl d]] w fun e w' => e = .returned (.bool false) ∧ Below w.heap.size w w' := by
  have hb0 : Below w.heap.size w (w.alloc (.cells #[.int .i64 2, .int .i64 n, .slice B kl d] 42)) := (Below.refl _ _).alloc (Nat.le_refl _) _
  have ca := fun W => isAtom_any n W
  rw [h0] at ca
  clear h0
  go_enter Try.func54, Try.ntmps54
  go_wp2_with (first | (go_at_call 87; refine (ca _).mono ?_; rintro e w' ⟨rfl, rfl⟩))
  go_ret
  exact ⟨rfl, hb0⟩

set_option maxRecDepth 100000 in
set_option maxHeartbeats 1000000 in
theorem shapeI_impl_2_1 (n : Int) (B : Option Addr) (kl d : Nat) (w : World) (hkl : kl ≤ 9223372036854775807) (h0 : atomB n = true) (h1 : ¬ kl = 0) :
    Calls Try.prog 54 #[.agg #[.int .i64 2, .int .i64 n, .slice B kl d]] w fun e w' => e = .returned (.bool false) ∧ Below w.heap.size w w' := by
  have hb0 : Below w.heap.size w (w.alloc (.cells #[.int .i64 2, .int .i64 n, .slice B kl d] 42)) := (Below.refl _ _).alloc (Nat.le_refl _) _
  have ca := fun W => isAtom_any n W
  rw [h0] at ca
  have tk : ((kl : Int) == 0) = false := by simp; omega
  clear h0 h1
  go_enter Try.func54, Try.ntmps54
  go_wp2_with (first | (go_at_call 87; refine (ca _).mono ?_; rintro e w' ⟨rfl, rfl⟩))
  go_ret
  exact ⟨rfl, hb0⟩

set_option maxRecDepth 100000 in
set_option maxHeartbeats 1000000 in
theorem shapeI_impl_2_2 (n : Int) (B : Option Addr) (kl d : Nat) (w : World) (hkl : kl ≤ 9223372036854775807) (h0 : atomB n = true) (h1 : kl = 0) :
    Calls Try.prog 54 #[.agg #[.int .i64 2, .int .i64 n, .slice B kl d]] w fun e w' => e = .returned (.bool true) ∧ Below w.heap.size w w' := by
  have hb0 : Below w.heap.size w (w.alloc (.cells #[.int .i64 2, .int .i64 n, .slice B kl d] 42)) := (Below.refl _ _).alloc (Nat.le_refl _) _
  have ca := fun W => isAtom_any n W
  rw [h0] at ca
  subst h1
  clear h0
  go_enter Try.func54, Try.ntmps54
  go_wp2_with (first | (go_at_call 87; refine (ca _).mono ?_; rintro e w' ⟨rfl, rfl⟩))
  go_ret
  exact ⟨rfl, hb0⟩

set_option maxRecDepth 100000 in
set_option maxHeartbeats 1000000 in
theorem shapeI_impl_3_0 (n : Int) (B : Option Addr) (kl d : Nat) (w : World) (hkl : kl ≤ 9223372036854775807) (h0 : ¬ n = 0) :
    Calls Try.prog 54 #[.agg #[.int .i64 3, .int .i64 n, .slice B kl d]] w fun e w' => e = .returned (.bool false) ∧ Below w.heap.size w w' := by
  have hb0 : Below w.heap.size w (w.alloc (.cells #[.int .i64 3, .int .i64 n, .slice B kl d] 42)) := (Below.refl _ _).alloc (Nat.le_refl _) _
  have tn : (n == 0) = false := by simpa using h0
  clear h0
  go_enter Try.func54, Try.ntmps54
  go_wp2
  go_ret
  exact ⟨rfl, hb0⟩

set_option maxRecDepth 100000 in
set_option maxHeartbeats 1000000 in
theorem shapeI_impl_3_1 (n : Int) (B : Option Addr) (kl d : Nat) (w : World) (hkl : kl ≤ 9223372036854775807) (h0 : n = 0) (h1 : ¬ kl = 1) :
    Calls Try.prog 54 #[.agg #[.int .i64 3, .int .i64 n, .slice B kl d]] w fun e w' => e = .returned (.bool false) ∧ Below w.heap.size w w' := by
  have hb0 : Below w.heap.size w (w.alloc (.cells #[.int .i64 3, .int .i64 n, .slice B kl d] 42)) := (Below.refl _ _).alloc (Nat.le_refl _) _
  have tk : ((kl : Int) == 1) = false := by simp; omega
  subst h0
  clear h1
  go_enter Try.func54, Try.ntmps54
  go_wp2
  go_ret
  exact ⟨rfl, hb0⟩

set_option maxRecDepth 100000 in
set_option maxHeartbeats 1000000 in
theorem shapeI_impl_3_2 (n : Int) (B : Option Addr) (kl d : Nat) (w : World) (hkl : kl ≤ 9223372036854775807) (h0 : n = 0) (h1 : kl = 1) :
    Calls Try.prog 54 #[.agg #[.int .i64 3, .int .i64 n, .slice B kl d]] w fun e w' => e = .returned (.bool true) ∧ Below w.heap.size w w' := by
  have hb0 : Below w.heap.size w (w.alloc (.cells #[.int .i64 3, .int .i64 n, .slice B kl d] 42)) := (Below.refl _ _).alloc (Nat.le_refl _) _
  subst h0
  subst h1
  go_enter Try.func54, Try.ntmps54
  go_wp2
  go_ret
  exact ⟨rfl, hb0⟩

set_option maxRecDepth 100000 in
set_option maxHeartbeats 1000000 in
theorem shapeI_impl_4_0 (n : Int) (B : Option Addr) (kl d : Nat) (w : World) (hkl : kl ≤ 9223372036854775807) (h0 : ¬ n = 0) :
    Calls Try.prog 54 #[.agg #[.int .i64 4, .int .i64 n, .slice B kl d]] w fun e w' => e = .returned (.bool false) ∧ Below w.heap.size w w' := by
  have hb0 : Below w.heap.size w (w.alloc (.cells #[.int .i64 4, .int .i64 n, .slice B kl d] 42)) := (Below.refl _ _).alloc (Nat.le_refl _) _
  have tn : (n == 0) = false := by simpa using h0
  clear h0
  go_enter Try.func54, Try.ntmps54
  go_wp2
  go_ret
  exact ⟨rfl, hb0⟩

set_option maxRecDepth 100000 in
set_option maxHeartbeats 1000000 in
theorem shapeI_impl_4_1 (n : Int) (B : Option Addr) (kl d : Nat) (w : World) (hkl : kl ≤ 9223372036854775807) (h0 : n = 0) (h1 : ¬ kl = 2) :
    Calls Try.prog 54 #[.agg #[.int .i64 4, .int .i64 n, .slice B kl d]] w fun e w' => e = .returned (.bool false) ∧ Below w.heap.size w w' := by
  have hb0 : Below w.heap.size w (w.alloc (.cells #[.int .i64 4, .int .i64 n, .slice B kl d] 42)) := (Below.refl _ _).alloc (Nat.le_refl _) _
  have tk : ((kl : Int) == 2) = false := by simp; omega
  subst h0
  clear h1
  go_enter Try.func54, Try.ntmps54
  go_wp2
  go_ret
  exact ⟨rfl, hb0⟩

set_option maxRecDepth 100000 in
set_option maxHeartbeats 1000000 in
theorem shapeI_impl_4_2 (n : Int) (B : Option Addr) (kl d : Nat) (w : World) (hkl : kl ≤ 9223372036854775807) (h0 : n = 0) (h1 : kl = 2) :
    Calls Try.prog 54 #[.agg #[.int .i64 4, .int .i64 n, .slice B kl d]] w fun e w' => e = .returned (.bool true) ∧ Below w.heap.size w w' := by
  have hb0 : Below w.heap.size w (w.alloc (.cells #[.int .i64 4, .int .i64 n, .slice B kl d] 42)) := (Below.refl _ _).alloc (Nat.le_refl _) _
  subst h0
  subst h1
  go_enter Try.func54, Try.ntmps54
  go_wp2
  go_ret
  exact ⟨rfl, hb0⟩

set_option maxRecDepth 100000 in
theorem shapeI_impl_0 (o n : Int) (B : Option Addr) (kl d : Nat) (w : World) (h1 : ¬ o = 1) (h2 : ¬ o = 2) (h3 : ¬ o = 3) (h4 : ¬ o = 4) :
    Calls Try.prog 54 #[.agg #[.int .i64 o, .int .i64 n, .slice B kl d]] w fun e w' => e = .returned (.bool false) ∧ Below w.heap.size w w' := by
  have hb0 : Below w.heap.size w (w.alloc (.cells #[.int .i64 o, .int .i64 n, .slice B kl d] 42)) := (Below.refl _ _).alloc (Nat.le_refl _) _
  have t1 : (o == 1) = false := by simpa using h1
  have t2 : (o == 2) = false := by simpa using h2
  have t3 : (o == 3) = false := by simpa using h3
  have t4 : (o == 4) = false := by simpa using h4
  clear h1 h2 h3 h4
  go_enter Try.func54, Try.ntmps54
  go_wp2
  go_ret
  exact ⟨rfl, hb0⟩

theorem shapeI_impl_any (t : Ix) (x : Value) (w : World) (hx : IxIn w x t) (hkl : t.kids.length ≤ 1048576) :
    Calls Try.prog 54 #[x] w fun e w' => e = .returned (.bool (shapeI t)) ∧ Below w.heap.size w w' := by
  obtain ⟨B, d, rfl, hk⟩ := hx
  unfold shapeI
  by_cases o1 : t.op = 1
  · rw [if_pos o1, o1]
    by_cases h0 : 0 ≤ t.num
    · by_cases h1 : t.num ≤ 999
      · rw [decide_eq_true (show 0 ≤ t.num ∧ t.num ≤ 999 from ⟨h0, h1⟩)]
        by_cases h2 : t.kids.length = 0
        · rw [decide_eq_true h2]; exact shapeI_impl_1_3 _ _ _ _ w (by omega) h0 h1 h2
        · rw [decide_eq_false h2]; exact shapeI_impl_1_2 _ _ _ _ w (by omega) h0 h1 h2
      · rw [decide_eq_false (show ¬ (0 ≤ t.num ∧ t.num ≤ 999) from fun h => h1 h.2)]; exact shapeI_impl_1_1 _ _ _ _ w (by omega) h0 (by omega)
    · rw [decide_eq_false (show ¬ (0 ≤ t.num ∧ t.num ≤ 999) from fun h => h0 h.1)]; exact shapeI_impl_1_0 _ _ _ _ w (by omega) (by omega)
  rw [if_neg o1]
  by_cases o2 : t.op = 2
  · rw [if_pos o2, o2]
    by_cases h0 : atomB t.num = true
    · rw [h0]
      by_cases h1 : t.kids.length = 0
      · rw [decide_eq_true h1]; exact shapeI_impl_2_2 _ _ _ _ w (by omega) h0 h1
      · rw [decide_eq_false h1]; exact shapeI_impl_2_1 _ _ _ _ w (by omega) h0 h1
    · rw [Bool.not_eq_true] at h0; rw [h0]; exact shapeI_impl_2_0 _ _ _ _ w (by omega) h0
  rw [if_neg o2]
  by_cases o3 : t.op = 3
  · rw [if_pos o3, o3]
    by_cases h0 : t.num = 0
    · by_cases h1 : t.kids.length = 1
      · rw [decide_eq_true h0, decide_eq_true h1]; exact shapeI_impl_3_2 _ _ _ _ w (by omega) h0 h1
      · rw [decide_eq_true h0, decide_eq_false h1]; exact shapeI_impl_3_1 _ _ _ _ w (by omega) h0 h1
    · rw [decide_eq_false h0]; exact shapeI_impl_3_0 _ _ _ _ w (by omega) h0
  rw [if_neg o3]
  by_cases o4 : t.op = 4
  · rw [if_pos o4, o4]
    by_cases h0 : t.num = 0
    · by_cases h1 : t.kids.length = 2
      · rw [decide_eq_true h0, decide_eq_true h1]; exact shapeI_impl_4_2 _ _ _ _ w (by omega) h0 h1
      · rw [decide_eq_true h0, decide_eq_false h1]; exact shapeI_impl_4_1 _ _ _ _ w (by omega) h0 h1
    · rw [decide_eq_false h0]; exact shapeI_impl_4_0 _ _ _ _ w (by omega) h0
  rw [if_neg o4]
  exact shapeI_impl_0 _ _ _ _ _ w o1 o2 o3 o4

set_option maxRecDepth 100000 in
theorem kidsOfIndex_any (o n : Int) (B : Option Addr) (kl d : Nat) (w : World) :
    Calls Try.prog 53 #[.agg #[.int .i64 o, .int .i64 n, .slice B kl d]] w fun e w' => e = .returned (.slice B kl d) ∧ Below w.heap.size w w' := by
  have hb0 : Below w.heap.size w (w.alloc (.cells #[.int .i64 o, .int .i64 n, .slice B kl d] 42)) := (Below.refl _ _).alloc (Nat.le_refl _) _
  go_enter Try.func53, Try.ntmps53
  go_wp2
  go_ret
  exact ⟨rfl, hb0⟩

theorem ixs_none {w : World} {n c : Nat} {ts : List Ix} (h : IxsIn w (.slice none n c) ts) : ts = [] ∧ c = 0 := by
  unfold IxsIn ixsMem at h
  generalize hm : encIxs ts = ms at h
  cases h with
  | nil _ _ _ _ h0 =>
    have := encIxs_len ts
    rw [hm] at this
    exact ⟨List.eq_nil_of_length_eq_zero (by simp at this; omega), h0 (.inr rfl) rfl⟩
theorem ixs_one {w : World} : ∀ {ts : List Ix} {ys : List Value}, AtL w ys (encIxs ts) → ∀ u ∈ ys, u.oneCell' = true
  | [], ys, h => by
    rw [encIxs] at h
    cases h
    intro u hu; simp at hu
  | t :: r, ys, h => by
    rw [encIxs, encIx_eq] at h
    cases h with
    | cons h0 h => cases h with
      | cons h1 h => cases h with
        | cons h3 h =>
          intro u hu
          obtain ⟨A3, n3, c3, rfl, _⟩ := At.form h3
          rw [h0.cell_eq, h1.cell_eq] at hu
          simp only [List.mem_cons] at hu
          rcases hu with rfl | rfl | rfl | hu
          · rfl
          · rfl
          · rfl
          · exact ixs_one h u hu
theorem AtL.ixterm {w : World} {xs : List Value} {ts : List Ix} (h : AtL w xs (encIxs ts)) {k : Nat} (hk : k < ts.length) : ∃ B1 d1,
    xs[k * 3]? = some (.int .i64 (ixAt ts k).op) ∧ xs[k * 3 + 1]? = some (.int .i64 (ixAt ts k).num) ∧ xs[k * 3 + 2]? = some (.slice B1 (ixAt ts k).kids.length d1) ∧ IxsIn w (.slice B1 (ixAt ts k).kids.length d1) (ixAt ts k).kids := by
  obtain ⟨p0, p1, p2⟩ := encIxs_parts hk
  obtain ⟨u0, d0, a0⟩ := h.get _ _ p0
  obtain ⟨u1, d1, a1⟩ := h.get _ _ p1
  obtain ⟨u2, d2, a2⟩ := h.get _ _ p2
  rw [a0.cell_eq] at d0
  rw [a1.cell_eq] at d1
  obtain ⟨B, d, rfl⟩ := IxsIn.form (ts := (ixAt ts k).kids) a2
  exact ⟨B, d, d0, d1, d2, a2⟩
/-- The cells of kids, as a list. -/
theorem IxsIn.cells {w : World} {ad : Addr} {n c : Nat} {ts : List Ix} (h : IxsIn w (.slice (some ad) n c) ts) :
    ∃ ys, ys.length = ts.length * 3 ∧ AtL w ys (encIxs ts) ∧ ∀ j u, ys[j]? = some u → w.cell? (ad.add j) = some u := by
  unfold IxsIn ixsMem at h
  generalize hm : encIxs ts = ms at h
  cases h with
  | nil =>
    have := encIxs_len ts
    rw [hm] at this
    simp at this
    exact ⟨[], by simp; omega, .nil, fun j u hj => by simp at hj⟩
  | row hn hl hb hc hL =>
    subst hm
    rename_i b off xs
    refine ⟨xs, by rw [hL.len, encIxs_len], hL, fun j u hj => ?_⟩
    have hadd : (⟨b, off, none⟩ : Addr).add j = ⟨b, off + j, none⟩ := by
      unfold Addr.add
      split
      · rename_i h0; rw [h0]; rfl
      · rfl
    rw [hadd]
    exact hc j u hj
def NodesIPost (t : Ix) (w0 w : World) (e : Ending) (w' : World) : Prop :=
  Below w.heap.size w w' ∧ ((isIndexB t = false ∧ e = .returned (.tuple #[.slice none 0 0, .bool false])) ∨
    (isIndexB t = true ∧ ∃ (F : List Ix) (g cap : Nat) (xs : List Value), e = .returned (.tuple #[.slice (some ⟨g, 0, none⟩) F.length cap, .bool true]) ∧ F.length = szIx t ∧
      w'.ownsRow w.heap.size 42 3 (.slice (some ⟨g, 0, none⟩) F.length cap) F.length xs ∧ AtL w0 xs (encIxs F)))
theorem nodesI_no {t : Ix} {w0 w w' : World} (h : isIndexB t = false) (hb : Below w.heap.size w w') : NodesIPost t w0 w (.returned (.tuple #[.slice none 0 0, .bool false])) w' := ⟨hb, .inl ⟨h, rfl⟩⟩

set_option maxRecDepth 100000 in
set_option maxHeartbeats 4000000 in
theorem nodesI_any (t : Ix) (x : Value) (w0 w : World) (hx : IxIn w0 x t) (hw : Below w0.heap.size w0 w) (hf : FitIx t) :
    Calls Try.prog 52 #[x, .func (.func 53) #[] #[], .func (.func 54) #[] #[]] w (NodesIPost t w0 w) := by
  obtain ⟨i0, hi0, hz0, hz1, hz2⟩ := info_parts ix_info
  have HS := Lib.hid hz2
  clear hz2
  obtain ⟨B, d, rfl, hk⟩ := hx
  have hb0 : Below w.heap.size w ((w.alloc (.cells #[.int .i64 t.op, .int .i64 t.num, .slice B t.kids.length d] 42)).alloc (.cells #[.int .i64 t.op, .int .i64 t.num, .slice B t.kids.length d] 42)) := ((Below.refl _ _).alloc (Nat.le_refl _) _).alloc (by simp) _
  have ho0 : ((w.alloc (.cells #[.int .i64 t.op, .int .i64 t.num, .slice B t.kids.length d] 42)).alloc (.cells #[.int .i64 t.op, .int .i64 t.num, .slice B t.kids.length d] 42)).ownsRow w.heap.size 42 3 (.slice (some ⟨w.heap.size + 1, 0, none⟩) 1 1) 1 [.int .i64 t.op, .int .i64 t.num, .slice B t.kids.length d] := by
    have h9 := World.ownsRow_lit (base := (w.alloc (.cells #[.int .i64 t.op, .int .i64 t.num, .slice B t.kids.length d] 42)).heap.size) (e := 42) (size := 3) (w.alloc (.cells #[.int .i64 t.op, .int .i64 t.num, .slice B t.kids.length d] 42)) #[.int .i64 t.op, .int .i64 t.num, .slice B t.kids.length d] 1 (Nat.le_refl _) (by decide) rfl
    rw [World.size_alloc] at h9
    exact own_le h9 (by omega)
  have hL0 : AtL w0 [.int .i64 t.op, .int .i64 t.num, .slice B t.kids.length d] (encIxs [t]) := by
    rw [show encIxs [t] = encIx t by simp [encIxs]]
    exact atL_ix hk
  have HW := Lib.hid (walkI_start t)
  have HF : FitIxs [t] := ⟨hf, trivial⟩
  go_enter Try.func52, Try.ntmps52
  go_wp2
  go_loopw [8, 9] (fun v i wr => ∃ (F : List Ix) (k g cap : Nat) (xs : List Value), i = .int .i64 k ∧ v = .slice (some ⟨g, 0, none⟩) F.length cap ∧ Hid (WalkI t F k) ∧ FitIxs F ∧ F.length ≤ 60 ∧
    wr.ownsRow w.heap.size 42 3 v F.length xs ∧ AtL w0 xs (encIxs F) ∧ Below w.heap.size w wr) (fun _ i _ => 60 - (intOf i).toNat)
  case atStart => exact ⟨[t], 0, w.heap.size + 1, 1, _, rfl, rfl, HW, HF, by simp, ho0, hL0, hb0⟩
  case round =>
    clear ho0 hL0 hb0 HW HF hk
    obtain ⟨F, k, g, cap, xs, rfl, rfl, hW, hF, h60, ho, hL, hb⟩ := hrel
    by_cases hlt : k < F.length
    · obtain ⟨B1, d1, e0, e1, e2, hk1⟩ := hL.ixterm hlt
      have hxl := ho.1
      have g0 := (ho.cellAt (k * 3) (by omega)).trans e0
      have g1 := (ho.cellAt (k * 3 + 1) (by omega)).trans e1
      have g2 := (ho.cellAt (k * 3 + 2) (by omega)).trans e2
      have hfu := (fitIx_eq _).1 (fitIxs_at hF hlt)
      have hsh := fun wz (hz : Below wr.heap.size wr wz) => shapeI_impl_any (ixAt F k) _ wz ⟨B1, d1, rfl, ((hk1.below hw).below hb).below hz⟩ hfu.1
      have hbad := fun h => Lib.hid (walkI_bad hW.out hlt h)
      have hgreat := fun h => Lib.hid (walkI_great hW.out hlt h)
      have hnext := fun h h' => Lib.hid (walkI_next hW.out hlt h h')
      generalize ixAt F k = u at g0 g1 g2 hfu hsh hbad hgreat hnext hk1
      clear e0 e1 e2 hf
      have hko := kidsOfIndex_any u.op u.num B1 u.kids.length d1 wr
      by_cases hs : shapeI u = true
      · rw [hs] at hsh
        by_cases hl : F.length + u.kids.length ≤ 60
        · have hW2 := hnext hs hl
          have hF2 : FitIxs (F ++ u.kids) := by
            have : ∀ a b : List Ix, FitIxs a → FitIxs b → FitIxs (a ++ b) := by
              intro a
              induction a with
              | nil => intro b _ h; exact h
              | cons t r ih => intro b h h'; exact ⟨h.1, ih b h.2 h'⟩
            exact this _ _ hF hfu.2
          clear hbad hgreat hnext hs
          have hle : ¬ (60 : Int) < (F.length : Int) + (u.kids.length : Int) := by omega
          go_wp2_with fail
          refine hko.mono ?_
          rintro e w1 ⟨rfl, hb1⟩
          have hsh1 := hsh w1 hb1
          have g0 := (hb1.cell (p := ⟨g, k * 3, none⟩) (ho.lt g rfl).2).trans g0
          have g1 := (hb1.cell (p := ⟨g, k * 3 + 1, none⟩) (ho.lt g rfl).2).trans g1
          have g2 := (hb1.cell (p := ⟨g, k * 3 + 2, none⟩) (ho.lt g rfl).2).trans g2
          go_wp2_with fail
          refine hsh1.mono ?_
          rintro e w2 ⟨rfl, hb2⟩
          have hb2 := hb1.trans (hb2.mono hb1.size)
          have ho2 := own_below ho hb2
          have hb3 := hb.trans (hb2.mono hb.size)
          clear hsh hsh1 hko hb1 ho hb hb2 g0 g1 g2
          cases B1 with
          | none =>
            obtain ⟨hk0, rfl⟩ := ixs_none hk1
            rw [hk0] at hW2 hF2 hle ⊢
            rw [List.append_nil] at hW2
            clear hF2
            go_wp2_with (at_builtin; refine wpList_append_own_none rfl (.tmp 40) (.tmp 41) 40 rfl w.heap.size 42 i0 3 Try.underlying40 hi0 _ F.length xs rfl ho2 rfl ?_)
            go_wp2
            refine ⟨⟨F, k + 1, g, cap, xs, by go_num, rfl, hW2, hF, h60, ho2, hL, hb3⟩, ?_⟩
            simp only [intOf]
            omega
          | some ad =>
            obtain ⟨ys, hyl, hLy, hcy⟩ := hk1.cells
            have hlt0 : ∀ j v, ys[j]? = some v → (ad.add j).block < w0.heap.size := fun j v hj => World.block_lt_of_cell? w0 _ (hcy j v hj)
            have hcy2 : ∀ j v, ys[j]? = some v → w2.cell? (ad.add j) = some v := fun j v hj => (hb3.cell (Nat.lt_of_lt_of_le (hlt0 j v hj) hw.size)).trans ((hw.cell (hlt0 j v hj)).trans (hcy j v hj))
            have HC := Lib.hid hcy2
            have hL2 := hL.append hLy
            rw [← encIxs_append] at hL2
            have hyl2 := Lib.hid hyl
            have hsz := hb3.size
            clear hcy hlt0 hcy2 hk1 hyl
            go_wp2_with (at_builtin; refine wpList_append_own_at _ rfl (.tmp 40) (.tmp 41) 40 rfl w.heap.size 42 i0 _ 3 40 Try.underlying40 hi0 hz0 hz1 HS.out rfl (by decide) _ F.length _ rfl ho2 ad u.kids.length d1 ys rfl hyl2.out HC.out (ixs_one hLy) ?c3 ?c4 ?c5 ?_)
            case c3 => unfold maxLen; omega
            case c4 => omega
            case c5 => exact hsz
            intro v5 w5 ho5 hg5 _ _
            have hb5 := below_own hb3 ho2 (Nat.le_refl _) hsz hg5
            obtain ⟨g6, cap6, rfl⟩ := own_row_form ho5 (by omega)
            have hlen : Hid (F.length + u.kids.length = (F ++ u.kids).length) := by show F.length + u.kids.length = (F ++ u.kids).length; rw [List.length_append]
            rw [hlen.out] at ho5 hl ⊢
            have hk60 : k < 60 := by omega
            clear ho2 hg5 hb3 HC hyl2 hLy hle hfu hW hF h60 hlt hlen
            go_wp2
            refine ⟨⟨F ++ u.kids, k + 1, g6, cap6, _, by go_num, rfl, hW2, hF2, hl, ho5, hL2, hb5⟩, ?_⟩
            simp only [intOf]
            omega
        · have hr := hgreat (by omega)
          have hle : (60 : Int) < (F.length : Int) + (u.kids.length : Int) := by omega
          clear hbad hgreat hnext hs hl
          go_wp2_with fail
          refine hko.mono ?_
          rintro e w1 ⟨rfl, hb1⟩
          have hsh1 := hsh w1 hb1
          have g0 := (hb1.cell (p := ⟨g, k * 3, none⟩) (ho.lt g rfl).2).trans g0
          have g1 := (hb1.cell (p := ⟨g, k * 3 + 1, none⟩) (ho.lt g rfl).2).trans g1
          have g2 := (hb1.cell (p := ⟨g, k * 3 + 2, none⟩) (ho.lt g rfl).2).trans g2
          go_wp2_with fail
          refine hsh1.mono ?_
          rintro e w2 ⟨rfl, hb2⟩
          have hb2 := hb1.trans (hb2.mono hb1.size)
          have hpost := nodesI_no (w0 := w0) hr.out (hb.trans (hb2.mono hb.size))
          clear hsh hsh1 hko hb1 ho hb hb2 g0 g1 g2 hW hL hr hk1
          go_wp2
          go_ret2
          exact hpost
      · have hs' : shapeI u = false := by simpa using hs
        rw [hs'] at hsh
        have hr := hbad hs'
        clear hbad hgreat hnext hs hs'
        go_wp2_with fail
        refine hko.mono ?_
        rintro e w1 ⟨rfl, hb1⟩
        have hsh1 := hsh w1 hb1
        have g0 := (hb1.cell (p := ⟨g, k * 3, none⟩) (ho.lt g rfl).2).trans g0
        have g1 := (hb1.cell (p := ⟨g, k * 3 + 1, none⟩) (ho.lt g rfl).2).trans g1
        have g2 := (hb1.cell (p := ⟨g, k * 3 + 2, none⟩) (ho.lt g rfl).2).trans g2
        go_wp2_with fail
        refine hsh1.mono ?_
        rintro e w2 ⟨rfl, hb2⟩
        have hb2 := hb1.trans (hb2.mono hb1.size)
        have hpost := nodesI_no (w0 := w0) hr.out (hb.trans (hb2.mono hb.size))
        clear hsh hsh1 hko hb1 ho hb hb2 g0 g1 g2 hW hL hr hk1
        go_wp2
        go_ret2
        exact hpost
    · have hwe := walkI_end hW.out (by omega)
      have hpost : NodesIPost t w0 w (.returned (.tuple #[.slice (some ⟨g, 0, none⟩) F.length cap, .bool true])) wr := ⟨hb, .inr ⟨hwe.1, F, g, cap, xs, rfl, hwe.2, ho, hL⟩⟩
      clear hwe ho hL hb hW
      go_wp2
      go_ret2
      exact hpost

set_option maxRecDepth 100000 in
theorem isIndexTerm_impl (t : Ix) (x : Value) (w : World) (hx : IxIn w x t) (hf : FitIx t) :
    Calls Try.prog 18 #[x] w (BoolPost (isIndexB t) w) := by
  have hwi := fun W hW => nodesI_any t x w W hx hW hf
  clear hf
  obtain ⟨B, d, rfl, hk⟩ := hx
  have hb0 : Below w.heap.size w (w.alloc (.cells #[.int .i64 t.op, .int .i64 t.num, .slice B t.kids.length d] 42)) := (Below.refl _ _).alloc (Nat.le_refl _) _
  have hw0 := hwi _ hb0
  clear hwi
  go_enter Try.func18, Try.ntmps18
  go_wp2_with fail
  refine hw0.mono ?_
  rintro e w1 ⟨hb1, ⟨hno, rfl⟩ | ⟨hyes, F, g, cap, xs, rfl, _, _, _⟩⟩
  · have hpost : BoolPost (isIndexB t) w (.returned (.bool false)) w1 := ⟨by rw [hno], hb0.trans (hb1.mono hb0.size)⟩
    clear hw0 hb0 hb1 hk hno
    go_wp2
    go_ret
    exact hpost
  · have hpost : BoolPost (isIndexB t) w (.returned (.bool true)) w1 := ⟨by rw [hyes], hb0.trans (hb1.mono hb0.size)⟩
    clear hw0 hb0 hb1 hk hyes
    go_wp2
    go_ret
    exact hpost
end Go.Proofs.Ytihijigbdpjcoaa
