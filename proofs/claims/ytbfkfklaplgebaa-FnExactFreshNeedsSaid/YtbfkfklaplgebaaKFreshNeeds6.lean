/-
  What is a term: plain words, no program is walked here. All terms within a term: plain words. The shape of a term, in the model, as contracts. What is a term, and how great it is, in the model, as contracts. Numbering the cells of a term that is handed over by value, as a contract. Lists of elements of contexts: the laws' own copies and comparisons, as contracts. The shape of a term, in the program, as contracts. Whether a list has a number: in the model, as a contract. The moved atoms of a list of pairs: in the program, as a contract. A number is put into an ascending list, and the atoms of two lists of pairs together: in the model, as contracts. The atoms that two lists of pairs move: in the model, as a contract. What the pairs give to an atom, in the program and in the model, as contracts. Plain mathematics of permutations that are written as lists of pairs.
-/
import Derived.Test.YtbfkfklaplgebaaKFreshNeeds3
import Derived.Test.YtbfkfklaplgebaaKFreshNeeds5
import Derived.Test.YtbfkfklaplgebaaKFreshNeeds4
import Derived.BigQuiet
import Derived.Lib.Hide
import Derived.Lib.QuietBelow
import Derived.WalkLawsBesides
import Derived.WalkSpells
section
namespace Go.Proofs.Ytbfkfklaplgebaa
section
open Go.RowKit

def shapeB (t : Tm) : Bool :=
  if t.op = 1 then atomB t.num && (decide (t.perm.length = 0) && decide (t.kids.length = 0))
  else if t.op = 2 then decide (0 ≤ t.num ∧ t.num ≤ 11) && (decide (t.perm.length = 0) && decide ((t.kids.length : Int) = t.num % 4))
  else if t.op = 3 then atomB t.num && (decide (t.perm.length = 0) && decide (t.kids.length = 1))
  else if t.op = 4 then decide (0 ≤ t.num ∧ t.num ≤ 9) && (permB t.perm && decide (t.kids.length = 0))
  else false

mutual
/-- Right, however great. -/
def goodT : Tm → Bool
  | .mk o n p ks => shapeB (.mk o n p ks) && goodTs ks
def goodTs : List Tm → Bool
  | [] => true
  | t :: r => goodT t && goodTs r
end

theorem goodT_eq (t : Tm) : goodT t = (shapeB t && goodTs t.kids) := by cases t; simp [goodT, Tm.kids]
theorem goodTs_append : ∀ a b : List Tm, goodTs (a ++ b) = (goodTs a && goodTs b)
  | [], b => by simp [goodTs]
  | t :: r, b => by rw [List.cons_append, goodTs, goodTs, goodTs_append r b, Bool.and_assoc]
theorem goodTs_next {ts : List Tm} {k : Nat} (h : k < ts.length) : goodTs (ts.take (k + 1)) = (goodTs (ts.take k) && goodT (tmAt ts k)) := by
  rw [tm_take_next h, goodTs_append]
  simp [goodTs]
theorem goodTs_no : ∀ {ts : List Tm} {i : Nat}, i < ts.length → goodT (tmAt ts i) = false → goodTs ts = false
  | [], i, h, _ => by simp at h
  | t :: r, 0, _, h => by rw [tmAt_cons_zero] at h; simp [goodTs, h]
  | t :: r, i + 1, hi, h => by
    rw [tmAt_cons_succ] at h
    simp [goodTs, goodTs_no (by simpa using hi) h]
theorem goodTs_at : ∀ {ts : List Tm} {i : Nat}, goodTs ts = true → i < ts.length → goodT (tmAt ts i) = true
  | [], i, _, h => by simp at h
  | t :: r, 0, h, _ => by simp only [goodTs, Bool.and_eq_true] at h; exact h.1
  | t :: r, i + 1, h, hi => by
    simp only [goodTs, Bool.and_eq_true] at h
    rw [tmAt_cons_succ]
    exact goodTs_at (ts := r) h.2 (by simpa using hi)

/-- A term. -/
def isTermB (t : Tm) : Bool := goodT t && decide (szT t ≤ 60)
end

section
open Go.RowKit

mutual
def nodesT : Tm → List Tm
  | .mk o n p ks => .mk o n p ks :: nodesTs ks
def nodesTs : List Tm → List Tm
  | [] => []
  | t :: r => nodesT t ++ nodesTs r
end

theorem nodesT_eq (t : Tm) : nodesT t = t :: nodesTs t.kids := by cases t; simp [nodesT, Tm.kids]
theorem nodesTs_append : ∀ a b : List Tm, nodesTs (a ++ b) = nodesTs a ++ nodesTs b
  | [], b => by simp [nodesTs]
  | t :: r, b => by rw [List.cons_append, nodesTs, nodesTs, nodesTs_append r b, List.append_assoc]
theorem szTs_app : ∀ a b : List Tm, szTs (a ++ b) = szTs a + szTs b
  | [], b => by simp [szTs]
  | t :: r, b => by rw [List.cons_append, szTs, szTs, szTs_app r b]; omega
theorem len_szTs : ∀ ts : List Tm, ts.length ≤ szTs ts
  | [] => by simp [szTs]
  | t :: r => by have := len_szTs r; have := szT_eq t; rw [szTs, List.length_cons]; omega

/-- What is known while the terms within t are gone through: i of F have been looked at. -/
structure Walk (t : Tm) (F : List Tm) (i : Nat) : Prop where
  le : i ≤ F.length
  most : F.length ≤ 60
  good : goodT t = goodTs (F.drop i)
  size : szT t = i + szTs (F.drop i)
  mem : ∀ y, y ∈ nodesT t ↔ y ∈ F.take i ∨ y ∈ nodesTs (F.drop i)

theorem walk_start (t : Tm) : Walk t [t] 0 :=
  ⟨Nat.zero_le _, by simp, by simp [goodTs], by simp [szTs], fun y => by simp [nodesTs]⟩

theorem walk_next {t : Tm} {F : List Tm} {i : Nat} (h : Walk t F i) (hi : i < F.length) (hs : shapeB (tmAt F i) = true) (hl : F.length + (tmAt F i).kids.length ≤ 60) : Walk t (F ++ (tmAt F i).kids) (i + 1) := by
  have hd := tm_drop hi
  have hd2 : (F ++ (tmAt F i).kids).drop (i + 1) = F.drop (i + 1) ++ (tmAt F i).kids := List.drop_append_of_le_length (by omega)
  have ht2 : (F ++ (tmAt F i).kids).take (i + 1) = F.take i ++ [tmAt F i] := by rw [List.take_append_of_le_length (by omega), tm_take_next hi]
  refine ⟨by rw [List.length_append]; omega, by rw [List.length_append]; exact hl, ?_, ?_, fun y => ?_⟩
  · rw [h.good, hd, hd2, goodTs_append, goodTs, goodT_eq, hs, Bool.true_and, Bool.and_comm]
  · rw [h.size, hd, hd2, szTs_app, szTs, szT_eq]; omega
  · rw [h.mem, hd, hd2, ht2, nodesTs_append, nodesTs, nodesT_eq]
    simp only [List.mem_append, List.mem_cons, List.mem_nil_iff, or_false, List.cons_append]
    constructor
    · rintro (h | h | h | h)
      · exact .inl (.inl h)
      · exact .inl (.inr h)
      · exact .inr (.inr h)
      · exact .inr (.inl h)
    · rintro ((h | h) | (h | h))
      · exact .inl h
      · exact .inr (.inl h)
      · exact .inr (.inr (.inr h))
      · exact .inr (.inr (.inl h))

theorem walk_bad {t : Tm} {F : List Tm} {i : Nat} (h : Walk t F i) (hi : i < F.length) (hs : shapeB (tmAt F i) = false) : isTermB t = false := by
  have hd := tm_drop hi
  have h1 := h.good
  rw [hd, goodTs, goodT_eq (tmAt F i), hs] at h1
  simp [isTermB, h1]

theorem walk_great {t : Tm} {F : List Tm} {i : Nat} (h : Walk t F i) (hi : i < F.length) (hl : 60 < F.length + (tmAt F i).kids.length) : isTermB t = false := by
  have hd := tm_drop hi
  have h1 := h.size
  rw [hd, szTs, szT_eq (tmAt F i)] at h1
  have h2 := len_szTs (F.drop (i + 1))
  have h3 := len_szTs (tmAt F i).kids
  rw [List.length_drop] at h2
  have : ¬ szT t ≤ 60 := by omega
  simp [isTermB, this]

theorem walk_end {t : Tm} {F : List Tm} {i : Nat} (h : Walk t F i) (hi : F.length ≤ i) : isTermB t = true ∧ F.length = szT t ∧ ∀ y, y ∈ F ↔ y ∈ nodesT t := by
  have e : i = F.length := by have := h.le; omega
  subst e
  have h1 := h.good
  have h2 := h.size
  rw [List.drop_length] at h1 h2
  simp only [goodTs, szTs] at h1 h2
  have h3 := h.most
  refine ⟨by simp [isTermB, h1]; omega, by omega, fun y => ?_⟩
  rw [h.mem, List.drop_length, List.take_length]
  simp [nodesTs]
end
end Go.Proofs.Ytbfkfklaplgebaa
end

section
namespace Go.Proofs.Ytbfkfklaplgebaa
open Go.RowKit Go.Sort
set_option linter.unusedVariables false

theorem l1In_any (x a b : Int) (w : World) :
    Calls Try.prog 66 #[.int .i64 x, .int .i64 a, .int .i64 b] w fun e w' => e = .returned (.bool (decide (a ≤ x ∧ x ≤ b))) ∧ w = w' := by
  by_cases h1 : a ≤ x
  · by_cases h2 : x ≤ b
    · have r : Hid (decide (a ≤ x ∧ x ≤ b) = true) := decide_eq_true ⟨h1, h2⟩
      go_enter Try.func66, Try.ntmps66
      go_wp2
      go_ret
      first | exact ⟨rfl, rfl⟩ | exact ⟨bool_end r.out.symm, rfl⟩
    · have r : Hid (decide (a ≤ x ∧ x ≤ b) = false) := decide_eq_false fun h => h2 h.2
      have k2 : decide (x ≤ b) = false := decide_eq_false h2
      have k3 : b < x := by omega
      go_enter Try.func66, Try.ntmps66
      go_wp2
      go_ret
      first | exact ⟨rfl, rfl⟩ | exact ⟨bool_end r.out.symm, rfl⟩
  · have r : Hid (decide (a ≤ x ∧ x ≤ b) = false) := decide_eq_false fun h => h1 h.1
    have k1 : decide (a ≤ x) = false := decide_eq_false h1
    have k3 : x < a := by omega
    go_enter Try.func66, Try.ntmps66
    go_wp2
    go_ret
    first | exact ⟨rfl, rfl⟩ | exact ⟨bool_end r.out.symm, rfl⟩

set_option maxRecDepth 100000 in
set_option maxHeartbeats 1000000 in
theorem shape_spec_1_0 (n : Int) (A B : Option Addr) (pl c kl d : Nat) (w : World) (hpl : pl ≤ 1099511627776) (hkl : kl ≤ 9223372036854775807) (h0 : atomB n = false) :
    Calls Try.prog 80 #[.agg #[.int .i64 1, .int .i64 n, .slice A pl c, .slice B kl d]] w fun e w' => e = .returned (.bool false) ∧ Below w.heap.size w w' := by
  have hb0 : Below w.heap.size w (w.alloc (.cells #[.int .i64 1, .int .i64 n, .slice A pl c, .slice B kl d] 31)) := (Below.refl _ _).alloc (Nat.le_refl _) _
  have ca := fun W => l1Atom_any n W
  rw [h0] at ca
  clear h0
  go_enter Try.func80, Try.ntmps80
  go_wp2_with (first | (go_at_call 46; refine (ca _).mono ?_; rintro e w' ⟨rfl, rfl⟩))
  go_ret
  exact ⟨rfl, hb0⟩

set_option maxRecDepth 100000 in
set_option maxHeartbeats 1000000 in
theorem shape_spec_1_1 (n : Int) (A B : Option Addr) (pl c kl d : Nat) (w : World) (hpl : pl ≤ 1099511627776) (hkl : kl ≤ 9223372036854775807) (h0 : atomB n = true) (h1 : ¬ pl = 0) :
    Calls Try.prog 80 #[.agg #[.int .i64 1, .int .i64 n, .slice A pl c, .slice B kl d]] w fun e w' => e = .returned (.bool false) ∧ Below w.heap.size w w' := by
  have hb0 : Below w.heap.size w (w.alloc (.cells #[.int .i64 1, .int .i64 n, .slice A pl c, .slice B kl d] 31)) := (Below.refl _ _).alloc (Nat.le_refl _) _
  have ca := fun W => l1Atom_any n W
  rw [h0] at ca
  have tp : ((pl : Int) == 0) = false := by simp; omega
  clear h0 h1
  go_enter Try.func80, Try.ntmps80
  go_wp2_with (first | (go_at_call 46; refine (ca _).mono ?_; rintro e w' ⟨rfl, rfl⟩))
  go_ret
  exact ⟨rfl, hb0⟩

set_option maxRecDepth 100000 in
set_option maxHeartbeats 1000000 in
theorem shape_spec_1_2 (n : Int) (A B : Option Addr) (pl c kl d : Nat) (w : World) (hpl : pl ≤ 1099511627776) (hkl : kl ≤ 9223372036854775807) (h0 : atomB n = true) (h1 :  pl = 0) (h2 : ¬ kl = 0) :
    Calls Try.prog 80 #[.agg #[.int .i64 1, .int .i64 n, .slice A pl c, .slice B kl d]] w fun e w' => e = .returned (.bool false) ∧ Below w.heap.size w w' := by
  have hb0 : Below w.heap.size w (w.alloc (.cells #[.int .i64 1, .int .i64 n, .slice A pl c, .slice B kl d] 31)) := (Below.refl _ _).alloc (Nat.le_refl _) _
  have ca := fun W => l1Atom_any n W
  rw [h0] at ca
  subst h1
  have tk : ((kl : Int) == 0) = false := by simp; omega
  clear h0 h2
  go_enter Try.func80, Try.ntmps80
  go_wp2_with (first | (go_at_call 46; refine (ca _).mono ?_; rintro e w' ⟨rfl, rfl⟩))
  go_ret
  exact ⟨rfl, hb0⟩

set_option maxRecDepth 100000 in
set_option maxHeartbeats 1000000 in
theorem shape_spec_1_3 (n : Int) (A B : Option Addr) (pl c kl d : Nat) (w : World) (hpl : pl ≤ 1099511627776) (hkl : kl ≤ 9223372036854775807) (h0 : atomB n = true) (h1 :  pl = 0) (h2 :  kl = 0) :
    Calls Try.prog 80 #[.agg #[.int .i64 1, .int .i64 n, .slice A pl c, .slice B kl d]] w fun e w' => e = .returned (.bool true) ∧ Below w.heap.size w w' := by
  have hb0 : Below w.heap.size w (w.alloc (.cells #[.int .i64 1, .int .i64 n, .slice A pl c, .slice B kl d] 31)) := (Below.refl _ _).alloc (Nat.le_refl _) _
  have ca := fun W => l1Atom_any n W
  rw [h0] at ca
  subst h1
  subst h2
  clear h0
  go_enter Try.func80, Try.ntmps80
  go_wp2_with (first | (go_at_call 46; refine (ca _).mono ?_; rintro e w' ⟨rfl, rfl⟩))
  go_ret
  exact ⟨rfl, hb0⟩

set_option maxRecDepth 100000 in
set_option maxHeartbeats 1000000 in
theorem shape_spec_2_0 (n : Int) (A B : Option Addr) (pl c kl d : Nat) (w : World) (hpl : pl ≤ 1099511627776) (hkl : kl ≤ 9223372036854775807) (h0 : ¬ (0 ≤ n ∧ n ≤ 11)) :
    Calls Try.prog 80 #[.agg #[.int .i64 2, .int .i64 n, .slice A pl c, .slice B kl d]] w fun e w' => e = .returned (.bool false) ∧ Below w.heap.size w w' := by
  have hb0 : Below w.heap.size w (w.alloc (.cells #[.int .i64 2, .int .i64 n, .slice A pl c, .slice B kl d] 31)) := (Below.refl _ _).alloc (Nat.le_refl _) _
  have ca := fun W => l1In_any n 0 11 W
  rw [decide_eq_false h0] at ca
  clear h0
  go_enter Try.func80, Try.ntmps80
  go_wp2_with (first | (go_at_call 66; refine (ca _).mono ?_; rintro e w' ⟨rfl, rfl⟩))
  go_ret
  exact ⟨rfl, hb0⟩

set_option maxRecDepth 100000 in
set_option maxHeartbeats 1000000 in
theorem shape_spec_2_1 (n : Int) (A B : Option Addr) (pl c kl d : Nat) (w : World) (hpl : pl ≤ 1099511627776) (hkl : kl ≤ 9223372036854775807) (h0 :  (0 ≤ n ∧ n ≤ 11)) (h1 : ¬ pl = 0) :
    Calls Try.prog 80 #[.agg #[.int .i64 2, .int .i64 n, .slice A pl c, .slice B kl d]] w fun e w' => e = .returned (.bool false) ∧ Below w.heap.size w w' := by
  have hb0 : Below w.heap.size w (w.alloc (.cells #[.int .i64 2, .int .i64 n, .slice A pl c, .slice B kl d] 31)) := (Below.refl _ _).alloc (Nat.le_refl _) _
  have ca := fun W => l1In_any n 0 11 W
  rw [decide_eq_true h0] at ca
  have tp : ((pl : Int) == 0) = false := by simp; omega
  clear h0 h1
  go_enter Try.func80, Try.ntmps80
  go_wp2_with (first | (go_at_call 66; refine (ca _).mono ?_; rintro e w' ⟨rfl, rfl⟩))
  go_ret
  exact ⟨rfl, hb0⟩

set_option maxRecDepth 100000 in
set_option maxHeartbeats 1000000 in
theorem shape_spec_2_2 (n : Int) (A B : Option Addr) (pl c kl d : Nat) (w : World) (hpl : pl ≤ 1099511627776) (hkl : kl ≤ 9223372036854775807) (h0 :  (0 ≤ n ∧ n ≤ 11)) (h1 :  pl = 0) (h2 : ¬ (kl : Int) = n % 4) :
    Calls Try.prog 80 #[.agg #[.int .i64 2, .int .i64 n, .slice A pl c, .slice B kl d]] w fun e w' => e = .returned (.bool false) ∧ Below w.heap.size w w' := by
  have hb0 : Below w.heap.size w (w.alloc (.cells #[.int .i64 2, .int .i64 n, .slice A pl c, .slice B kl d] 31)) := (Below.refl _ _).alloc (Nat.le_refl _) _
  have ca := fun W => l1In_any n 0 11 W
  rw [decide_eq_true h0] at ca
  subst h1
  have tn : 0 ≤ n := h0.1
  have tk : ((kl : Int) == n % 4) = false := by simp; omega
  clear h0 h2
  go_enter Try.func80, Try.ntmps80
  go_wp2_with (first | (go_at_call 66; refine (ca _).mono ?_; rintro e w' ⟨rfl, rfl⟩))
  go_ret
  exact ⟨rfl, hb0⟩

set_option maxRecDepth 100000 in
set_option maxHeartbeats 1000000 in
theorem shape_spec_2_3 (n : Int) (A B : Option Addr) (pl c kl d : Nat) (w : World) (hpl : pl ≤ 1099511627776) (hkl : kl ≤ 9223372036854775807) (h0 :  (0 ≤ n ∧ n ≤ 11)) (h1 :  pl = 0) (h2 :  (kl : Int) = n % 4) :
    Calls Try.prog 80 #[.agg #[.int .i64 2, .int .i64 n, .slice A pl c, .slice B kl d]] w fun e w' => e = .returned (.bool true) ∧ Below w.heap.size w w' := by
  have hb0 : Below w.heap.size w (w.alloc (.cells #[.int .i64 2, .int .i64 n, .slice A pl c, .slice B kl d] 31)) := (Below.refl _ _).alloc (Nat.le_refl _) _
  have ca := fun W => l1In_any n 0 11 W
  rw [decide_eq_true h0] at ca
  subst h1
  have tn : 0 ≤ n := h0.1
  have tk : ((kl : Int) == n % 4) = true := by simp; omega
  clear h0 h2
  go_enter Try.func80, Try.ntmps80
  go_wp2_with (first | (go_at_call 66; refine (ca _).mono ?_; rintro e w' ⟨rfl, rfl⟩))
  go_ret
  exact ⟨rfl, hb0⟩

set_option maxRecDepth 100000 in
set_option maxHeartbeats 1000000 in
theorem shape_spec_3_0 (n : Int) (A B : Option Addr) (pl c kl d : Nat) (w : World) (hpl : pl ≤ 1099511627776) (hkl : kl ≤ 9223372036854775807) (h0 : atomB n = false) :
    Calls Try.prog 80 #[.agg #[.int .i64 3, .int .i64 n, .slice A pl c, .slice B kl d]] w fun e w' => e = .returned (.bool false) ∧ Below w.heap.size w w' := by
  have hb0 : Below w.heap.size w (w.alloc (.cells #[.int .i64 3, .int .i64 n, .slice A pl c, .slice B kl d] 31)) := (Below.refl _ _).alloc (Nat.le_refl _) _
  have ca := fun W => l1Atom_any n W
  rw [h0] at ca
  clear h0
  go_enter Try.func80, Try.ntmps80
  go_wp2_with (first | (go_at_call 46; refine (ca _).mono ?_; rintro e w' ⟨rfl, rfl⟩))
  go_ret
  exact ⟨rfl, hb0⟩

set_option maxRecDepth 100000 in
set_option maxHeartbeats 1000000 in
theorem shape_spec_3_1 (n : Int) (A B : Option Addr) (pl c kl d : Nat) (w : World) (hpl : pl ≤ 1099511627776) (hkl : kl ≤ 9223372036854775807) (h0 : atomB n = true) (h1 : ¬ pl = 0) :
    Calls Try.prog 80 #[.agg #[.int .i64 3, .int .i64 n, .slice A pl c, .slice B kl d]] w fun e w' => e = .returned (.bool false) ∧ Below w.heap.size w w' := by
  have hb0 : Below w.heap.size w (w.alloc (.cells #[.int .i64 3, .int .i64 n, .slice A pl c, .slice B kl d] 31)) := (Below.refl _ _).alloc (Nat.le_refl _) _
  have ca := fun W => l1Atom_any n W
  rw [h0] at ca
  have tp : ((pl : Int) == 0) = false := by simp; omega
  clear h0 h1
  go_enter Try.func80, Try.ntmps80
  go_wp2_with (first | (go_at_call 46; refine (ca _).mono ?_; rintro e w' ⟨rfl, rfl⟩))
  go_ret
  exact ⟨rfl, hb0⟩

set_option maxRecDepth 100000 in
set_option maxHeartbeats 1000000 in
theorem shape_spec_3_2 (n : Int) (A B : Option Addr) (pl c kl d : Nat) (w : World) (hpl : pl ≤ 1099511627776) (hkl : kl ≤ 9223372036854775807) (h0 : atomB n = true) (h1 :  pl = 0) (h2 : ¬ kl = 1) :
    Calls Try.prog 80 #[.agg #[.int .i64 3, .int .i64 n, .slice A pl c, .slice B kl d]] w fun e w' => e = .returned (.bool false) ∧ Below w.heap.size w w' := by
  have hb0 : Below w.heap.size w (w.alloc (.cells #[.int .i64 3, .int .i64 n, .slice A pl c, .slice B kl d] 31)) := (Below.refl _ _).alloc (Nat.le_refl _) _
  have ca := fun W => l1Atom_any n W
  rw [h0] at ca
  subst h1
  have tk : ((kl : Int) == 1) = false := by simp; omega
  clear h0 h2
  go_enter Try.func80, Try.ntmps80
  go_wp2_with (first | (go_at_call 46; refine (ca _).mono ?_; rintro e w' ⟨rfl, rfl⟩))
  go_ret
  exact ⟨rfl, hb0⟩

set_option maxRecDepth 100000 in
set_option maxHeartbeats 1000000 in
theorem shape_spec_3_3 (n : Int) (A B : Option Addr) (pl c kl d : Nat) (w : World) (hpl : pl ≤ 1099511627776) (hkl : kl ≤ 9223372036854775807) (h0 : atomB n = true) (h1 :  pl = 0) (h2 :  kl = 1) :
    Calls Try.prog 80 #[.agg #[.int .i64 3, .int .i64 n, .slice A pl c, .slice B kl d]] w fun e w' => e = .returned (.bool true) ∧ Below w.heap.size w w' := by
  have hb0 : Below w.heap.size w (w.alloc (.cells #[.int .i64 3, .int .i64 n, .slice A pl c, .slice B kl d] 31)) := (Below.refl _ _).alloc (Nat.le_refl _) _
  have ca := fun W => l1Atom_any n W
  rw [h0] at ca
  subst h1
  subst h2
  clear h0
  go_enter Try.func80, Try.ntmps80
  go_wp2_with (first | (go_at_call 46; refine (ca _).mono ?_; rintro e w' ⟨rfl, rfl⟩))
  go_ret
  exact ⟨rfl, hb0⟩

set_option maxRecDepth 100000 in
set_option maxHeartbeats 1000000 in
theorem shape_spec_4_0 (n : Int) (A B : Option Addr) (pl c kl d : Nat) (w : World) (hpl : pl ≤ 1099511627776) (hkl : kl ≤ 9223372036854775807) (h0 : ¬ (0 ≤ n ∧ n ≤ 9)) :
    Calls Try.prog 80 #[.agg #[.int .i64 4, .int .i64 n, .slice A pl c, .slice B kl d]] w fun e w' => e = .returned (.bool false) ∧ Below w.heap.size w w' := by
  have hb0 : Below w.heap.size w (w.alloc (.cells #[.int .i64 4, .int .i64 n, .slice A pl c, .slice B kl d] 31)) := (Below.refl _ _).alloc (Nat.le_refl _) _
  have ca := fun W => l1In_any n 0 9 W
  rw [decide_eq_false h0] at ca
  clear h0
  go_enter Try.func80, Try.ntmps80
  go_wp2_with (first | (go_at_call 66; refine (ca _).mono ?_; rintro e w' ⟨rfl, rfl⟩))
  go_ret
  exact ⟨rfl, hb0⟩

set_option maxRecDepth 100000 in
set_option maxHeartbeats 1000000 in
theorem shape_spec_4_1 (n : Int) (A B : Option Addr) (pl c kl d : Nat) (w : World) (hpl : pl ≤ 1099511627776) (hkl : kl ≤ 9223372036854775807) (h0 :  (0 ≤ n ∧ n ≤ 9)) (p : List (Int × Int)) (hlp : p.length = pl) (hA : PairsAt w A p) (h1 : permB p = false) :
    Calls Try.prog 80 #[.agg #[.int .i64 4, .int .i64 n, .slice A pl c, .slice B kl d]] w fun e w' => e = .returned (.bool false) ∧ Below w.heap.size w w' := by
  have hb0 : Below w.heap.size w (w.alloc (.cells #[.int .i64 4, .int .i64 n, .slice A pl c, .slice B kl d] 31)) := (Below.refl _ _).alloc (Nat.le_refl _) _
  have k9 : (w.alloc (.cells #[.int .i64 4, .int .i64 n, .slice A pl c, .slice B kl d] 31)).cell? ⟨w.heap.size, 3, none⟩ = some (.slice B kl d) := by
    rw [cell_of_row _ w.heap.size 3 _ _ _ (heap_alloc_new w _)]; rfl
  have H9 := Lib.hid k9
  clear k9
  have ca := fun W => l1In_any n 0 9 W
  rw [decide_eq_true h0] at ca
  have cp := fun W hW => isPerm_spec A c p W hW (by omega)
  rw [perm_same, h1, hlp] at cp
  have cp' := cp _ (hA.below hb0)
  clear h0 h1
  go_enter Try.func80, Try.ntmps80
  go_wp2_with (first | (go_at_call 66; refine (ca _).mono ?_; rintro e w' ⟨rfl, rfl⟩) | (go_at_call 31; refine cp'.mono ?_; rintro e w2 ⟨rfl, hb2⟩; have hb9 := hb0.trans (hb2.mono hb0.size); have hs9 := (hb2.cell (p := ⟨w.heap.size, 3, none⟩) (by simp)).trans H9.out))
  go_ret
  exact ⟨rfl, hb9⟩

set_option maxRecDepth 100000 in
set_option maxHeartbeats 1000000 in
theorem shape_spec_4_2 (n : Int) (A B : Option Addr) (pl c kl d : Nat) (w : World) (hpl : pl ≤ 1099511627776) (hkl : kl ≤ 9223372036854775807) (h0 :  (0 ≤ n ∧ n ≤ 9)) (p : List (Int × Int)) (hlp : p.length = pl) (hA : PairsAt w A p) (h1 : permB p = true) (h2 : ¬ kl = 0) :
    Calls Try.prog 80 #[.agg #[.int .i64 4, .int .i64 n, .slice A pl c, .slice B kl d]] w fun e w' => e = .returned (.bool false) ∧ Below w.heap.size w w' := by
  have hb0 : Below w.heap.size w (w.alloc (.cells #[.int .i64 4, .int .i64 n, .slice A pl c, .slice B kl d] 31)) := (Below.refl _ _).alloc (Nat.le_refl _) _
  have k9 : (w.alloc (.cells #[.int .i64 4, .int .i64 n, .slice A pl c, .slice B kl d] 31)).cell? ⟨w.heap.size, 3, none⟩ = some (.slice B kl d) := by
    rw [cell_of_row _ w.heap.size 3 _ _ _ (heap_alloc_new w _)]; rfl
  have H9 := Lib.hid k9
  clear k9
  have ca := fun W => l1In_any n 0 9 W
  rw [decide_eq_true h0] at ca
  have cp := fun W hW => isPerm_spec A c p W hW (by omega)
  rw [perm_same, h1, hlp] at cp
  have cp' := cp _ (hA.below hb0)
  have tk : ((kl : Int) == 0) = false := by simp; omega
  clear h0 h1 h2
  go_enter Try.func80, Try.ntmps80
  go_wp2_with (first | (go_at_call 66; refine (ca _).mono ?_; rintro e w' ⟨rfl, rfl⟩) | (go_at_call 31; refine cp'.mono ?_; rintro e w2 ⟨rfl, hb2⟩; have hb9 := hb0.trans (hb2.mono hb0.size); have hs9 := (hb2.cell (p := ⟨w.heap.size, 3, none⟩) (by simp)).trans H9.out))
  go_ret
  exact ⟨rfl, hb9⟩

set_option maxRecDepth 100000 in
set_option maxHeartbeats 1000000 in
theorem shape_spec_4_3 (n : Int) (A B : Option Addr) (pl c kl d : Nat) (w : World) (hpl : pl ≤ 1099511627776) (hkl : kl ≤ 9223372036854775807) (h0 :  (0 ≤ n ∧ n ≤ 9)) (p : List (Int × Int)) (hlp : p.length = pl) (hA : PairsAt w A p) (h1 : permB p = true) (h2 :  kl = 0) :
    Calls Try.prog 80 #[.agg #[.int .i64 4, .int .i64 n, .slice A pl c, .slice B kl d]] w fun e w' => e = .returned (.bool true) ∧ Below w.heap.size w w' := by
  have hb0 : Below w.heap.size w (w.alloc (.cells #[.int .i64 4, .int .i64 n, .slice A pl c, .slice B kl d] 31)) := (Below.refl _ _).alloc (Nat.le_refl _) _
  have k9 : (w.alloc (.cells #[.int .i64 4, .int .i64 n, .slice A pl c, .slice B kl d] 31)).cell? ⟨w.heap.size, 3, none⟩ = some (.slice B kl d) := by
    rw [cell_of_row _ w.heap.size 3 _ _ _ (heap_alloc_new w _)]; rfl
  have H9 := Lib.hid k9
  clear k9
  have ca := fun W => l1In_any n 0 9 W
  rw [decide_eq_true h0] at ca
  have cp := fun W hW => isPerm_spec A c p W hW (by omega)
  rw [perm_same, h1, hlp] at cp
  have cp' := cp _ (hA.below hb0)
  subst h2
  clear h0 h1
  go_enter Try.func80, Try.ntmps80
  go_wp2_with (first | (go_at_call 66; refine (ca _).mono ?_; rintro e w' ⟨rfl, rfl⟩) | (go_at_call 31; refine cp'.mono ?_; rintro e w2 ⟨rfl, hb2⟩; have hb9 := hb0.trans (hb2.mono hb0.size); have hs9 := (hb2.cell (p := ⟨w.heap.size, 3, none⟩) (by simp)).trans H9.out))
  go_ret
  exact ⟨rfl, hb9⟩

set_option maxRecDepth 100000 in
theorem shape_spec_0 (o n : Int) (A B : Option Addr) (pl c kl d : Nat) (w : World) (h1 : ¬ o = 1) (h2 : ¬ o = 2) (h3 : ¬ o = 3) (h4 : ¬ o = 4) :
    Calls Try.prog 80 #[.agg #[.int .i64 o, .int .i64 n, .slice A pl c, .slice B kl d]] w fun e w' => e = .returned (.bool false) ∧ Below w.heap.size w w' := by
  have hb0 : Below w.heap.size w (w.alloc (.cells #[.int .i64 o, .int .i64 n, .slice A pl c, .slice B kl d] 31)) := (Below.refl _ _).alloc (Nat.le_refl _) _
  have t1 : (o == 1) = false := by simpa using h1
  have t2 : (o == 2) = false := by simpa using h2
  have t3 : (o == 3) = false := by simpa using h3
  have t4 : (o == 4) = false := by simpa using h4
  clear h1 h2 h3 h4
  go_enter Try.func80, Try.ntmps80
  go_wp2
  go_ret
  exact ⟨rfl, hb0⟩

theorem shape_spec_any (t : Tm) (x : Value) (w : World) (hx : TmIn w x t) (hpl : t.perm.length ≤ 1048576) (hkl : t.kids.length ≤ 1048576) :
    Calls Try.prog 80 #[x] w fun e w' => e = .returned (.bool (shapeB t)) ∧ Below w.heap.size w w' := by
  obtain ⟨A, c, kv, rfl, hp, hk⟩ := hx
  obtain ⟨B, d, rfl⟩ := hk.form
  unfold shapeB
  by_cases o1 : t.op = 1
  · rw [if_pos o1, o1]
    by_cases h0 : atomB t.num = true
    · by_cases h1 : t.perm.length = 0
      · by_cases h2 : t.kids.length = 0
        · rw [h0, decide_eq_true h1, decide_eq_true h2]; exact shape_spec_1_3 _ _ _ _ _ _ _ w (by omega) (by omega) h0 h1 h2
        · rw [h0, decide_eq_true h1, decide_eq_false h2]; exact shape_spec_1_2 _ _ _ _ _ _ _ w (by omega) (by omega) h0 h1 h2
      · rw [h0, decide_eq_false h1]; exact shape_spec_1_1 _ _ _ _ _ _ _ w (by omega) (by omega) h0 h1
    · rw [Bool.not_eq_true] at h0; rw [h0]; exact shape_spec_1_0 _ _ _ _ _ _ _ w (by omega) (by omega) h0
  · rw [if_neg o1]
    by_cases o2 : t.op = 2
    · rw [if_pos o2, o2]
      by_cases h0 : 0 ≤ t.num ∧ t.num ≤ 11
      · by_cases h1 : t.perm.length = 0
        · by_cases h2 : (t.kids.length : Int) = t.num % 4
          · rw [decide_eq_true h0, decide_eq_true h1, decide_eq_true h2]; exact shape_spec_2_3 _ _ _ _ _ _ _ w (by omega) (by omega) h0 h1 h2
          · rw [decide_eq_true h0, decide_eq_true h1, decide_eq_false h2]; exact shape_spec_2_2 _ _ _ _ _ _ _ w (by omega) (by omega) h0 h1 h2
        · rw [decide_eq_true h0, decide_eq_false h1]; exact shape_spec_2_1 _ _ _ _ _ _ _ w (by omega) (by omega) h0 h1
      · rw [decide_eq_false h0]; exact shape_spec_2_0 _ _ _ _ _ _ _ w (by omega) (by omega) h0
    · rw [if_neg o2]
      by_cases o3 : t.op = 3
      · rw [if_pos o3, o3]
        by_cases h0 : atomB t.num = true
        · by_cases h1 : t.perm.length = 0
          · by_cases h2 : t.kids.length = 1
            · rw [h0, decide_eq_true h1, decide_eq_true h2]; exact shape_spec_3_3 _ _ _ _ _ _ _ w (by omega) (by omega) h0 h1 h2
            · rw [h0, decide_eq_true h1, decide_eq_false h2]; exact shape_spec_3_2 _ _ _ _ _ _ _ w (by omega) (by omega) h0 h1 h2
          · rw [h0, decide_eq_false h1]; exact shape_spec_3_1 _ _ _ _ _ _ _ w (by omega) (by omega) h0 h1
        · rw [Bool.not_eq_true] at h0; rw [h0]; exact shape_spec_3_0 _ _ _ _ _ _ _ w (by omega) (by omega) h0
      · rw [if_neg o3]
        by_cases o4 : t.op = 4
        · rw [if_pos o4, o4]
          by_cases h0 : 0 ≤ t.num ∧ t.num ≤ 9
          · by_cases h1 : permB t.perm = true
            · by_cases h2 : t.kids.length = 0
              · rw [decide_eq_true h0, h1, decide_eq_true h2]; exact shape_spec_4_3 _ _ _ _ _ _ _ w (by omega) (by omega) h0 _ rfl hp h1 h2
              · rw [decide_eq_true h0, h1, decide_eq_false h2]; exact shape_spec_4_2 _ _ _ _ _ _ _ w (by omega) (by omega) h0 _ rfl hp h1 h2
            · rw [Bool.not_eq_true] at h1; rw [decide_eq_true h0, h1]; exact shape_spec_4_1 _ _ _ _ _ _ _ w (by omega) (by omega) h0 _ rfl hp h1
          · rw [decide_eq_false h0]; exact shape_spec_4_0 _ _ _ _ _ _ _ w (by omega) (by omega) h0
        · rw [if_neg o4]
          exact shape_spec_0 _ _ _ _ _ _ _ _ w o1 o2 o3 o4

end Go.Proofs.Ytbfkfklaplgebaa
end

section
namespace Go.Proofs.Ytbfkfklaplgebaa
open Go.RowKit Go.Sort

/-- A struct of four cells in a box, in a later world. -/
theorem box4 {a b c d : Value} {T : TypeId} {w w1 : World} (hb : Below (w.alloc (.cells #[a, b, c, d] T)).heap.size (w.alloc (.cells #[a, b, c, d] T)) w1) :
    w1.cell? ⟨w.heap.size, 0, none⟩ = some a ∧ w1.cell? ⟨w.heap.size, 1, none⟩ = some b ∧ w1.cell? ⟨w.heap.size, 2, none⟩ = some c ∧ w1.cell? ⟨w.heap.size, 3, none⟩ = some d := by
  have h := (hb.block w.heap.size (by simp)).trans (heap_alloc_new w _)
  refine ⟨?_, ?_, ?_, ?_⟩ <;> rw [cell_of_row w1 w.heap.size _ _ _ _ h] <;> rfl

mutual
theorem szT_le : ∀ t : Tm, szT t ≤ 1 + cntT t
  | .mk o n p ks => by
    have := szTs_le ks
    rw [szT, cntT]; omega
theorem szTs_le : ∀ ts : List Tm, szTs ts ≤ ts.length + sumT ts
  | [] => by simp [szTs]
  | t :: r => by
    have h1 := szT_le t
    have h2 := szTs_le r
    rw [szTs, sumT, List.length_cons]; omega
end

theorem szTs_append : ∀ a b : List Tm, szTs (a ++ b) = szTs a + szTs b
  | [], b => by simp [szTs]
  | t :: r, b => by rw [List.cons_append, szTs, szTs, szTs_append r b]; omega
theorem szTs_next {ts : List Tm} {k : Nat} (h : k < ts.length) : szTs (ts.take (k + 1)) = szTs (ts.take k) + szT (tmAt ts k) := by
  rw [tm_take_next h, szTs_append]
  simp [szTs]
theorem szTs_take (ts : List Tm) (k : Nat) : szTs (ts.take k) ≤ szTs ts := by
  have := szTs_append (ts.take k) (ts.drop k)
  rw [List.take_append_drop] at this
  omega

/-- The answer, and new blocks at most. -/
def BoolPost (b : Bool) (w : World) (e : Ending) (w' : World) : Prop := e = .returned (.bool b) ∧ Below w.heap.size w w'
def IntPost (n : Int) (w : World) (e : Ending) (w' : World) : Prop := e = .returned (.int .i64 n) ∧ Below w.heap.size w w'

set_option maxRecDepth 100000 in
set_option maxHeartbeats 2000000 in
theorem l2Good_of (t : Tm) (x : Value) (w : World) (hx : TmIn w x t) (hpl : t.perm.length ≤ 1048576) (hkl : t.kids.length ≤ 1048576)
    (ih : ∀ i, i < t.kids.length → ∀ (w' : World) (y : Value), TmIn w' y (tmAt t.kids i) → Calls Try.prog 57 #[y] w' (BoolPost (goodT (tmAt t.kids i)) w')) :
    Calls Try.prog 57 #[x] w (BoolPost (goodT t) w) := by
  have hsh := fun W hW => shape_spec_any t x W hW hpl hkl
  obtain ⟨A, c, kv, rfl, hp, hk⟩ := hx
  obtain ⟨B, d, rfl⟩ := hk.form
  have hg := Lib.hid (goodT_eq t)
  have hb0 : Below w.heap.size w (w.alloc (.cells #[.int .i64 t.op, .int .i64 t.num, .slice A t.perm.length c, .slice B t.kids.length d] 31)) := (Below.refl _ _).alloc (Nat.le_refl _) _
  have hsh' := hsh _ ⟨A, c, _, rfl, hp.below hb0, hk.below hb0⟩
  by_cases h1 : shapeB t = true
  · rw [h1] at hsh' hg
    rw [Bool.true_and] at hg
    rw [hg.out]
    clear h1 hsh
    go_enter Try.func57, Try.ntmps57
    go_wp2_with fail
    refine hsh'.mono ?_
    rintro e w1 ⟨rfl, hb1⟩
    obtain ⟨b0, b1, b2, b3⟩ := box4 hb1
    have hs1 := hb0.trans (hb1.mono hb0.size)
    clear hsh' hb0 hb1 hp
    go_wp2
    clear b0 b1 b2 b3
    go_loopw [11] (fun i wr => ∃ k : Nat, k ≤ t.kids.length ∧ i = .int .i64 k ∧ goodTs (t.kids.take k) = true ∧ Below w.heap.size w wr) (fun i _ => t.kids.length - (intOf i).toNat)
    case atStart => exact ⟨0, Nat.zero_le _, rfl, by simp [goodTs], hs1⟩
    case round =>
      clear hs1
      obtain ⟨k, hk', rfl, hgt, hb⟩ := hrel
      have HGT := Lib.hid hgt
      clear hgt
      by_cases hlt : k < t.kids.length
      · obtain ⟨b, off, rfl, hbl, hget⟩ := (hk.below hb).get (by omega)
        obtain ⟨A1, c1, kv1, d0, d1, d2, d3, hp1, hk1⟩ := hget k hlt
        obtain ⟨B1, e1, rfl⟩ := hk1.form
        have hbx : Below wr.heap.size wr (wr.alloc (.cells #[.int .i64 (tmAt t.kids k).op, .int .i64 (tmAt t.kids k).num, .slice A1 (tmAt t.kids k).perm.length c1, .slice B1 (tmAt t.kids k).kids.length e1] 31)) := (Below.refl _ _).alloc (Nat.le_refl _) _
        have hct := ih k hlt _ _ ⟨A1, c1, _, rfl, hp1.below hbx, hk1.below hbx⟩
        have hb2 := hb.trans (hbx.mono hb.size)
        have hno := fun h => Lib.hid (goodTs_no hlt h)
        have hnx := Lib.hid (goodTs_next hlt)
        generalize tmAt t.kids k = u at d0 d1 d2 d3 hct hbx hb2 hno hnx
        clear hget hp1 hk1 hbl hbx hb ih hk
        by_cases hgu : goodT u = true
        · rw [hgu] at hct
          have hnx' : Hid (goodTs (t.kids.take (k + 1)) = true) := by show goodTs (t.kids.take (k + 1)) = true; rw [hnx.out, HGT.out, hgu]; rfl
          clear hno hgu hnx
          go_wp2_with fail
          refine hct.mono ?_
          rintro e w2 ⟨rfl, hb3⟩
          have hb4 := hb2.trans (hb3.mono hb2.size)
          clear hct hb2 hb3 d0 d1 d2 d3
          go_wp2
          refine ⟨⟨k + 1, by omega, by go_num, hnx'.out, hb4⟩, ?_⟩
          simp only [intOf]
          omega
        · have hgu' : goodT u = false := by simpa using hgu
          rw [hgu'] at hct
          have hr := hno hgu'
          clear hno hgu hgu' hnx
          go_wp2_with fail
          refine hct.mono ?_
          rintro e w2 ⟨rfl, hb3⟩
          have hpost : BoolPost (goodTs t.kids) w (.returned (.bool false)) w2 := ⟨by rw [hr.out], hb2.trans (hb3.mono hb2.size)⟩
          clear hct hb2 hb3 d0 d1 d2 d3 hr
          go_wp2
          go_ret
          exact hpost
      · have hpost : BoolPost (goodTs t.kids) w (.returned (.bool true)) wr := ⟨by rw [← HGT.out, List.take_of_length_le (by omega)], hb⟩
        clear ih hk hb
        go_wp2
        go_ret
        exact hpost
  · have h1' : shapeB t = false := by simpa using h1
    rw [h1'] at hsh' hg
    rw [Bool.false_and] at hg
    rw [hg.out]
    clear h1 h1' hsh ih
    go_enter Try.func57, Try.ntmps57
    go_wp2_with fail
    refine hsh'.mono ?_
    rintro e w1 ⟨rfl, hb1⟩
    have hpost : BoolPost false w (.returned (.bool false)) w1 := ⟨rfl, hb0.trans (hb1.mono hb0.size)⟩
    clear hsh' hb0 hb1 hp hk
    go_wp2
    go_ret
    exact hpost

theorem l2Good_any : ∀ (N : Nat) (t : Tm), szT t ≤ N → Fit t → ∀ (w : World) (x : Value), TmIn w x t → Calls Try.prog 57 #[x] w (BoolPost (goodT t) w) := by
  intro N
  induction N with
  | zero => intro t hN; rw [szT_eq] at hN; omega
  | succ N ih =>
    intro t hN hf w x hx
    have h2 := (fit_eq _).1 hf
    refine l2Good_of t x w hx h2.1 h2.2.1 fun i hi w' y hy => ?_
    have h3 := szT_at hi
    rw [szT_eq] at hN
    exact ih _ (by omega) (fits_at h2.2.2 hi) w' y hy

set_option maxRecDepth 100000 in
set_option maxHeartbeats 2000000 in
theorem l2Size_of (t : Tm) (x : Value) (w : World) (hx : TmIn w x t) (hkl : t.kids.length ≤ 1048576) (hsz : szT t ≤ 9007199254740992)
    (ih : ∀ i, i < t.kids.length → ∀ (w' : World) (y : Value), TmIn w' y (tmAt t.kids i) → Calls Try.prog 58 #[y] w' (IntPost (szT (tmAt t.kids i)) w')) :
    Calls Try.prog 58 #[x] w (IntPost (szT t) w) := by
  obtain ⟨A, c, kv, rfl, hp, hk⟩ := hx
  obtain ⟨B, d, rfl⟩ := hk.form
  have hg := szT_eq t
  have HG := Lib.hid hg
  have hb0 : Below w.heap.size w (w.alloc (.cells #[.int .i64 t.op, .int .i64 t.num, .slice A t.perm.length c, .slice B t.kids.length d] 31)) := (Below.refl _ _).alloc (Nat.le_refl _) _
  have hle : szTs t.kids ≤ 9007199254740991 := by omega
  clear hg hsz
  go_enter Try.func58, Try.ntmps58
  go_wp2
  go_loopw [3, 9] (fun s i wr => ∃ k : Nat, k ≤ t.kids.length ∧ i = .int .i64 k ∧ s = .int .i64 (1 + (szTs (t.kids.take k) : Nat)) ∧ Below w.heap.size w wr) (fun _ i _ => t.kids.length - (intOf i).toNat)
  case atStart => exact ⟨0, Nat.zero_le _, rfl, by simp [szTs], hb0⟩
  case round =>
    clear hb0 hp
    obtain ⟨k, hk', rfl, rfl, hb⟩ := hrel
    by_cases hlt : k < t.kids.length
    · obtain ⟨b, off, rfl, hbl, hget⟩ := (hk.below hb).get (by omega)
      obtain ⟨A1, c1, kv1, d0, d1, d2, d3, hp1, hk1⟩ := hget k hlt
      obtain ⟨B1, e1, rfl⟩ := hk1.form
      have hbx : Below wr.heap.size wr (wr.alloc (.cells #[.int .i64 (tmAt t.kids k).op, .int .i64 (tmAt t.kids k).num, .slice A1 (tmAt t.kids k).perm.length c1, .slice B1 (tmAt t.kids k).kids.length e1] 31)) := (Below.refl _ _).alloc (Nat.le_refl _) _
      have hct := ih k hlt _ _ ⟨A1, c1, _, rfl, hp1.below hbx, hk1.below hbx⟩
      have hb2 := hb.trans (hbx.mono hb.size)
      have hnx := szTs_next hlt
      have htk := szTs_take t.kids (k + 1)
      generalize tmAt t.kids k = u at d0 d1 d2 d3 hct hbx hb2 hnx
      generalize hs : szTs (t.kids.take k) = s at hnx
      have hse : Hid ((1 : Int) + ((szTs (t.kids.take (k + 1)) : Nat) : Int) = 1 + (s : Int) + (szT u : Nat)) := by show (1 : Int) + ((szTs (t.kids.take (k + 1)) : Nat) : Int) = 1 + (s : Int) + (szT u : Nat); omega
      have hbd : (1 : Int) + (s : Int) + (szT u : Nat) ≤ 9007199254740992 := by omega
      clear hget hp1 hk1 hbl hbx hb ih hk hs hnx htk
      generalize szT u = z at hct hse hbd
      go_wp2_with fail
      refine hct.mono ?_
      rintro e w2 ⟨rfl, hb3⟩
      have hb4 := hb2.trans (hb3.mono hb2.size)
      clear hct hb2 hb3 d0 d1 d2 d3
      go_wp2
      refine ⟨⟨k + 1, by omega, by go_num, by rw [hse.out], hb4⟩, ?_⟩
      simp only [intOf]
      omega
    · have hpost : IntPost (szT t) w (.returned (.int .i64 (1 + (szTs (t.kids.take k) : Nat)))) wr := ⟨by rw [HG.out, List.take_of_length_le (by omega)]; congr 2, hb⟩
      clear ih hk hb
      go_wp2
      go_ret
      exact hpost

theorem l2Size_any : ∀ (N : Nat) (t : Tm), szT t ≤ N → N ≤ 9007199254740992 → Fit t → ∀ (w : World) (x : Value), TmIn w x t → Calls Try.prog 58 #[x] w (IntPost (szT t) w) := by
  intro N
  induction N with
  | zero => intro t hN; rw [szT_eq] at hN; omega
  | succ N ih =>
    intro t hN hNb hf w x hx
    have h2 := (fit_eq _).1 hf
    refine l2Size_of t x w hx h2.2.1 (by omega) fun i hi w' y hy => ?_
    have h3 := szT_at hi
    rw [szT_eq] at hN
    exact ih _ (by omega) (by omega) (fits_at h2.2.2 hi) w' y hy

set_option maxRecDepth 100000 in
theorem isTerm_spec (t : Tm) (x : Value) (w : World) (hx : TmIn w x t) (hc : cntT t ≤ 1048576) :
    Calls Try.prog 32 #[x] w (BoolPost (isTermB t) w) := by
  have hle := szT_le t
  have hgd := fun W hW => l2Good_any _ t (Nat.le_refl _) (fit_of t hc) W x hW
  have hsz := fun W hW => l2Size_any (szT t) t (Nat.le_refl _) (by omega) (fit_of t hc) W x hW
  have hr0 : isTermB t = (goodT t && decide (szT t ≤ 60)) := rfl
  have hr := Lib.hid hr0
  clear hr0
  have hx' := hx
  obtain ⟨A, c, kv, rfl, hp, hk⟩ := hx
  obtain ⟨B, d, rfl⟩ := hk.form
  have hb0 : Below w.heap.size w (w.alloc (.cells #[.int .i64 t.op, .int .i64 t.num, .slice A t.perm.length c, .slice B t.kids.length d] 31)) := (Below.refl _ _).alloc (Nat.le_refl _) _
  have hg0 := hgd _ (hx'.below hb0)
  clear hgd
  by_cases h1 : goodT t = true
  · rw [h1] at hg0 hr
    rw [Bool.true_and] at hr
    clear h1
    go_enter Try.func32, Try.ntmps32
    go_wp2_with fail
    refine hg0.mono ?_
    rintro e w1 ⟨rfl, hb1⟩
    obtain ⟨b0, b1, b2, b3⟩ := box4 hb1
    have hs1 := hb0.trans (hb1.mono hb0.size)
    have hs0 := hsz _ (hx'.below hs1)
    clear hg0 hb0 hb1 hp hk hsz hx'
    generalize hz : szT t = z at hs0 hr hle
    clear hz
    go_wp2_with fail
    refine hs0.mono ?_
    rintro e w2 ⟨rfl, hb2⟩
    have hpost : BoolPost (isTermB t) w (.returned (.bool (decide (z ≤ 60)))) w2 := ⟨by rw [hr.out], hs1.trans (hb2.mono hs1.size)⟩
    clear hs0 hs1 hb2 hr b0 b1 b2 b3
    by_cases h2 : z ≤ 60
    · rw [decide_eq_true h2] at hpost
      have k2 : (z : Int) ≤ 60 := by omega
      go_wp2
      go_ret
      exact hpost
    · rw [decide_eq_false h2] at hpost
      have k2 : decide ((z : Int) ≤ 60) = false := by simp; omega
      go_wp2
      go_ret
      exact hpost
  · have h1' : goodT t = false := by simpa using h1
    rw [h1'] at hg0 hr
    rw [Bool.false_and] at hr
    clear h1 h1' hsz hx'
    go_enter Try.func32, Try.ntmps32
    go_wp2_with fail
    refine hg0.mono ?_
    rintro e w1 ⟨rfl, hb1⟩
    have hpost : BoolPost (isTermB t) w (.returned (.bool false)) w1 := ⟨by rw [hr.out], hb0.trans (hb1.mono hb0.size)⟩
    clear hg0 hb0 hb1 hp hk hr
    go_wp2
    go_ret
    exact hpost

end Go.Proofs.Ytbfkfklaplgebaa
end

section
namespace Go.Proofs.Ytbfkfklaplgebaa
open Go.RowKit

/-- The two slices of a term. -/
theorem ownL_parts {w : World} {S : List Nat} {a b pv kv : Value} {t : Tm} (h : OwnL w S [a, b, pv, kv] (encT t)) :
    ∃ P K, (∀ x, x ∈ S ↔ x ∈ P ∨ x ∈ K) ∧ (∀ x ∈ P, x ∉ K) ∧ Own w P pv (pairMem t.perm) ∧ Own w K kv (tmsMem t.kids) := by
  rw [encT_eq] at h
  cases h with
  | cons h0 k0 hd0 =>
    cases k0 with
    | cons h1 k1 hd1 =>
      cases k1 with
      | cons h2 k2 hd2 =>
        cases k2 with
        | cons h3 k3 hd3 =>
          cases k3
          cases h0
          cases h1
          exact ⟨_, _, fun x => by simp, fun x hx hk => hd2 x hx (by simpa using hk), h2, h3⟩

mutual
theorem mcT_le : ∀ t : Tm, mcT t ≤ 2 + 2 * cntT t
  | .mk o n p ks => by
    have := mcTs_le ks
    rw [mcT, cntT]; omega
theorem mcTs_le : ∀ ts : List Tm, mcTs ts ≤ 2 * (ts.length + sumT ts)
  | [] => by simp [mcTs]
  | t :: r => by
    have h1 := mcT_le t
    have h2 := mcTs_le r
    rw [mcTs, sumT, List.length_cons]; omega
end

set_option maxRecDepth 100000 in
set_option maxHeartbeats 2000000 in
theorem markTerm_any (t : Tm) (hf : Fit t) (S : List Nat) (A B : Option Addr) (c d : Nat) (k : Int) (w : World) (hk0 : 0 ≤ k) (hk1 : k + t.perm.length * 2 + mcTs t.kids ≤ 9007199254740992)
    (h : OwnL w S [.int .i64 t.op, .int .i64 t.num, .slice A t.perm.length c, .slice B t.kids.length d] (encT t)) :
    Calls Try.prog 16 #[.agg #[.int .i64 t.op, .int .i64 t.num, .slice A t.perm.length c, .slice B t.kids.length d], .int .i64 k] w
      fun e w' => e = .returned (.int .i64 (k + t.perm.length * 2 + mcTs t.kids)) ∧ Only S w w' := by
  have h2 := (fit_eq _).1 hf
  obtain ⟨P, K, hS, hd, hP, hK⟩ := ownL_parts h
  have hbx : Below w.heap.size w (w.alloc (.cells #[.int .i64 t.op, .int .i64 t.num, .slice A t.perm.length c, .slice B t.kids.length d] 31)) := (Below.refl _ _).alloc (Nat.le_refl _) _
  have hP1 := hP.keep hbx
  have hK1 := hK.keep hbx
  obtain ⟨how, hPe⟩ := pairMem_own hP1
  have hmp := markPairS_own 0 t.perm.length (.slice A t.perm.length c) _ k _ how (by omega) (by omega)
  have hlt := fun (b : Nat) hb => hP.lt b hb
  clear h hP hK hP1 how
  go_enter Try.func16, Try.ntmps16
  go_wp2_with fail
  (with_reducible refine hmp.mono ?_)
  rintro e w1 ⟨rfl, _, hg1⟩
  have hon1 : Only P (w.alloc (.cells #[.int .i64 t.op, .int .i64 t.num, .slice A t.perm.length c, .slice B t.kids.length d] 31)) w1 := Only.of_grown hg1 (fun b e => by rw [hPe, e]; simp)
  have hK2 := hK1.alike (w' := w1) (fun b hb => hon1.block b (hK1.lt b hb) (fun hp => hd b hp hb))
  have b3 : w1.cell? ⟨w.heap.size, 3, none⟩ = some (.slice B t.kids.length d) := by
    have h9 := (hon1.block w.heap.size (by simp) (fun hp => by have := hlt _ hp; omega)).trans (heap_alloc_new w _)
    rw [cell_of_row w1 w.heap.size _ _ _ _ h9]; rfl
  have hon2 : Only S w w1 := (only_of_below hbx).trans (hon1.wide fun b hb => (hS b).2 (.inl hb))
  have hmk := markTermS_any _ t.kids (Nat.le_refl _) h2.2.2 h2.2.1 K _ (k + t.perm.length * 2) w1 (by omega) hk1 hK2
  clear hmp hg1 hon1 hK1 hK2 hPe hbx
  go_wp2_with fail
  (with_reducible refine hmk.mono ?_)
  rintro e w2 ⟨rfl, _, hon3⟩
  have hon4 := hon2.trans (hon3.wide fun b hb => (hS b).2 (.inr hb))
  clear hmk hon2 hon3 b3
  go_wp2
  go_ret
  exact ⟨rfl, hon4⟩

end Go.Proofs.Ytbfkfklaplgebaa
end

section
namespace Go.Proofs.Ytbfkfklaplgebaa
open Go.RowKit Go.Sort
set_option linter.unusedVariables false

/-- A new slice of the elements. -/
def NewFreshs (l : List (Int × Int)) (w : World) (e : Ending) (w' : World) : Prop :=
  ∃ v, e = .returned v ∧ w'.ownsRow w.heap.size 80 2 v l.length (cellsOf l) ∧ Below w.heap.size w w'

theorem fresh_info : (Try.prog.info? 80).map (fun i => (i.zero, i.size, i.bytes)) = some (some (.agg #[.int .i64 0, .int .i64 0]), 2, 16) := by kernel_rfl

theorem eqFresh_any (a b c d : Int) (w : World) :
    Calls Try.prog 56 #[.agg #[.int .i64 a, .int .i64 b], .agg #[.int .i64 c, .int .i64 d]] w
      fun e w' => e = .returned (.bool (prEq a b c d)) ∧ Below w.heap.size w w' := by
  have hend : Below w.heap.size w ((w.alloc (.cells #[.int .i64 a, .int .i64 b] 80)).alloc (.cells #[.int .i64 c, .int .i64 d] 80)) :=
    ((Below.refl _ _).alloc (Nat.le_refl _) _).alloc (by simp) _
  by_cases h1 : a = c
  · subst h1
    have k1 : (a != a) = false := by simp
    by_cases h2 : b = d
    · subst h2
      have k2 : (b != b) = false := by simp
      go_enter Try.func56, Try.ntmps56
      go_wp2
      go_ret
      exact ⟨bool_end (by simp [prEq]), hend⟩
    · have k2 : (b != d) = true := by simpa using h2
      go_enter Try.func56, Try.ntmps56
      go_wp2
      go_ret
      exact ⟨bool_end (by simp [prEq, h2]), hend⟩
  · have k1 : (a != c) = true := by simpa using h1
    go_enter Try.func56, Try.ntmps56
    go_wp2
    go_ret
    exact ⟨bool_end (by simp [prEq, h1]), hend⟩

set_option maxHeartbeats 400000 in
theorem eqFreshS_any (A B : Option Addr) (c d : Nat) (xs ys : List (Int × Int)) (w : World) (hx : PairsAt w A xs) (hy : PairsAt w B ys) (hlx : xs.length ≤ 9223372036854775807) :
    Calls Try.prog 27 #[.slice A xs.length c, .slice B ys.length d] w
      fun e w' => e = .returned (.bool (decide (xs = ys))) ∧ Below w.heap.size w w' := by
  by_cases hl : xs.length = ys.length
  · have k0 : ((xs.length : Int) != (ys.length : Int)) = false := by simp [hl]
    have HL := Lib.hid hl
    clear hl
    go_enter Try.func27, Try.ntmps27
    go_wp2
    go_loopw [5] (fun i wr => ∃ k : Nat, k ≤ xs.length ∧ i = .int .i64 k ∧ xs.take k = ys.take k ∧ Below w.heap.size w wr) (fun i _ => xs.length - (intOf i).toNat)
    case atStart => exact ⟨0, Nat.zero_le _, rfl, rfl, Below.refl _ _⟩
    case round =>
      obtain ⟨k, hk, rfl, ht, hb⟩ := hrel
      have HT := Lib.hid ht
      clear ht
      by_cases hlt : k < xs.length
      · obtain ⟨b1, o1, rfl, hb1, hc1⟩ := hx (by omega)
        obtain ⟨b2, o2, rfl, hb2, hc2⟩ := hy (by have := HL.out; omega)
        obtain ⟨c1, c2⟩ := hc1 k hlt
        obtain ⟨c3, c4⟩ := hc2 k (by have := HL.out; omega)
        rw [← hb.cell (p := ⟨b1, _, none⟩) hb1] at c1 c2
        rw [← hb.cell (p := ⟨b2, _, none⟩) hb2] at c3 c4
        have hlt2 : k < ys.length := by have := HL.out; omega
        clear hc1 hc2 hx hy
        have q1 := fun d os => cell_regrown c1 d os
        have q2 := fun d os => cell_regrown c2 d os
        have q3 := fun d os => cell_regrown c3 d os
        have q4 := fun d os => cell_regrown c4 d os
        by_cases he : prAt xs k = prAt ys k
        · have hq : prEq (prAt xs k).1 (prAt xs k).2 (prAt ys k).1 (prAt ys k).2 = true := by rw [prEq_of]; simp [he]
          have HE := Lib.hid he
          clear he
          go_wp2
          refine wp_region_quiet_below (by kernel_rfl) (by kernel_rfl) ?_
          repeat (any_goals (first | go_big_quiet_step ((go_at_call 56; exact Calls.regrown_of (eqFresh_any _ _ _ _ _))) | quiet_step ((go_at_call 56; exact Calls.regrown_of (eqFresh_any _ _ _ _ _)))))
          refine wpQuiet_nil ?_
          intro _ hw'
          obtain ⟨⟨dq, osq⟩, hw''⟩ := hw'
          subst hw''
          have hb3 := hb.trans ((below_regrown wr dq osq).mono hb.size)
          clear q1 q2 q3 q4 c1 c2 c3 c4
          generalize grow (redrawn wr dq) osq = w2 at *
          go_wp2
          go_roundw
          case rel => exact ⟨k + 1, by omega, by go_num, (take_next (0, 0) k hlt hlt2 HT.out).2 HE.out, hb3⟩
          case measure => simp [intOf]; omega
        · have hq : prEq (prAt xs k).1 (prAt xs k).2 (prAt ys k).1 (prAt ys k).2 = false := by rw [prEq_of]; simp [he]
          have HE := Lib.hid he
          clear he
          go_wp2
          refine wp_region_quiet_below (by kernel_rfl) (by kernel_rfl) ?_
          repeat (any_goals (first | go_big_quiet_step ((go_at_call 56; exact Calls.regrown_of (eqFresh_any _ _ _ _ _))) | quiet_step ((go_at_call 56; exact Calls.regrown_of (eqFresh_any _ _ _ _ _)))))
          refine wpQuiet_nil ?_
          intro _ hw'
          obtain ⟨⟨dq, osq⟩, hw''⟩ := hw'
          subst hw''
          have hb3 := hb.trans ((below_regrown wr dq osq).mono hb.size)
          clear q1 q2 q3 q4 c1 c2 c3 c4
          generalize grow (redrawn wr dq) osq = w2 at *
          go_wp2
          go_ret
          exact ⟨bool_end (differ_at k HE.out).symm, hb3⟩
      · go_wp2
        go_ret
        have e : k = xs.length := by omega
        subst e
        exact ⟨bool_end (same_all HL.out HT.out).symm, hb⟩
  · have k0 : ((xs.length : Int) != (ys.length : Int)) = true := by simp; omega
    have hf : decide (xs = ys) = false := by
      simp only [decide_eq_false_iff_not]
      intro e
      exact hl (by rw [e])
    have HF := Lib.hid hf
    clear hl hf
    go_enter Try.func27, Try.ntmps27
    go_wp2
    go_ret
    exact ⟨bool_end HF.out.symm, Below.refl _ _⟩

/-- The same for two slices of the call's own. -/
theorem eqFreshS_own (base1 base2 : Nat) (v1 v2 : Value) (l1 l2 : List (Int × Int)) (w : World) (h1 : w.ownsRow base1 80 2 v1 l1.length (cellsOf l1)) (h2 : w.ownsRow base2 80 2 v2 l2.length (cellsOf l2)) (hl : l1.length ≤ 9223372036854775807) :
    Calls Try.prog 27 #[v1, v2] w
      fun e w' => e = .returned (.bool (decide (l1 = l2))) ∧ Below w.heap.size w w' := by
  obtain ⟨A, c, rfl, hA⟩ := own_pairsAt h1
  obtain ⟨B, d, rfl, hB⟩ := own_pairsAt h2
  exact eqFreshS_any A B c d l1 l2 w hA hB hl
end Go.Proofs.Ytbfkfklaplgebaa
end

section
namespace Go.Proofs.Ytbfkfklaplgebaa
open Go.RowKit Go.Sort
set_option linter.unusedVariables false

theorem isSymbol_any (n : Int) (w : World) :
    Calls Try.prog 99 #[.int .i64 n] w fun e w' => e = .returned (.bool (decide (0 ≤ n ∧ n ≤ 11))) ∧ w = w' := by
  by_cases h1 : 0 ≤ n
  · by_cases h2 : n ≤ 11
    · have r : Hid (decide (0 ≤ n ∧ n ≤ 11) = true) := decide_eq_true ⟨h1, h2⟩
      go_enter Try.func99, Try.ntmps99
      go_wp2
      go_ret
      first | exact ⟨rfl, rfl⟩ | exact ⟨bool_end r.out.symm, rfl⟩
    · have r : Hid (decide (0 ≤ n ∧ n ≤ 11) = false) := decide_eq_false fun h => h2 h.2
      have k2 : decide (n ≤ 11) = false := decide_eq_false h2
      have k3 : 11 < n := by omega
      go_enter Try.func99, Try.ntmps99
      go_wp2
      go_ret
      first | exact ⟨rfl, rfl⟩ | exact ⟨bool_end r.out.symm, rfl⟩
  · have r : Hid (decide (0 ≤ n ∧ n ≤ 11) = false) := decide_eq_false fun h => h1 h.1
    have k1 : decide (0 ≤ n) = false := decide_eq_false h1
    have k3 : n < 0 := by omega
    go_enter Try.func99, Try.ntmps99
    go_wp2
    go_ret
    first | exact ⟨rfl, rfl⟩ | exact ⟨bool_end r.out.symm, rfl⟩

theorem isHole_any (n : Int) (w : World) :
    Calls Try.prog 101 #[.int .i64 n] w fun e w' => e = .returned (.bool (decide (0 ≤ n ∧ n ≤ 9))) ∧ w = w' := by
  by_cases h1 : 0 ≤ n
  · by_cases h2 : n ≤ 9
    · have r : Hid (decide (0 ≤ n ∧ n ≤ 9) = true) := decide_eq_true ⟨h1, h2⟩
      go_enter Try.func101, Try.ntmps101
      go_wp2
      go_ret
      first | exact ⟨rfl, rfl⟩ | exact ⟨bool_end r.out.symm, rfl⟩
    · have r : Hid (decide (0 ≤ n ∧ n ≤ 9) = false) := decide_eq_false fun h => h2 h.2
      have k2 : decide (n ≤ 9) = false := decide_eq_false h2
      have k3 : 9 < n := by omega
      go_enter Try.func101, Try.ntmps101
      go_wp2
      go_ret
      first | exact ⟨rfl, rfl⟩ | exact ⟨bool_end r.out.symm, rfl⟩
  · have r : Hid (decide (0 ≤ n ∧ n ≤ 9) = false) := decide_eq_false fun h => h1 h.1
    have k1 : decide (0 ≤ n) = false := decide_eq_false h1
    have k3 : n < 0 := by omega
    go_enter Try.func101, Try.ntmps101
    go_wp2
    go_ret
    first | exact ⟨rfl, rfl⟩ | exact ⟨bool_end r.out.symm, rfl⟩

theorem kidsOf_any (n : Int) (w : World) (h0 : 0 ≤ n) (h1 : n ≤ 11) :
    Calls Try.prog 100 #[.int .i64 n] w fun e w' => e = .returned (.int .i64 (n % 4)) ∧ w = w' := by
  go_enter Try.func100, Try.ntmps100
  go_wp2
  go_ret
  exact ⟨rfl, rfl⟩

set_option maxRecDepth 100000 in
set_option maxHeartbeats 1000000 in
theorem shape_impl_1_0 (n : Int) (A B : Option Addr) (pl c kl d : Nat) (w : World) (hpl : pl ≤ 1099511627776) (hkl : kl ≤ 9223372036854775807) (h0 : atomB n = false) :
    Calls Try.prog 87 #[.agg #[.int .i64 1, .int .i64 n, .slice A pl c, .slice B kl d]] w fun e w' => e = .returned (.bool false) ∧ Below w.heap.size w w' := by
  have hb0 : Below w.heap.size w (w.alloc (.cells #[.int .i64 1, .int .i64 n, .slice A pl c, .slice B kl d] 31)) := (Below.refl _ _).alloc (Nat.le_refl _) _
  have ca := fun W => isAtom_any n W
  rw [h0] at ca
  clear h0
  go_enter Try.func87, Try.ntmps87
  go_wp2_with (first | (go_at_call 49; refine (ca _).mono ?_; rintro e w' ⟨rfl, rfl⟩))
  go_ret
  exact ⟨rfl, hb0⟩

set_option maxRecDepth 100000 in
set_option maxHeartbeats 1000000 in
theorem shape_impl_1_1 (n : Int) (A B : Option Addr) (pl c kl d : Nat) (w : World) (hpl : pl ≤ 1099511627776) (hkl : kl ≤ 9223372036854775807) (h0 : atomB n = true) (h1 : ¬ pl = 0) :
    Calls Try.prog 87 #[.agg #[.int .i64 1, .int .i64 n, .slice A pl c, .slice B kl d]] w fun e w' => e = .returned (.bool false) ∧ Below w.heap.size w w' := by
  have hb0 : Below w.heap.size w (w.alloc (.cells #[.int .i64 1, .int .i64 n, .slice A pl c, .slice B kl d] 31)) := (Below.refl _ _).alloc (Nat.le_refl _) _
  have ca := fun W => isAtom_any n W
  rw [h0] at ca
  have tp : ((pl : Int) == 0) = false := by simp; omega
  clear h0 h1
  go_enter Try.func87, Try.ntmps87
  go_wp2_with (first | (go_at_call 49; refine (ca _).mono ?_; rintro e w' ⟨rfl, rfl⟩))
  go_ret
  exact ⟨rfl, hb0⟩

set_option maxRecDepth 100000 in
set_option maxHeartbeats 1000000 in
theorem shape_impl_1_2 (n : Int) (A B : Option Addr) (pl c kl d : Nat) (w : World) (hpl : pl ≤ 1099511627776) (hkl : kl ≤ 9223372036854775807) (h0 : atomB n = true) (h1 :  pl = 0) (h2 : ¬ kl = 0) :
    Calls Try.prog 87 #[.agg #[.int .i64 1, .int .i64 n, .slice A pl c, .slice B kl d]] w fun e w' => e = .returned (.bool false) ∧ Below w.heap.size w w' := by
  have hb0 : Below w.heap.size w (w.alloc (.cells #[.int .i64 1, .int .i64 n, .slice A pl c, .slice B kl d] 31)) := (Below.refl _ _).alloc (Nat.le_refl _) _
  have ca := fun W => isAtom_any n W
  rw [h0] at ca
  subst h1
  have tk : ((kl : Int) == 0) = false := by simp; omega
  clear h0 h2
  go_enter Try.func87, Try.ntmps87
  go_wp2_with (first | (go_at_call 49; refine (ca _).mono ?_; rintro e w' ⟨rfl, rfl⟩))
  go_ret
  exact ⟨rfl, hb0⟩

set_option maxRecDepth 100000 in
set_option maxHeartbeats 1000000 in
theorem shape_impl_1_3 (n : Int) (A B : Option Addr) (pl c kl d : Nat) (w : World) (hpl : pl ≤ 1099511627776) (hkl : kl ≤ 9223372036854775807) (h0 : atomB n = true) (h1 :  pl = 0) (h2 :  kl = 0) :
    Calls Try.prog 87 #[.agg #[.int .i64 1, .int .i64 n, .slice A pl c, .slice B kl d]] w fun e w' => e = .returned (.bool true) ∧ Below w.heap.size w w' := by
  have hb0 : Below w.heap.size w (w.alloc (.cells #[.int .i64 1, .int .i64 n, .slice A pl c, .slice B kl d] 31)) := (Below.refl _ _).alloc (Nat.le_refl _) _
  have ca := fun W => isAtom_any n W
  rw [h0] at ca
  subst h1
  subst h2
  clear h0
  go_enter Try.func87, Try.ntmps87
  go_wp2_with (first | (go_at_call 49; refine (ca _).mono ?_; rintro e w' ⟨rfl, rfl⟩))
  go_ret
  exact ⟨rfl, hb0⟩

set_option maxRecDepth 100000 in
set_option maxHeartbeats 1000000 in
theorem shape_impl_2_0 (n : Int) (A B : Option Addr) (pl c kl d : Nat) (w : World) (hpl : pl ≤ 1099511627776) (hkl : kl ≤ 9223372036854775807) (h0 : ¬ (0 ≤ n ∧ n ≤ 11)) :
    Calls Try.prog 87 #[.agg #[.int .i64 2, .int .i64 n, .slice A pl c, .slice B kl d]] w fun e w' => e = .returned (.bool false) ∧ Below w.heap.size w w' := by
  have hb0 : Below w.heap.size w (w.alloc (.cells #[.int .i64 2, .int .i64 n, .slice A pl c, .slice B kl d] 31)) := (Below.refl _ _).alloc (Nat.le_refl _) _
  have ca := fun W => isSymbol_any n W
  rw [decide_eq_false h0] at ca
  clear h0
  have b1 : (w.alloc (.cells #[.int .i64 2, .int .i64 n, .slice A pl c, .slice B kl d] 31)).cell? ⟨w.heap.size, 1, none⟩ = some (.int .i64 n) := by
    rw [cell_of_row _ w.heap.size 1 _ _ _ (heap_alloc_new w _)]; rfl
  have q1 := fun dq os => cell_regrown b1 dq os
  have b2 : (w.alloc (.cells #[.int .i64 2, .int .i64 n, .slice A pl c, .slice B kl d] 31)).cell? ⟨w.heap.size, 2, none⟩ = some (.slice A pl c) := by
    rw [cell_of_row _ w.heap.size 2 _ _ _ (heap_alloc_new w _)]; rfl
  have q2 := fun dq os => cell_regrown b2 dq os
  have b3 : (w.alloc (.cells #[.int .i64 2, .int .i64 n, .slice A pl c, .slice B kl d] 31)).cell? ⟨w.heap.size, 3, none⟩ = some (.slice B kl d) := by
    rw [cell_of_row _ w.heap.size 3 _ _ _ (heap_alloc_new w _)]; rfl
  have q3 := fun dq os => cell_regrown b3 dq os
  have rca := fun dq os => Calls.regrown_of ((ca (grow (redrawn (w.alloc (.cells #[.int .i64 2, .int .i64 n, .slice A pl c, .slice B kl d] 31)) dq) os)).mono fun e w9 (h9 : _ ∧ _) => (⟨h9.1, h9.2 ▸ Below.refl _ _⟩ : _ ∧ Below _ _ w9))
  clear b1 b2 b3 ca
  go_enter Try.func87, Try.ntmps87
  go_wp2
  refine wp_region_quiet_below (by kernel_rfl) (by kernel_rfl) ?_
  repeat (any_goals (first | go_big_quiet_step ((first | (go_at_call 99; exact rca _ _))) | quiet_step ((first | (go_at_call 99; exact rca _ _)))))
  refine wpQuiet_nil ?_
  intro _ hw'
  obtain ⟨⟨dq, osq⟩, hw''⟩ := hw'
  subst hw''
  have hb3 := hb0.trans ((below_regrown _ dq osq).mono hb0.size)
  generalize grow (redrawn (w.alloc (.cells #[.int .i64 2, .int .i64 n, .slice A pl c, .slice B kl d] 31)) dq) osq = w9 at hb3 ⊢
  clear q1 q2 q3 hb0
  go_wp2
  go_ret
  exact ⟨rfl, hb3⟩

set_option maxRecDepth 100000 in
set_option maxHeartbeats 1000000 in
theorem shape_impl_2_1 (n : Int) (A B : Option Addr) (pl c kl d : Nat) (w : World) (hpl : pl ≤ 1099511627776) (hkl : kl ≤ 9223372036854775807) (h0 :  (0 ≤ n ∧ n ≤ 11)) (h1 : ¬ pl = 0) :
    Calls Try.prog 87 #[.agg #[.int .i64 2, .int .i64 n, .slice A pl c, .slice B kl d]] w fun e w' => e = .returned (.bool false) ∧ Below w.heap.size w w' := by
  have hb0 : Below w.heap.size w (w.alloc (.cells #[.int .i64 2, .int .i64 n, .slice A pl c, .slice B kl d] 31)) := (Below.refl _ _).alloc (Nat.le_refl _) _
  have ca := fun W => isSymbol_any n W
  rw [decide_eq_true h0] at ca
  have tp : ((pl : Int) == 0) = false := by simp; omega
  clear h0 h1
  have b1 : (w.alloc (.cells #[.int .i64 2, .int .i64 n, .slice A pl c, .slice B kl d] 31)).cell? ⟨w.heap.size, 1, none⟩ = some (.int .i64 n) := by
    rw [cell_of_row _ w.heap.size 1 _ _ _ (heap_alloc_new w _)]; rfl
  have q1 := fun dq os => cell_regrown b1 dq os
  have b2 : (w.alloc (.cells #[.int .i64 2, .int .i64 n, .slice A pl c, .slice B kl d] 31)).cell? ⟨w.heap.size, 2, none⟩ = some (.slice A pl c) := by
    rw [cell_of_row _ w.heap.size 2 _ _ _ (heap_alloc_new w _)]; rfl
  have q2 := fun dq os => cell_regrown b2 dq os
  have b3 : (w.alloc (.cells #[.int .i64 2, .int .i64 n, .slice A pl c, .slice B kl d] 31)).cell? ⟨w.heap.size, 3, none⟩ = some (.slice B kl d) := by
    rw [cell_of_row _ w.heap.size 3 _ _ _ (heap_alloc_new w _)]; rfl
  have q3 := fun dq os => cell_regrown b3 dq os
  have rca := fun dq os => Calls.regrown_of ((ca (grow (redrawn (w.alloc (.cells #[.int .i64 2, .int .i64 n, .slice A pl c, .slice B kl d] 31)) dq) os)).mono fun e w9 (h9 : _ ∧ _) => (⟨h9.1, h9.2 ▸ Below.refl _ _⟩ : _ ∧ Below _ _ w9))
  clear b1 b2 b3 ca
  go_enter Try.func87, Try.ntmps87
  go_wp2
  refine wp_region_quiet_below (by kernel_rfl) (by kernel_rfl) ?_
  repeat (any_goals (first | go_big_quiet_step ((first | (go_at_call 99; exact rca _ _))) | quiet_step ((first | (go_at_call 99; exact rca _ _)))))
  refine wpQuiet_nil ?_
  intro _ hw'
  obtain ⟨⟨dq, osq⟩, hw''⟩ := hw'
  subst hw''
  have hb3 := hb0.trans ((below_regrown _ dq osq).mono hb0.size)
  generalize grow (redrawn (w.alloc (.cells #[.int .i64 2, .int .i64 n, .slice A pl c, .slice B kl d] 31)) dq) osq = w9 at hb3 ⊢
  clear q1 q2 q3 hb0
  go_wp2
  go_ret
  exact ⟨rfl, hb3⟩

set_option maxRecDepth 100000 in
set_option maxHeartbeats 1000000 in
theorem shape_impl_2_2 (n : Int) (A B : Option Addr) (pl c kl d : Nat) (w : World) (hpl : pl ≤ 1099511627776) (hkl : kl ≤ 9223372036854775807) (h0 :  (0 ≤ n ∧ n ≤ 11)) (h1 :  pl = 0) (h2 : ¬ (kl : Int) = n % 4) :
    Calls Try.prog 87 #[.agg #[.int .i64 2, .int .i64 n, .slice A pl c, .slice B kl d]] w fun e w' => e = .returned (.bool false) ∧ Below w.heap.size w w' := by
  have hb0 : Below w.heap.size w (w.alloc (.cells #[.int .i64 2, .int .i64 n, .slice A pl c, .slice B kl d] 31)) := (Below.refl _ _).alloc (Nat.le_refl _) _
  have ca := fun W => isSymbol_any n W
  rw [decide_eq_true h0] at ca
  subst h1
  have ck := fun W => kidsOf_any n W h0.1 h0.2
  have tn : 0 ≤ n := h0.1
  have tk : ((kl : Int) == n % 4) = false := by simp; omega
  clear h0 h2
  have b1 : (w.alloc (.cells #[.int .i64 2, .int .i64 n, .slice A 0 c, .slice B kl d] 31)).cell? ⟨w.heap.size, 1, none⟩ = some (.int .i64 n) := by
    rw [cell_of_row _ w.heap.size 1 _ _ _ (heap_alloc_new w _)]; rfl
  have q1 := fun dq os => cell_regrown b1 dq os
  have b2 : (w.alloc (.cells #[.int .i64 2, .int .i64 n, .slice A 0 c, .slice B kl d] 31)).cell? ⟨w.heap.size, 2, none⟩ = some (.slice A 0 c) := by
    rw [cell_of_row _ w.heap.size 2 _ _ _ (heap_alloc_new w _)]; rfl
  have q2 := fun dq os => cell_regrown b2 dq os
  have b3 : (w.alloc (.cells #[.int .i64 2, .int .i64 n, .slice A 0 c, .slice B kl d] 31)).cell? ⟨w.heap.size, 3, none⟩ = some (.slice B kl d) := by
    rw [cell_of_row _ w.heap.size 3 _ _ _ (heap_alloc_new w _)]; rfl
  have q3 := fun dq os => cell_regrown b3 dq os
  have rca := fun dq os => Calls.regrown_of ((ca (grow (redrawn (w.alloc (.cells #[.int .i64 2, .int .i64 n, .slice A 0 c, .slice B kl d] 31)) dq) os)).mono fun e w9 (h9 : _ ∧ _) => (⟨h9.1, h9.2 ▸ Below.refl _ _⟩ : _ ∧ Below _ _ w9))
  have rck := fun dq os => Calls.regrown_of ((ck (grow (redrawn (w.alloc (.cells #[.int .i64 2, .int .i64 n, .slice A 0 c, .slice B kl d] 31)) dq) os)).mono fun e w9 (h9 : _ ∧ _) => (⟨h9.1, h9.2 ▸ Below.refl _ _⟩ : _ ∧ Below _ _ w9))
  clear b1 b2 b3 ca ck
  go_enter Try.func87, Try.ntmps87
  go_wp2
  refine wp_region_quiet_below (by kernel_rfl) (by kernel_rfl) ?_
  repeat (any_goals (first | go_big_quiet_step ((first | (go_at_call 99; exact rca _ _) | (go_at_call 100; exact rck _ _))) | quiet_step ((first | (go_at_call 99; exact rca _ _) | (go_at_call 100; exact rck _ _)))))
  refine wpQuiet_nil ?_
  intro _ hw'
  obtain ⟨⟨dq, osq⟩, hw''⟩ := hw'
  subst hw''
  have hb3 := hb0.trans ((below_regrown _ dq osq).mono hb0.size)
  generalize grow (redrawn (w.alloc (.cells #[.int .i64 2, .int .i64 n, .slice A 0 c, .slice B kl d] 31)) dq) osq = w9 at hb3 ⊢
  clear q1 q2 q3 hb0
  go_wp2
  go_ret
  exact ⟨rfl, hb3⟩

set_option maxRecDepth 100000 in
set_option maxHeartbeats 1000000 in
theorem shape_impl_2_3 (n : Int) (A B : Option Addr) (pl c kl d : Nat) (w : World) (hpl : pl ≤ 1099511627776) (hkl : kl ≤ 9223372036854775807) (h0 :  (0 ≤ n ∧ n ≤ 11)) (h1 :  pl = 0) (h2 :  (kl : Int) = n % 4) :
    Calls Try.prog 87 #[.agg #[.int .i64 2, .int .i64 n, .slice A pl c, .slice B kl d]] w fun e w' => e = .returned (.bool true) ∧ Below w.heap.size w w' := by
  have hb0 : Below w.heap.size w (w.alloc (.cells #[.int .i64 2, .int .i64 n, .slice A pl c, .slice B kl d] 31)) := (Below.refl _ _).alloc (Nat.le_refl _) _
  have ca := fun W => isSymbol_any n W
  rw [decide_eq_true h0] at ca
  subst h1
  have ck := fun W => kidsOf_any n W h0.1 h0.2
  have tn : 0 ≤ n := h0.1
  have tk : ((kl : Int) == n % 4) = true := by simp; omega
  clear h0 h2
  have b1 : (w.alloc (.cells #[.int .i64 2, .int .i64 n, .slice A 0 c, .slice B kl d] 31)).cell? ⟨w.heap.size, 1, none⟩ = some (.int .i64 n) := by
    rw [cell_of_row _ w.heap.size 1 _ _ _ (heap_alloc_new w _)]; rfl
  have q1 := fun dq os => cell_regrown b1 dq os
  have b2 : (w.alloc (.cells #[.int .i64 2, .int .i64 n, .slice A 0 c, .slice B kl d] 31)).cell? ⟨w.heap.size, 2, none⟩ = some (.slice A 0 c) := by
    rw [cell_of_row _ w.heap.size 2 _ _ _ (heap_alloc_new w _)]; rfl
  have q2 := fun dq os => cell_regrown b2 dq os
  have b3 : (w.alloc (.cells #[.int .i64 2, .int .i64 n, .slice A 0 c, .slice B kl d] 31)).cell? ⟨w.heap.size, 3, none⟩ = some (.slice B kl d) := by
    rw [cell_of_row _ w.heap.size 3 _ _ _ (heap_alloc_new w _)]; rfl
  have q3 := fun dq os => cell_regrown b3 dq os
  have rca := fun dq os => Calls.regrown_of ((ca (grow (redrawn (w.alloc (.cells #[.int .i64 2, .int .i64 n, .slice A 0 c, .slice B kl d] 31)) dq) os)).mono fun e w9 (h9 : _ ∧ _) => (⟨h9.1, h9.2 ▸ Below.refl _ _⟩ : _ ∧ Below _ _ w9))
  have rck := fun dq os => Calls.regrown_of ((ck (grow (redrawn (w.alloc (.cells #[.int .i64 2, .int .i64 n, .slice A 0 c, .slice B kl d] 31)) dq) os)).mono fun e w9 (h9 : _ ∧ _) => (⟨h9.1, h9.2 ▸ Below.refl _ _⟩ : _ ∧ Below _ _ w9))
  clear b1 b2 b3 ca ck
  go_enter Try.func87, Try.ntmps87
  go_wp2
  refine wp_region_quiet_below (by kernel_rfl) (by kernel_rfl) ?_
  repeat (any_goals (first | go_big_quiet_step ((first | (go_at_call 99; exact rca _ _) | (go_at_call 100; exact rck _ _))) | quiet_step ((first | (go_at_call 99; exact rca _ _) | (go_at_call 100; exact rck _ _)))))
  refine wpQuiet_nil ?_
  intro _ hw'
  obtain ⟨⟨dq, osq⟩, hw''⟩ := hw'
  subst hw''
  have hb3 := hb0.trans ((below_regrown _ dq osq).mono hb0.size)
  generalize grow (redrawn (w.alloc (.cells #[.int .i64 2, .int .i64 n, .slice A 0 c, .slice B kl d] 31)) dq) osq = w9 at hb3 ⊢
  clear q1 q2 q3 hb0
  go_wp2
  go_ret
  exact ⟨rfl, hb3⟩

set_option maxRecDepth 100000 in
set_option maxHeartbeats 1000000 in
theorem shape_impl_3_0 (n : Int) (A B : Option Addr) (pl c kl d : Nat) (w : World) (hpl : pl ≤ 1099511627776) (hkl : kl ≤ 9223372036854775807) (h0 : atomB n = false) :
    Calls Try.prog 87 #[.agg #[.int .i64 3, .int .i64 n, .slice A pl c, .slice B kl d]] w fun e w' => e = .returned (.bool false) ∧ Below w.heap.size w w' := by
  have hb0 : Below w.heap.size w (w.alloc (.cells #[.int .i64 3, .int .i64 n, .slice A pl c, .slice B kl d] 31)) := (Below.refl _ _).alloc (Nat.le_refl _) _
  have ca := fun W => isAtom_any n W
  rw [h0] at ca
  clear h0
  go_enter Try.func87, Try.ntmps87
  go_wp2_with (first | (go_at_call 49; refine (ca _).mono ?_; rintro e w' ⟨rfl, rfl⟩))
  go_ret
  exact ⟨rfl, hb0⟩

set_option maxRecDepth 100000 in
set_option maxHeartbeats 1000000 in
theorem shape_impl_3_1 (n : Int) (A B : Option Addr) (pl c kl d : Nat) (w : World) (hpl : pl ≤ 1099511627776) (hkl : kl ≤ 9223372036854775807) (h0 : atomB n = true) (h1 : ¬ pl = 0) :
    Calls Try.prog 87 #[.agg #[.int .i64 3, .int .i64 n, .slice A pl c, .slice B kl d]] w fun e w' => e = .returned (.bool false) ∧ Below w.heap.size w w' := by
  have hb0 : Below w.heap.size w (w.alloc (.cells #[.int .i64 3, .int .i64 n, .slice A pl c, .slice B kl d] 31)) := (Below.refl _ _).alloc (Nat.le_refl _) _
  have ca := fun W => isAtom_any n W
  rw [h0] at ca
  have tp : ((pl : Int) == 0) = false := by simp; omega
  clear h0 h1
  go_enter Try.func87, Try.ntmps87
  go_wp2_with (first | (go_at_call 49; refine (ca _).mono ?_; rintro e w' ⟨rfl, rfl⟩))
  go_ret
  exact ⟨rfl, hb0⟩

set_option maxRecDepth 100000 in
set_option maxHeartbeats 1000000 in
theorem shape_impl_3_2 (n : Int) (A B : Option Addr) (pl c kl d : Nat) (w : World) (hpl : pl ≤ 1099511627776) (hkl : kl ≤ 9223372036854775807) (h0 : atomB n = true) (h1 :  pl = 0) (h2 : ¬ kl = 1) :
    Calls Try.prog 87 #[.agg #[.int .i64 3, .int .i64 n, .slice A pl c, .slice B kl d]] w fun e w' => e = .returned (.bool false) ∧ Below w.heap.size w w' := by
  have hb0 : Below w.heap.size w (w.alloc (.cells #[.int .i64 3, .int .i64 n, .slice A pl c, .slice B kl d] 31)) := (Below.refl _ _).alloc (Nat.le_refl _) _
  have ca := fun W => isAtom_any n W
  rw [h0] at ca
  subst h1
  have tk : ((kl : Int) == 1) = false := by simp; omega
  clear h0 h2
  go_enter Try.func87, Try.ntmps87
  go_wp2_with (first | (go_at_call 49; refine (ca _).mono ?_; rintro e w' ⟨rfl, rfl⟩))
  go_ret
  exact ⟨rfl, hb0⟩

set_option maxRecDepth 100000 in
set_option maxHeartbeats 1000000 in
theorem shape_impl_3_3 (n : Int) (A B : Option Addr) (pl c kl d : Nat) (w : World) (hpl : pl ≤ 1099511627776) (hkl : kl ≤ 9223372036854775807) (h0 : atomB n = true) (h1 :  pl = 0) (h2 :  kl = 1) :
    Calls Try.prog 87 #[.agg #[.int .i64 3, .int .i64 n, .slice A pl c, .slice B kl d]] w fun e w' => e = .returned (.bool true) ∧ Below w.heap.size w w' := by
  have hb0 : Below w.heap.size w (w.alloc (.cells #[.int .i64 3, .int .i64 n, .slice A pl c, .slice B kl d] 31)) := (Below.refl _ _).alloc (Nat.le_refl _) _
  have ca := fun W => isAtom_any n W
  rw [h0] at ca
  subst h1
  subst h2
  clear h0
  go_enter Try.func87, Try.ntmps87
  go_wp2_with (first | (go_at_call 49; refine (ca _).mono ?_; rintro e w' ⟨rfl, rfl⟩))
  go_ret
  exact ⟨rfl, hb0⟩

set_option maxRecDepth 100000 in
set_option maxHeartbeats 1000000 in
theorem shape_impl_4_0 (n : Int) (A B : Option Addr) (pl c kl d : Nat) (w : World) (hpl : pl ≤ 1099511627776) (hkl : kl ≤ 9223372036854775807) (h0 : ¬ (0 ≤ n ∧ n ≤ 9)) :
    Calls Try.prog 87 #[.agg #[.int .i64 4, .int .i64 n, .slice A pl c, .slice B kl d]] w fun e w' => e = .returned (.bool false) ∧ Below w.heap.size w w' := by
  have hb0 : Below w.heap.size w (w.alloc (.cells #[.int .i64 4, .int .i64 n, .slice A pl c, .slice B kl d] 31)) := (Below.refl _ _).alloc (Nat.le_refl _) _
  have ca := fun W => isHole_any n W
  rw [decide_eq_false h0] at ca
  clear h0
  go_enter Try.func87, Try.ntmps87
  go_wp2_with (first | (go_at_call 101; refine (ca _).mono ?_; rintro e w' ⟨rfl, rfl⟩))
  go_ret
  exact ⟨rfl, hb0⟩

set_option maxRecDepth 100000 in
set_option maxHeartbeats 1000000 in
theorem shape_impl_4_1 (n : Int) (A B : Option Addr) (pl c kl d : Nat) (w : World) (hpl : pl ≤ 1099511627776) (hkl : kl ≤ 9223372036854775807) (h0 :  (0 ≤ n ∧ n ≤ 9)) (p : List (Int × Int)) (hlp : p.length = pl) (hA : PairsAt w A p) (h1 : permB p = false) :
    Calls Try.prog 87 #[.agg #[.int .i64 4, .int .i64 n, .slice A pl c, .slice B kl d]] w fun e w' => e = .returned (.bool false) ∧ Below w.heap.size w w' := by
  have hb0 : Below w.heap.size w (w.alloc (.cells #[.int .i64 4, .int .i64 n, .slice A pl c, .slice B kl d] 31)) := (Below.refl _ _).alloc (Nat.le_refl _) _
  have k9 : (w.alloc (.cells #[.int .i64 4, .int .i64 n, .slice A pl c, .slice B kl d] 31)).cell? ⟨w.heap.size, 3, none⟩ = some (.slice B kl d) := by
    rw [cell_of_row _ w.heap.size 3 _ _ _ (heap_alloc_new w _)]; rfl
  have H9 := Lib.hid k9
  clear k9
  have ca := fun W => isHole_any n W
  rw [decide_eq_true h0] at ca
  have cp := fun W hW => isPerm_impl A c p W hW (by omega)
  rw [h1, hlp] at cp
  have cp' := cp _ (hA.below hb0)
  clear h0 h1
  go_enter Try.func87, Try.ntmps87
  go_wp2_with (first | (go_at_call 101; refine (ca _).mono ?_; rintro e w' ⟨rfl, rfl⟩) | (go_at_call 36; refine cp'.mono ?_; rintro e w2 ⟨rfl, hb2⟩; have hb9 := hb0.trans (hb2.mono hb0.size); have hs9 := (hb2.cell (p := ⟨w.heap.size, 3, none⟩) (by simp)).trans H9.out))
  go_ret
  exact ⟨rfl, hb9⟩

set_option maxRecDepth 100000 in
set_option maxHeartbeats 1000000 in
theorem shape_impl_4_2 (n : Int) (A B : Option Addr) (pl c kl d : Nat) (w : World) (hpl : pl ≤ 1099511627776) (hkl : kl ≤ 9223372036854775807) (h0 :  (0 ≤ n ∧ n ≤ 9)) (p : List (Int × Int)) (hlp : p.length = pl) (hA : PairsAt w A p) (h1 : permB p = true) (h2 : ¬ kl = 0) :
    Calls Try.prog 87 #[.agg #[.int .i64 4, .int .i64 n, .slice A pl c, .slice B kl d]] w fun e w' => e = .returned (.bool false) ∧ Below w.heap.size w w' := by
  have hb0 : Below w.heap.size w (w.alloc (.cells #[.int .i64 4, .int .i64 n, .slice A pl c, .slice B kl d] 31)) := (Below.refl _ _).alloc (Nat.le_refl _) _
  have k9 : (w.alloc (.cells #[.int .i64 4, .int .i64 n, .slice A pl c, .slice B kl d] 31)).cell? ⟨w.heap.size, 3, none⟩ = some (.slice B kl d) := by
    rw [cell_of_row _ w.heap.size 3 _ _ _ (heap_alloc_new w _)]; rfl
  have H9 := Lib.hid k9
  clear k9
  have ca := fun W => isHole_any n W
  rw [decide_eq_true h0] at ca
  have cp := fun W hW => isPerm_impl A c p W hW (by omega)
  rw [h1, hlp] at cp
  have cp' := cp _ (hA.below hb0)
  have tk : ((kl : Int) == 0) = false := by simp; omega
  clear h0 h1 h2
  go_enter Try.func87, Try.ntmps87
  go_wp2_with (first | (go_at_call 101; refine (ca _).mono ?_; rintro e w' ⟨rfl, rfl⟩) | (go_at_call 36; refine cp'.mono ?_; rintro e w2 ⟨rfl, hb2⟩; have hb9 := hb0.trans (hb2.mono hb0.size); have hs9 := (hb2.cell (p := ⟨w.heap.size, 3, none⟩) (by simp)).trans H9.out))
  go_ret
  exact ⟨rfl, hb9⟩

set_option maxRecDepth 100000 in
set_option maxHeartbeats 1000000 in
theorem shape_impl_4_3 (n : Int) (A B : Option Addr) (pl c kl d : Nat) (w : World) (hpl : pl ≤ 1099511627776) (hkl : kl ≤ 9223372036854775807) (h0 :  (0 ≤ n ∧ n ≤ 9)) (p : List (Int × Int)) (hlp : p.length = pl) (hA : PairsAt w A p) (h1 : permB p = true) (h2 :  kl = 0) :
    Calls Try.prog 87 #[.agg #[.int .i64 4, .int .i64 n, .slice A pl c, .slice B kl d]] w fun e w' => e = .returned (.bool true) ∧ Below w.heap.size w w' := by
  have hb0 : Below w.heap.size w (w.alloc (.cells #[.int .i64 4, .int .i64 n, .slice A pl c, .slice B kl d] 31)) := (Below.refl _ _).alloc (Nat.le_refl _) _
  have k9 : (w.alloc (.cells #[.int .i64 4, .int .i64 n, .slice A pl c, .slice B kl d] 31)).cell? ⟨w.heap.size, 3, none⟩ = some (.slice B kl d) := by
    rw [cell_of_row _ w.heap.size 3 _ _ _ (heap_alloc_new w _)]; rfl
  have H9 := Lib.hid k9
  clear k9
  have ca := fun W => isHole_any n W
  rw [decide_eq_true h0] at ca
  have cp := fun W hW => isPerm_impl A c p W hW (by omega)
  rw [h1, hlp] at cp
  have cp' := cp _ (hA.below hb0)
  subst h2
  clear h0 h1
  go_enter Try.func87, Try.ntmps87
  go_wp2_with (first | (go_at_call 101; refine (ca _).mono ?_; rintro e w' ⟨rfl, rfl⟩) | (go_at_call 36; refine cp'.mono ?_; rintro e w2 ⟨rfl, hb2⟩; have hb9 := hb0.trans (hb2.mono hb0.size); have hs9 := (hb2.cell (p := ⟨w.heap.size, 3, none⟩) (by simp)).trans H9.out))
  go_ret
  exact ⟨rfl, hb9⟩

set_option maxRecDepth 100000 in
theorem shape_impl_0 (o n : Int) (A B : Option Addr) (pl c kl d : Nat) (w : World) (h1 : ¬ o = 1) (h2 : ¬ o = 2) (h3 : ¬ o = 3) (h4 : ¬ o = 4) :
    Calls Try.prog 87 #[.agg #[.int .i64 o, .int .i64 n, .slice A pl c, .slice B kl d]] w fun e w' => e = .returned (.bool false) ∧ Below w.heap.size w w' := by
  have hb0 : Below w.heap.size w (w.alloc (.cells #[.int .i64 o, .int .i64 n, .slice A pl c, .slice B kl d] 31)) := (Below.refl _ _).alloc (Nat.le_refl _) _
  have t1 : (o == 1) = false := by simpa using h1
  have t2 : (o == 2) = false := by simpa using h2
  have t3 : (o == 3) = false := by simpa using h3
  have t4 : (o == 4) = false := by simpa using h4
  clear h1 h2 h3 h4
  go_enter Try.func87, Try.ntmps87
  go_wp2
  go_ret
  exact ⟨rfl, hb0⟩

theorem shape_impl_any (t : Tm) (x : Value) (w : World) (hx : TmIn w x t) (hpl : t.perm.length ≤ 1048576) (hkl : t.kids.length ≤ 1048576) :
    Calls Try.prog 87 #[x] w fun e w' => e = .returned (.bool (shapeB t)) ∧ Below w.heap.size w w' := by
  obtain ⟨A, c, kv, rfl, hp, hk⟩ := hx
  obtain ⟨B, d, rfl⟩ := hk.form
  unfold shapeB
  by_cases o1 : t.op = 1
  · rw [if_pos o1, o1]
    by_cases h0 : atomB t.num = true
    · by_cases h1 : t.perm.length = 0
      · by_cases h2 : t.kids.length = 0
        · rw [h0, decide_eq_true h1, decide_eq_true h2]; exact shape_impl_1_3 _ _ _ _ _ _ _ w (by omega) (by omega) h0 h1 h2
        · rw [h0, decide_eq_true h1, decide_eq_false h2]; exact shape_impl_1_2 _ _ _ _ _ _ _ w (by omega) (by omega) h0 h1 h2
      · rw [h0, decide_eq_false h1]; exact shape_impl_1_1 _ _ _ _ _ _ _ w (by omega) (by omega) h0 h1
    · rw [Bool.not_eq_true] at h0; rw [h0]; exact shape_impl_1_0 _ _ _ _ _ _ _ w (by omega) (by omega) h0
  · rw [if_neg o1]
    by_cases o2 : t.op = 2
    · rw [if_pos o2, o2]
      by_cases h0 : 0 ≤ t.num ∧ t.num ≤ 11
      · by_cases h1 : t.perm.length = 0
        · by_cases h2 : (t.kids.length : Int) = t.num % 4
          · rw [decide_eq_true h0, decide_eq_true h1, decide_eq_true h2]; exact shape_impl_2_3 _ _ _ _ _ _ _ w (by omega) (by omega) h0 h1 h2
          · rw [decide_eq_true h0, decide_eq_true h1, decide_eq_false h2]; exact shape_impl_2_2 _ _ _ _ _ _ _ w (by omega) (by omega) h0 h1 h2
        · rw [decide_eq_true h0, decide_eq_false h1]; exact shape_impl_2_1 _ _ _ _ _ _ _ w (by omega) (by omega) h0 h1
      · rw [decide_eq_false h0]; exact shape_impl_2_0 _ _ _ _ _ _ _ w (by omega) (by omega) h0
    · rw [if_neg o2]
      by_cases o3 : t.op = 3
      · rw [if_pos o3, o3]
        by_cases h0 : atomB t.num = true
        · by_cases h1 : t.perm.length = 0
          · by_cases h2 : t.kids.length = 1
            · rw [h0, decide_eq_true h1, decide_eq_true h2]; exact shape_impl_3_3 _ _ _ _ _ _ _ w (by omega) (by omega) h0 h1 h2
            · rw [h0, decide_eq_true h1, decide_eq_false h2]; exact shape_impl_3_2 _ _ _ _ _ _ _ w (by omega) (by omega) h0 h1 h2
          · rw [h0, decide_eq_false h1]; exact shape_impl_3_1 _ _ _ _ _ _ _ w (by omega) (by omega) h0 h1
        · rw [Bool.not_eq_true] at h0; rw [h0]; exact shape_impl_3_0 _ _ _ _ _ _ _ w (by omega) (by omega) h0
      · rw [if_neg o3]
        by_cases o4 : t.op = 4
        · rw [if_pos o4, o4]
          by_cases h0 : 0 ≤ t.num ∧ t.num ≤ 9
          · by_cases h1 : permB t.perm = true
            · by_cases h2 : t.kids.length = 0
              · rw [decide_eq_true h0, h1, decide_eq_true h2]; exact shape_impl_4_3 _ _ _ _ _ _ _ w (by omega) (by omega) h0 _ rfl hp h1 h2
              · rw [decide_eq_true h0, h1, decide_eq_false h2]; exact shape_impl_4_2 _ _ _ _ _ _ _ w (by omega) (by omega) h0 _ rfl hp h1 h2
            · rw [Bool.not_eq_true] at h1; rw [decide_eq_true h0, h1]; exact shape_impl_4_1 _ _ _ _ _ _ _ w (by omega) (by omega) h0 _ rfl hp h1
          · rw [decide_eq_false h0]; exact shape_impl_4_0 _ _ _ _ _ _ _ w (by omega) (by omega) h0
        · rw [if_neg o4]
          exact shape_impl_0 _ _ _ _ _ _ _ _ w o1 o2 o3 o4

end Go.Proofs.Ytbfkfklaplgebaa
end

section
namespace Go.Proofs.Ytbfkfklaplgebaa
open Go.RowKit Go.Sort

end Go.Proofs.Ytbfkfklaplgebaa
end

section
namespace Go.Proofs.Ytbfkfklaplgebaa
open Go.RowKit Go.Sort

theorem one_cell {w : World} {g : Nat} {u : Value} (h : w.cell? ⟨g, 0, none⟩ = some u) : ∀ j x, [u][j]? = some x → w.cell? ((⟨g, 0, none⟩ : Addr).add j) = some x := by
  intro j x hj
  cases j with
  | zero => simp at hj; subst hj; simpa [Addr.add] using h
  | succ j => simp at hj

end Go.Proofs.Ytbfkfklaplgebaa
end

section
namespace Go.Proofs.Ytbfkfklaplgebaa
open Go.RowKit Go.Sort

/-- A number is put into an ascending list, if it is not there. -/
def insL : List Int → Int → List Int
  | [], n => [n]
  | x :: r, n => if n < x then n :: x :: r else if n = x then x :: r else x :: insL r n

def AscP (l : List Int) : Prop := l.Pairwise (· < ·)

theorem mem_insL : ∀ (l : List Int) (n a : Int), a ∈ insL l n ↔ a = n ∨ a ∈ l
  | [], n, a => by simp [insL]
  | x :: r, n, a => by
    unfold insL
    split
    · simp
    · split
      · rename_i h; subst h; simp
      · simp only [List.mem_cons, mem_insL r n a]
        constructor
        · rintro (h | h | h)
          · exact .inr (.inl h)
          · exact .inl h
          · exact .inr (.inr h)
        · rintro (h | h | h)
          · exact .inr (.inl h)
          · exact .inl h
          · exact .inr (.inr h)

theorem asc_insL : ∀ (l : List Int) (n : Int), AscP l → AscP (insL l n)
  | [], n, _ => by simp [insL, AscP]
  | x :: r, n, h => by
    unfold AscP at h
    rw [List.pairwise_cons] at h
    unfold insL
    split
    · rename_i h1
      unfold AscP
      rw [List.pairwise_cons, List.pairwise_cons]
      refine ⟨fun a ha => ?_, h.1, h.2⟩
      rcases List.mem_cons.1 ha with e | e
      · rw [e]; exact h1
      · have := h.1 a e; omega
    · split
      · unfold AscP; rw [List.pairwise_cons]; exact h
      · rename_i h1 h2
        unfold AscP
        rw [List.pairwise_cons]
        refine ⟨fun a ha => ?_, asc_insL r n h.2⟩
        rcases (mem_insL r n a).1 ha with e | e
        · rw [e]; omega
        · exact h.1 a e

/-- Several numbers are put into an ascending list. -/
def insAll (acc xs : List Int) : List Int := xs.foldl insL acc

theorem asc_insAll (acc xs : List Int) (h : AscP acc) : AscP (insAll acc xs) := by
  unfold insAll
  induction xs generalizing acc with
  | nil => exact h
  | cons x r ih => exact ih _ (asc_insL acc x h)

theorem ascP_froms {l : List (Int × Int)} (h : Asc l) : AscP (froms l) := by
  unfold AscP
  rw [List.pairwise_iff_getElem]
  intro i j hi hj hij
  have hj' : j < l.length := by simpa [froms] using hj
  have h1 := froms_at l i (by omega)
  have h2 := froms_at l j hj'
  rw [List.getElem?_eq_getElem hi] at h1
  rw [List.getElem?_eq_getElem hj] at h2
  simp only [Option.some.injEq] at h1 h2
  rw [h1, h2]
  exact h i j hij hj'

theorem IntsAt.take {w : World} {A : Option Addr} {l : List Int} (h : IntsAt w A l) (k : Nat) : IntsAt w A (l.take k) := by
  intro hp
  rw [List.length_take] at hp
  obtain ⟨b, off, rfl, hlt, hc⟩ := h (by omega)
  refine ⟨b, off, rfl, hlt, fun i hi => ?_⟩
  rw [List.length_take] at hi
  rw [hc i (by omega)]
  have : i < k := by omega
  simp [itAt, this]

theorem IntsAt.drop {w : World} {b off : Nat} {l : List Int} (h : IntsAt w (some ⟨b, off, none⟩) l) (k : Nat) : IntsAt w (some ⟨b, off + k, none⟩) (l.drop k) := by
  intro hp
  rw [List.length_drop] at hp
  obtain ⟨b', off', e, hlt, hc⟩ := h (by omega)
  simp only [Option.some.injEq, Addr.mk.injEq, and_true] at e
  obtain ⟨rfl, rfl⟩ := e
  refine ⟨b, off + k, rfl, hlt, fun i hi => ?_⟩
  rw [List.length_drop] at hi
  rw [Nat.add_assoc, hc (k + i) (by omega)]
  simp [itAt]

end Go.Proofs.Ytbfkfklaplgebaa
end

section
namespace Go.Proofs.Ytbfkfklaplgebaa
open Go.RowKit Go.Sort

theorem length_insL : ∀ (l : List Int) (n : Int), (insL l n).length ≤ l.length + 1
  | [], n => by simp [insL]
  | x :: r, n => by
    unfold insL
    split
    · simp
    · split
      · simp
      · have := length_insL r n
        simp only [List.length_cons]
        omega

theorem length_insAll (acc xs : List Int) : (insAll acc xs).length ≤ acc.length + xs.length := by
  unfold insAll
  induction xs generalizing acc with
  | nil => simp
  | cons x r ih =>
    have h1 := ih (insL acc x)
    have h2 := length_insL acc x
    simp only [List.foldl_cons, List.length_cons]
    omega

/-- The atoms of both. -/
def atomsL (p q : List (Int × Int)) : List Int := insAll (insAll [] (froms p)) (froms q)

theorem froms_len (l : List (Int × Int)) : (froms l).length = l.length := by simp [froms]
theorem itAt_froms (l : List (Int × Int)) (k : Nat) (h : k < l.length) : itAt (froms l) k = (prAt l k).1 := by simp [itAt, froms, prAt, h]

end Go.Proofs.Ytbfkfklaplgebaa
end

section
namespace Go.Proofs.Ytbfkfklaplgebaa
open Go.RowKit Go.Sort

/-- What the first pair with the atom gives to it; the atom, if there is none. -/
def imgL : List (Int × Int) → Int → Int
  | [], a => a
  | p :: r, a => if p.1 = a then p.2 else imgL r a

end Go.Proofs.Ytbfkfklaplgebaa
end

section
namespace Go.Proofs.Ytbfkfklaplgebaa
open Go.RowKit

theorem mem_prAt {l : List (Int × Int)} {x : Int × Int} (h : x ∈ l) : ∃ i, i < l.length ∧ prAt l i = x := by
  obtain ⟨i, hi, e⟩ := List.getElem_of_mem h
  exact ⟨i, hi, by simp [prAt, hi, e]⟩

/-- No atom stands twice in front. -/
def Single (l : List (Int × Int)) : Prop := (froms l).Nodup

theorem imgL_out : ∀ {l : List (Int × Int)} {a : Int}, a ∉ froms l → imgL l a = a
  | [], _, _ => rfl
  | p :: r, a, h => by
    unfold froms at h
    rw [List.map_cons, List.mem_cons, not_or] at h
    have hne : ¬ p.1 = a := fun e => h.1 e.symm
    simp only [imgL, hne, if_false]
    exact imgL_out (l := r) h.2

theorem imgL_in : ∀ {l : List (Int × Int)} {a : Int}, a ∈ froms l → (a, imgL l a) ∈ l
  | [], _, h => by simp [froms] at h
  | p :: r, a, h => by
    by_cases e : p.1 = a
    · subst e; simp [imgL]
    · unfold froms at h
      rw [List.map_cons, List.mem_cons] at h
      have h' : a ∈ froms r := by
        rcases h with h | h
        · exact absurd h.symm e
        · exact h
      simp only [imgL, e, if_false]
      exact List.mem_cons_of_mem _ (imgL_in h')

/-- Nothing is given to itself. -/
def Moves (l : List (Int × Int)) : Prop := ∀ x ∈ l, x.1 ≠ x.2

theorem asc_single {l : List (Int × Int)} (h : AscP (froms l)) : Single l := by
  unfold Single
  exact h.imp fun h1 => by omega

/-- What a permutation is, without the bound on how many it moves. -/
structure IsP (l : List (Int × Int)) : Prop where
  asc : AscP (froms l)
  mv : Moves l
  dom : ∀ a ∈ froms l, 0 ≤ a ∧ a ≤ 999
  back : (froms l).Perm (tos l)

theorem isP_of {l : List (Int × Int)} (h : permB l = true) : IsP l := by
  obtain ⟨_, h2, _⟩ := permB_parts h
  refine ⟨ascP_froms (asc_of_order h2), fun x hx => ?_, fun a ha => ?_, perm_tos h⟩
  · obtain ⟨i, hi, rfl⟩ := mem_prAt hx
    exact (okAt_parts (order_at h2 i hi)).2.2.1
  · obtain ⟨i, hi, rfl⟩ := mem_froms.1 ha
    exact (okAt_parts (order_at h2 i hi)).1

theorem IsP.single {l : List (Int × Int)} (h : IsP l) : Single l := asc_single h.asc

theorem asc_list {l : List (Int × Int)} (h : AscP (froms l)) : Asc l := by
  intro i j hij hj
  have h1 := List.pairwise_iff_getElem.1 h i j (by rw [froms_len]; omega) (by rw [froms_len]; omega) hij
  have e1 : (froms l)[i]'(by rw [froms_len]; omega) = (prAt l i).1 := by
    rw [← itAt_froms l i (by omega), itAt_get]
  have e2 : (froms l)[j]'(by rw [froms_len]; omega) = (prAt l j).1 := by
    rw [← itAt_froms l j (by omega), itAt_get]
  rw [e1, e2] at h1
  exact h1

theorem IsP.tos_nodup {l : List (Int × Int)} (h : IsP l) : (tos l).Nodup := h.back.nodup_iff.1 h.single

theorem IsP.to_mem {l : List (Int × Int)} (h : IsP l) {a : Int} (ha : a ∈ froms l) : imgL l a ∈ froms l := by
  have h1 : imgL l a ∈ tos l := List.mem_map_of_mem (f := Prod.snd) (imgL_in ha)
  exact h.back.mem_iff.2 h1

theorem IsP.atom {l : List (Int × Int)} (h : IsP l) {a : Int} (ha : 0 ≤ a ∧ a ≤ 999) : 0 ≤ imgL l a ∧ imgL l a ≤ 999 := by
  rcases Decidable.em (a ∈ froms l) with h' | h'
  · exact h.dom _ (h.to_mem h')
  · rw [imgL_out h']; exact ha

theorem nodup_snd : ∀ {l : List (Int × Int)} {a b c : Int}, (tos l).Nodup → (a, c) ∈ l → (b, c) ∈ l → a = b
  | [], _, _, _, _, h, _ => by simp at h
  | p :: r, a, b, c, hn, h1, h2 => by
    unfold tos at hn
    rw [List.map_cons, List.nodup_cons] at hn
    rcases List.mem_cons.1 h1 with e1 | e1
    · rcases List.mem_cons.1 h2 with e2 | e2
      · rw [← e2] at e1; exact congrArg Prod.fst e1
      · exact absurd (List.mem_map_of_mem (f := Prod.snd) e2) (by rw [← e1] at hn; exact hn.1)
    · rcases List.mem_cons.1 h2 with e2 | e2
      · exact absurd (List.mem_map_of_mem (f := Prod.snd) e1) (by rw [← e2] at hn; exact hn.1)
      · exact nodup_snd (l := r) hn.2 e1 e2

theorem IsP.inj {l : List (Int × Int)} (h : IsP l) {a b : Int} (e : imgL l a = imgL l b) : a = b := by
  rcases Decidable.em (a ∈ froms l) with ha | ha
  · rcases Decidable.em (b ∈ froms l) with hb | hb
    · exact nodup_snd h.tos_nodup (imgL_in ha) (by rw [e]; exact imgL_in hb)
    · have h1 := h.to_mem ha
      rw [e, imgL_out hb] at h1
      exact absurd h1 hb
  · rcases Decidable.em (b ∈ froms l) with hb | hb
    · have h1 := h.to_mem hb
      rw [← e, imgL_out ha] at h1
      exact absurd h1 ha
    · rw [imgL_out ha, imgL_out hb] at e; exact e

/-- First q, then p. -/
def thenB (p q : List (Int × Int)) (a : Int) : Bool := imgL p (imgL q a) != a
def thenG (p q : List (Int × Int)) (a : Int) : Int × Int := (a, imgL p (imgL q a))
def thenL (p q : List (Int × Int)) : List (Int × Int) := ((atomsL p q).filter (thenB p q)).map (thenG p q)

theorem asc_atomsL (p q : List (Int × Int)) : AscP (atomsL p q) := asc_insAll _ _ (asc_insAll _ _ List.Pairwise.nil)

theorem len_atomsL (p q : List (Int × Int)) : (atomsL p q).length ≤ p.length + q.length := by
  have h1 := length_insAll (insAll [] (froms p)) (froms q)
  have h2 := length_insAll [] (froms p)
  rw [froms_len] at h1 h2
  simp only [List.length_nil] at h2
  unfold atomsL
  omega

theorem thenL_len (p q : List (Int × Int)) : (thenL p q).length ≤ p.length + q.length := by
  unfold thenL
  rw [List.length_map]
  exact Nat.le_trans (List.length_filter_le _ _) (len_atomsL p q)

theorem froms_thenL (p q : List (Int × Int)) : froms (thenL p q) = (atomsL p q).filter (thenB p q) := by
  unfold froms thenL
  rw [List.map_map]
  exact List.map_id'' (fun _ => rfl) _

theorem asc_thenL (p q : List (Int × Int)) : AscP (froms (thenL p q)) := by
  rw [froms_thenL]
  exact (asc_atomsL p q).filter _

/-- The inverse: each atom, and what is given to it. -/
def backL : List (Int × Int) → Int → Int
  | [], a => a
  | p :: r, a => if p.2 = a then p.1 else backL r a

theorem backL_at : ∀ (l : List (Int × Int)) (a : Int) (i : Nat), i < l.length → (∀ j, j < i → (prAt l j).2 ≠ a) → (prAt l i).2 = a → backL l a = (prAt l i).1
  | [], _, i, h, _, _ => by simp at h
  | p :: r, a, 0, _, _, e => by
    have e' : p.2 = a := e
    simp [backL, e', prAt]
  | p :: r, a, i + 1, h, hn, e => by
    have h0 : ¬ p.2 = a := hn 0 (by omega)
    have h1 := backL_at r a i (by simpa using h) (fun j hj => hn (j + 1) (by omega)) e
    simp only [backL, h0, if_false]
    exact h1

theorem backL_none : ∀ (l : List (Int × Int)) (a : Int), (∀ j, j < l.length → (prAt l j).2 ≠ a) → backL l a = a
  | [], _, _ => rfl
  | p :: r, a, hn => by
    have h0 : ¬ p.2 = a := hn 0 (by simp)
    simp only [backL, h0, if_false]
    exact backL_none r a fun j hj => hn (j + 1) (by simpa using hj)

end Go.Proofs.Ytbfkfklaplgebaa
end

