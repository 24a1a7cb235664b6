/-
  Comparing numbers, atoms, and finding a pair by its first atom, as contracts. Whether moves are in order, as a contract. Whether a list has a number: in the model, as a contract. Constants, tuples and patterns: plain words, no program is walked here. Patterns by themselves, all of them, and their order: plain words, no program is walked here. The least atom that is not in a list: in the program, as a contract.
-/
import Derived.Test.YtjjokghcjgighaaKExamplesOf1
import Derived.WalkLawsBesides
import Derived.WalkSpells
import Derived.BigQuiet
import Derived.Lib.QuietBelow
import Derived.Test.YtjjokghcjgighaaKExamplesOf2
section
namespace Go.Proofs.Ytjjokghcjgighaa
section
open Go.RowKit Go.Sort

/-- Less, the same, greater. -/
def cmpI (a b : Int) : Int := if a < b then -1 else if b < a then 1 else 0

def atomB (a : Int) : Bool := decide (0 ≤ a ∧ a ≤ 999)

theorem isAtom_any (a : Int) (w : World) :
    Calls Try.prog 78 #[.int .i64 a] w fun e w' => e = .returned (.bool (atomB a)) ∧ w = w' := by
  by_cases h1 : 0 ≤ a
  · by_cases h2 : a ≤ 999
    · go_enter Try.func78, Try.ntmps78
      go_wp2
      go_ret
      exact ⟨bool_end (by simp [atomB, h1, h2]), rfl⟩
    · have k2 : decide (a ≤ 999) = false := by simpa using h2
      have k3 : 999 < a := by omega
      clear h2
      go_enter Try.func78, Try.ntmps78
      go_wp2
      go_ret
      exact ⟨bool_end (by simp [atomB]; omega), rfl⟩
  · have k1 : a < 0 := by omega
    clear h1
    go_enter Try.func78, Try.ntmps78
    go_wp2
    go_ret
    exact ⟨bool_end (by simp [atomB]; omega), rfl⟩

theorem compare_any (a b : Int) (w : World) :
    Calls Try.prog 71 #[.int .i64 a, .int .i64 b] w fun e w' => e = .returned (.int .i64 (cmpI a b)) ∧ w = w' := by
  have na : (a != a) = false := by simp
  have nb : (b != b) = false := by simp
  by_cases h1 : a < b
  · go_enter Try.func71, Try.ntmps71
    go_wp2
    go_ret
    exact ⟨int_end (by simp [cmpI, h1]), rfl⟩
  · by_cases h2 : b < a
    · go_enter Try.func71, Try.ntmps71
      go_wp2
      go_ret
      exact ⟨int_end (by simp [cmpI, h1, h2]), rfl⟩
    · go_enter Try.func71, Try.ntmps71
      go_wp2
      go_ret
      exact ⟨int_end (by unfold cmpI; rw [if_neg (by omega), if_neg (by omega)]), rfl⟩

end

section
open Go.RowKit Go.Sort

/-- What is asked of the pair at a place. -/
def okAt (l : List (Int × Int)) (i : Nat) : Bool :=
  atomB (prAt l i).1 && (atomB (prAt l i).2 && (decide ((prAt l i).1 ≠ (prAt l i).2) && (decide (i = 0) || decide ((prAt l (i - 1)).1 < (prAt l i).1))))

def orderB (l : List (Int × Int)) : Bool := (List.range l.length).all (okAt l)

end
end Go.Proofs.Ytjjokghcjgighaa
end

section
namespace Go.Proofs.Ytjjokghcjgighaa
open Go.RowKit Go.Sort

/-- Whether a list has a number. -/
def hasB (l : List Int) (a : Int) : Bool := l.contains a

set_option maxHeartbeats 400000 in
theorem l1Has_any (A : Option Addr) (c : Nat) (l : List Int) (a : Int) (w : World) (hA : IntsAt w A l) (hl : l.length ≤ 1099511627776) :
    Calls Try.prog 84 #[.slice A l.length c, .int .i64 a] w fun e w' => e = .returned (.bool (hasB l a)) ∧ w = w' := by
  go_enter Try.func84, Try.ntmps84
  go_wp2
  go_loop [5] (fun i => ∃ k : Nat, k ≤ l.length ∧ i = .int .i64 k ∧ Hid (∀ j, j < k → itAt l j ≠ a)) (fun i => l.length - (intOf i).toNat)
  case atStart => exact ⟨0, Nat.zero_le _, rfl, fun j hj => absurd hj (by omega)⟩
  case round =>
    obtain ⟨k, hk, rfl, hq⟩ := hrel
    by_cases hlt : k < l.length
    · obtain ⟨b1, o1, rfl, hb1, hc1⟩ := hA (by omega)
      have c1 := hc1 k hlt
      clear hc1 hA
      by_cases he : (itAt l k == a) = true
      · have hres : Hid (hasB l a = true) := by
          show hasB l a = true
          unfold hasB
          rw [List.contains_iff_mem]
          have e : itAt l k = a := by simpa using he
          rw [← e, itAt_get l k hlt]
          exact List.getElem_mem hlt
        generalize itAt l k = x at c1 he
        clear hq
        go_wp2
        go_ret
        exact ⟨bool_end hres.out.symm, rfl⟩
      · have he' : (itAt l k == a) = false := by simpa using he
        have hn : Hid (∀ j, j < k + 1 → itAt l j ≠ a) := by
          intro j hj
          by_cases e : j = k
          · rw [e]; simpa using he'
          · exact hq.out j (by omega)
        generalize itAt l k = x at c1 he he'
        clear hq he
        go_wp2
        go_round
        case rel => exact ⟨k + 1, by omega, by go_num, hn⟩
        case measure => simp [intOf]; omega
    · have hres : Hid (hasB l a = false) := by
        show hasB l a = false
        unfold hasB
        rw [← Bool.not_eq_true, List.contains_iff_mem]
        intro hmem
        obtain ⟨j, hj, e⟩ := List.getElem_of_mem hmem
        exact hq.out j (by omega) (by rw [itAt_get l j hj]; exact e)
      clear hq hA
      go_wp2
      go_ret
      exact ⟨bool_end hres.out.symm, rfl⟩

end Go.Proofs.Ytjjokghcjgighaa
end

section
namespace Go.Proofs.Ytjjokghcjgighaa
open Go.RowKit
set_option linter.unusedVariables false

/-- Whether all are atoms. -/
def atomsB (l : List Int) : Bool := l.all atomB
/-- Whether each is less than the next one. -/
def ascB (l : List Int) : Bool := (List.range l.length).all fun i => decide (i = 0) || decide (itAt l (i - 1) < itAt l i)
def constB (l : List Int) : Bool := decide (l.length ≤ 3) && (atomsB l && ascB l)
theorem atomsB_no {l : List Int} {k : Nat} (hk : k < l.length) (h : atomB (itAt l k) = false) : atomsB l = false := by
  cases hh : atomsB l with
  | false => rfl
  | true =>
    unfold atomsB at hh
    rw [List.all_eq_true] at hh
    have := hh l[k] (List.getElem_mem hk)
    rw [← itAt_get l k hk, h] at this
    cases this
theorem atomsB_yes {l : List Int} (h : ∀ k, k < l.length → atomB (itAt l k) = true) : atomsB l = true := by
  unfold atomsB
  rw [List.all_eq_true]
  intro a ha
  obtain ⟨k, hk, rfl⟩ := List.getElem_of_mem ha
  rw [← itAt_get l k hk]
  exact h k hk
theorem ascB_no {l : List Int} {k : Nat} (hk : k < l.length) (h0 : 0 < k) (h : ¬ itAt l (k - 1) < itAt l k) : ascB l = false := by
  cases hh : ascB l with
  | false => rfl
  | true =>
    unfold ascB at hh
    rw [List.all_eq_true] at hh
    have := hh k (List.mem_range.2 hk)
    simp only [Bool.or_eq_true, decide_eq_true_eq] at this
    rcases this with h1 | h1
    · omega
    · exact absurd h1 h
theorem ascB_yes {l : List Int} (h : ∀ k, 0 < k → k < l.length → itAt l (k - 1) < itAt l k) : ascB l = true := by
  unfold ascB
  rw [List.all_eq_true]
  intro k hk
  rw [List.mem_range] at hk
  simp only [Bool.or_eq_true, decide_eq_true_eq]
  rcases Nat.eq_zero_or_pos k with h0 | h0
  · exact .inl h0
  · exact .inr (h k h0 hk)
end Go.Proofs.Ytjjokghcjgighaa
end

section
namespace Go.Proofs.Ytjjokghcjgighaa
open Go.RowKit
set_option linter.unusedVariables false

/-- The number that one more atom gets. -/
def newN (k : Int) (p : List Int) : Int := p.foldl (fun m n => max m (n + 1)) k
theorem newN_next {k : Int} {p : List Int} {i : Nat} (h : i < p.length) : newN k (p.take (i + 1)) = max (newN k (p.take i)) (itAt p i + 1) := by
  rw [itake_next h]
  unfold newN
  rw [List.foldl_append]
  rfl
theorem newN_ge (k : Int) (p : List Int) : k ≤ newN k p := by
  unfold newN
  induction p generalizing k with
  | nil => exact Int.le_refl _
  | cons a r ih => rw [List.foldl_cons]; have := ih (max k (a + 1)); omega
theorem newN_bound {k B : Int} : ∀ {p : List Int}, k ≤ B → (∀ i, i < p.length → itAt p i < B) → newN k p ≤ B
  | [], h, _ => h
  | a :: r, h, hp => by
    have h0 := hp 0 (by simp)
    have h1 : itAt (a :: r) 0 = a := rfl
    rw [h1] at h0
    show newN (max k (a + 1)) r ≤ B
    exact newN_bound (by omega) fun i hi => hp (i + 1) (by simpa using hi)

def isPatB (k : Int) (p : List Int) : Bool := (List.range p.length).all fun i => decide (0 ≤ itAt p i) && decide (itAt p i ≤ newN k (p.take i))
theorem isPat_no {k : Int} {p : List Int} {i : Nat} (hi : i < p.length) (h : ¬ (0 ≤ itAt p i ∧ itAt p i ≤ newN k (p.take i))) : isPatB k p = false := by
  unfold isPatB
  rw [List.all_eq_false]
  refine ⟨i, List.mem_range.2 hi, ?_⟩
  simp only [Bool.and_eq_true, decide_eq_true_eq]
  exact h
theorem isPat_yes {k : Int} {p : List Int} (h : ∀ i, i < p.length → 0 ≤ itAt p i ∧ itAt p i ≤ newN k (p.take i)) : isPatB k p = true := by
  unfold isPatB
  rw [List.all_eq_true]
  intro i hi
  simp only [Bool.and_eq_true, decide_eq_true_eq]
  exact h i (List.mem_range.1 hi)
theorem isPat_at {k : Int} {p : List Int} (h : isPatB k p = true) {i : Nat} (hi : i < p.length) : 0 ≤ itAt p i ∧ itAt p i ≤ newN k (p.take i) := by
  unfold isPatB at h
  rw [List.all_eq_true] at h
  have := h i (List.mem_range.2 hi)
  simpa only [Bool.and_eq_true, decide_eq_true_eq] using this
theorem newN_le {k : Int} {p : List Int} : ∀ {i : Nat}, i ≤ p.length → (∀ j, j < i → itAt p j ≤ newN k (p.take j)) → newN k (p.take i) ≤ k + i
  | 0, _, _ => by simp [newN]
  | i + 1, hi, h => by
    rw [newN_next (by omega)]
    have h1 := newN_le (i := i) (by omega) fun j hj => h j (by omega)
    have h2 := h i (by omega)
    omega
theorem newN_pat {k : Int} {p : List Int} (h : isPatB k p = true) : newN k p ≤ k + p.length := by
  have := newN_le (k := k) (p := p) (i := p.length) (Nat.le_refl _) fun j hj => (isPat_at h hj).2
  rwa [List.take_length] at this

theorem itAt_snoc_lt {p : List Int} {n : Int} {i : Nat} (h : i < p.length) : itAt (p ++ [n]) i = itAt p i := by
  rw [itAt_get _ _ (by simp; omega), itAt_get _ _ h, List.getElem_append_left h]
theorem itAt_snoc_eq (p : List Int) (n : Int) : itAt (p ++ [n]) p.length = n := by
  rw [itAt_get _ _ (by simp), List.getElem_append_right (Nat.le_refl _)]
  simp
theorem isPat_snoc {k : Int} {p : List Int} {n : Int} : isPatB k (p ++ [n]) = true ↔ isPatB k p = true ∧ 0 ≤ n ∧ n ≤ newN k p := by
  constructor
  · intro h
    refine ⟨isPat_yes fun i hi => ?_, ?_⟩
    · have h1 := isPat_at h (i := i) (by simp; omega)
      rw [itAt_snoc_lt hi, List.take_append_of_le_length (by omega)] at h1
      exact h1
    · have h1 := isPat_at h (i := p.length) (by simp)
      rw [itAt_snoc_eq, List.take_append_of_le_length (Nat.le_refl _), List.take_length] at h1
      exact h1
  · rintro ⟨h, h0, h1⟩
    refine isPat_yes fun i hi => ?_
    rcases Nat.lt_or_ge i p.length with h2 | h2
    · rw [itAt_snoc_lt h2, List.take_append_of_le_length (by omega)]
      exact isPat_at h h2
    · have e : i = p.length := by simp at hi; omega
      subst e
      rw [itAt_snoc_eq, List.take_append_of_le_length (Nat.le_refl _), List.take_length]
      exact ⟨h0, h1⟩

/-- The patterns that go on from one. -/
def extP (k : Int) (p : List Int) : List (List Int) := (List.range (newN k p + 1).toNat).map fun n : Nat => p ++ [(n : Int)]
/-- All patterns of a width. -/
def allP : Nat → Int → List (List Int)
  | 0, _ => [[]]
  | w + 1, k => (allP w k).flatMap (extP k)

theorem mem_allP {k : Int} (hk : 0 ≤ k) : ∀ {w : Nat} {p : List Int}, p ∈ allP w k ↔ p.length = w ∧ isPatB k p = true
  | 0, p => by
    rw [allP, List.mem_singleton]
    constructor
    · rintro rfl; exact ⟨rfl, rfl⟩
    · rintro ⟨h, _⟩; exact List.eq_nil_of_length_eq_zero h
  | w + 1, p => by
    rw [allP, List.mem_flatMap]
    constructor
    · rintro ⟨q, hq, hp⟩
      obtain ⟨h1, h2⟩ := (mem_allP hk).1 hq
      unfold extP at hp
      rw [List.mem_map] at hp
      obtain ⟨n, hn, rfl⟩ := hp
      rw [List.mem_range] at hn
      refine ⟨by simp [h1], isPat_snoc.2 ⟨h2, by omega, by omega⟩⟩
    · rintro ⟨h1, h2⟩
      have hne : p ≠ [] := fun e => by rw [e] at h1; simp at h1
      have e := List.dropLast_concat_getLast hne
      rw [← e] at h2
      obtain ⟨h3, h4, h5⟩ := isPat_snoc.1 h2
      refine ⟨p.dropLast, (mem_allP hk).2 ⟨by simp [h1], h3⟩, ?_⟩
      unfold extP
      rw [List.mem_map]
      refine ⟨(p.getLast hne).toNat, List.mem_range.2 (by omega), ?_⟩
      rw [show (((p.getLast hne).toNat : Nat) : Int) = p.getLast hne by omega]
      exact e
theorem extP_len (k : Int) (p : List Int) : (extP k p).length = (newN k p + 1).toNat := by simp [extP]
theorem flat_len {α β : Type} {f : α → List β} {B : Nat} : ∀ {l : List α}, (∀ a ∈ l, (f a).length ≤ B) → (l.flatMap f).length ≤ l.length * B
  | [], _ => by simp
  | a :: r, h => by
    rw [List.flatMap_cons, List.length_append, List.length_cons, Nat.succ_mul]
    have h1 := h a List.mem_cons_self
    have h2 := flat_len (l := r) fun b hb => h b (List.mem_cons_of_mem _ hb)
    omega
theorem allP_len {k : Int} (hk : 0 ≤ k) (hk3 : k ≤ 3) : ∀ {w : Nat}, w ≤ 4 → (allP w k).length ≤ 8 ^ w
  | 0, _ => by simp [allP]
  | w + 1, h => by
    rw [allP, Nat.pow_succ]
    have h1 := allP_len hk hk3 (w := w) (by omega)
    have h2 : ((allP w k).flatMap (extP k)).length ≤ (allP w k).length * 8 := flat_len fun p hp => by
      obtain ⟨h3, h4⟩ := (mem_allP hk).1 hp
      have := newN_pat h4
      rw [extP_len]
      omega
    exact Nat.le_trans h2 (Nat.mul_le_mul_right _ h1)
theorem allP_4096 {k : Int} (hk : 0 ≤ k) (hk3 : k ≤ 3) {w : Nat} (hw : w ≤ 4) : (allP w k).length ≤ 4096 := by
  have h1 := allP_len hk hk3 hw
  have h2 : 8 ^ w ≤ 8 ^ 4 := Nat.pow_le_pow_right (by decide) hw
  omega
theorem allP_row {k : Int} (hk : 0 ≤ k) {w : Nat} {i : Nat} (hi : i < (allP w k).length) : (rwAt (allP w k) i).length = w ∧ isPatB k (rwAt (allP w k) i) = true :=
  (mem_allP hk).1 (by rw [rwAt_get _ _ hi]; exact List.getElem_mem hi)
theorem sumR_const {c : Nat} : ∀ {ls : List (List Int)}, (∀ l ∈ ls, l.length ≤ c) → sumR ls ≤ ls.length * c
  | [], _ => by simp [sumR]
  | l :: r, h => by
    rw [sumR, List.length_cons, Nat.succ_mul]
    have h1 := h l List.mem_cons_self
    have h2 := sumR_const (ls := r) fun b hb => h b (List.mem_cons_of_mem _ hb)
    omega
theorem allP_fit {k : Int} (hk : 0 ≤ k) (hk3 : k ≤ 3) {w : Nat} (hw : w ≤ 4) : (allP w k).length + sumR (allP w k) ≤ 1048576 := by
  have h1 := allP_4096 hk hk3 hw
  have h2 := sumR_const (c := 4) (ls := allP w k) fun l hl => by have := ((mem_allP hk).1 hl).1; omega
  omega
theorem flat_next {k : Int} {ls : List (List Int)} {j : Nat} (h : j < ls.length) : (ls.take (j + 1)).flatMap (extP k) = (ls.take j).flatMap (extP k) ++ extP k (rwAt ls j) := by
  rw [rw_take_next h, List.flatMap_append]
  simp
theorem flat_take_len {k : Int} (ls : List (List Int)) (j : Nat) : ((ls.take j).flatMap (extP k)).length ≤ (ls.flatMap (extP k)).length := by
  have h : ls.flatMap (extP k) = (ls.take j).flatMap (extP k) ++ (ls.drop j).flatMap (extP k) := by rw [← List.flatMap_append, List.take_append_drop]
  rw [h, List.length_append]
  omega
/-- The first so many that go on from one. -/
def extTo (p : List Int) (n : Nat) : List (List Int) := (List.range n).map fun i : Nat => p ++ [(i : Int)]
theorem extTo_next (p : List Int) (n : Nat) : extTo p (n + 1) = extTo p n ++ [p ++ [(n : Int)]] := by simp [extTo, List.range_succ]
theorem extTo_all (k : Int) (p : List Int) : extTo p (newN k p + 1).toNat = extP k p := rfl
theorem extTo_len (p : List Int) (n : Nat) : (extTo p n).length = n := by simp [extTo]

/-- Whether one is among several. -/
def thereB (ls : List (List Int)) (p : List Int) : Bool := ls.contains p
theorem there_mem {ls : List (List Int)} {p : List Int} : thereB ls p = true ↔ p ∈ ls := by unfold thereB; exact List.contains_iff_mem
theorem there_no {ls : List (List Int)} {p : List Int} (h : ∀ i, i < ls.length → ¬ rwAt ls i = p) : thereB ls p = false := by
  cases hh : thereB ls p with
  | false => rfl
  | true =>
    obtain ⟨i, hi, e⟩ := List.getElem_of_mem (there_mem.1 hh)
    exact absurd (by rw [rwAt_get _ _ hi]; exact e) (h i hi)
theorem there_yes {ls : List (List Int)} {p : List Int} {i : Nat} (hi : i < ls.length) (e : rwAt ls i = p) : thereB ls p = true := by
  rw [there_mem, ← e, rwAt_get _ _ hi]
  exact List.getElem_mem hi
theorem there_all {w : Nat} {k : Int} (hk : 0 ≤ k) (p : List Int) : thereB (allP w k) p = (decide (p.length = w) && isPatB k p) := by
  rw [Bool.eq_iff_iff, there_mem, mem_allP hk]
  simp

/-- Which list comes first. -/
def lexLt : List Int → List Int → Bool
  | [], [] => false
  | [], _ :: _ => true
  | _ :: _, [] => false
  | x :: a, y :: b => if x = y then lexLt a b else decide (x < y)
theorem lex_step {a b : List Int} {i : Nat} (ha : i < a.length) (hb : i < b.length) (e : itAt a i = itAt b i) : lexLt (a.drop i) (b.drop i) = lexLt (a.drop (i + 1)) (b.drop (i + 1)) := by
  rw [List.drop_eq_getElem_cons ha, List.drop_eq_getElem_cons hb, lexLt, if_pos (by rw [← itAt_get a i ha, ← itAt_get b i hb]; exact e)]
theorem lex_here {a b : List Int} {i : Nat} (ha : i < a.length) (hb : i < b.length) (e : ¬ itAt a i = itAt b i) : lexLt (a.drop i) (b.drop i) = decide (itAt a i < itAt b i) := by
  rw [List.drop_eq_getElem_cons ha, List.drop_eq_getElem_cons hb, lexLt, if_neg (by rw [← itAt_get a i ha, ← itAt_get b i hb]; exact e), itAt_get a i ha, itAt_get b i hb]
theorem lex_end {a b : List Int} {i : Nat} (ha : i ≤ a.length) (hb : i ≤ b.length) (h : i = a.length ∨ i = b.length) : lexLt (a.drop i) (b.drop i) = decide (a.length < b.length) := by
  rcases Nat.lt_or_ge i a.length with h1 | h1
  · have e : i = b.length := by omega
    rw [List.drop_eq_getElem_cons h1, List.drop_of_length_le (by omega : b.length ≤ i), lexLt]
    exact (decide_eq_false (by omega)).symm
  · rw [List.drop_of_length_le h1]
    rcases Nat.lt_or_ge i b.length with h2 | h2
    · rw [List.drop_eq_getElem_cons h2, lexLt]
      exact (decide_eq_true (by omega)).symm
    · rw [List.drop_of_length_le h2, lexLt]
      exact (decide_eq_false (by omega)).symm

/-- Whether rows are patterns of a width, in order. -/
def rowOkB (z k : Int) (m : List (List Int)) (i : Nat) : Bool := (decide (((rwAt m i).length : Int) = z) && isPatB k (rwAt m i)) && (decide (i = 0) || lexLt (rwAt m (i - 1)) (rwAt m i))
def rowsOkB (z k : Int) (m : List (List Int)) : Bool := (List.range m.length).all (rowOkB z k m)
def widB (z : Int) : Bool := decide (0 ≤ z ∧ z ≤ 4)
def orbB (z : Int) (l : List Int) (m : List (List Int)) : Bool := widB z && (constB l && rowsOkB z l.length m)
theorem rowsOk_no {z k : Int} {m : List (List Int)} {i : Nat} (hi : i < m.length) (h : rowOkB z k m i = false) : rowsOkB z k m = false := by
  unfold rowsOkB
  rw [List.all_eq_false]
  exact ⟨i, List.mem_range.2 hi, by simp [h]⟩
theorem rowsOk_yes {z k : Int} {m : List (List Int)} (h : ∀ i, i < m.length → rowOkB z k m i = true) : rowsOkB z k m = true := by
  unfold rowsOkB
  rw [List.all_eq_true]
  exact fun i hi => h i (List.mem_range.1 hi)
theorem rowsOk_at {z k : Int} {m : List (List Int)} (h : rowsOkB z k m = true) {i : Nat} (hi : i < m.length) : ((rwAt m i).length : Int) = z ∧ isPatB k (rwAt m i) = true := by
  unfold rowsOkB at h
  rw [List.all_eq_true] at h
  have := h i (List.mem_range.2 hi)
  unfold rowOkB at this
  simp only [Bool.and_eq_true, decide_eq_true_eq] at this
  exact this.1
theorem const_len {l : List Int} (h : constB l = true) : l.length ≤ 3 := by
  unfold constB at h
  simp only [Bool.and_eq_true, decide_eq_true_eq] at h
  exact h.1
theorem orb_rows {z : Int} {l : List Int} {m : List (List Int)} (h : orbB z l m = true) : widB z = true ∧ rowsOkB z l.length m = true := by
  unfold orbB at h
  simp only [Bool.and_eq_true] at h
  exact ⟨h.1, h.2.2⟩

end Go.Proofs.Ytjjokghcjgighaa
end

section
namespace Go.Proofs.Ytjjokghcjgighaa
open Go.RowKit Go.Sort

/-- The least atom that is not in a list; -1: there is none. -/
def leastF (l : List Int) : Int := match (List.range 1000).find? (fun a : Nat => !hasB l (a : Int)) with
  | some a => a
  | none => -1

theorem leastF_at {l : List Int} {a : Nat} (ha : a < 1000) (hn : hasB l (a : Int) = false) (hb : ∀ b : Nat, b < a → hasB l (b : Int) = true) : leastF l = a := by
  have h : (List.range 1000).find? (fun a : Nat => !hasB l (a : Int)) = some a := by
    rw [List.find?_range_eq_some]
    refine ⟨by simp [hn], by simpa using ha, fun j hj => ?_⟩
    simp [hb j hj]
  unfold leastF
  rw [h]

theorem leastF_none {l : List Int} (hb : ∀ b : Nat, b < 1000 → hasB l (b : Int) = true) : leastF l = -1 := by
  have h : (List.range 1000).find? (fun a : Nat => !hasB l (a : Int)) = none := by
    rw [List.find?_eq_none]
    intro x hx
    rw [hb x (List.mem_range.1 hx)]
    simp
  unfold leastF
  rw [h]

/-- Which atoms the first k numbers are. -/
def tBits (l : List Int) (k : Nat) : List Value := (List.range 1000).map fun q : Nat => .bool (hasB (l.take k) (q : Int))

theorem tBits_len (l : List Int) (k : Nat) : (tBits l k).length = 1000 := by rw [tBits, List.length_map, List.length_range]

theorem tBits_at (l : List Int) (k q : Nat) (h : q < 1000) : (tBits l k)[q]? = some (.bool (hasB (l.take k) (q : Int))) := by
  simp [tBits, List.getElem?_map, List.getElem?_range h]

theorem tBits_zero (l : List Int) : tBits l 0 = List.replicate 1000 (.bool false) := by
  apply List.ext_getElem?
  intro q
  by_cases hq : q < 1000
  · rw [tBits_at l 0 q hq, List.getElem?_replicate, if_pos hq]
    simp [hasB]
  · rw [List.getElem?_eq_none (by rw [tBits_len]; omega), List.getElem?_eq_none (by rw [List.length_replicate]; omega)]

theorem contains_next {l : List Int} {k : Nat} (hk : k < l.length) (q : Int) : hasB (l.take (k + 1)) q = (hasB (l.take k) q || decide (q = itAt l k)) := by
  rw [itake_next hk, Bool.eq_iff_iff]
  simp [hasB]

theorem tBits_set {l : List Int} {k m : Nat} (hk : k < l.length) (hm : m < 1000) (e : itAt l k = (m : Int)) : (tBits l k).set m (.bool true) = tBits l (k + 1) := by
  apply List.ext_getElem?
  intro q
  by_cases hq : q < 1000
  · rw [tBits_at l (k + 1) q hq, List.getElem?_set, contains_next hk, e]
    by_cases hc : m = q
    · subst hc
      rw [if_pos rfl, if_pos (by rw [tBits_len]; exact hm)]
      simp
    · rw [if_neg hc, tBits_at l k q hq]
      have : ¬ (q : Int) = (m : Int) := by omega
      simp [this]
  · rw [List.getElem?_eq_none (by rw [List.length_set, tBits_len]; omega), List.getElem?_eq_none (by rw [tBits_len]; omega)]

theorem tBits_skip {l : List Int} {k : Nat} (hk : k < l.length) (h : atomB (itAt l k) = false) : tBits l k = tBits l (k + 1) := by
  apply List.ext_getElem?
  intro q
  by_cases hq : q < 1000
  · rw [tBits_at l k q hq, tBits_at l (k + 1) q hq, contains_next hk]
    have hne : ¬ (q : Int) = itAt l k := by
      intro e
      rw [← e] at h
      simp [atomB] at h
      omega
    simp [hne]
  · rw [List.getElem?_eq_none (by rw [tBits_len]; omega), List.getElem?_eq_none (by rw [tBits_len]; omega)]

/-- The block of marks after k numbers. -/
def TMarks (w : World) (G : Nat) (l : List Int) (k : Nat) : Prop := w.heap[G]? = some (.cells (tBits l k).toArray 77 (0, 0))

theorem TMarks.lt {w : World} {G : Nat} {l : List Int} {k : Nat} (h : TMarks w G l k) : G < w.heap.size := (Array.getElem?_eq_some_iff.1 h).1
theorem TMarks.cell {w : World} {G : Nat} {l : List Int} {k : Nat} (h : TMarks w G l k) (q : Nat) (hq : q < 1000) : w.cell? ⟨G, q, none⟩ = some (.bool (hasB (l.take k) (q : Int))) := by
  rw [cell_of_row w G q _ _ _ h]
  simpa using tBits_at l k q hq
theorem TMarks.frozen {w : World} {G : Nat} {l : List Int} {k : Nat} (h : TMarks w G l k) (q : Nat) : w.frozen? ⟨G, q, none⟩ = false := frozen_of_row w G q _ _ h
theorem TMarks.set_ {w : World} {G : Nat} {l : List Int} {k m : Nat} (h : TMarks w G l k) (hk : k < l.length) (hm : m < 1000) (e : itAt l k = (m : Int)) :
    TMarks (w.setCell ⟨G, m, none⟩ (.bool true)) G l (k + 1) := by
  unfold TMarks at h ⊢
  rw [heap_setCell_same w G m _ _ _ h, ← tBits_set hk hm e]
  simp

theorem zero_marks : Try.zeroCells77 = (List.replicate 1000 (Value.bool false)).toArray := by kernel_rfl

set_option maxRecDepth 100000 in
set_option maxHeartbeats 1000000 in
theorem least_impl (A : Option Addr) (c : Nat) (l : List Int) (w : World) (hA : IntsAt w A l) (hl : l.length ≤ 1099511627776) :
    Calls Try.prog 74 #[.slice A l.length c] w fun e w' => e = .returned (.int .i64 (leastF l)) ∧ Below w.heap.size w w' := by
  have hm0 : TMarks (w.alloc (.cells Try.zeroCells77 77)) w.heap.size l 0 := by
    rw [zero_marks, ← tBits_zero l]
    exact heap_alloc_new w _
  have hb0 : Below w.heap.size w (w.alloc (.cells Try.zeroCells77 77)) := (Below.refl _ _).alloc (Nat.le_refl _) _
  go_enter Try.func74, Try.ntmps74
  go_wp2_with fail
  generalize w.alloc (.cells Try.zeroCells77 77) = w1 at hm0 hb0 ⊢
  go_loopw [5, 9] (fun _ i wr => ∃ k : Nat, k ≤ l.length ∧ i = .int .i64 k ∧ TMarks wr w.heap.size l k ∧ Below w.heap.size w wr) (fun _ i _ => l.length - (intOf i).toNat)
  case atStart => exact ⟨0, Nat.zero_le _, rfl, hm0, hb0⟩
  case round =>
    clear hm0 hb0
    obtain ⟨k, hk, rfl, hm, hb⟩ := hrel
    by_cases hlt : k < l.length
    · obtain ⟨b1, o1, rfl, hb1, hc1⟩ := hA (by omega)
      have c1 := hc1 k hlt
      rw [← hb.cell (p := ⟨b1, _, none⟩) hb1] at c1
      clear hc1 hA
      by_cases ha : atomB (itAt l k) = true
      · obtain ⟨m, hx⟩ : ∃ m : Nat, itAt l k = (m : Int) := ⟨(itAt l k).toNat, by simp [atomB] at ha; omega⟩
        have hm1 : m < 1000 := by rw [hx] at ha; simp [atomB] at ha; omega
        have hc := hm.cell m hm1
        have hfz := hm.frozen m
        have hst : Hid (TMarks (wr.setCell ⟨w.heap.size, m, none⟩ (.bool true)) w.heap.size l (k + 1)) := hm.set_ hlt hm1 hx
        have hb2 : Below w.heap.size w (wr.setCell ⟨w.heap.size, m, none⟩ (.bool true)) := hb.setCell (Nat.le_refl _) _
        rw [hx] at c1 ha
        generalize hasB (l.take k) (m : Int) = bb at hc
        clear hm hb hx
        go_wp2_with (go_at_call 78; refine (isAtom_any _ _).mono ?_; rintro e w' ⟨rfl, rfl⟩)
        refine ⟨⟨k + 1, by omega, by go_num, hst.out, hb2⟩, ?_⟩
        simp only [intOf]
        omega
      · have ha' : atomB (itAt l k) = false := by simpa using ha
        have hst : Hid (TMarks wr w.heap.size l (k + 1)) := by
          show TMarks wr w.heap.size l (k + 1)
          unfold TMarks at hm ⊢
          rw [← tBits_skip hlt ha']
          exact hm
        generalize itAt l k = x at c1 ha'
        clear hm ha
        go_wp2_with (go_at_call 78; refine (isAtom_any _ _).mono ?_; rintro e w' ⟨rfl, rfl⟩)
        refine ⟨⟨k + 1, by omega, by go_num, hst.out, hb⟩, ?_⟩
        simp only [intOf]
        omega
    · have hall : Hid (l.take k = l) := List.take_of_length_le (by omega)
      obtain ⟨wo, rfl⟩ : ∃ wo : World, wo = wr := ⟨_, rfl⟩
      clear hA
      go_wp2
      go_loop [6, 18] (fun _ i => ∃ a : Nat, a ≤ 1000 ∧ i = .int .i64 a ∧ Hid (∀ b : Nat, b < a → hasB l (b : Int) = true)) (fun _ i => 1000 - (intOf i).toNat)
      case atStart => exact ⟨0, Nat.zero_le _, rfl, fun b hb => absurd hb (by omega)⟩
      case round =>
        obtain ⟨a, ha, rfl, hq⟩ := hrel
        by_cases hlt2 : a < 1000
        · have hc := hm.cell a hlt2
          rw [hall.out] at hc
          by_cases hin : hasB l (a : Int) = true
          · have hn : Hid (∀ b : Nat, b < a + 1 → hasB l (b : Int) = true) := by
              intro b hb'
              by_cases e : b = a
              · rw [e]; exact hin
              · exact hq.out b (by omega)
            rw [hin] at hc
            clear hm hin hq
            go_wp2
            go_round
            case rel => exact ⟨a + 1, by omega, by go_num, hn⟩
            case measure => simp [intOf]; omega
          · have hin' : hasB l (a : Int) = false := by simpa using hin
            have hn : Hid (leastF l = a) := leastF_at hlt2 hin' hq.out
            rw [hin'] at hc
            clear hm hin hin' hq
            go_wp2
            go_ret
            exact ⟨int_end hn.out.symm, hb⟩
        · have hn : Hid (leastF l = -1) := leastF_none fun b hb' => hq.out b (by omega)
          clear hm hq
          go_wp2
          go_ret
          exact ⟨int_end hn.out.symm, hb⟩

end Go.Proofs.Ytjjokghcjgighaa
end

