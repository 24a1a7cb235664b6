/-
  Patterns by themselves, all of them, and their order: plain words, no program is walked here. Patterns as codes of base eight, and tables of them: plain words, no program is walked here. What is a term: plain words, no program is walked here. All terms within a term: plain words. The shape of a term, in the model, as contracts. The pattern of a tuple is a pattern: plain words, no program is walked here. The least atom that is not in a list: in the program, as a contract. Examples of patterns: plain words, no program is walked here. slices.Index and slices.Contains at numbers, as contracts. The atoms that two lists of pairs move: in the model, as a contract. The least atom that is not in a list: in the model, as a contract. What the pairs give to an atom, in the program and in the model, as contracts. Plain mathematics of permutations that are written as lists of pairs. Whether a list has a number: in the laws, as a contract. Whether a list has all of another one: the laws' own all, as a contract. The laws' own comparison of two lists of numbers, as a contract.
-/
import Derived.Test.YtnamlgacjhnpnaaGreatKReduced4
import Derived.Test.YtnamlgacjhnpnaaGreatKReduced3
import Derived.WalkLawsBesides
import Derived.WalkSpells
import Derived.BigQuiet
import Derived.Lib.QuietBelow
section
namespace Go.Proofs.YtnamlgacjhnpnaaGreat
open Go.RowKit
set_option linter.unusedVariables false

/-- The number that one more atom gets. -/
def newN (k : Int) (p : List Int) : Int := p.foldl (fun m n => max m (n + 1)) k
theorem newN_next {k : Int} {p : List Int} {i : Nat} (h : i < p.length) : newN k (p.take (i + 1)) = max (newN k (p.take i)) (itAt p i + 1) := by
  rw [itake_next h]
  unfold newN
  rw [List.foldl_append]
  rfl
theorem newN_ge (k : Int) (p : List Int) : k ≤ newN k p := by
  unfold newN
  induction p generalizing k with
  | nil => exact Int.le_refl _
  | cons a r ih => rw [List.foldl_cons]; have := ih (max k (a + 1)); omega
theorem newN_snoc (k : Int) (p : List Int) (n : Int) : newN k (p ++ [n]) = max (newN k p) (n + 1) := by
  unfold newN
  rw [List.foldl_append]
  rfl
theorem newN_bound {k B : Int} : ∀ {p : List Int}, k ≤ B → (∀ i, i < p.length → itAt p i < B) → newN k p ≤ B
  | [], h, _ => h
  | a :: r, h, hp => by
    have h0 := hp 0 (by simp)
    have h1 : itAt (a :: r) 0 = a := rfl
    rw [h1] at h0
    show newN (max k (a + 1)) r ≤ B
    exact newN_bound (by omega) fun i hi => hp (i + 1) (by simpa using hi)

def isPatB (k : Int) (p : List Int) : Bool := (List.range p.length).all fun i => decide (0 ≤ itAt p i) && decide (itAt p i ≤ newN k (p.take i))
theorem isPat_no {k : Int} {p : List Int} {i : Nat} (hi : i < p.length) (h : ¬ (0 ≤ itAt p i ∧ itAt p i ≤ newN k (p.take i))) : isPatB k p = false := by
  unfold isPatB
  rw [List.all_eq_false]
  refine ⟨i, List.mem_range.2 hi, ?_⟩
  simp only [Bool.and_eq_true, decide_eq_true_eq]
  exact h
theorem isPat_yes {k : Int} {p : List Int} (h : ∀ i, i < p.length → 0 ≤ itAt p i ∧ itAt p i ≤ newN k (p.take i)) : isPatB k p = true := by
  unfold isPatB
  rw [List.all_eq_true]
  intro i hi
  simp only [Bool.and_eq_true, decide_eq_true_eq]
  exact h i (List.mem_range.1 hi)
theorem isPat_at {k : Int} {p : List Int} (h : isPatB k p = true) {i : Nat} (hi : i < p.length) : 0 ≤ itAt p i ∧ itAt p i ≤ newN k (p.take i) := by
  unfold isPatB at h
  rw [List.all_eq_true] at h
  have := h i (List.mem_range.2 hi)
  simpa only [Bool.and_eq_true, decide_eq_true_eq] using this
theorem newN_le {k : Int} {p : List Int} : ∀ {i : Nat}, i ≤ p.length → (∀ j, j < i → itAt p j ≤ newN k (p.take j)) → newN k (p.take i) ≤ k + i
  | 0, _, _ => by simp [newN]
  | i + 1, hi, h => by
    rw [newN_next (by omega)]
    have h1 := newN_le (i := i) (by omega) fun j hj => h j (by omega)
    have h2 := h i (by omega)
    omega
theorem newN_pat {k : Int} {p : List Int} (h : isPatB k p = true) : newN k p ≤ k + p.length := by
  have := newN_le (k := k) (p := p) (i := p.length) (Nat.le_refl _) fun j hj => (isPat_at h hj).2
  rwa [List.take_length] at this

theorem itAt_snoc_lt {p : List Int} {n : Int} {i : Nat} (h : i < p.length) : itAt (p ++ [n]) i = itAt p i := by
  rw [itAt_get _ _ (by simp; omega), itAt_get _ _ h, List.getElem_append_left h]
theorem itAt_snoc_eq (p : List Int) (n : Int) : itAt (p ++ [n]) p.length = n := by
  rw [itAt_get _ _ (by simp), List.getElem_append_right (Nat.le_refl _)]
  simp
theorem isPat_snoc {k : Int} {p : List Int} {n : Int} : isPatB k (p ++ [n]) = true ↔ isPatB k p = true ∧ 0 ≤ n ∧ n ≤ newN k p := by
  constructor
  · intro h
    refine ⟨isPat_yes fun i hi => ?_, ?_⟩
    · have h1 := isPat_at h (i := i) (by simp; omega)
      rw [itAt_snoc_lt hi, List.take_append_of_le_length (by omega)] at h1
      exact h1
    · have h1 := isPat_at h (i := p.length) (by simp)
      rw [itAt_snoc_eq, List.take_append_of_le_length (Nat.le_refl _), List.take_length] at h1
      exact h1
  · rintro ⟨h, h0, h1⟩
    refine isPat_yes fun i hi => ?_
    rcases Nat.lt_or_ge i p.length with h2 | h2
    · rw [itAt_snoc_lt h2, List.take_append_of_le_length (by omega)]
      exact isPat_at h h2
    · have e : i = p.length := by simp at hi; omega
      subst e
      rw [itAt_snoc_eq, List.take_append_of_le_length (Nat.le_refl _), List.take_length]
      exact ⟨h0, h1⟩

/-- The patterns that go on from one. -/
def extP (k : Int) (p : List Int) : List (List Int) := (List.range (newN k p + 1).toNat).map fun n : Nat => p ++ [(n : Int)]
/-- All patterns of a width. -/
def allP : Nat → Int → List (List Int)
  | 0, _ => [[]]
  | w + 1, k => (allP w k).flatMap (extP k)

theorem mem_allP {k : Int} (hk : 0 ≤ k) : ∀ {w : Nat} {p : List Int}, p ∈ allP w k ↔ p.length = w ∧ isPatB k p = true
  | 0, p => by
    rw [allP, List.mem_singleton]
    constructor
    · rintro rfl; exact ⟨rfl, rfl⟩
    · rintro ⟨h, _⟩; exact List.eq_nil_of_length_eq_zero h
  | w + 1, p => by
    rw [allP, List.mem_flatMap]
    constructor
    · rintro ⟨q, hq, hp⟩
      obtain ⟨h1, h2⟩ := (mem_allP hk).1 hq
      unfold extP at hp
      rw [List.mem_map] at hp
      obtain ⟨n, hn, rfl⟩ := hp
      rw [List.mem_range] at hn
      refine ⟨by simp [h1], isPat_snoc.2 ⟨h2, by omega, by omega⟩⟩
    · rintro ⟨h1, h2⟩
      have hne : p ≠ [] := fun e => by rw [e] at h1; simp at h1
      have e := List.dropLast_concat_getLast hne
      rw [← e] at h2
      obtain ⟨h3, h4, h5⟩ := isPat_snoc.1 h2
      refine ⟨p.dropLast, (mem_allP hk).2 ⟨by simp [h1], h3⟩, ?_⟩
      unfold extP
      rw [List.mem_map]
      refine ⟨(p.getLast hne).toNat, List.mem_range.2 (by omega), ?_⟩
      rw [show (((p.getLast hne).toNat : Nat) : Int) = p.getLast hne by omega]
      exact e
theorem extP_len (k : Int) (p : List Int) : (extP k p).length = (newN k p + 1).toNat := by simp [extP]
theorem flat_len {α β : Type} {f : α → List β} {B : Nat} : ∀ {l : List α}, (∀ a ∈ l, (f a).length ≤ B) → (l.flatMap f).length ≤ l.length * B
  | [], _ => by simp
  | a :: r, h => by
    rw [List.flatMap_cons, List.length_append, List.length_cons, Nat.succ_mul]
    have h1 := h a List.mem_cons_self
    have h2 := flat_len (l := r) fun b hb => h b (List.mem_cons_of_mem _ hb)
    omega
theorem allP_len {k : Int} (hk : 0 ≤ k) (hk3 : k ≤ 3) : ∀ {w : Nat}, w ≤ 4 → (allP w k).length ≤ 8 ^ w
  | 0, _ => by simp [allP]
  | w + 1, h => by
    rw [allP, Nat.pow_succ]
    have h1 := allP_len hk hk3 (w := w) (by omega)
    have h2 : ((allP w k).flatMap (extP k)).length ≤ (allP w k).length * 8 := flat_len fun p hp => by
      obtain ⟨h3, h4⟩ := (mem_allP hk).1 hp
      have := newN_pat h4
      rw [extP_len]
      omega
    exact Nat.le_trans h2 (Nat.mul_le_mul_right _ h1)
theorem allP_4096 {k : Int} (hk : 0 ≤ k) (hk3 : k ≤ 3) {w : Nat} (hw : w ≤ 4) : (allP w k).length ≤ 4096 := by
  have h1 := allP_len hk hk3 hw
  have h2 : 8 ^ w ≤ 8 ^ 4 := Nat.pow_le_pow_right (by decide) hw
  omega
theorem allP_row {k : Int} (hk : 0 ≤ k) {w : Nat} {i : Nat} (hi : i < (allP w k).length) : (rwAt (allP w k) i).length = w ∧ isPatB k (rwAt (allP w k) i) = true :=
  (mem_allP hk).1 (by rw [rwAt_get _ _ hi]; exact List.getElem_mem hi)
theorem sumR_const {c : Nat} : ∀ {ls : List (List Int)}, (∀ l ∈ ls, l.length ≤ c) → sumR ls ≤ ls.length * c
  | [], _ => by simp [sumR]
  | l :: r, h => by
    rw [sumR, List.length_cons, Nat.succ_mul]
    have h1 := h l List.mem_cons_self
    have h2 := sumR_const (ls := r) fun b hb => h b (List.mem_cons_of_mem _ hb)
    omega
theorem allP_fit {k : Int} (hk : 0 ≤ k) (hk3 : k ≤ 3) {w : Nat} (hw : w ≤ 4) : (allP w k).length + sumR (allP w k) ≤ 1048576 := by
  have h1 := allP_4096 hk hk3 hw
  have h2 := sumR_const (c := 4) (ls := allP w k) fun l hl => by have := ((mem_allP hk).1 hl).1; omega
  omega
theorem flat_next {k : Int} {ls : List (List Int)} {j : Nat} (h : j < ls.length) : (ls.take (j + 1)).flatMap (extP k) = (ls.take j).flatMap (extP k) ++ extP k (rwAt ls j) := by
  rw [rw_take_next h, List.flatMap_append]
  simp
theorem flat_take_len {k : Int} (ls : List (List Int)) (j : Nat) : ((ls.take j).flatMap (extP k)).length ≤ (ls.flatMap (extP k)).length := by
  have h : ls.flatMap (extP k) = (ls.take j).flatMap (extP k) ++ (ls.drop j).flatMap (extP k) := by rw [← List.flatMap_append, List.take_append_drop]
  rw [h, List.length_append]
  omega
/-- The first so many that go on from one. -/
def extTo (p : List Int) (n : Nat) : List (List Int) := (List.range n).map fun i : Nat => p ++ [(i : Int)]
theorem extTo_next (p : List Int) (n : Nat) : extTo p (n + 1) = extTo p n ++ [p ++ [(n : Int)]] := by simp [extTo, List.range_succ]
theorem extTo_all (k : Int) (p : List Int) : extTo p (newN k p + 1).toNat = extP k p := rfl
theorem extTo_len (p : List Int) (n : Nat) : (extTo p n).length = n := by simp [extTo]

/-- Whether one is among several. -/
def thereB (ls : List (List Int)) (p : List Int) : Bool := ls.contains p
theorem there_mem {ls : List (List Int)} {p : List Int} : thereB ls p = true ↔ p ∈ ls := by unfold thereB; exact List.contains_iff_mem
theorem there_no {ls : List (List Int)} {p : List Int} (h : ∀ i, i < ls.length → ¬ rwAt ls i = p) : thereB ls p = false := by
  cases hh : thereB ls p with
  | false => rfl
  | true =>
    obtain ⟨i, hi, e⟩ := List.getElem_of_mem (there_mem.1 hh)
    exact absurd (by rw [rwAt_get _ _ hi]; exact e) (h i hi)
theorem there_yes {ls : List (List Int)} {p : List Int} {i : Nat} (hi : i < ls.length) (e : rwAt ls i = p) : thereB ls p = true := by
  rw [there_mem, ← e, rwAt_get _ _ hi]
  exact List.getElem_mem hi
theorem there_all {w : Nat} {k : Int} (hk : 0 ≤ k) (p : List Int) : thereB (allP w k) p = (decide (p.length = w) && isPatB k p) := by
  rw [Bool.eq_iff_iff, there_mem, mem_allP hk]
  simp

/-- Which list comes first. -/
def lexLt : List Int → List Int → Bool
  | [], [] => false
  | [], _ :: _ => true
  | _ :: _, [] => false
  | x :: a, y :: b => if x = y then lexLt a b else decide (x < y)
theorem lex_step {a b : List Int} {i : Nat} (ha : i < a.length) (hb : i < b.length) (e : itAt a i = itAt b i) : lexLt (a.drop i) (b.drop i) = lexLt (a.drop (i + 1)) (b.drop (i + 1)) := by
  rw [List.drop_eq_getElem_cons ha, List.drop_eq_getElem_cons hb, lexLt, if_pos (by rw [← itAt_get a i ha, ← itAt_get b i hb]; exact e)]
theorem lex_here {a b : List Int} {i : Nat} (ha : i < a.length) (hb : i < b.length) (e : ¬ itAt a i = itAt b i) : lexLt (a.drop i) (b.drop i) = decide (itAt a i < itAt b i) := by
  rw [List.drop_eq_getElem_cons ha, List.drop_eq_getElem_cons hb, lexLt, if_neg (by rw [← itAt_get a i ha, ← itAt_get b i hb]; exact e), itAt_get a i ha, itAt_get b i hb]
theorem lex_end {a b : List Int} {i : Nat} (ha : i ≤ a.length) (hb : i ≤ b.length) (h : i = a.length ∨ i = b.length) : lexLt (a.drop i) (b.drop i) = decide (a.length < b.length) := by
  rcases Nat.lt_or_ge i a.length with h1 | h1
  · have e : i = b.length := by omega
    rw [List.drop_eq_getElem_cons h1, List.drop_of_length_le (by omega : b.length ≤ i), lexLt]
    exact (decide_eq_false (by omega)).symm
  · rw [List.drop_of_length_le h1]
    rcases Nat.lt_or_ge i b.length with h2 | h2
    · rw [List.drop_eq_getElem_cons h2, lexLt]
      exact (decide_eq_true (by omega)).symm
    · rw [List.drop_of_length_le h2, lexLt]
      exact (decide_eq_false (by omega)).symm

/-- Whether rows are patterns of a width, in order. -/
def rowOkB (z k : Int) (m : List (List Int)) (i : Nat) : Bool := (decide (((rwAt m i).length : Int) = z) && isPatB k (rwAt m i)) && (decide (i = 0) || lexLt (rwAt m (i - 1)) (rwAt m i))
def rowsOkB (z k : Int) (m : List (List Int)) : Bool := (List.range m.length).all (rowOkB z k m)
def widB (z : Int) : Bool := decide (0 ≤ z ∧ z ≤ 4)
def orbB (z : Int) (l : List Int) (m : List (List Int)) : Bool := widB z && (constB l && rowsOkB z l.length m)
theorem rowsOk_no {z k : Int} {m : List (List Int)} {i : Nat} (hi : i < m.length) (h : rowOkB z k m i = false) : rowsOkB z k m = false := by
  unfold rowsOkB
  rw [List.all_eq_false]
  exact ⟨i, List.mem_range.2 hi, by simp [h]⟩
theorem rowsOk_yes {z k : Int} {m : List (List Int)} (h : ∀ i, i < m.length → rowOkB z k m i = true) : rowsOkB z k m = true := by
  unfold rowsOkB
  rw [List.all_eq_true]
  exact fun i hi => h i (List.mem_range.1 hi)
theorem rowsOk_at {z k : Int} {m : List (List Int)} (h : rowsOkB z k m = true) {i : Nat} (hi : i < m.length) : ((rwAt m i).length : Int) = z ∧ isPatB k (rwAt m i) = true := by
  unfold rowsOkB at h
  rw [List.all_eq_true] at h
  have := h i (List.mem_range.2 hi)
  unfold rowOkB at this
  simp only [Bool.and_eq_true, decide_eq_true_eq] at this
  exact this.1
theorem const_len {l : List Int} (h : constB l = true) : l.length ≤ 3 := by
  unfold constB at h
  simp only [Bool.and_eq_true, decide_eq_true_eq] at h
  exact h.1
theorem orb_rows {z : Int} {l : List Int} {m : List (List Int)} (h : orbB z l m = true) : widB z = true ∧ rowsOkB z l.length m = true := by
  unfold orbB at h
  simp only [Bool.and_eq_true] at h
  exact ⟨h.1, h.2.2⟩

end Go.Proofs.YtnamlgacjhnpnaaGreat
end

section
namespace Go.Proofs.YtnamlgacjhnpnaaGreat
open Go.RowKit
set_option linter.unusedVariables false

/-- The number of which a list's numbers are the digits of base eight. -/
def codeP (p : List Int) : Nat := p.foldl (fun c n => c * 8 + n.toNat) 0
theorem codeP_snoc (p : List Int) (n : Int) : codeP (p ++ [n]) = codeP p * 8 + n.toNat := by unfold codeP; rw [List.foldl_append]; rfl
theorem codeP_next {p : List Int} {i : Nat} (h : i < p.length) : codeP (p.take (i + 1)) = codeP (p.take i) * 8 + (itAt p i).toNat := by rw [itake_next h, codeP_snoc]
theorem codeP_nil : codeP [] = 0 := rfl
def digP (p : List Int) : Prop := ∀ n ∈ p, 0 ≤ n ∧ n < 8
theorem digP_snoc {p : List Int} {n : Int} (h : digP (p ++ [n])) : digP p ∧ 0 ≤ n ∧ n < 8 := ⟨fun x hx => h x (List.mem_append_left _ hx), h n (by simp)⟩
theorem digP_at {p : List Int} (h : digP p) {i : Nat} (hi : i < p.length) : 0 ≤ itAt p i ∧ itAt p i < 8 := h _ (by rw [itAt_get _ _ hi]; exact List.getElem_mem hi)
/-- The digits of a number. -/
def decP : Nat → Nat → List Int
  | 0, _ => []
  | w + 1, c => decP w (c / 8) ++ [((c % 8 : Nat) : Int)]
theorem decP_len : ∀ (w c : Nat), (decP w c).length = w
  | 0, _ => rfl
  | w + 1, c => by rw [decP, List.length_append, decP_len w]; rfl
theorem snoc_of {p : List Int} {w : Nat} (h : p.length = w + 1) : ∃ q n, p = q ++ [n] ∧ q.length = w := by
  have hne : p ≠ [] := fun e => by rw [e] at h; simp at h
  exact ⟨p.dropLast, p.getLast hne, (List.dropLast_concat_getLast hne).symm, by simp [h]⟩
theorem codeP_lt : ∀ {w : Nat} {p : List Int}, p.length = w → digP p → codeP p < 8 ^ w
  | 0, p, h, _ => by rw [List.eq_nil_of_length_eq_zero h, codeP_nil]; decide
  | w + 1, p, h, hd => by
    obtain ⟨q, n, rfl, hq⟩ := snoc_of h
    obtain ⟨h1, h2, h3⟩ := digP_snoc hd
    have := codeP_lt hq h1
    rw [codeP_snoc, Nat.pow_succ]
    omega
theorem decP_code : ∀ {w : Nat} {p : List Int}, p.length = w → digP p → decP w (codeP p) = p
  | 0, p, h, _ => by rw [List.eq_nil_of_length_eq_zero h]; rfl
  | w + 1, p, h, hd => by
    obtain ⟨q, n, rfl, hq⟩ := snoc_of h
    obtain ⟨h1, h2, h3⟩ := digP_snoc hd
    have e1 : (codeP q * 8 + n.toNat) / 8 = codeP q := by omega
    have e2 : (((codeP q * 8 + n.toNat) % 8 : Nat) : Int) = n := by omega
    rw [codeP_snoc, decP, e1, e2, decP_code hq h1]

theorem dig_allP {k : Int} (hk : 0 ≤ k) (hk3 : k ≤ 3) {w : Nat} (hw : w ≤ 4) {p : List Int} (hp : p ∈ allP w k) : p.length = w ∧ digP p := by
  obtain ⟨h1, h2⟩ := (mem_allP hk).1 hp
  refine ⟨h1, fun n hn => ?_⟩
  obtain ⟨i, hi, e⟩ := List.getElem_of_mem hn
  have h3 := isPat_at h2 hi
  have h4 := newN_le (k := k) (p := p) (i := i) (by omega) fun j hj => (isPat_at h2 (by omega)).2
  rw [itAt_get _ _ hi, e] at h3
  omega

theorem codes_asc {k : Int} (hk : 0 ≤ k) (hk3 : k ≤ 3) : ∀ {w : Nat}, w ≤ 4 → (allP w k).Pairwise (fun a b => codeP a < codeP b)
  | 0, _ => by simp [allP]
  | w + 1, hw => by
    have ih := codes_asc hk hk3 (w := w) (by omega)
    rw [allP, List.pairwise_flatMap]
    have hb : ∀ p ∈ allP w k, ∀ x ∈ extP k p, codeP p * 8 ≤ codeP x ∧ codeP x < codeP p * 8 + 8 := by
      intro p hp x hx
      obtain ⟨h1, h2⟩ := (mem_allP hk).1 hp
      have h3 := newN_pat h2
      unfold extP at hx
      rw [List.mem_map] at hx
      obtain ⟨n, hn, rfl⟩ := hx
      rw [List.mem_range] at hn
      rw [codeP_snoc]
      omega
    refine ⟨fun p hp => ?_, ?_⟩
    · unfold extP
      rw [List.pairwise_map]
      refine List.pairwise_lt_range.imp fun {a b} hab => ?_
      rw [codeP_snoc, codeP_snoc]
      omega
    · refine List.Pairwise.imp_of_mem ?_ ih
      intro a b ha hb' hab x hx y hy
      have h1 := hb a ha x hx
      have h2 := hb b hb' y hy
      omega

theorem eq_asc : ∀ {a b : List Nat}, a.Pairwise (· < ·) → b.Pairwise (· < ·) → (∀ x, x ∈ a ↔ x ∈ b) → a = b
  | [], [], _, _, _ => rfl
  | [], y :: b, _, _, h => absurd ((h y).2 (by simp)) (by simp)
  | x :: a, [], _, _, h => absurd ((h x).1 (by simp)) (by simp)
  | x :: a, y :: b, ha, hb, h => by
    rw [List.pairwise_cons] at ha hb
    have hxy : x = y := by
      rcases List.mem_cons.1 ((h x).1 (by simp)) with e | h1
      · exact e
      · rcases List.mem_cons.1 ((h y).2 (by simp)) with e | h2
        · exact e.symm
        · have h3 := ha.1 y h2
          have h4 := hb.1 x h1
          omega
    subst hxy
    rw [eq_asc ha.2 hb.2 fun z => ?_]
    constructor
    · intro hz
      rcases List.mem_cons.1 ((h z).1 (by simp [hz])) with e | h1
      · have := ha.1 z hz; omega
      · exact h1
    · intro hz
      rcases List.mem_cons.1 ((h z).2 (by simp [hz])) with e | h1
      · have := hb.1 z hz; omega
      · exact h1

/-- The patterns of a width that a table has. -/
def patsOf (w : Nat) (f : Nat → Bool) : List (List Int) := ((List.range 4096).filter f).map (decP w)
theorem code_4096 {k : Int} (hk : 0 ≤ k) (hk3 : k ≤ 3) {w : Nat} (hw : w ≤ 4) {p : List Int} (hp : p ∈ allP w k) : codeP p < 4096 := by
  obtain ⟨h1, h2⟩ := dig_allP hk hk3 hw hp
  have h3 := codeP_lt h1 h2
  have h4 : 8 ^ w ≤ 8 ^ 4 := Nat.pow_le_pow_right (by decide) hw
  omega
/-- Only codes of patterns of a width are in a table. -/
def tabOk (w : Nat) (k : Int) (f : Nat → Bool) : Prop := ∀ c, c < 4096 → f c = true → ∃ p ∈ allP w k, codeP p = c
theorem patsOf_eq {k : Int} (hk : 0 ≤ k) (hk3 : k ≤ 3) {w : Nat} (hw : w ≤ 4) {f : Nat → Bool} (hf : tabOk w k f) : patsOf w f = (allP w k).filter fun p => f (codeP p) := by
  have e : (List.range 4096).filter f = ((allP w k).filter fun p => f (codeP p)).map codeP := by
    refine eq_asc (List.pairwise_lt_range.filter _) ?_ fun c => ?_
    · rw [List.pairwise_map]
      exact (codes_asc hk hk3 hw).filter _
    · rw [List.mem_filter, List.mem_range, List.mem_map]
      constructor
      · rintro ⟨h1, h2⟩
        obtain ⟨p, hp, rfl⟩ := hf c h1 h2
        exact ⟨p, List.mem_filter.2 ⟨hp, h2⟩, rfl⟩
      · rintro ⟨p, hp, rfl⟩
        rw [List.mem_filter] at hp
        exact ⟨code_4096 hk hk3 hw hp.1, hp.2⟩
  unfold patsOf
  rw [e, List.map_map]
  refine (List.map_congr_left fun p hp => ?_).trans (List.map_id _)
  obtain ⟨h1, h2⟩ := dig_allP hk hk3 hw (List.mem_filter.1 hp).1
  exact decP_code h1 h2
theorem code_inj {k : Int} (hk : 0 ≤ k) (hk3 : k ≤ 3) {w : Nat} (hw : w ≤ 4) {p q : List Int} (hp : p ∈ allP w k) (hq : q ∈ allP w k) (e : codeP p = codeP q) : p = q := by
  obtain ⟨h1, h2⟩ := dig_allP hk hk3 hw hp
  obtain ⟨h3, h4⟩ := dig_allP hk hk3 hw hq
  rw [← decP_code h1 h2, ← decP_code h3 h4, e]

/-- The table of several patterns. -/
def tabOf (l : List (List Int)) (c : Nat) : Bool := l.any fun p => codeP p == c
theorem tabOf_mem {l : List (List Int)} {c : Nat} : tabOf l c = true ↔ ∃ p ∈ l, codeP p = c := by simp [tabOf]
theorem tabOf_ok {w : Nat} {k : Int} {l : List (List Int)} (h : ∀ p ∈ l, p ∈ allP w k) : tabOk w k (tabOf l) := fun c _ hc => by
  obtain ⟨p, hp, e⟩ := tabOf_mem.1 hc
  exact ⟨p, h p hp, e⟩
theorem tabOf_has {k : Int} (hk : 0 ≤ k) (hk3 : k ≤ 3) {w : Nat} (hw : w ≤ 4) {l : List (List Int)} (h : ∀ p ∈ l, p ∈ allP w k) {p : List Int} (hp : p ∈ allP w k) : tabOf l (codeP p) = thereB l p := by
  rw [Bool.eq_iff_iff, tabOf_mem, there_mem]
  constructor
  · rintro ⟨q, hq, e⟩
    rw [← code_inj hk hk3 hw (h q hq) hp e]
    exact hq
  · exact fun h => ⟨p, h, rfl⟩
/-- All those of a list, in the order of all patterns. -/
def thoseL (w : Nat) (k : Int) (l : List (List Int)) : List (List Int) := (allP w k).filter fun p => thereB l p
theorem patsOf_tabOf {k : Int} (hk : 0 ≤ k) (hk3 : k ≤ 3) {w : Nat} (hw : w ≤ 4) {l : List (List Int)} (h : ∀ p ∈ l, p ∈ allP w k) : patsOf w (tabOf l) = thoseL w k l := by
  rw [patsOf_eq hk hk3 hw (tabOf_ok h)]
  exact List.filter_congr fun p hp => tabOf_has hk hk3 hw h hp
theorem mem_thoseL {w : Nat} {k : Int} {l : List (List Int)} {p : List Int} : p ∈ thoseL w k l ↔ p ∈ allP w k ∧ p ∈ l := by
  unfold thoseL
  rw [List.mem_filter, there_mem]
theorem thoseL_sub {w : Nat} {k : Int} {l : List (List Int)} : ∀ p ∈ thoseL w k l, p ∈ allP w k := fun p hp => (mem_thoseL.1 hp).1
theorem filter_fit {k : Int} (hk : 0 ≤ k) (hk3 : k ≤ 3) {w : Nat} (hw : w ≤ 4) (g : List Int → Bool) : ((allP w k).filter g).length + sumR ((allP w k).filter g) ≤ 32768 := by
  have h1 := List.length_filter_le g (allP w k)
  have h2 := allP_4096 hk hk3 hw
  have h3 := sumR_const (c := 4) (ls := (allP w k).filter g) fun l hl => by have := ((mem_allP hk).1 (List.mem_filter.1 hl).1).1; omega
  omega
/-- A table with a code more. -/
theorem tabOf_next {l : List (List Int)} {i : Nat} (h : i < l.length) (c : Nat) : tabOf (l.take (i + 1)) c = (tabOf (l.take i) c || decide (codeP (rwAt l i) = c)) := by
  rw [rw_take_next h]
  unfold tabOf
  rw [List.any_append, Bool.eq_iff_iff]
  simp
end Go.Proofs.YtnamlgacjhnpnaaGreat
end

section
namespace Go.Proofs.YtnamlgacjhnpnaaGreat
section
open Go.RowKit

def shapeB (t : Tm) : Bool :=
  if t.op = 1 then atomB t.num && (decide (t.perm.length = 0) && decide (t.kids.length = 0))
  else if t.op = 2 then decide (0 ≤ t.num ∧ t.num ≤ 11) && (decide (t.perm.length = 0) && decide ((t.kids.length : Int) = t.num % 4))
  else if t.op = 3 then atomB t.num && (decide (t.perm.length = 0) && decide (t.kids.length = 1))
  else if t.op = 4 then decide (0 ≤ t.num ∧ t.num ≤ 9) && (permB t.perm && decide (t.kids.length = 0))
  else false

mutual
/-- Right, however great. -/
def goodT : Tm → Bool
  | .mk o n p ks => shapeB (.mk o n p ks) && goodTs ks
def goodTs : List Tm → Bool
  | [] => true
  | t :: r => goodT t && goodTs r
end

end

section
open Go.RowKit

mutual
def nodesT : Tm → List Tm
  | .mk o n p ks => .mk o n p ks :: nodesTs ks
def nodesTs : List Tm → List Tm
  | [] => []
  | t :: r => nodesT t ++ nodesTs r
end

/-- What is known while the terms within t are gone through: i of F have been looked at. -/
structure Walk (t : Tm) (F : List Tm) (i : Nat) : Prop where
  le : i ≤ F.length
  most : F.length ≤ 60
  good : goodT t = goodTs (F.drop i)
  size : szT t = i + szTs (F.drop i)
  mem : ∀ y, y ∈ nodesT t ↔ y ∈ F.take i ∨ y ∈ nodesTs (F.drop i)

end
end Go.Proofs.YtnamlgacjhnpnaaGreat
end

section
namespace Go.Proofs.YtnamlgacjhnpnaaGreat
open Go.RowKit Go.Sort
set_option linter.unusedVariables false

theorem l1In_any (x a b : Int) (w : World) :
    Calls Tryz.prog 51 #[.int .i64 x, .int .i64 a, .int .i64 b] w fun e w' => e = .returned (.bool (decide (a ≤ x ∧ x ≤ b))) ∧ w = w' := by
  by_cases h1 : a ≤ x
  · by_cases h2 : x ≤ b
    · have r : Hid (decide (a ≤ x ∧ x ≤ b) = true) := decide_eq_true ⟨h1, h2⟩
      go_enter Tryz.func51, Tryz.ntmps51
      go_wp2
      go_ret
      first | exact ⟨rfl, rfl⟩ | exact ⟨bool_end r.out.symm, rfl⟩
    · have r : Hid (decide (a ≤ x ∧ x ≤ b) = false) := decide_eq_false fun h => h2 h.2
      have k2 : decide (x ≤ b) = false := decide_eq_false h2
      have k3 : b < x := by omega
      go_enter Tryz.func51, Tryz.ntmps51
      go_wp2
      go_ret
      first | exact ⟨rfl, rfl⟩ | exact ⟨bool_end r.out.symm, rfl⟩
  · have r : Hid (decide (a ≤ x ∧ x ≤ b) = false) := decide_eq_false fun h => h1 h.1
    have k1 : decide (a ≤ x) = false := decide_eq_false h1
    have k3 : x < a := by omega
    go_enter Tryz.func51, Tryz.ntmps51
    go_wp2
    go_ret
    first | exact ⟨rfl, rfl⟩ | exact ⟨bool_end r.out.symm, rfl⟩

end Go.Proofs.YtnamlgacjhnpnaaGreat
end

section
namespace Go.Proofs.YtnamlgacjhnpnaaGreat
open Go.RowKit
set_option linter.unusedVariables false

theorem pat_state (cs xs : List Int) : ∀ k, k ≤ xs.length → newN cs.length (patL cs (xs.take k)) = ((seenL cs (xs.take k)).length : Int) ∧ isPatB cs.length (patL cs (xs.take k)) = true
  | 0, _ => ⟨rfl, rfl⟩
  | k + 1, hk => by
    obtain ⟨h1, h2⟩ := pat_state cs xs k (by omega)
    rw [patL_next (by omega), newN_snoc, h1, isPat_snoc, h1]
    cases hs : hasB (seenL cs (xs.take k)) (itAt xs k) with
    | true =>
      have h3 := idx_in hs
      rw [seenL_in (by omega) hs]
      exact ⟨by omega, h2, by omega, by omega⟩
    | false =>
      have h3 := idx_out hs
      rw [seenL_out (by omega) hs, h3, List.length_append]
      exact ⟨by simp; omega, h2, by omega, by omega⟩
theorem patL_pat (cs xs : List Int) : isPatB cs.length (patL cs xs) = true := by
  have := (pat_state cs xs xs.length (Nat.le_refl _)).2
  rwa [List.take_length] at this
theorem patL_mem {cs xs : List Int} {n : Nat} (h : xs.length = n) : patL cs xs ∈ allP n cs.length := (mem_allP (by omega)).2 ⟨by rw [patL_len, h], patL_pat cs xs⟩
/-- The patterns of tuples. -/
def patsL (cs : List Int) (ts : List (List Int)) : List (List Int) := ts.map (patL cs)
theorem patsL_len (cs : List Int) (ts : List (List Int)) : (patsL cs ts).length = ts.length := by simp [patsL]
theorem patsL_at {cs : List Int} {ts : List (List Int)} {i : Nat} (h : i < ts.length) : rwAt (patsL cs ts) i = patL cs (rwAt ts i) := by
  rw [rwAt_get _ _ (by rw [patsL_len]; exact h), rwAt_get _ _ h]
  simp [patsL]
theorem patsL_mem {cs : List Int} {ts : List (List Int)} {n : Nat} (h : ∀ i, i < ts.length → (rwAt ts i).length = n) : ∀ p ∈ patsL cs ts, p ∈ allP n cs.length := by
  intro p hp
  unfold patsL at hp
  rw [List.mem_map] at hp
  obtain ⟨t, ht, rfl⟩ := hp
  obtain ⟨i, hi, e⟩ := List.getElem_of_mem ht
  refine patL_mem ?_
  have := h i hi
  rwa [rwAt_get _ _ hi, e] at this
end Go.Proofs.YtnamlgacjhnpnaaGreat
end

section
namespace Go.Proofs.YtnamlgacjhnpnaaGreat
open Go.RowKit Go.Sort

/-- The least atom that is not in a list; -1: there is none. -/
def leastF (l : List Int) : Int := match (List.range 1000).find? (fun a : Nat => !hasB l (a : Int)) with
  | some a => a
  | none => -1

theorem leastF_at {l : List Int} {a : Nat} (ha : a < 1000) (hn : hasB l (a : Int) = false) (hb : ∀ b : Nat, b < a → hasB l (b : Int) = true) : leastF l = a := by
  have h : (List.range 1000).find? (fun a : Nat => !hasB l (a : Int)) = some a := by
    rw [List.find?_range_eq_some]
    refine ⟨by simp [hn], by simpa using ha, fun j hj => ?_⟩
    simp [hb j hj]
  unfold leastF
  rw [h]

theorem leastF_none {l : List Int} (hb : ∀ b : Nat, b < 1000 → hasB l (b : Int) = true) : leastF l = -1 := by
  have h : (List.range 1000).find? (fun a : Nat => !hasB l (a : Int)) = none := by
    rw [List.find?_eq_none]
    intro x hx
    rw [hb x (List.mem_range.1 hx)]
    simp
  unfold leastF
  rw [h]

/-- Which atoms the first k numbers are. -/
def tBits (l : List Int) (k : Nat) : List Value := (List.range 1000).map fun q : Nat => .bool (hasB (l.take k) (q : Int))

theorem tBits_len (l : List Int) (k : Nat) : (tBits l k).length = 1000 := by rw [tBits, List.length_map, List.length_range]

theorem tBits_at (l : List Int) (k q : Nat) (h : q < 1000) : (tBits l k)[q]? = some (.bool (hasB (l.take k) (q : Int))) := by
  simp [tBits, List.getElem?_map, List.getElem?_range h]

theorem tBits_zero (l : List Int) : tBits l 0 = List.replicate 1000 (.bool false) := by
  apply List.ext_getElem?
  intro q
  by_cases hq : q < 1000
  · rw [tBits_at l 0 q hq, List.getElem?_replicate, if_pos hq]
    simp [hasB]
  · rw [List.getElem?_eq_none (by rw [tBits_len]; omega), List.getElem?_eq_none (by rw [List.length_replicate]; omega)]

theorem contains_next {l : List Int} {k : Nat} (hk : k < l.length) (q : Int) : hasB (l.take (k + 1)) q = (hasB (l.take k) q || decide (q = itAt l k)) := by
  rw [itake_next hk, Bool.eq_iff_iff]
  simp [hasB]

theorem tBits_set {l : List Int} {k m : Nat} (hk : k < l.length) (hm : m < 1000) (e : itAt l k = (m : Int)) : (tBits l k).set m (.bool true) = tBits l (k + 1) := by
  apply List.ext_getElem?
  intro q
  by_cases hq : q < 1000
  · rw [tBits_at l (k + 1) q hq, List.getElem?_set, contains_next hk, e]
    by_cases hc : m = q
    · subst hc
      rw [if_pos rfl, if_pos (by rw [tBits_len]; exact hm)]
      simp
    · rw [if_neg hc, tBits_at l k q hq]
      have : ¬ (q : Int) = (m : Int) := by omega
      simp [this]
  · rw [List.getElem?_eq_none (by rw [List.length_set, tBits_len]; omega), List.getElem?_eq_none (by rw [tBits_len]; omega)]

theorem tBits_skip {l : List Int} {k : Nat} (hk : k < l.length) (h : atomB (itAt l k) = false) : tBits l k = tBits l (k + 1) := by
  apply List.ext_getElem?
  intro q
  by_cases hq : q < 1000
  · rw [tBits_at l k q hq, tBits_at l (k + 1) q hq, contains_next hk]
    have hne : ¬ (q : Int) = itAt l k := by
      intro e
      rw [← e] at h
      simp [atomB] at h
      omega
    simp [hne]
  · rw [List.getElem?_eq_none (by rw [tBits_len]; omega), List.getElem?_eq_none (by rw [tBits_len]; omega)]

/-- The block of marks after k numbers. -/
def TMarks (w : World) (G : Nat) (l : List Int) (k : Nat) : Prop := w.heap[G]? = some (.cells (tBits l k).toArray 82 (0, 0))

theorem TMarks.lt {w : World} {G : Nat} {l : List Int} {k : Nat} (h : TMarks w G l k) : G < w.heap.size := (Array.getElem?_eq_some_iff.1 h).1
theorem TMarks.cell {w : World} {G : Nat} {l : List Int} {k : Nat} (h : TMarks w G l k) (q : Nat) (hq : q < 1000) : w.cell? ⟨G, q, none⟩ = some (.bool (hasB (l.take k) (q : Int))) := by
  rw [cell_of_row w G q _ _ _ h]
  simpa using tBits_at l k q hq
theorem TMarks.frozen {w : World} {G : Nat} {l : List Int} {k : Nat} (h : TMarks w G l k) (q : Nat) : w.frozen? ⟨G, q, none⟩ = false := frozen_of_row w G q _ _ h
theorem TMarks.set_ {w : World} {G : Nat} {l : List Int} {k m : Nat} (h : TMarks w G l k) (hk : k < l.length) (hm : m < 1000) (e : itAt l k = (m : Int)) :
    TMarks (w.setCell ⟨G, m, none⟩ (.bool true)) G l (k + 1) := by
  unfold TMarks at h ⊢
  rw [heap_setCell_same w G m _ _ _ h, ← tBits_set hk hm e]
  simp

theorem zero_marks : Tryz.zeroCells82 = (List.replicate 1000 (Value.bool false)).toArray := by kernel_rfl

set_option maxRecDepth 100000 in
set_option maxHeartbeats 1000000 in
theorem least_impl (A : Option Addr) (c : Nat) (l : List Int) (w : World) (hA : IntsAt w A l) (hl : l.length ≤ 1099511627776) :
    Calls Tryz.prog 19 #[.slice A l.length c] w fun e w' => e = .returned (.int .i64 (leastF l)) ∧ Below w.heap.size w w' := by
  have hm0 : TMarks (w.alloc (.cells Tryz.zeroCells82 82)) w.heap.size l 0 := by
    rw [zero_marks, ← tBits_zero l]
    exact heap_alloc_new w _
  have hb0 : Below w.heap.size w (w.alloc (.cells Tryz.zeroCells82 82)) := (Below.refl _ _).alloc (Nat.le_refl _) _
  go_enter Tryz.func19, Tryz.ntmps19
  go_wp2_with fail
  generalize w.alloc (.cells Tryz.zeroCells82 82) = w1 at hm0 hb0 ⊢
  go_loopw [5, 9] (fun _ i wr => ∃ k : Nat, k ≤ l.length ∧ i = .int .i64 k ∧ TMarks wr w.heap.size l k ∧ Below w.heap.size w wr) (fun _ i _ => l.length - (intOf i).toNat)
  case atStart => exact ⟨0, Nat.zero_le _, rfl, hm0, hb0⟩
  case round =>
    clear hm0 hb0
    obtain ⟨k, hk, rfl, hm, hb⟩ := hrel
    by_cases hlt : k < l.length
    · obtain ⟨b1, o1, rfl, hb1, hc1⟩ := hA (by omega)
      have c1 := hc1 k hlt
      rw [← hb.cell (p := ⟨b1, _, none⟩) hb1] at c1
      clear hc1 hA
      by_cases ha : atomB (itAt l k) = true
      · obtain ⟨m, hx⟩ : ∃ m : Nat, itAt l k = (m : Int) := ⟨(itAt l k).toNat, by simp [atomB] at ha; omega⟩
        have hm1 : m < 1000 := by rw [hx] at ha; simp [atomB] at ha; omega
        have hc := hm.cell m hm1
        have hfz := hm.frozen m
        have hst : Hid (TMarks (wr.setCell ⟨w.heap.size, m, none⟩ (.bool true)) w.heap.size l (k + 1)) := hm.set_ hlt hm1 hx
        have hb2 : Below w.heap.size w (wr.setCell ⟨w.heap.size, m, none⟩ (.bool true)) := hb.setCell (Nat.le_refl _) _
        rw [hx] at c1 ha
        generalize hasB (l.take k) (m : Int) = bb at hc
        clear hm hb hx
        go_wp2_with (go_at_call 58; refine (isAtom_any _ _).mono ?_; rintro e w' ⟨rfl, rfl⟩)
        refine ⟨⟨k + 1, by omega, by go_num, hst.out, hb2⟩, ?_⟩
        simp only [intOf]
        omega
      · have ha' : atomB (itAt l k) = false := by simpa using ha
        have hst : Hid (TMarks wr w.heap.size l (k + 1)) := by
          show TMarks wr w.heap.size l (k + 1)
          unfold TMarks at hm ⊢
          rw [← tBits_skip hlt ha']
          exact hm
        generalize itAt l k = x at c1 ha'
        clear hm ha
        go_wp2_with (go_at_call 58; refine (isAtom_any _ _).mono ?_; rintro e w' ⟨rfl, rfl⟩)
        refine ⟨⟨k + 1, by omega, by go_num, hst.out, hb⟩, ?_⟩
        simp only [intOf]
        omega
    · have hall : Hid (l.take k = l) := List.take_of_length_le (by omega)
      obtain ⟨wo, rfl⟩ : ∃ wo : World, wo = wr := ⟨_, rfl⟩
      clear hA
      go_wp2
      go_loop [6, 18] (fun _ i => ∃ a : Nat, a ≤ 1000 ∧ i = .int .i64 a ∧ Hid (∀ b : Nat, b < a → hasB l (b : Int) = true)) (fun _ i => 1000 - (intOf i).toNat)
      case atStart => exact ⟨0, Nat.zero_le _, rfl, fun b hb => absurd hb (by omega)⟩
      case round =>
        obtain ⟨a, ha, rfl, hq⟩ := hrel
        by_cases hlt2 : a < 1000
        · have hc := hm.cell a hlt2
          rw [hall.out] at hc
          by_cases hin : hasB l (a : Int) = true
          · have hn : Hid (∀ b : Nat, b < a + 1 → hasB l (b : Int) = true) := by
              intro b hb'
              by_cases e : b = a
              · rw [e]; exact hin
              · exact hq.out b (by omega)
            rw [hin] at hc
            clear hm hin hq
            go_wp2
            go_round
            case rel => exact ⟨a + 1, by omega, by go_num, hn⟩
            case measure => simp [intOf]; omega
          · have hin' : hasB l (a : Int) = false := by simpa using hin
            have hn : Hid (leastF l = a) := leastF_at hlt2 hin' hq.out
            rw [hin'] at hc
            clear hm hin hin' hq
            go_wp2
            go_ret
            exact ⟨int_end hn.out.symm, hb⟩
        · have hn : Hid (leastF l = -1) := leastF_none fun b hb' => hq.out b (by omega)
          clear hm hq
          go_wp2
          go_ret
          exact ⟨int_end hn.out.symm, hb⟩

theorem leastF_cases (l : List Int) : (leastF l = -1 ∧ ∀ b : Nat, b < 1000 → hasB l (b : Int) = true) ∨ ∃ a : Nat, a < 1000 ∧ leastF l = a ∧ hasB l (a : Int) = false ∧ ∀ b : Nat, b < a → hasB l (b : Int) = true := by
  rcases h : (List.range 1000).find? (fun a : Nat => !hasB l (a : Int)) with _ | a
  · left
    refine ⟨by unfold leastF; rw [h], fun b hb => ?_⟩
    rw [List.find?_eq_none] at h
    simpa using h b (List.mem_range.2 hb)
  · right
    have h' := h
    rw [List.find?_range_eq_some] at h'
    refine ⟨a, by simpa using h'.2.1, by unfold leastF; rw [h], by simpa using h'.1, fun b hb => by simpa using h'.2.2 b hb⟩

/-- A list that has many different numbers is long. -/
theorem long_of : ∀ (xs l : List Int), xs.Nodup → (∀ a, a ∈ xs → a ∈ l) → xs.length ≤ l.length
  | [], _, _, _ => by simp
  | x :: r, l, hn, hs => by
    have hx : x ∈ l := hs x List.mem_cons_self
    rw [List.nodup_cons] at hn
    have h2 := long_of r (l.erase x) hn.2 (fun a ha => by
      have hne : a ≠ x := fun e => hn.1 (e ▸ ha)
      exact (List.mem_erase_of_ne hne).2 (hs a (List.mem_cons_of_mem _ ha)))
    rw [List.length_erase_of_mem hx] at h2
    have h3 : 0 < l.length := List.length_pos_of_mem hx
    simp only [List.length_cons]
    omega

theorem long_least {l : List Int} (h : ∀ b : Nat, b < 1000 → hasB l (b : Int) = true) : 1000 ≤ l.length := by
  have h1 := long_of ((List.range 1000).map fun q : Nat => (q : Int)) l (by
    rw [List.Nodup, List.pairwise_map]
    refine List.Pairwise.imp ?_ List.pairwise_lt_range
    intro a b hab
    omega) (by
    intro a ha
    rw [List.mem_map] at ha
    obtain ⟨q, hq, rfl⟩ := ha
    have := h q (List.mem_range.1 hq)
    unfold hasB at this
    exact List.contains_iff_mem.1 this)
  rw [List.length_map, List.length_range] at h1
  exact h1

end Go.Proofs.YtnamlgacjhnpnaaGreat
end

section
namespace Go.Proofs.YtnamlgacjhnpnaaGreat
open Go.RowKit
set_option linter.unusedVariables false

/-- Constants, and so many least other atoms behind them. -/
def numL (cs : List Int) : Nat → List Int
  | 0 => cs
  | j + 1 => numL cs j ++ [leastF (numL cs j)]
theorem numL_len (cs : List Int) : ∀ j : Nat, (numL cs j).length = cs.length + j
  | 0 => rfl
  | j + 1 => by rw [numL, List.length_append, numL_len cs j]; simp; omega
theorem numL_at {cs : List Int} {i : Nat} : ∀ {j : Nat}, i < cs.length + j → ∀ q : Nat, itAt (numL cs (j + q)) i = itAt (numL cs j) i
  | j, h, 0 => rfl
  | j, h, q + 1 => by
    rw [← Nat.add_assoc, numL, itAt_snoc_lt (by rw [numL_len]; omega), numL_at h q]
/-- What stands at the places that a pattern tells. -/
def exL (V p : List Int) : List Int := p.map fun n => itAt V n.toNat
theorem exL_len (V p : List Int) : (exL V p).length = p.length := by simp [exL]
theorem exL_next {V p : List Int} {i : Nat} (h : i < p.length) : exL V (p.take (i + 1)) = exL V (p.take i) ++ [itAt V (itAt p i).toNat] := by
  rw [itake_next h]
  simp [exL]
theorem exL_same {cs p : List Int} (hp : isPatB cs.length p = true) (h4 : p.length ≤ 4) : exL (numL cs p.length) p = exL (numL cs 4) p := by
  unfold exL
  refine List.map_congr_left fun n hn => ?_
  obtain ⟨i, hi, rfl⟩ := List.getElem_of_mem hn
  have h1 := isPat_at hp hi
  have h2 := newN_le (k := (cs.length : Int)) (p := p) (i := i) (by omega) (fun q hq => (isPat_at hp (by omega)).2)
  rw [itAt_get p i hi] at h1
  obtain ⟨q, hq⟩ : ∃ q, 4 = p.length + q := ⟨4 - p.length, by omega⟩
  rw [hq]
  exact (numL_at (by omega) q).symm
def exsL (l : List Int) (m : List (List Int)) : List (List Int) := m.map (exL (numL l 4))
theorem exsL_next {l : List Int} {m : List (List Int)} {j : Nat} (h : j < m.length) : exsL l (m.take (j + 1)) = exsL l (m.take j) ++ [exL (numL l 4) (rwAt m j)] := by
  rw [rw_take_next h]
  simp [exsL]
theorem exsL_len (l : List Int) (m : List (List Int)) : (exsL l m).length = m.length := by simp [exsL]
def exsR (z : Int) (l : List Int) (m : List (List Int)) : List (List Int) := if orbB z l m then exsL l m else []
theorem exsR_no {z : Int} {l : List Int} {m : List (List Int)} (h : orbB z l m = false) : exsR z l m = [] := by simp [exsR, h]
theorem exsR_yes {z : Int} {l : List Int} {m : List (List Int)} (h : orbB z l m = true) : exsR z l m = exsL l m := by simp [exsR, h]
/-- All places that a pattern tells are there. -/
theorem pat_places {k : Nat} {p : List Int} (hp : isPatB k p = true) {V : List Int} (hV : k + p.length ≤ V.length) : ∀ i, i < p.length → 0 ≤ itAt p i ∧ (itAt p i).toNat < V.length := fun i hi => by
  have h1 := isPat_at hp hi
  have h2 := newN_le (k := (k : Int)) (p := p) (i := i) (by omega) (fun q hq => (isPat_at hp (by omega)).2)
  omega
end Go.Proofs.YtnamlgacjhnpnaaGreat
end

section
namespace Go.Proofs.YtnamlgacjhnpnaaGreat
open Go.RowKit Go.Sort
set_option linter.unusedVariables false

end Go.Proofs.YtnamlgacjhnpnaaGreat
end

section
namespace Go.Proofs.YtnamlgacjhnpnaaGreat
open Go.RowKit Go.Sort

theorem length_insL : ∀ (l : List Int) (n : Int), (insL l n).length ≤ l.length + 1
  | [], n => by simp [insL]
  | x :: r, n => by
    unfold insL
    split
    · simp
    · split
      · simp
      · have := length_insL r n
        simp only [List.length_cons]
        omega

theorem length_insAll (acc xs : List Int) : (insAll acc xs).length ≤ acc.length + xs.length := by
  unfold insAll
  induction xs generalizing acc with
  | nil => simp
  | cons x r ih =>
    have h1 := ih (insL acc x)
    have h2 := length_insL acc x
    simp only [List.foldl_cons, List.length_cons]
    omega

theorem froms_len (l : List (Int × Int)) : (froms l).length = l.length := by simp [froms]
theorem itAt_froms (l : List (Int × Int)) (k : Nat) (h : k < l.length) : itAt (froms l) k = (prAt l k).1 := by simp [itAt, froms, prAt, h]

end Go.Proofs.YtnamlgacjhnpnaaGreat
end

section
namespace Go.Proofs.YtnamlgacjhnpnaaGreat
open Go.RowKit Go.Sort

set_option maxRecDepth 100000 in
set_option maxHeartbeats 400000 in
theorem least_spec (A : Option Addr) (c : Nat) (l : List Int) (w : World) (hA : IntsAt w A l) (hl : l.length ≤ 1099511627776) :
    Calls Tryz.prog 140 #[.slice A l.length c] w fun e w' => e = .returned (.int .i64 (leastF l)) ∧ w = w' := by
  go_enter Tryz.func140, Tryz.ntmps140
  go_wp2
  go_loop [3] (fun i => ∃ a : Nat, a ≤ 1000 ∧ i = .int .i64 a ∧ Hid (∀ b : Nat, b < a → hasB l (b : Int) = true)) (fun i => 1000 - (intOf i).toNat)
  case atStart => exact ⟨0, Nat.zero_le _, rfl, fun b hb => absurd hb (by omega)⟩
  case round =>
    obtain ⟨a, ha, rfl, hq⟩ := hrel
    by_cases hlt : a < 1000
    · have hh := l1Has_any A c l a w hA hl
      by_cases hin : hasB l (a : Int) = true
      · have hn : Hid (∀ b : Nat, b < a + 1 → hasB l (b : Int) = true) := by
          intro b hb'
          by_cases e : b = a
          · rw [e]; exact hin
          · exact hq.out b (by omega)
        rw [hin] at hh
        clear hin hq
        go_wp2_with (go_at_call 128; refine hh.mono ?_; rintro e w' ⟨rfl, rfl⟩)
        go_round
        case rel => exact ⟨a + 1, by omega, by go_num, hn⟩
        case measure => simp [intOf]; omega
      · have hin' : hasB l (a : Int) = false := by simpa using hin
        have hn : Hid (leastF l = a) := leastF_at hlt hin' hq.out
        rw [hin'] at hh
        clear hin hin' hq
        go_wp2_with (go_at_call 128; refine hh.mono ?_; rintro e w' ⟨rfl, rfl⟩)
        go_ret
        exact ⟨int_end hn.out.symm, rfl⟩
    · have hn : Hid (leastF l = -1) := leastF_none fun b hb' => hq.out b (by omega)
      clear hq
      go_wp2
      go_ret
      exact ⟨int_end hn.out.symm, rfl⟩

end Go.Proofs.YtnamlgacjhnpnaaGreat
end

section
namespace Go.Proofs.YtnamlgacjhnpnaaGreat
open Go.RowKit Go.Sort

/-- What the first pair with the atom gives to it; the atom, if there is none. -/
def imgL : List (Int × Int) → Int → Int
  | [], a => a
  | p :: r, a => if p.1 = a then p.2 else imgL r a

theorem imgL_at : ∀ (l : List (Int × Int)) (a : Int) (i : Nat), i < l.length → (∀ j, j < i → (prAt l j).1 ≠ a) → (prAt l i).1 = a → imgL l a = (prAt l i).2
  | [], _, i, h, _, _ => by simp at h
  | p :: r, a, 0, _, _, e => by
    have e' : p.1 = a := e
    simp [imgL, e', prAt]
  | p :: r, a, i + 1, h, hn, e => by
    have h0 : ¬ p.1 = a := hn 0 (by omega)
    have h1 := imgL_at r a i (by simpa using h) (fun j hj => hn (j + 1) (by omega)) e
    simp only [imgL, h0, if_false]
    exact h1

theorem imgL_none : ∀ (l : List (Int × Int)) (a : Int), (∀ j, j < l.length → (prAt l j).1 ≠ a) → imgL l a = a
  | [], _, _ => rfl
  | p :: r, a, hn => by
    have h0 : ¬ p.1 = a := hn 0 (by simp)
    simp only [imgL, h0, if_false]
    exact imgL_none r a fun j hj => hn (j + 1) (by simpa using hj)

set_option maxHeartbeats 400000 in
theorem imageIn_any (A : Option Addr) (c : Nat) (l : List (Int × Int)) (a : Int) (w : World) (hA : PairsAt w A l) (hl : l.length ≤ 1099511627776) (hasc : Asc l) :
    Calls Tryz.prog 78 #[.slice A l.length c, .int .i64 a] w fun e w' => e = .returned (.int .i64 (imgL l a)) ∧ Below w.heap.size w w' := by
  have hpl := placeOf_any A c l a w hA hl hasc
  have HA := Lib.hid hasc
  clear hasc
  go_enter Tryz.func78, Tryz.ntmps78
  go_wp2_with fail
  refine hpl.mono ?_
  rintro e w1 ⟨i, he, hd, hb⟩
  clear hpl
  by_cases hf : foundB l a i = true
  · have hf' : i < l.length ∧ (prAt l i).1 = a := by simpa [foundB] using hf
    have hres : Hid (imgL l a = (prAt l i).2) := imgL_at l a i hf'.1 (fun j hj => by have := hd.2.1 j hj; omega) hf'.2
    rw [hf] at he
    subst he
    have hi := hf'.1
    obtain ⟨b1, o1, rfl, hb1, hc1⟩ := hA (by omega)
    obtain ⟨_, c2⟩ := hc1 i hi
    rw [← hb.cell (p := ⟨b1, _, none⟩) hb1] at c2
    clear hc1 hA hf hf' hd
    go_wp2
    go_ret
    exact ⟨int_end hres.out.symm, hb⟩
  · have hf' : foundB l a i = false := by simpa using hf
    have hres : Hid (imgL l a = a) := imgL_none l a fun j hj => by
      rcases Nat.lt_or_ge j i with h1 | h1
      · have := hd.2.1 j h1; omega
      · intro e
        have h2 := found_iff HA.out hd
        rw [hf'] at h2
        have h3 : a ∈ froms l := mem_froms.2 ⟨j, hj, e⟩
        have h4 : (froms l).contains a = true := List.contains_iff_mem.2 h3
        rw [h4] at h2
        cases h2
    rw [hf'] at he
    subst he
    clear hA hf hf' hd
    go_wp2
    go_ret
    exact ⟨int_end hres.out.symm, hb⟩

end Go.Proofs.YtnamlgacjhnpnaaGreat
end

section
namespace Go.Proofs.YtnamlgacjhnpnaaGreat
open Go.RowKit

theorem prAt_mem {l : List (Int × Int)} {i : Nat} (h : i < l.length) : prAt l i ∈ l := by
  simp [prAt, h]

theorem mem_prAt {l : List (Int × Int)} {x : Int × Int} (h : x ∈ l) : ∃ i, i < l.length ∧ prAt l i = x := by
  obtain ⟨i, hi, e⟩ := List.getElem_of_mem h
  exact ⟨i, hi, by simp [prAt, hi, e]⟩

/-- No atom stands twice in front. -/
def Single (l : List (Int × Int)) : Prop := (froms l).Nodup

theorem imgL_mem : ∀ {l : List (Int × Int)} {a b : Int}, Single l → (a, b) ∈ l → imgL l a = b
  | [], _, _, _, h => by simp at h
  | p :: r, a, b, hs, h => by
    unfold Single froms at hs
    rw [List.map_cons, List.nodup_cons] at hs
    rcases List.mem_cons.1 h with e | e
    · subst e; simp [imgL]
    · have hne : ¬ p.1 = a := fun e' => hs.1 (by rw [e']; exact List.mem_map_of_mem (f := Prod.fst) e)
      simp only [imgL, hne, if_false]
      exact imgL_mem (l := r) hs.2 e

theorem imgL_out : ∀ {l : List (Int × Int)} {a : Int}, a ∉ froms l → imgL l a = a
  | [], _, _ => rfl
  | p :: r, a, h => by
    unfold froms at h
    rw [List.map_cons, List.mem_cons, not_or] at h
    have hne : ¬ p.1 = a := fun e => h.1 e.symm
    simp only [imgL, hne, if_false]
    exact imgL_out (l := r) h.2

theorem imgL_in : ∀ {l : List (Int × Int)} {a : Int}, a ∈ froms l → (a, imgL l a) ∈ l
  | [], _, h => by simp [froms] at h
  | p :: r, a, h => by
    by_cases e : p.1 = a
    · subst e; simp [imgL]
    · unfold froms at h
      rw [List.map_cons, List.mem_cons] at h
      have h' : a ∈ froms r := by
        rcases h with h | h
        · exact absurd h.symm e
        · exact h
      simp only [imgL, e, if_false]
      exact List.mem_cons_of_mem _ (imgL_in h')

/-- Nothing is given to itself. -/
def Moves (l : List (Int × Int)) : Prop := ∀ x ∈ l, x.1 ≠ x.2

theorem asc_single {l : List (Int × Int)} (h : AscP (froms l)) : Single l := by
  unfold Single
  exact h.imp fun h1 => by omega

/-- What a permutation is, without the bound on how many it moves. -/
structure IsP (l : List (Int × Int)) : Prop where
  asc : AscP (froms l)
  mv : Moves l
  dom : ∀ a ∈ froms l, 0 ≤ a ∧ a ≤ 999
  back : (froms l).Perm (tos l)

theorem isP_of {l : List (Int × Int)} (h : permB l = true) : IsP l := by
  obtain ⟨_, h2, _⟩ := permB_parts h
  refine ⟨ascP_froms (asc_of_order h2), fun x hx => ?_, fun a ha => ?_, perm_tos h⟩
  · obtain ⟨i, hi, rfl⟩ := mem_prAt hx
    exact (okAt_parts (order_at h2 i hi)).2.2.1
  · obtain ⟨i, hi, rfl⟩ := mem_froms.1 ha
    exact (okAt_parts (order_at h2 i hi)).1

theorem IsP.single {l : List (Int × Int)} (h : IsP l) : Single l := asc_single h.asc

theorem asc_list {l : List (Int × Int)} (h : AscP (froms l)) : Asc l := by
  intro i j hij hj
  have h1 := List.pairwise_iff_getElem.1 h i j (by rw [froms_len]; omega) (by rw [froms_len]; omega) hij
  have e1 : (froms l)[i]'(by rw [froms_len]; omega) = (prAt l i).1 := by
    rw [← itAt_froms l i (by omega), itAt_get]
  have e2 : (froms l)[j]'(by rw [froms_len]; omega) = (prAt l j).1 := by
    rw [← itAt_froms l j (by omega), itAt_get]
  rw [e1, e2] at h1
  exact h1

theorem IsP.tos_nodup {l : List (Int × Int)} (h : IsP l) : (tos l).Nodup := h.back.nodup_iff.1 h.single

theorem IsP.to_mem {l : List (Int × Int)} (h : IsP l) {a : Int} (ha : a ∈ froms l) : imgL l a ∈ froms l := by
  have h1 : imgL l a ∈ tos l := List.mem_map_of_mem (f := Prod.snd) (imgL_in ha)
  exact h.back.mem_iff.2 h1

theorem IsP.atom {l : List (Int × Int)} (h : IsP l) {a : Int} (ha : 0 ≤ a ∧ a ≤ 999) : 0 ≤ imgL l a ∧ imgL l a ≤ 999 := by
  rcases Decidable.em (a ∈ froms l) with h' | h'
  · exact h.dom _ (h.to_mem h')
  · rw [imgL_out h']; exact ha

theorem nodup_snd : ∀ {l : List (Int × Int)} {a b c : Int}, (tos l).Nodup → (a, c) ∈ l → (b, c) ∈ l → a = b
  | [], _, _, _, _, h, _ => by simp at h
  | p :: r, a, b, c, hn, h1, h2 => by
    unfold tos at hn
    rw [List.map_cons, List.nodup_cons] at hn
    rcases List.mem_cons.1 h1 with e1 | e1
    · rcases List.mem_cons.1 h2 with e2 | e2
      · rw [← e2] at e1; exact congrArg Prod.fst e1
      · exact absurd (List.mem_map_of_mem (f := Prod.snd) e2) (by rw [← e1] at hn; exact hn.1)
    · rcases List.mem_cons.1 h2 with e2 | e2
      · exact absurd (List.mem_map_of_mem (f := Prod.snd) e1) (by rw [← e2] at hn; exact hn.1)
      · exact nodup_snd (l := r) hn.2 e1 e2

theorem IsP.inj {l : List (Int × Int)} (h : IsP l) {a b : Int} (e : imgL l a = imgL l b) : a = b := by
  rcases Decidable.em (a ∈ froms l) with ha | ha
  · rcases Decidable.em (b ∈ froms l) with hb | hb
    · exact nodup_snd h.tos_nodup (imgL_in ha) (by rw [e]; exact imgL_in hb)
    · have h1 := h.to_mem ha
      rw [e, imgL_out hb] at h1
      exact absurd h1 hb
  · rcases Decidable.em (b ∈ froms l) with hb | hb
    · have h1 := h.to_mem hb
      rw [← e, imgL_out ha] at h1
      exact absurd h1 ha
    · rw [imgL_out ha, imgL_out hb] at e; exact e

/-- A permutation that moves no more than may be moved passes the test. -/
theorem permB_of {l : List (Int × Int)} (h : IsP l) (hl : l.length ≤ 40) : permB l = true := by
  have hasc := asc_list h.asc
  refine permB_yes hl (orderB_yes fun i hi => ?_) fun i hi => ?_
  · have hm := prAt_mem hi
    have h1 := h.dom _ (List.mem_map_of_mem (f := Prod.fst) hm)
    have h2 := h.dom _ (h.back.mem_iff.2 (List.mem_map_of_mem (f := Prod.snd) hm))
    have h3 := h.mv _ hm
    have h4 : i = 0 ∨ (prAt l (i - 1)).1 < (prAt l i).1 := by
      by_cases e : i = 0
      · exact .inl e
      · exact .inr (hasc (i - 1) i (by omega) hi)
    simp only [okAt, atomB]
    simpa using ⟨h1, h2, h3, h4⟩
  · have hm := prAt_mem hi
    have h2 : (prAt l i).2 ∈ froms l := h.back.mem_iff.2 (List.mem_map_of_mem (f := Prod.snd) hm)
    unfold goodAt
    rw [List.contains_iff_mem.2 h2, Bool.true_and]
    have hn : (prAt l i).2 ∉ (tos l).take i := by
      intro hin
      obtain ⟨j, hj, e⟩ := mem_take_tos (Nat.le_of_lt hi) hin
      have h5 := nodup_snd h.tos_nodup (a := (prAt l j).1) (b := (prAt l i).1) (c := (prAt l i).2) (by rw [← e]; exact prAt_mem (by omega)) (prAt_mem hi)
      have := hasc j i hj hi
      omega
    simp [hn]

/-- The inverse: each atom, and what is given to it. -/
def backL : List (Int × Int) → Int → Int
  | [], a => a
  | p :: r, a => if p.2 = a then p.1 else backL r a

theorem backL_mem : ∀ {l : List (Int × Int)} {a b : Int}, (tos l).Nodup → (a, b) ∈ l → backL l b = a
  | [], _, _, _, h => by simp at h
  | p :: r, a, b, hs, h => by
    unfold tos at hs
    rw [List.map_cons, List.nodup_cons] at hs
    rcases List.mem_cons.1 h with e | e
    · subst e; simp [backL]
    · have hne : ¬ p.2 = b := fun e' => hs.1 (by rw [e']; exact List.mem_map_of_mem (f := Prod.snd) e)
      simp only [backL, hne, if_false]
      exact backL_mem (l := r) hs.2 e

theorem backL_out : ∀ {l : List (Int × Int)} {a : Int}, a ∉ tos l → backL l a = a
  | [], _, _ => rfl
  | p :: r, a, h => by
    unfold tos at h
    rw [List.map_cons, List.mem_cons, not_or] at h
    have hne : ¬ p.2 = a := fun e => h.1 e.symm
    simp only [backL, hne, if_false]
    exact backL_out (l := r) h.2

theorem img_back {l : List (Int × Int)} (h : IsP l) (a : Int) : imgL l (backL l a) = a := by
  rcases Decidable.em (a ∈ tos l) with ha | ha
  · obtain ⟨x, hx, rfl⟩ := List.mem_map.1 ha
    rw [backL_mem (a := x.1) h.tos_nodup hx, imgL_mem h.single hx]
  · rw [backL_out ha, imgL_out (fun h' => ha (h.back.mem_iff.1 h'))]

theorem back_img {l : List (Int × Int)} (h : IsP l) (a : Int) : backL l (imgL l a) = a := h.inj (img_back h _)

end Go.Proofs.YtnamlgacjhnpnaaGreat
end

section
namespace Go.Proofs.YtnamlgacjhnpnaaGreat
open Go.RowKit Go.Sort

set_option maxHeartbeats 400000 in
theorem lawHas_any (A : Option Addr) (c : Nat) (l : List Int) (a : Int) (w : World) (hA : IntsAt w A l) (hl : l.length ≤ 1099511627776) :
    Calls Tryz.prog 22 #[.slice A l.length c, .int .i64 a] w fun e w' => e = .returned (.bool (hasB l a)) ∧ w = w' := by
  go_enter Tryz.func22, Tryz.ntmps22
  go_wp2
  go_loop [5] (fun i => ∃ k : Nat, k ≤ l.length ∧ i = .int .i64 k ∧ Hid (∀ j, j < k → itAt l j ≠ a)) (fun i => l.length - (intOf i).toNat)
  case atStart => exact ⟨0, Nat.zero_le _, rfl, fun j hj => absurd hj (by omega)⟩
  case round =>
    obtain ⟨k, hk, rfl, hq⟩ := hrel
    by_cases hlt : k < l.length
    · obtain ⟨b1, o1, rfl, hb1, hc1⟩ := hA (by omega)
      have c1 := hc1 k hlt
      clear hc1 hA
      by_cases he : (itAt l k == a) = true
      · have hres : Hid (hasB l a = true) := by
          show hasB l a = true
          unfold hasB
          rw [List.contains_iff_mem]
          have e : itAt l k = a := by simpa using he
          rw [← e, itAt_get l k hlt]
          exact List.getElem_mem hlt
        generalize itAt l k = x at c1 he
        clear hq
        go_wp2
        go_ret
        exact ⟨bool_end hres.out.symm, rfl⟩
      · have he' : (itAt l k == a) = false := by simpa using he
        have hn : Hid (∀ j, j < k + 1 → itAt l j ≠ a) := by
          intro j hj
          by_cases e : j = k
          · rw [e]; simpa using he'
          · exact hq.out j (by omega)
        generalize itAt l k = x at c1 he he'
        clear hq he
        go_wp2
        go_round
        case rel => exact ⟨k + 1, by omega, by go_num, hn⟩
        case measure => simp [intOf]; omega
    · have hres : Hid (hasB l a = false) := by
        show hasB l a = false
        unfold hasB
        rw [← Bool.not_eq_true, List.contains_iff_mem]
        intro hmem
        obtain ⟨j, hj, e⟩ := List.getElem_of_mem hmem
        exact hq.out j (by omega) (by rw [itAt_get l j hj]; exact e)
      clear hq hA
      go_wp2
      go_ret
      exact ⟨bool_end hres.out.symm, rfl⟩

end Go.Proofs.YtnamlgacjhnpnaaGreat
end

section
namespace Go.Proofs.YtnamlgacjhnpnaaGreat
open Go.RowKit
set_option linter.unusedVariables false

set_option maxRecDepth 100000 in
theorem lawAll_any (A B : Option Addr) (c d : Nat) (l m : List Int) (w : World) (hA : IntsAt w A l) (hB : IntsAt w B m) (hl : l.length ≤ 1048576) (hm : m.length ≤ 1048576) (h : ∀ a ∈ m, a ∈ l) :
    Calls Tryz.prog 20 #[.slice A l.length c, .slice B m.length d] w fun e w' => e = .returned (.bool true) ∧ w = w' := by
  go_enter Tryz.func20, Tryz.ntmps20
  go_wp2
  go_loop [5] (fun i => ∃ k : Nat, k ≤ m.length ∧ i = .int .i64 k) (fun i => m.length - (intOf i).toNat)
  case atStart => exact ⟨0, Nat.zero_le _, rfl⟩
  case round =>
    obtain ⟨k, hk, rfl⟩ := hrel
    by_cases hlt : k < m.length
    · obtain ⟨b1, o1, rfl, hb1, hc1⟩ := hB (by omega)
      have c1 := hc1 k hlt
      have hin : hasB l (itAt m k) = true := by
        unfold hasB
        rw [List.contains_iff_mem]
        exact h _ (by rw [itAt_get m k hlt]; exact List.getElem_mem hlt)
      have hh := lawHas_any A c l (itAt m k) w hA (by omega)
      rw [hin] at hh
      generalize itAt m k = x at c1 hh
      clear hc1 hin
      go_wp2_with (go_at_call 22; (with_reducible refine hh.mono ?_); rintro e w' ⟨rfl, rfl⟩)
      refine ⟨⟨k + 1, by omega, by go_num⟩, ?_⟩
      simp only [intOf]
      omega
    · have e : k = m.length := by omega
      subst e
      go_wp2
      go_ret
      exact ⟨rfl, rfl⟩
end Go.Proofs.YtnamlgacjhnpnaaGreat
end

section
namespace Go.Proofs.YtnamlgacjhnpnaaGreat
open Go.RowKit Go.Sort

end Go.Proofs.YtnamlgacjhnpnaaGreat
end

