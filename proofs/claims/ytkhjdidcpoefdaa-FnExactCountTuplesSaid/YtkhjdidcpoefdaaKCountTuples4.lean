/-
  Patterns by themselves, all of them, and their order: plain words, no program is walked here. Whether a list of pairs is a permutation, as the program decides it: a contract. Whether a list of pairs is a permutation, as the model decides it: a contract; and that both decide alike. The moved atoms of a list of pairs: in the program, as a contract. A number is put into an ascending list, and the atoms of two lists of pairs together: in the model, as contracts. What is a term: plain words, no program is walked here. All terms within a term: plain words. The shape of a term, in the model, as contracts.
-/
import Derived.Test.YtkhjdidcpoefdaaKCountTuples3
import Derived.Test.YtkhjdidcpoefdaaKCountTuples2
section
namespace Go.Proofs.Ytkhjdidcpoefdaa
open Go.RowKit
set_option linter.unusedVariables false

/-- The number that one more atom gets. -/
def newN (k : Int) (p : List Int) : Int := p.foldl (fun m n => max m (n + 1)) k
theorem newN_next {k : Int} {p : List Int} {i : Nat} (h : i < p.length) : newN k (p.take (i + 1)) = max (newN k (p.take i)) (itAt p i + 1) := by
  rw [itake_next h]
  unfold newN
  rw [List.foldl_append]
  rfl
theorem newN_ge (k : Int) (p : List Int) : k ≤ newN k p := by
  unfold newN
  induction p generalizing k with
  | nil => exact Int.le_refl _
  | cons a r ih => rw [List.foldl_cons]; have := ih (max k (a + 1)); omega
theorem newN_bound {k B : Int} : ∀ {p : List Int}, k ≤ B → (∀ i, i < p.length → itAt p i < B) → newN k p ≤ B
  | [], h, _ => h
  | a :: r, h, hp => by
    have h0 := hp 0 (by simp)
    have h1 : itAt (a :: r) 0 = a := rfl
    rw [h1] at h0
    show newN (max k (a + 1)) r ≤ B
    exact newN_bound (by omega) fun i hi => hp (i + 1) (by simpa using hi)

def isPatB (k : Int) (p : List Int) : Bool := (List.range p.length).all fun i => decide (0 ≤ itAt p i) && decide (itAt p i ≤ newN k (p.take i))
theorem isPat_no {k : Int} {p : List Int} {i : Nat} (hi : i < p.length) (h : ¬ (0 ≤ itAt p i ∧ itAt p i ≤ newN k (p.take i))) : isPatB k p = false := by
  unfold isPatB
  rw [List.all_eq_false]
  refine ⟨i, List.mem_range.2 hi, ?_⟩
  simp only [Bool.and_eq_true, decide_eq_true_eq]
  exact h
theorem isPat_yes {k : Int} {p : List Int} (h : ∀ i, i < p.length → 0 ≤ itAt p i ∧ itAt p i ≤ newN k (p.take i)) : isPatB k p = true := by
  unfold isPatB
  rw [List.all_eq_true]
  intro i hi
  simp only [Bool.and_eq_true, decide_eq_true_eq]
  exact h i (List.mem_range.1 hi)
theorem isPat_at {k : Int} {p : List Int} (h : isPatB k p = true) {i : Nat} (hi : i < p.length) : 0 ≤ itAt p i ∧ itAt p i ≤ newN k (p.take i) := by
  unfold isPatB at h
  rw [List.all_eq_true] at h
  have := h i (List.mem_range.2 hi)
  simpa only [Bool.and_eq_true, decide_eq_true_eq] using this
theorem newN_le {k : Int} {p : List Int} : ∀ {i : Nat}, i ≤ p.length → (∀ j, j < i → itAt p j ≤ newN k (p.take j)) → newN k (p.take i) ≤ k + i
  | 0, _, _ => by simp [newN]
  | i + 1, hi, h => by
    rw [newN_next (by omega)]
    have h1 := newN_le (i := i) (by omega) fun j hj => h j (by omega)
    have h2 := h i (by omega)
    omega
theorem newN_pat {k : Int} {p : List Int} (h : isPatB k p = true) : newN k p ≤ k + p.length := by
  have := newN_le (k := k) (p := p) (i := p.length) (Nat.le_refl _) fun j hj => (isPat_at h hj).2
  rwa [List.take_length] at this

theorem itAt_snoc_lt {p : List Int} {n : Int} {i : Nat} (h : i < p.length) : itAt (p ++ [n]) i = itAt p i := by
  rw [itAt_get _ _ (by simp; omega), itAt_get _ _ h, List.getElem_append_left h]
theorem itAt_snoc_eq (p : List Int) (n : Int) : itAt (p ++ [n]) p.length = n := by
  rw [itAt_get _ _ (by simp), List.getElem_append_right (Nat.le_refl _)]
  simp
theorem isPat_snoc {k : Int} {p : List Int} {n : Int} : isPatB k (p ++ [n]) = true ↔ isPatB k p = true ∧ 0 ≤ n ∧ n ≤ newN k p := by
  constructor
  · intro h
    refine ⟨isPat_yes fun i hi => ?_, ?_⟩
    · have h1 := isPat_at h (i := i) (by simp; omega)
      rw [itAt_snoc_lt hi, List.take_append_of_le_length (by omega)] at h1
      exact h1
    · have h1 := isPat_at h (i := p.length) (by simp)
      rw [itAt_snoc_eq, List.take_append_of_le_length (Nat.le_refl _), List.take_length] at h1
      exact h1
  · rintro ⟨h, h0, h1⟩
    refine isPat_yes fun i hi => ?_
    rcases Nat.lt_or_ge i p.length with h2 | h2
    · rw [itAt_snoc_lt h2, List.take_append_of_le_length (by omega)]
      exact isPat_at h h2
    · have e : i = p.length := by simp at hi; omega
      subst e
      rw [itAt_snoc_eq, List.take_append_of_le_length (Nat.le_refl _), List.take_length]
      exact ⟨h0, h1⟩

/-- The patterns that go on from one. -/
def extP (k : Int) (p : List Int) : List (List Int) := (List.range (newN k p + 1).toNat).map fun n : Nat => p ++ [(n : Int)]
/-- All patterns of a width. -/
def allP : Nat → Int → List (List Int)
  | 0, _ => [[]]
  | w + 1, k => (allP w k).flatMap (extP k)

theorem mem_allP {k : Int} (hk : 0 ≤ k) : ∀ {w : Nat} {p : List Int}, p ∈ allP w k ↔ p.length = w ∧ isPatB k p = true
  | 0, p => by
    rw [allP, List.mem_singleton]
    constructor
    · rintro rfl; exact ⟨rfl, rfl⟩
    · rintro ⟨h, _⟩; exact List.eq_nil_of_length_eq_zero h
  | w + 1, p => by
    rw [allP, List.mem_flatMap]
    constructor
    · rintro ⟨q, hq, hp⟩
      obtain ⟨h1, h2⟩ := (mem_allP hk).1 hq
      unfold extP at hp
      rw [List.mem_map] at hp
      obtain ⟨n, hn, rfl⟩ := hp
      rw [List.mem_range] at hn
      refine ⟨by simp [h1], isPat_snoc.2 ⟨h2, by omega, by omega⟩⟩
    · rintro ⟨h1, h2⟩
      have hne : p ≠ [] := fun e => by rw [e] at h1; simp at h1
      have e := List.dropLast_concat_getLast hne
      rw [← e] at h2
      obtain ⟨h3, h4, h5⟩ := isPat_snoc.1 h2
      refine ⟨p.dropLast, (mem_allP hk).2 ⟨by simp [h1], h3⟩, ?_⟩
      unfold extP
      rw [List.mem_map]
      refine ⟨(p.getLast hne).toNat, List.mem_range.2 (by omega), ?_⟩
      rw [show (((p.getLast hne).toNat : Nat) : Int) = p.getLast hne by omega]
      exact e
theorem extP_len (k : Int) (p : List Int) : (extP k p).length = (newN k p + 1).toNat := by simp [extP]
theorem flat_len {α β : Type} {f : α → List β} {B : Nat} : ∀ {l : List α}, (∀ a ∈ l, (f a).length ≤ B) → (l.flatMap f).length ≤ l.length * B
  | [], _ => by simp
  | a :: r, h => by
    rw [List.flatMap_cons, List.length_append, List.length_cons, Nat.succ_mul]
    have h1 := h a List.mem_cons_self
    have h2 := flat_len (l := r) fun b hb => h b (List.mem_cons_of_mem _ hb)
    omega
theorem allP_len {k : Int} (hk : 0 ≤ k) (hk3 : k ≤ 3) : ∀ {w : Nat}, w ≤ 4 → (allP w k).length ≤ 8 ^ w
  | 0, _ => by simp [allP]
  | w + 1, h => by
    rw [allP, Nat.pow_succ]
    have h1 := allP_len hk hk3 (w := w) (by omega)
    have h2 : ((allP w k).flatMap (extP k)).length ≤ (allP w k).length * 8 := flat_len fun p hp => by
      obtain ⟨h3, h4⟩ := (mem_allP hk).1 hp
      have := newN_pat h4
      rw [extP_len]
      omega
    exact Nat.le_trans h2 (Nat.mul_le_mul_right _ h1)
theorem allP_4096 {k : Int} (hk : 0 ≤ k) (hk3 : k ≤ 3) {w : Nat} (hw : w ≤ 4) : (allP w k).length ≤ 4096 := by
  have h1 := allP_len hk hk3 hw
  have h2 : 8 ^ w ≤ 8 ^ 4 := Nat.pow_le_pow_right (by decide) hw
  omega
theorem allP_row {k : Int} (hk : 0 ≤ k) {w : Nat} {i : Nat} (hi : i < (allP w k).length) : (rwAt (allP w k) i).length = w ∧ isPatB k (rwAt (allP w k) i) = true :=
  (mem_allP hk).1 (by rw [rwAt_get _ _ hi]; exact List.getElem_mem hi)
theorem sumR_const {c : Nat} : ∀ {ls : List (List Int)}, (∀ l ∈ ls, l.length ≤ c) → sumR ls ≤ ls.length * c
  | [], _ => by simp [sumR]
  | l :: r, h => by
    rw [sumR, List.length_cons, Nat.succ_mul]
    have h1 := h l List.mem_cons_self
    have h2 := sumR_const (ls := r) fun b hb => h b (List.mem_cons_of_mem _ hb)
    omega
theorem allP_fit {k : Int} (hk : 0 ≤ k) (hk3 : k ≤ 3) {w : Nat} (hw : w ≤ 4) : (allP w k).length + sumR (allP w k) ≤ 1048576 := by
  have h1 := allP_4096 hk hk3 hw
  have h2 := sumR_const (c := 4) (ls := allP w k) fun l hl => by have := ((mem_allP hk).1 hl).1; omega
  omega
theorem flat_next {k : Int} {ls : List (List Int)} {j : Nat} (h : j < ls.length) : (ls.take (j + 1)).flatMap (extP k) = (ls.take j).flatMap (extP k) ++ extP k (rwAt ls j) := by
  rw [rw_take_next h, List.flatMap_append]
  simp
theorem flat_take_len {k : Int} (ls : List (List Int)) (j : Nat) : ((ls.take j).flatMap (extP k)).length ≤ (ls.flatMap (extP k)).length := by
  have h : ls.flatMap (extP k) = (ls.take j).flatMap (extP k) ++ (ls.drop j).flatMap (extP k) := by rw [← List.flatMap_append, List.take_append_drop]
  rw [h, List.length_append]
  omega
/-- The first so many that go on from one. -/
def extTo (p : List Int) (n : Nat) : List (List Int) := (List.range n).map fun i : Nat => p ++ [(i : Int)]
theorem extTo_next (p : List Int) (n : Nat) : extTo p (n + 1) = extTo p n ++ [p ++ [(n : Int)]] := by simp [extTo, List.range_succ]
theorem extTo_all (k : Int) (p : List Int) : extTo p (newN k p + 1).toNat = extP k p := rfl
theorem extTo_len (p : List Int) (n : Nat) : (extTo p n).length = n := by simp [extTo]

/-- Whether one is among several. -/
def thereB (ls : List (List Int)) (p : List Int) : Bool := ls.contains p
theorem there_mem {ls : List (List Int)} {p : List Int} : thereB ls p = true ↔ p ∈ ls := by unfold thereB; exact List.contains_iff_mem
theorem there_no {ls : List (List Int)} {p : List Int} (h : ∀ i, i < ls.length → ¬ rwAt ls i = p) : thereB ls p = false := by
  cases hh : thereB ls p with
  | false => rfl
  | true =>
    obtain ⟨i, hi, e⟩ := List.getElem_of_mem (there_mem.1 hh)
    exact absurd (by rw [rwAt_get _ _ hi]; exact e) (h i hi)
theorem there_yes {ls : List (List Int)} {p : List Int} {i : Nat} (hi : i < ls.length) (e : rwAt ls i = p) : thereB ls p = true := by
  rw [there_mem, ← e, rwAt_get _ _ hi]
  exact List.getElem_mem hi
theorem there_all {w : Nat} {k : Int} (hk : 0 ≤ k) (p : List Int) : thereB (allP w k) p = (decide (p.length = w) && isPatB k p) := by
  rw [Bool.eq_iff_iff, there_mem, mem_allP hk]
  simp

/-- Which list comes first. -/
def lexLt : List Int → List Int → Bool
  | [], [] => false
  | [], _ :: _ => true
  | _ :: _, [] => false
  | x :: a, y :: b => if x = y then lexLt a b else decide (x < y)
theorem lex_step {a b : List Int} {i : Nat} (ha : i < a.length) (hb : i < b.length) (e : itAt a i = itAt b i) : lexLt (a.drop i) (b.drop i) = lexLt (a.drop (i + 1)) (b.drop (i + 1)) := by
  rw [List.drop_eq_getElem_cons ha, List.drop_eq_getElem_cons hb, lexLt, if_pos (by rw [← itAt_get a i ha, ← itAt_get b i hb]; exact e)]
theorem lex_here {a b : List Int} {i : Nat} (ha : i < a.length) (hb : i < b.length) (e : ¬ itAt a i = itAt b i) : lexLt (a.drop i) (b.drop i) = decide (itAt a i < itAt b i) := by
  rw [List.drop_eq_getElem_cons ha, List.drop_eq_getElem_cons hb, lexLt, if_neg (by rw [← itAt_get a i ha, ← itAt_get b i hb]; exact e), itAt_get a i ha, itAt_get b i hb]
theorem lex_end {a b : List Int} {i : Nat} (ha : i ≤ a.length) (hb : i ≤ b.length) (h : i = a.length ∨ i = b.length) : lexLt (a.drop i) (b.drop i) = decide (a.length < b.length) := by
  rcases Nat.lt_or_ge i a.length with h1 | h1
  · have e : i = b.length := by omega
    rw [List.drop_eq_getElem_cons h1, List.drop_of_length_le (by omega : b.length ≤ i), lexLt]
    exact (decide_eq_false (by omega)).symm
  · rw [List.drop_of_length_le h1]
    rcases Nat.lt_or_ge i b.length with h2 | h2
    · rw [List.drop_eq_getElem_cons h2, lexLt]
      exact (decide_eq_true (by omega)).symm
    · rw [List.drop_of_length_le h2, lexLt]
      exact (decide_eq_false (by omega)).symm

/-- Whether rows are patterns of a width, in order. -/
def rowOkB (z k : Int) (m : List (List Int)) (i : Nat) : Bool := (decide (((rwAt m i).length : Int) = z) && isPatB k (rwAt m i)) && (decide (i = 0) || lexLt (rwAt m (i - 1)) (rwAt m i))
def rowsOkB (z k : Int) (m : List (List Int)) : Bool := (List.range m.length).all (rowOkB z k m)
def widB (z : Int) : Bool := decide (0 ≤ z ∧ z ≤ 4)
def orbB (z : Int) (l : List Int) (m : List (List Int)) : Bool := widB z && (constB l && rowsOkB z l.length m)
theorem rowsOk_no {z k : Int} {m : List (List Int)} {i : Nat} (hi : i < m.length) (h : rowOkB z k m i = false) : rowsOkB z k m = false := by
  unfold rowsOkB
  rw [List.all_eq_false]
  exact ⟨i, List.mem_range.2 hi, by simp [h]⟩
theorem rowsOk_yes {z k : Int} {m : List (List Int)} (h : ∀ i, i < m.length → rowOkB z k m i = true) : rowsOkB z k m = true := by
  unfold rowsOkB
  rw [List.all_eq_true]
  exact fun i hi => h i (List.mem_range.1 hi)
theorem rowsOk_at {z k : Int} {m : List (List Int)} (h : rowsOkB z k m = true) {i : Nat} (hi : i < m.length) : ((rwAt m i).length : Int) = z ∧ isPatB k (rwAt m i) = true := by
  unfold rowsOkB at h
  rw [List.all_eq_true] at h
  have := h i (List.mem_range.2 hi)
  unfold rowOkB at this
  simp only [Bool.and_eq_true, decide_eq_true_eq] at this
  exact this.1
theorem const_len {l : List Int} (h : constB l = true) : l.length ≤ 3 := by
  unfold constB at h
  simp only [Bool.and_eq_true, decide_eq_true_eq] at h
  exact h.1
theorem orb_rows {z : Int} {l : List Int} {m : List (List Int)} (h : orbB z l m = true) : widB z = true ∧ rowsOkB z l.length m = true := by
  unfold orbB at h
  simp only [Bool.and_eq_true] at h
  exact ⟨h.1, h.2.2⟩

end Go.Proofs.Ytkhjdidcpoefdaa
end

section
namespace Go.Proofs.Ytkhjdidcpoefdaa
open Go.RowKit Go.Sort

def froms (l : List (Int × Int)) : List Int := l.map (·.1)
def tos (l : List (Int × Int)) : List Int := l.map (·.2)

def goodAt (l : List (Int × Int)) (k : Nat) : Bool := (froms l).contains (prAt l k).2 && !((tos l).take k).contains (prAt l k).2

/-- Whether a list of pairs is a permutation. -/
def permB (l : List (Int × Int)) : Bool := decide (l.length ≤ 40) && (orderB l && (List.range l.length).all (goodAt l))

end Go.Proofs.Ytkhjdidcpoefdaa
end

section
namespace Go.Proofs.Ytkhjdidcpoefdaa
open Go.RowKit Go.Sort

theorem l1Atom_any (a : Int) (w : World) :
    Calls Try.prog 92 #[.int .i64 a] w fun e w' => e = .returned (.bool (atomB a)) ∧ w = w' := by
  by_cases h1 : 0 ≤ a
  · by_cases h2 : a ≤ 999
    · go_enter Try.func92, Try.ntmps92
      go_wp2
      go_ret
      exact ⟨bool_end (by simp [atomB, h1, h2]), rfl⟩
    · have k2 : decide (a ≤ 999) = false := by simpa using h2
      have k3 : 999 < a := by omega
      clear h2
      go_enter Try.func92, Try.ntmps92
      go_wp2
      go_ret
      exact ⟨bool_end (by simp [atomB]; omega), rfl⟩
  · have k1 : a < 0 := by omega
    clear h1
    go_enter Try.func92, Try.ntmps92
    go_wp2
    go_ret
    exact ⟨bool_end (by simp [atomB]; omega), rfl⟩

end Go.Proofs.Ytkhjdidcpoefdaa
end

section
namespace Go.Proofs.Ytkhjdidcpoefdaa
open Go.RowKit Go.Sort

theorem int_infoM : (Try.prog.info? 3).map (fun i => (i.zero, i.size, i.bytes)) = some (some (.int .i64 0), 1, 8) := by kernel_rfl

theorem int_one (x : Int) : ∀ u ∈ [Value.int .i64 x], u.oneCell' = true := by
  intro u hu
  simp at hu
  subst hu
  rfl

theorem one_cell {w : World} {g : Nat} {u : Value} (h : w.cell? ⟨g, 0, none⟩ = some u) : ∀ j x, [u][j]? = some x → w.cell? ((⟨g, 0, none⟩ : Addr).add j) = some x := by
  intro j x hj
  cases j with
  | zero => simp at hj; subst hj; simpa [Addr.add] using h
  | succ j => simp at hj

end Go.Proofs.Ytkhjdidcpoefdaa
end

section
namespace Go.Proofs.Ytkhjdidcpoefdaa
open Go.RowKit Go.Sort

theorem ints_news {w : World} {a : Addr} {l : List Int} (h : IntsAt w (some a) l) : ∀ j u, (icells l)[j]? = some u → w.cell? (a.add j) = some u := by
  intro j u hj
  have hl : j < l.length := by
    rcases Nat.lt_or_ge j l.length with h1 | h1
    · exact h1
    · rw [List.getElem?_eq_none (by rw [icells_len]; exact h1)] at hj; cases hj
  obtain ⟨b, off, e, _, hc⟩ := h (by omega)
  injection e with e
  subst e
  rw [icells_at l j hl] at hj
  injection hj with hj
  subst hj
  have hadd : (⟨b, off, none⟩ : Addr).add j = ⟨b, off + j, none⟩ := by
    unfold Addr.add
    split
    · rename_i h0; rw [h0]; rfl
    · rfl
  rw [hadd]
  exact hc j hl

theorem icells_one (l : List Int) : ∀ u ∈ icells l, u.oneCell' = true := by
  intro u hu
  simp only [icells, List.mem_map] at hu
  obtain ⟨x, _, rfl⟩ := hu
  rfl

theorem IntsAt.take {w : World} {A : Option Addr} {l : List Int} (h : IntsAt w A l) (k : Nat) : IntsAt w A (l.take k) := by
  intro hp
  rw [List.length_take] at hp
  obtain ⟨b, off, rfl, hlt, hc⟩ := h (by omega)
  refine ⟨b, off, rfl, hlt, fun i hi => ?_⟩
  rw [List.length_take] at hi
  rw [hc i (by omega)]
  have : i < k := by omega
  simp [itAt, this]

theorem IntsAt.drop {w : World} {b off : Nat} {l : List Int} (h : IntsAt w (some ⟨b, off, none⟩) l) (k : Nat) : IntsAt w (some ⟨b, off + k, none⟩) (l.drop k) := by
  intro hp
  rw [List.length_drop] at hp
  obtain ⟨b', off', e, hlt, hc⟩ := h (by omega)
  simp only [Option.some.injEq, Addr.mk.injEq, and_true] at e
  obtain ⟨rfl, rfl⟩ := e
  refine ⟨b, off + k, rfl, hlt, fun i hi => ?_⟩
  rw [List.length_drop] at hi
  rw [Nat.add_assoc, hc (k + i) (by omega)]
  simp [itAt]

end Go.Proofs.Ytkhjdidcpoefdaa
end

section
namespace Go.Proofs.Ytkhjdidcpoefdaa
section
open Go.RowKit

def shapeB (t : Tm) : Bool :=
  if t.op = 1 then atomB t.num && (decide (t.perm.length = 0) && decide (t.kids.length = 0))
  else if t.op = 2 then decide (0 ≤ t.num ∧ t.num ≤ 11) && (decide (t.perm.length = 0) && decide ((t.kids.length : Int) = t.num % 4))
  else if t.op = 3 then atomB t.num && (decide (t.perm.length = 0) && decide (t.kids.length = 1))
  else if t.op = 4 then decide (0 ≤ t.num ∧ t.num ≤ 9) && (permB t.perm && decide (t.kids.length = 0))
  else false

mutual
/-- Right, however great. -/
def goodT : Tm → Bool
  | .mk o n p ks => shapeB (.mk o n p ks) && goodTs ks
def goodTs : List Tm → Bool
  | [] => true
  | t :: r => goodT t && goodTs r
end

end

section
open Go.RowKit

mutual
def nodesT : Tm → List Tm
  | .mk o n p ks => .mk o n p ks :: nodesTs ks
def nodesTs : List Tm → List Tm
  | [] => []
  | t :: r => nodesT t ++ nodesTs r
end

/-- What is known while the terms within t are gone through: i of F have been looked at. -/
structure Walk (t : Tm) (F : List Tm) (i : Nat) : Prop where
  le : i ≤ F.length
  most : F.length ≤ 60
  good : goodT t = goodTs (F.drop i)
  size : szT t = i + szTs (F.drop i)
  mem : ∀ y, y ∈ nodesT t ↔ y ∈ F.take i ∨ y ∈ nodesTs (F.drop i)

end
end Go.Proofs.Ytkhjdidcpoefdaa
end

section
namespace Go.Proofs.Ytkhjdidcpoefdaa
open Go.RowKit Go.Sort
set_option linter.unusedVariables false

theorem l1In_any (x a b : Int) (w : World) :
    Calls Try.prog 53 #[.int .i64 x, .int .i64 a, .int .i64 b] w fun e w' => e = .returned (.bool (decide (a ≤ x ∧ x ≤ b))) ∧ w = w' := by
  by_cases h1 : a ≤ x
  · by_cases h2 : x ≤ b
    · have r : Hid (decide (a ≤ x ∧ x ≤ b) = true) := decide_eq_true ⟨h1, h2⟩
      go_enter Try.func53, Try.ntmps53
      go_wp2
      go_ret
      first | exact ⟨rfl, rfl⟩ | exact ⟨bool_end r.out.symm, rfl⟩
    · have r : Hid (decide (a ≤ x ∧ x ≤ b) = false) := decide_eq_false fun h => h2 h.2
      have k2 : decide (x ≤ b) = false := decide_eq_false h2
      have k3 : b < x := by omega
      go_enter Try.func53, Try.ntmps53
      go_wp2
      go_ret
      first | exact ⟨rfl, rfl⟩ | exact ⟨bool_end r.out.symm, rfl⟩
  · have r : Hid (decide (a ≤ x ∧ x ≤ b) = false) := decide_eq_false fun h => h1 h.1
    have k1 : decide (a ≤ x) = false := decide_eq_false h1
    have k3 : x < a := by omega
    go_enter Try.func53, Try.ntmps53
    go_wp2
    go_ret
    first | exact ⟨rfl, rfl⟩ | exact ⟨bool_end r.out.symm, rfl⟩

end Go.Proofs.Ytkhjdidcpoefdaa
end

