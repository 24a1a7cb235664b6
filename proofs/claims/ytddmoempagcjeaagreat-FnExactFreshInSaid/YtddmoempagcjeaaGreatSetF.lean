/-
  Lists of elements of contexts in order: an element put in its place, lists joined, what is told by its members alone.
-/
import Derived.Test.YtddmoempagcjeaaGreatCtxI
namespace Go.Proofs.YtddmoempagcjeaaGreat
open Go.RowKit Go.Sort
set_option linter.unusedVariables false

def hasF (S : List (Int × Int)) (x : Int × Int) : Bool := decide (x ∈ S)

def insF (x : Int × Int) : List (Int × Int) → List (Int × Int)
  | [] => [x]
  | y :: r => if lessB x y then x :: y :: r else y :: insF x r
def putF (l : List (Int × Int)) (x : Int × Int) : List (Int × Int) := if hasF l x then l else insF x l
def joinF (l m : List (Int × Int)) : List (Int × Int) := m.foldl putF l
def sortF (S : List (Int × Int)) : List (Int × Int) := joinF [] S
def AscF (l : List (Int × Int)) : Prop := l.Pairwise fun a b => lessB a b = true

theorem lessB_iff (x y : Int × Int) : lessB x y = true ↔ (x.2 < y.2 ∨ (x.2 = y.2 ∧ x.1 < y.1)) := by simp [lessB]
theorem lessB_irrefl (x : Int × Int) : lessB x x = false := by simp [lessB]
theorem lessB_trans {x y z : Int × Int} (h1 : lessB x y = true) (h2 : lessB y z = true) : lessB x z = true := by
  rw [lessB_iff] at *; omega
theorem lessB_other {x y : Int × Int} (h : lessB x y = false) (hne : x ≠ y) : lessB y x = true := by
  rw [lessB_iff]
  have h' : ¬ (x.2 < y.2 ∨ (x.2 = y.2 ∧ x.1 < y.1)) := by rw [← lessB_iff, h]; simp
  have h2 : ¬ (x.1 = y.1 ∧ x.2 = y.2) := fun e => hne (Prod.ext e.1 e.2)
  omega
theorem lessB_asym {x y : Int × Int} (h1 : lessB x y = true) (h2 : lessB y x = true) : False := by
  rw [lessB_iff] at *; omega

theorem hasF_iff {S : List (Int × Int)} {x : Int × Int} : hasF S x = true ↔ x ∈ S := by simp [hasF]
theorem hasF_not {S : List (Int × Int)} {x : Int × Int} : hasF S x = false ↔ x ∉ S := by simp [hasF]

theorem mem_insF {x z : Int × Int} : ∀ l : List (Int × Int), z ∈ insF x l ↔ z = x ∨ z ∈ l
  | [] => by simp [insF]
  | y :: r => by
    unfold insF
    split
    · simp
    · simp only [List.mem_cons, mem_insF r]
      constructor
      · rintro (h | h | h)
        · exact .inr (.inl h)
        · exact .inl h
        · exact .inr (.inr h)
      · rintro (h | h | h)
        · exact .inr (.inl h)
        · exact .inl h
        · exact .inr (.inr h)

theorem insF_asc {x : Int × Int} : ∀ {l : List (Int × Int)}, AscF l → x ∉ l → AscF (insF x l)
  | [], _, _ => by simp [insF, AscF]
  | y :: r, h, hx => by
    have h' := List.pairwise_cons.1 h
    have hne : x ≠ y := fun e => hx (by simp [e])
    unfold insF
    split
    · rename_i hl
      refine List.pairwise_cons.2 ⟨fun z hz => ?_, h⟩
      rcases List.mem_cons.1 hz with rfl | hz
      · exact hl
      · exact lessB_trans hl (h'.1 z hz)
    · rename_i hl
      have hl' : lessB y x = true := lessB_other (by simpa using hl) hne
      refine List.pairwise_cons.2 ⟨fun z hz => ?_, insF_asc h'.2 (fun hr => hx (List.mem_cons_of_mem _ hr))⟩
      rcases (mem_insF r).1 hz with rfl | hz
      · exact hl'
      · exact h'.1 z hz

theorem mem_putF {x z : Int × Int} {l : List (Int × Int)} : z ∈ putF l x ↔ z ∈ l ∨ z = x := by
  unfold putF
  by_cases h : hasF l x = true
  · rw [if_pos h]
    have hm := hasF_iff.1 h
    exact ⟨.inl, fun h => h.elim id (fun e => e ▸ hm)⟩
  · rw [if_neg h, mem_insF]
    exact or_comm

theorem putF_asc {x : Int × Int} {l : List (Int × Int)} (h : AscF l) : AscF (putF l x) := by
  unfold putF
  by_cases hh : hasF l x = true
  · rw [if_pos hh]; exact h
  · rw [if_neg hh]; exact insF_asc h (hasF_not.1 (by simpa using hh))

theorem joinF_snoc (l m : List (Int × Int)) (x : Int × Int) : joinF l (m ++ [x]) = putF (joinF l m) x := by simp [joinF]

theorem joinF_asc {l : List (Int × Int)} (h : AscF l) (m : List (Int × Int)) : AscF (joinF l m) := by
  unfold joinF
  induction m generalizing l with
  | nil => exact h
  | cons x r ih => exact ih (putF_asc h)

theorem mem_joinF {z : Int × Int} {l : List (Int × Int)} (m : List (Int × Int)) : z ∈ joinF l m ↔ z ∈ l ∨ z ∈ m := by
  unfold joinF
  induction m generalizing l with
  | nil => simp
  | cons x r ih =>
    rw [List.foldl_cons, ih, mem_putF]
    simp [or_assoc]

theorem sortF_asc (S : List (Int × Int)) : AscF (sortF S) := joinF_asc List.Pairwise.nil S
theorem mem_sortF {S : List (Int × Int)} {z : Int × Int} : z ∈ sortF S ↔ z ∈ S := by unfold sortF; rw [mem_joinF]; simp
theorem sortF_snoc (S : List (Int × Int)) (x : Int × Int) : sortF (S ++ [x]) = putF (sortF S) x := joinF_snoc _ _ _

/-- Lists in order that have the same members are the same. -/
theorem ascF_same : ∀ {l m : List (Int × Int)}, AscF l → AscF m → (∀ z, z ∈ l ↔ z ∈ m) → l = m
  | [], [], _, _, _ => rfl
  | [], y :: m, _, _, h => absurd ((h y).2 (by simp)) (by simp)
  | x :: l, [], _, _, h => absurd ((h x).1 (by simp)) (by simp)
  | x :: l, y :: m, hl, hm, h => by
    have hl' := List.pairwise_cons.1 hl
    have hm' := List.pairwise_cons.1 hm
    have e : x = y := by
      rcases List.mem_cons.1 ((h x).1 (by simp)) with e | hx
      · exact e
      · rcases List.mem_cons.1 ((h y).2 (by simp)) with e | hy
        · exact e.symm
        · exact (lessB_asym (hm'.1 x hx) (hl'.1 y hy)).elim
    subst e
    congr 1
    refine ascF_same hl'.2 hm'.2 fun z => ?_
    constructor
    · intro hz
      rcases List.mem_cons.1 ((h z).1 (List.mem_cons_of_mem _ hz)) with e | hz'
      · subst e
        have := hl'.1 z hz
        rw [lessB_irrefl] at this; cases this
      · exact hz'
    · intro hz
      rcases List.mem_cons.1 ((h z).2 (List.mem_cons_of_mem _ hz)) with e | hz'
      · subst e
        have := hm'.1 z hz
        rw [lessB_irrefl] at this; cases this
      · exact hz'

theorem joinF_sortF {l : List (Int × Int)} (h : AscF l) (m : List (Int × Int)) : joinF l m = sortF (l ++ m) :=
  ascF_same (joinF_asc h m) (sortF_asc _) fun z => by rw [mem_joinF, mem_sortF]; simp

theorem insF_len (x : Int × Int) : ∀ l : List (Int × Int), (insF x l).length = l.length + 1
  | [] => rfl
  | y :: r => by
    unfold insF
    split
    · rfl
    · simp [insF_len x r]
theorem putF_len (l : List (Int × Int)) (x : Int × Int) : (putF l x).length = if hasF l x then l.length else l.length + 1 := by
  unfold putF
  split
  · rfl
  · exact insF_len x l
theorem joinF_len_le (l m : List (Int × Int)) : (joinF l m).length ≤ l.length + m.length := by
  unfold joinF
  induction m generalizing l with
  | nil => simp
  | cons x r ih =>
    rw [List.foldl_cons]
    refine Nat.le_trans (ih _) ?_
    rw [putF_len, List.length_cons]
    split <;> omega
theorem sortF_len_le (S : List (Int × Int)) : (sortF S).length ≤ S.length := by have h := joinF_len_le [] S; simp at h; exact h
theorem putF_len_ge (l : List (Int × Int)) (x : Int × Int) : l.length ≤ (putF l x).length := by rw [putF_len]; split <;> omega
theorem joinF_len_ge (l m : List (Int × Int)) : l.length ≤ (joinF l m).length := by
  unfold joinF
  induction m generalizing l with
  | nil => simp
  | cons x r ih => rw [List.foldl_cons]; exact Nat.le_trans (putF_len_ge l x) (ih _)

theorem ascF_nodup {l : List (Int × Int)} (h : AscF l) : l.Nodup := by
  refine List.Pairwise.imp ?_ h
  rintro a b hab rfl
  rw [lessB_irrefl] at hab; cases hab

/-- Each element is one of a context's, and each comes before the next one: in order. -/
theorem rightB_parts {l : List (Int × Int)} (h : rightB l = true) : (∀ x ∈ l, atomB x.1 = true ∧ holeB x.2 = true) ∧ AscF l := by
  have hat : ∀ i, i < l.length → ctxAt l i = true := by
    unfold rightB at h
    rw [List.all_eq_true] at h
    exact fun i hi => h i (List.mem_range.2 hi)
  constructor
  · intro x hx
    obtain ⟨i, hi, e⟩ := List.getElem_of_mem hx
    have h1 := hat i hi
    unfold ctxAt at h1
    rw [Bool.and_eq_true, Bool.and_eq_true] at h1
    have e' : prAt l i = x := by simp [prAt, hi, e]
    rw [e'] at h1
    exact ⟨h1.1, h1.2.1⟩
  · unfold AscF
    rw [List.pairwise_iff_getElem]
    have step : ∀ i, i + 1 < l.length → lessB (prAt l i) (prAt l (i + 1)) = true := by
      intro i hi
      have h1 := hat (i + 1) hi
      unfold ctxAt at h1
      rw [Bool.and_eq_true, Bool.and_eq_true, Bool.or_eq_true] at h1
      rcases h1.2.2 with h2 | h2
      · simp at h2
      · simpa using h2
    have far : ∀ d i, i + (d + 1) < l.length → lessB (prAt l i) (prAt l (i + (d + 1))) = true := by
      intro d
      induction d with
      | zero => exact fun i hi => step i hi
      | succ d ih => exact fun i hi => lessB_trans (ih i (by omega)) (step (i + (d + 1)) (by omega))
    intro i j hi hj hij
    have h3 := far (j - i - 1) i (by omega)
    rw [show i + (j - i - 1 + 1) = j by omega] at h3
    simpa [prAt, hi, hj] using h3

theorem rightB_of {l : List (Int × Int)} (h1 : ∀ x ∈ l, atomB x.1 = true ∧ holeB x.2 = true) (h2 : AscF l) : rightB l = true := by
  refine rightB_yes fun j hj => ?_
  have e : prAt l j = l[j] := by simp [prAt, hj]
  have hm := h1 _ (List.getElem_mem hj)
  unfold ctxAt
  rw [e, hm.1, hm.2]
  simp only [Bool.true_and, Bool.or_eq_true, decide_eq_true_eq]
  by_cases h0 : j = 0
  · exact .inl h0
  · refine .inr ?_
    have e' : prAt l (j - 1) = l[j - 1] := by simp [prAt, show j - 1 < l.length by omega]
    rw [e']
    exact List.pairwise_iff_getElem.1 h2 (j - 1) j (by omega) hj (by omega)

theorem len_of_ctx {l : List (Int × Int)} (h : ctxB l = true) : l.length ≤ 40 := by
  unfold ctxB at h
  rw [Bool.and_eq_true] at h
  simpa using h.1
theorem right_of_ctx {l : List (Int × Int)} (h : ctxB l = true) : rightB l = true := by
  unfold ctxB at h
  rw [Bool.and_eq_true] at h
  exact h.2

end Go.Proofs.YtddmoempagcjeaaGreat
