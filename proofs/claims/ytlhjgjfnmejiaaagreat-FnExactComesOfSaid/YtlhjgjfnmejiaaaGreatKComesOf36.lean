/-
  Whether a substitution comes of a solution: plain words, no program is walked here.
-/
import Derived.Test.YtlhjgjfnmejiaaaGreatKComesOf27
import Derived.Test.YtlhjgjfnmejiaaaGreatKComesOf34
import Derived.Test.YtlhjgjfnmejiaaaGreatKComesOf35
import Derived.Test.YtlhjgjfnmejiaaaGreatKComesOf25
namespace Go.Proofs.YtlhjgjfnmejiaaaGreat
open Go.RowKit Go.Sort
set_option linter.unusedVariables false

def holeT (n : Int) : Tm := .mk 4 n [] []
/-- What a hole becomes under the one substitution, and that under the other. -/
def genT (xs : List RBinding) (n : Int) : Tm := orT (doT xs (holeT n)) (doB xs (holeT n))
def insT (xs l : List RBinding) (n : Int) : Tm := orT (doT l (genT xs n)) (doB l (genT xs n))
def comAt (xs l : List RBinding) (b : RBinding) : Bool := alB b.f1 (insT xs l b.f0)
def comAll (xs l : List RBinding) : Bool := (List.range l.length).all fun i => comAt xs l (atRBinding l i)
def comB (xs : List RBinding) (m : List (Int × Int)) (l : List RBinding) : Bool := cuB l m && (decide ((cuL l m).length = 0) && (subB xs && comAll xs l))
theorem com_no1 {xs l : List RBinding} {m : List (Int × Int)} (h : cuB l m = false) : comB xs m l = false := by simp [comB, h]
theorem com_no2 {xs l : List RBinding} {m : List (Int × Int)} (h : ¬ (cuL l m).length = 0) : comB xs m l = false := by simp [comB, h]
theorem com_no3 {xs l : List RBinding} {m : List (Int × Int)} (h : subB xs = false) : comB xs m l = false := by simp [comB, h]
theorem com_in {xs l : List RBinding} {m : List (Int × Int)} (h1 : cuB l m = true) (h2 : (cuL l m).length = 0) (h3 : subB xs = true) : comB xs m l = comAll xs l := by simp [comB, h1, h2, h3]
theorem comAll_no {xs l : List RBinding} {i : Nat} (hi : i < l.length) (h : comAt xs l (atRBinding l i) = false) : comAll xs l = false := by
  unfold comAll
  rw [List.all_eq_false]
  exact ⟨i, List.mem_range.2 hi, by simp [h]⟩
theorem comAll_yes {xs l : List RBinding} (h : ∀ k, k < l.length → comAt xs l (atRBinding l k) = true) : comAll xs l = true := by
  unfold comAll
  rw [List.all_eq_true]
  exact fun x hx => h x (List.mem_range.1 hx)
theorem cu_sub {l : List RBinding} {m : List (Int × Int)} (h : cuB l m = true) : subB l = true := by
  cases h1 : subB l with
  | true => rfl
  | false => rw [(cu_no1 h1).2] at h; cases h
theorem holeT_term {l : List RBinding} (h : subB l = true) {i : Nat} (hi : i < l.length) : isTermB (holeT (atRBinding l i).f0) = true := by
  have g := subB_at h hi
  have hh : holeB (atRBinding l i).f0 = true := by unfold bdAt at g; simp only [Bool.and_eq_true] at g; exact g.1
  generalize (atRBinding l i).f0 = n at hh
  have h9 : 0 ≤ n ∧ n ≤ 9 := by unfold holeB at hh; simpa using hh
  have h1 : goodT (holeT n) = true := by
    unfold holeT
    rw [goodT, goodTs, Bool.and_true, shapeB]
    have hp : permB [] = true := by rfl
    simp [Tm.op, Tm.num, Tm.perm, Tm.kids, h9.1, h9.2, hp]
  have h2 : szT (holeT n) ≤ 60 := by unfold holeT; rw [szT_eq]; show 1 + szTs [] ≤ 60; decide
  simp [isTermB, h1, h2]
theorem tm0_not : isTermB tm0 = false := by rfl
theorem tm0_ground : groundB tm0 = false := by
  cases h : groundB tm0 with
  | false => rfl
  | true => have := ground_term h; rw [tm0_not] at this; cases this
/-- The other way to say it. -/
theorem comAt_model {xs l : List RBinding} {b : RBinding} (h1 : subB xs = true) (h2 : isTermB (holeT b.f0) = true) :
    comAt xs l b = (doB l (doT xs (holeT b.f0)) && alB b.f1 (orT (doT l (doT xs (holeT b.f0))) (doB l (doT xs (holeT b.f0))))) := by
  unfold comAt insT genT
  rw [doB_yes h1 h2]
  cases hg : isTermB (doT xs (holeT b.f0)) with
  | false => rw [orT_no, doB_no2 tm0_not, doB_no2 hg, orT_no, al_no2 tm0_ground]; rfl
  | true =>
    rw [orT_yes]
    cases hd : doB l (doT xs (holeT b.f0)) with
    | false => rw [orT_no, al_no2 tm0_ground]; rfl
    | true => rfl
theorem or_cnt2 {l : List RBinding} {t : Tm} : cntT (orT (doT l t) (doB l t)) ≤ 1048576 := by
  cases h : doB l t with
  | false => rw [orT_no]; decide
  | true => rw [orT_yes]; have := cnt_term (doB_term h); omega
end Go.Proofs.YtlhjgjfnmejiaaaGreat
