/-
  Elements of contexts put in order, in the model, as contracts.
-/
import Derived.Test.YtddmoempagcjeaaSetF
import Derived.Test.YtddmoempagcjeaaCtxS
import Derived.Test.YtddmoempagcjeaaSortK
import Derived.OwnWalk
import Derived.Maps.AppendAt
namespace Go.Proofs.Ytddmoempagcjeaa
open Go.RowKit Go.Sort
set_option linter.unusedVariables false

theorem hasF_at {S : List (Int × Int)} {k : Nat} (h : k < S.length) : hasF S (prAt S k) = true := by
  simp [hasF, prAt, h]

theorem hasF_none {S : List (Int × Int)} {x : Int × Int} (h : ∀ j, j < S.length → prAt S j ≠ x) : hasF S x = false := by
  simp only [hasF, decide_eq_false_iff_not]
  intro hm
  obtain ⟨j, hj, e⟩ := List.getElem_of_mem hm
  exact h j hj (by simp [prAt, hj, e])

/-- An element is appended to a row of the call's own. -/
theorem wpList_append_fresh (w : World) {ops : Array Oper} {rest : List Oper} {o : Oper} {a : Act} {Q : Exit → Act → World → Prop}
    (hg : o.guard = none) (s x : Operand) (hop : o.op = Op.call { callee := Callee.builtin Builtin.append, args := #[s, x], argTypes := #[60, 60] })
    (base : Nat) (v : Value) (n : Nat) (Z : List (Int × Int)) (hs : a.eval s = v) (hown : w.ownsRow base 118 2 v n (cellsOf Z)) (g : Nat) (x0 : Int × Int) (hx : a.eval x = .slice (some ⟨g, 0, none⟩) 1 1)
    (hc0 : w.cell? ⟨g, 0, none⟩ = some (.int .i64 x0.1)) (hc1 : w.cell? ⟨g, 1, none⟩ = some (.int .i64 x0.2)) (hlen : n ≤ 1099511627776) (hbase : base ≤ w.heap.size)
    (hK : ∀ g' cap' w', w'.ownsRow base 118 2 (.slice (some ⟨g', 0, none⟩) (n + 1) cap') (n + 1) (cellsOf (Z ++ [x0])) → w.grownBy w' v.ownBlock → wpList Try.prog ops Q rest (a.put o.dst (.slice (some ⟨g', 0, none⟩) (n + 1) cap')) w') :
    wpList Try.prog ops Q (o :: rest) a w := by
  obtain ⟨i0, hi0, hz0, hz1, hz2⟩ := info_parts fresh_info
  refine wpList_append_own w hg s x 60 hop base 118 i0 _ 2 16 Try.underlying60 hi0 hz0 hz1 hz2 rfl (by decide) v n _ hs hown ⟨g, 0, none⟩ 1 1 [.int .i64 x0.1, .int .i64 x0.2] hx rfl (pair_cells hc0 hc1) (pair_one _ _) (by unfold maxLen; omega) (by omega) hbase ?_
  intro v' w' ho hgr _
  have ho' : w'.ownsRow base 118 2 v' (n + 1) (cellsOf (Z ++ [x0])) := by
    rw [cellsOf_append]; exact ho
  have hform : ∃ g' cap', v' = .slice (some ⟨g', 0, none⟩) (n + 1) cap' := by
    rcases ho'.2 with ⟨_, h0⟩ | ⟨g', cap', cur, rfl, _⟩
    · omega
    · exact ⟨g', cap', rfl⟩
  obtain ⟨g', cap', rfl⟩ := hform
  exact hK g' cap' w' ho' hgr

theorem own_len {w : World} {base : Nat} {e : TypeId} {v : Value} {n : Nat} {Z : List (Int × Int)} (h : w.ownsRow base e 2 v n (cellsOf Z)) : n = Z.length := by
  have := h.1
  rw [cellsOf_len] at this
  omega

/-- What has been put out after some elements, and whether the new one has come. -/
def stepF (x : Int × Int) (s : List (Int × Int) × Bool) (y : Int × Int) : List (Int × Int) × Bool :=
  if !s.2 && lessB x y then (s.1 ++ [x] ++ [y], true) else (s.1 ++ [y], s.2)
def foldF (x : Int × Int) (d : Bool) (l : List (Int × Int)) : List (Int × Int) × Bool := l.foldl (stepF x) ([], d)

theorem foldF_snoc (x : Int × Int) (d : Bool) (l : List (Int × Int)) (y : Int × Int) : foldF x d (l ++ [y]) = stepF x (foldF x d l) y := by simp [foldF]

theorem stepFold_true (x : Int × Int) : ∀ (l o : List (Int × Int)), l.foldl (stepF x) (o, true) = (o ++ l, true)
  | [], o => by simp
  | y :: r, o => by
    rw [List.foldl_cons, show stepF x (o, true) y = (o ++ [y], true) by simp [stepF], stepFold_true x r]
    simp

theorem stepFold_false (x : Int × Int) : ∀ (l o : List (Int × Int)), (if (l.foldl (stepF x) (o, false)).2 then (l.foldl (stepF x) (o, false)).1 else (l.foldl (stepF x) (o, false)).1 ++ [x]) = o ++ insF x l
  | [], o => by simp [insF]
  | y :: r, o => by
    rw [List.foldl_cons]
    by_cases h : lessB x y = true
    · rw [show stepF x (o, false) y = (o ++ [x] ++ [y], true) by simp [stepF, h], stepFold_true]
      simp [insF, h]
    · have h' : lessB x y = false := by simpa using h
      rw [show stepF x (o, false) y = (o ++ [y], false) by simp [stepF, h'], stepFold_false x r]
      simp [insF, h']

theorem putF_fold (l : List (Int × Int)) (x : Int × Int) : putF l x = if (foldF x (hasF l x) l).2 then (foldF x (hasF l x) l).1 else (foldF x (hasF l x) l).1 ++ [x] := by
  unfold putF foldF
  by_cases h : hasF l x = true
  · rw [h, stepFold_true]; simp
  · have h' : hasF l x = false := by simpa using h
    rw [h', stepFold_false]; simp

theorem foldF_len (x : Int × Int) (d : Bool) (l : List (Int × Int)) : (foldF x d l).1.length ≤ l.length + (foldF x d l).2.toNat := by
  unfold foldF
  have key : ∀ (l o : List (Int × Int)) (d : Bool) (n : Nat), o.length ≤ n + d.toNat → (l.foldl (stepF x) (o, d)).1.length ≤ n + l.length + (l.foldl (stepF x) (o, d)).2.toNat := by
    intro l
    induction l with
    | nil => intro o d n h; exact h
    | cons y r ih =>
      intro o d n h
      rw [List.foldl_cons, List.length_cons]
      by_cases hc : (!d && lessB x y) = true
      · rw [show stepF x (o, d) y = (o ++ [x] ++ [y], true) by simp [stepF, hc]]
        have hd : d = false := by simp at hc; exact hc.1
        subst hd
        have := ih (o ++ [x] ++ [y]) true (n + 1) (by simp at h ⊢; omega)
        omega
      · rw [show stepF x (o, d) y = (o ++ [y], d) by simp [stepF, hc]]
        have := ih (o ++ [y]) d (n + 1) (by rw [List.length_append, List.length_singleton]; omega)
        omega
  have h := key l [] d 0 (by simp)
  simpa using h

end Go.Proofs.Ytddmoempagcjeaa
