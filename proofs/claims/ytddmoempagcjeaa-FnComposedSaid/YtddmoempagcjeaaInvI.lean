/-
  InversePermutation in the program: the pairs turned round, sorted; as contracts.
-/
import Derived.Test.YtddmoempagcjeaaInv
import Derived.Test.YtddmoempagcjeaaCmpP
import Derived.Test.YtddmoempagcjeaaShelfP
import Derived.Test.YtddmoempagcjeaaSortK
namespace Go.Proofs.Ytddmoempagcjeaa
open Go.RowKit Go.Sort Go.Lib Go.Shelf

def swp1 (x : Int × Int) : Int × Int := (x.2, x.1)

theorem cmpP_lt (x y : Int × Int) : cmpP x y < 0 ↔ x.1 < y.1 ∨ (x.1 = y.1 ∧ x.2 < y.2) := by
  unfold cmpP orZ cmpI
  by_cases h1 : x.1 < y.1
  · simp [h1]
  · by_cases h2 : y.1 < x.1
    · simp [h1, h2]; omega
    · have e : x.1 = y.1 := by omega
      by_cases h3 : x.2 < y.2
      · simp [h3, e]
      · by_cases h4 : y.2 < x.2
        · simp [h3, h4, e]
        · simp [h3, h4, e]

theorem ltP (x y : Int × Int) : ltOf cmpP x y = decide (x.1 < y.1 ∨ (x.1 = y.1 ∧ x.2 < y.2)) := by
  unfold ltOf
  rw [decide_eq_decide]
  exact cmpP_lt x y

theorem swoP : SWO (ltOf cmpP) where
  irrefl x := by rw [ltP]; simp
  trans x y z h1 h2 := by rw [ltP] at *; simp at *; omega
  ntrans x y z h1 h2 := by rw [ltP] at *; simp at *; omega

theorem totP (x y : Int × Int) (h1 : ltOf cmpP x y = false) (h2 : ltOf cmpP y x = false) : x = y := by
  rw [ltP] at *
  simp at *
  ext <;> omega

/-- The pairs of a permutation turned round, sorted, are its inverse. -/
theorem sorted_inv {l : List (Int × Int)} (h : IsP l) : ((l.map swp1).mergeSort fun x y => !(ltOf cmpP) y x) = invL l := by
  generalize hS : ((l.map swp1).mergeSort fun x y => !(ltOf cmpP) y x) = S
  have hp : S.Perm (l.map swp1) := by rw [← hS]; exact List.mergeSort_perm _ _
  have hmem : ∀ a b, (a, b) ∈ S ↔ (b, a) ∈ l := by
    intro a b
    rw [hp.mem_iff, List.mem_map]
    constructor
    · rintro ⟨x, hx, e⟩
      have e1 : x.2 = a := congrArg Prod.fst e
      have e2 : x.1 = b := congrArg Prod.snd e
      rw [← e1, ← e2]; exact hx
    · exact fun hx => ⟨_, hx, rfl⟩
  have hsort : S.Pairwise fun x y => (!(ltOf cmpP) y x) = true := by
    rw [← hS]
    refine List.pairwise_mergeSort (fun a b c h1 h2 => ?_) (fun a b => ?_) _
    · rw [ltP] at *; simp at *; omega
    · rw [ltP, ltP]; simp; omega
  have hfr : (froms S).Perm (tos l) := by
    have h1 := hp.map Prod.fst
    rw [List.map_map] at h1
    exact h1
  have hnd : (froms S).Nodup := hfr.nodup_iff.2 h.tos_nodup
  have hasc : AscP (froms S) := by
    unfold AscP froms
    rw [List.pairwise_map]
    have hnd' := hnd
    unfold froms List.Nodup at hnd'
    rw [List.pairwise_map] at hnd'
    refine (hsort.and hnd').imp ?_
    rintro a b ⟨h1, h2⟩
    rw [ltP] at h1
    simp at h1
    omega
  refine same_img hasc (isP_invL h).asc (fun x hx e => ?_) (isP_invL h).mv fun a => ?_
  · have := (hmem x.1 x.2).1 hx
    exact h.mv _ this e.symm
  · rw [img_invL h]
    rcases Decidable.em (a ∈ froms S) with ha | ha
    · have h1 := (hmem _ _).1 (imgL_in ha)
      rw [backL_mem h.tos_nodup h1]
    · rw [imgL_out ha, backL_out (fun h' => ha (hfr.mem_iff.2 h'))]

theorem cmpLays (blk off size : Nat) (w : World) : CmpLays Try.prog 98 #[] encP 2 cmpP blk off size w :=
  fun _ _ _ _ x y => comparePairs_any x y _

/-- A slice of pairs of the call's own is sorted in place. -/
theorem sortPairs_any (base g cap : Nat) (Z : List (Int × Int)) (w : World) (ho : w.ownsRow base 81 2 (.slice (some ⟨g, 0, none⟩) Z.length cap) Z.length (cellsOf Z)) (hz : Z.length ≤ 2097152) :
    Calls Try.prog 97 #[.slice (some ⟨g, 0, none⟩) Z.length cap, .func (.func 98) #[] #[]] w fun e w' => e = .returned (.tuple #[]) ∧
      w'.ownsRow base 81 2 (.slice (some ⟨g, 0, none⟩) Z.length cap) Z.length (cellsOf (Z.mergeSort fun x y => !(ltOf cmpP) y x)) ∧ w.grownBy w' (some g) := by
  have eg : ∀ args w, (callFunc 98 args).run Try.prog w = .ok (.enter 98 args) w := enters_of Try.func98 (by kernel_rfl) rfl
  have hcon := AnyQ.slices_SortFunc_total Try.sortPairs 2 Try.isAgg81 Try.sizeOf81 encP (fun _ => rfl) (fun x v hv => by simp [encP] at hv; rcases hv with rfl | rfl <;> rfl) cmpP swoP 98 #[] g 0 cap Z.toArray w eg (cmpLays g 0 _ w) (holdsK_of_own ho) (ho.lt g rfl).2 (by simp; omega) totP
  refine Calls.mono hcon ?_
  rintro e w' ⟨rfl, n, os, rfl⟩
  refine ⟨rfl, ?_, ?_⟩
  · refine own_below (w := putRowK encP 2 (Sort.ahead w n) g 0 _) ?_ (below_grow _ os)
    unfold putRowK
    rw [flatP]
    refine own_putRow_id ho ?_
    rw [cellsOf_len, List.length_mergeSort]
  · refine grownBy_trans ?_ (grown_of_below (below_grow _ os) (some g))
    unfold putRowK
    exact grown_putRow_id

end Go.Proofs.Ytddmoempagcjeaa
