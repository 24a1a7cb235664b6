/-
  InversePermutation in the program: the pairs turned round, sorted; as contracts.
-/
import Derived.Test.YtjakbnlalonbjaaInv
import Derived.Test.YtjakbnlalonbjaaCmpP
import Derived.Test.YtjakbnlalonbjaaShelfP
namespace Go.Proofs.Ytjakbnlalonbjaa
open Go.RowKit Go.Sort Go.Lib Go.Shelf

def swp1 (x : Int × Int) : Int × Int := (x.2, x.1)
def encP (x : Int × Int) : List Value := [.int .i64 x.1, .int .i64 x.2]

theorem cmpP_lt (x y : Int × Int) : cmpP x y < 0 ↔ x.1 < y.1 ∨ (x.1 = y.1 ∧ x.2 < y.2) := by
  unfold cmpP orZ cmpI
  by_cases h1 : x.1 < y.1
  · simp [h1]
  · by_cases h2 : y.1 < x.1
    · simp [h1, h2]; omega
    · have e : x.1 = y.1 := by omega
      by_cases h3 : x.2 < y.2
      · simp [h3, e]
      · by_cases h4 : y.2 < x.2
        · simp [h3, h4, e]
        · simp [h3, h4, e]

theorem ltP (x y : Int × Int) : ltOf cmpP x y = decide (x.1 < y.1 ∨ (x.1 = y.1 ∧ x.2 < y.2)) := by
  unfold ltOf
  rw [decide_eq_decide]
  exact cmpP_lt x y

theorem swoP : SWO (ltOf cmpP) where
  irrefl x := by rw [ltP]; simp
  trans x y z h1 h2 := by rw [ltP] at *; simp at *; omega
  ntrans x y z h1 h2 := by rw [ltP] at *; simp at *; omega

theorem totP (x y : Int × Int) (h1 : ltOf cmpP x y = false) (h2 : ltOf cmpP y x = false) : x = y := by
  rw [ltP] at *
  simp at *
  ext <;> omega

theorem flatP (d : Array (Int × Int)) : flatK encP 2 d = (cellsOf d.toList).toArray := by
  refine ext_get! (by simp [cellsOf_len]) fun t ht => ?_
  have ht' : t < d.size * 2 := by simpa using ht
  rw [get_flatK _ _ _ t ht']
  have hq : t / 2 < d.toList.length := by simp; omega
  obtain ⟨c1, c2⟩ := cellsOf_at d.toList (t / 2) hq
  have e : prAt d.toList (t / 2) = d[t / 2]! := by
    have h' : t / 2 < d.size := by omega
    simp [prAt, h']
  rw [e] at c1 c2
  rcases Nat.mod_two_eq_zero_or_one t with h | h
  · rw [show t / 2 * 2 = t by omega] at c1
    simp [h, encP, c1]
  · rw [show t / 2 * 2 + 1 = t by omega] at c2
    simp [h, encP, c2]

theorem own_putRow_id {w : World} {base : Nat} {e : TypeId} {size g n cap q : Nat} {xs ys : List Value} (h : w.ownsRow base e size (.slice (some ⟨g, 0, none⟩) n cap) n xs) (hy : ys.length = n * size) :
    (putRow id (Sort.ahead w q) g 0 ys.toArray).ownsRow base e size (.slice (some ⟨g, 0, none⟩) n cap) n ys := by
  rcases h.2 with ⟨e0, _⟩ | ⟨g', cap', cur, e0, hb, hg, hn, hm, hs, ht⟩
  · cases e0
  · injection e0 with e1 _ e3
    injection e1 with e1
    injection e1 with e1
    subst e1; subst e3
    have hle : n * size ≤ cap * size := Nat.mul_le_mul_right _ hn
    refine ⟨hy, .inr ⟨g, cap, putCells id 0 ys.toArray cur, rfl, hb, ?_, hn, hm, by simpa [putCells] using hs, ?_⟩⟩
    · simp [putRow, mapBlock, Sort.ahead, Array.getElem?_modify, hg, onCells]
    · apply List.ext_getElem?
      intro j
      rw [List.getElem?_take, Array.getElem?_toList]
      by_cases hj : j < n * size
      · have hjc : j < cur.size := by omega
        have hjy : j < ys.length := by omega
        simp only [if_pos hj, putCells, Array.getElem?_mapIdx, Array.getElem?_eq_getElem hjc, Option.map_some]
        rw [if_pos (by simp; omega)]
        simp [hjy]
      · rw [if_neg hj, List.getElem?_eq_none (by omega)]

theorem holdsK_of_own {w : World} {base : Nat} {e : TypeId} {g n cap : Nat} {zs : List (Int × Int)} (h : w.ownsRow base e 2 (.slice (some ⟨g, 0, none⟩) n cap) n (cellsOf zs)) : HoldsK encP 2 w g 0 zs.toArray := by
  unfold HoldsK
  rw [flatP]
  intro j hj
  have hl := h.1
  rw [cellsOf_len] at hl
  have hj' : j < zs.length * 2 := by simpa [cellsOf_len] using hj
  rw [Nat.zero_add]
  refine ⟨?_, h.frozenAt j⟩
  rw [h.cellAt j (by omega)]
  have hjc : j < (cellsOf zs).length := by rw [cellsOf_len]; omega
  simp [hjc]

theorem grown_putRow_id {w : World} {q g : Nat} {d : Array Value} : w.grownBy (putRow id (Sort.ahead w q) g 0 d) (some g) :=
  ⟨rfl, rfl, rfl, by simp [putRow, mapBlock, Sort.ahead], fun k hk hr => by
    have hne : g ≠ k := fun e => hr (by rw [e])
    simp [putRow, mapBlock, Sort.ahead, Array.getElem?_modify, hne]⟩

/-- The pairs of a permutation turned round, sorted, are its inverse. -/
theorem sorted_inv {l : List (Int × Int)} (h : IsP l) : ((l.map swp1).mergeSort fun x y => !(ltOf cmpP) y x) = invL l := by
  generalize hS : ((l.map swp1).mergeSort fun x y => !(ltOf cmpP) y x) = S
  have hp : S.Perm (l.map swp1) := by rw [← hS]; exact List.mergeSort_perm _ _
  have hmem : ∀ a b, (a, b) ∈ S ↔ (b, a) ∈ l := by
    intro a b
    rw [hp.mem_iff, List.mem_map]
    constructor
    · rintro ⟨x, hx, e⟩
      have e1 : x.2 = a := congrArg Prod.fst e
      have e2 : x.1 = b := congrArg Prod.snd e
      rw [← e1, ← e2]; exact hx
    · exact fun hx => ⟨_, hx, rfl⟩
  have hsort : S.Pairwise fun x y => (!(ltOf cmpP) y x) = true := by
    rw [← hS]
    refine List.pairwise_mergeSort (fun a b c h1 h2 => ?_) (fun a b => ?_) _
    · rw [ltP] at *; simp at *; omega
    · rw [ltP, ltP]; simp; omega
  have hfr : (froms S).Perm (tos l) := by
    have h1 := hp.map Prod.fst
    rw [List.map_map] at h1
    exact h1
  have hnd : (froms S).Nodup := hfr.nodup_iff.2 h.tos_nodup
  have hasc : AscP (froms S) := by
    unfold AscP froms
    rw [List.pairwise_map]
    have hnd' := hnd
    unfold froms List.Nodup at hnd'
    rw [List.pairwise_map] at hnd'
    refine (hsort.and hnd').imp ?_
    rintro a b ⟨h1, h2⟩
    rw [ltP] at h1
    simp at h1
    omega
  refine same_img hasc (isP_invL h).asc (fun x hx e => ?_) (isP_invL h).mv fun a => ?_
  · have := (hmem x.1 x.2).1 hx
    exact h.mv _ this e.symm
  · rw [img_invL h]
    rcases Decidable.em (a ∈ froms S) with ha | ha
    · have h1 := (hmem _ _).1 (imgL_in ha)
      rw [backL_mem h.tos_nodup h1]
    · rw [imgL_out ha, backL_out (fun h' => ha (hfr.mem_iff.2 h'))]

theorem cmpLays (blk off size : Nat) (w : World) : CmpLays Try.prog 64 #[] encP 2 cmpP blk off size w :=
  fun _ _ _ _ x y => comparePairs_any x y _

/-- A slice of pairs of the call's own is sorted in place. -/
theorem sortPairs_any (base g cap : Nat) (Z : List (Int × Int)) (w : World) (ho : w.ownsRow base 65 2 (.slice (some ⟨g, 0, none⟩) Z.length cap) Z.length (cellsOf Z)) (hz : Z.length ≤ 2097152) :
    Calls Try.prog 63 #[.slice (some ⟨g, 0, none⟩) Z.length cap, .func (.func 64) #[] #[]] w fun e w' => e = .returned (.tuple #[]) ∧
      w'.ownsRow base 65 2 (.slice (some ⟨g, 0, none⟩) Z.length cap) Z.length (cellsOf (Z.mergeSort fun x y => !(ltOf cmpP) y x)) ∧ w.grownBy w' (some g) := by
  have eg : ∀ args w, (callFunc 64 args).run Try.prog w = .ok (.enter 64 args) w := enters_of Try.func64 (by kernel_rfl) rfl
  have hcon := AnyQ.slices_SortFunc_total Try.sortPairs 2 Try.isAgg65 Try.sizeOf65 encP (fun _ => rfl) (fun x v hv => by simp [encP] at hv; rcases hv with rfl | rfl <;> rfl) cmpP swoP 64 #[] g 0 cap Z.toArray w eg (cmpLays g 0 _ w) (holdsK_of_own ho) (ho.lt g rfl).2 (by simp; omega) totP
  refine Calls.mono hcon ?_
  rintro e w' ⟨rfl, n, os, rfl⟩
  refine ⟨rfl, ?_, ?_⟩
  · refine own_below (w := putRowK encP 2 (Sort.ahead w n) g 0 _) ?_ (below_grow _ os)
    unfold putRowK
    rw [flatP]
    refine own_putRow_id ho ?_
    rw [cellsOf_len, List.length_mergeSort]
  · refine grownBy_trans ?_ (grown_of_below (below_grow _ os) (some g))
    unfold putRowK
    exact grown_putRow_id

end Go.Proofs.Ytjakbnlalonbjaa
