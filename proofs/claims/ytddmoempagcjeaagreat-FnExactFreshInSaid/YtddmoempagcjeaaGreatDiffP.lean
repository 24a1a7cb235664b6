/-
  The atoms to which two permutations give different ones: plain words and small contracts.
-/
import Derived.Test.YtddmoempagcjeaaGreatSorted
import Derived.Test.YtddmoempagcjeaaGreatImgIn
import Derived.Test.YtddmoempagcjeaaGreatHas
import Derived.Maps.AppendAt
import Derived.Deep.RegionWith
namespace Go.Proofs.YtddmoempagcjeaaGreat
open Go.RowKit Go.Sort

def difB (p q : List (Int × Int)) (a : Int) : Bool := imgL p a != imgL q a

def differL (p q : List (Int × Int)) : List Int := (atomsL p q).filter (difB p q)

theorem filter_next {l : List Int} {f : Int → Bool} {k : Nat} (h : k < l.length) : (l.take (k + 1)).filter f = (l.take k).filter f ++ (if f (itAt l k) then [itAt l k] else []) := by
  rw [itake_next h, List.filter_append]
  congr 1
  cases hf : f (itAt l k) <;> simp [hf]

theorem atomsL_len (p q : List (Int × Int)) : (atomsL p q).length ≤ p.length + q.length := by
  have h1 := length_insAll (insAll [] (froms p)) (froms q)
  have h2 := length_insAll [] (froms p)
  rw [froms_len] at h1 h2
  simp only [List.length_nil] at h2
  unfold atomsL
  omega

theorem take_filter_len {l : List Int} {f : Int → Bool} {k : Nat} : ((l.take k).filter f).length ≤ l.length := by
  have h1 := List.length_filter_le f (l.take k)
  rw [List.length_take] at h1
  omega

theorem insPost_ints {base : Nat} {l : List Int} {w w' : World} {e : Ending} (h : InsPost base l w e w') : ∃ g cap, e = .returned (.slice (some ⟨g, 0, none⟩) l.length cap) ∧ g < w'.heap.size ∧ base ≤ g ∧ IntsAt w' (some ⟨g, 0, none⟩) l ∧ Below w.heap.size w w' := by
  obtain ⟨g, cap, rfl, ho, hb⟩ := h
  refine ⟨g, cap, rfl, (ho.lt g rfl).2, (ho.lt g rfl).1, ?_, hb⟩
  obtain ⟨A, c, e, h⟩ := own_intsAt ho
  simp only [Value.slice.injEq] at e
  rw [e.1]
  exact h

theorem l1Image_below (A : Option Addr) (c : Nat) (l : List (Int × Int)) (a : Int) (w : World) (hA : PairsAt w A l) (hl : l.length ≤ 1099511627776) :
    Calls Tryz.prog 109 #[.slice A l.length c, .int .i64 a] w fun e w' => e = .returned (.int .i64 (imgL l a)) ∧ Below w.heap.size w w' :=
  (l1Image_any A c l a w hA hl).mono fun _ _ ⟨he, hw⟩ => ⟨he, hw ▸ Below.refl _ _⟩

theorem below_all {B : Nat} {a b : World} (h : Below B a b) {A : Option Addr} {l : List (Int × Int)} (hA : PairsAt a A l) (hB : B = a.heap.size) : PairsAt b A l := by subst hB; exact hA.below h

end Go.Proofs.YtddmoempagcjeaaGreat
