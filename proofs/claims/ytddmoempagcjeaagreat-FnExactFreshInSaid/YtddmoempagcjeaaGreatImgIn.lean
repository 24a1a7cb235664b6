/-
  What the pairs give to an atom, in the program and in the model, as contracts.
-/
import Derived.Test.YtddmoempagcjeaaGreatPermS
namespace Go.Proofs.YtddmoempagcjeaaGreat
open Go.RowKit Go.Sort

/-- What the first pair with the atom gives to it; the atom, if there is none. -/
def imgL : List (Int × Int) → Int → Int
  | [], a => a
  | p :: r, a => if p.1 = a then p.2 else imgL r a

theorem imgL_at : ∀ (l : List (Int × Int)) (a : Int) (i : Nat), i < l.length → (∀ j, j < i → (prAt l j).1 ≠ a) → (prAt l i).1 = a → imgL l a = (prAt l i).2
  | [], _, i, h, _, _ => by simp at h
  | p :: r, a, 0, _, _, e => by
    have e' : p.1 = a := e
    simp [imgL, e', prAt]
  | p :: r, a, i + 1, h, hn, e => by
    have h0 : ¬ p.1 = a := hn 0 (by omega)
    have h1 := imgL_at r a i (by simpa using h) (fun j hj => hn (j + 1) (by omega)) e
    simp only [imgL, h0, if_false]
    exact h1

theorem imgL_none : ∀ (l : List (Int × Int)) (a : Int), (∀ j, j < l.length → (prAt l j).1 ≠ a) → imgL l a = a
  | [], _, _ => rfl
  | p :: r, a, hn => by
    have h0 : ¬ p.1 = a := hn 0 (by simp)
    simp only [imgL, h0, if_false]
    exact imgL_none r a fun j hj => hn (j + 1) (by simpa using hj)

def imageF (l : List (Int × Int)) (a : Int) : Int := if permB l && atomB a then imgL l a else -1

theorem imageF_no1 {l : List (Int × Int)} {a : Int} (h : permB l = false) : imageF l a = -1 := by simp [imageF, h]
theorem imageF_no2 {l : List (Int × Int)} {a : Int} (h : atomB a = false) : imageF l a = -1 := by simp [imageF, h]
theorem imageF_yes {l : List (Int × Int)} {a : Int} (h : permB l = true) (h' : atomB a = true) : imageF l a = imgL l a := by simp [imageF, h, h']

set_option maxHeartbeats 400000 in
theorem imageIn_any (A : Option Addr) (c : Nat) (l : List (Int × Int)) (a : Int) (w : World) (hA : PairsAt w A l) (hl : l.length ≤ 1099511627776) (hasc : Asc l) :
    Calls Tryz.prog 132 #[.slice A l.length c, .int .i64 a] w fun e w' => e = .returned (.int .i64 (imgL l a)) ∧ Below w.heap.size w w' := by
  have hpl := placeOf_any A c l a w hA hl hasc
  have HA := Lib.hid hasc
  clear hasc
  go_enter Tryz.func132, Tryz.ntmps132
  go_wp2_with fail
  refine hpl.mono ?_
  rintro e w1 ⟨i, he, hd, hb⟩
  clear hpl
  by_cases hf : foundB l a i = true
  · have hf' : i < l.length ∧ (prAt l i).1 = a := by simpa [foundB] using hf
    have hres : Hid (imgL l a = (prAt l i).2) := imgL_at l a i hf'.1 (fun j hj => by have := hd.2.1 j hj; omega) hf'.2
    rw [hf] at he
    subst he
    have hi := hf'.1
    obtain ⟨b1, o1, rfl, hb1, hc1⟩ := hA (by omega)
    obtain ⟨_, c2⟩ := hc1 i hi
    rw [← hb.cell (p := ⟨b1, _, none⟩) hb1] at c2
    clear hc1 hA hf hf' hd
    go_wp2
    go_ret
    exact ⟨int_end hres.out.symm, hb⟩
  · have hf' : foundB l a i = false := by simpa using hf
    have hres : Hid (imgL l a = a) := imgL_none l a fun j hj => by
      rcases Nat.lt_or_ge j i with h1 | h1
      · have := hd.2.1 j h1; omega
      · intro e
        have h2 := found_iff HA.out hd
        rw [hf'] at h2
        have h3 : a ∈ froms l := mem_froms.2 ⟨j, hj, e⟩
        have h4 : (froms l).contains a = true := List.contains_iff_mem.2 h3
        rw [h4] at h2
        cases h2
    rw [hf'] at he
    subst he
    clear hA hf hf' hd
    go_wp2
    go_ret
    exact ⟨int_end hres.out.symm, hb⟩

set_option maxHeartbeats 400000 in
theorem l1Image_any (A : Option Addr) (c : Nat) (l : List (Int × Int)) (a : Int) (w : World) (hA : PairsAt w A l) (hl : l.length ≤ 1099511627776) :
    Calls Tryz.prog 109 #[.slice A l.length c, .int .i64 a] w fun e w' => e = .returned (.int .i64 (imgL l a)) ∧ w = w' := by
  go_enter Tryz.func109, Tryz.ntmps109
  go_wp2
  go_loop [5] (fun i => ∃ k : Nat, k ≤ l.length ∧ i = .int .i64 k ∧ Hid (∀ j, j < k → (prAt l j).1 ≠ a)) (fun i => l.length - (intOf i).toNat)
  case atStart => exact ⟨0, Nat.zero_le _, rfl, fun j hj => absurd hj (by omega)⟩
  case round =>
    obtain ⟨k, hk, rfl, hq⟩ := hrel
    by_cases hlt : k < l.length
    · obtain ⟨b1, o1, rfl, hb1, hc1⟩ := hA (by omega)
      obtain ⟨c1, c2⟩ := hc1 k hlt
      clear hc1 hA
      by_cases he : ((prAt l k).1 == a) = true
      · have hres : Hid (imgL l a = (prAt l k).2) := imgL_at l a k hlt hq.out (by simpa using he)
        generalize prAt l k = p at c1 c2 he hres
        clear hq
        go_wp2
        go_ret
        exact ⟨int_end hres.out.symm, rfl⟩
      · have he' : ((prAt l k).1 == a) = false := by simpa using he
        have hn : Hid (∀ j, j < k + 1 → (prAt l j).1 ≠ a) := by
          intro j hj
          by_cases e : j = k
          · rw [e]; simpa using he'
          · exact hq.out j (by omega)
        generalize prAt l k = p at c1 c2 he he'
        clear hq he
        go_wp2
        go_round
        case rel => exact ⟨k + 1, by omega, by go_num, hn⟩
        case measure => simp [intOf]; omega
    · have hres : Hid (imgL l a = a) := imgL_none l a fun j hj => hq.out j (by omega)
      clear hq hA
      go_wp2
      go_ret
      exact ⟨int_end hres.out.symm, rfl⟩

end Go.Proofs.YtddmoempagcjeaaGreat
