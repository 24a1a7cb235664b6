/-
  Both of two tables: plain words and small laws for joinedSets of the program. What a permutation makes of an orbit set: plain words, no program is walked here.
-/
import Derived.Test.YtdbogjhkcnajkaaKActOnSet19
import Derived.Test.YtdbogjhkcnajkaaKActOnSet20
import Derived.Test.YtdbogjhkcnajkaaKActOnSet24
import Derived.StillTailTactics
import Derived.Test.YtdbogjhkcnajkaaKActOnSet17
import Derived.Test.YtdbogjhkcnajkaaKActOnSet4
section
namespace Go.Proofs.Ytdbogjhkcnajkaa
open Go.RowKit Go.Sort
set_option linter.unusedVariables false

theorem insAll_all (acc xs ys : List Int) : insAll acc (xs ++ ys) = insAll (insAll acc xs) ys := by unfold insAll; rw [List.foldl_append]
theorem ascB_of {l : List Int} (h : AscP l) : ascB l = true := ascB_yes fun k h0 hk => by
  rw [itAt_get l (k - 1) (by omega), itAt_get l k hk]
  exact List.pairwise_iff_getElem.1 h (k - 1) k (by omega) hk (by omega)
theorem atoms_of {l : List Int} (h : constB l = true) : ∀ x ∈ l, atomB x = true := by
  intro x hx
  unfold constB at h
  simp only [Bool.and_eq_true] at h
  have h1 := h.2.1
  unfold atomsB at h1
  exact List.all_eq_true.1 h1 x hx
end Go.Proofs.Ytdbogjhkcnajkaa
end

section
namespace Go.Proofs.Ytdbogjhkcnajkaa
open Go.RowKit
set_option linter.unusedVariables false

def imsL (p : List (Int × Int)) (l : List Int) : List Int := l.map (imgL p)
def bksL (p : List (Int × Int)) (l : List Int) : List Int := l.map (backL p)
theorem imsL_len (p : List (Int × Int)) (l : List Int) : (imsL p l).length = l.length := by simp [imsL]
theorem bksL_len (p : List (Int × Int)) (l : List Int) : (bksL p l).length = l.length := by simp [bksL]
theorem imsL_next {p : List (Int × Int)} {l : List Int} {k : Nat} (h : k < l.length) : imsL p (l.take (k + 1)) = imsL p (l.take k) ++ [imgL p (itAt l k)] := by
  rw [itake_next h]; simp [imsL]
theorem bksL_next {p : List (Int × Int)} {l : List Int} {k : Nat} (h : k < l.length) : bksL p (l.take (k + 1)) = bksL p (l.take k) ++ [backL p (itAt l k)] := by
  rw [itake_next h]; simp [bksL]
theorem itAt_map {f : Int → Int} {l : List Int} {i : Nat} (h : i < l.length) : itAt (l.map f) i = f (itAt l i) := by
  rw [itAt_get _ _ (by rw [List.length_map]; exact h), itAt_get _ _ h, List.getElem_map]
theorem Sim.map {cs t u : List Int} (h : Sim cs t u) {f g : Int → Int} (hg : ∀ a, g (f a) = a) : Sim (cs.map f) (t.map f) (u.map f) := by
  have hi : ∀ {a b : Int}, f a = f b ↔ a = b := fun {a b} => ⟨fun e => by rw [← hg a, ← hg b, e], fun e => by rw [e]⟩
  have hl := h.1
  refine ⟨by rw [List.length_map, List.length_map]; exact h.1, fun i j h1 h2 => ?_, fun i h1 c hc => ?_⟩
  · rw [List.length_map] at h1 h2
    rw [itAt_map h1, itAt_map h2, itAt_map (by omega), itAt_map (by omega), hi, hi]
    exact h.2.1 i j h1 h2
  · rw [List.length_map] at h1
    obtain ⟨d, hd, rfl⟩ := List.mem_map.1 hc
    rw [itAt_map h1, itAt_map (by omega), hi, hi]
    exact h.2.2 i h1 d hd
/-- The constants, the tuples, and the set. -/
def acC (p : List (Int × Int)) (l : List Int) : List Int := insAll [] (imsL p l)
def acT (p : List (Int × Int)) (l : List Int) (m : List (List Int)) : List (List Int) := (exsL l m).map (imsL p)
def acM (p : List (Int × Int)) (n : Nat) (l : List Int) (m : List (List Int)) : List (List Int) := thoseL n (acC p l).length (patsL (acC p l) (acT p l m))
def acG (p : List (Int × Int)) (l : List Int) (m : List (List Int)) (q : List Int) : Bool := thereB m (patL l (bksL p (exL (numL (acC p l) 4) q)))
theorem acT_len (p : List (Int × Int)) (l : List Int) (m : List (List Int)) : (acT p l m).length = m.length := by simp [acT, exsL]
theorem acT_at {p : List (Int × Int)} {l : List Int} {m : List (List Int)} {i : Nat} (h : i < m.length) : rwAt (acT p l m) i = imsL p (exL (numL l 4) (rwAt m i)) := by
  rw [rwAt_get _ _ (by rw [acT_len]; exact h), rwAt_get _ _ h]
  simp [acT, exsL]
theorem acT_next {p : List (Int × Int)} {l : List Int} {m : List (List Int)} {i : Nat} (h : i < m.length) : acT p l (m.take (i + 1)) = acT p l (m.take i) ++ [imsL p (exL (numL l 4) (rwAt m i))] := by
  rw [rw_take_next h]
  simp [acT, exsL]
theorem acC_mem {p : List (Int × Int)} {l : List Int} {a : Int} : a ∈ acC p l ↔ ∃ c ∈ l, imgL p c = a := by
  unfold acC imsL
  rw [mem_insAll]
  simp

theorem acC_const {p : List (Int × Int)} {l : List Int} (hp : IsP p) (h : constB l = true) : constB (acC p l) = true := by
  have h3 : ascB (acC p l) = true := ascB_of (asc_insAll [] _ List.Pairwise.nil)
  have h4 : atomsB (acC p l) = true := by
    unfold atomsB
    rw [List.all_eq_true]
    intro x hx
    obtain ⟨c, hc, rfl⟩ := acC_mem.1 hx
    have h5 := atoms_of h c hc
    unfold atomB at h5 ⊢
    have h6 := hp.atom (a := c) (by simpa using h5)
    simpa using h6
  have h5 : (acC p l).length ≤ 3 := by
    have h6 := length_insAll [] (imsL p l)
    rw [imsL_len] at h6
    have := const_len h
    unfold acC
    simp at h6
    omega
  unfold constB
  rw [h3, h4]
  simpa using h5
theorem acM_eq {p : List (Int × Int)} {n : Nat} {l : List Int} {m : List (List Int)} (hn : n ≤ 4) (hp : IsP p) (h : constB l = true) (hm : ∀ q ∈ m, q ∈ allP n l.length) : acM p n l m = (allP n (acC p l).length).filter (acG p l m) := by
  have hk3 := const_len h
  have hnd := const_nodup h
  have hc := acC_const hp h
  have hck := const_len hc
  have hcn := const_nodup hc
  unfold acM thoseL
  refine List.filter_congr fun q hq => ?_
  unfold acG
  obtain ⟨hql, _⟩ := (mem_allP (by omega)).1 hq
  rw [Bool.eq_iff_iff, there_mem, there_mem]
  have hmp : ∀ e : List Int, bksL p (imsL p e) = e := fun e => by
    unfold bksL imsL
    rw [List.map_map]
    exact (List.map_congr_left fun a _ => back_img hp a).trans (List.map_id' e)
  have hpm : ∀ e : List Int, imsL p (bksL p e) = e := fun e => by
    unfold bksL imsL
    rw [List.map_map]
    exact (List.map_congr_left fun a _ => img_back hp a).trans (List.map_id' e)
  have hx4 : (exL (numL (acC p l) 4) q).length = n := by rw [exL_len, hql]
  constructor
  · intro hx
    unfold patsL acT at hx
    rw [List.mem_map] at hx
    obtain ⟨t, ht, e⟩ := hx
    obtain ⟨u, hu, rfl⟩ := List.mem_map.1 ht
    unfold exsL at hu
    obtain ⟨s, hs, rfl⟩ := List.mem_map.1 hu
    have h1 : patL (acC p l) (exL (numL (acC p l) 4) q) = patL (acC p l) (imsL p (exL (numL l 4) s)) := by rw [pat_exL hcn hck hn hq, e]
    have h2 := (sim_of_pat h1).map (f := backL p) (g := imgL p) (img_back hp)
    have h3 : Sim l (bksL p (exL (numL (acC p l) 4) q)) (bksL p (imsL p (exL (numL l 4) s))) := h2.mono fun c hc' => List.mem_map.2 ⟨imgL p c, acC_mem.2 ⟨c, hc', rfl⟩, back_img hp c⟩
    rw [pat_of_sim h3, hmp, pat_exL hnd hk3 hn (hm s hs)]
    exact hs
  · intro hx
    unfold patsL acT
    rw [List.mem_map]
    have h1 : Sim l (exL (numL l 4) (patL l (bksL p (exL (numL (acC p l) 4) q)))) (bksL p (exL (numL (acC p l) 4) q)) := Sim.ex hnd hk3 (by rw [bksL_len, hx4]; exact hn)
    refine ⟨imsL p (exL (numL l 4) (patL l (bksL p (exL (numL (acC p l) 4) q)))), List.mem_map.2 ⟨_, List.mem_map.2 ⟨_, hx, rfl⟩, rfl⟩, ?_⟩
    have h2 := h1.map (f := imgL p) (g := backL p) (back_img hp)
    have h3 : Sim (acC p l) (imsL p (exL (numL l 4) (patL l (bksL p (exL (numL (acC p l) 4) q))))) (imsL p (bksL p (exL (numL (acC p l) 4) q))) := h2.mono fun c hc' => by
      obtain ⟨d, hd, rfl⟩ := acC_mem.1 hc'
      exact List.mem_map.2 ⟨d, hd, rfl⟩
    rw [hpm] at h3
    rw [pat_of_sim h3, pat_exL hcn hck hn hq]
def acOk (p : List (Int × Int)) (z : Int) (l : List Int) (m : List (List Int)) : Bool := permB p && orbB z l m
def acR (p : List (Int × Int)) (z : Int) (l : List Int) (m : List (List Int)) : List (List Int) := acM p z.toNat l m
theorem acLen (p : List (Int × Int)) (z : Int) (l : List Int) (m : List (List Int)) : (olR (acOk p z l m) (acC p l)).length ≤ 3 ∧ (omR (acOk p z l m) (acR p z l m)).length + sumR (omR (acOk p z l m) (acR p z l m)) ≤ 32768 := by
  cases h : acOk p z l m with
  | false => simp [olR, omR, sumR]
  | true =>
    simp only [acOk, Bool.and_eq_true] at h
    have h1 := (orb_rows h.2).1
    have h2 : 0 ≤ z ∧ z ≤ 4 := by simpa [widB] using h1
    have h4 := const_len (acC_const (isP_of h.1) (orb_const h.2))
    exact ⟨h4, filter_fit (by omega) (by omega) (by omega) _⟩
theorem acFit (p : List (Int × Int)) (z : Int) (l : List Int) (m : List (List Int)) : FitO (olR (acOk p z l m) (acC p l)) (omR (acOk p z l m) (acR p z l m)) :=
  ⟨by have := acLen p z l m; omega, fitR_of (by have := acLen p z l m; omega)⟩
theorem acSum (p : List (Int × Int)) (z : Int) (l : List Int) (m : List (List Int)) : (olR (acOk p z l m) (acC p l)).length + sumR (omR (acOk p z l m) (acR p z l m)) ≤ 8388608 := by have := acLen p z l m; omega
end Go.Proofs.Ytdbogjhkcnajkaa
end

