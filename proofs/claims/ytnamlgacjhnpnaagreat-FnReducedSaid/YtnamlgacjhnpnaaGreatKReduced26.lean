/-
  Both of two tables: plain words and small laws for joinedSets of the program. An orbit set told by fewer constants: plain words, no program is walked here. Two valid orbit sets of one width, and a tuple, that the model draws: contracts. What an orbit set and its complement have: plain words. What a permutation makes of an orbit set: plain words, no program is walked here.
-/
import Derived.Test.YtnamlgacjhnpnaaGreatKReduced21
import Derived.Test.YtnamlgacjhnpnaaGreatKReduced19
import Derived.Test.YtnamlgacjhnpnaaGreatKReduced25
import Derived.StillTailTactics
import Derived.Test.YtnamlgacjhnpnaaGreatKReduced18
import Derived.Test.YtnamlgacjhnpnaaGreatKReduced15
import Derived.Test.YtnamlgacjhnpnaaGreatKReduced5
section
namespace Go.Proofs.YtnamlgacjhnpnaaGreat
open Go.RowKit Go.Sort
set_option linter.unusedVariables false

theorem ascB_of {l : List Int} (h : AscP l) : ascB l = true := ascB_yes fun k h0 hk => by
  rw [itAt_get l (k - 1) (by omega), itAt_get l k hk]
  exact List.pairwise_iff_getElem.1 h (k - 1) k (by omega) hk (by omega)
theorem atoms_of {l : List Int} (h : constB l = true) : ∀ x ∈ l, atomB x = true := by
  intro x hx
  unfold constB at h
  simp only [Bool.and_eq_true] at h
  have h1 := h.2.1
  unfold atomsB at h1
  exact List.all_eq_true.1 h1 x hx
end Go.Proofs.YtnamlgacjhnpnaaGreat
end

section
namespace Go.Proofs.YtnamlgacjhnpnaaGreat
open Go.RowKit
set_option linter.unusedVariables false

theorem lex_snoc : ∀ (p : List Int) (x y : Int), x < y → lexLt (p ++ [x]) (p ++ [y]) = true
  | [], x, y, h => by
    simp [lexLt, h]
    omega
  | a :: r, x, y, h => by
    have := lex_snoc r x y h
    simp [lexLt, this]
theorem lex_longer : ∀ (p q : List Int) (x y : Int), p.length = q.length → lexLt p q = true → lexLt (p ++ [x]) (q ++ [y]) = true
  | [], [], x, y, _, h => by simp [lexLt] at h
  | [], b :: s, x, y, hl, h => by simp at hl
  | a :: r, [], x, y, hl, h => by simp at hl
  | a :: r, b :: s, x, y, hl, h => by
    have hl' : r.length = s.length := by simpa using hl
    have ih := lex_longer r s x y hl'
    simp only [List.cons_append, lexLt] at h ⊢
    by_cases e : a = b
    · simp only [e, if_true] at h ⊢
      exact ih h
    · simpa [e] using h
theorem allP_lex {k : Int} (hk : 0 ≤ k) : ∀ w, (allP w k).Pairwise fun a b => lexLt a b = true
  | 0 => by simp [allP]
  | w + 1 => by
    rw [allP, List.pairwise_flatMap]
    refine ⟨fun p _ => ?_, ?_⟩
    · unfold extP
      rw [List.pairwise_map]
      exact List.pairwise_lt_range.imp fun h => lex_snoc p _ _ (by omega)
    · refine (allP_lex hk w).imp_of_mem fun {a b} ha hb h => ?_
      intro x hx y hy
      unfold extP at hx hy
      obtain ⟨i, _, rfl⟩ := List.mem_map.1 hx
      obtain ⟨j, _, rfl⟩ := List.mem_map.1 hy
      exact lex_longer a b _ _ (by rw [((mem_allP hk).1 ha).1, ((mem_allP hk).1 hb).1]) h
theorem orb_filter {n : Nat} {l : List Int} (hn : n ≤ 4) (hl : constB l = true) (f : List Int → Bool) : orbB n l ((allP n l.length).filter f) = true := by
  have hk : (0 : Int) ≤ (l.length : Int) := by omega
  unfold orbB
  rw [Bool.and_eq_true, Bool.and_eq_true]
  refine ⟨widB_iff.2 (by omega), hl, rowsOk_yes fun i hi => ?_⟩
  have hs : ((allP n l.length).filter f).Pairwise fun a b => lexLt a b = true := (allP_lex hk n).sublist List.filter_sublist
  have hm : rwAt ((allP n l.length).filter f) i ∈ allP n l.length := by
    rw [rwAt_get _ _ hi]
    exact (List.mem_filter.1 (List.getElem_mem hi)).1
  obtain ⟨h1, h2⟩ := (mem_allP hk).1 hm
  unfold rowOkB
  rw [h2, h1]
  by_cases h0 : i = 0
  · simp [h0]
  · have h3 := List.pairwise_iff_getElem.1 hs (i - 1) i (by omega) hi (by omega)
    rw [rwAt_get _ (i - 1) (by omega), rwAt_get _ i hi, h3]
    simp
/-- The constants but one. -/
def restL (cs : List Int) (c : Int) : List Int := cs.filter fun a => !(a == c)
theorem restL_sub (cs : List Int) (c : Int) : ∀ a ∈ restL cs c, a ∈ cs := fun a h => (List.mem_filter.1 h).1
theorem restL_out (cs : List Int) (c : Int) : c ∉ restL cs c := fun h => by
  have := (List.mem_filter.1 h).2
  simp at this
theorem restL_len (cs : List Int) (c : Int) : (restL cs c).length ≤ cs.length := List.length_filter_le _ _
theorem restL_const {cs : List Int} (c : Int) (h : constB cs = true) : constB (restL cs c) = true := by
  have h1 := const_len h
  have h2 := restL_len cs c
  have h3 : AscP (restL cs c) := (const_asc h).sublist List.filter_sublist
  have h4 : atomsB (restL cs c) = true := by
    unfold atomsB
    rw [List.all_eq_true]
    exact fun x hx => atoms_of h x (restL_sub cs c x hx)
  unfold constB
  rw [ascB_of h3, h4]
  simp
  omega
/-- Told by them: the tuples that have such a pattern. -/
def fewM (n : Nat) (cs : List Int) (M : List (List Int)) (c : Int) : List (List Int) := thoseL n (restL cs c).length (patsL (restL cs c) (exsL cs M))
theorem tab_same {n : Nat} {k : Int} (hk : 0 ≤ k) (hk3 : k ≤ 3) (hn : n ≤ 4) {A B : List (List Int)} (hA : A = thoseL n k A) (hB : B = thoseL n k B) : eqTab (tabOf A) (tabOf B) = decide (A = B) := by
  have hsub : ∀ {X : List (List Int)}, X = thoseL n k X → ∀ p ∈ X, p ∈ allP n k := fun {X} h p hp => by rw [h] at hp; exact thoseL_sub p hp
  rw [Bool.eq_iff_iff, eqTab_iff, decide_eq_true_iff]
  constructor
  · intro h
    rw [hA, hB]
    unfold thoseL
    refine List.filter_congr fun p hp => ?_
    rw [← tabOf_has hk hk3 hn (hsub hA) hp, ← tabOf_has hk hk3 hn (hsub hB) hp]
    exact h _ (code_4096 hk hk3 hn hp)
  · rintro rfl i _
    rfl
theorem normal_filter (n : Nat) (k : Int) (f : List Int → Bool) : (allP n k).filter f = thoseL n k ((allP n k).filter f) := (thoseL_filter n k f).symm
theorem normal_ext (n : Nat) (l : List Int) (m : List (List Int)) (cs : List Int) : extL n l m cs = thoseL n cs.length (extL n l m cs) := normal_filter n cs.length _
theorem normal_few (n : Nat) (cs : List Int) (M : List (List Int)) (c : Int) : fewM n cs M c = thoseL n (restL cs c).length (fewM n cs M c) := normal_filter n (restL cs c).length _
/-- Whether a set is the same without a constant. -/
def keepB (n : Nat) (cs : List Int) (M : List (List Int)) (c : Int) : Bool := decide (extL n (restL cs c) (fewM n cs M c) cs = M)
theorem keep_tab {n : Nat} {cs : List Int} {M : List (List Int)} (c : Int) (hn : n ≤ 4) (hc : constB cs = true) (hM : M = thoseL n cs.length M) : eqTab (tabOf (extL n (restL cs c) (fewM n cs M c) cs)) (tabOf M) = keepB n cs M c :=
  tab_same (by omega) (by have := const_len hc; omega) hn (normal_ext _ _ _ _) hM
/-- One constant less, if it is not needed. -/
def redS (n : Nat) (s : List Int × List (List Int)) (c : Int) : List Int × List (List Int) := if keepB n s.1 s.2 c then (restL s.1 c, fewM n s.1 s.2 c) else s
def redF (n : Nat) (l : List Int) (m : List (List Int)) (k : Nat) : List Int × List (List Int) := (l.take k).foldl (redS n) (l, thoseL n l.length m)
theorem redF_next {n : Nat} {l : List Int} {m : List (List Int)} {k : Nat} (h : k < l.length) : redF n l m (k + 1) = redS n (redF n l m k) (itAt l k) := by
  unfold redF
  rw [itake_next h, List.foldl_append]
  rfl
theorem redF_zero (n : Nat) (l : List Int) (m : List (List Int)) : redF n l m 0 = (l, thoseL n l.length m) := rfl
/-- What stays so. -/
theorem redF_inv {n : Nat} {l : List Int} {m : List (List Int)} (hl : constB l = true) : ∀ k, k ≤ l.length → constB (redF n l m k).1 = true ∧ (redF n l m k).2 = thoseL n (redF n l m k).1.length (redF n l m k).2 ∧ ∀ j, k ≤ j → j < l.length → itAt l j ∈ (redF n l m k).1
  | 0, _ => ⟨hl, normal_filter n l.length _, fun j _ hj => by rw [itAt_get _ _ hj]; exact List.getElem_mem hj⟩
  | k + 1, hk => by
    obtain ⟨h1, h2, h3⟩ := redF_inv (m := m) hl k (by omega)
    rw [redF_next (by omega)]
    unfold redS
    by_cases hb : keepB n (redF n l m k).1 (redF n l m k).2 (itAt l k) = true
    · rw [if_pos hb]
      refine ⟨restL_const _ h1, normal_few _ _ _ _, fun j h4 h5 => ?_⟩
      refine List.mem_filter.2 ⟨h3 j (by omega) h5, ?_⟩
      have hnd := const_nodup hl
      have : itAt l j ≠ itAt l k := fun e => by have := nodup_inj hnd h5 (by omega) e; omega
      simpa using this
    · rw [if_neg hb]
      exact ⟨h1, h2, fun j h4 h5 => h3 j (by omega) h5⟩
def redC (n : Nat) (l : List Int) (m : List (List Int)) : List Int := (redF n l m l.length).1
def redM (n : Nat) (l : List Int) (m : List (List Int)) : List (List Int) := (redF n l m l.length).2
def redCz (z : Int) (l : List Int) (m : List (List Int)) : List Int := redC z.toNat l m
def redMz (z : Int) (l : List Int) (m : List (List Int)) : List (List Int) := redM z.toNat l m
theorem orb_normal {n : Nat} {l : List Int} {M : List (List Int)} (hn : n ≤ 4) (hl : constB l = true) (hM : M = thoseL n l.length M) : orbB n l M = true := by rw [hM]; exact orb_filter hn hl _
theorem normal_fit {n : Nat} {k : Int} (hk : 0 ≤ k) (hk3 : k ≤ 3) (hn : n ≤ 4) {M : List (List Int)} (hM : M = thoseL n k M) : M.length + sumR M ≤ 32768 := by rw [hM]; exact filter_fit hk hk3 hn _
end Go.Proofs.YtnamlgacjhnpnaaGreat
end

section
namespace Go.Proofs.YtnamlgacjhnpnaaGreat
open Go.RowKit Go.Sort
set_option linter.unusedVariables false

namespace DrawN
theorem drawn_const {cs : List Int} (h : cs.length ≤ 3) (ha : AscP cs) (hs : Small cs) : constB cs = true := by
  have h4 : atomsB cs = true := by
    unfold atomsB
    rw [List.all_eq_true]
    intro x hx
    have := hs x hx
    unfold atomB
    simp
    omega
  unfold constB
  rw [ascB_of ha, h4]
  simp
  omega
theorem small_tup {t : List Int} (h : t.length ≤ 4) (hs : Small t) : tupB t = true := by
  rw [tupB_is h]
  unfold atomsB
  rw [List.all_eq_true]
  intro x hx
  have := hs x hx
  unfold atomB
  simp
  omega
/-- A valid orbit set that is told by all its patterns in order. -/
def Valid (n : Nat) (cs : List Int) (M : List (List Int)) : Prop := constB cs = true ∧ M = thoseL n cs.length M
theorem bytes_more {w w' : World} {A : Option Addr} {n : Nat} (h : BytesIn w A n) (hb : Below w.heap.size w w') : BytesIn w' A n := by
  have h1 : BytesAt w' w.heap.size A n := BytesAt.keep h hb.block
  intro j hj
  obtain ⟨b, off, x, e, hlt, hx, hc⟩ := h1 j hj
  exact ⟨b, off, x, e, Nat.lt_of_lt_of_le hlt hb.size, hx, hc⟩
end DrawN

end Go.Proofs.YtnamlgacjhnpnaaGreat
end

section
namespace Go.Proofs.YtnamlgacjhnpnaaGreat
open Go.RowKit
set_option linter.unusedVariables false

namespace SetX
open DrawN
theorem leastF_atom {l : List Int} (h : l.length < 999) : atomB (leastF l) = true := by
  rcases leastF_cases l with ⟨_, hall⟩ | ⟨a, ha, e, _⟩
  · have := long_least hall
    omega
  · rw [e]
    unfold atomB
    simp
    omega
theorem numL_atoms {cs : List Int} (h : ∀ x ∈ cs, atomB x = true) : ∀ j, cs.length + j ≤ 900 → ∀ x ∈ numL cs j, atomB x = true
  | 0, _ => h
  | j + 1, hj => by
    intro x hx
    rw [numL, List.mem_append] at hx
    rcases hx with hx | hx
    · exact numL_atoms h j (by omega) x hx
    · simp only [List.mem_singleton] at hx
      rw [hx]
      exact leastF_atom (by rw [numL_len]; omega)
theorem ex_tup {n : Nat} {cs p : List Int} (hn : n ≤ 4) (hc : constB cs = true) (hp : p ∈ allP n cs.length) : tupB (exL (numL cs 4) p) = true := by
  obtain ⟨hl, hi⟩ := (mem_allP (by omega)).1 hp
  have h3 := const_len hc
  rw [tupB_is (by rw [exL_len]; omega)]
  unfold atomsB
  rw [List.all_eq_true]
  intro x hx
  unfold exL at hx
  obtain ⟨m, hm, rfl⟩ := List.mem_map.1 hx
  obtain ⟨i, hip, rfl⟩ := List.getElem_of_mem hm
  have h1 := isPat_at hi hip
  have h2 := newN_le (k := (cs.length : Int)) (p := p) (i := i) (by omega) (fun q hq => (isPat_at hi (by omega)).2)
  rw [itAt_get p i hip] at h1
  have hlt : (p[i]).toNat < (numL cs 4).length := by rw [numL_len]; omega
  rw [itAt_get _ _ hlt]
  exact numL_atoms (atoms_of hc) 4 (by omega) _ (List.getElem_mem hlt)
theorem valid_orb {n : Nat} {cs : List Int} {M : List (List Int)} (hn : n ≤ 4) (hv : Valid n cs M) : orbB n cs M = true := orb_normal hn hv.1 hv.2
theorem valid_mem {n : Nat} {cs : List Int} {M : List (List Int)} (hv : Valid n cs M) : ∀ p ∈ M, p ∈ allP n cs.length := fun p hp => by rw [hv.2] at hp; exact thoseL_sub p hp
theorem valid_fit {n : Nat} {cs : List Int} {M : List (List Int)} (hn : n ≤ 4) (hv : Valid n cs M) : M.length + sumR M ≤ 32768 := by
  have h3 := const_len hv.1
  exact normal_fit (k := (cs.length : Int)) (by omega) (by omega) hn hv.2
theorem ex_pat {n : Nat} {cs : List Int} {M : List (List Int)} (hn : n ≤ 4) (hv : Valid n cs M) {p : List Int} (hp : p ∈ M) : patL cs (exL (numL cs 4) p) = p := pat_exL (const_nodup hv.1) (const_len hv.1) hn (valid_mem hv p hp)
theorem has_there {n : Nat} {cs : List Int} {M : List (List Int)} {t : List Int} (ho : orbB n cs M = true) (ht : tupB t = true) : hasTB n cs M t = thereB M (patL cs t) := by unfold hasTB; rw [ho, ht]; simp
theorem ex_has {n : Nat} {cs : List Int} {M : List (List Int)} (hn : n ≤ 4) (hv : Valid n cs M) {p : List Int} (hp : p ∈ M) : hasTB n cs M (exL (numL cs 4) p) = true := by
  rw [has_there (valid_orb hn hv) (ex_tup hn hv.1 (valid_mem hv p hp)), ex_pat hn hv hp]
  exact there_mem.2 hp
end SetX
end Go.Proofs.YtnamlgacjhnpnaaGreat
end

section
namespace Go.Proofs.YtnamlgacjhnpnaaGreat
open Go.RowKit
set_option linter.unusedVariables false

def imsL (p : List (Int × Int)) (l : List Int) : List Int := l.map (imgL p)
def bksL (p : List (Int × Int)) (l : List Int) : List Int := l.map (backL p)
theorem imsL_len (p : List (Int × Int)) (l : List Int) : (imsL p l).length = l.length := by simp [imsL]
theorem bksL_len (p : List (Int × Int)) (l : List Int) : (bksL p l).length = l.length := by simp [bksL]
theorem imsL_next {p : List (Int × Int)} {l : List Int} {k : Nat} (h : k < l.length) : imsL p (l.take (k + 1)) = imsL p (l.take k) ++ [imgL p (itAt l k)] := by
  rw [itake_next h]; simp [imsL]
theorem itAt_map {f : Int → Int} {l : List Int} {i : Nat} (h : i < l.length) : itAt (l.map f) i = f (itAt l i) := by
  rw [itAt_get _ _ (by rw [List.length_map]; exact h), itAt_get _ _ h, List.getElem_map]
theorem Sim.map {cs t u : List Int} (h : Sim cs t u) {f g : Int → Int} (hg : ∀ a, g (f a) = a) : Sim (cs.map f) (t.map f) (u.map f) := by
  have hi : ∀ {a b : Int}, f a = f b ↔ a = b := fun {a b} => ⟨fun e => by rw [← hg a, ← hg b, e], fun e => by rw [e]⟩
  have hl := h.1
  refine ⟨by rw [List.length_map, List.length_map]; exact h.1, fun i j h1 h2 => ?_, fun i h1 c hc => ?_⟩
  · rw [List.length_map] at h1 h2
    rw [itAt_map h1, itAt_map h2, itAt_map (by omega), itAt_map (by omega), hi, hi]
    exact h.2.1 i j h1 h2
  · rw [List.length_map] at h1
    obtain ⟨d, hd, rfl⟩ := List.mem_map.1 hc
    rw [itAt_map h1, itAt_map (by omega), hi, hi]
    exact h.2.2 i h1 d hd
/-- The constants, the tuples, and the set. -/
def acC (p : List (Int × Int)) (l : List Int) : List Int := insAll [] (imsL p l)
def acT (p : List (Int × Int)) (l : List Int) (m : List (List Int)) : List (List Int) := (exsL l m).map (imsL p)
def acM (p : List (Int × Int)) (n : Nat) (l : List Int) (m : List (List Int)) : List (List Int) := thoseL n (acC p l).length (patsL (acC p l) (acT p l m))
def acG (p : List (Int × Int)) (l : List Int) (m : List (List Int)) (q : List Int) : Bool := thereB m (patL l (bksL p (exL (numL (acC p l) 4) q)))
theorem acT_len (p : List (Int × Int)) (l : List Int) (m : List (List Int)) : (acT p l m).length = m.length := by simp [acT, exsL]
theorem acT_at {p : List (Int × Int)} {l : List Int} {m : List (List Int)} {i : Nat} (h : i < m.length) : rwAt (acT p l m) i = imsL p (exL (numL l 4) (rwAt m i)) := by
  rw [rwAt_get _ _ (by rw [acT_len]; exact h), rwAt_get _ _ h]
  simp [acT, exsL]
theorem acT_next {p : List (Int × Int)} {l : List Int} {m : List (List Int)} {i : Nat} (h : i < m.length) : acT p l (m.take (i + 1)) = acT p l (m.take i) ++ [imsL p (exL (numL l 4) (rwAt m i))] := by
  rw [rw_take_next h]
  simp [acT, exsL]
theorem acC_mem {p : List (Int × Int)} {l : List Int} {a : Int} : a ∈ acC p l ↔ ∃ c ∈ l, imgL p c = a := by
  unfold acC imsL
  rw [mem_insAll]
  simp

theorem acC_const {p : List (Int × Int)} {l : List Int} (hp : IsP p) (h : constB l = true) : constB (acC p l) = true := by
  have h3 : ascB (acC p l) = true := ascB_of (asc_insAll [] _ List.Pairwise.nil)
  have h4 : atomsB (acC p l) = true := by
    unfold atomsB
    rw [List.all_eq_true]
    intro x hx
    obtain ⟨c, hc, rfl⟩ := acC_mem.1 hx
    have h5 := atoms_of h c hc
    unfold atomB at h5 ⊢
    have h6 := hp.atom (a := c) (by simpa using h5)
    simpa using h6
  have h5 : (acC p l).length ≤ 3 := by
    have h6 := length_insAll [] (imsL p l)
    rw [imsL_len] at h6
    have := const_len h
    unfold acC
    simp at h6
    omega
  unfold constB
  rw [h3, h4]
  simpa using h5
theorem acM_eq {p : List (Int × Int)} {n : Nat} {l : List Int} {m : List (List Int)} (hn : n ≤ 4) (hp : IsP p) (h : constB l = true) (hm : ∀ q ∈ m, q ∈ allP n l.length) : acM p n l m = (allP n (acC p l).length).filter (acG p l m) := by
  have hk3 := const_len h
  have hnd := const_nodup h
  have hc := acC_const hp h
  have hck := const_len hc
  have hcn := const_nodup hc
  unfold acM thoseL
  refine List.filter_congr fun q hq => ?_
  unfold acG
  obtain ⟨hql, _⟩ := (mem_allP (by omega)).1 hq
  rw [Bool.eq_iff_iff, there_mem, there_mem]
  have hmp : ∀ e : List Int, bksL p (imsL p e) = e := fun e => by
    unfold bksL imsL
    rw [List.map_map]
    exact (List.map_congr_left fun a _ => back_img hp a).trans (List.map_id' e)
  have hpm : ∀ e : List Int, imsL p (bksL p e) = e := fun e => by
    unfold bksL imsL
    rw [List.map_map]
    exact (List.map_congr_left fun a _ => img_back hp a).trans (List.map_id' e)
  have hx4 : (exL (numL (acC p l) 4) q).length = n := by rw [exL_len, hql]
  constructor
  · intro hx
    unfold patsL acT at hx
    rw [List.mem_map] at hx
    obtain ⟨t, ht, e⟩ := hx
    obtain ⟨u, hu, rfl⟩ := List.mem_map.1 ht
    unfold exsL at hu
    obtain ⟨s, hs, rfl⟩ := List.mem_map.1 hu
    have h1 : patL (acC p l) (exL (numL (acC p l) 4) q) = patL (acC p l) (imsL p (exL (numL l 4) s)) := by rw [pat_exL hcn hck hn hq, e]
    have h2 := (sim_of_pat h1).map (f := backL p) (g := imgL p) (img_back hp)
    have h3 : Sim l (bksL p (exL (numL (acC p l) 4) q)) (bksL p (imsL p (exL (numL l 4) s))) := h2.mono fun c hc' => List.mem_map.2 ⟨imgL p c, acC_mem.2 ⟨c, hc', rfl⟩, back_img hp c⟩
    rw [pat_of_sim h3, hmp, pat_exL hnd hk3 hn (hm s hs)]
    exact hs
  · intro hx
    unfold patsL acT
    rw [List.mem_map]
    have h1 : Sim l (exL (numL l 4) (patL l (bksL p (exL (numL (acC p l) 4) q)))) (bksL p (exL (numL (acC p l) 4) q)) := Sim.ex hnd hk3 (by rw [bksL_len, hx4]; exact hn)
    refine ⟨imsL p (exL (numL l 4) (patL l (bksL p (exL (numL (acC p l) 4) q)))), List.mem_map.2 ⟨_, List.mem_map.2 ⟨_, hx, rfl⟩, rfl⟩, ?_⟩
    have h2 := h1.map (f := imgL p) (g := backL p) (back_img hp)
    have h3 : Sim (acC p l) (imsL p (exL (numL l 4) (patL l (bksL p (exL (numL (acC p l) 4) q))))) (imsL p (bksL p (exL (numL (acC p l) 4) q))) := h2.mono fun c hc' => by
      obtain ⟨d, hd, rfl⟩ := acC_mem.1 hc'
      exact List.mem_map.2 ⟨d, hd, rfl⟩
    rw [hpm] at h3
    rw [pat_of_sim h3, pat_exL hcn hck hn hq]
def acOk (p : List (Int × Int)) (z : Int) (l : List Int) (m : List (List Int)) : Bool := permB p && orbB z l m
def acR (p : List (Int × Int)) (z : Int) (l : List Int) (m : List (List Int)) : List (List Int) := acM p z.toNat l m
end Go.Proofs.YtnamlgacjhnpnaaGreat
end

