/-
  Both of two tables: plain words and small laws for joinedSets of the program. An orbit set told by fewer constants: plain words, no program is walked here. Two valid orbit sets of one width, and a tuple, that the model draws: contracts. What an orbit set and its complement have: plain words. What a permutation makes of an orbit set: plain words, no program is walked here. joinedSets of the program: what is in one of two orbit sets, or in both, as contracts.
-/
import Derived.Test.YtnamlgacjhnpnaaKSetAlgebra20
import Derived.Test.YtnamlgacjhnpnaaKSetAlgebra18
import Derived.Test.YtnamlgacjhnpnaaKSetAlgebra24
import Derived.StillTailTactics
import Derived.Test.YtnamlgacjhnpnaaKSetAlgebra17
import Derived.Test.YtnamlgacjhnpnaaKSetAlgebra14
import Derived.Test.YtnamlgacjhnpnaaKSetAlgebra4
section
namespace Go.Proofs.Ytnamlgacjhnpnaa
open Go.RowKit Go.Sort
set_option linter.unusedVariables false

theorem insAll_all (acc xs ys : List Int) : insAll acc (xs ++ ys) = insAll (insAll acc xs) ys := by unfold insAll; rw [List.foldl_append]
theorem bothC_asc {l1 l2 : List Int} (h : AscP l1) : insAll [] [l1, l2].flatten = bothC l1 l2 := by
  unfold bothC
  rw [show [l1, l2].flatten = l1 ++ l2 by simp, insAll_all, insAll_asc h, unB_asc l2 l1 h]
theorem ascB_of {l : List Int} (h : AscP l) : ascB l = true := ascB_yes fun k h0 hk => by
  rw [itAt_get l (k - 1) (by omega), itAt_get l k hk]
  exact List.pairwise_iff_getElem.1 h (k - 1) k (by omega) hk (by omega)
theorem atoms_of {l : List Int} (h : constB l = true) : ∀ x ∈ l, atomB x = true := by
  intro x hx
  unfold constB at h
  simp only [Bool.and_eq_true] at h
  have h1 := h.2.1
  unfold atomsB at h1
  exact List.all_eq_true.1 h1 x hx
theorem bothC_const {l1 l2 : List Int} (h1 : constB l1 = true) (h2 : constB l2 = true) : constB (bothC l1 l2) = decide ((bothC l1 l2).length ≤ 3) := by
  have ha := const_asc h1
  have e : bothC l1 l2 = insAll l1 l2 := unB_asc l2 l1 ha
  have h3 : ascB (bothC l1 l2) = true := by rw [e]; exact ascB_of (asc_insAll l1 l2 ha)
  have h4 : atomsB (bothC l1 l2) = true := by
    unfold atomsB
    rw [List.all_eq_true]
    intro x hx
    rw [e, mem_insAll] at hx
    rcases hx with hx | hx
    · exact atoms_of h1 x hx
    · exact atoms_of h2 x hx
  unfold constB
  rw [h3, h4]
  simp
theorem cat2 {w : World} {A B : Option Addr} {a b : Nat} {x y : List Int} {T : TypeId} (hA : IntsAt w A x) (hB : IntsAt w B y) (ha : A = none → a = 0) (hb : B = none → b = 0) :
    CatAt (w.alloc (.cells #[.slice A x.length a, .slice B y.length b] T)) (some ⟨w.heap.size, 0, none⟩) [x, y] := by
  intro _
  have hbe : Below w.heap.size w (w.alloc (.cells #[.slice A x.length a, .slice B y.length b] T)) := (Below.refl _ _).alloc (Nat.le_refl _) _
  have hk := heap_alloc_new w (.cells #[.slice A x.length a, .slice B y.length b] T)
  refine ⟨w.heap.size, 0, rfl, by simp, fun i hi => ?_⟩
  rcases i with _ | _ | i
  · exact ⟨A, a, by rw [cell_of_row _ _ _ _ _ _ hk]; rfl, hA.below hbe, ha⟩
  · exact ⟨B, b, by rw [cell_of_row _ _ _ _ _ _ hk]; rfl, hB.below hbe, hb⟩
  · simp at hi; omega
theorem concat_two (A : Option Addr) (c : Nat) (a b : List Int) (w : World) (hA : CatAt w A [a, b]) (hs : a.length + b.length ≤ 1099511627776) : Calls Try.prog 98 #[.slice A 2 c] w (NewInts [a, b].flatten w) := concat_any A c [a, b] w hA (by simp) (by simp [sumR]; omega)
/-- Two pointers to tables that are new. -/
def TabRel2 (w0 : World) (f1 f2 : Nat → Bool) (s t : Value) (wx : World) : Prop := ∃ g h, s = .pointer (some ⟨g, 0, none⟩) ∧ t = .pointer (some ⟨h, 0, none⟩) ∧ TabAt wx g f1 ∧ TabAt wx h f2 ∧ g ≠ h ∧ w0.heap.size ≤ g ∧ w0.heap.size ≤ h ∧ Below w0.heap.size w0 wx
theorem tabRel2_of {w0 X : World} {z1 z2 f1 f2 : Nat → Bool} {g h : Nat} {L1 L2 : List Value} (h1 : TabAt X g z1) (h2 : TabAt X h z2) (e1 : tabL f1 = L1) (e2 : tabL f2 = L2) (hne : g ≠ h) (hg : w0.heap.size ≤ g) (hh : w0.heap.size ≤ h) (hb : Below w0.heap.size w0 X) :
    TabRel2 w0 f1 f2 (.pointer (some ⟨g, 0, none⟩)) (.pointer (some ⟨h, 0, none⟩)) ((X.setCells g 0 L1).setCells h 0 L2) := by
  subst e1; subst e2
  exact ⟨g, h, rfl, rfl, (tab_store h1 f1).cells_other hne _ 0, tab_store (h2.cells_other hne.symm _ 0) f2, hne, hg, hh, grow_cells (grow_cells hb hg _) hh _⟩
/-- The first table, when the numbers below one have been turned. -/
def botF (one : Bool) (f1 f2 : Nat → Bool) (k c : Nat) : Bool := if c < k then bothB one (f1 c) (f2 c) else f1 c
theorem botF_zero (one : Bool) (f1 f2 : Nat → Bool) (c : Nat) : f1 c = botF one f1 f2 0 c := by simp [botF]
theorem botF_at (one : Bool) (f1 f2 : Nat → Bool) (k : Nat) : botF one f1 f2 k k = f1 k := by simp [botF]
theorem botF_next (one : Bool) (f1 f2 : Nat → Bool) (k c : Nat) : (if c = k then bothB one (f1 k) (f2 k) else botF one f1 f2 k c) = botF one f1 f2 (k + 1) c := by
  unfold botF
  by_cases e : c = k
  · subst e; simp
  · rw [if_neg e]
    by_cases h : c < k
    · rw [if_pos h, if_pos (by omega)]
    · rw [if_neg h, if_neg (by omega)]
theorem botF_all (one : Bool) (f1 f2 : Nat → Bool) {c : Nat} (h : c < 4096) : botF one f1 f2 4096 c = bothB one (f1 c) (f2 c) := by simp [botF, h]
theorem ext_sub {n : Nat} {l : List Int} {m : List (List Int)} {cs : List Int} : ∀ p ∈ extL n l m cs, p ∈ allP n cs.length := fun p h => (List.mem_filter.1 h).1
end Go.Proofs.Ytnamlgacjhnpnaa
end

section
namespace Go.Proofs.Ytnamlgacjhnpnaa
open Go.RowKit
set_option linter.unusedVariables false

theorem lex_snoc : ∀ (p : List Int) (x y : Int), x < y → lexLt (p ++ [x]) (p ++ [y]) = true
  | [], x, y, h => by
    simp [lexLt, h]
    omega
  | a :: r, x, y, h => by
    have := lex_snoc r x y h
    simp [lexLt, this]
theorem lex_longer : ∀ (p q : List Int) (x y : Int), p.length = q.length → lexLt p q = true → lexLt (p ++ [x]) (q ++ [y]) = true
  | [], [], x, y, _, h => by simp [lexLt] at h
  | [], b :: s, x, y, hl, h => by simp at hl
  | a :: r, [], x, y, hl, h => by simp at hl
  | a :: r, b :: s, x, y, hl, h => by
    have hl' : r.length = s.length := by simpa using hl
    have ih := lex_longer r s x y hl'
    simp only [List.cons_append, lexLt] at h ⊢
    by_cases e : a = b
    · simp only [e, if_true] at h ⊢
      exact ih h
    · simpa [e] using h
theorem allP_lex {k : Int} (hk : 0 ≤ k) : ∀ w, (allP w k).Pairwise fun a b => lexLt a b = true
  | 0 => by simp [allP]
  | w + 1 => by
    rw [allP, List.pairwise_flatMap]
    refine ⟨fun p _ => ?_, ?_⟩
    · unfold extP
      rw [List.pairwise_map]
      exact List.pairwise_lt_range.imp fun h => lex_snoc p _ _ (by omega)
    · refine (allP_lex hk w).imp_of_mem fun {a b} ha hb h => ?_
      intro x hx y hy
      unfold extP at hx hy
      obtain ⟨i, _, rfl⟩ := List.mem_map.1 hx
      obtain ⟨j, _, rfl⟩ := List.mem_map.1 hy
      exact lex_longer a b _ _ (by rw [((mem_allP hk).1 ha).1, ((mem_allP hk).1 hb).1]) h
theorem orb_filter {n : Nat} {l : List Int} (hn : n ≤ 4) (hl : constB l = true) (f : List Int → Bool) : orbB n l ((allP n l.length).filter f) = true := by
  have hk : (0 : Int) ≤ (l.length : Int) := by omega
  unfold orbB
  rw [Bool.and_eq_true, Bool.and_eq_true]
  refine ⟨widB_iff.2 (by omega), hl, rowsOk_yes fun i hi => ?_⟩
  have hs : ((allP n l.length).filter f).Pairwise fun a b => lexLt a b = true := (allP_lex hk n).sublist List.filter_sublist
  have hm : rwAt ((allP n l.length).filter f) i ∈ allP n l.length := by
    rw [rwAt_get _ _ hi]
    exact (List.mem_filter.1 (List.getElem_mem hi)).1
  obtain ⟨h1, h2⟩ := (mem_allP hk).1 hm
  unfold rowOkB
  rw [h2, h1]
  by_cases h0 : i = 0
  · simp [h0]
  · have h3 := List.pairwise_iff_getElem.1 hs (i - 1) i (by omega) hi (by omega)
    rw [rwAt_get _ (i - 1) (by omega), rwAt_get _ i hi, h3]
    simp
/-- The constants but one. -/
def restL (cs : List Int) (c : Int) : List Int := cs.filter fun a => !(a == c)
theorem restL_sub (cs : List Int) (c : Int) : ∀ a ∈ restL cs c, a ∈ cs := fun a h => (List.mem_filter.1 h).1
theorem restL_len (cs : List Int) (c : Int) : (restL cs c).length ≤ cs.length := List.length_filter_le _ _
theorem restL_const {cs : List Int} (c : Int) (h : constB cs = true) : constB (restL cs c) = true := by
  have h1 := const_len h
  have h2 := restL_len cs c
  have h3 : AscP (restL cs c) := (const_asc h).sublist List.filter_sublist
  have h4 : atomsB (restL cs c) = true := by
    unfold atomsB
    rw [List.all_eq_true]
    exact fun x hx => atoms_of h x (restL_sub cs c x hx)
  unfold constB
  rw [ascB_of h3, h4]
  simp
  omega
/-- Told by them: the tuples that have such a pattern. -/
def fewM (n : Nat) (cs : List Int) (M : List (List Int)) (c : Int) : List (List Int) := thoseL n (restL cs c).length (patsL (restL cs c) (exsL cs M))
theorem tab_same {n : Nat} {k : Int} (hk : 0 ≤ k) (hk3 : k ≤ 3) (hn : n ≤ 4) {A B : List (List Int)} (hA : A = thoseL n k A) (hB : B = thoseL n k B) : eqTab (tabOf A) (tabOf B) = decide (A = B) := by
  have hsub : ∀ {X : List (List Int)}, X = thoseL n k X → ∀ p ∈ X, p ∈ allP n k := fun {X} h p hp => by rw [h] at hp; exact thoseL_sub p hp
  rw [Bool.eq_iff_iff, eqTab_iff, decide_eq_true_iff]
  constructor
  · intro h
    rw [hA, hB]
    unfold thoseL
    refine List.filter_congr fun p hp => ?_
    rw [← tabOf_has hk hk3 hn (hsub hA) hp, ← tabOf_has hk hk3 hn (hsub hB) hp]
    exact h _ (code_4096 hk hk3 hn hp)
  · rintro rfl i _
    rfl
theorem normal_filter (n : Nat) (k : Int) (f : List Int → Bool) : (allP n k).filter f = thoseL n k ((allP n k).filter f) := (thoseL_filter n k f).symm
theorem normal_ext (n : Nat) (l : List Int) (m : List (List Int)) (cs : List Int) : extL n l m cs = thoseL n cs.length (extL n l m cs) := normal_filter n cs.length _
theorem normal_few (n : Nat) (cs : List Int) (M : List (List Int)) (c : Int) : fewM n cs M c = thoseL n (restL cs c).length (fewM n cs M c) := normal_filter n (restL cs c).length _
/-- Whether a set is the same without a constant. -/
def keepB (n : Nat) (cs : List Int) (M : List (List Int)) (c : Int) : Bool := decide (extL n (restL cs c) (fewM n cs M c) cs = M)
theorem keep_tab {n : Nat} {cs : List Int} {M : List (List Int)} (c : Int) (hn : n ≤ 4) (hc : constB cs = true) (hM : M = thoseL n cs.length M) : eqTab (tabOf (extL n (restL cs c) (fewM n cs M c) cs)) (tabOf M) = keepB n cs M c :=
  tab_same (by omega) (by have := const_len hc; omega) hn (normal_ext _ _ _ _) hM
/-- One constant less, if it is not needed. -/
def redS (n : Nat) (s : List Int × List (List Int)) (c : Int) : List Int × List (List Int) := if keepB n s.1 s.2 c then (restL s.1 c, fewM n s.1 s.2 c) else s
def redF (n : Nat) (l : List Int) (m : List (List Int)) (k : Nat) : List Int × List (List Int) := (l.take k).foldl (redS n) (l, thoseL n l.length m)
theorem redF_next {n : Nat} {l : List Int} {m : List (List Int)} {k : Nat} (h : k < l.length) : redF n l m (k + 1) = redS n (redF n l m k) (itAt l k) := by
  unfold redF
  rw [itake_next h, List.foldl_append]
  rfl
theorem redF_zero (n : Nat) (l : List Int) (m : List (List Int)) : redF n l m 0 = (l, thoseL n l.length m) := rfl
/-- What stays so. -/
theorem redF_inv {n : Nat} {l : List Int} {m : List (List Int)} (hl : constB l = true) : ∀ k, k ≤ l.length → constB (redF n l m k).1 = true ∧ (redF n l m k).2 = thoseL n (redF n l m k).1.length (redF n l m k).2 ∧ ∀ j, k ≤ j → j < l.length → itAt l j ∈ (redF n l m k).1
  | 0, _ => ⟨hl, normal_filter n l.length _, fun j _ hj => by rw [itAt_get _ _ hj]; exact List.getElem_mem hj⟩
  | k + 1, hk => by
    obtain ⟨h1, h2, h3⟩ := redF_inv (m := m) hl k (by omega)
    rw [redF_next (by omega)]
    unfold redS
    by_cases hb : keepB n (redF n l m k).1 (redF n l m k).2 (itAt l k) = true
    · rw [if_pos hb]
      refine ⟨restL_const _ h1, normal_few _ _ _ _, fun j h4 h5 => ?_⟩
      refine List.mem_filter.2 ⟨h3 j (by omega) h5, ?_⟩
      have hnd := const_nodup hl
      have : itAt l j ≠ itAt l k := fun e => by have := nodup_inj hnd h5 (by omega) e; omega
      simpa using this
    · rw [if_neg hb]
      exact ⟨h1, h2, fun j h4 h5 => h3 j (by omega) h5⟩
def redC (n : Nat) (l : List Int) (m : List (List Int)) : List Int := (redF n l m l.length).1
def redM (n : Nat) (l : List Int) (m : List (List Int)) : List (List Int) := (redF n l m l.length).2
def redCz (z : Int) (l : List Int) (m : List (List Int)) : List Int := redC z.toNat l m
def redMz (z : Int) (l : List Int) (m : List (List Int)) : List (List Int) := redM z.toNat l m
theorem orb_normal {n : Nat} {l : List Int} {M : List (List Int)} (hn : n ≤ 4) (hl : constB l = true) (hM : M = thoseL n l.length M) : orbB n l M = true := by rw [hM]; exact orb_filter hn hl _
theorem normal_fit {n : Nat} {k : Int} (hk : 0 ≤ k) (hk3 : k ≤ 3) (hn : n ≤ 4) {M : List (List Int)} (hM : M = thoseL n k M) : M.length + sumR M ≤ 32768 := by rw [hM]; exact filter_fit hk hk3 hn _
end Go.Proofs.Ytnamlgacjhnpnaa
end

section
namespace Go.Proofs.Ytnamlgacjhnpnaa
open Go.RowKit Go.Sort
set_option linter.unusedVariables false

namespace DrawN
theorem drawn_const {cs : List Int} (h : cs.length ≤ 3) (ha : AscP cs) (hs : Small cs) : constB cs = true := by
  have h4 : atomsB cs = true := by
    unfold atomsB
    rw [List.all_eq_true]
    intro x hx
    have := hs x hx
    unfold atomB
    simp
    omega
  unfold constB
  rw [ascB_of ha, h4]
  simp
  omega
theorem small_tup {t : List Int} (h : t.length ≤ 4) (hs : Small t) : tupB t = true := by
  rw [tupB_is h]
  unfold atomsB
  rw [List.all_eq_true]
  intro x hx
  have := hs x hx
  unfold atomB
  simp
  omega
/-- A valid orbit set that is told by all its patterns in order. -/
def Valid (n : Nat) (cs : List Int) (M : List (List Int)) : Prop := constB cs = true ∧ M = thoseL n cs.length M
/-- Two valid orbit sets of one width. -/
def Sets (w : World) (e : Ending) (w' : World) : Prop :=
  ∃ (n : Nat) (cs1 cs2 : List Int) (M1 M2 : List (List Int)) (A1 B1 A2 B2 : Option Addr) (c1 d1 c2 d2 : Nat), e = .returned (.tuple #[.agg #[.int .i64 (n : Int), .slice A1 cs1.length c1, .slice B1 M1.length d1], .agg #[.int .i64 (n : Int), .slice A2 cs2.length c2, .slice B2 M2.length d2]]) ∧
    n ≤ 3 ∧ cs1.length ≤ 1 ∧ cs2.length ≤ 2 ∧ Valid n cs1 M1 ∧ Valid n cs2 M2 ∧
    OrbIx w' (.agg #[.int .i64 (n : Int), .slice A1 cs1.length c1, .slice B1 M1.length d1]) n cs1 M1 ∧ OrbIx w' (.agg #[.int .i64 (n : Int), .slice A2 cs2.length c2, .slice B2 M2.length d2]) n cs2 M2 ∧ Below w.heap.size w w' ∧ Small cs1 ∧ Small cs2
theorem bytes_more {w w' : World} {A : Option Addr} {n : Nat} (h : BytesIn w A n) (hb : Below w.heap.size w w') : BytesIn w' A n := by
  have h1 : BytesAt w' w.heap.size A n := BytesAt.keep h hb.block
  intro j hj
  obtain ⟨b, off, x, e, hlt, hx, hc⟩ := h1 j hj
  exact ⟨b, off, x, e, Nat.lt_of_lt_of_le hlt hb.size, hx, hc⟩
end DrawN

set_option maxRecDepth 100000 in
set_option maxHeartbeats 4000000 in
theorem drawSets_any (A : Option Addr) (n c : Nat) (w : World) (hA : BytesIn w A n) (hn : n ≤ 1048576) :
    Calls Try.prog 14 #[.slice A n c] w (DrawN.Sets w) := by
  have hb0 : Below w.heap.size w ((w.alloc (.cells #[.int .i64 0, .slice none 0 0, .slice none 0 0] 32)).alloc (.cells #[.int .i64 0, .slice none 0 0, .slice none 0 0] 32)) := ((Below.refl _ _).alloc (Nat.le_refl _) _).alloc (by simp) _
  have k0 : ((w.alloc (.cells #[.int .i64 0, .slice none 0 0, .slice none 0 0] 32)).alloc (.cells #[.int .i64 0, .slice none 0 0, .slice none 0 0] 32)).heap[w.heap.size]? = some (.cells #[.int .i64 0, .slice none 0 0, .slice none 0 0] 32 (0, 0)) := (Below.heap_alloc _ _ _ (by simp)).trans (heap_alloc_new w _)
  have k1 : ((w.alloc (.cells #[.int .i64 0, .slice none 0 0, .slice none 0 0] 32)).alloc (.cells #[.int .i64 0, .slice none 0 0, .slice none 0 0] 32)).heap[w.heap.size + 1]? = some (.cells #[.int .i64 0, .slice none 0 0, .slice none 0 0] 32 (0, 0)) := by
    have h := heap_alloc_new (w.alloc (.cells #[.int .i64 0, .slice none 0 0, .slice none 0 0] 32)) (.cells #[.int .i64 0, .slice none 0 0, .slice none 0 0] 32)
    rw [World.size_alloc] at h
    exact h
  have hz0 : ((w.alloc (.cells #[.int .i64 0, .slice none 0 0, .slice none 0 0] 32)).alloc (.cells #[.int .i64 0, .slice none 0 0, .slice none 0 0] 32)).heap.size = w.heap.size + 2 := by simp
  have hnew := l1New_any A n c _ (DrawN.bytes_more hA hb0) hn
  have HB0 := Lib.hid hb0
  have HK0 := Lib.hid k0
  have HK1 := Lib.hid k1
  have HZ0 := Lib.hid hz0
  clear hA hb0 k0 k1 hz0
  go_enter Try.func14, Try.ntmps14
  go_wp2_with fail
  refine hnew.mono ?_
  rintro e w1 ⟨C, rfl, hc1, hb1⟩
  have hBC := DrawN.cur_base hc1
  rw [HZ0.out] at hc1 hBC
  have hC1 := hc1.lt
  have hbz1 := HB0.out.trans (hb1.mono HB0.out.size)
  have K1 := Lib.hid ((hb1.block _ (OrbK.box_lt HK0.out)).trans HK0.out)
  have J1 := Lib.hid ((hb1.block _ (OrbK.box_lt HK1.out)).trans HK1.out)
  have hbl := l1Below_int (w.heap.size + 2) C 4 w1 hc1 (by omega) (by omega)
  clear hnew hb1 HB0 HK0 HK1 HZ0 hc1
  go_wp2_with fail
  refine hbl.mono ?_
  rintro e w2 ⟨x, hx, rfl, hd2⟩
  have hC2 := hd2.1.lt
  have hdr1 := l6Draw_any (w.heap.size + 2) C x (by omega) 1 (by omega) w2 hd2.1
  clear hbl
  go_wp2_with fail
  refine hdr1.mono ?_
  rintro e w3 ⟨cs1, M1, A1, c1, B1, d1, S1, rfl, hl1, ha1, hm1, hn1, hL1, hS1, hd3⟩
  have hC3 := hd3.1.lt
  have hdr2 := l6Draw_any (w.heap.size + 2) C x (by omega) 2 (by omega) w3 hd3.1
  clear hdr1
  have HL1 := Lib.hid hL1
  have HA1 := Lib.hid ha1
  have HM1 := Lib.hid hm1
  have HN1 := Lib.hid hn1
  clear hL1 ha1 hm1 hn1
  go_wp2_with fail
  refine hdr2.mono ?_
  rintro e w4 ⟨cs2, M2, A2, c2, B2, d2, S2, rfl, hl2, ha2, hm2, hn2, hL2, hS2, hd4⟩
  have hD := (hd2.trans hd3).trans hd4
  have on := DrawN.drew_only hD
  have K4 := (on.block _ (OrbK.box_lt K1.out) (by simp; omega)).trans K1.out
  have J4 := (on.block _ (OrbK.box_lt J1.out) (by simp; omega)).trans J1.out
  have hb4 : Below w.heap.size w w4 := hbz1.grown hD.2 hbz1.size (fun k hk => by injection hk with hk; omega)
  have on4 := DrawN.drew_only hd4
  have hs12 := hd2.2.size
  have hs23 := hd3.2.size
  have hlk := OrbK.box_lt K1.out
  have hlj := OrbK.box_lt J1.out
  have hL1b := HL1.out.alike (w' := w4) fun b hb => on4.block b (HL1.out.lt b hb) (by have := hS1 b hb; simp; omega)
  have onF : Only [w.heap.size, w.heap.size + 1] w4 ((((((w4.setCell ⟨w.heap.size, 0, none⟩ (.int .i64 (x : Int))).setCell ⟨w.heap.size, 1, none⟩ (.slice A1 cs1.length c1)).setCell ⟨w.heap.size, 2, none⟩ (.slice B1 M1.length d1)).setCell ⟨w.heap.size + 1, 0, none⟩ (.int .i64 (x : Int))).setCell ⟨w.heap.size + 1, 1, none⟩ (.slice A2 cs2.length c2)).setCell ⟨w.heap.size + 1, 2, none⟩ (.slice B2 M2.length d2)) :=
    ((((((Only.refl _ _).set ⟨w.heap.size, 0, none⟩ _ (by simp)).set ⟨w.heap.size, 1, none⟩ _ (by simp)).set ⟨w.heap.size, 2, none⟩ _ (by simp)).set ⟨w.heap.size + 1, 0, none⟩ _ (by simp)).set ⟨w.heap.size + 1, 1, none⟩ _ (by simp)).set ⟨w.heap.size + 1, 2, none⟩ _ (by simp)
  have hbF := Only.below hb4 onF hb4.size (fun b hb => by simp at hb; omega)
  have o1 := orbOut_ix (hL1b.alike fun b hb => onF.block b (hL1b.lt b hb) (by have := hS1 b hb; simp; omega))
  have o2 := orbOut_ix (hL2.alike fun b hb => onF.block b (hL2.lt b hb) (by have := hS2 b hb; simp; omega))
  obtain ⟨s0, s1, s2⟩ := OrbK.row3 K4
  obtain ⟨r0, r1, r2⟩ := OrbK.row3 J4
  obtain ⟨y0, y1, y2⟩ := z3At K4
  obtain ⟨z0, z1, z2⟩ := z3At J4
  have hpost : Hid (DrawN.Sets w (.returned (.tuple #[.agg #[.int .i64 (x : Int), .slice A1 cs1.length c1, .slice B1 M1.length d1], .agg #[.int .i64 (x : Int), .slice A2 cs2.length c2, .slice B2 M2.length d2]])) ((((((w4.setCell ⟨w.heap.size, 0, none⟩ (.int .i64 (x : Int))).setCell ⟨w.heap.size, 1, none⟩ (.slice A1 cs1.length c1)).setCell ⟨w.heap.size, 2, none⟩ (.slice B1 M1.length d1)).setCell ⟨w.heap.size + 1, 0, none⟩ (.int .i64 (x : Int))).setCell ⟨w.heap.size + 1, 1, none⟩ (.slice A2 cs2.length c2)).setCell ⟨w.heap.size + 1, 2, none⟩ (.slice B2 M2.length d2))) :=
    Lib.hid ⟨x, cs1, cs2, M1, M2, A1, B1, A2, B2, c1, d1, c2, d2, rfl, by omega, hl1, hl2, ⟨DrawN.drawn_const (by omega) HA1.out HM1.out, HN1.out⟩, ⟨DrawN.drawn_const (by omega) ha2 hm2, hn2⟩, o1, o2, hbF, HM1.out, hm2⟩
  clear hdr2 hL2 ha2 hm2 hn2 hL1b onF hbF o1 o2 on on4 hD hd2 hd3 hd4 K4 J4 hb4 K1 J1 HL1 HA1 HM1 HN1 hbz1
  go_wp2
  exact bodyPost_ret (v := .tuple #[.agg #[.int .i64 (x : Int), .slice A1 cs1.length c1, .slice B1 M1.length d1], .agg #[.int .i64 (x : Int), .slice A2 cs2.length c2, .slice B2 M2.length d2]]) (by simp [results, Try.results14, go_sem, s0, s1, s2, r0, r1, r2]) rfl hpost.out
end Go.Proofs.Ytnamlgacjhnpnaa
end

section
namespace Go.Proofs.Ytnamlgacjhnpnaa
open Go.RowKit
set_option linter.unusedVariables false

namespace SetX
open DrawN
theorem leastF_atom {l : List Int} (h : l.length < 999) : atomB (leastF l) = true := by
  rcases leastF_cases l with ⟨_, hall⟩ | ⟨a, ha, e, _⟩
  · have := long_least hall
    omega
  · rw [e]
    unfold atomB
    simp
    omega
theorem numL_atoms {cs : List Int} (h : ∀ x ∈ cs, atomB x = true) : ∀ j, cs.length + j ≤ 900 → ∀ x ∈ numL cs j, atomB x = true
  | 0, _ => h
  | j + 1, hj => by
    intro x hx
    rw [numL, List.mem_append] at hx
    rcases hx with hx | hx
    · exact numL_atoms h j (by omega) x hx
    · simp only [List.mem_singleton] at hx
      rw [hx]
      exact leastF_atom (by rw [numL_len]; omega)
theorem ex_tup {n : Nat} {cs p : List Int} (hn : n ≤ 4) (hc : constB cs = true) (hp : p ∈ allP n cs.length) : tupB (exL (numL cs 4) p) = true := by
  obtain ⟨hl, hi⟩ := (mem_allP (by omega)).1 hp
  have h3 := const_len hc
  rw [tupB_is (by rw [exL_len]; omega)]
  unfold atomsB
  rw [List.all_eq_true]
  intro x hx
  unfold exL at hx
  obtain ⟨m, hm, rfl⟩ := List.mem_map.1 hx
  obtain ⟨i, hip, rfl⟩ := List.getElem_of_mem hm
  have h1 := isPat_at hi hip
  have h2 := newN_le (k := (cs.length : Int)) (p := p) (i := i) (by omega) (fun q hq => (isPat_at hi (by omega)).2)
  rw [itAt_get p i hip] at h1
  have hlt : (p[i]).toNat < (numL cs 4).length := by rw [numL_len]; omega
  rw [itAt_get _ _ hlt]
  exact numL_atoms (atoms_of hc) 4 (by omega) _ (List.getElem_mem hlt)
theorem valid_orb {n : Nat} {cs : List Int} {M : List (List Int)} (hn : n ≤ 4) (hv : Valid n cs M) : orbB n cs M = true := orb_normal hn hv.1 hv.2
theorem valid_fit {n : Nat} {cs : List Int} {M : List (List Int)} (hn : n ≤ 4) (hv : Valid n cs M) : M.length + sumR M ≤ 32768 := by
  have h3 := const_len hv.1
  exact normal_fit (k := (cs.length : Int)) (by omega) (by omega) hn hv.2
theorem cpl_is (n : Nat) (cs : List Int) (M : List (List Int)) : cplL n cs M = (allP n cs.length).filter fun p => !thereB M p := by
  unfold cplL
  rw [show ((n : Int).toNat) = n by omega]
theorem cpl_orb {n : Nat} {cs : List Int} (M : List (List Int)) (hn : n ≤ 4) (hc : constB cs = true) : orbB n cs (cplL n cs M) = true := by rw [cpl_is]; exact orb_filter hn hc _
theorem has_there {n : Nat} {cs : List Int} {M : List (List Int)} {t : List Int} (ho : orbB n cs M = true) (ht : tupB t = true) : hasTB n cs M t = thereB M (patL cs t) := by unfold hasTB; rw [ho, ht]; simp
theorem there_cpl {n : Nat} {cs : List Int} {M : List (List Int)} {q : List Int} (hq : q ∈ allP n cs.length) : thereB (cplL n cs M) q = !thereB M q := by
  rw [cpl_is, Bool.eq_iff_iff, there_mem, List.mem_filter]
  exact ⟨fun h => h.2, fun h => ⟨hq, h⟩⟩
theorem has_cpl {n : Nat} {cs : List Int} {M : List (List Int)} {t : List Int} (hn : n ≤ 4) (hv : Valid n cs M) (hl : t.length = n) (ht : tupB t = true) : hasTB n cs (cplL n cs M) t = !hasTB n cs M t := by
  rw [has_there (cpl_orb M hn hv.1) ht, has_there (valid_orb hn hv) ht, there_cpl (patL_mem hl)]
end SetX
end Go.Proofs.Ytnamlgacjhnpnaa
end

section
namespace Go.Proofs.Ytnamlgacjhnpnaa
open Go.RowKit
set_option linter.unusedVariables false

theorem itAt_map {f : Int → Int} {l : List Int} {i : Nat} (h : i < l.length) : itAt (l.map f) i = f (itAt l i) := by
  rw [itAt_get _ _ (by rw [List.length_map]; exact h), itAt_get _ _ h, List.getElem_map]
theorem Sim.map {cs t u : List Int} (h : Sim cs t u) {f g : Int → Int} (hg : ∀ a, g (f a) = a) : Sim (cs.map f) (t.map f) (u.map f) := by
  have hi : ∀ {a b : Int}, f a = f b ↔ a = b := fun {a b} => ⟨fun e => by rw [← hg a, ← hg b, e], fun e => by rw [e]⟩
  have hl := h.1
  refine ⟨by rw [List.length_map, List.length_map]; exact h.1, fun i j h1 h2 => ?_, fun i h1 c hc => ?_⟩
  · rw [List.length_map] at h1 h2
    rw [itAt_map h1, itAt_map h2, itAt_map (by omega), itAt_map (by omega), hi, hi]
    exact h.2.1 i j h1 h2
  · rw [List.length_map] at h1
    obtain ⟨d, hd, rfl⟩ := List.mem_map.1 hc
    rw [itAt_map h1, itAt_map (by omega), hi, hi]
    exact h.2.2 i h1 d hd
end Go.Proofs.Ytnamlgacjhnpnaa
end

section
namespace Go.Proofs.Ytnamlgacjhnpnaa
open Go.RowKit Go.Sort
set_option linter.unusedVariables false

set_option maxRecDepth 100000 in
set_option maxHeartbeats 8000000 in
theorem joinedOr_any (z1 : Int) (l1 : List Int) (m1 : List (List Int)) (hf1 : FitO l1 m1) (x1 : Value) (z2 : Int) (l2 : List Int) (m2 : List (List Int)) (hf2 : FitO l2 m2) (x2 : Value) (w : World) (hx1 : OrbIx w x1 z1 l1 m1) (hx2 : OrbIx w x2 z2 l2 m2) :
    Calls Try.prog 71 #[x1, x2, .func (.func 72) #[] #[]] w (OrbBOut (ozR (bothOk z1 l1 m1 z2 l2 m2) z1) (olR (bothOk z1 l1 m1 z2 l2 m2) (bothC l1 l2)) (omR (bothOk z1 l1 m1 z2 l2 m2) (bothM true z1 l1 m1 l2 m2)) (bothOk z1 l1 m1 z2 l2 m2) w) := by
  have HX1 := Lib.hid hx1
  have HX2 := Lib.hid hx2
  obtain ⟨A1, c1, B1, d1, rfl, hl1, hmr1, hm1⟩ := hx1
  obtain ⟨A2, c2, B2, d2, rfl, hl2, hmr2, hm2⟩ := hx2
  have hb0 : Below w.heap.size w (((w.alloc (.cells #[.int .i64 z1, .slice A1 l1.length c1, .slice B1 m1.length d1] 32)).alloc (.cells #[.int .i64 z2, .slice A2 l2.length c2, .slice B2 m2.length d2] 32)).alloc (.cells #[.int .i64 0, .slice none 0 0, .slice none 0 0] 32)) := (((Below.refl _ _).alloc (Nat.le_refl _) _).alloc (by simp) _).alloc (by simp; omega) _
  have k0 : (((w.alloc (.cells #[.int .i64 z1, .slice A1 l1.length c1, .slice B1 m1.length d1] 32)).alloc (.cells #[.int .i64 z2, .slice A2 l2.length c2, .slice B2 m2.length d2] 32)).alloc (.cells #[.int .i64 0, .slice none 0 0, .slice none 0 0] 32)).heap[w.heap.size]? = some (.cells #[.int .i64 z1, .slice A1 l1.length c1, .slice B1 m1.length d1] 32 (0, 0)) := (Below.heap_alloc _ _ _ (by simp; omega)).trans ((Below.heap_alloc _ _ _ (by simp)).trans (heap_alloc_new w _))
  have k1 : (((w.alloc (.cells #[.int .i64 z1, .slice A1 l1.length c1, .slice B1 m1.length d1] 32)).alloc (.cells #[.int .i64 z2, .slice A2 l2.length c2, .slice B2 m2.length d2] 32)).alloc (.cells #[.int .i64 0, .slice none 0 0, .slice none 0 0] 32)).heap[w.heap.size + 1]? = some (.cells #[.int .i64 z2, .slice A2 l2.length c2, .slice B2 m2.length d2] 32 (0, 0)) := by
    have h := heap_alloc_new (w.alloc (.cells #[.int .i64 z1, .slice A1 l1.length c1, .slice B1 m1.length d1] 32)) (.cells #[.int .i64 z2, .slice A2 l2.length c2, .slice B2 m2.length d2] 32)
    rw [World.size_alloc] at h
    exact (Below.heap_alloc _ _ _ (by simp)).trans h
  have k2 : (((w.alloc (.cells #[.int .i64 z1, .slice A1 l1.length c1, .slice B1 m1.length d1] 32)).alloc (.cells #[.int .i64 z2, .slice A2 l2.length c2, .slice B2 m2.length d2] 32)).alloc (.cells #[.int .i64 0, .slice none 0 0, .slice none 0 0] 32)).heap[w.heap.size + 1 + 1]? = some (.cells #[.int .i64 0, .slice none 0 0, .slice none 0 0] 32 (0, 0)) := by
    have h := heap_alloc_new ((w.alloc (.cells #[.int .i64 z1, .slice A1 l1.length c1, .slice B1 m1.length d1] 32)).alloc (.cells #[.int .i64 z2, .slice A2 l2.length c2, .slice B2 m2.length d2] 32)) (.cells #[.int .i64 0, .slice none 0 0, .slice none 0 0] 32)
    rw [World.size_alloc, World.size_alloc] at h
    exact h
  obtain ⟨b0, b1, b2⟩ := OrbK.row3 k0
  obtain ⟨n0, n1, n2⟩ := OrbK.row3 k1
  have hio1 := isOrbitSet_impl z1 l1 m1 hf1 _ _ (HX1.out.below hb0)
  have hIO2 := fun W (h : Below w.heap.size w W) => isOrbitSet_impl z2 l2 m2 hf2 _ W (HX2.out.below h)
  have HB0 := Lib.hid hb0
  have HK0 := Lib.hid k0
  have HK1 := Lib.hid k1
  have HK2 := Lib.hid k2
  have HL1 := Lib.hid hl1
  have HL2 := Lib.hid hl2
  have HM1 := Lib.hid hmr1
  have HM2 := Lib.hid hmr2
  clear hl1 hmr1 hm1 hl2 hmr2 hm2 k0 k1 k2 hb0
  cases ho1 : orbB z1 l1 m1 with
  | false =>
    have hkk : bothOk z1 l1 m1 z2 l2 m2 = false := by simp [bothOk, ho1]
    rw [ho1] at hio1
    clear ho1
    go_enter Try.func71, Try.ntmps71
    go_wp2_with (first
      | (go_at_call 25; (with_reducible refine hio1.mono ?_); rintro e w3 ⟨rfl, hb3⟩; have r2 := (hb3.block _ (OrbK.box_lt HK2.out)).trans HK2.out; obtain ⟨x0, x1, x2⟩ := OrbK.row3 r2; obtain ⟨y0, y1, y2⟩ := z3At r2))
    have hbz := HB0.out.trans (hb3.mono HB0.out.size)
    have hpost := orbB_zero (((hbz.setCell (p := ⟨w.heap.size + 1 + 1, 0, none⟩) (show w.heap.size ≤ w.heap.size + 1 + 1 by omega) (.int .i64 0)).setCell (p := ⟨w.heap.size + 1 + 1, 1, none⟩) (show w.heap.size ≤ w.heap.size + 1 + 1 by omega) (.slice none 0 0)).setCell (p := ⟨w.heap.size + 1 + 1, 2, none⟩) (show w.heap.size ≤ w.heap.size + 1 + 1 by omega) (.slice none 0 0))
    clear hio1 hb3 b0 b1 b2 n0 n1 n2 hbz hIO2 r2
    go_wp2
    exact bodyPost_ret (v := .tuple #[.agg #[.int .i64 0, .slice none 0 0, .slice none 0 0], .bool false]) (by simp [results, Try.results71, go_sem, x0, x1, x2]) rfl (by rw [hkk]; exact hpost)
  | true =>
    rw [ho1] at hio1
    cases ho2 : orbB z2 l2 m2 with
    | false =>
      have hkk : bothOk z1 l1 m1 z2 l2 m2 = false := by simp [bothOk, ho2]
      simp only [ho2] at hIO2
      clear ho1 ho2
      go_enter Try.func71, Try.ntmps71
      go_wp2_with (first
        | (go_at_call 25; (with_reducible refine hio1.mono ?_); rintro e w3 ⟨rfl, hb3⟩; have hbz3 := HB0.out.trans (hb3.mono HB0.out.size); have J3 := (hb3.block _ (OrbK.box_lt HK1.out)).trans HK1.out; have K3 := (hb3.block _ (OrbK.box_lt HK0.out)).trans HK0.out; clear b0 b1 b2 n0 n1 n2; obtain ⟨n0, n1, n2⟩ := OrbK.row3 J3; obtain ⟨b0, b1, b2⟩ := OrbK.row3 K3; have hio2 := hIO2 w3 hbz3)
        | (go_at_call 25; (with_reducible refine hio2.mono ?_); rintro e w4 ⟨rfl, hb4⟩; have hb34 := hb3.trans (hb4.mono hb3.size); have hbz4 := hbz3.trans (hb4.mono hbz3.size); have K4 := (hb4.block _ (OrbK.box_lt K3)).trans K3; have J4 := (hb4.block _ (OrbK.box_lt J3)).trans J3; clear b0 b1 b2 n0 n1 n2; obtain ⟨b0, b1, b2⟩ := OrbK.row3 K4; obtain ⟨n0, n1, n2⟩ := OrbK.row3 J4; have r2 := (hb34.block _ (OrbK.box_lt HK2.out)).trans HK2.out; obtain ⟨x0, x1, x2⟩ := OrbK.row3 r2; obtain ⟨y0, y1, y2⟩ := z3At r2))
      have hbz := hbz4
      have hpost := orbB_zero (((hbz.setCell (p := ⟨w.heap.size + 1 + 1, 0, none⟩) (show w.heap.size ≤ w.heap.size + 1 + 1 by omega) (.int .i64 0)).setCell (p := ⟨w.heap.size + 1 + 1, 1, none⟩) (show w.heap.size ≤ w.heap.size + 1 + 1 by omega) (.slice none 0 0)).setCell (p := ⟨w.heap.size + 1 + 1, 2, none⟩) (show w.heap.size ≤ w.heap.size + 1 + 1 by omega) (.slice none 0 0))
      clear hio1 hio2 hb3 hb4 hb34 b0 b1 b2 n0 n1 n2 hbz3 hbz hIO2 r2 J3 K3 J4 K4
      go_wp2
      exact bodyPost_ret (v := .tuple #[.agg #[.int .i64 0, .slice none 0 0, .slice none 0 0], .bool false]) (by simp [results, Try.results71, go_sem, x0, x1, x2]) rfl (by rw [hkk]; exact hpost)
    | true =>
      simp only [ho2] at hIO2
      by_cases hz : z1 = z2
      · subst hz
        have HCC : Hid (insAll [] [l1, l2].flatten = bothC l1 l2) := Lib.hid (bothC_asc (const_asc (orb_const ho1)))
        have hcc := bothC_const (orb_const ho1) (orb_const ho2)
        cases hcb : constB (bothC l1 l2) with
        | false =>
          have hkk : bothOk z1 l1 m1 z1 l2 m2 = false := by simp [bothOk, hcb]
          have hbig : (3 : Int) < ((bothC l1 l2).length : Int) := by rw [hcb] at hcc; have := of_decide_eq_false hcc.symm; omega
          clear ho1 ho2 hcb hcc
          generalize bothC l1 l2 = U at *
          go_enter Try.func71, Try.ntmps71
          go_wp2_with (first
            | (go_at_call 25; (with_reducible refine hio1.mono ?_); rintro e w3 ⟨rfl, hb3⟩; have hbz3 := HB0.out.trans (hb3.mono HB0.out.size); have J3 := (hb3.block _ (OrbK.box_lt HK1.out)).trans HK1.out; have K3 := (hb3.block _ (OrbK.box_lt HK0.out)).trans HK0.out; clear b0 b1 b2 n0 n1 n2; obtain ⟨n0, n1, n2⟩ := OrbK.row3 J3; obtain ⟨b0, b1, b2⟩ := OrbK.row3 K3; have hio2 := hIO2 w3 hbz3)
            | (go_at_call 25; (with_reducible refine hio2.mono ?_); rintro e w4 ⟨rfl, hb4⟩; have hb34 := hb3.trans (hb4.mono hb3.size); have hbz4 := hbz3.trans (hb4.mono hbz3.size); have K4 := (hb4.block _ (OrbK.box_lt K3)).trans K3; have J4 := (hb4.block _ (OrbK.box_lt J3)).trans J3; clear b0 b1 b2 n0 n1 n2; obtain ⟨b0, b1, b2⟩ := OrbK.row3 K4; obtain ⟨n0, n1, n2⟩ := OrbK.row3 J4; have hcon := concat_two (some ⟨w4.heap.size, 0, none⟩) 2 l1 l2 (w4.alloc (.cells #[.slice A1 l1.length c1, .slice A2 l2.length c2] 24)) (cat2 (HL1.out.1.below hbz4) (HL2.out.1.below hbz4) HL1.out.2 HL2.out.2) (by have h1 := hf1.1; have h2 := hf2.1; omega); have hb44 : Below w4.heap.size w4 (w4.alloc (.cells #[.slice A1 l1.length c1, .slice A2 l2.length c2] 24)) := (Below.refl _ _).alloc (Nat.le_refl _) _)
            | (go_at_call 98; (with_reducible refine hcon.mono ?_); rintro e w5 ⟨v5, rfl, ho5, hb5⟩; have hb45 := hb44.trans (hb5.mono hb44.size); have hasq := ascending_rows w4.heap.size v5 [l1, l2].flatten w5 (own_le ho5 hb44.size) hb45.size (by have h1 := hf1.1; have h2 := hf2.1; simp; omega))
            | (go_at_call 97; (with_reducible refine hasq.mono ?_); rintro e w6 ⟨v6, rfl, ho6, hb6⟩; rw [HCC.out] at ho6; obtain ⟨AU, cU, rfl, hAU⟩ := own_intsAt ho6; have hb46 := hb45.trans hb6; have hbz6 := hbz4.trans (hb46.mono hbz4.size); have hb36 := hb34.trans (hb46.mono hb34.size); have r2 := (hb36.block _ (OrbK.box_lt HK2.out)).trans HK2.out; obtain ⟨x0, x1, x2⟩ := OrbK.row3 r2; obtain ⟨y0, y1, y2⟩ := z3At r2))
          have hbz := hbz6
          have hpost := orbB_zero (((hbz.setCell (p := ⟨w.heap.size + 1 + 1, 0, none⟩) (show w.heap.size ≤ w.heap.size + 1 + 1 by omega) (.int .i64 0)).setCell (p := ⟨w.heap.size + 1 + 1, 1, none⟩) (show w.heap.size ≤ w.heap.size + 1 + 1 by omega) (.slice none 0 0)).setCell (p := ⟨w.heap.size + 1 + 1, 2, none⟩) (show w.heap.size ≤ w.heap.size + 1 + 1 by omega) (.slice none 0 0))
          clear hio1 hio2 hcon hasq hb3 hb4 hb34 hb44 hb5 hb45 hb6 hb46 hb36 b0 b1 b2 n0 n1 n2 hbz3 hbz4 hbz hIO2 r2 J3 K3 J4 K4 ho5 ho6 hAU
          go_wp2
          exact bodyPost_ret (v := .tuple #[.agg #[.int .i64 0, .slice none 0 0, .slice none 0 0], .bool false]) (by simp [results, Try.results71, go_sem, x0, x1, x2]) rfl (by rw [hkk]; exact hpost)
        | true =>
          have hkk : bothOk z1 l1 m1 z1 l2 m2 = true := by simp [bothOk, ho1, ho2, hcb]
          have hc3 := const_len hcb
          have hnb : ¬ (3 : Int) < ((bothC l1 l2).length : Int) := by omega
          obtain ⟨hwz, _⟩ := orb_rows ho1
          have hz4 := widB_iff.1 hwz
          have hk1 := const_len (orb_const ho1)
          have hk2 := const_len (orb_const ho2)
          obtain ⟨n, rfl⟩ : ∃ n : Nat, z1 = n := ⟨z1.toNat, by omega⟩
          have hn4 : n ≤ 4 := by omega
          have hmm1 := orb_mem ho1
          have hmm2 := orb_mem ho2
          have HPO : Hid (patsOf n (bothF true (extL n l1 m1 (bothC l1 l2)) (extL n l2 m2 (bothC l1 l2))) = bothM true n l1 m1 l2 m2) := Lib.hid (by
            unfold bothM
            rw [show ((n : Int).toNat) = n by omega]
            exact both_pats (by omega) (by omega) hn4 ext_sub ext_sub)
          have hex1 := fun (W : World) (h : Below w.heap.size w W) A' c' (hC : IntsAt W A' (bothC l1 l2)) => extendedCodes_any n hn4 l1 hk1 m1 (by have := hf1.2.1; omega) (bothC l1 l2) hc3 hmm1 A1 B1 A' c1 d1 c' W (HL1.out.1.below h) (HM1.out.below h) hC
          have hex2 := fun (W : World) (h : Below w.heap.size w W) A' c' (hC : IntsAt W A' (bothC l1 l2)) => extendedCodes_any n hn4 l2 hk2 m2 (by have := hf2.2.1; omega) (bothC l1 l2) hc3 hmm2 A2 B2 A' c2 d2 c' W (HL2.out.1.below h) (HM2.out.below h) hC
          have hso := fun (W : World) A' c' (hC : IntsAt W A' (bothC l1 l2)) => setOfCodes_any (bothF true (extL n l1 m1 (bothC l1 l2)) (extL n l2 m2 (bothC l1 l2))) n hn4 (bothC l1 l2) (by omega) A' c' W hC
          rw [HPO.out] at hso
          have HTB : Hid (∀ c, c < 4096 → botF true (tabOf (extL n l1 m1 (bothC l1 l2))) (tabOf (extL n l2 m2 (bothC l1 l2))) 4096 c = bothF true (extL n l1 m1 (bothC l1 l2)) (extL n l2 m2 (bothC l1 l2)) c) := Lib.hid (fun c hc => botF_all _ _ _ hc)
          unfold TabP at hex1 hex2
          rw [tabV_L] at hex1 hex2
          have hi1 : (Try.prog.info? 59).map (·.size) = some (tabL (tabOf (extL n l1 m1 (bothC l1 l2)))).length := by rw [tabL_len]; exact tab_info
          have hi2 : (Try.prog.info? 59).map (·.size) = some (tabL (tabOf (extL n l2 m2 (bothC l1 l2)))).length := by rw [tabL_len]; exact tab_info
          have hone1 := tabL_one (tabOf (extL n l1 m1 (bothC l1 l2)))
          have hone2 := tabL_one (tabOf (extL n l2 m2 (bothC l1 l2)))
          have HL1q := Lib.hid (tabL_len (tabOf (extL n l1 m1 (bothC l1 l2))))
          have HL2q := Lib.hid (tabL_len (tabOf (extL n l2 m2 (bothC l1 l2))))
          have HKK := Lib.hid hkk
          clear ho1 ho2 hcb hcc hwz hz4 hk1 hk2 hkk hmm1 hmm2
          generalize hg1 : tabOf (extL n l1 m1 (bothC l1 l2)) = f1 at *
          generalize hg2 : tabOf (extL n l2 m2 (bothC l1 l2)) = f2 at *
          generalize bothF true (extL n l1 m1 (bothC l1 l2)) (extL n l2 m2 (bothC l1 l2)) = f3 at *
          generalize bothM true n l1 m1 l2 m2 = R at *
          clear hg1 hg2
          generalize hE1 : tabL f1 = L1 at *
          generalize hE2 : tabL f2 = L2 at *
          have HE1 := Lib.hid hE1
          have HE2 := Lib.hid hE2
          clear hE1 hE2
          generalize bothC l1 l2 = U at *
          have hu := Try.underlying59
          go_enter Try.func71, Try.ntmps71
          go_wp2_with (first
            | (go_at_call 25; (with_reducible refine hio1.mono ?_); rintro e w3 ⟨rfl, hb3⟩; have hbz3 := HB0.out.trans (hb3.mono HB0.out.size); have J3 := (hb3.block _ (OrbK.box_lt HK1.out)).trans HK1.out; have K3 := (hb3.block _ (OrbK.box_lt HK0.out)).trans HK0.out; clear b0 b1 b2 n0 n1 n2; obtain ⟨n0, n1, n2⟩ := OrbK.row3 J3; obtain ⟨b0, b1, b2⟩ := OrbK.row3 K3; have hio2 := hIO2 w3 hbz3)
            | (go_at_call 25; (with_reducible refine hio2.mono ?_); rintro e w4 ⟨rfl, hb4⟩; have hb34 := hb3.trans (hb4.mono hb3.size); have hbz4 := hbz3.trans (hb4.mono hbz3.size); have K4 := (hb4.block _ (OrbK.box_lt K3)).trans K3; have J4 := (hb4.block _ (OrbK.box_lt J3)).trans J3; clear b0 b1 b2 n0 n1 n2; obtain ⟨b0, b1, b2⟩ := OrbK.row3 K4; obtain ⟨n0, n1, n2⟩ := OrbK.row3 J4; have hcon := concat_two (some ⟨w4.heap.size, 0, none⟩) 2 l1 l2 (w4.alloc (.cells #[.slice A1 l1.length c1, .slice A2 l2.length c2] 24)) (cat2 (HL1.out.1.below hbz4) (HL2.out.1.below hbz4) HL1.out.2 HL2.out.2) (by have h1 := hf1.1; have h2 := hf2.1; omega); have hb44 : Below w4.heap.size w4 (w4.alloc (.cells #[.slice A1 l1.length c1, .slice A2 l2.length c2] 24)) := (Below.refl _ _).alloc (Nat.le_refl _) _)
            | (go_at_call 98; (with_reducible refine hcon.mono ?_); rintro e w5 ⟨v5, rfl, ho5, hb5⟩; have hb45 := hb44.trans (hb5.mono hb44.size); have hasq := ascending_rows w4.heap.size v5 [l1, l2].flatten w5 (own_le ho5 hb44.size) hb45.size (by have h1 := hf1.1; have h2 := hf2.1; simp; omega))
            | (go_at_call 97; (with_reducible refine hasq.mono ?_); rintro e w6 ⟨v6, rfl, ho6, hb6⟩; rw [HCC.out] at ho6; obtain ⟨AU, cU, rfl, hAU⟩ := own_intsAt ho6; have hb46 := hb45.trans hb6; have hbz6 := hbz4.trans (hb46.mono hbz4.size); skip))
          have K6 := Lib.hid ((hb46.block _ (OrbK.box_lt K4)).trans K4)
          have J6 := Lib.hid ((hb46.block _ (OrbK.box_lt J4)).trans J4)
          have hb36 := hb34.trans (hb46.mono hb34.size)
          have R6 := Lib.hid ((hb36.block _ (OrbK.box_lt HK2.out)).trans HK2.out)
          have HAU := Lib.hid hAU
          have HBZ6 := Lib.hid hbz6
          clear b0 b1 b2 n0 n1 n2 hio1 hio2 hcon hasq hb3 hb4 hb34 hb44 hb5 hb45 hb6 hb46 hb36 hbz3 hbz4 J3 K3 J4 K4 ho5 ho6 hAU hIO2 HB0 HK0 HK1 HK2 HCC
          obtain ⟨b0, b1, b2⟩ := OrbK.row3 K6.out
          obtain ⟨n0, n1, n2⟩ := OrbK.row3 J6.out
          have hltk := OrbK.box_lt K6.out
          have hltj := OrbK.box_lt J6.out
          have HS : Hid (∀ W : World, Below w6.heap.size w6 W → (W.cell? ⟨w.heap.size, 0, none⟩ = some (.int .i64 (n : Int)) ∧ W.cell? ⟨w.heap.size, 1, none⟩ = some (.slice A1 l1.length c1) ∧ W.cell? ⟨w.heap.size, 2, none⟩ = some (.slice B1 m1.length d1)) ∧ W.cell? ⟨w.heap.size + 1, 0, none⟩ = some (.int .i64 (n : Int)) ∧ W.cell? ⟨w.heap.size + 1, 1, none⟩ = some (.slice A2 l2.length c2) ∧ W.cell? ⟨w.heap.size + 1, 2, none⟩ = some (.slice B2 m2.length d2)) :=
            Lib.hid (fun W h => ⟨⟨(h.cell (p := ⟨w.heap.size, 0, none⟩) hltk).trans b0, (h.cell (p := ⟨w.heap.size, 1, none⟩) hltk).trans b1, (h.cell (p := ⟨w.heap.size, 2, none⟩) hltk).trans b2⟩, (h.cell (p := ⟨w.heap.size + 1, 0, none⟩) hltj).trans n0, (h.cell (p := ⟨w.heap.size + 1, 1, none⟩) hltj).trans n1, (h.cell (p := ⟨w.heap.size + 1, 2, none⟩) hltj).trans n2⟩)
          clear b0 b1 b2 n0 n1 n2 hltk hltj
          have hec1 := fun (W : World) (h : Below w6.heap.size w6 W) => hex1 W (HBZ6.out.trans (h.mono HBZ6.out.size)) AU cU (HAU.out.below h)
          have hec2 := fun (W : World) (h : Below w6.heap.size w6 W) => hex2 W (HBZ6.out.trans (h.mono HBZ6.out.size)) AU cU (HAU.out.below h)
          clear hex1 hex2 hbz6
          try go_wp2_with fail
          go_cut [9, 10] (fun s t wx => TabRel2 w6 f1 f2 s t wx)
          case first =>
            have hz0 : Below w6.heap.size w6 w6.drew := grow_drew (Below.refl _ _)
            have hz1 : Below w6.heap.size w6 (w6.alloc (.cells Try.zeroCells59 59)).drew := grow_drew (grow_alloc (Below.refl _ _) _)
            have hz2 : Below w6.heap.size w6 ((w6.alloc (.cells Try.zeroCells59 59)).alloc (.cells Try.zeroCells59 59)).drew := grow_drew (grow_alloc (grow_alloc (Below.refl _ _) _) _)
            have hc10 := hec1 _ hz0
            have hc11 := hec1 _ hz1
            have hc12 := hec1 _ hz2
            have tz1 := (tab_new w6).drew
            have ty1 := ((tab_new w6).alloc (.cells Try.zeroCells59 59)).drew
            have ty2 := (tab_next w6).drew
            go_region_held3 (fun w' => (w'.cell? ⟨w.heap.size, 0, none⟩ = some (.int .i64 (n : Int)) ∧ w'.cell? ⟨w.heap.size, 1, none⟩ = some (.slice A1 l1.length c1) ∧ w'.cell? ⟨w.heap.size, 2, none⟩ = some (.slice B1 m1.length d1)) ∧ w'.cell? ⟨w.heap.size + 1, 0, none⟩ = some (.int .i64 (n : Int)) ∧ w'.cell? ⟨w.heap.size + 1, 1, none⟩ = some (.slice A2 l2.length c2) ∧ w'.cell? ⟨w.heap.size + 1, 2, none⟩ = some (.slice B2 m2.length d2))
              ((refine HS.out _ ?_; (repeat (first | assumption | refine grow_drew ?_ | refine grow_alloc ?_ _ | refine grow_cells ?_ (by omega) _ | exact Below.refl _ _))))
              (first
              | (go_at_call 58; (with_reducible refine hc10.mono ?_); rintro e wa ⟨rfl, hba⟩; have hn0 : True := trivial; have fra := hz0.trans (hba.mono hz0.size); have sza := fra.size; have h20 := hec2 wa fra; have h21 := hec2 (wa.alloc (.cells Try.zeroCells59 59)) (grow_alloc fra _); have h22 := hec2 ((wa.alloc (.cells Try.zeroCells59 59)).alloc (.cells Try.zeroCells59 59)) (grow_alloc (grow_alloc fra _) _))
              | (go_at_call 58; (with_reducible refine hc11.mono ?_); rintro e wa ⟨rfl, hba⟩; have hn1 : True := trivial; have fra := hz1.trans (hba.mono hz1.size); have sza := fra.size; have p1 := tz1.below hba; have pl := p1.lt; have h20 := hec2 wa fra; have h21 := hec2 (wa.alloc (.cells Try.zeroCells59 59)) (grow_alloc fra _))
              | (go_at_call 58; (with_reducible refine hc12.mono ?_); rintro e wa ⟨rfl, hba⟩; have hn2 : True := trivial; have fra := hz2.trans (hba.mono hz2.size); have sza := fra.size; have p1 := ty1.below hba; have pl := p1.lt; have p2 := ty2.below hba; have h20 := hec2 wa fra)
              | (go_at_call 58; (have hn : True := hn0); (with_reducible refine h20.mono ?_); rintro e wb ⟨rfl, hbb⟩; have frb := fra.trans (hbb.mono fra.size); have szb := frb.size; have szc := hbb.size; have t1 : TabAt ((wb.alloc (.cells Try.zeroCells59 59)).alloc (.cells Try.zeroCells59 59)) (wb.heap.size) (fun _ => false) := ((tab_new wb).alloc (.cells Try.zeroCells59 59)); have t2 : TabAt ((wb.alloc (.cells Try.zeroCells59 59)).alloc (.cells Try.zeroCells59 59)) (wb.heap.size + 1) (fun _ => false) := (tab_next wb); have hne : wb.heap.size ≠ wb.heap.size + 1 := (by omega); have hg1 : w6.heap.size ≤ wb.heap.size := (by omega); have hg2 : w6.heap.size ≤ wb.heap.size + 1 := (by omega); have grx := (grow_alloc (grow_alloc frb (.cells Try.zeroCells59 59)) (.cells Try.zeroCells59 59)); have s1 := t1.there HL1q.out; have s2 := t2.there HL1q.out; have s3 := (t2.cells_other hne.symm L1 0).there HL2q.out; have s4 := (t1.cells_other hne L1 0).there HL2q.out; have R12 := tabRel2_of t1 t2 HE1.out HE2.out hne hg1 hg2 grx; have R21 := tabRel2_of t2 t1 HE1.out HE2.out hne.symm hg2 hg1 grx; clear hg1 hg2 t1 t2)
              | (go_at_call 58; (have hn : True := hn0); (with_reducible refine h21.mono ?_); rintro e wb ⟨rfl, hbb⟩; have frb := (grow_alloc fra (.cells Try.zeroCells59 59)).trans (hbb.mono (grow_alloc fra (.cells Try.zeroCells59 59)).size); have szb := frb.size; have szc := hbb.size; (try simp only [World.size_alloc] at szc); have t1 : TabAt (wb.alloc (.cells Try.zeroCells59 59)) (wa.heap.size) (fun _ => false) := (((tab_new wa).below hbb).alloc (.cells Try.zeroCells59 59)); have t2 : TabAt (wb.alloc (.cells Try.zeroCells59 59)) (wb.heap.size) (fun _ => false) := (tab_new wb); have hne : wa.heap.size ≠ wb.heap.size := (by omega); have hg1 : w6.heap.size ≤ wa.heap.size := (by omega); have hg2 : w6.heap.size ≤ wb.heap.size := (by omega); have grx := (grow_alloc frb (.cells Try.zeroCells59 59)); have s1 := t1.there HL1q.out; have s2 := t2.there HL1q.out; have s3 := (t2.cells_other hne.symm L1 0).there HL2q.out; have s4 := (t1.cells_other hne L1 0).there HL2q.out; have R12 := tabRel2_of t1 t2 HE1.out HE2.out hne hg1 hg2 grx; have R21 := tabRel2_of t2 t1 HE1.out HE2.out hne.symm hg2 hg1 grx; clear hg1 hg2 t1 t2)
              | (go_at_call 58; (have hn : True := hn0); (with_reducible refine h22.mono ?_); rintro e wb ⟨rfl, hbb⟩; have frb := (grow_alloc (grow_alloc fra (.cells Try.zeroCells59 59)) (.cells Try.zeroCells59 59)).trans (hbb.mono (grow_alloc (grow_alloc fra (.cells Try.zeroCells59 59)) (.cells Try.zeroCells59 59)).size); have szb := frb.size; have szc := hbb.size; (try simp only [World.size_alloc] at szc); have t1 : TabAt wb (wa.heap.size) (fun _ => false) := (((tab_new wa).alloc (.cells Try.zeroCells59 59)).below hbb); have t2 : TabAt wb (wa.heap.size + 1) (fun _ => false) := ((tab_next wa).below hbb); have hne : wa.heap.size ≠ wa.heap.size + 1 := (by omega); have hg1 : w6.heap.size ≤ wa.heap.size := (by omega); have hg2 : w6.heap.size ≤ wa.heap.size + 1 := (by omega); have grx := frb; have s1 := t1.there HL1q.out; have s2 := t2.there HL1q.out; have s3 := (t2.cells_other hne.symm L1 0).there HL2q.out; have s4 := (t1.cells_other hne L1 0).there HL2q.out; have R12 := tabRel2_of t1 t2 HE1.out HE2.out hne hg1 hg2 grx; have R21 := tabRel2_of t2 t1 HE1.out HE2.out hne.symm hg2 hg1 grx; clear hg1 hg2 t1 t2)
              | (go_at_call 58; (have hn : True := hn1); (with_reducible refine h20.mono ?_); rintro e wb ⟨rfl, hbb⟩; have frb := fra.trans (hbb.mono fra.size); have szb := frb.size; have szc := hbb.size; have t1 : TabAt (wb.alloc (.cells Try.zeroCells59 59)) (w6.heap.size) (fun _ => false) := ((p1.below hbb).alloc (.cells Try.zeroCells59 59)); have t2 : TabAt (wb.alloc (.cells Try.zeroCells59 59)) (wb.heap.size) (fun _ => false) := (tab_new wb); have hne : w6.heap.size ≠ wb.heap.size := (by omega); have hg1 : w6.heap.size ≤ w6.heap.size := (by omega); have hg2 : w6.heap.size ≤ wb.heap.size := (by omega); have grx := (grow_alloc frb (.cells Try.zeroCells59 59)); have s1 := t1.there HL1q.out; have s2 := t2.there HL1q.out; have s3 := (t2.cells_other hne.symm L1 0).there HL2q.out; have s4 := (t1.cells_other hne L1 0).there HL2q.out; have R12 := tabRel2_of t1 t2 HE1.out HE2.out hne hg1 hg2 grx; have R21 := tabRel2_of t2 t1 HE1.out HE2.out hne.symm hg2 hg1 grx; clear hg1 hg2 t1 t2)
              | (go_at_call 58; (have hn : True := hn1); (with_reducible refine h21.mono ?_); rintro e wb ⟨rfl, hbb⟩; have frb := (grow_alloc fra (.cells Try.zeroCells59 59)).trans (hbb.mono (grow_alloc fra (.cells Try.zeroCells59 59)).size); have szb := frb.size; have szc := hbb.size; (try simp only [World.size_alloc] at szc); have t1 : TabAt wb (w6.heap.size) (fun _ => false) := ((p1.alloc (.cells Try.zeroCells59 59)).below hbb); have t2 : TabAt wb (wa.heap.size) (fun _ => false) := ((tab_new wa).below hbb); have hne : w6.heap.size ≠ wa.heap.size := (by omega); have hg1 : w6.heap.size ≤ w6.heap.size := (by omega); have hg2 : w6.heap.size ≤ wa.heap.size := (by omega); have grx := frb; have s1 := t1.there HL1q.out; have s2 := t2.there HL1q.out; have s3 := (t2.cells_other hne.symm L1 0).there HL2q.out; have s4 := (t1.cells_other hne L1 0).there HL2q.out; have R12 := tabRel2_of t1 t2 HE1.out HE2.out hne hg1 hg2 grx; have R21 := tabRel2_of t2 t1 HE1.out HE2.out hne.symm hg2 hg1 grx; clear hg1 hg2 t1 t2)
              | (go_at_call 58; (have hn : True := hn2); (with_reducible refine h20.mono ?_); rintro e wb ⟨rfl, hbb⟩; have frb := fra.trans (hbb.mono fra.size); have szb := frb.size; have szc := hbb.size; have t1 : TabAt wb (w6.heap.size) (fun _ => false) := (p1.below hbb); have t2 : TabAt wb (w6.heap.size + 1) (fun _ => false) := (p2.below hbb); have hne : w6.heap.size ≠ w6.heap.size + 1 := (by omega); have hg1 : w6.heap.size ≤ w6.heap.size := (by omega); have hg2 : w6.heap.size ≤ w6.heap.size + 1 := (by omega); have grx := frb; have s1 := t1.there HL1q.out; have s2 := t2.there HL1q.out; have s3 := (t2.cells_other hne.symm L1 0).there HL2q.out; have s4 := (t1.cells_other hne L1 0).there HL2q.out; have R12 := tabRel2_of t1 t2 HE1.out HE2.out hne hg1 hg2 grx; have R21 := tabRel2_of t2 t1 HE1.out HE2.out hne.symm hg2 hg1 grx; clear hg1 hg2 t1 t2)
              | fail)
            all_goals
              go_wp2_with fail
              go_meet
              first
                | exact R12
                | exact R21
          case rest =>
            obtain ⟨g, h, rfl, rfl, ht1, ht2, hne, hg, hh, hbx⟩ := hcut
            have KT1 : Hid (TabAt wc g (botF true f1 f2 0)) := Lib.hid (ht1.ext fun i _ => botF_zero _ _ _ _)
            have KT2 := Lib.hid ht2
            clear ht1 ht2 HS hec1 hec2 hi1 hi2 hone1 hone2 HL1q HL2q
            have hgs := hg
            go_wp2
            go_loopw [11, 45] (fun _ i wr => ∃ k : Nat, k ≤ 4096 ∧ i = .int .i64 k ∧ Hid (TabAt wr g (botF true f1 f2 k)) ∧ Hid (TabAt wr h f2) ∧ Below w6.heap.size w6 wr) (fun _ i _ => 4096 - (intOf i).toNat)
            case atStart => exact ⟨0, by omega, rfl, KT1, KT2, hbx⟩
            case round =>
              clear KT1 KT2 hbx
              obtain ⟨k, hk, rfl, hT1, hT2, hb⟩ := hrel
              by_cases hlt : k < 4096
              · have hki : (k : Int) < 4096 := by omega
                have hk0 : (0 : Int) ≤ (k : Int) := by omega
                have HST := Lib.hid (fun (W : World) (h1 : TabAt W g (botF true f1 f2 k)) => (h1.set_ hlt (bothB true (f1 k) (f2 k))).ext fun i _ => botF_next true f1 f2 k i)
                go_wp2
                refine wp_region_still_tail 10 (by kernel_rfl) (by kernel_rfl) ?_
                simp only [List.take_succ_cons, List.take_zero, List.drop_succ_cons, List.drop_zero]
                have hd3 : Below wr.heap.size wr ({ wr with drawn := wr.drawn + 1 } : World) := ⟨rfl, rfl, rfl, Nat.le_refl _, fun _ _ => rfl⟩
                generalize ({ wr with drawn := wr.drawn + 1 } : World) = W3 at hd3 ⊢
                have u1 := hT1.out.below hd3
                have u2 := hT2.out.below hd3
                have q1 := u1.cell hlt
                rw [botF_at] at q1
                have q2 := u2.cell hlt
                have q3 := u1.frozen k
                have hkp := ((keepOr_any (f1 k) (f2 k) W3)).mono (fun _ _ (h : _ ∧ _) => (⟨h.1, h.2.symm⟩ : _ ∧ _))
                have U1 := Lib.hid (HST.out W3 u1)
                have U2 := Lib.hid (u2.only ((Only.refl _ _).set (S := [g]) ⟨g, k, none⟩ (.bool (bothB true (f1 k) (f2 k))) (by simp)) (by simpa using hne.symm))
                have hbw : Below w6.heap.size w6 (W3.setCell ⟨g, k, none⟩ (.bool (bothB true (f1 k) (f2 k)))) := (hb.trans (hd3.mono hb.size)).setCell (p := ⟨g, k, none⟩) hg _
                generalize bothB true (f1 k) (f2 k) = bb at hkp U1 U2 hbw
                generalize f1 k = fa at hkp q1
                generalize f2 k = fb at hkp q2
                clear u1 u2 hT1 hT2 hb hd3 HST
                iterate 8 still_step
                still_call hkp
                still_step
                refine wpStill_nil ?_
                clear hkp q2
                go_wp2
                refine ⟨⟨k + 1, by omega, by go_num, U1, U2, hbw⟩, ?_⟩
                simp only [intOf]
                omega
              · have e : k = 4096 := by omega
                subst e
                have hT : TabAt wr g f3 := hT1.out.ext HTB.out
                unfold TabAt at hT
                have HT := Lib.hid hT
                have HI2 := Lib.hid (show (Try.prog.info? 59).map (·.size) = some (tabV f3).size by rw [tabV_size]; exact tab_info)
                have hr := (hb.block _ (OrbK.box_lt K6.out)).trans K6.out
                have hq := (hb.block _ (OrbK.box_lt R6.out)).trans R6.out
                have hsq := hso wr AU cU (HAU.out.below hb)
                have hbW := HBZ6.out.trans (hb.mono HBZ6.out.size)
                obtain ⟨b0, b1, b2⟩ := OrbK.row3 hr
                clear hT hT1 hT2 hso HTB hb
                generalize tabV f3 = cs3 at HT HI2 hsq
                go_wp2_with (first
                  | (refine wpList_load_row rfl 59 (.tmp 9) rfl g rfl _ cs3 _ _ HT.out hu rfl HI2.out ?_)
                  | (go_at_call 45; (with_reducible refine hsq.mono ?_); rintro e w9 ⟨A4, c4, A7, c7, S9, rfl, hL9, hS9, hb9⟩; have hr9 := (hb9.block _ (OrbK.box_lt hq)).trans hq; obtain ⟨x0, x1, x2⟩ := OrbK.row3 hr9; obtain ⟨y0, y1, y2⟩ := z3At hr9))
                have hpost := orbB_of true (orb_pass (r := w.heap.size + 1 + 1) hL9 (hbW.trans (hb9.mono hbW.size)) (show w.heap.size ≤ w.heap.size + 1 + 1 by omega) (fun b h => by have h1 := hS9 b h; have h2 := OrbK.box_lt hq; have h3 := hbW.size; omega))
                clear hsq hL9 hS9 hb9 hr9 hr hq b0 b1 b2 hbW
                go_wp2
                exact bodyPost_ret (v := .tuple #[.agg #[.int .i64 (n : Int), .slice A4 U.length c4, .slice A7 R.length c7], .bool true]) (by simp [results, Try.results71, go_sem, x0, x1, x2]) rfl (by rw [HKK.out]; exact hpost)
      · have hzn : (z1 != z2) = true := by simpa using hz
        have hkk : bothOk z1 l1 m1 z2 l2 m2 = false := by simp [bothOk, hz]
        clear ho1 ho2
        go_enter Try.func71, Try.ntmps71
        go_wp2_with (first
          | (go_at_call 25; (with_reducible refine hio1.mono ?_); rintro e w3 ⟨rfl, hb3⟩; have hbz3 := HB0.out.trans (hb3.mono HB0.out.size); have J3 := (hb3.block _ (OrbK.box_lt HK1.out)).trans HK1.out; have K3 := (hb3.block _ (OrbK.box_lt HK0.out)).trans HK0.out; clear b0 b1 b2 n0 n1 n2; obtain ⟨n0, n1, n2⟩ := OrbK.row3 J3; obtain ⟨b0, b1, b2⟩ := OrbK.row3 K3; have hio2 := hIO2 w3 hbz3)
          | (go_at_call 25; (with_reducible refine hio2.mono ?_); rintro e w4 ⟨rfl, hb4⟩; have hb34 := hb3.trans (hb4.mono hb3.size); have hbz4 := hbz3.trans (hb4.mono hbz3.size); have K4 := (hb4.block _ (OrbK.box_lt K3)).trans K3; have J4 := (hb4.block _ (OrbK.box_lt J3)).trans J3; clear b0 b1 b2 n0 n1 n2; obtain ⟨b0, b1, b2⟩ := OrbK.row3 K4; obtain ⟨n0, n1, n2⟩ := OrbK.row3 J4; have r2 := (hb34.block _ (OrbK.box_lt HK2.out)).trans HK2.out; obtain ⟨x0, x1, x2⟩ := OrbK.row3 r2; obtain ⟨y0, y1, y2⟩ := z3At r2))
        have hbz := hbz4
        have hpost := orbB_zero (((hbz.setCell (p := ⟨w.heap.size + 1 + 1, 0, none⟩) (show w.heap.size ≤ w.heap.size + 1 + 1 by omega) (.int .i64 0)).setCell (p := ⟨w.heap.size + 1 + 1, 1, none⟩) (show w.heap.size ≤ w.heap.size + 1 + 1 by omega) (.slice none 0 0)).setCell (p := ⟨w.heap.size + 1 + 1, 2, none⟩) (show w.heap.size ≤ w.heap.size + 1 + 1 by omega) (.slice none 0 0))
        clear hio1 hio2 hb3 hb4 hb34 b0 b1 b2 n0 n1 n2 hbz3 hbz hIO2 r2 J3 K3 J4 K4
        go_wp2
        exact bodyPost_ret (v := .tuple #[.agg #[.int .i64 0, .slice none 0 0, .slice none 0 0], .bool false]) (by simp [results, Try.results71, go_sem, x0, x1, x2]) rfl (by rw [hkk]; exact hpost)

set_option maxRecDepth 100000 in
set_option maxHeartbeats 8000000 in
theorem joinedAnd_any (z1 : Int) (l1 : List Int) (m1 : List (List Int)) (hf1 : FitO l1 m1) (x1 : Value) (z2 : Int) (l2 : List Int) (m2 : List (List Int)) (hf2 : FitO l2 m2) (x2 : Value) (w : World) (hx1 : OrbIx w x1 z1 l1 m1) (hx2 : OrbIx w x2 z2 l2 m2) :
    Calls Try.prog 71 #[x1, x2, .func (.func 73) #[] #[]] w (OrbBOut (ozR (bothOk z1 l1 m1 z2 l2 m2) z1) (olR (bothOk z1 l1 m1 z2 l2 m2) (bothC l1 l2)) (omR (bothOk z1 l1 m1 z2 l2 m2) (bothM false z1 l1 m1 l2 m2)) (bothOk z1 l1 m1 z2 l2 m2) w) := by
  have HX1 := Lib.hid hx1
  have HX2 := Lib.hid hx2
  obtain ⟨A1, c1, B1, d1, rfl, hl1, hmr1, hm1⟩ := hx1
  obtain ⟨A2, c2, B2, d2, rfl, hl2, hmr2, hm2⟩ := hx2
  have hb0 : Below w.heap.size w (((w.alloc (.cells #[.int .i64 z1, .slice A1 l1.length c1, .slice B1 m1.length d1] 32)).alloc (.cells #[.int .i64 z2, .slice A2 l2.length c2, .slice B2 m2.length d2] 32)).alloc (.cells #[.int .i64 0, .slice none 0 0, .slice none 0 0] 32)) := (((Below.refl _ _).alloc (Nat.le_refl _) _).alloc (by simp) _).alloc (by simp; omega) _
  have k0 : (((w.alloc (.cells #[.int .i64 z1, .slice A1 l1.length c1, .slice B1 m1.length d1] 32)).alloc (.cells #[.int .i64 z2, .slice A2 l2.length c2, .slice B2 m2.length d2] 32)).alloc (.cells #[.int .i64 0, .slice none 0 0, .slice none 0 0] 32)).heap[w.heap.size]? = some (.cells #[.int .i64 z1, .slice A1 l1.length c1, .slice B1 m1.length d1] 32 (0, 0)) := (Below.heap_alloc _ _ _ (by simp; omega)).trans ((Below.heap_alloc _ _ _ (by simp)).trans (heap_alloc_new w _))
  have k1 : (((w.alloc (.cells #[.int .i64 z1, .slice A1 l1.length c1, .slice B1 m1.length d1] 32)).alloc (.cells #[.int .i64 z2, .slice A2 l2.length c2, .slice B2 m2.length d2] 32)).alloc (.cells #[.int .i64 0, .slice none 0 0, .slice none 0 0] 32)).heap[w.heap.size + 1]? = some (.cells #[.int .i64 z2, .slice A2 l2.length c2, .slice B2 m2.length d2] 32 (0, 0)) := by
    have h := heap_alloc_new (w.alloc (.cells #[.int .i64 z1, .slice A1 l1.length c1, .slice B1 m1.length d1] 32)) (.cells #[.int .i64 z2, .slice A2 l2.length c2, .slice B2 m2.length d2] 32)
    rw [World.size_alloc] at h
    exact (Below.heap_alloc _ _ _ (by simp)).trans h
  have k2 : (((w.alloc (.cells #[.int .i64 z1, .slice A1 l1.length c1, .slice B1 m1.length d1] 32)).alloc (.cells #[.int .i64 z2, .slice A2 l2.length c2, .slice B2 m2.length d2] 32)).alloc (.cells #[.int .i64 0, .slice none 0 0, .slice none 0 0] 32)).heap[w.heap.size + 1 + 1]? = some (.cells #[.int .i64 0, .slice none 0 0, .slice none 0 0] 32 (0, 0)) := by
    have h := heap_alloc_new ((w.alloc (.cells #[.int .i64 z1, .slice A1 l1.length c1, .slice B1 m1.length d1] 32)).alloc (.cells #[.int .i64 z2, .slice A2 l2.length c2, .slice B2 m2.length d2] 32)) (.cells #[.int .i64 0, .slice none 0 0, .slice none 0 0] 32)
    rw [World.size_alloc, World.size_alloc] at h
    exact h
  obtain ⟨b0, b1, b2⟩ := OrbK.row3 k0
  obtain ⟨n0, n1, n2⟩ := OrbK.row3 k1
  have hio1 := isOrbitSet_impl z1 l1 m1 hf1 _ _ (HX1.out.below hb0)
  have hIO2 := fun W (h : Below w.heap.size w W) => isOrbitSet_impl z2 l2 m2 hf2 _ W (HX2.out.below h)
  have HB0 := Lib.hid hb0
  have HK0 := Lib.hid k0
  have HK1 := Lib.hid k1
  have HK2 := Lib.hid k2
  have HL1 := Lib.hid hl1
  have HL2 := Lib.hid hl2
  have HM1 := Lib.hid hmr1
  have HM2 := Lib.hid hmr2
  clear hl1 hmr1 hm1 hl2 hmr2 hm2 k0 k1 k2 hb0
  cases ho1 : orbB z1 l1 m1 with
  | false =>
    have hkk : bothOk z1 l1 m1 z2 l2 m2 = false := by simp [bothOk, ho1]
    rw [ho1] at hio1
    clear ho1
    go_enter Try.func71, Try.ntmps71
    go_wp2_with (first
      | (go_at_call 25; (with_reducible refine hio1.mono ?_); rintro e w3 ⟨rfl, hb3⟩; have r2 := (hb3.block _ (OrbK.box_lt HK2.out)).trans HK2.out; obtain ⟨x0, x1, x2⟩ := OrbK.row3 r2; obtain ⟨y0, y1, y2⟩ := z3At r2))
    have hbz := HB0.out.trans (hb3.mono HB0.out.size)
    have hpost := orbB_zero (((hbz.setCell (p := ⟨w.heap.size + 1 + 1, 0, none⟩) (show w.heap.size ≤ w.heap.size + 1 + 1 by omega) (.int .i64 0)).setCell (p := ⟨w.heap.size + 1 + 1, 1, none⟩) (show w.heap.size ≤ w.heap.size + 1 + 1 by omega) (.slice none 0 0)).setCell (p := ⟨w.heap.size + 1 + 1, 2, none⟩) (show w.heap.size ≤ w.heap.size + 1 + 1 by omega) (.slice none 0 0))
    clear hio1 hb3 b0 b1 b2 n0 n1 n2 hbz hIO2 r2
    go_wp2
    exact bodyPost_ret (v := .tuple #[.agg #[.int .i64 0, .slice none 0 0, .slice none 0 0], .bool false]) (by simp [results, Try.results71, go_sem, x0, x1, x2]) rfl (by rw [hkk]; exact hpost)
  | true =>
    rw [ho1] at hio1
    cases ho2 : orbB z2 l2 m2 with
    | false =>
      have hkk : bothOk z1 l1 m1 z2 l2 m2 = false := by simp [bothOk, ho2]
      simp only [ho2] at hIO2
      clear ho1 ho2
      go_enter Try.func71, Try.ntmps71
      go_wp2_with (first
        | (go_at_call 25; (with_reducible refine hio1.mono ?_); rintro e w3 ⟨rfl, hb3⟩; have hbz3 := HB0.out.trans (hb3.mono HB0.out.size); have J3 := (hb3.block _ (OrbK.box_lt HK1.out)).trans HK1.out; have K3 := (hb3.block _ (OrbK.box_lt HK0.out)).trans HK0.out; clear b0 b1 b2 n0 n1 n2; obtain ⟨n0, n1, n2⟩ := OrbK.row3 J3; obtain ⟨b0, b1, b2⟩ := OrbK.row3 K3; have hio2 := hIO2 w3 hbz3)
        | (go_at_call 25; (with_reducible refine hio2.mono ?_); rintro e w4 ⟨rfl, hb4⟩; have hb34 := hb3.trans (hb4.mono hb3.size); have hbz4 := hbz3.trans (hb4.mono hbz3.size); have K4 := (hb4.block _ (OrbK.box_lt K3)).trans K3; have J4 := (hb4.block _ (OrbK.box_lt J3)).trans J3; clear b0 b1 b2 n0 n1 n2; obtain ⟨b0, b1, b2⟩ := OrbK.row3 K4; obtain ⟨n0, n1, n2⟩ := OrbK.row3 J4; have r2 := (hb34.block _ (OrbK.box_lt HK2.out)).trans HK2.out; obtain ⟨x0, x1, x2⟩ := OrbK.row3 r2; obtain ⟨y0, y1, y2⟩ := z3At r2))
      have hbz := hbz4
      have hpost := orbB_zero (((hbz.setCell (p := ⟨w.heap.size + 1 + 1, 0, none⟩) (show w.heap.size ≤ w.heap.size + 1 + 1 by omega) (.int .i64 0)).setCell (p := ⟨w.heap.size + 1 + 1, 1, none⟩) (show w.heap.size ≤ w.heap.size + 1 + 1 by omega) (.slice none 0 0)).setCell (p := ⟨w.heap.size + 1 + 1, 2, none⟩) (show w.heap.size ≤ w.heap.size + 1 + 1 by omega) (.slice none 0 0))
      clear hio1 hio2 hb3 hb4 hb34 b0 b1 b2 n0 n1 n2 hbz3 hbz hIO2 r2 J3 K3 J4 K4
      go_wp2
      exact bodyPost_ret (v := .tuple #[.agg #[.int .i64 0, .slice none 0 0, .slice none 0 0], .bool false]) (by simp [results, Try.results71, go_sem, x0, x1, x2]) rfl (by rw [hkk]; exact hpost)
    | true =>
      simp only [ho2] at hIO2
      by_cases hz : z1 = z2
      · subst hz
        have HCC : Hid (insAll [] [l1, l2].flatten = bothC l1 l2) := Lib.hid (bothC_asc (const_asc (orb_const ho1)))
        have hcc := bothC_const (orb_const ho1) (orb_const ho2)
        cases hcb : constB (bothC l1 l2) with
        | false =>
          have hkk : bothOk z1 l1 m1 z1 l2 m2 = false := by simp [bothOk, hcb]
          have hbig : (3 : Int) < ((bothC l1 l2).length : Int) := by rw [hcb] at hcc; have := of_decide_eq_false hcc.symm; omega
          clear ho1 ho2 hcb hcc
          generalize bothC l1 l2 = U at *
          go_enter Try.func71, Try.ntmps71
          go_wp2_with (first
            | (go_at_call 25; (with_reducible refine hio1.mono ?_); rintro e w3 ⟨rfl, hb3⟩; have hbz3 := HB0.out.trans (hb3.mono HB0.out.size); have J3 := (hb3.block _ (OrbK.box_lt HK1.out)).trans HK1.out; have K3 := (hb3.block _ (OrbK.box_lt HK0.out)).trans HK0.out; clear b0 b1 b2 n0 n1 n2; obtain ⟨n0, n1, n2⟩ := OrbK.row3 J3; obtain ⟨b0, b1, b2⟩ := OrbK.row3 K3; have hio2 := hIO2 w3 hbz3)
            | (go_at_call 25; (with_reducible refine hio2.mono ?_); rintro e w4 ⟨rfl, hb4⟩; have hb34 := hb3.trans (hb4.mono hb3.size); have hbz4 := hbz3.trans (hb4.mono hbz3.size); have K4 := (hb4.block _ (OrbK.box_lt K3)).trans K3; have J4 := (hb4.block _ (OrbK.box_lt J3)).trans J3; clear b0 b1 b2 n0 n1 n2; obtain ⟨b0, b1, b2⟩ := OrbK.row3 K4; obtain ⟨n0, n1, n2⟩ := OrbK.row3 J4; have hcon := concat_two (some ⟨w4.heap.size, 0, none⟩) 2 l1 l2 (w4.alloc (.cells #[.slice A1 l1.length c1, .slice A2 l2.length c2] 24)) (cat2 (HL1.out.1.below hbz4) (HL2.out.1.below hbz4) HL1.out.2 HL2.out.2) (by have h1 := hf1.1; have h2 := hf2.1; omega); have hb44 : Below w4.heap.size w4 (w4.alloc (.cells #[.slice A1 l1.length c1, .slice A2 l2.length c2] 24)) := (Below.refl _ _).alloc (Nat.le_refl _) _)
            | (go_at_call 98; (with_reducible refine hcon.mono ?_); rintro e w5 ⟨v5, rfl, ho5, hb5⟩; have hb45 := hb44.trans (hb5.mono hb44.size); have hasq := ascending_rows w4.heap.size v5 [l1, l2].flatten w5 (own_le ho5 hb44.size) hb45.size (by have h1 := hf1.1; have h2 := hf2.1; simp; omega))
            | (go_at_call 97; (with_reducible refine hasq.mono ?_); rintro e w6 ⟨v6, rfl, ho6, hb6⟩; rw [HCC.out] at ho6; obtain ⟨AU, cU, rfl, hAU⟩ := own_intsAt ho6; have hb46 := hb45.trans hb6; have hbz6 := hbz4.trans (hb46.mono hbz4.size); have hb36 := hb34.trans (hb46.mono hb34.size); have r2 := (hb36.block _ (OrbK.box_lt HK2.out)).trans HK2.out; obtain ⟨x0, x1, x2⟩ := OrbK.row3 r2; obtain ⟨y0, y1, y2⟩ := z3At r2))
          have hbz := hbz6
          have hpost := orbB_zero (((hbz.setCell (p := ⟨w.heap.size + 1 + 1, 0, none⟩) (show w.heap.size ≤ w.heap.size + 1 + 1 by omega) (.int .i64 0)).setCell (p := ⟨w.heap.size + 1 + 1, 1, none⟩) (show w.heap.size ≤ w.heap.size + 1 + 1 by omega) (.slice none 0 0)).setCell (p := ⟨w.heap.size + 1 + 1, 2, none⟩) (show w.heap.size ≤ w.heap.size + 1 + 1 by omega) (.slice none 0 0))
          clear hio1 hio2 hcon hasq hb3 hb4 hb34 hb44 hb5 hb45 hb6 hb46 hb36 b0 b1 b2 n0 n1 n2 hbz3 hbz4 hbz hIO2 r2 J3 K3 J4 K4 ho5 ho6 hAU
          go_wp2
          exact bodyPost_ret (v := .tuple #[.agg #[.int .i64 0, .slice none 0 0, .slice none 0 0], .bool false]) (by simp [results, Try.results71, go_sem, x0, x1, x2]) rfl (by rw [hkk]; exact hpost)
        | true =>
          have hkk : bothOk z1 l1 m1 z1 l2 m2 = true := by simp [bothOk, ho1, ho2, hcb]
          have hc3 := const_len hcb
          have hnb : ¬ (3 : Int) < ((bothC l1 l2).length : Int) := by omega
          obtain ⟨hwz, _⟩ := orb_rows ho1
          have hz4 := widB_iff.1 hwz
          have hk1 := const_len (orb_const ho1)
          have hk2 := const_len (orb_const ho2)
          obtain ⟨n, rfl⟩ : ∃ n : Nat, z1 = n := ⟨z1.toNat, by omega⟩
          have hn4 : n ≤ 4 := by omega
          have hmm1 := orb_mem ho1
          have hmm2 := orb_mem ho2
          have HPO : Hid (patsOf n (bothF false (extL n l1 m1 (bothC l1 l2)) (extL n l2 m2 (bothC l1 l2))) = bothM false n l1 m1 l2 m2) := Lib.hid (by
            unfold bothM
            rw [show ((n : Int).toNat) = n by omega]
            exact both_pats (by omega) (by omega) hn4 ext_sub ext_sub)
          have hex1 := fun (W : World) (h : Below w.heap.size w W) A' c' (hC : IntsAt W A' (bothC l1 l2)) => extendedCodes_any n hn4 l1 hk1 m1 (by have := hf1.2.1; omega) (bothC l1 l2) hc3 hmm1 A1 B1 A' c1 d1 c' W (HL1.out.1.below h) (HM1.out.below h) hC
          have hex2 := fun (W : World) (h : Below w.heap.size w W) A' c' (hC : IntsAt W A' (bothC l1 l2)) => extendedCodes_any n hn4 l2 hk2 m2 (by have := hf2.2.1; omega) (bothC l1 l2) hc3 hmm2 A2 B2 A' c2 d2 c' W (HL2.out.1.below h) (HM2.out.below h) hC
          have hso := fun (W : World) A' c' (hC : IntsAt W A' (bothC l1 l2)) => setOfCodes_any (bothF false (extL n l1 m1 (bothC l1 l2)) (extL n l2 m2 (bothC l1 l2))) n hn4 (bothC l1 l2) (by omega) A' c' W hC
          rw [HPO.out] at hso
          have HTB : Hid (∀ c, c < 4096 → botF false (tabOf (extL n l1 m1 (bothC l1 l2))) (tabOf (extL n l2 m2 (bothC l1 l2))) 4096 c = bothF false (extL n l1 m1 (bothC l1 l2)) (extL n l2 m2 (bothC l1 l2)) c) := Lib.hid (fun c hc => botF_all _ _ _ hc)
          unfold TabP at hex1 hex2
          rw [tabV_L] at hex1 hex2
          have hi1 : (Try.prog.info? 59).map (·.size) = some (tabL (tabOf (extL n l1 m1 (bothC l1 l2)))).length := by rw [tabL_len]; exact tab_info
          have hi2 : (Try.prog.info? 59).map (·.size) = some (tabL (tabOf (extL n l2 m2 (bothC l1 l2)))).length := by rw [tabL_len]; exact tab_info
          have hone1 := tabL_one (tabOf (extL n l1 m1 (bothC l1 l2)))
          have hone2 := tabL_one (tabOf (extL n l2 m2 (bothC l1 l2)))
          have HL1q := Lib.hid (tabL_len (tabOf (extL n l1 m1 (bothC l1 l2))))
          have HL2q := Lib.hid (tabL_len (tabOf (extL n l2 m2 (bothC l1 l2))))
          have HKK := Lib.hid hkk
          clear ho1 ho2 hcb hcc hwz hz4 hk1 hk2 hkk hmm1 hmm2
          generalize hg1 : tabOf (extL n l1 m1 (bothC l1 l2)) = f1 at *
          generalize hg2 : tabOf (extL n l2 m2 (bothC l1 l2)) = f2 at *
          generalize bothF false (extL n l1 m1 (bothC l1 l2)) (extL n l2 m2 (bothC l1 l2)) = f3 at *
          generalize bothM false n l1 m1 l2 m2 = R at *
          clear hg1 hg2
          generalize hE1 : tabL f1 = L1 at *
          generalize hE2 : tabL f2 = L2 at *
          have HE1 := Lib.hid hE1
          have HE2 := Lib.hid hE2
          clear hE1 hE2
          generalize bothC l1 l2 = U at *
          have hu := Try.underlying59
          go_enter Try.func71, Try.ntmps71
          go_wp2_with (first
            | (go_at_call 25; (with_reducible refine hio1.mono ?_); rintro e w3 ⟨rfl, hb3⟩; have hbz3 := HB0.out.trans (hb3.mono HB0.out.size); have J3 := (hb3.block _ (OrbK.box_lt HK1.out)).trans HK1.out; have K3 := (hb3.block _ (OrbK.box_lt HK0.out)).trans HK0.out; clear b0 b1 b2 n0 n1 n2; obtain ⟨n0, n1, n2⟩ := OrbK.row3 J3; obtain ⟨b0, b1, b2⟩ := OrbK.row3 K3; have hio2 := hIO2 w3 hbz3)
            | (go_at_call 25; (with_reducible refine hio2.mono ?_); rintro e w4 ⟨rfl, hb4⟩; have hb34 := hb3.trans (hb4.mono hb3.size); have hbz4 := hbz3.trans (hb4.mono hbz3.size); have K4 := (hb4.block _ (OrbK.box_lt K3)).trans K3; have J4 := (hb4.block _ (OrbK.box_lt J3)).trans J3; clear b0 b1 b2 n0 n1 n2; obtain ⟨b0, b1, b2⟩ := OrbK.row3 K4; obtain ⟨n0, n1, n2⟩ := OrbK.row3 J4; have hcon := concat_two (some ⟨w4.heap.size, 0, none⟩) 2 l1 l2 (w4.alloc (.cells #[.slice A1 l1.length c1, .slice A2 l2.length c2] 24)) (cat2 (HL1.out.1.below hbz4) (HL2.out.1.below hbz4) HL1.out.2 HL2.out.2) (by have h1 := hf1.1; have h2 := hf2.1; omega); have hb44 : Below w4.heap.size w4 (w4.alloc (.cells #[.slice A1 l1.length c1, .slice A2 l2.length c2] 24)) := (Below.refl _ _).alloc (Nat.le_refl _) _)
            | (go_at_call 98; (with_reducible refine hcon.mono ?_); rintro e w5 ⟨v5, rfl, ho5, hb5⟩; have hb45 := hb44.trans (hb5.mono hb44.size); have hasq := ascending_rows w4.heap.size v5 [l1, l2].flatten w5 (own_le ho5 hb44.size) hb45.size (by have h1 := hf1.1; have h2 := hf2.1; simp; omega))
            | (go_at_call 97; (with_reducible refine hasq.mono ?_); rintro e w6 ⟨v6, rfl, ho6, hb6⟩; rw [HCC.out] at ho6; obtain ⟨AU, cU, rfl, hAU⟩ := own_intsAt ho6; have hb46 := hb45.trans hb6; have hbz6 := hbz4.trans (hb46.mono hbz4.size); skip))
          have K6 := Lib.hid ((hb46.block _ (OrbK.box_lt K4)).trans K4)
          have J6 := Lib.hid ((hb46.block _ (OrbK.box_lt J4)).trans J4)
          have hb36 := hb34.trans (hb46.mono hb34.size)
          have R6 := Lib.hid ((hb36.block _ (OrbK.box_lt HK2.out)).trans HK2.out)
          have HAU := Lib.hid hAU
          have HBZ6 := Lib.hid hbz6
          clear b0 b1 b2 n0 n1 n2 hio1 hio2 hcon hasq hb3 hb4 hb34 hb44 hb5 hb45 hb6 hb46 hb36 hbz3 hbz4 J3 K3 J4 K4 ho5 ho6 hAU hIO2 HB0 HK0 HK1 HK2 HCC
          obtain ⟨b0, b1, b2⟩ := OrbK.row3 K6.out
          obtain ⟨n0, n1, n2⟩ := OrbK.row3 J6.out
          have hltk := OrbK.box_lt K6.out
          have hltj := OrbK.box_lt J6.out
          have HS : Hid (∀ W : World, Below w6.heap.size w6 W → (W.cell? ⟨w.heap.size, 0, none⟩ = some (.int .i64 (n : Int)) ∧ W.cell? ⟨w.heap.size, 1, none⟩ = some (.slice A1 l1.length c1) ∧ W.cell? ⟨w.heap.size, 2, none⟩ = some (.slice B1 m1.length d1)) ∧ W.cell? ⟨w.heap.size + 1, 0, none⟩ = some (.int .i64 (n : Int)) ∧ W.cell? ⟨w.heap.size + 1, 1, none⟩ = some (.slice A2 l2.length c2) ∧ W.cell? ⟨w.heap.size + 1, 2, none⟩ = some (.slice B2 m2.length d2)) :=
            Lib.hid (fun W h => ⟨⟨(h.cell (p := ⟨w.heap.size, 0, none⟩) hltk).trans b0, (h.cell (p := ⟨w.heap.size, 1, none⟩) hltk).trans b1, (h.cell (p := ⟨w.heap.size, 2, none⟩) hltk).trans b2⟩, (h.cell (p := ⟨w.heap.size + 1, 0, none⟩) hltj).trans n0, (h.cell (p := ⟨w.heap.size + 1, 1, none⟩) hltj).trans n1, (h.cell (p := ⟨w.heap.size + 1, 2, none⟩) hltj).trans n2⟩)
          clear b0 b1 b2 n0 n1 n2 hltk hltj
          have hec1 := fun (W : World) (h : Below w6.heap.size w6 W) => hex1 W (HBZ6.out.trans (h.mono HBZ6.out.size)) AU cU (HAU.out.below h)
          have hec2 := fun (W : World) (h : Below w6.heap.size w6 W) => hex2 W (HBZ6.out.trans (h.mono HBZ6.out.size)) AU cU (HAU.out.below h)
          clear hex1 hex2 hbz6
          try go_wp2_with fail
          go_cut [9, 10] (fun s t wx => TabRel2 w6 f1 f2 s t wx)
          case first =>
            have hz0 : Below w6.heap.size w6 w6.drew := grow_drew (Below.refl _ _)
            have hz1 : Below w6.heap.size w6 (w6.alloc (.cells Try.zeroCells59 59)).drew := grow_drew (grow_alloc (Below.refl _ _) _)
            have hz2 : Below w6.heap.size w6 ((w6.alloc (.cells Try.zeroCells59 59)).alloc (.cells Try.zeroCells59 59)).drew := grow_drew (grow_alloc (grow_alloc (Below.refl _ _) _) _)
            have hc10 := hec1 _ hz0
            have hc11 := hec1 _ hz1
            have hc12 := hec1 _ hz2
            have tz1 := (tab_new w6).drew
            have ty1 := ((tab_new w6).alloc (.cells Try.zeroCells59 59)).drew
            have ty2 := (tab_next w6).drew
            go_region_held3 (fun w' => (w'.cell? ⟨w.heap.size, 0, none⟩ = some (.int .i64 (n : Int)) ∧ w'.cell? ⟨w.heap.size, 1, none⟩ = some (.slice A1 l1.length c1) ∧ w'.cell? ⟨w.heap.size, 2, none⟩ = some (.slice B1 m1.length d1)) ∧ w'.cell? ⟨w.heap.size + 1, 0, none⟩ = some (.int .i64 (n : Int)) ∧ w'.cell? ⟨w.heap.size + 1, 1, none⟩ = some (.slice A2 l2.length c2) ∧ w'.cell? ⟨w.heap.size + 1, 2, none⟩ = some (.slice B2 m2.length d2))
              ((refine HS.out _ ?_; (repeat (first | assumption | refine grow_drew ?_ | refine grow_alloc ?_ _ | refine grow_cells ?_ (by omega) _ | exact Below.refl _ _))))
              (first
              | (go_at_call 58; (with_reducible refine hc10.mono ?_); rintro e wa ⟨rfl, hba⟩; have hn0 : True := trivial; have fra := hz0.trans (hba.mono hz0.size); have sza := fra.size; have h20 := hec2 wa fra; have h21 := hec2 (wa.alloc (.cells Try.zeroCells59 59)) (grow_alloc fra _); have h22 := hec2 ((wa.alloc (.cells Try.zeroCells59 59)).alloc (.cells Try.zeroCells59 59)) (grow_alloc (grow_alloc fra _) _))
              | (go_at_call 58; (with_reducible refine hc11.mono ?_); rintro e wa ⟨rfl, hba⟩; have hn1 : True := trivial; have fra := hz1.trans (hba.mono hz1.size); have sza := fra.size; have p1 := tz1.below hba; have pl := p1.lt; have h20 := hec2 wa fra; have h21 := hec2 (wa.alloc (.cells Try.zeroCells59 59)) (grow_alloc fra _))
              | (go_at_call 58; (with_reducible refine hc12.mono ?_); rintro e wa ⟨rfl, hba⟩; have hn2 : True := trivial; have fra := hz2.trans (hba.mono hz2.size); have sza := fra.size; have p1 := ty1.below hba; have pl := p1.lt; have p2 := ty2.below hba; have h20 := hec2 wa fra)
              | (go_at_call 58; (have hn : True := hn0); (with_reducible refine h20.mono ?_); rintro e wb ⟨rfl, hbb⟩; have frb := fra.trans (hbb.mono fra.size); have szb := frb.size; have szc := hbb.size; have t1 : TabAt ((wb.alloc (.cells Try.zeroCells59 59)).alloc (.cells Try.zeroCells59 59)) (wb.heap.size) (fun _ => false) := ((tab_new wb).alloc (.cells Try.zeroCells59 59)); have t2 : TabAt ((wb.alloc (.cells Try.zeroCells59 59)).alloc (.cells Try.zeroCells59 59)) (wb.heap.size + 1) (fun _ => false) := (tab_next wb); have hne : wb.heap.size ≠ wb.heap.size + 1 := (by omega); have hg1 : w6.heap.size ≤ wb.heap.size := (by omega); have hg2 : w6.heap.size ≤ wb.heap.size + 1 := (by omega); have grx := (grow_alloc (grow_alloc frb (.cells Try.zeroCells59 59)) (.cells Try.zeroCells59 59)); have s1 := t1.there HL1q.out; have s2 := t2.there HL1q.out; have s3 := (t2.cells_other hne.symm L1 0).there HL2q.out; have s4 := (t1.cells_other hne L1 0).there HL2q.out; have R12 := tabRel2_of t1 t2 HE1.out HE2.out hne hg1 hg2 grx; have R21 := tabRel2_of t2 t1 HE1.out HE2.out hne.symm hg2 hg1 grx; clear hg1 hg2 t1 t2)
              | (go_at_call 58; (have hn : True := hn0); (with_reducible refine h21.mono ?_); rintro e wb ⟨rfl, hbb⟩; have frb := (grow_alloc fra (.cells Try.zeroCells59 59)).trans (hbb.mono (grow_alloc fra (.cells Try.zeroCells59 59)).size); have szb := frb.size; have szc := hbb.size; (try simp only [World.size_alloc] at szc); have t1 : TabAt (wb.alloc (.cells Try.zeroCells59 59)) (wa.heap.size) (fun _ => false) := (((tab_new wa).below hbb).alloc (.cells Try.zeroCells59 59)); have t2 : TabAt (wb.alloc (.cells Try.zeroCells59 59)) (wb.heap.size) (fun _ => false) := (tab_new wb); have hne : wa.heap.size ≠ wb.heap.size := (by omega); have hg1 : w6.heap.size ≤ wa.heap.size := (by omega); have hg2 : w6.heap.size ≤ wb.heap.size := (by omega); have grx := (grow_alloc frb (.cells Try.zeroCells59 59)); have s1 := t1.there HL1q.out; have s2 := t2.there HL1q.out; have s3 := (t2.cells_other hne.symm L1 0).there HL2q.out; have s4 := (t1.cells_other hne L1 0).there HL2q.out; have R12 := tabRel2_of t1 t2 HE1.out HE2.out hne hg1 hg2 grx; have R21 := tabRel2_of t2 t1 HE1.out HE2.out hne.symm hg2 hg1 grx; clear hg1 hg2 t1 t2)
              | (go_at_call 58; (have hn : True := hn0); (with_reducible refine h22.mono ?_); rintro e wb ⟨rfl, hbb⟩; have frb := (grow_alloc (grow_alloc fra (.cells Try.zeroCells59 59)) (.cells Try.zeroCells59 59)).trans (hbb.mono (grow_alloc (grow_alloc fra (.cells Try.zeroCells59 59)) (.cells Try.zeroCells59 59)).size); have szb := frb.size; have szc := hbb.size; (try simp only [World.size_alloc] at szc); have t1 : TabAt wb (wa.heap.size) (fun _ => false) := (((tab_new wa).alloc (.cells Try.zeroCells59 59)).below hbb); have t2 : TabAt wb (wa.heap.size + 1) (fun _ => false) := ((tab_next wa).below hbb); have hne : wa.heap.size ≠ wa.heap.size + 1 := (by omega); have hg1 : w6.heap.size ≤ wa.heap.size := (by omega); have hg2 : w6.heap.size ≤ wa.heap.size + 1 := (by omega); have grx := frb; have s1 := t1.there HL1q.out; have s2 := t2.there HL1q.out; have s3 := (t2.cells_other hne.symm L1 0).there HL2q.out; have s4 := (t1.cells_other hne L1 0).there HL2q.out; have R12 := tabRel2_of t1 t2 HE1.out HE2.out hne hg1 hg2 grx; have R21 := tabRel2_of t2 t1 HE1.out HE2.out hne.symm hg2 hg1 grx; clear hg1 hg2 t1 t2)
              | (go_at_call 58; (have hn : True := hn1); (with_reducible refine h20.mono ?_); rintro e wb ⟨rfl, hbb⟩; have frb := fra.trans (hbb.mono fra.size); have szb := frb.size; have szc := hbb.size; have t1 : TabAt (wb.alloc (.cells Try.zeroCells59 59)) (w6.heap.size) (fun _ => false) := ((p1.below hbb).alloc (.cells Try.zeroCells59 59)); have t2 : TabAt (wb.alloc (.cells Try.zeroCells59 59)) (wb.heap.size) (fun _ => false) := (tab_new wb); have hne : w6.heap.size ≠ wb.heap.size := (by omega); have hg1 : w6.heap.size ≤ w6.heap.size := (by omega); have hg2 : w6.heap.size ≤ wb.heap.size := (by omega); have grx := (grow_alloc frb (.cells Try.zeroCells59 59)); have s1 := t1.there HL1q.out; have s2 := t2.there HL1q.out; have s3 := (t2.cells_other hne.symm L1 0).there HL2q.out; have s4 := (t1.cells_other hne L1 0).there HL2q.out; have R12 := tabRel2_of t1 t2 HE1.out HE2.out hne hg1 hg2 grx; have R21 := tabRel2_of t2 t1 HE1.out HE2.out hne.symm hg2 hg1 grx; clear hg1 hg2 t1 t2)
              | (go_at_call 58; (have hn : True := hn1); (with_reducible refine h21.mono ?_); rintro e wb ⟨rfl, hbb⟩; have frb := (grow_alloc fra (.cells Try.zeroCells59 59)).trans (hbb.mono (grow_alloc fra (.cells Try.zeroCells59 59)).size); have szb := frb.size; have szc := hbb.size; (try simp only [World.size_alloc] at szc); have t1 : TabAt wb (w6.heap.size) (fun _ => false) := ((p1.alloc (.cells Try.zeroCells59 59)).below hbb); have t2 : TabAt wb (wa.heap.size) (fun _ => false) := ((tab_new wa).below hbb); have hne : w6.heap.size ≠ wa.heap.size := (by omega); have hg1 : w6.heap.size ≤ w6.heap.size := (by omega); have hg2 : w6.heap.size ≤ wa.heap.size := (by omega); have grx := frb; have s1 := t1.there HL1q.out; have s2 := t2.there HL1q.out; have s3 := (t2.cells_other hne.symm L1 0).there HL2q.out; have s4 := (t1.cells_other hne L1 0).there HL2q.out; have R12 := tabRel2_of t1 t2 HE1.out HE2.out hne hg1 hg2 grx; have R21 := tabRel2_of t2 t1 HE1.out HE2.out hne.symm hg2 hg1 grx; clear hg1 hg2 t1 t2)
              | (go_at_call 58; (have hn : True := hn2); (with_reducible refine h20.mono ?_); rintro e wb ⟨rfl, hbb⟩; have frb := fra.trans (hbb.mono fra.size); have szb := frb.size; have szc := hbb.size; have t1 : TabAt wb (w6.heap.size) (fun _ => false) := (p1.below hbb); have t2 : TabAt wb (w6.heap.size + 1) (fun _ => false) := (p2.below hbb); have hne : w6.heap.size ≠ w6.heap.size + 1 := (by omega); have hg1 : w6.heap.size ≤ w6.heap.size := (by omega); have hg2 : w6.heap.size ≤ w6.heap.size + 1 := (by omega); have grx := frb; have s1 := t1.there HL1q.out; have s2 := t2.there HL1q.out; have s3 := (t2.cells_other hne.symm L1 0).there HL2q.out; have s4 := (t1.cells_other hne L1 0).there HL2q.out; have R12 := tabRel2_of t1 t2 HE1.out HE2.out hne hg1 hg2 grx; have R21 := tabRel2_of t2 t1 HE1.out HE2.out hne.symm hg2 hg1 grx; clear hg1 hg2 t1 t2)
              | fail)
            all_goals
              go_wp2_with fail
              go_meet
              first
                | exact R12
                | exact R21
          case rest =>
            obtain ⟨g, h, rfl, rfl, ht1, ht2, hne, hg, hh, hbx⟩ := hcut
            have KT1 : Hid (TabAt wc g (botF false f1 f2 0)) := Lib.hid (ht1.ext fun i _ => botF_zero _ _ _ _)
            have KT2 := Lib.hid ht2
            clear ht1 ht2 HS hec1 hec2 hi1 hi2 hone1 hone2 HL1q HL2q
            have hgs := hg
            go_wp2
            go_loopw [11, 45] (fun _ i wr => ∃ k : Nat, k ≤ 4096 ∧ i = .int .i64 k ∧ Hid (TabAt wr g (botF false f1 f2 k)) ∧ Hid (TabAt wr h f2) ∧ Below w6.heap.size w6 wr) (fun _ i _ => 4096 - (intOf i).toNat)
            case atStart => exact ⟨0, by omega, rfl, KT1, KT2, hbx⟩
            case round =>
              clear KT1 KT2 hbx
              obtain ⟨k, hk, rfl, hT1, hT2, hb⟩ := hrel
              by_cases hlt : k < 4096
              · have hki : (k : Int) < 4096 := by omega
                have hk0 : (0 : Int) ≤ (k : Int) := by omega
                have HST := Lib.hid (fun (W : World) (h1 : TabAt W g (botF false f1 f2 k)) => (h1.set_ hlt (bothB false (f1 k) (f2 k))).ext fun i _ => botF_next false f1 f2 k i)
                go_wp2
                refine wp_region_still_tail 10 (by kernel_rfl) (by kernel_rfl) ?_
                simp only [List.take_succ_cons, List.take_zero, List.drop_succ_cons, List.drop_zero]
                have hd3 : Below wr.heap.size wr ({ wr with drawn := wr.drawn + 1 } : World) := ⟨rfl, rfl, rfl, Nat.le_refl _, fun _ _ => rfl⟩
                generalize ({ wr with drawn := wr.drawn + 1 } : World) = W3 at hd3 ⊢
                have u1 := hT1.out.below hd3
                have u2 := hT2.out.below hd3
                have q1 := u1.cell hlt
                rw [botF_at] at q1
                have q2 := u2.cell hlt
                have q3 := u1.frozen k
                have hkp := ((keepAnd_any (f1 k) (f2 k) W3)).mono (fun _ _ (h : _ ∧ _) => (⟨h.1, h.2.symm⟩ : _ ∧ _))
                have U1 := Lib.hid (HST.out W3 u1)
                have U2 := Lib.hid (u2.only ((Only.refl _ _).set (S := [g]) ⟨g, k, none⟩ (.bool (bothB false (f1 k) (f2 k))) (by simp)) (by simpa using hne.symm))
                have hbw : Below w6.heap.size w6 (W3.setCell ⟨g, k, none⟩ (.bool (bothB false (f1 k) (f2 k)))) := (hb.trans (hd3.mono hb.size)).setCell (p := ⟨g, k, none⟩) hg _
                generalize bothB false (f1 k) (f2 k) = bb at hkp U1 U2 hbw
                generalize f1 k = fa at hkp q1
                generalize f2 k = fb at hkp q2
                clear u1 u2 hT1 hT2 hb hd3 HST
                iterate 8 still_step
                still_call hkp
                still_step
                refine wpStill_nil ?_
                clear hkp q2
                go_wp2
                refine ⟨⟨k + 1, by omega, by go_num, U1, U2, hbw⟩, ?_⟩
                simp only [intOf]
                omega
              · have e : k = 4096 := by omega
                subst e
                have hT : TabAt wr g f3 := hT1.out.ext HTB.out
                unfold TabAt at hT
                have HT := Lib.hid hT
                have HI2 := Lib.hid (show (Try.prog.info? 59).map (·.size) = some (tabV f3).size by rw [tabV_size]; exact tab_info)
                have hr := (hb.block _ (OrbK.box_lt K6.out)).trans K6.out
                have hq := (hb.block _ (OrbK.box_lt R6.out)).trans R6.out
                have hsq := hso wr AU cU (HAU.out.below hb)
                have hbW := HBZ6.out.trans (hb.mono HBZ6.out.size)
                obtain ⟨b0, b1, b2⟩ := OrbK.row3 hr
                clear hT hT1 hT2 hso HTB hb
                generalize tabV f3 = cs3 at HT HI2 hsq
                go_wp2_with (first
                  | (refine wpList_load_row rfl 59 (.tmp 9) rfl g rfl _ cs3 _ _ HT.out hu rfl HI2.out ?_)
                  | (go_at_call 45; (with_reducible refine hsq.mono ?_); rintro e w9 ⟨A4, c4, A7, c7, S9, rfl, hL9, hS9, hb9⟩; have hr9 := (hb9.block _ (OrbK.box_lt hq)).trans hq; obtain ⟨x0, x1, x2⟩ := OrbK.row3 hr9; obtain ⟨y0, y1, y2⟩ := z3At hr9))
                have hpost := orbB_of true (orb_pass (r := w.heap.size + 1 + 1) hL9 (hbW.trans (hb9.mono hbW.size)) (show w.heap.size ≤ w.heap.size + 1 + 1 by omega) (fun b h => by have h1 := hS9 b h; have h2 := OrbK.box_lt hq; have h3 := hbW.size; omega))
                clear hsq hL9 hS9 hb9 hr9 hr hq b0 b1 b2 hbW
                go_wp2
                exact bodyPost_ret (v := .tuple #[.agg #[.int .i64 (n : Int), .slice A4 U.length c4, .slice A7 R.length c7], .bool true]) (by simp [results, Try.results71, go_sem, x0, x1, x2]) rfl (by rw [HKK.out]; exact hpost)
      · have hzn : (z1 != z2) = true := by simpa using hz
        have hkk : bothOk z1 l1 m1 z2 l2 m2 = false := by simp [bothOk, hz]
        clear ho1 ho2
        go_enter Try.func71, Try.ntmps71
        go_wp2_with (first
          | (go_at_call 25; (with_reducible refine hio1.mono ?_); rintro e w3 ⟨rfl, hb3⟩; have hbz3 := HB0.out.trans (hb3.mono HB0.out.size); have J3 := (hb3.block _ (OrbK.box_lt HK1.out)).trans HK1.out; have K3 := (hb3.block _ (OrbK.box_lt HK0.out)).trans HK0.out; clear b0 b1 b2 n0 n1 n2; obtain ⟨n0, n1, n2⟩ := OrbK.row3 J3; obtain ⟨b0, b1, b2⟩ := OrbK.row3 K3; have hio2 := hIO2 w3 hbz3)
          | (go_at_call 25; (with_reducible refine hio2.mono ?_); rintro e w4 ⟨rfl, hb4⟩; have hb34 := hb3.trans (hb4.mono hb3.size); have hbz4 := hbz3.trans (hb4.mono hbz3.size); have K4 := (hb4.block _ (OrbK.box_lt K3)).trans K3; have J4 := (hb4.block _ (OrbK.box_lt J3)).trans J3; clear b0 b1 b2 n0 n1 n2; obtain ⟨b0, b1, b2⟩ := OrbK.row3 K4; obtain ⟨n0, n1, n2⟩ := OrbK.row3 J4; have r2 := (hb34.block _ (OrbK.box_lt HK2.out)).trans HK2.out; obtain ⟨x0, x1, x2⟩ := OrbK.row3 r2; obtain ⟨y0, y1, y2⟩ := z3At r2))
        have hbz := hbz4
        have hpost := orbB_zero (((hbz.setCell (p := ⟨w.heap.size + 1 + 1, 0, none⟩) (show w.heap.size ≤ w.heap.size + 1 + 1 by omega) (.int .i64 0)).setCell (p := ⟨w.heap.size + 1 + 1, 1, none⟩) (show w.heap.size ≤ w.heap.size + 1 + 1 by omega) (.slice none 0 0)).setCell (p := ⟨w.heap.size + 1 + 1, 2, none⟩) (show w.heap.size ≤ w.heap.size + 1 + 1 by omega) (.slice none 0 0))
        clear hio1 hio2 hb3 hb4 hb34 b0 b1 b2 n0 n1 n2 hbz3 hbz hIO2 r2 J3 K3 J4 K4
        go_wp2
        exact bodyPost_ret (v := .tuple #[.agg #[.int .i64 0, .slice none 0 0, .slice none 0 0], .bool false]) (by simp [results, Try.results71, go_sem, x0, x1, x2]) rfl (by rw [hkk]; exact hpost)
end Go.Proofs.Ytnamlgacjhnpnaa
end

