/-
  Both of two tables: plain words and small laws for joinedSets of the program. An orbit set told by fewer constants: plain words, no program is walked here. Two valid orbit sets of one width, and a tuple, that the model draws: contracts. What an orbit set and its complement have: plain words. What a permutation makes of an orbit set: plain words, no program is walked here. What the laws' own act makes of a list of atoms, as a contract.
-/
import Derived.Test.YtnamlgacjhnpnaaGreatKSetActed21
import Derived.Test.YtnamlgacjhnpnaaGreatKSetActed19
import Derived.Test.YtnamlgacjhnpnaaGreatKSetActed25
import Derived.StillTailTactics
import Derived.Test.YtnamlgacjhnpnaaGreatKSetActed18
import Derived.Test.YtnamlgacjhnpnaaGreatKSetActed15
import Derived.Test.YtnamlgacjhnpnaaGreatKSetActed5
import Derived.Test.YtnamlgacjhnpnaaGreatKSetActed4
section
namespace Go.Proofs.YtnamlgacjhnpnaaGreat
open Go.RowKit Go.Sort
set_option linter.unusedVariables false

theorem ascB_of {l : List Int} (h : AscP l) : ascB l = true := ascB_yes fun k h0 hk => by
  rw [itAt_get l (k - 1) (by omega), itAt_get l k hk]
  exact List.pairwise_iff_getElem.1 h (k - 1) k (by omega) hk (by omega)
theorem atoms_of {l : List Int} (h : constB l = true) : ∀ x ∈ l, atomB x = true := by
  intro x hx
  unfold constB at h
  simp only [Bool.and_eq_true] at h
  have h1 := h.2.1
  unfold atomsB at h1
  exact List.all_eq_true.1 h1 x hx
end Go.Proofs.YtnamlgacjhnpnaaGreat
end

section
namespace Go.Proofs.YtnamlgacjhnpnaaGreat
open Go.RowKit
set_option linter.unusedVariables false

theorem lex_snoc : ∀ (p : List Int) (x y : Int), x < y → lexLt (p ++ [x]) (p ++ [y]) = true
  | [], x, y, h => by
    simp [lexLt, h]
    omega
  | a :: r, x, y, h => by
    have := lex_snoc r x y h
    simp [lexLt, this]
theorem lex_longer : ∀ (p q : List Int) (x y : Int), p.length = q.length → lexLt p q = true → lexLt (p ++ [x]) (q ++ [y]) = true
  | [], [], x, y, _, h => by simp [lexLt] at h
  | [], b :: s, x, y, hl, h => by simp at hl
  | a :: r, [], x, y, hl, h => by simp at hl
  | a :: r, b :: s, x, y, hl, h => by
    have hl' : r.length = s.length := by simpa using hl
    have ih := lex_longer r s x y hl'
    simp only [List.cons_append, lexLt] at h ⊢
    by_cases e : a = b
    · simp only [e, if_true] at h ⊢
      exact ih h
    · simpa [e] using h
theorem allP_lex {k : Int} (hk : 0 ≤ k) : ∀ w, (allP w k).Pairwise fun a b => lexLt a b = true
  | 0 => by simp [allP]
  | w + 1 => by
    rw [allP, List.pairwise_flatMap]
    refine ⟨fun p _ => ?_, ?_⟩
    · unfold extP
      rw [List.pairwise_map]
      exact List.pairwise_lt_range.imp fun h => lex_snoc p _ _ (by omega)
    · refine (allP_lex hk w).imp_of_mem fun {a b} ha hb h => ?_
      intro x hx y hy
      unfold extP at hx hy
      obtain ⟨i, _, rfl⟩ := List.mem_map.1 hx
      obtain ⟨j, _, rfl⟩ := List.mem_map.1 hy
      exact lex_longer a b _ _ (by rw [((mem_allP hk).1 ha).1, ((mem_allP hk).1 hb).1]) h
theorem orb_filter {n : Nat} {l : List Int} (hn : n ≤ 4) (hl : constB l = true) (f : List Int → Bool) : orbB n l ((allP n l.length).filter f) = true := by
  have hk : (0 : Int) ≤ (l.length : Int) := by omega
  unfold orbB
  rw [Bool.and_eq_true, Bool.and_eq_true]
  refine ⟨widB_iff.2 (by omega), hl, rowsOk_yes fun i hi => ?_⟩
  have hs : ((allP n l.length).filter f).Pairwise fun a b => lexLt a b = true := (allP_lex hk n).sublist List.filter_sublist
  have hm : rwAt ((allP n l.length).filter f) i ∈ allP n l.length := by
    rw [rwAt_get _ _ hi]
    exact (List.mem_filter.1 (List.getElem_mem hi)).1
  obtain ⟨h1, h2⟩ := (mem_allP hk).1 hm
  unfold rowOkB
  rw [h2, h1]
  by_cases h0 : i = 0
  · simp [h0]
  · have h3 := List.pairwise_iff_getElem.1 hs (i - 1) i (by omega) hi (by omega)
    rw [rwAt_get _ (i - 1) (by omega), rwAt_get _ i hi, h3]
    simp
/-- The constants but one. -/
def restL (cs : List Int) (c : Int) : List Int := cs.filter fun a => !(a == c)
theorem restL_sub (cs : List Int) (c : Int) : ∀ a ∈ restL cs c, a ∈ cs := fun a h => (List.mem_filter.1 h).1
theorem restL_len (cs : List Int) (c : Int) : (restL cs c).length ≤ cs.length := List.length_filter_le _ _
theorem restL_const {cs : List Int} (c : Int) (h : constB cs = true) : constB (restL cs c) = true := by
  have h1 := const_len h
  have h2 := restL_len cs c
  have h3 : AscP (restL cs c) := (const_asc h).sublist List.filter_sublist
  have h4 : atomsB (restL cs c) = true := by
    unfold atomsB
    rw [List.all_eq_true]
    exact fun x hx => atoms_of h x (restL_sub cs c x hx)
  unfold constB
  rw [ascB_of h3, h4]
  simp
  omega
/-- Told by them: the tuples that have such a pattern. -/
def fewM (n : Nat) (cs : List Int) (M : List (List Int)) (c : Int) : List (List Int) := thoseL n (restL cs c).length (patsL (restL cs c) (exsL cs M))
theorem tab_same {n : Nat} {k : Int} (hk : 0 ≤ k) (hk3 : k ≤ 3) (hn : n ≤ 4) {A B : List (List Int)} (hA : A = thoseL n k A) (hB : B = thoseL n k B) : eqTab (tabOf A) (tabOf B) = decide (A = B) := by
  have hsub : ∀ {X : List (List Int)}, X = thoseL n k X → ∀ p ∈ X, p ∈ allP n k := fun {X} h p hp => by rw [h] at hp; exact thoseL_sub p hp
  rw [Bool.eq_iff_iff, eqTab_iff, decide_eq_true_iff]
  constructor
  · intro h
    rw [hA, hB]
    unfold thoseL
    refine List.filter_congr fun p hp => ?_
    rw [← tabOf_has hk hk3 hn (hsub hA) hp, ← tabOf_has hk hk3 hn (hsub hB) hp]
    exact h _ (code_4096 hk hk3 hn hp)
  · rintro rfl i _
    rfl
theorem normal_filter (n : Nat) (k : Int) (f : List Int → Bool) : (allP n k).filter f = thoseL n k ((allP n k).filter f) := (thoseL_filter n k f).symm
theorem normal_ext (n : Nat) (l : List Int) (m : List (List Int)) (cs : List Int) : extL n l m cs = thoseL n cs.length (extL n l m cs) := normal_filter n cs.length _
theorem normal_few (n : Nat) (cs : List Int) (M : List (List Int)) (c : Int) : fewM n cs M c = thoseL n (restL cs c).length (fewM n cs M c) := normal_filter n (restL cs c).length _
/-- Whether a set is the same without a constant. -/
def keepB (n : Nat) (cs : List Int) (M : List (List Int)) (c : Int) : Bool := decide (extL n (restL cs c) (fewM n cs M c) cs = M)
theorem keep_tab {n : Nat} {cs : List Int} {M : List (List Int)} (c : Int) (hn : n ≤ 4) (hc : constB cs = true) (hM : M = thoseL n cs.length M) : eqTab (tabOf (extL n (restL cs c) (fewM n cs M c) cs)) (tabOf M) = keepB n cs M c :=
  tab_same (by omega) (by have := const_len hc; omega) hn (normal_ext _ _ _ _) hM
/-- One constant less, if it is not needed. -/
def redS (n : Nat) (s : List Int × List (List Int)) (c : Int) : List Int × List (List Int) := if keepB n s.1 s.2 c then (restL s.1 c, fewM n s.1 s.2 c) else s
def redF (n : Nat) (l : List Int) (m : List (List Int)) (k : Nat) : List Int × List (List Int) := (l.take k).foldl (redS n) (l, thoseL n l.length m)
theorem redF_next {n : Nat} {l : List Int} {m : List (List Int)} {k : Nat} (h : k < l.length) : redF n l m (k + 1) = redS n (redF n l m k) (itAt l k) := by
  unfold redF
  rw [itake_next h, List.foldl_append]
  rfl
theorem redF_zero (n : Nat) (l : List Int) (m : List (List Int)) : redF n l m 0 = (l, thoseL n l.length m) := rfl
/-- What stays so. -/
theorem redF_inv {n : Nat} {l : List Int} {m : List (List Int)} (hl : constB l = true) : ∀ k, k ≤ l.length → constB (redF n l m k).1 = true ∧ (redF n l m k).2 = thoseL n (redF n l m k).1.length (redF n l m k).2 ∧ ∀ j, k ≤ j → j < l.length → itAt l j ∈ (redF n l m k).1
  | 0, _ => ⟨hl, normal_filter n l.length _, fun j _ hj => by rw [itAt_get _ _ hj]; exact List.getElem_mem hj⟩
  | k + 1, hk => by
    obtain ⟨h1, h2, h3⟩ := redF_inv (m := m) hl k (by omega)
    rw [redF_next (by omega)]
    unfold redS
    by_cases hb : keepB n (redF n l m k).1 (redF n l m k).2 (itAt l k) = true
    · rw [if_pos hb]
      refine ⟨restL_const _ h1, normal_few _ _ _ _, fun j h4 h5 => ?_⟩
      refine List.mem_filter.2 ⟨h3 j (by omega) h5, ?_⟩
      have hnd := const_nodup hl
      have : itAt l j ≠ itAt l k := fun e => by have := nodup_inj hnd h5 (by omega) e; omega
      simpa using this
    · rw [if_neg hb]
      exact ⟨h1, h2, fun j h4 h5 => h3 j (by omega) h5⟩
def redC (n : Nat) (l : List Int) (m : List (List Int)) : List Int := (redF n l m l.length).1
def redM (n : Nat) (l : List Int) (m : List (List Int)) : List (List Int) := (redF n l m l.length).2
def redCz (z : Int) (l : List Int) (m : List (List Int)) : List Int := redC z.toNat l m
def redMz (z : Int) (l : List Int) (m : List (List Int)) : List (List Int) := redM z.toNat l m
theorem orb_normal {n : Nat} {l : List Int} {M : List (List Int)} (hn : n ≤ 4) (hl : constB l = true) (hM : M = thoseL n l.length M) : orbB n l M = true := by rw [hM]; exact orb_filter hn hl _
theorem normal_fit {n : Nat} {k : Int} (hk : 0 ≤ k) (hk3 : k ≤ 3) (hn : n ≤ 4) {M : List (List Int)} (hM : M = thoseL n k M) : M.length + sumR M ≤ 32768 := by rw [hM]; exact filter_fit hk hk3 hn _
end Go.Proofs.YtnamlgacjhnpnaaGreat
end

section
namespace Go.Proofs.YtnamlgacjhnpnaaGreat
open Go.RowKit Go.Sort
set_option linter.unusedVariables false

namespace DrawN
theorem drawn_const {cs : List Int} (h : cs.length ≤ 3) (ha : AscP cs) (hs : Small cs) : constB cs = true := by
  have h4 : atomsB cs = true := by
    unfold atomsB
    rw [List.all_eq_true]
    intro x hx
    have := hs x hx
    unfold atomB
    simp
    omega
  unfold constB
  rw [ascB_of ha, h4]
  simp
  omega
theorem small_tup {t : List Int} (h : t.length ≤ 4) (hs : Small t) : tupB t = true := by
  rw [tupB_is h]
  unfold atomsB
  rw [List.all_eq_true]
  intro x hx
  have := hs x hx
  unfold atomB
  simp
  omega
/-- A valid orbit set that is told by all its patterns in order. -/
def Valid (n : Nat) (cs : List Int) (M : List (List Int)) : Prop := constB cs = true ∧ M = thoseL n cs.length M
/-- Two valid orbit sets of one width. -/
def Sets (w : World) (e : Ending) (w' : World) : Prop :=
  ∃ (n : Nat) (cs1 cs2 : List Int) (M1 M2 : List (List Int)) (A1 B1 A2 B2 : Option Addr) (c1 d1 c2 d2 : Nat), e = .returned (.tuple #[.agg #[.int .i64 (n : Int), .slice A1 cs1.length c1, .slice B1 M1.length d1], .agg #[.int .i64 (n : Int), .slice A2 cs2.length c2, .slice B2 M2.length d2]]) ∧
    n ≤ 3 ∧ cs1.length ≤ 1 ∧ cs2.length ≤ 2 ∧ Valid n cs1 M1 ∧ Valid n cs2 M2 ∧
    OrbIx w' (.agg #[.int .i64 (n : Int), .slice A1 cs1.length c1, .slice B1 M1.length d1]) n cs1 M1 ∧ OrbIx w' (.agg #[.int .i64 (n : Int), .slice A2 cs2.length c2, .slice B2 M2.length d2]) n cs2 M2 ∧ Below w.heap.size w w' ∧ Small cs1 ∧ Small cs2
theorem bytes_more {w w' : World} {A : Option Addr} {n : Nat} (h : BytesIn w A n) (hb : Below w.heap.size w w') : BytesIn w' A n := by
  have h1 : BytesAt w' w.heap.size A n := BytesAt.keep h hb.block
  intro j hj
  obtain ⟨b, off, x, e, hlt, hx, hc⟩ := h1 j hj
  exact ⟨b, off, x, e, Nat.lt_of_lt_of_le hlt hb.size, hx, hc⟩
end DrawN

set_option maxRecDepth 100000 in
set_option maxHeartbeats 4000000 in
theorem drawSets_any (A : Option Addr) (n c : Nat) (w : World) (hA : BytesIn w A n) (hn : n ≤ 1048576) :
    Calls Tryz.prog 7 #[.slice A n c] w (DrawN.Sets w) := by
  have hb0 : Below w.heap.size w ((w.alloc (.cells #[.int .i64 0, .slice none 0 0, .slice none 0 0] 27)).alloc (.cells #[.int .i64 0, .slice none 0 0, .slice none 0 0] 27)) := ((Below.refl _ _).alloc (Nat.le_refl _) _).alloc (by simp) _
  have k0 : ((w.alloc (.cells #[.int .i64 0, .slice none 0 0, .slice none 0 0] 27)).alloc (.cells #[.int .i64 0, .slice none 0 0, .slice none 0 0] 27)).heap[w.heap.size]? = some (.cells #[.int .i64 0, .slice none 0 0, .slice none 0 0] 27 (0, 0)) := (Below.heap_alloc _ _ _ (by simp)).trans (heap_alloc_new w _)
  have k1 : ((w.alloc (.cells #[.int .i64 0, .slice none 0 0, .slice none 0 0] 27)).alloc (.cells #[.int .i64 0, .slice none 0 0, .slice none 0 0] 27)).heap[w.heap.size + 1]? = some (.cells #[.int .i64 0, .slice none 0 0, .slice none 0 0] 27 (0, 0)) := by
    have h := heap_alloc_new (w.alloc (.cells #[.int .i64 0, .slice none 0 0, .slice none 0 0] 27)) (.cells #[.int .i64 0, .slice none 0 0, .slice none 0 0] 27)
    rw [World.size_alloc] at h
    exact h
  have hz0 : ((w.alloc (.cells #[.int .i64 0, .slice none 0 0, .slice none 0 0] 27)).alloc (.cells #[.int .i64 0, .slice none 0 0, .slice none 0 0] 27)).heap.size = w.heap.size + 2 := by simp
  have hnew := l1New_any A n c _ (DrawN.bytes_more hA hb0) hn
  have HB0 := Lib.hid hb0
  have HK0 := Lib.hid k0
  have HK1 := Lib.hid k1
  have HZ0 := Lib.hid hz0
  clear hA hb0 k0 k1 hz0
  go_enter Tryz.func7, Tryz.ntmps7
  go_wp2_with fail
  refine hnew.mono ?_
  rintro e w1 ⟨C, rfl, hc1, hb1⟩
  have hBC := DrawN.cur_base hc1
  rw [HZ0.out] at hc1 hBC
  have hC1 := hc1.lt
  have hbz1 := HB0.out.trans (hb1.mono HB0.out.size)
  have K1 := Lib.hid ((hb1.block _ (OrbK.box_lt HK0.out)).trans HK0.out)
  have J1 := Lib.hid ((hb1.block _ (OrbK.box_lt HK1.out)).trans HK1.out)
  have hbl := l1Below_int (w.heap.size + 2) C 4 w1 hc1 (by omega) (by omega)
  clear hnew hb1 HB0 HK0 HK1 HZ0 hc1
  go_wp2_with fail
  refine hbl.mono ?_
  rintro e w2 ⟨x, hx, rfl, hd2⟩
  have hC2 := hd2.1.lt
  have hdr1 := l6Draw_any (w.heap.size + 2) C x (by omega) 1 (by omega) w2 hd2.1
  clear hbl
  go_wp2_with fail
  refine hdr1.mono ?_
  rintro e w3 ⟨cs1, M1, A1, c1, B1, d1, S1, rfl, hl1, ha1, hm1, hn1, hL1, hS1, hd3⟩
  have hC3 := hd3.1.lt
  have hdr2 := l6Draw_any (w.heap.size + 2) C x (by omega) 2 (by omega) w3 hd3.1
  clear hdr1
  have HL1 := Lib.hid hL1
  have HA1 := Lib.hid ha1
  have HM1 := Lib.hid hm1
  have HN1 := Lib.hid hn1
  clear hL1 ha1 hm1 hn1
  go_wp2_with fail
  refine hdr2.mono ?_
  rintro e w4 ⟨cs2, M2, A2, c2, B2, d2, S2, rfl, hl2, ha2, hm2, hn2, hL2, hS2, hd4⟩
  have hD := (hd2.trans hd3).trans hd4
  have on := DrawN.drew_only hD
  have K4 := (on.block _ (OrbK.box_lt K1.out) (by simp; omega)).trans K1.out
  have J4 := (on.block _ (OrbK.box_lt J1.out) (by simp; omega)).trans J1.out
  have hb4 : Below w.heap.size w w4 := hbz1.grown hD.2 hbz1.size (fun k hk => by injection hk with hk; omega)
  have on4 := DrawN.drew_only hd4
  have hs12 := hd2.2.size
  have hs23 := hd3.2.size
  have hlk := OrbK.box_lt K1.out
  have hlj := OrbK.box_lt J1.out
  have hL1b := HL1.out.alike (w' := w4) fun b hb => on4.block b (HL1.out.lt b hb) (by have := hS1 b hb; simp; omega)
  have onF : Only [w.heap.size, w.heap.size + 1] w4 ((((((w4.setCell ⟨w.heap.size, 0, none⟩ (.int .i64 (x : Int))).setCell ⟨w.heap.size, 1, none⟩ (.slice A1 cs1.length c1)).setCell ⟨w.heap.size, 2, none⟩ (.slice B1 M1.length d1)).setCell ⟨w.heap.size + 1, 0, none⟩ (.int .i64 (x : Int))).setCell ⟨w.heap.size + 1, 1, none⟩ (.slice A2 cs2.length c2)).setCell ⟨w.heap.size + 1, 2, none⟩ (.slice B2 M2.length d2)) :=
    ((((((Only.refl _ _).set ⟨w.heap.size, 0, none⟩ _ (by simp)).set ⟨w.heap.size, 1, none⟩ _ (by simp)).set ⟨w.heap.size, 2, none⟩ _ (by simp)).set ⟨w.heap.size + 1, 0, none⟩ _ (by simp)).set ⟨w.heap.size + 1, 1, none⟩ _ (by simp)).set ⟨w.heap.size + 1, 2, none⟩ _ (by simp)
  have hbF := Only.below hb4 onF hb4.size (fun b hb => by simp at hb; omega)
  have o1 := orbOut_ix (hL1b.alike fun b hb => onF.block b (hL1b.lt b hb) (by have := hS1 b hb; simp; omega))
  have o2 := orbOut_ix (hL2.alike fun b hb => onF.block b (hL2.lt b hb) (by have := hS2 b hb; simp; omega))
  obtain ⟨s0, s1, s2⟩ := OrbK.row3 K4
  obtain ⟨r0, r1, r2⟩ := OrbK.row3 J4
  obtain ⟨y0, y1, y2⟩ := z3At K4
  obtain ⟨z0, z1, z2⟩ := z3At J4
  have hpost : Hid (DrawN.Sets w (.returned (.tuple #[.agg #[.int .i64 (x : Int), .slice A1 cs1.length c1, .slice B1 M1.length d1], .agg #[.int .i64 (x : Int), .slice A2 cs2.length c2, .slice B2 M2.length d2]])) ((((((w4.setCell ⟨w.heap.size, 0, none⟩ (.int .i64 (x : Int))).setCell ⟨w.heap.size, 1, none⟩ (.slice A1 cs1.length c1)).setCell ⟨w.heap.size, 2, none⟩ (.slice B1 M1.length d1)).setCell ⟨w.heap.size + 1, 0, none⟩ (.int .i64 (x : Int))).setCell ⟨w.heap.size + 1, 1, none⟩ (.slice A2 cs2.length c2)).setCell ⟨w.heap.size + 1, 2, none⟩ (.slice B2 M2.length d2))) :=
    Lib.hid ⟨x, cs1, cs2, M1, M2, A1, B1, A2, B2, c1, d1, c2, d2, rfl, by omega, hl1, hl2, ⟨DrawN.drawn_const (by omega) HA1.out HM1.out, HN1.out⟩, ⟨DrawN.drawn_const (by omega) ha2 hm2, hn2⟩, o1, o2, hbF, HM1.out, hm2⟩
  clear hdr2 hL2 ha2 hm2 hn2 hL1b onF hbF o1 o2 on on4 hD hd2 hd3 hd4 K4 J4 hb4 K1 J1 HL1 HA1 HM1 HN1 hbz1
  go_wp2
  exact bodyPost_ret (v := .tuple #[.agg #[.int .i64 (x : Int), .slice A1 cs1.length c1, .slice B1 M1.length d1], .agg #[.int .i64 (x : Int), .slice A2 cs2.length c2, .slice B2 M2.length d2]]) (by simp [results, Tryz.results7, go_sem, s0, s1, s2, r0, r1, r2]) rfl hpost.out
end Go.Proofs.YtnamlgacjhnpnaaGreat
end

section
namespace Go.Proofs.YtnamlgacjhnpnaaGreat
open Go.RowKit
set_option linter.unusedVariables false

namespace SetX
open DrawN
theorem leastF_atom {l : List Int} (h : l.length < 999) : atomB (leastF l) = true := by
  rcases leastF_cases l with ⟨_, hall⟩ | ⟨a, ha, e, _⟩
  · have := long_least hall
    omega
  · rw [e]
    unfold atomB
    simp
    omega
theorem numL_atoms {cs : List Int} (h : ∀ x ∈ cs, atomB x = true) : ∀ j, cs.length + j ≤ 900 → ∀ x ∈ numL cs j, atomB x = true
  | 0, _ => h
  | j + 1, hj => by
    intro x hx
    rw [numL, List.mem_append] at hx
    rcases hx with hx | hx
    · exact numL_atoms h j (by omega) x hx
    · simp only [List.mem_singleton] at hx
      rw [hx]
      exact leastF_atom (by rw [numL_len]; omega)
theorem ex_tup {n : Nat} {cs p : List Int} (hn : n ≤ 4) (hc : constB cs = true) (hp : p ∈ allP n cs.length) : tupB (exL (numL cs 4) p) = true := by
  obtain ⟨hl, hi⟩ := (mem_allP (by omega)).1 hp
  have h3 := const_len hc
  rw [tupB_is (by rw [exL_len]; omega)]
  unfold atomsB
  rw [List.all_eq_true]
  intro x hx
  unfold exL at hx
  obtain ⟨m, hm, rfl⟩ := List.mem_map.1 hx
  obtain ⟨i, hip, rfl⟩ := List.getElem_of_mem hm
  have h1 := isPat_at hi hip
  have h2 := newN_le (k := (cs.length : Int)) (p := p) (i := i) (by omega) (fun q hq => (isPat_at hi (by omega)).2)
  rw [itAt_get p i hip] at h1
  have hlt : (p[i]).toNat < (numL cs 4).length := by rw [numL_len]; omega
  rw [itAt_get _ _ hlt]
  exact numL_atoms (atoms_of hc) 4 (by omega) _ (List.getElem_mem hlt)
theorem valid_orb {n : Nat} {cs : List Int} {M : List (List Int)} (hn : n ≤ 4) (hv : Valid n cs M) : orbB n cs M = true := orb_normal hn hv.1 hv.2
theorem valid_mem {n : Nat} {cs : List Int} {M : List (List Int)} (hv : Valid n cs M) : ∀ p ∈ M, p ∈ allP n cs.length := fun p hp => by rw [hv.2] at hp; exact thoseL_sub p hp
theorem valid_fit {n : Nat} {cs : List Int} {M : List (List Int)} (hn : n ≤ 4) (hv : Valid n cs M) : M.length + sumR M ≤ 32768 := by
  have h3 := const_len hv.1
  exact normal_fit (k := (cs.length : Int)) (by omega) (by omega) hn hv.2
theorem has_there {n : Nat} {cs : List Int} {M : List (List Int)} {t : List Int} (ho : orbB n cs M = true) (ht : tupB t = true) : hasTB n cs M t = thereB M (patL cs t) := by unfold hasTB; rw [ho, ht]; simp
end SetX
end Go.Proofs.YtnamlgacjhnpnaaGreat
end

section
namespace Go.Proofs.YtnamlgacjhnpnaaGreat
open Go.RowKit
set_option linter.unusedVariables false

def imsL (p : List (Int × Int)) (l : List Int) : List Int := l.map (imgL p)
def bksL (p : List (Int × Int)) (l : List Int) : List Int := l.map (backL p)
theorem imsL_len (p : List (Int × Int)) (l : List Int) : (imsL p l).length = l.length := by simp [imsL]
theorem bksL_len (p : List (Int × Int)) (l : List Int) : (bksL p l).length = l.length := by simp [bksL]
theorem imsL_next {p : List (Int × Int)} {l : List Int} {k : Nat} (h : k < l.length) : imsL p (l.take (k + 1)) = imsL p (l.take k) ++ [imgL p (itAt l k)] := by
  rw [itake_next h]; simp [imsL]
theorem itAt_map {f : Int → Int} {l : List Int} {i : Nat} (h : i < l.length) : itAt (l.map f) i = f (itAt l i) := by
  rw [itAt_get _ _ (by rw [List.length_map]; exact h), itAt_get _ _ h, List.getElem_map]
theorem Sim.map {cs t u : List Int} (h : Sim cs t u) {f g : Int → Int} (hg : ∀ a, g (f a) = a) : Sim (cs.map f) (t.map f) (u.map f) := by
  have hi : ∀ {a b : Int}, f a = f b ↔ a = b := fun {a b} => ⟨fun e => by rw [← hg a, ← hg b, e], fun e => by rw [e]⟩
  have hl := h.1
  refine ⟨by rw [List.length_map, List.length_map]; exact h.1, fun i j h1 h2 => ?_, fun i h1 c hc => ?_⟩
  · rw [List.length_map] at h1 h2
    rw [itAt_map h1, itAt_map h2, itAt_map (by omega), itAt_map (by omega), hi, hi]
    exact h.2.1 i j h1 h2
  · rw [List.length_map] at h1
    obtain ⟨d, hd, rfl⟩ := List.mem_map.1 hc
    rw [itAt_map h1, itAt_map (by omega), hi, hi]
    exact h.2.2 i h1 d hd
/-- The constants, the tuples, and the set. -/
def acC (p : List (Int × Int)) (l : List Int) : List Int := insAll [] (imsL p l)
def acT (p : List (Int × Int)) (l : List Int) (m : List (List Int)) : List (List Int) := (exsL l m).map (imsL p)
def acM (p : List (Int × Int)) (n : Nat) (l : List Int) (m : List (List Int)) : List (List Int) := thoseL n (acC p l).length (patsL (acC p l) (acT p l m))
def acG (p : List (Int × Int)) (l : List Int) (m : List (List Int)) (q : List Int) : Bool := thereB m (patL l (bksL p (exL (numL (acC p l) 4) q)))
theorem acT_len (p : List (Int × Int)) (l : List Int) (m : List (List Int)) : (acT p l m).length = m.length := by simp [acT, exsL]
theorem acT_at {p : List (Int × Int)} {l : List Int} {m : List (List Int)} {i : Nat} (h : i < m.length) : rwAt (acT p l m) i = imsL p (exL (numL l 4) (rwAt m i)) := by
  rw [rwAt_get _ _ (by rw [acT_len]; exact h), rwAt_get _ _ h]
  simp [acT, exsL]
theorem acT_next {p : List (Int × Int)} {l : List Int} {m : List (List Int)} {i : Nat} (h : i < m.length) : acT p l (m.take (i + 1)) = acT p l (m.take i) ++ [imsL p (exL (numL l 4) (rwAt m i))] := by
  rw [rw_take_next h]
  simp [acT, exsL]
theorem acC_mem {p : List (Int × Int)} {l : List Int} {a : Int} : a ∈ acC p l ↔ ∃ c ∈ l, imgL p c = a := by
  unfold acC imsL
  rw [mem_insAll]
  simp

theorem acC_const {p : List (Int × Int)} {l : List Int} (hp : IsP p) (h : constB l = true) : constB (acC p l) = true := by
  have h3 : ascB (acC p l) = true := ascB_of (asc_insAll [] _ List.Pairwise.nil)
  have h4 : atomsB (acC p l) = true := by
    unfold atomsB
    rw [List.all_eq_true]
    intro x hx
    obtain ⟨c, hc, rfl⟩ := acC_mem.1 hx
    have h5 := atoms_of h c hc
    unfold atomB at h5 ⊢
    have h6 := hp.atom (a := c) (by simpa using h5)
    simpa using h6
  have h5 : (acC p l).length ≤ 3 := by
    have h6 := length_insAll [] (imsL p l)
    rw [imsL_len] at h6
    have := const_len h
    unfold acC
    simp at h6
    omega
  unfold constB
  rw [h3, h4]
  simpa using h5
theorem acM_eq {p : List (Int × Int)} {n : Nat} {l : List Int} {m : List (List Int)} (hn : n ≤ 4) (hp : IsP p) (h : constB l = true) (hm : ∀ q ∈ m, q ∈ allP n l.length) : acM p n l m = (allP n (acC p l).length).filter (acG p l m) := by
  have hk3 := const_len h
  have hnd := const_nodup h
  have hc := acC_const hp h
  have hck := const_len hc
  have hcn := const_nodup hc
  unfold acM thoseL
  refine List.filter_congr fun q hq => ?_
  unfold acG
  obtain ⟨hql, _⟩ := (mem_allP (by omega)).1 hq
  rw [Bool.eq_iff_iff, there_mem, there_mem]
  have hmp : ∀ e : List Int, bksL p (imsL p e) = e := fun e => by
    unfold bksL imsL
    rw [List.map_map]
    exact (List.map_congr_left fun a _ => back_img hp a).trans (List.map_id' e)
  have hpm : ∀ e : List Int, imsL p (bksL p e) = e := fun e => by
    unfold bksL imsL
    rw [List.map_map]
    exact (List.map_congr_left fun a _ => img_back hp a).trans (List.map_id' e)
  have hx4 : (exL (numL (acC p l) 4) q).length = n := by rw [exL_len, hql]
  constructor
  · intro hx
    unfold patsL acT at hx
    rw [List.mem_map] at hx
    obtain ⟨t, ht, e⟩ := hx
    obtain ⟨u, hu, rfl⟩ := List.mem_map.1 ht
    unfold exsL at hu
    obtain ⟨s, hs, rfl⟩ := List.mem_map.1 hu
    have h1 : patL (acC p l) (exL (numL (acC p l) 4) q) = patL (acC p l) (imsL p (exL (numL l 4) s)) := by rw [pat_exL hcn hck hn hq, e]
    have h2 := (sim_of_pat h1).map (f := backL p) (g := imgL p) (img_back hp)
    have h3 : Sim l (bksL p (exL (numL (acC p l) 4) q)) (bksL p (imsL p (exL (numL l 4) s))) := h2.mono fun c hc' => List.mem_map.2 ⟨imgL p c, acC_mem.2 ⟨c, hc', rfl⟩, back_img hp c⟩
    rw [pat_of_sim h3, hmp, pat_exL hnd hk3 hn (hm s hs)]
    exact hs
  · intro hx
    unfold patsL acT
    rw [List.mem_map]
    have h1 : Sim l (exL (numL l 4) (patL l (bksL p (exL (numL (acC p l) 4) q)))) (bksL p (exL (numL (acC p l) 4) q)) := Sim.ex hnd hk3 (by rw [bksL_len, hx4]; exact hn)
    refine ⟨imsL p (exL (numL l 4) (patL l (bksL p (exL (numL (acC p l) 4) q)))), List.mem_map.2 ⟨_, List.mem_map.2 ⟨_, hx, rfl⟩, rfl⟩, ?_⟩
    have h2 := h1.map (f := imgL p) (g := backL p) (back_img hp)
    have h3 : Sim (acC p l) (imsL p (exL (numL l 4) (patL l (bksL p (exL (numL (acC p l) 4) q))))) (imsL p (bksL p (exL (numL (acC p l) 4) q))) := h2.mono fun c hc' => by
      obtain ⟨d, hd, rfl⟩ := acC_mem.1 hc'
      exact List.mem_map.2 ⟨d, hd, rfl⟩
    rw [hpm] at h3
    rw [pat_of_sim h3, pat_exL hcn hck hn hq]
def acOk (p : List (Int × Int)) (z : Int) (l : List Int) (m : List (List Int)) : Bool := permB p && orbB z l m
def acR (p : List (Int × Int)) (z : Int) (l : List Int) (m : List (List Int)) : List (List Int) := acM p z.toNat l m
end Go.Proofs.YtnamlgacjhnpnaaGreat
end

section
namespace Go.Proofs.YtnamlgacjhnpnaaGreat
open Go.RowKit Go.Sort
set_option linter.unusedVariables false

set_option maxRecDepth 100000 in
set_option maxHeartbeats 2000000 in
theorem lawAct_any (A B : Option Addr) (c d : Nat) (p : List (Int × Int)) (l : List Int) (w : World) (hA : PairsAt w A p) (hB : IntsAt w B l) (hp : p.length ≤ 1048576) (hl : l.length ≤ 1048576) (hpb : permB p = true) (ha : ∀ a ∈ l, atomB a = true) :
    Calls Tryz.prog 14 #[.slice A p.length c, .slice B l.length d] w (NewInts (imsL p l) w) := by
  obtain ⟨i0, hi0, hzz, hz1, hz2⟩ := info_parts DrawN.int_info
  have HS := Lib.hid hz2
  clear hz2
  have nrb : Below w.heap.size w (w.alloc (.cells #[] 3)) := (Below.refl _ _).alloc (Nat.le_refl _) _
  have nro : (w.alloc (.cells #[] 3)).ownsRow w.heap.size 3 1 (.slice (some ⟨w.heap.size, 0, none⟩) 0 0) 0 [] := World.ownsRow_lit w #[] 0 (Nat.le_refl _) (by decide) rfl
  go_enter Tryz.func14, Tryz.ntmps14
  go_wp2
  go_loopw [5, 6] (fun v i wr => ∃ k : Nat, k ≤ l.length ∧ i = .int .i64 k ∧ wr.ownsRow w.heap.size 3 1 v k (icells (imsL p (l.take k))) ∧ Below w.heap.size w wr) (fun _ i _ => l.length - (intOf i).toNat)
  case atStart => exact ⟨0, Nat.zero_le _, rfl, nro, nrb⟩
  case round =>
    clear nro nrb
    obtain ⟨k, hk, rfl, ho, hb⟩ := hrel
    by_cases hlt : k < l.length
    · obtain ⟨b1, o1, rfl, hb1, hc1⟩ := hB (by omega)
      have c1 := hc1 k hlt
      rw [← hb.cell (p := ⟨b1, _, none⟩) hb1] at c1
      have hat := ha (itAt l k) (by rw [itAt_get _ _ hlt]; exact List.getElem_mem hlt)
      have HN := Lib.hid (imsL_next (p := p) hlt)
      have him := imageOf_impl A c p (itAt l k) wr (hA.below hb) (by omega)
      rw [imageF_yes hpb hat] at him
      generalize itAt l k = a at c1 him HN
      generalize imgL p a = y at him HN
      clear hc1 hat
      have hki : (k : Int) < (l.length : Int) := by omega
      go_wp2_with fail
      refine him.mono ?_
      rintro e w2 ⟨rfl, hb2⟩
      have ho1 := own_below ho hb2
      have hb12 := hb.trans (hb2.mono hb.size)
      have hb3 : Below w2.heap.size w2 (w2.alloc (.cells #[.int .i64 y] 3)) := (Below.refl _ _).alloc (Nat.le_refl _) _
      have ho2 := own_below ho1 hb3
      have hb4 := hb12.trans (hb3.mono hb12.size)
      have hcell : (w2.alloc (.cells #[.int .i64 y] 3)).cell? ⟨w2.heap.size, 0, none⟩ = some (.int .i64 y) := by simp
      have HC := Lib.hid (DrawN.one_cell hcell)
      have hsz2 : w.heap.size ≤ (w2.alloc (.cells #[.int .i64 y] 3)).heap.size := by have := hb12.size; simp; omega
      clear hcell ho ho1 hb3 hb hb2 hb12 him c1
      go_wp2_with (at_builtin; refine wpList_append_lies _ rfl (.tmp 14) (.tmp 21) 24 rfl w.heap.size 3 i0 (.int .i64 0) 1 8 Tryz.underlying24 hi0 hzz hz1 HS.out rfl (by decide) _ k _ rfl ho2 ⟨w2.heap.size, 0, none⟩ 1 1 [.int .i64 y] rfl rfl HC.out (DrawN.int_one _) (by decide) ?c3 ?c4 ?c5 _ rfl ?_)
      case c3 => unfold maxLen; omega
      case c4 => omega
      case c5 => exact hsz2
      intro g cap w3 ho7 hg7 hcase _
      have hb5 : Below w.heap.size w w3 := below_own hb4 ho2 (Nat.le_refl _) hsz2 hg7
      have ho8 : w3.ownsRow w.heap.size 3 1 (.slice (some ⟨g, 0, none⟩) (k + 1) cap) (k + 1) (icells (imsL p (l.take (k + 1)))) := by
        rw [HN.out, icells_append]
        exact ho7
      clear ho7 hg7 hcase ho2 hb4 HC hsz2
      go_wp2
      refine ⟨⟨k + 1, by omega, by go_num, ho8, hb5⟩, ?_⟩
      simp only [intOf]
      omega
    · have e : k = l.length := by omega
      subst e
      rw [List.take_length] at ho
      have ho3 : wr.ownsRow w.heap.size 3 1 u5 (imsL p l).length (icells (imsL p l)) := by rw [imsL_len]; exact ho
      clear ho
      go_wp2
      go_ret
      exact ⟨_, rfl, ho3, hb⟩
end Go.Proofs.YtnamlgacjhnpnaaGreat
end

