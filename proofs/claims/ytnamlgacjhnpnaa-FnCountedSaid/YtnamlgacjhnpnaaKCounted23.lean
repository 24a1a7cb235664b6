/-
  Both of two tables: plain words and small laws for joinedSets of the program. An orbit set told by fewer constants: plain words, no program is walked here. Two valid orbit sets of one width, and a tuple, that the model draws: contracts. What an orbit set and its complement have: plain words. What a permutation makes of an orbit set: plain words, no program is walked here.
-/
import Derived.Test.YtnamlgacjhnpnaaKCounted18
import Derived.Test.YtnamlgacjhnpnaaKCounted16
import Derived.Test.YtnamlgacjhnpnaaKCounted22
import Derived.StillTailTactics
import Derived.Test.YtnamlgacjhnpnaaKCounted15
import Derived.Test.YtnamlgacjhnpnaaKCounted12
import Derived.Test.YtnamlgacjhnpnaaKCounted3
section
namespace Go.Proofs.Ytnamlgacjhnpnaa
open Go.RowKit Go.Sort
set_option linter.unusedVariables false

theorem ascB_of {l : List Int} (h : AscP l) : ascB l = true := ascB_yes fun k h0 hk => by
  rw [itAt_get l (k - 1) (by omega), itAt_get l k hk]
  exact List.pairwise_iff_getElem.1 h (k - 1) k (by omega) hk (by omega)
end Go.Proofs.Ytnamlgacjhnpnaa
end

section
namespace Go.Proofs.Ytnamlgacjhnpnaa
open Go.RowKit
set_option linter.unusedVariables false

theorem lex_snoc : ∀ (p : List Int) (x y : Int), x < y → lexLt (p ++ [x]) (p ++ [y]) = true
  | [], x, y, h => by
    simp [lexLt, h]
    omega
  | a :: r, x, y, h => by
    have := lex_snoc r x y h
    simp [lexLt, this]
theorem lex_longer : ∀ (p q : List Int) (x y : Int), p.length = q.length → lexLt p q = true → lexLt (p ++ [x]) (q ++ [y]) = true
  | [], [], x, y, _, h => by simp [lexLt] at h
  | [], b :: s, x, y, hl, h => by simp at hl
  | a :: r, [], x, y, hl, h => by simp at hl
  | a :: r, b :: s, x, y, hl, h => by
    have hl' : r.length = s.length := by simpa using hl
    have ih := lex_longer r s x y hl'
    simp only [List.cons_append, lexLt] at h ⊢
    by_cases e : a = b
    · simp only [e, if_true] at h ⊢
      exact ih h
    · simpa [e] using h
theorem allP_lex {k : Int} (hk : 0 ≤ k) : ∀ w, (allP w k).Pairwise fun a b => lexLt a b = true
  | 0 => by simp [allP]
  | w + 1 => by
    rw [allP, List.pairwise_flatMap]
    refine ⟨fun p _ => ?_, ?_⟩
    · unfold extP
      rw [List.pairwise_map]
      exact List.pairwise_lt_range.imp fun h => lex_snoc p _ _ (by omega)
    · refine (allP_lex hk w).imp_of_mem fun {a b} ha hb h => ?_
      intro x hx y hy
      unfold extP at hx hy
      obtain ⟨i, _, rfl⟩ := List.mem_map.1 hx
      obtain ⟨j, _, rfl⟩ := List.mem_map.1 hy
      exact lex_longer a b _ _ (by rw [((mem_allP hk).1 ha).1, ((mem_allP hk).1 hb).1]) h
theorem orb_filter {n : Nat} {l : List Int} (hn : n ≤ 4) (hl : constB l = true) (f : List Int → Bool) : orbB n l ((allP n l.length).filter f) = true := by
  have hk : (0 : Int) ≤ (l.length : Int) := by omega
  unfold orbB
  rw [Bool.and_eq_true, Bool.and_eq_true]
  refine ⟨widB_iff.2 (by omega), hl, rowsOk_yes fun i hi => ?_⟩
  have hs : ((allP n l.length).filter f).Pairwise fun a b => lexLt a b = true := (allP_lex hk n).sublist List.filter_sublist
  have hm : rwAt ((allP n l.length).filter f) i ∈ allP n l.length := by
    rw [rwAt_get _ _ hi]
    exact (List.mem_filter.1 (List.getElem_mem hi)).1
  obtain ⟨h1, h2⟩ := (mem_allP hk).1 hm
  unfold rowOkB
  rw [h2, h1]
  by_cases h0 : i = 0
  · simp [h0]
  · have h3 := List.pairwise_iff_getElem.1 hs (i - 1) i (by omega) hi (by omega)
    rw [rwAt_get _ (i - 1) (by omega), rwAt_get _ i hi, h3]
    simp
theorem normal_filter (n : Nat) (k : Int) (f : List Int → Bool) : (allP n k).filter f = thoseL n k ((allP n k).filter f) := (thoseL_filter n k f).symm
theorem orb_normal {n : Nat} {l : List Int} {M : List (List Int)} (hn : n ≤ 4) (hl : constB l = true) (hM : M = thoseL n l.length M) : orbB n l M = true := by rw [hM]; exact orb_filter hn hl _
theorem normal_fit {n : Nat} {k : Int} (hk : 0 ≤ k) (hk3 : k ≤ 3) (hn : n ≤ 4) {M : List (List Int)} (hM : M = thoseL n k M) : M.length + sumR M ≤ 32768 := by rw [hM]; exact filter_fit hk hk3 hn _
end Go.Proofs.Ytnamlgacjhnpnaa
end

section
namespace Go.Proofs.Ytnamlgacjhnpnaa
open Go.RowKit Go.Sort
set_option linter.unusedVariables false

namespace DrawN
theorem drawn_const {cs : List Int} (h : cs.length ≤ 3) (ha : AscP cs) (hs : Small cs) : constB cs = true := by
  have h4 : atomsB cs = true := by
    unfold atomsB
    rw [List.all_eq_true]
    intro x hx
    have := hs x hx
    unfold atomB
    simp
    omega
  unfold constB
  rw [ascB_of ha, h4]
  simp
  omega
/-- A valid orbit set that is told by all its patterns in order. -/
def Valid (n : Nat) (cs : List Int) (M : List (List Int)) : Prop := constB cs = true ∧ M = thoseL n cs.length M
/-- Two valid orbit sets of one width. -/
def Sets (w : World) (e : Ending) (w' : World) : Prop :=
  ∃ (n : Nat) (cs1 cs2 : List Int) (M1 M2 : List (List Int)) (A1 B1 A2 B2 : Option Addr) (c1 d1 c2 d2 : Nat), e = .returned (.tuple #[.agg #[.int .i64 (n : Int), .slice A1 cs1.length c1, .slice B1 M1.length d1], .agg #[.int .i64 (n : Int), .slice A2 cs2.length c2, .slice B2 M2.length d2]]) ∧
    n ≤ 3 ∧ cs1.length ≤ 1 ∧ cs2.length ≤ 2 ∧ Valid n cs1 M1 ∧ Valid n cs2 M2 ∧
    OrbIx w' (.agg #[.int .i64 (n : Int), .slice A1 cs1.length c1, .slice B1 M1.length d1]) n cs1 M1 ∧ OrbIx w' (.agg #[.int .i64 (n : Int), .slice A2 cs2.length c2, .slice B2 M2.length d2]) n cs2 M2 ∧ Below w.heap.size w w' ∧ Small cs1 ∧ Small cs2
theorem bytes_more {w w' : World} {A : Option Addr} {n : Nat} (h : BytesIn w A n) (hb : Below w.heap.size w w') : BytesIn w' A n := by
  have h1 : BytesAt w' w.heap.size A n := BytesAt.keep h hb.block
  intro j hj
  obtain ⟨b, off, x, e, hlt, hx, hc⟩ := h1 j hj
  exact ⟨b, off, x, e, Nat.lt_of_lt_of_le hlt hb.size, hx, hc⟩
end DrawN

set_option maxRecDepth 100000 in
set_option maxHeartbeats 4000000 in
theorem drawSets_any (A : Option Addr) (n c : Nat) (w : World) (hA : BytesIn w A n) (hn : n ≤ 1048576) :
    Calls Try.prog 14 #[.slice A n c] w (DrawN.Sets w) := by
  have hb0 : Below w.heap.size w ((w.alloc (.cells #[.int .i64 0, .slice none 0 0, .slice none 0 0] 32)).alloc (.cells #[.int .i64 0, .slice none 0 0, .slice none 0 0] 32)) := ((Below.refl _ _).alloc (Nat.le_refl _) _).alloc (by simp) _
  have k0 : ((w.alloc (.cells #[.int .i64 0, .slice none 0 0, .slice none 0 0] 32)).alloc (.cells #[.int .i64 0, .slice none 0 0, .slice none 0 0] 32)).heap[w.heap.size]? = some (.cells #[.int .i64 0, .slice none 0 0, .slice none 0 0] 32 (0, 0)) := (Below.heap_alloc _ _ _ (by simp)).trans (heap_alloc_new w _)
  have k1 : ((w.alloc (.cells #[.int .i64 0, .slice none 0 0, .slice none 0 0] 32)).alloc (.cells #[.int .i64 0, .slice none 0 0, .slice none 0 0] 32)).heap[w.heap.size + 1]? = some (.cells #[.int .i64 0, .slice none 0 0, .slice none 0 0] 32 (0, 0)) := by
    have h := heap_alloc_new (w.alloc (.cells #[.int .i64 0, .slice none 0 0, .slice none 0 0] 32)) (.cells #[.int .i64 0, .slice none 0 0, .slice none 0 0] 32)
    rw [World.size_alloc] at h
    exact h
  have hz0 : ((w.alloc (.cells #[.int .i64 0, .slice none 0 0, .slice none 0 0] 32)).alloc (.cells #[.int .i64 0, .slice none 0 0, .slice none 0 0] 32)).heap.size = w.heap.size + 2 := by simp
  have hnew := l1New_any A n c _ (DrawN.bytes_more hA hb0) hn
  have HB0 := Lib.hid hb0
  have HK0 := Lib.hid k0
  have HK1 := Lib.hid k1
  have HZ0 := Lib.hid hz0
  clear hA hb0 k0 k1 hz0
  go_enter Try.func14, Try.ntmps14
  go_wp2_with fail
  refine hnew.mono ?_
  rintro e w1 ⟨C, rfl, hc1, hb1⟩
  have hBC := DrawN.cur_base hc1
  rw [HZ0.out] at hc1 hBC
  have hC1 := hc1.lt
  have hbz1 := HB0.out.trans (hb1.mono HB0.out.size)
  have K1 := Lib.hid ((hb1.block _ (OrbK.box_lt HK0.out)).trans HK0.out)
  have J1 := Lib.hid ((hb1.block _ (OrbK.box_lt HK1.out)).trans HK1.out)
  have hbl := l1Below_int (w.heap.size + 2) C 4 w1 hc1 (by omega) (by omega)
  clear hnew hb1 HB0 HK0 HK1 HZ0 hc1
  go_wp2_with fail
  refine hbl.mono ?_
  rintro e w2 ⟨x, hx, rfl, hd2⟩
  have hC2 := hd2.1.lt
  have hdr1 := l6Draw_any (w.heap.size + 2) C x (by omega) 1 (by omega) w2 hd2.1
  clear hbl
  go_wp2_with fail
  refine hdr1.mono ?_
  rintro e w3 ⟨cs1, M1, A1, c1, B1, d1, S1, rfl, hl1, ha1, hm1, hn1, hL1, hS1, hd3⟩
  have hC3 := hd3.1.lt
  have hdr2 := l6Draw_any (w.heap.size + 2) C x (by omega) 2 (by omega) w3 hd3.1
  clear hdr1
  have HL1 := Lib.hid hL1
  have HA1 := Lib.hid ha1
  have HM1 := Lib.hid hm1
  have HN1 := Lib.hid hn1
  clear hL1 ha1 hm1 hn1
  go_wp2_with fail
  refine hdr2.mono ?_
  rintro e w4 ⟨cs2, M2, A2, c2, B2, d2, S2, rfl, hl2, ha2, hm2, hn2, hL2, hS2, hd4⟩
  have hD := (hd2.trans hd3).trans hd4
  have on := DrawN.drew_only hD
  have K4 := (on.block _ (OrbK.box_lt K1.out) (by simp; omega)).trans K1.out
  have J4 := (on.block _ (OrbK.box_lt J1.out) (by simp; omega)).trans J1.out
  have hb4 : Below w.heap.size w w4 := hbz1.grown hD.2 hbz1.size (fun k hk => by injection hk with hk; omega)
  have on4 := DrawN.drew_only hd4
  have hs12 := hd2.2.size
  have hs23 := hd3.2.size
  have hlk := OrbK.box_lt K1.out
  have hlj := OrbK.box_lt J1.out
  have hL1b := HL1.out.alike (w' := w4) fun b hb => on4.block b (HL1.out.lt b hb) (by have := hS1 b hb; simp; omega)
  have onF : Only [w.heap.size, w.heap.size + 1] w4 ((((((w4.setCell ⟨w.heap.size, 0, none⟩ (.int .i64 (x : Int))).setCell ⟨w.heap.size, 1, none⟩ (.slice A1 cs1.length c1)).setCell ⟨w.heap.size, 2, none⟩ (.slice B1 M1.length d1)).setCell ⟨w.heap.size + 1, 0, none⟩ (.int .i64 (x : Int))).setCell ⟨w.heap.size + 1, 1, none⟩ (.slice A2 cs2.length c2)).setCell ⟨w.heap.size + 1, 2, none⟩ (.slice B2 M2.length d2)) :=
    ((((((Only.refl _ _).set ⟨w.heap.size, 0, none⟩ _ (by simp)).set ⟨w.heap.size, 1, none⟩ _ (by simp)).set ⟨w.heap.size, 2, none⟩ _ (by simp)).set ⟨w.heap.size + 1, 0, none⟩ _ (by simp)).set ⟨w.heap.size + 1, 1, none⟩ _ (by simp)).set ⟨w.heap.size + 1, 2, none⟩ _ (by simp)
  have hbF := Only.below hb4 onF hb4.size (fun b hb => by simp at hb; omega)
  have o1 := orbOut_ix (hL1b.alike fun b hb => onF.block b (hL1b.lt b hb) (by have := hS1 b hb; simp; omega))
  have o2 := orbOut_ix (hL2.alike fun b hb => onF.block b (hL2.lt b hb) (by have := hS2 b hb; simp; omega))
  obtain ⟨s0, s1, s2⟩ := OrbK.row3 K4
  obtain ⟨r0, r1, r2⟩ := OrbK.row3 J4
  obtain ⟨y0, y1, y2⟩ := z3At K4
  obtain ⟨z0, z1, z2⟩ := z3At J4
  have hpost : Hid (DrawN.Sets w (.returned (.tuple #[.agg #[.int .i64 (x : Int), .slice A1 cs1.length c1, .slice B1 M1.length d1], .agg #[.int .i64 (x : Int), .slice A2 cs2.length c2, .slice B2 M2.length d2]])) ((((((w4.setCell ⟨w.heap.size, 0, none⟩ (.int .i64 (x : Int))).setCell ⟨w.heap.size, 1, none⟩ (.slice A1 cs1.length c1)).setCell ⟨w.heap.size, 2, none⟩ (.slice B1 M1.length d1)).setCell ⟨w.heap.size + 1, 0, none⟩ (.int .i64 (x : Int))).setCell ⟨w.heap.size + 1, 1, none⟩ (.slice A2 cs2.length c2)).setCell ⟨w.heap.size + 1, 2, none⟩ (.slice B2 M2.length d2))) :=
    Lib.hid ⟨x, cs1, cs2, M1, M2, A1, B1, A2, B2, c1, d1, c2, d2, rfl, by omega, hl1, hl2, ⟨DrawN.drawn_const (by omega) HA1.out HM1.out, HN1.out⟩, ⟨DrawN.drawn_const (by omega) ha2 hm2, hn2⟩, o1, o2, hbF, HM1.out, hm2⟩
  clear hdr2 hL2 ha2 hm2 hn2 hL1b onF hbF o1 o2 on on4 hD hd2 hd3 hd4 K4 J4 hb4 K1 J1 HL1 HA1 HM1 HN1 hbz1
  go_wp2
  exact bodyPost_ret (v := .tuple #[.agg #[.int .i64 (x : Int), .slice A1 cs1.length c1, .slice B1 M1.length d1], .agg #[.int .i64 (x : Int), .slice A2 cs2.length c2, .slice B2 M2.length d2]]) (by simp [results, Try.results14, go_sem, s0, s1, s2, r0, r1, r2]) rfl hpost.out
end Go.Proofs.Ytnamlgacjhnpnaa
end

section
namespace Go.Proofs.Ytnamlgacjhnpnaa
open Go.RowKit
set_option linter.unusedVariables false

namespace SetX
open DrawN
theorem valid_orb {n : Nat} {cs : List Int} {M : List (List Int)} (hn : n ≤ 4) (hv : Valid n cs M) : orbB n cs M = true := orb_normal hn hv.1 hv.2
theorem valid_mem {n : Nat} {cs : List Int} {M : List (List Int)} (hv : Valid n cs M) : ∀ p ∈ M, p ∈ allP n cs.length := fun p hp => by rw [hv.2] at hp; exact thoseL_sub p hp
theorem valid_fit {n : Nat} {cs : List Int} {M : List (List Int)} (hn : n ≤ 4) (hv : Valid n cs M) : M.length + sumR M ≤ 32768 := by
  have h3 := const_len hv.1
  exact normal_fit (k := (cs.length : Int)) (by omega) (by omega) hn hv.2
theorem cpl_is (n : Nat) (cs : List Int) (M : List (List Int)) : cplL n cs M = (allP n cs.length).filter fun p => !thereB M p := by
  unfold cplL
  rw [show ((n : Int).toNat) = n by omega]
theorem cpl_orb {n : Nat} {cs : List Int} (M : List (List Int)) (hn : n ≤ 4) (hc : constB cs = true) : orbB n cs (cplL n cs M) = true := by rw [cpl_is]; exact orb_filter hn hc _
theorem has_there {n : Nat} {cs : List Int} {M : List (List Int)} {t : List Int} (ho : orbB n cs M = true) (ht : tupB t = true) : hasTB n cs M t = thereB M (patL cs t) := by unfold hasTB; rw [ho, ht]; simp
theorem there_cpl {n : Nat} {cs : List Int} {M : List (List Int)} {q : List Int} (hq : q ∈ allP n cs.length) : thereB (cplL n cs M) q = !thereB M q := by
  rw [cpl_is, Bool.eq_iff_iff, there_mem, List.mem_filter]
  exact ⟨fun h => h.2, fun h => ⟨hq, h⟩⟩
theorem has_cpl {n : Nat} {cs : List Int} {M : List (List Int)} {t : List Int} (hn : n ≤ 4) (hv : Valid n cs M) (hl : t.length = n) (ht : tupB t = true) : hasTB n cs (cplL n cs M) t = !hasTB n cs M t := by
  rw [has_there (cpl_orb M hn hv.1) ht, has_there (valid_orb hn hv) ht, there_cpl (patL_mem hl)]
theorem split_len {α : Type} (f : α → Bool) : ∀ l : List α, (l.filter f).length + (l.filter fun x => !f x).length = l.length
  | [] => rfl
  | a :: r => by
    have ih := split_len f r
    cases h : f a with
    | true => rw [List.filter_cons_of_pos h, List.filter_cons_of_neg (by simp [h]), List.length_cons, List.length_cons]; omega
    | false => rw [List.filter_cons_of_neg (by simp [h]), List.filter_cons_of_pos (by simp [h]), List.length_cons, List.length_cons]; omega
end SetX
end Go.Proofs.Ytnamlgacjhnpnaa
end

section
namespace Go.Proofs.Ytnamlgacjhnpnaa
open Go.RowKit
set_option linter.unusedVariables false

theorem itAt_map {f : Int → Int} {l : List Int} {i : Nat} (h : i < l.length) : itAt (l.map f) i = f (itAt l i) := by
  rw [itAt_get _ _ (by rw [List.length_map]; exact h), itAt_get _ _ h, List.getElem_map]
theorem Sim.map {cs t u : List Int} (h : Sim cs t u) {f g : Int → Int} (hg : ∀ a, g (f a) = a) : Sim (cs.map f) (t.map f) (u.map f) := by
  have hi : ∀ {a b : Int}, f a = f b ↔ a = b := fun {a b} => ⟨fun e => by rw [← hg a, ← hg b, e], fun e => by rw [e]⟩
  have hl := h.1
  refine ⟨by rw [List.length_map, List.length_map]; exact h.1, fun i j h1 h2 => ?_, fun i h1 c hc => ?_⟩
  · rw [List.length_map] at h1 h2
    rw [itAt_map h1, itAt_map h2, itAt_map (by omega), itAt_map (by omega), hi, hi]
    exact h.2.1 i j h1 h2
  · rw [List.length_map] at h1
    obtain ⟨d, hd, rfl⟩ := List.mem_map.1 hc
    rw [itAt_map h1, itAt_map (by omega), hi, hi]
    exact h.2.2 i h1 d hd
end Go.Proofs.Ytnamlgacjhnpnaa
end

