/-
  A table that is laid and stored in a statement that draws its order. An orbit set told by more constants, in the model, as a contract.
-/
import Derived.Test.YtnamlgacjhnpnaaGreatKReduced18
import Derived.Deep.DeepCutAuto
import Derived.Test.YtnamlgacjhnpnaaGreatKReduced16
section
namespace Go.Proofs.YtnamlgacjhnpnaaGreat
open Go.RowKit Go.Sort
set_option linter.unusedVariables false

theorem grow_drew {B : Nat} {a w : World} (h : Below B a w) : Below B a w.drew := ⟨h.os, h.tape, h.output, h.size, h.block⟩
theorem grow_alloc {a w : World} (h : Below a.heap.size a w) (o : Obj) : Below a.heap.size a (w.alloc o) := h.alloc h.size o
theorem grow_set {a w : World} (h : Below a.heap.size a w) {g o : Nat} (hg : a.heap.size ≤ g) (v : Value) : Below a.heap.size a (w.setCell ⟨g, o, none⟩ v) := h.setCell (p := ⟨g, o, none⟩) hg v
theorem TabAt.there {w : World} {g : Nat} {f : Nat → Bool} (h : TabAt w g f) {n : Nat} (hn : n = 4096) : w.there g 0 n := fun j hj => by
  rw [Nat.zero_add]
  exact ⟨by rw [h.cell (by omega)]; rfl, h.frozen j⟩
theorem TabAt.alloc {w : World} {g : Nat} {f : Nat → Bool} (h : TabAt w g f) (o : Obj) : TabAt (w.alloc o) g f := h.below ((Below.refl _ _).alloc (Nat.le_refl _) o)
theorem TabAt.drew {w : World} {g : Nat} {f : Nat → Bool} (h : TabAt w g f) : TabAt w.drew g f := h
end Go.Proofs.YtnamlgacjhnpnaaGreat
end

section
namespace Go.Proofs.YtnamlgacjhnpnaaGreat
open Go.RowKit Go.Sort
set_option linter.unusedVariables false

namespace OrbR
/-- A pointer to a box that holds an orbit set without patterns, and the world that has grown. -/
def Rel (w0 : World) (z : Int) (cs : List Int) (s : Value) (wx : World) : Prop :=
  ∃ g A c S, s = .pointer (some ⟨g, 0, none⟩) ∧ wx.heap[g]? = some (.cells #[.int .i64 z, .slice A cs.length c, .slice none 0 0] 27 (0, 0)) ∧ Own wx S (.slice A cs.length c) (intMem cs) ∧ g ∉ S ∧ (∀ b ∈ S, w0.heap.size ≤ b) ∧ w0.heap.size ≤ g ∧ Below w0.heap.size w0 wx
theorem set3_only (w : World) (R : Nat) (a b c : Value) : Only [R] w (((w.setCell ⟨R, 0, none⟩ a).setCell ⟨R, 1, none⟩ b).setCell ⟨R, 2, none⟩ c) :=
  (((Only.refl _ _).set ⟨R, 0, none⟩ a (by simp)).set ⟨R, 1, none⟩ b (by simp)).set ⟨R, 2, none⟩ c (by simp)
theorem set3_box {w : World} {R : Nat} {o0 o1 o2 : Value} {T : TypeId} (h : w.heap[R]? = some (.cells #[o0, o1, o2] T (0, 0))) (a b c : Value) : (((w.setCell ⟨R, 0, none⟩ a).setCell ⟨R, 1, none⟩ b).setCell ⟨R, 2, none⟩ c).heap[R]? = some (.cells #[a, b, c] T (0, 0)) := by
  have h1 := heap_setCell_same w R 0 _ _ a h
  have h2 := heap_setCell_same _ R 1 _ _ b h1
  exact heap_setCell_same _ R 2 _ _ c h2
theorem rel_set {w0 w4 : World} {g : Nat} {z : Int} {cs : List Int} {A : Option Addr} {c : Nat} {S : List Nat} (hz : w4.heap[g]? = some (.cells #[.int .i64 0, .slice none 0 0, .slice none 0 0] 27 (0, 0)))
    (hL : Own w4 S (.slice A cs.length c) (intMem cs)) (hS : ∀ b ∈ S, w0.heap.size ≤ b) (hne : ∀ b ∈ S, b ≠ g) (hg : w0.heap.size ≤ g) (hb : Below w0.heap.size w0 w4) :
    Rel w0 z cs (.pointer (some ⟨g, 0, none⟩)) (((w4.setCell ⟨g, 0, none⟩ (.int .i64 z)).setCell ⟨g, 1, none⟩ (.slice A cs.length c)).setCell ⟨g, 2, none⟩ (.slice none 0 0)) :=
  ⟨g, A, c, S, rfl, set3_box hz _ _ _, hL.alike fun b hbb => (set3_only w4 g _ _ _).block b (hL.lt b hbb) (by have := hne b hbb; simpa using this), fun hm => hne g hm rfl, hS, hg, ((hb.setCell (p := ⟨g, 0, none⟩) hg _).setCell (p := ⟨g, 1, none⟩) hg _).setCell (p := ⟨g, 2, none⟩) hg _⟩
theorem rel_new {w0 w4 : World} {z : Int} {cs : List Int} {A : Option Addr} {c : Nat} {S : List Nat} (hL : Own w4 S (.slice A cs.length c) (intMem cs)) (hS : ∀ b ∈ S, w0.heap.size ≤ b) (hb : Below w0.heap.size w0 w4) :
    Rel w0 z cs (.pointer (some ⟨w4.heap.size, 0, none⟩)) (w4.alloc (.cells #[.int .i64 z, .slice A cs.length c, .slice none 0 0] 27)) :=
  ⟨w4.heap.size, A, c, S, rfl, heap_alloc_new _ _, hL.alike fun b hb' => Below.heap_alloc _ _ _ (hL.lt b hb'), fun hm => by have := hL.lt _ hm; omega, hS, hb.size, hb.alloc hb.size _⟩
theorem set3_keep {w : World} {h g q : Nat} {v a b c : Value} (hv : w.cell? ⟨h, q, none⟩ = some v) (hne : h ≠ g) : (((w.setCell ⟨g, 0, none⟩ a).setCell ⟨g, 1, none⟩ b).setCell ⟨g, 2, none⟩ c).cell? ⟨h, q, none⟩ = some v := by
  have h1 := (set3_only w g a b c)
  have hlt : h < w.heap.size := by
    rcases Nat.lt_or_ge h w.heap.size with h3 | h3
    · exact h3
    · simp [World.cell?, Array.getElem?_eq_none h3] at hv
  exact (World.cell?_of_block (w := w) (a := ⟨h, q, none⟩) (h1.block h hlt (by simpa using hne))).trans hv
end OrbR

set_option maxRecDepth 100000 in
set_option maxHeartbeats 4000000 in
theorem l6Extend_any (n : Nat) (hn : n ≤ 4) (l : List Int) (hl : l.length ≤ 3) (hnd : l.Nodup) (m : List (List Int)) (hf : FitR m) (cs : List Int) (hc : cs.length ≤ 3) (A B C : Option Addr) (c d e0 : Nat) (w : World) (hA : ConstAt w A c l) (hB : RowsIn w (.slice B m.length d) m) (hC : ConstAt w C e0 cs) :
    Calls Tryz.prog 90 #[.agg #[.int .i64 (n : Int), .slice A l.length c, .slice B m.length d], .slice C cs.length e0] w (OrbOut n cs (extL n l m cs) w) := by
  have hb0 : Below w.heap.size w ((w.alloc (.cells #[.int .i64 (n : Int), .slice A l.length c, .slice B m.length d] 27)).alloc (.cells #[.int .i64 0, .slice none 0 0, .slice none 0 0] 27)) := ((Below.refl _ _).alloc (Nat.le_refl _) _).alloc (by simp) _
  have k0 : ((w.alloc (.cells #[.int .i64 (n : Int), .slice A l.length c, .slice B m.length d] 27)).alloc (.cells #[.int .i64 0, .slice none 0 0, .slice none 0 0] 27)).heap[w.heap.size]? = some (.cells #[.int .i64 (n : Int), .slice A l.length c, .slice B m.length d] 27 (0, 0)) := (Below.heap_alloc _ _ _ (by simp)).trans (heap_alloc_new w _)
  have q0 : ((w.alloc (.cells #[.int .i64 (n : Int), .slice A l.length c, .slice B m.length d] 27)).alloc (.cells #[.int .i64 0, .slice none 0 0, .slice none 0 0] 27)).heap[w.heap.size + 1]? = some (.cells #[.int .i64 0, .slice none 0 0, .slice none 0 0] 27 (0, 0)) := by
    have h := heap_alloc_new (w.alloc (.cells #[.int .i64 (n : Int), .slice A l.length c, .slice B m.length d] 27)) (.cells #[.int .i64 0, .slice none 0 0, .slice none 0 0] 27)
    rw [World.size_alloc] at h
    exact h
  have hcp := fun W (h : Below w.heap.size w W) => l1Copy_ints C e0 cs W (hC.below h).1 hC.2 (by omega)
  have hal := fun W => l6All_any cs.length hc n hn n rfl W
  have HA := Lib.hid hA
  have HB := Lib.hid hB
  have HC := Lib.hid hC
  have HPL := Lib.hid (allP_pos (k := (cs.length : Int)) (by omega) n)
  have HPM := Lib.hid (allP_4096 (k := (cs.length : Int)) (by omega) (by omega) hn)
  have HRW := Lib.hid (fun i (hi : i < (allP n cs.length).length) => allP_row (k := (cs.length : Int)) (by omega) hi)
  have HTH : Hid (extL n l m cs = (allP n cs.length).filter (extG l m cs)) := Lib.hid rfl
  generalize allP n cs.length = R at *
  clear hA hB
  go_enter Tryz.func90, Tryz.ntmps90
  go_wp2_with fail
  generalize ((w.alloc (.cells #[.int .i64 (n : Int), .slice A l.length c, .slice B m.length d] 27)).alloc (.cells #[.int .i64 0, .slice none 0 0, .slice none 0 0] 27)) = w1 at *
  have hlt0 : w.heap.size < w1.heap.size := OrbK.box_lt k0
  have HCC : Hid (∀ w' : World, Below w1.heap.size w1 w' → w'.cell? ⟨w.heap.size, 0, none⟩ = some (.int .i64 (n : Int))) := Lib.hid (fun w' h => (h.cell (p := ⟨w.heap.size, 0, none⟩) hlt0).trans (OrbK.row3 k0).1)
  have HB0 := Lib.hid hb0
  have HK0 := Lib.hid k0
  have HQ0 := Lib.hid q0
  clear k0 q0 hb0
  go_upto_region 1 with fail
  go_cut [5] (fun s wx => OrbR.Rel w1 n cs s wx)
  case first =>
    have hdw : Below w1.heap.size w1 w1.drew := ⟨rfl, rfl, rfl, Nat.le_refl _, fun _ _ => rfl⟩
    have hza : Below w1.heap.size w1 (w1.alloc (.cells #[.int .i64 0, .slice none 0 0, .slice none 0 0] 27)).drew := by
      have h : Below w1.heap.size w1 (w1.alloc (.cells #[.int .i64 0, .slice none 0 0, .slice none 0 0] 27)) := (Below.refl _ _).alloc (Nat.le_refl _) _
      exact ⟨h.os, h.tape, h.output, h.size, h.block⟩
    have u0 := HCC.out w1.drew hdw
    have x0 := HCC.out (w1.alloc (.cells #[.int .i64 0, .slice none 0 0, .slice none 0 0] 27)).drew hza
    have ne0 : w.heap.size ≠ w1.heap.size := Nat.ne_of_lt hlt0
    have h0a := hcp w1.drew (HB0.out.trans (hdw.mono HB0.out.size))
    have h0b := hcp (w1.alloc (.cells #[.int .i64 0, .slice none 0 0, .slice none 0 0] 27)).drew (HB0.out.trans (hza.mono HB0.out.size))
    go_region_held3 (fun w' => w'.cell? ⟨w.heap.size, 0, none⟩ = some (.int .i64 (n : Int)))
      (first | ((try dsimp only); (with_reducible assumption)) | (with_reducible exact OrbR.set3_keep (by assumption) (by assumption)) | go_keep)
      (first
      | (go_at_call 95; (first | (with_reducible refine h0a.mono ?_) | (with_reducible refine h0b.mono ?_)); rintro e wq ⟨vq, rfl, hoq, hbq⟩; obtain ⟨Sq, hSq, hSqb, _⟩ := own_intRow hoq; obtain ⟨Aq, cq, rfl, _⟩ := at_intRow hSq.at_; have fr : Below w1.heap.size w1 wq := (by first | (with_reducible exact hdw.trans (hbq.mono hdw.size)) | (with_reducible exact hza.trans (hbq.mono hza.size))); (try (have zq : wq.heap[w1.heap.size]? = some (.cells #[.int .i64 0, .slice none 0 0, .slice none 0 0] 27) := (hbq.block w1.heap.size (by simp)).trans (heap_alloc_new w1 (.cells #[.int .i64 0, .slice none 0 0, .slice none 0 0] 27)))); have y0 := HCC.out wq fr; have ne1 : w.heap.size ≠ wq.heap.size := Nat.ne_of_lt (Nat.lt_of_lt_of_le hlt0 fr.size); (try (obtain ⟨g0, g1, g2⟩ := OrbK.row3 zq; have f0 := frozen_of_row _ _ 0 _ _ zq; have f1 := frozen_of_row _ _ 1 _ _ zq; have f2 := frozen_of_row _ _ 2 _ _ zq)))
      | fail)
    all_goals
      have szq : w1.heap.size ≤ wq.heap.size := fr.size
      go_wp2_with fail
      go_meet
      first
        | (with_reducible exact OrbR.rel_set zq hSq (fun b hb => Nat.le_trans (by first | exact hza.size | exact hdw.size | omega) (hSqb b hb)) (fun b hb => Nat.ne_of_gt (Nat.lt_of_lt_of_le (by first | (simp; done) | (simp; omega)) (hSqb b hb))) (by omega) fr)
        | (with_reducible exact OrbR.rel_new hSq (fun b hb => Nat.le_trans (by first | exact hdw.size | exact hza.size | omega) (hSqb b hb)) fr)
  case rest =>
    obtain ⟨g5, A5, c5, S5, rfl, hg5, hS5, hgS5, hS5b, hg5b, hb5⟩ := hcut
    have K5 := Lib.hid ((hb5.block _ (OrbK.box_lt HK0.out)).trans HK0.out)
    have Q5 := Lib.hid ((hb5.block _ (OrbK.box_lt HQ0.out)).trans HQ0.out)
    have hlt1 : w.heap.size + 1 < w1.heap.size := OrbK.box_lt HQ0.out
    have hbz5 := HB0.out.trans (hb5.mono HB0.out.size)
    have hg5l := OrbK.box_lt hg5
    have hS5l : ∀ b ∈ S5, b < wc.heap.size := fun b hb => hS5.lt b hb
    have G5 := Lib.hid hg5
    have C5 := Lib.hid hS5
    have HS5 : Hid (∀ b ∈ S5, w1.heap.size ≤ b ∧ b < wc.heap.size ∧ b ≠ g5) := Lib.hid (fun b hb => ⟨hS5b b hb, hS5l b hb, fun e => hgS5 (e ▸ hb)⟩)
    obtain ⟨m0, m1, m2⟩ := OrbK.row3 K5.out
    clear hg5 hS5 hgS5 hS5b hS5l hcp HCC HB0 HK0 HQ0 hb5
    go_wp2_with fail
    refine (hal _).mono ?_
    rintro e w3 ⟨v3, S3, rfl, hS3, hS3b, hb3⟩
    clear m0 m1 m2
    obtain ⟨g, off, cg, u, T, rfl, hleft, hTS, hgS⟩ := left_of hS3 HPL.out
    have hg0 := hS3b g hgS
    have O9 := Lib.hid ((hb3.block _ (OrbK.box_lt G5.out)).trans G5.out)
    have K9 := Lib.hid ((hb3.block _ (OrbK.box_lt K5.out)).trans K5.out)
    have Q9 := Lib.hid ((hb3.block _ (OrbK.box_lt Q5.out)).trans Q5.out)
    have C9 := Lib.hid (C5.out.keep hb3)
    have hbz3 := hbz5.trans (hb3.mono hbz5.size)
    have HTB : Hid (∀ j, ∀ b ∈ T j, wc.heap.size ≤ b ∧ b < w3.heap.size) := Lib.hid (fun j b hb => ⟨hS3b b (hTS j b hb), hS3.lt b (hTS j b hb)⟩)
    have HL9 := Lib.hid hleft
    have U9 : Hid (Own w3 [] (.slice none 0 0) (rowsMem ((R.take 0).filter (extG l m cs)))) := Lib.hid (by simp only [List.take_zero, List.filter_nil]; exact .nil _ _)
    clear hal hS3 hS3b hTS hgS hb3 hleft K5 Q5 G5 C5 hbz5
    go_wp2
    go_loopw [7, 19] (fun _ i wr => ∃ (j : Nat) (U : List Nat) (A2 : Option Addr) (m2 c2 : Nat), j ≤ R.length ∧ i = .int .i64 j ∧ Hid (m2 = ((R.take j).filter (extG l m cs)).length) ∧ Hid (wr.heap[g5]? = some (.cells #[.int .i64 (n : Int), .slice A5 cs.length c5, .slice A2 m2 c2] 27 (0, 0))) ∧ Hid (wr.heap[w.heap.size]? = some (.cells #[.int .i64 (n : Int), .slice A l.length c, .slice B m.length d] 27 (0, 0))) ∧ Hid (wr.heap[w.heap.size + 1]? = some (.cells #[.int .i64 0, .slice none 0 0, .slice none 0 0] 27 (0, 0))) ∧
      Hid (Own wr U (.slice A2 m2 c2) (rowsMem ((R.take j).filter (extG l m cs)))) ∧ Hid (Own wr S5 (.slice A5 cs.length c5) (intMem cs)) ∧ Hid (Left wr R g off u T j) ∧ Hid (∀ b ∈ U, wc.heap.size ≤ b ∧ b ≠ g ∧ ∀ q, j ≤ q → b ∉ T q) ∧ Below w.heap.size w wr ∧ w3.heap.size ≤ wr.heap.size) (fun _ i _ => R.length - (intOf i).toNat)
    case atStart => exact ⟨0, [], none, 0, 0, Nat.zero_le _, rfl, Lib.hid (by simp), O9, K9, Q9, U9, C9, HL9, Lib.hid (fun b hb => by simp at hb), hbz3, Nat.le_refl _⟩
    case round =>
      clear O9 K9 Q9 U9 C9 HL9 hbz3
      obtain ⟨j, U, A2, m2, c2, hj, rfl, hm2, ho, hr, hq, hU, hK, hLf, hUb, hb, hsw⟩ := hrel
      have hPb : R.length ≤ 4096 := HPM.out
      have hjb : j ≤ 4096 := Nat.le_trans hj hPb
      by_cases hlt : j < R.length
      · obtain ⟨A3, c3, _, hA3, e3, hO3⟩ := hLf.out.row hlt
        obtain ⟨hrl, hpat⟩ := HRW.out j hlt
        have hdw : Below wr.heap.size wr wr.drew := ⟨rfl, rfl, rfl, Nat.le_refl _, fun _ _ => rfl⟩
        have hex := l6Example_any C A3 e0 c3 cs (rwAt R j) wr.drew (HC.out.1.below (hb.trans (hdw.mono hb.size))) HC.out.2 (hA3.1.below hdw) (by omega) (by omega) (fun i hi => by
          have h1 := pat_places (k := cs.length) hpat (V := numL cs (rwAt R j).length) (by rw [numL_len]; omega) i hi
          rw [numL_len] at h1
          exact h1)
        rw [exL_same hpat (by omega)] at hex
        have hpt : ∀ (W : World) (h : Below wr.heap.size wr W) (A9 : Option Addr) (c9 : Nat) (hi : IntsAt W A9 (exL (numL cs 4) (rwAt R j))), Calls Tryz.prog 120 #[.slice A l.length c, .slice A9 (exL (numL cs 4) (rwAt R j)).length c9] W (NewInts (extQ l cs (rwAt R j)) W) :=
          fun W h A9 c9 hi => l6Pattern_any A A9 c c9 l _ W (HA.out.1.below (hb.trans (h.mono hb.size))) HA.out.2 hnd hi (by omega) (by rw [exL_len]; omega)
        have htt : ∀ (W : World) (h : Below wr.heap.size wr W) (A9 : Option Addr) (c9 : Nat) (hi : IntsAt W A9 (extQ l cs (rwAt R j))), Calls Tryz.prog 53 #[.slice B m.length d, .slice A9 (extQ l cs (rwAt R j)).length c9] W (BoolP (extG l m cs (rwAt R j)) W) :=
          fun W h A9 c9 hi => l6There_any B A9 d c9 m _ W (HB.out.below (hb.trans (h.mono hb.size))) hi hf (by unfold extQ; rw [patL_len, exL_len]; omega)
        have hkl := OrbK.box_lt hr.out
        obtain ⟨m0, m1, m2'⟩ := OrbK.row3 hr.out
        have HS : Hid (∀ W : World, Below wr.heap.size wr W → W.cell? ⟨w.heap.size, 1, none⟩ = some (.slice A l.length c) ∧ W.cell? ⟨w.heap.size, 2, none⟩ = some (.slice B m.length d)) :=
          Lib.hid (fun W h => ⟨(h.cell (p := ⟨w.heap.size, 1, none⟩) hkl).trans m1, (h.cell (p := ⟨w.heap.size, 2, none⟩) hkl).trans m2'⟩)
        have hrl4 : (rwAt R j).length ≤ 4 := by omega
        clear hrl
        have hfy := Lib.hid (fun h => filter_yes (f := extG l m cs) hlt h)
        have hfn := Lib.hid (fun h => filter_no (f := extG l m cs) hlt h)
        have hfl := filter_take_le R (extG l m cs) j
        rw [← hm2.out] at hfl
        have hm2l : m2 ≤ 4096 := by omega
        have HDT := Lib.hid (fun b (h1 : b ∈ U) => (hUb.out b h1).2.2 j (Nat.le_refl _))
        have HDJ := Lib.hid (fun q (h : j + 1 ≤ q) b (h1 : b ∈ T j) => hLf.out.dis j q (by omega) b h1)
        have HGJ := Lib.hid (hLf.out.hd j)
        have HTJ := Lib.hid (HTB.out j)
        have hgl := hLf.out.lt
        have HO3 := Lib.hid hO3
        clear m0 m1 m2' hfl hpat hA3 hO3
        generalize hFF : (R.take j).filter (extG l m cs) = FF at hU hfy hfn hm2
        generalize extQ l cs (rwAt R j) = q9 at hpt htt
        generalize exL (numL cs 4) (rwAt R j) = x9 at hex hpt
        generalize hpp : rwAt R j = p at hrl4 hfy hfn hex htt e3 HO3 ⊢
        clear hFF hpp
        cases hin : extG l m cs p with
        | true =>
          have HNX := Lib.hid (hfy.out hin)
          simp only [hin] at htt
          clear hfy hfn hin
          obtain ⟨f1, f2⟩ := HS.out wr.drew hdw
          go_wp2
          go_region_held3 (fun w' => w'.cell? ⟨w.heap.size, 1, none⟩ = some (.slice A l.length c) ∧ w'.cell? ⟨w.heap.size, 2, none⟩ = some (.slice B m.length d))
            (with_reducible exact ⟨by assumption, by assumption⟩)
            (first
            | (go_at_call 121; (with_reducible refine hex.mono ?_); rintro e w9 ⟨v9, rfl, ho9, hb9⟩; obtain ⟨A9, c9, rfl, hA9⟩ := own_intsAt ho9; have fr9 := hdw.trans (hb9.mono hdw.size); have hpq := hpt w9 fr9 A9 c9 hA9; obtain ⟨j1, j2⟩ := HS.out w9 fr9)
            | (go_at_call 120; (with_reducible refine hpq.mono ?_); rintro e w10 ⟨v10, rfl, ho10, hb10⟩; obtain ⟨A10, c10, rfl, hA10⟩ := own_intsAt ho10; have fr10 := fr9.trans (hb10.mono fr9.size); have htq := htt w10 fr10 A10 c10 hA10; obtain ⟨j3, j4⟩ := HS.out w10 fr10)
            | (go_at_call 53; (with_reducible refine htq.mono ?_); rintro e w5 ⟨rfl, hb11⟩; have hb5 := fr10.trans (hb11.mono fr10.size); obtain ⟨j5, j6⟩ := HS.out w5 hb5)
            | fail)
          have o5 := (hb5.block g5 (OrbK.box_lt ho.out)).trans ho.out
          have hbx : Below w5.heap.size w5 (w5.alloc (.cells #[.slice A3 p.length c3] 24)) := (Below.refl _ _).alloc (Nat.le_refl _) _
          have hb56 := hb5.trans (hbx.mono hb5.size)
          have hU6 := hU.out.keep hb56
          have HO66 := Lib.hid (HO3.out.keep hb56)
          have HO6 := Lib.hid ((hb56.block g5 (OrbK.box_lt ho.out)).trans ho.out)
          have HR6 := Lib.hid ((hb56.block _ (OrbK.box_lt hr.out)).trans hr.out)
          have HQ6 := Lib.hid ((hb56.block _ (OrbK.box_lt hq.out)).trans hq.out)
          have HK6 := Lib.hid (hK.out.keep hb56)
          have HLF := Lib.hid (hLf.out.below hb56)
          have HBW6 := Lib.hid (hb.trans (hb56.mono hb.size))
          have hcell : (w5.alloc (.cells #[.slice A3 p.length c3] 24)).cell? ⟨w5.heap.size, 0, none⟩ = some (.slice A3 p.length c3) := by simp
          have HC9 := Lib.hid (one_cell hcell)
          have hs5 := hb5.size
          have hdl : FF.length + 1 ≤ 16777216 := by rw [← hm2.out]; omega
          rw [hm2.out] at o5 hU6
          have HO7 := HO6.out
          rw [hm2.out] at HO7
          have HO8 := Lib.hid HO7
          obtain ⟨b0, b1, b2⟩ := OrbK.row3 o5
          clear hcell hbx ho hr hq hU hK hLf HO3 hb HO6 HO7 o5 hb56 hb5 hb11 hb10 hb9 fr9 fr10 hex hpt htt hpq htq f1 f2 j1 j2 j3 j4 j5 j6 ho9 hA9 ho10 hA10 hdw HS e3
          go_wp2_with (at_builtin; refine wpList_append_rows rfl (.tmp 33) (.tmp 35) rfl _ U FF rfl hU6 ⟨w5.heap.size, 0, none⟩ _ p (T j) rfl HC9.out HO66.out HDT.out hdl ?_)
          intro g2 cap2 U3 w7 hU7 hU3 hon
          have hg5w : g5 < wc.heap.size := hg5l
          have o7 := (hon.block g5 (OrbK.box_lt HO8.out) (fun h => by have := (hUb.out _ h).1; omega)).trans HO8.out
          have r7 := (hon.block w.heap.size (OrbK.box_lt HR6.out) (fun h => by have := (hUb.out _ h).1; omega)).trans HR6.out
          have q7 := (hon.block (w.heap.size + 1) (OrbK.box_lt HQ6.out) (fun h => by have := (hUb.out _ h).1; omega)).trans HQ6.out
          have hK7 := HK6.out.alike (w' := w7) fun b hbb => hon.block b (HK6.out.lt b hbb) (fun h => by have h1 := (hUb.out _ h).1; have h2 := (HS5.out b hbb).2.1; omega)
          have hLf7 := HLF.out.next.only hon (fun h => (hUb.out _ h).2.1 rfl) (fun q hq _ b h1 h2 => (hUb.out b h2).2.2 q (by omega) h1)
          have hb7 := Only.below HBW6.out hon HBW6.out.size (fun b h => by have := (hUb.out _ h).1; omega)
          have hs7 : w5.heap.size + 1 ≤ w7.heap.size := by have := hon.size; rw [World.size_alloc] at this; exact this
          have hU3b : ∀ b ∈ U3, wc.heap.size ≤ b ∧ b ≠ g ∧ ∀ q, j + 1 ≤ q → b ∉ T q := fun b h => by
            rcases hU3 b h with h1 | h1 | h1
            · exact ⟨(hUb.out b h1).1, (hUb.out b h1).2.1, fun q hq => (hUb.out b h1).2.2 q (by omega)⟩
            · exact ⟨(HTJ.out b h1).1, fun e => HGJ.out (e ▸ h1), fun q hq => HDJ.out q hq b h1⟩
            · (try rw [World.size_alloc] at h1)
              exact ⟨by omega, by omega, fun q _ hq => by have := (HTB.out q b hq).2; omega⟩
          have o8 : (w7.setCell ⟨g5, 2, none⟩ (.slice (some ⟨g2, 0, none⟩) (FF.length + 1) cap2)).heap[g5]? = some (.cells #[.int .i64 (n : Int), .slice A5 cs.length c5, .slice (some ⟨g2, 0, none⟩) (FF.length + 1) cap2] 27 (0, 0)) := heap_setCell_same w7 g5 2 _ _ (.slice (some ⟨g2, 0, none⟩) (FF.length + 1) cap2) o7
          have on8 : Only [g5] w7 (w7.setCell ⟨g5, 2, none⟩ (.slice (some ⟨g2, 0, none⟩) (FF.length + 1) cap2)) := (Only.refl _ _).set ⟨g5, 2, none⟩ _ (by simp)
          have R8 := Lib.hid ((on8.block w.heap.size (OrbK.box_lt r7) (by simp; omega)).trans r7)
          have Q8 := Lib.hid ((on8.block (w.heap.size + 1) (OrbK.box_lt q7) (by simp; omega)).trans q7)
          have hU8 := hU7.alike (w' := w7.setCell ⟨g5, 2, none⟩ (.slice (some ⟨g2, 0, none⟩) (FF.length + 1) cap2)) fun b hbb => on8.block b (hU7.lt b hbb) (by have := (hU3b b hbb).1; simp; omega)
          have K8 := Lib.hid (hK7.alike (w' := w7.setCell ⟨g5, 2, none⟩ (.slice (some ⟨g2, 0, none⟩) (FF.length + 1) cap2)) fun b hbb => on8.block b (hK7.lt b hbb) (by have := (HS5.out b hbb).2.2; simpa using this))
          have L8 := Lib.hid (hLf7.only on8 (by simp; omega) (fun q _ _ b h1 => by have := (HTB.out q b h1).1; simp; omega))
          have hb8 : Below w.heap.size w (w7.setCell ⟨g5, 2, none⟩ (.slice (some ⟨g2, 0, none⟩) (FF.length + 1) cap2)) := hb7.setCell (p := ⟨g5, 2, none⟩) (show w.heap.size ≤ g5 by omega) _
          have hs8 : w3.heap.size ≤ (w7.setCell ⟨g5, 2, none⟩ (.slice (some ⟨g2, 0, none⟩) (FF.length + 1) cap2)).heap.size := by simp; omega
          obtain ⟨b0, b1, b2⟩ := OrbK.row3 o7
          have y2 := frozen_of_row _ _ 2 _ _ o7
          have hln : Hid (FF.length + 1 = ((R.take (j + 1)).filter (extG l m cs)).length) := Lib.hid (by rw [HNX.out, List.length_append]; rfl)
          rw [← HNX.out] at hU8
          have O8 := Lib.hid o8
          have U8 := Lib.hid hU8
          have B3 := Lib.hid hU3b
          clear o7 r7 q7 hU7 hU3 hK7 hLf7 hb7 o8 on8 hU8 hU3b hon HO8 HR6 HQ6 HK6 HLF HBW6 HO66 HC9 hUb HNX hU6 hm2
          go_wp2
          refine ⟨⟨j + 1, U3, some ⟨g2, 0, none⟩, FF.length + 1, cap2, by omega, by go_num, hln, O8, R8, Q8, U8, K8, L8, B3, hb8, hs8⟩, ?_⟩
          simp only [intOf]
          omega
        | false =>
          have HNX := Lib.hid (hfn.out hin)
          simp only [hin] at htt
          clear hfy hfn hin
          obtain ⟨f1, f2⟩ := HS.out wr.drew hdw
          go_wp2
          go_region_held3 (fun w' => w'.cell? ⟨w.heap.size, 1, none⟩ = some (.slice A l.length c) ∧ w'.cell? ⟨w.heap.size, 2, none⟩ = some (.slice B m.length d))
            (with_reducible exact ⟨by assumption, by assumption⟩)
            (first
            | (go_at_call 121; (with_reducible refine hex.mono ?_); rintro e w9 ⟨v9, rfl, ho9, hb9⟩; obtain ⟨A9, c9, rfl, hA9⟩ := own_intsAt ho9; have fr9 := hdw.trans (hb9.mono hdw.size); have hpq := hpt w9 fr9 A9 c9 hA9; obtain ⟨j1, j2⟩ := HS.out w9 fr9)
            | (go_at_call 120; (with_reducible refine hpq.mono ?_); rintro e w10 ⟨v10, rfl, ho10, hb10⟩; obtain ⟨A10, c10, rfl, hA10⟩ := own_intsAt ho10; have fr10 := fr9.trans (hb10.mono fr9.size); have htq := htt w10 fr10 A10 c10 hA10; obtain ⟨j3, j4⟩ := HS.out w10 fr10)
            | (go_at_call 53; (with_reducible refine htq.mono ?_); rintro e w5 ⟨rfl, hb11⟩; have hb5 := fr10.trans (hb11.mono fr10.size); obtain ⟨j5, j6⟩ := HS.out w5 hb5)
            | fail)
          have O5 := Lib.hid ((hb5.block g5 (OrbK.box_lt ho.out)).trans ho.out)
          have R5 := Lib.hid ((hb5.block _ (OrbK.box_lt hr.out)).trans hr.out)
          have Q5 := Lib.hid ((hb5.block _ (OrbK.box_lt hq.out)).trans hq.out)
          have U5 := Lib.hid (hU.out.keep hb5)
          have K5 := Lib.hid (hK.out.keep hb5)
          have L5 := Lib.hid ((hLf.out.below hb5).next)
          have B5 : Hid (∀ b ∈ U, wc.heap.size ≤ b ∧ b ≠ g ∧ ∀ q, j + 1 ≤ q → b ∉ T q) := Lib.hid (fun b h1 => ⟨(hUb.out b h1).1, (hUb.out b h1).2.1, fun q hq => (hUb.out b h1).2.2 q (by omega)⟩)
          have hb7 := hb.trans (hb5.mono hb.size)
          have hs7 : w3.heap.size ≤ w5.heap.size := Nat.le_trans hsw hb5.size
          rw [← HNX.out] at U5 hm2
          clear ho hr hq hU hK hLf hUb HNX HO3 hb hsw hb5 hb11 hb10 hb9 fr9 fr10 hex hpt htt hpq htq f1 f2 j1 j2 j3 j4 j5 j6 ho9 hA9 ho10 hA10 hdw HS e3
          go_wp2
          refine ⟨⟨j + 1, U, A2, m2, c2, by omega, by go_num, hm2, O5, R5, Q5, U5, K5, L5, B5, hb7, hs7⟩, ?_⟩
          simp only [intOf]
          omega
      · have e : j = R.length := by omega
        subst e
        rw [List.take_length] at hU hm2
        have hUo := hU.out
        rw [hm2.out] at hUo
        have o5 := ho.out
        rw [hm2.out] at o5
        have hKo := hK.out
        generalize R.filter (extG l m cs) = FF at hUo o5 HTH
        have hd : ∀ b ∈ S5, b ∉ U := fun b h1 h2 => by have h3 := (HS5.out b h1).2.1; have h4 := (hUb.out b h2).1; omega
        have hL := orb_ownL (z := (n : Int)) hKo hUo hd
        have hpost := orb_pass (r := w.heap.size + 1) hL hb (Nat.le_succ _) (fun b hb => by
          rw [List.append_nil] at hb
          rcases List.mem_append.1 hb with h | h
          · have := (HS5.out b h).1; omega
          · have := (hUb.out b h).1; omega)
        obtain ⟨x0, x1, x2⟩ := OrbK.row3 o5
        obtain ⟨s0, s1, s2⟩ := OrbK.row3 hq.out
        obtain ⟨z0, z1, z2⟩ := z3At hq.out
        clear hL hd o5 hUo hKo ho hr hq hU hK hLf hUb hb hm2
        go_wp2
        exact bodyPost_ret (v := .agg #[.int .i64 (n : Int), .slice A5 cs.length c5, .slice A2 FF.length c2]) (by simp [results, Tryz.results90, go_sem, s0, s1, s2]) rfl (by rw [HTH.out]; exact hpost)
end Go.Proofs.YtnamlgacjhnpnaaGreat
end

