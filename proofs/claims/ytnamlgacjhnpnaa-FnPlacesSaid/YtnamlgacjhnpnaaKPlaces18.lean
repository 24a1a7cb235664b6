/-
  A table that is laid and stored in a statement that draws its order. An orbit set told by more constants, in the model, as a contract. WidenSet of the program, as a contract.
-/
import Derived.Test.YtnamlgacjhnpnaaKPlaces17
import Derived.Deep.DeepCutAuto
import Derived.Test.YtnamlgacjhnpnaaKPlaces15
section
namespace Go.Proofs.Ytnamlgacjhnpnaa
open Go.RowKit Go.Sort
set_option linter.unusedVariables false

theorem grow_drew {B : Nat} {a w : World} (h : Below B a w) : Below B a w.drew := ⟨h.os, h.tape, h.output, h.size, h.block⟩
theorem grow_alloc {a w : World} (h : Below a.heap.size a w) (o : Obj) : Below a.heap.size a (w.alloc o) := h.alloc h.size o
theorem grow_cells {a w : World} (h : Below a.heap.size a w) {g o : Nat} (hg : a.heap.size ≤ g) : ∀ (vs : List Value), Below a.heap.size a (w.setCells g o vs) := by
  intro vs
  induction vs generalizing w o with
  | nil => exact h
  | cons v r ih => exact ih (h.setCell (p := ⟨g, o, none⟩) hg v)
theorem grow_set {a w : World} (h : Below a.heap.size a w) {g o : Nat} (hg : a.heap.size ≤ g) (v : Value) : Below a.heap.size a (w.setCell ⟨g, o, none⟩ v) := h.setCell (p := ⟨g, o, none⟩) hg v
theorem TabAt.there {w : World} {g : Nat} {f : Nat → Bool} (h : TabAt w g f) {n : Nat} (hn : n = 4096) : w.there g 0 n := fun j hj => by
  rw [Nat.zero_add]
  exact ⟨by rw [h.cell (by omega)]; rfl, h.frozen j⟩
theorem tab_new (w : World) : TabAt (w.alloc (.cells Try.zeroCells59 59)) w.heap.size (fun _ => false) := by
  unfold TabAt
  rw [← tab_zero]
  exact heap_alloc_new w _
theorem TabAt.alloc {w : World} {g : Nat} {f : Nat → Bool} (h : TabAt w g f) (o : Obj) : TabAt (w.alloc o) g f := h.below ((Below.refl _ _).alloc (Nat.le_refl _) o)
theorem TabAt.drew {w : World} {g : Nat} {f : Nat → Bool} (h : TabAt w g f) : TabAt w.drew g f := h
theorem ok_world {α : Type} {x y : α} {u v : World} (h : (Result.ok x u : Result α) = .ok y v) : u = v := by injection h
theorem tab_store {w : World} {g : Nat} {f0 : Nat → Bool} (h : TabAt w g f0) (f : Nat → Bool) : TabAt (w.setCells g 0 (tabL f)) g f := by
  have h1 := run_storeVar_row (P := Try.prog) w g 59 59 (tabV f0) (tabV f) h (by rw [tabV_size]; exact tab_info) (by rw [tabV_size, tabV_size]) (tabV_one f)
  have h2 := run_storeVar_mid (P := Try.prog) w g 0 59 (tabV f) (h.there (tabV_size f)) (by rw [tabV_size]; exact tab_info) (tabV_one f)
  have h4 : (tabV f).toList = tabL f := by rw [tabV_L]
  rw [h4] at h2
  have h5 := setRow_same (cs := tabV f) h
  generalize w.setRow g (tabV f) = u at h1 h5
  generalize w.setCells g 0 (tabL f) = v at h2 ⊢
  have h3 : u = v := ok_world (h1.symm.trans h2)
  rw [← h3]
  exact h5
/-- A pointer to a table that is new. -/
def TabRel (w0 : World) (f : Nat → Bool) (s : Value) (wx : World) : Prop := ∃ g, s = .pointer (some ⟨g, 0, none⟩) ∧ TabAt wx g f ∧ w0.heap.size ≤ g ∧ Below w0.heap.size w0 wx
end Go.Proofs.Ytnamlgacjhnpnaa
end

section
namespace Go.Proofs.Ytnamlgacjhnpnaa
open Go.RowKit Go.Sort
set_option linter.unusedVariables false

namespace OrbR
/-- A pointer to a box that holds an orbit set without patterns, and the world that has grown. -/
def Rel (w0 : World) (z : Int) (cs : List Int) (s : Value) (wx : World) : Prop :=
  ∃ g A c S, s = .pointer (some ⟨g, 0, none⟩) ∧ wx.heap[g]? = some (.cells #[.int .i64 z, .slice A cs.length c, .slice none 0 0] 32 (0, 0)) ∧ Own wx S (.slice A cs.length c) (intMem cs) ∧ g ∉ S ∧ (∀ b ∈ S, w0.heap.size ≤ b) ∧ w0.heap.size ≤ g ∧ Below w0.heap.size w0 wx
theorem set3_only (w : World) (R : Nat) (a b c : Value) : Only [R] w (((w.setCell ⟨R, 0, none⟩ a).setCell ⟨R, 1, none⟩ b).setCell ⟨R, 2, none⟩ c) :=
  (((Only.refl _ _).set ⟨R, 0, none⟩ a (by simp)).set ⟨R, 1, none⟩ b (by simp)).set ⟨R, 2, none⟩ c (by simp)
theorem set3_box {w : World} {R : Nat} {o0 o1 o2 : Value} {T : TypeId} (h : w.heap[R]? = some (.cells #[o0, o1, o2] T (0, 0))) (a b c : Value) : (((w.setCell ⟨R, 0, none⟩ a).setCell ⟨R, 1, none⟩ b).setCell ⟨R, 2, none⟩ c).heap[R]? = some (.cells #[a, b, c] T (0, 0)) := by
  have h1 := heap_setCell_same w R 0 _ _ a h
  have h2 := heap_setCell_same _ R 1 _ _ b h1
  exact heap_setCell_same _ R 2 _ _ c h2
theorem rel_set {w0 w4 : World} {g : Nat} {z : Int} {cs : List Int} {A : Option Addr} {c : Nat} {S : List Nat} (hz : w4.heap[g]? = some (.cells #[.int .i64 0, .slice none 0 0, .slice none 0 0] 32 (0, 0)))
    (hL : Own w4 S (.slice A cs.length c) (intMem cs)) (hS : ∀ b ∈ S, w0.heap.size ≤ b) (hne : ∀ b ∈ S, b ≠ g) (hg : w0.heap.size ≤ g) (hb : Below w0.heap.size w0 w4) :
    Rel w0 z cs (.pointer (some ⟨g, 0, none⟩)) (((w4.setCell ⟨g, 0, none⟩ (.int .i64 z)).setCell ⟨g, 1, none⟩ (.slice A cs.length c)).setCell ⟨g, 2, none⟩ (.slice none 0 0)) :=
  ⟨g, A, c, S, rfl, set3_box hz _ _ _, hL.alike fun b hbb => (set3_only w4 g _ _ _).block b (hL.lt b hbb) (by have := hne b hbb; simpa using this), fun hm => hne g hm rfl, hS, hg, ((hb.setCell (p := ⟨g, 0, none⟩) hg _).setCell (p := ⟨g, 1, none⟩) hg _).setCell (p := ⟨g, 2, none⟩) hg _⟩
theorem rel_new {w0 w4 : World} {z : Int} {cs : List Int} {A : Option Addr} {c : Nat} {S : List Nat} (hL : Own w4 S (.slice A cs.length c) (intMem cs)) (hS : ∀ b ∈ S, w0.heap.size ≤ b) (hb : Below w0.heap.size w0 w4) :
    Rel w0 z cs (.pointer (some ⟨w4.heap.size, 0, none⟩)) (w4.alloc (.cells #[.int .i64 z, .slice A cs.length c, .slice none 0 0] 32)) :=
  ⟨w4.heap.size, A, c, S, rfl, heap_alloc_new _ _, hL.alike fun b hb' => Below.heap_alloc _ _ _ (hL.lt b hb'), fun hm => by have := hL.lt _ hm; omega, hS, hb.size, hb.alloc hb.size _⟩
theorem set3_keep {w : World} {h g q : Nat} {v a b c : Value} (hv : w.cell? ⟨h, q, none⟩ = some v) (hne : h ≠ g) : (((w.setCell ⟨g, 0, none⟩ a).setCell ⟨g, 1, none⟩ b).setCell ⟨g, 2, none⟩ c).cell? ⟨h, q, none⟩ = some v := by
  have h1 := (set3_only w g a b c)
  have hlt : h < w.heap.size := by
    rcases Nat.lt_or_ge h w.heap.size with h3 | h3
    · exact h3
    · simp [World.cell?, Array.getElem?_eq_none h3] at hv
  exact (World.cell?_of_block (w := w) (a := ⟨h, q, none⟩) (h1.block h hlt (by simpa using hne))).trans hv
end OrbR

end Go.Proofs.Ytnamlgacjhnpnaa
end

section
namespace Go.Proofs.Ytnamlgacjhnpnaa
open Go.RowKit Go.Sort
set_option linter.unusedVariables false

set_option maxRecDepth 100000 in
set_option maxHeartbeats 8000000 in
theorem widenSet_impl (z : Int) (l : List Int) (m : List (List Int)) (hf : FitO l m) (x : Value) (w : World) (hx : OrbIx w x z l m) :
    Calls Try.prog 28 #[x] w (OrbBOut (ozR (widOk z l m) (z + 1)) (olR (widOk z l m) l) (omR (widOk z l m) (widM z l m)) (widOk z l m) w) := by
  have hX := hx
  obtain ⟨A, c, B, d, rfl, hl, hmr, hm⟩ := hx
  have hb0 : Below w.heap.size w ((w.alloc (.cells #[.int .i64 z, .slice A l.length c, .slice B m.length d] 32)).alloc (.cells #[.int .i64 0, .slice none 0 0, .slice none 0 0] 32)) := ((Below.refl _ _).alloc (Nat.le_refl _) _).alloc (by simp) _
  have k0 : ((w.alloc (.cells #[.int .i64 z, .slice A l.length c, .slice B m.length d] 32)).alloc (.cells #[.int .i64 0, .slice none 0 0, .slice none 0 0] 32)).heap[w.heap.size]? = some (.cells #[.int .i64 z, .slice A l.length c, .slice B m.length d] 32 (0, 0)) := (Below.heap_alloc _ _ _ (by simp)).trans (heap_alloc_new w _)
  have k1 : ((w.alloc (.cells #[.int .i64 z, .slice A l.length c, .slice B m.length d] 32)).alloc (.cells #[.int .i64 0, .slice none 0 0, .slice none 0 0] 32)).heap[w.heap.size + 1]? = some (.cells #[.int .i64 0, .slice none 0 0, .slice none 0 0] 32 (0, 0)) := by
    have h := heap_alloc_new (w.alloc (.cells #[.int .i64 z, .slice A l.length c, .slice B m.length d] 32)) (.cells #[.int .i64 0, .slice none 0 0, .slice none 0 0] 32)
    rw [World.size_alloc] at h
    exact h
  obtain ⟨b0, b1, b2⟩ := OrbK.row3 k0
  have hio := isOrbitSet_impl z l m hf _ _ (hX.below hb0)
  have HB0 := Lib.hid hb0
  have HK0 := Lib.hid k0
  have HK1 := Lib.hid k1
  cases ho : orbB z l m with
  | false =>
    rw [ho] at hio
    have hkk : widOk z l m = false := by simp [widOk, ho]
    clear hl hmr hm k0 k1 hX ho hb0
    go_enter Try.func28, Try.ntmps28
    go_wp2_with (go_at_call 25; (with_reducible refine hio.mono ?_); rintro e w2 ⟨rfl, hb2⟩; have k2 := (hb2.block _ (OrbK.box_lt HK0.out)).trans HK0.out; clear b0 b1 b2; obtain ⟨b0, b1, b2⟩ := OrbK.row3 k2; have hr2 := (hb2.block _ (OrbK.box_lt HK1.out)).trans HK1.out; obtain ⟨x0, x1, x2⟩ := OrbK.row3 hr2; obtain ⟨y0, y1, y2⟩ := z3At hr2)
    have hbz := HB0.out.trans (hb2.mono HB0.out.size)
    clear hio hb2 b0 b1 b2 k2 hr2 HB0 HK0 HK1
    have hpost := orbB_zero (((hbz.setCell (p := ⟨w.heap.size + 1, 0, none⟩) (Nat.le_succ _) (.int .i64 0)).setCell (p := ⟨w.heap.size + 1, 1, none⟩) (Nat.le_succ _) (.slice none 0 0)).setCell (p := ⟨w.heap.size + 1, 2, none⟩) (Nat.le_succ _) (.slice none 0 0))
    go_wp2
    exact bodyPost_ret (v := .tuple #[.agg #[.int .i64 0, .slice none 0 0, .slice none 0 0], .bool false]) (by simp [results, Try.results28, go_sem, x0, x1, x2]) rfl (by rw [hkk]; exact hpost)
  | true =>
    rw [ho] at hio
    by_cases hz : z = 4
    · subst hz
      have hkk : widOk 4 l m = false := by simp [widOk]
      clear hl hmr hm k0 k1 hX ho hb0
      go_enter Try.func28, Try.ntmps28
      go_wp2_with (go_at_call 25; (with_reducible refine hio.mono ?_); rintro e w2 ⟨rfl, hb2⟩; have k2 := (hb2.block _ (OrbK.box_lt HK0.out)).trans HK0.out; clear b0 b1 b2; obtain ⟨b0, b1, b2⟩ := OrbK.row3 k2; have hr2 := (hb2.block _ (OrbK.box_lt HK1.out)).trans HK1.out; obtain ⟨x0, x1, x2⟩ := OrbK.row3 hr2; obtain ⟨y0, y1, y2⟩ := z3At hr2)
      have hbz := HB0.out.trans (hb2.mono HB0.out.size)
      clear hio hb2 b0 b1 b2 k2 hr2 HB0 HK0 HK1
      have hpost := orbB_zero (((hbz.setCell (p := ⟨w.heap.size + 1, 0, none⟩) (Nat.le_succ _) (.int .i64 0)).setCell (p := ⟨w.heap.size + 1, 1, none⟩) (Nat.le_succ _) (.slice none 0 0)).setCell (p := ⟨w.heap.size + 1, 2, none⟩) (Nat.le_succ _) (.slice none 0 0))
      go_wp2
      exact bodyPost_ret (v := .tuple #[.agg #[.int .i64 0, .slice none 0 0, .slice none 0 0], .bool false]) (by simp [results, Try.results28, go_sem, x0, x1, x2]) rfl (by rw [hkk]; exact hpost)
    · have hzb : (z == 4) = false := by simpa using hz
      have hkk : widOk z l m = true := by simp [widOk, ho, hzb]
      obtain ⟨hwz, hro⟩ := orb_rows ho
      have hz4 := widB_iff.1 hwz
      have hk3 := const_len (orb_const ho)
      obtain ⟨n, rfl⟩ : ∃ n : Nat, z = n := ⟨z.toNat, by omega⟩
      have hn3 : n ≤ 3 := by omega
      have hmm := orb_mem ho
      have hdg : ∀ i, i < m.length → (rwAt m i).length ≤ 4 ∧ digP (rwAt m i) := fun i hi => by
        have h9 : rwAt m i ∈ m := by rw [rwAt_get _ _ hi]; exact List.getElem_mem hi
        have h1 := dig_allP (k := (l.length : Int)) (by omega) (by omega) (show n ≤ 4 by omega) (hmm _ h9)
        exact ⟨by omega, h1.2⟩
      have HPO : Hid (patsOf (n + 1) (widF n l.length (tabOf m)) = widM n l m) := Lib.hid (by unfold widM; rw [show ((n : Int).toNat) = n by omega]; exact wid_pats (by omega) (by omega) hn3 hmm)
      have hcw := fun (W : World) (h : Below w.heap.size w W) => codesOf_any B d m W (hmr.below h) (by have := hf.2.1; omega) hdg
      have hww := fun (W : World) => widened_any (tabOf m) n l.length hn3 hk3 (tabOf_ok hmm) W
      have hso := fun (W : World) (h : Below w.heap.size w W) => setOfCodes_any (widF n l.length (tabOf m)) (n + 1) (by omega) l (by omega) A c W (hl.1.below h)
      rw [HPO.out, show (((n + 1 : Nat) : Int)) = (n : Int) + 1 by omega] at hso
      unfold TabP at hcw hww
      rw [tabV_L, tabV_L] at hww
      rw [tabV_L] at hcw hso
      have hi2 : (Try.prog.info? 59).map (·.size) = some (tabL (widF n l.length (tabOf m))).length := by rw [tabL_len]; exact tab_info
      have ho2 := tabL_one (widF n l.length (tabOf m))
      have HL2 := Lib.hid (tabL_len (widF n l.length (tabOf m)))
      have HST := Lib.hid (fun (W : World) (g : Nat) (f0 : Nat → Bool) (h : TabAt W g f0) => tab_store h (widF n l.length (tabOf m)))
      have HRG := Lib.hid (fun (W : World) (g : Nat) (h : TabAt W g (widF n l.length (tabOf m))) => show W.rangeAt g 0 (tabL (widF n l.length (tabOf m))) from range_of h)
      have HKK := Lib.hid hkk
      have HV := Lib.hid (tabV_L (widF n l.length (tabOf m)))
      clear hl hmr hm k0 k1 hX ho hb0 hro hwz hz4 hmm hdg hkk
      generalize tabL (tabOf m) = L1 at *
      generalize widM n l m = R at *
      generalize hf2 : widF n l.length (tabOf m) = f2 at *
      clear hf2
      generalize tabL f2 = L2 at *
      have hu := Try.underlying59
      go_enter Try.func28, Try.ntmps28
      go_wp2_with (go_at_call 25; (with_reducible refine hio.mono ?_); rintro e w2 ⟨rfl, hb2⟩; have k2 := (hb2.block _ (OrbK.box_lt HK0.out)).trans HK0.out; clear b0 b1 b2; obtain ⟨b0, b1, b2⟩ := OrbK.row3 k2)
      have hbz2 := HB0.out.trans (hb2.mono HB0.out.size)
      have K2 := Lib.hid k2
      have R2 := Lib.hid ((hb2.block _ (OrbK.box_lt HK1.out)).trans HK1.out)
      have hlt := OrbK.box_lt k2
      have HS : Hid (∀ W : World, Below w2.heap.size w2 W → W.cell? ⟨w.heap.size, 0, none⟩ = some (.int .i64 (n : Int)) ∧ W.cell? ⟨w.heap.size, 1, none⟩ = some (.slice A l.length c) ∧ W.cell? ⟨w.heap.size, 2, none⟩ = some (.slice B m.length d)) :=
        Lib.hid (fun W h => ⟨(h.cell (p := ⟨w.heap.size, 0, none⟩) hlt).trans b0, (h.cell (p := ⟨w.heap.size, 1, none⟩) hlt).trans b1, (h.cell (p := ⟨w.heap.size, 2, none⟩) hlt).trans b2⟩)
      clear hio hb2 HK0 HK1 HB0 k2 b0 b1 b2
      try go_wp2_with fail
      go_cut [4] (fun s wx => TabRel w2 f2 s wx)
      case first =>
        have hdw : Below w2.heap.size w2 w2.drew := grow_drew (Below.refl _ _)
        have hza : Below w2.heap.size w2 (w2.alloc (.cells Try.zeroCells59 59)).drew := grow_drew (grow_alloc (Below.refl _ _) _)
        have hc0 := hcw w2.drew (hbz2.trans (hdw.mono hbz2.size))
        have hc1 := hcw (w2.alloc (.cells Try.zeroCells59 59)).drew (hbz2.trans (hza.mono hbz2.size))
        have tz := (tab_new w2).drew
        go_region_held3 (fun w' => w'.cell? ⟨w.heap.size, 0, none⟩ = some (.int .i64 (n : Int)) ∧ w'.cell? ⟨w.heap.size, 1, none⟩ = some (.slice A l.length c) ∧ w'.cell? ⟨w.heap.size, 2, none⟩ = some (.slice B m.length d))
          ((refine HS.out _ ?_; (repeat (first | assumption | refine grow_drew ?_ | refine grow_alloc ?_ _ | refine grow_cells ?_ (by omega) _ | exact Below.refl _ _))))
          (first
          | (go_at_call 64; (with_reducible refine hc0.mono ?_); rintro e wa ⟨rfl, hba⟩; have fra := hdw.trans (hba.mono hdw.size); have sza := fra.size; have tza := tab_new wa; have hw0 := hww wa; have hw1 := hww (wa.alloc (.cells Try.zeroCells59 59)))
          | (go_at_call 64; (with_reducible refine hc1.mono ?_); rintro e wa ⟨rfl, hba⟩; have fra := hza.trans (hba.mono hza.size); have sza := fra.size; have tza := tz.below hba; have hw0 := hww wa)
          | (go_at_call 70; (with_reducible refine hw0.mono ?_); rintro e wb ⟨rfl, hbb⟩; have frb := fra.trans (hbb.mono fra.size); have szb := frb.size; have tzb := tab_new wb; have thb := tzb.there HL2.out; (try (have tzc := tza.below hbb; have thc := tzc.there HL2.out)))
          | (go_at_call 70; (with_reducible refine hw1.mono ?_); rintro e wb ⟨rfl, hbb⟩; have frb := (grow_alloc fra (.cells Try.zeroCells59 59)).trans (hbb.mono (grow_alloc fra (.cells Try.zeroCells59 59)).size); have szb := frb.size; have tzb := tza.below hbb; have thb := tzb.there HL2.out)
          | fail)
        all_goals
          go_wp2_with fail
          go_meet
          first
            | exact ⟨_, rfl, HST.out _ _ _ tzb, by omega, grow_cells (by first | assumption | exact grow_alloc (by assumption) _) (by omega) _⟩
            | exact ⟨_, rfl, HST.out _ _ _ tzc, by omega, grow_cells (by first | assumption | exact grow_alloc (by assumption) _) (by omega) _⟩
      case rest =>
        obtain ⟨g, rfl, ht, hg, hbx⟩ := hcut
        have htt : wc.heap[g]? = some (.cells L2.toArray 59 (0, 0)) := by rw [← HV.out]; exact ht
        have HT := Lib.hid htt
        have HI := Lib.hid (show (Try.prog.info? 59).map (·.size) = some L2.toArray.size by rw [List.size_toArray]; exact hi2)
        have k4 := (hbx.block _ (OrbK.box_lt K2.out)).trans K2.out
        have j4 := (hbx.block _ (OrbK.box_lt R2.out)).trans R2.out
        obtain ⟨b0, b1, b2⟩ := OrbK.row3 k4
        have hbz4 := hbz2.trans (hbx.mono hbz2.size)
        have hsq := hso wc hbz4
        clear htt ht hi2 hso hcw hww HS K2 R2
        go_wp2_with (first
          | (refine wpList_load_row rfl 59 (.tmp 4) rfl g rfl _ L2.toArray _ _ HT.out hu rfl HI.out ?_)
          | (go_at_call 45; (with_reducible refine hsq.mono ?_); rintro e w6 ⟨A4, c4, A5, c5, S5, rfl, hL5, hS5, hb6⟩; have hr2 := (hb6.block _ (OrbK.box_lt j4)).trans j4; obtain ⟨x0, x1, x2⟩ := OrbK.row3 hr2; obtain ⟨y0, y1, y2⟩ := z3At hr2))
        have hpost := orbB_of true (orb_pass (r := w.heap.size + 1) hL5 (hbz4.trans (hb6.mono hbz4.size)) (Nat.le_succ _) (fun b h => by have h1 := hS5 b h; have h2 := OrbK.box_lt j4; omega))
        clear hsq hL5 hS5 hb6 hr2 k4 j4 hbz4 hbz2 hbx b0 b1 b2
        go_wp2
        exact bodyPost_ret (v := .tuple #[.agg #[.int .i64 ((n : Int) + 1), .slice A4 l.length c4, .slice A5 R.length c5], .bool true]) (by simp [results, Try.results28, go_sem, x0, x1, x2]) rfl (by rw [HKK.out]; exact hpost)
end Go.Proofs.Ytnamlgacjhnpnaa
end

