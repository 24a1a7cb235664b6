/-
  StepIndices of the program, as a contract.
-/
import Derived.Test.YtihijigbdpjcoaaKStepIndices12
import Derived.Test.YtihijigbdpjcoaaKStepIndices13
namespace Go.Proofs.Ytihijigbdpjcoaa
open Go.RowKit Go.Sort
set_option linter.unusedVariables false

theorem cnt_li1 : ∀ l : Li, cntIx (liIx l) + 1 ≤ szL l
  | .bnd _ => by simp [liIx, cntIx, sumIx, szL]
  | .free _ => by simp [liIx, cntIx, sumIx, szL]
  | .fn x => by have := cnt_li1 x; simp [liIx, cntIx, sumIx, szL]; omega
  | .app x y => by have h1 := cnt_li1 x; have h2 := cnt_li1 y; simp [liIx, cntIx, sumIx, szL]; omega
theorem cnt_li (l : Li) : cntIx (liIx l) ≤ szL l := by have := cnt_li1 l; omega
/-- What an index term is of. -/
noncomputable def liOf (t : Ix) : Li := @dite _ (∃ l, t = liIx l) (Classical.propDecidable _) (fun h => Classical.choose h) (fun _ => .bnd 0)
theorem liOf_eq {t : Ix} (h : ∃ l, t = liIx l) : t = liIx (liOf t) := by
  unfold liOf
  rw [dif_pos h]
  exact Classical.choose_spec h
theorem liIx_inj : ∀ {a b : Li}, liIx a = liIx b → a = b
  | .bnd n, .bnd m, h => by simp [liIx] at h; rw [h]
  | .free n, .free m, h => by simp [liIx] at h; rw [h]
  | .fn x, .fn y, h => by simp [liIx] at h; rw [liIx_inj h]
  | .app x y, .app z u, h => by simp [liIx] at h; rw [liIx_inj h.1, liIx_inj h.2]
  | .bnd n, .free m, h => by simp [liIx] at h
  | .bnd n, .fn m, h => by simp [liIx] at h
  | .bnd n, .app m k, h => by simp [liIx] at h
  | .free n, .bnd m, h => by simp [liIx] at h
  | .free n, .fn m, h => by simp [liIx] at h
  | .free n, .app m k, h => by simp [liIx] at h
  | .fn n, .bnd m, h => by simp [liIx] at h
  | .fn n, .free m, h => by simp [liIx] at h
  | .fn n, .app m k, h => by simp [liIx] at h
  | .app n j, .bnd m, h => by simp [liIx] at h
  | .app n j, .free m, h => by simp [liIx] at h
  | .app n j, .fn m, h => by simp [liIx] at h
theorem li_parts {t : Ix} (h : isIndexB t = true) : t = liIx (liOf t) ∧ okL (liOf t) ∧ szL (liOf t) ≤ 60 := by
  obtain ⟨l, e, hl, hs⟩ := index_li h
  have e2 := liOf_eq ⟨l, e⟩
  have e3 : liOf t = l := liIx_inj (e2.symm.trans e)
  rw [e3]
  exact ⟨e, hl, hs⟩
noncomputable def stepOk (t : Ix) : Bool := isIndexB t && (stepB (liOf t) && isIndexB (liIx (stepD (liOf t))))
noncomputable def stepR (t : Ix) : Ix := if stepOk t then liIx (stepD (liOf t)) else ix0
theorem stepR_no {t : Ix} (h : stepOk t = false) : stepR t = ix0 := by unfold stepR; rw [h]; rfl
theorem stepR_yes {t : Ix} (h : stepOk t = true) : stepR t = liIx (stepD (liOf t)) := by unfold stepR; rw [h]; rfl
theorem stepR_fit (t : Ix) : FitIx (stepR t) := by
  cases h : stepOk t with
  | false => rw [stepR_no h]; simp [ix0, FitIx, FitIxs]
  | true => rw [stepR_yes h]; exact fit_li _
theorem stepR_mc (t : Ix) : mcIxs (stepR t).kids ≤ 2097152 := by
  cases h : stepOk t with
  | false => rw [stepR_no h]; simp [ix0, Ix.kids, mcIxs]
  | true =>
    rw [stepR_yes h]
    have h0 := h
    unfold stepOk at h0
    rw [Bool.and_eq_true, Bool.and_eq_true] at h0
    have h5 := h0.2.2
    rw [isIndexB, Bool.and_eq_true, decide_eq_true_eq] at h5
    have h1 := mcIxs_le (liIx (stepD (liOf t))).kids
    have h2 := cntIx_eq (liIx (stepD (liOf t)))
    have h3 := cnt_li (stepD (liOf t))
    have h4 := szIx_li (stepD (liOf t))
    omega

noncomputable def ifR (l : Li) : Ix := if isIndexB (liIx l) then liIx l else ix0
theorem ifR_no {l : Li} (h : isIndexB (liIx l) = false) : ifR l = ix0 := by unfold ifR; rw [h]; rfl
theorem ifR_yes {l : Li} (h : isIndexB (liIx l) = true) : ifR l = liIx l := by unfold ifR; rw [h]; rfl

set_option maxRecDepth 100000 in
set_option maxHeartbeats 2000000 in
theorem indexIfAny_any (l : Li) (w : World) : Calls Try.prog 60 #[.iface (ityL l) (ivL l)] w (IxBPost (ifR l) (isIndexB (liIx l)) w) := by
  have hm := askIndexL l
  have hn := enterIndexL l
  have hix := index_any l (w.alloc (.cells #[.int .i64 0, .int .i64 0, .slice none 0 0] 42))
  have hit := fun W x (hx : IxIn W x (liIx l)) => isIndexTerm_impl (liIx l) x W hx (fit_li l)
  have hb0 : Below w.heap.size w (w.alloc (.cells #[.int .i64 0, .int .i64 0, .slice none 0 0] 42)) := (Below.refl _ _).alloc (Nat.le_refl _) _
  have HR := Lib.hid (heap_alloc_new w (.cells #[.int .i64 0, .int .i64 0, .slice none 0 0] 42))
  have HSZ := Lib.hid (show (w.alloc (.cells #[.int .i64 0, .int .i64 0, .slice none 0 0] 42)).heap.size = w.heap.size + 1 by simp)
  cases h : isIndexB (liIx l) with
  | false =>
    rw [ifR_no h]
    rw [h] at hit
    generalize mIndexF l = F at *
    generalize ityL l = T at *
    generalize ivL l = V at *
    generalize liIx l = r at *
    clear h
    go_enter Try.func60, Try.ntmps60
    go_wp2_with fail
    refine hix.mono ?_
    rintro e w1 ⟨A1, c1, S1, rfl, hS1, hS1b, hb1⟩
    have hb2 : Below w1.heap.size w1 (w1.alloc (.cells #[.int .i64 r.op, .int .i64 r.num, .slice A1 r.kids.length c1] 42)) := (Below.refl _ _).alloc (Nat.le_refl _) _
    have hi1 := hit _ _ ((ixOut_in hS1).below hb2)
    have hs1 := hb0.trans (hb1.mono hb0.size)
    have hs2 := hs1.trans (hb2.mono hs1.size)
    have hr2 := (hb2.block w.heap.size (by have := hb1.size; rw [HSZ.out] at this; omega)).trans ((hb1.block w.heap.size (by rw [HSZ.out]; omega)).trans HR.out)
    clear hix hit hS1 hS1b hb1 hb2 hs1
    go_wp2_with fail
    refine hi1.mono ?_
    rintro e w3 ⟨rfl, hb3⟩
    have hr3 := (hb3.block w.heap.size (Args8S.box_lt hr2)).trans hr2
    obtain ⟨r0, r1, r2⟩ := IxK.row3 hr3
    have z0 := frozen_of_row _ _ 0 _ _ hr3
    have z1 := frozen_of_row _ _ 1 _ _ hr3
    have z2 := frozen_of_row _ _ 2 _ _ hr3
    have hbel := set3_below (hs2.trans (hb3.mono hs2.size)) (Nat.le_refl w.heap.size) (.int .i64 0) (.int .i64 0) (.slice none 0 0)
    have hpost : IxBPost ix0 false w (.returned (.tuple #[.agg #[.int .i64 0, .int .i64 0, .slice none 0 0], .bool false])) _ := ⟨none, 0, _, rfl, ownL_leafI 0 0, fun b hb => by simp at hb, hbel⟩
    clear hi1 hb3 hs2 hr2 hr3 hbel HR HSZ hb0 hm hn
    go_wp2
    exact bodyPost_ret (v := .tuple #[.agg #[.int .i64 0, .int .i64 0, .slice none 0 0], .bool false]) (by simp [results, Try.results60, go_sem, r0, r1, r2]) rfl hpost
  | true =>
    rw [ifR_yes h]
    rw [h] at hit
    generalize mIndexF l = F at *
    generalize ityL l = T at *
    generalize ivL l = V at *
    generalize liIx l = r at *
    clear h
    go_enter Try.func60, Try.ntmps60
    go_wp2_with fail
    refine hix.mono ?_
    rintro e w1 ⟨A1, c1, S1, rfl, hS1, hS1b, hb1⟩
    have hb2 : Below w1.heap.size w1 (w1.alloc (.cells #[.int .i64 r.op, .int .i64 r.num, .slice A1 r.kids.length c1] 42)) := (Below.refl _ _).alloc (Nat.le_refl _) _
    have hi1 := hit _ _ ((ixOut_in hS1).below hb2)
    have hs1 := hb0.trans (hb1.mono hb0.size)
    have hs2 := hs1.trans (hb2.mono hs1.size)
    have hlt1 : w.heap.size < w1.heap.size := by have := hb1.size; rw [HSZ.out] at this; omega
    have hr2 := (hb2.block w.heap.size hlt1).trans ((hb1.block w.heap.size (by rw [HSZ.out]; omega)).trans HR.out)
    have hk2 := heap_alloc_new w1 (.cells #[.int .i64 r.op, .int .i64 r.num, .slice A1 r.kids.length c1] 42)
    have hSb : ∀ b ∈ S1, w.heap.size < b ∧ b < w1.heap.size := fun b hb => ⟨by have h1 := hS1b b hb; rw [HSZ.out] at h1; omega, hS1.lt b hb⟩
    have hS2 := hS1.alike (w' := w1.alloc (.cells #[.int .i64 r.op, .int .i64 r.num, .slice A1 r.kids.length c1] 42)) (fun b hb => hb2.block b (hSb b hb).2)
    clear hix hit hS1 hS1b hb1 hb2 hs1
    go_wp2_with fail
    refine hi1.mono ?_
    rintro e w3 ⟨rfl, hb3⟩
    have hr3 := (hb3.block w.heap.size (Args8S.box_lt hr2)).trans hr2
    have hk3 := (hb3.block w1.heap.size (Args8S.box_lt hk2)).trans hk2
    obtain ⟨r0, r1, r2⟩ := IxK.row3 hr3
    obtain ⟨k0, k1, k2⟩ := IxK.row3 hk3
    have z0 := frozen_of_row _ _ 0 _ _ hr3
    have z1 := frozen_of_row _ _ 1 _ _ hr3
    have z2 := frozen_of_row _ _ 2 _ _ hr3
    have hne : w.heap.size ≠ w1.heap.size := Nat.ne_of_lt hlt1
    have hS3 := hS2.alike (w' := w3) (fun b hb => hb3.block b (hS2.lt b hb))
    have hL := set3_own hS3 (R := w.heap.size) (fun b hb => by have := (hSb b hb).1; omega) (.int .i64 r.op) (.int .i64 r.num) (.slice A1 r.kids.length c1)
    have hbel := set3_below (hs2.trans (hb3.mono hs2.size)) (Nat.le_refl w.heap.size) (.int .i64 r.op) (.int .i64 r.num) (.slice A1 r.kids.length c1)
    have hpost : IxBPost r true w (.returned (.tuple #[.agg #[.int .i64 r.op, .int .i64 r.num, .slice A1 r.kids.length c1], .bool true])) _ := ⟨A1, c1, S1, rfl, hL, fun b hb => by have := (hSb b hb).1; omega, hbel⟩
    clear hi1 hb3 hs2 hr2 hr3 hk2 hk3 hbel hL hS2 hS3 hSb HR HSZ hb0 hm hn
    go_wp2
    exact bodyPost_ret (v := .tuple #[.agg #[.int .i64 r.op, .int .i64 r.num, .slice A1 r.kids.length c1], .bool true]) (by simp [results, Try.results60, go_sem, r0, r1, r2]) rfl hpost
set_option maxRecDepth 100000 in
set_option maxHeartbeats 4000000 in
theorem stepIndices_impl (t : Ix) (x : Value) (w : World) (hx : IxIn w x t) (hf : FitIx t) :
    Calls Try.prog 23 #[x] w (IxBPost (stepR t) (stepOk t) w) := by
  have hit := fun W hW => isIndexTerm_impl t x W hW hf
  have hx' := hx
  obtain ⟨B, d, rfl, hk⟩ := hx
  have hb0 : Below w.heap.size w ((w.alloc (.cells #[.int .i64 t.op, .int .i64 t.num, .slice B t.kids.length d] 42)).alloc (.cells #[.int .i64 0, .int .i64 0, .slice none 0 0] 42)) := ((Below.refl _ _).alloc (Nat.le_refl _) _).alloc (by simp) _
  have hres := secondI w (.cells #[.int .i64 t.op, .int .i64 t.num, .slice B t.kids.length d] 42) #[.int .i64 0, .int .i64 0, .slice none 0 0] 42
  have hbox : ((w.alloc (.cells #[.int .i64 t.op, .int .i64 t.num, .slice B t.kids.length d] 42)).alloc (.cells #[.int .i64 0, .int .i64 0, .slice none 0 0] 42)).heap[w.heap.size]? = some (.cells #[.int .i64 t.op, .int .i64 t.num, .slice B t.kids.length d] 42 (0, 0)) := (Below.heap_alloc (w.alloc (.cells #[.int .i64 t.op, .int .i64 t.num, .slice B t.kids.length d] 42)) _ _ (by simp)).trans (heap_alloc_new w _)
  have hi0 := hit _ (hx'.below hb0)
  have HR : Hid (∀ w' : World, Below ((w.alloc (.cells #[.int .i64 t.op, .int .i64 t.num, .slice B t.kids.length d] 42)).alloc (.cells #[.int .i64 0, .int .i64 0, .slice none 0 0] 42)).heap.size ((w.alloc (.cells #[.int .i64 t.op, .int .i64 t.num, .slice B t.kids.length d] 42)).alloc (.cells #[.int .i64 0, .int .i64 0, .slice none 0 0] 42)) w' → w'.heap[w.heap.size + 1]? = some (.cells #[.int .i64 0, .int .i64 0, .slice none 0 0] 42 (0, 0)) ∧ w'.heap[w.heap.size]? = some (.cells #[.int .i64 t.op, .int .i64 t.num, .slice B t.kids.length d] 42 (0, 0))) := Lib.hid (fun w' h => ⟨(h.block (w.heap.size + 1) (by simp)).trans hres, (h.block w.heap.size (by simp; omega)).trans hbox⟩)
  have hsz : ((w.alloc (.cells #[.int .i64 t.op, .int .i64 t.num, .slice B t.kids.length d] 42)).alloc (.cells #[.int .i64 0, .int .i64 0, .slice none 0 0] 42)).heap.size = w.heap.size + 2 := by simp
  have HSZ := Lib.hid hsz
  have HB0 := Lib.hid hb0
  have HX := Lib.hid (fun W (hW : Below w.heap.size w W) => hx'.below hW)
  clear hit hk hres hbox hsz hx' hb0
  cases h1 : isIndexB t with
  | false =>
    have h2 : stepOk t = false := by unfold stepOk; rw [h1, Bool.false_and]
    rw [stepR_no h2, h2]
    rw [h1] at hi0
    clear h1 h2 HX
    go_enter Try.func23, Try.ntmps23
    go_wp2_with fail
    refine hi0.mono ?_
    rintro e w1 ⟨rfl, hb1⟩
    have hres9 := (HR.out w1 hb1).1
    obtain ⟨r0, r1, r2⟩ := IxK.row3 hres9
    have z0 := frozen_of_row _ _ 0 _ _ hres9
    have z1 := frozen_of_row _ _ 1 _ _ hres9
    have z2 := frozen_of_row _ _ 2 _ _ hres9
    have hbel := set3_below (HB0.out.trans (hb1.mono HB0.out.size)) (show w.heap.size ≤ w.heap.size + 1 by omega) (.int .i64 0) (.int .i64 0) (.slice none 0 0)
    have hpost : IxBPost ix0 false w (.returned (.tuple #[.agg #[.int .i64 0, .int .i64 0, .slice none 0 0], .bool false])) _ := ⟨none, 0, _, rfl, ownL_leafI 0 0, fun b hb => by simp at hb, hbel⟩
    clear hi0 hb1 HR HSZ HB0 hbel hres9
    go_wp2
    exact bodyPost_ret (v := .tuple #[.agg #[.int .i64 0, .int .i64 0, .slice none 0 0], .bool false]) (by simp [results, Try.results23, go_sem, r0, r1, r2]) rfl hpost
  | true =>
    obtain ⟨hl, hok, hs60⟩ := li_parts h1
    rw [h1] at hi0
    have hif : ∀ W : World, Below w.heap.size w W → Calls Try.prog 57 #[.agg #[.int .i64 t.op, .int .i64 t.num, .slice B t.kids.length d]] W (ValPost (liV (liOf t)) W) := fun W hW => indexFormOf_any (liOf t) W _ (by rw [← hl]; exact HX.out W hW)
    have hst := fun W => stepped_any (liOf t) W hok (by omega)
    have han := fun W => indexIfAny_any (stepD (liOf t)) W
    have hsr : stepR t = (if stepB (liOf t) then ifR (stepD (liOf t)) else ix0) ∧ stepOk t = (if stepB (liOf t) then isIndexB (liIx (stepD (liOf t))) else false) := by
      unfold stepR stepOk ifR
      rw [h1, Bool.true_and]
      cases stepB (liOf t) <;> simp
    rw [hsr.1, hsr.2]
    unfold liV at hif hst
    generalize ityL (liOf t) = T at *
    generalize ivL (liOf t) = V at *
    generalize ityL (stepD (liOf t)) = T2 at *
    generalize ivL (stepD (liOf t)) = V2 at *
    generalize isIndexB (liIx (stepD (liOf t))) = q at *
    generalize ifR (stepD (liOf t)) = r at *
    clear hsr h1 hl hok hs60 HX
    cases hsb : stepB (liOf t) with
    | false =>
      rw [hsb] at hst
      rw [if_neg (by simp), if_neg (by simp)]
      clear hsb han
      go_enter Try.func23, Try.ntmps23
      go_wp2_with fail
      refine hi0.mono ?_
      rintro e w1 ⟨rfl, hb1⟩
      obtain ⟨b0, b1, b2⟩ := IxK.row3 (HR.out w1 hb1).2
      have hf0 := hif w1 (HB0.out.trans (hb1.mono HB0.out.size))
      clear hi0 hif
      go_wp2_with fail
      refine hf0.mono ?_
      rintro e w2 ⟨rfl, hb2⟩
      have hb12 := hb1.trans (hb2.mono hb1.size)
      have hs0 := hst w2
      clear hf0 hb1 hb2 hst b0 b1 b2
      go_wp2_with fail
      refine hs0.mono ?_
      rintro e w3 ⟨rfl, hb3⟩
      have hb1 := hb12.trans (hb3.mono hb12.size)
      clear hs0 hb12 hb3
      have hres9 := (HR.out w3 hb1).1
      obtain ⟨r0, r1, r2⟩ := IxK.row3 hres9
      have z0 := frozen_of_row _ _ 0 _ _ hres9
      have z1 := frozen_of_row _ _ 1 _ _ hres9
      have z2 := frozen_of_row _ _ 2 _ _ hres9
      have hbel := set3_below (HB0.out.trans (hb1.mono HB0.out.size)) (show w.heap.size ≤ w.heap.size + 1 by omega) (.int .i64 0) (.int .i64 0) (.slice none 0 0)
      have hpost : IxBPost ix0 false w (.returned (.tuple #[.agg #[.int .i64 0, .int .i64 0, .slice none 0 0], .bool false])) _ := ⟨none, 0, _, rfl, ownL_leafI 0 0, fun b hb => by simp at hb, hbel⟩
      clear hb1 HR HSZ HB0 hbel hres9
      go_wp2
      exact bodyPost_ret (v := .tuple #[.agg #[.int .i64 0, .int .i64 0, .slice none 0 0], .bool false]) (by simp [results, Try.results23, go_sem, r0, r1, r2]) rfl hpost
    | true =>
      rw [hsb] at hst
      rw [if_pos rfl, if_pos rfl]
      clear hsb
      go_enter Try.func23, Try.ntmps23
      go_wp2_with fail
      refine hi0.mono ?_
      rintro e w1 ⟨rfl, hb1⟩
      obtain ⟨b0, b1, b2⟩ := IxK.row3 (HR.out w1 hb1).2
      have hf0 := hif w1 (HB0.out.trans (hb1.mono HB0.out.size))
      clear hi0 hif
      go_wp2_with fail
      refine hf0.mono ?_
      rintro e w2 ⟨rfl, hb2⟩
      have hb12 := hb1.trans (hb2.mono hb1.size)
      have hs0 := hst w2
      clear hf0 hb1 hb2 hst b0 b1 b2
      go_wp2_with fail
      refine hs0.mono ?_
      rintro e w3 ⟨rfl, hb3⟩
      have hb1 := hb12.trans (hb3.mono hb12.size)
      have ha0 := han w3
      clear hs0 hb12 hb3 han
      go_wp2_with fail
      refine ha0.mono ?_
      rintro e w9 ⟨A9, c9, S9, rfl, hS9, hS9b, hb9⟩
      have hb19 := hb1.trans (hb9.mono hb1.size)
      have hsb := hb1.size
      have hres9 := (HR.out w9 hb19).1
      obtain ⟨r0, r1, r2⟩ := IxK.row3 hres9
      have z0 := frozen_of_row _ _ 0 _ _ hres9
      have z1 := frozen_of_row _ _ 1 _ _ hres9
      have z2 := frozen_of_row _ _ 2 _ _ hres9
      have hSb : ∀ b ∈ S9, w.heap.size + 2 ≤ b := fun b hb => by have h3 := hS9b b hb; have h4 := HSZ.out; omega
      have hL := set3_own hS9 (R := w.heap.size + 1) (fun b hb => by have := hSb b hb; omega) (.int .i64 r.op) (.int .i64 r.num) (.slice A9 r.kids.length c9)
      have hbel := set3_below (HB0.out.trans (hb19.mono HB0.out.size)) (show w.heap.size ≤ w.heap.size + 1 by omega) (.int .i64 r.op) (.int .i64 r.num) (.slice A9 r.kids.length c9)
      have hpost : IxBPost r q w (.returned (.tuple #[.agg #[.int .i64 r.op, .int .i64 r.num, .slice A9 r.kids.length c9], .bool q])) _ := ⟨A9, c9, S9, rfl, hL, fun b hb => by have := hSb b hb; omega, hbel⟩
      clear ha0 hb1 hb9 hb19 hsb hS9 hS9b hSb hL hbel hres9 HR HSZ HB0
      go_wp2
      exact bodyPost_ret (v := .tuple #[.agg #[.int .i64 r.op, .int .i64 r.num, .slice A9 r.kids.length c9], .bool q]) (by simp [results, Try.results23, go_sem, r0, r1, r2]) rfl hpost
end Go.Proofs.Ytihijigbdpjcoaa
