/-
  ApplySubstitution of the program, as a contract.
-/
import Derived.Test.YtlhjgjfnmejiaaaGreatKComesOf27
import Derived.Test.YtlhjgjfnmejiaaaGreatKComesOf18
namespace Go.Proofs.YtlhjgjfnmejiaaaGreat
open Go.RowKit Go.Sort Go.ChangeShapes Go.WideShapes
set_option linter.unusedVariables false

set_option maxRecDepth 100000 in
set_option maxHeartbeats 8000000 in
/-- ApplySubstitution of the program. -/
theorem applySub_impl (l : List RBinding) (t : Tm) (lv xt : Value) (w : World) (hlv : RBindingsIn w lv l) (hxt : TmIn w xt t) (hll : l.length ≤ 1048576) (hlc : ∀ k, k < l.length → cntT (atRBinding l k).f1 ≤ 1048576) (hct : cntT t ≤ 1048576) :
    Calls Tryz.prog 44 #[lv, xt] w (TmOutB (orT (doT l t) (doB l t)) (doB l t) w) := by
  have hft := fit_of t hct
  have hLV := hlv
  obtain ⟨CL, dl, rfl, hgl⟩ := hlv
  clear hgl
  have hXt := hxt
  obtain ⟨At, ct, kvt, rfl, hpt, hkt⟩ := hxt
  obtain ⟨Bt, dt, rfl⟩ := hkt.form
  have hb0 : Below w.heap.size w ((w.alloc (.cells #[.int .i64 t.op, .int .i64 t.num, .slice At t.perm.length ct, .slice Bt t.kids.length dt] 46)).alloc (.cells #[.int .i64 0, .int .i64 0, .slice none 0 0, .slice none 0 0] 46)) := (((Below.refl _ w).alloc (by first | exact Nat.le_refl _ | (simp; done) | (simp; omega)) _).alloc (by first | exact Nat.le_refl _ | (simp; done) | (simp; omega)) _)
  have hsz : ((w.alloc (.cells #[.int .i64 t.op, .int .i64 t.num, .slice At t.perm.length ct, .slice Bt t.kids.length dt] 46)).alloc (.cells #[.int .i64 0, .int .i64 0, .slice none 0 0, .slice none 0 0] 46)).heap.size = w.heap.size + 2 := by simp
  have kkt : ((w.alloc (.cells #[.int .i64 t.op, .int .i64 t.num, .slice At t.perm.length ct, .slice Bt t.kids.length dt] 46)).alloc (.cells #[.int .i64 0, .int .i64 0, .slice none 0 0, .slice none 0 0] 46)).heap[w.heap.size]? = some (.cells #[.int .i64 t.op, .int .i64 t.num, .slice At t.perm.length ct, .slice Bt t.kids.length dt] 46 (0, 0)) := by
    have h := heap_alloc_new w (.cells #[.int .i64 t.op, .int .i64 t.num, .slice At t.perm.length ct, .slice Bt t.kids.length dt] 46)
    exact ((Below.heap_alloc _ _ _ (by first | (simp; done) | (simp; omega))).trans h)
  have kkR : ((w.alloc (.cells #[.int .i64 t.op, .int .i64 t.num, .slice At t.perm.length ct, .slice Bt t.kids.length dt] 46)).alloc (.cells #[.int .i64 0, .int .i64 0, .slice none 0 0, .slice none 0 0] 46)).heap[w.heap.size + 1]? = some (.cells #[.int .i64 0, .int .i64 0, .slice none 0 0, .slice none 0 0] 46 (0, 0)) := by
    have h := heap_alloc_new (w.alloc (.cells #[.int .i64 t.op, .int .i64 t.num, .slice At t.perm.length ct, .slice Bt t.kids.length dt] 46)) (.cells #[.int .i64 0, .int .i64 0, .slice none 0 0, .slice none 0 0] 46)
    simp only [World.size_alloc] at h
    exact h
  have HSZ := Lib.hid hsz
  have HCt := Lib.hid (fun (w' : World) (h : Below ((w.alloc (.cells #[.int .i64 t.op, .int .i64 t.num, .slice At t.perm.length ct, .slice Bt t.kids.length dt] 46)).alloc (.cells #[.int .i64 0, .int .i64 0, .slice none 0 0, .slice none 0 0] 46)).heap.size ((w.alloc (.cells #[.int .i64 t.op, .int .i64 t.num, .slice At t.perm.length ct, .slice Bt t.kids.length dt] 46)).alloc (.cells #[.int .i64 0, .int .i64 0, .slice none 0 0, .slice none 0 0] 46)) w') => BoxR.row4 ((h.block (w.heap.size) (by rw [hsz]; omega)).trans kkt))
  have HIt : Hid (∀ w' : World, Below ((w.alloc (.cells #[.int .i64 t.op, .int .i64 t.num, .slice At t.perm.length ct, .slice Bt t.kids.length dt] 46)).alloc (.cells #[.int .i64 0, .int .i64 0, .slice none 0 0, .slice none 0 0] 46)).heap.size ((w.alloc (.cells #[.int .i64 t.op, .int .i64 t.num, .slice At t.perm.length ct, .slice Bt t.kids.length dt] 46)).alloc (.cells #[.int .i64 0, .int .i64 0, .slice none 0 0, .slice none 0 0] 46)) w' → TmIn w' (.agg #[.int .i64 t.op, .int .i64 t.num, .slice At t.perm.length ct, .slice Bt t.kids.length dt]) t) := Lib.hid (fun w' h => hXt.below (hb0.trans (h.mono hb0.size)))
  have HR := Lib.hid (fun (w' : World) (h : Below ((w.alloc (.cells #[.int .i64 t.op, .int .i64 t.num, .slice At t.perm.length ct, .slice Bt t.kids.length dt] 46)).alloc (.cells #[.int .i64 0, .int .i64 0, .slice none 0 0, .slice none 0 0] 46)).heap.size ((w.alloc (.cells #[.int .i64 t.op, .int .i64 t.num, .slice At t.perm.length ct, .slice Bt t.kids.length dt] 46)).alloc (.cells #[.int .i64 0, .int .i64 0, .slice none 0 0, .slice none 0 0] 46)) w') => (h.block (w.heap.size + 1) (by rw [hsz]; omega)).trans kkR)
  have HB0 := Lib.hid hb0
  clear hsz hb0 kkR hXt hpt hkt kkt
  have HLV : Hid (∀ w' : World, Below ((w.alloc (.cells #[.int .i64 t.op, .int .i64 t.num, .slice At t.perm.length ct, .slice Bt t.kids.length dt] 46)).alloc (.cells #[.int .i64 0, .int .i64 0, .slice none 0 0, .slice none 0 0] 46)).heap.size ((w.alloc (.cells #[.int .i64 t.op, .int .i64 t.num, .slice At t.perm.length ct, .slice Bt t.kids.length dt] 46)).alloc (.cells #[.int .i64 0, .int .i64 0, .slice none 0 0, .slice none 0 0] 46)) w' → RBindingsIn w' (.slice CL l.length dl) l) := Lib.hid (fun w' h => hLV.below (HB0.out.trans (h.mono HB0.out.size)))
  clear hLV
  cases h0 : subB l with
  | false =>
    have HT := Lib.hid (show doB l t = false by simp [doB, h0])
    go_enter Tryz.func44, Tryz.ntmps44
    have hg := isSub_impl l _ (((w.alloc (.cells #[.int .i64 t.op, .int .i64 t.num, .slice At t.perm.length ct, .slice Bt t.kids.length dt] 46)).alloc (.cells #[.int .i64 0, .int .i64 0, .slice none 0 0, .slice none 0 0] 46))) (HLV.out (((w.alloc (.cells #[.int .i64 t.op, .int .i64 t.num, .slice At t.perm.length ct, .slice Bt t.kids.length dt] 46)).alloc (.cells #[.int .i64 0, .int .i64 0, .slice none 0 0, .slice none 0 0] 46))) (Below.refl _ _)) hll hlc
    rw [h0] at hg
    go_wp2_with fail
    refine hg.mono ?_
    rintro e g0 ⟨rfl, hb0⟩
    have hw0 := hb0
    clear hg 
    have hq0 : w.heap.size + 2 ≤ g0.heap.size := by have h := hw0.size; rw [HSZ.out] at h; exact h
    have hres := HR.out g0 hw0
    obtain ⟨r0, r1, r2, r3⟩ := BoxR.row4 hres
    have z0 := frozen_of_row _ _ 0 _ _ hres
    have z1 := frozen_of_row _ _ 1 _ _ hres
    have z2 := frozen_of_row _ _ 2 _ _ hres
    have z3 := frozen_of_row _ _ 3 _ _ hres
    have hbz := HB0.out.trans (hw0.mono HB0.out.size)
    have hpost : TmOutB tm0 false w (.returned (.tuple #[.agg #[.int .i64 0, .int .i64 0, .slice none 0 0, .slice none 0 0], .bool false])) ((((g0.setCell ⟨w.heap.size + 1, 0, none⟩ (.int .i64 0)).setCell ⟨w.heap.size + 1, 1, none⟩ (.int .i64 0)).setCell ⟨w.heap.size + 1, 2, none⟩ (.slice none 0 0)).setCell ⟨w.heap.size + 1, 3, none⟩ (.slice none 0 0)) :=
      ⟨none, 0, none, 0, _, rfl, own_four own_none own_nokids (fun b hb => by simp at hb), fun b hb => by simp at hb, set4_below hbz (by omega) _ _ _ _⟩
    clear hres hbz HR HB0 HSZ HCt HIt hct hll hlc HLV hft h0 
    go_wp2
    exact bodyPost_ret (v := .tuple #[.agg #[.int .i64 0, .int .i64 0, .slice none 0 0, .slice none 0 0], .bool false]) (by simp [results, Tryz.results44, go_sem, r0, r1, r2, r3]) rfl (by rw [HT.out, orT_no]; exact hpost)
  | true =>
    cases h1 : isTermB t with
    | false =>
      have HT := Lib.hid (show doB l t = false by simp [doB, h0, h1])
      go_enter Tryz.func44, Tryz.ntmps44
      have hg := isSub_impl l _ (((w.alloc (.cells #[.int .i64 t.op, .int .i64 t.num, .slice At t.perm.length ct, .slice Bt t.kids.length dt] 46)).alloc (.cells #[.int .i64 0, .int .i64 0, .slice none 0 0, .slice none 0 0] 46))) (HLV.out (((w.alloc (.cells #[.int .i64 t.op, .int .i64 t.num, .slice At t.perm.length ct, .slice Bt t.kids.length dt] 46)).alloc (.cells #[.int .i64 0, .int .i64 0, .slice none 0 0, .slice none 0 0] 46))) (Below.refl _ _)) hll hlc
      rw [h0] at hg
      go_wp2_with fail
      refine hg.mono ?_
      rintro e g0 ⟨rfl, hb0⟩
      have hw0 := hb0
      clear hg 
      have hq0 : w.heap.size + 2 ≤ g0.heap.size := by have h := hw0.size; rw [HSZ.out] at h; exact h
      obtain ⟨e1t0, e1t1, e1t2, e1t3⟩ := HCt.out g0 hw0
      have hg := isTerm_impl t _ (g0) (HIt.out (g0) hw0) hft
      rw [h1] at hg
      go_wp2_with fail
      refine hg.mono ?_
      rintro e g1 ⟨rfl, hb1⟩
      have hw1 := hw0.trans (hb1.mono hw0.size)
      clear hg e1t0 e1t1 e1t2 e1t3
      have hq1 : w.heap.size + 2 ≤ g1.heap.size := by have h := hw1.size; rw [HSZ.out] at h; exact h
      have hres := HR.out g1 hw1
      obtain ⟨r0, r1, r2, r3⟩ := BoxR.row4 hres
      have z0 := frozen_of_row _ _ 0 _ _ hres
      have z1 := frozen_of_row _ _ 1 _ _ hres
      have z2 := frozen_of_row _ _ 2 _ _ hres
      have z3 := frozen_of_row _ _ 3 _ _ hres
      have hbz := HB0.out.trans (hw1.mono HB0.out.size)
      have hpost : TmOutB tm0 false w (.returned (.tuple #[.agg #[.int .i64 0, .int .i64 0, .slice none 0 0, .slice none 0 0], .bool false])) ((((g1.setCell ⟨w.heap.size + 1, 0, none⟩ (.int .i64 0)).setCell ⟨w.heap.size + 1, 1, none⟩ (.int .i64 0)).setCell ⟨w.heap.size + 1, 2, none⟩ (.slice none 0 0)).setCell ⟨w.heap.size + 1, 3, none⟩ (.slice none 0 0)) :=
        ⟨none, 0, none, 0, _, rfl, own_four own_none own_nokids (fun b hb => by simp at hb), fun b hb => by simp at hb, set4_below hbz (by omega) _ _ _ _⟩
      clear hres hbz HR HB0 HSZ HCt HIt hct hll hlc HLV hft h0 h1 
      go_wp2
      exact bodyPost_ret (v := .tuple #[.agg #[.int .i64 0, .int .i64 0, .slice none 0 0, .slice none 0 0], .bool false]) (by simp [results, Tryz.results44, go_sem, r0, r1, r2, r3]) rfl (by rw [HT.out, orT_no]; exact hpost)
    | true =>
      have HT := Lib.hid (doB_yes h0 h1)
      have hbd := do_bounds h0 h1
      have HBF := Lib.hid (fun (W : World) (h : RBindingsIn W (.slice CL l.length dl) l) => boundForms_any l h0 _ W h)
      have HFT := Lib.hid (fun (W : World) (x : Value) (hx : TmIn W x t) => formOf_term t h1 W x hx)
      have HDN := Lib.hid (fun (q : Nat → Prop) (W : World) (b : Nat) (T : TypeId) (y : Value) (hq : ∀ b, q b → b < W.heap.size) (hm : BoundAt W q b l) (h : FIn W q (.iface T y) t) => doneOn_any l h0 (szT t) t (Nat.le_refl _) (by have := term_size h1; omega) (term_good h1) q W b T y hq hm h)
      have HIA := Lib.hid (fun (W : World) (q : Nat → Prop) (y : Value) (hW : FIn W q y (doT l t)) => ifAny_any (doT l t) q y W hW (by omega) (okP_le (by decide) hbd.2.1) (fit_of _ hbd.2.2))
      generalize doB l t = bb at *
      generalize doT l t = r0 at *
      generalize hrr : orT r0 (isTermB r0) = r at *
      have HRR := Lib.hid hrr
      generalize isTermB r0 = b0 at *
      clear hrr
      clear hbd
      go_enter Tryz.func44, Tryz.ntmps44
      have hg := isSub_impl l _ (((w.alloc (.cells #[.int .i64 t.op, .int .i64 t.num, .slice At t.perm.length ct, .slice Bt t.kids.length dt] 46)).alloc (.cells #[.int .i64 0, .int .i64 0, .slice none 0 0, .slice none 0 0] 46))) (HLV.out (((w.alloc (.cells #[.int .i64 t.op, .int .i64 t.num, .slice At t.perm.length ct, .slice Bt t.kids.length dt] 46)).alloc (.cells #[.int .i64 0, .int .i64 0, .slice none 0 0, .slice none 0 0] 46))) (Below.refl _ _)) hll hlc
      rw [h0] at hg
      go_wp2_with fail
      refine hg.mono ?_
      rintro e g0 ⟨rfl, hb0⟩
      have hw0 := hb0
      clear hg 
      have hq0 : w.heap.size + 2 ≤ g0.heap.size := by have h := hw0.size; rw [HSZ.out] at h; exact h
      obtain ⟨e1t0, e1t1, e1t2, e1t3⟩ := HCt.out g0 hw0
      have hg := isTerm_impl t _ (g0) (HIt.out (g0) hw0) hft
      rw [h1] at hg
      go_wp2_with fail
      refine hg.mono ?_
      rintro e g1 ⟨rfl, hb1⟩
      have hw1 := hw0.trans (hb1.mono hw0.size)
      clear hg e1t0 e1t1 e1t2 e1t3
      have hq1 : w.heap.size + 2 ≤ g1.heap.size := by have h := hw1.size; rw [HSZ.out] at h; exact h
      clear h0 h1 hct hll hlc hft
      have hdw : Below g1.heap.size g1 g1.drew := ⟨rfl, rfl, rfl, Nat.le_refl _, fun _ _ => rfl⟩
      have hwd := hw1.trans (hdw.mono hw1.size)
      obtain ⟨ut0, ut1, ut2, ut3⟩ := HCt.out g1.drew hwd
      have net : w.heap.size ≠ w.heap.size + 1 := by omega
      have hy0 := HBF.out (g1.drew) (HLV.out (g1.drew) hwd)
      clear hdw
      go_wp2
      go_region_held3 (fun w' => w'.cell? ⟨w.heap.size, 0, none⟩ = some (.int .i64 t.op) ∧ w'.cell? ⟨w.heap.size, 1, none⟩ = some (.int .i64 t.num) ∧ w'.cell? ⟨w.heap.size, 2, none⟩ = some (.slice At t.perm.length ct) ∧ w'.cell? ⟨w.heap.size, 3, none⟩ = some (.slice Bt t.kids.length dt))
        (first | ((try dsimp only); (with_reducible exact ⟨by assumption, by assumption, by assumption, by assumption⟩)) | (with_reducible exact ⟨BoxR.set4_keep (by assumption) (by assumption), BoxR.set4_keep (by assumption) (by assumption), BoxR.set4_keep (by assumption) (by assumption), BoxR.set4_keep (by assumption) (by assumption)⟩) | go_keep)
        (first
          | (go_at_call 92; refine hy0.mono ?_; rintro e y0 ⟨mb, rfl, hmb, hb0⟩; have hv0 := hwd.trans (hb0.mono hwd.size); obtain ⟨v0t0, v0t1, v0t2, v0t3⟩ := HCt.out y0 hv0; have hy1 := HFT.out (y0) _ (HIt.out (y0) hv0))
          | (go_at_call 60; refine hy1.mono ?_; rintro e y1 ⟨fv, rfl, hfv, hb1⟩; have hv1 := hv0.trans (hb1.mono hv0.size); obtain ⟨fx, rfl⟩ := hfv.iface; generalize fty t = T at *; obtain ⟨v1t0, v1t1, v1t2, v1t3⟩ := HCt.out y1 hv1; have hy2 := HDN.out (fun b => b < (y1).heap.size) (y1) mb T fx (fun b h => h) ((hmb.keep hb1).kind fun b hl _ => hl) (hfv.kind fun b hl _ => hl))
          | (go_at_call 94; refine hy2.mono ?_; rintro e y2 ⟨ov, rfl, hov, hb2⟩; have hv2 := hv1.trans (hb2.mono hv1.size); obtain ⟨v2t0, v2t1, v2t2, v2t3⟩ := HCt.out y2 hv2; have hy3 := HIA.out (y2) _ ov hov)
          | (go_at_call 58; refine hy3.mono ?_; rintro e y3 ⟨A6, c6, B6, d6, S6, rfl, hL6, hS6, hb3⟩; have hv3 := hv2.trans (hb3.mono hv2.size); obtain ⟨v3t0, v3t1, v3t2, v3t3⟩ := HCt.out y3 hv3; have hres := HR.out y3 hv3; obtain ⟨r0, r1, r2, r3⟩ := BoxR.row4 hres; have z0 := frozen_of_row _ _ 0 _ _ hres; have z1 := frozen_of_row _ _ 1 _ _ hres; have z2 := frozen_of_row _ _ 2 _ _ hres; have z3 := frozen_of_row _ _ 3 _ _ hres)
          | fail)
      have hq9 : w.heap.size + 2 ≤ y2.heap.size := by have h := hv2.size; rw [HSZ.out] at h; exact h
      have hS9 : ∀ b ∈ S6, w.heap.size + 2 ≤ b := fun b hb => Nat.le_trans hq9 (hS6 b hb)
      have hbz := HB0.out.trans (hv3.mono HB0.out.size)
      have hpost : TmOutB r b0 w (.returned (.tuple #[.agg #[.int .i64 r.op, .int .i64 r.num, .slice A6 r.perm.length c6, .slice B6 r.kids.length d6], .bool b0])) ((((y3.setCell ⟨w.heap.size + 1, 0, none⟩ (.int .i64 r.op)).setCell ⟨w.heap.size + 1, 1, none⟩ (.int .i64 r.num)).setCell ⟨w.heap.size + 1, 2, none⟩ (.slice A6 r.perm.length c6)).setCell ⟨w.heap.size + 1, 3, none⟩ (.slice B6 r.kids.length d6)) :=
        ⟨A6, c6, B6, d6, S6, rfl, set4_own hL6 (fun b hb => by have := hS9 b hb; omega) _ _ _ _, fun b hb => by have := hS9 b hb; omega, set4_below hbz (by omega) _ _ _ _⟩
      clear hL6 hS6 hS9 hbz HR HB0 HSZ hres hwd HCt HIt hv0 hb0 hv1 hb1 hv2 hb2 hv3 hb3 hy0 hy1 hy2 hy3
      go_wp2
      exact bodyPost_ret (v := .tuple #[.agg #[.int .i64 r.op, .int .i64 r.num, .slice A6 r.perm.length c6, .slice B6 r.kids.length d6], .bool b0]) (by simp [results, Tryz.results44, go_sem, r0, r1, r2, r3]) rfl ((by rw [HT.out, HRR.out]; exact hpost))
end Go.Proofs.YtlhjgjfnmejiaaaGreat
