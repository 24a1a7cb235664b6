/-
  HoldsFor of the program and of the model, as contracts.
-/
import Derived.Test.YtbfkfklaplgebaaGreatKHoldsFor40
import Derived.Test.YtbfkfklaplgebaaGreatKHoldsFor41
import Derived.Test.YtbfkfklaplgebaaGreatKHoldsFor43
import Derived.Test.YtbfkfklaplgebaaGreatKHoldsFor20
namespace Go.Proofs.YtbfkfklaplgebaaGreat
open Go.RowKit Go.Sort Go.ChangeShapes Go.WideShapes
set_option linter.unusedVariables false

theorem row8 {w : World} {g : Nat} {a b c d e f i j : Value} {T : TypeId} (h : w.heap[g]? = some (.cells #[a, b, c, d, e, f, i, j] T (0, 0))) : w.cell? ⟨g, 0, none⟩ = some a ∧ w.cell? ⟨g, 1, none⟩ = some b ∧ w.cell? ⟨g, 2, none⟩ = some c ∧ w.cell? ⟨g, 3, none⟩ = some d ∧ w.cell? ⟨g, 4, none⟩ = some e ∧ w.cell? ⟨g, 5, none⟩ = some f ∧ w.cell? ⟨g, 6, none⟩ = some i ∧ w.cell? ⟨g, 7, none⟩ = some j := by
  refine ⟨?_, ?_, ?_, ?_, ?_, ?_, ?_, ?_⟩ <;> rw [cell_of_row w g _ _ _ _ h] <;> rfl

set_option maxRecDepth 100000 in
set_option maxHeartbeats 8000000 in
/-- HoldsFor of the program. -/
theorem holdsFor_impl (es : List REquation) (l : List RBinding) (c : List (Int × Int)) (ev lv : Value) (C : Option Addr) (cc : Nat) (w : World) (hev : REquationsIn w ev es) (hlv : RBindingsIn w lv l) (hC : PairsAt w C c)
    (hel : es.length ≤ 1048576) (hec : ∀ k, k < es.length → cntREquation (atREquation es k) ≤ 1048576) (hll : l.length ≤ 1048576) (hlc : ∀ k, k < l.length → cntT (atRBinding l k).f1 ≤ 1048576) (hcl : c.length ≤ 1048576) :
    Calls Tryz.prog 44 #[ev, .agg #[lv, .slice C c.length cc]] w (BoolPost (hldB es l c) w) := by
  have hEV := hev
  obtain ⟨CE, de, rfl, hge⟩ := hev
  have hLV := hlv
  obtain ⟨CL, dl, rfl, hgl⟩ := hlv
  clear hgl
  have hb0 : Below w.heap.size w (w.alloc (.cells #[.slice CL l.length dl, .slice C c.length cc] 69)) := (Below.refl _ _).alloc (Nat.le_refl _) _
  have hbox := heap_alloc_new w (.cells #[.slice CL l.length dl, .slice C c.length cc] 69)
  have HBX := Lib.hid (fun (W : World) (h : Below (w.alloc (.cells #[.slice CL l.length dl, .slice C c.length cc] 69)).heap.size (w.alloc (.cells #[.slice CL l.length dl, .slice C c.length cc] 69)) W) => row2 ((h.block w.heap.size (by simp)).trans hbox))
  have HB0 := Lib.hid hb0
  have HP := Lib.hid (fun (W : World) (h : Below (w.alloc (.cells #[.slice CL l.length dl, .slice C c.length cc] 69)).heap.size (w.alloc (.cells #[.slice CL l.length dl, .slice C c.length cc] 69)) W) => isProb_impl es _ W (hEV.below (hb0.trans (h.mono hb0.size))) hel hec)
  have HS := Lib.hid (fun (W : World) (h : Below (w.alloc (.cells #[.slice CL l.length dl, .slice C c.length cc] 69)).heap.size (w.alloc (.cells #[.slice CL l.length dl, .slice C c.length cc] 69)) W) => isSub_impl l _ W (hLV.below (hb0.trans (h.mono hb0.size))) hll hlc)
  have HX := Lib.hid (fun (W : World) (h : Below (w.alloc (.cells #[.slice CL l.length dl, .slice C c.length cc] 69)).heap.size (w.alloc (.cells #[.slice CL l.length dl, .slice C c.length cc] 69)) W) => isContext_impl C cc c W (hC.below (hb0.trans (h.mono hb0.size))) (by omega))
  have HLV := Lib.hid (fun (W : World) (h : Below (w.alloc (.cells #[.slice CL l.length dl, .slice C c.length cc] 69)).heap.size (w.alloc (.cells #[.slice CL l.length dl, .slice C c.length cc] 69)) W) => hLV.below (hb0.trans (h.mono hb0.size)))
  have HC := Lib.hid (fun (W : World) (h : Below (w.alloc (.cells #[.slice CL l.length dl, .slice C c.length cc] 69)).heap.size (w.alloc (.cells #[.slice CL l.length dl, .slice C c.length cc] 69)) W) => hC.below (hb0.trans (h.mono hb0.size)))
  have HGE := Lib.hid hge
  clear hEV hLV hC hb0 hbox hge
  have hp0 := HP.out (w.alloc (.cells #[.slice CL l.length dl, .slice C c.length cc] 69)) (Below.refl _ _)
  cases h0 : probB es with
  | false =>
    have HT := Lib.hid (hld_no1 (l := l) (c := c) h0)
    rw [h0] at hp0
    clear h0
    go_enter Tryz.func44, Tryz.ntmps44
    go_wp2_with fail
    refine hp0.mono ?_
    rintro e w1 ⟨rfl, hb1⟩
    have hpost : BoolPost (hldB es l c) w (.returned (.bool false)) w1 := ⟨by rw [HT.out], HB0.out.trans (hb1.mono HB0.out.size)⟩
    clear hp0 HBX HB0 HP HS HX HLV HC HGE hel hec hll hlc hcl
    go_wp2
    go_ret
    exact hpost
  | true =>
    rw [h0] at hp0
    cases h1 : subB l with
    | false =>
      have HT := Lib.hid (hld_no2 (es := es) (c := c) h1)
      go_enter Tryz.func44, Tryz.ntmps44
      go_wp2_with fail
      refine hp0.mono ?_
      rintro e w1 ⟨rfl, hb1⟩
      obtain ⟨s0, s1, _, _⟩ := HBX.out w1 hb1
      have hp1 := HS.out w1 hb1
      rw [h1] at hp1
      clear hp0 h0 h1
      go_wp2_with fail
      refine hp1.mono ?_
      rintro e w2 ⟨rfl, hb2⟩
      have hb2' := hb1.trans (hb2.mono hb1.size)
      have hpost : BoolPost (hldB es l c) w (.returned (.bool false)) w2 := ⟨by rw [HT.out], HB0.out.trans (hb2'.mono HB0.out.size)⟩
      clear hp1 hb1 hb2 s0 s1 HBX HB0 HP HS HX HLV HC HGE hel hec hll hlc hcl
      go_wp2
      go_ret
      exact hpost
    | true =>
      cases h2 : ctxB c with
      | false =>
        have HT := Lib.hid (hld_no3 (es := es) (l := l) h2)
        go_enter Tryz.func44, Tryz.ntmps44
        go_wp2_with fail
        refine hp0.mono ?_
        rintro e w1 ⟨rfl, hb1⟩
        obtain ⟨s0, s1, _, _⟩ := HBX.out w1 hb1
        have hp1 := HS.out w1 hb1
        rw [h1] at hp1
        clear hp0 h0 h1
        go_wp2_with fail
        refine hp1.mono ?_
        rintro e w2 ⟨rfl, hb2⟩
        have hb2' := hb1.trans (hb2.mono hb1.size)
        obtain ⟨t0, t1, _, _⟩ := HBX.out w2 hb2'
        have hp2 := HX.out w2 hb2'
        rw [h2] at hp2
        clear hp1 h2 s0 s1
        go_wp2_with fail
        refine hp2.mono ?_
        rintro e w3 ⟨rfl, hb3⟩
        have hb3' := hb2'.trans (hb3.mono hb2'.size)
        have hpost : BoolPost (hldB es l c) w (.returned (.bool false)) w3 := ⟨by rw [HT.out], HB0.out.trans (hb3'.mono HB0.out.size)⟩
        clear hp2 hb1 hb2 hb2' hb3 t0 t1 HBX HB0 HP HS HX HLV HC HGE hel hec hll hlc hcl
        go_wp2
        go_ret
        exact hpost
      | true =>
        have HY := Lib.hid (fun (h : hAll es l c = true) => hld_yes h0 h1 h2 h)
        have HPT := Lib.hid (fun (k : Nat) (hk : k < es.length) => (eqAll_at (rs := es) (by have h := h0; unfold probB at h; rw [Bool.and_eq_true] at h; exact h.1) hk))
        go_enter Tryz.func44, Tryz.ntmps44
        go_wp2_with fail
        refine hp0.mono ?_
        rintro e w1 ⟨rfl, hb1⟩
        obtain ⟨s0, s1, _, _⟩ := HBX.out w1 hb1
        have hp1 := HS.out w1 hb1
        rw [h1] at hp1
        clear hp0 h0 h1
        go_wp2_with fail
        refine hp1.mono ?_
        rintro e w2 ⟨rfl, hb2⟩
        have hb2' := hb1.trans (hb2.mono hb1.size)
        obtain ⟨t0, t1, _, _⟩ := HBX.out w2 hb2'
        have hp2 := HX.out w2 hb2'
        rw [h2] at hp2
        clear hp1 h2 s0 s1
        go_wp2_with fail
        refine hp2.mono ?_
        rintro e w3 ⟨rfl, hb3⟩
        have hb3' := hb2'.trans (hb3.mono hb2'.size)
        clear hp2 hb1 hb2 hb2' hb3 t0 t1 HP HS HX
        go_wp2
        go_loopw [28] (fun i wr => ∃ k : Nat, k ≤ es.length ∧ i = .int .i64 k ∧ Hid (∀ j, j < k → hAt l c (atREquation es j) = true) ∧ Below (w.alloc (.cells #[.slice CL l.length dl, .slice C c.length cc] 69)).heap.size (w.alloc (.cells #[.slice CL l.length dl, .slice C c.length cc] 69)) wr) (fun i _ => es.length - (intOf i).toNat)
        case atStart => exact ⟨0, Nat.zero_le _, rfl, fun j hj => absurd hj (by omega), hb3'⟩
        case round =>
          clear hb3'
          obtain ⟨k, hk, rfl, hq, hb⟩ := hrel
          by_cases hlt : k < es.length
          · obtain ⟨b1, o1, rfl, hb1, hget⟩ := HGE.out (by omega)
            have hbw := HB0.out.trans (hb.mono HB0.out.size)
            obtain ⟨A0, c0, B0, d0, A1, c1, B1, d1, e0, e1, e2, e3, e4, e5, e6, e7, ht0, ht1⟩ := (hget k hlt).below hb1 hbw
            have hcnt := hec k hlt
            have HNO := Lib.hid (fun (h : hAt l c (atREquation es k) = false) => hld_no4 (hAll_no hlt h))
            have HQ := Lib.hid (fun (h : hAt l c (atREquation es k) = true) => next_all (p := fun j => hAt l c (atREquation es j)) hq h)
            have HTM := HPT.out k hlt
            clear hget hq HGE HPT
            generalize atREquation es k = r at *
            have hbx := hb.alloc hb.size (.cells #[.int .i64 r.f0.op, .int .i64 r.f0.num, .slice A0 r.f0.perm.length c0, .slice B0 r.f0.kids.length d0, .int .i64 r.f1.op, .int .i64 r.f1.num, .slice A1 r.f1.perm.length c1, .slice B1 r.f1.kids.length d1] 125)
            have hrow : (wr.alloc (.cells #[.int .i64 r.f0.op, .int .i64 r.f0.num, .slice A0 r.f0.perm.length c0, .slice B0 r.f0.kids.length d0, .int .i64 r.f1.op, .int .i64 r.f1.num, .slice A1 r.f1.perm.length c1, .slice B1 r.f1.kids.length d1] 125)).heap[wr.heap.size]? = _ := heap_alloc_new wr (.cells #[.int .i64 r.f0.op, .int .i64 r.f0.num, .slice A0 r.f0.perm.length c0, .slice B0 r.f0.kids.length d0, .int .i64 r.f1.op, .int .i64 r.f1.num, .slice A1 r.f1.perm.length c1, .slice B1 r.f1.kids.length d1] 125)
            have hwx : Below wr.heap.size wr (wr.alloc (.cells #[.int .i64 r.f0.op, .int .i64 r.f0.num, .slice A0 r.f0.perm.length c0, .slice B0 r.f0.kids.length d0, .int .i64 r.f1.op, .int .i64 r.f1.num, .slice A1 r.f1.perm.length c1, .slice B1 r.f1.kids.length d1] 125)) := (Below.refl _ _).alloc (Nat.le_refl _) _
            obtain ⟨x0, x1, x2, x3, x4, x5, x6, x7⟩ := row8 hrow
            have HROW := Lib.hid (fun (W : World) (h : Below (wr.alloc (.cells #[.int .i64 r.f0.op, .int .i64 r.f0.num, .slice A0 r.f0.perm.length c0, .slice B0 r.f0.kids.length d0, .int .i64 r.f1.op, .int .i64 r.f1.num, .slice A1 r.f1.perm.length c1, .slice B1 r.f1.kids.length d1] 125)).heap.size (wr.alloc (.cells #[.int .i64 r.f0.op, .int .i64 r.f0.num, .slice A0 r.f0.perm.length c0, .slice B0 r.f0.kids.length d0, .int .i64 r.f1.op, .int .i64 r.f1.num, .slice A1 r.f1.perm.length c1, .slice B1 r.f1.kids.length d1] 125)) W) => row8 ((h.block wr.heap.size (by simp)).trans hrow))
            obtain ⟨s0, s1, _, _⟩ := HBX.out _ hbx
            have hlb : w.heap.size < wr.heap.size := by have := hb.size; rw [World.size_alloc] at this; omega
            have hap := applySub_impl l r.f0 _ _ (wr.alloc (.cells #[.int .i64 r.f0.op, .int .i64 r.f0.num, .slice A0 r.f0.perm.length c0, .slice B0 r.f0.kids.length d0, .int .i64 r.f1.op, .int .i64 r.f1.num, .slice A1 r.f1.perm.length c1, .slice B1 r.f1.kids.length d1] 125)) (HLV.out _ hbx) (ht0.below hwx) hll hlc (by have h := hcnt; unfold cntREquation at h; omega)
            have HT1 := Lib.hid (fun (W : World) (h : Below (wr.alloc (.cells #[.int .i64 r.f0.op, .int .i64 r.f0.num, .slice A0 r.f0.perm.length c0, .slice B0 r.f0.kids.length d0, .int .i64 r.f1.op, .int .i64 r.f1.num, .slice A1 r.f1.perm.length c1, .slice B1 r.f1.kids.length d1] 125)).heap.size (wr.alloc (.cells #[.int .i64 r.f0.op, .int .i64 r.f0.num, .slice A0 r.f0.perm.length c0, .slice B0 r.f0.kids.length d0, .int .i64 r.f1.op, .int .i64 r.f1.num, .slice A1 r.f1.perm.length c1, .slice B1 r.f1.kids.length d1] 125)) W) => (ht1.below hwx).below h)
            have hat : Hid (hAt l c r = eqInB c (orT (doT l r.f0) (doB l r.f0)) (orT (doT l r.f1) (doB l r.f1))) := Lib.hid rfl
            have HN0 := Lib.hid (hAt_no0 (l := l) (c := c) (e := r))
            have HN1 := Lib.hid (hAt_no1 (l := l) (c := c) (e := r))
            have hc0 := or_cnt (l := l) (t := r.f0)
            have hc1 := or_cnt (l := l) (t := r.f1)
            have HAP1 := Lib.hid (fun (W : World) (h : Below (wr.alloc (.cells #[.int .i64 r.f0.op, .int .i64 r.f0.num, .slice A0 r.f0.perm.length c0, .slice B0 r.f0.kids.length d0, .int .i64 r.f1.op, .int .i64 r.f1.num, .slice A1 r.f1.perm.length c1, .slice B1 r.f1.kids.length d1] 125)).heap.size (wr.alloc (.cells #[.int .i64 r.f0.op, .int .i64 r.f0.num, .slice A0 r.f0.perm.length c0, .slice B0 r.f0.kids.length d0, .int .i64 r.f1.op, .int .i64 r.f1.num, .slice A1 r.f1.perm.length c1, .slice B1 r.f1.kids.length d1] 125)) W) => applySub_impl l r.f1 _ _ W (HLV.out _ (hbx.trans (h.mono hbx.size))) ((ht1.below hwx).below h) hll hlc (by have h := hcnt; unfold cntREquation at h; omega))
            have HBXX := Lib.hid hbx
            clear ht0 ht1 hrow hwx hb hbw hcnt hbx
            generalize doB l r.f0 = b0 at *
            generalize doB l r.f1 = b1' at *
            generalize orT (doT l r.f0) b0 = u at *
            generalize orT (doT l r.f1) b1' = v at *
            go_wp2_with fail
            refine hap.mono ?_
            rintro e w4 ⟨P4, p4, K4, k4, S4, rfl, hL4, hS4, hb4⟩
            have hbx4 : Below w4.heap.size w4 (w4.alloc (.cells #[.int .i64 u.op, .int .i64 u.num, .slice P4 u.perm.length p4, .slice K4 u.kids.length k4] 31)) := (Below.refl _ _).alloc (Nat.le_refl _) _
            have hb45 := hb4.trans (hbx4.mono hb4.size)
            have hrow4 := heap_alloc_new w4 (.cells #[.int .i64 u.op, .int .i64 u.num, .slice P4 u.perm.length p4, .slice K4 u.kids.length k4] 31)
            have hL45 := hL4.alike (w' := w4.alloc (.cells #[.int .i64 u.op, .int .i64 u.num, .slice P4 u.perm.length p4, .slice K4 u.kids.length k4] 31)) (fun b hb => hbx4.block b (hL4.lt b hb))
            have hap1 := HAP1.out _ hb45
            obtain ⟨y0, y1, y2, y3, y4, y5, y6, y7⟩ := HROW.out _ hb45
            obtain ⟨t0, t1, _, _⟩ := HBX.out _ (HBXX.out.trans (hb45.mono HBXX.out.size))
            have HB45 := Lib.hid hb45
            have HL4 := Lib.hid hL45
            have HR4 := Lib.hid hrow4
            have hlw4 : wr.heap.size < w4.heap.size := by have := hb4.size; rw [World.size_alloc] at this; omega
            clear hap hL4 hS4 hb4 hbx4 hb45 hrow4 hL45 x0 x1 x2 x3 x4 x5 x6 x7 s0 s1
            go_wp2_with fail
            refine hap1.mono ?_
            rintro e w6 ⟨P6, p6, K6, k6, S6, rfl, hL6, hS6, hb6⟩
            have hbx6 : Below w6.heap.size w6 (w6.alloc (.cells #[.int .i64 v.op, .int .i64 v.num, .slice P6 v.perm.length p6, .slice K6 v.kids.length k6] 31)) := (Below.refl _ _).alloc (Nat.le_refl _) _
            have hb67 := hb6.trans (hbx6.mono hb6.size)
            have hb07 := HBXX.out.trans ((HB45.out.trans (hb67.mono HB45.out.size)).mono HBXX.out.size)
            have hrow6 := heap_alloc_new w6 (.cells #[.int .i64 v.op, .int .i64 v.num, .slice P6 v.perm.length p6, .slice K6 v.kids.length k6] 31)
            have hrow5 := (hb67.block w4.heap.size (by simp)).trans HR4.out
            obtain ⟨z0, z1, z2, z3⟩ := BoxR.row4 hrow5
            obtain ⟨q0, q1, q2, q3⟩ := BoxR.row4 hrow6
            obtain ⟨s0, s1, _, _⟩ := HBX.out _ hb07
            have hlw6 : w4.heap.size < w6.heap.size := by have := hb6.size; rw [World.size_alloc] at this; omega
            have heq := equalIn_impl C cc c u v _ _ (w6.alloc (.cells #[.int .i64 v.op, .int .i64 v.num, .slice P6 v.perm.length p6, .slice K6 v.kids.length k6] 31)) (HC.out _ hb07) hcl ((tm_box HL4.out).below hb67) ((tm_box hL6).below hbx6) (fit_of _ hc0) (fit_of _ hc1)
            rw [← hat.out] at heq
            clear hap1 hL6 hS6 hb6 hbx6 hb67 hrow6 hrow5 HL4 HR4 HB45 HBXX y0 y1 y2 y3 y4 y5 y6 y7 t0 t1 HROW HT1 HAP1 hc0 hc1
            go_wp2_with fail
            refine heq.mono ?_
            rintro e w8 ⟨rfl, hb8⟩
            have hb08 := hb07.trans (hb8.mono hb07.size)
            clear heq hb8 hb07 z0 z1 z2 z3 q0 q1 q2 q3 s0 s1
            cases hh : hAt l c r with
            | false =>
              have HT := Lib.hid (HNO.out hh)
              have hpost : BoolPost (hldB es l c) w (.returned (.bool false)) w8 := ⟨by rw [HT.out], HB0.out.trans (hb08.mono HB0.out.size)⟩
              clear hh hb08 HT HNO HQ HY HBX HB0 HLV HC hat HN0 HN1
              go_wp2
              go_ret
              exact hpost
            | true =>
              have hq2 : Hid (∀ j, j < k + 1 → hAt l c (atREquation es j) = true) := Lib.hid (HQ.out hh)
              clear hh HNO HQ hat HN0 HN1
              go_wp2
              refine ⟨⟨k + 1, by omega, by go_num, hq2, hb08⟩, ?_⟩
              simp only [intOf]
              omega
          · have hall : Hid (hldB es l c = true) := Lib.hid (HY.out (hAll_yes fun j hj => hq j (by omega)))
            have hpost : BoolPost (hldB es l c) w (.returned (.bool true)) wr := ⟨by rw [hall.out], HB0.out.trans (hb.mono HB0.out.size)⟩
            clear hq hb HY HPT HBX HB0 HLV HC HGE hall
            go_wp2
            go_ret
            exact hpost

set_option maxRecDepth 100000 in
set_option maxHeartbeats 8000000 in
/-- HoldsFor of the model. -/
theorem holdsFor_spec (es : List REquation) (l : List RBinding) (c : List (Int × Int)) (ev lv : Value) (C : Option Addr) (cc : Nat) (w : World) (hev : REquationsIn w ev es) (hlv : RBindingsIn w lv l) (hC : PairsAt w C c)
    (hel : es.length ≤ 1048576) (hec : ∀ k, k < es.length → cntREquation (atREquation es k) ≤ 1048576) (hll : l.length ≤ 1048576) (hlc : ∀ k, k < l.length → cntT (atRBinding l k).f1 ≤ 1048576) (hcl : c.length ≤ 1048576) :
    Calls Tryz.prog 41 #[ev, .agg #[lv, .slice C c.length cc]] w (BoolPost (hldB es l c) w) := by
  have hEV := hev
  obtain ⟨CE, de, rfl, hge⟩ := hev
  have hLV := hlv
  obtain ⟨CL, dl, rfl, hgl⟩ := hlv
  clear hgl
  have hb0 : Below w.heap.size w (w.alloc (.cells #[.slice CL l.length dl, .slice C c.length cc] 69)) := (Below.refl _ _).alloc (Nat.le_refl _) _
  have hbox := heap_alloc_new w (.cells #[.slice CL l.length dl, .slice C c.length cc] 69)
  have HBX := Lib.hid (fun (W : World) (h : Below (w.alloc (.cells #[.slice CL l.length dl, .slice C c.length cc] 69)).heap.size (w.alloc (.cells #[.slice CL l.length dl, .slice C c.length cc] 69)) W) => row2 ((h.block w.heap.size (by simp)).trans hbox))
  have HB0 := Lib.hid hb0
  have HP := Lib.hid (fun (W : World) (h : Below (w.alloc (.cells #[.slice CL l.length dl, .slice C c.length cc] 69)).heap.size (w.alloc (.cells #[.slice CL l.length dl, .slice C c.length cc] 69)) W) => isProb_spec es _ W (hEV.below (hb0.trans (h.mono hb0.size))) hel hec)
  have HS := Lib.hid (fun (W : World) (h : Below (w.alloc (.cells #[.slice CL l.length dl, .slice C c.length cc] 69)).heap.size (w.alloc (.cells #[.slice CL l.length dl, .slice C c.length cc] 69)) W) => isSub_spec l _ W (hLV.below (hb0.trans (h.mono hb0.size))) hll hlc)
  have HX := Lib.hid (fun (W : World) (h : Below (w.alloc (.cells #[.slice CL l.length dl, .slice C c.length cc] 69)).heap.size (w.alloc (.cells #[.slice CL l.length dl, .slice C c.length cc] 69)) W) => isContext_spec C cc c W (hC.below (hb0.trans (h.mono hb0.size))) (by omega))
  have HLV := Lib.hid (fun (W : World) (h : Below (w.alloc (.cells #[.slice CL l.length dl, .slice C c.length cc] 69)).heap.size (w.alloc (.cells #[.slice CL l.length dl, .slice C c.length cc] 69)) W) => hLV.below (hb0.trans (h.mono hb0.size)))
  have HC := Lib.hid (fun (W : World) (h : Below (w.alloc (.cells #[.slice CL l.length dl, .slice C c.length cc] 69)).heap.size (w.alloc (.cells #[.slice CL l.length dl, .slice C c.length cc] 69)) W) => hC.below (hb0.trans (h.mono hb0.size)))
  have HGE := Lib.hid hge
  clear hEV hLV hC hb0 hbox hge
  have hp0 := HP.out (w.alloc (.cells #[.slice CL l.length dl, .slice C c.length cc] 69)) (Below.refl _ _)
  cases h0 : probB es with
  | false =>
    have HT := Lib.hid (hld_no1 (l := l) (c := c) h0)
    rw [h0] at hp0
    clear h0
    go_enter Tryz.func41, Tryz.ntmps41
    go_wp2_with fail
    refine hp0.mono ?_
    rintro e w1 ⟨rfl, hb1⟩
    have hpost : BoolPost (hldB es l c) w (.returned (.bool false)) w1 := ⟨by rw [HT.out], HB0.out.trans (hb1.mono HB0.out.size)⟩
    clear hp0 HBX HB0 HP HS HX HLV HC HGE hel hec hll hlc hcl
    go_wp2
    go_ret
    exact hpost
  | true =>
    rw [h0] at hp0
    cases h1 : subB l with
    | false =>
      have HT := Lib.hid (hld_no2 (es := es) (c := c) h1)
      go_enter Tryz.func41, Tryz.ntmps41
      go_wp2_with fail
      refine hp0.mono ?_
      rintro e w1 ⟨rfl, hb1⟩
      obtain ⟨s0, s1, _, _⟩ := HBX.out w1 hb1
      have hp1 := HS.out w1 hb1
      rw [h1] at hp1
      clear hp0 h0 h1
      go_wp2_with fail
      refine hp1.mono ?_
      rintro e w2 ⟨rfl, hb2⟩
      have hb2' := hb1.trans (hb2.mono hb1.size)
      have hpost : BoolPost (hldB es l c) w (.returned (.bool false)) w2 := ⟨by rw [HT.out], HB0.out.trans (hb2'.mono HB0.out.size)⟩
      clear hp1 hb1 hb2 s0 s1 HBX HB0 HP HS HX HLV HC HGE hel hec hll hlc hcl
      go_wp2
      go_ret
      exact hpost
    | true =>
      cases h2 : ctxB c with
      | false =>
        have HT := Lib.hid (hld_no3 (es := es) (l := l) h2)
        go_enter Tryz.func41, Tryz.ntmps41
        go_wp2_with fail
        refine hp0.mono ?_
        rintro e w1 ⟨rfl, hb1⟩
        obtain ⟨s0, s1, _, _⟩ := HBX.out w1 hb1
        have hp1 := HS.out w1 hb1
        rw [h1] at hp1
        clear hp0 h0 h1
        go_wp2_with fail
        refine hp1.mono ?_
        rintro e w2 ⟨rfl, hb2⟩
        have hb2' := hb1.trans (hb2.mono hb1.size)
        obtain ⟨t0, t1, _, _⟩ := HBX.out w2 hb2'
        have hp2 := HX.out w2 hb2'
        rw [h2] at hp2
        clear hp1 h2 s0 s1
        go_wp2_with fail
        refine hp2.mono ?_
        rintro e w3 ⟨rfl, hb3⟩
        have hb3' := hb2'.trans (hb3.mono hb2'.size)
        have hpost : BoolPost (hldB es l c) w (.returned (.bool false)) w3 := ⟨by rw [HT.out], HB0.out.trans (hb3'.mono HB0.out.size)⟩
        clear hp2 hb1 hb2 hb2' hb3 t0 t1 HBX HB0 HP HS HX HLV HC HGE hel hec hll hlc hcl
        go_wp2
        go_ret
        exact hpost
      | true =>
        have HY := Lib.hid (fun (h : hAll es l c = true) => hld_yes h0 h1 h2 h)
        have HPT := Lib.hid (fun (k : Nat) (hk : k < es.length) => (eqAll_at (rs := es) (by have h := h0; unfold probB at h; rw [Bool.and_eq_true] at h; exact h.1) hk))
        go_enter Tryz.func41, Tryz.ntmps41
        go_wp2_with fail
        refine hp0.mono ?_
        rintro e w1 ⟨rfl, hb1⟩
        obtain ⟨s0, s1, _, _⟩ := HBX.out w1 hb1
        have hp1 := HS.out w1 hb1
        rw [h1] at hp1
        clear hp0 h0 h1
        go_wp2_with fail
        refine hp1.mono ?_
        rintro e w2 ⟨rfl, hb2⟩
        have hb2' := hb1.trans (hb2.mono hb1.size)
        obtain ⟨t0, t1, _, _⟩ := HBX.out w2 hb2'
        have hp2 := HX.out w2 hb2'
        rw [h2] at hp2
        clear hp1 h2 s0 s1
        go_wp2_with fail
        refine hp2.mono ?_
        rintro e w3 ⟨rfl, hb3⟩
        have hb3' := hb2'.trans (hb3.mono hb2'.size)
        clear hp2 hb1 hb2 hb2' hb3 t0 t1 HP HS HX
        go_wp2
        go_loopw [28] (fun i wr => ∃ k : Nat, k ≤ es.length ∧ i = .int .i64 k ∧ Hid (∀ j, j < k → hAt l c (atREquation es j) = true) ∧ Below (w.alloc (.cells #[.slice CL l.length dl, .slice C c.length cc] 69)).heap.size (w.alloc (.cells #[.slice CL l.length dl, .slice C c.length cc] 69)) wr) (fun i _ => es.length - (intOf i).toNat)
        case atStart => exact ⟨0, Nat.zero_le _, rfl, fun j hj => absurd hj (by omega), hb3'⟩
        case round =>
          clear hb3'
          obtain ⟨k, hk, rfl, hq, hb⟩ := hrel
          by_cases hlt : k < es.length
          · obtain ⟨b1, o1, rfl, hb1, hget⟩ := HGE.out (by omega)
            have hbw := HB0.out.trans (hb.mono HB0.out.size)
            obtain ⟨A0, c0, B0, d0, A1, c1, B1, d1, e0, e1, e2, e3, e4, e5, e6, e7, ht0, ht1⟩ := (hget k hlt).below hb1 hbw
            have hcnt := hec k hlt
            have HNO := Lib.hid (fun (h : hAt l c (atREquation es k) = false) => hld_no4 (hAll_no hlt h))
            have HQ := Lib.hid (fun (h : hAt l c (atREquation es k) = true) => next_all (p := fun j => hAt l c (atREquation es j)) hq h)
            have HTM := HPT.out k hlt
            clear hget hq HGE HPT
            generalize atREquation es k = r at *
            have hbx := hb.alloc hb.size (.cells #[.int .i64 r.f0.op, .int .i64 r.f0.num, .slice A0 r.f0.perm.length c0, .slice B0 r.f0.kids.length d0, .int .i64 r.f1.op, .int .i64 r.f1.num, .slice A1 r.f1.perm.length c1, .slice B1 r.f1.kids.length d1] 125)
            have hrow : (wr.alloc (.cells #[.int .i64 r.f0.op, .int .i64 r.f0.num, .slice A0 r.f0.perm.length c0, .slice B0 r.f0.kids.length d0, .int .i64 r.f1.op, .int .i64 r.f1.num, .slice A1 r.f1.perm.length c1, .slice B1 r.f1.kids.length d1] 125)).heap[wr.heap.size]? = _ := heap_alloc_new wr (.cells #[.int .i64 r.f0.op, .int .i64 r.f0.num, .slice A0 r.f0.perm.length c0, .slice B0 r.f0.kids.length d0, .int .i64 r.f1.op, .int .i64 r.f1.num, .slice A1 r.f1.perm.length c1, .slice B1 r.f1.kids.length d1] 125)
            have hwx : Below wr.heap.size wr (wr.alloc (.cells #[.int .i64 r.f0.op, .int .i64 r.f0.num, .slice A0 r.f0.perm.length c0, .slice B0 r.f0.kids.length d0, .int .i64 r.f1.op, .int .i64 r.f1.num, .slice A1 r.f1.perm.length c1, .slice B1 r.f1.kids.length d1] 125)) := (Below.refl _ _).alloc (Nat.le_refl _) _
            obtain ⟨x0, x1, x2, x3, x4, x5, x6, x7⟩ := row8 hrow
            have HROW := Lib.hid (fun (W : World) (h : Below (wr.alloc (.cells #[.int .i64 r.f0.op, .int .i64 r.f0.num, .slice A0 r.f0.perm.length c0, .slice B0 r.f0.kids.length d0, .int .i64 r.f1.op, .int .i64 r.f1.num, .slice A1 r.f1.perm.length c1, .slice B1 r.f1.kids.length d1] 125)).heap.size (wr.alloc (.cells #[.int .i64 r.f0.op, .int .i64 r.f0.num, .slice A0 r.f0.perm.length c0, .slice B0 r.f0.kids.length d0, .int .i64 r.f1.op, .int .i64 r.f1.num, .slice A1 r.f1.perm.length c1, .slice B1 r.f1.kids.length d1] 125)) W) => row8 ((h.block wr.heap.size (by simp)).trans hrow))
            obtain ⟨s0, s1, _, _⟩ := HBX.out _ hbx
            have hlb : w.heap.size < wr.heap.size := by have := hb.size; rw [World.size_alloc] at this; omega
            have hap := applySub_spec l r.f0 _ _ (wr.alloc (.cells #[.int .i64 r.f0.op, .int .i64 r.f0.num, .slice A0 r.f0.perm.length c0, .slice B0 r.f0.kids.length d0, .int .i64 r.f1.op, .int .i64 r.f1.num, .slice A1 r.f1.perm.length c1, .slice B1 r.f1.kids.length d1] 125)) (HLV.out _ hbx) (ht0.below hwx) hll hlc (by have h := hcnt; unfold cntREquation at h; omega)
            have HT1 := Lib.hid (fun (W : World) (h : Below (wr.alloc (.cells #[.int .i64 r.f0.op, .int .i64 r.f0.num, .slice A0 r.f0.perm.length c0, .slice B0 r.f0.kids.length d0, .int .i64 r.f1.op, .int .i64 r.f1.num, .slice A1 r.f1.perm.length c1, .slice B1 r.f1.kids.length d1] 125)).heap.size (wr.alloc (.cells #[.int .i64 r.f0.op, .int .i64 r.f0.num, .slice A0 r.f0.perm.length c0, .slice B0 r.f0.kids.length d0, .int .i64 r.f1.op, .int .i64 r.f1.num, .slice A1 r.f1.perm.length c1, .slice B1 r.f1.kids.length d1] 125)) W) => (ht1.below hwx).below h)
            have hat : Hid (hAt l c r = eqInB c (orT (doT l r.f0) (doB l r.f0)) (orT (doT l r.f1) (doB l r.f1))) := Lib.hid rfl
            have HN0 := Lib.hid (hAt_no0 (l := l) (c := c) (e := r))
            have HN1 := Lib.hid (hAt_no1 (l := l) (c := c) (e := r))
            have hc0 := or_cnt (l := l) (t := r.f0)
            have hc1 := or_cnt (l := l) (t := r.f1)
            have HAP1 := Lib.hid (fun (W : World) (h : Below (wr.alloc (.cells #[.int .i64 r.f0.op, .int .i64 r.f0.num, .slice A0 r.f0.perm.length c0, .slice B0 r.f0.kids.length d0, .int .i64 r.f1.op, .int .i64 r.f1.num, .slice A1 r.f1.perm.length c1, .slice B1 r.f1.kids.length d1] 125)).heap.size (wr.alloc (.cells #[.int .i64 r.f0.op, .int .i64 r.f0.num, .slice A0 r.f0.perm.length c0, .slice B0 r.f0.kids.length d0, .int .i64 r.f1.op, .int .i64 r.f1.num, .slice A1 r.f1.perm.length c1, .slice B1 r.f1.kids.length d1] 125)) W) => applySub_spec l r.f1 _ _ W (HLV.out _ (hbx.trans (h.mono hbx.size))) ((ht1.below hwx).below h) hll hlc (by have h := hcnt; unfold cntREquation at h; omega))
            have HBXX := Lib.hid hbx
            clear ht0 ht1 hrow hwx hb hbw hcnt hbx
            generalize doB l r.f0 = b0 at *
            generalize doB l r.f1 = b1' at *
            generalize orT (doT l r.f0) b0 = u at *
            generalize orT (doT l r.f1) b1' = v at *
            go_wp2_with fail
            refine hap.mono ?_
            rintro e w4 ⟨P4, p4, K4, k4, S4, rfl, hL4, hS4, hb4⟩
            have hbx4 : Below w4.heap.size w4 (w4.alloc (.cells #[.int .i64 u.op, .int .i64 u.num, .slice P4 u.perm.length p4, .slice K4 u.kids.length k4] 31)) := (Below.refl _ _).alloc (Nat.le_refl _) _
            have hb45 := hb4.trans (hbx4.mono hb4.size)
            have hrow4 := heap_alloc_new w4 (.cells #[.int .i64 u.op, .int .i64 u.num, .slice P4 u.perm.length p4, .slice K4 u.kids.length k4] 31)
            have hL45 := hL4.alike (w' := w4.alloc (.cells #[.int .i64 u.op, .int .i64 u.num, .slice P4 u.perm.length p4, .slice K4 u.kids.length k4] 31)) (fun b hb => hbx4.block b (hL4.lt b hb))
            have hap1 := HAP1.out _ hb45
            obtain ⟨y0, y1, y2, y3, y4, y5, y6, y7⟩ := HROW.out _ hb45
            obtain ⟨t0, t1, _, _⟩ := HBX.out _ (HBXX.out.trans (hb45.mono HBXX.out.size))
            have HB45 := Lib.hid hb45
            have HL4 := Lib.hid hL45
            have HR4 := Lib.hid hrow4
            have hlw4 : wr.heap.size < w4.heap.size := by have := hb4.size; rw [World.size_alloc] at this; omega
            clear hap hL4 hS4 hb4 hbx4 hb45 hrow4 hL45 x0 x1 x2 x3 x4 x5 x6 x7 s0 s1
            go_wp2_with fail
            refine hap1.mono ?_
            rintro e w6 ⟨P6, p6, K6, k6, S6, rfl, hL6, hS6, hb6⟩
            have hbx6 : Below w6.heap.size w6 (w6.alloc (.cells #[.int .i64 v.op, .int .i64 v.num, .slice P6 v.perm.length p6, .slice K6 v.kids.length k6] 31)) := (Below.refl _ _).alloc (Nat.le_refl _) _
            have hb67 := hb6.trans (hbx6.mono hb6.size)
            have hb07 := HBXX.out.trans ((HB45.out.trans (hb67.mono HB45.out.size)).mono HBXX.out.size)
            have hrow6 := heap_alloc_new w6 (.cells #[.int .i64 v.op, .int .i64 v.num, .slice P6 v.perm.length p6, .slice K6 v.kids.length k6] 31)
            have hrow5 := (hb67.block w4.heap.size (by simp)).trans HR4.out
            obtain ⟨z0, z1, z2, z3⟩ := BoxR.row4 hrow5
            obtain ⟨q0, q1, q2, q3⟩ := BoxR.row4 hrow6
            obtain ⟨s0, s1, _, _⟩ := HBX.out _ hb07
            have hlw6 : w4.heap.size < w6.heap.size := by have := hb6.size; rw [World.size_alloc] at this; omega
            have heq := equalIn_spec C cc c u v _ _ (w6.alloc (.cells #[.int .i64 v.op, .int .i64 v.num, .slice P6 v.perm.length p6, .slice K6 v.kids.length k6] 31)) (HC.out _ hb07) hcl ((tm_box HL4.out).below hb67) ((tm_box hL6).below hbx6) hc0 hc1
            rw [← hat.out] at heq
            clear hap1 hL6 hS6 hb6 hbx6 hb67 hrow6 hrow5 HL4 HR4 HB45 HBXX y0 y1 y2 y3 y4 y5 y6 y7 t0 t1 HROW HT1 HAP1 hc0 hc1
            cases h3 : b0 with
            | false =>
              have HT := Lib.hid (HNO.out (HN0.out h3))
              have hpost : BoolPost (hldB es l c) w (.returned (.bool false)) (w6.alloc (.cells #[.int .i64 v.op, .int .i64 v.num, .slice P6 v.perm.length p6, .slice K6 v.kids.length k6] 31)) := ⟨by rw [HT.out], HB0.out.trans (hb07.mono HB0.out.size)⟩
              clear heq hb07 z0 z1 z2 z3 q0 q1 q2 q3 s0 s1 h3 HT HNO HQ HY HBX HB0 HLV HC hat HN0 HN1
              go_wp2
              go_ret
              exact hpost
            | true =>
              cases h4 : b1' with
              | false =>
                have HT := Lib.hid (HNO.out (HN1.out h4))
                have hpost : BoolPost (hldB es l c) w (.returned (.bool false)) (w6.alloc (.cells #[.int .i64 v.op, .int .i64 v.num, .slice P6 v.perm.length p6, .slice K6 v.kids.length k6] 31)) := ⟨by rw [HT.out], HB0.out.trans (hb07.mono HB0.out.size)⟩
                clear heq hb07 z0 z1 z2 z3 q0 q1 q2 q3 s0 s1 h3 h4 HT HNO HQ HY HBX HB0 HLV HC hat HN0 HN1
                go_wp2
                go_ret
                exact hpost
              | true =>
                clear h3 h4
                go_wp2_with fail
                refine heq.mono ?_
                rintro e w8 ⟨rfl, hb8⟩
                have hb08 := hb07.trans (hb8.mono hb07.size)
                clear heq hb8 hb07 z0 z1 z2 z3 q0 q1 q2 q3 s0 s1
                cases hh : hAt l c r with
                | false =>
                  have HT := Lib.hid (HNO.out hh)
                  have hpost : BoolPost (hldB es l c) w (.returned (.bool false)) w8 := ⟨by rw [HT.out], HB0.out.trans (hb08.mono HB0.out.size)⟩
                  clear hh hb08 HT HNO HQ HY HBX HB0 HLV HC hat HN0 HN1
                  go_wp2
                  go_ret
                  exact hpost
                | true =>
                  have hq2 : Hid (∀ j, j < k + 1 → hAt l c (atREquation es j) = true) := Lib.hid (HQ.out hh)
                  clear hh HNO HQ hat HN0 HN1
                  go_wp2
                  refine ⟨⟨k + 1, by omega, by go_num, hq2, hb08⟩, ?_⟩
                  simp only [intOf]
                  omega
          · have hall : Hid (hldB es l c = true) := Lib.hid (HY.out (hAll_yes fun j hj => hq j (by omega)))
            have hpost : BoolPost (hldB es l c) w (.returned (.bool true)) wr := ⟨by rw [hall.out], HB0.out.trans (hb.mono HB0.out.size)⟩
            clear hq hb HY HPT HBX HB0 HLV HC HGE hall
            go_wp2
            go_ret
            exact hpost
end Go.Proofs.YtbfkfklaplgebaaGreat
