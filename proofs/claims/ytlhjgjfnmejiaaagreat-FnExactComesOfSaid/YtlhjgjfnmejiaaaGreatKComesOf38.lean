/-
  ComesOf in the program, as a contract.
-/
import Derived.Test.YtlhjgjfnmejiaaaGreatKComesOf36
import Derived.Test.YtlhjgjfnmejiaaaGreatKComesOf34
import Derived.Test.YtlhjgjfnmejiaaaGreatKComesOf37
import Derived.Test.YtlhjgjfnmejiaaaGreatKComesOf19
namespace Go.Proofs.YtlhjgjfnmejiaaaGreat
open Go.RowKit Go.Sort
set_option linter.unusedVariables false

namespace ComK
theorem row5 {w : World} {g : Nat} {a b c d e : Value} {T : TypeId} (h : w.heap[g]? = some (.cells #[a, b, c, d, e] T (0, 0))) : w.cell? ⟨g, 0, none⟩ = some a ∧ w.cell? ⟨g, 1, none⟩ = some b ∧ w.cell? ⟨g, 2, none⟩ = some c ∧ w.cell? ⟨g, 3, none⟩ = some d ∧ w.cell? ⟨g, 4, none⟩ = some e := by
  refine ⟨?_, ?_, ?_, ?_, ?_⟩ <;> rw [cell_of_row w g _ _ _ _ h] <;> rfl
theorem next_ok {p : Nat → Bool} {k : Nat} (h : ∀ j, j < k → p j = true) (hk : p k = true) : ∀ j, j < k + 1 → p j = true := by
  intro j hj
  rcases Nat.lt_or_ge j k with h1 | h1
  · exact h j h1
  · rw [show j = k by omega]; exact hk
end ComK
theorem holeT_in (w : World) (n : Int) : TmIn w (.agg #[.int .i64 4, .int .i64 n, .slice none 0 0, .slice none 0 0]) (holeT n) := by
  have h := own_four (w := w) (o := 4) (n := n) (p := []) (ks := []) own_none own_nokids (fun b hb => by simp at hb)
  exact tmOut_in (t := holeT n) h
theorem holeT_cnt (n : Int) : cntT (holeT n) ≤ 1048576 := by unfold holeT; rw [cntT_eq]; show 0 + (0 + sumT []) ≤ 1048576; decide

set_option maxRecDepth 100000 in
set_option maxHeartbeats 8000000 in
/-- ComesOf of the program. -/
theorem comesOf_impl (xs l : List RBinding) (m : List (Int × Int)) (x lv : Value) (w : World) (hx : SolIn w x xs m) (hlv : RBindingsIn w lv l)
    (hxl : xs.length ≤ 1048576) (hxc : ∀ k, k < xs.length → cntT (atRBinding xs k).f1 ≤ 1048576) (hml : m.length ≤ 1048576) (hll : l.length ≤ 1048576) (hlc : ∀ k, k < l.length → cntT (atRBinding l k).f1 ≤ 1048576) :
    Calls Tryz.prog 13 #[x, lv] w (BoolPost (comB xs m l) w) := by
  obtain ⟨A, ca, B, d, rfl, hxs, hm⟩ := hx
  have hlv' := hlv
  obtain ⟨CL, dl, rfl, hgl⟩ := hlv'
  have hb0 : Below w.heap.size w (w.alloc (.cells #[.slice A xs.length ca, .slice B m.length d] 32)) := (Below.refl _ _).alloc (Nat.le_refl _) _
  have k0 := heap_alloc_new w (.cells #[.slice A xs.length ca, .slice B m.length d] 32)
  have HBX := Lib.hid (fun (W : World) (h : Below (w.alloc (.cells #[.slice A xs.length ca, .slice B m.length d] 32)).heap.size (w.alloc (.cells #[.slice A xs.length ca, .slice B m.length d] 32)) W) => SolK.row2 ((h.block w.heap.size (by simp)).trans k0))
  have HCU := Lib.hid (fun (W : World) (h : Below (w.alloc (.cells #[.slice A xs.length ca, .slice B m.length d] 32)).heap.size (w.alloc (.cells #[.slice A xs.length ca, .slice B m.length d] 32)) W) => contextUnder_impl l m _ B d W (hlv.below (hb0.trans (h.mono hb0.size))) (hm.below (hb0.trans (h.mono hb0.size))) hll hlc hml)
  have HS := Lib.hid (fun (W : World) (h : Below (w.alloc (.cells #[.slice A xs.length ca, .slice B m.length d] 32)).heap.size (w.alloc (.cells #[.slice A xs.length ca, .slice B m.length d] 32)) W) => isSub_impl xs _ W (hxs.below (hb0.trans (h.mono hb0.size))) hxl hxc)
  have HXS := Lib.hid (fun (W : World) (h : Below (w.alloc (.cells #[.slice A xs.length ca, .slice B m.length d] 32)).heap.size (w.alloc (.cells #[.slice A xs.length ca, .slice B m.length d] 32)) W) => hxs.below (hb0.trans (h.mono hb0.size)))
  have HLV := Lib.hid (fun (W : World) (h : Below (w.alloc (.cells #[.slice A xs.length ca, .slice B m.length d] 32)).heap.size (w.alloc (.cells #[.slice A xs.length ca, .slice B m.length d] 32)) W) => hlv.below (hb0.trans (h.mono hb0.size)))
  have HGE := Lib.hid hgl
  have HB0 := Lib.hid hb0
  obtain ⟨m0, m1⟩ := SolK.row2 k0
  clear hxs hm hlv hgl k0 hb0
  cases h0 : cuB l m with
  | false =>
    have HF := Lib.hid (com_no1 (xs := xs) h0)
    have hcu := HCU.out (w.alloc (.cells #[.slice A xs.length ca, .slice B m.length d] 32)) (Below.refl _ _)
    rw [h0] at hcu
    unfold NewFreshsB at hcu
    go_enter Tryz.func13, Tryz.ntmps13
    go_wp2_with fail
    refine hcu.mono ?_
    rintro e w1 ⟨v1, rfl, ho1, hb1⟩
    obtain ⟨C1, cc1, rfl, _⟩ := own_pairsAt ho1
    have hpost : BoolPost (comB xs m l) w (.returned (.bool false)) w1 := ⟨by rw [HF.out], HB0.out.trans (hb1.mono HB0.out.size)⟩
    clear hcu m0 m1 ho1 hb1 h0 HBX HCU HS HXS HLV HGE HB0
    go_wp2
    go_ret
    exact hpost
  | true =>
  by_cases h1 : (cuL l m).length = 0
  case neg =>
    have HF := Lib.hid (com_no2 (xs := xs) h1)
    have h1p : 0 < ((cuL l m).length : Int) := by omega
    have h1q : 0 < (cuL l m).length := by omega
    have h1d : decide (0 < ((cuL l m).length : Int)) = true := decide_eq_true h1p
    have h1r : ¬ cuL l m = [] := fun h => by rw [h] at h1; exact h1 rfl
    have hcu := HCU.out (w.alloc (.cells #[.slice A xs.length ca, .slice B m.length d] 32)) (Below.refl _ _)
    rw [h0] at hcu
    unfold NewFreshsB at hcu
    go_enter Tryz.func13, Tryz.ntmps13
    go_wp2_with fail
    refine hcu.mono ?_
    rintro e w1 ⟨v1, rfl, ho1, hb1⟩
    obtain ⟨C1, cc1, rfl, _⟩ := own_pairsAt ho1
    have hpost : BoolPost (comB xs m l) w (.returned (.bool false)) w1 := ⟨by rw [HF.out], HB0.out.trans (hb1.mono HB0.out.size)⟩
    clear hcu m0 m1 ho1 hb1 h0 h1 HBX HCU HS HXS HLV HGE HB0
    go_wp2
    go_ret
    exact hpost
  case pos =>
  have h1n : ¬ (0 : Int) < ((cuL l m).length : Int) := by omega
  cases hsv : subB xs with
  | false =>
    have HF := Lib.hid (com_no3 (m := m) (l := l) hsv)
    have hcu := HCU.out (w.alloc (.cells #[.slice A xs.length ca, .slice B m.length d] 32)) (Below.refl _ _)
    rw [h0] at hcu
    unfold NewFreshsB at hcu
    go_enter Tryz.func13, Tryz.ntmps13
    go_wp2_with fail
    refine hcu.mono ?_
    rintro e w1 ⟨v1, rfl, ho1, hb1⟩
    obtain ⟨C1, cc1, rfl, _⟩ := own_pairsAt ho1
    clear hcu m0 m1 ho1
    have hs := HS.out w1 hb1
    rw [hsv] at hs
    obtain ⟨m0, m1⟩ := HBX.out w1 hb1
    go_wp2_with fail
    refine hs.mono ?_
    rintro e w2 ⟨rfl, hb2⟩
    have hx2 := hb1.trans (hb2.mono hb1.size)
    clear hs m0 m1 hb2
    have hpost : BoolPost (comB xs m l) w (.returned (.bool false)) w2 := ⟨by rw [HF.out], HB0.out.trans (hx2.mono HB0.out.size)⟩
    clear hb1 hx2 h0 h1 hsv HBX HCU HS HXS HLV HGE HB0
    go_wp2
    go_ret
    exact hpost
  | true =>
    have HF := Lib.hid (com_in h0 h1 hsv)
    have hcu := HCU.out (w.alloc (.cells #[.slice A xs.length ca, .slice B m.length d] 32)) (Below.refl _ _)
    rw [h0] at hcu
    unfold NewFreshsB at hcu
    go_enter Tryz.func13, Tryz.ntmps13
    go_wp2_with fail
    refine hcu.mono ?_
    rintro e w1 ⟨v1, rfl, ho1, hb1⟩
    obtain ⟨C1, cc1, rfl, _⟩ := own_pairsAt ho1
    clear hcu m0 m1 ho1
    have hs := HS.out w1 hb1
    rw [hsv] at hs
    obtain ⟨m0, m1⟩ := HBX.out w1 hb1
    go_wp2_with fail
    refine hs.mono ?_
    rintro e w2 ⟨rfl, hb2⟩
    have hx2 := hb1.trans (hb2.mono hb1.size)
    clear hs m0 m1 hb2
    clear h0 h1 hsv hb1 HCU HS
    go_wp2
    go_loopw [35] (fun i wr => ∃ k : Nat, k ≤ l.length ∧ i = .int .i64 k ∧ Hid (∀ j, j < k → comAt xs l (atRBinding l j) = true) ∧ Below (w.alloc (.cells #[.slice A xs.length ca, .slice B m.length d] 32)).heap.size (w.alloc (.cells #[.slice A xs.length ca, .slice B m.length d] 32)) wr) (fun i _ => l.length - (intOf i).toNat)
    case atStart => exact ⟨0, Nat.zero_le _, rfl, Lib.hid (fun j hj => absurd hj (by omega)), hx2⟩
    case round =>
      clear hx2
      obtain ⟨k, hk, rfl, hq, hb⟩ := hrel
      by_cases hlt : k < l.length
      · obtain ⟨b1, o1, rfl, hb1, hget⟩ := HGE.out (by omega)
        have hbw := HB0.out.trans (hb.mono HB0.out.size)
        obtain ⟨A1, c1, B1, d1, e0, e1, e2, e3, e4, ht⟩ := (hget k hlt).below hb1 hbw
        have hcnt := hlc k hlt
        have HNO := Lib.hid (fun (h : comAt xs l (atRBinding l k) = false) => HF.out.trans (comAll_no hlt h))
        have HQ := Lib.hid (fun (h : comAt xs l (atRBinding l k) = true) => ComK.next_ok (p := fun j => comAt xs l (atRBinding l j)) hq.out h)
        clear hget hq HGE hb1 hbw
        generalize atRBinding l k = r at *
        have hbx := hb.alloc hb.size (.cells #[.int .i64 r.f0, .int .i64 r.f1.op, .int .i64 r.f1.num, .slice A1 r.f1.perm.length c1, .slice B1 r.f1.kids.length d1] 78)
        have hwx : Below wr.heap.size wr (wr.alloc (.cells #[.int .i64 r.f0, .int .i64 r.f1.op, .int .i64 r.f1.num, .slice A1 r.f1.perm.length c1, .slice B1 r.f1.kids.length d1] 78)) := (Below.refl _ _).alloc (Nat.le_refl _) _
        have hrow := heap_alloc_new wr (.cells #[.int .i64 r.f0, .int .i64 r.f1.op, .int .i64 r.f1.num, .slice A1 r.f1.perm.length c1, .slice B1 r.f1.kids.length d1] 78)
        obtain ⟨x0, x1, x2, x3, x4⟩ := ComK.row5 hrow
        have HROW := Lib.hid (fun (W : World) (h : Below (wr.alloc (.cells #[.int .i64 r.f0, .int .i64 r.f1.op, .int .i64 r.f1.num, .slice A1 r.f1.perm.length c1, .slice B1 r.f1.kids.length d1] 78)).heap.size (wr.alloc (.cells #[.int .i64 r.f0, .int .i64 r.f1.op, .int .i64 r.f1.num, .slice A1 r.f1.perm.length c1, .slice B1 r.f1.kids.length d1] 78)) W) => ComK.row5 ((h.block wr.heap.size (by simp)).trans hrow))
        have HT := Lib.hid (fun (W : World) (h : Below (wr.alloc (.cells #[.int .i64 r.f0, .int .i64 r.f1.op, .int .i64 r.f1.num, .slice A1 r.f1.perm.length c1, .slice B1 r.f1.kids.length d1] 78)).heap.size (wr.alloc (.cells #[.int .i64 r.f0, .int .i64 r.f1.op, .int .i64 r.f1.num, .slice A1 r.f1.perm.length c1, .slice B1 r.f1.kids.length d1] 78)) W) => (ht.below hwx).below h)
        obtain ⟨s0, s1⟩ := HBX.out _ hbx
        have hlb : w.heap.size < wr.heap.size := by have := hb.size; rw [World.size_alloc] at this; omega
        have hap : Calls Tryz.prog 44 #[_, _] (wr.alloc (.cells #[.int .i64 r.f0, .int .i64 r.f1.op, .int .i64 r.f1.num, .slice A1 r.f1.perm.length c1, .slice B1 r.f1.kids.length d1] 78)) (TmOutB (genT xs r.f0) (doB xs (holeT r.f0)) (wr.alloc (.cells #[.int .i64 r.f0, .int .i64 r.f1.op, .int .i64 r.f1.num, .slice A1 r.f1.perm.length c1, .slice B1 r.f1.kids.length d1] 78))) := applySub_impl xs (holeT r.f0) _ _ (wr.alloc (.cells #[.int .i64 r.f0, .int .i64 r.f1.op, .int .i64 r.f1.num, .slice A1 r.f1.perm.length c1, .slice B1 r.f1.kids.length d1] 78)) (HXS.out _ hbx) (holeT_in _ r.f0) hxl hxc (holeT_cnt _)
        have HAP : Hid (∀ (W : World) (y : Value), Below (w.alloc (.cells #[.slice A xs.length ca, .slice B m.length d] 32)).heap.size (w.alloc (.cells #[.slice A xs.length ca, .slice B m.length d] 32)) W → TmIn W y (genT xs r.f0) → Calls Tryz.prog 44 #[_, y] W (TmOutB (insT xs l r.f0) (doB l (genT xs r.f0)) W)) := Lib.hid (fun W y h hy => applySub_impl l (genT xs r.f0) _ y W (HLV.out W h) hy hll hlc or_cnt2)
        have HAL : Hid (∀ (W : World) (y z : Value), TmIn W y r.f1 → TmIn W z (insT xs l r.f0) → Calls Tryz.prog 45 #[y, z] W (BoolPost (comAt xs l r) W)) := Lib.hid (fun W y z hy hz => alphaEqual_impl r.f1 (insT xs l r.f0) y z W hy hz (fit_of _ hcnt) (fit_of _ or_cnt2))
        have HBXX := Lib.hid hbx
        clear ht hrow hwx hb hcnt hbx
        generalize doB l (genT xs r.f0) = bb1 at *
        generalize doB xs (holeT r.f0) = bb0 at *
        generalize insT xs l r.f0 = v at *
        generalize genT xs r.f0 = u at *
        generalize comAt xs l r = qq at *
        go_wp2_with fail
        refine hap.mono ?_
        rintro e w4 ⟨P4, p4, K4, k4, S4, rfl, hL4, _, hb4⟩
        have hbx4 : Below w4.heap.size w4 (w4.alloc (.cells #[.int .i64 u.op, .int .i64 u.num, .slice P4 u.perm.length p4, .slice K4 u.kids.length k4] 46)) := (Below.refl _ _).alloc (Nat.le_refl _) _
        have hb45 := hb4.trans (hbx4.mono hb4.size)
        have hrow4 := heap_alloc_new w4 (.cells #[.int .i64 u.op, .int .i64 u.num, .slice P4 u.perm.length p4, .slice K4 u.kids.length k4] 46)
        have hx5 := HBXX.out.trans (hb45.mono HBXX.out.size)
        have hap1 := HAP.out _ _ hx5 ((tmOut_in hL4).below hbx4)
        obtain ⟨y0, y1, y2, y3⟩ := BoxR.row4 hrow4
        have HB45 := Lib.hid hb45
        have hlw4 : wr.heap.size < w4.heap.size := by have := hb4.size; rw [World.size_alloc] at this; omega
        clear hap hL4 hb4 hbx4 hb45 hrow4 hx5 x0 x1 x2 x3 x4 s0 s1 HAP
        go_wp2_with fail
        refine hap1.mono ?_
        rintro e w6 ⟨P6, p6, K6, k6, S6, rfl, hL6, _, hb6⟩
        have hbx6 : Below w6.heap.size w6 (w6.alloc (.cells #[.int .i64 v.op, .int .i64 v.num, .slice P6 v.perm.length p6, .slice K6 v.kids.length k6] 46)) := (Below.refl _ _).alloc (Nat.le_refl _) _
        have hb67 := hb6.trans (hbx6.mono hb6.size)
        have hrow6 := heap_alloc_new w6 (.cells #[.int .i64 v.op, .int .i64 v.num, .slice P6 v.perm.length p6, .slice K6 v.kids.length k6] 46)
        have hbz := HB45.out.trans (hb67.mono HB45.out.size)
        have hx7 := HBXX.out.trans (hbz.mono HBXX.out.size)
        have hal := HAL.out _ _ _ (HT.out _ hbz) ((tmOut_in hL6).below hbx6)
        obtain ⟨x0, x1, x2, x3, x4⟩ := HROW.out _ hbz
        obtain ⟨z0, z1, z2, z3⟩ := BoxR.row4 hrow6
        have hlw6 : w4.heap.size < w6.heap.size := by have := hb6.size; rw [World.size_alloc] at this; omega
        clear hap1 hL6 hb6 hbx6 hb67 hrow6 hbz y0 y1 y2 y3 HB45 HBXX HROW HT HAL
        go_wp2_with fail
        refine hal.mono ?_
        rintro e w8 ⟨rfl, hb8⟩
        have hx8 := hx7.trans (hb8.mono hx7.size)
        clear hal hb8 hx7 x0 x1 x2 x3 x4 z0 z1 z2 z3
        cases hh : qq with
        | false =>
          have HT := Lib.hid (HNO.out hh)
          have hpost : BoolPost (comB xs m l) w (.returned (.bool false)) w8 := ⟨by rw [HT.out], HB0.out.trans (hx8.mono HB0.out.size)⟩
          clear hh hx8 HT HNO HQ HBX HXS HLV HB0 HF
          go_wp2
          go_ret
          exact hpost
        | true =>
          have hq2 := Lib.hid (HQ.out hh)
          clear hh HNO HQ
          go_wp2
          refine ⟨⟨k + 1, by omega, by go_num, hq2, hx8⟩, ?_⟩
          simp only [intOf]
          omega
      · have hall : Hid (comB xs m l = true) := Lib.hid (HF.out.trans (comAll_yes fun j hj => hq.out j (by omega)))
        have hpost : BoolPost (comB xs m l) w (.returned (.bool true)) wr := ⟨by rw [hall.out], HB0.out.trans (hb.mono HB0.out.size)⟩
        clear hq hb HBX HXS HLV HGE HB0 HF hall
        go_wp2
        go_ret
        exact hpost
end Go.Proofs.YtlhjgjfnmejiaaaGreat
