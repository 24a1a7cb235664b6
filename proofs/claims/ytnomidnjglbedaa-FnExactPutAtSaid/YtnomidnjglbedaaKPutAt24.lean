/-
  Paths: what they lead to, in the program and in the model, as contracts. A term put at a path, in the program: a copy of a row of forms, as a contract. A term put at a path, in the program: nodes, as a contract. A term put at a path, in the model, as contracts. PutAt of the model, as a contract. PutAt of the program, as a contract.
-/
import Derived.Test.YtnomidnjglbedaaKPutAt23
import Derived.Test.YtnomidnjglbedaaKPutAt15
import Derived.Test.YtnomidnjglbedaaKPutAt16
import Derived.Test.YtnomidnjglbedaaKPutAt14
import Derived.Test.YtnomidnjglbedaaKPutAt11
import Derived.Deep.RegionLaw
import Derived.Test.YtnomidnjglbedaaKPutAt4
section
namespace Go.Proofs.Ytnomidnjglbedaa
open Go.RowKit Go.Sort Go.ChangeShapes Go.WideShapes
set_option linter.unusedVariables false

theorem tm0_in (w : World) : TmIn w (.agg #[.int .i64 0, .int .i64 0, .slice none 0 0, .slice none 0 0]) tm0 := by
  have h := own_four (w := w) (o := 0) (n := 0) (p := []) (ks := []) own_none own_nokids (fun b hb => by simp at hb)
  exact tmOut_in (t := tm0) h

set_option maxRecDepth 100000 in
set_option maxHeartbeats 4000000 in
/-- A copy, in the model. -/
theorem l2Copy_any (t : Tm) (hg : goodT t = true) (hsz : szT t ≤ 1048576) (x : Value) (w : World) (hxt : TmIn w x t) : Calls Try.prog 88 #[x] w (TmOut t w) := by
  have hX := hxt
  obtain ⟨At, ct, kvt, rfl, hp, hk⟩ := hxt
  obtain ⟨Bt, dt, rfl⟩ := hk.form
  have hb0 : Below w.heap.size w ((w.alloc (.cells #[.int .i64 t.op, .int .i64 t.num, .slice At t.perm.length ct, .slice Bt t.kids.length dt] 31)).alloc (.cells #[.int .i64 0, .int .i64 0, .slice none 0 0, .slice none 0 0] 31)) := ((Below.refl _ _).alloc (Nat.le_refl _) _).alloc (by simp) _
  have hac := l2Act_any (szT t) t (Nat.le_refl _) hsz (okP_le (by decide) (okP_good hg)) ((w.alloc (.cells #[.int .i64 t.op, .int .i64 t.num, .slice At t.perm.length ct, .slice Bt t.kids.length dt] 31)).alloc (.cells #[.int .i64 0, .int .i64 0, .slice none 0 0, .slice none 0 0] 31)) _ none 0 [] (hX.below hb0) (fun h => absurd h (by simp)) (by simp)
  rw [actT_nil hg] at hac
  obtain ⟨hres, hbox⟩ := box_row (Below.refl _ ((w.alloc (.cells #[.int .i64 t.op, .int .i64 t.num, .slice At t.perm.length ct, .slice Bt t.kids.length dt] 31)).alloc (.cells #[.int .i64 0, .int .i64 0, .slice none 0 0, .slice none 0 0] 31)))
  have hsz2 : ((w.alloc (.cells #[.int .i64 t.op, .int .i64 t.num, .slice At t.perm.length ct, .slice Bt t.kids.length dt] 31)).alloc (.cells #[.int .i64 0, .int .i64 0, .slice none 0 0, .slice none 0 0] 31)).heap.size = w.heap.size + 2 := by simp
  have HSZ := Lib.hid hsz2
  have HRS := Lib.hid hres
  clear hX hp hk hbox hres hsz2 hg hsz
  go_enter Try.func88, Try.ntmps88
  go_wp2_with fail
  refine hac.mono ?_
  rintro e w5 ⟨A6, c6, B6, d6, S6, rfl, hL6, hS6, hb5⟩
  have hres6 := (hb5.block (w.heap.size + 1) (by rw [HSZ.out]; omega)).trans HRS.out
  obtain ⟨r0, r1, r2, r3⟩ := BoxR.row4 hres6
  have z0 := frozen_of_row _ _ 0 _ _ hres6
  have z1 := frozen_of_row _ _ 1 _ _ hres6
  have z2 := frozen_of_row _ _ 2 _ _ hres6
  have z3 := frozen_of_row _ _ 3 _ _ hres6
  have hS9 : ∀ b ∈ S6, w.heap.size + 2 ≤ b := fun b hb => by have := hS6 b hb; rw [HSZ.out] at this; exact this
  have hbz := hb0.trans (hb5.mono hb0.size)
  have hpost : TmOut t w (.returned (.agg #[.int .i64 t.op, .int .i64 t.num, .slice A6 t.perm.length c6, .slice B6 t.kids.length d6])) ((((w5.setCell ⟨w.heap.size + 1, 0, none⟩ (.int .i64 t.op)).setCell ⟨w.heap.size + 1, 1, none⟩ (.int .i64 t.num)).setCell ⟨w.heap.size + 1, 2, none⟩ (.slice A6 t.perm.length c6)).setCell ⟨w.heap.size + 1, 3, none⟩ (.slice B6 t.kids.length d6)) :=
    ⟨A6, c6, B6, d6, S6, rfl, set4_own hL6 (fun b hb => by have := hS9 b hb; omega) _ _ _ _, fun b hb => by have := hS9 b hb; omega, set4_below hbz (by omega) _ _ _ _⟩
  clear hac hL6 hS6 hS9 hb5 hbz hb0 hres6 HRS HSZ
  go_wp2
  exact bodyPost_ret (v := .agg #[.int .i64 t.op, .int .i64 t.num, .slice A6 t.perm.length c6, .slice B6 t.kids.length d6]) (by simp [results, Try.results88, go_sem, r0, r1, r2, r3]) rfl hpost

/-- What a path leads to, as it is kept. -/
def KeptPost (t : Tm) (l : List Int) (w : World) (e : Ending) (w' : World) : Prop :=
  ∃ A c B d, e = .returned (.tuple #[.agg #[.int .i64 (orT (atR t l) (walkP t l).isSome).op, .int .i64 (orT (atR t l) (walkP t l).isSome).num, .slice A (orT (atR t l) (walkP t l).isSome).perm.length c, .slice B (orT (atR t l) (walkP t l).isSome).kids.length d], .bool (walkP t l).isSome]) ∧
    TmIn w (.agg #[.int .i64 (orT (atR t l) (walkP t l).isSome).op, .int .i64 (orT (atR t l) (walkP t l).isSome).num, .slice A (orT (atR t l) (walkP t l).isSome).perm.length c, .slice B (orT (atR t l) (walkP t l).isSome).kids.length d]) (orT (atR t l) (walkP t l).isSome) ∧ Below w.heap.size w w'
theorem kept_no {t : Tm} {l : List Int} {w w' : World} (h : walkP t l = none) (hb : Below w.heap.size w w') : KeptPost t l w (.returned (.tuple #[.agg #[.int .i64 0, .int .i64 0, .slice none 0 0, .slice none 0 0], .bool false])) w' := by
  unfold KeptPost
  rw [h]
  exact ⟨none, 0, none, 0, rfl, tm0_in w, hb⟩
theorem kept_yes {t u : Tm} {l : List Int} {w w' : World} {Au Bu : Option Addr} {cu du : Nat} (h : walkP t l = some u) (hu : TmIn w (.agg #[.int .i64 u.op, .int .i64 u.num, .slice Au u.perm.length cu, .slice Bu u.kids.length du]) u) (hb : Below w.heap.size w w') : KeptPost t l w (.returned (.tuple #[.agg #[.int .i64 u.op, .int .i64 u.num, .slice Au u.perm.length cu, .slice Bu u.kids.length du], .bool true])) w' := by
  have e : atR t l = u := by simp [atR, h]
  unfold KeptPost
  rw [h, e]
  exact ⟨Au, cu, Bu, du, rfl, hu, hb⟩

set_option maxRecDepth 100000 in
set_option maxHeartbeats 4000000 in
theorem keptAt_any (t : Tm) (l : List Int) (C : Option Addr) (cc : Nat) (xt : Value) (w : World) (hxt : TmIn w xt t) (hC : IntsAt w C l) (hll : l.length ≤ 1099511627776) :
    Calls Try.prog 89 #[xt, .slice C l.length cc] w (KeptPost t l w) := by
  have hX := hxt
  obtain ⟨At, ct, kvt, rfl, hp, hkk⟩ := hxt
  obtain ⟨Bt, dt, rfl⟩ := hkk.form
  have hb0 : Below w.heap.size w ((w.alloc (.cells #[.int .i64 t.op, .int .i64 t.num, .slice At t.perm.length ct, .slice Bt t.kids.length dt] 31)).alloc (.cells #[.int .i64 0, .int .i64 0, .slice none 0 0, .slice none 0 0] 31)) := ((Below.refl _ _).alloc (Nat.le_refl _) _).alloc (by simp) _
  obtain ⟨hres0, hrow0⟩ := box_row (Below.refl _ ((w.alloc (.cells #[.int .i64 t.op, .int .i64 t.num, .slice At t.perm.length ct, .slice Bt t.kids.length dt] 31)).alloc (.cells #[.int .i64 0, .int .i64 0, .slice none 0 0, .slice none 0 0] 31)))
  have HX := Lib.hid hX
  clear hX hp hkk
  go_enter Try.func89, Try.ntmps89
  go_wp2
  go_loopw [10] (fun i wr => ∃ (k : Nat) (u : Tm) (Au : Option Addr) (cu : Nat) (Bu : Option Addr) (du : Nat), k ≤ l.length ∧ i = .int .i64 k ∧ wr.heap[w.heap.size]? = some (.cells #[.int .i64 u.op, .int .i64 u.num, .slice Au u.perm.length cu, .slice Bu u.kids.length du] 31 (0, 0)) ∧ wr.heap[w.heap.size + 1]? = some (.cells #[.int .i64 0, .int .i64 0, .slice none 0 0, .slice none 0 0] 31 (0, 0)) ∧ Hid (TmIn w (.agg #[.int .i64 u.op, .int .i64 u.num, .slice Au u.perm.length cu, .slice Bu u.kids.length du]) u) ∧ Hid (walkP t l = walkP u (l.drop k)) ∧  Below w.heap.size w wr) (fun i _ => l.length - (intOf i).toNat)
  case atStart => exact ⟨0, t, At, ct, Bt, dt, Nat.zero_le _, rfl, hrow0, hres0, HX, Lib.hid (by rw [List.drop_zero]), hb0⟩
  case round =>
    obtain ⟨k, u, Au, cu, Bu, du, hk, rfl, hrow, hres, htu, hwk, hb⟩ := hrel
    by_cases hlt : k < l.length
    · obtain ⟨b1, o1, rfl, hb1, hc1⟩ := hC (by omega)
      have c1 := hc1 k hlt
      rw [← hb.cell (p := ⟨b1, _, none⟩) hb1] at c1
      obtain ⟨m0, m1, m2, m3⟩ := BoxR.row4 hrow
      obtain ⟨r0, r1, r2, r3⟩ := BoxR.row4 hres
      have z0 := frozen_of_row _ _ 0 _ _ hres; have z1 := frozen_of_row _ _ 1 _ _ hres; have z2 := frozen_of_row _ _ 2 _ _ hres; have z3 := frozen_of_row _ _ 3 _ _ hres
      by_cases hin : 0 ≤ itAt l k ∧ itAt l k < (u.kids.length : Int)
      · obtain ⟨m, hm⟩ : ∃ m : Nat, itAt l k = m := ⟨(itAt l k).toNat, by omega⟩
        have hnx : Hid (walkP t l = walkP (tmAt u.kids m) (l.drop (k + 1))) := Lib.hid (by rw [hwk.out, walkP_yes hlt hin, hm]; rfl)
        rw [hm] at c1 hin
        have hmk : m < u.kids.length := by omega
        have hm0 : (0 : Int) ≤ (m : Int) := by omega
        have hm1 : (m : Int) < (u.kids.length : Int) := by omega
        have hkv : TmsIn w (.slice Bu u.kids.length du) u.kids := by
          obtain ⟨A9, c9, kv9, e9, _, hk9⟩ := htu.out
          injection e9 with e9
          simp only [Array.mk.injEq, List.cons.injEq, and_true, true_and] at e9
          exact e9.2 ▸ hk9
        obtain ⟨b, off, A1, c1', B1, e1, rfl, hbl, d0, d1, d2, d3, hy⟩ := kid_cells hkv hmk
        rw [← hb.cell (p := ⟨b, _, none⟩) hbl] at d0 d1 d2 d3
        have hty := Lib.hid hy
        have y0 := frozen_of_row _ _ 0 _ _ hrow; have y1 := frozen_of_row _ _ 1 _ _ hrow; have y2 := frozen_of_row _ _ 2 _ _ hrow; have y3 := frozen_of_row _ _ 3 _ _ hrow
        have hrow2 := BoxR.set4_box hrow (.int .i64 (tmAt u.kids m).op) (.int .i64 (tmAt u.kids m).num) (.slice A1 (tmAt u.kids m).perm.length c1') (.slice B1 (tmAt u.kids m).kids.length e1)
        have hres2 := ((BoxR.set4_only wr w.heap.size (.int .i64 (tmAt u.kids m).op) (.int .i64 (tmAt u.kids m).num) (.slice A1 (tmAt u.kids m).perm.length c1') (.slice B1 (tmAt u.kids m).kids.length e1)).block (w.heap.size + 1) (BoxR.box_lt hres) (by simp)).trans hres
        have hb2 := set4_below hb (Nat.le_refl w.heap.size) (.int .i64 (tmAt u.kids m).op) (.int .i64 (tmAt u.kids m).num) (.slice A1 (tmAt u.kids m).perm.length c1') (.slice B1 (tmAt u.kids m).kids.length e1)
        clear hkv hy hwk htu hrow hres hb hin hc1 hC hm r0 r1 r2 r3 z0 z1 z2 z3
        generalize tmAt u.kids m = v at *
        go_wp2
        refine ⟨⟨k + 1, v, A1, c1', B1, e1, by omega, by go_num, hrow2, hres2, hty, hnx, hb2⟩, ?_⟩
        simp only [intOf]
        omega
      · have hnone : Hid (walkP t l = none) := Lib.hid (by rw [hwk.out, walkP_no hlt hin])
        have hbz := set4_below hb (show w.heap.size ≤ w.heap.size + 1 by omega) (.int .i64 0) (.int .i64 0) (.slice none 0 0) (.slice none 0 0)
        by_cases hneg : itAt l k < 0
        · clear hin hwk htu hrow hres hc1 hC hb
          generalize itAt l k = iv at *
          go_wp2
          exact bodyPost_ret (v := .tuple #[.agg #[.int .i64 0, .int .i64 0, .slice none 0 0, .slice none 0 0], .bool false]) (by simp [results, Try.results89, go_sem, r0, r1, r2, r3]) rfl (kept_no hnone.out hbz)
        · have hge : (u.kids.length : Int) ≤ itAt l k := by omega
          clear hin hwk htu hrow hres hc1 hC hb
          generalize itAt l k = iv at *
          go_wp2
          exact bodyPost_ret (v := .tuple #[.agg #[.int .i64 0, .int .i64 0, .slice none 0 0, .slice none 0 0], .bool false]) (by simp [results, Try.results89, go_sem, r0, r1, r2, r3]) rfl (kept_no hnone.out hbz)
    · have hsome : Hid (walkP t l = some u) := Lib.hid (by rw [hwk.out, List.drop_of_length_le (by omega), walkP_nil])
      have hbz := set4_below hb (show w.heap.size ≤ w.heap.size + 1 by omega) (.int .i64 u.op) (.int .i64 u.num) (.slice Au u.perm.length cu) (.slice Bu u.kids.length du)
      obtain ⟨m0, m1, m2, m3⟩ := BoxR.row4 hrow
      obtain ⟨r0, r1, r2, r3⟩ := BoxR.row4 hres
      have z0 := frozen_of_row _ _ 0 _ _ hres; have z1 := frozen_of_row _ _ 1 _ _ hres; have z2 := frozen_of_row _ _ 2 _ _ hres; have z3 := frozen_of_row _ _ 3 _ _ hres
      have hpost := kept_yes (w' := ((((wr.setCell ⟨w.heap.size + 1, 0, none⟩ (.int .i64 u.op)).setCell ⟨w.heap.size + 1, 1, none⟩ (.int .i64 u.num)).setCell ⟨w.heap.size + 1, 2, none⟩ (.slice Au u.perm.length cu)).setCell ⟨w.heap.size + 1, 3, none⟩ (.slice Bu u.kids.length du))) hsome.out htu.out hbz
      clear hwk hsome htu hrow hres hb hbz hC
      go_wp2
      exact bodyPost_ret (v := .tuple #[.agg #[.int .i64 u.op, .int .i64 u.num, .slice Au u.perm.length cu, .slice Bu u.kids.length du], .bool true]) (by simp [results, Try.results89, go_sem, r0, r1, r2, r3]) rfl hpost

set_option maxRecDepth 100000 in
set_option maxHeartbeats 8000000 in
/-- TermAt of the model. -/
theorem termAt_spec (t : Tm) (l : List Int) (C : Option Addr) (cc : Nat) (xt : Value) (w : World) (hxt : TmIn w xt t) (hC : IntsAt w C l) (hll : l.length ≤ 1099511627776) (hct : cntT t ≤ 1048576) :
    Calls Try.prog 43 #[xt, .slice C l.length cc] w (TmOutB (orT (atR t l) (atB t l)) (atB t l) w) := by
  have hXX := hxt
  have hXt := hxt
  obtain ⟨At, ct, kvt, rfl, hpt, hkt⟩ := hxt
  obtain ⟨Bt, dt, rfl⟩ := hkt.form
  have hb0 : Below w.heap.size w ((w.alloc (.cells #[.int .i64 t.op, .int .i64 t.num, .slice At t.perm.length ct, .slice Bt t.kids.length dt] 31)).alloc (.cells #[.int .i64 0, .int .i64 0, .slice none 0 0, .slice none 0 0] 31)) := (((Below.refl _ w).alloc (by first | exact Nat.le_refl _ | (simp; done) | (simp; omega)) _).alloc (by first | exact Nat.le_refl _ | (simp; done) | (simp; omega)) _)
  have hsz : ((w.alloc (.cells #[.int .i64 t.op, .int .i64 t.num, .slice At t.perm.length ct, .slice Bt t.kids.length dt] 31)).alloc (.cells #[.int .i64 0, .int .i64 0, .slice none 0 0, .slice none 0 0] 31)).heap.size = w.heap.size + 2 := by simp
  have kkt : ((w.alloc (.cells #[.int .i64 t.op, .int .i64 t.num, .slice At t.perm.length ct, .slice Bt t.kids.length dt] 31)).alloc (.cells #[.int .i64 0, .int .i64 0, .slice none 0 0, .slice none 0 0] 31)).heap[w.heap.size]? = some (.cells #[.int .i64 t.op, .int .i64 t.num, .slice At t.perm.length ct, .slice Bt t.kids.length dt] 31 (0, 0)) := by
    have h := heap_alloc_new w (.cells #[.int .i64 t.op, .int .i64 t.num, .slice At t.perm.length ct, .slice Bt t.kids.length dt] 31)
    exact ((Below.heap_alloc _ _ _ (by first | (simp; done) | (simp; omega))).trans h)
  have kkR : ((w.alloc (.cells #[.int .i64 t.op, .int .i64 t.num, .slice At t.perm.length ct, .slice Bt t.kids.length dt] 31)).alloc (.cells #[.int .i64 0, .int .i64 0, .slice none 0 0, .slice none 0 0] 31)).heap[w.heap.size + 1]? = some (.cells #[.int .i64 0, .int .i64 0, .slice none 0 0, .slice none 0 0] 31 (0, 0)) := by
    have h := heap_alloc_new (w.alloc (.cells #[.int .i64 t.op, .int .i64 t.num, .slice At t.perm.length ct, .slice Bt t.kids.length dt] 31)) (.cells #[.int .i64 0, .int .i64 0, .slice none 0 0, .slice none 0 0] 31)
    simp only [World.size_alloc] at h
    exact h
  have HSZ := Lib.hid hsz
  have HCt := Lib.hid (fun (w' : World) (h : Below ((w.alloc (.cells #[.int .i64 t.op, .int .i64 t.num, .slice At t.perm.length ct, .slice Bt t.kids.length dt] 31)).alloc (.cells #[.int .i64 0, .int .i64 0, .slice none 0 0, .slice none 0 0] 31)).heap.size ((w.alloc (.cells #[.int .i64 t.op, .int .i64 t.num, .slice At t.perm.length ct, .slice Bt t.kids.length dt] 31)).alloc (.cells #[.int .i64 0, .int .i64 0, .slice none 0 0, .slice none 0 0] 31)) w') => BoxR.row4 ((h.block (w.heap.size) (by rw [hsz]; omega)).trans kkt))
  have HIt : Hid (∀ w' : World, Below ((w.alloc (.cells #[.int .i64 t.op, .int .i64 t.num, .slice At t.perm.length ct, .slice Bt t.kids.length dt] 31)).alloc (.cells #[.int .i64 0, .int .i64 0, .slice none 0 0, .slice none 0 0] 31)).heap.size ((w.alloc (.cells #[.int .i64 t.op, .int .i64 t.num, .slice At t.perm.length ct, .slice Bt t.kids.length dt] 31)).alloc (.cells #[.int .i64 0, .int .i64 0, .slice none 0 0, .slice none 0 0] 31)) w' → TmIn w' (.agg #[.int .i64 t.op, .int .i64 t.num, .slice At t.perm.length ct, .slice Bt t.kids.length dt]) t) := Lib.hid (fun w' h => hXt.below (hb0.trans (h.mono hb0.size)))
  have HR := Lib.hid (fun (w' : World) (h : Below ((w.alloc (.cells #[.int .i64 t.op, .int .i64 t.num, .slice At t.perm.length ct, .slice Bt t.kids.length dt] 31)).alloc (.cells #[.int .i64 0, .int .i64 0, .slice none 0 0, .slice none 0 0] 31)).heap.size ((w.alloc (.cells #[.int .i64 t.op, .int .i64 t.num, .slice At t.perm.length ct, .slice Bt t.kids.length dt] 31)).alloc (.cells #[.int .i64 0, .int .i64 0, .slice none 0 0, .slice none 0 0] 31)) w') => (h.block (w.heap.size + 1) (by rw [hsz]; omega)).trans kkR)
  have HB0 := Lib.hid hb0
  clear hsz hb0 kkR hXt hpt hkt kkt
  cases h0 : isTermB t with
  | false =>
    have HT := Lib.hid (atB_no (l := l) h0)
    go_enter Try.func43, Try.ntmps43
    have hg := isTerm_spec t _ (((w.alloc (.cells #[.int .i64 t.op, .int .i64 t.num, .slice At t.perm.length ct, .slice Bt t.kids.length dt] 31)).alloc (.cells #[.int .i64 0, .int .i64 0, .slice none 0 0, .slice none 0 0] 31))) (HIt.out (((w.alloc (.cells #[.int .i64 t.op, .int .i64 t.num, .slice At t.perm.length ct, .slice Bt t.kids.length dt] 31)).alloc (.cells #[.int .i64 0, .int .i64 0, .slice none 0 0, .slice none 0 0] 31))) (Below.refl _ _)) hct
    rw [h0] at hg
    go_wp2_with fail
    refine hg.mono ?_
    rintro e g0 ⟨rfl, hb0⟩
    have hw0 := hb0
    clear hg 
    have hq0 : w.heap.size + 2 ≤ g0.heap.size := by have h := hw0.size; rw [HSZ.out] at h; exact h
    have hres := HR.out g0 hw0
    obtain ⟨r0, r1, r2, r3⟩ := BoxR.row4 hres
    have z0 := frozen_of_row _ _ 0 _ _ hres
    have z1 := frozen_of_row _ _ 1 _ _ hres
    have z2 := frozen_of_row _ _ 2 _ _ hres
    have z3 := frozen_of_row _ _ 3 _ _ hres
    have hbz := HB0.out.trans (hw0.mono HB0.out.size)
    have hpost : TmOutB tm0 false w (.returned (.tuple #[.agg #[.int .i64 0, .int .i64 0, .slice none 0 0, .slice none 0 0], .bool false])) ((((g0.setCell ⟨w.heap.size + 1, 0, none⟩ (.int .i64 0)).setCell ⟨w.heap.size + 1, 1, none⟩ (.int .i64 0)).setCell ⟨w.heap.size + 1, 2, none⟩ (.slice none 0 0)).setCell ⟨w.heap.size + 1, 3, none⟩ (.slice none 0 0)) :=
      ⟨none, 0, none, 0, _, rfl, own_four own_none own_nokids (fun b hb => by simp at hb), fun b hb => by simp at hb, set4_below hbz (by omega) _ _ _ _⟩
    clear hres hbz HR HB0 HSZ HCt HIt hct hll hC h0 hXX 
    go_wp2
    exact bodyPost_ret (v := .tuple #[.agg #[.int .i64 0, .int .i64 0, .slice none 0 0, .slice none 0 0], .bool false]) (by simp [results, Try.results43, go_sem, r0, r1, r2, r3]) rfl (by rw [HT.out, orT_no]; exact hpost)
  | true =>
    have HEB := Lib.hid (show atB t l = (walkP t l).isSome by simp [atB, h0])
    have H0 := Lib.hid h0
    have HXX := Lib.hid hXX
    have HRW := Lib.hid (fun (W : World) (h : Below ((w.alloc (.cells #[.int .i64 t.op, .int .i64 t.num, .slice At t.perm.length ct, .slice Bt t.kids.length dt] 31)).alloc (.cells #[.int .i64 0, .int .i64 0, .slice none 0 0, .slice none 0 0] 31)).heap.size ((w.alloc (.cells #[.int .i64 t.op, .int .i64 t.num, .slice At t.perm.length ct, .slice Bt t.kids.length dt] 31)).alloc (.cells #[.int .i64 0, .int .i64 0, .slice none 0 0, .slice none 0 0] 31)) W) => (h.block w.heap.size (by simp; omega)).trans (box_row (Below.refl _ ((w.alloc (.cells #[.int .i64 t.op, .int .i64 t.num, .slice At t.perm.length ct, .slice Bt t.kids.length dt] 31)).alloc (.cells #[.int .i64 0, .int .i64 0, .slice none 0 0, .slice none 0 0] 31)))).2)
    go_enter Try.func43, Try.ntmps43
    have hg := isTerm_spec t _ (((w.alloc (.cells #[.int .i64 t.op, .int .i64 t.num, .slice At t.perm.length ct, .slice Bt t.kids.length dt] 31)).alloc (.cells #[.int .i64 0, .int .i64 0, .slice none 0 0, .slice none 0 0] 31))) (HIt.out (((w.alloc (.cells #[.int .i64 t.op, .int .i64 t.num, .slice At t.perm.length ct, .slice Bt t.kids.length dt] 31)).alloc (.cells #[.int .i64 0, .int .i64 0, .slice none 0 0, .slice none 0 0] 31))) (Below.refl _ _)) hct
    rw [h0] at hg
    go_wp2_with fail
    refine hg.mono ?_
    rintro e g0 ⟨rfl, hb0⟩
    have hw0 := hb0
    clear hg 
    have hq0 : w.heap.size + 2 ≤ g0.heap.size := by have h := hw0.size; rw [HSZ.out] at h; exact h
    obtain ⟨e1t0, e1t1, e1t2, e1t3⟩ := HCt.out g0 hw0
    have hbw := HB0.out.trans (hw0.mono HB0.out.size)
    have hrow0 := HRW.out g0 hw0
    have hres0 := HR.out g0 hw0
    clear h0 hct hXX HRW HR HCt HIt hb0
    go_wp2
    clear e1t0 e1t1 e1t2 e1t3
    go_loopw [14] (fun i wr => ∃ (k : Nat) (u : Tm) (Au : Option Addr) (cu : Nat) (Bu : Option Addr) (du : Nat), k ≤ l.length ∧ i = .int .i64 k ∧ wr.heap[w.heap.size]? = some (.cells #[.int .i64 u.op, .int .i64 u.num, .slice Au u.perm.length cu, .slice Bu u.kids.length du] 31 (0, 0)) ∧ wr.heap[w.heap.size + 1]? = some (.cells #[.int .i64 0, .int .i64 0, .slice none 0 0, .slice none 0 0] 31 (0, 0)) ∧ Hid (TmIn w (.agg #[.int .i64 u.op, .int .i64 u.num, .slice Au u.perm.length cu, .slice Bu u.kids.length du]) u) ∧ Hid (walkP t l = walkP u (l.drop k)) ∧ Hid (isTermB u = true) ∧ Below w.heap.size w wr) (fun i _ => l.length - (intOf i).toNat)
    case atStart => exact ⟨0, t, At, ct, Bt, dt, Nat.zero_le _, rfl, hrow0, hres0, HXX, Lib.hid (by rw [List.drop_zero]), Lib.hid H0.out, hbw⟩
    case round =>
      obtain ⟨k, u, Au, cu, Bu, du, hk, rfl, hrow, hres, htu, hwk, hit, hb⟩ := hrel
      by_cases hlt : k < l.length
      · obtain ⟨b1, o1, rfl, hb1, hc1⟩ := hC (by omega)
        have c1 := hc1 k hlt
        rw [← hb.cell (p := ⟨b1, _, none⟩) hb1] at c1
        obtain ⟨m0, m1, m2, m3⟩ := BoxR.row4 hrow
        obtain ⟨r0, r1, r2, r3⟩ := BoxR.row4 hres
        have z0 := frozen_of_row _ _ 0 _ _ hres; have z1 := frozen_of_row _ _ 1 _ _ hres; have z2 := frozen_of_row _ _ 2 _ _ hres; have z3 := frozen_of_row _ _ 3 _ _ hres
        by_cases hin : 0 ≤ itAt l k ∧ itAt l k < (u.kids.length : Int)
        · obtain ⟨m, hm⟩ : ∃ m : Nat, itAt l k = m := ⟨(itAt l k).toNat, by omega⟩
          have hnx : Hid (walkP t l = walkP (tmAt u.kids m) (l.drop (k + 1))) := Lib.hid (by rw [hwk.out, walkP_yes hlt hin, hm]; rfl)
          rw [hm] at c1 hin
          have hmk : m < u.kids.length := by omega
          have hm0 : (0 : Int) ≤ (m : Int) := by omega
          have hm1 : (m : Int) < (u.kids.length : Int) := by omega
          have hkv : TmsIn w (.slice Bu u.kids.length du) u.kids := by
            obtain ⟨A9, c9, kv9, e9, _, hk9⟩ := htu.out
            injection e9 with e9
            simp only [Array.mk.injEq, List.cons.injEq, and_true, true_and] at e9
            exact e9.2 ▸ hk9
          obtain ⟨b, off, A1, c1', B1, e1, rfl, hbl, d0, d1, d2, d3, hy⟩ := kid_cells hkv hmk
          rw [← hb.cell (p := ⟨b, _, none⟩) hbl] at d0 d1 d2 d3
          have hty := Lib.hid hy
          have hit2 := Lib.hid (kid_term hit.out hmk)
          have y0 := frozen_of_row _ _ 0 _ _ hrow; have y1 := frozen_of_row _ _ 1 _ _ hrow; have y2 := frozen_of_row _ _ 2 _ _ hrow; have y3 := frozen_of_row _ _ 3 _ _ hrow
          have hrow2 := BoxR.set4_box hrow (.int .i64 (tmAt u.kids m).op) (.int .i64 (tmAt u.kids m).num) (.slice A1 (tmAt u.kids m).perm.length c1') (.slice B1 (tmAt u.kids m).kids.length e1)
          have hres2 := ((BoxR.set4_only wr w.heap.size (.int .i64 (tmAt u.kids m).op) (.int .i64 (tmAt u.kids m).num) (.slice A1 (tmAt u.kids m).perm.length c1') (.slice B1 (tmAt u.kids m).kids.length e1)).block (w.heap.size + 1) (BoxR.box_lt hres) (by simp)).trans hres
          have hb2 := set4_below hb (Nat.le_refl w.heap.size) (.int .i64 (tmAt u.kids m).op) (.int .i64 (tmAt u.kids m).num) (.slice A1 (tmAt u.kids m).perm.length c1') (.slice B1 (tmAt u.kids m).kids.length e1)
          clear hkv hy hwk htu hrow hres hb hin hc1 hC hm r0 r1 r2 r3 z0 z1 z2 z3
          generalize tmAt u.kids m = v at *
          go_wp2
          refine ⟨⟨k + 1, v, A1, c1', B1, e1, by omega, by go_num, hrow2, hres2, hty, hnx, hit2, hb2⟩, ?_⟩
          simp only [intOf]
          omega
        · have hnone : Hid (walkP t l = none) := Lib.hid (by rw [hwk.out, walkP_no hlt hin])
          have hbz := set4_below hb (show w.heap.size ≤ w.heap.size + 1 by omega) (.int .i64 0) (.int .i64 0) (.slice none 0 0) (.slice none 0 0)
          by_cases hneg : itAt l k < 0
          · clear hin hwk htu hrow hres hc1 hC hb
            generalize itAt l k = iv at *
            go_wp2
            exact bodyPost_ret (v := .tuple #[.agg #[.int .i64 0, .int .i64 0, .slice none 0 0, .slice none 0 0], .bool false]) (by simp [results, Try.results43, go_sem, r0, r1, r2, r3]) rfl (by rw [show atB t l = false from atB_none hnone.out, orT_no]; exact ⟨none, 0, none, 0, _, rfl, own_four own_none own_nokids (fun b hb => by simp at hb), fun b hb => by simp at hb, hbz⟩)
          · have hge : (u.kids.length : Int) ≤ itAt l k := by omega
            clear hin hwk htu hrow hres hc1 hC hb
            generalize itAt l k = iv at *
            go_wp2
            exact bodyPost_ret (v := .tuple #[.agg #[.int .i64 0, .int .i64 0, .slice none 0 0, .slice none 0 0], .bool false]) (by simp [results, Try.results43, go_sem, r0, r1, r2, r3]) rfl (by rw [show atB t l = false from atB_none hnone.out, orT_no]; exact ⟨none, 0, none, 0, _, rfl, own_four own_none own_nokids (fun b hb => by simp at hb), fun b hb => by simp at hb, hbz⟩)
      · have hsome : Hid (walkP t l = some u) := Lib.hid (by rw [hwk.out, List.drop_of_length_le (by omega), walkP_nil])
        have hlc := l2Copy_any u (term_good hit.out) (by have := term_size hit.out; omega) _ wr (htu.out.below hb)
        obtain ⟨m0, m1, m2, m3⟩ := BoxR.row4 hrow
        have HROW := Lib.hid (fun (W : World) (h : Below wr.heap.size wr W) => (h.block (w.heap.size + 1) (BoxR.box_lt hres)).trans hres)
        have hlt9 : w.heap.size + 1 < wr.heap.size := BoxR.box_lt hres
        have HU := Lib.hid (show atB t l = true ∧ atR t l = u from atB_some H0.out hsome.out)
        clear hwk hsome htu hrow hres hC hit H0 HXX
        go_wp2_with fail
        refine hlc.mono ?_
        rintro e w6 ⟨A6, c6, B6, d6, S6, rfl, hL6, hS6, hb6⟩
        have hres := HROW.out w6 hb6
        obtain ⟨r0, r1, r2, r3⟩ := BoxR.row4 hres
        have z0 := frozen_of_row _ _ 0 _ _ hres; have z1 := frozen_of_row _ _ 1 _ _ hres; have z2 := frozen_of_row _ _ 2 _ _ hres; have z3 := frozen_of_row _ _ 3 _ _ hres
        have hbz := hb.trans (hb6.mono hb.size)
        have hpost : TmOutB u true w (.returned (.tuple #[.agg #[.int .i64 u.op, .int .i64 u.num, .slice A6 u.perm.length c6, .slice B6 u.kids.length d6], .bool true])) ((((w6.setCell ⟨w.heap.size + 1, 0, none⟩ (.int .i64 u.op)).setCell ⟨w.heap.size + 1, 1, none⟩ (.int .i64 u.num)).setCell ⟨w.heap.size + 1, 2, none⟩ (.slice A6 u.perm.length c6)).setCell ⟨w.heap.size + 1, 3, none⟩ (.slice B6 u.kids.length d6)) :=
          ⟨A6, c6, B6, d6, S6, rfl, set4_own hL6 (fun b hb => by have := hS6 b hb; omega) _ _ _ _, fun b hb => by have := hS6 b hb; omega, set4_below hbz (by omega) _ _ _ _⟩
        clear hlc hL6 hS6 hb6 hb hbz hres HROW m0 m1 m2 m3
        go_wp2
        exact bodyPost_ret (v := .tuple #[.agg #[.int .i64 u.op, .int .i64 u.num, .slice A6 u.perm.length c6, .slice B6 u.kids.length d6], .bool true]) (by simp [results, Try.results43, go_sem, r0, r1, r2, r3]) rfl (by rw [HU.out.1, HU.out.2, orT_yes]; exact hpost)
end Go.Proofs.Ytnomidnjglbedaa
end

section
namespace Go.Proofs.Ytnomidnjglbedaa
open Go.RowKit Go.Sort
set_option linter.unusedVariables false

theorem fs_one {w : World} {q : Nat → Prop} : ∀ {xs : List Value} {ks : List Tm}, FsIn w q xs ks → ∀ u ∈ xs, u.oneCell' = true
  | _, _, .nil, u, h => by simp at h
  | _, _, .cons h k, u, hu => by
    rcases List.mem_cons.1 hu with e | e
    · subst e
      cases h <;> rfl
    · exact fs_one k u e

/-- A copy of a row of forms. -/
def CloneFPost (xs : List Value) (w : World) (e : Ending) (w' : World) : Prop :=
  ∃ g c, e = .returned (.slice (some ⟨g, 0, none⟩) xs.length c) ∧ w'.ownsRow w.heap.size 131 1 (.slice (some ⟨g, 0, none⟩) xs.length c) xs.length xs ∧ Below w.heap.size w w'

set_option maxRecDepth 100000 in
set_option maxHeartbeats 2000000 in
theorem cloneF_any (b off c : Nat) (xs : List Value) (w : World) (hb : b < w.heap.size) (hc : ∀ j u, xs[j]? = some u → w.cell? ⟨b, off + j, none⟩ = some u) (h1 : ∀ u ∈ xs, u.oneCell' = true) (hp : 0 < xs.length) (hl : xs.length ≤ 1048576) :
    Calls Try.prog 127 #[.slice (some ⟨b, off, none⟩) xs.length c] w (CloneFPost xs w) := by
  have qT : ∀ (w : World) (a : Option Addr) (n c n' c' : Nat), (binOp .eql 152 (.slice a n c) (.slice none n' c')).run Try.prog w = .ok (.bool a.isNone) w := fun w a n c n' c' => Lib.run_eql_slice_nil w _ _ a n c n' c' Try.underlying152
  obtain ⟨i0, hi0, hz0, hz1, hz2⟩ := info_parts form_info
  have HS := Lib.hid hz2
  clear hz2
  have hb0 : Below w.heap.size w (w.alloc (.cells #[] 131)) := (Below.refl _ _).alloc (Nat.le_refl _) _
  have ho0 : (w.alloc (.cells #[] 131)).ownsRow w.heap.size 131 1 (.slice (some ⟨w.heap.size, 0, none⟩) 0 0) 0 [] := World.ownsRow_lit w #[] 0 (Nat.le_refl _) (by decide) rfl
  have HN := Lib.hid (show ∀ j u, xs[j]? = some u → (w.alloc (.cells #[] 131)).cell? ((⟨b, off, none⟩ : Addr).add j) = some u from fun j u hj => by
    rw [show (⟨b, off, none⟩ : Addr).add j = ⟨b, off + j, none⟩ from by simp [Addr.add]]
    exact (hb0.cell (p := ⟨b, off + j, none⟩) hb).trans (hc j u hj))
  have HL := Lib.hid (show xs.length = xs.length * 1 by omega)
  have HO := Lib.hid h1
  have HP := Lib.hid hp
  have hs0 := hb0.size
  clear hc h1 hb hp
  go_enter Try.func127, Try.ntmps127
  go_wp2_with (at_builtin; refine wpList_append_own _ rfl (.tmp 5) (.tmp 6) 152 rfl w.heap.size 131 i0 .nilIface 1 16 Try.underlying152 hi0 hz0 hz1 HS.out rfl (by decide) _ 0 _ rfl ho0 ⟨b, off, none⟩ xs.length c xs rfl HL.out HN.out HO.out ?c3 ?c4 ?c5 ?_)
  case c3 => unfold maxLen; omega
  case c4 => omega
  case c5 => exact hs0
  intro v4 w4 ho4 hg4 hnil
  have hb4 := below_own hb0 ho0 (Nat.le_refl _) hs0 hg4
  have ho5 : w4.ownsRow w.heap.size 131 1 v4 xs.length xs := ho4
  obtain ⟨g, c', rfl⟩ : ∃ g c', v4 = .slice (some ⟨g, 0, none⟩) xs.length c' := by
    rcases ho5.2 with ⟨_, h0⟩ | ⟨g, cap, cur, e0, _⟩
    · have := HP.out; omega
    · exact ⟨g, cap, e0⟩
  have hpost : CloneFPost xs w (.returned (.slice (some ⟨g, 0, none⟩) xs.length c')) w4 := ⟨g, c', rfl, ho5, hb4⟩
  clear ho4 hg4 hnil hb4 ho5 ho0 hb0 HN HL HO HP
  go_wp2
  go_ret
  exact hpost

end Go.Proofs.Ytnomidnjglbedaa
end

section
namespace Go.Proofs.Ytnomidnjglbedaa
open Go.RowKit Go.Sort
set_option linter.unusedVariables false

def PutFPost (r : Tm) (q : Nat → Prop) (w : World) (e : Ending) (w' : World) : Prop :=
  ∃ v, e = .returned v ∧ FIn w' (fun b => q b ∨ w.heap.size ≤ b) v r ∧ Below w.heap.size w w'

theorem fs_set {w : World} {q : Nat → Prop} : ∀ {xs : List Value} {ks : List Tm} {j : Nat} {v : Value} {r : Tm}, FsIn w q xs ks → FIn w q v r → FsIn w q (xs.set j v) (ks.set j r)
  | _, _, _, _, _, .nil, _ => .nil
  | _, _, 0, _, _, .cons _ k, h => .cons h k
  | _, _, j + 1, _, _, .cons h0 k, h => .cons h0 (fs_set k h)

set_option maxRecDepth 100000 in
set_option maxHeartbeats 8000000 in
theorem withPut_node (n0 : Int) (b off c : Nat) (xs : List Value) (ks : List Tm) (r u : Tm) (uv : Value) (q : Nat → Prop) (j n bC offC cc : Nat) (w : World) (hq : ∀ b, q b → b < w.heap.size)
    (hbl : b < w.heap.size) (hcs : ∀ j u, xs[j]? = some u → w.cell? ⟨b, off + j, none⟩ = some u) (hxs : FsIn w q xs ks) (hu : FIn w q uv u) (hj : j < ks.length) (hl3 : ks.length ≤ 1048576)
    (hn : 0 < n) (hcc : n ≤ cc) (hbC : bC < w.heap.size) (hcell : w.cell? ⟨bC, offC, none⟩ = some (.int .i64 j))
    (hc : ∀ (w' : World) (x : Value), Below w.heap.size w w' → FIn w' q x (tmAt ks j) → FIn w' q uv u → Calls Try.prog 104 #[x, .slice (if cc = 1 then some ⟨bC, offC, none⟩ else some ⟨bC, offC + 1, none⟩) (n - 1) (cc - 1), uv] w' (PutFPost r q w')) :
    Calls Try.prog 104 #[.iface 154 (.agg #[.int .i64 n0, .slice (some ⟨b, off, none⟩) xs.length c]), .slice (some ⟨bC, offC, none⟩) n cc, uv] w (PutFPost (.mk 2 n0 [] (ks.set j r)) q w) := by
  have hlen := hxs.len
  obtain ⟨xj, hxj, hfj⟩ := hxs.get j hj
  have hb0 : Below w.heap.size w (w.alloc (.cells #[.int .i64 n0, .slice (some ⟨b, off, none⟩) xs.length c] 154)) := (Below.refl _ _).alloc (Nat.le_refl _) _
  have hcl := cloneF_any b off c xs (w.alloc (.cells #[.int .i64 n0, .slice (some ⟨b, off, none⟩) xs.length c] 154)) (Nat.lt_of_lt_of_le hbl hb0.size) (fun k u hk => (hb0.cell (p := ⟨b, off + k, none⟩) hbl).trans (hcs k u hk)) (fs_one hxs) (by omega) (by omega)
  have hbox := heap_alloc_new w (.cells #[.int .i64 n0, .slice (some ⟨b, off, none⟩) xs.length c] 154)
  have HA := Lib.hid (And.intro hb0 (And.intro hbox (And.intro hbC hcell)))
  have HC := Lib.hid hc
  have HU := Lib.hid hu
  have HFJ := Lib.hid hfj
  have XJ := Lib.hid hxj
  have qA := ask_node_node
  have q0 : ((n : Int) == 0) = false := by simp; omega
  have s1 : (1 : Int) ≤ (n : Int) := by omega
  have s2 : (n : Int) ≤ (cc : Int) := by omega
  have s3 : (0 : Int) < (n : Int) := by omega
  have c1 : (0 : Int) ≤ (j : Int) := by omega
  have c2 : (j : Int) < (xs.length : Int) := by omega
  clear hb0 hbox hbC hcell hc hu hfj hxj hcs hbl hlen
  go_enter Try.func104, Try.ntmps104
  go_wp2_with fail
  refine hcl.mono ?_
  rintro e w2 ⟨g, cap, rfl, ho, hb2⟩
  obtain ⟨hb0, hbox, hbC, hcell⟩ := HA.out
  have hsz0 : (w.alloc (.cells #[.int .i64 n0, .slice (some ⟨b, off, none⟩) xs.length c] 154)).heap.size = w.heap.size + 1 := by simp
  have hdw : Below w2.heap.size w2 w2.drew := ⟨rfl, rfl, rfl, Nat.le_refl _, fun _ _ => rfl⟩
  have hgl := ho.lt g rfl
  have hbw2 := hb0.trans (hb2.mono hb0.size)
  have hbw := hbw2.trans (hdw.mono hbw2.size)
  have hct := HC.out w2.drew xj hbw (HFJ.out.keep hbw) (HU.out.keep hbw)
  have hpc : w2.drew.cell? ⟨bC, offC, none⟩ = some (.int .i64 j) := (hbw.cell (p := ⟨bC, offC, none⟩) hbC).trans hcell
  have hgj : w2.drew.cell? ⟨g, j, none⟩ = some xj := ((own_below ho hdw).cellAt j (by omega)).trans XJ.out
  have HG : Hid (∀ w' : World, Below w2.drew.heap.size w2.drew w' → w'.ownsRow (w.alloc (.cells #[.int .i64 n0, .slice (some ⟨b, off, none⟩) xs.length c] 154)).heap.size 131 1 (.slice (some ⟨g, 0, none⟩) xs.length cap) xs.length xs ∧ w'.cell? ⟨bC, offC, none⟩ = some (.int .i64 j) ∧ Below w2.drew.heap.size w2.drew w' ∧ w'.cell? ⟨w.heap.size, 0, none⟩ = some (.int .i64 n0) ∧ w'.cell? ⟨w.heap.size, 1, none⟩ = some (.slice (some ⟨b, off, none⟩) xs.length c)) := Lib.hid (fun w' h => by
    have hx2 := hdw.trans (h.mono hdw.size)
    have h3 := hb2.size
    have hx0 := hb2.trans (hx2.mono hb2.size)
    obtain ⟨z0, z1⟩ := box2 hx0
    exact ⟨own_below ho hx2, (h.cell (p := ⟨bC, offC, none⟩) (Nat.lt_of_lt_of_le hbC hbw.size)).trans hpc, h, z0, z1⟩)
  have HP6 : Hid (∀ (w' : World) (v : Value), w'.cell? ⟨bC, offC, none⟩ = some (.int .i64 j) → (w'.setCell ⟨g, j, none⟩ v).cell? ⟨bC, offC, none⟩ = some (.int .i64 j)) := Lib.hid (fun w' v h => (World.cell?_of_block (w := w') (a := ⟨bC, offC, none⟩) (Below.heap_setCell w' ⟨g, j, none⟩ v bC (by show bC ≠ g; omega))).trans h)
  have HN := Lib.hid (And.intro (show w.heap.size < g by omega) (And.intro hgl.2 (And.intro hbw (show w2.drew.heap.size = w2.heap.size from rfl))))
  clear hcl ho hb2 hb0 hbox hbC hcell hsz0 hdw hgl hbw2 hbw HA HC HU HFJ
  by_cases hc1 : cc = 1
  · subst hc1
    have hn1 : n = 1 := by omega
    subst hn1
    rw [if_pos rfl, show 1 - 1 = 0 from rfl] at hct
    go_wp2
    go_region_law (first
      | (go_simp; go_at_call 104; (with_reducible refine hct.mono ?_); rintro e w5 ⟨v5, rfl, hf5, hb5⟩; obtain ⟨fx5, rfl⟩ := hf5.iface; generalize fty r = T5 at *; obtain ⟨ho5, hpc5, hx5, hz0, hz1⟩ := HG.out w5 hb5; have g0 := (ho5.cellAt j (by have := ho5.1; omega)).trans XJ.out; have f0 := ho5.frozenAt j; obtain ⟨o6, y6⟩ := ho5.stored j (.iface T5 fx5); have hpc6 := HP6.out w5 (.iface T5 fx5) hpc5)
      | fail)
    all_goals (
      obtain ⟨hgw, hgl, hbw, hs2⟩ := HN.out
      have hg5 : g < w5.heap.size := (ho5.lt g rfl).2
      have hb9 := (hbw.trans (hx5.mono hbw.size)).grown y6 (hbw.trans (hx5.mono hbw.size)).size (fun k hk' => by injection hk' with hk'; omega)
      have e0 := (World.cell?_of_block (w := w5) (a := ⟨w.heap.size, 0, none⟩) (y6.block w.heap.size (by have := hx5.size; omega) (fun e => by injection e with e; omega))).trans hz0
      have e1 := (World.cell?_of_block (w := w5) (a := ⟨w.heap.size, 1, none⟩) (y6.block w.heap.size (by have := hx5.size; omega) (fun e => by injection e with e; omega))).trans hz1
      have hxs9 : FsIn (w5.setCell ⟨g, j, none⟩ (.iface T5 fx5)) (fun b => q b ∨ w.heap.size ≤ b) xs ks := hxs.over ⟨hb9.size, fun b _ hl => hb9.block b hl, fun b h _ => .inl h⟩
      have hv9 : FIn (w5.setCell ⟨g, j, none⟩ (.iface T5 fx5)) (fun b => q b ∨ w.heap.size ≤ b) (.iface T5 fx5) r := hf5.over ⟨y6.size, fun b h hl => y6.block b hl (fun e => by
        injection e with e
        rcases h with h | h
        · have := hq b h; omega
        · rw [hs2] at h; omega), fun b h _ => by
        rcases h with h | h
        · exact .inl h
        · right; rw [hs2] at h; omega⟩
      have hf9 := form_node (t := .mk 2 n0 [] (ks.set j r)) rfl (by show xs.length = (ks.set j r).length; rw [List.length_set]; exact hxs.len) o6 (fs_set hxs9 hv9) (.inr (by omega))
      have hpost : PutFPost (.mk 2 n0 [] (ks.set j r)) q w (.returned (.iface 154 (.agg #[.int .i64 n0, .slice (some ⟨g, 0, none⟩) xs.length cap]))) (w5.setCell ⟨g, j, none⟩ (.iface T5 fx5)) := ⟨_, rfl, hf9, hb9⟩
      clear hct hf5 hb5 ho5 hpc5 hx5 hz0 hz1 g0 f0 o6 y6 hpc6 hgw hgl hbw hs2 hg5 hb9 hxs9 hv9 hf9 HG XJ HP6 HN hxs hq
      go_wp2
      go_ret
      exact hpost)
  · rw [if_neg hc1] at hct
    go_wp2
    go_region_law (first
      | (go_simp; go_at_call 104; (with_reducible refine hct.mono ?_); rintro e w5 ⟨v5, rfl, hf5, hb5⟩; obtain ⟨fx5, rfl⟩ := hf5.iface; generalize fty r = T5 at *; obtain ⟨ho5, hpc5, hx5, hz0, hz1⟩ := HG.out w5 hb5; have g0 := (ho5.cellAt j (by have := ho5.1; omega)).trans XJ.out; have f0 := ho5.frozenAt j; obtain ⟨o6, y6⟩ := ho5.stored j (.iface T5 fx5); have hpc6 := HP6.out w5 (.iface T5 fx5) hpc5)
      | fail)
    all_goals (
      obtain ⟨hgw, hgl, hbw, hs2⟩ := HN.out
      have hg5 : g < w5.heap.size := (ho5.lt g rfl).2
      have hb9 := (hbw.trans (hx5.mono hbw.size)).grown y6 (hbw.trans (hx5.mono hbw.size)).size (fun k hk' => by injection hk' with hk'; omega)
      have e0 := (World.cell?_of_block (w := w5) (a := ⟨w.heap.size, 0, none⟩) (y6.block w.heap.size (by have := hx5.size; omega) (fun e => by injection e with e; omega))).trans hz0
      have e1 := (World.cell?_of_block (w := w5) (a := ⟨w.heap.size, 1, none⟩) (y6.block w.heap.size (by have := hx5.size; omega) (fun e => by injection e with e; omega))).trans hz1
      have hxs9 : FsIn (w5.setCell ⟨g, j, none⟩ (.iface T5 fx5)) (fun b => q b ∨ w.heap.size ≤ b) xs ks := hxs.over ⟨hb9.size, fun b _ hl => hb9.block b hl, fun b h _ => .inl h⟩
      have hv9 : FIn (w5.setCell ⟨g, j, none⟩ (.iface T5 fx5)) (fun b => q b ∨ w.heap.size ≤ b) (.iface T5 fx5) r := hf5.over ⟨y6.size, fun b h hl => y6.block b hl (fun e => by
        injection e with e
        rcases h with h | h
        · have := hq b h; omega
        · rw [hs2] at h; omega), fun b h _ => by
        rcases h with h | h
        · exact .inl h
        · right; rw [hs2] at h; omega⟩
      have hf9 := form_node (t := .mk 2 n0 [] (ks.set j r)) rfl (by show xs.length = (ks.set j r).length; rw [List.length_set]; exact hxs.len) o6 (fs_set hxs9 hv9) (.inr (by omega))
      have hpost : PutFPost (.mk 2 n0 [] (ks.set j r)) q w (.returned (.iface 154 (.agg #[.int .i64 n0, .slice (some ⟨g, 0, none⟩) xs.length cap]))) (w5.setCell ⟨g, j, none⟩ (.iface T5 fx5)) := ⟨_, rfl, hf9, hb9⟩
      clear hct hf5 hb5 ho5 hpc5 hx5 hz0 hz1 g0 f0 o6 y6 hpc6 hgw hgl hbw hs2 hg5 hb9 hxs9 hv9 hf9 HG XJ HP6 HN hxs hq
      go_wp2
      go_ret
      exact hpost)

set_option maxRecDepth 100000 in
set_option maxHeartbeats 8000000 in
theorem withPut_bind (n0 : Int) (T : TypeId) (kx : Value) (k r u : Tm) (uv : Value) (q : Nat → Prop) (n bC offC cc : Nat) (w : World)
    (hk : FIn w q (.iface T kx) k) (hu : FIn w q uv u) (hn : 0 < n) (hcc : n ≤ cc)
    (hc : ∀ (w' : World) (x : Value), Below w.heap.size w w' → FIn w' q x k → FIn w' q uv u → Calls Try.prog 104 #[x, .slice (if cc = 1 then some ⟨bC, offC, none⟩ else some ⟨bC, offC + 1, none⟩) (n - 1) (cc - 1), uv] w' (PutFPost r q w')) :
    Calls Try.prog 104 #[.iface 157 (.agg #[.int .i64 n0, .iface T kx]), .slice (some ⟨bC, offC, none⟩) n cc, uv] w (PutFPost (.mk 3 n0 [] [r]) q w) := by
  have hb0 : Below w.heap.size w (w.alloc (.cells #[.int .i64 n0, .iface T kx] 157)) := (Below.refl _ _).alloc (Nat.le_refl _) _
  have hdw : Below (w.alloc (.cells #[.int .i64 n0, .iface T kx] 157)).heap.size (w.alloc (.cells #[.int .i64 n0, .iface T kx] 157)) (w.alloc (.cells #[.int .i64 n0, .iface T kx] 157)).drew := ⟨rfl, rfl, rfl, Nat.le_refl _, fun _ _ => rfl⟩
  have hbw := hb0.trans (hdw.mono hb0.size)
  have hct := hc (w.alloc (.cells #[.int .i64 n0, .iface T kx] 157)).drew _ hbw (hk.keep hbw) (hu.keep hbw)
  have HG : Hid (∀ w' : World, Below (w.alloc (.cells #[.int .i64 n0, .iface T kx] 157)).drew.heap.size (w.alloc (.cells #[.int .i64 n0, .iface T kx] 157)).drew w' → w'.cell? ⟨w.heap.size, 0, none⟩ = some (.int .i64 n0) ∧ w'.cell? ⟨w.heap.size, 1, none⟩ = some (.iface T kx)) := Lib.hid (fun w' h => box2 (hdw.trans (h.mono hdw.size)))
  obtain ⟨m0, m1⟩ := HG.out (w.alloc (.cells #[.int .i64 n0, .iface T kx] 157)).drew (Below.refl _ _)
  have HB := Lib.hid hbw
  have qA := ask_bind_node
  have qB := ask_bind_bind
  have q0 : ((n : Int) == 0) = false := by simp; omega
  have s1 : (1 : Int) ≤ (n : Int) := by omega
  have s2 : (n : Int) ≤ (cc : Int) := by omega
  have s3 : (0 : Int) < (n : Int) := by omega
  clear hb0 hdw hbw hk hu hc
  go_enter Try.func104, Try.ntmps104
  by_cases hc1 : cc = 1
  · subst hc1
    have hn1 : n = 1 := by omega
    subst hn1
    rw [if_pos rfl, show 1 - 1 = 0 from rfl] at hct
    go_wp2
    go_region_held3 (fun w' => w'.cell? ⟨w.heap.size, 0, none⟩ = some (.int .i64 n0) ∧ w'.cell? ⟨w.heap.size, 1, none⟩ = some (.iface T kx))
      (first | (with_reducible exact ⟨by assumption, by assumption⟩) | ((try dsimp only); (with_reducible exact ⟨by assumption, by assumption⟩)) | go_keep)
      (first
        | ((with_reducible refine hct.mono ?_); rintro e w5 ⟨v5, rfl, hf5, hb5⟩; obtain ⟨fx5, rfl⟩ := hf5.iface; generalize fty r = T5 at *; obtain ⟨p0, p1⟩ := HG.out w5 hb5)
        | fail)
    have hb9 := HB.out.trans (hb5.mono HB.out.size)
    have hf9 : FIn w5 (fun b => q b ∨ w.heap.size ≤ b) (.iface T5 fx5) r := hf5.kind (fun b hl h => by
      rcases h with h | h
      · exact .inl h
      · right; have h2 := HB.out.size; omega)
    have hpost : PutFPost (.mk 3 n0 [] [r]) q w (.returned (.iface 157 (.agg #[.int .i64 n0, .iface T5 fx5]))) w5 := ⟨_, rfl, .bind n0 hf9, hb9⟩
    clear hct hf5 hb5 hb9 hf9 HG HB p0 p1 m0 m1
    go_wp2
    go_ret
    exact hpost
  · rw [if_neg hc1] at hct
    go_wp2
    go_region_held3 (fun w' => w'.cell? ⟨w.heap.size, 0, none⟩ = some (.int .i64 n0) ∧ w'.cell? ⟨w.heap.size, 1, none⟩ = some (.iface T kx))
      (first | (with_reducible exact ⟨by assumption, by assumption⟩) | ((try dsimp only); (with_reducible exact ⟨by assumption, by assumption⟩)) | go_keep)
      (first
        | ((with_reducible refine hct.mono ?_); rintro e w5 ⟨v5, rfl, hf5, hb5⟩; obtain ⟨fx5, rfl⟩ := hf5.iface; generalize fty r = T5 at *; obtain ⟨p0, p1⟩ := HG.out w5 hb5)
        | fail)
    have hb9 := HB.out.trans (hb5.mono HB.out.size)
    have hf9 : FIn w5 (fun b => q b ∨ w.heap.size ≤ b) (.iface T5 fx5) r := hf5.kind (fun b hl h => by
      rcases h with h | h
      · exact .inl h
      · right; have h2 := HB.out.size; omega)
    have hpost : PutFPost (.mk 3 n0 [] [r]) q w (.returned (.iface 157 (.agg #[.int .i64 n0, .iface T5 fx5]))) w5 := ⟨_, rfl, .bind n0 hf9, hb9⟩
    clear hct hf5 hb5 hb9 hf9 HG HB p0 p1 m0 m1
    go_wp2
    go_ret
    exact hpost

/-- The path is at its end. -/
theorem withPut_nil (C : Option Addr) (cc : Nat) (v uv : Value) (u : Tm) (q : Nat → Prop) (w : World) (hu : FIn w q uv u) :
    Calls Try.prog 104 #[v, .slice C 0 cc, uv] w (PutFPost u q w) := by
  have hpost : PutFPost u q w (.returned uv) w := ⟨uv, rfl, hu.kind (fun b _ h => .inl h), Below.refl _ _⟩
  obtain ⟨ux, rfl⟩ := hu.iface
  generalize fty u = T5 at *
  clear hu
  go_enter Try.func104, Try.ntmps104
  go_wp2
  go_ret
  exact hpost

theorem ints_tail {w w' : World} {b off cc : Nat} {i : Int} {r : List Int} (hb : Below w.heap.size w w') (hbl : b < w.heap.size) (hcc : (i :: r).length ≤ cc) (hcell : ∀ k, k < (i :: r).length → w.cell? ⟨b, off + k, none⟩ = some (.int .i64 (itAt (i :: r) k))) :
    IntsAt w' (if cc = 1 then some ⟨b, off, none⟩ else some ⟨b, off + 1, none⟩) r := by
  intro hr
  rw [if_neg (by simp at hcc; omega)]
  refine ⟨b, off + 1, rfl, Nat.lt_of_lt_of_le hbl hb.size, fun k hk => ?_⟩
  have h := (hb.cell (p := ⟨b, off + (k + 1), none⟩) hbl).trans (hcell (k + 1) (by simp; omega))
  rw [show off + (k + 1) = off + 1 + k by omega] at h
  exact h

theorem withPut_any : ∀ (l : List Int) (t u : Tm) (C : Option Addr) (cc : Nat) (v uv : Value) (q : Nat → Prop) (w : World), (∀ b, q b → b < w.heap.size) → FIn w q v t → FIn w q uv u → Fit t → (∃ x, walkP t l = some x) → IntsAt w C l → l.length ≤ cc →
    Calls Try.prog 104 #[v, .slice C l.length cc, uv] w (PutFPost (putT t l u) q w)
  | [], t, u, C, cc, v, uv, q, w, hq, hv, hu, hf, hx, hC, hcc => by
    rw [putT]
    exact withPut_nil C cc v uv u q w hu
  | i :: r, t, u, C, cc, v, uv, q, w, hq, hv, hu, hf, hx, hC, hcc => by
    obtain ⟨x, hx⟩ := hx
    rw [walkP] at hx
    split at hx
    · rename_i hi
      obtain ⟨j, rfl⟩ : ∃ j : Nat, i = (j : Int) := ⟨i.toNat, by omega⟩
      rw [Int.toNat_natCast] at hx
      have hj : j < t.kids.length := by omega
      have hfk := (fit_eq t).1 hf
      obtain ⟨b, off, rfl, hbl, hcell⟩ := hC (by simp)
      rw [putT, Int.toNat_natCast]
      cases hv with
      | atom n => simp [Tm.kids] at hj
      | hole n hm h hq => simp [Tm.kids] at hj
      | node n hm hqb hb hc h =>
        rename_i ks
        have hm' := hm.trans h.len.symm
        subst hm'
        simp only [op_mk, num_mk, perm_mk, kids_mk] at hj hfk hx ⊢
        refine withPut_node n _ _ _ _ ks (putT (tmAt ks j) r u) u uv q j (r.length + 1) b off cc w hq hb hc h hu hj hfk.2.1 (by omega) hcc hbl (hcell 0 (by simp)) (fun w' x hb' hx' hu' => ?_)
        exact withPut_any r (tmAt ks j) u _ (cc - 1) x uv q w' (fun b h => Nat.lt_of_lt_of_le (hq b h) hb'.size) hx' hu' (fits_at hfk.2.2 hj) ⟨_, hx⟩ (ints_tail hb' hbl hcc hcell) (by simp at hcc; omega)
      | bind n h =>
        rename_i k
        obtain ⟨kx, rfl⟩ := h.iface
        simp only [op_mk, num_mk, perm_mk, kids_mk] at hj hfk hx ⊢
        have e : j = 0 := by simp at hj; omega
        subst e
        have hx2 : walkP k r = some _ := hx
        refine withPut_bind n (fty k) kx k (putT k r u) u uv q (r.length + 1) b off cc w h hu (by omega) hcc (fun w' x hb' hx' hu' => ?_)
        exact withPut_any r k u _ (cc - 1) x uv q w' (fun b h => Nat.lt_of_lt_of_le (hq b h) hb'.size) hx' hu' (fits_at (i := 0) hfk.2.2 (by simp)) ⟨_, hx2⟩ (ints_tail hb' hbl hcc hcell) (by simp at hcc; omega)
    · cases hx

end Go.Proofs.Ytnomidnjglbedaa
end

section
namespace Go.Proofs.Ytnomidnjglbedaa
open Go.RowKit Go.Sort
set_option linter.unusedVariables false

set_option maxRecDepth 100000 in
set_option maxHeartbeats 8000000 in
theorem put_cons (t u r : Tm) (j n : Nat) (bC offC : Nat) (cc : Nat) (xt xu : Value) (w : World) (hxt : TmIn w xt t) (hxu : TmIn w xu u) (hg : goodT t = true) (hsz : szT t ≤ 1048576)
    (hj : j < t.kids.length) (hl3 : t.kids.length ≤ 1048576) (hn : 0 < n) (hcc : n ≤ cc) (hbC : bC < w.heap.size) (hcell : w.cell? ⟨bC, offC, none⟩ = some (.int .i64 j))
    (hc : ∀ (w' : World) (x y : Value), Below w.heap.size w w' → TmIn w' x (tmAt t.kids j) → TmIn w' y u → Calls Try.prog 102 #[x, .slice (if cc = 1 then some ⟨bC, offC, none⟩ else some ⟨bC, offC + 1, none⟩) (n - 1) (cc - 1), y] w' (TmOut r w')) :
    Calls Try.prog 102 #[xt, .slice (some ⟨bC, offC, none⟩) n cc, xu] w (TmOut (.mk t.op t.num t.perm (t.kids.set j r)) w) := by
  have hX := hxt
  have hU := Lib.hid hxu
  obtain ⟨At, ct, kvt, rfl, hp, hk⟩ := hxt
  obtain ⟨B, dt, rfl⟩ := hk.form
  obtain ⟨Au, cu, kvu, rfl, hpu, hku⟩ := hxu
  obtain ⟨Bu, du, rfl⟩ := hku.form
  obtain ⟨b0, off, rfl, hbl, hget⟩ := hk.get (by omega)
  obtain ⟨Ak, ck, kvk, e0, e1, e2, e3, hpk, hkk⟩ := hget j hj
  obtain ⟨Bk, dk, rfl⟩ := hkk.form
  have hK : TmIn w (.agg #[.int .i64 (tmAt t.kids j).op, .int .i64 (tmAt t.kids j).num, .slice Ak (tmAt t.kids j).perm.length ck, .slice Bk (tmAt t.kids j).kids.length dk]) (tmAt t.kids j) := ⟨_, _, _, rfl, hpk, hkk⟩
  generalize tmAt t.kids j = k at *
  obtain ⟨W, hW⟩ : ∃ W, W = (((w.alloc (.cells #[.int .i64 t.op, .int .i64 t.num, .slice At t.perm.length ct, .slice (some ⟨b0, off, none⟩) t.kids.length dt] 31)).alloc (.cells #[.int .i64 u.op, .int .i64 u.num, .slice Au u.perm.length cu, .slice Bu u.kids.length du] 31)).alloc (.cells #[.int .i64 0, .int .i64 0, .slice none 0 0, .slice none 0 0] 31)) := ⟨_, rfl⟩
  have hbW : Below w.heap.size w W := by rw [hW]; exact (((Below.refl _ _).alloc (Nat.le_refl _) _).alloc (by simp) _).alloc (by simp; omega) _
  have hkT : W.heap[w.heap.size]? = some (.cells #[.int .i64 t.op, .int .i64 t.num, .slice At t.perm.length ct, .slice (some ⟨b0, off, none⟩) t.kids.length dt] 31 (0, 0)) := by rw [hW]; exact (Below.heap_alloc _ _ _ (by simp; omega)).trans ((Below.heap_alloc _ _ _ (by simp)).trans (heap_alloc_new w _))
  have hkU : W.heap[w.heap.size + 1]? = some (.cells #[.int .i64 u.op, .int .i64 u.num, .slice Au u.perm.length cu, .slice Bu u.kids.length du] 31 (0, 0)) := by
    rw [hW]
    have h := heap_alloc_new (w.alloc (.cells #[.int .i64 t.op, .int .i64 t.num, .slice At t.perm.length ct, .slice (some ⟨b0, off, none⟩) t.kids.length dt] 31)) (.cells #[.int .i64 u.op, .int .i64 u.num, .slice Au u.perm.length cu, .slice Bu u.kids.length du] 31)
    rw [World.size_alloc] at h
    exact (Below.heap_alloc _ _ _ (by simp)).trans h
  have hkR : W.heap[w.heap.size + 1 + 1]? = some (.cells #[.int .i64 0, .int .i64 0, .slice none 0 0, .slice none 0 0] 31 (0, 0)) := by
    rw [hW]
    have h := heap_alloc_new ((w.alloc (.cells #[.int .i64 t.op, .int .i64 t.num, .slice At t.perm.length ct, .slice (some ⟨b0, off, none⟩) t.kids.length dt] 31)).alloc (.cells #[.int .i64 u.op, .int .i64 u.num, .slice Au u.perm.length cu, .slice Bu u.kids.length du] 31)) (.cells #[.int .i64 0, .int .i64 0, .slice none 0 0, .slice none 0 0] 31)
    rw [World.size_alloc, World.size_alloc] at h
    exact h
  have hltR : w.heap.size + 1 + 1 < W.heap.size := BoxR.box_lt hkR
  have hcp := l2Copy_any t hg hsz _ W (hX.below hbW)
  have HW := Lib.hid hW
  have HA := Lib.hid (And.intro hbW (And.intro hkT (And.intro hkU (And.intro hkR hltR))))
  have HC := Lib.hid hc
  have HK := Lib.hid hK
  have HE : Hid (∀ w' : World, Below w.heap.size w w' → w'.cell? ⟨bC, offC, none⟩ = some (.int .i64 j) ∧ w'.cell? ⟨b0, off + j * 4, none⟩ = some (.int .i64 k.op) ∧ w'.cell? ⟨b0, off + j * 4 + 1, none⟩ = some (.int .i64 k.num) ∧ w'.cell? ⟨b0, off + j * 4 + 2, none⟩ = some (.slice Ak k.perm.length ck) ∧ w'.cell? ⟨b0, off + j * 4 + 3, none⟩ = some (.slice Bk k.kids.length dk)) := Lib.hid (fun w' h => by
    have hc1 := fun (q : Nat) => h.cell (p := ⟨b0, q, none⟩) hbl
    exact ⟨(h.cell (p := ⟨bC, offC, none⟩) hbC).trans hcell, (hc1 _).trans e0, (hc1 _).trans e1, (hc1 _).trans e2, (hc1 _).trans e3⟩)
  have q0 : ((n : Int) == 0) = false := by simp; omega
  clear hX hp hk hpu hku hget e0 e1 e2 e3 hpk hkk hK hbl hc hcell hbC hW hbW hkT hkU hkR hltR hg hsz
  go_enter Try.func102, Try.ntmps102
  go_wp2_with fail
  rw [← HW.out]
  refine hcp.mono ?_
  rintro e w3 ⟨A3, c3, B3, d3, S3, rfl, hL3, hS3, hb3⟩
  obtain ⟨P3, T3, hP3, hT3, hPs, hTs, hPT⟩ := own_parts4 hL3
  obtain ⟨g, cap, xs, S', rfl, eB, ho, hL, hgS⟩ := own_terms hT3 (by omega)
  rw [eB]
  injection eB with eB1 _ eB3
  subst eB1
  replace eB3 := eB3.symm
  subst eB3
  obtain ⟨hbW, hkT, hkU, hkR, hltR⟩ := HA.out
  have hg3 : g < w3.heap.size := hL3.lt g (hTs g List.mem_cons_self)
  have hgW : W.heap.size ≤ g := hS3 g (hTs g List.mem_cons_self)
  have hb4 : Below W.heap.size W (w3.alloc (.cells #[.int .i64 t.op, .int .i64 t.num, .slice A3 t.perm.length c3, .slice (some ⟨g, 0, none⟩) t.kids.length cap] 31)) := hb3.alloc hb3.size _
  have hdw : Below (w3.alloc (.cells #[.int .i64 t.op, .int .i64 t.num, .slice A3 t.perm.length c3, .slice (some ⟨g, 0, none⟩) t.kids.length cap] 31)).heap.size (w3.alloc (.cells #[.int .i64 t.op, .int .i64 t.num, .slice A3 t.perm.length c3, .slice (some ⟨g, 0, none⟩) t.kids.length cap] 31)) (w3.alloc (.cells #[.int .i64 t.op, .int .i64 t.num, .slice A3 t.perm.length c3, .slice (some ⟨g, 0, none⟩) t.kids.length cap] 31)).drew := ⟨rfl, rfl, rfl, Nat.le_refl _, fun _ _ => rfl⟩
  have hbD : Below W.heap.size W (w3.alloc (.cells #[.int .i64 t.op, .int .i64 t.num, .slice A3 t.perm.length c3, .slice (some ⟨g, 0, none⟩) t.kids.length cap] 31)).drew := hb4.trans (hdw.mono hb4.size)
  have hbwD := hbW.trans (hbD.mono hbW.size)
  have hnew := heap_alloc_new w3 (.cells #[.int .i64 t.op, .int .i64 t.num, .slice A3 t.perm.length c3, .slice (some ⟨g, 0, none⟩) t.kids.length cap] 31)
  have hszD : (w3.alloc (.cells #[.int .i64 t.op, .int .i64 t.num, .slice A3 t.perm.length c3, .slice (some ⟨g, 0, none⟩) t.kids.length cap] 31)).drew.heap.size = w3.heap.size + 1 := by show (w3.alloc (.cells #[.int .i64 t.op, .int .i64 t.num, .slice A3 t.perm.length c3, .slice (some ⟨g, 0, none⟩) t.kids.length cap] 31)).heap.size = _; simp
  have HF : Hid (∀ w' : World, Below W.heap.size W w' → w'.heap[w3.heap.size]? = some (.cells #[.int .i64 t.op, .int .i64 t.num, .slice A3 t.perm.length c3, .slice (some ⟨g, 0, none⟩) t.kids.length cap] 31 (0, 0)) → w'.cell? ⟨w3.heap.size, 3, none⟩ = some (.slice (some ⟨g, 0, none⟩) t.kids.length cap) ∧ w'.cell? ⟨bC, offC, none⟩ = some (.int .i64 j) ∧ w'.cell? ⟨w.heap.size, 3, none⟩ = some (.slice (some ⟨b0, off, none⟩) t.kids.length dt) ∧ w'.cell? ⟨b0, off + j * 4, none⟩ = some (.int .i64 k.op) ∧ w'.cell? ⟨b0, off + j * 4 + 1, none⟩ = some (.int .i64 k.num) ∧ w'.cell? ⟨b0, off + j * 4 + 2, none⟩ = some (.slice Ak k.perm.length ck) ∧ w'.cell? ⟨b0, off + j * 4 + 3, none⟩ = some (.slice Bk k.kids.length dk) ∧ w'.cell? ⟨w.heap.size + 1, 0, none⟩ = some (.int .i64 u.op) ∧ w'.cell? ⟨w.heap.size + 1, 1, none⟩ = some (.int .i64 u.num) ∧ w'.cell? ⟨w.heap.size + 1, 2, none⟩ = some (.slice Au u.perm.length cu) ∧ w'.cell? ⟨w.heap.size + 1, 3, none⟩ = some (.slice Bu u.kids.length du)) := Lib.hid (fun w' h h2 => by
    obtain ⟨_, _, _, o3⟩ := BoxR.row4 h2
    obtain ⟨i0, i1, i2, i3, i4⟩ := HE.out w' (hbW.trans (h.mono hbW.size))
    obtain ⟨_, _, _, y3⟩ := BoxR.row4 ((h.block w.heap.size (by omega)).trans hkT)
    obtain ⟨v0, v1, v2, v3⟩ := BoxR.row4 ((h.block (w.heap.size + 1) (by omega)).trans hkU)
    exact ⟨o3, i0, y3, i1, i2, i3, i4, v0, v1, v2, v3⟩)
  have HS : Hid (∀ w' : World, Below W.heap.size W w' → w'.heap[w3.heap.size]? = some (.cells #[.int .i64 t.op, .int .i64 t.num, .slice A3 t.perm.length c3, .slice (some ⟨g, 0, none⟩) t.kids.length cap] 31 (0, 0)) → ∀ a b c d : Value, ((((w'.setCell ⟨g, j * 4, none⟩ a).setCell ⟨g, j * 4 + 1, none⟩ b).setCell ⟨g, j * 4 + 2, none⟩ c).setCell ⟨g, j * 4 + 3, none⟩ d).cell? ⟨w3.heap.size, 3, none⟩ = some (.slice (some ⟨g, 0, none⟩) t.kids.length cap) ∧ ((((w'.setCell ⟨g, j * 4, none⟩ a).setCell ⟨g, j * 4 + 1, none⟩ b).setCell ⟨g, j * 4 + 2, none⟩ c).setCell ⟨g, j * 4 + 3, none⟩ d).cell? ⟨bC, offC, none⟩ = some (.int .i64 j) ∧ ((((w'.setCell ⟨g, j * 4, none⟩ a).setCell ⟨g, j * 4 + 1, none⟩ b).setCell ⟨g, j * 4 + 2, none⟩ c).setCell ⟨g, j * 4 + 3, none⟩ d).cell? ⟨w.heap.size, 3, none⟩ = some (.slice (some ⟨b0, off, none⟩) t.kids.length dt) ∧ ((((w'.setCell ⟨g, j * 4, none⟩ a).setCell ⟨g, j * 4 + 1, none⟩ b).setCell ⟨g, j * 4 + 2, none⟩ c).setCell ⟨g, j * 4 + 3, none⟩ d).cell? ⟨b0, off + j * 4, none⟩ = some (.int .i64 k.op) ∧ ((((w'.setCell ⟨g, j * 4, none⟩ a).setCell ⟨g, j * 4 + 1, none⟩ b).setCell ⟨g, j * 4 + 2, none⟩ c).setCell ⟨g, j * 4 + 3, none⟩ d).cell? ⟨b0, off + j * 4 + 1, none⟩ = some (.int .i64 k.num) ∧ ((((w'.setCell ⟨g, j * 4, none⟩ a).setCell ⟨g, j * 4 + 1, none⟩ b).setCell ⟨g, j * 4 + 2, none⟩ c).setCell ⟨g, j * 4 + 3, none⟩ d).cell? ⟨b0, off + j * 4 + 2, none⟩ = some (.slice Ak k.perm.length ck) ∧ ((((w'.setCell ⟨g, j * 4, none⟩ a).setCell ⟨g, j * 4 + 1, none⟩ b).setCell ⟨g, j * 4 + 2, none⟩ c).setCell ⟨g, j * 4 + 3, none⟩ d).cell? ⟨b0, off + j * 4 + 3, none⟩ = some (.slice Bk k.kids.length dk) ∧ ((((w'.setCell ⟨g, j * 4, none⟩ a).setCell ⟨g, j * 4 + 1, none⟩ b).setCell ⟨g, j * 4 + 2, none⟩ c).setCell ⟨g, j * 4 + 3, none⟩ d).cell? ⟨w.heap.size + 1, 0, none⟩ = some (.int .i64 u.op) ∧ ((((w'.setCell ⟨g, j * 4, none⟩ a).setCell ⟨g, j * 4 + 1, none⟩ b).setCell ⟨g, j * 4 + 2, none⟩ c).setCell ⟨g, j * 4 + 3, none⟩ d).cell? ⟨w.heap.size + 1, 1, none⟩ = some (.int .i64 u.num) ∧ ((((w'.setCell ⟨g, j * 4, none⟩ a).setCell ⟨g, j * 4 + 1, none⟩ b).setCell ⟨g, j * 4 + 2, none⟩ c).setCell ⟨g, j * 4 + 3, none⟩ d).cell? ⟨w.heap.size + 1, 2, none⟩ = some (.slice Au u.perm.length cu) ∧ ((((w'.setCell ⟨g, j * 4, none⟩ a).setCell ⟨g, j * 4 + 1, none⟩ b).setCell ⟨g, j * 4 + 2, none⟩ c).setCell ⟨g, j * 4 + 3, none⟩ d).cell? ⟨w.heap.size + 1, 3, none⟩ = some (.slice Bu u.kids.length du)) := Lib.hid (fun w' h h2 a b c d => HF.out ((((w'.setCell ⟨g, j * 4, none⟩ a).setCell ⟨g, j * 4 + 1, none⟩ b).setCell ⟨g, j * 4 + 2, none⟩ c).setCell ⟨g, j * 4 + 3, none⟩ d) ((((h.setCell (p := ⟨g, j * 4, none⟩) hgW a).setCell (p := ⟨g, j * 4 + 1, none⟩) hgW b).setCell (p := ⟨g, j * 4 + 2, none⟩) hgW c).setCell (p := ⟨g, j * 4 + 3, none⟩) hgW d)
    ((Below.heap_setCell _ ⟨g, j * 4 + 3, none⟩ _ w3.heap.size (Nat.ne_of_gt hg3)).trans ((Below.heap_setCell _ ⟨g, j * 4 + 2, none⟩ _ w3.heap.size (Nat.ne_of_gt hg3)).trans ((Below.heap_setCell _ ⟨g, j * 4 + 1, none⟩ _ w3.heap.size (Nat.ne_of_gt hg3)).trans ((Below.heap_setCell w' ⟨g, j * 4, none⟩ _ w3.heap.size (Nat.ne_of_gt hg3)).trans h2)))))
  have hnewD : (w3.alloc (.cells #[.int .i64 t.op, .int .i64 t.num, .slice A3 t.perm.length c3, .slice (some ⟨g, 0, none⟩) t.kids.length cap] 31)).drew.heap[w3.heap.size]? = some (.cells #[.int .i64 t.op, .int .i64 t.num, .slice A3 t.perm.length c3, .slice (some ⟨g, 0, none⟩) t.kids.length cap] 31 (0, 0)) := hnew
  obtain ⟨m0, m1, m2, m3, m4, m5, m6, m7, m8, m9, m10⟩ := HF.out (w3.alloc (.cells #[.int .i64 t.op, .int .i64 t.num, .slice A3 t.perm.length c3, .slice (some ⟨g, 0, none⟩) t.kids.length cap] 31)).drew hbD hnewD
  have hct := HC.out (w3.alloc (.cells #[.int .i64 t.op, .int .i64 t.num, .slice A3 t.perm.length c3, .slice (some ⟨g, 0, none⟩) t.kids.length cap] 31)).drew _ _ hbwD (HK.out.below hbwD) (hU.out.below hbwD)
  have hxl := ho.1
  obtain ⟨v0, x0⟩ := some_of_lt xs (j * 4) (by omega)
  obtain ⟨v1, x1⟩ := some_of_lt xs (j * 4 + 1) (by omega)
  obtain ⟨v2, x2⟩ := some_of_lt xs (j * 4 + 2) (by omega)
  obtain ⟨v3, x3⟩ := some_of_lt xs (j * 4 + 3) (by omega)
  have HG : Hid (∀ w' : World, Below (w3.alloc (.cells #[.int .i64 t.op, .int .i64 t.num, .slice A3 t.perm.length c3, .slice (some ⟨g, 0, none⟩) t.kids.length cap] 31)).drew.heap.size (w3.alloc (.cells #[.int .i64 t.op, .int .i64 t.num, .slice A3 t.perm.length c3, .slice (some ⟨g, 0, none⟩) t.kids.length cap] 31)).drew w' → w'.ownsRow 0 31 4 (.slice (some ⟨g, 0, none⟩) t.kids.length cap) t.kids.length xs ∧ w'.heap[w3.heap.size]? = some (.cells #[.int .i64 t.op, .int .i64 t.num, .slice A3 t.perm.length c3, .slice (some ⟨g, 0, none⟩) t.kids.length cap] 31 (0, 0)) ∧ Below W.heap.size W w' ∧ Below w3.heap.size w3 w') := Lib.hid (fun w' h => by
    have hx : Below w3.heap.size w3 (w3.alloc (.cells #[.int .i64 t.op, .int .i64 t.num, .slice A3 t.perm.length c3, .slice (some ⟨g, 0, none⟩) t.kids.length cap] 31)) := (Below.refl _ _).alloc (Nat.le_refl _) _
    have hx2 := hx.trans (hdw.mono hx.size)
    have hx3 := hx2.trans (h.mono hx2.size)
    exact ⟨own_below ho hx3, (h.block w3.heap.size (by rw [hszD]; omega)).trans hnewD, hbD.trans (h.mono hbD.size), hx3⟩)
  have HXS := Lib.hid (And.intro x0 (And.intro x1 (And.intro x2 x3)))
  have HL3 := Lib.hid (And.intro hP3 (And.intro hL (And.intro hPs (And.intro hTs (And.intro hPT hgS)))))
  have HN := Lib.hid (And.intro hg3 (And.intro hgW (And.intro hS3 hb3)))
  have HSD := Lib.hid hszD
  have c1 : (0 : Int) ≤ (j : Int) := by omega
  have s1 : (1 : Int) ≤ (n : Int) := by omega
  have s2 : (n : Int) ≤ (cc : Int) := by omega
  have s3 : (0 : Int) < (n : Int) := by omega
  have s4 : 0 < n := hn
  have c2 : (j : Int) < (t.kids.length : Int) := by omega
  clear hcp hL3 hS3 hb3 hP3 hT3 hPs hTs hPT ho hL hgS hbW hkT hkU hkR hltR hg3 hgW hb4 hdw hbD hbwD hnew hszD hnewD hxl x0 x1 x2 x3 HC HK hU HE
  by_cases hc1 : cc = 1
  · subst hc1
    have hn1 : n = 1 := by omega
    subst hn1
    rw [if_pos rfl, show 1 - 1 = 0 from rfl] at hct
    go_wp2
    go_region_held3 (fun w' => w'.cell? ⟨w3.heap.size, 3, none⟩ = some (.slice (some ⟨g, 0, none⟩) t.kids.length cap) ∧ w'.cell? ⟨bC, offC, none⟩ = some (.int .i64 j) ∧ w'.cell? ⟨w.heap.size, 3, none⟩ = some (.slice (some ⟨b0, off, none⟩) t.kids.length dt) ∧ w'.cell? ⟨b0, off + j * 4, none⟩ = some (.int .i64 k.op) ∧ w'.cell? ⟨b0, off + j * 4 + 1, none⟩ = some (.int .i64 k.num) ∧ w'.cell? ⟨b0, off + j * 4 + 2, none⟩ = some (.slice Ak k.perm.length ck) ∧ w'.cell? ⟨b0, off + j * 4 + 3, none⟩ = some (.slice Bk k.kids.length dk) ∧ w'.cell? ⟨w.heap.size + 1, 0, none⟩ = some (.int .i64 u.op) ∧ w'.cell? ⟨w.heap.size + 1, 1, none⟩ = some (.int .i64 u.num) ∧ w'.cell? ⟨w.heap.size + 1, 2, none⟩ = some (.slice Au u.perm.length cu) ∧ w'.cell? ⟨w.heap.size + 1, 3, none⟩ = some (.slice Bu u.kids.length du))
      (first | (with_reducible exact ⟨by assumption, by assumption, by assumption, by assumption, by assumption, by assumption, by assumption, by assumption, by assumption, by assumption, by assumption⟩) | ((try dsimp only); (with_reducible exact ⟨by assumption, by assumption, by assumption, by assumption, by assumption, by assumption, by assumption, by assumption, by assumption, by assumption, by assumption⟩)) | go_keep)
      (first
        | ((with_reducible refine hct.mono ?_); rintro e w5 ⟨A9, c9, B9, d9, S9, rfl, hS9, hS9b, hb5⟩; obtain ⟨ho5, hk5, hbw5, hx5⟩ := HG.out w5 hb5; obtain ⟨p0, p1, p2, p3, p4, p5, p6, p7, p8, p9, p10⟩ := HF.out w5 hbw5 hk5; obtain ⟨s0, s1, s2, s3, s4, s5, s6, s7, s8, s9, s10⟩ := HS.out w5 hbw5 hk5 (.int .i64 r.op) (.int .i64 r.num) (.slice A9 r.perm.length c9) (.slice B9 r.kids.length d9); have g0 := (ho5.cellAt (j * 4) (by have := ho5.1; omega)).trans HXS.out.1; have g1 := (ho5.cellAt (j * 4 + 1) (by have := ho5.1; omega)).trans HXS.out.2.1; have g2 := (ho5.cellAt (j * 4 + 2) (by have := ho5.1; omega)).trans HXS.out.2.2.1; have g3 := (ho5.cellAt (j * 4 + 3) (by have := ho5.1; omega)).trans HXS.out.2.2.2; have f0 := ho5.frozenAt (j * 4); have f1 := ho5.frozenAt (j * 4 + 1); have f2 := ho5.frozenAt (j * 4 + 2); have f3 := ho5.frozenAt (j * 4 + 3))
        | fail)
    obtain ⟨hbW, hkT, hkU, hkR, hltR⟩ := HA.out
    obtain ⟨hg3, hgW, hS3, hb3⟩ := HN.out
    obtain ⟨hP3, hL, hPs, hTs, hPT, hgS⟩ := HL3.out
    have hszD := HSD.out
    have h5s := hb5.size
    have h3s := hb3.size
    obtain ⟨o1, y1⟩ := ho5.stored (j * 4) (.int .i64 r.op)
    obtain ⟨o2, y2⟩ := o1.stored (j * 4 + 1) (.int .i64 r.num)
    obtain ⟨o3, y3⟩ := o2.stored (j * 4 + 2) (.slice A9 r.perm.length c9)
    obtain ⟨o4, y4⟩ := o3.stored (j * 4 + 3) (.slice B9 r.kids.length d9)
    have hq := grownBy_trans y1 (grownBy_trans y2 (grownBy_trans y3 y4))
    have hk9 := (hq.block w3.heap.size (by omega) (fun e => by injection e with e; omega)).trans hk5
    obtain ⟨t0, t1, t2, t3⟩ := BoxR.row4 hk9
    have hr9 := (hq.block (w.heap.size + 1 + 1) (by omega) (fun e => by injection e with e; omega)).trans ((hbw5.block (w.heap.size + 1 + 1) hltR).trans hkR)
    obtain ⟨r0, r1, r2, r3⟩ := BoxR.row4 hr9
    have z0 := frozen_of_row _ _ 0 _ _ hr9
    have z1 := frozen_of_row _ _ 1 _ _ hr9
    have z2 := frozen_of_row _ _ 2 _ _ hr9
    have z3 := frozen_of_row _ _ 3 _ _ hr9
    have hbw := hbW.trans (hbw5.mono hbW.size)
    have hWs := hbW.size
    have hb9 := hbw.grown hq hbw.size (fun k hk' => by injection hk' with hk'; omega)
    obtain ⟨PR, TR, hPR, hTR, hPRs, hTRs, hPTR⟩ := own_parts4 hS9
    have hPRb : ∀ bb ∈ PR, w3.heap.size < bb := fun bb hbb => by have := hS9b bb (hPRs bb hbb); omega
    have hTRb : ∀ bb ∈ TR, w3.heap.size < bb := fun bb hbb => by have := hS9b bb (hTRs bb hbb); omega
    have hPR9 := hPR.alike (w' := ((((w5.setCell ⟨g, j * 4, none⟩ (.int .i64 r.op)).setCell ⟨g, j * 4 + 1, none⟩ (.int .i64 r.num)).setCell ⟨g, j * 4 + 2, none⟩ (.slice A9 r.perm.length c9)).setCell ⟨g, j * 4 + 3, none⟩ (.slice B9 r.kids.length d9))) (fun bb hbb => hq.block bb (hPR.lt bb hbb) (fun e => by injection e with e; have := hPRb bb hbb; omega))
    have hTR9 := hTR.alike (w' := ((((w5.setCell ⟨g, j * 4, none⟩ (.int .i64 r.op)).setCell ⟨g, j * 4 + 1, none⟩ (.int .i64 r.num)).setCell ⟨g, j * 4 + 2, none⟩ (.slice A9 r.perm.length c9)).setCell ⟨g, j * 4 + 3, none⟩ (.slice B9 r.kids.length d9))) (fun bb hbb => hq.block bb (hTR.lt bb hbb) (fun e => by injection e with e; have := hTRb bb hbb; omega))
    have hL5 := hL.alike (w' := w5) (fun bb hbb => hx5.block bb (hL.lt bb hbb))
    have hL9 := hL5.kept hq (fun bb hbb => by intro e; injection e with e; exact hgS (e ▸ hbb))
    have hP5 := hP3.alike (w' := w5) (fun bb hbb => hx5.block bb (hP3.lt bb hbb))
    have hP9 := hP5.alike (w' := ((((w5.setCell ⟨g, j * 4, none⟩ (.int .i64 r.op)).setCell ⟨g, j * 4 + 1, none⟩ (.int .i64 r.num)).setCell ⟨g, j * 4 + 2, none⟩ (.slice A9 r.perm.length c9)).setCell ⟨g, j * 4 + 3, none⟩ (.slice B9 r.kids.length d9))) (fun bb hbb => hq.block bb (hP5.lt bb hbb) (fun e => by injection e with e; exact hPT bb hbb (by rw [e]; exact List.mem_cons_self)))
    have hpr := encTs_parts (ts := t.kids) (i := j) hj
    obtain ⟨Sa, hLa, hSa⟩ := ((hL9.setCell (j * 4) _ (.int .i64 r.op) hpr.1).setCell (j * 4 + 1) _ (.int .i64 r.num) (by rw [List.getElem?_set_ne (by omega)]; exact hpr.2.1)).swap hPR9 (fun bb h1 h2 => by have h3 := hPRb bb h1; have h4 := hL.lt bb h2; omega) (j * 4 + 2) _ (by rw [List.getElem?_set_ne (by omega), List.getElem?_set_ne (by omega)]; exact hpr.2.2.1)
    obtain ⟨Sb, hLb, hSb⟩ := hLa.swap hTR9 (fun bb h1 h2 => by
      rcases hSa bb h2 with h3 | h3
      · exact hPTR bb h3 h1
      · have h4 := hTRb bb h1; have h5 := hL.lt bb h3; omega) (j * 4 + 3) _ (by rw [List.getElem?_set_ne (by omega), List.getElem?_set_ne (by omega), List.getElem?_set_ne (by omega)]; exact hpr.2.2.2)
    rw [encTs_set hj] at hLb
    have hSc : ∀ bb ∈ Sb, w3.heap.size < bb ∨ bb ∈ S' := fun bb hbb => by
      rcases hSb bb hbb with h | h
      · exact .inl (hTRb bb h)
      · rcases hSa bb h with h2 | h2
        · exact .inl (hPRb bb h2)
        · exact .inr h2
    have hg9 : g ∉ Sb := fun h => by
      rcases hSc g h with h1 | h1
      · omega
      · exact hgS h1
    have hO9 := own_of_terms (by rw [List.length_set]) o4 hLb hg9
    have hLT := ownL_term (t := .mk t.op t.num t.perm (t.kids.set j r)) hP9 hO9 (fun bb h1 h2 => by
      rcases List.mem_cons.1 h2 with h | h
      · exact hPT bb h1 (by rw [h]; exact List.mem_cons_self)
      · rcases hSc bb h with h3 | h3
        · have := hP3.lt bb h1; omega
        · exact hPT bb h1 (List.mem_cons_of_mem _ h3))
    have hlow : ∀ bb ∈ P3 ++ ((g :: Sb) ++ []), W.heap.size ≤ bb := fun bb hbb => by
      rcases List.mem_append.1 hbb with h | h
      · exact hS3 bb (hPs bb h)
      · rw [List.append_nil] at h
        rcases List.mem_cons.1 h with h | h
        · omega
        · rcases hSc bb h with h3 | h3
          · omega
          · exact hS3 bb (hTs bb (List.mem_cons_of_mem _ h3))
    have hL8 := set4_own hLT (R := w.heap.size + 1 + 1) (fun bb hbb => by have := hlow bb hbb; omega) (.int .i64 t.op) (.int .i64 t.num) (.slice A3 t.perm.length c3) (.slice (some ⟨g, 0, none⟩) t.kids.length cap)
    have hbel := set4_below hb9 (show w.heap.size ≤ w.heap.size + 1 + 1 by omega) (.int .i64 t.op) (.int .i64 t.num) (.slice A3 t.perm.length c3) (.slice (some ⟨g, 0, none⟩) t.kids.length cap)
    have hpost : TmOut (.mk t.op t.num t.perm (t.kids.set j r)) w (.returned (.agg #[.int .i64 t.op, .int .i64 t.num, .slice A3 t.perm.length c3, .slice (some ⟨g, 0, none⟩) t.kids.length cap])) _ := ⟨A3, c3, some ⟨g, 0, none⟩, cap, _, by simp only [op_mk, num_mk, perm_mk, kids_mk, List.length_set], by simp only [op_mk, num_mk, perm_mk, kids_mk, List.length_set] at hL8 ⊢; exact hL8, fun bb hbb => by have := hlow bb hbb; omega, hbel⟩
    clear hct hbW hkT hkU hkR hltR hg3 hgW hS3 hb3 hP3 hL hPs hTs hPT hgS hszD h5s h3s o1 o2 o3 o4 y1 y2 y3 y4 hq hk9 hk5 hr9 hbw hWs hb9 hPR hTR hPRs hTRs hPTR hPRb hTRb hPR9 hTR9 hL5 hL9 hP5 hP9 hpr hLa hSa hLb hSb hSc hg9 hO9 hLT hlow hL8 hbel ho5 hbw5 hx5 hb5 hS9 hS9b HA HN HL3 HSD HF HG HS HXS HW m0 m1 m2 m3 m4 m5 m6 m7 m8 m9 m10 p0 p1 p2 p3 p4 p5 p6 p7 p8 p9 p10 s0 s1 s2 s3 s4 s5 s6 s7 s8 s9 s10
    go_wp2
    exact bodyPost_ret (v := .agg #[.int .i64 t.op, .int .i64 t.num, .slice A3 t.perm.length c3, .slice (some ⟨g, 0, none⟩) t.kids.length cap]) (by simp [results, Try.results102, go_sem, r0, r1, r2, r3]) rfl hpost
  · rw [if_neg hc1] at hct
    go_wp2
    go_region_held3 (fun w' => w'.cell? ⟨w3.heap.size, 3, none⟩ = some (.slice (some ⟨g, 0, none⟩) t.kids.length cap) ∧ w'.cell? ⟨bC, offC, none⟩ = some (.int .i64 j) ∧ w'.cell? ⟨w.heap.size, 3, none⟩ = some (.slice (some ⟨b0, off, none⟩) t.kids.length dt) ∧ w'.cell? ⟨b0, off + j * 4, none⟩ = some (.int .i64 k.op) ∧ w'.cell? ⟨b0, off + j * 4 + 1, none⟩ = some (.int .i64 k.num) ∧ w'.cell? ⟨b0, off + j * 4 + 2, none⟩ = some (.slice Ak k.perm.length ck) ∧ w'.cell? ⟨b0, off + j * 4 + 3, none⟩ = some (.slice Bk k.kids.length dk) ∧ w'.cell? ⟨w.heap.size + 1, 0, none⟩ = some (.int .i64 u.op) ∧ w'.cell? ⟨w.heap.size + 1, 1, none⟩ = some (.int .i64 u.num) ∧ w'.cell? ⟨w.heap.size + 1, 2, none⟩ = some (.slice Au u.perm.length cu) ∧ w'.cell? ⟨w.heap.size + 1, 3, none⟩ = some (.slice Bu u.kids.length du))
      (first | (with_reducible exact ⟨by assumption, by assumption, by assumption, by assumption, by assumption, by assumption, by assumption, by assumption, by assumption, by assumption, by assumption⟩) | ((try dsimp only); (with_reducible exact ⟨by assumption, by assumption, by assumption, by assumption, by assumption, by assumption, by assumption, by assumption, by assumption, by assumption, by assumption⟩)) | go_keep)
      (first
        | ((with_reducible refine hct.mono ?_); rintro e w5 ⟨A9, c9, B9, d9, S9, rfl, hS9, hS9b, hb5⟩; obtain ⟨ho5, hk5, hbw5, hx5⟩ := HG.out w5 hb5; obtain ⟨p0, p1, p2, p3, p4, p5, p6, p7, p8, p9, p10⟩ := HF.out w5 hbw5 hk5; obtain ⟨s0, s1, s2, s3, s4, s5, s6, s7, s8, s9, s10⟩ := HS.out w5 hbw5 hk5 (.int .i64 r.op) (.int .i64 r.num) (.slice A9 r.perm.length c9) (.slice B9 r.kids.length d9); have g0 := (ho5.cellAt (j * 4) (by have := ho5.1; omega)).trans HXS.out.1; have g1 := (ho5.cellAt (j * 4 + 1) (by have := ho5.1; omega)).trans HXS.out.2.1; have g2 := (ho5.cellAt (j * 4 + 2) (by have := ho5.1; omega)).trans HXS.out.2.2.1; have g3 := (ho5.cellAt (j * 4 + 3) (by have := ho5.1; omega)).trans HXS.out.2.2.2; have f0 := ho5.frozenAt (j * 4); have f1 := ho5.frozenAt (j * 4 + 1); have f2 := ho5.frozenAt (j * 4 + 2); have f3 := ho5.frozenAt (j * 4 + 3))
        | fail)
    obtain ⟨hbW, hkT, hkU, hkR, hltR⟩ := HA.out
    obtain ⟨hg3, hgW, hS3, hb3⟩ := HN.out
    obtain ⟨hP3, hL, hPs, hTs, hPT, hgS⟩ := HL3.out
    have hszD := HSD.out
    have h5s := hb5.size
    have h3s := hb3.size
    obtain ⟨o1, y1⟩ := ho5.stored (j * 4) (.int .i64 r.op)
    obtain ⟨o2, y2⟩ := o1.stored (j * 4 + 1) (.int .i64 r.num)
    obtain ⟨o3, y3⟩ := o2.stored (j * 4 + 2) (.slice A9 r.perm.length c9)
    obtain ⟨o4, y4⟩ := o3.stored (j * 4 + 3) (.slice B9 r.kids.length d9)
    have hq := grownBy_trans y1 (grownBy_trans y2 (grownBy_trans y3 y4))
    have hk9 := (hq.block w3.heap.size (by omega) (fun e => by injection e with e; omega)).trans hk5
    obtain ⟨t0, t1, t2, t3⟩ := BoxR.row4 hk9
    have hr9 := (hq.block (w.heap.size + 1 + 1) (by omega) (fun e => by injection e with e; omega)).trans ((hbw5.block (w.heap.size + 1 + 1) hltR).trans hkR)
    obtain ⟨r0, r1, r2, r3⟩ := BoxR.row4 hr9
    have z0 := frozen_of_row _ _ 0 _ _ hr9
    have z1 := frozen_of_row _ _ 1 _ _ hr9
    have z2 := frozen_of_row _ _ 2 _ _ hr9
    have z3 := frozen_of_row _ _ 3 _ _ hr9
    have hbw := hbW.trans (hbw5.mono hbW.size)
    have hWs := hbW.size
    have hb9 := hbw.grown hq hbw.size (fun k hk' => by injection hk' with hk'; omega)
    obtain ⟨PR, TR, hPR, hTR, hPRs, hTRs, hPTR⟩ := own_parts4 hS9
    have hPRb : ∀ bb ∈ PR, w3.heap.size < bb := fun bb hbb => by have := hS9b bb (hPRs bb hbb); omega
    have hTRb : ∀ bb ∈ TR, w3.heap.size < bb := fun bb hbb => by have := hS9b bb (hTRs bb hbb); omega
    have hPR9 := hPR.alike (w' := ((((w5.setCell ⟨g, j * 4, none⟩ (.int .i64 r.op)).setCell ⟨g, j * 4 + 1, none⟩ (.int .i64 r.num)).setCell ⟨g, j * 4 + 2, none⟩ (.slice A9 r.perm.length c9)).setCell ⟨g, j * 4 + 3, none⟩ (.slice B9 r.kids.length d9))) (fun bb hbb => hq.block bb (hPR.lt bb hbb) (fun e => by injection e with e; have := hPRb bb hbb; omega))
    have hTR9 := hTR.alike (w' := ((((w5.setCell ⟨g, j * 4, none⟩ (.int .i64 r.op)).setCell ⟨g, j * 4 + 1, none⟩ (.int .i64 r.num)).setCell ⟨g, j * 4 + 2, none⟩ (.slice A9 r.perm.length c9)).setCell ⟨g, j * 4 + 3, none⟩ (.slice B9 r.kids.length d9))) (fun bb hbb => hq.block bb (hTR.lt bb hbb) (fun e => by injection e with e; have := hTRb bb hbb; omega))
    have hL5 := hL.alike (w' := w5) (fun bb hbb => hx5.block bb (hL.lt bb hbb))
    have hL9 := hL5.kept hq (fun bb hbb => by intro e; injection e with e; exact hgS (e ▸ hbb))
    have hP5 := hP3.alike (w' := w5) (fun bb hbb => hx5.block bb (hP3.lt bb hbb))
    have hP9 := hP5.alike (w' := ((((w5.setCell ⟨g, j * 4, none⟩ (.int .i64 r.op)).setCell ⟨g, j * 4 + 1, none⟩ (.int .i64 r.num)).setCell ⟨g, j * 4 + 2, none⟩ (.slice A9 r.perm.length c9)).setCell ⟨g, j * 4 + 3, none⟩ (.slice B9 r.kids.length d9))) (fun bb hbb => hq.block bb (hP5.lt bb hbb) (fun e => by injection e with e; exact hPT bb hbb (by rw [e]; exact List.mem_cons_self)))
    have hpr := encTs_parts (ts := t.kids) (i := j) hj
    obtain ⟨Sa, hLa, hSa⟩ := ((hL9.setCell (j * 4) _ (.int .i64 r.op) hpr.1).setCell (j * 4 + 1) _ (.int .i64 r.num) (by rw [List.getElem?_set_ne (by omega)]; exact hpr.2.1)).swap hPR9 (fun bb h1 h2 => by have h3 := hPRb bb h1; have h4 := hL.lt bb h2; omega) (j * 4 + 2) _ (by rw [List.getElem?_set_ne (by omega), List.getElem?_set_ne (by omega)]; exact hpr.2.2.1)
    obtain ⟨Sb, hLb, hSb⟩ := hLa.swap hTR9 (fun bb h1 h2 => by
      rcases hSa bb h2 with h3 | h3
      · exact hPTR bb h3 h1
      · have h4 := hTRb bb h1; have h5 := hL.lt bb h3; omega) (j * 4 + 3) _ (by rw [List.getElem?_set_ne (by omega), List.getElem?_set_ne (by omega), List.getElem?_set_ne (by omega)]; exact hpr.2.2.2)
    rw [encTs_set hj] at hLb
    have hSc : ∀ bb ∈ Sb, w3.heap.size < bb ∨ bb ∈ S' := fun bb hbb => by
      rcases hSb bb hbb with h | h
      · exact .inl (hTRb bb h)
      · rcases hSa bb h with h2 | h2
        · exact .inl (hPRb bb h2)
        · exact .inr h2
    have hg9 : g ∉ Sb := fun h => by
      rcases hSc g h with h1 | h1
      · omega
      · exact hgS h1
    have hO9 := own_of_terms (by rw [List.length_set]) o4 hLb hg9
    have hLT := ownL_term (t := .mk t.op t.num t.perm (t.kids.set j r)) hP9 hO9 (fun bb h1 h2 => by
      rcases List.mem_cons.1 h2 with h | h
      · exact hPT bb h1 (by rw [h]; exact List.mem_cons_self)
      · rcases hSc bb h with h3 | h3
        · have := hP3.lt bb h1; omega
        · exact hPT bb h1 (List.mem_cons_of_mem _ h3))
    have hlow : ∀ bb ∈ P3 ++ ((g :: Sb) ++ []), W.heap.size ≤ bb := fun bb hbb => by
      rcases List.mem_append.1 hbb with h | h
      · exact hS3 bb (hPs bb h)
      · rw [List.append_nil] at h
        rcases List.mem_cons.1 h with h | h
        · omega
        · rcases hSc bb h with h3 | h3
          · omega
          · exact hS3 bb (hTs bb (List.mem_cons_of_mem _ h3))
    have hL8 := set4_own hLT (R := w.heap.size + 1 + 1) (fun bb hbb => by have := hlow bb hbb; omega) (.int .i64 t.op) (.int .i64 t.num) (.slice A3 t.perm.length c3) (.slice (some ⟨g, 0, none⟩) t.kids.length cap)
    have hbel := set4_below hb9 (show w.heap.size ≤ w.heap.size + 1 + 1 by omega) (.int .i64 t.op) (.int .i64 t.num) (.slice A3 t.perm.length c3) (.slice (some ⟨g, 0, none⟩) t.kids.length cap)
    have hpost : TmOut (.mk t.op t.num t.perm (t.kids.set j r)) w (.returned (.agg #[.int .i64 t.op, .int .i64 t.num, .slice A3 t.perm.length c3, .slice (some ⟨g, 0, none⟩) t.kids.length cap])) _ := ⟨A3, c3, some ⟨g, 0, none⟩, cap, _, by simp only [op_mk, num_mk, perm_mk, kids_mk, List.length_set], by simp only [op_mk, num_mk, perm_mk, kids_mk, List.length_set] at hL8 ⊢; exact hL8, fun bb hbb => by have := hlow bb hbb; omega, hbel⟩
    clear hct hbW hkT hkU hkR hltR hg3 hgW hS3 hb3 hP3 hL hPs hTs hPT hgS hszD h5s h3s o1 o2 o3 o4 y1 y2 y3 y4 hq hk9 hk5 hr9 hbw hWs hb9 hPR hTR hPRs hTRs hPTR hPRb hTRb hPR9 hTR9 hL5 hL9 hP5 hP9 hpr hLa hSa hLb hSb hSc hg9 hO9 hLT hlow hL8 hbel ho5 hbw5 hx5 hb5 hS9 hS9b HA HN HL3 HSD HF HG HS HXS HW m0 m1 m2 m3 m4 m5 m6 m7 m8 m9 m10 p0 p1 p2 p3 p4 p5 p6 p7 p8 p9 p10 s0 s1 s2 s3 s4 s5 s6 s7 s8 s9 s10
    go_wp2
    exact bodyPost_ret (v := .agg #[.int .i64 t.op, .int .i64 t.num, .slice A3 t.perm.length c3, .slice (some ⟨g, 0, none⟩) t.kids.length cap]) (by simp [results, Try.results102, go_sem, r0, r1, r2, r3]) rfl hpost

set_option maxRecDepth 100000 in
set_option maxHeartbeats 4000000 in
theorem put_nil (t u : Tm) (C : Option Addr) (cc : Nat) (xt xu : Value) (w : World) (hxt : TmIn w xt t) (hxu : TmIn w xu u) (hg : goodT u = true) (hsz : szT u ≤ 1048576) :
    Calls Try.prog 102 #[xt, .slice C 0 cc, xu] w (TmOut u w) := by
  have hU := hxu
  obtain ⟨At, ct, kvt, rfl, hp, hk⟩ := hxt
  obtain ⟨Bt, dt, rfl⟩ := hk.form
  obtain ⟨Au, cu, kvu, rfl, hpu, hku⟩ := hxu
  obtain ⟨Bu, du, rfl⟩ := hku.form
  obtain ⟨W, hW⟩ : ∃ W, W = (((w.alloc (.cells #[.int .i64 t.op, .int .i64 t.num, .slice At t.perm.length ct, .slice Bt t.kids.length dt] 31)).alloc (.cells #[.int .i64 u.op, .int .i64 u.num, .slice Au u.perm.length cu, .slice Bu u.kids.length du] 31)).alloc (.cells #[.int .i64 0, .int .i64 0, .slice none 0 0, .slice none 0 0] 31)) := ⟨_, rfl⟩
  have hbW : Below w.heap.size w W := by rw [hW]; exact (((Below.refl _ _).alloc (Nat.le_refl _) _).alloc (by simp) _).alloc (by simp; omega) _
  have hkR : W.heap[w.heap.size + 1 + 1]? = some (.cells #[.int .i64 0, .int .i64 0, .slice none 0 0, .slice none 0 0] 31 (0, 0)) := by
    rw [hW]
    have h := heap_alloc_new ((w.alloc (.cells #[.int .i64 t.op, .int .i64 t.num, .slice At t.perm.length ct, .slice Bt t.kids.length dt] 31)).alloc (.cells #[.int .i64 u.op, .int .i64 u.num, .slice Au u.perm.length cu, .slice Bu u.kids.length du] 31)) (.cells #[.int .i64 0, .int .i64 0, .slice none 0 0, .slice none 0 0] 31)
    rw [World.size_alloc, World.size_alloc] at h
    exact h
  have hltR : w.heap.size + 1 + 1 < W.heap.size := BoxR.box_lt hkR
  have hcp := l2Copy_any u hg hsz _ W (hU.below hbW)
  have HW := Lib.hid hW
  have HA := Lib.hid (And.intro hbW (And.intro hkR hltR))
  clear hU hp hk hpu hku hW hbW hkR hltR hg hsz
  go_enter Try.func102, Try.ntmps102
  go_wp2_with fail
  rw [← HW.out]
  refine hcp.mono ?_
  rintro e w5 ⟨A6, c6, B6, d6, S6, rfl, hL6, hS6, hb5⟩
  obtain ⟨hbW, hkR, hltR⟩ := HA.out
  have hres := (hb5.block (w.heap.size + 1 + 1) hltR).trans hkR
  obtain ⟨r0, r1, r2, r3⟩ := BoxR.row4 hres
  have z0 := frozen_of_row _ _ 0 _ _ hres
  have z1 := frozen_of_row _ _ 1 _ _ hres
  have z2 := frozen_of_row _ _ 2 _ _ hres
  have z3 := frozen_of_row _ _ 3 _ _ hres
  have hws := hbW.size
  have hL8 := set4_own hL6 (R := w.heap.size + 1 + 1) (fun b hb => by have := hS6 b hb; omega) (.int .i64 u.op) (.int .i64 u.num) (.slice A6 u.perm.length c6) (.slice B6 u.kids.length d6)
  have hbel := set4_below (hbW.trans (hb5.mono hbW.size)) (show w.heap.size ≤ w.heap.size + 1 + 1 by omega) (.int .i64 u.op) (.int .i64 u.num) (.slice A6 u.perm.length c6) (.slice B6 u.kids.length d6)
  have hpost : TmOut u w (.returned (.agg #[.int .i64 u.op, .int .i64 u.num, .slice A6 u.perm.length c6, .slice B6 u.kids.length d6])) _ := ⟨A6, c6, B6, d6, S6, rfl, hL8, fun b hb => by have := hS6 b hb; omega, hbel⟩
  clear hcp hL6 hS6 hb5 hbW hkR hltR hres hws hL8 hbel HA HW
  go_wp2
  exact bodyPost_ret (v := .agg #[.int .i64 u.op, .int .i64 u.num, .slice A6 u.perm.length c6, .slice B6 u.kids.length d6]) (by simp [results, Try.results102, go_sem, r0, r1, r2, r3]) rfl hpost

theorem good_kid {ts : List Tm} {i : Nat} (h : goodTs ts = true) (hi : i < ts.length) : goodT (tmAt ts i) = true := by
  induction ts generalizing i with
  | nil => simp at hi
  | cons t r ih =>
    rw [goodTs, Bool.and_eq_true] at h
    cases i with
    | zero => exact h.1
    | succ i => rw [tmAt_cons_succ]; exact ih h.2 (by simpa using hi)

theorem good_kids {t : Tm} (h : goodT t = true) : goodTs t.kids = true := by
  cases t with
  | mk o n p ks =>
    rw [goodT] at h
    simp only [Bool.and_eq_true] at h
    exact h.2

theorem l5Put_any : ∀ (l : List Int) (t u : Tm) (C : Option Addr) (cc : Nat) (xt xu : Value) (w : World), TmIn w xt t → TmIn w xu u → goodT t = true → szT t ≤ 1048576 → Fit t → goodT u = true → szT u ≤ 1048576 → (∃ v, walkP t l = some v) → IntsAt w C l → l.length ≤ cc →
    Calls Try.prog 102 #[xt, .slice C l.length cc, xu] w (TmOut (putT t l u) w)
  | [], t, u, C, cc, xt, xu, w, hxt, hxu, hg, hs, hf, hgu, hsu, hv, hC, hcc => by
    rw [putT]
    exact put_nil t u C cc xt xu w hxt hxu hgu hsu
  | i :: r, t, u, C, cc, xt, xu, w, hxt, hxu, hg, hs, hf, hgu, hsu, hv, hC, hcc => by
    obtain ⟨v, hv⟩ := hv
    rw [walkP] at hv
    split at hv
    · rename_i hi
      obtain ⟨j, rfl⟩ : ∃ j : Nat, i = (j : Int) := ⟨i.toNat, by omega⟩
      rw [Int.toNat_natCast] at hv
      have hj : j < t.kids.length := by omega
      obtain ⟨b, off, rfl, hbl, hcell⟩ := hC (by simp)
      rw [putT, Int.toNat_natCast]
      have hk := szT_at hj
      rw [szT_eq] at hs
      refine put_cons t u (putT (tmAt t.kids j) r u) j (r.length + 1) b off cc xt xu w hxt hxu hg (by rw [szT_eq]; omega) hj ((fit_eq t).1 hf).2.1 (by omega) hcc hbl (hcell 0 (by simp)) (fun w' x y hb hx hy => ?_)
      refine l5Put_any r (tmAt t.kids j) u _ (cc - 1) x y w' hx hy (good_kid (good_kids hg) hj) (by omega) (fits_at ((fit_eq t).1 hf).2.2 hj) hgu hsu ⟨v, hv⟩ (fun hr => ?_) (by simp at hcc; omega)
      rw [if_neg (by simp at hcc; omega)]
      refine ⟨b, off + 1, rfl, Nat.lt_of_lt_of_le hbl hb.size, fun k hk => ?_⟩
      have h := (hb.cell (p := ⟨b, off + (k + 1), none⟩) hbl).trans (hcell (k + 1) (by simp; omega))
      rw [show off + (k + 1) = off + 1 + k by omega] at h
      exact h
    · cases hv

end Go.Proofs.Ytnomidnjglbedaa
end

section
namespace Go.Proofs.Ytnomidnjglbedaa
open Go.RowKit Go.Sort Go.ChangeShapes Go.WideShapes
set_option linter.unusedVariables false

/-- Whether a term can be put at a path. -/
def putB (t : Tm) (l : List Int) (u : Tm) : Bool := atB t l && (isTermB u && isTermB (putT t l u))
theorem at_is {t : Tm} {l : List Int} (h : atB t l = true) : isTermB t = true := by
  unfold atB at h
  simp only [Bool.and_eq_true] at h
  exact h.1
theorem at_walk {t : Tm} {l : List Int} (h : atB t l = true) : ∃ v, walkP t l = some v := by
  unfold atB at h
  simp only [Bool.and_eq_true] at h
  exact Option.isSome_iff_exists.1 h.2
theorem sum_set : ∀ (ks : List Tm) (j : Nat) (r : Tm), sumT (ks.set j r) + cntT (tmAt ks j) ≤ sumT ks + cntT r
  | [], j, r => by simp [tmAt, tm0, cntT, sumT]
  | t :: k, 0, r => by rw [List.set_cons_zero, tmAt_cons_zero, sumT, sumT]; omega
  | t :: k, j + 1, r => by
    have := sum_set k j r
    rw [List.set_cons_succ, tmAt_cons_succ, sumT, sumT]; omega
theorem cnt_put : ∀ (l : List Int) (t u : Tm), cntT (putT t l u) ≤ cntT t + cntT u
  | [], t, u => by rw [putT]; omega
  | i :: l, t, u => by
    have h1 := cnt_put l (tmAt t.kids i.toNat) u
    have h2 := sum_set t.kids i.toNat (putT (tmAt t.kids i.toNat) l u)
    rw [putT, cntT_eq, cntT_eq t]
    simp only [perm_mk, kids_mk, List.length_set]
    omega

set_option maxRecDepth 100000 in
set_option maxHeartbeats 8000000 in
/-- PutAt of the model. -/
theorem putAt_spec (t u : Tm) (l : List Int) (C : Option Addr) (cc : Nat) (xt xu : Value) (w : World) (hxt : TmIn w xt t) (hxu : TmIn w xu u) (hC : IntsAt w C l) (hll : l.length ≤ 1099511627776) (hcc : l.length ≤ cc) (hct : cntT t ≤ 1048576) (hcu : cntT u ≤ 1048576) :
    Calls Try.prog 57 #[xt, .slice C l.length cc, xu] w (TmOutB (orT (putT t l u) (putB t l u)) (putB t l u) w) := by
  have hXt := hxt
  obtain ⟨At, ct, kvt, rfl, hpt, hkt⟩ := hxt
  obtain ⟨Bt, dt, rfl⟩ := hkt.form
  have hXu := hxu
  obtain ⟨Au, cu, kvu, rfl, hpu, hku⟩ := hxu
  obtain ⟨Bu, du, rfl⟩ := hku.form
  have hb0 : Below w.heap.size w (((w.alloc (.cells #[.int .i64 t.op, .int .i64 t.num, .slice At t.perm.length ct, .slice Bt t.kids.length dt] 31)).alloc (.cells #[.int .i64 u.op, .int .i64 u.num, .slice Au u.perm.length cu, .slice Bu u.kids.length du] 31)).alloc (.cells #[.int .i64 0, .int .i64 0, .slice none 0 0, .slice none 0 0] 31)) := ((((Below.refl _ w).alloc (by first | exact Nat.le_refl _ | (simp; done) | (simp; omega)) _).alloc (by first | exact Nat.le_refl _ | (simp; done) | (simp; omega)) _).alloc (by first | exact Nat.le_refl _ | (simp; done) | (simp; omega)) _)
  have hsz : (((w.alloc (.cells #[.int .i64 t.op, .int .i64 t.num, .slice At t.perm.length ct, .slice Bt t.kids.length dt] 31)).alloc (.cells #[.int .i64 u.op, .int .i64 u.num, .slice Au u.perm.length cu, .slice Bu u.kids.length du] 31)).alloc (.cells #[.int .i64 0, .int .i64 0, .slice none 0 0, .slice none 0 0] 31)).heap.size = w.heap.size + 3 := by simp
  have kkt : (((w.alloc (.cells #[.int .i64 t.op, .int .i64 t.num, .slice At t.perm.length ct, .slice Bt t.kids.length dt] 31)).alloc (.cells #[.int .i64 u.op, .int .i64 u.num, .slice Au u.perm.length cu, .slice Bu u.kids.length du] 31)).alloc (.cells #[.int .i64 0, .int .i64 0, .slice none 0 0, .slice none 0 0] 31)).heap[w.heap.size]? = some (.cells #[.int .i64 t.op, .int .i64 t.num, .slice At t.perm.length ct, .slice Bt t.kids.length dt] 31 (0, 0)) := by
    have h := heap_alloc_new w (.cells #[.int .i64 t.op, .int .i64 t.num, .slice At t.perm.length ct, .slice Bt t.kids.length dt] 31)
    exact ((Below.heap_alloc _ _ _ (by first | (simp; done) | (simp; omega))).trans ((Below.heap_alloc _ _ _ (by first | (simp; done) | (simp; omega))).trans h))
  have kku : (((w.alloc (.cells #[.int .i64 t.op, .int .i64 t.num, .slice At t.perm.length ct, .slice Bt t.kids.length dt] 31)).alloc (.cells #[.int .i64 u.op, .int .i64 u.num, .slice Au u.perm.length cu, .slice Bu u.kids.length du] 31)).alloc (.cells #[.int .i64 0, .int .i64 0, .slice none 0 0, .slice none 0 0] 31)).heap[w.heap.size + 1]? = some (.cells #[.int .i64 u.op, .int .i64 u.num, .slice Au u.perm.length cu, .slice Bu u.kids.length du] 31 (0, 0)) := by
    have h := heap_alloc_new (w.alloc (.cells #[.int .i64 t.op, .int .i64 t.num, .slice At t.perm.length ct, .slice Bt t.kids.length dt] 31)) (.cells #[.int .i64 u.op, .int .i64 u.num, .slice Au u.perm.length cu, .slice Bu u.kids.length du] 31)
    simp only [World.size_alloc] at h
    exact ((Below.heap_alloc _ _ _ (by first | (simp; done) | (simp; omega))).trans h)
  have kkR : (((w.alloc (.cells #[.int .i64 t.op, .int .i64 t.num, .slice At t.perm.length ct, .slice Bt t.kids.length dt] 31)).alloc (.cells #[.int .i64 u.op, .int .i64 u.num, .slice Au u.perm.length cu, .slice Bu u.kids.length du] 31)).alloc (.cells #[.int .i64 0, .int .i64 0, .slice none 0 0, .slice none 0 0] 31)).heap[w.heap.size + 2]? = some (.cells #[.int .i64 0, .int .i64 0, .slice none 0 0, .slice none 0 0] 31 (0, 0)) := by
    have h := heap_alloc_new ((w.alloc (.cells #[.int .i64 t.op, .int .i64 t.num, .slice At t.perm.length ct, .slice Bt t.kids.length dt] 31)).alloc (.cells #[.int .i64 u.op, .int .i64 u.num, .slice Au u.perm.length cu, .slice Bu u.kids.length du] 31)) (.cells #[.int .i64 0, .int .i64 0, .slice none 0 0, .slice none 0 0] 31)
    simp only [World.size_alloc] at h
    exact h
  have HSZ := Lib.hid hsz
  have HCt := Lib.hid (fun (w' : World) (h : Below (((w.alloc (.cells #[.int .i64 t.op, .int .i64 t.num, .slice At t.perm.length ct, .slice Bt t.kids.length dt] 31)).alloc (.cells #[.int .i64 u.op, .int .i64 u.num, .slice Au u.perm.length cu, .slice Bu u.kids.length du] 31)).alloc (.cells #[.int .i64 0, .int .i64 0, .slice none 0 0, .slice none 0 0] 31)).heap.size (((w.alloc (.cells #[.int .i64 t.op, .int .i64 t.num, .slice At t.perm.length ct, .slice Bt t.kids.length dt] 31)).alloc (.cells #[.int .i64 u.op, .int .i64 u.num, .slice Au u.perm.length cu, .slice Bu u.kids.length du] 31)).alloc (.cells #[.int .i64 0, .int .i64 0, .slice none 0 0, .slice none 0 0] 31)) w') => BoxR.row4 ((h.block (w.heap.size) (by rw [hsz]; omega)).trans kkt))
  have HIt : Hid (∀ w' : World, Below (((w.alloc (.cells #[.int .i64 t.op, .int .i64 t.num, .slice At t.perm.length ct, .slice Bt t.kids.length dt] 31)).alloc (.cells #[.int .i64 u.op, .int .i64 u.num, .slice Au u.perm.length cu, .slice Bu u.kids.length du] 31)).alloc (.cells #[.int .i64 0, .int .i64 0, .slice none 0 0, .slice none 0 0] 31)).heap.size (((w.alloc (.cells #[.int .i64 t.op, .int .i64 t.num, .slice At t.perm.length ct, .slice Bt t.kids.length dt] 31)).alloc (.cells #[.int .i64 u.op, .int .i64 u.num, .slice Au u.perm.length cu, .slice Bu u.kids.length du] 31)).alloc (.cells #[.int .i64 0, .int .i64 0, .slice none 0 0, .slice none 0 0] 31)) w' → TmIn w' (.agg #[.int .i64 t.op, .int .i64 t.num, .slice At t.perm.length ct, .slice Bt t.kids.length dt]) t) := Lib.hid (fun w' h => hXt.below (hb0.trans (h.mono hb0.size)))
  have HCu := Lib.hid (fun (w' : World) (h : Below (((w.alloc (.cells #[.int .i64 t.op, .int .i64 t.num, .slice At t.perm.length ct, .slice Bt t.kids.length dt] 31)).alloc (.cells #[.int .i64 u.op, .int .i64 u.num, .slice Au u.perm.length cu, .slice Bu u.kids.length du] 31)).alloc (.cells #[.int .i64 0, .int .i64 0, .slice none 0 0, .slice none 0 0] 31)).heap.size (((w.alloc (.cells #[.int .i64 t.op, .int .i64 t.num, .slice At t.perm.length ct, .slice Bt t.kids.length dt] 31)).alloc (.cells #[.int .i64 u.op, .int .i64 u.num, .slice Au u.perm.length cu, .slice Bu u.kids.length du] 31)).alloc (.cells #[.int .i64 0, .int .i64 0, .slice none 0 0, .slice none 0 0] 31)) w') => BoxR.row4 ((h.block (w.heap.size + 1) (by rw [hsz]; omega)).trans kku))
  have HIu : Hid (∀ w' : World, Below (((w.alloc (.cells #[.int .i64 t.op, .int .i64 t.num, .slice At t.perm.length ct, .slice Bt t.kids.length dt] 31)).alloc (.cells #[.int .i64 u.op, .int .i64 u.num, .slice Au u.perm.length cu, .slice Bu u.kids.length du] 31)).alloc (.cells #[.int .i64 0, .int .i64 0, .slice none 0 0, .slice none 0 0] 31)).heap.size (((w.alloc (.cells #[.int .i64 t.op, .int .i64 t.num, .slice At t.perm.length ct, .slice Bt t.kids.length dt] 31)).alloc (.cells #[.int .i64 u.op, .int .i64 u.num, .slice Au u.perm.length cu, .slice Bu u.kids.length du] 31)).alloc (.cells #[.int .i64 0, .int .i64 0, .slice none 0 0, .slice none 0 0] 31)) w' → TmIn w' (.agg #[.int .i64 u.op, .int .i64 u.num, .slice Au u.perm.length cu, .slice Bu u.kids.length du]) u) := Lib.hid (fun w' h => hXu.below (hb0.trans (h.mono hb0.size)))
  have HR := Lib.hid (fun (w' : World) (h : Below (((w.alloc (.cells #[.int .i64 t.op, .int .i64 t.num, .slice At t.perm.length ct, .slice Bt t.kids.length dt] 31)).alloc (.cells #[.int .i64 u.op, .int .i64 u.num, .slice Au u.perm.length cu, .slice Bu u.kids.length du] 31)).alloc (.cells #[.int .i64 0, .int .i64 0, .slice none 0 0, .slice none 0 0] 31)).heap.size (((w.alloc (.cells #[.int .i64 t.op, .int .i64 t.num, .slice At t.perm.length ct, .slice Bt t.kids.length dt] 31)).alloc (.cells #[.int .i64 u.op, .int .i64 u.num, .slice Au u.perm.length cu, .slice Bu u.kids.length du] 31)).alloc (.cells #[.int .i64 0, .int .i64 0, .slice none 0 0, .slice none 0 0] 31)) w') => (h.block (w.heap.size + 2) (by rw [hsz]; omega)).trans kkR)
  have HB0 := Lib.hid hb0
  clear hsz hb0 kkR hXt hpt hkt kkt hXu hpu hku kku
  have HCC := Lib.hid hC
  have HTA := Lib.hid (fun (W : World) (h : Below (((w.alloc (.cells #[.int .i64 t.op, .int .i64 t.num, .slice At t.perm.length ct, .slice Bt t.kids.length dt] 31)).alloc (.cells #[.int .i64 u.op, .int .i64 u.num, .slice Au u.perm.length cu, .slice Bu u.kids.length du] 31)).alloc (.cells #[.int .i64 0, .int .i64 0, .slice none 0 0, .slice none 0 0] 31)).heap.size (((w.alloc (.cells #[.int .i64 t.op, .int .i64 t.num, .slice At t.perm.length ct, .slice Bt t.kids.length dt] 31)).alloc (.cells #[.int .i64 u.op, .int .i64 u.num, .slice Au u.perm.length cu, .slice Bu u.kids.length du] 31)).alloc (.cells #[.int .i64 0, .int .i64 0, .slice none 0 0, .slice none 0 0] 31)) W) => termAt_spec t l C cc _ W (HIt.out W h) (HCC.out.below (HB0.out.trans (h.mono HB0.out.size))) hll hct)
  have HIU := Lib.hid (fun (W : World) (h : Below (((w.alloc (.cells #[.int .i64 t.op, .int .i64 t.num, .slice At t.perm.length ct, .slice Bt t.kids.length dt] 31)).alloc (.cells #[.int .i64 u.op, .int .i64 u.num, .slice Au u.perm.length cu, .slice Bu u.kids.length du] 31)).alloc (.cells #[.int .i64 0, .int .i64 0, .slice none 0 0, .slice none 0 0] 31)).heap.size (((w.alloc (.cells #[.int .i64 t.op, .int .i64 t.num, .slice At t.perm.length ct, .slice Bt t.kids.length dt] 31)).alloc (.cells #[.int .i64 u.op, .int .i64 u.num, .slice Au u.perm.length cu, .slice Bu u.kids.length du] 31)).alloc (.cells #[.int .i64 0, .int .i64 0, .slice none 0 0, .slice none 0 0] 31)) W) => isTerm_spec u _ W (HIu.out W h) hcu)
  clear hC
  cases h0 : atB t l with
  | false =>
    have HT := Lib.hid (show putB t l u = false by simp [putB, h0])
    go_enter Try.func57, Try.ntmps57
    have hg := HTA.out (((w.alloc (.cells #[.int .i64 t.op, .int .i64 t.num, .slice At t.perm.length ct, .slice Bt t.kids.length dt] 31)).alloc (.cells #[.int .i64 u.op, .int .i64 u.num, .slice Au u.perm.length cu, .slice Bu u.kids.length du] 31)).alloc (.cells #[.int .i64 0, .int .i64 0, .slice none 0 0, .slice none 0 0] 31)) (Below.refl _ _)
    rw [h0] at hg
    generalize orT (atR t l) _ = q at hg
    go_wp2_with fail
    refine hg.mono ?_
    rintro e g0 ⟨Aq, cq, Bq, dq, Sq, rfl, hLq, hSq, hb0⟩
    have hw0 : Below (((w.alloc (.cells #[.int .i64 t.op, .int .i64 t.num, .slice At t.perm.length ct, .slice Bt t.kids.length dt] 31)).alloc (.cells #[.int .i64 u.op, .int .i64 u.num, .slice Au u.perm.length cu, .slice Bu u.kids.length du] 31)).alloc (.cells #[.int .i64 0, .int .i64 0, .slice none 0 0, .slice none 0 0] 31)).heap.size (((w.alloc (.cells #[.int .i64 t.op, .int .i64 t.num, .slice At t.perm.length ct, .slice Bt t.kids.length dt] 31)).alloc (.cells #[.int .i64 u.op, .int .i64 u.num, .slice Au u.perm.length cu, .slice Bu u.kids.length du] 31)).alloc (.cells #[.int .i64 0, .int .i64 0, .slice none 0 0, .slice none 0 0] 31)) (g0.alloc (.cells #[.int .i64 q.op, .int .i64 q.num, .slice Aq q.perm.length cq, .slice Bq q.kids.length dq] 31)) := hb0.alloc hb0.size _
    have hq0 : w.heap.size + 3 ≤ (g0.alloc (.cells #[.int .i64 q.op, .int .i64 q.num, .slice Aq q.perm.length cq, .slice Bq q.kids.length dq] 31)).heap.size := by have h := hw0.size; rw [HSZ.out] at h; exact h
    clear hg hLq hSq hb0 
    have hres := HR.out (g0.alloc (.cells #[.int .i64 q.op, .int .i64 q.num, .slice Aq q.perm.length cq, .slice Bq q.kids.length dq] 31)) hw0
    obtain ⟨r0, r1, r2, r3⟩ := BoxR.row4 hres
    have z0 := frozen_of_row _ _ 0 _ _ hres
    have z1 := frozen_of_row _ _ 1 _ _ hres
    have z2 := frozen_of_row _ _ 2 _ _ hres
    have z3 := frozen_of_row _ _ 3 _ _ hres
    have hbz := HB0.out.trans (hw0.mono HB0.out.size)
    have hpost : TmOutB tm0 false w (.returned (.tuple #[.agg #[.int .i64 0, .int .i64 0, .slice none 0 0, .slice none 0 0], .bool false])) (((((g0.alloc (.cells #[.int .i64 q.op, .int .i64 q.num, .slice Aq q.perm.length cq, .slice Bq q.kids.length dq] 31)).setCell ⟨w.heap.size + 2, 0, none⟩ (.int .i64 0)).setCell ⟨w.heap.size + 2, 1, none⟩ (.int .i64 0)).setCell ⟨w.heap.size + 2, 2, none⟩ (.slice none 0 0)).setCell ⟨w.heap.size + 2, 3, none⟩ (.slice none 0 0)) :=
      ⟨none, 0, none, 0, _, rfl, own_four own_none own_nokids (fun b hb => by simp at hb), fun b hb => by simp at hb, set4_below hbz (by omega) _ _ _ _⟩
    clear hres hbz HR HB0 HSZ HCt HIt HCu HIu hct hcu hll hcc h0 HCC HTA HIU 
    go_wp2
    exact bodyPost_ret (v := .tuple #[.agg #[.int .i64 0, .int .i64 0, .slice none 0 0, .slice none 0 0], .bool false]) (by simp [results, Try.results57, go_sem, r0, r1, r2, r3]) rfl (by rw [HT.out, orT_no]; exact hpost)
  | true =>
    cases h1 : isTermB u with
    | false =>
      have HT := Lib.hid (show putB t l u = false by simp [putB, h0, h1])
      go_enter Try.func57, Try.ntmps57
      have hg := HTA.out (((w.alloc (.cells #[.int .i64 t.op, .int .i64 t.num, .slice At t.perm.length ct, .slice Bt t.kids.length dt] 31)).alloc (.cells #[.int .i64 u.op, .int .i64 u.num, .slice Au u.perm.length cu, .slice Bu u.kids.length du] 31)).alloc (.cells #[.int .i64 0, .int .i64 0, .slice none 0 0, .slice none 0 0] 31)) (Below.refl _ _)
      rw [h0] at hg
      generalize orT (atR t l) _ = q at hg
      go_wp2_with fail
      refine hg.mono ?_
      rintro e g0 ⟨Aq, cq, Bq, dq, Sq, rfl, hLq, hSq, hb0⟩
      have hw0 : Below (((w.alloc (.cells #[.int .i64 t.op, .int .i64 t.num, .slice At t.perm.length ct, .slice Bt t.kids.length dt] 31)).alloc (.cells #[.int .i64 u.op, .int .i64 u.num, .slice Au u.perm.length cu, .slice Bu u.kids.length du] 31)).alloc (.cells #[.int .i64 0, .int .i64 0, .slice none 0 0, .slice none 0 0] 31)).heap.size (((w.alloc (.cells #[.int .i64 t.op, .int .i64 t.num, .slice At t.perm.length ct, .slice Bt t.kids.length dt] 31)).alloc (.cells #[.int .i64 u.op, .int .i64 u.num, .slice Au u.perm.length cu, .slice Bu u.kids.length du] 31)).alloc (.cells #[.int .i64 0, .int .i64 0, .slice none 0 0, .slice none 0 0] 31)) (g0.alloc (.cells #[.int .i64 q.op, .int .i64 q.num, .slice Aq q.perm.length cq, .slice Bq q.kids.length dq] 31)) := hb0.alloc hb0.size _
      have hq0 : w.heap.size + 3 ≤ (g0.alloc (.cells #[.int .i64 q.op, .int .i64 q.num, .slice Aq q.perm.length cq, .slice Bq q.kids.length dq] 31)).heap.size := by have h := hw0.size; rw [HSZ.out] at h; exact h
      clear hg hLq hSq hb0 
      obtain ⟨e1t0, e1t1, e1t2, e1t3⟩ := HCt.out (g0.alloc (.cells #[.int .i64 q.op, .int .i64 q.num, .slice Aq q.perm.length cq, .slice Bq q.kids.length dq] 31)) hw0
      obtain ⟨e1u0, e1u1, e1u2, e1u3⟩ := HCu.out (g0.alloc (.cells #[.int .i64 q.op, .int .i64 q.num, .slice Aq q.perm.length cq, .slice Bq q.kids.length dq] 31)) hw0
      have hg := HIU.out (g0.alloc (.cells #[.int .i64 q.op, .int .i64 q.num, .slice Aq q.perm.length cq, .slice Bq q.kids.length dq] 31)) hw0
      rw [h1] at hg
      go_wp2_with fail
      refine hg.mono ?_
      rintro e g1 ⟨rfl, hb1⟩
      have hw1 := hw0.trans (hb1.mono hw0.size)
      clear hg e1t0 e1t1 e1t2 e1t3 e1u0 e1u1 e1u2 e1u3
      have hq1 : w.heap.size + 3 ≤ g1.heap.size := by have h := hw1.size; rw [HSZ.out] at h; exact h
      have hres := HR.out g1 hw1
      obtain ⟨r0, r1, r2, r3⟩ := BoxR.row4 hres
      have z0 := frozen_of_row _ _ 0 _ _ hres
      have z1 := frozen_of_row _ _ 1 _ _ hres
      have z2 := frozen_of_row _ _ 2 _ _ hres
      have z3 := frozen_of_row _ _ 3 _ _ hres
      have hbz := HB0.out.trans (hw1.mono HB0.out.size)
      have hpost : TmOutB tm0 false w (.returned (.tuple #[.agg #[.int .i64 0, .int .i64 0, .slice none 0 0, .slice none 0 0], .bool false])) ((((g1.setCell ⟨w.heap.size + 2, 0, none⟩ (.int .i64 0)).setCell ⟨w.heap.size + 2, 1, none⟩ (.int .i64 0)).setCell ⟨w.heap.size + 2, 2, none⟩ (.slice none 0 0)).setCell ⟨w.heap.size + 2, 3, none⟩ (.slice none 0 0)) :=
        ⟨none, 0, none, 0, _, rfl, own_four own_none own_nokids (fun b hb => by simp at hb), fun b hb => by simp at hb, set4_below hbz (by omega) _ _ _ _⟩
      clear hres hbz HR HB0 HSZ HCt HIt HCu HIu hct hcu hll hcc h0 h1 hw0 hq0 HCC HTA HIU 
      go_wp2
      exact bodyPost_ret (v := .tuple #[.agg #[.int .i64 0, .int .i64 0, .slice none 0 0, .slice none 0 0], .bool false]) (by simp [results, Try.results57, go_sem, r0, r1, r2, r3]) rfl (by rw [HT.out, orT_no]; exact hpost)
    | true =>
      have HT := Lib.hid (show putB t l u = isTermB (putT t l u) by simp [putB, h0, h1])
      have htt := at_is h0
      have hwk := at_walk h0
      have hst := term_size htt
      have hsu := term_size h1
      have hcp : cntT (putT t l u) ≤ 1048576 := by have e1 := cnt_put l t u; have e2 := cnt_term htt; have e3 := cnt_term h1; omega
      have HPT := Lib.hid (fun (W : World) (x y : Value) (hx : TmIn W x t) (hy : TmIn W y u) (hW : IntsAt W C l) => l5Put_any l t u C cc x y W hx hy (term_good htt) (by omega) (fit_of t hct) (term_good h1) (by omega) hwk hW hcc)
      have HIS := Lib.hid (fun (W : World) (y : Value) (hW : TmIn W y (putT t l u)) => isTerm_spec (putT t l u) y W hW hcp)
      generalize putB t l u = bb at *
      generalize putT t l u = r0 at *
      obtain ⟨r, rfl⟩ : ∃ r, r = r0 := ⟨_, rfl⟩
      clear htt hwk hst hsu hcp
      go_enter Try.func57, Try.ntmps57
      have hg := HTA.out (((w.alloc (.cells #[.int .i64 t.op, .int .i64 t.num, .slice At t.perm.length ct, .slice Bt t.kids.length dt] 31)).alloc (.cells #[.int .i64 u.op, .int .i64 u.num, .slice Au u.perm.length cu, .slice Bu u.kids.length du] 31)).alloc (.cells #[.int .i64 0, .int .i64 0, .slice none 0 0, .slice none 0 0] 31)) (Below.refl _ _)
      rw [h0] at hg
      generalize orT (atR t l) _ = q at hg
      go_wp2_with fail
      refine hg.mono ?_
      rintro e g0 ⟨Aq, cq, Bq, dq, Sq, rfl, hLq, hSq, hb0⟩
      have hw0 : Below (((w.alloc (.cells #[.int .i64 t.op, .int .i64 t.num, .slice At t.perm.length ct, .slice Bt t.kids.length dt] 31)).alloc (.cells #[.int .i64 u.op, .int .i64 u.num, .slice Au u.perm.length cu, .slice Bu u.kids.length du] 31)).alloc (.cells #[.int .i64 0, .int .i64 0, .slice none 0 0, .slice none 0 0] 31)).heap.size (((w.alloc (.cells #[.int .i64 t.op, .int .i64 t.num, .slice At t.perm.length ct, .slice Bt t.kids.length dt] 31)).alloc (.cells #[.int .i64 u.op, .int .i64 u.num, .slice Au u.perm.length cu, .slice Bu u.kids.length du] 31)).alloc (.cells #[.int .i64 0, .int .i64 0, .slice none 0 0, .slice none 0 0] 31)) (g0.alloc (.cells #[.int .i64 q.op, .int .i64 q.num, .slice Aq q.perm.length cq, .slice Bq q.kids.length dq] 31)) := hb0.alloc hb0.size _
      have hq0 : w.heap.size + 3 ≤ (g0.alloc (.cells #[.int .i64 q.op, .int .i64 q.num, .slice Aq q.perm.length cq, .slice Bq q.kids.length dq] 31)).heap.size := by have h := hw0.size; rw [HSZ.out] at h; exact h
      clear hg hLq hSq hb0 
      obtain ⟨e1t0, e1t1, e1t2, e1t3⟩ := HCt.out (g0.alloc (.cells #[.int .i64 q.op, .int .i64 q.num, .slice Aq q.perm.length cq, .slice Bq q.kids.length dq] 31)) hw0
      obtain ⟨e1u0, e1u1, e1u2, e1u3⟩ := HCu.out (g0.alloc (.cells #[.int .i64 q.op, .int .i64 q.num, .slice Aq q.perm.length cq, .slice Bq q.kids.length dq] 31)) hw0
      have hg := HIU.out (g0.alloc (.cells #[.int .i64 q.op, .int .i64 q.num, .slice Aq q.perm.length cq, .slice Bq q.kids.length dq] 31)) hw0
      rw [h1] at hg
      go_wp2_with fail
      refine hg.mono ?_
      rintro e g1 ⟨rfl, hb1⟩
      have hw1 := hw0.trans (hb1.mono hw0.size)
      clear hg e1t0 e1t1 e1t2 e1t3 e1u0 e1u1 e1u2 e1u3
      have hq1 : w.heap.size + 3 ≤ g1.heap.size := by have h := hw1.size; rw [HSZ.out] at h; exact h
      clear h0 h1 hct hcu hll hcc hw0 hq0 HTA HIU
      obtain ⟨e2t0, e2t1, e2t2, e2t3⟩ := HCt.out g1 hw1
      obtain ⟨e2u0, e2u1, e2u2, e2u3⟩ := HCu.out g1 hw1
      have hy0 := HPT.out g1 _ _ (HIt.out g1 hw1) (HIu.out g1 hw1) (HCC.out.below (HB0.out.trans (hw1.mono HB0.out.size)))
      go_wp2_with fail
      refine hy0.mono ?_
      rintro e w4 ⟨A6, c6, B6, d6, S6, rfl, hL6, hS6, hb4⟩
      have hbx : Below w4.heap.size w4 (w4.alloc (.cells #[.int .i64 r.op, .int .i64 r.num, .slice A6 r.perm.length c6, .slice B6 r.kids.length d6] 31)) := (Below.refl _ _).alloc (Nat.le_refl _) _
      have hit := HIS.out (w4.alloc (.cells #[.int .i64 r.op, .int .i64 r.num, .slice A6 r.perm.length c6, .slice B6 r.kids.length d6] 31)) _ ((tm_box hL6).below hbx)
      have hw4 := hw1.trans (hb4.mono hw1.size)
      have hq4 : w.heap.size + 3 ≤ g1.heap.size := by have h := hw1.size; rw [HSZ.out] at h; exact h
      have hS9 : ∀ b ∈ S6, w.heap.size + 3 ≤ b := fun b hb => Nat.le_trans hq4 (hS6 b hb)
      clear hy0 hS6 e2t0 e2t1 e2t2 e2t3 e2u0 e2u1 e2u2 e2u3
      cases hit6 : isTermB r with
      | false =>
        rw [hit6] at hit
        have HT6 := Lib.hid hit6
        clear hit6
        go_wp2_with fail
        refine hit.mono ?_
        rintro e w6 ⟨rfl, hb6⟩
        have hw6 := hw4.trans ((hbx.trans (hb6.mono hbx.size)).mono hw4.size)
        have hres := HR.out w6 hw6
        obtain ⟨r0, r1, r2, r3⟩ := BoxR.row4 hres
        have z0 := frozen_of_row _ _ 0 _ _ hres
        have z1 := frozen_of_row _ _ 1 _ _ hres
        have z2 := frozen_of_row _ _ 2 _ _ hres
        have z3 := frozen_of_row _ _ 3 _ _ hres
        have hbz := HB0.out.trans (hw6.mono HB0.out.size)
        have hpost : TmOutB tm0 false w (.returned (.tuple #[.agg #[.int .i64 0, .int .i64 0, .slice none 0 0, .slice none 0 0], .bool false])) ((((w6.setCell ⟨w.heap.size + 2, 0, none⟩ (.int .i64 0)).setCell ⟨w.heap.size + 2, 1, none⟩ (.int .i64 0)).setCell ⟨w.heap.size + 2, 2, none⟩ (.slice none 0 0)).setCell ⟨w.heap.size + 2, 3, none⟩ (.slice none 0 0)) :=
          ⟨none, 0, none, 0, _, rfl, own_four own_none own_nokids (fun b hb => by simp at hb), fun b hb => by simp at hb, set4_below hbz (by omega) _ _ _ _⟩
        clear hres hbz HR HB0 HSZ hit hL6 hS9 hbx hb6 hw4 hw6 HCt HIt HCu HIu
        go_wp2
        exact bodyPost_ret (v := .tuple #[.agg #[.int .i64 0, .int .i64 0, .slice none 0 0, .slice none 0 0], .bool false]) (by simp [results, Try.results57, go_sem, r0, r1, r2, r3]) rfl ((by rw [HT.out, HT6.out, orT_no]; exact hpost))
      | true =>
        rw [hit6] at hit
        have HT6 := Lib.hid hit6
        clear hit6
        go_wp2_with fail
        refine hit.mono ?_
        rintro e w6 ⟨rfl, hb6⟩
        obtain ⟨o0, o1, o2, o3⟩ := box4 hb6
        have hb46 := hbx.trans (hb6.mono hbx.size)
        have hw6 := hw4.trans (hb46.mono hw4.size)
        have hres := HR.out w6 hw6
        obtain ⟨r0, r1, r2, r3⟩ := BoxR.row4 hres
        have z0 := frozen_of_row _ _ 0 _ _ hres
        have z1 := frozen_of_row _ _ 1 _ _ hres
        have z2 := frozen_of_row _ _ 2 _ _ hres
        have z3 := frozen_of_row _ _ 3 _ _ hres
        have hbz := HB0.out.trans (hw6.mono HB0.out.size)
        have hL9 := hL6.alike (w' := w6) (fun b hb => hb46.block b (hL6.lt b hb))
        have hpost : TmOutB r true w (.returned (.tuple #[.agg #[.int .i64 r.op, .int .i64 r.num, .slice A6 r.perm.length c6, .slice B6 r.kids.length d6], .bool true])) ((((w6.setCell ⟨w.heap.size + 2, 0, none⟩ (.int .i64 r.op)).setCell ⟨w.heap.size + 2, 1, none⟩ (.int .i64 r.num)).setCell ⟨w.heap.size + 2, 2, none⟩ (.slice A6 r.perm.length c6)).setCell ⟨w.heap.size + 2, 3, none⟩ (.slice B6 r.kids.length d6)) :=
          ⟨A6, c6, B6, d6, S6, rfl, set4_own hL9 (fun b hb => by have := hS9 b hb; omega) _ _ _ _, fun b hb => by have := hS9 b hb; omega, set4_below hbz (by omega) _ _ _ _⟩
        clear hres hbz HR HB0 HSZ hit hL6 hS9 hbx hb6 hw4 hw6 HCt HIt HCu HIu hL9 hb46
        go_wp2
        exact bodyPost_ret (v := .tuple #[.agg #[.int .i64 r.op, .int .i64 r.num, .slice A6 r.perm.length c6, .slice B6 r.kids.length d6], .bool true]) (by simp [results, Try.results57, go_sem, r0, r1, r2, r3]) rfl ((by rw [HT.out, HT6.out, orT_yes]; exact hpost))
end Go.Proofs.Ytnomidnjglbedaa
end

section
namespace Go.Proofs.Ytnomidnjglbedaa
open Go.RowKit Go.Sort Go.ChangeShapes Go.WideShapes
set_option linter.unusedVariables false

theorem own_capI {w : World} {base n c : Nat} {e : TypeId} {B : Option Addr} {xs : List Value} (h : w.ownsRow base e 1 (.slice B n c) n xs) : n ≤ c := by
  rcases h.2 with ⟨e0, h0⟩ | ⟨g, cap, cur, e0, _, _, h1, _⟩
  · omega
  · injection e0 with _ _ e3
    omega
theorem fit_put {t u : Tm} {l : List Int} : Fit (orT (putT t l u) (putB t l u)) := fit_orB (fun h => by
  unfold putB at h
  simp only [Bool.and_eq_true] at h
  exact h.2.2)
theorem mc_put {t u : Tm} {l : List Int} : mcR (orT (putT t l u) (putB t l u)) ≤ 2097152 := mc_orB (fun h => by
  unfold putB at h
  simp only [Bool.and_eq_true] at h
  exact h.2.2)
theorem okPs_set {M : Nat} : ∀ {ks : List Tm} {j : Nat} {r : Tm}, OkPs M ks → OkP M r → OkPs M (ks.set j r)
  | [], _, _, h, _ => h
  | t :: k, 0, r, h, hr => ⟨hr, h.2⟩
  | t :: k, j + 1, r, h, hr => ⟨h.1, okPs_set h.2 hr⟩
theorem okPs_get {M : Nat} : ∀ {ks : List Tm} {j : Nat}, OkPs M ks → OkP M (tmAt ks j)
  | [], j, h => by
    show OkP M tm0
    exact ⟨by first | trivial | simp [Asc] | (intro i hi; simp at hi), Nat.zero_le _, trivial⟩
  | t :: k, 0, h => h.1
  | t :: k, j + 1, h => by rw [tmAt_cons_succ]; exact okPs_get h.2
theorem okP_put {M : Nat} : ∀ (l : List Int) (t u : Tm), OkP M t → OkP M u → OkP M (putT t l u)
  | [], t, u, _, hu => by rw [putT]; exact hu
  | i :: l, .mk o n p ks, u, ht, hu => by
    rw [putT]
    exact ⟨ht.1, ht.2.1, okPs_set ht.2.2 (okP_put l _ u (okPs_get ht.2.2) hu)⟩
theorem put_bounds {t u : Tm} {l : List Int} (ht : isTermB t = true) (hu : isTermB u = true) : szT (putT t l u) ≤ 1048576 ∧ OkP 1048576 (putT t l u) ∧ cntT (putT t l u) ≤ 1048576 := by
  have h1 := okP_put l t u (okP_good (term_good ht)) (okP_good (term_good hu))
  have e1 := cnt_put l t u
  have e2 := cnt_term ht
  have e3 := cnt_term hu
  have e4 := szT_le (putT t l u)
  exact ⟨by omega, okP_le (by decide) h1, by omega⟩

set_option maxRecDepth 100000 in
set_option maxHeartbeats 8000000 in
/-- PutAt of the program. -/
theorem putAt_impl (t u : Tm) (l : List Int) (C : Option Addr) (cc : Nat) (xt xu : Value) (w : World) (hxt : TmIn w xt t) (hxu : TmIn w xu u) (hC : IntsAt w C l) (hll : l.length ≤ 1099511627776) (hcc : l.length ≤ cc) (hct : cntT t ≤ 1048576) (hcu : cntT u ≤ 1048576) :
    Calls Try.prog 58 #[xt, .slice C l.length cc, xu] w (TmOutB (orT (putT t l u) (putB t l u)) (putB t l u) w) := by
  have hft := fit_of t hct
  have hfu := fit_of u hcu
  have hXt := hxt
  obtain ⟨At, ct, kvt, rfl, hpt, hkt⟩ := hxt
  obtain ⟨Bt, dt, rfl⟩ := hkt.form
  have hXu := hxu
  obtain ⟨Au, cu, kvu, rfl, hpu, hku⟩ := hxu
  obtain ⟨Bu, du, rfl⟩ := hku.form
  have hb0 : Below w.heap.size w (((w.alloc (.cells #[.int .i64 t.op, .int .i64 t.num, .slice At t.perm.length ct, .slice Bt t.kids.length dt] 31)).alloc (.cells #[.int .i64 u.op, .int .i64 u.num, .slice Au u.perm.length cu, .slice Bu u.kids.length du] 31)).alloc (.cells #[.int .i64 0, .int .i64 0, .slice none 0 0, .slice none 0 0] 31)) := ((((Below.refl _ w).alloc (by first | exact Nat.le_refl _ | (simp; done) | (simp; omega)) _).alloc (by first | exact Nat.le_refl _ | (simp; done) | (simp; omega)) _).alloc (by first | exact Nat.le_refl _ | (simp; done) | (simp; omega)) _)
  have hsz : (((w.alloc (.cells #[.int .i64 t.op, .int .i64 t.num, .slice At t.perm.length ct, .slice Bt t.kids.length dt] 31)).alloc (.cells #[.int .i64 u.op, .int .i64 u.num, .slice Au u.perm.length cu, .slice Bu u.kids.length du] 31)).alloc (.cells #[.int .i64 0, .int .i64 0, .slice none 0 0, .slice none 0 0] 31)).heap.size = w.heap.size + 3 := by simp
  have kkt : (((w.alloc (.cells #[.int .i64 t.op, .int .i64 t.num, .slice At t.perm.length ct, .slice Bt t.kids.length dt] 31)).alloc (.cells #[.int .i64 u.op, .int .i64 u.num, .slice Au u.perm.length cu, .slice Bu u.kids.length du] 31)).alloc (.cells #[.int .i64 0, .int .i64 0, .slice none 0 0, .slice none 0 0] 31)).heap[w.heap.size]? = some (.cells #[.int .i64 t.op, .int .i64 t.num, .slice At t.perm.length ct, .slice Bt t.kids.length dt] 31 (0, 0)) := by
    have h := heap_alloc_new w (.cells #[.int .i64 t.op, .int .i64 t.num, .slice At t.perm.length ct, .slice Bt t.kids.length dt] 31)
    exact ((Below.heap_alloc _ _ _ (by first | (simp; done) | (simp; omega))).trans ((Below.heap_alloc _ _ _ (by first | (simp; done) | (simp; omega))).trans h))
  have kku : (((w.alloc (.cells #[.int .i64 t.op, .int .i64 t.num, .slice At t.perm.length ct, .slice Bt t.kids.length dt] 31)).alloc (.cells #[.int .i64 u.op, .int .i64 u.num, .slice Au u.perm.length cu, .slice Bu u.kids.length du] 31)).alloc (.cells #[.int .i64 0, .int .i64 0, .slice none 0 0, .slice none 0 0] 31)).heap[w.heap.size + 1]? = some (.cells #[.int .i64 u.op, .int .i64 u.num, .slice Au u.perm.length cu, .slice Bu u.kids.length du] 31 (0, 0)) := by
    have h := heap_alloc_new (w.alloc (.cells #[.int .i64 t.op, .int .i64 t.num, .slice At t.perm.length ct, .slice Bt t.kids.length dt] 31)) (.cells #[.int .i64 u.op, .int .i64 u.num, .slice Au u.perm.length cu, .slice Bu u.kids.length du] 31)
    simp only [World.size_alloc] at h
    exact ((Below.heap_alloc _ _ _ (by first | (simp; done) | (simp; omega))).trans h)
  have kkR : (((w.alloc (.cells #[.int .i64 t.op, .int .i64 t.num, .slice At t.perm.length ct, .slice Bt t.kids.length dt] 31)).alloc (.cells #[.int .i64 u.op, .int .i64 u.num, .slice Au u.perm.length cu, .slice Bu u.kids.length du] 31)).alloc (.cells #[.int .i64 0, .int .i64 0, .slice none 0 0, .slice none 0 0] 31)).heap[w.heap.size + 2]? = some (.cells #[.int .i64 0, .int .i64 0, .slice none 0 0, .slice none 0 0] 31 (0, 0)) := by
    have h := heap_alloc_new ((w.alloc (.cells #[.int .i64 t.op, .int .i64 t.num, .slice At t.perm.length ct, .slice Bt t.kids.length dt] 31)).alloc (.cells #[.int .i64 u.op, .int .i64 u.num, .slice Au u.perm.length cu, .slice Bu u.kids.length du] 31)) (.cells #[.int .i64 0, .int .i64 0, .slice none 0 0, .slice none 0 0] 31)
    simp only [World.size_alloc] at h
    exact h
  have HSZ := Lib.hid hsz
  have HCt := Lib.hid (fun (w' : World) (h : Below (((w.alloc (.cells #[.int .i64 t.op, .int .i64 t.num, .slice At t.perm.length ct, .slice Bt t.kids.length dt] 31)).alloc (.cells #[.int .i64 u.op, .int .i64 u.num, .slice Au u.perm.length cu, .slice Bu u.kids.length du] 31)).alloc (.cells #[.int .i64 0, .int .i64 0, .slice none 0 0, .slice none 0 0] 31)).heap.size (((w.alloc (.cells #[.int .i64 t.op, .int .i64 t.num, .slice At t.perm.length ct, .slice Bt t.kids.length dt] 31)).alloc (.cells #[.int .i64 u.op, .int .i64 u.num, .slice Au u.perm.length cu, .slice Bu u.kids.length du] 31)).alloc (.cells #[.int .i64 0, .int .i64 0, .slice none 0 0, .slice none 0 0] 31)) w') => BoxR.row4 ((h.block (w.heap.size) (by rw [hsz]; omega)).trans kkt))
  have HIt : Hid (∀ w' : World, Below (((w.alloc (.cells #[.int .i64 t.op, .int .i64 t.num, .slice At t.perm.length ct, .slice Bt t.kids.length dt] 31)).alloc (.cells #[.int .i64 u.op, .int .i64 u.num, .slice Au u.perm.length cu, .slice Bu u.kids.length du] 31)).alloc (.cells #[.int .i64 0, .int .i64 0, .slice none 0 0, .slice none 0 0] 31)).heap.size (((w.alloc (.cells #[.int .i64 t.op, .int .i64 t.num, .slice At t.perm.length ct, .slice Bt t.kids.length dt] 31)).alloc (.cells #[.int .i64 u.op, .int .i64 u.num, .slice Au u.perm.length cu, .slice Bu u.kids.length du] 31)).alloc (.cells #[.int .i64 0, .int .i64 0, .slice none 0 0, .slice none 0 0] 31)) w' → TmIn w' (.agg #[.int .i64 t.op, .int .i64 t.num, .slice At t.perm.length ct, .slice Bt t.kids.length dt]) t) := Lib.hid (fun w' h => hXt.below (hb0.trans (h.mono hb0.size)))
  have HCu := Lib.hid (fun (w' : World) (h : Below (((w.alloc (.cells #[.int .i64 t.op, .int .i64 t.num, .slice At t.perm.length ct, .slice Bt t.kids.length dt] 31)).alloc (.cells #[.int .i64 u.op, .int .i64 u.num, .slice Au u.perm.length cu, .slice Bu u.kids.length du] 31)).alloc (.cells #[.int .i64 0, .int .i64 0, .slice none 0 0, .slice none 0 0] 31)).heap.size (((w.alloc (.cells #[.int .i64 t.op, .int .i64 t.num, .slice At t.perm.length ct, .slice Bt t.kids.length dt] 31)).alloc (.cells #[.int .i64 u.op, .int .i64 u.num, .slice Au u.perm.length cu, .slice Bu u.kids.length du] 31)).alloc (.cells #[.int .i64 0, .int .i64 0, .slice none 0 0, .slice none 0 0] 31)) w') => BoxR.row4 ((h.block (w.heap.size + 1) (by rw [hsz]; omega)).trans kku))
  have HIu : Hid (∀ w' : World, Below (((w.alloc (.cells #[.int .i64 t.op, .int .i64 t.num, .slice At t.perm.length ct, .slice Bt t.kids.length dt] 31)).alloc (.cells #[.int .i64 u.op, .int .i64 u.num, .slice Au u.perm.length cu, .slice Bu u.kids.length du] 31)).alloc (.cells #[.int .i64 0, .int .i64 0, .slice none 0 0, .slice none 0 0] 31)).heap.size (((w.alloc (.cells #[.int .i64 t.op, .int .i64 t.num, .slice At t.perm.length ct, .slice Bt t.kids.length dt] 31)).alloc (.cells #[.int .i64 u.op, .int .i64 u.num, .slice Au u.perm.length cu, .slice Bu u.kids.length du] 31)).alloc (.cells #[.int .i64 0, .int .i64 0, .slice none 0 0, .slice none 0 0] 31)) w' → TmIn w' (.agg #[.int .i64 u.op, .int .i64 u.num, .slice Au u.perm.length cu, .slice Bu u.kids.length du]) u) := Lib.hid (fun w' h => hXu.below (hb0.trans (h.mono hb0.size)))
  have HR := Lib.hid (fun (w' : World) (h : Below (((w.alloc (.cells #[.int .i64 t.op, .int .i64 t.num, .slice At t.perm.length ct, .slice Bt t.kids.length dt] 31)).alloc (.cells #[.int .i64 u.op, .int .i64 u.num, .slice Au u.perm.length cu, .slice Bu u.kids.length du] 31)).alloc (.cells #[.int .i64 0, .int .i64 0, .slice none 0 0, .slice none 0 0] 31)).heap.size (((w.alloc (.cells #[.int .i64 t.op, .int .i64 t.num, .slice At t.perm.length ct, .slice Bt t.kids.length dt] 31)).alloc (.cells #[.int .i64 u.op, .int .i64 u.num, .slice Au u.perm.length cu, .slice Bu u.kids.length du] 31)).alloc (.cells #[.int .i64 0, .int .i64 0, .slice none 0 0, .slice none 0 0] 31)) w') => (h.block (w.heap.size + 2) (by rw [hsz]; omega)).trans kkR)
  have HB0 := Lib.hid hb0
  clear hsz hb0 kkR hXt hpt hkt kkt hXu hpu hku kku
  have HCC := Lib.hid hC
  have HIT := Lib.hid (fun (W : World) (h : Below (((w.alloc (.cells #[.int .i64 t.op, .int .i64 t.num, .slice At t.perm.length ct, .slice Bt t.kids.length dt] 31)).alloc (.cells #[.int .i64 u.op, .int .i64 u.num, .slice Au u.perm.length cu, .slice Bu u.kids.length du] 31)).alloc (.cells #[.int .i64 0, .int .i64 0, .slice none 0 0, .slice none 0 0] 31)).heap.size (((w.alloc (.cells #[.int .i64 t.op, .int .i64 t.num, .slice At t.perm.length ct, .slice Bt t.kids.length dt] 31)).alloc (.cells #[.int .i64 u.op, .int .i64 u.num, .slice Au u.perm.length cu, .slice Bu u.kids.length du] 31)).alloc (.cells #[.int .i64 0, .int .i64 0, .slice none 0 0, .slice none 0 0] 31)) W) => isTerm_impl t _ W (HIt.out W h) hft)
  have HIU := Lib.hid (fun (W : World) (h : Below (((w.alloc (.cells #[.int .i64 t.op, .int .i64 t.num, .slice At t.perm.length ct, .slice Bt t.kids.length dt] 31)).alloc (.cells #[.int .i64 u.op, .int .i64 u.num, .slice Au u.perm.length cu, .slice Bu u.kids.length du] 31)).alloc (.cells #[.int .i64 0, .int .i64 0, .slice none 0 0, .slice none 0 0] 31)).heap.size (((w.alloc (.cells #[.int .i64 t.op, .int .i64 t.num, .slice At t.perm.length ct, .slice Bt t.kids.length dt] 31)).alloc (.cells #[.int .i64 u.op, .int .i64 u.num, .slice Au u.perm.length cu, .slice Bu u.kids.length du] 31)).alloc (.cells #[.int .i64 0, .int .i64 0, .slice none 0 0, .slice none 0 0] 31)) W) => isTerm_impl u _ W (HIu.out W h) hfu)
  have HKA := Lib.hid (fun (W : World) (h : Below (((w.alloc (.cells #[.int .i64 t.op, .int .i64 t.num, .slice At t.perm.length ct, .slice Bt t.kids.length dt] 31)).alloc (.cells #[.int .i64 u.op, .int .i64 u.num, .slice Au u.perm.length cu, .slice Bu u.kids.length du] 31)).alloc (.cells #[.int .i64 0, .int .i64 0, .slice none 0 0, .slice none 0 0] 31)).heap.size (((w.alloc (.cells #[.int .i64 t.op, .int .i64 t.num, .slice At t.perm.length ct, .slice Bt t.kids.length dt] 31)).alloc (.cells #[.int .i64 u.op, .int .i64 u.num, .slice Au u.perm.length cu, .slice Bu u.kids.length du] 31)).alloc (.cells #[.int .i64 0, .int .i64 0, .slice none 0 0, .slice none 0 0] 31)) W) => keptAt_any t l C cc _ W (HIt.out W h) (HCC.out.below (HB0.out.trans (h.mono HB0.out.size))) hll)
  clear hC
  cases h0 : isTermB t with
  | false =>
    have HT := Lib.hid (show putB t l u = false by simp [putB, atB, h0])
    go_enter Try.func58, Try.ntmps58
    have hg := HIT.out (((w.alloc (.cells #[.int .i64 t.op, .int .i64 t.num, .slice At t.perm.length ct, .slice Bt t.kids.length dt] 31)).alloc (.cells #[.int .i64 u.op, .int .i64 u.num, .slice Au u.perm.length cu, .slice Bu u.kids.length du] 31)).alloc (.cells #[.int .i64 0, .int .i64 0, .slice none 0 0, .slice none 0 0] 31)) (Below.refl _ _)
    rw [h0] at hg
    go_wp2_with fail
    refine hg.mono ?_
    rintro e g0 ⟨rfl, hb0⟩
    have hw0 := hb0
    clear hg 
    have hq0 : w.heap.size + 3 ≤ g0.heap.size := by have h := hw0.size; rw [HSZ.out] at h; exact h
    have hres := HR.out g0 hw0
    obtain ⟨r0, r1, r2, r3⟩ := BoxR.row4 hres
    have z0 := frozen_of_row _ _ 0 _ _ hres
    have z1 := frozen_of_row _ _ 1 _ _ hres
    have z2 := frozen_of_row _ _ 2 _ _ hres
    have z3 := frozen_of_row _ _ 3 _ _ hres
    have hbz := HB0.out.trans (hw0.mono HB0.out.size)
    have hpost : TmOutB tm0 false w (.returned (.tuple #[.agg #[.int .i64 0, .int .i64 0, .slice none 0 0, .slice none 0 0], .bool false])) ((((g0.setCell ⟨w.heap.size + 2, 0, none⟩ (.int .i64 0)).setCell ⟨w.heap.size + 2, 1, none⟩ (.int .i64 0)).setCell ⟨w.heap.size + 2, 2, none⟩ (.slice none 0 0)).setCell ⟨w.heap.size + 2, 3, none⟩ (.slice none 0 0)) :=
      ⟨none, 0, none, 0, _, rfl, own_four own_none own_nokids (fun b hb => by simp at hb), fun b hb => by simp at hb, set4_below hbz (by omega) _ _ _ _⟩
    clear hres hbz HR HB0 HSZ HCt HIt HCu HIu hct hcu hll hcc hft hfu h0 HCC HIT HIU HKA 
    go_wp2
    exact bodyPost_ret (v := .tuple #[.agg #[.int .i64 0, .int .i64 0, .slice none 0 0, .slice none 0 0], .bool false]) (by simp [results, Try.results58, go_sem, r0, r1, r2, r3]) rfl (by rw [HT.out, orT_no]; exact hpost)
  | true =>
    cases h1 : isTermB u with
    | false =>
      have HT := Lib.hid (show putB t l u = false by simp [putB, h1])
      go_enter Try.func58, Try.ntmps58
      have hg := HIT.out (((w.alloc (.cells #[.int .i64 t.op, .int .i64 t.num, .slice At t.perm.length ct, .slice Bt t.kids.length dt] 31)).alloc (.cells #[.int .i64 u.op, .int .i64 u.num, .slice Au u.perm.length cu, .slice Bu u.kids.length du] 31)).alloc (.cells #[.int .i64 0, .int .i64 0, .slice none 0 0, .slice none 0 0] 31)) (Below.refl _ _)
      rw [h0] at hg
      go_wp2_with fail
      refine hg.mono ?_
      rintro e g0 ⟨rfl, hb0⟩
      have hw0 := hb0
      clear hg 
      have hq0 : w.heap.size + 3 ≤ g0.heap.size := by have h := hw0.size; rw [HSZ.out] at h; exact h
      obtain ⟨e1t0, e1t1, e1t2, e1t3⟩ := HCt.out g0 hw0
      obtain ⟨e1u0, e1u1, e1u2, e1u3⟩ := HCu.out g0 hw0
      have hg := HIU.out g0 hw0
      rw [h1] at hg
      go_wp2_with fail
      refine hg.mono ?_
      rintro e g1 ⟨rfl, hb1⟩
      have hw1 := hw0.trans (hb1.mono hw0.size)
      clear hg e1t0 e1t1 e1t2 e1t3 e1u0 e1u1 e1u2 e1u3
      have hq1 : w.heap.size + 3 ≤ g1.heap.size := by have h := hw1.size; rw [HSZ.out] at h; exact h
      have hres := HR.out g1 hw1
      obtain ⟨r0, r1, r2, r3⟩ := BoxR.row4 hres
      have z0 := frozen_of_row _ _ 0 _ _ hres
      have z1 := frozen_of_row _ _ 1 _ _ hres
      have z2 := frozen_of_row _ _ 2 _ _ hres
      have z3 := frozen_of_row _ _ 3 _ _ hres
      have hbz := HB0.out.trans (hw1.mono HB0.out.size)
      have hpost : TmOutB tm0 false w (.returned (.tuple #[.agg #[.int .i64 0, .int .i64 0, .slice none 0 0, .slice none 0 0], .bool false])) ((((g1.setCell ⟨w.heap.size + 2, 0, none⟩ (.int .i64 0)).setCell ⟨w.heap.size + 2, 1, none⟩ (.int .i64 0)).setCell ⟨w.heap.size + 2, 2, none⟩ (.slice none 0 0)).setCell ⟨w.heap.size + 2, 3, none⟩ (.slice none 0 0)) :=
        ⟨none, 0, none, 0, _, rfl, own_four own_none own_nokids (fun b hb => by simp at hb), fun b hb => by simp at hb, set4_below hbz (by omega) _ _ _ _⟩
      clear hres hbz HR HB0 HSZ HCt HIt HCu HIu hct hcu hll hcc hft hfu h0 h1 HCC HIT HIU HKA 
      go_wp2
      exact bodyPost_ret (v := .tuple #[.agg #[.int .i64 0, .int .i64 0, .slice none 0 0, .slice none 0 0], .bool false]) (by simp [results, Try.results58, go_sem, r0, r1, r2, r3]) rfl (by rw [HT.out, orT_no]; exact hpost)
    | true =>
      cases h2 : (walkP t l).isSome with
      | false =>
        have HT := Lib.hid (show putB t l u = false by simp [putB, atB, h2])
        go_enter Try.func58, Try.ntmps58
        have hg := HIT.out (((w.alloc (.cells #[.int .i64 t.op, .int .i64 t.num, .slice At t.perm.length ct, .slice Bt t.kids.length dt] 31)).alloc (.cells #[.int .i64 u.op, .int .i64 u.num, .slice Au u.perm.length cu, .slice Bu u.kids.length du] 31)).alloc (.cells #[.int .i64 0, .int .i64 0, .slice none 0 0, .slice none 0 0] 31)) (Below.refl _ _)
        rw [h0] at hg
        go_wp2_with fail
        refine hg.mono ?_
        rintro e g0 ⟨rfl, hb0⟩
        have hw0 := hb0
        clear hg 
        have hq0 : w.heap.size + 3 ≤ g0.heap.size := by have h := hw0.size; rw [HSZ.out] at h; exact h
        obtain ⟨e1t0, e1t1, e1t2, e1t3⟩ := HCt.out g0 hw0
        obtain ⟨e1u0, e1u1, e1u2, e1u3⟩ := HCu.out g0 hw0
        have hg := HIU.out g0 hw0
        rw [h1] at hg
        go_wp2_with fail
        refine hg.mono ?_
        rintro e g1 ⟨rfl, hb1⟩
        have hw1 := hw0.trans (hb1.mono hw0.size)
        clear hg e1t0 e1t1 e1t2 e1t3 e1u0 e1u1 e1u2 e1u3
        have hq1 : w.heap.size + 3 ≤ g1.heap.size := by have h := hw1.size; rw [HSZ.out] at h; exact h
        obtain ⟨e2t0, e2t1, e2t2, e2t3⟩ := HCt.out g1 hw1
        obtain ⟨e2u0, e2u1, e2u2, e2u3⟩ := HCu.out g1 hw1
        have hg := HKA.out g1 hw1
        unfold KeptPost at hg
        rw [h2] at hg
        generalize orT (atR t l) _ = q at hg
        go_wp2_with fail
        refine hg.mono ?_
        rintro e g2 ⟨Aq, cq, Bq, dq, rfl, _, hb2⟩
        have hw2b := hw1.trans (hb2.mono hw1.size)
        have hw2 : Below (((w.alloc (.cells #[.int .i64 t.op, .int .i64 t.num, .slice At t.perm.length ct, .slice Bt t.kids.length dt] 31)).alloc (.cells #[.int .i64 u.op, .int .i64 u.num, .slice Au u.perm.length cu, .slice Bu u.kids.length du] 31)).alloc (.cells #[.int .i64 0, .int .i64 0, .slice none 0 0, .slice none 0 0] 31)).heap.size (((w.alloc (.cells #[.int .i64 t.op, .int .i64 t.num, .slice At t.perm.length ct, .slice Bt t.kids.length dt] 31)).alloc (.cells #[.int .i64 u.op, .int .i64 u.num, .slice Au u.perm.length cu, .slice Bu u.kids.length du] 31)).alloc (.cells #[.int .i64 0, .int .i64 0, .slice none 0 0, .slice none 0 0] 31)) (g2.alloc (.cells #[.int .i64 q.op, .int .i64 q.num, .slice Aq q.perm.length cq, .slice Bq q.kids.length dq] 31)) := hw2b.alloc hw2b.size _
        have hq2 : w.heap.size + 3 ≤ (g2.alloc (.cells #[.int .i64 q.op, .int .i64 q.num, .slice Aq q.perm.length cq, .slice Bq q.kids.length dq] 31)).heap.size := by have h := hw2.size; rw [HSZ.out] at h; exact h
        clear hg hb2 hw2b e2t0 e2t1 e2t2 e2t3 e2u0 e2u1 e2u2 e2u3
        have hres := HR.out (g2.alloc (.cells #[.int .i64 q.op, .int .i64 q.num, .slice Aq q.perm.length cq, .slice Bq q.kids.length dq] 31)) hw2
        obtain ⟨r0, r1, r2, r3⟩ := BoxR.row4 hres
        have z0 := frozen_of_row _ _ 0 _ _ hres
        have z1 := frozen_of_row _ _ 1 _ _ hres
        have z2 := frozen_of_row _ _ 2 _ _ hres
        have z3 := frozen_of_row _ _ 3 _ _ hres
        have hbz := HB0.out.trans (hw2.mono HB0.out.size)
        have hpost : TmOutB tm0 false w (.returned (.tuple #[.agg #[.int .i64 0, .int .i64 0, .slice none 0 0, .slice none 0 0], .bool false])) (((((g2.alloc (.cells #[.int .i64 q.op, .int .i64 q.num, .slice Aq q.perm.length cq, .slice Bq q.kids.length dq] 31)).setCell ⟨w.heap.size + 2, 0, none⟩ (.int .i64 0)).setCell ⟨w.heap.size + 2, 1, none⟩ (.int .i64 0)).setCell ⟨w.heap.size + 2, 2, none⟩ (.slice none 0 0)).setCell ⟨w.heap.size + 2, 3, none⟩ (.slice none 0 0)) :=
          ⟨none, 0, none, 0, _, rfl, own_four own_none own_nokids (fun b hb => by simp at hb), fun b hb => by simp at hb, set4_below hbz (by omega) _ _ _ _⟩
        clear hres hbz HR HB0 HSZ HCt HIt HCu HIu hct hcu hll hcc hft hfu h0 h1 h2 HCC HIT HIU HKA 
        go_wp2
        exact bodyPost_ret (v := .tuple #[.agg #[.int .i64 0, .int .i64 0, .slice none 0 0, .slice none 0 0], .bool false]) (by simp [results, Try.results58, go_sem, r0, r1, r2, r3]) rfl (by rw [HT.out, orT_no]; exact hpost)
      | true =>
        have HT := Lib.hid (show putB t l u = isTermB (putT t l u) by simp [putB, atB, h0, h1, h2])
        have hwk := Option.isSome_iff_exists.1 h2
        have HFT := Lib.hid (fun (W : World) (x : Value) (hx : TmIn W x t) => formOf_term t h0 W x hx)
        have HFU := Lib.hid (fun (W : World) (x : Value) (hx : TmIn W x u) => formOf_term u h1 W x hx)
        have HWP := Lib.hid (fun (W : World) (v uv : Value) (a : FIn W (fun b => b < W.heap.size) v t) (b : FIn W (fun b => b < W.heap.size) uv u) (hW : IntsAt W C l) => withPut_any l t u C cc v uv (fun b => b < W.heap.size) W (fun b h => h) a b hft hwk hW hcc)
        have hbd := put_bounds (l := l) h0 h1
        have HIA := Lib.hid (fun (W : World) (q : Nat → Prop) (y : Value) (hW : FIn W q y (putT t l u)) => ifAny_any (putT t l u) q y W hW hbd.1 hbd.2.1 (fit_of _ hbd.2.2))
        generalize hbb : putB t l u = bb at *
        have HBB := Lib.hid hbb
        clear hbb
        generalize putT t l u = r0 at *
        generalize hrr : orT r0 (isTermB r0) = r at *
        have HRR := Lib.hid hrr
        generalize isTermB r0 = b0 at *
        have HE := Lib.hid (show bb = b0 from HT.out)
        clear hrr hbd HT hwk
        go_enter Try.func58, Try.ntmps58
        have hg := HIT.out (((w.alloc (.cells #[.int .i64 t.op, .int .i64 t.num, .slice At t.perm.length ct, .slice Bt t.kids.length dt] 31)).alloc (.cells #[.int .i64 u.op, .int .i64 u.num, .slice Au u.perm.length cu, .slice Bu u.kids.length du] 31)).alloc (.cells #[.int .i64 0, .int .i64 0, .slice none 0 0, .slice none 0 0] 31)) (Below.refl _ _)
        rw [h0] at hg
        go_wp2_with fail
        refine hg.mono ?_
        rintro e g0 ⟨rfl, hb0⟩
        have hw0 := hb0
        clear hg 
        have hq0 : w.heap.size + 3 ≤ g0.heap.size := by have h := hw0.size; rw [HSZ.out] at h; exact h
        obtain ⟨e1t0, e1t1, e1t2, e1t3⟩ := HCt.out g0 hw0
        obtain ⟨e1u0, e1u1, e1u2, e1u3⟩ := HCu.out g0 hw0
        have hg := HIU.out g0 hw0
        rw [h1] at hg
        go_wp2_with fail
        refine hg.mono ?_
        rintro e g1 ⟨rfl, hb1⟩
        have hw1 := hw0.trans (hb1.mono hw0.size)
        clear hg e1t0 e1t1 e1t2 e1t3 e1u0 e1u1 e1u2 e1u3
        have hq1 : w.heap.size + 3 ≤ g1.heap.size := by have h := hw1.size; rw [HSZ.out] at h; exact h
        obtain ⟨e2t0, e2t1, e2t2, e2t3⟩ := HCt.out g1 hw1
        obtain ⟨e2u0, e2u1, e2u2, e2u3⟩ := HCu.out g1 hw1
        have hg := HKA.out g1 hw1
        unfold KeptPost at hg
        rw [h2] at hg
        generalize orT (atR t l) _ = q at hg
        go_wp2_with fail
        refine hg.mono ?_
        rintro e g2 ⟨Aq, cq, Bq, dq, rfl, _, hb2⟩
        have hw2b := hw1.trans (hb2.mono hw1.size)
        have hw2 : Below (((w.alloc (.cells #[.int .i64 t.op, .int .i64 t.num, .slice At t.perm.length ct, .slice Bt t.kids.length dt] 31)).alloc (.cells #[.int .i64 u.op, .int .i64 u.num, .slice Au u.perm.length cu, .slice Bu u.kids.length du] 31)).alloc (.cells #[.int .i64 0, .int .i64 0, .slice none 0 0, .slice none 0 0] 31)).heap.size (((w.alloc (.cells #[.int .i64 t.op, .int .i64 t.num, .slice At t.perm.length ct, .slice Bt t.kids.length dt] 31)).alloc (.cells #[.int .i64 u.op, .int .i64 u.num, .slice Au u.perm.length cu, .slice Bu u.kids.length du] 31)).alloc (.cells #[.int .i64 0, .int .i64 0, .slice none 0 0, .slice none 0 0] 31)) (g2.alloc (.cells #[.int .i64 q.op, .int .i64 q.num, .slice Aq q.perm.length cq, .slice Bq q.kids.length dq] 31)) := hw2b.alloc hw2b.size _
        have hq2 : w.heap.size + 3 ≤ (g2.alloc (.cells #[.int .i64 q.op, .int .i64 q.num, .slice Aq q.perm.length cq, .slice Bq q.kids.length dq] 31)).heap.size := by have h := hw2.size; rw [HSZ.out] at h; exact h
        clear hg hb2 hw2b e2t0 e2t1 e2t2 e2t3 e2u0 e2u1 e2u2 e2u3
        clear h0 h1 h2 hct hcu hft hfu hll hcc HIT HIU HKA
        obtain ⟨e3t0, e3t1, e3t2, e3t3⟩ := HCt.out (g2.alloc (.cells #[.int .i64 q.op, .int .i64 q.num, .slice Aq q.perm.length cq, .slice Bq q.kids.length dq] 31)) hw2
        obtain ⟨e3u0, e3u1, e3u2, e3u3⟩ := HCu.out (g2.alloc (.cells #[.int .i64 q.op, .int .i64 q.num, .slice Aq q.perm.length cq, .slice Bq q.kids.length dq] 31)) hw2
        have hdw : Below (g2.alloc (.cells #[.int .i64 q.op, .int .i64 q.num, .slice Aq q.perm.length cq, .slice Bq q.kids.length dq] 31)).heap.size (g2.alloc (.cells #[.int .i64 q.op, .int .i64 q.num, .slice Aq q.perm.length cq, .slice Bq q.kids.length dq] 31)) (g2.alloc (.cells #[.int .i64 q.op, .int .i64 q.num, .slice Aq q.perm.length cq, .slice Bq q.kids.length dq] 31)).drew := ⟨rfl, rfl, rfl, Nat.le_refl _, fun _ _ => rfl⟩
        have hwd := hw2.trans (hdw.mono hw2.size)
        obtain ⟨ut0, ut1, ut2, ut3⟩ := HCt.out (g2.alloc (.cells #[.int .i64 q.op, .int .i64 q.num, .slice Aq q.perm.length cq, .slice Bq q.kids.length dq] 31)).drew hwd
        have net : w.heap.size ≠ w.heap.size + 2 := by omega
        obtain ⟨uu0, uu1, uu2, uu3⟩ := HCu.out (g2.alloc (.cells #[.int .i64 q.op, .int .i64 q.num, .slice Aq q.perm.length cq, .slice Bq q.kids.length dq] 31)).drew hwd
        have neu : w.heap.size + 1 ≠ w.heap.size + 2 := by omega
        have hy0 := HFT.out ((g2.alloc (.cells #[.int .i64 q.op, .int .i64 q.num, .slice Aq q.perm.length cq, .slice Bq q.kids.length dq] 31)).drew) _ (HIt.out ((g2.alloc (.cells #[.int .i64 q.op, .int .i64 q.num, .slice Aq q.perm.length cq, .slice Bq q.kids.length dq] 31)).drew) hwd)
        clear hdw e3t0 e3t1 e3t2 e3t3 e3u0 e3u1 e3u2 e3u3
        go_wp2
        go_region_held3 (fun w' => w'.cell? ⟨w.heap.size, 0, none⟩ = some (.int .i64 t.op) ∧ w'.cell? ⟨w.heap.size, 1, none⟩ = some (.int .i64 t.num) ∧ w'.cell? ⟨w.heap.size, 2, none⟩ = some (.slice At t.perm.length ct) ∧ w'.cell? ⟨w.heap.size, 3, none⟩ = some (.slice Bt t.kids.length dt) ∧ w'.cell? ⟨w.heap.size + 1, 0, none⟩ = some (.int .i64 u.op) ∧ w'.cell? ⟨w.heap.size + 1, 1, none⟩ = some (.int .i64 u.num) ∧ w'.cell? ⟨w.heap.size + 1, 2, none⟩ = some (.slice Au u.perm.length cu) ∧ w'.cell? ⟨w.heap.size + 1, 3, none⟩ = some (.slice Bu u.kids.length du))
          (first | ((try dsimp only); (with_reducible exact ⟨by assumption, by assumption, by assumption, by assumption, by assumption, by assumption, by assumption, by assumption⟩)) | (with_reducible exact ⟨BoxR.set4_keep (by assumption) (by assumption), BoxR.set4_keep (by assumption) (by assumption), BoxR.set4_keep (by assumption) (by assumption), BoxR.set4_keep (by assumption) (by assumption), BoxR.set4_keep (by assumption) (by assumption), BoxR.set4_keep (by assumption) (by assumption), BoxR.set4_keep (by assumption) (by assumption), BoxR.set4_keep (by assumption) (by assumption)⟩) | go_keep)
          (first
            | (go_at_call_of 105 At; refine hy0.mono ?_; rintro e y0 ⟨fv, rfl, hfv, hb0⟩; have hv0 := hwd.trans (hb0.mono hwd.size); obtain ⟨fx, rfl⟩ := hfv.iface; generalize fty t = T at *; obtain ⟨v0t0, v0t1, v0t2, v0t3⟩ := HCt.out y0 hv0; obtain ⟨v0u0, v0u1, v0u2, v0u3⟩ := HCu.out y0 hv0; have hy1 := HFU.out (y0) _ (HIu.out (y0) hv0))
            | (go_at_call_of 105 Au; refine hy1.mono ?_; rintro e y1 ⟨gv, rfl, hgv, hb1⟩; have hv1 := hv0.trans (hb1.mono hv0.size); obtain ⟨gx, rfl⟩ := hgv.iface; generalize fty u = T2 at *; obtain ⟨v1t0, v1t1, v1t2, v1t3⟩ := HCt.out y1 hv1; obtain ⟨v1u0, v1u1, v1u2, v1u3⟩ := HCu.out y1 hv1; have hy2 := HWP.out (y1) _ _ ((hfv.keep hb1).kind fun b hl _ => hl) (hgv.kind fun b hl _ => hl) (HCC.out.below (HB0.out.trans (hv1.mono HB0.out.size))))
            | (go_at_call 104; refine hy2.mono ?_; rintro e y2 ⟨ov, rfl, hov, hb2⟩; have hv2 := hv1.trans (hb2.mono hv1.size); obtain ⟨v2t0, v2t1, v2t2, v2t3⟩ := HCt.out y2 hv2; obtain ⟨v2u0, v2u1, v2u2, v2u3⟩ := HCu.out y2 hv2; have hy3 := HIA.out (y2) _ ov hov)
            | (go_at_call 103; refine hy3.mono ?_; rintro e y3 ⟨A6, c6, B6, d6, S6, rfl, hL6, hS6, hb3⟩; have hv3 := hv2.trans (hb3.mono hv2.size); obtain ⟨v3t0, v3t1, v3t2, v3t3⟩ := HCt.out y3 hv3; obtain ⟨v3u0, v3u1, v3u2, v3u3⟩ := HCu.out y3 hv3; have hres := HR.out y3 hv3; obtain ⟨r0, r1, r2, r3⟩ := BoxR.row4 hres; have z0 := frozen_of_row _ _ 0 _ _ hres; have z1 := frozen_of_row _ _ 1 _ _ hres; have z2 := frozen_of_row _ _ 2 _ _ hres; have z3 := frozen_of_row _ _ 3 _ _ hres)
            | fail)
        have hq9 : w.heap.size + 3 ≤ y2.heap.size := by have h := hv2.size; rw [HSZ.out] at h; exact h
        have hS9 : ∀ b ∈ S6, w.heap.size + 3 ≤ b := fun b hb => Nat.le_trans hq9 (hS6 b hb)
        have hbz := HB0.out.trans (hv3.mono HB0.out.size)
        have hpost : TmOutB r b0 w (.returned (.tuple #[.agg #[.int .i64 r.op, .int .i64 r.num, .slice A6 r.perm.length c6, .slice B6 r.kids.length d6], .bool b0])) ((((y3.setCell ⟨w.heap.size + 2, 0, none⟩ (.int .i64 r.op)).setCell ⟨w.heap.size + 2, 1, none⟩ (.int .i64 r.num)).setCell ⟨w.heap.size + 2, 2, none⟩ (.slice A6 r.perm.length c6)).setCell ⟨w.heap.size + 2, 3, none⟩ (.slice B6 r.kids.length d6)) :=
          ⟨A6, c6, B6, d6, S6, rfl, set4_own hL6 (fun b hb => by have := hS9 b hb; omega) _ _ _ _, fun b hb => by have := hS9 b hb; omega, set4_below hbz (by omega) _ _ _ _⟩
        clear hL6 hS6 hS9 hbz HR HB0 HSZ hres hwd HCt HIt HCu HIu hv0 hb0 hv1 hb1 hv2 hb2 hv3 hb3 hy0 hy1 hy2 hy3
        go_wp2
        exact bodyPost_ret (v := .tuple #[.agg #[.int .i64 r.op, .int .i64 r.num, .slice A6 r.perm.length c6, .slice B6 r.kids.length d6], .bool b0]) (by simp [results, Try.results58, go_sem, r0, r1, r2, r3]) rfl ((by rw [HE.out, HRR.out]; exact hpost))
end Go.Proofs.Ytnomidnjglbedaa
end

