/-
  Paths: what they lead to, in the program and in the model, as contracts.
-/
import Derived.Test.YtnomidnjglbedaaKTermAt23
import Derived.Test.YtnomidnjglbedaaKTermAt15
import Derived.Test.YtnomidnjglbedaaKTermAt16
namespace Go.Proofs.Ytnomidnjglbedaa
open Go.RowKit Go.Sort Go.ChangeShapes Go.WideShapes
set_option linter.unusedVariables false

theorem tm0_in (w : World) : TmIn w (.agg #[.int .i64 0, .int .i64 0, .slice none 0 0, .slice none 0 0]) tm0 := by
  have h := own_four (w := w) (o := 0) (n := 0) (p := []) (ks := []) own_none own_nokids (fun b hb => by simp at hb)
  exact tmOut_in (t := tm0) h

set_option maxRecDepth 100000 in
set_option maxHeartbeats 4000000 in
/-- A copy, in the model. -/
theorem l2Copy_any (t : Tm) (hg : goodT t = true) (hsz : szT t ≤ 1048576) (x : Value) (w : World) (hxt : TmIn w x t) : Calls Try.prog 88 #[x] w (TmOut t w) := by
  have hX := hxt
  obtain ⟨At, ct, kvt, rfl, hp, hk⟩ := hxt
  obtain ⟨Bt, dt, rfl⟩ := hk.form
  have hb0 : Below w.heap.size w ((w.alloc (.cells #[.int .i64 t.op, .int .i64 t.num, .slice At t.perm.length ct, .slice Bt t.kids.length dt] 31)).alloc (.cells #[.int .i64 0, .int .i64 0, .slice none 0 0, .slice none 0 0] 31)) := ((Below.refl _ _).alloc (Nat.le_refl _) _).alloc (by simp) _
  have hac := l2Act_any (szT t) t (Nat.le_refl _) hsz (okP_le (by decide) (okP_good hg)) ((w.alloc (.cells #[.int .i64 t.op, .int .i64 t.num, .slice At t.perm.length ct, .slice Bt t.kids.length dt] 31)).alloc (.cells #[.int .i64 0, .int .i64 0, .slice none 0 0, .slice none 0 0] 31)) _ none 0 [] (hX.below hb0) (fun h => absurd h (by simp)) (by simp)
  rw [actT_nil hg] at hac
  obtain ⟨hres, hbox⟩ := box_row (Below.refl _ ((w.alloc (.cells #[.int .i64 t.op, .int .i64 t.num, .slice At t.perm.length ct, .slice Bt t.kids.length dt] 31)).alloc (.cells #[.int .i64 0, .int .i64 0, .slice none 0 0, .slice none 0 0] 31)))
  have hsz2 : ((w.alloc (.cells #[.int .i64 t.op, .int .i64 t.num, .slice At t.perm.length ct, .slice Bt t.kids.length dt] 31)).alloc (.cells #[.int .i64 0, .int .i64 0, .slice none 0 0, .slice none 0 0] 31)).heap.size = w.heap.size + 2 := by simp
  have HSZ := Lib.hid hsz2
  have HRS := Lib.hid hres
  clear hX hp hk hbox hres hsz2 hg hsz
  go_enter Try.func88, Try.ntmps88
  go_wp2_with fail
  refine hac.mono ?_
  rintro e w5 ⟨A6, c6, B6, d6, S6, rfl, hL6, hS6, hb5⟩
  have hres6 := (hb5.block (w.heap.size + 1) (by rw [HSZ.out]; omega)).trans HRS.out
  obtain ⟨r0, r1, r2, r3⟩ := BoxR.row4 hres6
  have z0 := frozen_of_row _ _ 0 _ _ hres6
  have z1 := frozen_of_row _ _ 1 _ _ hres6
  have z2 := frozen_of_row _ _ 2 _ _ hres6
  have z3 := frozen_of_row _ _ 3 _ _ hres6
  have hS9 : ∀ b ∈ S6, w.heap.size + 2 ≤ b := fun b hb => by have := hS6 b hb; rw [HSZ.out] at this; exact this
  have hbz := hb0.trans (hb5.mono hb0.size)
  have hpost : TmOut t w (.returned (.agg #[.int .i64 t.op, .int .i64 t.num, .slice A6 t.perm.length c6, .slice B6 t.kids.length d6])) ((((w5.setCell ⟨w.heap.size + 1, 0, none⟩ (.int .i64 t.op)).setCell ⟨w.heap.size + 1, 1, none⟩ (.int .i64 t.num)).setCell ⟨w.heap.size + 1, 2, none⟩ (.slice A6 t.perm.length c6)).setCell ⟨w.heap.size + 1, 3, none⟩ (.slice B6 t.kids.length d6)) :=
    ⟨A6, c6, B6, d6, S6, rfl, set4_own hL6 (fun b hb => by have := hS9 b hb; omega) _ _ _ _, fun b hb => by have := hS9 b hb; omega, set4_below hbz (by omega) _ _ _ _⟩
  clear hac hL6 hS6 hS9 hb5 hbz hb0 hres6 HRS HSZ
  go_wp2
  exact bodyPost_ret (v := .agg #[.int .i64 t.op, .int .i64 t.num, .slice A6 t.perm.length c6, .slice B6 t.kids.length d6]) (by simp [results, Try.results88, go_sem, r0, r1, r2, r3]) rfl hpost

set_option maxRecDepth 100000 in
set_option maxHeartbeats 4000000 in
/-- A copy, in the program. -/
theorem copyOf_any (t : Tm) (ht : isTermB t = true) (x : Value) (w : World) (hxt : TmIn w x t) : Calls Try.prog 90 #[x] w (TmOut t w) := by
  have hX := hxt
  obtain ⟨At, ct, kvt, rfl, hp, hk⟩ := hxt
  obtain ⟨Bt, dt, rfl⟩ := hk.form
  have hb0 : Below w.heap.size w ((w.alloc (.cells #[.int .i64 t.op, .int .i64 t.num, .slice At t.perm.length ct, .slice Bt t.kids.length dt] 31)).alloc (.cells #[.int .i64 0, .int .i64 0, .slice none 0 0, .slice none 0 0] 31)) := ((Below.refl _ _).alloc (Nat.le_refl _) _).alloc (by simp) _
  have hfo := formOf_term t ht ((w.alloc (.cells #[.int .i64 t.op, .int .i64 t.num, .slice At t.perm.length ct, .slice Bt t.kids.length dt] 31)).alloc (.cells #[.int .i64 0, .int .i64 0, .slice none 0 0, .slice none 0 0] 31)) _ (hX.below hb0)
  have htm := fun (W : World) (q : Nat → Prop) (y : Value) (hW : FIn W q (.iface (fty t) y) t) => term_any (szT t) t (Nat.le_refl _) (by have := term_size ht; omega) (okP_le (by decide) (okP_good (term_good ht))) q W y hW
  have hm := askTerm t
  have hn := enterTerm t
  obtain ⟨hres, hbox⟩ := box_row (Below.refl _ ((w.alloc (.cells #[.int .i64 t.op, .int .i64 t.num, .slice At t.perm.length ct, .slice Bt t.kids.length dt] 31)).alloc (.cells #[.int .i64 0, .int .i64 0, .slice none 0 0, .slice none 0 0] 31)))
  have hsz2 : ((w.alloc (.cells #[.int .i64 t.op, .int .i64 t.num, .slice At t.perm.length ct, .slice Bt t.kids.length dt] 31)).alloc (.cells #[.int .i64 0, .int .i64 0, .slice none 0 0, .slice none 0 0] 31)).heap.size = w.heap.size + 2 := by simp
  have HSZ := Lib.hid hsz2
  have HRS := Lib.hid hres
  clear hX hp hk hbox hres hsz2 ht
  go_enter Try.func90, Try.ntmps90
  go_wp2_with fail
  refine hfo.mono ?_
  rintro e w2 ⟨fv, rfl, hfv, hb2⟩
  obtain ⟨fx, rfl⟩ := hfv.iface
  have htm2 := htm w2 _ fx hfv
  have hbz2 := hb0.trans (hb2.mono hb0.size)
  have hres2 := (hb2.block (w.heap.size + 1) (by rw [HSZ.out]; omega)).trans HRS.out
  have hlt2 : w.heap.size + 2 ≤ w2.heap.size := by have := hb2.size; rw [HSZ.out] at this; omega
  generalize termF t = F at *
  generalize fty t = T at *
  clear hfo htm hfv hb2 HRS HSZ hb0
  go_wp2_with fail
  refine htm2.mono ?_
  rintro e w5 ⟨A6, c6, B6, d6, S6, rfl, hL6, hS6, hb5⟩
  have hres6 := (hb5.block (w.heap.size + 1) (by omega)).trans hres2
  obtain ⟨r0, r1, r2, r3⟩ := BoxR.row4 hres6
  have z0 := frozen_of_row _ _ 0 _ _ hres6
  have z1 := frozen_of_row _ _ 1 _ _ hres6
  have z2 := frozen_of_row _ _ 2 _ _ hres6
  have z3 := frozen_of_row _ _ 3 _ _ hres6
  have hS9 : ∀ b ∈ S6, w.heap.size + 2 ≤ b := fun b hb => by have := hS6 b hb; omega
  have hbz := hbz2.trans (hb5.mono hbz2.size)
  have hpost : TmOut t w (.returned (.agg #[.int .i64 t.op, .int .i64 t.num, .slice A6 t.perm.length c6, .slice B6 t.kids.length d6])) ((((w5.setCell ⟨w.heap.size + 1, 0, none⟩ (.int .i64 t.op)).setCell ⟨w.heap.size + 1, 1, none⟩ (.int .i64 t.num)).setCell ⟨w.heap.size + 1, 2, none⟩ (.slice A6 t.perm.length c6)).setCell ⟨w.heap.size + 1, 3, none⟩ (.slice B6 t.kids.length d6)) :=
    ⟨A6, c6, B6, d6, S6, rfl, set4_own hL6 (fun b hb => by have := hS9 b hb; omega) _ _ _ _, fun b hb => by have := hS9 b hb; omega, set4_below hbz (by omega) _ _ _ _⟩
  clear htm2 hL6 hS6 hS9 hb5 hbz hbz2 hres6 hres2 hm hn
  go_wp2
  exact bodyPost_ret (v := .agg #[.int .i64 t.op, .int .i64 t.num, .slice A6 t.perm.length c6, .slice B6 t.kids.length d6]) (by simp [results, Try.results90, go_sem, r0, r1, r2, r3]) rfl hpost

/-- What a path leads to, as it is kept. -/
def KeptPost (t : Tm) (l : List Int) (w : World) (e : Ending) (w' : World) : Prop :=
  ∃ A c B d, e = .returned (.tuple #[.agg #[.int .i64 (orT (atR t l) (walkP t l).isSome).op, .int .i64 (orT (atR t l) (walkP t l).isSome).num, .slice A (orT (atR t l) (walkP t l).isSome).perm.length c, .slice B (orT (atR t l) (walkP t l).isSome).kids.length d], .bool (walkP t l).isSome]) ∧
    TmIn w (.agg #[.int .i64 (orT (atR t l) (walkP t l).isSome).op, .int .i64 (orT (atR t l) (walkP t l).isSome).num, .slice A (orT (atR t l) (walkP t l).isSome).perm.length c, .slice B (orT (atR t l) (walkP t l).isSome).kids.length d]) (orT (atR t l) (walkP t l).isSome) ∧ Below w.heap.size w w'
theorem kept_no {t : Tm} {l : List Int} {w w' : World} (h : walkP t l = none) (hb : Below w.heap.size w w') : KeptPost t l w (.returned (.tuple #[.agg #[.int .i64 0, .int .i64 0, .slice none 0 0, .slice none 0 0], .bool false])) w' := by
  unfold KeptPost
  rw [h]
  exact ⟨none, 0, none, 0, rfl, tm0_in w, hb⟩
theorem kept_yes {t u : Tm} {l : List Int} {w w' : World} {Au Bu : Option Addr} {cu du : Nat} (h : walkP t l = some u) (hu : TmIn w (.agg #[.int .i64 u.op, .int .i64 u.num, .slice Au u.perm.length cu, .slice Bu u.kids.length du]) u) (hb : Below w.heap.size w w') : KeptPost t l w (.returned (.tuple #[.agg #[.int .i64 u.op, .int .i64 u.num, .slice Au u.perm.length cu, .slice Bu u.kids.length du], .bool true])) w' := by
  have e : atR t l = u := by simp [atR, h]
  unfold KeptPost
  rw [h, e]
  exact ⟨Au, cu, Bu, du, rfl, hu, hb⟩

set_option maxRecDepth 100000 in
set_option maxHeartbeats 4000000 in
theorem keptAt_any (t : Tm) (l : List Int) (C : Option Addr) (cc : Nat) (xt : Value) (w : World) (hxt : TmIn w xt t) (hC : IntsAt w C l) (hll : l.length ≤ 1099511627776) :
    Calls Try.prog 89 #[xt, .slice C l.length cc] w (KeptPost t l w) := by
  have hX := hxt
  obtain ⟨At, ct, kvt, rfl, hp, hkk⟩ := hxt
  obtain ⟨Bt, dt, rfl⟩ := hkk.form
  have hb0 : Below w.heap.size w ((w.alloc (.cells #[.int .i64 t.op, .int .i64 t.num, .slice At t.perm.length ct, .slice Bt t.kids.length dt] 31)).alloc (.cells #[.int .i64 0, .int .i64 0, .slice none 0 0, .slice none 0 0] 31)) := ((Below.refl _ _).alloc (Nat.le_refl _) _).alloc (by simp) _
  obtain ⟨hres0, hrow0⟩ := box_row (Below.refl _ ((w.alloc (.cells #[.int .i64 t.op, .int .i64 t.num, .slice At t.perm.length ct, .slice Bt t.kids.length dt] 31)).alloc (.cells #[.int .i64 0, .int .i64 0, .slice none 0 0, .slice none 0 0] 31)))
  have HX := Lib.hid hX
  clear hX hp hkk
  go_enter Try.func89, Try.ntmps89
  go_wp2
  go_loopw [10] (fun i wr => ∃ (k : Nat) (u : Tm) (Au : Option Addr) (cu : Nat) (Bu : Option Addr) (du : Nat), k ≤ l.length ∧ i = .int .i64 k ∧ wr.heap[w.heap.size]? = some (.cells #[.int .i64 u.op, .int .i64 u.num, .slice Au u.perm.length cu, .slice Bu u.kids.length du] 31 (0, 0)) ∧ wr.heap[w.heap.size + 1]? = some (.cells #[.int .i64 0, .int .i64 0, .slice none 0 0, .slice none 0 0] 31 (0, 0)) ∧ Hid (TmIn w (.agg #[.int .i64 u.op, .int .i64 u.num, .slice Au u.perm.length cu, .slice Bu u.kids.length du]) u) ∧ Hid (walkP t l = walkP u (l.drop k)) ∧  Below w.heap.size w wr) (fun i _ => l.length - (intOf i).toNat)
  case atStart => exact ⟨0, t, At, ct, Bt, dt, Nat.zero_le _, rfl, hrow0, hres0, HX, Lib.hid (by rw [List.drop_zero]), hb0⟩
  case round =>
    obtain ⟨k, u, Au, cu, Bu, du, hk, rfl, hrow, hres, htu, hwk, hb⟩ := hrel
    by_cases hlt : k < l.length
    · obtain ⟨b1, o1, rfl, hb1, hc1⟩ := hC (by omega)
      have c1 := hc1 k hlt
      rw [← hb.cell (p := ⟨b1, _, none⟩) hb1] at c1
      obtain ⟨m0, m1, m2, m3⟩ := BoxR.row4 hrow
      obtain ⟨r0, r1, r2, r3⟩ := BoxR.row4 hres
      have z0 := frozen_of_row _ _ 0 _ _ hres; have z1 := frozen_of_row _ _ 1 _ _ hres; have z2 := frozen_of_row _ _ 2 _ _ hres; have z3 := frozen_of_row _ _ 3 _ _ hres
      by_cases hin : 0 ≤ itAt l k ∧ itAt l k < (u.kids.length : Int)
      · obtain ⟨m, hm⟩ : ∃ m : Nat, itAt l k = m := ⟨(itAt l k).toNat, by omega⟩
        have hnx : Hid (walkP t l = walkP (tmAt u.kids m) (l.drop (k + 1))) := Lib.hid (by rw [hwk.out, walkP_yes hlt hin, hm]; rfl)
        rw [hm] at c1 hin
        have hmk : m < u.kids.length := by omega
        have hm0 : (0 : Int) ≤ (m : Int) := by omega
        have hm1 : (m : Int) < (u.kids.length : Int) := by omega
        have hkv : TmsIn w (.slice Bu u.kids.length du) u.kids := by
          obtain ⟨A9, c9, kv9, e9, _, hk9⟩ := htu.out
          injection e9 with e9
          simp only [Array.mk.injEq, List.cons.injEq, and_true, true_and] at e9
          exact e9.2 ▸ hk9
        obtain ⟨b, off, A1, c1', B1, e1, rfl, hbl, d0, d1, d2, d3, hy⟩ := kid_cells hkv hmk
        rw [← hb.cell (p := ⟨b, _, none⟩) hbl] at d0 d1 d2 d3
        have hty := Lib.hid hy
        have y0 := frozen_of_row _ _ 0 _ _ hrow; have y1 := frozen_of_row _ _ 1 _ _ hrow; have y2 := frozen_of_row _ _ 2 _ _ hrow; have y3 := frozen_of_row _ _ 3 _ _ hrow
        have hrow2 := BoxR.set4_box hrow (.int .i64 (tmAt u.kids m).op) (.int .i64 (tmAt u.kids m).num) (.slice A1 (tmAt u.kids m).perm.length c1') (.slice B1 (tmAt u.kids m).kids.length e1)
        have hres2 := ((BoxR.set4_only wr w.heap.size (.int .i64 (tmAt u.kids m).op) (.int .i64 (tmAt u.kids m).num) (.slice A1 (tmAt u.kids m).perm.length c1') (.slice B1 (tmAt u.kids m).kids.length e1)).block (w.heap.size + 1) (BoxR.box_lt hres) (by simp)).trans hres
        have hb2 := set4_below hb (Nat.le_refl w.heap.size) (.int .i64 (tmAt u.kids m).op) (.int .i64 (tmAt u.kids m).num) (.slice A1 (tmAt u.kids m).perm.length c1') (.slice B1 (tmAt u.kids m).kids.length e1)
        clear hkv hy hwk htu hrow hres hb hin hc1 hC hm r0 r1 r2 r3 z0 z1 z2 z3
        generalize tmAt u.kids m = v at *
        go_wp2
        refine ⟨⟨k + 1, v, A1, c1', B1, e1, by omega, by go_num, hrow2, hres2, hty, hnx, hb2⟩, ?_⟩
        simp only [intOf]
        omega
      · have hnone : Hid (walkP t l = none) := Lib.hid (by rw [hwk.out, walkP_no hlt hin])
        have hbz := set4_below hb (show w.heap.size ≤ w.heap.size + 1 by omega) (.int .i64 0) (.int .i64 0) (.slice none 0 0) (.slice none 0 0)
        by_cases hneg : itAt l k < 0
        · clear hin hwk htu hrow hres hc1 hC hb
          generalize itAt l k = iv at *
          go_wp2
          exact bodyPost_ret (v := .tuple #[.agg #[.int .i64 0, .int .i64 0, .slice none 0 0, .slice none 0 0], .bool false]) (by simp [results, Try.results89, go_sem, r0, r1, r2, r3]) rfl (kept_no hnone.out hbz)
        · have hge : (u.kids.length : Int) ≤ itAt l k := by omega
          clear hin hwk htu hrow hres hc1 hC hb
          generalize itAt l k = iv at *
          go_wp2
          exact bodyPost_ret (v := .tuple #[.agg #[.int .i64 0, .int .i64 0, .slice none 0 0, .slice none 0 0], .bool false]) (by simp [results, Try.results89, go_sem, r0, r1, r2, r3]) rfl (kept_no hnone.out hbz)
    · have hsome : Hid (walkP t l = some u) := Lib.hid (by rw [hwk.out, List.drop_of_length_le (by omega), walkP_nil])
      have hbz := set4_below hb (show w.heap.size ≤ w.heap.size + 1 by omega) (.int .i64 u.op) (.int .i64 u.num) (.slice Au u.perm.length cu) (.slice Bu u.kids.length du)
      obtain ⟨m0, m1, m2, m3⟩ := BoxR.row4 hrow
      obtain ⟨r0, r1, r2, r3⟩ := BoxR.row4 hres
      have z0 := frozen_of_row _ _ 0 _ _ hres; have z1 := frozen_of_row _ _ 1 _ _ hres; have z2 := frozen_of_row _ _ 2 _ _ hres; have z3 := frozen_of_row _ _ 3 _ _ hres
      have hpost := kept_yes (w' := ((((wr.setCell ⟨w.heap.size + 1, 0, none⟩ (.int .i64 u.op)).setCell ⟨w.heap.size + 1, 1, none⟩ (.int .i64 u.num)).setCell ⟨w.heap.size + 1, 2, none⟩ (.slice Au u.perm.length cu)).setCell ⟨w.heap.size + 1, 3, none⟩ (.slice Bu u.kids.length du))) hsome.out htu.out hbz
      clear hwk hsome htu hrow hres hb hbz hC
      go_wp2
      exact bodyPost_ret (v := .tuple #[.agg #[.int .i64 u.op, .int .i64 u.num, .slice Au u.perm.length cu, .slice Bu u.kids.length du], .bool true]) (by simp [results, Try.results89, go_sem, r0, r1, r2, r3]) rfl hpost

set_option maxRecDepth 100000 in
set_option maxHeartbeats 8000000 in
/-- TermAt of the program. -/
theorem termAt_impl (t : Tm) (l : List Int) (C : Option Addr) (cc : Nat) (xt : Value) (w : World) (hxt : TmIn w xt t) (hC : IntsAt w C l) (hll : l.length ≤ 1099511627776) (hct : cntT t ≤ 1048576) :
    Calls Try.prog 45 #[xt, .slice C l.length cc] w (TmOutB (orT (atR t l) (atB t l)) (atB t l) w) := by
  have hft := fit_of t hct
  have hXt := hxt
  obtain ⟨At, ct, kvt, rfl, hpt, hkt⟩ := hxt
  obtain ⟨Bt, dt, rfl⟩ := hkt.form
  have hb0 : Below w.heap.size w ((w.alloc (.cells #[.int .i64 t.op, .int .i64 t.num, .slice At t.perm.length ct, .slice Bt t.kids.length dt] 31)).alloc (.cells #[.int .i64 0, .int .i64 0, .slice none 0 0, .slice none 0 0] 31)) := (((Below.refl _ w).alloc (by first | exact Nat.le_refl _ | (simp; done) | (simp; omega)) _).alloc (by first | exact Nat.le_refl _ | (simp; done) | (simp; omega)) _)
  have hsz : ((w.alloc (.cells #[.int .i64 t.op, .int .i64 t.num, .slice At t.perm.length ct, .slice Bt t.kids.length dt] 31)).alloc (.cells #[.int .i64 0, .int .i64 0, .slice none 0 0, .slice none 0 0] 31)).heap.size = w.heap.size + 2 := by simp
  have kkt : ((w.alloc (.cells #[.int .i64 t.op, .int .i64 t.num, .slice At t.perm.length ct, .slice Bt t.kids.length dt] 31)).alloc (.cells #[.int .i64 0, .int .i64 0, .slice none 0 0, .slice none 0 0] 31)).heap[w.heap.size]? = some (.cells #[.int .i64 t.op, .int .i64 t.num, .slice At t.perm.length ct, .slice Bt t.kids.length dt] 31 (0, 0)) := by
    have h := heap_alloc_new w (.cells #[.int .i64 t.op, .int .i64 t.num, .slice At t.perm.length ct, .slice Bt t.kids.length dt] 31)
    exact ((Below.heap_alloc _ _ _ (by first | (simp; done) | (simp; omega))).trans h)
  have kkR : ((w.alloc (.cells #[.int .i64 t.op, .int .i64 t.num, .slice At t.perm.length ct, .slice Bt t.kids.length dt] 31)).alloc (.cells #[.int .i64 0, .int .i64 0, .slice none 0 0, .slice none 0 0] 31)).heap[w.heap.size + 1]? = some (.cells #[.int .i64 0, .int .i64 0, .slice none 0 0, .slice none 0 0] 31 (0, 0)) := by
    have h := heap_alloc_new (w.alloc (.cells #[.int .i64 t.op, .int .i64 t.num, .slice At t.perm.length ct, .slice Bt t.kids.length dt] 31)) (.cells #[.int .i64 0, .int .i64 0, .slice none 0 0, .slice none 0 0] 31)
    simp only [World.size_alloc] at h
    exact h
  have HSZ := Lib.hid hsz
  have HCt := Lib.hid (fun (w' : World) (h : Below ((w.alloc (.cells #[.int .i64 t.op, .int .i64 t.num, .slice At t.perm.length ct, .slice Bt t.kids.length dt] 31)).alloc (.cells #[.int .i64 0, .int .i64 0, .slice none 0 0, .slice none 0 0] 31)).heap.size ((w.alloc (.cells #[.int .i64 t.op, .int .i64 t.num, .slice At t.perm.length ct, .slice Bt t.kids.length dt] 31)).alloc (.cells #[.int .i64 0, .int .i64 0, .slice none 0 0, .slice none 0 0] 31)) w') => BoxR.row4 ((h.block (w.heap.size) (by rw [hsz]; omega)).trans kkt))
  have HIt : Hid (∀ w' : World, Below ((w.alloc (.cells #[.int .i64 t.op, .int .i64 t.num, .slice At t.perm.length ct, .slice Bt t.kids.length dt] 31)).alloc (.cells #[.int .i64 0, .int .i64 0, .slice none 0 0, .slice none 0 0] 31)).heap.size ((w.alloc (.cells #[.int .i64 t.op, .int .i64 t.num, .slice At t.perm.length ct, .slice Bt t.kids.length dt] 31)).alloc (.cells #[.int .i64 0, .int .i64 0, .slice none 0 0, .slice none 0 0] 31)) w' → TmIn w' (.agg #[.int .i64 t.op, .int .i64 t.num, .slice At t.perm.length ct, .slice Bt t.kids.length dt]) t) := Lib.hid (fun w' h => hXt.below (hb0.trans (h.mono hb0.size)))
  have HR := Lib.hid (fun (w' : World) (h : Below ((w.alloc (.cells #[.int .i64 t.op, .int .i64 t.num, .slice At t.perm.length ct, .slice Bt t.kids.length dt] 31)).alloc (.cells #[.int .i64 0, .int .i64 0, .slice none 0 0, .slice none 0 0] 31)).heap.size ((w.alloc (.cells #[.int .i64 t.op, .int .i64 t.num, .slice At t.perm.length ct, .slice Bt t.kids.length dt] 31)).alloc (.cells #[.int .i64 0, .int .i64 0, .slice none 0 0, .slice none 0 0] 31)) w') => (h.block (w.heap.size + 1) (by rw [hsz]; omega)).trans kkR)
  have HB0 := Lib.hid hb0
  clear hsz hb0 kkR hXt hpt hkt kkt
  cases h0 : isTermB t with
  | false =>
    have HT := Lib.hid (atB_no (l := l) h0)
    go_enter Try.func45, Try.ntmps45
    have hg := isTerm_impl t _ (((w.alloc (.cells #[.int .i64 t.op, .int .i64 t.num, .slice At t.perm.length ct, .slice Bt t.kids.length dt] 31)).alloc (.cells #[.int .i64 0, .int .i64 0, .slice none 0 0, .slice none 0 0] 31))) (HIt.out (((w.alloc (.cells #[.int .i64 t.op, .int .i64 t.num, .slice At t.perm.length ct, .slice Bt t.kids.length dt] 31)).alloc (.cells #[.int .i64 0, .int .i64 0, .slice none 0 0, .slice none 0 0] 31))) (Below.refl _ _)) hft
    rw [h0] at hg
    go_wp2_with fail
    refine hg.mono ?_
    rintro e g0 ⟨rfl, hb0⟩
    have hw0 := hb0
    clear hg 
    have hq0 : w.heap.size + 2 ≤ g0.heap.size := by have h := hw0.size; rw [HSZ.out] at h; exact h
    have hres := HR.out g0 hw0
    obtain ⟨r0, r1, r2, r3⟩ := BoxR.row4 hres
    have z0 := frozen_of_row _ _ 0 _ _ hres
    have z1 := frozen_of_row _ _ 1 _ _ hres
    have z2 := frozen_of_row _ _ 2 _ _ hres
    have z3 := frozen_of_row _ _ 3 _ _ hres
    have hbz := HB0.out.trans (hw0.mono HB0.out.size)
    have hpost : TmOutB tm0 false w (.returned (.tuple #[.agg #[.int .i64 0, .int .i64 0, .slice none 0 0, .slice none 0 0], .bool false])) ((((g0.setCell ⟨w.heap.size + 1, 0, none⟩ (.int .i64 0)).setCell ⟨w.heap.size + 1, 1, none⟩ (.int .i64 0)).setCell ⟨w.heap.size + 1, 2, none⟩ (.slice none 0 0)).setCell ⟨w.heap.size + 1, 3, none⟩ (.slice none 0 0)) :=
      ⟨none, 0, none, 0, _, rfl, own_four own_none own_nokids (fun b hb => by simp at hb), fun b hb => by simp at hb, set4_below hbz (by omega) _ _ _ _⟩
    clear hres hbz HR HB0 HSZ HCt HIt hct hll hC hft h0 
    go_wp2
    exact bodyPost_ret (v := .tuple #[.agg #[.int .i64 0, .int .i64 0, .slice none 0 0, .slice none 0 0], .bool false]) (by simp [results, Try.results45, go_sem, r0, r1, r2, r3]) rfl (by rw [HT.out, orT_no]; exact hpost)
  | true =>
    have HKP := Lib.hid (fun (W : World) (h : Below ((w.alloc (.cells #[.int .i64 t.op, .int .i64 t.num, .slice At t.perm.length ct, .slice Bt t.kids.length dt] 31)).alloc (.cells #[.int .i64 0, .int .i64 0, .slice none 0 0, .slice none 0 0] 31)).heap.size ((w.alloc (.cells #[.int .i64 t.op, .int .i64 t.num, .slice At t.perm.length ct, .slice Bt t.kids.length dt] 31)).alloc (.cells #[.int .i64 0, .int .i64 0, .slice none 0 0, .slice none 0 0] 31)) W) => keptAt_any t l C cc _ W (HIt.out W h) (hC.below (HB0.out.trans (h.mono HB0.out.size))) hll)
    have HEB := Lib.hid (show atB t l = (walkP t l).isSome by simp [atB, h0])
    have HTT := Lib.hid (fun (h : (walkP t l).isSome = true) => at_term (t := t) (l := l) (by simp [atB, h0, h]))
    unfold KeptPost at HKP
    generalize atB t l = bb at *
    generalize atR t l = rr0 at *
    generalize (walkP t l).isSome = ok at *
    generalize hrr : orT rr0 ok = r at *
    have HRR := Lib.hid hrr
    clear hrr
    go_enter Try.func45, Try.ntmps45
    have hg := isTerm_impl t _ (((w.alloc (.cells #[.int .i64 t.op, .int .i64 t.num, .slice At t.perm.length ct, .slice Bt t.kids.length dt] 31)).alloc (.cells #[.int .i64 0, .int .i64 0, .slice none 0 0, .slice none 0 0] 31))) (HIt.out (((w.alloc (.cells #[.int .i64 t.op, .int .i64 t.num, .slice At t.perm.length ct, .slice Bt t.kids.length dt] 31)).alloc (.cells #[.int .i64 0, .int .i64 0, .slice none 0 0, .slice none 0 0] 31))) (Below.refl _ _)) hft
    rw [h0] at hg
    go_wp2_with fail
    refine hg.mono ?_
    rintro e g0 ⟨rfl, hb0⟩
    have hw0 := hb0
    clear hg 
    have hq0 : w.heap.size + 2 ≤ g0.heap.size := by have h := hw0.size; rw [HSZ.out] at h; exact h
    obtain ⟨e1t0, e1t1, e1t2, e1t3⟩ := HCt.out g0 hw0
    clear h0 hct hft hC
    have hkp := HKP.out g0 hw0
    go_wp2_with fail
    refine hkp.mono ?_
    rintro e w4 ⟨A4, c4, B4, d4, rfl, h4, hb4⟩
    have hbx : Below w4.heap.size w4 (w4.alloc (.cells #[.int .i64 r.op, .int .i64 r.num, .slice A4 r.perm.length c4, .slice B4 r.kids.length d4] 31)) := (Below.refl _ _).alloc (Nat.le_refl _) _
    have hw4 := hw0.trans (hb4.mono hw0.size)
    have hwx := hw4.trans (hbx.mono hw4.size)
    clear hkp HKP e1t0 e1t1 e1t2 e1t3
    cases hok : ok with
    | false =>
      have HOK := Lib.hid hok
      have hres := HR.out _ hwx
      obtain ⟨r0, r1, r2, r3⟩ := BoxR.row4 hres
      have z0 := frozen_of_row _ _ 0 _ _ hres
      have z1 := frozen_of_row _ _ 1 _ _ hres
      have z2 := frozen_of_row _ _ 2 _ _ hres
      have z3 := frozen_of_row _ _ 3 _ _ hres
      have hbz := HB0.out.trans (hwx.mono HB0.out.size)
      have hpost : TmOutB tm0 false w (.returned (.tuple #[.agg #[.int .i64 0, .int .i64 0, .slice none 0 0, .slice none 0 0], .bool false])) (((((w4.alloc (.cells #[.int .i64 r.op, .int .i64 r.num, .slice A4 r.perm.length c4, .slice B4 r.kids.length d4] 31)).setCell ⟨w.heap.size + 1, 0, none⟩ (.int .i64 0)).setCell ⟨w.heap.size + 1, 1, none⟩ (.int .i64 0)).setCell ⟨w.heap.size + 1, 2, none⟩ (.slice none 0 0)).setCell ⟨w.heap.size + 1, 3, none⟩ (.slice none 0 0)) :=
        ⟨none, 0, none, 0, _, rfl, own_four own_none own_nokids (fun b hb => by simp at hb), fun b hb => by simp at hb, set4_below hbz (by omega) _ _ _ _⟩
      clear hres hbz HR HB0 HSZ HCt HIt hb4 hbx hw4 hwx h4 HTT hok
      go_wp2
      exact bodyPost_ret (v := .tuple #[.agg #[.int .i64 0, .int .i64 0, .slice none 0 0, .slice none 0 0], .bool false]) (by simp [results, Try.results45, go_sem, r0, r1, r2, r3]) rfl (by rw [HEB.out, HOK.out, orT_no]; exact hpost)
    | true =>
      have HOK := Lib.hid hok
      have hrt : isTermB r = true := by rw [← HRR.out, hok]; exact HTT.out hok
      have h5 := copyOf_any r hrt _ (w4.alloc (.cells #[.int .i64 r.op, .int .i64 r.num, .slice A4 r.perm.length c4, .slice B4 r.kids.length d4] 31)) ((h4.below hb4).below hbx)
      have hq4 : w.heap.size + 2 ≤ w4.heap.size := by have h := hw4.size; rw [HSZ.out] at h; exact h
      clear hb4 h4 HTT hok hrt
      go_wp2_with fail
      refine h5.mono ?_
      rintro e w6 ⟨A6, c6, B6, d6, S6, rfl, hL6, hS6, hb6⟩
      have hw6 := hwx.trans (hb6.mono hwx.size)
      have hres := HR.out w6 hw6
      obtain ⟨r0, r1, r2, r3⟩ := BoxR.row4 hres
      have z0 := frozen_of_row _ _ 0 _ _ hres
      have z1 := frozen_of_row _ _ 1 _ _ hres
      have z2 := frozen_of_row _ _ 2 _ _ hres
      have z3 := frozen_of_row _ _ 3 _ _ hres
      have hbz := HB0.out.trans (hw6.mono HB0.out.size)
      have hS9 : ∀ b ∈ S6, w.heap.size + 2 ≤ b := fun b hb => by have := hS6 b hb; rw [World.size_alloc] at this; omega
      have hpost : TmOutB r true w (.returned (.tuple #[.agg #[.int .i64 r.op, .int .i64 r.num, .slice A6 r.perm.length c6, .slice B6 r.kids.length d6], .bool true])) ((((w6.setCell ⟨w.heap.size + 1, 0, none⟩ (.int .i64 r.op)).setCell ⟨w.heap.size + 1, 1, none⟩ (.int .i64 r.num)).setCell ⟨w.heap.size + 1, 2, none⟩ (.slice A6 r.perm.length c6)).setCell ⟨w.heap.size + 1, 3, none⟩ (.slice B6 r.kids.length d6)) :=
        ⟨A6, c6, B6, d6, S6, rfl, set4_own hL6 (fun b hb => by have := hS9 b hb; omega) _ _ _ _, fun b hb => by have := hS9 b hb; omega, set4_below hbz (by omega) _ _ _ _⟩
      clear hres hbz HR HB0 HSZ HCt HIt hb6 hbx hw4 hwx hw6 h5 hL6 hS6 hS9
      go_wp2
      exact bodyPost_ret (v := .tuple #[.agg #[.int .i64 r.op, .int .i64 r.num, .slice A6 r.perm.length c6, .slice B6 r.kids.length d6], .bool true]) (by simp [results, Try.results45, go_sem, r0, r1, r2, r3]) rfl ((by rw [HEB.out, HOK.out]; rw [HOK.out] at HRR; rw [show orT rr0 true = r from HRR.out]; exact hpost))

set_option maxRecDepth 100000 in
set_option maxHeartbeats 8000000 in
/-- TermAt of the model. -/
theorem termAt_spec (t : Tm) (l : List Int) (C : Option Addr) (cc : Nat) (xt : Value) (w : World) (hxt : TmIn w xt t) (hC : IntsAt w C l) (hll : l.length ≤ 1099511627776) (hct : cntT t ≤ 1048576) :
    Calls Try.prog 43 #[xt, .slice C l.length cc] w (TmOutB (orT (atR t l) (atB t l)) (atB t l) w) := by
  have hXX := hxt
  have hXt := hxt
  obtain ⟨At, ct, kvt, rfl, hpt, hkt⟩ := hxt
  obtain ⟨Bt, dt, rfl⟩ := hkt.form
  have hb0 : Below w.heap.size w ((w.alloc (.cells #[.int .i64 t.op, .int .i64 t.num, .slice At t.perm.length ct, .slice Bt t.kids.length dt] 31)).alloc (.cells #[.int .i64 0, .int .i64 0, .slice none 0 0, .slice none 0 0] 31)) := (((Below.refl _ w).alloc (by first | exact Nat.le_refl _ | (simp; done) | (simp; omega)) _).alloc (by first | exact Nat.le_refl _ | (simp; done) | (simp; omega)) _)
  have hsz : ((w.alloc (.cells #[.int .i64 t.op, .int .i64 t.num, .slice At t.perm.length ct, .slice Bt t.kids.length dt] 31)).alloc (.cells #[.int .i64 0, .int .i64 0, .slice none 0 0, .slice none 0 0] 31)).heap.size = w.heap.size + 2 := by simp
  have kkt : ((w.alloc (.cells #[.int .i64 t.op, .int .i64 t.num, .slice At t.perm.length ct, .slice Bt t.kids.length dt] 31)).alloc (.cells #[.int .i64 0, .int .i64 0, .slice none 0 0, .slice none 0 0] 31)).heap[w.heap.size]? = some (.cells #[.int .i64 t.op, .int .i64 t.num, .slice At t.perm.length ct, .slice Bt t.kids.length dt] 31 (0, 0)) := by
    have h := heap_alloc_new w (.cells #[.int .i64 t.op, .int .i64 t.num, .slice At t.perm.length ct, .slice Bt t.kids.length dt] 31)
    exact ((Below.heap_alloc _ _ _ (by first | (simp; done) | (simp; omega))).trans h)
  have kkR : ((w.alloc (.cells #[.int .i64 t.op, .int .i64 t.num, .slice At t.perm.length ct, .slice Bt t.kids.length dt] 31)).alloc (.cells #[.int .i64 0, .int .i64 0, .slice none 0 0, .slice none 0 0] 31)).heap[w.heap.size + 1]? = some (.cells #[.int .i64 0, .int .i64 0, .slice none 0 0, .slice none 0 0] 31 (0, 0)) := by
    have h := heap_alloc_new (w.alloc (.cells #[.int .i64 t.op, .int .i64 t.num, .slice At t.perm.length ct, .slice Bt t.kids.length dt] 31)) (.cells #[.int .i64 0, .int .i64 0, .slice none 0 0, .slice none 0 0] 31)
    simp only [World.size_alloc] at h
    exact h
  have HSZ := Lib.hid hsz
  have HCt := Lib.hid (fun (w' : World) (h : Below ((w.alloc (.cells #[.int .i64 t.op, .int .i64 t.num, .slice At t.perm.length ct, .slice Bt t.kids.length dt] 31)).alloc (.cells #[.int .i64 0, .int .i64 0, .slice none 0 0, .slice none 0 0] 31)).heap.size ((w.alloc (.cells #[.int .i64 t.op, .int .i64 t.num, .slice At t.perm.length ct, .slice Bt t.kids.length dt] 31)).alloc (.cells #[.int .i64 0, .int .i64 0, .slice none 0 0, .slice none 0 0] 31)) w') => BoxR.row4 ((h.block (w.heap.size) (by rw [hsz]; omega)).trans kkt))
  have HIt : Hid (∀ w' : World, Below ((w.alloc (.cells #[.int .i64 t.op, .int .i64 t.num, .slice At t.perm.length ct, .slice Bt t.kids.length dt] 31)).alloc (.cells #[.int .i64 0, .int .i64 0, .slice none 0 0, .slice none 0 0] 31)).heap.size ((w.alloc (.cells #[.int .i64 t.op, .int .i64 t.num, .slice At t.perm.length ct, .slice Bt t.kids.length dt] 31)).alloc (.cells #[.int .i64 0, .int .i64 0, .slice none 0 0, .slice none 0 0] 31)) w' → TmIn w' (.agg #[.int .i64 t.op, .int .i64 t.num, .slice At t.perm.length ct, .slice Bt t.kids.length dt]) t) := Lib.hid (fun w' h => hXt.below (hb0.trans (h.mono hb0.size)))
  have HR := Lib.hid (fun (w' : World) (h : Below ((w.alloc (.cells #[.int .i64 t.op, .int .i64 t.num, .slice At t.perm.length ct, .slice Bt t.kids.length dt] 31)).alloc (.cells #[.int .i64 0, .int .i64 0, .slice none 0 0, .slice none 0 0] 31)).heap.size ((w.alloc (.cells #[.int .i64 t.op, .int .i64 t.num, .slice At t.perm.length ct, .slice Bt t.kids.length dt] 31)).alloc (.cells #[.int .i64 0, .int .i64 0, .slice none 0 0, .slice none 0 0] 31)) w') => (h.block (w.heap.size + 1) (by rw [hsz]; omega)).trans kkR)
  have HB0 := Lib.hid hb0
  clear hsz hb0 kkR hXt hpt hkt kkt
  cases h0 : isTermB t with
  | false =>
    have HT := Lib.hid (atB_no (l := l) h0)
    go_enter Try.func43, Try.ntmps43
    have hg := isTerm_spec t _ (((w.alloc (.cells #[.int .i64 t.op, .int .i64 t.num, .slice At t.perm.length ct, .slice Bt t.kids.length dt] 31)).alloc (.cells #[.int .i64 0, .int .i64 0, .slice none 0 0, .slice none 0 0] 31))) (HIt.out (((w.alloc (.cells #[.int .i64 t.op, .int .i64 t.num, .slice At t.perm.length ct, .slice Bt t.kids.length dt] 31)).alloc (.cells #[.int .i64 0, .int .i64 0, .slice none 0 0, .slice none 0 0] 31))) (Below.refl _ _)) hct
    rw [h0] at hg
    go_wp2_with fail
    refine hg.mono ?_
    rintro e g0 ⟨rfl, hb0⟩
    have hw0 := hb0
    clear hg 
    have hq0 : w.heap.size + 2 ≤ g0.heap.size := by have h := hw0.size; rw [HSZ.out] at h; exact h
    have hres := HR.out g0 hw0
    obtain ⟨r0, r1, r2, r3⟩ := BoxR.row4 hres
    have z0 := frozen_of_row _ _ 0 _ _ hres
    have z1 := frozen_of_row _ _ 1 _ _ hres
    have z2 := frozen_of_row _ _ 2 _ _ hres
    have z3 := frozen_of_row _ _ 3 _ _ hres
    have hbz := HB0.out.trans (hw0.mono HB0.out.size)
    have hpost : TmOutB tm0 false w (.returned (.tuple #[.agg #[.int .i64 0, .int .i64 0, .slice none 0 0, .slice none 0 0], .bool false])) ((((g0.setCell ⟨w.heap.size + 1, 0, none⟩ (.int .i64 0)).setCell ⟨w.heap.size + 1, 1, none⟩ (.int .i64 0)).setCell ⟨w.heap.size + 1, 2, none⟩ (.slice none 0 0)).setCell ⟨w.heap.size + 1, 3, none⟩ (.slice none 0 0)) :=
      ⟨none, 0, none, 0, _, rfl, own_four own_none own_nokids (fun b hb => by simp at hb), fun b hb => by simp at hb, set4_below hbz (by omega) _ _ _ _⟩
    clear hres hbz HR HB0 HSZ HCt HIt hct hll hC h0 hXX 
    go_wp2
    exact bodyPost_ret (v := .tuple #[.agg #[.int .i64 0, .int .i64 0, .slice none 0 0, .slice none 0 0], .bool false]) (by simp [results, Try.results43, go_sem, r0, r1, r2, r3]) rfl (by rw [HT.out, orT_no]; exact hpost)
  | true =>
    have HEB := Lib.hid (show atB t l = (walkP t l).isSome by simp [atB, h0])
    have H0 := Lib.hid h0
    have HXX := Lib.hid hXX
    have HRW := Lib.hid (fun (W : World) (h : Below ((w.alloc (.cells #[.int .i64 t.op, .int .i64 t.num, .slice At t.perm.length ct, .slice Bt t.kids.length dt] 31)).alloc (.cells #[.int .i64 0, .int .i64 0, .slice none 0 0, .slice none 0 0] 31)).heap.size ((w.alloc (.cells #[.int .i64 t.op, .int .i64 t.num, .slice At t.perm.length ct, .slice Bt t.kids.length dt] 31)).alloc (.cells #[.int .i64 0, .int .i64 0, .slice none 0 0, .slice none 0 0] 31)) W) => (h.block w.heap.size (by simp; omega)).trans (box_row (Below.refl _ ((w.alloc (.cells #[.int .i64 t.op, .int .i64 t.num, .slice At t.perm.length ct, .slice Bt t.kids.length dt] 31)).alloc (.cells #[.int .i64 0, .int .i64 0, .slice none 0 0, .slice none 0 0] 31)))).2)
    go_enter Try.func43, Try.ntmps43
    have hg := isTerm_spec t _ (((w.alloc (.cells #[.int .i64 t.op, .int .i64 t.num, .slice At t.perm.length ct, .slice Bt t.kids.length dt] 31)).alloc (.cells #[.int .i64 0, .int .i64 0, .slice none 0 0, .slice none 0 0] 31))) (HIt.out (((w.alloc (.cells #[.int .i64 t.op, .int .i64 t.num, .slice At t.perm.length ct, .slice Bt t.kids.length dt] 31)).alloc (.cells #[.int .i64 0, .int .i64 0, .slice none 0 0, .slice none 0 0] 31))) (Below.refl _ _)) hct
    rw [h0] at hg
    go_wp2_with fail
    refine hg.mono ?_
    rintro e g0 ⟨rfl, hb0⟩
    have hw0 := hb0
    clear hg 
    have hq0 : w.heap.size + 2 ≤ g0.heap.size := by have h := hw0.size; rw [HSZ.out] at h; exact h
    obtain ⟨e1t0, e1t1, e1t2, e1t3⟩ := HCt.out g0 hw0
    have hbw := HB0.out.trans (hw0.mono HB0.out.size)
    have hrow0 := HRW.out g0 hw0
    have hres0 := HR.out g0 hw0
    clear h0 hct hXX HRW HR HCt HIt hb0
    go_wp2
    clear e1t0 e1t1 e1t2 e1t3
    go_loopw [14] (fun i wr => ∃ (k : Nat) (u : Tm) (Au : Option Addr) (cu : Nat) (Bu : Option Addr) (du : Nat), k ≤ l.length ∧ i = .int .i64 k ∧ wr.heap[w.heap.size]? = some (.cells #[.int .i64 u.op, .int .i64 u.num, .slice Au u.perm.length cu, .slice Bu u.kids.length du] 31 (0, 0)) ∧ wr.heap[w.heap.size + 1]? = some (.cells #[.int .i64 0, .int .i64 0, .slice none 0 0, .slice none 0 0] 31 (0, 0)) ∧ Hid (TmIn w (.agg #[.int .i64 u.op, .int .i64 u.num, .slice Au u.perm.length cu, .slice Bu u.kids.length du]) u) ∧ Hid (walkP t l = walkP u (l.drop k)) ∧ Hid (isTermB u = true) ∧ Below w.heap.size w wr) (fun i _ => l.length - (intOf i).toNat)
    case atStart => exact ⟨0, t, At, ct, Bt, dt, Nat.zero_le _, rfl, hrow0, hres0, HXX, Lib.hid (by rw [List.drop_zero]), Lib.hid H0.out, hbw⟩
    case round =>
      obtain ⟨k, u, Au, cu, Bu, du, hk, rfl, hrow, hres, htu, hwk, hit, hb⟩ := hrel
      by_cases hlt : k < l.length
      · obtain ⟨b1, o1, rfl, hb1, hc1⟩ := hC (by omega)
        have c1 := hc1 k hlt
        rw [← hb.cell (p := ⟨b1, _, none⟩) hb1] at c1
        obtain ⟨m0, m1, m2, m3⟩ := BoxR.row4 hrow
        obtain ⟨r0, r1, r2, r3⟩ := BoxR.row4 hres
        have z0 := frozen_of_row _ _ 0 _ _ hres; have z1 := frozen_of_row _ _ 1 _ _ hres; have z2 := frozen_of_row _ _ 2 _ _ hres; have z3 := frozen_of_row _ _ 3 _ _ hres
        by_cases hin : 0 ≤ itAt l k ∧ itAt l k < (u.kids.length : Int)
        · obtain ⟨m, hm⟩ : ∃ m : Nat, itAt l k = m := ⟨(itAt l k).toNat, by omega⟩
          have hnx : Hid (walkP t l = walkP (tmAt u.kids m) (l.drop (k + 1))) := Lib.hid (by rw [hwk.out, walkP_yes hlt hin, hm]; rfl)
          rw [hm] at c1 hin
          have hmk : m < u.kids.length := by omega
          have hm0 : (0 : Int) ≤ (m : Int) := by omega
          have hm1 : (m : Int) < (u.kids.length : Int) := by omega
          have hkv : TmsIn w (.slice Bu u.kids.length du) u.kids := by
            obtain ⟨A9, c9, kv9, e9, _, hk9⟩ := htu.out
            injection e9 with e9
            simp only [Array.mk.injEq, List.cons.injEq, and_true, true_and] at e9
            exact e9.2 ▸ hk9
          obtain ⟨b, off, A1, c1', B1, e1, rfl, hbl, d0, d1, d2, d3, hy⟩ := kid_cells hkv hmk
          rw [← hb.cell (p := ⟨b, _, none⟩) hbl] at d0 d1 d2 d3
          have hty := Lib.hid hy
          have hit2 := Lib.hid (kid_term hit.out hmk)
          have y0 := frozen_of_row _ _ 0 _ _ hrow; have y1 := frozen_of_row _ _ 1 _ _ hrow; have y2 := frozen_of_row _ _ 2 _ _ hrow; have y3 := frozen_of_row _ _ 3 _ _ hrow
          have hrow2 := BoxR.set4_box hrow (.int .i64 (tmAt u.kids m).op) (.int .i64 (tmAt u.kids m).num) (.slice A1 (tmAt u.kids m).perm.length c1') (.slice B1 (tmAt u.kids m).kids.length e1)
          have hres2 := ((BoxR.set4_only wr w.heap.size (.int .i64 (tmAt u.kids m).op) (.int .i64 (tmAt u.kids m).num) (.slice A1 (tmAt u.kids m).perm.length c1') (.slice B1 (tmAt u.kids m).kids.length e1)).block (w.heap.size + 1) (BoxR.box_lt hres) (by simp)).trans hres
          have hb2 := set4_below hb (Nat.le_refl w.heap.size) (.int .i64 (tmAt u.kids m).op) (.int .i64 (tmAt u.kids m).num) (.slice A1 (tmAt u.kids m).perm.length c1') (.slice B1 (tmAt u.kids m).kids.length e1)
          clear hkv hy hwk htu hrow hres hb hin hc1 hC hm r0 r1 r2 r3 z0 z1 z2 z3
          generalize tmAt u.kids m = v at *
          go_wp2
          refine ⟨⟨k + 1, v, A1, c1', B1, e1, by omega, by go_num, hrow2, hres2, hty, hnx, hit2, hb2⟩, ?_⟩
          simp only [intOf]
          omega
        · have hnone : Hid (walkP t l = none) := Lib.hid (by rw [hwk.out, walkP_no hlt hin])
          have hbz := set4_below hb (show w.heap.size ≤ w.heap.size + 1 by omega) (.int .i64 0) (.int .i64 0) (.slice none 0 0) (.slice none 0 0)
          by_cases hneg : itAt l k < 0
          · clear hin hwk htu hrow hres hc1 hC hb
            generalize itAt l k = iv at *
            go_wp2
            exact bodyPost_ret (v := .tuple #[.agg #[.int .i64 0, .int .i64 0, .slice none 0 0, .slice none 0 0], .bool false]) (by simp [results, Try.results43, go_sem, r0, r1, r2, r3]) rfl (by rw [show atB t l = false from atB_none hnone.out, orT_no]; exact ⟨none, 0, none, 0, _, rfl, own_four own_none own_nokids (fun b hb => by simp at hb), fun b hb => by simp at hb, hbz⟩)
          · have hge : (u.kids.length : Int) ≤ itAt l k := by omega
            clear hin hwk htu hrow hres hc1 hC hb
            generalize itAt l k = iv at *
            go_wp2
            exact bodyPost_ret (v := .tuple #[.agg #[.int .i64 0, .int .i64 0, .slice none 0 0, .slice none 0 0], .bool false]) (by simp [results, Try.results43, go_sem, r0, r1, r2, r3]) rfl (by rw [show atB t l = false from atB_none hnone.out, orT_no]; exact ⟨none, 0, none, 0, _, rfl, own_four own_none own_nokids (fun b hb => by simp at hb), fun b hb => by simp at hb, hbz⟩)
      · have hsome : Hid (walkP t l = some u) := Lib.hid (by rw [hwk.out, List.drop_of_length_le (by omega), walkP_nil])
        have hlc := l2Copy_any u (term_good hit.out) (by have := term_size hit.out; omega) _ wr (htu.out.below hb)
        obtain ⟨m0, m1, m2, m3⟩ := BoxR.row4 hrow
        have HROW := Lib.hid (fun (W : World) (h : Below wr.heap.size wr W) => (h.block (w.heap.size + 1) (BoxR.box_lt hres)).trans hres)
        have hlt9 : w.heap.size + 1 < wr.heap.size := BoxR.box_lt hres
        have HU := Lib.hid (show atB t l = true ∧ atR t l = u from atB_some H0.out hsome.out)
        clear hwk hsome htu hrow hres hC hit H0 HXX
        go_wp2_with fail
        refine hlc.mono ?_
        rintro e w6 ⟨A6, c6, B6, d6, S6, rfl, hL6, hS6, hb6⟩
        have hres := HROW.out w6 hb6
        obtain ⟨r0, r1, r2, r3⟩ := BoxR.row4 hres
        have z0 := frozen_of_row _ _ 0 _ _ hres; have z1 := frozen_of_row _ _ 1 _ _ hres; have z2 := frozen_of_row _ _ 2 _ _ hres; have z3 := frozen_of_row _ _ 3 _ _ hres
        have hbz := hb.trans (hb6.mono hb.size)
        have hpost : TmOutB u true w (.returned (.tuple #[.agg #[.int .i64 u.op, .int .i64 u.num, .slice A6 u.perm.length c6, .slice B6 u.kids.length d6], .bool true])) ((((w6.setCell ⟨w.heap.size + 1, 0, none⟩ (.int .i64 u.op)).setCell ⟨w.heap.size + 1, 1, none⟩ (.int .i64 u.num)).setCell ⟨w.heap.size + 1, 2, none⟩ (.slice A6 u.perm.length c6)).setCell ⟨w.heap.size + 1, 3, none⟩ (.slice B6 u.kids.length d6)) :=
          ⟨A6, c6, B6, d6, S6, rfl, set4_own hL6 (fun b hb => by have := hS6 b hb; omega) _ _ _ _, fun b hb => by have := hS6 b hb; omega, set4_below hbz (by omega) _ _ _ _⟩
        clear hlc hL6 hS6 hb6 hb hbz hres HROW m0 m1 m2 m3
        go_wp2
        exact bodyPost_ret (v := .tuple #[.agg #[.int .i64 u.op, .int .i64 u.num, .slice A6 u.perm.length c6, .slice B6 u.kids.length d6], .bool true]) (by simp [results, Try.results43, go_sem, r0, r1, r2, r3]) rfl (by rw [HU.out.1, HU.out.2, orT_yes]; exact hpost)
end Go.Proofs.Ytnomidnjglbedaa
