/-
  Function terms without names, in the model, as contracts.
-/
import Derived.Test.YtihijigbdpjcoaaGreatKIndexOf16
import Derived.Test.YtihijigbdpjcoaaGreatKIndexOf17
import Derived.Test.YtihijigbdpjcoaaGreatKIndexOf20
namespace Go.Proofs.YtihijigbdpjcoaaGreat
open Go.RowKit Go.Sort
set_option linter.unusedVariables false

theorem idxOf_first : ∀ (l : List Int) (k : Nat) (a : Int), k < l.length → itAt l k = a → (∀ j, j < k → itAt l j ≠ a) → l.idxOf a = k
  | [], k, a, h, _, _ => by simp at h
  | x :: r, 0, a, _, e, _ => by
    have : x = a := e
    rw [List.idxOf_cons]; simp [this]
  | x :: r, k + 1, a, h, e, hn => by
    have h0 : x ≠ a := hn 0 (by omega)
    rw [List.idxOf_cons]
    have hx : (x == a) = false := by simpa using h0
    rw [hx]
    have := idxOf_first r k a (by simpa using h) e (fun j hj => hn (j + 1) (by omega))
    simp [this]
theorem itAt_rev {l : List Int} {i : Nat} (h : i < l.length) : itAt l.reverse i = itAt l (l.length - 1 - i) := by
  rw [itAt_get _ _ (by simpa using h), itAt_get _ _ (by omega), List.getElem_reverse]
theorem idx_rev {l : List Int} {m : Nat} {a : Int} (h : m < l.length) (e : itAt l m = a) (hn : ∀ j : Nat, (m : Int) < j → j < l.length → itAt l j ≠ a) : idxI l.reverse a = (l.length : Int) - 1 - m := by
  have h1 := idxOf_first l.reverse (l.length - 1 - m) a (by rw [List.length_reverse]; omega) (by rw [itAt_rev (by omega), show l.length - 1 - (l.length - 1 - m) = m by omega]; exact e)
    (fun j hj => by rw [itAt_rev (by omega)]; exact hn _ (by omega) (by omega))
  have h2 : hasB l.reverse a = true := by
    unfold hasB
    rw [List.contains_iff_mem, List.mem_reverse, ← e, itAt_get l m h]
    exact List.getElem_mem h
  rw [idxI_in h2, h1]
  omega
theorem idx_none8 {l : List Int} {a : Int} (hn : ∀ j : Nat, (-1 : Int) < j → j < l.length → itAt l j ≠ a) : idxI l.reverse a = -1 := by
  refine idxI_out ?_
  unfold hasB
  rw [← Bool.not_eq_true, List.contains_iff_mem, List.mem_reverse]
  intro hm
  obtain ⟨j, hj, e⟩ := List.getElem_of_mem hm
  exact hn j (by omega) hj (by rw [itAt_get l j hj]; exact e)

theorem step_append_ints8 {w : World} {ops : Array Oper} {o : Oper} {a : Act} {K : Act → World → Prop} {Q : Exit → Act → World → Prop} {E : Prop} (hgd : o.guard = none) (s x : Operand)
    (ho : o.op = .call { callee := .builtin .append, args := #[s, x], argTypes := #[65, 65] })
    (base : Nat) (v : Value) (n : Nat) (xs : List Value) (hs : a.eval s = v) (hown : w.ownsRow base 3 1 v n xs) (ad : Addr) (c : Nat) (l : List Int) (hx : a.eval x = .slice (some ad) l.length c) (hA : IntsAt w (some ad) l) (h63 : n + l.length ≤ 1099511627776) (hbase : base ≤ w.heap.size)
    (h : ∀ v' w', w'.ownsRow base 3 1 v' (n + l.length) (xs ++ icells l) → w.grownBy w' v.ownBlock → K (a.put o.dst v') w') :
    if Region.wanted o (yielded ops a.tmps) = true then Oper.wp Tryz.prog o a w K Q else E := by
  have hw : Region.wanted o (yielded ops a.tmps) = true := by simp [Region.wanted, hgd]
  rw [if_pos hw]
  obtain ⟨i0, hi0, hz0, hz1, hz2⟩ := info_parts int_infoM
  obtain ⟨v', w', hr, h2, h3, _⟩ := run_append_own (P := Tryz.prog) w base 65 o.type 3 i0 (.int .i64 0) 1 8 Tryz.underlying65 hi0 hz0 hz1 hz2 rfl (by decide) v n xs hown ad l.length c (icells l) (by rw [icells_len, Nat.mul_one]) (ints_news hA) (icells_one l) (by unfold maxLen; omega) (by omega) hbase
  unfold Oper.wp execOp
  simp only [ho, resolve, invoke, builtin, Sem.run_bind, Sem.run_pure, Result.andThen_ok, List.map_toArray, List.map_cons, List.map_nil, hs, hx, hr]
  exact h v' w' h2 h3

set_option maxRecDepth 100000 in
set_option maxHeartbeats 2000000 in
theorem l8_var (a : Int) (At B : Option Addr) (pl ct kl d : Nat) (A : Option Addr) (c : Nat) (bd : List Int) (w : World) (hA : IntsAt w A bd) (hl : bd.length ≤ 1048576) :
    Calls Tryz.prog 31 #[.agg #[.int .i64 1, .int .i64 a, .slice At pl ct, .slice B kl d], .slice A bd.length c] w (IxOut (liIx (unL (.var a) bd.reverse)) w) := by
  have hb0 : Below w.heap.size w ((w.alloc (.cells #[.int .i64 1, .int .i64 a, .slice At pl ct, .slice B kl d] 35)).alloc (.cells #[.int .i64 0, .int .i64 0, .slice none 0 0] 29)) := ((Below.refl _ _).alloc (Nat.le_refl _) _).alloc (by simp) _
  have HB0 := Lib.hid hb0
  have hres := secondI w (.cells #[.int .i64 1, .int .i64 a, .slice At pl ct, .slice B kl d] 35) #[.int .i64 0, .int .i64 0, .slice none 0 0] 29
  have HR := Lib.hid hres
  have hbx : ((w.alloc (.cells #[.int .i64 1, .int .i64 a, .slice At pl ct, .slice B kl d] 35)).alloc (.cells #[.int .i64 0, .int .i64 0, .slice none 0 0] 29)).heap[w.heap.size]? = some (.cells #[.int .i64 1, .int .i64 a, .slice At pl ct, .slice B kl d] 35 (0, 0)) := (Below.heap_alloc (w.alloc (.cells #[.int .i64 1, .int .i64 a, .slice At pl ct, .slice B kl d] 35)) _ _ (by simp)).trans (heap_alloc_new w _)
  have HX := Lib.hid hbx
  clear hb0 hres hbx
  go_enter Tryz.func31, Tryz.ntmps31
  go_wp2
  go_loopw [5] (fun i wr => ∃ z : Int, i = .int .i64 z ∧ -1 ≤ z ∧ z < bd.length ∧ Hid (∀ j : Nat, z < (j : Int) → j < bd.length → itAt bd j ≠ a) ∧ Below ((w.alloc (.cells #[.int .i64 1, .int .i64 a, .slice At pl ct, .slice B kl d] 35)).alloc (.cells #[.int .i64 0, .int .i64 0, .slice none 0 0] 29)).heap.size ((w.alloc (.cells #[.int .i64 1, .int .i64 a, .slice At pl ct, .slice B kl d] 35)).alloc (.cells #[.int .i64 0, .int .i64 0, .slice none 0 0] 29)) wr) (fun i _ => (intOf i + 1).toNat)
  case atStart => exact ⟨(bd.length : Int) - 1, rfl, by omega, by omega, fun j h1 h2 => by omega, Below.refl _ _⟩
  case round =>
    obtain ⟨z, rfl, hz1, hz2, hn, hbW⟩ := hrel
    by_cases hz : 0 ≤ z
    · obtain ⟨m, rfl⟩ : ∃ m : Nat, z = m := ⟨z.toNat, by omega⟩
      have hm : m < bd.length := by omega
      obtain ⟨b, off, rfl, hbl, hc⟩ := hA (by omega)
      have hcb : wr.cell? ⟨b, off + m, none⟩ = some (.int .i64 (itAt bd m)) := ((HB0.out.trans (hbW.mono HB0.out.size)).cell (p := ⟨b, off + m, none⟩) hbl).trans (hc m hm)
      have hkb := (hbW.block w.heap.size (by simp; omega)).trans HX.out
      obtain ⟨g0, g1, g2, g3⟩ := Args8.row4 hkb
      have p0 := fun dq os => cell_regrown hcb dq os
      have p1 := fun dq os => cell_regrown g1 dq os
      clear hcb g0 g1 g2 g3 hkb hc
      by_cases he : (itAt bd m == a) = true
      · have hi : Hid (idxI bd.reverse a = (bd.length : Int) - 1 - m) := Lib.hid (idx_rev hm (by simpa using he) hn.out)
        have hUN : Hid (liIx (unL (.var a) bd.reverse) = .mk 1 ((bd.length : Int) - 1 - m) []) := Lib.hid (by rw [unL, hi.out, if_pos (by omega), liIx])
        generalize itAt bd m = y at p0 he
        clear hn hi
        go_wp2
        refine wp_region_quiet_below (by kernel_rfl) (by kernel_rfl) ?_
        repeat (any_goals (first | go_big_quiet_step (fail) | quiet_step (fail)))
        refine wpQuiet_nil ?_
        intro _ hw'
        obtain ⟨⟨dq, osq⟩, hw''⟩ := hw'
        subst hw''
        replace hbW := hbW.trans ((below_regrown _ dq osq).mono hbW.size)
        generalize grow (redrawn wr dq) osq = w9 at hbW ⊢
        clear p0 p1
        have hres2 := (hbW.block (w.heap.size + 1) (by simp)).trans HR.out
        obtain ⟨r0, r1, r2⟩ := IxK.row3 hres2
        have z0 := frozen_of_row _ _ 0 _ _ hres2
        have z1 := frozen_of_row _ _ 1 _ _ hres2
        have z2 := frozen_of_row _ _ 2 _ _ hres2
        have hpost : IxOut (liIx (unL (.var a) bd.reverse)) w (.returned (.agg #[.int .i64 1, .int .i64 ((bd.length : Int) - 1 - m), .slice none 0 0])) (((w9.setCell ⟨w.heap.size + 1, 0, none⟩ (.int .i64 1)).setCell ⟨w.heap.size + 1, 1, none⟩ (.int .i64 ((bd.length : Int) - 1 - m))).setCell ⟨w.heap.size + 1, 2, none⟩ (.slice none 0 0)) := by
          rw [hUN.out]
          exact ⟨none, 0, _, rfl, ownL_leafI 1 ((bd.length : Int) - 1 - m), fun b hb => by simp at hb, set3_below (HB0.out.trans (hbW.mono HB0.out.size)) (by omega) _ _ _⟩
        clear hbW hres2 HR HX HB0 hUN
        go_wp2
        exact bodyPost_ret (v := .agg #[.int .i64 1, .int .i64 ((bd.length : Int) - 1 - m), .slice none 0 0]) (by simp [results, Tryz.results31, go_sem, r0, r1, r2]) rfl hpost
      · have he' : (itAt bd m == a) = false := by simpa using he
        have hn2 : Hid (∀ j : Nat, (m : Int) - 1 < (j : Int) → j < bd.length → itAt bd j ≠ a) := Lib.hid (fun j h1 h2 => by
          by_cases e : j = m
          · rw [e]; simpa using he'
          · exact hn.out j (by omega) h2)
        generalize itAt bd m = y at p0 he he'
        clear hn he
        go_wp2
        refine wp_region_quiet_below (by kernel_rfl) (by kernel_rfl) ?_
        repeat (any_goals (first | go_big_quiet_step (fail) | quiet_step (fail)))
        refine wpQuiet_nil ?_
        intro _ hw'
        obtain ⟨⟨dq, osq⟩, hw''⟩ := hw'
        subst hw''
        replace hbW := hbW.trans ((below_regrown _ dq osq).mono hbW.size)
        generalize grow (redrawn wr dq) osq = w9 at hbW ⊢
        clear p0 p1
        go_wp2
        refine ⟨⟨(m : Int) - 1, by go_num, by omega, by omega, hn2, hbW⟩, ?_⟩
        simp only [intOf]
        omega
    · have hi : Hid (idxI bd.reverse a = -1) := Lib.hid (idx_none8 (fun j h1 h2 => hn.out j (by omega) h2))
      have hUN : Hid (liIx (unL (.var a) bd.reverse) = .mk 2 a []) := Lib.hid (by rw [unL, hi.out, if_neg (by omega), liIx])
      have hkb := (hbW.block w.heap.size (by simp; omega)).trans HX.out
      obtain ⟨g0, g1, g2, g3⟩ := Args8.row4 hkb
      have k1 : decide (0 ≤ z) = false := decide_eq_false hz
      have k3 : z < 0 := by omega
      clear hn hi hA hkb
      have hres2 := (hbW.block (w.heap.size + 1) (by simp)).trans HR.out
      obtain ⟨r0, r1, r2⟩ := IxK.row3 hres2
      have z0 := frozen_of_row _ _ 0 _ _ hres2
      have z1 := frozen_of_row _ _ 1 _ _ hres2
      have z2 := frozen_of_row _ _ 2 _ _ hres2
      have hpost : IxOut (liIx (unL (.var a) bd.reverse)) w (.returned (.agg #[.int .i64 2, .int .i64 (a), .slice none 0 0])) (((wr.setCell ⟨w.heap.size + 1, 0, none⟩ (.int .i64 2)).setCell ⟨w.heap.size + 1, 1, none⟩ (.int .i64 (a))).setCell ⟨w.heap.size + 1, 2, none⟩ (.slice none 0 0)) := by
        rw [hUN.out]
        exact ⟨none, 0, _, rfl, ownL_leafI 2 (a), fun b hb => by simp at hb, set3_below (HB0.out.trans (hbW.mono HB0.out.size)) (by omega) _ _ _⟩
      clear hbW hres2 HR HX HB0 hUN
      go_wp2
      exact bodyPost_ret (v := .agg #[.int .i64 2, .int .i64 a, .slice none 0 0]) (by simp [results, Tryz.results31, go_sem, r0, r1, r2]) rfl hpost

set_option maxRecDepth 100000 in
set_option maxHeartbeats 8000000 in
theorem l8_app (s t : Tm) (kv : Value) (k1 k2 : Ix) (At : Option Addr) (pl ct : Nat) (A : Option Addr) (c al : Nat) (w : World) (hk : TmsIn w kv [s, t])
    (ih1 : ∀ (w' : World) (y : Value), Below w.heap.size w w' → TmIn w' y s → Calls Tryz.prog 31 #[y, .slice A al c] w' (IxOut k1 w'))
    (ih2 : ∀ (w' : World) (y : Value), Below w.heap.size w w' → TmIn w' y t → Calls Tryz.prog 31 #[y, .slice A al c] w' (IxOut k2 w')) :
    Calls Tryz.prog 31 #[.agg #[.int .i64 2, .int .i64 2, .slice At pl ct, kv], .slice A al c] w (IxOut (.mk 4 0 [k1, k2]) w) := by
  obtain ⟨B, d, rfl⟩ := hk.form
  obtain ⟨b, off, P1, q1, B1, e1, rfl, hbl, d0, d1, d2, d3, hy⟩ := kid_cells hk (k := 0) (by simp)
  obtain ⟨b', off', P2, q2, B2, e2, eB, _, f0, f1, f2, f3, hz⟩ := kid_cells hk (k := 1) (by simp)
  injection eB with eB
  injection eB with eB1 eB2
  subst eB1
  subst eB2
  rw [Nat.zero_mul, Nat.add_zero] at d0 d1 d2 d3
  rw [Nat.one_mul] at f0 f1 f2 f3
  have e0 : tmAt [s, t] 0 = s := rfl
  have e9 : tmAt [s, t] 1 = t := rfl
  rw [e0] at d0 d1 d2 d3 hy
  rw [e9] at f0 f1 f2 f3 hz
  simp only [List.length_cons, List.length_nil, Nat.zero_add] at ⊢
  have hb0 : Below w.heap.size w ((w.alloc (.cells #[.int .i64 2, .int .i64 2, .slice At pl ct, .slice (some ⟨b, off, none⟩) (1 + 1) d] 35)).alloc (.cells #[.int .i64 0, .int .i64 0, .slice none 0 0] 29)) := ((Below.refl _ _).alloc (Nat.le_refl _) _).alloc (by simp) _
  have hbx : ((w.alloc (.cells #[.int .i64 2, .int .i64 2, .slice At pl ct, .slice (some ⟨b, off, none⟩) (1 + 1) d] 35)).alloc (.cells #[.int .i64 0, .int .i64 0, .slice none 0 0] 29)).heap[w.heap.size]? = some (.cells #[.int .i64 2, .int .i64 2, .slice At pl ct, .slice (some ⟨b, off, none⟩) (1 + 1) d] 35 (0, 0)) := (Below.heap_alloc (w.alloc (.cells #[.int .i64 2, .int .i64 2, .slice At pl ct, .slice (some ⟨b, off, none⟩) (1 + 1) d] 35)) _ _ (by simp)).trans (heap_alloc_new w _)
  have hres := secondI w (.cells #[.int .i64 2, .int .i64 2, .slice At pl ct, .slice (some ⟨b, off, none⟩) (1 + 1) d] 35) #[.int .i64 0, .int .i64 0, .slice none 0 0] 29
  have hdw : Below ((w.alloc (.cells #[.int .i64 2, .int .i64 2, .slice At pl ct, .slice (some ⟨b, off, none⟩) (1 + 1) d] 35)).alloc (.cells #[.int .i64 0, .int .i64 0, .slice none 0 0] 29)).heap.size ((w.alloc (.cells #[.int .i64 2, .int .i64 2, .slice At pl ct, .slice (some ⟨b, off, none⟩) (1 + 1) d] 35)).alloc (.cells #[.int .i64 0, .int .i64 0, .slice none 0 0] 29)) ((w.alloc (.cells #[.int .i64 2, .int .i64 2, .slice At pl ct, .slice (some ⟨b, off, none⟩) (1 + 1) d] 35)).alloc (.cells #[.int .i64 0, .int .i64 0, .slice none 0 0] 29)).drew := ⟨rfl, rfl, rfl, Nat.le_refl _, fun _ _ => rfl⟩
  have HB : Hid (∀ w' : World, Below ((w.alloc (.cells #[.int .i64 2, .int .i64 2, .slice At pl ct, .slice (some ⟨b, off, none⟩) (1 + 1) d] 35)).alloc (.cells #[.int .i64 0, .int .i64 0, .slice none 0 0] 29)).heap.size ((w.alloc (.cells #[.int .i64 2, .int .i64 2, .slice At pl ct, .slice (some ⟨b, off, none⟩) (1 + 1) d] 35)).alloc (.cells #[.int .i64 0, .int .i64 0, .slice none 0 0] 29)) w' → w'.cell? ⟨w.heap.size, 3, none⟩ = some (.slice (some ⟨b, off, none⟩) (1 + 1) d) ∧ w'.cell? ⟨b, off, none⟩ = some (.int .i64 s.op) ∧ w'.cell? ⟨b, off + 1, none⟩ = some (.int .i64 s.num) ∧ w'.cell? ⟨b, off + 2, none⟩ = some (.slice P1 s.perm.length q1) ∧ w'.cell? ⟨b, off + 3, none⟩ = some (.slice B1 s.kids.length e1) ∧ w'.cell? ⟨b, off + 4, none⟩ = some (.int .i64 t.op) ∧ w'.cell? ⟨b, off + 4 + 1, none⟩ = some (.int .i64 t.num) ∧ w'.cell? ⟨b, off + 4 + 2, none⟩ = some (.slice P2 t.perm.length q2) ∧ w'.cell? ⟨b, off + 4 + 3, none⟩ = some (.slice B2 t.kids.length e2)) := Lib.hid (fun w' h => by
    have hc := fun (q : Nat) => (hb0.trans (h.mono hb0.size)).cell (p := ⟨b, q, none⟩) hbl
    exact ⟨(Args8.row4 ((h.block w.heap.size (by simp; omega)).trans hbx)).2.2.2, (hc _).trans d0, (hc _).trans d1, (hc _).trans d2, (hc _).trans d3, (hc _).trans f0, (hc _).trans f1, (hc _).trans f2, (hc _).trans f3⟩)
  have HR : Hid (∀ w' : World, Below ((w.alloc (.cells #[.int .i64 2, .int .i64 2, .slice At pl ct, .slice (some ⟨b, off, none⟩) (1 + 1) d] 35)).alloc (.cells #[.int .i64 0, .int .i64 0, .slice none 0 0] 29)).heap.size ((w.alloc (.cells #[.int .i64 2, .int .i64 2, .slice At pl ct, .slice (some ⟨b, off, none⟩) (1 + 1) d] 35)).alloc (.cells #[.int .i64 0, .int .i64 0, .slice none 0 0] 29)) w' → w'.cell? ⟨w.heap.size + 1, 0, none⟩ = some (.int .i64 0) ∧ w'.cell? ⟨w.heap.size + 1, 1, none⟩ = some (.int .i64 0) ∧ w'.cell? ⟨w.heap.size + 1, 2, none⟩ = some (.slice none 0 0) ∧ w'.frozen? ⟨w.heap.size + 1, 0, none⟩ = false ∧ w'.frozen? ⟨w.heap.size + 1, 1, none⟩ = false ∧ w'.frozen? ⟨w.heap.size + 1, 2, none⟩ = false) := Lib.hid (fun w' h => by
    have hr := (h.block (w.heap.size + 1) (by simp)).trans hres
    exact ⟨(IxK.row3 hr).1, (IxK.row3 hr).2.1, (IxK.row3 hr).2.2, frozen_of_row _ _ 0 _ _ hr, frozen_of_row _ _ 1 _ _ hr, frozen_of_row _ _ 2 _ _ hr⟩)
  have HC : Hid (∀ w' : World, Below w.heap.size w w' → w'.cell? ⟨b, off, none⟩ = some (.int .i64 s.op) ∧ w'.cell? ⟨b, off + 1, none⟩ = some (.int .i64 s.num) ∧ w'.cell? ⟨b, off + 2, none⟩ = some (.slice P1 s.perm.length q1) ∧ w'.cell? ⟨b, off + 3, none⟩ = some (.slice B1 s.kids.length e1) ∧ w'.cell? ⟨b, off + 4, none⟩ = some (.int .i64 t.op) ∧ w'.cell? ⟨b, off + 4 + 1, none⟩ = some (.int .i64 t.num) ∧ w'.cell? ⟨b, off + 4 + 2, none⟩ = some (.slice P2 t.perm.length q2) ∧ w'.cell? ⟨b, off + 4 + 3, none⟩ = some (.slice B2 t.kids.length e2)) := Lib.hid (fun w' h => by
    have hc := fun (q : Nat) => h.cell (p := ⟨b, q, none⟩) hbl
    exact ⟨(hc _).trans d0, (hc _).trans d1, (hc _).trans d2, (hc _).trans d3, (hc _).trans f0, (hc _).trans f1, (hc _).trans f2, (hc _).trans f3⟩)
  have hct := ih1 ((w.alloc (.cells #[.int .i64 2, .int .i64 2, .slice At pl ct, .slice (some ⟨b, off, none⟩) (1 + 1) d] 35)).alloc (.cells #[.int .i64 0, .int .i64 0, .slice none 0 0] 29)).drew _ (hb0.trans (hdw.mono hb0.size)) (hy.below (hb0.trans (hdw.mono hb0.size)))
  have hih2 := fun (W : World) (hW : Below w.heap.size w W) => ih2 W _ hW (hz.below hW)
  obtain ⟨m0, m1, m2, m3, m4, m5, m6, m7, m8⟩ := HB.out ((w.alloc (.cells #[.int .i64 2, .int .i64 2, .slice At pl ct, .slice (some ⟨b, off, none⟩) (1 + 1) d] 35)).alloc (.cells #[.int .i64 0, .int .i64 0, .slice none 0 0] 29)) (Below.refl _ _)
  obtain ⟨n0, n1, n2, n3, n4, n5, n6, n7, n8⟩ := HB.out ((w.alloc (.cells #[.int .i64 2, .int .i64 2, .slice At pl ct, .slice (some ⟨b, off, none⟩) (1 + 1) d] 35)).alloc (.cells #[.int .i64 0, .int .i64 0, .slice none 0 0] 29)).drew hdw
  have HD := Lib.hid hdw
  have HB0 := Lib.hid hb0
  have hsz0 : ((w.alloc (.cells #[.int .i64 2, .int .i64 2, .slice At pl ct, .slice (some ⟨b, off, none⟩) (1 + 1) d] 35)).alloc (.cells #[.int .i64 0, .int .i64 0, .slice none 0 0] 29)).heap.size = w.heap.size + 2 := by simp
  have HSZ := Lib.hid hsz0
  clear ih1 ih2 hy hz hk d0 d1 d2 d3 f0 f1 f2 f3 e0 e9 hbx hres hdw hb0 hsz0
  go_enter Tryz.func31, Tryz.ntmps31
  go_wp2
  clear m0 m1 m2 m3 m4 m5 m6 m7 m8
  go_region_held3 (fun w' => w'.cell? ⟨w.heap.size, 3, none⟩ = some (.slice (some ⟨b, off, none⟩) (1 + 1) d) ∧ w'.cell? ⟨b, off, none⟩ = some (.int .i64 s.op) ∧ w'.cell? ⟨b, off + 1, none⟩ = some (.int .i64 s.num) ∧ w'.cell? ⟨b, off + 2, none⟩ = some (.slice P1 s.perm.length q1) ∧ w'.cell? ⟨b, off + 3, none⟩ = some (.slice B1 s.kids.length e1) ∧ w'.cell? ⟨b, off + 4, none⟩ = some (.int .i64 t.op) ∧ w'.cell? ⟨b, off + 4 + 1, none⟩ = some (.int .i64 t.num) ∧ w'.cell? ⟨b, off + 4 + 2, none⟩ = some (.slice P2 t.perm.length q2) ∧ w'.cell? ⟨b, off + 4 + 3, none⟩ = some (.slice B2 t.kids.length e2))
    (first | (with_reducible exact ⟨by assumption, by assumption, by assumption, by assumption, by assumption, by assumption, by assumption, by assumption, by assumption⟩) | ((try dsimp only); (with_reducible exact ⟨by assumption, by assumption, by assumption, by assumption, by assumption, by assumption, by assumption, by assumption, by assumption⟩)) | (refine ⟨?_, by assumption, by assumption, by assumption, by assumption, by assumption, by assumption, by assumption, by assumption⟩; go_keep) | go_keep)
    (first
      | ((with_reducible refine hct.mono ?_); rintro e w2 ⟨A1, c1, S1, rfl, hS1, hS1b, hb2⟩; have hc2 := HD.out.trans (hb2.mono HD.out.size); have hs2 := HB0.out.trans (hc2.mono HB0.out.size); have hct2 := hih2 w2 hs2; obtain ⟨p0, p1, p2, p3, p4, p5, p6, p7, p8⟩ := HB.out w2 hc2)
      | ((with_reducible refine hct2.mono ?_); rintro e w3 ⟨A2, c2, S2, rfl, hS2, hS2b, hb3⟩; have hc3 := hc2.trans (hb3.mono hc2.size); have hs3 := hs2.trans (hb3.mono hs2.size); obtain ⟨q0, q1, q2, q3, q4, q5, q6, q7, q8⟩ := HB.out w3 hc3; obtain ⟨r0, r1, r2, z0, z1, z2⟩ := HR.out w3 hc3; have hlt3 : w.heap.size + 1 < w3.heap.size := Nat.lt_of_lt_of_le (by have e := HSZ.out; omega) hc3.size; have hne3 : w.heap.size + 1 ≠ w3.heap.size := Nat.ne_of_lt hlt3; have hne4 : w.heap.size ≠ w3.heap.size := Nat.ne_of_lt (Nat.lt_of_succ_lt hlt3); have hbel := set3_below hs3 (show w.heap.size ≤ w.heap.size + 1 from Nat.le_succ _) (.int .i64 4) (.int .i64 0) (.slice (some ⟨w3.heap.size, 0, none⟩) 2 2); obtain ⟨y0, y1, y2, y3, y4, y5, y6, y7⟩ := HC.out ((((w3.setCell ⟨w.heap.size + 1, 0, none⟩ (.int .i64 4)).setCell ⟨w.heap.size + 1, 1, none⟩ (.int .i64 0)).setCell ⟨w.heap.size + 1, 2, none⟩ (.slice (some ⟨w3.heap.size, 0, none⟩) 2 2)).alloc (.cells #[.int .i64 k1.op, .int .i64 k1.num, .slice A1 k1.kids.length c1, .int .i64 k2.op, .int .i64 k2.num, .slice A2 k2.kids.length c2] 29)) (hbel.alloc hbel.size _))
      | fail)
  have hpost : IxOut (.mk 4 0 [k1, k2]) w (.returned (.agg #[.int .i64 4, .int .i64 0, .slice (some ⟨w3.heap.size, 0, none⟩) 2 2])) ((((w3.setCell ⟨w.heap.size + 1, 0, none⟩ (.int .i64 4)).setCell ⟨w.heap.size + 1, 1, none⟩ (.int .i64 0)).setCell ⟨w.heap.size + 1, 2, none⟩ (.slice (some ⟨w3.heap.size, 0, none⟩) 2 2)).alloc (.cells #[.int .i64 k1.op, .int .i64 k1.num, .slice A1 k1.kids.length c1, .int .i64 k2.op, .int .i64 k2.num, .slice A2 k2.kids.length c2] 29)) := by
    have g2 := hb2.size
    have g3 := hb3.size
    have gd := HD.out.size
    rw [HSZ.out] at gd
    have hS1l : ∀ b ∈ S1, b < w2.heap.size := fun b hb => hS1.lt b hb
    have hS2l : ∀ b ∈ S2, b < w3.heap.size := fun b hb => hS2.lt b hb
    have hS13 := hS1.alike (w' := w3) (fun b hb => hb3.block b (hS1l b hb))
    have hd : ∀ b ∈ S1, b ∉ S2 := fun b h1 h2 => by have h3 := hS1l b h1; have h4 := hS2b b h2; omega
    have hS12 := hS13.append hS2 hd
    have hSb : ∀ b ∈ S1 ++ S2, w.heap.size + 2 ≤ b ∧ b < w3.heap.size := fun b hb => by
      rcases List.mem_append.1 hb with h | h
      · have h1 := hS1b b h; have h2 := hS1l b h
        constructor <;> omega
      · have h1 := hS2b b h; have h2 := hS2l b h
        constructor <;> omega
    have hL4 := set3_own hS12 (R := w.heap.size + 1) (fun b hb => by have := (hSb b hb).1; omega) (.int .i64 4) (.int .i64 0) (.slice (some ⟨w3.heap.size, 0, none⟩) 2 2)
    have hsz4 : (((w3.setCell ⟨w.heap.size + 1, 0, none⟩ (.int .i64 4)).setCell ⟨w.heap.size + 1, 1, none⟩ (.int .i64 0)).setCell ⟨w.heap.size + 1, 2, none⟩ (.slice (some ⟨w3.heap.size, 0, none⟩) 2 2)).heap.size = w3.heap.size := by simp
    have hL5 := hL4.alike (w' := ((((w3.setCell ⟨w.heap.size + 1, 0, none⟩ (.int .i64 4)).setCell ⟨w.heap.size + 1, 1, none⟩ (.int .i64 0)).setCell ⟨w.heap.size + 1, 2, none⟩ (.slice (some ⟨w3.heap.size, 0, none⟩) 2 2)).alloc (.cells #[.int .i64 k1.op, .int .i64 k1.num, .slice A1 k1.kids.length c1, .int .i64 k2.op, .int .i64 k2.num, .slice A2 k2.kids.length c2] 29))) (fun b hb => Below.heap_alloc _ _ _ (by rw [hsz4]; exact (hSb b hb).2))
    have h9 := World.ownsRow_lit (base := 0) (e := 29) (size := 3) (((w3.setCell ⟨w.heap.size + 1, 0, none⟩ (.int .i64 4)).setCell ⟨w.heap.size + 1, 1, none⟩ (.int .i64 0)).setCell ⟨w.heap.size + 1, 2, none⟩ (.slice (some ⟨w3.heap.size, 0, none⟩) 2 2)) #[.int .i64 k1.op, .int .i64 k1.num, .slice A1 k1.kids.length c1, .int .i64 k2.op, .int .i64 k2.num, .slice A2 k2.kids.length c2] 2 (Nat.zero_le _) (by decide) rfl
    rw [hsz4] at h9
    have hk4 := own_of_ixs (ts := [k1, k2]) rfl h9 (by rw [encIxs, encIxs, encIxs, List.append_nil]; exact hL5) (fun hm => by have := (hSb _ hm).2; omega)
    have hL := ownL_ix (t := .mk 4 0 [k1, k2]) hk4
    have hbel := set3_below hs3 (show w.heap.size ≤ w.heap.size + 1 by omega) (.int .i64 4) (.int .i64 0) (.slice (some ⟨w3.heap.size, 0, none⟩) 2 2)
    refine ⟨_, _, _, rfl, hL, fun b hb => ?_, hbel.alloc hbel.size _⟩
    simp only [List.append_nil, List.mem_cons] at hb
    rcases hb with rfl | hb
    · omega
    · have := (hSb b hb).1; omega
  have hsz4 : (((w3.setCell ⟨w.heap.size + 1, 0, none⟩ (.int .i64 4)).setCell ⟨w.heap.size + 1, 1, none⟩ (.int .i64 0)).setCell ⟨w.heap.size + 1, 2, none⟩ (.slice (some ⟨w3.heap.size, 0, none⟩) 2 2)).heap.size = w3.heap.size := by simp
  have hbx : Below (((w3.setCell ⟨w.heap.size + 1, 0, none⟩ (.int .i64 4)).setCell ⟨w.heap.size + 1, 1, none⟩ (.int .i64 0)).setCell ⟨w.heap.size + 1, 2, none⟩ (.slice (some ⟨w3.heap.size, 0, none⟩) 2 2)).heap.size (((w3.setCell ⟨w.heap.size + 1, 0, none⟩ (.int .i64 4)).setCell ⟨w.heap.size + 1, 1, none⟩ (.int .i64 0)).setCell ⟨w.heap.size + 1, 2, none⟩ (.slice (some ⟨w3.heap.size, 0, none⟩) 2 2)) ((((w3.setCell ⟨w.heap.size + 1, 0, none⟩ (.int .i64 4)).setCell ⟨w.heap.size + 1, 1, none⟩ (.int .i64 0)).setCell ⟨w.heap.size + 1, 2, none⟩ (.slice (some ⟨w3.heap.size, 0, none⟩) 2 2)).alloc (.cells #[.int .i64 k1.op, .int .i64 k1.num, .slice A1 k1.kids.length c1, .int .i64 k2.op, .int .i64 k2.num, .slice A2 k2.kids.length c2] 29)) := (Below.refl _ _).alloc (Nat.le_refl _) _
  have f0 : ((((w3.setCell ⟨w.heap.size + 1, 0, none⟩ (.int .i64 4)).setCell ⟨w.heap.size + 1, 1, none⟩ (.int .i64 0)).setCell ⟨w.heap.size + 1, 2, none⟩ (.slice (some ⟨w3.heap.size, 0, none⟩) 2 2)).alloc (.cells #[.int .i64 k1.op, .int .i64 k1.num, .slice A1 k1.kids.length c1, .int .i64 k2.op, .int .i64 k2.num, .slice A2 k2.kids.length c2] 29)).cell? ⟨w.heap.size + 1, 0, none⟩ = some (.int .i64 4) := (hbx.cell (p := ⟨w.heap.size + 1, 0, none⟩) (by rw [hsz4]; exact hlt3)).trans (by simp [go_sem, r0])
  have f1 : ((((w3.setCell ⟨w.heap.size + 1, 0, none⟩ (.int .i64 4)).setCell ⟨w.heap.size + 1, 1, none⟩ (.int .i64 0)).setCell ⟨w.heap.size + 1, 2, none⟩ (.slice (some ⟨w3.heap.size, 0, none⟩) 2 2)).alloc (.cells #[.int .i64 k1.op, .int .i64 k1.num, .slice A1 k1.kids.length c1, .int .i64 k2.op, .int .i64 k2.num, .slice A2 k2.kids.length c2] 29)).cell? ⟨w.heap.size + 1, 1, none⟩ = some (.int .i64 0) := (hbx.cell (p := ⟨w.heap.size + 1, 1, none⟩) (by rw [hsz4]; exact hlt3)).trans (by simp [go_sem, r1])
  have f2 : ((((w3.setCell ⟨w.heap.size + 1, 0, none⟩ (.int .i64 4)).setCell ⟨w.heap.size + 1, 1, none⟩ (.int .i64 0)).setCell ⟨w.heap.size + 1, 2, none⟩ (.slice (some ⟨w3.heap.size, 0, none⟩) 2 2)).alloc (.cells #[.int .i64 k1.op, .int .i64 k1.num, .slice A1 k1.kids.length c1, .int .i64 k2.op, .int .i64 k2.num, .slice A2 k2.kids.length c2] 29)).cell? ⟨w.heap.size + 1, 2, none⟩ = some (.slice (some ⟨w3.heap.size, 0, none⟩) 2 2) := (hbx.cell (p := ⟨w.heap.size + 1, 2, none⟩) (by rw [hsz4]; exact hlt3)).trans (by simp [go_sem, r2])
  clear hsz4 hbx hS1 hS1b hS2 hS2b hb2 hb3 HB HR HC hbel y0 y1 y2 y3 y4 y5 y6 y7 HD HB0 HSZ hc2 hc3 hs2 hs3 hct hct2 hih2 n0 n1 n2 n3 n4 n5 n6 n7 n8 p0 p1 p2 p3 p4 p5 p6 p7 p8 q0 q1 q2 q3 q4 q5 q6 q7 q8
  go_wp2
  exact bodyPost_ret (v := .agg #[.int .i64 4, .int .i64 0, .slice (some ⟨w3.heap.size, 0, none⟩) 2 2]) (by simp [results, Tryz.results31, go_sem, f0, f1, f2]) rfl hpost

end Go.Proofs.YtihijigbdpjcoaaGreat
