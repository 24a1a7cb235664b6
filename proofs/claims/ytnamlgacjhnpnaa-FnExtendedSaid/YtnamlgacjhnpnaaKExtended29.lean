/-
  ExtendSet of both sides, as contracts. l6Both of the model: what is in one of two orbit sets, or in both, as a contract.
-/
import Derived.Test.YtnamlgacjhnpnaaKExtended20
import Derived.Test.YtnamlgacjhnpnaaKExtended18
import Derived.Test.YtnamlgacjhnpnaaKExtended17
section
namespace Go.Proofs.Ytnamlgacjhnpnaa
open Go.RowKit Go.Sort
set_option linter.unusedVariables false

set_option maxRecDepth 100000 in
set_option maxHeartbeats 4000000 in
theorem extendSet_spec (z : Int) (l : List Int) (m : List (List Int)) (hf : FitO l m) (cs : List Int) (hcl : cs.length ≤ 1048576) (x : Value) (C : Option Addr) (e0 : Nat) (w : World) (hx : OrbIx w x z l m) (hC : ConstAt w C e0 cs) :
    Calls Try.prog 24 #[x, .slice C cs.length e0] w (OrbBOut (ozR (extOk z l m cs) z) (olR (extOk z l m cs) cs) (omR (extOk z l m cs) (extM z l m cs)) (extOk z l m cs) w) := by
  have hX := hx
  obtain ⟨A, c, B, d, rfl, hl, hmr, hm⟩ := hx
  have hb0 : Below w.heap.size w ((w.alloc (.cells #[.int .i64 z, .slice A l.length c, .slice B m.length d] 32)).alloc (.cells #[.int .i64 0, .slice none 0 0, .slice none 0 0] 32)) := ((Below.refl _ _).alloc (Nat.le_refl _) _).alloc (by simp) _
  have k0 : ((w.alloc (.cells #[.int .i64 z, .slice A l.length c, .slice B m.length d] 32)).alloc (.cells #[.int .i64 0, .slice none 0 0, .slice none 0 0] 32)).heap[w.heap.size]? = some (.cells #[.int .i64 z, .slice A l.length c, .slice B m.length d] 32 (0, 0)) := (Below.heap_alloc _ _ _ (by simp)).trans (heap_alloc_new w _)
  have k1 : ((w.alloc (.cells #[.int .i64 z, .slice A l.length c, .slice B m.length d] 32)).alloc (.cells #[.int .i64 0, .slice none 0 0, .slice none 0 0] 32)).heap[w.heap.size + 1]? = some (.cells #[.int .i64 0, .slice none 0 0, .slice none 0 0] 32 (0, 0)) := by
    have h := heap_alloc_new (w.alloc (.cells #[.int .i64 z, .slice A l.length c, .slice B m.length d] 32)) (.cells #[.int .i64 0, .slice none 0 0, .slice none 0 0] 32)
    rw [World.size_alloc] at h
    exact h
  obtain ⟨m0, m1, m2⟩ := OrbK.row3 k0
  have hio := isOrbitSet_spec z l m hf _ _ (hX.below hb0)
  have HB0 := Lib.hid hb0
  have HK0 := Lib.hid k0
  have HK1 := Lib.hid k1
  cases ho : orbB z l m with
  | false =>
    have hkk : extOk z l m cs = false := by simp [extOk, ho]
    rw [ho] at hio
    clear hl hmr hm k0 k1 hX ho hb0
    go_enter Try.func24, Try.ntmps24
    go_wp2_with (go_at_call 59; (with_reducible refine hio.mono ?_); rintro e w2 ⟨rfl, hb2⟩; have hr2 := (hb2.block _ (OrbK.box_lt HK1.out)).trans HK1.out; obtain ⟨x0, x1, x2⟩ := OrbK.row3 hr2; obtain ⟨y0, y1, y2⟩ := z3At hr2)
    have hbz := HB0.out.trans (hb2.mono HB0.out.size)
    clear hio hb2 m0 m1 m2 hr2 HB0 HK0 HK1
    have hpost := orbB_zero (((hbz.setCell (p := ⟨w.heap.size + 1, 0, none⟩) (Nat.le_succ _) (.int .i64 0)).setCell (p := ⟨w.heap.size + 1, 1, none⟩) (Nat.le_succ _) (.slice none 0 0)).setCell (p := ⟨w.heap.size + 1, 2, none⟩) (Nat.le_succ _) (.slice none 0 0))
    go_wp2
    exact bodyPost_ret (v := .tuple #[.agg #[.int .i64 0, .slice none 0 0, .slice none 0 0], .bool false]) (by simp [results, Try.results24, go_sem, x0, x1, x2]) rfl (by rw [hkk]; exact hpost)
  | true =>
    rw [ho] at hio
    have hco := fun (W : World) (h : Below w.heap.size w W) => l6Constants_any C e0 cs W (hC.1.below h) (by omega)
    cases hcb : constB cs with
    | false =>
      have hkk : extOk z l m cs = false := by simp [extOk, hcb]
      simp only [hcb] at hco
      clear hl hmr hm k0 k1 hX ho hb0 hcb
      go_enter Try.func24, Try.ntmps24
      go_wp2_with (first
        | (go_at_call 59; (with_reducible refine hio.mono ?_); rintro e w2 ⟨rfl, hb2⟩; have hbz := HB0.out.trans (hb2.mono HB0.out.size); have hcq := hco w2 hbz)
        | (go_at_call 39; (with_reducible refine hcq.mono ?_); rintro e w3 ⟨rfl, hb3⟩; have hb23 := hb2.trans (hb3.mono hb2.size); have hr2 := (hb23.block _ (OrbK.box_lt HK1.out)).trans HK1.out; obtain ⟨x0, x1, x2⟩ := OrbK.row3 hr2; obtain ⟨y0, y1, y2⟩ := z3At hr2))
      have hbz3 := hbz.trans (hb3.mono hbz.size)
      clear hio hco hcq hb2 hb3 hb23 m0 m1 m2 hr2 HB0 HK0 HK1 hbz
      have hpost := orbB_zero (((hbz3.setCell (p := ⟨w.heap.size + 1, 0, none⟩) (Nat.le_succ _) (.int .i64 0)).setCell (p := ⟨w.heap.size + 1, 1, none⟩) (Nat.le_succ _) (.slice none 0 0)).setCell (p := ⟨w.heap.size + 1, 2, none⟩) (Nat.le_succ _) (.slice none 0 0))
      go_wp2
      exact bodyPost_ret (v := .tuple #[.agg #[.int .i64 0, .slice none 0 0, .slice none 0 0], .bool false]) (by simp [results, Try.results24, go_sem, x0, x1, x2]) rfl (by rw [hkk]; exact hpost)
    | true =>
      simp only [hcb] at hco
      have hasc := const_asc hcb
      have hc3 := const_len hcb
      obtain ⟨hwz, hro⟩ := orb_rows ho
      have hz4 := widB_iff.1 hwz
      have hk3 := const_len (orb_const ho)
      have hnd := const_nodup (orb_const ho)
      obtain ⟨n, rfl⟩ : ∃ n : Nat, z = n := ⟨z.toNat, by omega⟩
      have hn4 : n ≤ 4 := by omega
      have hmm := orb_mem ho
      have HL := Lib.hid hl
      have HMR := Lib.hid hmr
      have HC := Lib.hid hC
      have HEM : Hid (extM n l m cs = extL n l m cs) := Lib.hid (by unfold extM; rw [show ((n : Int).toNat) = n by omega])
      have HKK : Hid (extOk n l m cs = amongB l cs) := Lib.hid (by simp [extOk, ho, hcb])
      have hun := fun (W : World) (h : Below w.heap.size w W) => l6Union_any C A e0 c cs l W (HC.out.1.below h) HC.out.2 hasc (HL.out.1.below h) (by omega) (by omega)
      have hul := union_len (l := l) hasc
      have hex := fun (W : World) (h : Below w.heap.size w W) => l6Extend_any n hn4 l hk3 hnd m hf.2 cs hc3 A B C c d e0 W (HL.out.below h) (HMR.out.below h) (HC.out.below h)
      clear hl hmr hm k0 k1 hX ho hb0 hcb hasc hro hwz hz4 hmm
      generalize insAll cs l = U at *
      cases ha : amongB l cs with
      | false =>
        have hkk : extOk n l m cs = false := by rw [HKK.out, ha]
        rw [ha] at hul
        simp only [Bool.not_false] at hul
        clear ha hex
        go_enter Try.func24, Try.ntmps24
        go_wp2_with (first
          | (go_at_call 59; (with_reducible refine hio.mono ?_); rintro e w2 ⟨rfl, hb2⟩; have hbz := HB0.out.trans (hb2.mono HB0.out.size); have hcq := hco w2 hbz)
          | (go_at_call 39; (with_reducible refine hcq.mono ?_); rintro e w3 ⟨rfl, hb3⟩; have hbz3 := hbz.trans (hb3.mono hbz.size); have huq := hun w3 hbz3; have hb23 := hb2.trans (hb3.mono hb2.size); have k3 := (hb23.block _ (OrbK.box_lt HK0.out)).trans HK0.out; clear m0 m1 m2; obtain ⟨m0, m1, m2⟩ := OrbK.row3 k3)
          | (go_at_call 56; (with_reducible refine huq.mono ?_); rintro e w4 ⟨g4, cap4, rfl, ho4, hb4⟩; have hb24 := hb23.trans (hb4.mono hb23.size); have hr2 := (hb24.block _ (OrbK.box_lt HK1.out)).trans HK1.out; obtain ⟨x0, x1, x2⟩ := OrbK.row3 hr2; obtain ⟨y0, y1, y2⟩ := z3At hr2))
        have hbz4 := hbz3.trans (hb4.mono hbz3.size)
        clear hio hco hcq hb2 hb3 hb23 m0 m1 m2 hr2 HB0 HK0 HK1 hbz hun huq hul ho4 hb4 hb24 hbz3 k3
        have hpost := orbB_zero (((hbz4.setCell (p := ⟨w.heap.size + 1, 0, none⟩) (Nat.le_succ _) (.int .i64 0)).setCell (p := ⟨w.heap.size + 1, 1, none⟩) (Nat.le_succ _) (.slice none 0 0)).setCell (p := ⟨w.heap.size + 1, 2, none⟩) (Nat.le_succ _) (.slice none 0 0))
        go_wp2
        exact bodyPost_ret (v := .tuple #[.agg #[.int .i64 0, .slice none 0 0, .slice none 0 0], .bool false]) (by simp [results, Try.results24, go_sem, x0, x1, x2]) rfl (by rw [hkk]; exact hpost)
      | true =>
        have hkk : extOk n l m cs = true := by rw [HKK.out, ha]
        rw [ha] at hul
        simp only [Bool.not_true] at hul
        clear ha
        go_enter Try.func24, Try.ntmps24
        generalize hRR : extL n l m cs = E at hex HEM
        clear hRR
        go_wp2_with (first
          | (go_at_call 59; (with_reducible refine hio.mono ?_); rintro e w2 ⟨rfl, hb2⟩; have hbz := HB0.out.trans (hb2.mono HB0.out.size); have hcq := hco w2 hbz)
          | (go_at_call 39; (with_reducible refine hcq.mono ?_); rintro e w3 ⟨rfl, hb3⟩; have hbz3 := hbz.trans (hb3.mono hbz.size); have huq := hun w3 hbz3; have hb23 := hb2.trans (hb3.mono hb2.size); have k3 := (hb23.block _ (OrbK.box_lt HK0.out)).trans HK0.out; clear m0 m1 m2; obtain ⟨m0, m1, m2⟩ := OrbK.row3 k3)
          | (go_at_call 56; (with_reducible refine huq.mono ?_); rintro e w4 ⟨g4, cap4, rfl, ho4, hb4⟩; have hb24 := hb23.trans (hb4.mono hb23.size); have hbz4 := hbz3.trans (hb4.mono hbz3.size); have hxq := hex w4 hbz4; have k4 := (hb24.block _ (OrbK.box_lt HK0.out)).trans HK0.out; clear m0 m1 m2; obtain ⟨m0, m1, m2⟩ := OrbK.row3 k4)
          | (go_at_call 60; (with_reducible refine hxq.mono ?_); rintro e w5 ⟨A4, c4, A5, c5, S5, rfl, hL5, hS5, hb5⟩; have hb25 := hb24.trans (hb5.mono hb24.size); have hr2 := (hb25.block _ (OrbK.box_lt HK1.out)).trans HK1.out; obtain ⟨x0, x1, x2⟩ := OrbK.row3 hr2; obtain ⟨y0, y1, y2⟩ := z3At hr2))
        have hsz := hb24.size
        have hbl := OrbK.box_lt HK1.out
        have hpost := orbB_of true (orb_pass (r := w.heap.size + 1) hL5 (hbz4.trans (hb5.mono hbz4.size)) (Nat.le_succ _) (fun b h => by have h1 := hS5 b h; omega))
        clear hio hco hcq hb2 hb3 hb23 m0 m1 m2 hr2 HB0 HK0 HK1 hbz hun huq hul ho4 hb4 hb24 hbz3 k3 hex hxq k4 hL5 hS5 hb5 hb25 hbz4
        go_wp2
        exact bodyPost_ret (v := .tuple #[.agg #[.int .i64 (n : Int), .slice A4 cs.length c4, .slice A5 E.length c5], .bool true]) (by simp [results, Try.results24, go_sem, x0, x1, x2]) rfl (by rw [hkk, HEM.out]; exact hpost)

set_option maxRecDepth 100000 in
set_option maxHeartbeats 4000000 in
theorem extendSet_impl (z : Int) (l : List Int) (m : List (List Int)) (hf : FitO l m) (cs : List Int) (hcl : cs.length ≤ 1048576) (x : Value) (C : Option Addr) (e0 : Nat) (w : World) (hx : OrbIx w x z l m) (hC : IntsAt w C cs) :
    Calls Try.prog 23 #[x, .slice C cs.length e0] w (OrbBOut (ozR (extOk z l m cs) z) (olR (extOk z l m cs) cs) (omR (extOk z l m cs) (extM z l m cs)) (extOk z l m cs) w) := by
  have hX := hx
  obtain ⟨A, c, B, d, rfl, hl, hmr, hm⟩ := hx
  have hb0 : Below w.heap.size w ((w.alloc (.cells #[.int .i64 z, .slice A l.length c, .slice B m.length d] 32)).alloc (.cells #[.int .i64 0, .slice none 0 0, .slice none 0 0] 32)) := ((Below.refl _ _).alloc (Nat.le_refl _) _).alloc (by simp) _
  have k0 : ((w.alloc (.cells #[.int .i64 z, .slice A l.length c, .slice B m.length d] 32)).alloc (.cells #[.int .i64 0, .slice none 0 0, .slice none 0 0] 32)).heap[w.heap.size]? = some (.cells #[.int .i64 z, .slice A l.length c, .slice B m.length d] 32 (0, 0)) := (Below.heap_alloc _ _ _ (by simp)).trans (heap_alloc_new w _)
  have k1 : ((w.alloc (.cells #[.int .i64 z, .slice A l.length c, .slice B m.length d] 32)).alloc (.cells #[.int .i64 0, .slice none 0 0, .slice none 0 0] 32)).heap[w.heap.size + 1]? = some (.cells #[.int .i64 0, .slice none 0 0, .slice none 0 0] 32 (0, 0)) := by
    have h := heap_alloc_new (w.alloc (.cells #[.int .i64 z, .slice A l.length c, .slice B m.length d] 32)) (.cells #[.int .i64 0, .slice none 0 0, .slice none 0 0] 32)
    rw [World.size_alloc] at h
    exact h
  obtain ⟨m0, m1, m2⟩ := OrbK.row3 k0
  have hio := isOrbitSet_impl z l m hf _ _ (hX.below hb0)
  have HB0 := Lib.hid hb0
  have HK0 := Lib.hid k0
  have HK1 := Lib.hid k1
  cases ho : orbB z l m with
  | false =>
    have hkk : extOk z l m cs = false := by simp [extOk, ho]
    rw [ho] at hio
    clear hl hmr hm k0 k1 hX ho hb0
    go_enter Try.func23, Try.ntmps23
    go_wp2_with (go_at_call 25; (with_reducible refine hio.mono ?_); rintro e w2 ⟨rfl, hb2⟩; have hr2 := (hb2.block _ (OrbK.box_lt HK1.out)).trans HK1.out; obtain ⟨x0, x1, x2⟩ := OrbK.row3 hr2; obtain ⟨y0, y1, y2⟩ := z3At hr2)
    have hbz := HB0.out.trans (hb2.mono HB0.out.size)
    clear hio hb2 m0 m1 m2 hr2 HB0 HK0 HK1
    have hpost := orbB_zero (((hbz.setCell (p := ⟨w.heap.size + 1, 0, none⟩) (Nat.le_succ _) (.int .i64 0)).setCell (p := ⟨w.heap.size + 1, 1, none⟩) (Nat.le_succ _) (.slice none 0 0)).setCell (p := ⟨w.heap.size + 1, 2, none⟩) (Nat.le_succ _) (.slice none 0 0))
    go_wp2
    exact bodyPost_ret (v := .tuple #[.agg #[.int .i64 0, .slice none 0 0, .slice none 0 0], .bool false]) (by simp [results, Try.results23, go_sem, x0, x1, x2]) rfl (by rw [hkk]; exact hpost)
  | true =>
    rw [ho] at hio
    have hco := fun (W : World) (h : Below w.heap.size w W) => areConstants_any C e0 cs W (hC.below h) (by omega)
    cases hcb : constB cs with
    | false =>
      have hkk : extOk z l m cs = false := by simp [extOk, hcb]
      simp only [hcb] at hco
      clear hl hmr hm k0 k1 hX ho hb0 hcb
      go_enter Try.func23, Try.ntmps23
      go_wp2_with (first
        | (go_at_call 25; (with_reducible refine hio.mono ?_); rintro e w2 ⟨rfl, hb2⟩; have hbz := HB0.out.trans (hb2.mono HB0.out.size); have hcq := hco w2 hbz)
        | (go_at_call 36; (with_reducible refine hcq.mono ?_); rintro e w3 ⟨rfl, hb3⟩; have hb23 := hb2.trans (hb3.mono hb2.size); have hr2 := (hb23.block _ (OrbK.box_lt HK1.out)).trans HK1.out; obtain ⟨x0, x1, x2⟩ := OrbK.row3 hr2; obtain ⟨y0, y1, y2⟩ := z3At hr2))
      have hbz3 := hbz.trans (hb3.mono hbz.size)
      clear hio hco hcq hb2 hb3 hb23 m0 m1 m2 hr2 HB0 HK0 HK1 hbz
      have hpost := orbB_zero (((hbz3.setCell (p := ⟨w.heap.size + 1, 0, none⟩) (Nat.le_succ _) (.int .i64 0)).setCell (p := ⟨w.heap.size + 1, 1, none⟩) (Nat.le_succ _) (.slice none 0 0)).setCell (p := ⟨w.heap.size + 1, 2, none⟩) (Nat.le_succ _) (.slice none 0 0))
      go_wp2
      exact bodyPost_ret (v := .tuple #[.agg #[.int .i64 0, .slice none 0 0, .slice none 0 0], .bool false]) (by simp [results, Try.results23, go_sem, x0, x1, x2]) rfl (by rw [hkk]; exact hpost)
    | true =>
      simp only [hcb] at hco
      have hasc := const_asc hcb
      have hc3 := const_len hcb
      obtain ⟨hwz, hro⟩ := orb_rows ho
      have hz4 := widB_iff.1 hwz
      have hk3 := const_len (orb_const ho)
      have hnd := const_nodup (orb_const ho)
      obtain ⟨n, rfl⟩ : ∃ n : Nat, z = n := ⟨z.toNat, by omega⟩
      have hn4 : n ≤ 4 := by omega
      have hmm := orb_mem ho
      have HL := Lib.hid hl
      have HMR := Lib.hid hmr
      have HC := Lib.hid hC
      have HEM : Hid (extM n l m cs = extL n l m cs) := Lib.hid (by unfold extM; rw [show ((n : Int).toNat) = n by omega])
      have HKK : Hid (extOk n l m cs = amongB l cs) := Lib.hid (by simp [extOk, ho, hcb])
      have hec := fun (W : World) (h : Below w.heap.size w W) => extendedCodes_any n hn4 l hk3 m hf.2.1 cs hc3 hmm A B C c d e0 W (HL.out.1.below h) (HMR.out.below h) (HC.out.below h)
      have hso := fun (W : World) (h : Below w.heap.size w W) => setOfCodes_any (tabOf (extL n l m cs)) n hn4 cs (by omega) C e0 W (HC.out.below h)
      have hau := fun (W : World) (h : Below w.heap.size w W) => areAmong_any A C c e0 l cs W (HL.out.1.below h) (HC.out.below h) (by omega) (by omega)
      rw [extL_pats hn4 hc3] at hso
      unfold TabP at hec
      clear hl hmr hm k0 k1 hX ho hb0 hcb hasc hro hwz hz4 hmm
      generalize tabV (tabOf (extL n l m cs)) = ds at hec hso
      cases ha : amongB l cs with
      | false =>
        have hkk : extOk n l m cs = false := by rw [HKK.out, ha]
        simp only [ha] at hau
        clear ha hec hso
        go_enter Try.func23, Try.ntmps23
        go_wp2_with (first
          | (go_at_call 25; (with_reducible refine hio.mono ?_); rintro e w2 ⟨rfl, hb2⟩; have hbz := HB0.out.trans (hb2.mono HB0.out.size); have hcq := hco w2 hbz)
          | (go_at_call 36; (with_reducible refine hcq.mono ?_); rintro e w3 ⟨rfl, hb3⟩; have hbz3 := hbz.trans (hb3.mono hbz.size); have huq := hau w3 hbz3; have hb23 := hb2.trans (hb3.mono hb2.size); have k3 := (hb23.block _ (OrbK.box_lt HK0.out)).trans HK0.out; clear m0 m1 m2; obtain ⟨m0, m1, m2⟩ := OrbK.row3 k3)
          | (go_at_call 57; (with_reducible refine huq.mono ?_); rintro e w4 ⟨rfl, hb4⟩; have hb24 := hb23.trans (hb4.mono hb23.size); have hr2 := (hb24.block _ (OrbK.box_lt HK1.out)).trans HK1.out; obtain ⟨x0, x1, x2⟩ := OrbK.row3 hr2; obtain ⟨y0, y1, y2⟩ := z3At hr2))
        have hbz4 := hbz3.trans (hb4.mono hbz3.size)
        clear hio hco hcq hb2 hb3 hb23 m0 m1 m2 hr2 HB0 HK0 HK1 hbz hau huq hb4 hb24 hbz3 k3
        have hpost := orbB_zero (((hbz4.setCell (p := ⟨w.heap.size + 1, 0, none⟩) (Nat.le_succ _) (.int .i64 0)).setCell (p := ⟨w.heap.size + 1, 1, none⟩) (Nat.le_succ _) (.slice none 0 0)).setCell (p := ⟨w.heap.size + 1, 2, none⟩) (Nat.le_succ _) (.slice none 0 0))
        go_wp2
        exact bodyPost_ret (v := .tuple #[.agg #[.int .i64 0, .slice none 0 0, .slice none 0 0], .bool false]) (by simp [results, Try.results23, go_sem, x0, x1, x2]) rfl (by rw [hkk]; exact hpost)
      | true =>
        have hkk : extOk n l m cs = true := by rw [HKK.out, ha]
        simp only [ha] at hau
        clear ha
        go_enter Try.func23, Try.ntmps23
        generalize hRR : extL n l m cs = E at hso HEM
        clear hRR
        go_wp2_with (first
          | (go_at_call 25; (with_reducible refine hio.mono ?_); rintro e w2 ⟨rfl, hb2⟩; have hbz := HB0.out.trans (hb2.mono HB0.out.size); have hcq := hco w2 hbz)
          | (go_at_call 36; (with_reducible refine hcq.mono ?_); rintro e w3 ⟨rfl, hb3⟩; have hbz3 := hbz.trans (hb3.mono hbz.size); have huq := hau w3 hbz3; have hb23 := hb2.trans (hb3.mono hb2.size); have k3 := (hb23.block _ (OrbK.box_lt HK0.out)).trans HK0.out; clear m0 m1 m2; obtain ⟨m0, m1, m2⟩ := OrbK.row3 k3)
          | (go_at_call 57; (with_reducible refine huq.mono ?_); rintro e w4 ⟨rfl, hb4⟩))
        have hb24 := hb23.trans (hb4.mono hb23.size)
        have hbz4 := hbz3.trans (hb4.mono hbz3.size)
        have k4 := (hb24.block _ (OrbK.box_lt HK0.out)).trans HK0.out
        have j4 := (hb24.block _ (OrbK.box_lt HK1.out)).trans HK1.out
        have hlk := OrbK.box_lt k4
        have hlj := OrbK.box_lt j4
        clear m0 m1 m2
        obtain ⟨m0, m1, m2⟩ := OrbK.row3 k4
        have hdw : Below w4.heap.size w4 w4.drew := ⟨rfl, rfl, rfl, Nat.le_refl _, fun _ _ => rfl⟩
        have HS : Hid (∀ W : World, Below w4.heap.size w4 W → W.cell? ⟨w.heap.size, 0, none⟩ = some (.int .i64 (n : Int)) ∧ W.cell? ⟨w.heap.size, 1, none⟩ = some (.slice A l.length c) ∧ W.cell? ⟨w.heap.size, 2, none⟩ = some (.slice B m.length d)) :=
          Lib.hid (fun W h => ⟨(h.cell (p := ⟨w.heap.size, 0, none⟩) hlk).trans m0, (h.cell (p := ⟨w.heap.size, 1, none⟩) hlk).trans m1, (h.cell (p := ⟨w.heap.size, 2, none⟩) hlk).trans m2⟩)
        have HJ : Hid (∀ W : World, Below w4.heap.size w4 W → W.heap[w.heap.size + 1]? = some (.cells #[.int .i64 0, .slice none 0 0, .slice none 0 0] 32 (0, 0))) := Lib.hid (fun W h => (h.block _ hlj).trans j4)
        obtain ⟨f1, f2, f3⟩ := HS.out w4.drew hdw
        have hbzd := hbz4.trans (hdw.mono hbz4.size)
        have hxq := hec w4.drew hbzd
        have ne0 : w.heap.size ≠ w.heap.size + 1 := by omega
        clear hio hco hcq hb2 hb3 hb23 HB0 HK0 HK1 hbz hau huq hb4 hb24 hbz3 k3 k4 j4 hec m0 m1 m2
        (try go_wp2_with fail)
        go_region_held3 (fun w' => w'.cell? ⟨w.heap.size, 0, none⟩ = some (.int .i64 (n : Int)) ∧ w'.cell? ⟨w.heap.size, 1, none⟩ = some (.slice A l.length c) ∧ w'.cell? ⟨w.heap.size, 2, none⟩ = some (.slice B m.length d))
          (first | (with_reducible exact ⟨by assumption, by assumption, by assumption⟩) | (with_reducible exact ⟨OrbR.set3_keep (by assumption) (by assumption), OrbR.set3_keep (by assumption) (by assumption), OrbR.set3_keep (by assumption) (by assumption)⟩))
          (first
          | (go_at_call 58; (with_reducible refine hxq.mono ?_); rintro e w5 ⟨rfl, hb5⟩; have fr5 := hdw.trans (hb5.mono hdw.size); have hsq := hso w5 (hbz4.trans (fr5.mono hbz4.size)); obtain ⟨j1, j2, j3⟩ := HS.out w5 fr5)
          | (go_at_call 45; (with_reducible refine hsq.mono ?_); rintro e w6 ⟨A4, c4, A5, c5, S5, rfl, hL5, hS5, hb6⟩; have fr6 := fr5.trans (hb6.mono fr5.size); obtain ⟨j4, j5, j6⟩ := HS.out w6 fr6; have hr2 := HJ.out w6 fr6; obtain ⟨x0, x1, x2⟩ := OrbK.row3 hr2; obtain ⟨y0, y1, y2⟩ := z3At hr2)
          | fail)
        have hs5 := fr5.size
        have hpost := orbB_of true (orb_pass (r := w.heap.size + 1) hL5 (hbz4.trans (fr6.mono hbz4.size)) (Nat.le_succ _) (fun b h => by have h1 := hS5 b h; have h2 := hbz4.size; omega))
        clear f1 f2 f3 j1 j2 j3 j4 j5 j6 hxq hsq fr5 fr6 hb5 hb6 HS HJ hL5 hS5 hdw hbzd hso hr2 hbz4
        go_wp2
        exact bodyPost_ret (v := .tuple #[.agg #[.int .i64 (n : Int), .slice A4 cs.length c4, .slice A5 E.length c5], .bool true]) (by simp [results, Try.results23, go_sem, x0, x1, x2]) rfl (by rw [hkk, HEM.out]; exact hpost)
end Go.Proofs.Ytnamlgacjhnpnaa
end

section
namespace Go.Proofs.Ytnamlgacjhnpnaa
open Go.RowKit Go.Sort
set_option linter.unusedVariables false

theorem orb_parts {w : World} {S : List Nat} {z : Int} {l : List Int} {m : List (List Int)} {A B : Option Addr} {c d : Nat} (h : OwnL w S [.int .i64 z, .slice A l.length c, .slice B m.length d] (encO z l m)) : ConstAt w A c l ∧ RowsIn w (.slice B m.length d) m := by
  obtain ⟨A', c', B', d', e, h1, h2, _⟩ := orbOut_ix h
  simp only [Value.agg.injEq, Array.mk.injEq, List.cons.injEq, Value.slice.injEq, and_true, true_and] at e
  obtain ⟨⟨rfl, rfl⟩, rfl, rfl⟩ := e
  exact ⟨h1, h2⟩

end Go.Proofs.Ytnamlgacjhnpnaa
end

