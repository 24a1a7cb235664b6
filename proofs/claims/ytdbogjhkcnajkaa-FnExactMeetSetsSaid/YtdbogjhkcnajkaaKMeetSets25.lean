/-
  ExtendSet of both sides, as contracts. l6Both of the model: what is in one of two orbit sets, or in both, as a contract.
-/
import Derived.Test.YtdbogjhkcnajkaaKMeetSets19
import Derived.Test.YtdbogjhkcnajkaaKMeetSets17
import Derived.Test.YtdbogjhkcnajkaaKMeetSets16
section
namespace Go.Proofs.Ytdbogjhkcnajkaa
open Go.RowKit Go.Sort
set_option linter.unusedVariables false

end Go.Proofs.Ytdbogjhkcnajkaa
end

section
namespace Go.Proofs.Ytdbogjhkcnajkaa
open Go.RowKit Go.Sort
set_option linter.unusedVariables false

def bothK (one : Bool) (E1 E2 : List (List Int)) (p : List Int) : Bool := bothB one (thereB E1 p) (thereB E2 p)
theorem orb_parts {w : World} {S : List Nat} {z : Int} {l : List Int} {m : List (List Int)} {A B : Option Addr} {c d : Nat} (h : OwnL w S [.int .i64 z, .slice A l.length c, .slice B m.length d] (encO z l m)) : ConstAt w A c l ∧ RowsIn w (.slice B m.length d) m := by
  obtain ⟨A', c', B', d', e, h1, h2, _⟩ := orbOut_ix h
  simp only [Value.agg.injEq, Array.mk.injEq, List.cons.injEq, Value.slice.injEq, and_true, true_and] at e
  obtain ⟨⟨rfl, rfl⟩, rfl, rfl⟩ := e
  exact ⟨h1, h2⟩

set_option maxRecDepth 100000 in
set_option maxHeartbeats 8000000 in
theorem l6Both_any (one : Bool) (z1 : Int) (l1 : List Int) (m1 : List (List Int)) (hf1 : FitO l1 m1) (x1 : Value) (z2 : Int) (l2 : List Int) (m2 : List (List Int)) (hf2 : FitO l2 m2) (x2 : Value) (w : World) (hx1 : OrbIx w x1 z1 l1 m1) (hx2 : OrbIx w x2 z2 l2 m2) :
    Calls Try.prog 81 #[x1, x2, .bool one] w (OrbBOut (ozR (bothOk z1 l1 m1 z2 l2 m2) z1) (olR (bothOk z1 l1 m1 z2 l2 m2) (bothC l1 l2)) (omR (bothOk z1 l1 m1 z2 l2 m2) (bothM one z1 l1 m1 l2 m2)) (bothOk z1 l1 m1 z2 l2 m2) w) := by
  have HX1 := Lib.hid hx1
  have HX2 := Lib.hid hx2
  obtain ⟨A1, c1, B1, d1, rfl, hl1, hmr1, hm1⟩ := hx1
  obtain ⟨A2, c2, B2, d2, rfl, hl2, hmr2, hm2⟩ := hx2
  have hb0 : Below w.heap.size w (((w.alloc (.cells #[.int .i64 z1, .slice A1 l1.length c1, .slice B1 m1.length d1] 29)).alloc (.cells #[.int .i64 z2, .slice A2 l2.length c2, .slice B2 m2.length d2] 29)).alloc (.cells #[.int .i64 0, .slice none 0 0, .slice none 0 0] 29)) := (((Below.refl _ _).alloc (Nat.le_refl _) _).alloc (by simp) _).alloc (by simp; omega) _
  have k0 : (((w.alloc (.cells #[.int .i64 z1, .slice A1 l1.length c1, .slice B1 m1.length d1] 29)).alloc (.cells #[.int .i64 z2, .slice A2 l2.length c2, .slice B2 m2.length d2] 29)).alloc (.cells #[.int .i64 0, .slice none 0 0, .slice none 0 0] 29)).heap[w.heap.size]? = some (.cells #[.int .i64 z1, .slice A1 l1.length c1, .slice B1 m1.length d1] 29 (0, 0)) := (Below.heap_alloc _ _ _ (by simp; omega)).trans ((Below.heap_alloc _ _ _ (by simp)).trans (heap_alloc_new w _))
  have k1 : (((w.alloc (.cells #[.int .i64 z1, .slice A1 l1.length c1, .slice B1 m1.length d1] 29)).alloc (.cells #[.int .i64 z2, .slice A2 l2.length c2, .slice B2 m2.length d2] 29)).alloc (.cells #[.int .i64 0, .slice none 0 0, .slice none 0 0] 29)).heap[w.heap.size + 1]? = some (.cells #[.int .i64 z2, .slice A2 l2.length c2, .slice B2 m2.length d2] 29 (0, 0)) := by
    have h := heap_alloc_new (w.alloc (.cells #[.int .i64 z1, .slice A1 l1.length c1, .slice B1 m1.length d1] 29)) (.cells #[.int .i64 z2, .slice A2 l2.length c2, .slice B2 m2.length d2] 29)
    rw [World.size_alloc] at h
    exact (Below.heap_alloc _ _ _ (by simp)).trans h
  have k2 : (((w.alloc (.cells #[.int .i64 z1, .slice A1 l1.length c1, .slice B1 m1.length d1] 29)).alloc (.cells #[.int .i64 z2, .slice A2 l2.length c2, .slice B2 m2.length d2] 29)).alloc (.cells #[.int .i64 0, .slice none 0 0, .slice none 0 0] 29)).heap[w.heap.size + 1 + 1]? = some (.cells #[.int .i64 0, .slice none 0 0, .slice none 0 0] 29 (0, 0)) := by
    have h := heap_alloc_new ((w.alloc (.cells #[.int .i64 z1, .slice A1 l1.length c1, .slice B1 m1.length d1] 29)).alloc (.cells #[.int .i64 z2, .slice A2 l2.length c2, .slice B2 m2.length d2] 29)) (.cells #[.int .i64 0, .slice none 0 0, .slice none 0 0] 29)
    rw [World.size_alloc, World.size_alloc] at h
    exact h
  obtain ⟨b0, b1, b2⟩ := OrbK.row3 k0
  obtain ⟨n0, n1, n2⟩ := OrbK.row3 k1
  have hun := l6Union_all A1 A2 c1 c2 l1 l2 _ (hl1.1.below hb0) hl1.2 (hl2.1.below hb0) (by have := hf1.1; omega) (by have := hf2.1; omega)
  have HB0 := Lib.hid hb0
  have HK0 := Lib.hid k0
  have HK1 := Lib.hid k1
  have HK2 := Lib.hid k2
  have HL1 := Lib.hid hl1
  have HL2 := Lib.hid hl2
  have HM1 := Lib.hid hmr1
  have HM2 := Lib.hid hmr2
  have HUL : Hid ((bothC l1 l2).length ≤ 4194304) := Lib.hid (by have := unB_len l1 l2; have := hf1.1; have := hf2.1; unfold bothC; omega)
  have hst : Hid (∀ ok : Bool, bothOk z1 l1 m1 z2 l2 m2 = ok → True) := Lib.hid (fun _ _ => trivial)
  clear hl1 hmr1 hm1 hl2 hmr2 hm2 k0 k1 k2 hb0 hst
  rw [show unB l1 l2 = bothC l1 l2 from rfl] at hun
  have hIO1 := fun W (h : Below w.heap.size w W) => isOrbitSet_spec z1 l1 m1 hf1 _ W (HX1.out.below h)
  have hIO2 := fun W (h : Below w.heap.size w W) => isOrbitSet_spec z2 l2 m2 hf2 _ W (HX2.out.below h)
  have hCO := fun W A' c' (h : IntsAt W A' (bothC l1 l2)) => l6Constants_any A' c' (bothC l1 l2) W h (by have := HUL.out; omega)
  cases ho1 : orbB z1 l1 m1 with
  | false =>
    have hkk : bothOk z1 l1 m1 z2 l2 m2 = false := by simp [bothOk, ho1]
    simp only [ho1] at hIO1
    clear ho1
    go_enter Try.func81, Try.ntmps81
    go_wp2_with (first
      | (go_at_call 75; (with_reducible refine hun.mono ?_); rintro e w2 ⟨gU, capU, rfl, hoU, hb2⟩; have hbz2 := HB0.out.trans (hb2.mono HB0.out.size); have K2 := Lib.hid ((hb2.block _ (OrbK.box_lt HK0.out)).trans HK0.out); have J2 := Lib.hid ((hb2.block _ (OrbK.box_lt HK1.out)).trans HK1.out); have R2 := Lib.hid ((hb2.block _ (OrbK.box_lt HK2.out)).trans HK2.out); have HUI := Lib.hid (ints_own hoU); clear hoU HK0 HK1 HK2 b0 b1 b2 n0 n1 n2 hun; obtain ⟨b0, b1, b2⟩ := OrbK.row3 K2.out; have hio1 := hIO1 w2 hbz2)
      | (go_at_call 74; (with_reducible refine hio1.mono ?_); rintro e w3 ⟨rfl, hb3⟩; have r2 := (hb3.block _ (OrbK.box_lt R2.out)).trans R2.out; obtain ⟨x0, x1, x2⟩ := OrbK.row3 r2; obtain ⟨y0, y1, y2⟩ := z3At r2))
    have hbz := hbz2.trans (hb3.mono hbz2.size)
    have hbl2 := OrbK.box_lt R2.out
    have hpost := orbB_zero (((hbz.setCell (p := ⟨w.heap.size + 1 + 1, 0, none⟩) (show w.heap.size ≤ w.heap.size + 1 + 1 by omega) (.int .i64 0)).setCell (p := ⟨w.heap.size + 1 + 1, 1, none⟩) (show w.heap.size ≤ w.heap.size + 1 + 1 by omega) (.slice none 0 0)).setCell (p := ⟨w.heap.size + 1 + 1, 2, none⟩) (show w.heap.size ≤ w.heap.size + 1 + 1 by omega) (.slice none 0 0))
    clear hio1 hb2 hb3 b0 b1 b2 hbz2 hbz hIO1 hIO2 hCO r2
    go_wp2
    exact bodyPost_ret (v := .tuple #[.agg #[.int .i64 0, .slice none 0 0, .slice none 0 0], .bool false]) (by simp [results, Try.results81, go_sem, x0, x1, x2]) rfl (by rw [hkk]; exact hpost)
  | true =>
    simp only [ho1] at hIO1
    cases ho2 : orbB z2 l2 m2 with
    | false =>
      have hkk : bothOk z1 l1 m1 z2 l2 m2 = false := by simp [bothOk, ho2]
      simp only [ho2] at hIO2
      clear ho1 ho2
      go_enter Try.func81, Try.ntmps81
      go_wp2_with (first
        | (go_at_call 75; (with_reducible refine hun.mono ?_); rintro e w2 ⟨gU, capU, rfl, hoU, hb2⟩; have hbz2 := HB0.out.trans (hb2.mono HB0.out.size); have K2 := Lib.hid ((hb2.block _ (OrbK.box_lt HK0.out)).trans HK0.out); have J2 := Lib.hid ((hb2.block _ (OrbK.box_lt HK1.out)).trans HK1.out); have R2 := Lib.hid ((hb2.block _ (OrbK.box_lt HK2.out)).trans HK2.out); have HUI := Lib.hid (ints_own hoU); clear hoU HK0 HK1 HK2 b0 b1 b2 n0 n1 n2 hun; obtain ⟨b0, b1, b2⟩ := OrbK.row3 K2.out; have hio1 := hIO1 w2 hbz2)
        | (go_at_call 74; (with_reducible refine hio1.mono ?_); rintro e w3 ⟨rfl, hb3⟩; have hbz3 := hbz2.trans (hb3.mono hbz2.size); have J3 := (hb3.block _ (OrbK.box_lt J2.out)).trans J2.out; obtain ⟨n0, n1, n2⟩ := OrbK.row3 J3; have K3 := (hb3.block _ (OrbK.box_lt K2.out)).trans K2.out; clear b0 b1 b2; obtain ⟨b0, b1, b2⟩ := OrbK.row3 K3; have hio2 := hIO2 w3 hbz3)
        | (go_at_call 74; (with_reducible refine hio2.mono ?_); rintro e w4 ⟨rfl, hb4⟩; have hb24 := hb3.trans (hb4.mono hb3.size); have K4 := (hb4.block _ (OrbK.box_lt K3)).trans K3; have J4 := (hb4.block _ (OrbK.box_lt J3)).trans J3; clear b0 b1 b2 n0 n1 n2; obtain ⟨b0, b1, b2⟩ := OrbK.row3 K4; obtain ⟨n0, n1, n2⟩ := OrbK.row3 J4; have r2 := (hb24.block _ (OrbK.box_lt R2.out)).trans R2.out; obtain ⟨x0, x1, x2⟩ := OrbK.row3 r2; obtain ⟨y0, y1, y2⟩ := z3At r2))
      have hbz := hbz3.trans (hb4.mono hbz3.size)
      have hbl2 := OrbK.box_lt R2.out
      have hpost := orbB_zero (((hbz.setCell (p := ⟨w.heap.size + 1 + 1, 0, none⟩) (show w.heap.size ≤ w.heap.size + 1 + 1 by omega) (.int .i64 0)).setCell (p := ⟨w.heap.size + 1 + 1, 1, none⟩) (show w.heap.size ≤ w.heap.size + 1 + 1 by omega) (.slice none 0 0)).setCell (p := ⟨w.heap.size + 1 + 1, 2, none⟩) (show w.heap.size ≤ w.heap.size + 1 + 1 by omega) (.slice none 0 0))
      clear hio1 hio2 hb2 hb3 hb4 hb24 b0 b1 b2 n0 n1 n2 hbz2 hbz3 hbz hIO1 hIO2 hCO r2 J3 K3 J4 K4
      go_wp2
      exact bodyPost_ret (v := .tuple #[.agg #[.int .i64 0, .slice none 0 0, .slice none 0 0], .bool false]) (by simp [results, Try.results81, go_sem, x0, x1, x2]) rfl (by rw [hkk]; exact hpost)
    | true =>
      simp only [ho2] at hIO2
      by_cases hz : z1 = z2
      · subst hz
        cases hcb : constB (bothC l1 l2) with
        | false =>
          have hkk : bothOk z1 l1 m1 z1 l2 m2 = false := by simp [bothOk, hcb]
          simp only [hcb] at hCO
          clear ho1 ho2 hcb
          go_enter Try.func81, Try.ntmps81
          go_wp2_with (first
            | (go_at_call 75; (with_reducible refine hun.mono ?_); rintro e w2 ⟨gU, capU, rfl, hoU, hb2⟩; have hbz2 := HB0.out.trans (hb2.mono HB0.out.size); have K2 := Lib.hid ((hb2.block _ (OrbK.box_lt HK0.out)).trans HK0.out); have J2 := Lib.hid ((hb2.block _ (OrbK.box_lt HK1.out)).trans HK1.out); have R2 := Lib.hid ((hb2.block _ (OrbK.box_lt HK2.out)).trans HK2.out); have HUI := Lib.hid (ints_own hoU); clear hoU HK0 HK1 HK2 b0 b1 b2 n0 n1 n2 hun; obtain ⟨b0, b1, b2⟩ := OrbK.row3 K2.out; have hio1 := hIO1 w2 hbz2)
            | (go_at_call 74; (with_reducible refine hio1.mono ?_); rintro e w3 ⟨rfl, hb3⟩; have hbz3 := hbz2.trans (hb3.mono hbz2.size); have J3 := (hb3.block _ (OrbK.box_lt J2.out)).trans J2.out; obtain ⟨n0, n1, n2⟩ := OrbK.row3 J3; have K3 := (hb3.block _ (OrbK.box_lt K2.out)).trans K2.out; clear b0 b1 b2; obtain ⟨b0, b1, b2⟩ := OrbK.row3 K3; have hio2 := hIO2 w3 hbz3)
            | (go_at_call 74; (with_reducible refine hio2.mono ?_); rintro e w4 ⟨rfl, hb4⟩; have hb24 := hb3.trans (hb4.mono hb3.size); have K4 := (hb4.block _ (OrbK.box_lt K3)).trans K3; have J4 := (hb4.block _ (OrbK.box_lt J3)).trans J3; clear b0 b1 b2 n0 n1 n2; obtain ⟨b0, b1, b2⟩ := OrbK.row3 K4; obtain ⟨n0, n1, n2⟩ := OrbK.row3 J4; have r2 := (hb24.block _ (OrbK.box_lt R2.out)).trans R2.out; obtain ⟨x0, x1, x2⟩ := OrbK.row3 r2; obtain ⟨y0, y1, y2⟩ := z3At r2; have hbz4 := hbz3.trans (hb4.mono hbz3.size); have hcq := hCO w4 _ capU (HUI.out.below hb24))
            | (go_at_call 67; (with_reducible refine hcq.mono ?_); rintro e w5 ⟨rfl, hb5⟩; have hb25 := hb24.trans (hb5.mono hb24.size); clear x0 x1 x2 y0 y1 y2 r2; have r2 := (hb25.block _ (OrbK.box_lt R2.out)).trans R2.out; obtain ⟨x0, x1, x2⟩ := OrbK.row3 r2; obtain ⟨y0, y1, y2⟩ := z3At r2))
          have hbz := hbz4.trans (hb5.mono hbz4.size)
          have hbl2 := OrbK.box_lt R2.out
          have hpost := orbB_zero (((hbz.setCell (p := ⟨w.heap.size + 1 + 1, 0, none⟩) (show w.heap.size ≤ w.heap.size + 1 + 1 by omega) (.int .i64 0)).setCell (p := ⟨w.heap.size + 1 + 1, 1, none⟩) (show w.heap.size ≤ w.heap.size + 1 + 1 by omega) (.slice none 0 0)).setCell (p := ⟨w.heap.size + 1 + 1, 2, none⟩) (show w.heap.size ≤ w.heap.size + 1 + 1 by omega) (.slice none 0 0))
          clear hio1 hio2 hcq hb2 hb3 hb4 hb5 hb24 hb25 b0 b1 b2 n0 n1 n2 hbz2 hbz3 hbz4 hbz hIO1 hIO2 hCO r2 J3 K3 J4 K4
          go_wp2
          exact bodyPost_ret (v := .tuple #[.agg #[.int .i64 0, .slice none 0 0, .slice none 0 0], .bool false]) (by simp [results, Try.results81, go_sem, x0, x1, x2]) rfl (by rw [hkk]; exact hpost)
        | true =>
          simp only [hcb] at hCO
          have hkk : bothOk z1 l1 m1 z1 l2 m2 = true := by simp [bothOk, ho1, ho2, hcb]
          have hc3 := const_len hcb
          obtain ⟨hwz, _⟩ := orb_rows ho1
          have hz4 := widB_iff.1 hwz
          have hk1 := const_len (orb_const ho1)
          have hk2 := const_len (orb_const ho2)
          have hnd1 := const_nodup (orb_const ho1)
          have hnd2 := const_nodup (orb_const ho2)
          obtain ⟨n, rfl⟩ : ∃ n : Nat, z1 = n := ⟨z1.toNat, by omega⟩
          have hn4 : n ≤ 4 := by omega
          have hex1 := fun (W : World) (h : Below w.heap.size w W) A' c' (hC : ConstAt W A' c' (bothC l1 l2)) => l6Extend_any n hn4 l1 hk1 hnd1 m1 hf1.2 (bothC l1 l2) hc3 A1 B1 A' c1 d1 c' W (HL1.out.below h) (HM1.out.below h) hC
          have hex2 := fun (W : World) (h : Below w.heap.size w W) A' c' (hC : ConstAt W A' c' (bothC l1 l2)) => l6Extend_any n hn4 l2 hk2 hnd2 m2 hf2.2 (bothC l1 l2) hc3 A2 B2 A' c2 d2 c' W (HL2.out.below h) (HM2.out.below h) hC
          have hfx1 := filter_fitR (k := ((bothC l1 l2).length : Int)) (by omega) (by omega) hn4 (extG l1 m1 (bothC l1 l2))
          have hfx2 := filter_fitR (k := ((bothC l1 l2).length : Int)) (by omega) (by omega) hn4 (extG l2 m2 (bothC l1 l2))
          have HEM : Hid (bothM one n l1 m1 l2 m2 = bothL one n (bothC l1 l2).length (extL n l1 m1 (bothC l1 l2)) (extL n l2 m2 (bothC l1 l2))) := Lib.hid (by unfold bothM; rw [show ((n : Int).toNat) = n by omega])
          rw [show (allP n (bothC l1 l2).length).filter (extG l1 m1 (bothC l1 l2)) = extL n l1 m1 (bothC l1 l2) from rfl] at hfx1
          rw [show (allP n (bothC l1 l2).length).filter (extG l2 m2 (bothC l1 l2)) = extL n l2 m2 (bothC l1 l2) from rfl] at hfx2
          have HKK := Lib.hid hkk
          clear ho1 ho2 hcb hwz hz4 hnd1 hnd2 hk1 hk2 hkk
          generalize extL n l1 m1 (bothC l1 l2) = E1 at *
          generalize extL n l2 m2 (bothC l1 l2) = E2 at *
          generalize bothC l1 l2 = U at *
          have HPL := Lib.hid (allP_pos (k := (U.length : Int)) (by omega) n)
          have HPM := Lib.hid (allP_4096 (k := (U.length : Int)) (by omega) (by omega) hn4)
          have HRW := Lib.hid (fun i (hi : i < (allP n U.length).length) => (allP_row (k := (U.length : Int)) (by omega) hi).1)
          have HBL : Hid (bothL one n U.length E1 E2 = (allP n U.length).filter (bothK one E1 E2)) := Lib.hid rfl
          have HTH := Lib.hid (thoseL_filter n U.length (bothK one E1 E2))
          have HFF := Lib.hid (filter_fitR (k := (U.length : Int)) (by omega) (by omega) hn4 (bothK one E1 E2))
          have hal := fun W => l6All_any U.length hc3 n hn4 n rfl W
          have hthose := fun (W : World) (L : List (List Int)) (h : FitR L) A' c' (hA : ConstAt W A' c' U) (B9 : Option Addr) (d9 : Nat) (hB : RowsIn W (.slice B9 L.length d9) L) => l6Those_any n hn4 U hc3 L h A' B9 c' d9 W hA hB
          generalize thoseL n U.length = TH at hthose HTH
          generalize allP n U.length = P at *
          go_enter Try.func81, Try.ntmps81
          go_wp2_with (first
            | (go_at_call 75; (with_reducible refine hun.mono ?_); rintro e w2 ⟨gU, capU, rfl, hoU, hb2⟩; have hbz2 := HB0.out.trans (hb2.mono HB0.out.size); have K2 := Lib.hid ((hb2.block _ (OrbK.box_lt HK0.out)).trans HK0.out); have J2 := Lib.hid ((hb2.block _ (OrbK.box_lt HK1.out)).trans HK1.out); have R2 := Lib.hid ((hb2.block _ (OrbK.box_lt HK2.out)).trans HK2.out); have HUI := Lib.hid (ints_own hoU); clear hoU HK0 HK1 HK2 b0 b1 b2 n0 n1 n2 hun; obtain ⟨b0, b1, b2⟩ := OrbK.row3 K2.out; have hio1 := hIO1 w2 hbz2)
            | (go_at_call 74; (with_reducible refine hio1.mono ?_); rintro e w3 ⟨rfl, hb3⟩; have hbz3 := hbz2.trans (hb3.mono hbz2.size); have J3 := (hb3.block _ (OrbK.box_lt J2.out)).trans J2.out; obtain ⟨n0, n1, n2⟩ := OrbK.row3 J3; have K3 := (hb3.block _ (OrbK.box_lt K2.out)).trans K2.out; clear b0 b1 b2; obtain ⟨b0, b1, b2⟩ := OrbK.row3 K3; have hio2 := hIO2 w3 hbz3)
            | (go_at_call 74; (with_reducible refine hio2.mono ?_); rintro e w4 ⟨rfl, hb4⟩; have hb24 := hb3.trans (hb4.mono hb3.size); have K4 := (hb4.block _ (OrbK.box_lt K3)).trans K3; have J4 := (hb4.block _ (OrbK.box_lt J3)).trans J3; clear b0 b1 b2 n0 n1 n2; obtain ⟨b0, b1, b2⟩ := OrbK.row3 K4; obtain ⟨n0, n1, n2⟩ := OrbK.row3 J4; have r2 := (hb24.block _ (OrbK.box_lt R2.out)).trans R2.out; obtain ⟨x0, x1, x2⟩ := OrbK.row3 r2; obtain ⟨y0, y1, y2⟩ := z3At r2; have hbz4 := hbz3.trans (hb4.mono hbz3.size); have hcq := hCO w4 _ capU (HUI.out.below hb24))
            | (go_at_call 67; (with_reducible refine hcq.mono ?_); rintro e w5 ⟨rfl, hb5⟩; have hbz5 := hbz4.trans (hb5.mono hbz4.size); have hb25 := hb24.trans (hb5.mono hb24.size); clear x0 x1 x2 y0 y1 y2 r2; have r2 := (hb25.block _ (OrbK.box_lt R2.out)).trans R2.out; obtain ⟨x0, x1, x2⟩ := OrbK.row3 r2; obtain ⟨y0, y1, y2⟩ := z3At r2; have hcA := Lib.hid (show ConstAt w5 (some ⟨gU, 0, none⟩) capU U from ⟨HUI.out.below hb25, fun h => by cases h⟩); have hxq1 := hex1 w5 hbz5 _ capU hcA.out; have K5 := (hb5.block _ (OrbK.box_lt K4)).trans K4; have J5 := (hb5.block _ (OrbK.box_lt J4)).trans J4; have R5 := r2; have hbl5 := OrbK.box_lt r2; clear b0 b1 b2 n0 n1 n2 x0 x1 x2 y0 y1 y2 r2; obtain ⟨b0, b1, b2⟩ := OrbK.row3 K5)
            | (go_at_call 76; (with_reducible refine hxq1.mono ?_); rintro e w6 ⟨A5, c5, B5, d5, S5, rfl, hL5, hS5, hb6⟩; have hr5 := (orb_parts hL5).2; have hbx6 : Below w6.heap.size w6 (w6.alloc (.cells #[.int .i64 (n : Int), .slice A5 U.length c5, .slice B5 E1.length d5] 29)) := (Below.refl _ _).alloc (Nat.le_refl _) _; have h56 := hb6.trans (hbx6.mono hb6.size); have J6 := (h56.block _ (OrbK.box_lt J5)).trans J5; have K6 := (h56.block _ (OrbK.box_lt K5)).trans K5; have R6 := (h56.block _ (OrbK.box_lt R5)).trans R5; have hbz6 := hbz5.trans (h56.mono hbz5.size); have hcA6 := hcA.out.below h56; have hxq2 := hex2 _ hbz6 _ capU hcA6; clear h56 K5 J5 R5 b0 b1 b2; obtain ⟨n0, n1, n2⟩ := OrbK.row3 J6)
            | (go_at_call 76; (with_reducible refine hxq2.mono ?_); rintro e w7 ⟨A6, c6, B6, d6, S6, rfl, hL6, hS6, hb7⟩; have hr6 := (orb_parts hL6).2; have K7 : ((w7.alloc (.cells #[.int .i64 (n : Int), .slice A6 U.length c6, .slice B6 E2.length d6] 29)).alloc (.cells #[] 27)).heap[w.heap.size]? = some (.cells #[.int .i64 (n : Int), .slice A1 l1.length c1, .slice B1 m1.length d1] 29 (0, 0)) := ((((Below.refl w7.heap.size w7).alloc (Nat.le_refl _) (.cells #[.int .i64 (n : Int), .slice A6 U.length c6, .slice B6 E2.length d6] 29)).alloc (by simp) (.cells #[] 27)).block _ (OrbK.box_lt ((hb7.block _ (OrbK.box_lt K6)).trans K6))).trans ((hb7.block _ (OrbK.box_lt K6)).trans K6); clear n0 n1 n2; obtain ⟨b0, b1, b2⟩ := OrbK.row3 K7)
            | (go_at_call 61; (with_reducible refine (hal _).mono ?_); rintro e w8 ⟨v8, S8, rfl, hS8, hS8b, hb8⟩; obtain ⟨g, off, cg, u, T, rfl, hleft, hTS, hgS⟩ := left_of hS8 HPL.out))
          clear b0 b1 b2 hio1 hio2 hcq hxq1 hxq2 hb2 hb3 hb4 hb5 hb24 hb25 hbz2 hbz3 hbz4 hbz5 K2 J2 R2 K3 J3 K4 J4 hIO1 hIO2 hCO hex1 hex2 HUI hal
          have hbx7 : Below w7.heap.size w7 (w7.alloc (.cells #[.int .i64 (n : Int), .slice A6 U.length c6, .slice B6 E2.length d6] 29)) := (Below.refl _ _).alloc (Nat.le_refl _) _
          have hsz7 : Hid ((w7.alloc (.cells #[.int .i64 (n : Int), .slice A6 U.length c6, .slice B6 E2.length d6] 29)).heap.size = w7.heap.size + 1) := Lib.hid (by simp)
          have h67 := hb7.trans (hbx7.mono hb7.size)
          have hs6 := h67.size
          have hsx6 : (w6.alloc (.cells #[.int .i64 (n : Int), .slice A5 U.length c5, .slice B5 E1.length d5] 29)).heap.size = w6.heap.size + 1 := by simp
          have KA := Lib.hid (show (w7.alloc (.cells #[.int .i64 (n : Int), .slice A6 U.length c6, .slice B6 E2.length d6] 29)).heap[w.heap.size]? = some (.cells #[.int .i64 (n : Int), .slice A1 l1.length c1, .slice B1 m1.length d1] 29 (0, 0)) from (h67.block _ (OrbK.box_lt K6)).trans K6)
          have KR := Lib.hid ((h67.block _ (OrbK.box_lt R6)).trans R6)
          have K9 := Lib.hid ((h67.block w6.heap.size (by rw [hsx6]; omega)).trans (heap_alloc_new w6 (.cells #[.int .i64 (n : Int), .slice A5 U.length c5, .slice B5 E1.length d5] 29)))
          have K10 := Lib.hid (heap_alloc_new w7 (.cells #[.int .i64 (n : Int), .slice A6 U.length c6, .slice B6 E2.length d6] 29))
          have HE1 := Lib.hid (show RowsIn (w7.alloc (.cells #[.int .i64 (n : Int), .slice A6 U.length c6, .slice B6 E2.length d6] 29)) (.slice B5 E1.length d5) E1 from (hr5.below hbx6).below h67)
          have HE2 := Lib.hid (show RowsIn (w7.alloc (.cells #[.int .i64 (n : Int), .slice A6 U.length c6, .slice B6 E2.length d6] 29)) (.slice B6 E2.length d6) E2 from hr6.below hbx7)
          have HU7 := Lib.hid (show ConstAt (w7.alloc (.cells #[.int .i64 (n : Int), .slice A6 U.length c6, .slice B6 E2.length d6] 29)) (some ⟨gU, 0, none⟩) capU U from hcA6.below h67)
          have HBW := Lib.hid (hbz6.trans (h67.mono hbz6.size))
          have HL6 := Lib.hid (show w6.heap.size < w7.heap.size by have := hb7.size; rw [hsx6] at this; omega)
          have HLR := Lib.hid (show w.heap.size + 1 + 1 < w6.heap.size from Nat.lt_of_lt_of_le hbl5 hb6.size)
          clear K6 J6 R6 K7 hbx6 hbx7 hb6 hb7 h67 hs6 hsx6 hL5 hS5 hL6 hS6 hr5 hr6 hcA hcA6 hbz6 hbl5
          generalize (w7.alloc (.cells #[.int .i64 (n : Int), .slice A6 U.length c6, .slice B6 E2.length d6] 29)) = W7 at *
          have hbL : Below W7.heap.size W7 (W7.alloc (.cells #[] 27)) := (Below.refl _ _).alloc (Nat.le_refl _) _
          have hsL : (W7.alloc (.cells #[] 27)).heap.size = W7.heap.size + 1 := by simp
          rw [hsL] at hS8b
          have hg0 := hS8b g hgS
          have hO8 := (own_lit0 W7).keep hb8
          rw [hsz7.out] at hO8
          have O8 := Lib.hid hO8
          have HB8 := Lib.hid (hbL.trans (hb8.mono hbL.size))
          have HTB : Hid (∀ j, ∀ b ∈ T j, W7.heap.size + 1 ≤ b ∧ b < w8.heap.size) := Lib.hid (fun j b hb => ⟨hS8b b (hTS j b hb), hS8.lt b (hTS j b hb)⟩)
          have HLT := Lib.hid hleft
          have HS8 : Hid (W7.heap.size ≤ w8.heap.size) := Lib.hid (by have := hb8.size; omega)
          clear hS8 hS8b hTS hgS hleft hbL hsL hb8 hO8
          go_wp2
          go_loopw [11, 13, 14, 15, 55] (fun v11 _ _ _ i wr => ∃ (j : Nat) (U2 : List Nat), j ≤ P.length ∧ i = .int .i64 j ∧ Hid (Own wr U2 v11 (rowsMem ((P.take j).filter (bothK one E1 E2)))) ∧ Hid (Left wr P g off u T j) ∧ Hid (∀ b ∈ U2, W7.heap.size ≤ b ∧ b ≠ g ∧ ∀ q, j ≤ q → b ∉ T q) ∧ Below W7.heap.size W7 wr ∧ w8.heap.size ≤ wr.heap.size) (fun _ _ _ _ i _ => P.length - (intOf i).toNat)
          case atStart => exact ⟨0, _, Nat.zero_le _, rfl, O8, HLT, Lib.hid (fun b hb => by
            have e : b = w7.heap.size + 1 := by simpa using hb
            have h7 := hsz7.out
            subst e
            exact ⟨by omega, by omega, fun q _ hq => by have := (HTB.out q _ hq).1; omega⟩), HB8.out, Nat.le_refl _⟩
          case round =>
            clear O8 HLT HB8
            obtain ⟨j, U2, hj, rfl, hU, hLf, hUb, hb, hsw⟩ := hrel
            have hPb : P.length ≤ 4096 := HPM.out
            by_cases hlt : j < P.length
            · obtain ⟨A3, c3, hu3, hA3, hc3, hO3⟩ := hLf.out.row hlt
              have hrl : (rwAt P j).length ≤ 4 := by have := HRW.out j hlt; omega
              have hfy := Lib.hid (fun h => filter_yes (f := bothK one E1 E2) hlt h)
              have hfn := Lib.hid (fun h => filter_no (f := bothK one E1 E2) hlt h)
              have hfl := filter_take_le P (bothK one E1 E2) j
              have hth1 := l6There_any B5 A3 d5 c3 E1 (rwAt P j) wr (HE1.out.below hb) hA3.1 hfx1 (by omega)
              have HTQ := Lib.hid (fun (W : World) (h : Below wr.heap.size wr W) => l6There_any B6 A3 d6 c3 E2 (rwAt P j) W (HE2.out.below (hb.trans (h.mono hb.size))) (hA3.1.below h) hfx2 (by omega))
              have HBB : Hid (bothK one E1 E2 (rwAt P j) = bothB one (thereB E1 (rwAt P j)) (thereB E2 (rwAt P j))) := Lib.hid rfl
              have k9 := (hb.block _ (OrbK.box_lt K9.out)).trans K9.out
              have HK10 : Hid (∀ W : World, Below wr.heap.size wr W → W.cell? ⟨w7.heap.size, 2, none⟩ = some (.slice B6 E2.length d6)) := Lib.hid (fun W h => by
                have hh := hb.trans (h.mono hb.size)
                exact (OrbK.row3 ((hh.block _ (OrbK.box_lt K10.out)).trans K10.out)).2.2)
              obtain ⟨_, _, b2⟩ := OrbK.row3 k9
              have HO3 := Lib.hid hO3
              have HDT := Lib.hid (fun b (h1 : b ∈ U2) => (hUb.out b h1).2.2 j (Nat.le_refl _))
              have HDJ := Lib.hid (fun q (h : j + 1 ≤ q) b (h1 : b ∈ T j) => hLf.out.dis j q (by omega) b h1)
              have HGJ := Lib.hid (hLf.out.hd j)
              have HTJ := Lib.hid (HTB.out j)
              have hgl := hLf.out.lt
              clear hA3 hu3 hO3 k9
              generalize hFF : (P.take j).filter (bothK one E1 E2) = FF at hU hfy hfn hfl
              generalize hpp : rwAt P j = p at hrl hfy hfn hth1 HTQ HBB hc3 HO3 ⊢
              clear hFF hpp
              generalize thereB E1 p = fa at hth1 HBB
              generalize thereB E2 p = fb at HTQ HBB
              cases fa <;> cases fb <;> cases one
              · have HNX := Lib.hid (hfn.out (HBB.out.trans rfl))
                clear hfy hfn
                go_wp2_with fail
                (with_reducible refine hth1.mono ?_)
                rintro e wa ⟨rfl, hba⟩
                have b3 := HK10.out wa hba
                have hth2 := HTQ.out wa hba
                go_wp2_with fail
                (with_reducible refine hth2.mono ?_)
                rintro e w5 ⟨rfl, hbb⟩
                have hb5 := hba.trans (hbb.mono hba.size)
                have U5 := hU.out.keep hb5
                rw [← HNX.out] at U5
                have U6 := Lib.hid U5
                have L5 := Lib.hid ((hLf.out.below hb5).next)
                have B5' : Hid (∀ b ∈ U2, W7.heap.size ≤ b ∧ b ≠ g ∧ ∀ q, j + 1 ≤ q → b ∉ T q) := Lib.hid (fun b h1 => ⟨(hUb.out b h1).1, (hUb.out b h1).2.1, fun q hq => (hUb.out b h1).2.2 q (by omega)⟩)
                have hb7 := hb.trans (hb5.mono hb.size)
                have hs7 : w8.heap.size ≤ w5.heap.size := Nat.le_trans hsw hb5.size
                clear hth1 hth2 b2 b3 hc3 hb5 hba hbb hU hLf hUb HNX HO3 hb hsw U5
                go_wp2
                refine ⟨⟨j + 1, U2, by omega, by go_num, U6, L5, B5', hb7, hs7⟩, ?_⟩
                simp only [intOf]
                omega
              · have HNX := Lib.hid (hfn.out (HBB.out.trans rfl))
                clear hfy hfn
                go_wp2_with fail
                (with_reducible refine hth1.mono ?_)
                rintro e wa ⟨rfl, hba⟩
                have b3 := HK10.out wa hba
                have hth2 := HTQ.out wa hba
                go_wp2_with fail
                (with_reducible refine hth2.mono ?_)
                rintro e w5 ⟨rfl, hbb⟩
                have hb5 := hba.trans (hbb.mono hba.size)
                have U5 := hU.out.keep hb5
                rw [← HNX.out] at U5
                have U6 := Lib.hid U5
                have L5 := Lib.hid ((hLf.out.below hb5).next)
                have B5' : Hid (∀ b ∈ U2, W7.heap.size ≤ b ∧ b ≠ g ∧ ∀ q, j + 1 ≤ q → b ∉ T q) := Lib.hid (fun b h1 => ⟨(hUb.out b h1).1, (hUb.out b h1).2.1, fun q hq => (hUb.out b h1).2.2 q (by omega)⟩)
                have hb7 := hb.trans (hb5.mono hb.size)
                have hs7 : w8.heap.size ≤ w5.heap.size := Nat.le_trans hsw hb5.size
                clear hth1 hth2 b2 b3 hc3 hb5 hba hbb hU hLf hUb HNX HO3 hb hsw U5
                go_wp2
                refine ⟨⟨j + 1, U2, by omega, by go_num, U6, L5, B5', hb7, hs7⟩, ?_⟩
                simp only [intOf]
                omega
              · have HNX := Lib.hid (hfn.out (HBB.out.trans rfl))
                clear hfy hfn
                go_wp2_with fail
                (with_reducible refine hth1.mono ?_)
                rintro e wa ⟨rfl, hba⟩
                have b3 := HK10.out wa hba
                have hth2 := HTQ.out wa hba
                go_wp2_with fail
                (with_reducible refine hth2.mono ?_)
                rintro e w5 ⟨rfl, hbb⟩
                have hb5 := hba.trans (hbb.mono hba.size)
                have U5 := hU.out.keep hb5
                rw [← HNX.out] at U5
                have U6 := Lib.hid U5
                have L5 := Lib.hid ((hLf.out.below hb5).next)
                have B5' : Hid (∀ b ∈ U2, W7.heap.size ≤ b ∧ b ≠ g ∧ ∀ q, j + 1 ≤ q → b ∉ T q) := Lib.hid (fun b h1 => ⟨(hUb.out b h1).1, (hUb.out b h1).2.1, fun q hq => (hUb.out b h1).2.2 q (by omega)⟩)
                have hb7 := hb.trans (hb5.mono hb.size)
                have hs7 : w8.heap.size ≤ w5.heap.size := Nat.le_trans hsw hb5.size
                clear hth1 hth2 b2 b3 hc3 hb5 hba hbb hU hLf hUb HNX HO3 hb hsw U5
                go_wp2
                refine ⟨⟨j + 1, U2, by omega, by go_num, U6, L5, B5', hb7, hs7⟩, ?_⟩
                simp only [intOf]
                omega
              · have HNX := Lib.hid (hfy.out (HBB.out.trans rfl))
                clear hfy hfn
                go_wp2_with fail
                (with_reducible refine hth1.mono ?_)
                rintro e wa ⟨rfl, hba⟩
                have b3 := HK10.out wa hba
                have hth2 := HTQ.out wa hba
                go_wp2_with fail
                (with_reducible refine hth2.mono ?_)
                rintro e w5 ⟨rfl, hbb⟩
                have hb5 := hba.trans (hbb.mono hba.size)
                have hbx : Below w5.heap.size w5 (w5.alloc (.cells #[.slice A3 p.length c3] 27)) := (Below.refl _ _).alloc (Nat.le_refl _) _
                have hb56 := hb5.trans (hbx.mono hb5.size)
                have hU6 := hU.out.keep hb56
                have HO6 := Lib.hid (HO3.out.keep hb56)
                have hcell : (w5.alloc (.cells #[.slice A3 p.length c3] 27)).cell? ⟨w5.heap.size, 0, none⟩ = some (.slice A3 p.length c3) := by simp
                have HC := Lib.hid (one_cell hcell)
                have HLF := Lib.hid (hLf.out.below hb56)
                have HB6 := Lib.hid (hb.trans (hb56.mono hb.size))
                have hs5 := hb5.size
                have hdl : FF.length + 1 ≤ 16777216 := by omega
                clear hth1 hth2 b2 b3 hc3 hcell hbx hb56 hb5 hba hbb hU hLf HO3 hb
                go_wp2_with (at_builtin; refine wpList_append_rows rfl (.tmp 80) (.tmp 82) rfl _ U2 FF rfl hU6 ⟨w5.heap.size, 0, none⟩ _ p (T j) rfl HC.out HO6.out HDT.out hdl ?_)
                intro g2 cap2 U3 w7' hU7 hU3 hon
                have hs7 : w5.heap.size + 1 ≤ w7'.heap.size := by have := hon.size; rw [World.size_alloc] at this; exact this
                have L7 := Lib.hid (HLF.out.next.only hon (fun h => (hUb.out _ h).2.1 rfl) (fun q hq _ b h1 h2 => (hUb.out b h2).2.2 q (by omega) h1))
                have hb7 := Only.below HB6.out hon HB6.out.size (fun b h => by have := (hUb.out _ h).1; omega)
                have B7 : Hid (∀ b ∈ U3, W7.heap.size ≤ b ∧ b ≠ g ∧ ∀ q, j + 1 ≤ q → b ∉ T q) := Lib.hid (fun b h => by
                  rcases hU3 b h with h1 | h1 | h1
                  · exact ⟨(hUb.out b h1).1, (hUb.out b h1).2.1, fun q hq => (hUb.out b h1).2.2 q (by omega)⟩
                  · exact ⟨by have := (HTJ.out b h1).1; omega, fun e => HGJ.out (e ▸ h1), fun q hq => HDJ.out q hq b h1⟩
                  · (try rw [World.size_alloc] at h1)
                    have h8 := HS8.out
                    exact ⟨by omega, by omega, fun q _ hq => by have := (HTB.out q b hq).2; omega⟩)
                rw [← HNX.out] at hU7
                have U7 := Lib.hid hU7
                clear hU7 hU3 hon HB6 HLF HO6 HC hUb HNX hU6
                go_wp2
                refine ⟨⟨j + 1, U3, by omega, by go_num, U7, L7, B7, hb7, by omega⟩, ?_⟩
                simp only [intOf]
                omega
              · have HNX := Lib.hid (hfn.out (HBB.out.trans rfl))
                clear hfy hfn
                go_wp2_with fail
                (with_reducible refine hth1.mono ?_)
                rintro e wa ⟨rfl, hba⟩
                have b3 := HK10.out wa hba
                have hth2 := HTQ.out wa hba
                go_wp2_with fail
                (with_reducible refine hth2.mono ?_)
                rintro e w5 ⟨rfl, hbb⟩
                have hb5 := hba.trans (hbb.mono hba.size)
                have U5 := hU.out.keep hb5
                rw [← HNX.out] at U5
                have U6 := Lib.hid U5
                have L5 := Lib.hid ((hLf.out.below hb5).next)
                have B5' : Hid (∀ b ∈ U2, W7.heap.size ≤ b ∧ b ≠ g ∧ ∀ q, j + 1 ≤ q → b ∉ T q) := Lib.hid (fun b h1 => ⟨(hUb.out b h1).1, (hUb.out b h1).2.1, fun q hq => (hUb.out b h1).2.2 q (by omega)⟩)
                have hb7 := hb.trans (hb5.mono hb.size)
                have hs7 : w8.heap.size ≤ w5.heap.size := Nat.le_trans hsw hb5.size
                clear hth1 hth2 b2 b3 hc3 hb5 hba hbb hU hLf hUb HNX HO3 hb hsw U5
                go_wp2
                refine ⟨⟨j + 1, U2, by omega, by go_num, U6, L5, B5', hb7, hs7⟩, ?_⟩
                simp only [intOf]
                omega
              · have HNX := Lib.hid (hfy.out (HBB.out.trans rfl))
                clear hfy hfn
                go_wp2_with fail
                (with_reducible refine hth1.mono ?_)
                rintro e wa ⟨rfl, hba⟩
                have b3 := HK10.out wa hba
                have hth2 := HTQ.out wa hba
                go_wp2_with fail
                (with_reducible refine hth2.mono ?_)
                rintro e w5 ⟨rfl, hbb⟩
                have hb5 := hba.trans (hbb.mono hba.size)
                have hbx : Below w5.heap.size w5 (w5.alloc (.cells #[.slice A3 p.length c3] 27)) := (Below.refl _ _).alloc (Nat.le_refl _) _
                have hb56 := hb5.trans (hbx.mono hb5.size)
                have hU6 := hU.out.keep hb56
                have HO6 := Lib.hid (HO3.out.keep hb56)
                have hcell : (w5.alloc (.cells #[.slice A3 p.length c3] 27)).cell? ⟨w5.heap.size, 0, none⟩ = some (.slice A3 p.length c3) := by simp
                have HC := Lib.hid (one_cell hcell)
                have HLF := Lib.hid (hLf.out.below hb56)
                have HB6 := Lib.hid (hb.trans (hb56.mono hb.size))
                have hs5 := hb5.size
                have hdl : FF.length + 1 ≤ 16777216 := by omega
                clear hth1 hth2 b2 b3 hc3 hcell hbx hb56 hb5 hba hbb hU hLf HO3 hb
                go_wp2_with (at_builtin; refine wpList_append_rows rfl (.tmp 80) (.tmp 82) rfl _ U2 FF rfl hU6 ⟨w5.heap.size, 0, none⟩ _ p (T j) rfl HC.out HO6.out HDT.out hdl ?_)
                intro g2 cap2 U3 w7' hU7 hU3 hon
                have hs7 : w5.heap.size + 1 ≤ w7'.heap.size := by have := hon.size; rw [World.size_alloc] at this; exact this
                have L7 := Lib.hid (HLF.out.next.only hon (fun h => (hUb.out _ h).2.1 rfl) (fun q hq _ b h1 h2 => (hUb.out b h2).2.2 q (by omega) h1))
                have hb7 := Only.below HB6.out hon HB6.out.size (fun b h => by have := (hUb.out _ h).1; omega)
                have B7 : Hid (∀ b ∈ U3, W7.heap.size ≤ b ∧ b ≠ g ∧ ∀ q, j + 1 ≤ q → b ∉ T q) := Lib.hid (fun b h => by
                  rcases hU3 b h with h1 | h1 | h1
                  · exact ⟨(hUb.out b h1).1, (hUb.out b h1).2.1, fun q hq => (hUb.out b h1).2.2 q (by omega)⟩
                  · exact ⟨by have := (HTJ.out b h1).1; omega, fun e => HGJ.out (e ▸ h1), fun q hq => HDJ.out q hq b h1⟩
                  · (try rw [World.size_alloc] at h1)
                    have h8 := HS8.out
                    exact ⟨by omega, by omega, fun q _ hq => by have := (HTB.out q b hq).2; omega⟩)
                rw [← HNX.out] at hU7
                have U7 := Lib.hid hU7
                clear hU7 hU3 hon HB6 HLF HO6 HC hUb HNX hU6
                go_wp2
                refine ⟨⟨j + 1, U3, by omega, by go_num, U7, L7, B7, hb7, by omega⟩, ?_⟩
                simp only [intOf]
                omega
              · have HNX := Lib.hid (hfy.out (HBB.out.trans rfl))
                clear hfy hfn
                go_wp2_with fail
                (with_reducible refine hth1.mono ?_)
                rintro e wa ⟨rfl, hba⟩
                have b3 := HK10.out wa hba
                have hth2 := HTQ.out wa hba
                go_wp2_with fail
                (with_reducible refine hth2.mono ?_)
                rintro e w5 ⟨rfl, hbb⟩
                have hb5 := hba.trans (hbb.mono hba.size)
                have hbx : Below w5.heap.size w5 (w5.alloc (.cells #[.slice A3 p.length c3] 27)) := (Below.refl _ _).alloc (Nat.le_refl _) _
                have hb56 := hb5.trans (hbx.mono hb5.size)
                have hU6 := hU.out.keep hb56
                have HO6 := Lib.hid (HO3.out.keep hb56)
                have hcell : (w5.alloc (.cells #[.slice A3 p.length c3] 27)).cell? ⟨w5.heap.size, 0, none⟩ = some (.slice A3 p.length c3) := by simp
                have HC := Lib.hid (one_cell hcell)
                have HLF := Lib.hid (hLf.out.below hb56)
                have HB6 := Lib.hid (hb.trans (hb56.mono hb.size))
                have hs5 := hb5.size
                have hdl : FF.length + 1 ≤ 16777216 := by omega
                clear hth1 hth2 b2 b3 hc3 hcell hbx hb56 hb5 hba hbb hU hLf HO3 hb
                go_wp2_with (at_builtin; refine wpList_append_rows rfl (.tmp 80) (.tmp 82) rfl _ U2 FF rfl hU6 ⟨w5.heap.size, 0, none⟩ _ p (T j) rfl HC.out HO6.out HDT.out hdl ?_)
                intro g2 cap2 U3 w7' hU7 hU3 hon
                have hs7 : w5.heap.size + 1 ≤ w7'.heap.size := by have := hon.size; rw [World.size_alloc] at this; exact this
                have L7 := Lib.hid (HLF.out.next.only hon (fun h => (hUb.out _ h).2.1 rfl) (fun q hq _ b h1 h2 => (hUb.out b h2).2.2 q (by omega) h1))
                have hb7 := Only.below HB6.out hon HB6.out.size (fun b h => by have := (hUb.out _ h).1; omega)
                have B7 : Hid (∀ b ∈ U3, W7.heap.size ≤ b ∧ b ≠ g ∧ ∀ q, j + 1 ≤ q → b ∉ T q) := Lib.hid (fun b h => by
                  rcases hU3 b h with h1 | h1 | h1
                  · exact ⟨(hUb.out b h1).1, (hUb.out b h1).2.1, fun q hq => (hUb.out b h1).2.2 q (by omega)⟩
                  · exact ⟨by have := (HTJ.out b h1).1; omega, fun e => HGJ.out (e ▸ h1), fun q hq => HDJ.out q hq b h1⟩
                  · (try rw [World.size_alloc] at h1)
                    have h8 := HS8.out
                    exact ⟨by omega, by omega, fun q _ hq => by have := (HTB.out q b hq).2; omega⟩)
                rw [← HNX.out] at hU7
                have U7 := Lib.hid hU7
                clear hU7 hU3 hon HB6 HLF HO6 HC hUb HNX hU6
                go_wp2
                refine ⟨⟨j + 1, U3, by omega, by go_num, U7, L7, B7, hb7, by omega⟩, ?_⟩
                simp only [intOf]
                omega
              · have HNX := Lib.hid (hfy.out (HBB.out.trans rfl))
                clear hfy hfn
                go_wp2_with fail
                (with_reducible refine hth1.mono ?_)
                rintro e wa ⟨rfl, hba⟩
                have b3 := HK10.out wa hba
                have hth2 := HTQ.out wa hba
                go_wp2_with fail
                (with_reducible refine hth2.mono ?_)
                rintro e w5 ⟨rfl, hbb⟩
                have hb5 := hba.trans (hbb.mono hba.size)
                have hbx : Below w5.heap.size w5 (w5.alloc (.cells #[.slice A3 p.length c3] 27)) := (Below.refl _ _).alloc (Nat.le_refl _) _
                have hb56 := hb5.trans (hbx.mono hb5.size)
                have hU6 := hU.out.keep hb56
                have HO6 := Lib.hid (HO3.out.keep hb56)
                have hcell : (w5.alloc (.cells #[.slice A3 p.length c3] 27)).cell? ⟨w5.heap.size, 0, none⟩ = some (.slice A3 p.length c3) := by simp
                have HC := Lib.hid (one_cell hcell)
                have HLF := Lib.hid (hLf.out.below hb56)
                have HB6 := Lib.hid (hb.trans (hb56.mono hb.size))
                have hs5 := hb5.size
                have hdl : FF.length + 1 ≤ 16777216 := by omega
                clear hth1 hth2 b2 b3 hc3 hcell hbx hb56 hb5 hba hbb hU hLf HO3 hb
                go_wp2_with (at_builtin; refine wpList_append_rows rfl (.tmp 80) (.tmp 82) rfl _ U2 FF rfl hU6 ⟨w5.heap.size, 0, none⟩ _ p (T j) rfl HC.out HO6.out HDT.out hdl ?_)
                intro g2 cap2 U3 w7' hU7 hU3 hon
                have hs7 : w5.heap.size + 1 ≤ w7'.heap.size := by have := hon.size; rw [World.size_alloc] at this; exact this
                have L7 := Lib.hid (HLF.out.next.only hon (fun h => (hUb.out _ h).2.1 rfl) (fun q hq _ b h1 h2 => (hUb.out b h2).2.2 q (by omega) h1))
                have hb7 := Only.below HB6.out hon HB6.out.size (fun b h => by have := (hUb.out _ h).1; omega)
                have B7 : Hid (∀ b ∈ U3, W7.heap.size ≤ b ∧ b ≠ g ∧ ∀ q, j + 1 ≤ q → b ∉ T q) := Lib.hid (fun b h => by
                  rcases hU3 b h with h1 | h1 | h1
                  · exact ⟨(hUb.out b h1).1, (hUb.out b h1).2.1, fun q hq => (hUb.out b h1).2.2 q (by omega)⟩
                  · exact ⟨by have := (HTJ.out b h1).1; omega, fun e => HGJ.out (e ▸ h1), fun q hq => HDJ.out q hq b h1⟩
                  · (try rw [World.size_alloc] at h1)
                    have h8 := HS8.out
                    exact ⟨by omega, by omega, fun q _ hq => by have := (HTB.out q b hq).2; omega⟩)
                rw [← HNX.out] at hU7
                have U7 := Lib.hid hU7
                clear hU7 hU3 hon HB6 HLF HO6 HC hUb HNX hU6
                go_wp2
                refine ⟨⟨j + 1, U3, by omega, by go_num, U7, L7, B7, hb7, by omega⟩, ?_⟩
                simp only [intOf]
                omega
            · have e : j = P.length := by omega
              subst e
              rw [List.take_length] at hU
              have hth := HTH.out
              have hff := HFF.out
              have HRR : Hid (P.filter (bothK one E1 E2) = bothM one n l1 m1 l2 m2) := Lib.hid (by rw [HEM.out, HBL.out])
              generalize P.filter (bothK one E1 E2) = R at *
              have hU' := hU.out.at_
              obtain ⟨B9, d9, hB9⟩ := RowsIn.form (ls := R) hU'
              subst hB9
              have hso := hthose wr R hff _ capU (HU7.out.below hb) B9 d9 hU'
              rw [hth] at hso
              have hr := (hb.block _ (OrbK.box_lt KA.out)).trans KA.out
              have hq := (hb.block _ (OrbK.box_lt KR.out)).trans KR.out
              obtain ⟨b0, b1, b2⟩ := OrbK.row3 hr
              clear hU hU' hff hth HTH HFF hthose HPL HPM HRW HTB hUb hLf
              go_wp2_with (go_at_call 70; (with_reducible refine hso.mono ?_); rintro e w9 ⟨A4, c4, A7, c7, S9, rfl, hL9, hS9, hb9⟩; have hr9 := (hb9.block _ (OrbK.box_lt hq)).trans hq; obtain ⟨x0, x1, x2⟩ := OrbK.row3 hr9; obtain ⟨y0, y1, y2⟩ := z3At hr9)
              have hbF := HBW.out.trans ((hb.trans (hb9.mono hb.size)).mono HBW.out.size)
              have hpost := orbB_of true (orb_pass (r := w.heap.size + 1 + 1) hL9 hbF (show w.heap.size ≤ w.heap.size + 1 + 1 by omega) (fun b h => by have h1 := hS9 b h; have h2 := OrbK.box_lt hq; omega))
              clear hso hL9 hS9 hb9 hr9 hb hr hq b0 b1 b2
              go_wp2
              exact bodyPost_ret (v := .tuple #[.agg #[.int .i64 (n : Int), .slice A4 U.length c4, .slice A7 R.length c7], .bool true]) (by simp [results, Try.results81, go_sem, x0, x1, x2]) rfl (by rw [HKK.out, ← HRR.out]; exact hpost)
      · have hzn : (z1 != z2) = true := by simpa using hz
        have hkk : bothOk z1 l1 m1 z2 l2 m2 = false := by simp [bothOk, hz]
        clear ho1 ho2
        go_enter Try.func81, Try.ntmps81
        go_wp2_with (first
          | (go_at_call 75; (with_reducible refine hun.mono ?_); rintro e w2 ⟨gU, capU, rfl, hoU, hb2⟩; have hbz2 := HB0.out.trans (hb2.mono HB0.out.size); have K2 := Lib.hid ((hb2.block _ (OrbK.box_lt HK0.out)).trans HK0.out); have J2 := Lib.hid ((hb2.block _ (OrbK.box_lt HK1.out)).trans HK1.out); have R2 := Lib.hid ((hb2.block _ (OrbK.box_lt HK2.out)).trans HK2.out); have HUI := Lib.hid (ints_own hoU); clear hoU HK0 HK1 HK2 b0 b1 b2 n0 n1 n2 hun; obtain ⟨b0, b1, b2⟩ := OrbK.row3 K2.out; have hio1 := hIO1 w2 hbz2)
          | (go_at_call 74; (with_reducible refine hio1.mono ?_); rintro e w3 ⟨rfl, hb3⟩; have hbz3 := hbz2.trans (hb3.mono hbz2.size); have J3 := (hb3.block _ (OrbK.box_lt J2.out)).trans J2.out; obtain ⟨n0, n1, n2⟩ := OrbK.row3 J3; have K3 := (hb3.block _ (OrbK.box_lt K2.out)).trans K2.out; clear b0 b1 b2; obtain ⟨b0, b1, b2⟩ := OrbK.row3 K3; have hio2 := hIO2 w3 hbz3)
          | (go_at_call 74; (with_reducible refine hio2.mono ?_); rintro e w4 ⟨rfl, hb4⟩; have hb24 := hb3.trans (hb4.mono hb3.size); have K4 := (hb4.block _ (OrbK.box_lt K3)).trans K3; have J4 := (hb4.block _ (OrbK.box_lt J3)).trans J3; clear b0 b1 b2 n0 n1 n2; obtain ⟨b0, b1, b2⟩ := OrbK.row3 K4; obtain ⟨n0, n1, n2⟩ := OrbK.row3 J4; have r2 := (hb24.block _ (OrbK.box_lt R2.out)).trans R2.out; obtain ⟨x0, x1, x2⟩ := OrbK.row3 r2; obtain ⟨y0, y1, y2⟩ := z3At r2))
        have hbz := hbz3.trans (hb4.mono hbz3.size)
        have hbl2 := OrbK.box_lt R2.out
        have hpost := orbB_zero (((hbz.setCell (p := ⟨w.heap.size + 1 + 1, 0, none⟩) (show w.heap.size ≤ w.heap.size + 1 + 1 by omega) (.int .i64 0)).setCell (p := ⟨w.heap.size + 1 + 1, 1, none⟩) (show w.heap.size ≤ w.heap.size + 1 + 1 by omega) (.slice none 0 0)).setCell (p := ⟨w.heap.size + 1 + 1, 2, none⟩) (show w.heap.size ≤ w.heap.size + 1 + 1 by omega) (.slice none 0 0))
        clear hio1 hio2 hb2 hb3 hb4 hb24 b0 b1 b2 n0 n1 n2 hbz2 hbz3 hbz hIO1 hIO2 hCO r2 J3 K3 J4 K4
        go_wp2
        exact bodyPost_ret (v := .tuple #[.agg #[.int .i64 0, .slice none 0 0, .slice none 0 0], .bool false]) (by simp [results, Try.results81, go_sem, x0, x1, x2]) rfl (by rw [hkk]; exact hpost)
end Go.Proofs.Ytdbogjhkcnajkaa
end

