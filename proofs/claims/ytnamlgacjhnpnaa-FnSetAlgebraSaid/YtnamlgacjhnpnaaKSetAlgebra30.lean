/-
  The law FnSetAlgebra returns true for every code of bytes: unions, cuts and complements of drawn sets are those of tuples, and the complement of a union is the cut of the complements. No condition.
-/
import Derived.Test.YtnamlgacjhnpnaaKSetAlgebra6
import Derived.Test.YtnamlgacjhnpnaaKSetAlgebra28
import Derived.Test.YtnamlgacjhnpnaaKSetAlgebra17
import Derived.Test.YtnamlgacjhnpnaaKSetAlgebra26
import Derived.Test.YtnamlgacjhnpnaaKSetAlgebra4
import Derived.Test.YtnamlgacjhnpnaaKSetAlgebra29
namespace Go.Proofs.Ytnamlgacjhnpnaa.fnSetAlgebra
open Go.ChangeShapes Go.WideShapes Go.ChangeAt Go.RowKit
set_option linter.unusedVariables false

theorem big_no (A : Option Addr) (n c : Nat) (w : World) (h : n ≤ 4096) : Calls Try.prog 9 #[.slice A n c] w fun e w' => e = .returned (.bool false) ∧ w = w' := by
  have k0 : decide ((4096 : Int) < n) = false := by simp; omega
  go_enter Try.func9, Try.ntmps9
  go_wp2
  go_ret
  exact ⟨rfl, rfl⟩

theorem big_yes (A : Option Addr) (n c : Nat) (w : World) (h : 4096 < n) (h2 : n ≤ 9223372036854775807) : Calls Try.prog 9 #[.slice A n c] w fun e w' => e = .returned (.bool true) ∧ w = w' := by
  have k0 : decide ((4096 : Int) < n) = true := by simp; omega
  go_enter Try.func9, Try.ntmps9
  go_wp2
  go_ret
  exact ⟨rfl, rfl⟩

theorem open_bytesZ {H : Type} {enc : TypeId × Value → H} {W : World} {A : Option Addr} {n c : Nat} {d : DataW H} {p : List MemPlace}
    (h : DataW.Trod enc Try.prog W 0 (fun _ => true) true 22 (.slice A n c) d p) : A = none → c = 0 := by
  obtain ⟨fuel, hf⟩ := h
  rcases open_ints Try.underlying22 Try.underlying5 (by kernel_rfl) hf with ⟨hcs, _⟩ | ⟨x, len, cap, zs, hcs, _⟩
  · simp [Value.cells] at hcs
    exact fun _ => hcs.2.2
  · simp [Value.cells] at hcs
    rw [hcs.1]
    intro e
    cases e

open Go.Sort in
set_option maxRecDepth 100000 in
set_option maxHeartbeats 8000000 in
theorem walk (w : World) (A0 : Option Addr) (c0 n0 : Nat) (hA0 : BytesIn w A0 n0) (hz0 : A0 = none → c0 = 0) (hm0 : n0 ≤ maxLen) :
    Calls Try.prog 8 #[.slice A0 n0 c0] w fun e w' => e = .returned (.bool true) ∧ Below w.heap.size w w' := by
  obtain ⟨i0, hi0, hzz, hz1, hz2⟩ := info_parts DrawN.int_info
  have HS := Lib.hid hz2
  clear hz2
  unfold maxLen at hm0
  by_cases hn : n0 ≤ 4096
  · have HA0 := Lib.hid hA0
    have HZ0 := Lib.hid hz0
    clear hA0 hz0
    have hdr := drawSets_any A0 n0 c0 w HA0.out (by omega)
    go_enter Try.func8, Try.ntmps8
    go_wp2_with (first | (go_at_call 9; refine (big_no _ _ _ _ hn).mono ?_; rintro e w' ⟨rfl, rfl⟩) | fail)
    refine hdr.mono ?_
    rintro e w1 ⟨n, cs, cs2, M, M2, A1, B1, A2, B2, c1, d1, c2, d2, rfl, hn3, hl1, hl2, hv1, hv2, ho1, ho2, hb1, hsm1, hsm2⟩
    have hn4 : n ≤ 4 := by omega
    clear hdr
    have hM1 := SetX.valid_fit hn4 hv1
    have hM2 := SetX.valid_fit hn4 hv2
    have F1 : Hid (FitO cs M) := Lib.hid ⟨by omega, fitR_of (by omega)⟩
    have F2 : Hid (FitO cs2 M2) := Lib.hid ⟨by omega, fitR_of (by omega)⟩
    have V1 := Lib.hid hv1
    have V2 := Lib.hid hv2
    have SM1 := Lib.hid hsm1
    have hb2 : Below w1.heap.size w1 ((w1.alloc (.cells #[.int .i64 (n : Int), .slice A1 cs.length c1, .slice B1 M.length d1] 32)).alloc (.cells #[.int .i64 (n : Int), .slice A2 cs2.length c2, .slice B2 M2.length d2] 32)) := ((Below.refl _ _).alloc (Nat.le_refl _) _).alloc (by simp) _
    have K1 : Hid (((w1.alloc (.cells #[.int .i64 (n : Int), .slice A1 cs.length c1, .slice B1 M.length d1] 32)).alloc (.cells #[.int .i64 (n : Int), .slice A2 cs2.length c2, .slice B2 M2.length d2] 32)).heap[w1.heap.size]? = some (.cells #[.int .i64 (n : Int), .slice A1 cs.length c1, .slice B1 M.length d1] 32 (0, 0))) := Lib.hid ((Below.heap_alloc _ _ _ (by simp)).trans (heap_alloc_new w1 _))
    have K2 : Hid (((w1.alloc (.cells #[.int .i64 (n : Int), .slice A1 cs.length c1, .slice B1 M.length d1] 32)).alloc (.cells #[.int .i64 (n : Int), .slice A2 cs2.length c2, .slice B2 M2.length d2] 32)).heap[w1.heap.size + 1]? = some (.cells #[.int .i64 (n : Int), .slice A2 cs2.length c2, .slice B2 M2.length d2] 32 (0, 0))) := Lib.hid (by have h := heap_alloc_new (w1.alloc (.cells #[.int .i64 (n : Int), .slice A1 cs.length c1, .slice B1 M.length d1] 32)) (.cells #[.int .i64 (n : Int), .slice A2 cs2.length c2, .slice B2 M2.length d2] 32); rw [World.size_alloc] at h; exact h)
    have O1 := Lib.hid (ho1.below hb2)
    have O2 := Lib.hid (ho2.below hb2)
    have HBB := Lib.hid (hb1.trans (hb2.mono hb1.size))
    clear hv1 hv2 hsm1 hsm2 ho1 ho2 hb1 hb2 hM1 hM2
    have htu := drawTuple_any A0 n0 c0 n (by omega) ((w1.alloc (.cells #[.int .i64 (n : Int), .slice A1 cs.length c1, .slice B1 M.length d1] 32)).alloc (.cells #[.int .i64 (n : Int), .slice A2 cs2.length c2, .slice B2 M2.length d2] 32)) (DrawN.bytes_more HA0.out HBB.out) HZ0.out (by omega)
    obtain ⟨b1_0, b1_1, b1_2⟩ := OrbK.row3 K1.out
    go_wp2_with fail
    refine htu.mono ?_
    rintro e w2 ⟨t, At, ct, rfl, htl, hts, htA, htz, hbt⟩
    have HTL := Lib.hid htl
    have HTB := Lib.hid (DrawN.small_tup (by omega) hts)
    have HTZ := Lib.hid htz
    have htl4 : t.length ≤ 4 := by omega
    have Rt := Lib.hid htA
    clear b1_0 b1_1 b1_2
    clear htl hts htA htz htu
    have hmv := hbt
    replace K1 := Lib.hid ((hmv.block _ (OrbK.box_lt K1.out)).trans K1.out)
    replace O1 := Lib.hid (O1.out.below hmv)
    replace K2 := Lib.hid ((hmv.block _ (OrbK.box_lt K2.out)).trans K2.out)
    replace O2 := Lib.hid (O2.out.below hmv)
    replace HBB := Lib.hid (HBB.out.trans (hmv.mono HBB.out.size))
    clear hmv
    clear hbt
    have hCC := SetY.const_both V1.out.1 V2.out.1 (by omega)
    have hok := SetY.both_ok hn4 V1.out V2.out hCC
    have VU := SetY.valid_both (one := true) (n := n) (m1 := M) (m2 := M2) hCC
    have VM := SetY.valid_both (one := false) (n := n) (m1 := M) (m2 := M2) hCC
    have EU := Lib.hid (SetY.has_both (one := true) hn4 V1.out V2.out hCC HTL.out HTB.out)
    have EM := Lib.hid (SetY.has_both (one := false) hn4 V1.out V2.out hCC HTL.out HTB.out)
    have EN := Lib.hid (SetY.de_morgan hn4 V1.out V2.out hCC)
    have VK1 := Lib.hid (SetY.valid_cpl (n := n) V1.out.1 M)
    have VK2 := Lib.hid (SetY.valid_cpl (n := n) V2.out.1 M2)
    have hok2 := SetY.both_ok hn4 VK1.out VK2.out hCC
    have HCUN := fun (W : World) (x1 x2 : Value) (q1 : OrbIx W x1 n cs M) (q2 : OrbIx W x2 n cs2 M2) => (by have h1 := uniteSets_impl n cs M F1.out x1 n cs2 M2 F2.out x2 W q1 q2; rw [hok] at h1; exact h1 : Calls Try.prog 29 #[x1, x2] W (OrbBOut n (bothC cs cs2) (bothM true n cs M cs2 M2) true W))
    have HCME := fun (W : World) (x1 x2 : Value) (q1 : OrbIx W x1 n cs M) (q2 : OrbIx W x2 n cs2 M2) => (by have h1 := meetSets_impl n cs M F1.out x1 n cs2 M2 F2.out x2 W q1 q2; rw [hok] at h1; exact h1 : Calls Try.prog 30 #[x1, x2] W (OrbBOut n (bothC cs cs2) (bothM false n cs M cs2 M2) true W))
    have FK1 : Hid (FitO cs (cplL n cs M)) := Lib.hid (by have h1 := SetX.valid_fit hn4 VK1.out; have h2 := const_len V1.out.1; exact ⟨by omega, fitR_of (by omega)⟩)
    have FK2 : Hid (FitO cs2 (cplL n cs2 M2)) := Lib.hid (by have h1 := SetX.valid_fit hn4 VK2.out; have h2 := const_len V2.out.1; exact ⟨by omega, fitR_of (by omega)⟩)
    have HCNN := fun (W : World) (x1 x2 : Value) (q1 : OrbIx W x1 n cs (cplL n cs M)) (q2 : OrbIx W x2 n cs2 (cplL n cs2 M2)) => (by have h1 := meetSets_impl n cs (cplL n cs M) FK1.out x1 n cs2 (cplL n cs2 M2) FK2.out x2 W q1 q2; rw [hok2] at h1; exact h1 : Calls Try.prog 30 #[x1, x2] W (OrbBOut n (bothC cs cs2) (bothM false n cs (cplL n cs M) cs2 (cplL n cs2 M2)) true W))
    have ov1 := SetX.valid_orb hn4 V1.out
    have ov2 := SetX.valid_orb hn4 V2.out
    have HCC1 := fun (W : World) (x1 : Value) (q1 : OrbIx W x1 n cs M) => (by have h1 := complement_impl n cs M F1.out x1 W q1; rw [ov1] at h1; exact h1 : Calls Try.prog 15 #[x1] W (OrbOut n cs (cplL n cs M) W))
    have HCC2 := fun (W : World) (x1 : Value) (q1 : OrbIx W x1 n cs2 M2) => (by have h1 := complement_impl n cs2 M2 F2.out x1 W q1; rw [ov2] at h1; exact h1 : Calls Try.prog 15 #[x1] W (OrbOut n cs2 (cplL n cs2 M2) W))
    generalize hC9 : bothC cs cs2 = C at *
    generalize hU9 : bothM true n cs M cs2 M2 = U at *
    generalize hM9 : bothM false n cs M cs2 M2 = X at *
    generalize hN9 : bothM false n cs (cplL n cs M) cs2 (cplL n cs2 M2) = N at *
    generalize hK1 : cplL n cs M = K1s at *
    generalize hK2 : cplL n cs2 M2 = K2s at *
    have F3 : Hid (FitO C U) := Lib.hid (by have h1 := SetX.valid_fit hn4 VU; have h2 := const_len hCC; exact ⟨by omega, fitR_of (by omega)⟩)
    have F4 : Hid (FitO C X) := Lib.hid (by have h1 := SetX.valid_fit hn4 VM; have h2 := const_len hCC; exact ⟨by omega, fitR_of (by omega)⟩)
    have VN : DrawN.Valid n C N := by rw [← EN.out]; exact SetY.valid_cpl hCC U
    have F5 : Hid (FitO C N) := Lib.hid (by have h1 := SetX.valid_fit hn4 VN; have h2 := const_len hCC; exact ⟨by omega, fitR_of (by omega)⟩)
    have OBU := Lib.hid (SetX.valid_orb hn4 VU)
    have OBM := Lib.hid (SetX.valid_orb hn4 VM)
    have SAM := Lib.hid (SetY.same_self hn4 VN)
    have HCU := Lib.hid HCUN
    have HCM := Lib.hid HCME
    have HCN := Lib.hid HCNN
    have HC1 := Lib.hid HCC1
    have HC2 := Lib.hid HCC2
    have HC3 := Lib.hid (fun (W : World) (x1 : Value) (q1 : OrbIx W x1 n C U) => (by have h1 := complement_impl n C U F3.out x1 W q1; rw [OBU.out, EN.out] at h1; exact h1 : Calls Try.prog 15 #[x1] W (OrbOut n C N W)))
    clear hok hok2 hCC VU VM VN HCUN HCME HCNN HCC1 HCC2 ov1 ov2 hC9 hU9 hM9 hN9 hK1 hK2
    have hco := HCU.out w2 _ _ O1.out O2.out
    obtain ⟨b1_0, b1_1, b1_2⟩ := OrbK.row3 K1.out
    obtain ⟨b2_0, b2_1, b2_2⟩ := OrbK.row3 K2.out
    go_wp2_with fail
    refine hco.mono ?_
    rintro e w3 ⟨A3, c3, B3, d3, S3, rfl, hLn, hSn, hbn⟩
    clear b1_0 b1_1 b1_2 b2_0 b2_1 b2_2
    have hoi := orbOut_ix hLn
    clear hco hLn hSn
    have hmv := hbn
    replace K1 := Lib.hid ((hmv.block _ (OrbK.box_lt K1.out)).trans K1.out)
    replace O1 := Lib.hid (O1.out.below hmv)
    replace K2 := Lib.hid ((hmv.block _ (OrbK.box_lt K2.out)).trans K2.out)
    replace O2 := Lib.hid (O2.out.below hmv)
    replace Rt := Lib.hid (Rt.out.below hmv)
    replace HBB := Lib.hid (HBB.out.trans (hmv.mono HBB.out.size))
    clear hmv
    clear hbn
    have hnb : Below w3.heap.size w3 (w3.alloc (.cells #[.int .i64 (n : Int), .slice A3 C.length c3, .slice B3 U.length d3] 32)) := (Below.refl _ _).alloc (Nat.le_refl _) _
    have K3 := Lib.hid (heap_alloc_new w3 (.cells #[.int .i64 (n : Int), .slice A3 C.length c3, .slice B3 U.length d3] 32))
    have O3 := Lib.hid ((hoi : OrbIx w3 (.agg #[.int .i64 (n : Int), .slice A3 C.length c3, .slice B3 U.length d3]) (n : Int) C U).below hnb)
    change Hid ((w3.alloc (.cells #[.int .i64 (n : Int), .slice A3 C.length c3, .slice B3 U.length d3] 32)).heap[w3.heap.size]? = some (.cells #[.int .i64 (n : Int), .slice A3 C.length c3, .slice B3 U.length d3] 32 (0, 0))) at K3
    have hmv := hnb
    replace K1 := Lib.hid ((hmv.block _ (OrbK.box_lt K1.out)).trans K1.out)
    replace O1 := Lib.hid (O1.out.below hmv)
    replace K2 := Lib.hid ((hmv.block _ (OrbK.box_lt K2.out)).trans K2.out)
    replace O2 := Lib.hid (O2.out.below hmv)
    replace Rt := Lib.hid (Rt.out.below hmv)
    replace HBB := Lib.hid (HBB.out.trans (hmv.mono HBB.out.size))
    clear hmv
    clear hnb
    clear hoi
    have hco := HCM.out (w3.alloc (.cells #[.int .i64 (n : Int), .slice A3 C.length c3, .slice B3 U.length d3] 32)) _ _ O1.out O2.out
    obtain ⟨b1_0, b1_1, b1_2⟩ := OrbK.row3 K1.out
    obtain ⟨b2_0, b2_1, b2_2⟩ := OrbK.row3 K2.out
    go_wp2_with fail
    refine hco.mono ?_
    rintro e w4 ⟨A4, c4, B4, d4, S4, rfl, hLn, hSn, hbn⟩
    clear b1_0 b1_1 b1_2 b2_0 b2_1 b2_2
    have hoi := orbOut_ix hLn
    clear hco hLn hSn
    have hmv := hbn
    replace K1 := Lib.hid ((hmv.block _ (OrbK.box_lt K1.out)).trans K1.out)
    replace O1 := Lib.hid (O1.out.below hmv)
    replace K2 := Lib.hid ((hmv.block _ (OrbK.box_lt K2.out)).trans K2.out)
    replace O2 := Lib.hid (O2.out.below hmv)
    replace K3 := Lib.hid ((hmv.block _ (OrbK.box_lt K3.out)).trans K3.out)
    replace O3 := Lib.hid (O3.out.below hmv)
    replace Rt := Lib.hid (Rt.out.below hmv)
    replace HBB := Lib.hid (HBB.out.trans (hmv.mono HBB.out.size))
    clear hmv
    clear hbn
    have hnb : Below w4.heap.size w4 (w4.alloc (.cells #[.int .i64 (n : Int), .slice A4 C.length c4, .slice B4 X.length d4] 32)) := (Below.refl _ _).alloc (Nat.le_refl _) _
    have K4 := Lib.hid (heap_alloc_new w4 (.cells #[.int .i64 (n : Int), .slice A4 C.length c4, .slice B4 X.length d4] 32))
    have O4 := Lib.hid ((hoi : OrbIx w4 (.agg #[.int .i64 (n : Int), .slice A4 C.length c4, .slice B4 X.length d4]) (n : Int) C X).below hnb)
    change Hid ((w4.alloc (.cells #[.int .i64 (n : Int), .slice A4 C.length c4, .slice B4 X.length d4] 32)).heap[w4.heap.size]? = some (.cells #[.int .i64 (n : Int), .slice A4 C.length c4, .slice B4 X.length d4] 32 (0, 0))) at K4
    have hmv := hnb
    replace K1 := Lib.hid ((hmv.block _ (OrbK.box_lt K1.out)).trans K1.out)
    replace O1 := Lib.hid (O1.out.below hmv)
    replace K2 := Lib.hid ((hmv.block _ (OrbK.box_lt K2.out)).trans K2.out)
    replace O2 := Lib.hid (O2.out.below hmv)
    replace K3 := Lib.hid ((hmv.block _ (OrbK.box_lt K3.out)).trans K3.out)
    replace O3 := Lib.hid (O3.out.below hmv)
    replace Rt := Lib.hid (Rt.out.below hmv)
    replace HBB := Lib.hid (HBB.out.trans (hmv.mono HBB.out.size))
    clear hmv
    clear hnb
    clear hoi
    have ea := Lib.hid (rfl : hasTB n cs M t = hasTB n cs M t)
    have eb := Lib.hid (rfl : hasTB n cs2 M2 t = hasTB n cs2 M2 t)
    generalize hx : hasTB n cs M t = xa at EU EM
    generalize hy : hasTB n cs2 M2 t = xb at EU EM
    have EA := Lib.hid hx
    have EB := Lib.hid hy
    clear ea eb hx hy
    have hsz0 : Below w.heap.size w (w4.alloc (.cells #[.int .i64 (n : Int), .slice A4 C.length c4, .slice B4 X.length d4] 32)) := HBB.out
    go_upto_region 9 with fail
    go_cut [74] (fun s wx => s = .bool false ∧ Below (w4.alloc (.cells #[.int .i64 (n : Int), .slice A4 C.length c4, .slice B4 X.length d4] 32)).heap.size (w4.alloc (.cells #[.int .i64 (n : Int), .slice A4 C.length c4, .slice B4 X.length d4] 32)) wx)
    case first =>
      rcases xa with _ | _ <;> rcases xb with _ | _
      · change Hid (hasTB n C U t = false) at EU
        change Hid (hasTB n C X t = false) at EM
        obtain ⟨b1_0, b1_1, b1_2⟩ := OrbK.row3 K1.out
        have q1_0 := fun d os => cell_regrown b1_0 d os
        have q1_1 := fun d os => cell_regrown b1_1 d os
        have q1_2 := fun d os => cell_regrown b1_2 d os
        clear b1_0 b1_1 b1_2
        obtain ⟨b2_0, b2_1, b2_2⟩ := OrbK.row3 K2.out
        have q2_0 := fun d os => cell_regrown b2_0 d os
        have q2_1 := fun d os => cell_regrown b2_1 d os
        have q2_2 := fun d os => cell_regrown b2_2 d os
        clear b2_0 b2_1 b2_2
        obtain ⟨b3_0, b3_1, b3_2⟩ := OrbK.row3 K3.out
        have q3_0 := fun d os => cell_regrown b3_0 d os
        have q3_1 := fun d os => cell_regrown b3_1 d os
        have q3_2 := fun d os => cell_regrown b3_2 d os
        clear b3_0 b3_1 b3_2
        obtain ⟨b4_0, b4_1, b4_2⟩ := OrbK.row3 K4.out
        have q4_0 := fun d os => cell_regrown b4_0 d os
        have q4_1 := fun d os => cell_regrown b4_1 d os
        have q4_2 := fun d os => cell_regrown b4_2 d os
        clear b4_0 b4_1 b4_2
        have hcu := fun d os => (by have h1 := hasTuple_impl (n : Int) C U t F3.out At ct (.agg #[.int .i64 (n : Int), .slice A3 C.length c3, .slice B3 U.length d3]) (grow (redrawn (w4.alloc (.cells #[.int .i64 (n : Int), .slice A4 C.length c4, .slice B4 X.length d4] 32)) d) os) (O3.out.below (below_regrown (w4.alloc (.cells #[.int .i64 (n : Int), .slice A4 C.length c4, .slice B4 X.length d4] 32)) d os)) (Rt.out.below (below_regrown (w4.alloc (.cells #[.int .i64 (n : Int), .slice A4 C.length c4, .slice B4 X.length d4] 32)) d os)) (by omega); rw [EU.out] at h1; exact h1 : Calls Try.prog 19 #[(.agg #[.int .i64 (n : Int), .slice A3 C.length c3, .slice B3 U.length d3]), .slice At t.length ct] (grow (redrawn (w4.alloc (.cells #[.int .i64 (n : Int), .slice A4 C.length c4, .slice B4 X.length d4] 32)) d) os) (BoolP false (grow (redrawn (w4.alloc (.cells #[.int .i64 (n : Int), .slice A4 C.length c4, .slice B4 X.length d4] 32)) d) os)))
        have hca := fun d os => (by have h1 := hasTuple_impl (n : Int) cs M t F1.out At ct (.agg #[.int .i64 (n : Int), .slice A1 cs.length c1, .slice B1 M.length d1]) (grow (redrawn (w4.alloc (.cells #[.int .i64 (n : Int), .slice A4 C.length c4, .slice B4 X.length d4] 32)) d) os) (O1.out.below (below_regrown (w4.alloc (.cells #[.int .i64 (n : Int), .slice A4 C.length c4, .slice B4 X.length d4] 32)) d os)) (Rt.out.below (below_regrown (w4.alloc (.cells #[.int .i64 (n : Int), .slice A4 C.length c4, .slice B4 X.length d4] 32)) d os)) (by omega); rw [EA.out] at h1; exact h1 : Calls Try.prog 19 #[(.agg #[.int .i64 (n : Int), .slice A1 cs.length c1, .slice B1 M.length d1]), .slice At t.length ct] (grow (redrawn (w4.alloc (.cells #[.int .i64 (n : Int), .slice A4 C.length c4, .slice B4 X.length d4] 32)) d) os) (BoolP false (grow (redrawn (w4.alloc (.cells #[.int .i64 (n : Int), .slice A4 C.length c4, .slice B4 X.length d4] 32)) d) os)))
        have hcb := fun d os => (by have h1 := hasTuple_impl (n : Int) cs2 M2 t F2.out At ct (.agg #[.int .i64 (n : Int), .slice A2 cs2.length c2, .slice B2 M2.length d2]) (grow (redrawn (w4.alloc (.cells #[.int .i64 (n : Int), .slice A4 C.length c4, .slice B4 X.length d4] 32)) d) os) (O2.out.below (below_regrown (w4.alloc (.cells #[.int .i64 (n : Int), .slice A4 C.length c4, .slice B4 X.length d4] 32)) d os)) (Rt.out.below (below_regrown (w4.alloc (.cells #[.int .i64 (n : Int), .slice A4 C.length c4, .slice B4 X.length d4] 32)) d os)) (by omega); rw [EB.out] at h1; exact h1 : Calls Try.prog 19 #[(.agg #[.int .i64 (n : Int), .slice A2 cs2.length c2, .slice B2 M2.length d2]), .slice At t.length ct] (grow (redrawn (w4.alloc (.cells #[.int .i64 (n : Int), .slice A4 C.length c4, .slice B4 X.length d4] 32)) d) os) (BoolP false (grow (redrawn (w4.alloc (.cells #[.int .i64 (n : Int), .slice A4 C.length c4, .slice B4 X.length d4] 32)) d) os)))
        have hcm := fun d os => (by have h1 := hasTuple_impl (n : Int) C X t F4.out At ct (.agg #[.int .i64 (n : Int), .slice A4 C.length c4, .slice B4 X.length d4]) (grow (redrawn (w4.alloc (.cells #[.int .i64 (n : Int), .slice A4 C.length c4, .slice B4 X.length d4] 32)) d) os) (O4.out.below (below_regrown (w4.alloc (.cells #[.int .i64 (n : Int), .slice A4 C.length c4, .slice B4 X.length d4] 32)) d os)) (Rt.out.below (below_regrown (w4.alloc (.cells #[.int .i64 (n : Int), .slice A4 C.length c4, .slice B4 X.length d4] 32)) d os)) (by omega); rw [EM.out] at h1; exact h1 : Calls Try.prog 19 #[(.agg #[.int .i64 (n : Int), .slice A4 C.length c4, .slice B4 X.length d4]), .slice At t.length ct] (grow (redrawn (w4.alloc (.cells #[.int .i64 (n : Int), .slice A4 C.length c4, .slice B4 X.length d4] 32)) d) os) (BoolP false (grow (redrawn (w4.alloc (.cells #[.int .i64 (n : Int), .slice A4 C.length c4, .slice B4 X.length d4] 32)) d) os)))
        go_wp2
        refine wp_region_quiet_below (by kernel_rfl) (by kernel_rfl) ?_
        repeat (any_goals (first | go_big_quiet_step ((go_at_call 19; first | (with_reducible exact Calls.regrown_of (hcu _ _)) | (with_reducible exact Calls.regrown_of (hca _ _)) | (with_reducible exact Calls.regrown_of (hcb _ _)) | (with_reducible exact Calls.regrown_of (hcm _ _)))) | quiet_step ((go_at_call 19; first | (with_reducible exact Calls.regrown_of (hcu _ _)) | (with_reducible exact Calls.regrown_of (hca _ _)) | (with_reducible exact Calls.regrown_of (hcb _ _)) | (with_reducible exact Calls.regrown_of (hcm _ _))))))
        refine wpQuiet_nil ?_
        intro _ hw'
        obtain ⟨⟨dq, osq⟩, hw''⟩ := hw'
        subst hw''
        have hqz := below_regrown (w4.alloc (.cells #[.int .i64 (n : Int), .slice A4 C.length c4, .slice B4 X.length d4] 32)) dq osq
        generalize grow (redrawn (w4.alloc (.cells #[.int .i64 (n : Int), .slice A4 C.length c4, .slice B4 X.length d4] 32)) dq) osq = wr at hqz ⊢
        clear q1_0 q1_1 q1_2 q2_0 q2_1 q2_2 q3_0 q3_1 q3_2 q4_0 q4_1 q4_2 hcu hca hcb hcm
        go_wp2_with fail
        go_meet
        exact ⟨rfl, hqz⟩
      · change Hid (hasTB n C U t = true) at EU
        change Hid (hasTB n C X t = false) at EM
        obtain ⟨b1_0, b1_1, b1_2⟩ := OrbK.row3 K1.out
        have q1_0 := fun d os => cell_regrown b1_0 d os
        have q1_1 := fun d os => cell_regrown b1_1 d os
        have q1_2 := fun d os => cell_regrown b1_2 d os
        clear b1_0 b1_1 b1_2
        obtain ⟨b2_0, b2_1, b2_2⟩ := OrbK.row3 K2.out
        have q2_0 := fun d os => cell_regrown b2_0 d os
        have q2_1 := fun d os => cell_regrown b2_1 d os
        have q2_2 := fun d os => cell_regrown b2_2 d os
        clear b2_0 b2_1 b2_2
        obtain ⟨b3_0, b3_1, b3_2⟩ := OrbK.row3 K3.out
        have q3_0 := fun d os => cell_regrown b3_0 d os
        have q3_1 := fun d os => cell_regrown b3_1 d os
        have q3_2 := fun d os => cell_regrown b3_2 d os
        clear b3_0 b3_1 b3_2
        obtain ⟨b4_0, b4_1, b4_2⟩ := OrbK.row3 K4.out
        have q4_0 := fun d os => cell_regrown b4_0 d os
        have q4_1 := fun d os => cell_regrown b4_1 d os
        have q4_2 := fun d os => cell_regrown b4_2 d os
        clear b4_0 b4_1 b4_2
        have hcu := fun d os => (by have h1 := hasTuple_impl (n : Int) C U t F3.out At ct (.agg #[.int .i64 (n : Int), .slice A3 C.length c3, .slice B3 U.length d3]) (grow (redrawn (w4.alloc (.cells #[.int .i64 (n : Int), .slice A4 C.length c4, .slice B4 X.length d4] 32)) d) os) (O3.out.below (below_regrown (w4.alloc (.cells #[.int .i64 (n : Int), .slice A4 C.length c4, .slice B4 X.length d4] 32)) d os)) (Rt.out.below (below_regrown (w4.alloc (.cells #[.int .i64 (n : Int), .slice A4 C.length c4, .slice B4 X.length d4] 32)) d os)) (by omega); rw [EU.out] at h1; exact h1 : Calls Try.prog 19 #[(.agg #[.int .i64 (n : Int), .slice A3 C.length c3, .slice B3 U.length d3]), .slice At t.length ct] (grow (redrawn (w4.alloc (.cells #[.int .i64 (n : Int), .slice A4 C.length c4, .slice B4 X.length d4] 32)) d) os) (BoolP true (grow (redrawn (w4.alloc (.cells #[.int .i64 (n : Int), .slice A4 C.length c4, .slice B4 X.length d4] 32)) d) os)))
        have hca := fun d os => (by have h1 := hasTuple_impl (n : Int) cs M t F1.out At ct (.agg #[.int .i64 (n : Int), .slice A1 cs.length c1, .slice B1 M.length d1]) (grow (redrawn (w4.alloc (.cells #[.int .i64 (n : Int), .slice A4 C.length c4, .slice B4 X.length d4] 32)) d) os) (O1.out.below (below_regrown (w4.alloc (.cells #[.int .i64 (n : Int), .slice A4 C.length c4, .slice B4 X.length d4] 32)) d os)) (Rt.out.below (below_regrown (w4.alloc (.cells #[.int .i64 (n : Int), .slice A4 C.length c4, .slice B4 X.length d4] 32)) d os)) (by omega); rw [EA.out] at h1; exact h1 : Calls Try.prog 19 #[(.agg #[.int .i64 (n : Int), .slice A1 cs.length c1, .slice B1 M.length d1]), .slice At t.length ct] (grow (redrawn (w4.alloc (.cells #[.int .i64 (n : Int), .slice A4 C.length c4, .slice B4 X.length d4] 32)) d) os) (BoolP false (grow (redrawn (w4.alloc (.cells #[.int .i64 (n : Int), .slice A4 C.length c4, .slice B4 X.length d4] 32)) d) os)))
        have hcb := fun d os => (by have h1 := hasTuple_impl (n : Int) cs2 M2 t F2.out At ct (.agg #[.int .i64 (n : Int), .slice A2 cs2.length c2, .slice B2 M2.length d2]) (grow (redrawn (w4.alloc (.cells #[.int .i64 (n : Int), .slice A4 C.length c4, .slice B4 X.length d4] 32)) d) os) (O2.out.below (below_regrown (w4.alloc (.cells #[.int .i64 (n : Int), .slice A4 C.length c4, .slice B4 X.length d4] 32)) d os)) (Rt.out.below (below_regrown (w4.alloc (.cells #[.int .i64 (n : Int), .slice A4 C.length c4, .slice B4 X.length d4] 32)) d os)) (by omega); rw [EB.out] at h1; exact h1 : Calls Try.prog 19 #[(.agg #[.int .i64 (n : Int), .slice A2 cs2.length c2, .slice B2 M2.length d2]), .slice At t.length ct] (grow (redrawn (w4.alloc (.cells #[.int .i64 (n : Int), .slice A4 C.length c4, .slice B4 X.length d4] 32)) d) os) (BoolP true (grow (redrawn (w4.alloc (.cells #[.int .i64 (n : Int), .slice A4 C.length c4, .slice B4 X.length d4] 32)) d) os)))
        have hcm := fun d os => (by have h1 := hasTuple_impl (n : Int) C X t F4.out At ct (.agg #[.int .i64 (n : Int), .slice A4 C.length c4, .slice B4 X.length d4]) (grow (redrawn (w4.alloc (.cells #[.int .i64 (n : Int), .slice A4 C.length c4, .slice B4 X.length d4] 32)) d) os) (O4.out.below (below_regrown (w4.alloc (.cells #[.int .i64 (n : Int), .slice A4 C.length c4, .slice B4 X.length d4] 32)) d os)) (Rt.out.below (below_regrown (w4.alloc (.cells #[.int .i64 (n : Int), .slice A4 C.length c4, .slice B4 X.length d4] 32)) d os)) (by omega); rw [EM.out] at h1; exact h1 : Calls Try.prog 19 #[(.agg #[.int .i64 (n : Int), .slice A4 C.length c4, .slice B4 X.length d4]), .slice At t.length ct] (grow (redrawn (w4.alloc (.cells #[.int .i64 (n : Int), .slice A4 C.length c4, .slice B4 X.length d4] 32)) d) os) (BoolP false (grow (redrawn (w4.alloc (.cells #[.int .i64 (n : Int), .slice A4 C.length c4, .slice B4 X.length d4] 32)) d) os)))
        go_wp2
        refine wp_region_quiet_below (by kernel_rfl) (by kernel_rfl) ?_
        repeat (any_goals (first | go_big_quiet_step ((go_at_call 19; first | (with_reducible exact Calls.regrown_of (hcu _ _)) | (with_reducible exact Calls.regrown_of (hca _ _)) | (with_reducible exact Calls.regrown_of (hcb _ _)) | (with_reducible exact Calls.regrown_of (hcm _ _)))) | quiet_step ((go_at_call 19; first | (with_reducible exact Calls.regrown_of (hcu _ _)) | (with_reducible exact Calls.regrown_of (hca _ _)) | (with_reducible exact Calls.regrown_of (hcb _ _)) | (with_reducible exact Calls.regrown_of (hcm _ _))))))
        refine wpQuiet_nil ?_
        intro _ hw'
        obtain ⟨⟨dq, osq⟩, hw''⟩ := hw'
        subst hw''
        have hqz := below_regrown (w4.alloc (.cells #[.int .i64 (n : Int), .slice A4 C.length c4, .slice B4 X.length d4] 32)) dq osq
        generalize grow (redrawn (w4.alloc (.cells #[.int .i64 (n : Int), .slice A4 C.length c4, .slice B4 X.length d4] 32)) dq) osq = wr at hqz ⊢
        clear q1_0 q1_1 q1_2 q2_0 q2_1 q2_2 q3_0 q3_1 q3_2 q4_0 q4_1 q4_2 hcu hca hcb hcm
        go_wp2_with fail
        go_meet
        exact ⟨rfl, hqz⟩
      · change Hid (hasTB n C U t = true) at EU
        change Hid (hasTB n C X t = false) at EM
        obtain ⟨b1_0, b1_1, b1_2⟩ := OrbK.row3 K1.out
        have q1_0 := fun d os => cell_regrown b1_0 d os
        have q1_1 := fun d os => cell_regrown b1_1 d os
        have q1_2 := fun d os => cell_regrown b1_2 d os
        clear b1_0 b1_1 b1_2
        obtain ⟨b2_0, b2_1, b2_2⟩ := OrbK.row3 K2.out
        have q2_0 := fun d os => cell_regrown b2_0 d os
        have q2_1 := fun d os => cell_regrown b2_1 d os
        have q2_2 := fun d os => cell_regrown b2_2 d os
        clear b2_0 b2_1 b2_2
        obtain ⟨b3_0, b3_1, b3_2⟩ := OrbK.row3 K3.out
        have q3_0 := fun d os => cell_regrown b3_0 d os
        have q3_1 := fun d os => cell_regrown b3_1 d os
        have q3_2 := fun d os => cell_regrown b3_2 d os
        clear b3_0 b3_1 b3_2
        obtain ⟨b4_0, b4_1, b4_2⟩ := OrbK.row3 K4.out
        have q4_0 := fun d os => cell_regrown b4_0 d os
        have q4_1 := fun d os => cell_regrown b4_1 d os
        have q4_2 := fun d os => cell_regrown b4_2 d os
        clear b4_0 b4_1 b4_2
        have hcu := fun d os => (by have h1 := hasTuple_impl (n : Int) C U t F3.out At ct (.agg #[.int .i64 (n : Int), .slice A3 C.length c3, .slice B3 U.length d3]) (grow (redrawn (w4.alloc (.cells #[.int .i64 (n : Int), .slice A4 C.length c4, .slice B4 X.length d4] 32)) d) os) (O3.out.below (below_regrown (w4.alloc (.cells #[.int .i64 (n : Int), .slice A4 C.length c4, .slice B4 X.length d4] 32)) d os)) (Rt.out.below (below_regrown (w4.alloc (.cells #[.int .i64 (n : Int), .slice A4 C.length c4, .slice B4 X.length d4] 32)) d os)) (by omega); rw [EU.out] at h1; exact h1 : Calls Try.prog 19 #[(.agg #[.int .i64 (n : Int), .slice A3 C.length c3, .slice B3 U.length d3]), .slice At t.length ct] (grow (redrawn (w4.alloc (.cells #[.int .i64 (n : Int), .slice A4 C.length c4, .slice B4 X.length d4] 32)) d) os) (BoolP true (grow (redrawn (w4.alloc (.cells #[.int .i64 (n : Int), .slice A4 C.length c4, .slice B4 X.length d4] 32)) d) os)))
        have hca := fun d os => (by have h1 := hasTuple_impl (n : Int) cs M t F1.out At ct (.agg #[.int .i64 (n : Int), .slice A1 cs.length c1, .slice B1 M.length d1]) (grow (redrawn (w4.alloc (.cells #[.int .i64 (n : Int), .slice A4 C.length c4, .slice B4 X.length d4] 32)) d) os) (O1.out.below (below_regrown (w4.alloc (.cells #[.int .i64 (n : Int), .slice A4 C.length c4, .slice B4 X.length d4] 32)) d os)) (Rt.out.below (below_regrown (w4.alloc (.cells #[.int .i64 (n : Int), .slice A4 C.length c4, .slice B4 X.length d4] 32)) d os)) (by omega); rw [EA.out] at h1; exact h1 : Calls Try.prog 19 #[(.agg #[.int .i64 (n : Int), .slice A1 cs.length c1, .slice B1 M.length d1]), .slice At t.length ct] (grow (redrawn (w4.alloc (.cells #[.int .i64 (n : Int), .slice A4 C.length c4, .slice B4 X.length d4] 32)) d) os) (BoolP true (grow (redrawn (w4.alloc (.cells #[.int .i64 (n : Int), .slice A4 C.length c4, .slice B4 X.length d4] 32)) d) os)))
        have hcb := fun d os => (by have h1 := hasTuple_impl (n : Int) cs2 M2 t F2.out At ct (.agg #[.int .i64 (n : Int), .slice A2 cs2.length c2, .slice B2 M2.length d2]) (grow (redrawn (w4.alloc (.cells #[.int .i64 (n : Int), .slice A4 C.length c4, .slice B4 X.length d4] 32)) d) os) (O2.out.below (below_regrown (w4.alloc (.cells #[.int .i64 (n : Int), .slice A4 C.length c4, .slice B4 X.length d4] 32)) d os)) (Rt.out.below (below_regrown (w4.alloc (.cells #[.int .i64 (n : Int), .slice A4 C.length c4, .slice B4 X.length d4] 32)) d os)) (by omega); rw [EB.out] at h1; exact h1 : Calls Try.prog 19 #[(.agg #[.int .i64 (n : Int), .slice A2 cs2.length c2, .slice B2 M2.length d2]), .slice At t.length ct] (grow (redrawn (w4.alloc (.cells #[.int .i64 (n : Int), .slice A4 C.length c4, .slice B4 X.length d4] 32)) d) os) (BoolP false (grow (redrawn (w4.alloc (.cells #[.int .i64 (n : Int), .slice A4 C.length c4, .slice B4 X.length d4] 32)) d) os)))
        have hcm := fun d os => (by have h1 := hasTuple_impl (n : Int) C X t F4.out At ct (.agg #[.int .i64 (n : Int), .slice A4 C.length c4, .slice B4 X.length d4]) (grow (redrawn (w4.alloc (.cells #[.int .i64 (n : Int), .slice A4 C.length c4, .slice B4 X.length d4] 32)) d) os) (O4.out.below (below_regrown (w4.alloc (.cells #[.int .i64 (n : Int), .slice A4 C.length c4, .slice B4 X.length d4] 32)) d os)) (Rt.out.below (below_regrown (w4.alloc (.cells #[.int .i64 (n : Int), .slice A4 C.length c4, .slice B4 X.length d4] 32)) d os)) (by omega); rw [EM.out] at h1; exact h1 : Calls Try.prog 19 #[(.agg #[.int .i64 (n : Int), .slice A4 C.length c4, .slice B4 X.length d4]), .slice At t.length ct] (grow (redrawn (w4.alloc (.cells #[.int .i64 (n : Int), .slice A4 C.length c4, .slice B4 X.length d4] 32)) d) os) (BoolP false (grow (redrawn (w4.alloc (.cells #[.int .i64 (n : Int), .slice A4 C.length c4, .slice B4 X.length d4] 32)) d) os)))
        go_wp2
        refine wp_region_quiet_below (by kernel_rfl) (by kernel_rfl) ?_
        repeat (any_goals (first | go_big_quiet_step ((go_at_call 19; first | (with_reducible exact Calls.regrown_of (hcu _ _)) | (with_reducible exact Calls.regrown_of (hca _ _)) | (with_reducible exact Calls.regrown_of (hcb _ _)) | (with_reducible exact Calls.regrown_of (hcm _ _)))) | quiet_step ((go_at_call 19; first | (with_reducible exact Calls.regrown_of (hcu _ _)) | (with_reducible exact Calls.regrown_of (hca _ _)) | (with_reducible exact Calls.regrown_of (hcb _ _)) | (with_reducible exact Calls.regrown_of (hcm _ _))))))
        refine wpQuiet_nil ?_
        intro _ hw'
        obtain ⟨⟨dq, osq⟩, hw''⟩ := hw'
        subst hw''
        have hqz := below_regrown (w4.alloc (.cells #[.int .i64 (n : Int), .slice A4 C.length c4, .slice B4 X.length d4] 32)) dq osq
        generalize grow (redrawn (w4.alloc (.cells #[.int .i64 (n : Int), .slice A4 C.length c4, .slice B4 X.length d4] 32)) dq) osq = wr at hqz ⊢
        clear q1_0 q1_1 q1_2 q2_0 q2_1 q2_2 q3_0 q3_1 q3_2 q4_0 q4_1 q4_2 hcu hca hcb hcm
        go_wp2_with fail
        go_meet
        exact ⟨rfl, hqz⟩
      · change Hid (hasTB n C U t = true) at EU
        change Hid (hasTB n C X t = true) at EM
        obtain ⟨b1_0, b1_1, b1_2⟩ := OrbK.row3 K1.out
        have q1_0 := fun d os => cell_regrown b1_0 d os
        have q1_1 := fun d os => cell_regrown b1_1 d os
        have q1_2 := fun d os => cell_regrown b1_2 d os
        clear b1_0 b1_1 b1_2
        obtain ⟨b2_0, b2_1, b2_2⟩ := OrbK.row3 K2.out
        have q2_0 := fun d os => cell_regrown b2_0 d os
        have q2_1 := fun d os => cell_regrown b2_1 d os
        have q2_2 := fun d os => cell_regrown b2_2 d os
        clear b2_0 b2_1 b2_2
        obtain ⟨b3_0, b3_1, b3_2⟩ := OrbK.row3 K3.out
        have q3_0 := fun d os => cell_regrown b3_0 d os
        have q3_1 := fun d os => cell_regrown b3_1 d os
        have q3_2 := fun d os => cell_regrown b3_2 d os
        clear b3_0 b3_1 b3_2
        obtain ⟨b4_0, b4_1, b4_2⟩ := OrbK.row3 K4.out
        have q4_0 := fun d os => cell_regrown b4_0 d os
        have q4_1 := fun d os => cell_regrown b4_1 d os
        have q4_2 := fun d os => cell_regrown b4_2 d os
        clear b4_0 b4_1 b4_2
        have hcu := fun d os => (by have h1 := hasTuple_impl (n : Int) C U t F3.out At ct (.agg #[.int .i64 (n : Int), .slice A3 C.length c3, .slice B3 U.length d3]) (grow (redrawn (w4.alloc (.cells #[.int .i64 (n : Int), .slice A4 C.length c4, .slice B4 X.length d4] 32)) d) os) (O3.out.below (below_regrown (w4.alloc (.cells #[.int .i64 (n : Int), .slice A4 C.length c4, .slice B4 X.length d4] 32)) d os)) (Rt.out.below (below_regrown (w4.alloc (.cells #[.int .i64 (n : Int), .slice A4 C.length c4, .slice B4 X.length d4] 32)) d os)) (by omega); rw [EU.out] at h1; exact h1 : Calls Try.prog 19 #[(.agg #[.int .i64 (n : Int), .slice A3 C.length c3, .slice B3 U.length d3]), .slice At t.length ct] (grow (redrawn (w4.alloc (.cells #[.int .i64 (n : Int), .slice A4 C.length c4, .slice B4 X.length d4] 32)) d) os) (BoolP true (grow (redrawn (w4.alloc (.cells #[.int .i64 (n : Int), .slice A4 C.length c4, .slice B4 X.length d4] 32)) d) os)))
        have hca := fun d os => (by have h1 := hasTuple_impl (n : Int) cs M t F1.out At ct (.agg #[.int .i64 (n : Int), .slice A1 cs.length c1, .slice B1 M.length d1]) (grow (redrawn (w4.alloc (.cells #[.int .i64 (n : Int), .slice A4 C.length c4, .slice B4 X.length d4] 32)) d) os) (O1.out.below (below_regrown (w4.alloc (.cells #[.int .i64 (n : Int), .slice A4 C.length c4, .slice B4 X.length d4] 32)) d os)) (Rt.out.below (below_regrown (w4.alloc (.cells #[.int .i64 (n : Int), .slice A4 C.length c4, .slice B4 X.length d4] 32)) d os)) (by omega); rw [EA.out] at h1; exact h1 : Calls Try.prog 19 #[(.agg #[.int .i64 (n : Int), .slice A1 cs.length c1, .slice B1 M.length d1]), .slice At t.length ct] (grow (redrawn (w4.alloc (.cells #[.int .i64 (n : Int), .slice A4 C.length c4, .slice B4 X.length d4] 32)) d) os) (BoolP true (grow (redrawn (w4.alloc (.cells #[.int .i64 (n : Int), .slice A4 C.length c4, .slice B4 X.length d4] 32)) d) os)))
        have hcb := fun d os => (by have h1 := hasTuple_impl (n : Int) cs2 M2 t F2.out At ct (.agg #[.int .i64 (n : Int), .slice A2 cs2.length c2, .slice B2 M2.length d2]) (grow (redrawn (w4.alloc (.cells #[.int .i64 (n : Int), .slice A4 C.length c4, .slice B4 X.length d4] 32)) d) os) (O2.out.below (below_regrown (w4.alloc (.cells #[.int .i64 (n : Int), .slice A4 C.length c4, .slice B4 X.length d4] 32)) d os)) (Rt.out.below (below_regrown (w4.alloc (.cells #[.int .i64 (n : Int), .slice A4 C.length c4, .slice B4 X.length d4] 32)) d os)) (by omega); rw [EB.out] at h1; exact h1 : Calls Try.prog 19 #[(.agg #[.int .i64 (n : Int), .slice A2 cs2.length c2, .slice B2 M2.length d2]), .slice At t.length ct] (grow (redrawn (w4.alloc (.cells #[.int .i64 (n : Int), .slice A4 C.length c4, .slice B4 X.length d4] 32)) d) os) (BoolP true (grow (redrawn (w4.alloc (.cells #[.int .i64 (n : Int), .slice A4 C.length c4, .slice B4 X.length d4] 32)) d) os)))
        have hcm := fun d os => (by have h1 := hasTuple_impl (n : Int) C X t F4.out At ct (.agg #[.int .i64 (n : Int), .slice A4 C.length c4, .slice B4 X.length d4]) (grow (redrawn (w4.alloc (.cells #[.int .i64 (n : Int), .slice A4 C.length c4, .slice B4 X.length d4] 32)) d) os) (O4.out.below (below_regrown (w4.alloc (.cells #[.int .i64 (n : Int), .slice A4 C.length c4, .slice B4 X.length d4] 32)) d os)) (Rt.out.below (below_regrown (w4.alloc (.cells #[.int .i64 (n : Int), .slice A4 C.length c4, .slice B4 X.length d4] 32)) d os)) (by omega); rw [EM.out] at h1; exact h1 : Calls Try.prog 19 #[(.agg #[.int .i64 (n : Int), .slice A4 C.length c4, .slice B4 X.length d4]), .slice At t.length ct] (grow (redrawn (w4.alloc (.cells #[.int .i64 (n : Int), .slice A4 C.length c4, .slice B4 X.length d4] 32)) d) os) (BoolP true (grow (redrawn (w4.alloc (.cells #[.int .i64 (n : Int), .slice A4 C.length c4, .slice B4 X.length d4] 32)) d) os)))
        go_wp2
        refine wp_region_quiet_below (by kernel_rfl) (by kernel_rfl) ?_
        repeat (any_goals (first | go_big_quiet_step ((go_at_call 19; first | (with_reducible exact Calls.regrown_of (hcu _ _)) | (with_reducible exact Calls.regrown_of (hca _ _)) | (with_reducible exact Calls.regrown_of (hcb _ _)) | (with_reducible exact Calls.regrown_of (hcm _ _)))) | quiet_step ((go_at_call 19; first | (with_reducible exact Calls.regrown_of (hcu _ _)) | (with_reducible exact Calls.regrown_of (hca _ _)) | (with_reducible exact Calls.regrown_of (hcb _ _)) | (with_reducible exact Calls.regrown_of (hcm _ _))))))
        refine wpQuiet_nil ?_
        intro _ hw'
        obtain ⟨⟨dq, osq⟩, hw''⟩ := hw'
        subst hw''
        have hqz := below_regrown (w4.alloc (.cells #[.int .i64 (n : Int), .slice A4 C.length c4, .slice B4 X.length d4] 32)) dq osq
        generalize grow (redrawn (w4.alloc (.cells #[.int .i64 (n : Int), .slice A4 C.length c4, .slice B4 X.length d4] 32)) dq) osq = wr at hqz ⊢
        clear q1_0 q1_1 q1_2 q2_0 q2_1 q2_2 q3_0 q3_1 q3_2 q4_0 q4_1 q4_2 hcu hca hcb hcm
        go_wp2_with fail
        go_meet
        exact ⟨rfl, hqz⟩
    case rest =>
      obtain ⟨rfl, hmv9⟩ := hcut
      have hmv := hmv9
      replace K1 := Lib.hid ((hmv.block _ (OrbK.box_lt K1.out)).trans K1.out)
      replace O1 := Lib.hid (O1.out.below hmv)
      replace K2 := Lib.hid ((hmv.block _ (OrbK.box_lt K2.out)).trans K2.out)
      replace O2 := Lib.hid (O2.out.below hmv)
      replace K3 := Lib.hid ((hmv.block _ (OrbK.box_lt K3.out)).trans K3.out)
      replace O3 := Lib.hid (O3.out.below hmv)
      replace K4 := Lib.hid ((hmv.block _ (OrbK.box_lt K4.out)).trans K4.out)
      replace O4 := Lib.hid (O4.out.below hmv)
      replace Rt := Lib.hid (Rt.out.below hmv)
      replace HBB := Lib.hid (HBB.out.trans (hmv.mono HBB.out.size))
      clear hmv
      clear hmv9
      obtain ⟨wf, rfl⟩ : ∃ x : World, x = wc := ⟨_, rfl⟩
      have lt0 := OrbK.box_lt K1.out
      have lt1 := OrbK.box_lt K2.out
      have HCC : Hid (∀ w' : World, Below wf.heap.size wf w' → w'.cell? ⟨w1.heap.size, 0, none⟩ = some (.int .i64 (n : Int)) ∧ w'.cell? ⟨w1.heap.size, 1, none⟩ = some (.slice A1 cs.length c1) ∧ w'.cell? ⟨w1.heap.size, 2, none⟩ = some (.slice B1 M.length d1) ∧ w'.cell? ⟨(w1.heap.size + 1), 0, none⟩ = some (.int .i64 (n : Int)) ∧ w'.cell? ⟨(w1.heap.size + 1), 1, none⟩ = some (.slice A2 cs2.length c2) ∧ w'.cell? ⟨(w1.heap.size + 1), 2, none⟩ = some (.slice B2 M2.length d2)) := Lib.hid (fun W k => by
        obtain ⟨b1_0, b1_1, b1_2⟩ := OrbK.row3 K1.out
        obtain ⟨b2_0, b2_1, b2_2⟩ := OrbK.row3 K2.out
        exact ⟨(k.cell (p := ⟨w1.heap.size, 0, none⟩) lt0).trans b1_0, (k.cell (p := ⟨w1.heap.size, 1, none⟩) lt0).trans b1_1, (k.cell (p := ⟨w1.heap.size, 2, none⟩) lt0).trans b1_2, (k.cell (p := ⟨(w1.heap.size + 1), 0, none⟩) lt1).trans b2_0, (k.cell (p := ⟨(w1.heap.size + 1), 1, none⟩) lt1).trans b2_1, (k.cell (p := ⟨(w1.heap.size + 1), 2, none⟩) lt1).trans b2_2⟩)
      have zR : Unit := ()
      go_upto_region 11 with fail
      go_cut [10, 11] (fun s t wx => OrbQ.Rel wf n C N s wx ∧ t = .bool true)
      case first =>
        have hdw : Below wf.heap.size wf wf.drew := ⟨rfl, rfl, rfl, Nat.le_refl _, fun _ _ => rfl⟩
        have hal : Below wf.heap.size wf (wf.alloc (.cells #[.int .i64 0, .slice none 0 0, .slice none 0 0] 32)).drew := by
          have h : Below wf.heap.size wf (wf.alloc (.cells #[.int .i64 0, .slice none 0 0, .slice none 0 0] 32)) := (Below.refl _ _).alloc (Nat.le_refl _) _
          exact ⟨h.os, h.tape, h.output, h.size, h.block⟩
        obtain ⟨cu0, cu1, cu2, cu3, cu4, cu5⟩ := HCC.out wf.drew (hdw)
        obtain ⟨cx0, cx1, cx2, cx3, cx4, cx5⟩ := HCC.out (wf.alloc (.cells #[.int .i64 0, .slice none 0 0, .slice none 0 0] 32)).drew (hal)
        have ne0_0 : w1.heap.size ≠ wf.heap.size := Nat.ne_of_lt lt0
        have ne1_0 : (w1.heap.size + 1) ≠ wf.heap.size := Nat.ne_of_lt lt1
        have h0a := HC1.out (wf.drew) _ (O1.out.below (hdw))
        have h0b := HC1.out ((wf.alloc (.cells #[.int .i64 0, .slice none 0 0, .slice none 0 0] 32)).drew) _ (O1.out.below (hal))
        go_region_held3 (fun w' => w'.cell? ⟨w1.heap.size, 0, none⟩ = some (.int .i64 (n : Int)) ∧ w'.cell? ⟨w1.heap.size, 1, none⟩ = some (.slice A1 cs.length c1) ∧ w'.cell? ⟨w1.heap.size, 2, none⟩ = some (.slice B1 M.length d1) ∧ w'.cell? ⟨(w1.heap.size + 1), 0, none⟩ = some (.int .i64 (n : Int)) ∧ w'.cell? ⟨(w1.heap.size + 1), 1, none⟩ = some (.slice A2 cs2.length c2) ∧ w'.cell? ⟨(w1.heap.size + 1), 2, none⟩ = some (.slice B2 M2.length d2))
          (first | ((try dsimp only); (with_reducible exact ⟨by assumption, by assumption, by assumption, by assumption, by assumption, by assumption⟩)) | (with_reducible exact ⟨OrbQ.set3_keep (by assumption) (by assumption), OrbQ.set3_keep (by assumption) (by assumption), OrbQ.set3_keep (by assumption) (by assumption), OrbQ.set3_keep (by assumption) (by assumption), OrbQ.set3_keep (by assumption) (by assumption), OrbQ.set3_keep (by assumption) (by assumption)⟩) | go_keep)
          (first
            | (go_at_call 15; (first | (with_reducible refine h0a.mono ?_) | (with_reducible refine h0b.mono ?_)); rintro e wq0 ⟨A5, c5, B5, d5, S5, rfl, hL5, hS5, hb0⟩; have fr0 : Below wf.heap.size wf wq0 := (by first | (with_reducible exact hdw.trans (hb0.mono hdw.size)) | (with_reducible exact hal.trans (hb0.mono hal.size))); (try (have zb0 : wq0.heap[wf.heap.size]? = some (.cells #[.int .i64 0, .slice none 0 0, .slice none 0 0] 32) := (hb0.block wf.heap.size (by simp)).trans (heap_alloc_new wf (.cells #[.int .i64 0, .slice none 0 0, .slice none 0 0] 32)))); have hin5 := orbOut_ix hL5; obtain ⟨ca0, ca1, ca2, ca3, ca4, ca5⟩ := HCC.out wq0 (fr0); have ne0_1 : w1.heap.size ≠ wq0.heap.size := Nat.ne_of_lt (Nat.lt_of_lt_of_le lt0 fr0.size); have ne1_1 : (w1.heap.size + 1) ≠ wq0.heap.size := Nat.ne_of_lt (Nat.lt_of_lt_of_le lt1 fr0.size); have al0 : Below wq0.heap.size wq0 (wq0.alloc (.cells #[.int .i64 0, .slice none 0 0, .slice none 0 0] 32)) := (Below.refl _ _).alloc (Nat.le_refl _) _; have h1a := HC2.out (wq0) _ (O2.out.below (fr0)); have h1b := HC2.out ((wq0.alloc (.cells #[.int .i64 0, .slice none 0 0, .slice none 0 0] 32))) _ (O2.out.below ((fr0.trans (al0.mono fr0.size)))))
            | (go_at_call 15; (first | (with_reducible refine h1a.mono ?_) | (with_reducible refine h1b.mono ?_)); rintro e wq1 ⟨A6, c6, B6, d6, S6, rfl, hL6, hS6, hb1⟩; have bx1 : Below wq0.heap.size wq0 wq1 := (by first | (with_reducible exact hb1) | (with_reducible exact al0.trans (hb1.mono al0.size))); have fr1 := fr0.trans (bx1.mono fr0.size); (try (have zb1 := (bx1.block _ (OrbK.box_lt zb0)).trans zb0)); (try (have zb1 : wq1.heap[wq0.heap.size]? = some (.cells #[.int .i64 0, .slice none 0 0, .slice none 0 0] 32) := (hb1.block _ (by simp)).trans (heap_alloc_new wq0 (.cells #[.int .i64 0, .slice none 0 0, .slice none 0 0] 32)))); have hin6 := orbOut_ix hL6; have hin5 := hin5.below bx1; obtain ⟨cb0, cb1, cb2, cb3, cb4, cb5⟩ := HCC.out wq1 (fr1); have ne0_2 : w1.heap.size ≠ wq1.heap.size := Nat.ne_of_lt (Nat.lt_of_lt_of_le lt0 fr1.size); have ne1_2 : (w1.heap.size + 1) ≠ wq1.heap.size := Nat.ne_of_lt (Nat.lt_of_lt_of_le lt1 fr1.size); have al1 : Below wq1.heap.size wq1 (wq1.alloc (.cells #[.int .i64 0, .slice none 0 0, .slice none 0 0] 32)) := (Below.refl _ _).alloc (Nat.le_refl _) _; have h2a := HCN.out (wq1) _ _ (hin5) (hin6); have h2b := HCN.out ((wq1.alloc (.cells #[.int .i64 0, .slice none 0 0, .slice none 0 0] 32))) _ _ (hin5.below al1) (hin6.below al1))
            | (go_at_call 30; (first | (with_reducible refine h2a.mono ?_) | (with_reducible refine h2b.mono ?_)); rintro e wq2 ⟨Aw, cw, Bw, dw, Sw, rfl, hLw, hSw, hb2⟩; have bx2 : Below wq1.heap.size wq1 wq2 := (by first | (with_reducible exact hb2) | (with_reducible exact al1.trans (hb2.mono al1.size))); have fr2 := fr1.trans (bx2.mono fr1.size); (try (have zb2 := (bx2.block _ (OrbK.box_lt zb1)).trans zb1)); (try (have zb2 : wq2.heap[wq1.heap.size]? = some (.cells #[.int .i64 0, .slice none 0 0, .slice none 0 0] 32) := (hb2.block _ (by simp)).trans (heap_alloc_new wq1 (.cells #[.int .i64 0, .slice none 0 0, .slice none 0 0] 32)))); obtain ⟨cc0, cc1, cc2, cc3, cc4, cc5⟩ := HCC.out wq2 (fr2); have ne0_3 : w1.heap.size ≠ wq2.heap.size := Nat.ne_of_lt (Nat.lt_of_lt_of_le lt0 fr2.size); have ne1_3 : (w1.heap.size + 1) ≠ wq2.heap.size := Nat.ne_of_lt (Nat.lt_of_lt_of_le lt1 fr2.size); (try (obtain ⟨qb0, qb1, qb2⟩ := OrbK.row3 zb2; have yb0 := frozen_of_row _ _ 0 _ _ zb2; have yb1 := frozen_of_row _ _ 1 _ _ zb2; have yb2 := frozen_of_row _ _ 2 _ _ zb2)))
            | fail)
        all_goals
          have szb0 : wf.heap.size ≤ wq0.heap.size := fr0.size
          have szb1 : wf.heap.size ≤ wq1.heap.size := fr1.size
          go_wp2_with fail
          go_meet
          first | (with_reducible exact ⟨OrbQ.rel_set zb2 hLw (fun b hb => Nat.le_trans (by omega) (hSw b hb)) (fun b hb => Nat.ne_of_gt (Nat.lt_of_lt_of_le (OrbK.box_lt zb1) (hSw b hb))) (by omega) fr2, rfl⟩) | (with_reducible exact ⟨OrbQ.rel_set zb2 hLw (fun b hb => Nat.le_trans (by simp; omega) (hSw b hb)) (fun b hb => Nat.ne_of_gt (Nat.lt_of_lt_of_le (by simp) (hSw b hb))) (by omega) fr2, rfl⟩) | (with_reducible exact ⟨OrbQ.rel_new hLw (fun b hb => Nat.le_trans (by omega) (hSw b hb)) fr2, rfl⟩)
      case rest =>
        obtain ⟨⟨g7, A7, c7, B7, d7, S7, rfl, hbox, hLb, hgS, hSb, hgb, hgz⟩, rfl⟩ := hcut
        have hoi := orbOut_ix hLb
        clear HCC zR lt0 lt1
        have hmv := hgz
        replace K1 := Lib.hid ((hmv.block _ (OrbK.box_lt K1.out)).trans K1.out)
        replace O1 := Lib.hid (O1.out.below hmv)
        replace K2 := Lib.hid ((hmv.block _ (OrbK.box_lt K2.out)).trans K2.out)
        replace O2 := Lib.hid (O2.out.below hmv)
        replace K3 := Lib.hid ((hmv.block _ (OrbK.box_lt K3.out)).trans K3.out)
        replace O3 := Lib.hid (O3.out.below hmv)
        replace K4 := Lib.hid ((hmv.block _ (OrbK.box_lt K4.out)).trans K4.out)
        replace O4 := Lib.hid (O4.out.below hmv)
        replace Rt := Lib.hid (Rt.out.below hmv)
        replace HBB := Lib.hid (HBB.out.trans (hmv.mono HBB.out.size))
        clear hmv
        have K7 := Lib.hid hbox
        have O7 := Lib.hid hoi
        clear hbox hoi hLb hgS hSb hgb hgz
        obtain ⟨wd, rfl⟩ : ∃ x : World, x = wc := ⟨_, rfl⟩
        have HSC : Hid (∀ W : World, Below wd.heap.size wd W → (W.cell? ⟨w3.heap.size, 0, none⟩ = some (.int .i64 (n : Int)) ∧ W.cell? ⟨w3.heap.size, 1, none⟩ = some (.slice A3 C.length c3) ∧ W.cell? ⟨w3.heap.size, 2, none⟩ = some (.slice B3 U.length d3)) ∧ (W.cell? ⟨w4.heap.size, 0, none⟩ = some (.int .i64 (n : Int)) ∧ W.cell? ⟨w4.heap.size, 1, none⟩ = some (.slice A4 C.length c4) ∧ W.cell? ⟨w4.heap.size, 2, none⟩ = some (.slice B4 X.length d4)) ∧ (W.cell? ⟨g7, 0, none⟩ = some (.int .i64 (n : Int)) ∧ W.cell? ⟨g7, 1, none⟩ = some (.slice A7 C.length c7) ∧ W.cell? ⟨g7, 2, none⟩ = some (.slice B7 N.length d7))) := Lib.hid (fun W k => by
          obtain ⟨b3_0, b3_1, b3_2⟩ := OrbK.row3 K3.out
          have l3 := OrbK.box_lt K3.out
          obtain ⟨b4_0, b4_1, b4_2⟩ := OrbK.row3 K4.out
          have l4 := OrbK.box_lt K4.out
          obtain ⟨b7_0, b7_1, b7_2⟩ := OrbK.row3 K7.out
          have l7 := OrbK.box_lt K7.out
          exact ⟨⟨(k.cell (p := ⟨w3.heap.size, 0, none⟩) l3).trans b3_0, (k.cell (p := ⟨w3.heap.size, 1, none⟩) l3).trans b3_1, (k.cell (p := ⟨w3.heap.size, 2, none⟩) l3).trans b3_2⟩, ⟨(k.cell (p := ⟨w4.heap.size, 0, none⟩) l4).trans b4_0, (k.cell (p := ⟨w4.heap.size, 1, none⟩) l4).trans b4_1, (k.cell (p := ⟨w4.heap.size, 2, none⟩) l4).trans b4_2⟩, ⟨(k.cell (p := ⟨g7, 0, none⟩) l7).trans b7_0, (k.cell (p := ⟨g7, 1, none⟩) l7).trans b7_1, (k.cell (p := ⟨g7, 2, none⟩) l7).trans b7_2⟩⟩)
        have hdw : Below wd.heap.size wd wd.drew := ⟨rfl, rfl, rfl, Nat.le_refl _, fun _ _ => rfl⟩
        obtain ⟨⟨f3_0, f3_1, f3_2⟩, ⟨f4_0, f4_1, f4_2⟩, ⟨f7_0, f7_1, f7_2⟩⟩ := HSC.out wd.drew hdw
        have hq0 := HC3.out wd.drew _ (O3.out.below hdw)
        go_wp2
        go_region_held3 (fun w' => (w'.cell? ⟨w3.heap.size, 0, none⟩ = some (.int .i64 (n : Int)) ∧ w'.cell? ⟨w3.heap.size, 1, none⟩ = some (.slice A3 C.length c3) ∧ w'.cell? ⟨w3.heap.size, 2, none⟩ = some (.slice B3 U.length d3)) ∧ (w'.cell? ⟨w4.heap.size, 0, none⟩ = some (.int .i64 (n : Int)) ∧ w'.cell? ⟨w4.heap.size, 1, none⟩ = some (.slice A4 C.length c4) ∧ w'.cell? ⟨w4.heap.size, 2, none⟩ = some (.slice B4 X.length d4)) ∧ (w'.cell? ⟨g7, 0, none⟩ = some (.int .i64 (n : Int)) ∧ w'.cell? ⟨g7, 1, none⟩ = some (.slice A7 C.length c7) ∧ w'.cell? ⟨g7, 2, none⟩ = some (.slice B7 N.length d7)))
          (with_reducible exact ⟨⟨by assumption, by assumption, by assumption⟩, ⟨by assumption, by assumption, by assumption⟩, ⟨by assumption, by assumption, by assumption⟩⟩)
          (first
          | (go_at_call 15; (with_reducible refine hq0.mono ?_); rintro e wz0 ⟨A8, c8, B8, d8, S8, rfl, hL8, hS8, hbq0⟩; have fq0 := hdw.trans (hbq0.mono hdw.size); have hin8 := orbOut_ix hL8; obtain ⟨⟨g0_3_0, g0_3_1, g0_3_2⟩, ⟨g0_4_0, g0_4_1, g0_4_2⟩, ⟨g0_7_0, g0_7_1, g0_7_2⟩⟩ := HSC.out wz0 fq0; have hq1 := (by have h1 := sameSet_impl n C N F5.out _ n C N F5.out _ wz0 hin8 (O7.out.below fq0); rw [SAM.out] at h1; exact h1 : Calls Try.prog 26 #[.agg #[.int .i64 (n : Int), .slice A8 C.length c8, .slice B8 N.length d8], (.agg #[.int .i64 (n : Int), .slice A7 C.length c7, .slice B7 N.length d7])] wz0 (BoolP true wz0)))
          | (go_at_call 26; (with_reducible refine hq1.mono ?_); rintro e wz1 ⟨rfl, hbq1⟩; have fq1 := fq0.trans (hbq1.mono fq0.size); obtain ⟨⟨g1_3_0, g1_3_1, g1_3_2⟩, ⟨g1_4_0, g1_4_1, g1_4_2⟩, ⟨g1_7_0, g1_7_1, g1_7_2⟩⟩ := HSC.out wz1 fq1; have hq2 := (by have h1 := isOrbitSet_impl (n : Int) C U F3.out _ wz1 (O3.out.below fq1); rw [OBU.out] at h1; exact h1 : Calls Try.prog 25 #[(.agg #[.int .i64 (n : Int), .slice A3 C.length c3, .slice B3 U.length d3])] wz1 (BoolP true wz1)))
          | (go_at_call 25; (with_reducible refine hq2.mono ?_); rintro e wz2 ⟨rfl, hbq2⟩; have fq2 := fq1.trans (hbq2.mono fq1.size); obtain ⟨⟨g2_3_0, g2_3_1, g2_3_2⟩, ⟨g2_4_0, g2_4_1, g2_4_2⟩, ⟨g2_7_0, g2_7_1, g2_7_2⟩⟩ := HSC.out wz2 fq2; have hq3 := (by have h1 := isOrbitSet_impl (n : Int) C X F4.out _ wz2 (O4.out.below fq2); rw [OBM.out] at h1; exact h1 : Calls Try.prog 25 #[(.agg #[.int .i64 (n : Int), .slice A4 C.length c4, .slice B4 X.length d4])] wz2 (BoolP true wz2)))
          | (go_at_call 25; (with_reducible refine hq3.mono ?_); rintro e wz3 ⟨rfl, hbq3⟩; have fq3 := fq2.trans (hbq3.mono fq2.size); obtain ⟨⟨g3_3_0, g3_3_1, g3_3_2⟩, ⟨g3_4_0, g3_4_1, g3_4_2⟩, ⟨g3_7_0, g3_7_1, g3_7_2⟩⟩ := HSC.out wz3 fq3)
          | fail)
        have hbz := HBB.out.trans (fq3.mono HBB.out.size)
        go_wp2
        go_ret
        exact ⟨rfl, hbz⟩
  · have hbig : 4096 < n0 := by omega
    clear hn hA0
    go_enter Try.func8, Try.ntmps8
    go_wp2_with (go_at_call 9; refine (big_yes _ _ _ _ hbig (by omega)).mono ?_; rintro e w' ⟨rfl, rfl⟩)
    go_ret
    exact ⟨rfl, Below.refl _ _⟩

set_option maxRecDepth 100000 in
theorem lifted (os : Os) (started : os.Started) (H : Type) (enc : TypeId × Value → H) :
    ReturnsInHanded {} Try.checked os 8 .any (Rows.fnSetAlgebraSpec.pre6 enc Try.prog Try.f8 Rows.fnSetAlgebraRow.domain false) (Rows.fnSetAlgebraSpec.post enc Try.prog Try.f8 false true false false) := by
  refine returnsInHanded_of_change (C := Try.checked) own started (by kernel_rfl) Try.func8
    (ChangeSpec.witness6 (enc := enc) (C := Try.checked) false ⟨#[], #[.slice none 0 0], []⟩ 8 (by kernel_rfl) (by kernel_rfl) (by kernel_rfl) (by kernel_rfl)) ?_
  intro W base args ds gs before hval0 hW hcnd _
  have hval : ∀ (j : Nat) t v, Try.f8.params[j]? = some t → args[j]? = some v → Value.okWide Try.prog W .any base t v := hval0
  have hW' := hW
  obtain ⟨p, q, hA0, hV, rfl, hfz, hnd⟩ := hW
  have hA : DataW.TrodAll enc Try.prog W 0 (fun _ => true) true Try.f8.params.toList args.toList ds p := hA0
  rw [Try.params8] at hA hval
  obtain ⟨v0, vs0, d0, ds0, p0, q0, hargs, rfl, rfl, h0, r0⟩ := trodAll_cons hA
  obtain ⟨rfl, rfl, rfl⟩ := trodAll_nil r0
  obtain rfl : args = #[v0] := by cases args; simp_all
  obtain ⟨rfl, rfl⟩ := trodVars_none hV
  have k0 := h0
  have lt0 : ∀ x ∈ p0, x.block < W.heap.size := by obtain ⟨m, hm⟩ := k0; exact DataW.trod_lt m _ _ _ hm
  obtain ⟨A0, n0, c0, rfl⟩ := okWide_slice Try.underlying22 (hval 0 22 v0 rfl rfl)
  obtain ⟨w0, m0⟩ := open_bytesL h0
  clear hA0 hval0
  refine (walk W A0 c0 n0 w0 (open_bytesZ h0) m0).mono fun e W' ⟨he, bel⟩ => ?_
  subst he
  exact ⟨_, rfl, _, _, _, [], _, [], hW', trodAll_mk1 (shut_bool Try.underlying4 _), (trodAll_cons_mk (Below.trod laidOut (by kernel_rfl) (of_decide_eq_true (by kernel_rfl)) k0 bel lt0) trodAll_mk0), rfl, bel.frame _, fun h => by cases h⟩

theorem over : Rows.fnSetAlgebraRow.holds Try.pinned (OpenSpec.ofChange Rows.fnSetAlgebraSpec) :=
  OpenClaim.holds_of_wide 8 Try.f8 rfl rfl rfl rfl rfl rfl rfl ⟨rfl, rfl, rfl, rfl, rfl⟩ rfl rfl rfl rfl rfl (by kernel_rfl) Try.func8 (by kernel_rfl)
    (of_decide_eq_true (by kernel_rfl)) (by unfold Func.isWrapper; first | (rw [if_pos (by decide +kernel)]; kernel_rfl) | (rw [if_neg (by decide +kernel)]; exact ⟨rfl, rfl⟩))
    (fun os started H enc _ => lifted os started H enc)

theorem proved : Rows.FnSetAlgebraSaid := over
#print axioms proved
end Go.Proofs.Ytnamlgacjhnpnaa.fnSetAlgebra
