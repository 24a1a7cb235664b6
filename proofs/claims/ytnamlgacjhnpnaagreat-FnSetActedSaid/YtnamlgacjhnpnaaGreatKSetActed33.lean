/-
  The law FnSetActed returns true for every code of bytes: a drawn set on which a drawn permutation acts has a tuple exactly if the set has what it comes of, and two permutations one after the other act as both composed. No condition.
-/
import Derived.Test.YtnamlgacjhnpnaaGreatKSetActed7
import Derived.Test.YtnamlgacjhnpnaaGreatKSetActed29
import Derived.Test.YtnamlgacjhnpnaaGreatKSetActed23
import Derived.Test.YtnamlgacjhnpnaaGreatKSetActed31
import Derived.Test.YtnamlgacjhnpnaaGreatKSetActed26
import Derived.Test.YtnamlgacjhnpnaaGreatKSetActed5
import Derived.Test.YtnamlgacjhnpnaaGreatKSetActed32
namespace Go.Proofs.YtnamlgacjhnpnaaGreat.fnSetActed
open Go.ChangeShapes Go.WideShapes Go.ChangeAt Go.RowKit
set_option linter.unusedVariables false

theorem big_no (A : Option Addr) (n c : Nat) (w : World) (h : n ≤ 4096) : Calls Tryz.prog 6 #[.slice A n c] w fun e w' => e = .returned (.bool false) ∧ w = w' := by
  have k0 : decide ((4096 : Int) < n) = false := by simp; omega
  go_enter Tryz.func6, Tryz.ntmps6
  go_wp2
  go_ret
  exact ⟨rfl, rfl⟩

theorem big_yes (A : Option Addr) (n c : Nat) (w : World) (h : 4096 < n) (h2 : n ≤ 9223372036854775807) : Calls Tryz.prog 6 #[.slice A n c] w fun e w' => e = .returned (.bool true) ∧ w = w' := by
  have k0 : decide ((4096 : Int) < n) = true := by simp; omega
  go_enter Tryz.func6, Tryz.ntmps6
  go_wp2
  go_ret
  exact ⟨rfl, rfl⟩

theorem open_bytesZ {H : Type} {enc : TypeId × Value → H} {W : World} {A : Option Addr} {n c : Nat} {d : DataW H} {p : List MemPlace}
    (h : DataW.Trod enc Tryz.prog W 0 (fun _ => true) true 22 (.slice A n c) d p) : A = none → c = 0 := by
  obtain ⟨fuel, hf⟩ := h
  rcases open_ints Tryz.underlying22 Tryz.underlying5 (by kernel_rfl) hf with ⟨hcs, _⟩ | ⟨x, len, cap, zs, hcs, _⟩
  · simp [Value.cells] at hcs
    exact fun _ => hcs.2.2
  · simp [Value.cells] at hcs
    rw [hcs.1]
    intro e
    cases e

open Go.Sort in
set_option maxRecDepth 100000 in
set_option maxHeartbeats 8000000 in
theorem walk (w : World) (A0 : Option Addr) (c0 n0 : Nat) (hA0 : BytesIn w A0 n0) (hz0 : A0 = none → c0 = 0) (hm0 : n0 ≤ maxLen) :
    Calls Tryz.prog 3 #[.slice A0 n0 c0] w fun e w' => e = .returned (.bool true) ∧ Below w.heap.size w w' := by
  obtain ⟨i0, hi0, hzz, hz1, hz2⟩ := info_parts DrawN.int_info
  have HS := Lib.hid hz2
  clear hz2
  unfold maxLen at hm0
  by_cases hn : n0 ≤ 4096
  · have HA0 := Lib.hid hA0
    have HZ0 := Lib.hid hz0
    clear hA0 hz0
    have hdr := drawSets_any A0 n0 c0 w HA0.out (by omega)
    go_enter Tryz.func3, Tryz.ntmps3
    go_wp2_with (first | (go_at_call 6; refine (big_no _ _ _ _ hn).mono ?_; rintro e w' ⟨rfl, rfl⟩) | fail)
    refine hdr.mono ?_
    rintro e w1 ⟨n, cs, cs2, M, M2, A1, B1, A2, B2, c1, d1, c2, d2, rfl, hn3, hl1, hl2, hv1, hv2, ho1, ho2, hb1, hsm1, hsm2⟩
    have hn4 : n ≤ 4 := by omega
    clear hdr
    have hM1 := SetX.valid_fit hn4 hv1
    have hM2 := SetX.valid_fit hn4 hv2
    have F1 : Hid (FitO cs M) := Lib.hid ⟨by omega, fitR_of (by omega)⟩
    have F2 : Hid (FitO cs2 M2) := Lib.hid ⟨by omega, fitR_of (by omega)⟩
    have V1 := Lib.hid hv1
    have V2 := Lib.hid hv2
    have SM1 := Lib.hid hsm1
    have hb2 : Below w1.heap.size w1 ((w1.alloc (.cells #[.int .i64 (n : Int), .slice A1 cs.length c1, .slice B1 M.length d1] 27)).alloc (.cells #[.int .i64 (n : Int), .slice A2 cs2.length c2, .slice B2 M2.length d2] 27)) := ((Below.refl _ _).alloc (Nat.le_refl _) _).alloc (by simp) _
    have K1 : Hid (((w1.alloc (.cells #[.int .i64 (n : Int), .slice A1 cs.length c1, .slice B1 M.length d1] 27)).alloc (.cells #[.int .i64 (n : Int), .slice A2 cs2.length c2, .slice B2 M2.length d2] 27)).heap[w1.heap.size]? = some (.cells #[.int .i64 (n : Int), .slice A1 cs.length c1, .slice B1 M.length d1] 27 (0, 0))) := Lib.hid ((Below.heap_alloc _ _ _ (by simp)).trans (heap_alloc_new w1 _))
    have K2 : Hid (((w1.alloc (.cells #[.int .i64 (n : Int), .slice A1 cs.length c1, .slice B1 M.length d1] 27)).alloc (.cells #[.int .i64 (n : Int), .slice A2 cs2.length c2, .slice B2 M2.length d2] 27)).heap[w1.heap.size + 1]? = some (.cells #[.int .i64 (n : Int), .slice A2 cs2.length c2, .slice B2 M2.length d2] 27 (0, 0))) := Lib.hid (by have h := heap_alloc_new (w1.alloc (.cells #[.int .i64 (n : Int), .slice A1 cs.length c1, .slice B1 M.length d1] 27)) (.cells #[.int .i64 (n : Int), .slice A2 cs2.length c2, .slice B2 M2.length d2] 27); rw [World.size_alloc] at h; exact h)
    have O1 := Lib.hid (ho1.below hb2)
    have O2 := Lib.hid (ho2.below hb2)
    have HBB := Lib.hid (hb1.trans (hb2.mono hb1.size))
    clear hv1 hv2 hsm1 hsm2 ho1 ho2 hb1 hb2 hM1 hM2
    have hpd := drawPermutations_any A0 n0 c0 ((w1.alloc (.cells #[.int .i64 (n : Int), .slice A1 cs.length c1, .slice B1 M.length d1] 27)).alloc (.cells #[.int .i64 (n : Int), .slice A2 cs2.length c2, .slice B2 M2.length d2] 27)) (DrawN.bytes_more HA0.out HBB.out) (by omega)
    go_wp2_with fail
    refine hpd.mono ?_
    rintro e w2 ⟨p, q, r, Ap, Aq, Ar, cp, cq, cr, rfl, ⟨hP, hlp⟩, ⟨hQ, hlq⟩, _, fp, fq, _, hbp⟩
    have HP := Lib.hid hP
    have HQ := Lib.hid hQ
    have Pp := Lib.hid fp
    have Pq := Lib.hid fq
    clear hpd hP hQ fp fq
    have hmv := hbp
    replace K1 := Lib.hid ((hmv.block _ (OrbK.box_lt K1.out)).trans K1.out)
    replace O1 := Lib.hid (O1.out.below hmv)
    replace HBB := Lib.hid (HBB.out.trans (hmv.mono HBB.out.size))
    clear hmv
    clear hbp
    have htu := drawTuple_any A0 n0 c0 n (by omega) w2 (DrawN.bytes_more HA0.out HBB.out) HZ0.out (by omega)
    obtain ⟨b1_0, b1_1, b1_2⟩ := OrbK.row3 K1.out
    go_wp2_with fail
    refine htu.mono ?_
    rintro e w3 ⟨t, At, ct, rfl, htl, hts, htA, htz, hbt⟩
    have HTL := Lib.hid htl
    have HTB := Lib.hid (DrawN.small_tup (by omega) hts)
    have HTZ := Lib.hid htz
    have htl4 : t.length ≤ 4 := by omega
    have Rt := Lib.hid htA
    clear b1_0 b1_1 b1_2
    clear htl hts htA htz htu
    have hpm := hbt
    replace Pp := Lib.hid (Pp.out.below hpm)
    replace Pq := Lib.hid (Pq.out.below hpm)
    have hmv := hpm
    replace K1 := Lib.hid ((hmv.block _ (OrbK.box_lt K1.out)).trans K1.out)
    replace O1 := Lib.hid (O1.out.below hmv)
    replace HBB := Lib.hid (HBB.out.trans (hmv.mono HBB.out.size))
    clear hmv
    clear hpm
    clear hbt
    have hlr := thenL_len q p
    have Hpp := Lib.hid (permB_of HP.out (by omega))
    have Hpq := Lib.hid (permB_of HQ.out (by omega))
    have HR := Lib.hid (isP_thenL HQ.out HP.out)
    have Hpr := Lib.hid (permB_of HR.out (by omega))
    have HCB := Lib.hid (compB_yes Hpq.out Hpp.out (by omega))
    have HCL := Lib.hid (compL_yes HCB.out)
    have VX := SetY.valid_ac (n := n) (m := M) HP.out V1.out.1
    have VY := SetY.valid_ac (n := n) (m := acM p n cs M) HQ.out VX.1
    have EX := Lib.hid (SetY.has_ac hn4 HP.out V1.out HTL.out HTB.out)
    have EY := Lib.hid (SetY.ac_two hn4 HP.out HQ.out V1.out)
    have EC := Lib.hid (SetY.acC_two p q cs)
    have hok1 : acOk p n cs M = true := by unfold acOk; rw [Hpp.out, SetX.valid_orb hn4 V1.out]; rfl
    have hok2 : acOk q n (acC p cs) (acM p n cs M) = true := by unfold acOk; rw [Hpq.out, SetX.valid_orb hn4 VX]; rfl
    have hok3 : acOk (thenL q p) n cs M = true := by unfold acOk; rw [Hpr.out, SetX.valid_orb hn4 V1.out]; rfl
    have F5 : Hid (FitO (acC p cs) (acM p n cs M)) := Lib.hid (by have h1 := SetX.valid_fit hn4 VX; have h2 := const_len VX.1; exact ⟨by omega, fitR_of (by omega)⟩)
    have F6 : Hid (FitO (acC q (acC p cs)) (acM q n (acC p cs) (acM p n cs M))) := Lib.hid (by have h1 := SetX.valid_fit hn4 VY; have h2 := const_len VY.1; exact ⟨by omega, fitR_of (by omega)⟩)
    have HA1 := Lib.hid (fun (W : World) (x : Value) (q1 : PairsAt W Ap p) (q2 : OrbIx W x n cs M) => (by have h1 := actOnSet_impl p (by omega) n cs M F1.out x Ap cp W q1 q2; rw [hok1] at h1; unfold acR at h1; rw [Int.toNat_natCast] at h1; exact h1 : Calls Tryz.prog 10 #[.slice Ap p.length cp, x] W (OrbBOut n (acC p cs) (acM p n cs M) true W)))
    have HA2 := Lib.hid (fun (W : World) (x : Value) (q1 : PairsAt W Aq q) (q2 : OrbIx W x n (acC p cs) (acM p n cs M)) => (by have h1 := actOnSet_impl q (by omega) n (acC p cs) (acM p n cs M) F5.out x Aq cq W q1 q2; rw [hok2] at h1; unfold acR at h1; rw [Int.toNat_natCast] at h1; exact h1 : Calls Tryz.prog 10 #[.slice Aq q.length cq, x] W (OrbBOut n (acC q (acC p cs)) (acM q n (acC p cs) (acM p n cs M)) true W)))
    have HA3 := Lib.hid (fun (W : World) (x : Value) (A9 : Option Addr) (c9 : Nat) (q1 : PairsAt W A9 (thenL q p)) (q2 : OrbIx W x n cs M) => (by have h1 := actOnSet_impl (thenL q p) (by omega) n cs M F1.out x A9 c9 W q1 q2; rw [hok3] at h1; unfold acR at h1; rw [Int.toNat_natCast] at h1; rw [← EY.out, ← EC.out] at h1; exact h1 : Calls Tryz.prog 10 #[.slice A9 (thenL q p).length c9, x] W (OrbBOut n (acC q (acC p cs)) (acM q n (acC p cs) (acM p n cs M)) true W)))
    have SAM := Lib.hid (SetY.same_self hn4 VY)
    have OBX := Lib.hid (SetX.valid_orb hn4 VX)
    have HTI : Hid (∀ a ∈ t, atomB a = true) := Lib.hid (fun a ha => by have := SetY.tup_atom HTB.out a ha; unfold atomB; simpa using this)
    generalize acC q (acC p cs) = C6 at *
    generalize acM q n (acC p cs) (acM p n cs M) = M6 at *
    generalize acC p cs = C5 at *
    generalize acM p n cs M = M5 at *
    generalize hx : hasTB n cs M t = xa at EX
    have EA := Lib.hid hx
    clear hx hok1 hok2 hok3 VX VY
    have hco := HA1.out w3 _ Pp.out O1.out
    obtain ⟨b1_0, b1_1, b1_2⟩ := OrbK.row3 K1.out
    go_wp2_with fail
    refine hco.mono ?_
    rintro e w5 ⟨A5, c5, B5, d5, S5, rfl, hLn, hSn, hbn⟩
    clear b1_0 b1_1 b1_2
    have hoi := orbOut_ix hLn
    clear hco hLn hSn
    have hpm := hbn
    replace Pp := Lib.hid (Pp.out.below hpm)
    replace Pq := Lib.hid (Pq.out.below hpm)
    have hmv := hpm
    replace K1 := Lib.hid ((hmv.block _ (OrbK.box_lt K1.out)).trans K1.out)
    replace O1 := Lib.hid (O1.out.below hmv)
    replace Rt := Lib.hid (Rt.out.below hmv)
    replace HBB := Lib.hid (HBB.out.trans (hmv.mono HBB.out.size))
    clear hmv
    clear hpm
    clear hbn
    have hnb : Below w5.heap.size w5 (w5.alloc (.cells #[.int .i64 (n : Int), .slice A5 C5.length c5, .slice B5 M5.length d5] 27)) := (Below.refl _ _).alloc (Nat.le_refl _) _
    have K5 := Lib.hid (heap_alloc_new w5 (.cells #[.int .i64 (n : Int), .slice A5 C5.length c5, .slice B5 M5.length d5] 27))
    have O5 := Lib.hid ((hoi : OrbIx w5 (.agg #[.int .i64 (n : Int), .slice A5 C5.length c5, .slice B5 M5.length d5]) (n : Int) C5 M5).below hnb)
    change Hid ((w5.alloc (.cells #[.int .i64 (n : Int), .slice A5 C5.length c5, .slice B5 M5.length d5] 27)).heap[w5.heap.size]? = some (.cells #[.int .i64 (n : Int), .slice A5 C5.length c5, .slice B5 M5.length d5] 27 (0, 0))) at K5
    have hpm := hnb
    replace Pp := Lib.hid (Pp.out.below hpm)
    replace Pq := Lib.hid (Pq.out.below hpm)
    have hmv := hpm
    replace K1 := Lib.hid ((hmv.block _ (OrbK.box_lt K1.out)).trans K1.out)
    replace O1 := Lib.hid (O1.out.below hmv)
    replace Rt := Lib.hid (Rt.out.below hmv)
    replace HBB := Lib.hid (HBB.out.trans (hmv.mono HBB.out.size))
    clear hmv
    clear hpm
    clear hnb
    clear hoi
    have hco := HA2.out (w5.alloc (.cells #[.int .i64 (n : Int), .slice A5 C5.length c5, .slice B5 M5.length d5] 27)) _ Pq.out O5.out
    obtain ⟨b5_0, b5_1, b5_2⟩ := OrbK.row3 K5.out
    go_wp2_with fail
    refine hco.mono ?_
    rintro e w6 ⟨A6, c6, B6, d6, S6, rfl, hLn, hSn, hbn⟩
    clear b5_0 b5_1 b5_2
    have hoi := orbOut_ix hLn
    clear hco hLn hSn
    have hpm := hbn
    replace Pp := Lib.hid (Pp.out.below hpm)
    replace Pq := Lib.hid (Pq.out.below hpm)
    have hmv := hpm
    replace K1 := Lib.hid ((hmv.block _ (OrbK.box_lt K1.out)).trans K1.out)
    replace O1 := Lib.hid (O1.out.below hmv)
    replace K5 := Lib.hid ((hmv.block _ (OrbK.box_lt K5.out)).trans K5.out)
    replace O5 := Lib.hid (O5.out.below hmv)
    replace Rt := Lib.hid (Rt.out.below hmv)
    replace HBB := Lib.hid (HBB.out.trans (hmv.mono HBB.out.size))
    clear hmv
    clear hpm
    clear hbn
    have hnb : Below w6.heap.size w6 (w6.alloc (.cells #[.int .i64 (n : Int), .slice A6 C6.length c6, .slice B6 M6.length d6] 27)) := (Below.refl _ _).alloc (Nat.le_refl _) _
    have K6 := Lib.hid (heap_alloc_new w6 (.cells #[.int .i64 (n : Int), .slice A6 C6.length c6, .slice B6 M6.length d6] 27))
    have O6 := Lib.hid ((hoi : OrbIx w6 (.agg #[.int .i64 (n : Int), .slice A6 C6.length c6, .slice B6 M6.length d6]) (n : Int) C6 M6).below hnb)
    change Hid ((w6.alloc (.cells #[.int .i64 (n : Int), .slice A6 C6.length c6, .slice B6 M6.length d6] 27)).heap[w6.heap.size]? = some (.cells #[.int .i64 (n : Int), .slice A6 C6.length c6, .slice B6 M6.length d6] 27 (0, 0))) at K6
    have hpm := hnb
    replace Pp := Lib.hid (Pp.out.below hpm)
    replace Pq := Lib.hid (Pq.out.below hpm)
    have hmv := hpm
    replace K1 := Lib.hid ((hmv.block _ (OrbK.box_lt K1.out)).trans K1.out)
    replace O1 := Lib.hid (O1.out.below hmv)
    replace K5 := Lib.hid ((hmv.block _ (OrbK.box_lt K5.out)).trans K5.out)
    replace O5 := Lib.hid (O5.out.below hmv)
    replace Rt := Lib.hid (Rt.out.below hmv)
    replace HBB := Lib.hid (HBB.out.trans (hmv.mono HBB.out.size))
    clear hmv
    clear hpm
    clear hnb
    clear hoi
    have hco := compose_impl Aq Ap cq cp q p (w6.alloc (.cells #[.int .i64 (n : Int), .slice A6 C6.length c6, .slice B6 M6.length d6] 27)) Pq.out Pp.out (by omega) (by omega)
    rw [HCL.out, HCB.out] at hco
    go_wp2_with fail
    refine hco.mono ?_
    rintro e w7 ⟨vx, rfl, hox, hbc⟩
    obtain ⟨Ac, cc, rfl, hpc⟩ := own_pairsAt hox
    have Pc := Lib.hid hpc
    clear hco hox hpc
    have hpm := hbc
    replace Pp := Lib.hid (Pp.out.below hpm)
    replace Pq := Lib.hid (Pq.out.below hpm)
    have hmv := hpm
    replace K1 := Lib.hid ((hmv.block _ (OrbK.box_lt K1.out)).trans K1.out)
    replace O1 := Lib.hid (O1.out.below hmv)
    replace K5 := Lib.hid ((hmv.block _ (OrbK.box_lt K5.out)).trans K5.out)
    replace O5 := Lib.hid (O5.out.below hmv)
    replace K6 := Lib.hid ((hmv.block _ (OrbK.box_lt K6.out)).trans K6.out)
    replace O6 := Lib.hid (O6.out.below hmv)
    replace Rt := Lib.hid (Rt.out.below hmv)
    replace HBB := Lib.hid (HBB.out.trans (hmv.mono HBB.out.size))
    clear hmv
    clear hpm
    clear hbc
    have hco := HA3.out w7 _ Ac cc Pc.out O1.out
    obtain ⟨b1_0, b1_1, b1_2⟩ := OrbK.row3 K1.out
    go_wp2_with fail
    refine hco.mono ?_
    rintro e w8 ⟨A7, c7, B7, d7, S7, rfl, hLn, hSn, hbn⟩
    clear b1_0 b1_1 b1_2
    have hoi := orbOut_ix hLn
    clear hco hLn hSn
    have hpm := hbn
    replace Pp := Lib.hid (Pp.out.below hpm)
    replace Pq := Lib.hid (Pq.out.below hpm)
    replace Pc := Lib.hid (Pc.out.below hpm)
    have hmv := hpm
    replace K1 := Lib.hid ((hmv.block _ (OrbK.box_lt K1.out)).trans K1.out)
    replace O1 := Lib.hid (O1.out.below hmv)
    replace K5 := Lib.hid ((hmv.block _ (OrbK.box_lt K5.out)).trans K5.out)
    replace O5 := Lib.hid (O5.out.below hmv)
    replace K6 := Lib.hid ((hmv.block _ (OrbK.box_lt K6.out)).trans K6.out)
    replace O6 := Lib.hid (O6.out.below hmv)
    replace Rt := Lib.hid (Rt.out.below hmv)
    replace HBB := Lib.hid (HBB.out.trans (hmv.mono HBB.out.size))
    clear hmv
    clear hpm
    clear hbn
    have hnb : Below w8.heap.size w8 (w8.alloc (.cells #[.int .i64 (n : Int), .slice A7 C6.length c7, .slice B7 M6.length d7] 27)) := (Below.refl _ _).alloc (Nat.le_refl _) _
    have K7 := Lib.hid (heap_alloc_new w8 (.cells #[.int .i64 (n : Int), .slice A7 C6.length c7, .slice B7 M6.length d7] 27))
    have O7 := Lib.hid ((hoi : OrbIx w8 (.agg #[.int .i64 (n : Int), .slice A7 C6.length c7, .slice B7 M6.length d7]) (n : Int) C6 M6).below hnb)
    change Hid ((w8.alloc (.cells #[.int .i64 (n : Int), .slice A7 C6.length c7, .slice B7 M6.length d7] 27)).heap[w8.heap.size]? = some (.cells #[.int .i64 (n : Int), .slice A7 C6.length c7, .slice B7 M6.length d7] 27 (0, 0))) at K7
    have hpm := hnb
    replace Pp := Lib.hid (Pp.out.below hpm)
    replace Pq := Lib.hid (Pq.out.below hpm)
    replace Pc := Lib.hid (Pc.out.below hpm)
    have hmv := hpm
    replace K1 := Lib.hid ((hmv.block _ (OrbK.box_lt K1.out)).trans K1.out)
    replace O1 := Lib.hid (O1.out.below hmv)
    replace K5 := Lib.hid ((hmv.block _ (OrbK.box_lt K5.out)).trans K5.out)
    replace O5 := Lib.hid (O5.out.below hmv)
    replace K6 := Lib.hid ((hmv.block _ (OrbK.box_lt K6.out)).trans K6.out)
    replace O6 := Lib.hid (O6.out.below hmv)
    replace Rt := Lib.hid (Rt.out.below hmv)
    replace HBB := Lib.hid (HBB.out.trans (hmv.mono HBB.out.size))
    clear hmv
    clear hpm
    clear hnb
    clear hoi
    have HSC : Hid (∀ W : World, Below (w8.alloc (.cells #[.int .i64 (n : Int), .slice A7 C6.length c7, .slice B7 M6.length d7] 27)).heap.size (w8.alloc (.cells #[.int .i64 (n : Int), .slice A7 C6.length c7, .slice B7 M6.length d7] 27)) W → (W.cell? ⟨w1.heap.size, 0, none⟩ = some (.int .i64 (n : Int)) ∧ W.cell? ⟨w1.heap.size, 1, none⟩ = some (.slice A1 cs.length c1) ∧ W.cell? ⟨w1.heap.size, 2, none⟩ = some (.slice B1 M.length d1)) ∧ (W.cell? ⟨w5.heap.size, 0, none⟩ = some (.int .i64 (n : Int)) ∧ W.cell? ⟨w5.heap.size, 1, none⟩ = some (.slice A5 C5.length c5) ∧ W.cell? ⟨w5.heap.size, 2, none⟩ = some (.slice B5 M5.length d5)) ∧ (W.cell? ⟨w6.heap.size, 0, none⟩ = some (.int .i64 (n : Int)) ∧ W.cell? ⟨w6.heap.size, 1, none⟩ = some (.slice A6 C6.length c6) ∧ W.cell? ⟨w6.heap.size, 2, none⟩ = some (.slice B6 M6.length d6)) ∧ (W.cell? ⟨w8.heap.size, 0, none⟩ = some (.int .i64 (n : Int)) ∧ W.cell? ⟨w8.heap.size, 1, none⟩ = some (.slice A7 C6.length c7) ∧ W.cell? ⟨w8.heap.size, 2, none⟩ = some (.slice B7 M6.length d7))) := Lib.hid (fun W k => by
      obtain ⟨b1_0, b1_1, b1_2⟩ := OrbK.row3 K1.out
      have l1 := OrbK.box_lt K1.out
      obtain ⟨b5_0, b5_1, b5_2⟩ := OrbK.row3 K5.out
      have l5 := OrbK.box_lt K5.out
      obtain ⟨b6_0, b6_1, b6_2⟩ := OrbK.row3 K6.out
      have l6 := OrbK.box_lt K6.out
      obtain ⟨b7_0, b7_1, b7_2⟩ := OrbK.row3 K7.out
      have l7 := OrbK.box_lt K7.out
      exact ⟨⟨(k.cell (p := ⟨w1.heap.size, 0, none⟩) l1).trans b1_0, (k.cell (p := ⟨w1.heap.size, 1, none⟩) l1).trans b1_1, (k.cell (p := ⟨w1.heap.size, 2, none⟩) l1).trans b1_2⟩, ⟨(k.cell (p := ⟨w5.heap.size, 0, none⟩) l5).trans b5_0, (k.cell (p := ⟨w5.heap.size, 1, none⟩) l5).trans b5_1, (k.cell (p := ⟨w5.heap.size, 2, none⟩) l5).trans b5_2⟩, ⟨(k.cell (p := ⟨w6.heap.size, 0, none⟩) l6).trans b6_0, (k.cell (p := ⟨w6.heap.size, 1, none⟩) l6).trans b6_1, (k.cell (p := ⟨w6.heap.size, 2, none⟩) l6).trans b6_2⟩, ⟨(k.cell (p := ⟨w8.heap.size, 0, none⟩) l7).trans b7_0, (k.cell (p := ⟨w8.heap.size, 1, none⟩) l7).trans b7_1, (k.cell (p := ⟨w8.heap.size, 2, none⟩) l7).trans b7_2⟩⟩)
    have hxe : (xa == xa) = true := by simp
    obtain ⟨at0, rfl⟩ := HTZ.out
    have hdw : Below (w8.alloc (.cells #[.int .i64 (n : Int), .slice A7 C6.length c7, .slice B7 M6.length d7] 27)).heap.size (w8.alloc (.cells #[.int .i64 (n : Int), .slice A7 C6.length c7, .slice B7 M6.length d7] 27)) (w8.alloc (.cells #[.int .i64 (n : Int), .slice A7 C6.length c7, .slice B7 M6.length d7] 27)).drew := ⟨rfl, rfl, rfl, Nat.le_refl _, fun _ _ => rfl⟩
    obtain ⟨⟨f1_0, f1_1, f1_2⟩, ⟨f5_0, f5_1, f5_2⟩, ⟨f6_0, f6_1, f6_2⟩, ⟨f7_0, f7_1, f7_2⟩⟩ := HSC.out (w8.alloc (.cells #[.int .i64 (n : Int), .slice A7 C6.length c7, .slice B7 M6.length d7] 27)).drew hdw
    have hq0 := (by have h1 := isOrbitSet_impl n C5 M5 F5.out _ (w8.alloc (.cells #[.int .i64 (n : Int), .slice A7 C6.length c7, .slice B7 M6.length d7] 27)).drew (O5.out.below hdw); rw [OBX.out] at h1; exact h1 : Calls Tryz.prog 12 #[(.agg #[.int .i64 (n : Int), .slice A5 C5.length c5, .slice B5 M5.length d5])] (w8.alloc (.cells #[.int .i64 (n : Int), .slice A7 C6.length c7, .slice B7 M6.length d7] 27)).drew (BoolP true (w8.alloc (.cells #[.int .i64 (n : Int), .slice A7 C6.length c7, .slice B7 M6.length d7] 27)).drew))
    go_wp2
    go_region_held3 (fun w' => (w'.cell? ⟨w1.heap.size, 0, none⟩ = some (.int .i64 (n : Int)) ∧ w'.cell? ⟨w1.heap.size, 1, none⟩ = some (.slice A1 cs.length c1) ∧ w'.cell? ⟨w1.heap.size, 2, none⟩ = some (.slice B1 M.length d1)) ∧ (w'.cell? ⟨w5.heap.size, 0, none⟩ = some (.int .i64 (n : Int)) ∧ w'.cell? ⟨w5.heap.size, 1, none⟩ = some (.slice A5 C5.length c5) ∧ w'.cell? ⟨w5.heap.size, 2, none⟩ = some (.slice B5 M5.length d5)) ∧ (w'.cell? ⟨w6.heap.size, 0, none⟩ = some (.int .i64 (n : Int)) ∧ w'.cell? ⟨w6.heap.size, 1, none⟩ = some (.slice A6 C6.length c6) ∧ w'.cell? ⟨w6.heap.size, 2, none⟩ = some (.slice B6 M6.length d6)) ∧ (w'.cell? ⟨w8.heap.size, 0, none⟩ = some (.int .i64 (n : Int)) ∧ w'.cell? ⟨w8.heap.size, 1, none⟩ = some (.slice A7 C6.length c7) ∧ w'.cell? ⟨w8.heap.size, 2, none⟩ = some (.slice B7 M6.length d7)))
      (with_reducible exact ⟨⟨by assumption, by assumption, by assumption⟩, ⟨by assumption, by assumption, by assumption⟩, ⟨by assumption, by assumption, by assumption⟩, ⟨by assumption, by assumption, by assumption⟩⟩)
      (first
      | (go_at_call 12; (with_reducible refine hq0.mono ?_); rintro e wz0 ⟨rfl, hbq0⟩; have fq0 := hdw.trans (hbq0.mono hdw.size); obtain ⟨⟨g0_1_0, g0_1_1, g0_1_2⟩, ⟨g0_5_0, g0_5_1, g0_5_2⟩, ⟨g0_6_0, g0_6_1, g0_6_2⟩, ⟨g0_7_0, g0_7_1, g0_7_2⟩⟩ := HSC.out wz0 fq0; have hq1 := lawAct_any Ap (some at0) cp ct p t wz0 (Pp.out.below fq0) (Rt.out.below fq0) (by omega) (by omega) Hpp.out HTI.out)
      | (go_at_call 14; (with_reducible refine hq1.mono ?_); rintro e wz1 ⟨v9, rfl, ho9, hbq1⟩; have fq1 := fq0.trans (hbq1.mono fq0.size); obtain ⟨A9, c9, rfl, hA9⟩ := own_intsAt ho9; obtain ⟨⟨g1_1_0, g1_1_1, g1_1_2⟩, ⟨g1_5_0, g1_5_1, g1_5_2⟩, ⟨g1_6_0, g1_6_1, g1_6_2⟩, ⟨g1_7_0, g1_7_1, g1_7_2⟩⟩ := HSC.out wz1 fq1; have hq2 := (by have h1 := hasTuple_impl n C5 M5 (imsL p t) F5.out A9 c9 (.agg #[.int .i64 (n : Int), .slice A5 C5.length c5, .slice B5 M5.length d5]) wz1 (O5.out.below fq1) hA9 (by rw [imsL_len]; omega); rw [EX.out] at h1; exact h1 : Calls Tryz.prog 13 #[(.agg #[.int .i64 (n : Int), .slice A5 C5.length c5, .slice B5 M5.length d5]), .slice A9 (imsL p t).length c9] wz1 (BoolP xa wz1)))
      | (go_at_call 13; (with_reducible refine hq2.mono ?_); rintro e wz2 ⟨rfl, hbq2⟩; have fq2 := fq1.trans (hbq2.mono fq1.size); obtain ⟨⟨g2_1_0, g2_1_1, g2_1_2⟩, ⟨g2_5_0, g2_5_1, g2_5_2⟩, ⟨g2_6_0, g2_6_1, g2_6_2⟩, ⟨g2_7_0, g2_7_1, g2_7_2⟩⟩ := HSC.out wz2 fq2; have hq3 := (by have h1 := hasTuple_impl (n : Int) cs M t F1.out (some at0) ct (.agg #[.int .i64 (n : Int), .slice A1 cs.length c1, .slice B1 M.length d1]) wz2 (O1.out.below fq2) (Rt.out.below fq2) (by omega); rw [EA.out] at h1; exact h1 : Calls Tryz.prog 13 #[(.agg #[.int .i64 (n : Int), .slice A1 cs.length c1, .slice B1 M.length d1]), .slice (some at0) t.length ct] wz2 (BoolP xa wz2)))
      | (go_at_call 13; (with_reducible refine hq3.mono ?_); rintro e wz3 ⟨rfl, hbq3⟩; have fq3 := fq2.trans (hbq3.mono fq2.size); obtain ⟨⟨g3_1_0, g3_1_1, g3_1_2⟩, ⟨g3_5_0, g3_5_1, g3_5_2⟩, ⟨g3_6_0, g3_6_1, g3_6_2⟩, ⟨g3_7_0, g3_7_1, g3_7_2⟩⟩ := HSC.out wz3 fq3; have hq4 := (by have h1 := sameSet_impl n C6 M6 F6.out _ n C6 M6 F6.out _ wz3 (O6.out.below fq3) (O7.out.below fq3); rw [SAM.out] at h1; exact h1 : Calls Tryz.prog 15 #[(.agg #[.int .i64 (n : Int), .slice A6 C6.length c6, .slice B6 M6.length d6]), (.agg #[.int .i64 (n : Int), .slice A7 C6.length c7, .slice B7 M6.length d7])] wz3 (BoolP true wz3)))
      | (go_at_call 15; (with_reducible refine hq4.mono ?_); rintro e wz4 ⟨rfl, hbq4⟩; have fq4 := fq3.trans (hbq4.mono fq3.size); obtain ⟨⟨g4_1_0, g4_1_1, g4_1_2⟩, ⟨g4_5_0, g4_5_1, g4_5_2⟩, ⟨g4_6_0, g4_6_1, g4_6_2⟩, ⟨g4_7_0, g4_7_1, g4_7_2⟩⟩ := HSC.out wz4 fq4)
      | fail)
    have hbz := HBB.out.trans (fq4.mono HBB.out.size)
    go_wp2
    go_ret
    exact ⟨rfl, hbz⟩
  · have hbig : 4096 < n0 := by omega
    clear hn hA0
    go_enter Tryz.func3, Tryz.ntmps3
    go_wp2_with (go_at_call 6; refine (big_yes _ _ _ _ hbig (by omega)).mono ?_; rintro e w' ⟨rfl, rfl⟩)
    go_ret
    exact ⟨rfl, Below.refl _ _⟩

set_option maxRecDepth 100000 in
theorem lifted (os : Os) (started : os.Started) (H : Type) (enc : TypeId × Value → H) :
    ReturnsInHanded {} Tryz.checked os 3 .any (Rows.fnSetActedSpec.pre6 enc Tryz.prog Tryz.f3 Rows.fnSetActedRow.domain false) (Rows.fnSetActedSpec.post enc Tryz.prog Tryz.f3 false true false false) := by
  refine returnsInHanded_of_change (C := Tryz.checked) own started (by kernel_rfl) Tryz.func3
    (ChangeSpec.witness6 (enc := enc) (C := Tryz.checked) false ⟨#[], #[.slice none 0 0], []⟩ 8 (by kernel_rfl) (by kernel_rfl) (by kernel_rfl) (by kernel_rfl)) ?_
  intro W base args ds gs before hval0 hW hcnd _
  have hval : ∀ (j : Nat) t v, Tryz.f3.params[j]? = some t → args[j]? = some v → Value.okWide Tryz.prog W .any base t v := hval0
  have hW' := hW
  obtain ⟨p, q, hA0, hV, rfl, hfz, hnd⟩ := hW
  have hA : DataW.TrodAll enc Tryz.prog W 0 (fun _ => true) true Tryz.f3.params.toList args.toList ds p := hA0
  rw [Tryz.params3] at hA hval
  obtain ⟨v0, vs0, d0, ds0, p0, q0, hargs, rfl, rfl, h0, r0⟩ := trodAll_cons hA
  obtain ⟨rfl, rfl, rfl⟩ := trodAll_nil r0
  obtain rfl : args = #[v0] := by cases args; simp_all
  obtain ⟨rfl, rfl⟩ := trodVars_none hV
  have k0 := h0
  have lt0 : ∀ x ∈ p0, x.block < W.heap.size := by obtain ⟨m, hm⟩ := k0; exact DataW.trod_lt m _ _ _ hm
  obtain ⟨A0, n0, c0, rfl⟩ := okWide_slice Tryz.underlying22 (hval 0 22 v0 rfl rfl)
  obtain ⟨w0, m0⟩ := open_bytesL h0
  clear hA0 hval0
  refine (walk W A0 c0 n0 w0 (open_bytesZ h0) m0).mono fun e W' ⟨he, bel⟩ => ?_
  subst he
  exact ⟨_, rfl, _, _, _, [], _, [], hW', trodAll_mk1 (shut_bool Tryz.underlying4 _), (trodAll_cons_mk (Below.trod laidOut (by kernel_rfl) (of_decide_eq_true (by kernel_rfl)) k0 bel lt0) trodAll_mk0), rfl, bel.frame _, fun h => by cases h⟩

theorem over : Rows.fnSetActedRow.holds Tryz.pinned (OpenSpec.ofChange Rows.fnSetActedSpec) :=
  OpenClaim.holds_of_wide 3 Tryz.f3 rfl rfl rfl rfl rfl rfl rfl ⟨rfl, rfl, rfl, rfl, rfl⟩ rfl rfl rfl rfl rfl (by kernel_rfl) Tryz.func3 (by kernel_rfl)
    (of_decide_eq_true (by kernel_rfl)) (by unfold Func.isWrapper; first | (rw [if_pos (by decide +kernel)]; kernel_rfl) | (rw [if_neg (by decide +kernel)]; exact ⟨rfl, rfl⟩))
    (fun os started H enc _ => lifted os started H enc)

theorem proved : Rows.FnSetActedSaid := over
#print axioms proved
end Go.Proofs.YtnamlgacjhnpnaaGreat.fnSetActed
