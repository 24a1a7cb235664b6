/-
  The law FnExtended returns true for every code of bytes: a drawn set that is told by more constants has the same tuples and the same count; the program refuses exactly where the model does. No condition.
-/
import Derived.Test.YtnamlgacjhnpnaaKExtended6
import Derived.Test.YtnamlgacjhnpnaaKExtended28
import Derived.Test.YtnamlgacjhnpnaaKExtended30
import Derived.Test.YtnamlgacjhnpnaaKExtended29
import Derived.Test.YtnamlgacjhnpnaaKExtended15
import Derived.Test.YtnamlgacjhnpnaaKExtended4
import Derived.Test.YtnamlgacjhnpnaaKExtended31
namespace Go.Proofs.Ytnamlgacjhnpnaa.fnExtended
open Go.ChangeShapes Go.WideShapes Go.ChangeAt Go.RowKit
set_option linter.unusedVariables false

theorem big_no (A : Option Addr) (n c : Nat) (w : World) (h : n ≤ 4096) : Calls Try.prog 9 #[.slice A n c] w fun e w' => e = .returned (.bool false) ∧ w = w' := by
  have k0 : decide ((4096 : Int) < n) = false := by simp; omega
  go_enter Try.func9, Try.ntmps9
  go_wp2
  go_ret
  exact ⟨rfl, rfl⟩

theorem big_yes (A : Option Addr) (n c : Nat) (w : World) (h : 4096 < n) (h2 : n ≤ 9223372036854775807) : Calls Try.prog 9 #[.slice A n c] w fun e w' => e = .returned (.bool true) ∧ w = w' := by
  have k0 : decide ((4096 : Int) < n) = true := by simp; omega
  go_enter Try.func9, Try.ntmps9
  go_wp2
  go_ret
  exact ⟨rfl, rfl⟩

theorem open_bytesZ {H : Type} {enc : TypeId × Value → H} {W : World} {A : Option Addr} {n c : Nat} {d : DataW H} {p : List MemPlace}
    (h : DataW.Trod enc Try.prog W 0 (fun _ => true) true 22 (.slice A n c) d p) : A = none → c = 0 := by
  obtain ⟨fuel, hf⟩ := h
  rcases open_ints Try.underlying22 Try.underlying5 (by kernel_rfl) hf with ⟨hcs, _⟩ | ⟨x, len, cap, zs, hcs, _⟩
  · simp [Value.cells] at hcs
    exact fun _ => hcs.2.2
  · simp [Value.cells] at hcs
    rw [hcs.1]
    intro e
    cases e

open Go.Sort in
set_option maxRecDepth 100000 in
set_option maxHeartbeats 8000000 in
theorem walk (w : World) (A0 : Option Addr) (c0 n0 : Nat) (hA0 : BytesIn w A0 n0) (hz0 : A0 = none → c0 = 0) (hm0 : n0 ≤ maxLen) :
    Calls Try.prog 6 #[.slice A0 n0 c0] w fun e w' => e = .returned (.bool true) ∧ Below w.heap.size w w' := by
  obtain ⟨i0, hi0, hzz, hz1, hz2⟩ := info_parts DrawN.int_info
  have HS := Lib.hid hz2
  clear hz2
  unfold maxLen at hm0
  by_cases hn : n0 ≤ 4096
  · have HA0 := Lib.hid hA0
    have HZ0 := Lib.hid hz0
    clear hA0 hz0
    have hdr := drawExtendSet_any A0 n0 c0 w HA0.out (by omega)
    go_enter Try.func6, Try.ntmps6
    go_wp2_with (first | (go_at_call 9; refine (big_no _ _ _ _ hn).mono ?_; rintro e w' ⟨rfl, rfl⟩) | fail)
    refine hdr.mono ?_
    rintro e w1 ⟨z, l, m, ds, A1, c1, B1, d1, A3, c3, rfl, hl, hm, hdl, ho1, hc3, hb1⟩
    clear hdr
    have F1 : Hid (FitO l m) := Lib.hid ⟨by omega, fitR_of (by omega)⟩
    have O1x := ho1
    have HBB := Lib.hid hb1
    have Rd := Lib.hid hc3
    clear hb1 ho1 hc3
    have hnb : Below w1.heap.size w1 (w1.alloc (.cells #[.int .i64 z, .slice A1 l.length c1, .slice B1 m.length d1] 32)) := (Below.refl _ _).alloc (Nat.le_refl _) _
    have K1 := Lib.hid (heap_alloc_new w1 (.cells #[.int .i64 z, .slice A1 l.length c1, .slice B1 m.length d1] 32))
    have O1 := Lib.hid ((O1x : OrbIx w1 (.agg #[.int .i64 z, .slice A1 l.length c1, .slice B1 m.length d1]) z l m).below hnb)
    change Hid ((w1.alloc (.cells #[.int .i64 z, .slice A1 l.length c1, .slice B1 m.length d1] 32)).heap[w1.heap.size]? = some (.cells #[.int .i64 z, .slice A1 l.length c1, .slice B1 m.length d1] 32 (0, 0))) at K1
    have hmv := hnb
    replace Rd := Lib.hid (Rd.out.below hmv)
    replace HBB := Lib.hid (HBB.out.trans (hmv.mono HBB.out.size))
    clear hmv
    clear hnb
    clear O1x
    by_cases hok : extOk z l m ds = true
    · have hok2 := hok
      unfold extOk at hok2
      simp only [Bool.and_eq_true] at hok2
      obtain ⟨hor, hcb, ham⟩ := hok2
      have hz : 0 ≤ z ∧ z ≤ 4 := widB_iff.1 (orb_rows hor).1
      obtain ⟨n, rfl⟩ : ∃ n : Nat, z = (n : Int) := ⟨z.toNat, by omega⟩
      have hn4 : n ≤ 4 := by omega
      have has := among_iff.1 ham
      have VX := SetY.valid_ext (n := n) (l := l) (m := m) hcb
      have SAM := Lib.hid (SetR.same_ext hn4 hcb hor has)
      have OBX := Lib.hid (SetX.valid_orb hn4 VX)
      have hd3 := const_len hcb
      have HXT := Lib.hid (fun (t : List Int) (h1 : t.length = n) (h2 : tupB t = true) => SetY.has_ext hn4 hcb hor has h1 h2)
      have hk1 : cntOk n l m 9 = true := by unfold cntOk; rw [hor]; simp; omega
      have hk2 : cntOk n ds (extL n l m ds) 9 = true := by unfold cntOk; rw [OBX.out]; simp; omega
      have hce := SetO.count_ext_orb (k := 9) hn4 hcb hor has (by omega) (by omega)
      have HCE := Lib.hid (fun (W : World) (x : Value) (q1 : OrbIx W x n l m) (q2 : IntsAt W A3 ds) => (by have h1 := extendSet_impl n l m F1.out ds (by omega) x A3 c3 W q1 q2; rw [hok] at h1; unfold extM at h1; rw [Int.toNat_natCast] at h1; exact h1 : Calls Try.prog 23 #[x, .slice A3 ds.length c3] W (OrbBOut n ds (extL n l m ds) true W)))
      have F2 : Hid (FitO ds (extL n l m ds)) := Lib.hid (by have h1 := SetX.valid_fit hn4 VX; exact ⟨by omega, fitR_of (by omega)⟩)
      have HK1 := Lib.hid (fun (W : World) (x : Value) (q1 : OrbIx W x n l m) => (by have h1 := countTuples_impl n l m 9 F1.out x W q1; rw [cntR_yes hk1] at h1; exact h1 : Calls Try.prog 21 #[x, .int .i64 9] W (IntP (cntC 9 l.length m) W)))
      have HK2 := Lib.hid (fun (W : World) (x : Value) (q1 : OrbIx W x n ds (extL n l m ds)) => (by have h1 := countTuples_impl n ds (extL n l m ds) 9 F2.out x W q1; rw [cntR_yes hk2, show ((9 : Int)) = ((9 : Nat) : Int) from rfl, hce] at h1; exact h1 : Calls Try.prog 21 #[x, .int .i64 9] W (IntP (cntC 9 l.length m) W)))
      generalize extL n l m ds = X at *
      generalize cntC 9 l.length m = k9 at *
      clear hok hor hcb ham has VX hk1 hk2 hce hz
      replace Rd := Lib.hid Rd.out.1
      have hco := HCE.out (w1.alloc (.cells #[.int .i64 (n : Int), .slice A1 l.length c1, .slice B1 m.length d1] 32)) _ O1.out Rd.out
      obtain ⟨b1_0, b1_1, b1_2⟩ := OrbK.row3 K1.out
      go_wp2_with fail
      refine hco.mono ?_
      rintro e w2 ⟨A2, c2, B2, d2, S2, rfl, hLn, hSn, hbn⟩
      clear b1_0 b1_1 b1_2
      have hoi := orbOut_ix hLn
      clear hco hLn hSn
      have hmv := hbn
      replace K1 := Lib.hid ((hmv.block _ (OrbK.box_lt K1.out)).trans K1.out)
      replace O1 := Lib.hid (O1.out.below hmv)
      replace Rd := Lib.hid (Rd.out.below hmv)
      replace HBB := Lib.hid (HBB.out.trans (hmv.mono HBB.out.size))
      clear hmv
      clear hbn
      have hnb : Below w2.heap.size w2 (w2.alloc (.cells #[.int .i64 (n : Int), .slice A2 ds.length c2, .slice B2 X.length d2] 32)) := (Below.refl _ _).alloc (Nat.le_refl _) _
      have K2 := Lib.hid (heap_alloc_new w2 (.cells #[.int .i64 (n : Int), .slice A2 ds.length c2, .slice B2 X.length d2] 32))
      have O2 := Lib.hid ((hoi : OrbIx w2 (.agg #[.int .i64 (n : Int), .slice A2 ds.length c2, .slice B2 X.length d2]) (n : Int) ds X).below hnb)
      change Hid ((w2.alloc (.cells #[.int .i64 (n : Int), .slice A2 ds.length c2, .slice B2 X.length d2] 32)).heap[w2.heap.size]? = some (.cells #[.int .i64 (n : Int), .slice A2 ds.length c2, .slice B2 X.length d2] 32 (0, 0))) at K2
      have hmv := hnb
      replace K1 := Lib.hid ((hmv.block _ (OrbK.box_lt K1.out)).trans K1.out)
      replace O1 := Lib.hid (O1.out.below hmv)
      replace Rd := Lib.hid (Rd.out.below hmv)
      replace HBB := Lib.hid (HBB.out.trans (hmv.mono HBB.out.size))
      clear hmv
      clear hnb
      clear hoi
      have htu := drawTuple_any A0 n0 c0 n (by omega) (w2.alloc (.cells #[.int .i64 (n : Int), .slice A2 ds.length c2, .slice B2 X.length d2] 32)) (DrawN.bytes_more HA0.out HBB.out) HZ0.out (by omega)
      obtain ⟨b1_0, b1_1, b1_2⟩ := OrbK.row3 K1.out
      go_wp2_with fail
      refine htu.mono ?_
      rintro e w3 ⟨t, At, ct, rfl, htl, hts, htA, htz, hbt⟩
      have HTL := Lib.hid htl
      have HTB := Lib.hid (DrawN.small_tup (by omega) hts)
      have HTZ := Lib.hid htz
      have htl4 : t.length ≤ 4 := by omega
      have Rt := Lib.hid htA
      clear b1_0 b1_1 b1_2
      clear htl hts htA htz htu
      have hmv := hbt
      replace K1 := Lib.hid ((hmv.block _ (OrbK.box_lt K1.out)).trans K1.out)
      replace O1 := Lib.hid (O1.out.below hmv)
      replace K2 := Lib.hid ((hmv.block _ (OrbK.box_lt K2.out)).trans K2.out)
      replace O2 := Lib.hid (O2.out.below hmv)
      replace Rd := Lib.hid (Rd.out.below hmv)
      replace HBB := Lib.hid (HBB.out.trans (hmv.mono HBB.out.size))
      clear hmv
      clear hbt
      obtain ⟨at0, rfl⟩ := HTZ.out
      have EX := Lib.hid (HXT.out t HTL.out HTB.out)
      generalize hx : hasTB n l m t = xa at EX
      have EA := Lib.hid hx
      clear hx
      have hxe : (xa == xa) = true := by simp
      have hke : (k9 == k9) = true := by simp
      obtain ⟨b1_0, b1_1, b1_2⟩ := OrbK.row3 K1.out
      have q1_0 := fun d os => cell_regrown b1_0 d os
      have q1_1 := fun d os => cell_regrown b1_1 d os
      have q1_2 := fun d os => cell_regrown b1_2 d os
      clear b1_0 b1_1 b1_2
      obtain ⟨b2_0, b2_1, b2_2⟩ := OrbK.row3 K2.out
      have q2_0 := fun d os => cell_regrown b2_0 d os
      have q2_1 := fun d os => cell_regrown b2_1 d os
      have q2_2 := fun d os => cell_regrown b2_2 d os
      clear b2_0 b2_1 b2_2
      have hq1 := fun d os => (by have h1 := isOrbitSet_impl n ds X F2.out _ (grow (redrawn w3 d) os) (O2.out.below (below_regrown w3 d os)); rw [OBX.out] at h1; exact h1 : Calls Try.prog 25 #[(.agg #[.int .i64 (n : Int), .slice A2 ds.length c2, .slice B2 X.length d2])] (grow (redrawn w3 d) os) (BoolP true (grow (redrawn w3 d) os)))
      have hq2 := fun d os => (by have h1 := lawInts_any A2 A3 c2 c3 ds ds (grow (redrawn w3 d) os) (by obtain ⟨_, _, _, _, e, h2, _⟩ := O2.out.below (below_regrown w3 d os); simp only [Value.agg.injEq, Array.mk.injEq, List.cons.injEq, Value.slice.injEq, and_true, true_and] at e; obtain ⟨⟨rfl, rfl⟩, rfl, rfl⟩ := e; exact h2.1) (Rd.out.below (below_regrown w3 d os)) (by omega); simp only [decide_true] at h1; exact h1 : Calls Try.prog 18 #[.slice A2 ds.length c2, .slice A3 ds.length c3] (grow (redrawn w3 d) os) (BoolP true (grow (redrawn w3 d) os)))
      have hq3 := fun d os => (by have h1 := sameSet_impl n ds X F2.out _ n l m F1.out _ (grow (redrawn w3 d) os) (O2.out.below (below_regrown w3 d os)) (O1.out.below (below_regrown w3 d os)); rw [SAM.out] at h1; exact h1 : Calls Try.prog 26 #[(.agg #[.int .i64 (n : Int), .slice A2 ds.length c2, .slice B2 X.length d2]), (.agg #[.int .i64 (n : Int), .slice A1 l.length c1, .slice B1 m.length d1])] (grow (redrawn w3 d) os) (BoolP true (grow (redrawn w3 d) os)))
      have hq4 := fun d os => (by have h1 := hasTuple_impl (n : Int) ds X t F2.out (some at0) ct (.agg #[.int .i64 (n : Int), .slice A2 ds.length c2, .slice B2 X.length d2]) (grow (redrawn w3 d) os) (O2.out.below (below_regrown w3 d os)) (Rt.out.below (below_regrown w3 d os)) (by omega); rw [EX.out] at h1; exact h1 : Calls Try.prog 19 #[(.agg #[.int .i64 (n : Int), .slice A2 ds.length c2, .slice B2 X.length d2]), .slice (some at0) t.length ct] (grow (redrawn w3 d) os) (BoolP xa (grow (redrawn w3 d) os)))
      have hq5 := fun d os => (by have h1 := hasTuple_impl (n : Int) l m t F1.out (some at0) ct (.agg #[.int .i64 (n : Int), .slice A1 l.length c1, .slice B1 m.length d1]) (grow (redrawn w3 d) os) (O1.out.below (below_regrown w3 d os)) (Rt.out.below (below_regrown w3 d os)) (by omega); rw [EA.out] at h1; exact h1 : Calls Try.prog 19 #[(.agg #[.int .i64 (n : Int), .slice A1 l.length c1, .slice B1 m.length d1]), .slice (some at0) t.length ct] (grow (redrawn w3 d) os) (BoolP xa (grow (redrawn w3 d) os)))
      have hq6 := fun d os => HK2.out (grow (redrawn w3 d) os) _ (O2.out.below (below_regrown w3 d os))
      have hq7 := fun d os => HK1.out (grow (redrawn w3 d) os) _ (O1.out.below (below_regrown w3 d os))
      go_wp2
      refine wp_region_quiet_below (by kernel_rfl) (by kernel_rfl) ?_
      repeat (any_goals (first | go_big_quiet_step ((first | (go_at_call 25; first | (with_reducible exact Calls.regrown_of (hq1 _ _))) | (go_at_call 18; first | (with_reducible exact Calls.regrown_of (hq2 _ _))) | (go_at_call 26; first | (with_reducible exact Calls.regrown_of (hq3 _ _))) | (go_at_call 19; first | (with_reducible exact Calls.regrown_of (hq4 _ _)) | (with_reducible exact Calls.regrown_of (hq5 _ _))) | (go_at_call 21; first | (with_reducible exact Calls.regrown_of (hq6 _ _)) | (with_reducible exact Calls.regrown_of (hq7 _ _))))) | quiet_step ((first | (go_at_call 25; first | (with_reducible exact Calls.regrown_of (hq1 _ _))) | (go_at_call 18; first | (with_reducible exact Calls.regrown_of (hq2 _ _))) | (go_at_call 26; first | (with_reducible exact Calls.regrown_of (hq3 _ _))) | (go_at_call 19; first | (with_reducible exact Calls.regrown_of (hq4 _ _)) | (with_reducible exact Calls.regrown_of (hq5 _ _))) | (go_at_call 21; first | (with_reducible exact Calls.regrown_of (hq6 _ _)) | (with_reducible exact Calls.regrown_of (hq7 _ _)))))))
      refine wpQuiet_nil ?_
      intro _ hw'
      obtain ⟨⟨dq, osq⟩, hw''⟩ := hw'
      subst hw''
      have hqz := below_regrown w3 dq osq
      generalize grow (redrawn w3 dq) osq = wz at hqz ⊢
      clear q1_0 q1_1 q1_2 q2_0 q2_1 q2_2 hq1 hq2 hq3 hq4 hq5 hq6 hq7
      have hbz := HBB.out.trans (hqz.mono HBB.out.size)
      go_wp2
      go_ret
      exact ⟨rfl, hbz⟩
    · have hno : extOk z l m ds = false := by simpa using hok
      obtain ⟨e1, he1⟩ : ∃ l : List Int, l = [] := ⟨_, rfl⟩
      obtain ⟨e2, he2⟩ : ∃ l : List (List Int), l = [] := ⟨_, rfl⟩
      have HCE := Lib.hid (fun (W : World) (x : Value) (q1 : OrbIx W x z l m) (q2 : IntsAt W A3 ds) => (by have h1 := extendSet_impl z l m F1.out ds (by omega) x A3 c3 W q1 q2; rw [hno] at h1; rw [he1, he2]; exact h1 : Calls Try.prog 23 #[x, .slice A3 ds.length c3] W (OrbBOut 0 e1 e2 false W)))
      have HCS := Lib.hid (fun (W : World) (x : Value) (q1 : OrbIx W x z l m) (q2 : ConstAt W A3 c3 ds) => (by have h1 := extendSet_spec z l m F1.out ds (by omega) x A3 c3 W q1 q2; rw [hno] at h1; rw [he1, he2]; exact h1 : Calls Try.prog 24 #[x, .slice A3 ds.length c3] W (OrbBOut 0 e1 e2 false W)))
      have E1 := Lib.hid (show ((e1.length : Int) == 0) = true by rw [he1]; rfl)
      have E2 := Lib.hid (show ((e2.length : Int) == 0) = true by rw [he2]; rfl)
      clear hok hno he1 he2
      have hco := HCE.out (w1.alloc (.cells #[.int .i64 z, .slice A1 l.length c1, .slice B1 m.length d1] 32)) _ O1.out Rd.out.1
      obtain ⟨b1_0, b1_1, b1_2⟩ := OrbK.row3 K1.out
      go_wp2_with fail
      refine hco.mono ?_
      rintro e w2 ⟨A2, c2, B2, d2, S2, rfl, hLn, hSn, hbn⟩
      clear b1_0 b1_1 b1_2
      have hoi := orbOut_ix hLn
      clear hco hLn hSn
      have hmv := hbn
      replace K1 := Lib.hid ((hmv.block _ (OrbK.box_lt K1.out)).trans K1.out)
      replace O1 := Lib.hid (O1.out.below hmv)
      replace Rd := Lib.hid (Rd.out.below hmv)
      replace HBB := Lib.hid (HBB.out.trans (hmv.mono HBB.out.size))
      clear hmv
      clear hbn
      have hnb : Below w2.heap.size w2 (w2.alloc (.cells #[.int .i64 0, .slice A2 e1.length c2, .slice B2 e2.length d2] 32)) := (Below.refl _ _).alloc (Nat.le_refl _) _
      have K2 := Lib.hid (heap_alloc_new w2 (.cells #[.int .i64 0, .slice A2 e1.length c2, .slice B2 e2.length d2] 32))
      have O2 := Lib.hid ((hoi : OrbIx w2 (.agg #[.int .i64 0, .slice A2 e1.length c2, .slice B2 e2.length d2]) 0 e1 e2).below hnb)
      change Hid ((w2.alloc (.cells #[.int .i64 0, .slice A2 e1.length c2, .slice B2 e2.length d2] 32)).heap[w2.heap.size]? = some (.cells #[.int .i64 0, .slice A2 e1.length c2, .slice B2 e2.length d2] 32 (0, 0))) at K2
      have hmv := hnb
      replace K1 := Lib.hid ((hmv.block _ (OrbK.box_lt K1.out)).trans K1.out)
      replace O1 := Lib.hid (O1.out.below hmv)
      replace Rd := Lib.hid (Rd.out.below hmv)
      replace HBB := Lib.hid (HBB.out.trans (hmv.mono HBB.out.size))
      clear hmv
      clear hnb
      clear hoi
      have hco := HCS.out (w2.alloc (.cells #[.int .i64 0, .slice A2 e1.length c2, .slice B2 e2.length d2] 32)) _ O1.out Rd.out
      obtain ⟨b1_0, b1_1, b1_2⟩ := OrbK.row3 K1.out
      go_wp2_with fail
      refine hco.mono ?_
      rintro e w3 ⟨A3, c3, B3, d3, S3, rfl, hLn, hSn, hbn⟩
      clear b1_0 b1_1 b1_2
      have hoi := orbOut_ix hLn
      clear hco hLn hSn
      have hmv := hbn
      replace K1 := Lib.hid ((hmv.block _ (OrbK.box_lt K1.out)).trans K1.out)
      replace O1 := Lib.hid (O1.out.below hmv)
      replace K2 := Lib.hid ((hmv.block _ (OrbK.box_lt K2.out)).trans K2.out)
      replace O2 := Lib.hid (O2.out.below hmv)
      replace Rd := Lib.hid (Rd.out.below hmv)
      replace HBB := Lib.hid (HBB.out.trans (hmv.mono HBB.out.size))
      clear hmv
      clear hbn
      have hnb : Below w3.heap.size w3 (w3.alloc (.cells #[.int .i64 0, .slice A3 e1.length c3, .slice B3 e2.length d3] 32)) := (Below.refl _ _).alloc (Nat.le_refl _) _
      have K3 := Lib.hid (heap_alloc_new w3 (.cells #[.int .i64 0, .slice A3 e1.length c3, .slice B3 e2.length d3] 32))
      have O3 := Lib.hid ((hoi : OrbIx w3 (.agg #[.int .i64 0, .slice A3 e1.length c3, .slice B3 e2.length d3]) 0 e1 e2).below hnb)
      change Hid ((w3.alloc (.cells #[.int .i64 0, .slice A3 e1.length c3, .slice B3 e2.length d3] 32)).heap[w3.heap.size]? = some (.cells #[.int .i64 0, .slice A3 e1.length c3, .slice B3 e2.length d3] 32 (0, 0))) at K3
      have hmv := hnb
      replace K1 := Lib.hid ((hmv.block _ (OrbK.box_lt K1.out)).trans K1.out)
      replace O1 := Lib.hid (O1.out.below hmv)
      replace K2 := Lib.hid ((hmv.block _ (OrbK.box_lt K2.out)).trans K2.out)
      replace O2 := Lib.hid (O2.out.below hmv)
      replace Rd := Lib.hid (Rd.out.below hmv)
      replace HBB := Lib.hid (HBB.out.trans (hmv.mono HBB.out.size))
      clear hmv
      clear hnb
      clear hoi
      obtain ⟨b2_0, b2_1, b2_2⟩ := OrbK.row3 K2.out
      have l2 := OrbK.box_lt K2.out
      have hbz := HBB.out
      have g1 := E1.out
      have g2 := E2.out
      go_wp2
      go_ret
      exact ⟨rfl, hbz⟩
  · have hbig : 4096 < n0 := by omega
    clear hn hA0
    go_enter Try.func6, Try.ntmps6
    go_wp2_with (go_at_call 9; refine (big_yes _ _ _ _ hbig (by omega)).mono ?_; rintro e w' ⟨rfl, rfl⟩)
    go_ret
    exact ⟨rfl, Below.refl _ _⟩

set_option maxRecDepth 100000 in
theorem lifted (os : Os) (started : os.Started) (H : Type) (enc : TypeId × Value → H) :
    ReturnsInHanded {} Try.checked os 6 .any (Rows.fnExtendedSpec.pre6 enc Try.prog Try.f6 Rows.fnExtendedRow.domain false) (Rows.fnExtendedSpec.post enc Try.prog Try.f6 false true false false) := by
  refine returnsInHanded_of_change (C := Try.checked) own started (by kernel_rfl) Try.func6
    (ChangeSpec.witness6 (enc := enc) (C := Try.checked) false ⟨#[], #[.slice none 0 0], []⟩ 8 (by kernel_rfl) (by kernel_rfl) (by kernel_rfl) (by kernel_rfl)) ?_
  intro W base args ds gs before hval0 hW hcnd _
  have hval : ∀ (j : Nat) t v, Try.f6.params[j]? = some t → args[j]? = some v → Value.okWide Try.prog W .any base t v := hval0
  have hW' := hW
  obtain ⟨p, q, hA0, hV, rfl, hfz, hnd⟩ := hW
  have hA : DataW.TrodAll enc Try.prog W 0 (fun _ => true) true Try.f6.params.toList args.toList ds p := hA0
  rw [Try.params6] at hA hval
  obtain ⟨v0, vs0, d0, ds0, p0, q0, hargs, rfl, rfl, h0, r0⟩ := trodAll_cons hA
  obtain ⟨rfl, rfl, rfl⟩ := trodAll_nil r0
  obtain rfl : args = #[v0] := by cases args; simp_all
  obtain ⟨rfl, rfl⟩ := trodVars_none hV
  have k0 := h0
  have lt0 : ∀ x ∈ p0, x.block < W.heap.size := by obtain ⟨m, hm⟩ := k0; exact DataW.trod_lt m _ _ _ hm
  obtain ⟨A0, n0, c0, rfl⟩ := okWide_slice Try.underlying22 (hval 0 22 v0 rfl rfl)
  obtain ⟨w0, m0⟩ := open_bytesL h0
  clear hA0 hval0
  refine (walk W A0 c0 n0 w0 (open_bytesZ h0) m0).mono fun e W' ⟨he, bel⟩ => ?_
  subst he
  exact ⟨_, rfl, _, _, _, [], _, [], hW', trodAll_mk1 (shut_bool Try.underlying4 _), (trodAll_cons_mk (Below.trod laidOut (by kernel_rfl) (of_decide_eq_true (by kernel_rfl)) k0 bel lt0) trodAll_mk0), rfl, bel.frame _, fun h => by cases h⟩

theorem over : Rows.fnExtendedRow.holds Try.pinned (OpenSpec.ofChange Rows.fnExtendedSpec) :=
  OpenClaim.holds_of_wide 6 Try.f6 rfl rfl rfl rfl rfl rfl rfl ⟨rfl, rfl, rfl, rfl, rfl⟩ rfl rfl rfl rfl rfl (by kernel_rfl) Try.func6 (by kernel_rfl)
    (of_decide_eq_true (by kernel_rfl)) (by unfold Func.isWrapper; first | (rw [if_pos (by decide +kernel)]; kernel_rfl) | (rw [if_neg (by decide +kernel)]; exact ⟨rfl, rfl⟩))
    (fun os started H enc _ => lifted os started H enc)

theorem proved : Rows.FnExtendedSaid := over
#print axioms proved
end Go.Proofs.Ytnamlgacjhnpnaa.fnExtended
