/-
  The law FnReduced returns true for every code of bytes: a reduced set has the same tuples; it is the same after a swap of a constant and a fresh atom exactly if the constant is none of its own. No condition.
-/
import Derived.Test.YtnamlgacjhnpnaaGreatKReduced7
import Derived.Test.YtnamlgacjhnpnaaGreatKReduced31
import Derived.Test.YtnamlgacjhnpnaaGreatKReduced34
import Derived.Test.YtnamlgacjhnpnaaGreatKReduced29
import Derived.Test.YtnamlgacjhnpnaaGreatKReduced16
import Derived.Test.YtnamlgacjhnpnaaGreatKReduced5
import Derived.Test.YtnamlgacjhnpnaaGreatKReduced28
import Derived.Test.YtnamlgacjhnpnaaGreatKReduced35
namespace Go.Proofs.YtnamlgacjhnpnaaGreat.fnReduced
open Go.ChangeShapes Go.WideShapes Go.ChangeAt Go.RowKit
set_option linter.unusedVariables false

theorem big_no (A : Option Addr) (n c : Nat) (w : World) (h : n ≤ 4096) : Calls Tryz.prog 6 #[.slice A n c] w fun e w' => e = .returned (.bool false) ∧ w = w' := by
  have k0 : decide ((4096 : Int) < n) = false := by simp; omega
  go_enter Tryz.func6, Tryz.ntmps6
  go_wp2
  go_ret
  exact ⟨rfl, rfl⟩

theorem big_yes (A : Option Addr) (n c : Nat) (w : World) (h : 4096 < n) (h2 : n ≤ 9223372036854775807) : Calls Tryz.prog 6 #[.slice A n c] w fun e w' => e = .returned (.bool true) ∧ w = w' := by
  have k0 : decide ((4096 : Int) < n) = true := by simp; omega
  go_enter Tryz.func6, Tryz.ntmps6
  go_wp2
  go_ret
  exact ⟨rfl, rfl⟩

theorem open_bytesZ {H : Type} {enc : TypeId × Value → H} {W : World} {A : Option Addr} {n c : Nat} {d : DataW H} {p : List MemPlace}
    (h : DataW.Trod enc Tryz.prog W 0 (fun _ => true) true 22 (.slice A n c) d p) : A = none → c = 0 := by
  obtain ⟨fuel, hf⟩ := h
  rcases open_ints Tryz.underlying22 Tryz.underlying5 (by kernel_rfl) hf with ⟨hcs, _⟩ | ⟨x, len, cap, zs, hcs, _⟩
  · simp [Value.cells] at hcs
    exact fun _ => hcs.2.2
  · simp [Value.cells] at hcs
    rw [hcs.1]
    intro e
    cases e

open Go.Sort in
set_option maxRecDepth 100000 in
set_option maxHeartbeats 8000000 in
theorem walk (w : World) (A0 : Option Addr) (c0 n0 : Nat) (hA0 : BytesIn w A0 n0) (hz0 : A0 = none → c0 = 0) (hm0 : n0 ≤ maxLen) :
    Calls Tryz.prog 4 #[.slice A0 n0 c0] w fun e w' => e = .returned (.bool true) ∧ Below w.heap.size w w' := by
  obtain ⟨i0, hi0, hzz, hz1, hz2⟩ := info_parts DrawN.int_info
  have HS := Lib.hid hz2
  clear hz2
  unfold maxLen at hm0
  by_cases hn : n0 ≤ 4096
  · have HA0 := Lib.hid hA0
    have HZ0 := Lib.hid hz0
    clear hA0 hz0
    have hdr := drawReducedSet_any A0 n0 c0 w HA0.out (by omega)
    go_enter Tryz.func4, Tryz.ntmps4
    go_wp2_with (first | (go_at_call 6; refine (big_no _ _ _ _ hn).mono ?_; rintro e w' ⟨rfl, rfl⟩) | fail)
    refine hdr.mono ?_
    rintro e w1 ⟨z, l, m, A1, c1, B1, d1, rfl, hl, hm, ho1, hb1⟩
    clear hdr
    have F1 : Hid (FitO l m) := Lib.hid ⟨by omega, fitR_of (by omega)⟩
    have O1x := ho1
    have HBB := Lib.hid hb1
    clear hb1 ho1
    have hnb : Below w1.heap.size w1 (w1.alloc (.cells #[.int .i64 z, .slice A1 l.length c1, .slice B1 m.length d1] 27)) := (Below.refl _ _).alloc (Nat.le_refl _) _
    have K1 := Lib.hid (heap_alloc_new w1 (.cells #[.int .i64 z, .slice A1 l.length c1, .slice B1 m.length d1] 27))
    have O1 := Lib.hid ((O1x : OrbIx w1 (.agg #[.int .i64 z, .slice A1 l.length c1, .slice B1 m.length d1]) z l m).below hnb)
    change Hid ((w1.alloc (.cells #[.int .i64 z, .slice A1 l.length c1, .slice B1 m.length d1] 27)).heap[w1.heap.size]? = some (.cells #[.int .i64 z, .slice A1 l.length c1, .slice B1 m.length d1] 27 (0, 0))) at K1
    have hmv := hnb
    replace HBB := Lib.hid (HBB.out.trans (hmv.mono HBB.out.size))
    clear hmv
    clear hnb
    clear O1x
    by_cases hor : orbB z l m = true
    · have hz : 0 ≤ z ∧ z ≤ 4 := widB_iff.1 (orb_rows hor).1
      obtain ⟨n, rfl⟩ : ∃ n : Nat, z = (n : Int) := ⟨z.toNat, by omega⟩
      have hn4 : n ≤ 4 := by omega
      have HOR := Lib.hid hor
      have rd := SetR.red_is hn4 hor
      have SAM := Lib.hid (SetR.same_red hn4 hor)
      have HSUB := Lib.hid rd.sub
      have HHR := Lib.hid rd.has
      have HAS := Lib.hid (fun (c e : Int) (h1 : c ∈ l) (h2 : e ∉ l) (h3 : 0 ≤ e ∧ e ≤ 999) => SetS.act_same hn4 hor h1 h2 h3)
      have HVA := Lib.hid (fun (c e : Int) => SetY.valid_ac (n := n) (m := m) (isP_swap c e) (orb_const hor))
      have hrl := const_len rd.val.1
      have hrf := SetX.valid_fit hn4 rd.val
      have HRD := Lib.hid (fun (W : World) (x : Value) (q1 : OrbIx W x n l m) => (by have h1 := reduced_impl n l m F1.out x W q1; rw [hor] at h1; unfold redCz redMz at h1; rw [Int.toNat_natCast] at h1; exact h1 : Calls Tryz.prog 18 #[x] W (OrbOut n (redC n l m) (redM n l m) W)))
      have HIO := Lib.hid (fun (W : World) (x : Value) (q1 : OrbIx W x n l m) => (by have h1 := isOrbitSet_impl n l m F1.out x W q1; rw [hor] at h1; exact h1 : Calls Tryz.prog 12 #[x] W (BoolP true W)))
      have HAO := Lib.hid (fun (c e : Int) (W : World) (x : Value) (A9 : Option Addr) (c9 : Nat) (q1 : PairsAt W A9 (swapL c e)) (q2 : OrbIx W x n l m) => (by have hok : acOk (swapL c e) n l m = true := (by unfold acOk; rw [permB_of (isP_swap c e) (by have := swapL_len c e; omega), hor]; rfl); have h1 := actOnSet_impl (swapL c e) (by have := swapL_len c e; omega) n l m F1.out x A9 c9 W q1 q2 ; rw [hok] at h1; unfold acR at h1; rw [Int.toNat_natCast] at h1; exact h1 : Calls Tryz.prog 10 #[.slice A9 (swapL c e).length c9, x] W (OrbBOut n (acC (swapL c e) l) (acM (swapL c e) n l m) true W)))
      generalize redC n l m = C at *
      generalize redM n l m = X at *
      have F2 : Hid (FitO C X) := Lib.hid ⟨by omega, fitR_of (by omega)⟩
      have hcl := const_len (orb_const hor)
      clear hor rd hz hrf
      have hio := HIO.out (w1.alloc (.cells #[.int .i64 (n : Int), .slice A1 l.length c1, .slice B1 m.length d1] 27)) _ O1.out
      obtain ⟨b1_0, b1_1, b1_2⟩ := OrbK.row3 K1.out
      go_wp2_with fail
      refine hio.mono ?_
      rintro e w2 ⟨rfl, hbi⟩
      clear b1_0 b1_1 b1_2
      clear hio
      have hmv := hbi
      replace K1 := Lib.hid ((hmv.block _ (OrbK.box_lt K1.out)).trans K1.out)
      replace O1 := Lib.hid (O1.out.below hmv)
      replace HBB := Lib.hid (HBB.out.trans (hmv.mono HBB.out.size))
      clear hmv
      clear hbi
      have hco := HRD.out w2 _ O1.out
      obtain ⟨b1_0, b1_1, b1_2⟩ := OrbK.row3 K1.out
      go_wp2_with fail
      refine hco.mono ?_
      rintro e w3 ⟨A2, c2, B2, d2, S2, rfl, hLn, hSn, hbn⟩
      clear b1_0 b1_1 b1_2
      have hoi := orbOut_ix hLn
      clear hco hLn hSn
      have hmv := hbn
      replace K1 := Lib.hid ((hmv.block _ (OrbK.box_lt K1.out)).trans K1.out)
      replace O1 := Lib.hid (O1.out.below hmv)
      replace HBB := Lib.hid (HBB.out.trans (hmv.mono HBB.out.size))
      clear hmv
      clear hbn
      have hnb : Below w3.heap.size w3 (w3.alloc (.cells #[.int .i64 (n : Int), .slice A2 C.length c2, .slice B2 X.length d2] 27)) := (Below.refl _ _).alloc (Nat.le_refl _) _
      have K2 := Lib.hid (heap_alloc_new w3 (.cells #[.int .i64 (n : Int), .slice A2 C.length c2, .slice B2 X.length d2] 27))
      have O2 := Lib.hid ((hoi : OrbIx w3 (.agg #[.int .i64 (n : Int), .slice A2 C.length c2, .slice B2 X.length d2]) (n : Int) C X).below hnb)
      change Hid ((w3.alloc (.cells #[.int .i64 (n : Int), .slice A2 C.length c2, .slice B2 X.length d2] 27)).heap[w3.heap.size]? = some (.cells #[.int .i64 (n : Int), .slice A2 C.length c2, .slice B2 X.length d2] 27 (0, 0))) at K2
      have hmv := hnb
      replace K1 := Lib.hid ((hmv.block _ (OrbK.box_lt K1.out)).trans K1.out)
      replace O1 := Lib.hid (O1.out.below hmv)
      replace HBB := Lib.hid (HBB.out.trans (hmv.mono HBB.out.size))
      clear hmv
      clear hnb
      clear hoi
      have htu := drawTuple_any A0 n0 c0 n (by omega) (w3.alloc (.cells #[.int .i64 (n : Int), .slice A2 C.length c2, .slice B2 X.length d2] 27)) (DrawN.bytes_more HA0.out HBB.out) HZ0.out (by omega)
      obtain ⟨b1_0, b1_1, b1_2⟩ := OrbK.row3 K1.out
      go_wp2_with fail
      refine htu.mono ?_
      rintro e w4 ⟨t, At, ct, rfl, htl, hts, htA, htz, hbt⟩
      have HTL := Lib.hid htl
      have HTB := Lib.hid (DrawN.small_tup (by omega) hts)
      have HTZ := Lib.hid htz
      have htl4 : t.length ≤ 4 := by omega
      have Rt := Lib.hid htA
      clear b1_0 b1_1 b1_2
      clear htl hts htA htz htu
      have hmv := hbt
      replace K1 := Lib.hid ((hmv.block _ (OrbK.box_lt K1.out)).trans K1.out)
      replace O1 := Lib.hid (O1.out.below hmv)
      replace K2 := Lib.hid ((hmv.block _ (OrbK.box_lt K2.out)).trans K2.out)
      replace O2 := Lib.hid (O2.out.below hmv)
      replace HBB := Lib.hid (HBB.out.trans (hmv.mono HBB.out.size))
      clear hmv
      clear hbt
      obtain ⟨at0, rfl⟩ := HTZ.out
      have EX := Lib.hid (HHR.out t HTL.out HTB.out)
      generalize hx : hasTB n l m t = xa at EX
      have EA := Lib.hid hx
      clear hx
      have HCON : Hid (ConstAt w4 A1 c1 l) := Lib.hid (by obtain ⟨_, _, _, _, e, h2, _⟩ := O1.out; simp only [Value.agg.injEq, Array.mk.injEq, List.cons.injEq, Value.slice.injEq, and_true, true_and] at e; obtain ⟨⟨rfl, rfl⟩, rfl, rfl⟩ := e; exact h2)
      have nrb : Below w4.heap.size w4 (w4.alloc (.cells #[] 3)) := (Below.refl _ _).alloc (Nat.le_refl _) _
      have nro : (w4.alloc (.cells #[] 3)).ownsRow w4.heap.size 3 1 (.slice (some ⟨w4.heap.size, 0, none⟩) 0 0) 0 [] := World.ownsRow_lit w4 #[] 0 (Nat.le_refl _) (by decide) rfl
      have hal1 := HCON.out.below nrb
      obtain ⟨b1_0, b1_1, b1_2⟩ := OrbK.row3 K1.out
      have lb1 := OrbK.box_lt K1.out
      go_wp2_with (at_builtin; refine wp_append_ints rfl (.tmp 26) (.tmp 28) rfl w4.heap.size _ 0 [] rfl nro A1 c1 l rfl hal1.1 hal1.2 (by omega) nrb.size ?_)
      intro v5 w5 ho5 hg5
      have hb5 := below_own nrb nro (Nat.le_refl _) nrb.size hg5
      have hbs : Below w5.heap.size w5 (w5.alloc (.cells #[.int .i64 0, .int .i64 1, .int .i64 2, .int .i64 3, .int .i64 4, .int .i64 5] 3)) := (Below.refl _ _).alloc (Nat.le_refl _) _
      have ho6 := own_below ho5 hbs
      have hb6 := hb5.trans (hbs.mono hb5.size)
      have h6 : IntsAt (w5.alloc (.cells #[.int .i64 0, .int .i64 1, .int .i64 2, .int .i64 3, .int .i64 4, .int .i64 5] 3)) (some ⟨w5.heap.size, 0, none⟩) [0, 1, 2, 3, 4, 5] := lit_ints (heap_alloc_new w5 (.cells #[.int .i64 0, .int .i64 1, .int .i64 2, .int .i64 3, .int .i64 4, .int .i64 5] 3))
      clear hal1 nro nrb hg5 ho5 hbs
      clear b1_0 b1_1 b1_2
      clear lb1
      have hb6s := hb6.size
      go_wp2_with (at_builtin; refine wp_append_ints rfl (.tmp 29) (.tmp 30) rfl w4.heap.size _ l.length _ rfl ho6 _ 6 [0, 1, 2, 3, 4, 5] rfl h6 (fun h => by cases h) (by simp; omega) hb6s ?_)
      intro v7 w7 ho7 hg7
      have hb7 := below_own hb6 ho6 (Nat.le_refl _) hb6s hg7
      have ho8 : w7.ownsRow w4.heap.size 3 1 v7 (l ++ [0, 1, 2, 3, 4, 5]).length (icells (l ++ [0, 1, 2, 3, 4, 5])) := by rw [List.length_append, icells_append]; exact ho7
      obtain ⟨A7, c7, hv7, hA7⟩ := own_intsAt ho8
      have hlf := least_impl A7 c7 (l ++ [0, 1, 2, 3, 4, 5]) w7 hA7 (by simp; omega)
      rw [← hv7] at hlf
      have hfr : leastF (l ++ [0, 1, 2, 3, 4, 5]) ∉ l := fun h => leastF_new (by simp; omega) (List.mem_append_left _ h)
      have hfa : atomB (leastF (l ++ [0, 1, 2, 3, 4, 5])) = true := SetX.leastF_atom (by simp; omega)
      generalize leastF (l ++ [0, 1, 2, 3, 4, 5]) = a at hlf hfr hfa
      have HFR := Lib.hid hfr
      have HFA : Hid (0 ≤ a ∧ a ≤ 999) := Lib.hid (by unfold atomB at hfa; simpa using hfa)
      clear ho6 h6 hb6 hb6s ho7 hg7 ho8 hA7 hfr hfa hv7
      go_wp2_with fail
      refine hlf.mono ?_
      rintro e w8 ⟨rfl, hb8⟩
      have hb9 := hb7.trans (hb8.mono hb7.size)
      clear hlf hb7 hb8
      have hmv := hb9
      replace K1 := Lib.hid ((hmv.block _ (OrbK.box_lt K1.out)).trans K1.out)
      replace O1 := Lib.hid (O1.out.below hmv)
      replace K2 := Lib.hid ((hmv.block _ (OrbK.box_lt K2.out)).trans K2.out)
      replace O2 := Lib.hid (O2.out.below hmv)
      replace Rt := Lib.hid (Rt.out.below hmv)
      replace HBB := Lib.hid (HBB.out.trans (hmv.mono HBB.out.size))
      clear hmv
      clear hb9
      replace HCON := Lib.hid (show ConstAt w8 A1 c1 l by obtain ⟨_, _, _, _, e, h2, _⟩ := O1.out; simp only [Value.agg.injEq, Array.mk.injEq, List.cons.injEq, Value.slice.injEq, and_true, true_and] at e; obtain ⟨⟨rfl, rfl⟩, rfl, rfl⟩ := e; exact h2)
      have HCO2 : Hid (ConstAt w8 A2 c2 C) := Lib.hid (by obtain ⟨_, _, _, _, e, h2, _⟩ := O2.out; simp only [Value.agg.injEq, Array.mk.injEq, List.cons.injEq, Value.slice.injEq, and_true, true_and] at e; obtain ⟨⟨rfl, rfl⟩, rfl, rfl⟩ := e; exact h2)
      have hxx : (xa != xa) = false := by simp
      obtain ⟨b1_0, b1_1, b1_2⟩ := OrbK.row3 K1.out
      have q1_0 := fun d os => cell_regrown b1_0 d os
      have q1_1 := fun d os => cell_regrown b1_1 d os
      have q1_2 := fun d os => cell_regrown b1_2 d os
      clear b1_0 b1_1 b1_2
      obtain ⟨b2_0, b2_1, b2_2⟩ := OrbK.row3 K2.out
      have q2_0 := fun d os => cell_regrown b2_0 d os
      have q2_1 := fun d os => cell_regrown b2_1 d os
      have q2_2 := fun d os => cell_regrown b2_2 d os
      clear b2_0 b2_1 b2_2
      have hq1 := fun d os => (by have h1 := sameSet_impl n C X F2.out _ n l m F1.out _ (grow (redrawn w8 d) os) (O2.out.below (below_regrown w8 d os)) (O1.out.below (below_regrown w8 d os)); rw [SAM.out] at h1; exact h1 : Calls Tryz.prog 15 #[(.agg #[.int .i64 (n : Int), .slice A2 C.length c2, .slice B2 X.length d2]), (.agg #[.int .i64 (n : Int), .slice A1 l.length c1, .slice B1 m.length d1])] (grow (redrawn w8 d) os) (BoolP true (grow (redrawn w8 d) os)))
      have hq2 := fun d os => (by have h1 := hasTuple_impl (n : Int) C X t F2.out (some at0) ct (.agg #[.int .i64 (n : Int), .slice A2 C.length c2, .slice B2 X.length d2]) (grow (redrawn w8 d) os) (O2.out.below (below_regrown w8 d os)) (Rt.out.below (below_regrown w8 d os)) (by omega); rw [EX.out] at h1; exact h1 : Calls Tryz.prog 13 #[(.agg #[.int .i64 (n : Int), .slice A2 C.length c2, .slice B2 X.length d2]), .slice (some at0) t.length ct] (grow (redrawn w8 d) os) (BoolP xa (grow (redrawn w8 d) os)))
      have hq3 := fun d os => (by have h1 := hasTuple_impl (n : Int) l m t F1.out (some at0) ct (.agg #[.int .i64 (n : Int), .slice A1 l.length c1, .slice B1 m.length d1]) (grow (redrawn w8 d) os) (O1.out.below (below_regrown w8 d os)) (Rt.out.below (below_regrown w8 d os)) (by omega); rw [EA.out] at h1; exact h1 : Calls Tryz.prog 13 #[(.agg #[.int .i64 (n : Int), .slice A1 l.length c1, .slice B1 m.length d1]), .slice (some at0) t.length ct] (grow (redrawn w8 d) os) (BoolP xa (grow (redrawn w8 d) os)))
      have hq4 := fun d os => ((lawAll_any A1 A2 c1 c2 l C (grow (redrawn w8 d) os) (HCON.out.1.below (below_regrown w8 d os)) (HCO2.out.1.below (below_regrown w8 d os)) (by omega) (by omega) HSUB.out).mono fun _ _ h9 => ⟨h9.1, h9.2 ▸ Below.refl _ _⟩ : Calls Tryz.prog 20 #[.slice A1 l.length c1, .slice A2 C.length c2] (grow (redrawn w8 d) os) (BoolP true (grow (redrawn w8 d) os)))
      go_wp2
      refine wp_region_quiet_below (by kernel_rfl) (by kernel_rfl) ?_
      repeat (any_goals (first | go_big_quiet_step ((first | (go_at_call 15; first | (with_reducible exact Calls.regrown_of (hq1 _ _))) | (go_at_call 13; first | (with_reducible exact Calls.regrown_of (hq2 _ _)) | (with_reducible exact Calls.regrown_of (hq3 _ _))) | (go_at_call 20; first | (with_reducible exact Calls.regrown_of (hq4 _ _))))) | quiet_step ((first | (go_at_call 15; first | (with_reducible exact Calls.regrown_of (hq1 _ _))) | (go_at_call 13; first | (with_reducible exact Calls.regrown_of (hq2 _ _)) | (with_reducible exact Calls.regrown_of (hq3 _ _))) | (go_at_call 20; first | (with_reducible exact Calls.regrown_of (hq4 _ _)))))))
      refine wpQuiet_nil ?_
      intro _ hw'
      obtain ⟨⟨dq, osq⟩, hw''⟩ := hw'
      subst hw''
      have hqz := below_regrown w8 dq osq
      generalize grow (redrawn w8 dq) osq = w9 at hqz ⊢
      clear q1_0 q1_1 q1_2 q2_0 q2_1 q2_2 hq1 hq2 hq3 hq4
      have hmv := hqz
      replace K1 := Lib.hid ((hmv.block _ (OrbK.box_lt K1.out)).trans K1.out)
      replace O1 := Lib.hid (O1.out.below hmv)
      replace K2 := Lib.hid ((hmv.block _ (OrbK.box_lt K2.out)).trans K2.out)
      replace O2 := Lib.hid (O2.out.below hmv)
      replace Rt := Lib.hid (Rt.out.below hmv)
      replace HBB := Lib.hid (HBB.out.trans (hmv.mono HBB.out.size))
      clear hmv
      replace HCON := Lib.hid (HCON.out.below hqz)
      replace HCO2 := Lib.hid (HCO2.out.below hqz)
      clear hqz
      have HEQ : Hid (∀ W : World, Below w9.heap.size w9 W → W.heap[w1.heap.size]? = some (.cells #[.int .i64 (n : Int), .slice A1 l.length c1, .slice B1 m.length d1] 27 (0, 0)) ∧ W.heap[w3.heap.size]? = some (.cells #[.int .i64 (n : Int), .slice A2 C.length c2, .slice B2 X.length d2] 27 (0, 0))) := Lib.hid (fun W k => ⟨(k.block _ (OrbK.box_lt K1.out)).trans K1.out, (k.block _ (OrbK.box_lt K2.out)).trans K2.out⟩)
      go_wp2
      go_loopw [7, 8, 9] (fun i _ _ wr => ∃ q : Nat, q ≤ l.length ∧ i = .int .i64 q ∧ Below w9.heap.size w9 wr) (fun i _ _ _ => l.length - (intOf i).toNat)
      case atStart => exact ⟨0, Nat.zero_le _, rfl, Below.refl _ _⟩
      case round =>
        obtain ⟨q, hq, rfl, hb⟩ := hrel
        obtain ⟨k1, k2⟩ := HEQ.out wr hb
        obtain ⟨b1_0, b1_1, b1_2⟩ := OrbK.row3 k1
        by_cases hlq : q < l.length
        · obtain ⟨wo, rfl⟩ : ∃ x : World, x = wr := ⟨_, rfl⟩
          obtain ⟨be, oe, hAe, hbe, hce⟩ := HCON.out.1.below hb (by omega)
          have hel := hce q hlq
          have hmem : itAt l q ∈ l := by rw [itAt_get _ _ hlq]; exact List.getElem_mem hlq
          have hsame := HAS.out _ a hmem HFR.out HFA.out
          have hva := HVA.out (itAt l q) a
          have hao := HAO.out (itAt l q) a
          have hqi : (q : Int) < (l.length : Int) := by omega
          have hq0 : (0 : Int) ≤ (q : Int) := by omega
          generalize itAt l q = c at hel hmem hsame hva hao
          have hsw := fun W => swapOf_impl c a W
          have hsl := swapL_len c a
          have HVA2 := Lib.hid hva
          have HAO2 := Lib.hid hao
          have HSW := Lib.hid hsw
          generalize swapL c a = pl at HAO2 HSW hsame HVA2 hsl
          have F5 : Hid (FitO (acC pl l) (acM pl n l m)) := Lib.hid (by have h1 := SetX.valid_fit hn4 HVA2.out; have h2 := const_len HVA2.out.1; exact ⟨by omega, fitR_of (by omega)⟩)
          generalize acC pl l = C5 at *
          generalize acM pl n l m = M5 at *
          have HSA := Lib.hid hsame
          clear hce hao hva hsw hsame hmem
          subst hAe
          have lt0 := OrbK.box_lt k1
          have lt1 : be < wo.heap.size := hbe
          have O1w := Lib.hid (O1.out.below hb)
          have HCC : Hid (∀ w' : World, Below wo.heap.size wo w' → w'.cell? ⟨w1.heap.size, 0, none⟩ = some (.int .i64 (n : Int)) ∧ w'.cell? ⟨w1.heap.size, 1, none⟩ = some (.slice (some ⟨be, oe, none⟩) l.length c1) ∧ w'.cell? ⟨w1.heap.size, 2, none⟩ = some (.slice B1 m.length d1) ∧ w'.cell? ⟨be, oe + q, none⟩ = some (.int .i64 c)) := Lib.hid (fun W k => ⟨(k.cell (p := ⟨w1.heap.size, 0, none⟩) lt0).trans b1_0, (k.cell (p := ⟨w1.heap.size, 1, none⟩) lt0).trans b1_1, (k.cell (p := ⟨w1.heap.size, 2, none⟩) lt0).trans b1_2, (k.cell (p := ⟨be, oe + q, none⟩) lt1).trans hel⟩)
          have zR : Unit := ()
          go_upto_region 14 with fail
          go_cut [8, 9] (fun s t wx => OrbQ.Rel wo n C5 M5 s wx ∧ t = .bool true)
          case first =>
            have hdw : Below wo.heap.size wo wo.drew := ⟨rfl, rfl, rfl, Nat.le_refl _, fun _ _ => rfl⟩
            have hal : Below wo.heap.size wo (wo.alloc (.cells #[.int .i64 0, .slice none 0 0, .slice none 0 0] 27)).drew := by
              have h : Below wo.heap.size wo (wo.alloc (.cells #[.int .i64 0, .slice none 0 0, .slice none 0 0] 27)) := (Below.refl _ _).alloc (Nat.le_refl _) _
              exact ⟨h.os, h.tape, h.output, h.size, h.block⟩
            obtain ⟨cu0, cu1, cu2, cu3⟩ := HCC.out wo.drew (hdw)
            obtain ⟨cx0, cx1, cx2, cx3⟩ := HCC.out (wo.alloc (.cells #[.int .i64 0, .slice none 0 0, .slice none 0 0] 27)).drew (hal)
            have ne0_0 : w1.heap.size ≠ wo.heap.size := Nat.ne_of_lt lt0
            have ne1_0 : be ≠ wo.heap.size := Nat.ne_of_lt lt1
            have h0a := HSW.out (wo.drew)
            have h0b := HSW.out ((wo.alloc (.cells #[.int .i64 0, .slice none 0 0, .slice none 0 0] 27)).drew)
            go_region_held3 (fun w' => w'.cell? ⟨w1.heap.size, 0, none⟩ = some (.int .i64 (n : Int)) ∧ w'.cell? ⟨w1.heap.size, 1, none⟩ = some (.slice (some ⟨be, oe, none⟩) l.length c1) ∧ w'.cell? ⟨w1.heap.size, 2, none⟩ = some (.slice B1 m.length d1) ∧ w'.cell? ⟨be, oe + q, none⟩ = some (.int .i64 c))
              (first | ((try dsimp only); (with_reducible exact ⟨by assumption, by assumption, by assumption, by assumption⟩)) | (with_reducible exact ⟨OrbQ.set3_keep (by assumption) (by assumption), OrbQ.set3_keep (by assumption) (by assumption), OrbQ.set3_keep (by assumption) (by assumption), OrbQ.set3_keep (by assumption) (by assumption)⟩) | go_keep)
              (first
                | (go_at_call 21; (first | (with_reducible refine h0a.mono ?_) | (with_reducible refine h0b.mono ?_)); rintro e wq0 ⟨v9, rfl, ho9, hb0⟩; obtain ⟨A9, c9, rfl, hp9⟩ := own_pairsAt ho9; have fr0 : Below wo.heap.size wo wq0 := (by first | (with_reducible exact hdw.trans (hb0.mono hdw.size)) | (with_reducible exact hal.trans (hb0.mono hal.size))); (try (have zb0 : wq0.heap[wo.heap.size]? = some (.cells #[.int .i64 0, .slice none 0 0, .slice none 0 0] 27) := (hb0.block wo.heap.size (by simp)).trans (heap_alloc_new wo (.cells #[.int .i64 0, .slice none 0 0, .slice none 0 0] 27)))); obtain ⟨ca0, ca1, ca2, ca3⟩ := HCC.out wq0 (fr0); have ne0_1 : w1.heap.size ≠ wq0.heap.size := Nat.ne_of_lt (Nat.lt_of_lt_of_le lt0 fr0.size); have ne1_1 : be ≠ wq0.heap.size := Nat.ne_of_lt (Nat.lt_of_lt_of_le lt1 fr0.size); have al0 : Below wq0.heap.size wq0 (wq0.alloc (.cells #[.int .i64 0, .slice none 0 0, .slice none 0 0] 27)) := (Below.refl _ _).alloc (Nat.le_refl _) _; have h1a := HAO2.out (wq0) _ A9 c9 (hp9) (O1w.out.below (fr0)); have h1b := HAO2.out ((wq0.alloc (.cells #[.int .i64 0, .slice none 0 0, .slice none 0 0] 27))) _ A9 c9 (hp9.below al0) (O1w.out.below ((fr0.trans (al0.mono fr0.size)))))
                | (go_at_call 10; (first | (with_reducible refine h1a.mono ?_) | (with_reducible refine h1b.mono ?_)); rintro e wq1 ⟨Aw, cw, Bw, dw, Sw, rfl, hLw, hSw, hb1⟩; have bx1 : Below wq0.heap.size wq0 wq1 := (by first | (with_reducible exact hb1) | (with_reducible exact al0.trans (hb1.mono al0.size))); have fr1 := fr0.trans (bx1.mono fr0.size); (try (have zb1 := (bx1.block _ (OrbK.box_lt zb0)).trans zb0)); (try (have zb1 : wq1.heap[wq0.heap.size]? = some (.cells #[.int .i64 0, .slice none 0 0, .slice none 0 0] 27) := (hb1.block _ (by simp)).trans (heap_alloc_new wq0 (.cells #[.int .i64 0, .slice none 0 0, .slice none 0 0] 27)))); obtain ⟨cb0, cb1, cb2, cb3⟩ := HCC.out wq1 (fr1); have ne0_2 : w1.heap.size ≠ wq1.heap.size := Nat.ne_of_lt (Nat.lt_of_lt_of_le lt0 fr1.size); have ne1_2 : be ≠ wq1.heap.size := Nat.ne_of_lt (Nat.lt_of_lt_of_le lt1 fr1.size); (try (obtain ⟨qb0, qb1, qb2⟩ := OrbK.row3 zb1; have yb0 := frozen_of_row _ _ 0 _ _ zb1; have yb1 := frozen_of_row _ _ 1 _ _ zb1; have yb2 := frozen_of_row _ _ 2 _ _ zb1)))
                | fail)
            all_goals
              have szb0 : wo.heap.size ≤ wq0.heap.size := fr0.size
              go_wp2_with fail
              go_meet
              first | (with_reducible exact ⟨OrbQ.rel_set zb1 hLw (fun b hb => Nat.le_trans (by omega) (hSw b hb)) (fun b hb => Nat.ne_of_gt (Nat.lt_of_lt_of_le (OrbK.box_lt zb0) (hSw b hb))) (by omega) fr1, rfl⟩) | (with_reducible exact ⟨OrbQ.rel_set zb1 hLw (fun b hb => Nat.le_trans (by simp; omega) (hSw b hb)) (fun b hb => Nat.ne_of_gt (Nat.lt_of_lt_of_le (by simp) (hSw b hb))) (by omega) fr1, rfl⟩) | (with_reducible exact ⟨OrbQ.rel_new hLw (fun b hb => Nat.le_trans (by omega) (hSw b hb)) fr1, rfl⟩)
          case rest =>
            obtain ⟨⟨g7, A7, c7, B7, d7, S7, rfl, hbox, hLb, hgS, hSb, hgb, hgz⟩, rfl⟩ := hcut
            have hoi := orbOut_ix hLb
            have hb2 := hb.trans (hgz.mono hb.size)
            obtain ⟨wd, rfl⟩ : ∃ x : World, x = wc := ⟨_, rfl⟩
            obtain ⟨x0, x1, x2, x3⟩ := HCC.out wd hgz
            obtain ⟨_, k2d⟩ := HEQ.out wd hb2
            obtain ⟨y0, y1, y2⟩ := OrbK.row3 k2d
            obtain ⟨u0, u1, u2⟩ := OrbK.row3 hbox
            have r0 := fun d os => cell_regrown x0 d os
            have r1 := fun d os => cell_regrown x1 d os
            have r2 := fun d os => cell_regrown x2 d os
            have r3 := fun d os => cell_regrown x3 d os
            have r4 := fun d os => cell_regrown y0 d os
            have r5 := fun d os => cell_regrown y1 d os
            have r6 := fun d os => cell_regrown y2 d os
            have r7 := fun d os => cell_regrown u0 d os
            have r8 := fun d os => cell_regrown u1 d os
            have r9 := fun d os => cell_regrown u2 d os
            have O1d := Lib.hid (O1w.out.below hgz)
            have O7 := Lib.hid hoi
            have HC2d := Lib.hid (HCO2.out.below hb2)
            generalize hhc : hasB C c = hc at HSA
            have HHC := Lib.hid hhc
            have hs1 := fun d os => (by have h1 := sameSet_impl n C5 M5 F5.out _ n l m F1.out _ (grow (redrawn wd d) os) (O7.out.below (below_regrown wd d os)) (O1d.out.below (below_regrown wd d os)); rw [HSA.out] at h1; exact h1 : Calls Tryz.prog 15 #[.agg #[.int .i64 (n : Int), .slice A7 C5.length c7, .slice B7 M5.length d7], .agg #[.int .i64 (n : Int), .slice (some ⟨be, oe, none⟩) l.length c1, .slice B1 m.length d1]] (grow (redrawn wd d) os) (BoolP (!hc) (grow (redrawn wd d) os)))
            have hh1 := fun d os => (((by have h1 := lawHas_any A2 c2 C c (grow (redrawn wd d) os) (HC2d.out.1.below (below_regrown wd d os)) (by omega); rw [HHC.out] at h1; exact h1 : Calls Tryz.prog 22 #[.slice A2 C.length c2, .int .i64 c] (grow (redrawn wd d) os) fun e w9 => e = .returned (.bool hc) ∧ (grow (redrawn wd d) os) = w9)).mono fun _ _ h9 => ⟨h9.1, h9.2 ▸ Below.refl _ _⟩ : Calls Tryz.prog 22 #[.slice A2 C.length c2, .int .i64 c] (grow (redrawn wd d) os) (BoolP hc (grow (redrawn wd d) os)))
            have hnn : ((!hc) == hc) = false := by cases hc <;> rfl
            clear hhc k1 k2 k2d x0 x1 x2 x3 y0 y1 y2 u0 u1 u2 b1_0 b1_1 b1_2 hoi hLb hgS hSb hgb hbox HCC hel
            go_wp2
            refine wp_region_quiet_below (by kernel_rfl) (by kernel_rfl) ?_
            repeat (any_goals (first | go_big_quiet_step ((first | (go_at_call 15; (with_reducible exact Calls.regrown_of (hs1 _ _))) | (go_at_call 22; (with_reducible exact Calls.regrown_of (hh1 _ _))))) | quiet_step ((first | (go_at_call 15; (with_reducible exact Calls.regrown_of (hs1 _ _))) | (go_at_call 22; (with_reducible exact Calls.regrown_of (hh1 _ _)))))))
            refine wpQuiet_nil ?_
            intro _ hw'
            obtain ⟨⟨dq, osq⟩, hw''⟩ := hw'
            subst hw''
            have hqz := hb2.trans ((below_regrown wd dq osq).mono hb2.size)
            generalize grow (redrawn wd dq) osq = we at hqz ⊢
            clear r0 r1 r2 r3 r4 r5 r6 r7 r8 r9 hs1 hh1 hnn hb2 hgz hb
            go_wp2
            refine ⟨⟨q + 1, by omega, by go_num, hqz⟩, ?_⟩
            simp only [intOf]
            omega
        · have e : q = l.length := by omega
          subst e
          have hbz := HBB.out.trans (hb.mono HBB.out.size)
          go_wp2
          go_ret
          exact ⟨rfl, hbz⟩
    · have hno : orbB z l m = false := by simpa using hor
      have HI := Lib.hid (fun (W : World) (x : Value) (q1 : OrbIx W x z l m) => (by have h1 := isOrbitSet_impl z l m F1.out x W q1; rw [hno] at h1; exact h1 : Calls Tryz.prog 12 #[x] W (BoolP false W)))
      have HJ := Lib.hid (fun (W : World) (x : Value) (q1 : OrbIx W x z l m) => (by have h1 := isOrbitSet_spec z l m F1.out x W q1; rw [hno] at h1; exact h1 : Calls Tryz.prog 17 #[x] W (BoolP false W)))
      have hio := HI.out (w1.alloc (.cells #[.int .i64 z, .slice A1 l.length c1, .slice B1 m.length d1] 27)) _ O1.out
      obtain ⟨b1_0, b1_1, b1_2⟩ := OrbK.row3 K1.out
      clear hor hno
      go_wp2_with fail
      refine hio.mono ?_
      rintro e w2 ⟨rfl, hbi⟩
      clear b1_0 b1_1 b1_2
      clear hio
      have hmv := hbi
      replace K1 := Lib.hid ((hmv.block _ (OrbK.box_lt K1.out)).trans K1.out)
      replace O1 := Lib.hid (O1.out.below hmv)
      replace HBB := Lib.hid (HBB.out.trans (hmv.mono HBB.out.size))
      clear hmv
      clear hbi
      have hjo := HJ.out w2 _ O1.out
      obtain ⟨b1_0, b1_1, b1_2⟩ := OrbK.row3 K1.out
      go_wp2_with fail
      refine hjo.mono ?_
      rintro e w3 ⟨rfl, hbj⟩
      have hbz := HBB.out.trans (hbj.mono HBB.out.size)
      clear b1_0 b1_1 b1_2
      clear hjo
      go_wp2
      go_ret
      exact ⟨rfl, hbz⟩
  · have hbig : 4096 < n0 := by omega
    clear hn hA0
    go_enter Tryz.func4, Tryz.ntmps4
    go_wp2_with (go_at_call 6; refine (big_yes _ _ _ _ hbig (by omega)).mono ?_; rintro e w' ⟨rfl, rfl⟩)
    go_ret
    exact ⟨rfl, Below.refl _ _⟩

set_option maxRecDepth 100000 in
theorem lifted (os : Os) (started : os.Started) (H : Type) (enc : TypeId × Value → H) :
    ReturnsInHanded {} Tryz.checked os 4 .any (Rows.fnReducedSpec.pre6 enc Tryz.prog Tryz.f4 Rows.fnReducedRow.domain false) (Rows.fnReducedSpec.post enc Tryz.prog Tryz.f4 false true false false) := by
  refine returnsInHanded_of_change (C := Tryz.checked) own started (by kernel_rfl) Tryz.func4
    (ChangeSpec.witness6 (enc := enc) (C := Tryz.checked) false ⟨#[], #[.slice none 0 0], []⟩ 8 (by kernel_rfl) (by kernel_rfl) (by kernel_rfl) (by kernel_rfl)) ?_
  intro W base args ds gs before hval0 hW hcnd _
  have hval : ∀ (j : Nat) t v, Tryz.f4.params[j]? = some t → args[j]? = some v → Value.okWide Tryz.prog W .any base t v := hval0
  have hW' := hW
  obtain ⟨p, q, hA0, hV, rfl, hfz, hnd⟩ := hW
  have hA : DataW.TrodAll enc Tryz.prog W 0 (fun _ => true) true Tryz.f4.params.toList args.toList ds p := hA0
  rw [Tryz.params4] at hA hval
  obtain ⟨v0, vs0, d0, ds0, p0, q0, hargs, rfl, rfl, h0, r0⟩ := trodAll_cons hA
  obtain ⟨rfl, rfl, rfl⟩ := trodAll_nil r0
  obtain rfl : args = #[v0] := by cases args; simp_all
  obtain ⟨rfl, rfl⟩ := trodVars_none hV
  have k0 := h0
  have lt0 : ∀ x ∈ p0, x.block < W.heap.size := by obtain ⟨m, hm⟩ := k0; exact DataW.trod_lt m _ _ _ hm
  obtain ⟨A0, n0, c0, rfl⟩ := okWide_slice Tryz.underlying22 (hval 0 22 v0 rfl rfl)
  obtain ⟨w0, m0⟩ := open_bytesL h0
  clear hA0 hval0
  refine (walk W A0 c0 n0 w0 (open_bytesZ h0) m0).mono fun e W' ⟨he, bel⟩ => ?_
  subst he
  exact ⟨_, rfl, _, _, _, [], _, [], hW', trodAll_mk1 (shut_bool Tryz.underlying4 _), (trodAll_cons_mk (Below.trod laidOut (by kernel_rfl) (of_decide_eq_true (by kernel_rfl)) k0 bel lt0) trodAll_mk0), rfl, bel.frame _, fun h => by cases h⟩

theorem over : Rows.fnReducedRow.holds Tryz.pinned (OpenSpec.ofChange Rows.fnReducedSpec) :=
  OpenClaim.holds_of_wide 4 Tryz.f4 rfl rfl rfl rfl rfl rfl rfl ⟨rfl, rfl, rfl, rfl, rfl⟩ rfl rfl rfl rfl rfl (by kernel_rfl) Tryz.func4 (by kernel_rfl)
    (of_decide_eq_true (by kernel_rfl)) (by unfold Func.isWrapper; first | (rw [if_pos (by decide +kernel)]; kernel_rfl) | (rw [if_neg (by decide +kernel)]; exact ⟨rfl, rfl⟩))
    (fun os started H enc _ => lifted os started H enc)

theorem proved : Rows.FnReducedSaid := over
#print axioms proved
end Go.Proofs.YtnamlgacjhnpnaaGreat.fnReduced
