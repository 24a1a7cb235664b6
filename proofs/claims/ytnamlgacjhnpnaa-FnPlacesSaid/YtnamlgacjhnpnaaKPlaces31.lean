/-
  The law FnPlaces returns true for every code of bytes: a drawn set told by its places in the other order has the tuples turned round; made wide and narrow again it is as it was. No condition.
-/
import Derived.Test.YtnamlgacjhnpnaaKPlaces6
import Derived.Test.YtnamlgacjhnpnaaKPlaces28
import Derived.Test.YtnamlgacjhnpnaaKPlaces29
import Derived.Test.YtnamlgacjhnpnaaKPlaces17
import Derived.Test.YtnamlgacjhnpnaaKPlaces18
import Derived.Test.YtnamlgacjhnpnaaKPlaces4
import Derived.Test.YtnamlgacjhnpnaaKPlaces30
namespace Go.Proofs.Ytnamlgacjhnpnaa.fnPlaces
open Go.ChangeShapes Go.WideShapes Go.ChangeAt Go.RowKit
set_option linter.unusedVariables false

theorem big_no (A : Option Addr) (n c : Nat) (w : World) (h : n ≤ 4096) : Calls Try.prog 9 #[.slice A n c] w fun e w' => e = .returned (.bool false) ∧ w = w' := by
  have k0 : decide ((4096 : Int) < n) = false := by simp; omega
  go_enter Try.func9, Try.ntmps9
  go_wp2
  go_ret
  exact ⟨rfl, rfl⟩

theorem big_yes (A : Option Addr) (n c : Nat) (w : World) (h : 4096 < n) (h2 : n ≤ 9223372036854775807) : Calls Try.prog 9 #[.slice A n c] w fun e w' => e = .returned (.bool true) ∧ w = w' := by
  have k0 : decide ((4096 : Int) < n) = true := by simp; omega
  go_enter Try.func9, Try.ntmps9
  go_wp2
  go_ret
  exact ⟨rfl, rfl⟩

theorem open_bytesZ {H : Type} {enc : TypeId × Value → H} {W : World} {A : Option Addr} {n c : Nat} {d : DataW H} {p : List MemPlace}
    (h : DataW.Trod enc Try.prog W 0 (fun _ => true) true 22 (.slice A n c) d p) : A = none → c = 0 := by
  obtain ⟨fuel, hf⟩ := h
  rcases open_ints Try.underlying22 Try.underlying5 (by kernel_rfl) hf with ⟨hcs, _⟩ | ⟨x, len, cap, zs, hcs, _⟩
  · simp [Value.cells] at hcs
    exact fun _ => hcs.2.2
  · simp [Value.cells] at hcs
    rw [hcs.1]
    intro e
    cases e

open Go.Sort in
set_option maxRecDepth 100000 in
set_option maxHeartbeats 8000000 in
theorem walk (w : World) (A0 : Option Addr) (c0 n0 : Nat) (hA0 : BytesIn w A0 n0) (hz0 : A0 = none → c0 = 0) (hm0 : n0 ≤ maxLen) :
    Calls Try.prog 7 #[.slice A0 n0 c0] w fun e w' => e = .returned (.bool true) ∧ Below w.heap.size w w' := by
  obtain ⟨i0, hi0, hzz, hz1, hz2⟩ := info_parts DrawN.int_info
  have HS := Lib.hid hz2
  clear hz2
  unfold maxLen at hm0
  by_cases hn : n0 ≤ 4096
  · have HA0 := Lib.hid hA0
    have HZ0 := Lib.hid hz0
    clear hA0 hz0
    have hdr := drawSets_any A0 n0 c0 w HA0.out (by omega)
    go_enter Try.func7, Try.ntmps7
    go_wp2_with (first | (go_at_call 9; refine (big_no _ _ _ _ hn).mono ?_; rintro e w' ⟨rfl, rfl⟩) | fail)
    refine hdr.mono ?_
    rintro e w1 ⟨n, cs, cs2, M, M2, A1, B1, A2, B2, c1, d1, c2, d2, rfl, hn3, hl1, hl2, hv1, hv2, ho1, ho2, hb1, hsm1, hsm2⟩
    have hn4 : n ≤ 4 := by omega
    clear hdr
    have hM1 := SetX.valid_fit hn4 hv1
    have hM2 := SetX.valid_fit hn4 hv2
    have F1 : Hid (FitO cs M) := Lib.hid ⟨by omega, fitR_of (by omega)⟩
    have F2 : Hid (FitO cs2 M2) := Lib.hid ⟨by omega, fitR_of (by omega)⟩
    have V1 := Lib.hid hv1
    have V2 := Lib.hid hv2
    have SM1 := Lib.hid hsm1
    have hb2 : Below w1.heap.size w1 ((w1.alloc (.cells #[.int .i64 (n : Int), .slice A1 cs.length c1, .slice B1 M.length d1] 32)).alloc (.cells #[.int .i64 (n : Int), .slice A2 cs2.length c2, .slice B2 M2.length d2] 32)) := ((Below.refl _ _).alloc (Nat.le_refl _) _).alloc (by simp) _
    have K1 : Hid (((w1.alloc (.cells #[.int .i64 (n : Int), .slice A1 cs.length c1, .slice B1 M.length d1] 32)).alloc (.cells #[.int .i64 (n : Int), .slice A2 cs2.length c2, .slice B2 M2.length d2] 32)).heap[w1.heap.size]? = some (.cells #[.int .i64 (n : Int), .slice A1 cs.length c1, .slice B1 M.length d1] 32 (0, 0))) := Lib.hid ((Below.heap_alloc _ _ _ (by simp)).trans (heap_alloc_new w1 _))
    have K2 : Hid (((w1.alloc (.cells #[.int .i64 (n : Int), .slice A1 cs.length c1, .slice B1 M.length d1] 32)).alloc (.cells #[.int .i64 (n : Int), .slice A2 cs2.length c2, .slice B2 M2.length d2] 32)).heap[w1.heap.size + 1]? = some (.cells #[.int .i64 (n : Int), .slice A2 cs2.length c2, .slice B2 M2.length d2] 32 (0, 0))) := Lib.hid (by have h := heap_alloc_new (w1.alloc (.cells #[.int .i64 (n : Int), .slice A1 cs.length c1, .slice B1 M.length d1] 32)) (.cells #[.int .i64 (n : Int), .slice A2 cs2.length c2, .slice B2 M2.length d2] 32); rw [World.size_alloc] at h; exact h)
    have O1 := Lib.hid (ho1.below hb2)
    have O2 := Lib.hid (ho2.below hb2)
    have HBB := Lib.hid (hb1.trans (hb2.mono hb1.size))
    clear hv1 hv2 hsm1 hsm2 ho1 ho2 hb1 hb2 hM1 hM2
    have htu := drawTuple_any A0 n0 c0 n (by omega) ((w1.alloc (.cells #[.int .i64 (n : Int), .slice A1 cs.length c1, .slice B1 M.length d1] 32)).alloc (.cells #[.int .i64 (n : Int), .slice A2 cs2.length c2, .slice B2 M2.length d2] 32)) (DrawN.bytes_more HA0.out HBB.out) HZ0.out (by omega)
    obtain ⟨b1_0, b1_1, b1_2⟩ := OrbK.row3 K1.out
    go_wp2_with fail
    refine htu.mono ?_
    rintro e w2 ⟨t, At, ct, rfl, htl, hts, htA, htz, hbt⟩
    have HTL := Lib.hid htl
    have HTB := Lib.hid (DrawN.small_tup (by omega) hts)
    have HTZ := Lib.hid htz
    have htl4 : t.length ≤ 4 := by omega
    have Rt := Lib.hid htA
    clear b1_0 b1_1 b1_2
    clear htl hts htA htz htu
    have hmv := hbt
    replace K1 := Lib.hid ((hmv.block _ (OrbK.box_lt K1.out)).trans K1.out)
    replace O1 := Lib.hid (O1.out.below hmv)
    replace K2 := Lib.hid ((hmv.block _ (OrbK.box_lt K2.out)).trans K2.out)
    replace O2 := Lib.hid (O2.out.below hmv)
    replace HBB := Lib.hid (HBB.out.trans (hmv.mono HBB.out.size))
    clear hmv
    clear hbt
    obtain ⟨at0, rfl⟩ := HTZ.out
    obtain ⟨PS, hPS⟩ : ∃ l : List Int, l = SetY.revP n := ⟨_, rfl⟩
    have HPL : Hid (PS.length = n) := Lib.hid (by rw [hPS, SetY.rev_len])
    have HPA : Hid (∀ q, q < n → ∃ pn : Nat, itAt PS q = (pn : Int) ∧ (pn : Int) = (n : Int) - 1 - q ∧ pn < n) := Lib.hid (fun q hq => ⟨n - 1 - q, by rw [hPS, SetY.rev_at hq], by omega, by omega⟩)
    have hps1 : ∀ j, j < PS.length → (itAt PS j).toNat < n := fun j hj => by obtain ⟨pn, e, _, h2⟩ := HPA.out j (by rw [← HPL.out]; exact hj); rw [e]; exact h2
    have hps2 : ∀ i, i < n → ∃ j, j < PS.length ∧ (itAt PS j).toNat = i := fun i hi => ⟨n - 1 - i, by rw [HPL.out]; omega, by obtain ⟨pn, e, h1, _⟩ := HPA.out (n - 1 - i) (by omega); rw [e]; omega⟩
    have HBT := Lib.hid (SetY.tup_ex HTB.out (by rw [HPL.out]; omega) (by rw [HTL.out]; exact hps1))
    have HPL2 := HPL
    have VX : DrawN.Valid n cs (plcM cs M PS) := by have h := SetY.valid_plc (ps := PS) (m := M) V1.out.1; rw [HPL.out] at h; exact h
    have EX : Hid (hasTB n cs (plcM cs M PS) (exL t PS) = hasTB n cs M t) := Lib.hid (by have h := SetY.has_plc hn4 V1.out HPL.out hps1 hps2 HTL.out HTB.out HBT.out; rw [HPL.out] at h; exact h)
    have hok : plcOk n cs M PS = true := by unfold plcOk; rw [SetX.valid_orb hn4 V1.out, placesB_yes (z := (n : Int)) (fun j hj => by obtain ⟨pn, e, h1, h2⟩ := HPA.out j (by rw [← HPL.out]; exact hj); rw [e]; omega), HPL.out]; simp; omega
    have HCP := Lib.hid (fun (W : World) (x : Value) (C : Option Addr) (e0 : Nat) (q1 : OrbIx W x n cs M) (q2 : IntsAt W C PS) => (by have h1 := placesOfSet_impl n cs M F1.out PS (by rw [HPL.out]; omega) x C e0 W q1 q2; rw [hok, HPL.out] at h1; exact h1 : Calls Try.prog 27 #[x, .slice C n e0] W (OrbBOut n cs (plcM cs M PS) true W)))
    have HBK : Hid (∀ q, q < n → ∃ pn : Nat, itAt PS q = (pn : Int) ∧ pn < t.length ∧ (exL t PS).take (q + 1) = (exL t PS).take q ++ [itAt t pn]) := Lib.hid (fun q hq => by obtain ⟨pn, e, h1, h2⟩ := HPA.out q hq; exact ⟨pn, e, by rw [HTL.out]; exact h2, by rw [itake_next (by rw [exL_len, HPL.out]; exact hq), SetY.ex_it (by rw [HPL.out]; exact hq), e, Int.toNat_natCast]⟩)
    have HBL : Hid ((exL t PS).length = n) := Lib.hid (by rw [exL_len, HPL.out])
    have HPN : Hid (∀ (q : Nat) (iv : Int), q < n → iv = (n : Int) - 1 - q → PS.take (q + 1) = PS.take q ++ [iv]) := Lib.hid (fun q iv hq e => by obtain ⟨pn, e1, e2, _⟩ := HPA.out q hq; rw [itake_next (by rw [HPL.out]; exact hq), e1, e2, e])
    generalize exL t PS = BK at EX HBK HBL HBT
    generalize hX9 : plcM cs M PS = X at VX EX HCP
    have F5 : Hid (FitO cs X) := Lib.hid (by have h1 := SetX.valid_fit hn4 VX; have h2 := const_len V1.out.1; exact ⟨by omega, fitR_of (by omega)⟩)
    clear hPS hps1 hps2 hok hX9 VX
    have VW : DrawN.Valid (n + 1) cs (widM n cs M) := SetY.valid_wid V1.out.1
    have EW : Hid (hasTB ((n : Int) + 1) cs (widM n cs M) (t ++ [5]) = hasTB n cs M t) := Lib.hid (by have h := SetY.has_wid (t := t ++ [5]) hn3 V1.out (by rw [List.length_append, HTL.out]; rfl) (SetY.tup_of (by rw [List.length_append, HTL.out]; simp; omega) (fun a ha => by rcases List.mem_append.1 ha with h | h; exact SetY.tup_atom HTB.out a h; rw [List.mem_singleton.1 h]; omega)); rw [List.take_append_of_le_length (by rw [HTL.out]; exact Nat.le_refl _), List.take_of_length_le (by rw [HTL.out]; exact Nat.le_refl _)] at h; exact h)
    have hok2 : widOk n cs M = true := by unfold widOk; rw [SetX.valid_orb hn4 V1.out]; simp; omega
    have HCW := Lib.hid (fun (W : World) (x : Value) (q1 : OrbIx W x n cs M) => (by have h1 := widenSet_impl n cs M F1.out x W q1; rw [hok2] at h1; exact h1 : Calls Try.prog 28 #[x] W (OrbBOut ((n : Int) + 1) cs (widM n cs M) true W)))
    have F6 : Hid (FitO cs (widM n cs M)) := Lib.hid (by have h1 := SetX.valid_fit (n := n + 1) (by omega) VW; have h2 := const_len V1.out.1; exact ⟨by omega, fitR_of (by omega)⟩)
    obtain ⟨QS, hQS⟩ : ∃ l : List Int, l = SetY.firstP n := ⟨_, rfl⟩
    have HQL : Hid (QS.length = n) := Lib.hid (by rw [hQS, SetY.first_len])
    have HQN : Hid (∀ (q : Nat), q < n → QS.take (q + 1) = QS.take q ++ [(q : Int)]) := Lib.hid (fun q hq => by rw [itake_next (by rw [HQL.out]; exact hq), hQS, SetY.first_at hq])
    have HWB : Hid (plcM cs (widM n cs M) QS = M) := Lib.hid (by rw [hQS]; exact SetY.wid_back hn3 V1.out)
    have hok3 : plcOk ((n : Int) + 1) cs (widM n cs M) QS = true := by unfold plcOk; rw [show ((n : Int) + 1) = ((n + 1 : Nat) : Int) by omega, SetX.valid_orb (n := n + 1) (by omega) VW, placesB_yes (z := ((n + 1 : Nat) : Int)) (fun j hj => by rw [hQS, SetY.first_at (by rw [← HQL.out]; exact hj)]; have := HQL.out; omega), HQL.out]; simp; omega
    have HCQ := Lib.hid (fun (W : World) (x : Value) (C : Option Addr) (e0 : Nat) (q1 : OrbIx W x ((n : Int) + 1) cs (widM n cs M)) (q2 : IntsAt W C QS) => (by have h1 := placesOfSet_impl ((n : Int) + 1) cs (widM n cs M) F6.out QS (by rw [HQL.out]; omega) x C e0 W q1 q2; rw [hok3, HQL.out] at h1; rw [HWB.out] at h1; exact h1 : Calls Try.prog 27 #[x, .slice C n e0] W (OrbBOut n cs M true W)))
    generalize widM n cs M = Y at VW EW HCW F6 HWB HCQ hok3
    have SAM := Lib.hid (SetY.same_self hn4 V1.out)
    clear hok2 hok3 hQS VW
    generalize hx : hasTB n cs M t = xa at EX EW
    have EA := Lib.hid hx
    clear hx
    obtain ⟨wb, rfl⟩ : ∃ x : World, x = w2 := ⟨_, rfl⟩
    have nrb : Below wb.heap.size wb (wb.alloc (.cells #[] 3)) := (Below.refl _ _).alloc (Nat.le_refl _) _
    have nro : (wb.alloc (.cells #[] 3)).ownsRow wb.heap.size 3 1 (.slice (some ⟨wb.heap.size, 0, none⟩) 0 0) 0 [] := World.ownsRow_lit wb #[] 0 (Nat.le_refl _) (by decide) rfl
    obtain ⟨b1_0, b1_1, b1_2⟩ := OrbK.row3 K1.out
    have lb1 := OrbK.box_lt K1.out
    clear HPL2
    go_wp2
    clear b1_0 b1_1 b1_2
    clear lb1
    go_loopw [6, 7] (fun v i wr => ∃ (q : Nat) (iv : Int), q ≤ n ∧ i = .int .i64 iv ∧ Hid (iv = (n : Int) - 1 - q) ∧ -1 ≤ iv ∧ iv ≤ 3 ∧ wr.ownsRow wb.heap.size 3 1 v q (icells (PS.take q)) ∧ Below wb.heap.size wb wr) (fun _ i _ => (intOf i + 1).toNat)
    case atStart => exact ⟨0, _, Nat.zero_le _, rfl, Lib.hid (by simp), by omega, by omega, nro, nrb⟩
    case round =>
      clear nro nrb
      obtain ⟨q, iv, hq, rfl, hiv, hi1, hi3, ho, hb⟩ := hrel
      by_cases hge : 0 ≤ iv
      · have hlq : q < n := by have := hiv.out; omega
        have hpn := Lib.hid (HPN.out q iv hlq hiv.out)
        have hb3 : Below wr.heap.size wr (wr.alloc (.cells #[.int .i64 iv] 3)) := (Below.refl _ _).alloc (Nat.le_refl _) _
        have ho2 := own_below ho hb3
        have hb4 := hb.trans (hb3.mono hb.size)
        have hcell : (wr.alloc (.cells #[.int .i64 iv] 3)).cell? ⟨wr.heap.size, 0, none⟩ = some (.int .i64 iv) := by simp
        have HC := Lib.hid (DrawN.one_cell hcell)
        have hsz2 : wb.heap.size ≤ (wr.alloc (.cells #[.int .i64 iv] 3)).heap.size := by have := hb.size; simp; omega
        clear hcell ho hb3 hb 
        go_wp2_with (at_builtin; refine wpList_append_lies _ rfl (.tmp 37) (.tmp 39) 24 rfl wb.heap.size 3 i0 (.int .i64 0) 1 8 Try.underlying24 hi0 hzz hz1 HS.out rfl (by decide) _ q _ rfl ho2 ⟨wr.heap.size, 0, none⟩ 1 1 [.int .i64 iv] rfl rfl HC.out (DrawN.int_one _) (by decide) ?c3 ?c4 ?c5 _ rfl ?_)
        case c3 => unfold maxLen; omega
        case c4 => omega
        case c5 => exact hsz2
        intro g cap w3 ho7 hg7 hcase _
        have hb5 : Below wb.heap.size wb w3 := below_own hb4 ho2 (Nat.le_refl _) hsz2 hg7
        have ho8 : w3.ownsRow wb.heap.size 3 1 (.slice (some ⟨g, 0, none⟩) (q + 1) cap) (q + 1) (icells (PS.take (q + 1))) := by
          rw [hpn.out, icells_append]
          exact ho7
        clear ho7 hg7 hcase ho2 hb4 HC hsz2
        go_wp2
        refine ⟨⟨q + 1, iv - 1, by omega, rfl, Lib.hid (by have := hiv.out; omega), by omega, by omega, ho8, hb5⟩, ?_⟩
        simp only [intOf]
        omega
      · have hqn : q = n := by have := hiv.out; omega
        subst hqn
        have hfull : PS.take q = PS := List.take_of_length_le (by rw [HPL.out]; exact Nat.le_refl _)
        rw [hfull] at ho
        obtain ⟨Ap, cp, hAp, hpp⟩ := own_intsAt (l := PS) (by rw [HPL.out]; exact ho)
        rw [HPL.out] at hAp
        subst hAp
        have Rp := Lib.hid hpp
        clear hpp hfull ho hiv hi1 hi3 hq
        have hmv := hb
        replace K1 := Lib.hid ((hmv.block _ (OrbK.box_lt K1.out)).trans K1.out)
        replace O1 := Lib.hid (O1.out.below hmv)
        replace Rt := Lib.hid (Rt.out.below hmv)
        replace HBB := Lib.hid (HBB.out.trans (hmv.mono HBB.out.size))
        clear hmv
        clear hb
        obtain ⟨wc1, rfl⟩ : ∃ x : World, x = wr := ⟨_, rfl⟩
        have nrb : Below wc1.heap.size wc1 (wc1.alloc (.cells #[] 3)) := (Below.refl _ _).alloc (Nat.le_refl _) _
        have nro : (wc1.alloc (.cells #[] 3)).ownsRow wc1.heap.size 3 1 (.slice (some ⟨wc1.heap.size, 0, none⟩) 0 0) 0 [] := World.ownsRow_lit wc1 #[] 0 (Nat.le_refl _) (by decide) rfl
        go_wp2
        go_loopw [8, 9] (fun v i wr => ∃ (j : Nat), j ≤ q ∧ i = .int .i64 j ∧ wr.ownsRow wc1.heap.size 3 1 v j (icells (BK.take j)) ∧ Below wc1.heap.size wc1 wr) (fun _ i _ => q - (intOf i).toNat)
        case atStart => exact ⟨0, Nat.zero_le _, rfl, nro, nrb⟩
        case round =>
          clear nro nrb
          obtain ⟨j, hj, rfl, ho, hb⟩ := hrel
          by_cases hlj : j < q
          · obtain ⟨pn, hpe, hpl, hbk⟩ := HBK.out j hlj
            have HBN := Lib.hid hbk
            obtain ⟨bp, op, hbpe, hbp, hcp⟩ := Rp.out (by have := HPL.out; omega)
            subst hbpe
            obtain ⟨bt, ot, hbte, hbt, hct⟩ := Rt.out (by omega)
            cases hbte
            have p1 := hcp j (by rw [HPL.out]; exact hlj)
            have p2 := hct pn hpl
            rw [hpe] at p1
            rw [← hb.cell (p := ⟨bp, _, none⟩) hbp] at p1
            rw [← hb.cell (p := ⟨bt, _, none⟩) hbt] at p2
            generalize itAt t pn = x at p2 HBN
            have hji : (j : Int) < (q : Int) := by omega
            have hj0 : (0 : Int) ≤ (j : Int) := by omega
            have hpi : (pn : Int) < (t.length : Int) := by omega
            have hp0 : (0 : Int) ≤ (pn : Int) := by omega
            clear hcp hct hpe hbk
            have hb3 : Below wr.heap.size wr (wr.alloc (.cells #[.int .i64 x] 3)) := (Below.refl _ _).alloc (Nat.le_refl _) _
            have ho2 := own_below ho hb3
            have hb4 := hb.trans (hb3.mono hb.size)
            have hcell : (wr.alloc (.cells #[.int .i64 x] 3)).cell? ⟨wr.heap.size, 0, none⟩ = some (.int .i64 x) := by simp
            have HC := Lib.hid (DrawN.one_cell hcell)
            have hsz2 : wc1.heap.size ≤ (wr.alloc (.cells #[.int .i64 x] 3)).heap.size := by have := hb.size; simp; omega
            clear hcell ho hb3 hb 
            go_wp2_with (at_builtin; refine wpList_append_lies _ rfl (.tmp 48) (.tmp 56) 24 rfl wc1.heap.size 3 i0 (.int .i64 0) 1 8 Try.underlying24 hi0 hzz hz1 HS.out rfl (by decide) _ j _ rfl ho2 ⟨wr.heap.size, 0, none⟩ 1 1 [.int .i64 x] rfl rfl HC.out (DrawN.int_one _) (by decide) ?c3 ?c4 ?c5 _ rfl ?_)
            case c3 => unfold maxLen; omega
            case c4 => omega
            case c5 => exact hsz2
            intro g cap w3 ho7 hg7 hcase _
            have hb5 : Below wc1.heap.size wc1 w3 := below_own hb4 ho2 (Nat.le_refl _) hsz2 hg7
            have ho8 : w3.ownsRow wc1.heap.size 3 1 (.slice (some ⟨g, 0, none⟩) (j + 1) cap) (j + 1) (icells (BK.take (j + 1))) := by
              rw [HBN.out, icells_append]
              exact ho7
            clear ho7 hg7 hcase ho2 hb4 HC hsz2
            go_wp2
            refine ⟨⟨j + 1, by omega, by go_num, ho8, hb5⟩, ?_⟩
            simp only [intOf]
            omega
          · have e : j = q := by omega
            subst e
            have hfull : BK.take j = BK := List.take_of_length_le (by rw [HBL.out]; exact Nat.le_refl _)
            rw [hfull] at ho
            obtain ⟨Ab, cb, hAb, hpb⟩ := own_intsAt (l := BK) (by rw [HBL.out]; exact ho)
            rw [HBL.out] at hAb
            subst hAb
            have Rb := Lib.hid hpb
            clear hpb hfull ho hj
            have hmv := hb
            replace K1 := Lib.hid ((hmv.block _ (OrbK.box_lt K1.out)).trans K1.out)
            replace O1 := Lib.hid (O1.out.below hmv)
            replace Rt := Lib.hid (Rt.out.below hmv)
            replace Rp := Lib.hid (Rp.out.below hmv)
            replace HBB := Lib.hid (HBB.out.trans (hmv.mono HBB.out.size))
            clear hmv
            clear hb
            obtain ⟨wd, rfl⟩ : ∃ x : World, x = wr := ⟨_, rfl⟩
            have hco := HCP.out wd _ _ cp O1.out Rp.out
            obtain ⟨b1_0, b1_1, b1_2⟩ := OrbK.row3 K1.out
            go_wp2_with fail
            refine hco.mono ?_
            rintro e w5 ⟨A5, c5, B5, d5, S5, rfl, hLn, hSn, hbn⟩
            clear b1_0 b1_1 b1_2
            have hoi := orbOut_ix hLn
            clear hco hLn hSn
            have hmv := hbn
            replace K1 := Lib.hid ((hmv.block _ (OrbK.box_lt K1.out)).trans K1.out)
            replace O1 := Lib.hid (O1.out.below hmv)
            replace Rt := Lib.hid (Rt.out.below hmv)
            replace Rp := Lib.hid (Rp.out.below hmv)
            replace Rb := Lib.hid (Rb.out.below hmv)
            replace HBB := Lib.hid (HBB.out.trans (hmv.mono HBB.out.size))
            clear hmv
            clear hbn
            have hnb : Below w5.heap.size w5 (w5.alloc (.cells #[.int .i64 (j : Int), .slice A5 cs.length c5, .slice B5 X.length d5] 32)) := (Below.refl _ _).alloc (Nat.le_refl _) _
            have K5 := Lib.hid (heap_alloc_new w5 (.cells #[.int .i64 (j : Int), .slice A5 cs.length c5, .slice B5 X.length d5] 32))
            have O5 := Lib.hid ((hoi : OrbIx w5 (.agg #[.int .i64 (j : Int), .slice A5 cs.length c5, .slice B5 X.length d5]) (j : Int) cs X).below hnb)
            change Hid ((w5.alloc (.cells #[.int .i64 (j : Int), .slice A5 cs.length c5, .slice B5 X.length d5] 32)).heap[w5.heap.size]? = some (.cells #[.int .i64 (j : Int), .slice A5 cs.length c5, .slice B5 X.length d5] 32 (0, 0))) at K5
            have hmv := hnb
            replace K1 := Lib.hid ((hmv.block _ (OrbK.box_lt K1.out)).trans K1.out)
            replace O1 := Lib.hid (O1.out.below hmv)
            replace Rt := Lib.hid (Rt.out.below hmv)
            replace Rp := Lib.hid (Rp.out.below hmv)
            replace Rb := Lib.hid (Rb.out.below hmv)
            replace HBB := Lib.hid (HBB.out.trans (hmv.mono HBB.out.size))
            clear hmv
            clear hnb
            clear hoi
            have hxx : (xa != xa) = false := by simp
            obtain ⟨b1_0, b1_1, b1_2⟩ := OrbK.row3 K1.out
            have q1_0 := fun d os => cell_regrown b1_0 d os
            have q1_1 := fun d os => cell_regrown b1_1 d os
            have q1_2 := fun d os => cell_regrown b1_2 d os
            clear b1_0 b1_1 b1_2
            obtain ⟨b5_0, b5_1, b5_2⟩ := OrbK.row3 K5.out
            have q5_0 := fun d os => cell_regrown b5_0 d os
            have q5_1 := fun d os => cell_regrown b5_1 d os
            have q5_2 := fun d os => cell_regrown b5_2 d os
            clear b5_0 b5_1 b5_2
            have hq1 := fun d os => (by have h1 := hasTuple_impl (j : Int) cs X BK F5.out Ab cb (.agg #[.int .i64 (j : Int), .slice A5 cs.length c5, .slice B5 X.length d5]) (grow (redrawn (w5.alloc (.cells #[.int .i64 (j : Int), .slice A5 cs.length c5, .slice B5 X.length d5] 32)) d) os) (O5.out.below (below_regrown (w5.alloc (.cells #[.int .i64 (j : Int), .slice A5 cs.length c5, .slice B5 X.length d5] 32)) d os)) (Rb.out.below (below_regrown (w5.alloc (.cells #[.int .i64 (j : Int), .slice A5 cs.length c5, .slice B5 X.length d5] 32)) d os)) (by have := HBL.out; omega); rw [EX.out, HBL.out] at h1; exact h1 : Calls Try.prog 19 #[(.agg #[.int .i64 (j : Int), .slice A5 cs.length c5, .slice B5 X.length d5]), .slice Ab j cb] (grow (redrawn (w5.alloc (.cells #[.int .i64 (j : Int), .slice A5 cs.length c5, .slice B5 X.length d5] 32)) d) os) (BoolP xa (grow (redrawn (w5.alloc (.cells #[.int .i64 (j : Int), .slice A5 cs.length c5, .slice B5 X.length d5] 32)) d) os)))
            have hq2 := fun d os => (by have h1 := hasTuple_impl (j : Int) cs M t F1.out (some at0) ct (.agg #[.int .i64 (j : Int), .slice A1 cs.length c1, .slice B1 M.length d1]) (grow (redrawn (w5.alloc (.cells #[.int .i64 (j : Int), .slice A5 cs.length c5, .slice B5 X.length d5] 32)) d) os) (O1.out.below (below_regrown (w5.alloc (.cells #[.int .i64 (j : Int), .slice A5 cs.length c5, .slice B5 X.length d5] 32)) d os)) (Rt.out.below (below_regrown (w5.alloc (.cells #[.int .i64 (j : Int), .slice A5 cs.length c5, .slice B5 X.length d5] 32)) d os)) (by omega); rw [EA.out] at h1; exact h1 : Calls Try.prog 19 #[(.agg #[.int .i64 (j : Int), .slice A1 cs.length c1, .slice B1 M.length d1]), .slice (some at0) t.length ct] (grow (redrawn (w5.alloc (.cells #[.int .i64 (j : Int), .slice A5 cs.length c5, .slice B5 X.length d5] 32)) d) os) (BoolP xa (grow (redrawn (w5.alloc (.cells #[.int .i64 (j : Int), .slice A5 cs.length c5, .slice B5 X.length d5] 32)) d) os)))
            go_wp2
            refine wp_region_quiet_below (by kernel_rfl) (by kernel_rfl) ?_
            repeat (any_goals (first | go_big_quiet_step ((go_at_call 19; first | (with_reducible exact Calls.regrown_of (hq1 _ _)) | (with_reducible exact Calls.regrown_of (hq2 _ _)))) | quiet_step ((go_at_call 19; first | (with_reducible exact Calls.regrown_of (hq1 _ _)) | (with_reducible exact Calls.regrown_of (hq2 _ _))))))
            refine wpQuiet_nil ?_
            intro _ hw'
            obtain ⟨⟨dq, osq⟩, hw''⟩ := hw'
            subst hw''
            have hqz := below_regrown (w5.alloc (.cells #[.int .i64 (j : Int), .slice A5 cs.length c5, .slice B5 X.length d5] 32)) dq osq
            generalize grow (redrawn (w5.alloc (.cells #[.int .i64 (j : Int), .slice A5 cs.length c5, .slice B5 X.length d5] 32)) dq) osq = w6 at hqz ⊢
            clear q1_0 q1_1 q1_2 q5_0 q5_1 q5_2 hq1 hq2
            have hmv := hqz
            replace K1 := Lib.hid ((hmv.block _ (OrbK.box_lt K1.out)).trans K1.out)
            replace O1 := Lib.hid (O1.out.below hmv)
            replace K5 := Lib.hid ((hmv.block _ (OrbK.box_lt K5.out)).trans K5.out)
            replace O5 := Lib.hid (O5.out.below hmv)
            replace Rt := Lib.hid (Rt.out.below hmv)
            replace Rp := Lib.hid (Rp.out.below hmv)
            replace Rb := Lib.hid (Rb.out.below hmv)
            replace HBB := Lib.hid (HBB.out.trans (hmv.mono HBB.out.size))
            clear hmv
            clear hqz
            obtain ⟨wf, rfl⟩ : ∃ x : World, x = w6 := ⟨_, rfl⟩
            have hco := HCW.out wf _ O1.out
            obtain ⟨b1_0, b1_1, b1_2⟩ := OrbK.row3 K1.out
            go_wp2_with fail
            refine hco.mono ?_
            rintro e w7 ⟨A6, c6, B6, d6, S6, rfl, hLn, hSn, hbn⟩
            clear b1_0 b1_1 b1_2
            have hoi := orbOut_ix hLn
            clear hco hLn hSn
            have hmv := hbn
            replace K1 := Lib.hid ((hmv.block _ (OrbK.box_lt K1.out)).trans K1.out)
            replace O1 := Lib.hid (O1.out.below hmv)
            replace Rt := Lib.hid (Rt.out.below hmv)
            replace HBB := Lib.hid (HBB.out.trans (hmv.mono HBB.out.size))
            clear hmv
            clear hbn
            have hnb : Below w7.heap.size w7 (w7.alloc (.cells #[.int .i64 ((j : Int) + 1), .slice A6 cs.length c6, .slice B6 Y.length d6] 32)) := (Below.refl _ _).alloc (Nat.le_refl _) _
            have K6 := Lib.hid (heap_alloc_new w7 (.cells #[.int .i64 ((j : Int) + 1), .slice A6 cs.length c6, .slice B6 Y.length d6] 32))
            have O6 := Lib.hid ((hoi : OrbIx w7 (.agg #[.int .i64 ((j : Int) + 1), .slice A6 cs.length c6, .slice B6 Y.length d6]) ((j : Int) + 1) cs Y).below hnb)
            change Hid ((w7.alloc (.cells #[.int .i64 ((j : Int) + 1), .slice A6 cs.length c6, .slice B6 Y.length d6] 32)).heap[w7.heap.size]? = some (.cells #[.int .i64 ((j : Int) + 1), .slice A6 cs.length c6, .slice B6 Y.length d6] 32 (0, 0))) at K6
            have hmv := hnb
            replace K1 := Lib.hid ((hmv.block _ (OrbK.box_lt K1.out)).trans K1.out)
            replace O1 := Lib.hid (O1.out.below hmv)
            replace Rt := Lib.hid (Rt.out.below hmv)
            replace HBB := Lib.hid (HBB.out.trans (hmv.mono HBB.out.size))
            clear hmv
            clear hnb
            clear hoi
            have nrb : Below (w7.alloc (.cells #[.int .i64 ((j : Int) + 1), .slice A6 cs.length c6, .slice B6 Y.length d6] 32)).heap.size (w7.alloc (.cells #[.int .i64 ((j : Int) + 1), .slice A6 cs.length c6, .slice B6 Y.length d6] 32)) ((w7.alloc (.cells #[.int .i64 ((j : Int) + 1), .slice A6 cs.length c6, .slice B6 Y.length d6] 32)).alloc (.cells #[] 3)) := (Below.refl _ _).alloc (Nat.le_refl _) _
            have nro : ((w7.alloc (.cells #[.int .i64 ((j : Int) + 1), .slice A6 cs.length c6, .slice B6 Y.length d6] 32)).alloc (.cells #[] 3)).ownsRow (w7.alloc (.cells #[.int .i64 ((j : Int) + 1), .slice A6 cs.length c6, .slice B6 Y.length d6] 32)).heap.size 3 1 (.slice (some ⟨(w7.alloc (.cells #[.int .i64 ((j : Int) + 1), .slice A6 cs.length c6, .slice B6 Y.length d6] 32)).heap.size, 0, none⟩) 0 0) 0 [] := World.ownsRow_lit (w7.alloc (.cells #[.int .i64 ((j : Int) + 1), .slice A6 cs.length c6, .slice B6 Y.length d6] 32)) #[] 0 (Nat.le_refl _) (by decide) rfl
            obtain ⟨wg, hwg⟩ : ∃ x : World, x = (w7.alloc (.cells #[.int .i64 ((j : Int) + 1), .slice A6 cs.length c6, .slice B6 Y.length d6] 32)) := ⟨_, rfl⟩
            rw [← hwg] at K1 K6 O1 O6 Rt HBB
            go_wp2
            go_loopw [14, 15] (fun v i wr => ∃ (q : Nat), q ≤ j ∧ i = .int .i64 q ∧ wr.ownsRow wg.heap.size 3 1 v q (icells (QS.take q)) ∧ Below wg.heap.size wg wr) (fun _ i _ => j - (intOf i).toNat)
            case atStart => subst hwg; exact ⟨0, Nat.zero_le _, rfl, (by have h9 := nro; simp only [World.size_alloc] at h9 ⊢; exact h9), nrb⟩
            case round =>
              clear nro nrb hwg
              obtain ⟨q, hq, rfl, ho, hb⟩ := hrel
              have K1r := (hb.block _ (OrbK.box_lt K1.out)).trans K1.out
              obtain ⟨b1_0, b1_1, b1_2⟩ := OrbK.row3 K1r
              by_cases hlq : q < j
              · have hqn := Lib.hid (HQN.out q hlq)
                have hqi : (q : Int) < (j : Int) := by omega
                have lb1 := OrbK.box_lt K1r
                clear K1r
                have hb3 : Below wr.heap.size wr (wr.alloc (.cells #[.int .i64 (q : Int)] 3)) := (Below.refl _ _).alloc (Nat.le_refl _) _
                have ho2 := own_below ho hb3
                have hb4 := hb.trans (hb3.mono hb.size)
                have hcell : (wr.alloc (.cells #[.int .i64 (q : Int)] 3)).cell? ⟨wr.heap.size, 0, none⟩ = some (.int .i64 (q : Int)) := by simp
                have HC := Lib.hid (DrawN.one_cell hcell)
                have hsz2 : wg.heap.size ≤ (wr.alloc (.cells #[.int .i64 (q : Int)] 3)).heap.size := by have := hb.size; simp; omega
                clear hcell ho hb3 hb 
                go_wp2_with (at_builtin; refine wpList_append_lies _ rfl (.tmp 89) (.tmp 91) 24 rfl wg.heap.size 3 i0 (.int .i64 0) 1 8 Try.underlying24 hi0 hzz hz1 HS.out rfl (by decide) _ q _ rfl ho2 ⟨wr.heap.size, 0, none⟩ 1 1 [.int .i64 (q : Int)] rfl rfl HC.out (DrawN.int_one _) (by decide) ?c3 ?c4 ?c5 _ rfl ?_)
                case c3 => unfold maxLen; omega
                case c4 => omega
                case c5 => exact hsz2
                intro g cap w3 ho7 hg7 hcase _
                have hb5 : Below wg.heap.size wg w3 := below_own hb4 ho2 (Nat.le_refl _) hsz2 hg7
                have ho8 : w3.ownsRow wg.heap.size 3 1 (.slice (some ⟨g, 0, none⟩) (q + 1) cap) (q + 1) (icells (QS.take (q + 1))) := by
                  rw [hqn.out, icells_append]
                  exact ho7
                clear ho7 hg7 hcase ho2 hb4 HC hsz2
                go_wp2
                refine ⟨⟨q + 1, by omega, by go_num, ho8, hb5⟩, ?_⟩
                simp only [intOf]
                omega
              · have e : q = j := by omega
                subst e
                have hfull : QS.take q = QS := List.take_of_length_le (by rw [HQL.out]; exact Nat.le_refl _)
                rw [hfull] at ho
                obtain ⟨Aq, cq, hAq, hpq⟩ := own_intsAt (l := QS) (by rw [HQL.out]; exact ho)
                rw [HQL.out] at hAq
                subst hAq
                have Rq := Lib.hid hpq
                clear hpq hfull ho hq K1r b1_0 b1_1 b1_2
                have hmv := hb
                replace K1 := Lib.hid ((hmv.block _ (OrbK.box_lt K1.out)).trans K1.out)
                replace O1 := Lib.hid (O1.out.below hmv)
                replace K6 := Lib.hid ((hmv.block _ (OrbK.box_lt K6.out)).trans K6.out)
                replace O6 := Lib.hid (O6.out.below hmv)
                replace Rt := Lib.hid (Rt.out.below hmv)
                replace HBB := Lib.hid (HBB.out.trans (hmv.mono HBB.out.size))
                clear hmv
                clear hb
                obtain ⟨wh, rfl⟩ : ∃ x : World, x = wr := ⟨_, rfl⟩
                have k9 := K1.out
                obtain ⟨b1_0, b1_1, b1_2⟩ := OrbK.row3 k9
                clear k9
                have hco := HCQ.out wh _ _ cq O6.out Rq.out
                obtain ⟨b6_0, b6_1, b6_2⟩ := OrbK.row3 K6.out
                go_wp2_with fail
                refine hco.mono ?_
                rintro e w8 ⟨A7, c7, B7, d7, S7, rfl, hLn, hSn, hbn⟩
                clear b6_0 b6_1 b6_2
                have hoi := orbOut_ix hLn
                clear hco hLn hSn
                have hmv := hbn
                replace K1 := Lib.hid ((hmv.block _ (OrbK.box_lt K1.out)).trans K1.out)
                replace O1 := Lib.hid (O1.out.below hmv)
                replace K6 := Lib.hid ((hmv.block _ (OrbK.box_lt K6.out)).trans K6.out)
                replace O6 := Lib.hid (O6.out.below hmv)
                replace Rt := Lib.hid (Rt.out.below hmv)
                replace Rq := Lib.hid (Rq.out.below hmv)
                replace HBB := Lib.hid (HBB.out.trans (hmv.mono HBB.out.size))
                clear hmv
                clear hbn
                have hnb : Below w8.heap.size w8 (w8.alloc (.cells #[.int .i64 (q : Int), .slice A7 cs.length c7, .slice B7 M.length d7] 32)) := (Below.refl _ _).alloc (Nat.le_refl _) _
                have K7 := Lib.hid (heap_alloc_new w8 (.cells #[.int .i64 (q : Int), .slice A7 cs.length c7, .slice B7 M.length d7] 32))
                have O7 := Lib.hid ((hoi : OrbIx w8 (.agg #[.int .i64 (q : Int), .slice A7 cs.length c7, .slice B7 M.length d7]) (q : Int) cs M).below hnb)
                change Hid ((w8.alloc (.cells #[.int .i64 (q : Int), .slice A7 cs.length c7, .slice B7 M.length d7] 32)).heap[w8.heap.size]? = some (.cells #[.int .i64 (q : Int), .slice A7 cs.length c7, .slice B7 M.length d7] 32 (0, 0))) at K7
                have hmv := hnb
                replace K1 := Lib.hid ((hmv.block _ (OrbK.box_lt K1.out)).trans K1.out)
                replace O1 := Lib.hid (O1.out.below hmv)
                replace K6 := Lib.hid ((hmv.block _ (OrbK.box_lt K6.out)).trans K6.out)
                replace O6 := Lib.hid (O6.out.below hmv)
                replace Rt := Lib.hid (Rt.out.below hmv)
                replace Rq := Lib.hid (Rq.out.below hmv)
                replace HBB := Lib.hid (HBB.out.trans (hmv.mono HBB.out.size))
                clear hmv
                clear hnb
                clear hoi
                clear b1_0 b1_1 b1_2
                have HSC : Hid (∀ W : World, Below (w8.alloc (.cells #[.int .i64 (q : Int), .slice A7 cs.length c7, .slice B7 M.length d7] 32)).heap.size (w8.alloc (.cells #[.int .i64 (q : Int), .slice A7 cs.length c7, .slice B7 M.length d7] 32)) W → (W.cell? ⟨w1.heap.size, 0, none⟩ = some (.int .i64 (q : Int)) ∧ W.cell? ⟨w1.heap.size, 1, none⟩ = some (.slice A1 cs.length c1) ∧ W.cell? ⟨w1.heap.size, 2, none⟩ = some (.slice B1 M.length d1)) ∧ (W.cell? ⟨w7.heap.size, 0, none⟩ = some (.int .i64 ((q : Int) + 1)) ∧ W.cell? ⟨w7.heap.size, 1, none⟩ = some (.slice A6 cs.length c6) ∧ W.cell? ⟨w7.heap.size, 2, none⟩ = some (.slice B6 Y.length d6)) ∧ (W.cell? ⟨w8.heap.size, 0, none⟩ = some (.int .i64 (q : Int)) ∧ W.cell? ⟨w8.heap.size, 1, none⟩ = some (.slice A7 cs.length c7) ∧ W.cell? ⟨w8.heap.size, 2, none⟩ = some (.slice B7 M.length d7))) := Lib.hid (fun W k => by
                  obtain ⟨b1_0, b1_1, b1_2⟩ := OrbK.row3 K1.out
                  have l1 := OrbK.box_lt K1.out
                  obtain ⟨b6_0, b6_1, b6_2⟩ := OrbK.row3 K6.out
                  have l6 := OrbK.box_lt K6.out
                  obtain ⟨b7_0, b7_1, b7_2⟩ := OrbK.row3 K7.out
                  have l7 := OrbK.box_lt K7.out
                  exact ⟨⟨(k.cell (p := ⟨w1.heap.size, 0, none⟩) l1).trans b1_0, (k.cell (p := ⟨w1.heap.size, 1, none⟩) l1).trans b1_1, (k.cell (p := ⟨w1.heap.size, 2, none⟩) l1).trans b1_2⟩, ⟨(k.cell (p := ⟨w7.heap.size, 0, none⟩) l6).trans b6_0, (k.cell (p := ⟨w7.heap.size, 1, none⟩) l6).trans b6_1, (k.cell (p := ⟨w7.heap.size, 2, none⟩) l6).trans b6_2⟩, ⟨(k.cell (p := ⟨w8.heap.size, 0, none⟩) l7).trans b7_0, (k.cell (p := ⟨w8.heap.size, 1, none⟩) l7).trans b7_1, (k.cell (p := ⟨w8.heap.size, 2, none⟩) l7).trans b7_2⟩⟩)
                have hxe : (xa == xa) = true := by simp
                obtain ⟨u, hu⟩ : ∃ l : List Int, l = t ++ [5] := ⟨_, rfl⟩
                rw [← hu] at EW
                have UI := Lib.hid (show icells t ++ icells [5] = icells u by rw [hu, icells_append])
                have UL := Lib.hid (show t.length + [(5 : Int)].length = u.length by rw [hu, List.length_append])
                have hul : u.length ≤ 5 := by rw [← UL.out]; simp; omega
                clear hu
                have hdw : Below (w8.alloc (.cells #[.int .i64 (q : Int), .slice A7 cs.length c7, .slice B7 M.length d7] 32)).heap.size (w8.alloc (.cells #[.int .i64 (q : Int), .slice A7 cs.length c7, .slice B7 M.length d7] 32)) (w8.alloc (.cells #[.int .i64 (q : Int), .slice A7 cs.length c7, .slice B7 M.length d7] 32)).drew := ⟨rfl, rfl, rfl, Nat.le_refl _, fun _ _ => rfl⟩
                obtain ⟨⟨f1_0, f1_1, f1_2⟩, ⟨f6_0, f6_1, f6_2⟩, ⟨f7_0, f7_1, f7_2⟩⟩ := HSC.out (w8.alloc (.cells #[.int .i64 (q : Int), .slice A7 cs.length c7, .slice B7 M.length d7] 32)).drew hdw
                have hq0 := (by have h1 := sameSet_impl (q : Int) cs M F1.out _ (q : Int) cs M F1.out _ (w8.alloc (.cells #[.int .i64 (q : Int), .slice A7 cs.length c7, .slice B7 M.length d7] 32)).drew (O7.out.below hdw) (O1.out.below hdw); rw [SAM.out] at h1; exact h1 : Calls Try.prog 26 #[(.agg #[.int .i64 (q : Int), .slice A7 cs.length c7, .slice B7 M.length d7]), (.agg #[.int .i64 (q : Int), .slice A1 cs.length c1, .slice B1 M.length d1])] (w8.alloc (.cells #[.int .i64 (q : Int), .slice A7 cs.length c7, .slice B7 M.length d7] 32)).drew (BoolP true (w8.alloc (.cells #[.int .i64 (q : Int), .slice A7 cs.length c7, .slice B7 M.length d7] 32)).drew))
                go_wp2
                go_region_held3 (fun w' => (w'.cell? ⟨w1.heap.size, 0, none⟩ = some (.int .i64 (q : Int)) ∧ w'.cell? ⟨w1.heap.size, 1, none⟩ = some (.slice A1 cs.length c1) ∧ w'.cell? ⟨w1.heap.size, 2, none⟩ = some (.slice B1 M.length d1)) ∧ (w'.cell? ⟨w7.heap.size, 0, none⟩ = some (.int .i64 ((q : Int) + 1)) ∧ w'.cell? ⟨w7.heap.size, 1, none⟩ = some (.slice A6 cs.length c6) ∧ w'.cell? ⟨w7.heap.size, 2, none⟩ = some (.slice B6 Y.length d6)) ∧ (w'.cell? ⟨w8.heap.size, 0, none⟩ = some (.int .i64 (q : Int)) ∧ w'.cell? ⟨w8.heap.size, 1, none⟩ = some (.slice A7 cs.length c7) ∧ w'.cell? ⟨w8.heap.size, 2, none⟩ = some (.slice B7 M.length d7)))
                  ((refine HSC.out _ ?_; (repeat (first | (with_reducible assumption) | (with_reducible refine grow_drew ?_) | (with_reducible refine grow_alloc ?_ _)))))
                  (first
                  | (go_at_call 26; (with_reducible refine hq0.mono ?_); rintro e wa ⟨rfl, hbq0⟩; have fa := hdw.trans (hbq0.mono hdw.size); have hE := grow_alloc (Below.refl _ wa) (.cells #[] 3); have hF := grow_alloc (Below.refl _ wa) (.cells #[.int .i64 5] 3); have hEF := grow_alloc hE (.cells #[.int .i64 5] 3); have hFE := grow_alloc hF (.cells #[] 3); have hoA : (wa.alloc (.cells #[] 3)).ownsRow wa.heap.size 3 1 (.slice (some ⟨wa.heap.size, 0, none⟩) 0 0) 0 [] := World.ownsRow_lit wa #[] 0 (Nat.le_refl _) (by decide) rfl; have hoB := hoA.alloc (.cells #[.int .i64 5] 3); have hoC : ((wa.alloc (.cells #[.int .i64 5] 3)).alloc (.cells #[] 3)).ownsRow wa.heap.size 3 1 (.slice (some ⟨wa.heap.size + 1, 0, none⟩) 0 0) 0 [] := (by have h9 : ((wa.alloc (.cells #[.int .i64 5] 3)).alloc (.cells #[] 3)).ownsRow (wa.alloc (.cells #[.int .i64 5] 3)).heap.size 3 1 (.slice (some ⟨(wa.alloc (.cells #[.int .i64 5] 3)).heap.size, 0, none⟩) 0 0) 0 [] := World.ownsRow_lit (wa.alloc (.cells #[.int .i64 5] 3)) #[] 0 (Nat.le_refl _) (by decide) rfl; rw [World.size_alloc] at h9; exact own_le h9 (Nat.le_succ _)); have h5B : IntsAt ((wa.alloc (.cells #[] 3)).alloc (.cells #[.int .i64 5] 3)) (some ⟨wa.heap.size + 1, 0, none⟩) [5] := lit_ints (by have h9 := heap_alloc_new (wa.alloc (.cells #[] 3)) (.cells #[.int .i64 5] 3); rw [World.size_alloc] at h9; exact h9); have h5C : IntsAt ((wa.alloc (.cells #[.int .i64 5] 3)).alloc (.cells #[] 3)) (some ⟨wa.heap.size, 0, none⟩) [5] := (lit_ints (heap_alloc_new wa (.cells #[.int .i64 5] 3))).below ((Below.refl _ _).alloc (Nat.le_refl _) _); have htA := Rt.out.below (fa.trans (hE.mono fa.size)); have htB := Rt.out.below (fa.trans (hEF.mono fa.size)); have htC := Rt.out.below (fa.trans (hFE.mono fa.size)); obtain ⟨⟨g1_0, g1_1, g1_2⟩, ⟨g6_0, g6_1, g6_2⟩, ⟨g7_0, g7_1, g7_2⟩⟩ := HSC.out wa fa)
                  | ((with_reducible change if Region.wanted _ _ = true then Oper.wp _ _ _ (wa.alloc (.cells #[] 3)) _ _ else _); refine step_append_intsG (by rfl) _ _ (by rfl) wa.heap.size _ 0 [] (by rfl) hoA at0 ct t (by rfl) htA (by omega) (hE.size) ?_; intro v4 w4 ho4 hg4; rw [Nat.zero_add, List.nil_append] at ho4; have hb4 := below_own hE hoA (Nat.le_refl _) hE.size hg4; have hb5 := grow_alloc hb4 (.cells #[.int .i64 5] 3); have ho5 := ho4.alloc (.cells #[.int .i64 5] 3); have hone : IntsAt (w4.alloc (.cells #[.int .i64 5] 3)) (some ⟨w4.heap.size, 0, none⟩) [5] := lit_ints (heap_alloc_new w4 (.cells #[.int .i64 5] 3)); have fb := fa.trans (hb4.mono fa.size); obtain ⟨⟨i1_0, i1_1, i1_2⟩, ⟨i6_0, i6_1, i6_2⟩, ⟨i7_0, i7_1, i7_2⟩⟩ := HSC.out w4 fb)
                  | ((with_reducible change if Region.wanted _ _ = true then Oper.wp _ _ _ ((wa.alloc (.cells #[] 3)).alloc (.cells #[.int .i64 5] 3)) _ _ else _); refine step_append_intsG (by rfl) _ _ (by rfl) wa.heap.size _ 0 [] (by rfl) hoB at0 ct t (by rfl) htB (by omega) (hEF.size) ?_; intro v4 w4 ho4 hg4; rw [Nat.zero_add, List.nil_append] at ho4; have hb4 := below_own hEF hoB (Nat.le_refl _) hEF.size hg4; have hb5 := hb4; have ho5 := ho4; have hone : IntsAt w4 (some ⟨wa.heap.size + 1, 0, none⟩) [5] := (by intro hh; obtain ⟨bb, oo, ee, hlt, hcc⟩ := h5B hh; injection ee with ee; injection ee with e1 e2; subst e1; subst e2; exact ⟨_, _, rfl, Nat.lt_of_lt_of_le hlt hg4.size, fun i hi => (World.cell?_of_block (a := ⟨_, _, none⟩) (hg4.block _ hlt (by simp [Value.ownBlock]))).trans (hcc i hi)⟩); have fb := fa.trans (hb4.mono fa.size); obtain ⟨⟨i1_0, i1_1, i1_2⟩, ⟨i6_0, i6_1, i6_2⟩, ⟨i7_0, i7_1, i7_2⟩⟩ := HSC.out w4 fb)
                  | ((with_reducible change if Region.wanted _ _ = true then Oper.wp _ _ _ ((wa.alloc (.cells #[.int .i64 5] 3)).alloc (.cells #[] 3)) _ _ else _); refine step_append_intsG (by rfl) _ _ (by rfl) wa.heap.size _ 0 [] (by rfl) hoC at0 ct t (by rfl) htC (by omega) (hFE.size) ?_; intro v4 w4 ho4 hg4; rw [Nat.zero_add, List.nil_append] at ho4; have hb4 := below_own hFE hoC (Nat.le_refl _) hFE.size hg4; have hb5 := hb4; have ho5 := ho4; have hone : IntsAt w4 (some ⟨wa.heap.size, 0, none⟩) [5] := (by intro hh; obtain ⟨bb, oo, ee, hlt, hcc⟩ := h5C hh; injection ee with ee; injection ee with e1 e2; subst e1; subst e2; exact ⟨_, _, rfl, Nat.lt_of_lt_of_le hlt hg4.size, fun i hi => (World.cell?_of_block (a := ⟨_, _, none⟩) (hg4.block _ hlt (by simp [Value.ownBlock]))).trans (hcc i hi)⟩); have fb := fa.trans (hb4.mono fa.size); obtain ⟨⟨i1_0, i1_1, i1_2⟩, ⟨i6_0, i6_1, i6_2⟩, ⟨i7_0, i7_1, i7_2⟩⟩ := HSC.out w4 fb)
                  | (refine step_append_intsG (by rfl) _ _ (by rfl) wa.heap.size _ t.length _ (by rfl) ho5 _ 1 [5] (by rfl) hone (by simp; omega) hb5.size ?_; intro v6 w6 ho6 hg6; rw [UI.out, UL.out] at ho6; obtain ⟨Au, cu, rfl, hA6⟩ := own_intsAt ho6; have hb6 := below_own hb5 ho5 (Nat.le_refl _) hb5.size hg6; have fc := fa.trans (hb6.mono fa.size); obtain ⟨⟨k1_0, k1_1, k1_2⟩, ⟨k6_0, k6_1, k6_2⟩, ⟨k7_0, k7_1, k7_2⟩⟩ := HSC.out w6 fc; have hq1 := (by have h1 := hasTuple_impl ((q : Int) + 1) cs Y u F6.out Au cu (.agg #[.int .i64 ((q : Int) + 1), .slice A6 cs.length c6, .slice B6 Y.length d6]) w6 (O6.out.below fc) hA6 (by omega); rw [EW.out] at h1; exact h1 : Calls Try.prog 19 #[(.agg #[.int .i64 ((q : Int) + 1), .slice A6 cs.length c6, .slice B6 Y.length d6]), .slice Au u.length cu] w6 (BoolP xa w6)))
                  | (go_at_call 19; (with_reducible refine hq1.mono ?_); rintro e wx ⟨rfl, hbx⟩; have fd := fc.trans (hbx.mono fc.size); obtain ⟨⟨l1_0, l1_1, l1_2⟩, ⟨l6_0, l6_1, l6_2⟩, ⟨l7_0, l7_1, l7_2⟩⟩ := HSC.out wx fd; have hq2 := (by have h1 := hasTuple_impl (q : Int) cs M t F1.out (some at0) ct (.agg #[.int .i64 (q : Int), .slice A1 cs.length c1, .slice B1 M.length d1]) wx (O1.out.below fd) (Rt.out.below fd) (by omega); rw [EA.out] at h1; exact h1 : Calls Try.prog 19 #[(.agg #[.int .i64 (q : Int), .slice A1 cs.length c1, .slice B1 M.length d1]), .slice (some at0) t.length ct] wx (BoolP xa wx)))
                  | (go_at_call 19; (with_reducible refine hq2.mono ?_); rintro e wy ⟨rfl, hby⟩; have fe := fd.trans (hby.mono fd.size); obtain ⟨⟨m1_0, m1_1, m1_2⟩, ⟨m6_0, m6_1, m6_2⟩, ⟨m7_0, m7_1, m7_2⟩⟩ := HSC.out wy fe)
                  | fail)
                all_goals
                  have hbz := HBB.out.trans (fe.mono HBB.out.size)
                  go_wp2
                  go_ret
                  exact ⟨rfl, hbz⟩
  · have hbig : 4096 < n0 := by omega
    clear hn hA0
    go_enter Try.func7, Try.ntmps7
    go_wp2_with (go_at_call 9; refine (big_yes _ _ _ _ hbig (by omega)).mono ?_; rintro e w' ⟨rfl, rfl⟩)
    go_ret
    exact ⟨rfl, Below.refl _ _⟩

set_option maxRecDepth 100000 in
theorem lifted (os : Os) (started : os.Started) (H : Type) (enc : TypeId × Value → H) :
    ReturnsInHanded {} Try.checked os 7 .any (Rows.fnPlacesSpec.pre6 enc Try.prog Try.f7 Rows.fnPlacesRow.domain false) (Rows.fnPlacesSpec.post enc Try.prog Try.f7 false true false false) := by
  refine returnsInHanded_of_change (C := Try.checked) own started (by kernel_rfl) Try.func7
    (ChangeSpec.witness6 (enc := enc) (C := Try.checked) false ⟨#[], #[.slice none 0 0], []⟩ 8 (by kernel_rfl) (by kernel_rfl) (by kernel_rfl) (by kernel_rfl)) ?_
  intro W base args ds gs before hval0 hW hcnd _
  have hval : ∀ (j : Nat) t v, Try.f7.params[j]? = some t → args[j]? = some v → Value.okWide Try.prog W .any base t v := hval0
  have hW' := hW
  obtain ⟨p, q, hA0, hV, rfl, hfz, hnd⟩ := hW
  have hA : DataW.TrodAll enc Try.prog W 0 (fun _ => true) true Try.f7.params.toList args.toList ds p := hA0
  rw [Try.params7] at hA hval
  obtain ⟨v0, vs0, d0, ds0, p0, q0, hargs, rfl, rfl, h0, r0⟩ := trodAll_cons hA
  obtain ⟨rfl, rfl, rfl⟩ := trodAll_nil r0
  obtain rfl : args = #[v0] := by cases args; simp_all
  obtain ⟨rfl, rfl⟩ := trodVars_none hV
  have k0 := h0
  have lt0 : ∀ x ∈ p0, x.block < W.heap.size := by obtain ⟨m, hm⟩ := k0; exact DataW.trod_lt m _ _ _ hm
  obtain ⟨A0, n0, c0, rfl⟩ := okWide_slice Try.underlying22 (hval 0 22 v0 rfl rfl)
  obtain ⟨w0, m0⟩ := open_bytesL h0
  clear hA0 hval0
  refine (walk W A0 c0 n0 w0 (open_bytesZ h0) m0).mono fun e W' ⟨he, bel⟩ => ?_
  subst he
  exact ⟨_, rfl, _, _, _, [], _, [], hW', trodAll_mk1 (shut_bool Try.underlying4 _), (trodAll_cons_mk (Below.trod laidOut (by kernel_rfl) (of_decide_eq_true (by kernel_rfl)) k0 bel lt0) trodAll_mk0), rfl, bel.frame _, fun h => by cases h⟩

theorem over : Rows.fnPlacesRow.holds Try.pinned (OpenSpec.ofChange Rows.fnPlacesSpec) :=
  OpenClaim.holds_of_wide 7 Try.f7 rfl rfl rfl rfl rfl rfl rfl ⟨rfl, rfl, rfl, rfl, rfl⟩ rfl rfl rfl rfl rfl (by kernel_rfl) Try.func7 (by kernel_rfl)
    (of_decide_eq_true (by kernel_rfl)) (by unfold Func.isWrapper; first | (rw [if_pos (by decide +kernel)]; kernel_rfl) | (rw [if_neg (by decide +kernel)]; exact ⟨rfl, rfl⟩))
    (fun os started H enc _ => lifted os started H enc)

theorem proved : Rows.FnPlacesSaid := over
#print axioms proved
end Go.Proofs.Ytnamlgacjhnpnaa.fnPlaces
