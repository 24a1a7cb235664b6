/-
  The law FnCounted returns true for every code of bytes: a drawn set of patterns has as many tuples over six atoms as its count says, and its complement has all the others. No condition.
-/
import Derived.Test.YtnamlgacjhnpnaaKCounted23
import Derived.Test.YtnamlgacjhnpnaaKCounted26
import Derived.Test.YtnamlgacjhnpnaaKCounted15
import Derived.Test.YtnamlgacjhnpnaaKCounted3
import Derived.Test.YtnamlgacjhnpnaaKCounted27
namespace Go.Proofs.Ytnamlgacjhnpnaa.fnCounted
open Go.ChangeShapes Go.WideShapes Go.ChangeAt Go.RowKit
set_option linter.unusedVariables false

theorem big_no (A : Option Addr) (n c : Nat) (w : World) (h : n ≤ 4096) : Calls Try.prog 9 #[.slice A n c] w fun e w' => e = .returned (.bool false) ∧ w = w' := by
  have k0 : decide ((4096 : Int) < n) = false := by simp; omega
  go_enter Try.func9, Try.ntmps9
  go_wp2
  go_ret
  exact ⟨rfl, rfl⟩

theorem big_yes (A : Option Addr) (n c : Nat) (w : World) (h : 4096 < n) (h2 : n ≤ 9223372036854775807) : Calls Try.prog 9 #[.slice A n c] w fun e w' => e = .returned (.bool true) ∧ w = w' := by
  have k0 : decide ((4096 : Int) < n) = true := by simp; omega
  go_enter Try.func9, Try.ntmps9
  go_wp2
  go_ret
  exact ⟨rfl, rfl⟩

theorem open_bytesZ {H : Type} {enc : TypeId × Value → H} {W : World} {A : Option Addr} {n c : Nat} {d : DataW H} {p : List MemPlace}
    (h : DataW.Trod enc Try.prog W 0 (fun _ => true) true 22 (.slice A n c) d p) : A = none → c = 0 := by
  obtain ⟨fuel, hf⟩ := h
  rcases open_ints Try.underlying22 Try.underlying5 (by kernel_rfl) hf with ⟨hcs, _⟩ | ⟨x, len, cap, zs, hcs, _⟩
  · simp [Value.cells] at hcs
    exact fun _ => hcs.2.2
  · simp [Value.cells] at hcs
    rw [hcs.1]
    intro e
    cases e

open Go.Sort in
set_option maxRecDepth 100000 in
set_option maxHeartbeats 8000000 in
theorem walk (w : World) (A0 : Option Addr) (c0 n0 : Nat) (hA0 : BytesIn w A0 n0) (hz0 : A0 = none → c0 = 0) (hm0 : n0 ≤ maxLen) :
    Calls Try.prog 5 #[.slice A0 n0 c0] w fun e w' => e = .returned (.bool true) ∧ Below w.heap.size w w' := by
  obtain ⟨i0, hi0, hz0', hz1, hz2⟩ := info_parts DrawN.int_info
  have HS := Lib.hid hz2
  clear hz2
  unfold maxLen at hm0
  by_cases hn : n0 ≤ 4096
  · have hdr := drawSets_any A0 n0 c0 w hA0 (by omega)
    clear hz0
    go_enter Try.func5, Try.ntmps5
    go_wp2_with (first | (go_at_call 9; refine (big_no _ _ _ _ hn).mono ?_; rintro e w' ⟨rfl, rfl⟩) | fail)
    refine hdr.mono ?_
    rintro e w1 ⟨n, cs, cs2, M, M2, A1, B1, A2, B2, c1, d1, c2, d2, rfl, hn3, hl1, _, hv, _, ho1, _, hb1, hsm, _⟩
    have hn4 : n ≤ 4 := by omega
    have hM4 := SetX.valid_fit hn4 hv
    have hf : FitO cs M := ⟨by omega, fitR_of (by omega)⟩
    have hor := SetX.valid_orb hn4 hv
    have hb2 : Below w1.heap.size w1 ((w1.alloc (.cells #[.int .i64 (n : Int), .slice A1 cs.length c1, .slice B1 M.length d1] 32)).alloc (.cells #[.int .i64 (n : Int), .slice A2 cs2.length c2, .slice B2 M2.length d2] 32)) := ((Below.refl _ _).alloc (Nat.le_refl _) _).alloc (by simp) _
    have k0 : ((w1.alloc (.cells #[.int .i64 (n : Int), .slice A1 cs.length c1, .slice B1 M.length d1] 32)).alloc (.cells #[.int .i64 (n : Int), .slice A2 cs2.length c2, .slice B2 M2.length d2] 32)).heap[w1.heap.size]? = some (.cells #[.int .i64 (n : Int), .slice A1 cs.length c1, .slice B1 M.length d1] 32 (0, 0)) := (Below.heap_alloc _ _ _ (by simp)).trans (heap_alloc_new w1 _)
    have HCN := Lib.hid (SetN.counted hn4 hsm hv)
    have HHS := Lib.hid (fun (W : World) (h : Below w1.heap.size w1 W) X C cc (hC : IntsAt W C X) (hl : X.length ≤ 1048576) => hasTuple_impl n cs M X hf C cc _ W (ho1.below h) hC hl)
    have HCT := Lib.hid (fun (W : World) (h : Below w1.heap.size w1 W) => countTuples_impl n cs M 6 hf _ W (ho1.below h))
    have hcok : cntOk n cs M 6 = true := by unfold cntOk; rw [hor]; simp; omega
    rw [cntR_yes hcok] at HCT
    have HCP := Lib.hid (fun (W : World) (h : Below w1.heap.size w1 W) => (by have h1 := complement_impl n cs M hf _ W (ho1.below h); rw [hor] at h1; exact h1 : Calls Try.prog 15 #[.agg #[.int .i64 (n : Int), .slice A1 cs.length c1, .slice B1 M.length d1]] W (OrbOut n cs (cplL n cs M) W)))
    have hfk : FitO cs (cplL n cs M) := by
      have h1 := cplFit n cs M
      rw [hor] at h1
      exact h1
    have hork := SetX.cpl_orb M hn4 hv.1
    have hcok2 : cntOk n cs (cplL n cs M) 6 = true := by unfold cntOk; rw [hork]; simp; omega
    have HCK := Lib.hid (fun x (W : World) (h : OrbIx W x n cs (cplL n cs M)) => countTuples_impl n cs (cplL n cs M) 6 hfk x W h)
    rw [cntR_yes hcok2] at HCK
    have HB1 := Lib.hid hb1
    have hg0 : w1.heap.size < ((w1.alloc (.cells #[.int .i64 (n : Int), .slice A1 cs.length c1, .slice B1 M.length d1] 32)).alloc (.cells #[.int .i64 (n : Int), .slice A2 cs2.length c2, .slice B2 M2.length d2] 32)).heap.size := by simp; omega
    obtain ⟨g3, hg3⟩ : ∃ g : Nat, g = w1.heap.size := ⟨_, rfl⟩
    have hx3 : g3 < ((w1.alloc (.cells #[.int .i64 (n : Int), .slice A1 cs.length c1, .slice B1 M.length d1] 32)).alloc (.cells #[.int .i64 (n : Int), .slice A2 cs2.length c2, .slice B2 M2.length d2] 32)).heap.size := by rw [hg3]; exact hg0
    rw [← hg3] at k0
    clear hdr hA0 hf ho1 hor hb1 hfk hcok hcok2 hork hsm hv hM4 hl1 hg0
    go_wp2
    rw [← hg3]
    clear hg3
    generalize ((w1.alloc (.cells #[.int .i64 (n : Int), .slice A1 cs.length c1, .slice B1 M.length d1] 32)).alloc (.cells #[.int .i64 (n : Int), .slice A2 cs2.length c2, .slice B2 M2.length d2] 32)) = w2 at hb2 k0 hx3 ⊢
    go_loopw [6, 7] (fun wh i wr => ∃ (q : Nat) (wv : Int), q ≤ n ∧ wh = .int .i64 wv ∧ i = .int .i64 q ∧ Hid (wv = ((6 ^ q : Nat) : Int) ∧ 0 ≤ wv ∧ wv ≤ 10000) ∧ w2 = wr) (fun _ i _ => n - (intOf i).toNat)
    case atStart => exact ⟨0, 1, Nat.zero_le _, rfl, rfl, Lib.hid ⟨rfl, by omega, by omega⟩, rfl⟩
    case round =>
      obtain ⟨q, wv, hq, rfl, rfl, hwv, rfl⟩ := hrel
      obtain ⟨b0, b1, b2⟩ := OrbK.row3 k0
      by_cases hlq : q < n
      · have hw1 : 0 ≤ wv ∧ wv ≤ 10000 := hwv.out.2
        have hqi : (q : Int) < (n : Int) := by omega
        have HWV : Hid (IntKind.i64.wrap (wv * 6) = ((6 ^ (q + 1) : Nat) : Int) ∧ 0 ≤ IntKind.i64.wrap (wv * 6) ∧ IntKind.i64.wrap (wv * 6) ≤ 10000) := Lib.hid (by
          rw [IntWalk.i64_in _ (by omega)]
          have h1 := hwv.out.1
          have h2 : (6 ^ q : Nat) ≤ 6 ^ 2 := Nat.pow_le_pow_right (by omega) (by omega)
          rw [Nat.pow_succ]
          omega)
        clear hw1 hwv
        go_wp2
        refine ⟨⟨q + 1, _, by omega, rfl, by go_num, Lib.hid (by have := HWV.out; rw [IntWalk.i64_left] at this; exact this), trivial⟩, ?_⟩
        simp only [intOf]
        omega
      · have e : q = n := by omega
        subst e
        clear hlq hq
        have hwi := hwv.out.2
        obtain ⟨wn, hwn⟩ : ∃ k : Nat, wv = (k : Int) := ⟨wv.toNat, by omega⟩
        subst hwn
        have hwn2 : wn ≤ 10000 := by omega
        have HWN : Hid (wn = 6 ^ q) := Lib.hid (by have := hwv.out.1; omega)
        clear hwv hwi
        go_wp2
        clear b0 b1 b2
        go_loopw [8, 9, 10, 11, 12] (fun cnt k _ _ _ wr => ∃ (j : Nat) (cv : Nat), j ≤ wn ∧ cnt = .int .i64 cv ∧ k = .int .i64 j ∧ Hid (cv = (List.range j).countP fun k => hasTB q cs M (SetN.digs q k)) ∧ cv ≤ j ∧ Below w2.heap.size w2 wr) (fun _ k _ _ _ _ => wn - (intOf k).toNat)
        case atStart => exact ⟨0, 0, Nat.zero_le _, rfl, rfl, Lib.hid rfl, Nat.le_refl _, Below.refl _ _⟩
        case round =>
          obtain ⟨j, cv, hj, rfl, rfl, hcv, hcj, hb⟩ := hrel
          obtain ⟨wo, hwo⟩ : ∃ x : World, x = wr := ⟨_, rfl⟩
          subst hwo
          have k1 := (hb.block _ hx3).trans k0
          by_cases hlj : j < wn
          · have hji : (j : Int) < (wn : Int) := by omega
            have hbe : Below wo.heap.size wo (wo.alloc (.cells #[] 3)) := (Below.refl _ _).alloc (Nat.le_refl _) _
            have ho0 : (wo.alloc (.cells #[] 3)).ownsRow w2.heap.size 3 1 (.slice (some ⟨wo.heap.size, 0, none⟩) 0 0) 0 [] := own_le (World.ownsRow_lit wo #[] 0 (Nat.le_refl _) (by decide) rfl) hb.size
            have hbf := hb.trans (hbe.mono hb.size)
            have hji2 : Hid (j / 6 ^ 0 = j) := Lib.hid (by simp)
            clear hbe
            go_wp2
            go_loopw [10, 11, 12] (fun t r i wr => ∃ (m rv : Nat), m ≤ q ∧ r = .int .i64 rv ∧ i = .int .i64 m ∧ Hid (rv = j / 6 ^ m ∧ rv ≤ j) ∧ wr.ownsRow w2.heap.size 3 1 t m (icells (SetN.digs m j)) ∧ Below w2.heap.size w2 wr) (fun _ _ i _ => q - (intOf i).toNat)
            case atStart => exact ⟨0, j, Nat.zero_le _, rfl, rfl, Lib.hid ⟨by simp, Nat.le_refl _⟩, ho0, hbf⟩
            case round =>
              clear ho0 hbf
              obtain ⟨m, rv, hm, rfl, rfl, hrv, ho, hbr⟩ := hrel
              have k2 := (hbr.block _ hx3).trans k0
              obtain ⟨b0, b1, b2⟩ := OrbK.row3 k2
              by_cases hlm : m < q
              · have hmi : (m : Int) < (q : Int) := by omega
                have hdg := Lib.hid (show SetN.digs (m + 1) j = SetN.digs m j ++ [(rv : Int) % 6] by rw [SetN.digs, ← hrv.out.1]; congr 2)
                have hrn := Lib.hid (show rv / 6 = j / 6 ^ (m + 1) ∧ rv / 6 ≤ j by
                  have h1 := hrv.out
                  refine ⟨by rw [Nat.pow_succ, ← Nat.div_div_eq_div_mul, h1.1], by omega⟩)
                have HRD := Lib.hid (show ((rv : Int) / 6) = ((rv / 6 : Nat) : Int) by omega)
                have hrb : rv ≤ 10000 := by have := hrv.out.2; omega
                have hb3 : Below wr.heap.size wr (wr.alloc (.cells #[.int .i64 ((rv : Int) % 6)] 3)) := (Below.refl _ _).alloc (Nat.le_refl _) _
                have ho2 := own_below ho hb3
                have hb4 := hbr.trans (hb3.mono hbr.size)
                have hcell : (wr.alloc (.cells #[.int .i64 ((rv : Int) % 6)] 3)).cell? ⟨wr.heap.size, 0, none⟩ = some (.int .i64 ((rv : Int) % 6)) := by simp
                have HC := Lib.hid (DrawN.one_cell hcell)
                have hsz2 : w2.heap.size ≤ (wr.alloc (.cells #[.int .i64 ((rv : Int) % 6)] 3)).heap.size := by have := hbr.size; simp; omega
                clear hcell ho hb3 hbr hrv
                go_wp2_with (at_builtin; refine wpList_append_lies _ rfl (.tmp 42) (.tmp 46) 24 rfl w2.heap.size 3 i0 (.int .i64 0) 1 8 Try.underlying24 hi0 hz0' hz1 HS.out rfl (by decide) _ m _ rfl ho2 ⟨wr.heap.size, 0, none⟩ 1 1 [.int .i64 ((rv : Int) % 6)] rfl rfl HC.out (DrawN.int_one _) (by decide) ?c3 ?c4 ?c5 _ rfl ?_)
                case c3 => unfold maxLen; omega
                case c4 => omega
                case c5 => exact hsz2
                intro g cap w3 ho7 hg7 hcase _
                have hb5 : Below w2.heap.size w2 w3 := below_own hb4 ho2 (Nat.le_refl _) hsz2 hg7
                have ho8 : w3.ownsRow w2.heap.size 3 1 (.slice (some ⟨g, 0, none⟩) (m + 1) cap) (m + 1) (icells (SetN.digs (m + 1) j)) := by
                  rw [hdg.out, icells_append]
                  exact ho7
                clear ho7 hg7 hcase ho2 hb4 HC hdg
                go_wp2
                refine ⟨⟨m + 1, rv / 6, by omega, congrArg (Value.int .i64) HRD.out, by go_num, hrn, ho8, hb5⟩, ?_⟩
                simp only [intOf]
                omega
              · have e : m = q := by omega
                subst e
                clear hlm hm hrv
                obtain ⟨At, ct, ht, hAt⟩ := own_intsAt (l := SetN.digs m j) (by rw [SetN.digs_len]; exact ho)
                rw [SetN.digs_len] at ht
                subst ht
                have hdl := SetN.digs_len m j
                have hht := HHS.out wr (hb2.trans (hbr.mono hb2.size)) (SetN.digs m j) At ct hAt (by omega)
                rw [hdl] at hht
                have hcr : (List.range (j + 1)).countP (fun k => hasTB m cs M (SetN.digs m k)) = (List.range j).countP (fun k => hasTB m cs M (SetN.digs m k)) + if hasTB m cs M (SetN.digs m j) then 1 else 0 := by
                  rw [List.range_succ, List.countP_append]
                  simp [List.countP_cons]
                have HCR := Lib.hid hcr
                clear hcr ho hAt
                generalize hasTB m cs M (SetN.digs m j) = hb9 at hht HCR
                cases hb9 with
                | true =>
                  go_wp2_with (go_at_call 19; (with_reducible refine hht.mono ?_); rintro e w4 ⟨rfl, hb6⟩)
                  have hb7 := hbr.trans (hb6.mono hbr.size)
                  refine ⟨⟨j + 1, cv + 1, by omega, by go_num, by go_num, Lib.hid (by rw [HCR.out, hcv.out]; rfl), by omega, hb7⟩, ?_⟩
                  simp only [intOf]
                  omega
                | false =>
                  go_wp2_with (go_at_call 19; (with_reducible refine hht.mono ?_); rintro e w4 ⟨rfl, hb6⟩)
                  have hb7 := hbr.trans (hb6.mono hbr.size)
                  refine ⟨⟨j + 1, cv, by omega, by go_num, by go_num, Lib.hid (by rw [HCR.out, hcv.out]; rfl), by omega, hb7⟩, ?_⟩
                  simp only [intOf]
                  omega
          · have e : j = wn := by omega
            subst e
            have hct := HCT.out wo (hb2.trans (hb.mono hb2.size))
            have hx := HCN.out
            rw [← HWN.out, ← hcv.out] at hx
            rw [hx.1] at hct
            obtain ⟨b0, b1, b2⟩ := OrbK.row3 k1
            have HX2 := Lib.hid hx.2
            clear hx hlj hj
            go_wp2_with (first
              | (go_at_call 21; (with_reducible refine hct.mono ?_); rintro e w5 ⟨rfl, hb5⟩; have k5 := (hb5.block _ (OrbK.box_lt k1)).trans k1; clear b0 b1 b2; obtain ⟨b0, b1, b2⟩ := OrbK.row3 k5; have hcp := HCP.out w5 (hb2.trans ((hb.trans (hb5.mono hb.size)).mono hb2.size)))
              | (go_at_call 15; (with_reducible refine hcp.mono ?_); rintro e w6 ⟨A3, c3, B3, d3, S3, rfl, hL3, hS3, hb6⟩; have hck := HCK.out _ w6 (orbOut_ix hL3); rw [HX2.out] at hck)
              | (go_at_call 21; (with_reducible refine hck.mono ?_); rintro e w7 ⟨rfl, hb7⟩)
              | fail)
            have hbz := HB1.out.trans ((hb2.trans ((hb.trans ((hb5.trans (hb6.mono hb5.size)).trans (hb7.mono (Nat.le_trans hb5.size hb6.size)) |>.mono hb.size)).mono hb2.size)).mono HB1.out.size)
            go_ret
            exact ⟨bool_end (by simp), hbz⟩
  · have hbig : 4096 < n0 := by omega
    clear hn hA0
    go_enter Try.func5, Try.ntmps5
    go_wp2_with (go_at_call 9; refine (big_yes _ _ _ _ hbig (by omega)).mono ?_; rintro e w' ⟨rfl, rfl⟩)
    go_ret
    exact ⟨rfl, Below.refl _ _⟩

set_option maxRecDepth 100000 in
theorem lifted (os : Os) (started : os.Started) (H : Type) (enc : TypeId × Value → H) :
    ReturnsInHanded {} Try.checked os 5 .any (Rows.fnCountedSpec.pre6 enc Try.prog Try.f5 Rows.fnCountedRow.domain false) (Rows.fnCountedSpec.post enc Try.prog Try.f5 false true false false) := by
  refine returnsInHanded_of_change (C := Try.checked) own started (by kernel_rfl) Try.func5
    (ChangeSpec.witness6 (enc := enc) (C := Try.checked) false ⟨#[], #[.slice none 0 0], []⟩ 8 (by kernel_rfl) (by kernel_rfl) (by kernel_rfl) (by kernel_rfl)) ?_
  intro W base args ds gs before hval0 hW hcnd _
  have hval : ∀ (j : Nat) t v, Try.f5.params[j]? = some t → args[j]? = some v → Value.okWide Try.prog W .any base t v := hval0
  have hW' := hW
  obtain ⟨p, q, hA0, hV, rfl, hfz, hnd⟩ := hW
  have hA : DataW.TrodAll enc Try.prog W 0 (fun _ => true) true Try.f5.params.toList args.toList ds p := hA0
  rw [Try.params5] at hA hval
  obtain ⟨v0, vs0, d0, ds0, p0, q0, hargs, rfl, rfl, h0, r0⟩ := trodAll_cons hA
  obtain ⟨rfl, rfl, rfl⟩ := trodAll_nil r0
  obtain rfl : args = #[v0] := by cases args; simp_all
  obtain ⟨rfl, rfl⟩ := trodVars_none hV
  have k0 := h0
  have lt0 : ∀ x ∈ p0, x.block < W.heap.size := by obtain ⟨m, hm⟩ := k0; exact DataW.trod_lt m _ _ _ hm
  obtain ⟨A0, n0, c0, rfl⟩ := okWide_slice Try.underlying22 (hval 0 22 v0 rfl rfl)
  obtain ⟨w0, m0⟩ := open_bytesL h0
  clear hA0 hval0
  refine (walk W A0 c0 n0 w0 (open_bytesZ h0) m0).mono fun e W' ⟨he, bel⟩ => ?_
  subst he
  exact ⟨_, rfl, _, _, _, [], _, [], hW', trodAll_mk1 (shut_bool Try.underlying4 _), (trodAll_cons_mk (Below.trod laidOut (by kernel_rfl) (of_decide_eq_true (by kernel_rfl)) k0 bel lt0) trodAll_mk0), rfl, bel.frame _, fun h => by cases h⟩

theorem over : Rows.fnCountedRow.holds Try.pinned (OpenSpec.ofChange Rows.fnCountedSpec) :=
  OpenClaim.holds_of_wide 5 Try.f5 rfl rfl rfl rfl rfl rfl rfl ⟨rfl, rfl, rfl, rfl, rfl⟩ rfl rfl rfl rfl rfl (by kernel_rfl) Try.func5 (by kernel_rfl)
    (of_decide_eq_true (by kernel_rfl)) (by unfold Func.isWrapper; first | (rw [if_pos (by decide +kernel)]; kernel_rfl) | (rw [if_neg (by decide +kernel)]; exact ⟨rfl, rfl⟩))
    (fun os started H enc _ => lifted os started H enc)

theorem proved : Rows.FnCountedSaid := over
#print axioms proved
end Go.Proofs.Ytnamlgacjhnpnaa.fnCounted
