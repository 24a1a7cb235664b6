/-
  ExamplesOf of both sides, as contracts.
-/
import Derived.Test.YtjjokghcjgighaaKExamplesOf4
import Derived.Test.YtjjokghcjgighaaKExamplesOf15
import Derived.Test.YtjjokghcjgighaaKExamplesOf12
namespace Go.Proofs.Ytjjokghcjgighaa
open Go.RowKit Go.Sort
set_option linter.unusedVariables false

set_option maxRecDepth 100000 in
set_option maxHeartbeats 2000000 in
theorem takenAt_any (A B : Option Addr) (c d : Nat) (V p : List Int) (w : World) (hA : IntsAt w A V) (hB : IntsAt w B p) (hlv : V.length ≤ 1048576) (hlp : p.length ≤ 1048576) (hin : ∀ i, i < p.length → 0 ≤ itAt p i ∧ (itAt p i).toNat < V.length) :
    Calls Try.prog 75 #[.slice A V.length c, .slice B p.length d] w (NewInts (exL V p) w) := by
  obtain ⟨i0, hi0, hz0, hz1, hz2⟩ := info_parts int_infoM
  have HS := Lib.hid hz2
  clear hz2
  go_enter Try.func75, Try.ntmps75
  go_wp2
  go_loopw [5, 7, 11] (fun v _ i wr => ∃ k : Nat, k ≤ p.length ∧ i = .int .i64 k ∧ wr.ownsRow w.heap.size 3 1 v k (icells (exL V (p.take k))) ∧ Below w.heap.size w wr) (fun _ _ i _ => p.length - (intOf i).toNat)
  case atStart => exact ⟨0, Nat.zero_le _, rfl, World.ownsRow_lit w #[] 0 (Nat.le_refl _) (by decide) rfl, (Below.refl _ _).alloc (Nat.le_refl _) _⟩
  case round =>
    obtain ⟨k, hk, rfl, ho, hb⟩ := hrel
    by_cases hlt : k < p.length
    · obtain ⟨h0, h1⟩ := hin k hlt
      obtain ⟨b1, o1, rfl, hb1, hc1⟩ := hB (by omega)
      obtain ⟨b2, o2, rfl, hb2, hc2⟩ := hA (by omega)
      have c1 := hc1 k hlt
      rw [← hb.cell (p := ⟨b1, _, none⟩) hb1] at c1
      have hnext := Lib.hid (exL_next (V := V) hlt)
      obtain ⟨n, hn⟩ : ∃ n : Nat, itAt p k = n := ⟨(itAt p k).toNat, by omega⟩
      rw [hn] at c1 h1 hnext
      rw [Int.toNat_natCast] at h1 hnext
      have c2 := hc2 n h1
      rw [← hb.cell (p := ⟨b2, _, none⟩) hb2] at c2
      have hni : (n : Int) < (V.length : Int) := by omega
      have hn0 : (0 : Int) ≤ (n : Int) := by omega
      clear hc1 hc2 hA hB hin hn h0 h1
      generalize itAt V n = a at c2 hnext
      have ho1 := ho.alloc (.cells #[.int .i64 a] 3)
      have hb3 := hb.alloc hb.size (.cells #[.int .i64 a] 3)
      have hsz : w.heap.size ≤ wr.heap.size := hb.size
      have hcell : (wr.alloc (.cells #[.int .i64 a] 3)).cell? ⟨wr.heap.size, 0, none⟩ = some (.int .i64 a) := by simp
      have HC := Lib.hid (one_cell hcell)
      clear hcell ho hb
      go_wp2_with (at_builtin; refine wpList_append_own _ rfl (.tmp 15) (.tmp 20) 22 rfl w.heap.size 3 i0 (.int .i64 0) 1 8 Try.underlying22 hi0 hz0 hz1 HS.out rfl (by decide) _ k _ rfl ho1 ⟨wr.heap.size, 0, none⟩ 1 1 [.int .i64 a] rfl rfl HC.out (int_one _) ?c3 ?c4 ?c5 ?_)
      case c3 => unfold maxLen; omega
      case c4 => omega
      case c5 => simp; omega
      intro v2 w2 ho3 hg _
      have ho4 : w2.ownsRow w.heap.size 3 1 v2 (k + 1) (icells (exL V (p.take (k + 1)))) := by
        rw [hnext.out, icells_append]
        exact ho3
      have hb4 : Below w.heap.size w w2 := below_own hb3 ho1 (Nat.le_refl _) (by simp; omega) hg
      clear ho3 hg ho1 hb3 hnext HC c1 c2
      go_wp2
      refine ⟨⟨k + 1, by omega, by go_num, ho4, hb4⟩, ?_⟩
      simp only [intOf]
      omega
    · have e : k = p.length := by omega
      subst e
      rw [List.take_length] at ho
      have e := Lib.hid (exL_len V p)
      have hpost : NewInts (exL V p) w (.returned u5) wr := ⟨_, rfl, by rw [e.out]; exact ho, hb⟩
      clear ho hb hA hB hin
      go_wp2
      go_ret
      exact hpost

set_option maxRecDepth 100000 in
set_option maxHeartbeats 4000000 in
theorem examplesFor_any (A B : Option Addr) (c d : Nat) (cs : List Int) (m : List (List Int)) (w : World) (hA : IntsAt w A cs) (hB : RowsIn w (.slice B m.length d) m) (hlc : cs.length ≤ 1000) (hlm : m.length ≤ 2097152) (hrm : ∀ i, i < m.length → isPatB cs.length (rwAt m i) = true ∧ (rwAt m i).length ≤ 4) :
    Calls Try.prog 55 #[.slice A cs.length c, .slice B m.length d] w (RowsOut (exsL cs m) w) := by
  obtain ⟨i0, hi0, hz0, hz1, hz2⟩ := info_parts int_infoM
  have HS := Lib.hid hz2
  clear hz2
  have hcl := clone_any A c cs w hA (by omega)
  have HRM := Lib.hid hrm
  clear hA hrm
  go_enter Try.func55, Try.ntmps55
  go_wp2_with (go_at_call 66; refine hcl.mono ?_; rintro e w1 ⟨v1, rfl, ho1, hb1⟩)
  clear hcl
  go_loopw [5, 11] (fun v5 i wr => ∃ k : Nat, k ≤ 4 ∧ i = .int .i64 k ∧ wr.ownsRow w.heap.size 3 1 v5 (numL cs k).length (icells (numL cs k)) ∧ Below w.heap.size w wr) (fun _ i _ => 4 - (intOf i).toNat)
  case atStart => exact ⟨0, by omega, rfl, ho1, hb1⟩
  case round =>
    clear ho1 hb1
    obtain ⟨k, hk, rfl, ho, hb⟩ := hrel
    by_cases hlt : k < 4
    · obtain ⟨A5, c5, rfl, hA5⟩ := own_intsAt ho
      have hnl := numL_len cs k
      have hnl2 : (numL cs k).length ≤ 1004 := by omega
      have hle := least_impl A5 c5 (numL cs k) wr hA5 (by omega)
      have hnx : Hid (numL cs (k + 1) = numL cs k ++ [leastF (numL cs k)]) := Lib.hid rfl
      have hln : Hid ((numL cs (k + 1)).length = (numL cs k).length + 1) := Lib.hid (by rw [numL_len, numL_len]; omega)
      generalize leastF (numL cs k) = a at hle hnx
      generalize numL cs k = V at *
      have hs0 := hb.size
      have hk4 : (k : Int) < 4 := by omega
      clear hA5 hnl
      go_wp2_with fail
      refine hle.mono ?_
      rintro e w2 ⟨rfl, hb2⟩
      have ho2 := own_below ho hb2
      have hb3 := hb.trans (hb2.mono hb.size)
      have ho3 := ho2.alloc (.cells #[.int .i64 a] 3)
      have hb4 := hb3.alloc hb3.size (.cells #[.int .i64 a] 3)
      have hsz := hb4.size
      have hcell : (w2.alloc (.cells #[.int .i64 a] 3)).cell? ⟨w2.heap.size, 0, none⟩ = some (.int .i64 a) := by simp
      have HC := Lib.hid (one_cell hcell)
      clear hcell ho hb ho2 hb2 hb3 hle
      go_wp2_with (at_builtin; refine wpList_append_own _ rfl (.tmp 13) (.tmp 16) 22 rfl w.heap.size 3 i0 (.int .i64 0) 1 8 Try.underlying22 hi0 hz0 hz1 HS.out rfl (by decide) _ V.length _ rfl ho3 ⟨w2.heap.size, 0, none⟩ 1 1 [.int .i64 a] rfl rfl HC.out (int_one _) ?c3 ?c4 ?c5 ?_)
      case c3 => unfold maxLen; omega
      case c4 => omega
      case c5 => exact hsz
      intro v5 w5 ho5 hg _
      have ho6 : w5.ownsRow w.heap.size 3 1 v5 (numL cs (k + 1)).length (icells (numL cs (k + 1))) := by
        rw [hln.out, hnx.out, icells_append]
        exact ho5
      have hb6 : Below w.heap.size w w5 := below_own hb4 ho3 (Nat.le_refl _) hsz hg
      clear ho5 hg ho3 hb4 hsz hnx hln HC
      go_wp2
      refine ⟨⟨k + 1, by omega, by go_num, ho6, hb6⟩, ?_⟩
      simp only [intOf]
      omega
    · have e : k = 4 := by omega
      subst e
      rw [show ((4 : Nat) : Int) = 4 from rfl]
      have hnl := numL_len cs 4
      have hnl2 : (numL cs 4).length ≤ 1004 := by omega
      have HTK := Lib.hid (fun i (hi : i < m.length) => pat_places (HRM.out i hi).1 (V := numL cs 4) (by have := (HRM.out i hi).2; omega))
      have HNX := Lib.hid (fun i (hi : i < m.length) => exsL_next (l := cs) hi)
      have HEL := Lib.hid (exsL_len cs)
      have hex0 : exsL cs [] = [] := rfl
      obtain ⟨A5, c5, rfl, _⟩ := own_intsAt ho
      generalize numL cs 4 = V at *
      generalize exsL cs = E at *
      have hbx : Below wr.heap.size wr (wr.alloc (.cells #[] 22)) := (Below.refl _ _).alloc (Nat.le_refl _) _
      have hoR := own_lit0 wr
      have ho2 := own_below ho hbx
      have hb2 := hb.trans (hbx.mono hb.size)
      have hst : ∀ b ∈ [wr.heap.size], w.heap.size ≤ b ∧ (Value.slice A5 V.length c5).ownBlock ≠ some b := fun b h => by
        simp at h
        subst h
        exact ⟨hb.size, fun e => by have := (ho.lt _ e).2; omega⟩
      clear ho hb hbx hnl
      go_wp2
      go_loopw [6, 8, 22] (fun v6 _ i wr => ∃ (j : Nat) (U : List Nat), j ≤ m.length ∧ i = .int .i64 j ∧ Own wr U v6 (rowsMem (E (m.take j))) ∧ wr.ownsRow w.heap.size 3 1 (.slice A5 V.length c5) V.length (icells V) ∧ (∀ b ∈ U, w.heap.size ≤ b ∧ (Value.slice A5 V.length c5).ownBlock ≠ some b) ∧ Below w.heap.size w wr) (fun _ _ i _ => m.length - (intOf i).toNat)
      case atStart => exact ⟨0, _, Nat.zero_le _, rfl, by rw [List.take_zero, hex0]; exact hoR, ho2, hst, hb2⟩
      case round =>
        clear hoR ho2 hb2 hst
        obtain ⟨j, U, hj, rfl, hoU, ho, hUT, hb⟩ := hrel
        by_cases hlt : j < m.length
        · obtain ⟨b1, o1, rfl, hb1, hc1⟩ := (hB.below hb).get (by omega)
          obtain ⟨A1, c1, d1, hA1⟩ := hc1 j hlt
          have hAV : IntsAt wr A5 V := by
            obtain ⟨A', c', e, h⟩ := own_intsAt ho
            simp only [Value.slice.injEq] at e
            rw [e.1]; exact h
          have hta := takenAt_any A5 A1 c5 c1 V (rwAt m j) wr hAV hA1 (by omega) (by have := (HRM.out j hlt).2; omega) (HTK.out j hlt)
          have hnx := Lib.hid (HNX.out j hlt)
          have hel : Hid ((E (m.take j)).length = j) := Lib.hid (by rw [HEL.out, List.length_take]; omega)
          have hpl : (rwAt m j).length ≤ 4 := (HRM.out j hlt).2
          generalize exL V (rwAt m j) = X at hta hnx
          generalize (rwAt m j).length = pl at *
          have hs0 := hb.size
          clear hc1 hA1 hAV
          go_wp2_with fail
          refine hta.mono ?_
          rintro e w2 ⟨v2, rfl, ho2, hb2⟩
          obtain ⟨R, hR, hRb, hRe⟩ := own_intRow ho2
          obtain ⟨A9, c9, rfl, _⟩ := own_intSlice hR
          clear hRe
          have hbx : Below w2.heap.size w2 (w2.alloc (.cells #[.slice A9 X.length c9] 22)) := (Below.refl _ _).alloc (Nat.le_refl _) _
          have hb3 := hb2.trans (hbx.mono hb2.size)
          have hR3 := hR.keep hbx
          have hU3 := hoU.keep hb3
          have ho3 := own_below ho hb3
          have hbw3 := hb.trans (hb3.mono hb.size)
          have hs3 := hbw3.size
          have hcell : (w2.alloc (.cells #[.slice A9 X.length c9] 22)).cell? ⟨w2.heap.size, 0, none⟩ = some (.slice A9 X.length c9) := by simp
          have HC := Lib.hid (one_cell hcell)
          have hUl : ∀ b ∈ U, b < wr.heap.size := fun b h => hoU.lt b h
          have hvl : ∀ k, (Value.slice A5 V.length c5).ownBlock = some k → k < wr.heap.size := fun k e => (ho.lt k e).2
          have hdis : ∀ b ∈ U, b ∉ R := fun b h1 h2 => by have := hUl b h1; have := hRb b h2; omega
          have hdl : (E (m.take j)).length + 1 ≤ 16777216 := by rw [hel.out]; omega
          have hs2 := hb2.size
          clear hcell hbx hR ho2 hoU ho hb hb2 hb3 hta
          generalize X.length = xl at *
          go_wp2_with (at_builtin; refine wpList_append_rows rfl (.tmp 26) (.tmp 30) rfl _ U _ rfl hU3 ⟨w2.heap.size, 0, none⟩ _ _ R rfl HC.out hR3 hdis hdl ?_)
          intro g2 cap2 U3 w10 hU10 hUU hon
          have ho10 := own_only ho3 hon (fun k e h => (hUT k h).2 e)
          have hb10 := Only.below hbw3 hon hs3 (fun b h => (hUT b h).1)
          have hUT3 : ∀ b ∈ U3, w.heap.size ≤ b ∧ (Value.slice A5 V.length c5).ownBlock ≠ some b := fun b h => by
            rcases hUU b h with h1 | h1 | h1
            · exact hUT b h1
            · have h2 := hRb b h1
              exact ⟨by omega, fun e => by have := hvl b e; omega⟩
            · have h1' : b = w2.heap.size + 1 := by simpa using h1
              exact ⟨by omega, fun e => by have := hvl b e; omega⟩
          rw [← hnx.out] at hU10
          clear hU3 ho3 hbw3 hon hUU hUT hRb hR3 hdis HC hnx hUl hvl
          go_wp2
          refine ⟨⟨j + 1, U3, by omega, by go_num, hU10, ho10, hUT3, hb10⟩, ?_⟩
          simp only [intOf]
          omega
        · have e : j = m.length := by omega
          subst e
          rw [List.take_length] at hoU
          have hpost : RowsOut (E m) w (.returned u6) wr := ⟨_, U, rfl, hoU, fun b h => (hUT b h).1, hb⟩
          clear hoU ho hUT hb
          go_wp2
          go_ret
          exact hpost

theorem rowsOut_empty {w w1 : World} (hb : Below w.heap.size w w1) : RowsOut [] w (.returned (.slice (some ⟨w1.heap.size, 0, none⟩) 0 0)) (w1.alloc (.cells #[] 22)) :=
  ⟨_, _, rfl, own_lit0 w1, fun b h => by simp at h; subst h; exact hb.size, hb.alloc hb.size _⟩
theorem rowsOut_later {ls : List (List Int)} {w w1 w2 : World} {v : Value} {S : List Nat} (h : Own w2 S v (rowsMem ls)) (hS : ∀ b ∈ S, w1.heap.size ≤ b) (hb2 : Below w1.heap.size w1 w2) (hb : Below w.heap.size w w1) : RowsOut ls w (.returned v) w2 :=
  ⟨v, S, rfl, h, fun b hbb => Nat.le_trans hb.size (hS b hbb), hb.trans (hb2.mono hb.size)⟩

set_option maxRecDepth 100000 in
set_option maxHeartbeats 4000000 in
theorem examplesOf_impl (z : Int) (l : List Int) (m : List (List Int)) (hf : FitO l m) (x : Value) (w : World) (hx : OrbIx w x z l m) :
    Calls Try.prog 23 #[x] w (RowsOut (exsR z l m) w) := by
  have hX := hx
  obtain ⟨A, c, B, d, rfl, hl, hmr, hm⟩ := hx
  have hb0 : Below w.heap.size w (w.alloc (.cells #[.int .i64 z, .slice A l.length c, .slice B m.length d] 33)) := (Below.refl _ _).alloc (Nat.le_refl _) _
  have k0 := heap_alloc_new w (.cells #[.int .i64 z, .slice A l.length c, .slice B m.length d] 33)
  obtain ⟨m0, m1, m2⟩ := OrbK.row3 k0
  have hio := isOrbitSet_impl z l m hf _ _ (hX.below hb0)
  have HB0 := Lib.hid hb0
  have HK0 := Lib.hid k0
  cases ho : orbB z l m with
  | false =>
    rw [ho] at hio
    rw [exsR_no ho]
    clear hl hmr hm k0 hX
    go_enter Try.func23, Try.ntmps23
    go_wp2_with (go_at_call 18; refine hio.mono ?_; rintro e w2 ⟨rfl, hb2⟩; have hb3 := HB0.out.trans (hb2.mono HB0.out.size))
    have hpost := rowsOut_empty hb3
    clear hio hb2 m0 m1 m2 hb0 hb3
    go_ret
    exact hpost
  | true =>
    rw [ho] at hio
    rw [exsR_yes ho]
    obtain ⟨hwz, hro⟩ := orb_rows ho
    have hz4 := widB_iff.1 hwz
    have hk3 := const_len (orb_const ho)
    have hef := fun W (h : Below w.heap.size w W) => examplesFor_any A B c d l m W (hl.1.below h) (hmr.below h) (by omega) hf.2.1 (fun i hi => ⟨(rowsOk_at hro hi).2, by have := (rowsOk_at hro hi).1; omega⟩)
    clear hl hmr hm k0 hX ho hro hwz
    generalize exsL l m = E at *
    go_enter Try.func23, Try.ntmps23
    go_wp2_with (first
      | (go_at_call 18; refine hio.mono ?_; rintro e w2 ⟨rfl, hb2⟩; have hb3 := HB0.out.trans (hb2.mono HB0.out.size); have k2 := (hb2.block _ (OrbK.box_lt HK0.out)).trans HK0.out; clear m0 m1 m2; obtain ⟨m0, m1, m2⟩ := OrbK.row3 k2)
      | (go_at_call 55; refine (hef _ hb3).mono ?_; rintro e w4 ⟨v4, S4, rfl, hS4, hSb4, hb4⟩))
    have hpost := rowsOut_later hS4 hSb4 hb4 hb3
    clear hio hb2 m0 m1 m2 hb0 hb3 hef hS4 hSb4 hb4 k2
    go_ret
    exact hpost

set_option maxRecDepth 100000 in
set_option maxHeartbeats 4000000 in
theorem l6Example_any (A B : Option Addr) (c d : Nat) (cs p : List Int) (w : World) (hA : IntsAt w A cs) (hz : A = none → c = 0) (hB : IntsAt w B p) (hlc : cs.length ≤ 1000) (hl4 : p.length ≤ 4) (hin : ∀ i, i < p.length → 0 ≤ itAt p i ∧ (itAt p i).toNat < cs.length + p.length) :
    Calls Try.prog 54 #[.slice A cs.length c, .slice B p.length d] w (NewInts (exL (numL cs p.length) p) w) := by
  obtain ⟨i0, hi0, hz0, hz1, hz2⟩ := info_parts int_infoM
  have HS := Lib.hid hz2
  clear hz2
  have hcl := l1Copy_ints A c cs w hA hz (by omega)
  clear hA hz
  go_enter Try.func54, Try.ntmps54
  go_wp2_with (go_at_call 70; refine hcl.mono ?_; rintro e w1 ⟨v1, rfl, ho1, hb1⟩)
  clear hcl
  obtain ⟨A1, c1, rfl, _⟩ := own_intsAt ho1
  go_loopw [5] (fun v5 wr => ∃ (k : Nat) (A5 : Option Addr) (c5 : Nat), k ≤ p.length ∧ v5 = .slice A5 (cs.length + k) c5 ∧ wr.ownsRow w.heap.size 3 1 v5 (cs.length + k) (icells (numL cs k)) ∧ Below w.heap.size w wr) (fun v5 _ => cs.length + p.length - (match v5 with | .slice _ n _ => n | _ => 0))
  case atStart => exact ⟨0, A1, c1, by omega, rfl, ho1, hb1⟩
  case round =>
    clear ho1 hb1
    obtain ⟨k, A5, c5, hk, rfl, ho, hb⟩ := hrel
    have hnl := numL_len cs k
    by_cases hlt : k < p.length
    · have hlti : ((cs.length + k : Nat) : Int) < (cs.length : Int) + (p.length : Int) := by omega
      have hA5 : IntsAt wr A5 (numL cs k) := by
        rw [← hnl] at ho
        obtain ⟨A', c', e, h⟩ := own_intsAt ho
        simp only [Value.slice.injEq] at e
        rw [e.1]; exact h
      have hle := least_spec A5 c5 (numL cs k) wr hA5 (by omega)
      have hnx : Hid (numL cs (k + 1) = numL cs k ++ [leastF (numL cs k)]) := Lib.hid rfl
      rw [hnl] at hle
      generalize leastF (numL cs k) = a at hle hnx
      generalize numL cs k = V at *
      generalize hcn : cs.length = cn at *
      generalize hpn : p.length = pn at *
      have hs0 := hb.size
      have ho3 := ho.alloc (.cells #[.int .i64 a] 3)
      have hb4 := hb.alloc hb.size (.cells #[.int .i64 a] 3)
      have hcell : (wr.alloc (.cells #[.int .i64 a] 3)).cell? ⟨wr.heap.size, 0, none⟩ = some (.int .i64 a) := by simp
      have HC := Lib.hid (one_cell hcell)
      have HCN := Lib.hid hcn; have HPN := Lib.hid hpn; have HNL := Lib.hid hnl
      clear hA5 hnl hcell ho hb hcn hpn
      go_wp2_with (first
        | (go_at_call 73; refine hle.mono ?_; rintro e w2 ⟨rfl, rfl⟩)
        | (at_builtin; refine wpList_append_own _ rfl (.tmp 19) (.tmp 22) 22 rfl w.heap.size 3 i0 (.int .i64 0) 1 8 Try.underlying22 hi0 hz0 hz1 HS.out rfl (by decide) _ (cn + k) _ rfl ho3 ⟨wr.heap.size, 0, none⟩ 1 1 [.int .i64 a] rfl rfl HC.out (int_one _) ?c3 ?c4 ?c5 ?_))
      case c3 => unfold maxLen; omega
      case c4 => omega
      case c5 => simp; omega
      intro v5 w5 ho5 hg _
      have ho6 : w5.ownsRow w.heap.size 3 1 v5 (cn + (k + 1)) (icells (numL cs (k + 1))) := by
        rw [hnx.out, icells_append, ← Nat.add_assoc]
        exact ho5
      have hb6 : Below w.heap.size w w5 := below_own hb4 ho3 (Nat.le_refl _) (by simp; omega) hg
      obtain ⟨g, cap, rfl, _⟩ : ∃ g cap, v5 = .slice (some ⟨g, 0, none⟩) (cn + (k + 1)) cap ∧ True := by
        rcases ho6.2 with ⟨_, h0⟩ | ⟨g, cap, cur, e, _⟩
        · omega
        · exact ⟨g, cap, e, trivial⟩
      clear ho5 hg ho3 hb4 hnx HC hle
      go_wp2
      refine ⟨⟨k + 1, some ⟨g, 0, none⟩, cap, by omega, rfl, ho6, hb6⟩, ?_⟩
      dsimp only
      omega
    · have e : k = p.length := by omega
      subst e
      have hlti : ¬ ((cs.length + p.length : Nat) : Int) < (cs.length : Int) + (p.length : Int) := by omega
      rw [← hnl] at ho hin hlti
      have hcl0 : cs.length ≤ (numL cs p.length).length := by omega
      have hnl2 : (numL cs p.length).length ≤ 1004 := by omega
      have hlt3 : ¬ ((numL cs p.length).length : Int) < (cs.length : Int) + (p.length : Int) := by omega
      rw [← hnl]
      clear hnl hlti
      generalize numL cs p.length = V at *
      have hA5 : IntsAt wr A5 V := by
        obtain ⟨A', c', e, h⟩ := own_intsAt ho
        simp only [Value.slice.injEq] at e
        rw [e.1]; exact h
      have hbx : Below wr.heap.size wr (wr.alloc (.cells #[] 3)) := (Below.refl _ _).alloc (Nat.le_refl _) _
      have hb2 := hb.trans (hbx.mono hb.size)
      have hp0 : (wr.alloc (.cells #[] 3)).ownsRow wr.heap.size 3 1 (.slice (some ⟨wr.heap.size, 0, none⟩) 0 0) 0 [] := World.ownsRow_lit wr #[] 0 (Nat.le_refl _) (by decide) rfl
      have HE := Lib.hid (exL_len V)
      clear ho
      go_wp2
      obtain ⟨W0, rfl⟩ : ∃ W0, W0 = wr := ⟨_, rfl⟩
      go_loopw [6, 8, 27] (fun v _ i wq => ∃ q : Nat, q ≤ p.length ∧ i = .int .i64 q ∧ wq.ownsRow W0.heap.size 3 1 v q (icells (exL V (p.take q))) ∧ Below W0.heap.size W0 wq) (fun _ _ i _ => p.length - (intOf i).toNat)
      case atStart => exact ⟨0, Nat.zero_le _, rfl, hp0, hbx⟩
      case round =>
        clear hp0
        obtain ⟨q, hq, rfl, ho, hbq⟩ := hrel
        by_cases hlq : q < p.length
        · obtain ⟨h0, h1⟩ := hin q hlq
          have h1 : (itAt p q).toNat < V.length := by omega
          obtain ⟨b1, o1, rfl, hb1, hc1⟩ := (hB.below (hb.trans (hbq.mono hb.size))) (by omega)
          have hA7 := hA5.below hbq
          obtain ⟨b2, o2, rfl, hb2', hc2⟩ := hA7 (by omega)
          have c1 := hc1 q hlq
          have hnext := Lib.hid (exL_next (V := V) hlq)
          obtain ⟨n, hn⟩ : ∃ n : Nat, itAt p q = n := ⟨(itAt p q).toNat, by omega⟩
          rw [hn] at c1 h1 hnext
          rw [Int.toNat_natCast] at h1 hnext
          have c2 := hc2 n h1
          have hni : (n : Int) < (V.length : Int) := by omega
          have hn0 : (0 : Int) ≤ (n : Int) := by omega
          clear hc1 hc2 hn h0 hA7 hin
          generalize itAt V n = a at c2 hnext
          have ho1 := ho.alloc (.cells #[.int .i64 a] 3)
          have hbq3 := hbq.alloc hbq.size (.cells #[.int .i64 a] 3)
          have hsz : W0.heap.size ≤ wr.heap.size := hbq.size
          have hcell : (wr.alloc (.cells #[.int .i64 a] 3)).cell? ⟨wr.heap.size, 0, none⟩ = some (.int .i64 a) := by simp
          have HC := Lib.hid (one_cell hcell)
          clear hcell ho hbq
          go_wp2_with (at_builtin; refine wpList_append_lies _ rfl (.tmp 31) (.tmp 36) 22 rfl W0.heap.size 3 i0 (.int .i64 0) 1 8 Try.underlying22 hi0 hz0 hz1 HS.out rfl (by decide) _ q _ rfl ho1 ⟨wr.heap.size, 0, none⟩ 1 1 [.int .i64 a] rfl rfl HC.out (int_one _) (by decide) ?c3 ?c4 ?c5 _ rfl ?_)
          case c3 => unfold maxLen; omega
          case c4 => omega
          case c5 => simp; omega
          intro g cap w2 ho3 hg _ _
          have ho4 : w2.ownsRow W0.heap.size 3 1 (.slice (some ⟨g, 0, none⟩) (q + 1) cap) (q + 1) (icells (exL V (p.take (q + 1)))) := by
            rw [hnext.out, icells_append]
            exact ho3
          have hb4 : Below W0.heap.size W0 w2 := below_own hbq3 ho1 (Nat.le_refl _) (by simp; omega) hg
          clear ho3 hg ho1 hbq3 hnext HC c1 c2 hA5 hB
          go_wp2
          refine ⟨⟨q + 1, by omega, by go_num, ho4, hb4⟩, ?_⟩
          simp only [intOf]
          omega
        · have e : q = p.length := by omega
          subst e
          rw [List.take_length] at ho
          have hpost : NewInts (exL V p) w (.returned u6) wr := ⟨_, rfl, by rw [HE.out]; exact own_le ho hb.size, hb.trans (hbq.mono hb.size)⟩
          clear ho hbq hb hA5 hB hin hb2 hbx
          go_wp2
          go_ret
          exact hpost

set_option maxRecDepth 100000 in
set_option maxHeartbeats 8000000 in
theorem examplesOf_spec (z : Int) (l : List Int) (m : List (List Int)) (hf : FitO l m) (x : Value) (w : World) (hx : OrbIx w x z l m) :
    Calls Try.prog 22 #[x] w (RowsOut (exsR z l m) w) := by
  have hX := hx
  obtain ⟨A, c, B, d, rfl, hl, hmr, hm⟩ := hx
  have hb0 : Below w.heap.size w (w.alloc (.cells #[.int .i64 z, .slice A l.length c, .slice B m.length d] 33)) := (Below.refl _ _).alloc (Nat.le_refl _) _
  have k0 := heap_alloc_new w (.cells #[.int .i64 z, .slice A l.length c, .slice B m.length d] 33)
  have hb1 : Below w.heap.size w ((w.alloc (.cells #[.int .i64 z, .slice A l.length c, .slice B m.length d] 33)).alloc (.cells #[] 22)) := hb0.alloc (by simp) _
  have k1 : ((w.alloc (.cells #[.int .i64 z, .slice A l.length c, .slice B m.length d] 33)).alloc (.cells #[] 22)).heap[w.heap.size]? = some (.cells #[.int .i64 z, .slice A l.length c, .slice B m.length d] 33 (0, 0)) := (Below.heap_alloc _ _ _ (by simp)).trans k0
  have hoL := own_lit0 (w.alloc (.cells #[.int .i64 z, .slice A l.length c, .slice B m.length d] 33))
  rw [World.size_alloc] at hoL
  obtain ⟨m0, m1, m2⟩ := OrbK.row3 k1
  have hio := isOrbitSet_spec z l m hf _ _ (hX.below hb1)
  have HB1 := Lib.hid hb1
  have HK1 := Lib.hid k1
  cases ho : orbB z l m with
  | false =>
    rw [ho] at hio
    rw [exsR_no ho]
    clear hl hmr hm k0 hX k1
    go_enter Try.func22, Try.ntmps22
    go_wp2_with (go_at_call 16; refine hio.mono ?_; rintro e w2 ⟨rfl, hb2⟩; have hb3 := HB1.out.trans (hb2.mono HB1.out.size))
    have hpost : RowsOut [] w (.returned (.slice (some ⟨w.heap.size + 1, 0, none⟩) 0 0)) w2 := ⟨_, _, rfl, hoL.keep hb2, fun b h => by simp at h; omega, hb3⟩
    clear hio hb2 m0 m1 m2 hb0 hb3 hoL hb1
    go_ret
    exact hpost
  | true =>
    rw [ho] at hio
    rw [exsR_yes ho]
    obtain ⟨hwz, hro⟩ := orb_rows ho
    have hz4 := widB_iff.1 hwz
    have hk3 := const_len (orb_const ho)
    have HRM := Lib.hid (fun i (hi : i < m.length) => (show isPatB l.length (rwAt m i) = true ∧ (rwAt m i).length ≤ 4 from ⟨(rowsOk_at hro hi).2, by have := (rowsOk_at hro hi).1; omega⟩))
    have HEX := Lib.hid (fun i (hi : i < m.length) => exL_same (HRM.out i hi).1 (HRM.out i hi).2)
    have HNX := Lib.hid (fun i (hi : i < m.length) => exsL_next (l := l) hi)
    have HEL := Lib.hid (exsL_len l)
    have hex0 : exsL l [] = [] := rfl
    have hl6 := Lib.hid (fun (W : World) (h : Below w.heap.size w W) (B9 : Option Addr) (d9 : Nat) (i : Nat) (hi : i < m.length) (hB9 : IntsAt W B9 (rwAt m i)) => l6Example_any A B9 c d9 l (rwAt m i) W (hl.1.below h) hl.2 hB9 (by omega) (HRM.out i hi).2 (fun q hq => by
      have h1 := pat_places (k := l.length) (HRM.out i hi).1 (V := numL l (rwAt m i).length) (by rw [numL_len]; omega) q hq
      rw [numL_len] at h1
      exact h1))
    have hlm := hf.2.1
    clear hl hm k0 hX ho hro hwz k1
    generalize exsL l = E at *
    go_enter Try.func22, Try.ntmps22
    go_wp2_with (go_at_call 16; refine hio.mono ?_; rintro e w2 ⟨rfl, hb2⟩; have hb3 := HB1.out.trans (hb2.mono HB1.out.size); have k2 := (hb2.block _ (OrbK.box_lt HK1.out)).trans HK1.out; clear m0 m1 m2; obtain ⟨m0, m1, m2⟩ := OrbK.row3 k2)
    have ho2 := hoL.keep hb2
    have K2 := Lib.hid k2
    clear hio hb2 hb0 hoL hb1 HB1 HK1 k2 m0 m1 m2
    go_loopw [3, 5, 14] (fun v3 _ i wr => ∃ (j : Nat) (U : List Nat), j ≤ m.length ∧ i = .int .i64 j ∧ Own wr U v3 (rowsMem (E (m.take j))) ∧ (∀ b ∈ U, w.heap.size + 1 ≤ b) ∧ wr.heap[w.heap.size]? = some (.cells #[.int .i64 z, .slice A l.length c, .slice B m.length d] 33 (0, 0)) ∧ Below w.heap.size w wr) (fun _ _ i _ => m.length - (intOf i).toNat)
    case atStart => exact ⟨0, _, Nat.zero_le _, rfl, by rw [List.take_zero, hex0]; exact ho2, fun b h => by simp at h; omega, K2.out, hb3⟩
    case round =>
      clear ho2 hb3 K2
      obtain ⟨j, U, hj, rfl, hoU, hUT, k3, hb⟩ := hrel
      by_cases hlt : j < m.length
      · obtain ⟨b1, o1, rfl, hb1, hc1⟩ := (hmr.below hb).get (by omega)
        obtain ⟨A1, c1, d1, hA1⟩ := hc1 j hlt
        have hta := hl6.out wr hb A1 c1 j hlt hA1
        rw [HEX.out j hlt] at hta
        have hnx := Lib.hid (HNX.out j hlt)
        have hel : Hid ((E (m.take j)).length = j) := Lib.hid (by rw [HEL.out, List.length_take]; omega)
        have hpl : (rwAt m j).length ≤ 4 := (HRM.out j hlt).2
        obtain ⟨m0, m1, m2⟩ := OrbK.row3 k3
        have hlt3 := OrbK.box_lt k3
        have K3 := Lib.hid k3
        generalize exL (numL l 4) (rwAt m j) = X at hta hnx
        generalize (rwAt m j).length = pl at *
        have hs0 := hb.size
        clear hc1 hA1 k3 hb1
        go_wp2_with fail
        refine hta.mono ?_
        rintro e w4 ⟨v2, rfl, ho2, hb2⟩
        obtain ⟨R, hR, hRb, hRe⟩ := own_intRow ho2
        obtain ⟨A9, c9, rfl, _⟩ := own_intSlice hR
        clear hRe
        have hbx : Below w4.heap.size w4 (w4.alloc (.cells #[.slice A9 X.length c9] 22)) := (Below.refl _ _).alloc (Nat.le_refl _) _
        have hb3 := hb2.trans (hbx.mono hb2.size)
        have hR3 := hR.keep hbx
        have hU3 := hoU.keep hb3
        have k4 := Lib.hid ((hb3.block _ hlt3).trans K3.out)
        have hbw3 := hb.trans (hb3.mono hb.size)
        have hs3 := hbw3.size
        have hcell : (w4.alloc (.cells #[.slice A9 X.length c9] 22)).cell? ⟨w4.heap.size, 0, none⟩ = some (.slice A9 X.length c9) := by simp
        have HC := Lib.hid (one_cell hcell)
        have hUl : ∀ b ∈ U, b < wr.heap.size := fun b h => hoU.lt b h
        have hdis : ∀ b ∈ U, b ∉ R := fun b h1 h2 => by have := hUl b h1; have := hRb b h2; omega
        have hdl : (E (m.take j)).length + 1 ≤ 16777216 := by rw [hel.out]; omega
        have hs2 := hb2.size
        have hlt4 : w.heap.size < (w4.alloc (.cells #[.slice A9 X.length c9] 22)).heap.size := by simp; omega
        clear hcell hbx hR ho2 hoU hb hb2 hb3 hta m0 m1 m2
        generalize X.length = xl at *
        go_wp2_with (at_builtin; refine wpList_append_rows rfl (.tmp 18) (.tmp 23) rfl _ U _ rfl hU3 ⟨w4.heap.size, 0, none⟩ _ _ R rfl HC.out hR3 hdis hdl ?_)
        intro g2 cap2 U3 w10 hU10 hUU hon
        have k10 := (hon.block _ hlt4 (fun h => by have := hUT _ h; omega)).trans k4.out
        have hb10 := Only.below hbw3 hon hs3 (fun b h => by have := hUT b h; omega)
        have hUT3 : ∀ b ∈ U3, w.heap.size + 1 ≤ b := fun b h => by
          rcases hUU b h with h1 | h1 | h1
          · exact hUT b h1
          · have h2 := hRb b h1
            omega
          · have h1' : b = w4.heap.size + 1 := by simpa using h1
            omega
        rw [← hnx.out] at hU10
        clear hU3 hbw3 hon hUU hUT hRb hR3 hdis HC hnx hUl k4 K3
        go_wp2
        refine ⟨⟨j + 1, U3, by omega, by go_num, hU10, hUT3, k10, hb10⟩, ?_⟩
        simp only [intOf]
        omega
      · have e : j = m.length := by omega
        subst e
        rw [List.take_length] at hoU
        have hpost : RowsOut (E m) w (.returned u3) wr := ⟨_, U, rfl, hoU, fun b h => by have := hUT b h; omega, hb⟩
        clear hoU hUT hb k3 hl6 hmr
        go_wp2
        go_ret
        exact hpost
end Go.Proofs.Ytjjokghcjgighaa
