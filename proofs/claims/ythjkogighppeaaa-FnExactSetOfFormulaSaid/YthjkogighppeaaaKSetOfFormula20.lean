/-
  The set of a formula's tuples: plain words. SetOfFormula of the program, as a contract. SetOfFormula of the model, as a contract.
-/
import Derived.Test.YthjkogighppeaaaKSetOfFormula17
import Derived.Test.YthjkogighppeaaaKSetOfFormula19
import Derived.Test.YthjkogighppeaaaKSetOfFormula12
import Derived.Test.YthjkogighppeaaaKSetOfFormula15
import Derived.Deep.RegionHeld3
section
namespace Go.Proofs.Ythjkogighppeaaa
open Go.RowKit Go.Sort
set_option linter.unusedVariables false

/-- The patterns of which the examples meet the formula. -/
def sfM (t : Fm) (z : Int) : List (List Int) := (allP z.toNat (namesFm t).length).filter fun p => holdB 6 (namesFm t) t (exL (numL (namesFm t) 4) p)
theorem fm_wid {z : Int} {t : Fm} (h : isFmB z t = true) : 0 ≤ z ∧ z ≤ 4 := by
  unfold isFmB at h
  simp only [Bool.and_eq_true] at h
  have h1 := h.1
  unfold fwB at h1
  simp only [Bool.and_eq_true] at h1
  have h2 := h1.1
  simpa [widB] using h2
theorem names_asc (t : Fm) : AscP (namesFm t) := asc_insAll _ _ List.Pairwise.nil
theorem names_nodup (t : Fm) : (namesFm t).Nodup := (names_asc t).imp fun h => Int.ne_of_lt h
theorem pats_filter {cs : List Int} (hd : cs.Nodup) (h3 : cs.length ≤ 3) {n : Nat} (hn : n ≤ 4) (f : List Int → Bool) : ∀ M : List (List Int), (∀ p ∈ M, p ∈ allP n cs.length) → patsL cs ((exsL cs M).filter f) = M.filter fun p => f (exL (numL cs 4) p)
  | [], _ => rfl
  | p :: r, h => by
    have ih := pats_filter hd h3 hn f r fun q hq => h q (List.mem_cons_of_mem _ hq)
    have hp := pat_exL hd h3 hn (h p List.mem_cons_self)
    unfold exsL patsL at *
    rw [List.map_cons, List.filter_cons, List.filter_cons]
    cases hf : f (exL (numL cs 4) p) with
    | true => simp only [if_true, List.map_cons, hp, ih]
    | false => simpa using ih
theorem sf_impl {t : Fm} {n : Nat} (hn : n ≤ 4) (h3 : (namesFm t).length ≤ 3) : thoseL n (namesFm t).length (patsL (namesFm t) ((exsL (namesFm t) (allP n (namesFm t).length)).filter fun l => !(!(holdB 6 (namesFm t) t l)))) = sfM t n := by
  rw [pats_filter (names_nodup t) h3 hn _ _ (fun p hp => hp)]
  unfold sfM
  rw [Int.toNat_natCast]
  simp only [Bool.not_not]
  exact thoseL_filter _ _ _
end Go.Proofs.Ythjkogighppeaaa
end

section
namespace Go.Proofs.Ythjkogighppeaaa
open Go.RowKit Go.Sort
set_option linter.unusedVariables false

namespace SfI
theorem row4 {w : World} {g : Nat} {a b c d : Value} {T : TypeId} (h : w.heap[g]? = some (.cells #[a, b, c, d] T (0, 0))) : w.cell? ⟨g, 0, none⟩ = some a ∧ w.cell? ⟨g, 1, none⟩ = some b ∧ w.cell? ⟨g, 2, none⟩ = some c ∧ w.cell? ⟨g, 3, none⟩ = some d := by
  refine ⟨?_, ?_, ?_, ?_⟩ <;> rw [cell_of_row w g _ _ _ _ h] <;> rfl
theorem row1 {w : World} {g : Nat} {a : Value} {T : TypeId} (h : w.heap[g]? = some (.cells #[a] T (0, 0))) : w.cell? ⟨g, 0, none⟩ = some a := by
  rw [cell_of_row w g _ _ _ _ h] <;> rfl
theorem own_hz {w : World} {base size n cap : Nat} {e : TypeId} {A : Option Addr} {xs : List Value} (h : w.ownsRow base e size (.slice A n cap) n xs) : A = none → cap = 0 := by
  rintro rfl
  rcases h.2 with ⟨e1, _⟩ | ⟨g, c, cur, e1, _⟩
  · injection e1
  · cases e1
theorem own_rcap {w : World} {S : List Nat} {A : Option Addr} {c n : Nat} {P : List (List Int)} (h : Own w S (.slice A n c) (rowsMem P)) (hp : 0 < P.length) : P.length ≤ c := by
  obtain ⟨xs, S', ho, _⟩ := own_split h
  rcases ho.2 with ⟨_, h0⟩ | ⟨g, cap, cur, e1, _, _, h2, _⟩
  · omega
  · injection e1 with _ _ e3
    omega
end SfI
set_option maxRecDepth 100000 in
set_option maxHeartbeats 4000000 in
/-- The function literal: whether an example does not meet the formula. -/
theorem sfPred_any (t : Fm) (cs l : List Int) (A B Bk : Option Addr) (c e ek Vc Vf : Nat) (W : World) (hw : fwB 6 l.length t = true) (h3 : cs.length ≤ 3) (h1 : W.heap[Vf]? = some (.cells #[.int .i64 t.op, .int .i64 t.fa, .int .i64 t.fb, .slice Bk t.kids.length ek] 34 (0, 0))) (h2 : W.heap[Vc]? = some (.cells #[.slice A cs.length c] 26 (0, 0)))
    (hX : FmIn W (.agg #[.int .i64 t.op, .int .i64 t.fa, .int .i64 t.fb, .slice Bk t.kids.length ek]) t) (hA : IntsAt W A cs) (hz : A = none → c = 0) (hB : IntsAt W B l) (hzB : B = none → e = 0) :
    Calls Try.prog 26 #[.slice B l.length e, .pointer (some ⟨Vc, 0, none⟩), .pointer (some ⟨Vf, 0, none⟩)] W (fun e w' => e = .returned (.bool (!(holdB 6 cs t l))) ∧ Below W.heap.size W w') := by
  have hh := holdsWith_any 6 t cs l A B c e _ W hw h3 hX hA hz hB hzB
  obtain ⟨x0, x1, x2, x3⟩ := SfI.row4 h1
  have y0 := SfI.row1 h2
  generalize holdB 6 cs t l = r at hh ⊢
  clear h1 h2 hX hA hz hB hzB hw
  go_enter Try.func26, Try.ntmps26
  go_wp2_with fail
  (with_reducible refine hh.mono ?_)
  rintro e w2 ⟨rfl, hb2⟩
  clear hh x0 x1 x2 x3 y0
  go_wp2
  go_ret
  exact ⟨rfl, hb2⟩

set_option maxRecDepth 100000 in
set_option maxHeartbeats 8000000 in
theorem setOfFormula_impl (t : Fm) (z : Int) (x : Value) (w : World) (hc : cntFm t ≤ 1048576) (hx : FmIn w x t) :
    Calls Try.prog 7 #[x, .int .i64 z] w (OrbBOut (ozR (isFmB z t) z) (olR (isFmB z t) (namesFm t)) (omR (isFmB z t) (sfM t z)) (isFmB z t) w) := by
  have hX := hx
  obtain ⟨Bk, ek, rfl, hk⟩ := hx
  have h1 := heap_alloc_new w (.cells #[.int .i64 t.op, .int .i64 t.fa, .int .i64 t.fb, .slice Bk t.kids.length ek] 34)
  have h2 := heap_alloc_new (w.alloc (.cells #[.int .i64 t.op, .int .i64 t.fa, .int .i64 t.fb, .slice Bk t.kids.length ek] 34)) (.cells #[.int .i64 0, .slice none 0 0, .slice none 0 0] 29)
  rw [World.size_alloc] at h2
  have h1b := (Below.heap_alloc (w.alloc (.cells #[.int .i64 t.op, .int .i64 t.fa, .int .i64 t.fb, .slice Bk t.kids.length ek] 34)) (.cells #[.int .i64 0, .slice none 0 0, .slice none 0 0] 29) w.heap.size (by rw [World.size_alloc]; omega)).trans h1
  have hb0 : Below w.heap.size w ((w.alloc (.cells #[.int .i64 t.op, .int .i64 t.fa, .int .i64 t.fb, .slice Bk t.kids.length ek] 34)).alloc (.cells #[.int .i64 0, .slice none 0 0, .slice none 0 0] 29)) := ((Below.refl _ _).alloc (Nat.le_refl _) _).alloc (by rw [World.size_alloc]; omega) _
  have hif := isFormula_impl t z _ _ hc (hX.below hb0)
  have H1 := Lib.hid h1b
  have H2 := Lib.hid h2
  have HB := Lib.hid hb0
  have HX := Lib.hid hX
  obtain ⟨x0, x1, x2, x3⟩ := SfI.row4 h1b
  clear h1 h2 h1b hb0 hX hk
  cases hfm : isFmB z t with
  | false =>
    rw [hfm] at hif
    go_enter Try.func7, Try.ntmps7
    go_wp2_with fail
    (with_reducible refine hif.mono ?_)
    rintro e w1 ⟨rfl, hb1⟩
    have hbz := HB.out.trans (hb1.mono HB.out.size)
    have hr2 := (hb1.block _ (OrbK.box_lt H2.out)).trans H2.out
    obtain ⟨y0, y1, y2⟩ := OrbK.row3 hr2
    obtain ⟨z0, z1, z2⟩ := z3At hr2
    have hpost := orbB_zero (((hbz.setCell (p := ⟨w.heap.size + 1, 0, none⟩) (by show w.heap.size ≤ w.heap.size + 1; omega) (.int .i64 0)).setCell (p := ⟨w.heap.size + 1, 1, none⟩) (by show w.heap.size ≤ w.heap.size + 1; omega) (.slice none 0 0)).setCell (p := ⟨w.heap.size + 1, 2, none⟩) (by show w.heap.size ≤ w.heap.size + 1; omega) (.slice none 0 0))
    have HP := Lib.hid hpost
    clear hif hb1 hbz hr2 x0 x1 x2 x3 hpost
    go_wp2
    exact bodyPost_ret (v := .tuple #[.agg #[.int .i64 0, .slice none 0 0, .slice none 0 0], .bool false]) (by simp [results, Try.results7, go_sem, y0, y1, y2]) rfl HP.out
  | true =>
    rw [hfm] at hif
    obtain ⟨hz0, hz4⟩ := fm_wid hfm
    have hff : fwB 6 z t = true ∧ (namesFm t).length ≤ 3 := by
      have h := hfm
      unfold isFmB at h
      simpa using h
    obtain ⟨n, rfl⟩ : ∃ n : Nat, z = n := ⟨z.toNat, by omega⟩
    have hn4 : n ≤ 4 := by omega
    have HSF := Lib.hid (sf_impl (t := t) hn4 hff.2)
    go_enter Try.func7, Try.ntmps7
    go_wp2_with fail
    (with_reducible refine hif.mono ?_)
    rintro e w1 ⟨rfl, hb1⟩
    have h11 := (hb1.block _ (OrbK.box_lt H1.out)).trans H1.out
    have h21 := (hb1.block _ (OrbK.box_lt H2.out)).trans H2.out
    have hbz := HB.out.trans (hb1.mono HB.out.size)
    have hna := atomsIn_any 1048577 t (by have := szFm_cnt t; omega) (Nat.le_refl _) _ w1 (HX.out.below hbz)
    clear hif hb1 x0 x1 x2 x3
    obtain ⟨x0, x1, x2, x3⟩ := SfI.row4 h11
    have H11 := Lib.hid h11
    have H21 := Lib.hid h21
    have HBZ := Lib.hid hbz
    clear h11 h21 hbz H1 H2 HB
    go_wp2_with fail
    (with_reducible refine hna.mono ?_)
    rintro e w2 ⟨gA, cA, rfl, hoA, hb2⟩
    have hbx : Below w2.heap.size w2 (w2.alloc (.cells #[.slice (some ⟨gA, 0, none⟩) (namesFm t).length cA] 26)) := (Below.refl _ _).alloc (Nat.le_refl _) _
    have hb12 := hb2.trans (hbx.mono hb2.size)
    have hK := heap_alloc_new w2 (.cells #[.slice (some ⟨gA, 0, none⟩) (namesFm t).length cA] 26)
    have K1 := Lib.hid ((hb12.block _ (OrbK.box_lt H11.out)).trans H11.out)
    have K2 := Lib.hid ((hb12.block _ (OrbK.box_lt H21.out)).trans H21.out)
    have KC := Lib.hid hK
    have BZ := Lib.hid (HBZ.out.trans (hb12.mono HBZ.out.size))
    have hAt := ints_own hoA
    have HA := Lib.hid (hAt.below hbx)
    clear hna hoA hb2 hbx hb12 hK hAt x0 x1 x2 x3 H11 H21 HBZ
    have hlc : (namesFm t).length ≤ 3 := hff.2
    have HFW := Lib.hid hff.1
    go_upto_region 4 with fail
    have hgl := OrbK.box_lt KC.out
    have hgz : w2.heap.size < (w2.alloc (.cells #[.slice (some ⟨gA, 0, none⟩) (namesFm t).length cA] 26)).heap.size := hgl
    generalize w2.alloc (.cells #[.slice (some ⟨gA, 0, none⟩) (namesFm t).length cA] 26) = w3 at K1 K2 KC BZ HA hgl hgz ⊢
    generalize w2.heap.size = V at KC hgl hgz ⊢
    have hdr : Below w3.heap.size w3 w3.drew := ⟨rfl, rfl, rfl, Nat.le_refl _, fun _ _ => rfl⟩
    have hpa := patternsOf_impl (n : Int) ((namesFm t).length : Int) w3.drew
    rw [patsR_yes (by simp [widB]; omega) (by simp [kB]; omega), Int.toNat_natCast] at hpa
    have c0 := SfI.row1 (w := w3.drew) KC.out
    have hP : DelR.PredC (fun l => !(holdB 6 (namesFm t) t l)) w3.heap.size w3 V w.heap.size n := fun W A c l hbW hln hAl hzl => sfPred_any t (namesFm t) l (some ⟨gA, 0, none⟩) A Bk cA c ek V w.heap.size W (by rw [hln]; exact HFW.out) hlc ((hbW.block _ (OrbK.box_lt K1.out)).trans K1.out) ((hbW.block _ (OrbK.box_lt KC.out)).trans KC.out) (HX.out.below (BZ.out.trans (hbW.mono BZ.out.size))) (HA.out.below hbW) (fun e => by cases e) hAl hzl
    have HP := Lib.hid hP
    have HPT := Lib.hid (fun p (h : p ∈ allP n (namesFm t).length) => (mem_allP (by omega)).1 h)
    have HPS := Lib.hid (allP_pos (k := ((namesFm t).length : Int)) (by omega) n)
    have HPM := Lib.hid (allP_4096 (k := ((namesFm t).length : Int)) (by omega) (by omega) hn4)
    clear hP hfm hff hz0 hz4
    generalize holdB 6 (namesFm t) t = H at HP HSF
    generalize hRR : sfM t n = R at HSF
    have HRR := Lib.hid hRR
    clear hRR
    generalize namesFm t = cs at *
    generalize allP n cs.length = M at *
    have hex := fun (W : World) (k : Below w3.heap.size w3 W) (A : Option Addr) (c : Nat) (hM : RowsIn W (.slice A M.length c) M) => examplesFor_any (some ⟨gA, 0, none⟩) A cA c cs M W (HA.out.below k) hM (by omega) (by have := HPM.out; omega) (fun i hi => by
      have h9 := HPT.out (rwAt M i) (by rw [rwAt_get _ _ hi]; exact List.getElem_mem hi)
      exact ⟨h9.2, by omega⟩)
    have HEX := Lib.hid hex
    clear hex
    go_region_held3 (fun w' => w'.cell? ⟨V, 0, none⟩ = some (.slice (some ⟨gA, 0, none⟩) cs.length cA))
      (first | (with_reducible assumption) | go_keep)
      (first
      | (go_at_call 24; (with_reducible refine hpa.mono ?_); rintro e w4 ⟨v4, S4, rfl, hO4, hS4, hb4⟩; have hb34 := hdr.trans (hb4.mono hdr.size); obtain ⟨Ap, cp, rfl⟩ := RowsIn.form (show RowsIn w4 v4 M from hO4.at_); have hexx := HEX.out w4 hb34 Ap cp hO4.at_; have c1 := SfI.row1 ((hb34.block _ (OrbK.box_lt KC.out)).trans KC.out))
      | (go_at_call 23; (with_reducible refine hexx.mono ?_); rintro e w5 ⟨v5, S5, rfl, hO5, hS5, hb5⟩; have hb35 := hb34.trans (hb5.mono hb34.size); have c2 := SfI.row1 ((hb35.block _ (OrbK.box_lt KC.out)).trans KC.out))
      | fail)
    all_goals
      obtain ⟨g5, off5, c5, u5, rfl, hR, hg5⟩ := DelR.rw_of hO5 (by rw [exsL_len]; exact HPS.out)
      have hcap := SfI.own_rcap hO5 (by rw [exsL_len]; exact HPS.out)
      have hgB : w3.heap.size ≤ g5 := by have h1 := hS5 g5 hg5; have h2 := hb34.size; omega
      have hdl := deleteRows_any (fun l => !(H l)) w3.heap.size V w.heap.size n w3 w5 HP.out hb35 hb35.size (exsL cs M) g5 off5 c5 u5 hR hgB (by rw [exsL_len]; have := HPM.out; omega) hcap (fun j hj => by
        rw [exsL_len] at hj
        rw [ex_at hj, exL_len]
        exact (HPT.out (rwAt M j) (by rw [rwAt_get _ _ hj]; exact List.getElem_mem hj)).1)
      have HB35 := Lib.hid hb35
      have HG5 := Lib.hid hgB
      have hle : ((exsL cs M).filter fun l => !(!(H l))).length ≤ 4096 := by
        have h1 := List.length_filter_le (fun l => !(!(H l))) (exsL cs M)
        rw [exsL_len] at h1
        have := HPM.out
        omega
      have HFL := Lib.hid (fun l (h : l ∈ (exsL cs M).filter fun l => !(!(H l))) => (by
        have h1 := (List.mem_filter.1 h).1
        obtain ⟨p, hp, rfl⟩ := List.mem_map.1 h1
        rw [exL_len]
        exact (HPT.out p hp).1 : l.length = n))
      have HSF2 := HSF
      generalize hEE : ((exsL cs M).filter fun l => !(!(H l))) = EE at hdl hle HFL HSF
      clear hEE HSF2 hpa hexx hO4 hS4 hb4 hb34 hO5 hS5 hb5 hb35 hR hg5 hcap hgB hdr HEX HP
      go_wp2_with fail
      (with_reducible refine hdl.mono ?_)
      rintro e w6 ⟨rfl, hrows, hon⟩
      have hb36 : Below w3.heap.size w3 w6 := Only.below HB35.out hon HB35.out.size (fun b hb => by have := HG5.out; simp at hb; omega)
      have e1 := (hb36.block _ (OrbK.box_lt KC.out)).trans KC.out
      have e2 := (hb36.block _ (OrbK.box_lt K2.out)).trans K2.out
      have c3 := SfI.row1 e1
      have hso := setOfTuples_any n hn4 cs hlc EE (by omega) (fun i hi => HFL.out _ (by rw [rwAt_get _ _ hi]; exact List.getElem_mem hi)) (some ⟨gA, 0, none⟩) (some ⟨g5, off5, none⟩) cA c5 w6 (HA.out.below hb36) hrows
      rw [HSF.out] at hso
      have HB6 := Lib.hid (BZ.out.trans (hb36.mono BZ.out.size))
      have HE2 := Lib.hid e2
      clear hdl hrows hon hb36 e1 e2 c0 c1 c2
      go_wp2_with fail
      (with_reducible refine hso.mono ?_)
      rintro e w7 ⟨A4, c4, A5, c7, S7, rfl, hL7, hS7, hb7⟩
      have hr7 := (hb7.block _ (OrbK.box_lt HE2.out)).trans HE2.out
      obtain ⟨y0, y1, y2⟩ := OrbK.row3 hr7
      obtain ⟨z0, z1, z2⟩ := z3At hr7
      have hpost := orbB_of true (orb_pass (r := w.heap.size + 1) hL7 (HB6.out.trans (hb7.mono HB6.out.size)) (by omega) (fun b h => by have h1 := hS7 b h; have h2 := OrbK.box_lt HE2.out; omega))
      have HPO := Lib.hid hpost
      clear hso hL7 hS7 hb7 hr7 hpost c3
      go_wp2
      obtain rfl := HRR.out
      exact bodyPost_ret (v := .tuple #[.agg #[.int .i64 (n : Int), .slice A4 cs.length c4, .slice A5 (sfM t n).length c7], .bool true]) (by simp [results, Try.results7, go_sem, y0, y1, y2]) rfl HPO.out
end Go.Proofs.Ythjkogighppeaaa
end

section
namespace Go.Proofs.Ythjkogighppeaaa
open Go.RowKit Go.Sort
set_option linter.unusedVariables false

theorem sf_spec {t : Fm} {n : Nat} : thoseL n (namesFm t).length ((allP n (namesFm t).length).filter fun p => holdB 6 (namesFm t) t (exL (numL (namesFm t) 4) p)) = sfM t n := by
  unfold sfM
  rw [Int.toNat_natCast]
  exact thoseL_filter _ _ _
set_option maxRecDepth 100000 in
set_option maxHeartbeats 8000000 in
theorem setOfFormula_spec (t : Fm) (z : Int) (x : Value) (w : World) (hc : cntFm t ≤ 1048576) (hx : FmIn w x t) :
    Calls Try.prog 5 #[x, .int .i64 z] w (OrbBOut (ozR (isFmB z t) z) (olR (isFmB z t) (namesFm t)) (omR (isFmB z t) (sfM t z)) (isFmB z t) w) := by
  have hX := hx
  obtain ⟨Bk, ek, rfl, hk⟩ := hx
  have h1 := heap_alloc_new w (.cells #[.int .i64 t.op, .int .i64 t.fa, .int .i64 t.fb, .slice Bk t.kids.length ek] 34)
  have h2 := heap_alloc_new (w.alloc (.cells #[.int .i64 t.op, .int .i64 t.fa, .int .i64 t.fb, .slice Bk t.kids.length ek] 34)) (.cells #[.int .i64 0, .slice none 0 0, .slice none 0 0] 29)
  rw [World.size_alloc] at h2
  have h1b := (Below.heap_alloc (w.alloc (.cells #[.int .i64 t.op, .int .i64 t.fa, .int .i64 t.fb, .slice Bk t.kids.length ek] 34)) (.cells #[.int .i64 0, .slice none 0 0, .slice none 0 0] 29) w.heap.size (by rw [World.size_alloc]; omega)).trans h1
  have hb0 : Below w.heap.size w ((w.alloc (.cells #[.int .i64 t.op, .int .i64 t.fa, .int .i64 t.fb, .slice Bk t.kids.length ek] 34)).alloc (.cells #[.int .i64 0, .slice none 0 0, .slice none 0 0] 29)) := ((Below.refl _ _).alloc (Nat.le_refl _) _).alloc (by rw [World.size_alloc]; omega) _
  have hif := isFormula_spec t z _ _ hc (hX.below hb0)
  have H1 := Lib.hid h1b
  have H2 := Lib.hid h2
  have HB := Lib.hid hb0
  have HX := Lib.hid hX
  obtain ⟨x0, x1, x2, x3⟩ := SfI.row4 h1b
  clear h1 h2 h1b hb0 hX hk
  cases hfm : isFmB z t with
  | false =>
    rw [hfm] at hif
    go_enter Try.func5, Try.ntmps5
    go_wp2_with fail
    (with_reducible refine hif.mono ?_)
    rintro e w1 ⟨rfl, hb1⟩
    have hbz := HB.out.trans (hb1.mono HB.out.size)
    have hr2 := (hb1.block _ (OrbK.box_lt H2.out)).trans H2.out
    obtain ⟨y0, y1, y2⟩ := OrbK.row3 hr2
    obtain ⟨z0, z1, z2⟩ := z3At hr2
    have hpost := orbB_zero (((hbz.setCell (p := ⟨w.heap.size + 1, 0, none⟩) (by show w.heap.size ≤ w.heap.size + 1; omega) (.int .i64 0)).setCell (p := ⟨w.heap.size + 1, 1, none⟩) (by show w.heap.size ≤ w.heap.size + 1; omega) (.slice none 0 0)).setCell (p := ⟨w.heap.size + 1, 2, none⟩) (by show w.heap.size ≤ w.heap.size + 1; omega) (.slice none 0 0))
    have HP := Lib.hid hpost
    clear hif hb1 hbz hr2 x0 x1 x2 x3 hpost
    go_wp2
    exact bodyPost_ret (v := .tuple #[.agg #[.int .i64 0, .slice none 0 0, .slice none 0 0], .bool false]) (by simp [results, Try.results5, go_sem, y0, y1, y2]) rfl HP.out
  | true =>
    rw [hfm] at hif
    obtain ⟨hz0, hz4⟩ := fm_wid hfm
    have hff : fwB 6 z t = true ∧ (namesFm t).length ≤ 3 := by
      have h := hfm
      unfold isFmB at h
      simpa using h
    obtain ⟨n, rfl⟩ : ∃ n : Nat, z = n := ⟨z.toNat, by omega⟩
    have hn4 : n ≤ 4 := by omega
    have HSF := Lib.hid (sf_spec (t := t) (n := n))
    go_enter Try.func5, Try.ntmps5
    go_wp2_with fail
    (with_reducible refine hif.mono ?_)
    rintro e w1 ⟨rfl, hb1⟩
    have h11 := (hb1.block _ (OrbK.box_lt H1.out)).trans H1.out
    have h21 := (hb1.block _ (OrbK.box_lt H2.out)).trans H2.out
    have hbz := HB.out.trans (hb1.mono HB.out.size)
    have hna := l6Names_any 1048577 t (by have := szFm_cnt t; omega) (Nat.le_refl _) _ w1 (HX.out.below hbz)
    clear hif hb1 x0 x1 x2 x3
    obtain ⟨x0, x1, x2, x3⟩ := SfI.row4 h11
    have H11 := Lib.hid h11
    have H21 := Lib.hid h21
    have HBZ := Lib.hid hbz
    clear h11 h21 hbz H1 H2 HB
    go_wp2_with fail
    (with_reducible refine hna.mono ?_)
    rintro e w2 ⟨gA, cA, rfl, hoA, hb2⟩
    have K1 := Lib.hid ((hb2.block _ (OrbK.box_lt H11.out)).trans H11.out)
    have K2 := Lib.hid ((hb2.block _ (OrbK.box_lt H21.out)).trans H21.out)
    have BZ := Lib.hid (HBZ.out.trans (hb2.mono HBZ.out.size))
    have HA := Lib.hid (ints_own hoA)
    have hlc : (namesFm t).length ≤ 3 := hff.2
    have HFW := Lib.hid hff.1
    have HAS := Lib.hid (names_asc t)
    have hal := l6All_any (namesFm t).length hlc n hn4 n rfl (w2.alloc (.cells #[] 26))
    have ho0 := own_lit0 w2
    have hbl : Below w2.heap.size w2 (w2.alloc (.cells #[] 26)) := (Below.refl _ _).alloc (Nat.le_refl _) _
    have hzl : (w2.alloc (.cells #[] 26)).heap.size = w2.heap.size + 1 := by simp
    have HHO := Lib.hid (fun (W : World) (k : Below w2.heap.size w2 W) (B9 : Option Addr) (d9 : Nat) (l : List Int) (hl : l.length = n) (hB9 : IntsAt W B9 l) (hz9 : B9 = none → d9 = 0) => l6Holds_any 6 t (namesFm t) l (some ⟨gA, 0, none⟩) B9 cA d9 _ W (by rw [hl]; exact hff.1) hlc (names_asc t) (HX.out.below (BZ.out.trans (k.mono BZ.out.size))) (HA.out.below k) (fun e => by cases e) hB9 hz9)
    have HEX := Lib.hid (fun (W : World) (k : Below w2.heap.size w2 W) (B9 : Option Addr) (d9 : Nat) (p : List Int) (hp : p ∈ allP n (namesFm t).length) (hB9 : IntsAt W B9 p) => (by
      have hm := (mem_allP (k := ((namesFm t).length : Int)) (by omega)).1 hp
      have h1 := l6Example_any (some ⟨gA, 0, none⟩) B9 cA d9 (namesFm t) p W (HA.out.below k) (fun e => by cases e) hB9 (by omega) (by omega) (fun i hi => by
        have h2 := pat_places (k := (namesFm t).length) hm.2 (V := numL (namesFm t) p.length) (by rw [numL_len]; omega) i hi
        rw [numL_len] at h2
        exact h2)
      rw [exL_same hm.2 (by omega)] at h1
      exact h1 : Calls Try.prog 18 #[.slice (some ⟨gA, 0, none⟩) (namesFm t).length cA, .slice B9 p.length d9] W (NewInts (exL (numL (namesFm t) 4) p) W)))
    have HPT := Lib.hid (fun p (h : p ∈ allP n (namesFm t).length) => (mem_allP (by omega)).1 h)
    have HPS := Lib.hid (allP_pos (k := ((namesFm t).length : Int)) (by omega) n)
    have HPM := Lib.hid (allP_4096 (k := ((namesFm t).length : Int)) (by omega) (by omega) hn4)
    have HFT := Lib.hid (fun (L : List (List Int)) (hf : FitR L) (W : World) (k : Below w2.heap.size w2 W) (B9 : Option Addr) (d9 : Nat) (hB : RowsIn W (.slice B9 L.length d9) L) => l6Those_any n hn4 (namesFm t) hlc L hf (some ⟨gA, 0, none⟩) B9 cA d9 W ⟨HA.out.below k, fun e => by cases e⟩ hB)
    generalize hRR : sfM t n = R at HSF
    have HRR := Lib.hid hRR
    clear hRR hna hoA hb2 x0 x1 x2 x3 H11 H21 HBZ hfm hff hz0 hz4
    have hAl : IntsAt w2 (some ⟨gA, 0, none⟩) (namesFm t) := HA.out
    generalize holdB 6 (namesFm t) t = H at HHO HSF
    generalize namesFm t = cs at *
    generalize hMM : allP n cs.length = M at HSF HEX HPT HPS HPM hal
    clear hAl hMM
    go_wp2_with fail
    (with_reducible refine hal.mono ?_)
    rintro e w3 ⟨v3, S3, rfl, hS3, hS3b, hb3⟩
    rw [hzl] at hS3b
    obtain ⟨g, off, cg, u, TT, rfl, hleft, hTS, hgS⟩ := left_of hS3 HPS.out
    have hg0 := hS3b g hgS
    have hb23 := hbl.trans (hb3.mono hbl.size)
    have hTb : ∀ j, ∀ b ∈ TT j, w2.heap.size + 1 ≤ b := fun j b hb => hS3b b (hTS j b hb)
    have ho3 := ho0.keep (w' := w3) (by have := hb3; exact this)
    have HUB0 : Hid (∀ b ∈ [w2.heap.size], w2.heap.size ≤ b ∧ b ≠ g ∧ ∀ q, 0 ≤ q → b ∉ TT q) := Lib.hid (fun b hb => by
      rw [List.mem_singleton.1 hb]
      exact ⟨Nat.le_refl _, by omega, fun q _ hq => by have := hTb q _ hq; omega⟩)
    have HTB := Lib.hid hTb
    have hTl : ∀ j, ∀ b ∈ TT j, b < w3.heap.size := fun j b hb => hS3.lt b (hTS j b hb)
    have HTL := Lib.hid hTl
    have hs3 := hb23.size
    have HO0 : Hid (Own w3 [w2.heap.size] (.slice (some ⟨w2.heap.size, 0, none⟩) 0 0) (rowsMem ((M.take 0).filter fun p => H (exL (numL cs 4) p)))) := Lib.hid (by simpa using ho3)
    have HLF := Lib.hid hleft
    have HB23 := Lib.hid hb23
    clear hal ho0 hbl hzl hS3 hS3b hleft hTS hgS hb3 hb23 hTb ho3 hTl
    go_wp2
    go_loopw [7, 9, 23] (fun v7 _ i wr => ∃ (j : Nat) (U : List Nat), j ≤ M.length ∧ i = .int .i64 j ∧ Hid (Own wr U v7 (rowsMem ((M.take j).filter fun p => H (exL (numL cs 4) p)))) ∧ Hid (Left wr M g off u TT j) ∧ Hid (∀ b ∈ U, w2.heap.size ≤ b ∧ b ≠ g ∧ ∀ q, j ≤ q → b ∉ TT q) ∧ Below w2.heap.size w2 wr ∧ w3.heap.size ≤ wr.heap.size) (fun _ _ i _ => M.length - (intOf i).toNat)
    case atStart => exact ⟨0, _, Nat.zero_le _, rfl, HO0, HLF, HUB0, HB23.out, Nat.le_refl _⟩
    case round =>
      obtain ⟨j, U, hj, rfl, hU, hLf, hUb, hb, hsw⟩ := hrel
      have hjb : j ≤ 4096 := Nat.le_trans hj HPM.out
      by_cases hlt : j < M.length
      · obtain ⟨A3, c3, hu3, hA3, hc3, hO3⟩ := hLf.out.row hlt
        have hli : (j : Int) < (M.length : Int) := by omega
        have hmem : rwAt M j ∈ M := by rw [rwAt_get _ _ hlt]; exact List.getElem_mem hlt
        have hpl := (HPT.out _ hmem).1
        have hfy := Lib.hid (fun h => filter_yes (f := fun p => H (exL (numL cs 4) p)) hlt h)
        have hfn := Lib.hid (fun h => filter_no (f := fun p => H (exL (numL cs 4) p)) hlt h)
        have hfl := filter_take_le M (fun p => H (exL (numL cs 4) p)) j
        have HPM2 := HPM.out
        have hdr : Below wr.heap.size wr wr.drew := ⟨rfl, rfl, rfl, Nat.le_refl _, fun _ _ => rfl⟩
        have kc := hb.trans (hdr.mono hb.size)
        have hex := HEX.out wr.drew kc A3 c3 _ hmem (hA3.1.below hdr)
        have hho := fun (W : World) (k : Below w2.heap.size w2 W) B9 d9 (h9 : IntsAt W B9 (exL (numL cs 4) (rwAt M j))) (hz9 : B9 = none → d9 = 0) => HHO.out W k B9 d9 _ (by rw [exL_len]; exact hpl) h9 hz9
        have HO3 := Lib.hid hO3
        have HDT := Lib.hid (fun b (h1 : b ∈ U) => (hUb.out b h1).2.2 j (Nat.le_refl _))
        have HDJ := Lib.hid (fun q (h : j + 1 ≤ q) b (h1 : b ∈ TT j) => hLf.out.dis j q (by omega) b h1)
        have HGJ := Lib.hid (hLf.out.hd j)
        have hgl := hLf.out.lt
        have HTJ := Lib.hid (HTB.out j)
        have hel := exL_len (numL cs 4) (rwAt M j)
        clear hA3 hu3 hO3 hmem
        generalize hFF : (M.take j).filter (fun p => H (exL (numL cs 4) p)) = FF at hU hfy hfn hfl
        generalize hpp : rwAt M j = p at hfy hfn hex hho hc3 HO3 hpl hel
        generalize exL (numL cs 4) p = ee at hfy hfn hex hho hel
        clear hFF hpp
        have HPL := Lib.hid hpl
        have HEL := Lib.hid hel
        clear hpl hel
        obtain ⟨f0, f1, f2, f3⟩ := SfI.row4 (w := wr.drew) ((kc.block _ (OrbK.box_lt K1.out)).trans K1.out)
        go_upto_region 8 with fail
        cases hin : H ee with
        | false =>
          have HNX := Lib.hid (hfn.out hin)
          rw [hin] at hho
          go_region_held3 (fun w' => w'.cell? ⟨w.heap.size, 0, none⟩ = some (.int .i64 t.op) ∧ w'.cell? ⟨w.heap.size, 1, none⟩ = some (.int .i64 t.fa) ∧ w'.cell? ⟨w.heap.size, 2, none⟩ = some (.int .i64 t.fb) ∧ w'.cell? ⟨w.heap.size, 3, none⟩ = some (.slice Bk t.kids.length ek))
            (first | (with_reducible exact ⟨by assumption, by assumption, by assumption, by assumption⟩) | go_keep)
            (first
            | (go_at_call 18; (with_reducible refine hex.mono ?_); rintro e w4 ⟨v4, rfl, ho4, hb4⟩; obtain ⟨A4, c4, rfl, hA4⟩ := own_intsAt ho4; have hz4 := SfI.own_hz ho4; have kc := kc.trans (hb4.mono kc.size); obtain ⟨g0, g1, g2, g3⟩ := SfI.row4 ((kc.block _ (OrbK.box_lt K1.out)).trans K1.out); have hhx := hho w4 kc A4 c4 hA4 hz4)
            | (go_at_call 17; (with_reducible refine hhx.mono ?_); rintro e wq ⟨rfl, hbq⟩; have kc := kc.trans (hbq.mono kc.size); obtain ⟨_, _, _, _⟩ := SfI.row4 ((kc.block _ (OrbK.box_lt K1.out)).trans K1.out); have hbw := hb4.trans (hbq.mono hb4.size))
            | fail)
          all_goals
            have hw5 := hdr.trans (hbw.mono hdr.size)
            have U5 := Lib.hid (hU.out.keep hw5)
            have L5 := Lib.hid ((hLf.out.below hw5).next)
            have B5 : Hid (∀ b ∈ U, w2.heap.size ≤ b ∧ b ≠ g ∧ ∀ q, j + 1 ≤ q → b ∉ TT q) := Lib.hid (fun b h1 => ⟨(hUb.out b h1).1, (hUb.out b h1).2.1, fun q hq => (hUb.out b h1).2.2 q (by omega)⟩)
            have KB := Lib.hid kc
            have hs5 := hw5.size
            rw [← HNX.out] at U5
            clear hex hho hc3 hU hLf hUb HNX HO3 hb kc hdr hbw hw5 f0 f1 f2 f3
            go_wp2
            refine ⟨⟨j + 1, U, by omega, by go_num, U5, L5, B5, KB.out, by omega⟩, ?_⟩
            simp only [intOf]
            omega
        | true =>
          have HNX := Lib.hid (hfy.out hin)
          rw [hin] at hho
          go_region_held3 (fun w' => w'.cell? ⟨w.heap.size, 0, none⟩ = some (.int .i64 t.op) ∧ w'.cell? ⟨w.heap.size, 1, none⟩ = some (.int .i64 t.fa) ∧ w'.cell? ⟨w.heap.size, 2, none⟩ = some (.int .i64 t.fb) ∧ w'.cell? ⟨w.heap.size, 3, none⟩ = some (.slice Bk t.kids.length ek))
            (first | (with_reducible exact ⟨by assumption, by assumption, by assumption, by assumption⟩) | go_keep)
            (first
            | (go_at_call 18; (with_reducible refine hex.mono ?_); rintro e w4 ⟨v4, rfl, ho4, hb4⟩; obtain ⟨A4, c4, rfl, hA4⟩ := own_intsAt ho4; have hz4 := SfI.own_hz ho4; have kc := kc.trans (hb4.mono kc.size); obtain ⟨g0, g1, g2, g3⟩ := SfI.row4 ((kc.block _ (OrbK.box_lt K1.out)).trans K1.out); have hhx := hho w4 kc A4 c4 hA4 hz4)
            | (go_at_call 17; (with_reducible refine hhx.mono ?_); rintro e wq ⟨rfl, hbq⟩; have kc := kc.trans (hbq.mono kc.size); obtain ⟨_, _, _, _⟩ := SfI.row4 ((kc.block _ (OrbK.box_lt K1.out)).trans K1.out); have hbw := hb4.trans (hbq.mono hb4.size))
            | fail)
          all_goals
            have hw5 := hdr.trans (hbw.mono hdr.size)
            have hbx : Below wq.heap.size wq (wq.alloc (.cells #[.slice A3 p.length c3] 26)) := (Below.refl _ _).alloc (Nat.le_refl _) _
            have hw6 := hw5.trans (hbx.mono hw5.size)
            have hU6 := hU.out.keep hw6
            have HO66 := Lib.hid (HO3.out.keep hw6)
            have HC := Lib.hid (one_cell (show (wq.alloc (.cells #[.slice A3 p.length c3] 26)).cell? ⟨wq.heap.size, 0, none⟩ = some (.slice A3 p.length c3) by simp))
            have HLF6 := Lib.hid (hLf.out.below hw6)
            have HB6 := Lib.hid (hb.trans (hw6.mono hb.size))
            have hs5 := hw5.size
            have hdl : FF.length + 1 ≤ 16777216 := by omega
            clear hex hho hc3 hU hLf HO3 kc hdr hbw hw5 hw6 hbx f0 f1 f2 f3
            go_wp2_with (at_builtin; refine wpList_append_rows rfl (.tmp 33) (.tmp 35) rfl _ U FF rfl hU6 ⟨wq.heap.size, 0, none⟩ _ p (TT j) rfl HC.out HO66.out HDT.out hdl ?_)
            intro g2 cap2 U3 w7 hU7 hU3 hon
            have hLf7 := HLF6.out.next.only hon (fun h => (hUb.out _ h).2.1 rfl) (fun q hq _ b h1 h2 => (hUb.out b h2).2.2 q (by omega) h1)
            have hb7 := Only.below HB6.out hon HB6.out.size (fun b h => (hUb.out _ h).1)
            have hs7 : wq.heap.size + 1 ≤ w7.heap.size := by have := hon.size; rw [World.size_alloc] at this; exact this
            have hs2 := HB23.out.size
            have hU3b : ∀ b ∈ U3, w2.heap.size ≤ b ∧ b ≠ g ∧ ∀ q, j + 1 ≤ q → b ∉ TT q := fun b h => by
              rcases hU3 b h with h1 | h1 | h1
              · exact ⟨(hUb.out b h1).1, (hUb.out b h1).2.1, fun q hq => (hUb.out b h1).2.2 q (by omega)⟩
              · exact ⟨by have := HTJ.out b h1; omega, fun e => HGJ.out (e ▸ h1), fun q hq => HDJ.out q hq b h1⟩
              · (try rw [World.size_alloc] at h1)
                exact ⟨by omega, by omega, fun q _ hq => by have := HTL.out q b hq; omega⟩
            have hU8 : Own w7 U3 (.slice (some ⟨g2, 0, none⟩) (FF.length + 1) cap2) (rowsMem ((M.take (j + 1)).filter fun p => H (exL (numL cs 4) p))) := by rw [HNX.out]; exact hU7
            have U8 := Lib.hid hU8
            have L8 := Lib.hid hLf7
            have B3 := Lib.hid hU3b
            have B7 := Lib.hid hb7
            clear hU6 hU7 hU3 hLf7 hb7 hU8 hU3b hon HLF6 HB6 HO66 HC HNX
            go_wp2
            refine ⟨⟨j + 1, U3, by omega, by go_num, U8, L8, B3, B7.out, by omega⟩, ?_⟩
            simp only [intOf]
            omega
      · have e : j = M.length := by omega
        subst e
        rw [List.take_length] at hU
        have hUo := hU.out
        have hfl : (M.filter fun p => H (exL (numL cs 4) p)).length ≤ 4096 := by have h1 := List.length_filter_le (fun p => H (exL (numL cs 4) p)) M; have := HPM.out; omega
        have hfr : FitR (M.filter fun p => H (exL (numL cs 4) p)) := ⟨by omega, fun i hi => by
          have h1 : rwAt (M.filter fun p => H (exL (numL cs 4) p)) i ∈ M.filter fun p => H (exL (numL cs 4) p) := by rw [rwAt_get _ _ hi]; exact List.getElem_mem hi
          have h2 := (HPT.out _ (List.mem_filter.1 h1).1).1
          omega⟩
        generalize hEE : (M.filter fun p => H (exL (numL cs 4) p)) = EE at hUo hfl hfr HSF
        obtain ⟨Au, cu, rfl⟩ := RowsIn.form (show RowsIn wr _ EE from hUo.at_)
        have hso := HFT.out EE hfr wr hb Au cu hUo.at_
        rw [HSF.out] at hso
        have HE2 := Lib.hid ((hb.block _ (OrbK.box_lt K2.out)).trans K2.out)
        have HB6 := Lib.hid (BZ.out.trans (hb.mono BZ.out.size))
        clear hEE hU hUo hLf hUb hb hfr
        go_wp2_with fail
        (with_reducible refine hso.mono ?_)
        rintro e w7 ⟨A4, c4, A5, c7, S7, rfl, hL7, hS7, hb7⟩
        have hr7 := (hb7.block _ (OrbK.box_lt HE2.out)).trans HE2.out
        obtain ⟨y0, y1, y2⟩ := OrbK.row3 hr7
        obtain ⟨z0, z1, z2⟩ := z3At hr7
        have hpost := orbB_of true (orb_pass (r := w.heap.size + 1) hL7 (HB6.out.trans (hb7.mono HB6.out.size)) (by omega) (fun b h => by have h1 := hS7 b h; have h2 := OrbK.box_lt HE2.out; omega))
        have HPO := Lib.hid hpost
        clear hso hL7 hS7 hb7 hr7 hpost
        go_wp2
        obtain rfl := HRR.out
        exact bodyPost_ret (v := .tuple #[.agg #[.int .i64 (n : Int), .slice A4 cs.length c4, .slice A5 (sfM t n).length c7], .bool true]) (by simp [results, Try.results5, go_sem, y0, y1, y2]) rfl HPO.out
theorem sf_sumR (f : List Int → Bool) : ∀ ls : List (List Int), sumR (ls.filter f) ≤ sumR ls
  | [] => Nat.le_refl _
  | l :: r => by
    have h := sf_sumR f r
    cases hl : f l with
    | true => rw [List.filter_cons_of_pos hl, sumR, sumR]; omega
    | false => rw [List.filter_cons_of_neg (by simp [hl]), sumR]; omega
theorem sf_len (t : Fm) (z : Int) : (olR (isFmB z t) (namesFm t)).length ≤ 3 ∧ (omR (isFmB z t) (sfM t z)).length + sumR (omR (isFmB z t) (sfM t z)) ≤ 1048576 := by
  cases h : isFmB z t with
  | false => simp [olR, omR, sumR]
  | true =>
    obtain ⟨h0, h4⟩ := fm_wid h
    have h3 : (namesFm t).length ≤ 3 := by
      unfold isFmB at h
      simp only [Bool.and_eq_true, decide_eq_true_eq] at h
      exact h.2
    refine ⟨h3, ?_⟩
    show (sfM t z).length + sumR (sfM t z) ≤ 1048576
    have k1 := allP_fit (k := ((namesFm t).length : Int)) (by omega) (by omega) (show z.toNat ≤ 4 by omega)
    have k2 := List.length_filter_le (fun p => holdB 6 (namesFm t) t (exL (numL (namesFm t) 4) p)) (allP z.toNat (namesFm t).length)
    have k3 := sf_sumR (fun p => holdB 6 (namesFm t) t (exL (numL (namesFm t) 4) p)) (allP z.toNat (namesFm t).length)
    unfold sfM
    omega
theorem sfFit (t : Fm) (z : Int) : FitO (olR (isFmB z t) (namesFm t)) (omR (isFmB z t) (sfM t z)) := ⟨by have := sf_len t z; omega, fitR_of (by have := sf_len t z; omega)⟩
theorem sfSum (t : Fm) (z : Int) : (olR (isFmB z t) (namesFm t)).length + sumR (omR (isFmB z t) (sfM t z)) ≤ 8388608 := by have := sf_len t z; omega
end Go.Proofs.Ythjkogighppeaaa
end

