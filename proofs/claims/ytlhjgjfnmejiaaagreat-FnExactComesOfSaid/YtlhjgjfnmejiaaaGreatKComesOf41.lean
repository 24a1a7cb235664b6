/-
  ContextUnder of the model, as a contract.
-/
import Derived.Test.YtlhjgjfnmejiaaaGreatKComesOf34
import Derived.Test.YtlhjgjfnmejiaaaGreatKComesOf40
import Derived.Test.YtlhjgjfnmejiaaaGreatKComesOf32
import Derived.Test.YtlhjgjfnmejiaaaGreatKComesOf20
namespace Go.Proofs.YtlhjgjfnmejiaaaGreat
open Go.RowKit Go.Sort Go.ChangeShapes Go.WideShapes
set_option linter.unusedVariables false

theorem okC_part {l : List RBinding} {m : List (Int × Int)} {k : Nat} (h : okC l (m.take k) = false) : okC l m = false := by
  have h1 := okC_append l (m.take k) (m.drop k)
  rw [List.take_append_drop, h] at h1
  simpa using h1
theorem sortF_one (x : Int × Int) : sortF [x] = [x] := by simp [sortF, joinF, putF, hasF, insF]
theorem nd_hole (a h : Int) : ndT a (.mk 4 h [] []) = [(a, h)] := by rw [ndT_4]; rfl
theorem ctxB_nds {l : List RBinding} {m : List (Int × Int)} (hl : subB l = true) (hm : ∀ x ∈ m, atomB x.1 = true ∧ holeB x.2 = true) : ctxB (sortF (ndC l m)) = fewB (ndC l m) := by
  have hr : rightB (sortF (ndC l m)) = true := rightB_of (fun x hx => ndC_right hl hm x (mem_sortF.1 hx)) (sortF_asc _)
  unfold ctxB fewB
  rw [hr, Bool.and_true]

set_option maxRecDepth 100000 in
set_option maxHeartbeats 8000000 in
/-- ContextUnder of the model. -/
theorem contextUnder_spec (l : List RBinding) (m : List (Int × Int)) (lv : Value) (C : Option Addr) (cc : Nat) (w : World) (hlv : RBindingsIn w lv l) (hC : PairsAt w C m) (hll : l.length ≤ 1048576) (hlc : ∀ k, k < l.length → cntT (atRBinding l k).f1 ≤ 1048576) (hml : m.length ≤ 1048576) :
    Calls Tryz.prog 35 #[lv, .slice C m.length cc] w (NewFreshsB (cuL l m) (cuB l m) w) := by
  have hbe : Below w.heap.size w (w.alloc (.cells #[] 119)) := (Below.refl _ _).alloc (Nat.le_refl _) _
  have hg0 := isSub_spec l lv _ (hlv.below hbe) hll hlc
  have HC := Lib.hid hC
  have hLV := hlv
  have hrow0 : (w.alloc (.cells #[] 119)).ownsRow w.heap.size 119 2 (.slice (some ⟨w.heap.size, 0, none⟩) 0 0) 0 [] := World.ownsRow_lit w #[] 0 (Nat.le_refl _) (by decide) rfl
  obtain ⟨CL, dl, rfl, hgl⟩ := hlv
  cases h0 : subB l with
  | false =>
    have HT := Lib.hid (cu_no1 (m := m) h0)
    rw [h0] at hg0
    clear h0 hLV hC hll hlc hgl hrow0
    go_enter Tryz.func35, Tryz.ntmps35
    go_wp2_with fail
    refine hg0.mono ?_
    rintro e w1 ⟨rfl, hb1⟩
    have hbz := hbe.trans (hb1.mono hbe.size)
    clear hg0 hb1 hbe
    go_wp2
    go_loopw [6, 7, 21] (fun v gv i wr => i = .int .i64 0 ∧ gv = .bool false ∧ Below w.heap.size w wr) (fun _ _ _ _ => 0)
    case atStart => exact ⟨rfl, rfl, hbz⟩
    case round =>
      clear hbz
      obtain ⟨rfl, rfl, hb⟩ := hrel
      by_cases hlt : 0 < m.length
      · obtain ⟨b1, o1, rfl, hb1, hc1⟩ := HC.out (by omega)
        obtain ⟨c1, c2⟩ := hc1 0 hlt
        rw [← hb.cell (p := ⟨b1, _, none⟩) hb1] at c1 c2
        rw [Nat.zero_mul, Nat.add_zero] at c1 c2
        have hbx := hb.alloc hb.size (.cells #[.int .i64 (prAt m 0).1, .int .i64 (prAt m 0).2] 119)
        have hpost : NewFreshsB (cuL l m) (cuB l m) w (.returned (.tuple #[.slice (some ⟨wr.heap.size + 1, 0, none⟩) 0 0, .bool false])) ((wr.alloc (.cells #[.int .i64 (prAt m 0).1, .int .i64 (prAt m 0).2] 119)).alloc (.cells #[] 119)) := by
          rw [HT.out.1, HT.out.2]
          have h := newFreshsB_empty (b := false) hbx
          rw [World.size_alloc] at h
          exact h
        clear hc1 hb hbx HT HC
        generalize prAt m 0 = pr at *
        go_wp2
        go_ret2
        exact hpost
      · have hpost : NewFreshsB (cuL l m) (cuB l m) w (.returned (.tuple #[.slice (some ⟨wr.heap.size, 0, none⟩) 0 0, .bool false])) (wr.alloc (.cells #[] 119)) := by
          rw [HT.out.1, HT.out.2]
          exact newFreshsB_empty hb
        clear hb HT HC
        go_wp2
        go_ret2
        exact hpost
  | true =>
    rw [h0] at hg0
    cases h1 : ctxB m with
    | false =>
      have HT := Lib.hid (cu_no2 (l := l) h1)
      have HG := Lib.hid (fun W hW => isContext_spec C cc m W hW (by omega))
      clear h0 hLV hll hlc hgl hrow0
      go_enter Tryz.func35, Tryz.ntmps35
      go_wp2_with fail
      refine hg0.mono ?_
      rintro e w0 ⟨rfl, hb0⟩
      have hbw0 := hbe.trans (hb0.mono hbe.size)
      have hg1 := HG.out w0 (hC.below hbw0)
      rw [h1] at hg1
      clear hg0 h1 hC HG hb0 hbe
      go_wp2_with fail
      refine hg1.mono ?_
      rintro e w1 ⟨rfl, hb1⟩
      have hbz := hbw0.trans (hb1.mono hbw0.size)
      clear hg1 hb1 hbw0
      go_wp2
      go_loopw [6, 7, 21] (fun v gv i wr => i = .int .i64 0 ∧ gv = .bool false ∧ Below w.heap.size w wr) (fun _ _ _ _ => 0)
      case atStart => exact ⟨rfl, rfl, hbz⟩
      case round =>
        clear hbz
        obtain ⟨rfl, rfl, hb⟩ := hrel
        by_cases hlt : 0 < m.length
        · obtain ⟨b1, o1, rfl, hb1, hc1⟩ := HC.out (by omega)
          obtain ⟨c1, c2⟩ := hc1 0 hlt
          rw [← hb.cell (p := ⟨b1, _, none⟩) hb1] at c1 c2
          rw [Nat.zero_mul, Nat.add_zero] at c1 c2
          have hbx := hb.alloc hb.size (.cells #[.int .i64 (prAt m 0).1, .int .i64 (prAt m 0).2] 119)
          have hpost : NewFreshsB (cuL l m) (cuB l m) w (.returned (.tuple #[.slice (some ⟨wr.heap.size + 1, 0, none⟩) 0 0, .bool false])) ((wr.alloc (.cells #[.int .i64 (prAt m 0).1, .int .i64 (prAt m 0).2] 119)).alloc (.cells #[] 119)) := by
            rw [HT.out.1, HT.out.2]
            have h := newFreshsB_empty (b := false) hbx
            rw [World.size_alloc] at h
            exact h
          clear hc1 hb hbx HT HC
          generalize prAt m 0 = pr at *
          go_wp2
          go_ret2
          exact hpost
        · have hpost : NewFreshsB (cuL l m) (cuB l m) w (.returned (.tuple #[.slice (some ⟨wr.heap.size, 0, none⟩) 0 0, .bool false])) (wr.alloc (.cells #[] 119)) := by
            rw [HT.out.1, HT.out.2]
            exact newFreshsB_empty hb
          clear hb HT HC
          go_wp2
          go_ret2
          exact hpost
    | true =>
      have HG := Lib.hid (fun W hW => isContext_spec C cc m W hW (by omega))
      have H0 := Lib.hid h0
      have H1 := Lib.hid h1
      have hlm := len_of_ctx h1
      have HRT := Lib.hid (ctx_right h1)
      have HLV := Lib.hid hLV
      have HGL := Lib.hid hgl
      go_enter Tryz.func35, Tryz.ntmps35
      go_wp2_with fail
      refine hg0.mono ?_
      rintro e w0 ⟨rfl, hb0⟩
      have hbw0 := hbe.trans (hb0.mono hbe.size)
      have hrw0 := own_below hrow0 hb0
      have hg1 := HG.out w0 (HC.out.below hbw0)
      rw [h1] at hg1
      clear hg0 h1 h0 hC hLV HG hll hlc hgl hrow0 hb0 hbe
      go_wp2_with fail
      refine hg1.mono ?_
      rintro e w1 ⟨rfl, hb1⟩
      have hbz := hbw0.trans (hb1.mono hbw0.size)
      have hrw1 := own_below hrw0 hb1
      clear hg1 hb1 hbw0 hrw0
      go_wp2
      go_loopw [6, 7, 21] (fun v gv i wr => ∃ (k : Nat) (g : Bool) (L : List (Int × Int)), k ≤ m.length ∧ i = .int .i64 k ∧ gv = .bool g ∧ wr.ownsRow w.heap.size 119 2 v L.length (cellsOf L) ∧ Hid (okC l (m.take k) = g) ∧ Hid (g = true → L = sortF (ndC l (m.take k))) ∧ L.length ≤ k * 61 ∧ Below w.heap.size w wr) (fun _ _ i _ => m.length - (intOf i).toNat)
      case atStart => exact ⟨0, true, [], Nat.zero_le _, rfl, rfl, hrw1, Lib.hid rfl, Lib.hid (fun _ => rfl), Nat.zero_le _, hbz⟩
      case round =>
        clear hrw1 hbz
        obtain ⟨k, g, L, hk, rfl, rfl, ho, hokk, hLL, hlen, hb⟩ := hrel
        obtain ⟨G, cap, rfl, hP⟩ := own_pairsAt ho
        by_cases hlt : k < m.length
        · obtain ⟨b1, o1, rfl, hb1, hc1⟩ := HC.out (by omega)
          obtain ⟨c1, c2⟩ := hc1 k hlt
          rw [← hb.cell (p := ⟨b1, _, none⟩) hb1] at c1 c2
          cases g with
          | false =>
            have HT := Lib.hid (cu_no3 (okC_part hokk.out))
            have hbx := hb.alloc hb.size (.cells #[.int .i64 (prAt m k).1, .int .i64 (prAt m k).2] 119)
            have hpost : NewFreshsB (cuL l m) (cuB l m) w (.returned (.tuple #[.slice (some ⟨wr.heap.size + 1, 0, none⟩) 0 0, .bool false])) ((wr.alloc (.cells #[.int .i64 (prAt m k).1, .int .i64 (prAt m k).2] 119)).alloc (.cells #[] 119)) := by
              rw [HT.out.1, HT.out.2]
              have h := newFreshsB_empty (b := false) hbx
              rw [World.size_alloc] at h
              exact h
            clear hc1 hb hbx HT HC ho hP hokk hLL HGL HLV HRT H0 H1
            generalize prAt m k = pr at *
            go_wp2
            go_ret2
            exact hpost
          | true =>
            have hL := hLL.out rfl
            have hR := HRT.out (prAt m k) (prAt_mem hlt)
            have HNX := Lib.hid (ndC_next (l := l) hlt)
            have HOX := Lib.hid (okC_next (l := l) hlt)
            have HOK := Lib.hid hokk.out
            have HL := Lib.hid hL
            have hbx : Below wr.heap.size wr (wr.alloc (.cells #[.int .i64 (prAt m k).1, .int .i64 (prAt m k).2] 119)) := (Below.refl _ _).alloc (Nat.le_refl _) _
            have hfind := l3Find_any l (prAt m k).2 _ (wr.alloc (.cells #[.int .i64 (prAt m k).1, .int .i64 (prAt m k).2] 119)) (HLV.out.below (hb.trans (hbx.mono hb.size))) (by have := sub_len H0.out; omega)
            have hrow := heap_alloc_new wr (.cells #[.int .i64 (prAt m k).1, .int .i64 (prAt m k).2] 119)
            have hbl := hb.size
            rcases find_cases l (prAt m k).2 with ⟨j, hj, hfi, hfb⟩ | ⟨hfi, hfb⟩
            · rw [hfi] at hfind
              have hu : cuT l (prAt m k).2 = (atRBinding l j).f1 := by unfold cuT; rw [hfb]
              rw [hu] at HNX HOX
              have ht := sub_term H0.out hj
              obtain ⟨bl, ol, rfl, hbbl, hget⟩ := HGL.out (by omega)
              have HEL := Lib.hid (fun (W : World) (h : Below w.heap.size w W) => (hget j hj).below hbbl h)
              have HFR := Lib.hid (fun (W : World) (y : Value) (hy : TmIn W y (atRBinding l j).f1) => l3Fresh_any (prAt m k).1 (szT (atRBinding l j).f1) (atRBinding l j).f1 (Nat.le_refl _) (term_size ht) (okP_le (by decide) (okP_good (term_good ht))) W y hy)
              have hfrl := Nat.le_trans (frL_len (prAt m k).1 (atRBinding l j).f1) (term_size ht)
              have HFY := Lib.hid (fun (h : okT (prAt m k).1 (atRBinding l j).f1 = true) => frL_yes h)
              have hj0 : (0 : Int) ≤ (j : Int) := by omega
              have hj1 : (j : Int) < (l.length : Int) := by omega
              have HO := Lib.hid ho
              have HB := Lib.hid hb
              have HBX := Lib.hid hbx
              have HROW := Lib.hid hrow
              unfold RBindingAt at HEL
              clear hc1 hb1 hR hL hu hfb ht hget HGL HLV hokk hLL hP ho hb hfi
              generalize okT (prAt m k).1 (atRBinding l j).f1 = ok at *
              generalize ndT (prAt m k).1 (atRBinding l j).f1 = nd at *
              generalize frL (prAt m k).1 (atRBinding l j).f1 = fr at *
              generalize (atRBinding l j).f1 = u at *
              generalize prAt m k = pr at *
              go_wp2_with fail
              refine hfind.mono ?_
              rintro e w2 ⟨rfl, hb2⟩
              have hb12 := HBX.out.trans (hb2.mono HBX.out.size)
              have hrow2 := (hb2.block wr.heap.size (by simp)).trans HROW.out
              obtain ⟨x0, x1, _, _⟩ := row2 hrow2
              have hx2 : wr.heap.size < w2.heap.size := BoxR.box_lt hrow2
              have hb3 : Below w2.heap.size w2 (w2.alloc (.cells #[.int .i64 pr.1, .int .i64 pr.2] 119)) := (Below.refl _ _).alloc (Nat.le_refl _) _
              have hdw : Below w2.heap.size w2 (w2.alloc (.cells #[.int .i64 pr.1, .int .i64 pr.2] 119)).drew := hb3.trans ⟨rfl, rfl, rfl, by simp, fun _ _ => rfl⟩
              have hb13 := hb12.trans (hdw.mono hb12.size)
              have hb03 := HB.out.trans (hb13.mono HB.out.size)
              obtain ⟨y0, y1, _, _⟩ := row2 ((hdw.block wr.heap.size hx2).trans hrow2)
              obtain ⟨A1, c1', B1, d1, e0, e1, e2, e3, e4, ht⟩ := HEL.out (w2.alloc (.cells #[.int .i64 pr.1, .int .i64 pr.2] 119)).drew hb03
              have hfr := HFR.out (w2.alloc (.cells #[.int .i64 pr.1, .int .i64 pr.2] 119)).drew _ ht
              have HCL := Lib.hid (fun (W : World) (h : Below (w2.alloc (.cells #[.int .i64 pr.1, .int .i64 pr.2] 119)).drew.heap.size (w2.alloc (.cells #[.int .i64 pr.1, .int .i64 pr.2] 119)).drew W) => (⟨(h.cell (p := ⟨wr.heap.size, 0, none⟩) (Nat.lt_of_lt_of_le hx2 hdw.size)).trans y0, (h.cell (p := ⟨bl, ol + j * 5 + 1, none⟩) (Nat.lt_of_lt_of_le hbbl hb03.size)).trans e1, (h.cell (p := ⟨bl, ol + j * 5 + 2, none⟩) (Nat.lt_of_lt_of_le hbbl hb03.size)).trans e2, (h.cell (p := ⟨bl, ol + j * 5 + 3, none⟩) (Nat.lt_of_lt_of_le hbbl hb03.size)).trans e3, (h.cell (p := ⟨bl, ol + j * 5 + 4, none⟩) (Nat.lt_of_lt_of_le hbbl hb03.size)).trans e4⟩ :
                  W.cell? ⟨wr.heap.size, 0, none⟩ = some (.int .i64 pr.1) ∧ W.cell? ⟨bl, ol + j * 5 + 1, none⟩ = some (.int .i64 u.op) ∧ W.cell? ⟨bl, ol + j * 5 + 2, none⟩ = some (.int .i64 u.num) ∧ W.cell? ⟨bl, ol + j * 5 + 3, none⟩ = some (.slice A1 u.perm.length c1') ∧ W.cell? ⟨bl, ol + j * 5 + 4, none⟩ = some (.slice B1 u.kids.length d1)))
              have HB13 := Lib.hid hb13
              clear hfind hb2 hb3 hdw hb03 hb12 ht HEL HFR e0 hrow2 hbbl hbx hb13 hrow
              go_wp2
              go_region_held3 (fun w' => w'.cell? ⟨wr.heap.size, 0, none⟩ = some (.int .i64 pr.1) ∧ w'.cell? ⟨bl, ol + j * 5 + 1, none⟩ = some (.int .i64 u.op) ∧ w'.cell? ⟨bl, ol + j * 5 + 2, none⟩ = some (.int .i64 u.num) ∧ w'.cell? ⟨bl, ol + j * 5 + 3, none⟩ = some (.slice A1 u.perm.length c1') ∧ w'.cell? ⟨bl, ol + j * 5 + 4, none⟩ = some (.slice B1 u.kids.length d1))
                (first | ((try dsimp only); (with_reducible exact ⟨by assumption, by assumption, by assumption, by assumption, by assumption⟩)) | go_keep)
                (first
                  | (go_at_call 85; refine hfr.mono ?_; rintro e w5 ⟨v5, rfl, ho5, hb5⟩; obtain ⟨n0, n1, n2, n3, n4⟩ := HCL.out w5 hb5)
                  | fail)
              have hb15 := HB13.out.trans (hb5.mono HB13.out.size)
              have hb05 := HB.out.trans (hb15.mono HB.out.size)
              have hoL := own_below HO.out hb15
              obtain ⟨G2, cap2, e9, hPL⟩ := own_pairsAt hoL
              simp only [Value.slice.injEq, true_and] at e9
              rw [← e9.1] at hPL
              obtain ⟨G5, cap5, rfl, hP5⟩ := own_pairsAt ho5
              have hj := l3Join_any G G5 cap cap5 L fr w5 hPL hP5 (by omega) (by omega)
              clear hfr hb5 ho5 hP5 hPL hoL e9 HCL HB13 n0 n1 n2 n3 n4 e1 e2 e3 e4 x0 x1 y0 y1 hb15 HO HB HBX HROW
              go_wp2_with fail
              refine hj.mono ?_
              rintro e w8 ⟨v8, rfl, ho8, hb8⟩
              have hb08 := hb05.trans (hb8.mono hb05.size)
              have ho9 := own_le ho8 hb05.size
              have hlenJ := joinF_len_le L fr
              have hok9 : Hid (okC l (m.take (k + 1)) = ok) := Lib.hid (by rw [HOX.out, HOK.out]; rfl)
              have hL9 : Hid (ok = true → joinF L fr = sortF (ndC l (m.take (k + 1)))) := Lib.hid (fun h => by rw [HNX.out, HL.out, HFY.out h, sortF_join])
              clear hj ho8 hb8 hb05 HNX HOX HOK HL HFY
              generalize joinF L fr = J at *
              go_wp2
              refine ⟨⟨k + 1, ok, J, by omega, by go_num, rfl, ho9, hok9, hL9, by omega, hb08⟩, ?_⟩
              simp only [intOf]
              omega
            · rw [hfi] at hfind
              have hu : cuT l (prAt m k).2 = .mk 4 (prAt m k).2 [] [] := by unfold cuT; rw [hfb]
              rw [hu, nd_hole] at HNX
              rw [hu, okT_4] at HOX
              have HO := Lib.hid ho
              have HB := Lib.hid hb
              have HBX := Lib.hid hbx
              have HROW := Lib.hid hrow
              clear hc1 hb1 hR hL hu hfb HLV hokk hLL hP ho hb hfi HGL
              generalize prAt m k = pr at *
              go_wp2_with fail
              refine hfind.mono ?_
              rintro e w2 ⟨rfl, hb2⟩
              have hb12 := HBX.out.trans (hb2.mono HBX.out.size)
              have hrow2 := (hb2.block wr.heap.size (by simp)).trans HROW.out
              obtain ⟨x0, x1, _, _⟩ := row2 hrow2
              have hb3 : Below w2.heap.size w2 (w2.alloc (.cells #[.int .i64 pr.1, .int .i64 pr.2] 119)) := (Below.refl _ _).alloc (Nat.le_refl _) _
              have hb13 := hb12.trans (hb3.mono hb12.size)
              have hb03 := HB.out.trans (hb13.mono HB.out.size)
              have hone : (w2.alloc (.cells #[.int .i64 pr.1, .int .i64 pr.2] 119)).ownsRow w2.heap.size 119 2 (.slice (some ⟨w2.heap.size, 0, none⟩) 1 1) 1 (cellsOf [pr]) := World.ownsRow_lit w2 #[.int .i64 pr.1, .int .i64 pr.2] 1 (Nat.le_refl _) (by decide) rfl
              have hoL := own_below HO.out hb13
              obtain ⟨G2, cap2, e9, hPL⟩ := own_pairsAt hoL
              simp only [Value.slice.injEq, true_and] at e9
              rw [← e9.1] at hPL
              obtain ⟨G5, cap5, e8, hP5⟩ := own_pairsAt (l := [pr]) hone
              simp only [Value.slice.injEq, List.length_cons, List.length_nil, true_and] at e8
              have hj := l3Join_any G G5 cap 1 L [pr] (w2.alloc (.cells #[.int .i64 pr.1, .int .i64 pr.2] 119)) hPL hP5 (by omega) (by simp)
              rw [← e8.1, show ([pr] : List (Int × Int)).length = 1 from rfl] at hj
              clear hfind hb2 hb3 hb12 hP5 hPL hoL e9 e8 hone hrow2 hb13 HO HB HBX HROW hbx hrow
              go_wp2_with fail
              refine hj.mono ?_
              rintro e w8 ⟨v8, rfl, ho8, hb8⟩
              have hb08 := hb03.trans (hb8.mono hb03.size)
              have ho9 := own_le ho8 hb03.size
              have hlenJ := joinF_len_le L [pr]
              have hok9 : Hid (okC l (m.take (k + 1)) = true) := Lib.hid (by rw [HOX.out, HOK.out]; rfl)
              have hL9 : Hid (joinF L [pr] = sortF (ndC l (m.take (k + 1)))) := Lib.hid (by rw [HNX.out, HL.out, ← sortF_one pr, sortF_join, sortF_one])
              rw [show ([pr] : List (Int × Int)).length = 1 from rfl] at hlenJ
              clear hj ho8 hb8 hb03 HNX HOX HOK HL x0 x1
              generalize joinF L [pr] = J at *
              go_wp2
              refine ⟨⟨k + 1, true, J, by omega, by go_num, rfl, ho9, hok9, Lib.hid (fun _ => hL9.out), by omega, hb08⟩, ?_⟩
              simp only [intOf]
              omega
        · rw [List.take_of_length_le (show m.length ≤ k by omega)] at hokk hLL
          cases g with
          | false =>
            have HT := Lib.hid (cu_no3 hokk.out)
            have hpost : NewFreshsB (cuL l m) (cuB l m) w (.returned (.tuple #[.slice (some ⟨wr.heap.size, 0, none⟩) 0 0, .bool false])) (wr.alloc (.cells #[] 119)) := by
              rw [HT.out.1, HT.out.2]
              exact newFreshsB_empty hb
            clear hb HT HC ho hP hokk hLL HGL HLV HRT H0 H1
            go_wp2
            go_ret2
            exact hpost
          | true =>
            have hL := hLL.out rfl
            have hY := cu_yes H0.out H1.out hokk.out
            have hcb := ctxB_nds H0.out HRT.out
            rw [← hL] at hcb
            have hD : ctxOf (ndC l m) = if fewB (ndC l m) then L else [] := by rw [hL]; rfl
            have hcx := isContext_spec G cap L wr hP (by omega)
            rw [hcb] at hcx
            have HY := Lib.hid hY
            have HD := Lib.hid hD
            clear hY hD hcb hokk hLL HC HRT H0 H1 HGL HLV hL hP
            generalize ctxOf (ndC l m) = X at *
            generalize fewB (ndC l m) = fl at *
            cases fl with
            | true =>
              have HR : Hid (X = L) := by show X = L; rw [HD.out]; simp
              go_wp2_with fail
              refine hcx.mono ?_
              rintro e w3 ⟨rfl, hb3⟩
              have hpost : NewFreshsB (cuL l m) (cuB l m) w (.returned (.tuple #[.slice G L.length cap, .bool true])) w3 := by
                rw [HY.out.1, HY.out.2, HR.out]
                exact ⟨_, rfl, own_below ho hb3, hb.trans (hb3.mono hb.size)⟩
              clear hcx ho hb3 hb HR HD HY
              go_wp2
              go_ret2
              exact hpost
            | false =>
              have HR : Hid (X = []) := by show X = []; rw [HD.out]; simp
              go_wp2_with fail
              refine hcx.mono ?_
              rintro e w3 ⟨rfl, hb3⟩
              have hpost : NewFreshsB (cuL l m) (cuB l m) w (.returned (.tuple #[.slice (some ⟨w3.heap.size, 0, none⟩) 0 0, .bool false])) (w3.alloc (.cells #[] 119)) := by
                rw [HY.out.1, HY.out.2, HR.out]
                exact newFreshsB_empty (hb.trans (hb3.mono hb.size))
              clear hcx ho hb3 hb HR HD HY
              go_wp2
              go_ret2
              exact hpost
end Go.Proofs.YtlhjgjfnmejiaaaGreat
