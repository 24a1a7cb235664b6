/-
  The complement of a machine, in the program, as a contract.
-/
import Derived.Test.YthacnbeckhdhiaaKComplement16
import Derived.Test.YthacnbeckhdhiaaKComplement6
import Derived.Deep.DeepCutAuto
import Derived.Deep.RegionHeld3
namespace Go.Proofs.Ythacnbeckhdhiaa
open Go.RowKit Go.Sort
set_option linter.unusedVariables false

theorem row_box_ne {w : World} {base size n g : Nat} {e T : TypeId} {v : Value} {xs : List Value} {cs : Array Value} {z : Nat × Nat} (h : w.ownsRow base e size v n xs) (hg : w.heap[g]? = some (.cells cs T z)) (hne : e ≠ T) : ∀ k, v.ownBlock = some k → k ≠ g := by
  rintro k hk rfl
  rcases h.2 with ⟨rfl, _⟩ | ⟨g', cap, cur, rfl, _, hc, _⟩
  · cases hk
  · simp only [Value.ownBlock, Option.some.injEq] at hk
    subst hk
    rw [hc] at hg
    simp only [Option.some.injEq, Obj.cells.injEq] at hg
    exact hne hg.2.1
theorem row_row_ne {w : World} {base base' size size' n n' : Nat} {e e' : TypeId} {v v' : Value} {xs xs' : List Value} (h : w.ownsRow base e size v n xs) (h' : w.ownsRow base' e' size' v' n' xs') (hne : e ≠ e') : ∀ k, v.ownBlock = some k → v'.ownBlock ≠ some k := by
  intro k hk hk'
  rcases h'.2 with ⟨rfl, _⟩ | ⟨g', cap, cur, rfl, _, hc, _⟩
  · cases hk'
  · simp only [Value.ownBlock, Option.some.injEq] at hk'
    subst hk'
    exact row_box_ne h hc hne _ hk rfl

set_option maxRecDepth 100000 in
set_option maxHeartbeats 8000000 in
theorem complementMachine_impl (t : Mach) (hf : FitM t) (x : Value) (w : World) (hx : MachIx w x t) :
    Calls Try.prog 7 #[x] w (MachOut (compM t) w) := by
  have hX := Lib.hid hx
  obtain ⟨A, c, B, d, rfl, hbools, hpairs, hrest⟩ := hx
  obtain ⟨W, hW⟩ : ∃ W, W = (w.alloc (.cells #[.int .i64 t.st, .int .i64 t.rg, .slice A t.ac.length c, .slice B t.mv.length d] 27)).alloc (.cells #[.int .i64 0, .int .i64 0, .slice none 0 0, .slice none 0 0] 27) := ⟨_, rfl⟩
  have hbW : Below w.heap.size w W := by rw [hW]; exact ((Below.refl _ _).alloc (Nat.le_refl _) _).alloc (by simp) _
  have hkW : W.heap[w.heap.size]? = some (.cells #[.int .i64 t.st, .int .i64 t.rg, .slice A t.ac.length c, .slice B t.mv.length d] 27) := by rw [hW]; exact (Below.heap_alloc _ _ _ (by simp)).trans (heap_alloc_new w _)
  have hkR : W.heap[w.heap.size + 1]? = some (.cells #[.int .i64 0, .int .i64 0, .slice none 0 0, .slice none 0 0] 27) := by
    rw [hW]
    have h := heap_alloc_new (w.alloc (.cells #[.int .i64 t.st, .int .i64 t.rg, .slice A t.ac.length c, .slice B t.mv.length d] 27)) (.cells #[.int .i64 0, .int .i64 0, .slice none 0 0, .slice none 0 0] 27)
    rwa [World.size_alloc] at h
  have hm := isMachine_impl t (by unfold FitM at hf; omega) _ W (hX.out.below hbW).in_
  have HW := Lib.hid hW
  have HBW := Lib.hid hbW
  have HKR := Lib.hid hkR
  have HKW := Lib.hid hkW
  obtain ⟨d0, d1, d2, d3⟩ := MachK.row4 hkW
  have hlt0 : w.heap.size < W.heap.size := MachK.box_lt hkW
  have hltR : w.heap.size + 1 < W.heap.size := MachK.box_lt hkR
  clear hW hkW hkR
  by_cases hmb : machB t = true
  case neg =>
    have hmb : machB t = false := by simpa using hmb
    rw [hmb] at hm
    rw [compM_no hmb]
    clear hmb hbools hpairs hrest
    go_enter Try.func7, Try.ntmps7
    go_wp2_with fail
    rw [← HW.out]
    (with_reducible refine hm.mono ?_)
    rintro e w1 ⟨rfl, hb1⟩
    have hbz := HBW.out.trans (hb1.mono HBW.out.size)
    have k1 := (hb1.block (w.heap.size + 1) hltR).trans HKR.out
    have HF := Lib.hid (show MachOut ⟨0, 0, [], []⟩ w (.returned (.agg #[.int .i64 0, .int .i64 0, .slice none 0 0, .slice none 0 0])) ((((w1.setCell ⟨w.heap.size + 1, 0, none⟩ (.int .i64 0)).setCell ⟨w.heap.size + 1, 1, none⟩ (.int .i64 0)).setCell ⟨w.heap.size + 1, 2, none⟩ (.slice none 0 0)).setCell ⟨w.heap.size + 1, 3, none⟩ (.slice none 0 0)) from
      ⟨none, 0, none, 0, _, rfl, mach_ownL (.nil _ _) (.nil _ _) (fun b hb => by simp at hb), fun b hb => by simp at hb, (((hbz.setCell (p := ⟨w.heap.size + 1, 0, none⟩) (show w.heap.size ≤ w.heap.size + 1 by omega) _).setCell (p := ⟨w.heap.size + 1, 1, none⟩) (show w.heap.size ≤ w.heap.size + 1 by omega) _).setCell (p := ⟨w.heap.size + 1, 2, none⟩) (show w.heap.size ≤ w.heap.size + 1 by omega) _).setCell (p := ⟨w.heap.size + 1, 3, none⟩) (show w.heap.size ≤ w.heap.size + 1 by omega) _⟩)
    obtain ⟨s0, s1, s2, s3⟩ := MachK.row4 k1
    have z0 := frozen_of_row _ _ 0 _ _ k1
    have z1 := frozen_of_row _ _ 1 _ _ k1
    have z2 := frozen_of_row _ _ 2 _ _ k1
    have z3 := frozen_of_row _ _ 3 _ _ k1
    clear hm d0 d1 d2 d3 k1 hb1
    go_wp2
    exact bodyPost_ret (v := .agg #[.int .i64 0, .int .i64 0, .slice none 0 0, .slice none 0 0]) (by simp [results, Try.results7, go_sem, s0, s1, s2, s3]) rfl HF.out
  have g := good_of hmb
  have hmle : t.mv.length ≤ 100 := by have hq := g.ml; have := g.s9; rcases casZ_of g.r0 g.r3 with ⟨_, h⟩ | ⟨_, h⟩ | ⟨_, h⟩ | ⟨_, h⟩ <;> rw [h] at hq <;> omega
  have hmp : 0 < t.mv.length := by have hq := g.ml; have := g.s1; rcases casZ_of g.r0 g.r3 with ⟨_, h⟩ | ⟨_, h⟩ | ⟨_, h⟩ | ⟨_, h⟩ <;> rw [h] at hq <;> omega
  have hla9 : t.ac.length ≤ 9 := by have := g.al; have := g.s9; omega
  obtain ⟨b1, o1, rfl, hb1l, _⟩ := id (hpairs hmp)
  rw [hmb] at hm
  rw [compM_yes hmb]
  clear hmb g hrest
  obtain ⟨st, rg, ac, mv⟩ := t
  dsimp only at *
  go_enter Try.func7, Try.ntmps7
  go_wp2_with fail
  rw [← HW.out]
  (with_reducible refine hm.mono ?_)
  rintro e w1 ⟨rfl, hb1⟩
  have hbz := HBW.out.trans (hb1.mono HBW.out.size)
  have HBZ := Lib.hid hbz
  have k1 := (hb1.block (w.heap.size + 1) hltR).trans HKR.out
  have k0 := (hb1.block w.heap.size hlt0).trans HKW.out
  have HK1 := Lib.hid k1
  have hlt1 : w.heap.size < w1.heap.size := MachK.box_lt k0
  have hltR1 : w.heap.size + 1 < w1.heap.size := MachK.box_lt k1
  obtain ⟨e0, e1, e2, e3⟩ := MachK.row4 k0
  have HCC : Hid (∀ w' : World, Below w1.heap.size w1 w' → w'.cell? ⟨w.heap.size, 0, none⟩ = some (.int .i64 st) ∧ w'.cell? ⟨w.heap.size, 1, none⟩ = some (.int .i64 rg) ∧ w'.cell? ⟨w.heap.size, 3, none⟩ = some (.slice (some ⟨b1, o1, none⟩) mv.length d)) :=
    Lib.hid fun w' h => ⟨(h.cell (p := ⟨w.heap.size, 0, none⟩) hlt1).trans e0, (h.cell (p := ⟨w.heap.size, 1, none⟩) hlt1).trans e1, (h.cell (p := ⟨w.heap.size, 3, none⟩) hlt1).trans e3⟩
  have HC2 : Hid (∀ w' : World, Below w1.heap.size w1 w' → w'.cell? ⟨w.heap.size, 2, none⟩ = some (.slice A ac.length c)) := Lib.hid fun w' h => (h.cell (p := ⟨w.heap.size, 2, none⟩) hlt1).trans e2
  have hcl := Lib.hid (fun (W' : World) (h : Below w1.heap.size w1 W') => cloneM_any ⟨b1, o1, none⟩ d mv W' (hpairs.below (hbz.trans (h.mono hbz.size))) (by omega))
  have HPP := Lib.hid (fun (W' : World) (h : Below w1.heap.size w1 W') => hpairs.below (hbz.trans (h.mono hbz.size)))
  have HAC := Lib.hid (fun (W' : World) (h : Below w1.heap.size w1 W') => hbools.below (hbz.trans (h.mono hbz.size)))
  clear hm d0 d1 d2 d3 k0 k1 e0 e1 e2 e3 hb1 hbools hpairs HW hbW hbz
  go_upto_region 3 with fail
  go_cut [3] (fun s wx => CmR.Rel w1 st rg mv s wx)
  case first =>
    have hdw : Below w1.heap.size w1 w1.drew := ⟨rfl, rfl, rfl, Nat.le_refl _, fun _ _ => rfl⟩
    have hal : Below w1.heap.size w1 (w1.alloc (.cells #[.int .i64 0, .int .i64 0, .slice none 0 0, .slice none 0 0] 27)).drew := by
      have h : Below w1.heap.size w1 (w1.alloc (.cells #[.int .i64 0, .int .i64 0, .slice none 0 0, .slice none 0 0] 27)) := (Below.refl _ _).alloc (Nat.le_refl _) _
      exact ⟨h.os, h.tape, h.output, h.size, h.block⟩
    obtain ⟨u0, u1, u3⟩ := HCC.out w1.drew hdw
    obtain ⟨v0, v1, v3⟩ := HCC.out (w1.alloc (.cells #[.int .i64 0, .int .i64 0, .slice none 0 0, .slice none 0 0] 27)).drew hal
    have h0a := hcl.out w1.drew hdw
    have h0b := hcl.out (w1.alloc (.cells #[.int .i64 0, .int .i64 0, .slice none 0 0, .slice none 0 0] 27)).drew hal
    have ne0 : w.heap.size ≠ w1.heap.size := Nat.ne_of_lt hlt1
    go_region_held3 (fun w' => w'.cell? ⟨w.heap.size, 0, none⟩ = some (.int .i64 st) ∧ w'.cell? ⟨w.heap.size, 1, none⟩ = some (.int .i64 rg) ∧ w'.cell? ⟨w.heap.size, 3, none⟩ = some (.slice (some ⟨b1, o1, none⟩) mv.length d))
      (first | (with_reducible exact ⟨by assumption, by assumption, by assumption⟩) | ((try dsimp only); (with_reducible exact ⟨by assumption, by assumption, by assumption⟩)) | (with_reducible exact ⟨CmR.set4_keep (by assumption) (by assumption), CmR.set4_keep (by assumption) (by assumption), CmR.set4_keep (by assumption) (by assumption)⟩) | go_keep)
      (first
        | (go_at_call 17; (first | (with_reducible refine h0a.mono ?_) | (with_reducible refine h0b.mono ?_)); rintro e wq ⟨vq, rfl, hoq, hbq⟩; obtain ⟨Bq, dq, rfl, _⟩ := own_pairsAt hoq; have fr : Below w1.heap.size w1 wq := (by first | (with_reducible exact hdw.trans (hbq.mono hdw.size)) | (with_reducible exact hal.trans (hbq.mono hal.size))); (try (have zq : wq.heap[w1.heap.size]? = some (.cells #[.int .i64 0, .int .i64 0, .slice none 0 0, .slice none 0 0] 27) := (hbq.block w1.heap.size (by simp)).trans (heap_alloc_new w1 (.cells #[.int .i64 0, .int .i64 0, .slice none 0 0, .slice none 0 0] 27)))); obtain ⟨p0, p1, p3⟩ := HCC.out wq fr; have fr2 := fr.alloc fr.size (.cells #[.int .i64 st, .int .i64 rg, .slice none 0 0, .slice Bq mv.length dq] 27); obtain ⟨r0, r1, r3⟩ := HCC.out (wq.alloc (.cells #[.int .i64 st, .int .i64 rg, .slice none 0 0, .slice Bq mv.length dq] 27)) fr2; have ne2 : w.heap.size ≠ wq.heap.size := Nat.ne_of_lt (Nat.lt_of_lt_of_le hlt1 fr.size); have hoqb : wq.ownsRow w1.heap.size 45 2 (.slice Bq mv.length dq) mv.length (cellsOf mv) := (by first | (with_reducible exact own_le hoq hdw.size) | (with_reducible exact own_le hoq hal.size)); (try (have hkne : ∀ k, (Value.slice Bq mv.length dq).ownBlock = some k → k ≠ w1.heap.size := fun k e => row_box_ne hoq zq (by decide) k e; obtain ⟨g0, g1, g2, g3⟩ := CmR.row4 zq; have y0 := frozen_of_row _ _ 0 _ _ zq; have y1 := frozen_of_row _ _ 1 _ _ zq; have y2 := frozen_of_row _ _ 2 _ _ zq; have y3 := frozen_of_row _ _ 3 _ _ zq)))
        | fail)
    all_goals
      go_wp2_with fail
      go_meet
      first | (with_reducible exact CmR.rel_new hoqb fr) | (with_reducible exact CmR.rel_set zq hoqb hkne (Nat.le_refl _) fr)
  case rest =>
    obtain ⟨g3, B2, d2, rfl, hg3, hown, hkne, hge, hbm⟩ := hcut
    have hac := Lib.hid (fun k (h : k < ac.length) => not_next (l := ac) h)
    have hlen := Lib.hid (show (ac.map (!·)).length = ac.length by simp)
    have hmvl : (cellsOf mv).length = mv.length * 2 := cellsOf_len mv
    obtain ⟨nac, hnac⟩ : ∃ n, n = ac.map (!·) := ⟨_, rfl⟩
    rw [← hnac] at hac hlen
    have HNA := Lib.hid hnac
    have HMV := Lib.hid hmvl
    obtain ⟨la, hla⟩ : ∃ n : Nat, n = ac.length := ⟨_, rfl⟩
    obtain ⟨lm, hlm⟩ : ∃ n : Nat, n = mv.length := ⟨_, rfl⟩
    have HLA := Lib.hid hla
    have HLM := Lib.hid hlm
    rw [← hla] at hla9 HC2 hac hlen
    rw [← hlm] at hg3 hown hkne hmle hmp
    obtain ⟨MC, hMC⟩ : ∃ n, n = cellsOf mv := ⟨_, rfl⟩
    have HMC := Lib.hid hMC
    rw [← hMC] at hown
    have c2 := HC2.out wc hbm
    have HBM := Lib.hid hbm
    have hg3l : g3 < wc.heap.size := MachK.box_lt hg3
    have hownb : wc.ownsRow w1.heap.size 4 1 (.slice none 0 0) 0 (bcells (nac.take 0)) := World.ownsRow_nil wc _ _ _
    clear hcl hnac hmvl hla hlm hMC hkne
    go_wp2
    go_loopw [5, 21] (fun b i wr => ∃ k : Nat, ∃ v : Value, k ≤ la ∧ i = .int .i64 k ∧ wr.heap[g3]? = some (.cells #[.int .i64 st, .int .i64 rg, v, .slice B2 lm d2] 27 (0, 0)) ∧ wr.ownsRow w1.heap.size 4 1 v k (bcells (nac.take k)) ∧ wr.ownsRow w1.heap.size 45 2 (.slice B2 lm d2) lm MC ∧ Below w1.heap.size w1 wr) (fun _ i _ => la - (intOf i).toNat)
    case atStart => exact ⟨0, .slice none 0 0, Nat.zero_le _, rfl, hg3, hownb, hown, hbm⟩
    case round =>
      obtain ⟨k, v, hk, rfl, hh, ho, hmrow, hb⟩ := hrel
      obtain ⟨x0, x1, x2, x3⟩ := MachK.row4 hh
      have y2 := frozen_of_row _ _ 2 _ _ hh
      have hgl : g3 < wr.heap.size := MachK.box_lt hh
      by_cases hlt : k < la
      · have hac2 := HAC.out wr hb
        obtain ⟨ba, oa, rfl, hbal, hca⟩ := hac2 (by have := HLA.out; omega)
        have ca := hca k (by have := HLA.out; omega)
        have hnx := Lib.hid (hac.out k (by omega))
        generalize btAt ac k = bb at ca hnx
        have hE := hb.alloc hb.size (.cells #[.bool (!bb)] 4)
        have hEr : Below wr.heap.size wr (wr.alloc (.cells #[.bool (!bb)] 4)) := (Below.refl _ _).alloc (Nat.le_refl _) _
        have ho1 := own_below ho hEr
        have hm1 := own_below hmrow hEr
        have hh1 := (hEr.block g3 hgl).trans hh
        have hcE : (wr.alloc (.cells #[.bool (!bb)] 4)).cell? ⟨wr.heap.size, 0, none⟩ = some (.bool (!bb)) := by simp
        have hEs := hE.size
        have HM1 := Lib.hid hm1
        have HH1 := Lib.hid hh1
        generalize hXB : bcells (nac.take k) = xb at *
        clear hac2 hca hXB hm1 hh1 hb hmrow hh ho
        go_wp2_with (at_builtin; refine wpList_append_bool rfl (.tmp 26) (.tmp 29) rfl w1.heap.size v k xb rfl ho1 wr.heap.size (!bb) rfl hcE ?z1 hEs ?z4)
        case z1 => omega
        intro v2 w2 ho2 hg2
        have hb2 : Below w1.heap.size w1 w2 := below_own hE ho1 (Nat.le_refl _) hEs hg2
        have hh2 : w2.heap[g3]? = some (.cells #[.int .i64 st, .int .i64 rg, v, .slice B2 lm d2] 27 (0, 0)) := (hg2.block g3 (by simp; omega) (fun e => row_box_ne ho1 HH1.out (by decide) g3 e.symm rfl)).trans HH1.out
        have hm2 := HM1.out.kept hg2 (by
          rcases hv : (Value.slice B2 lm d2).ownBlock with _ | q
          · exact .inl rfl
          · exact .inr (fun e => row_row_ne ho1 HM1.out (by decide) q e.symm hv))
        rw [← hnx.out] at ho2
        rcases id ho2.2 with ⟨_, h9⟩ | ⟨g9, cap9, cur9, rfl, _⟩
        · omega
        have hn1 := row_box_ne ho2 hh2 (by decide)
        have hn2 := row_box_ne hm2 hh2 (by decide)
        obtain ⟨n0, n1, n2, n3⟩ := MachK.row4 hh2
        have yy := frozen_of_row _ _ 2 _ _ hh2
        have hgl2 : g3 < w2.heap.size := MachK.box_lt hh2
        have hh3 := heap_setCell_same w2 g3 2 _ _ (.slice (some ⟨g9, 0, none⟩) (k + 1) cap9) hh2
        have hon3 : Only [g3] w2 (w2.setCell ⟨g3, 2, none⟩ (.slice (some ⟨g9, 0, none⟩) (k + 1) cap9)) := (Only.refl _ _).set ⟨g3, 2, none⟩ _ (by simp)
        have ho3 := own_only ho2 hon3 (fun q e hq => hn1 q e (by simpa using hq))
        have hm3 := own_only hm2 hon3 (fun q e hq => hn2 q e (by simpa using hq))
        have hb3 := hb2.setCell (p := ⟨g3, 2, none⟩) hge (.slice (some ⟨g9, 0, none⟩) (k + 1) cap9)
        have HR := Lib.hid (show (w2.setCell ⟨g3, 2, none⟩ (.slice (some ⟨g9, 0, none⟩) (k + 1) cap9)).heap[g3]? = some (.cells #[.int .i64 st, .int .i64 rg, .slice (some ⟨g9, 0, none⟩) (k + 1) cap9, .slice B2 lm d2] 27 (0, 0)) ∧ (w2.setCell ⟨g3, 2, none⟩ (.slice (some ⟨g9, 0, none⟩) (k + 1) cap9)).ownsRow w1.heap.size 4 1 (.slice (some ⟨g9, 0, none⟩) (k + 1) cap9) (k + 1) (bcells (nac.take (k + 1))) ∧ (w2.setCell ⟨g3, 2, none⟩ (.slice (some ⟨g9, 0, none⟩) (k + 1) cap9)).ownsRow w1.heap.size 45 2 (.slice B2 lm d2) lm MC from ⟨hh3, ho3, hm3⟩)
        clear ho2 hm2 hh2 hh3 ho3 hm3 hon3 hn1 hn2 HM1 HH1 ho1 hg2 hE hEr hcE hEs hnx x0 x1 x2 x3 y2 hb2
        go_wp2
        refine ⟨⟨k + 1, _, by omega, by go_num, HR.out.1, HR.out.2.1, HR.out.2.2, hb3⟩, ?_⟩
        simp only [intOf]
        omega
      · have ek : k = la := by omega
        have hnt : nac.take k = nac := List.take_of_length_le (by have := hlen.out; omega)
        rw [hnt, ek, ← hlen.out] at ho
        obtain ⟨A1, c1, rfl, _⟩ := own_boolsAt ho
        have k2 := (hb.block (w.heap.size + 1) hltR1).trans HK1.out
        have hbzw := HBZ.out.trans (hb.mono HBZ.out.size)
        have q1 := cellRow_of ho
        have q2 := MachK.row2_of hmrow
        have hdis : ∀ b ∈ (Value.slice A1 nac.length c1).ownBlock.toList, b ∉ (Value.slice B2 lm d2).ownBlock.toList := fun b h1 h2 => row_row_ne ho hmrow (by decide) b (by simpa using h1) (by simpa using h2)
        have hL := mach_ownL (a := .int .i64 st) (b := .int .i64 rg) q1 q2 hdis
        have hSb : ∀ b ∈ (Value.slice A1 nac.length c1).ownBlock.toList ++ ((Value.slice B2 lm d2).ownBlock.toList ++ []), w1.heap.size ≤ b := fun b hb' => by
          rw [List.append_nil] at hb'
          rcases List.mem_append.1 hb' with h | h
          · exact (ho.lt b (by simpa using h)).1
          · exact (hmrow.lt b (by simpa using h)).1
        have hL2 := hL.alike (w' := ((((wr.setCell ⟨w.heap.size + 1, 0, none⟩ (.int .i64 st)).setCell ⟨w.heap.size + 1, 1, none⟩ (.int .i64 rg)).setCell ⟨w.heap.size + 1, 2, none⟩ (.slice A1 nac.length c1)).setCell ⟨w.heap.size + 1, 3, none⟩ (.slice B2 lm d2))) (fun b hb' => ((((((Only.refl [w.heap.size + 1] wr).set ⟨w.heap.size + 1, 0, none⟩ (.int .i64 st) (by simp)).set ⟨w.heap.size + 1, 1, none⟩ (.int .i64 rg) (by simp)).set ⟨w.heap.size + 1, 2, none⟩ (.slice A1 nac.length c1) (by simp)).set ⟨w.heap.size + 1, 3, none⟩ (.slice B2 lm d2) (by simp)).block b (hL.lt b hb') (by have := hSb b hb'; simp; omega)))
        have HF := Lib.hid (show MachOut ⟨st, rg, ac.map (!·), mv⟩ w (.returned (.agg #[.int .i64 st, .int .i64 rg, .slice A1 nac.length c1, .slice B2 lm d2])) ((((wr.setCell ⟨w.heap.size + 1, 0, none⟩ (.int .i64 st)).setCell ⟨w.heap.size + 1, 1, none⟩ (.int .i64 rg)).setCell ⟨w.heap.size + 1, 2, none⟩ (.slice A1 nac.length c1)).setCell ⟨w.heap.size + 1, 3, none⟩ (.slice B2 lm d2)) from
          ⟨A1, c1, B2, d2, _, by dsimp only; rw [← HNA.out, ← HLM.out], by unfold encM boolMem moveMem; dsimp only; rw [← HNA.out, ← HLM.out, ← HMC.out]; exact hL2, fun b hb' => by have := hSb b hb'; have := HBZ.out.size; omega, ((((hbzw.setCell (p := ⟨w.heap.size + 1, 0, none⟩) (show w.heap.size ≤ w.heap.size + 1 by omega) (.int .i64 st)).setCell (p := ⟨w.heap.size + 1, 1, none⟩) (show w.heap.size ≤ w.heap.size + 1 by omega) (.int .i64 rg)).setCell (p := ⟨w.heap.size + 1, 2, none⟩) (show w.heap.size ≤ w.heap.size + 1 by omega) (.slice A1 nac.length c1)).setCell (p := ⟨w.heap.size + 1, 3, none⟩) (show w.heap.size ≤ w.heap.size + 1 by omega) (.slice B2 lm d2))⟩)
        obtain ⟨s0, s1, s2, s3⟩ := MachK.row4 k2
        have z0 := frozen_of_row _ _ 0 _ _ k2
        have z1 := frozen_of_row _ _ 1 _ _ k2
        have z2 := frozen_of_row _ _ 2 _ _ k2
        have z3 := frozen_of_row _ _ 3 _ _ k2
        have hgR : w.heap.size + 1 < wr.heap.size := MachK.box_lt k2
        clear ho hmrow q1 q2 hdis hL hL2 hSb k2 hh hnt hbzw hb
        go_wp2
        exact bodyPost_ret (v := .agg #[.int .i64 st, .int .i64 rg, .slice A1 nac.length c1, .slice B2 lm d2]) (by simp [results, Try.results7, go_sem, s0, s1, s2, s3]) rfl HF.out
end Go.Proofs.Ythacnbeckhdhiaa
