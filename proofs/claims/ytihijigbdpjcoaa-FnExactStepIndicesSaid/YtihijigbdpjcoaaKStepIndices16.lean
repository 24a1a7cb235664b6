/-
  Index terms filled, in the model: nodes, as a contract.
-/
import Derived.Test.YtihijigbdpjcoaaKStepIndices15
namespace Go.Proofs.Ytihijigbdpjcoaa
open Go.RowKit Go.Sort
set_option linter.unusedVariables false

set_option maxRecDepth 100000 in
set_option maxHeartbeats 8000000 in
theorem l8Fill_loop (f : Ix) (Bf : Option Addr) (df : Nat) (n o a a1 : Int) (B : Option Addr) (d : Nat) (ks rs : List Ix) (w : World) (hlr : rs.length = ks.length) (hl3 : ks.length ≤ 1048576) (hk : IxsIn w (.slice B ks.length d) ks)
    (h1 : (o == 1) = false) (hc : ∃ b : Bool, (o == 3) = b ∧ a1 = cond b (a + 1) a) (ha : 0 ≤ a) (ha2 : a ≤ 1099511627776)
    (ih : ∀ i, i < ks.length → ∀ (w' : World) (y : Value), Below w.heap.size w w' → IxIn w' y (ixAt ks i) → Calls Try.prog 88 #[y, .agg #[.int .i64 f.op, .int .i64 f.num, .slice Bf f.kids.length df], .int .i64 a1] w' (IxOut (ixAt rs i) w')) :
    Calls Try.prog 88 #[.agg #[.int .i64 o, .int .i64 n, .slice B ks.length d], .agg #[.int .i64 f.op, .int .i64 f.num, .slice Bf f.kids.length df], .int .i64 a] w (IxOut (.mk o n rs) w) := by
  obtain ⟨i0, hi0, hz0, hz1, hz2⟩ := info_parts ix_info
  have HS := Lib.hid hz2
  clear hz2
  have hb0 : Below w.heap.size w ((((w.alloc (.cells #[.int .i64 o, .int .i64 n, .slice B ks.length d] 42)).alloc (.cells #[.int .i64 f.op, .int .i64 f.num, .slice Bf f.kids.length df] 42)).alloc (.cells #[.int .i64 0, .int .i64 0, .slice none 0 0] 42)).alloc (.cells #[.int .i64 o, .int .i64 n, .slice none 0 0] 42)) := ((((Below.refl _ _).alloc (Nat.le_refl _) _).alloc (by first | (simp; done) | (simp; omega)) _).alloc (by first | (simp; done) | (simp; omega)) _).alloc (by first | (simp; done) | (simp; omega)) _
  have hr1 : ((((w.alloc (.cells #[.int .i64 o, .int .i64 n, .slice B ks.length d] 42)).alloc (.cells #[.int .i64 f.op, .int .i64 f.num, .slice Bf f.kids.length df] 42)).alloc (.cells #[.int .i64 0, .int .i64 0, .slice none 0 0] 42)).alloc (.cells #[.int .i64 o, .int .i64 n, .slice none 0 0] 42)).heap[w.heap.size + 1 + 1]? = some (.cells #[.int .i64 0, .int .i64 0, .slice none 0 0] 42 (0, 0)) := (Below.heap_alloc (((w.alloc (.cells #[.int .i64 o, .int .i64 n, .slice B ks.length d] 42)).alloc (.cells #[.int .i64 f.op, .int .i64 f.num, .slice Bf f.kids.length df] 42)).alloc (.cells #[.int .i64 0, .int .i64 0, .slice none 0 0] 42)) _ _ (by simp)).trans (by
    have h := heap_alloc_new ((w.alloc (.cells #[.int .i64 o, .int .i64 n, .slice B ks.length d] 42)).alloc (.cells #[.int .i64 f.op, .int .i64 f.num, .slice Bf f.kids.length df] 42)) (.cells #[.int .i64 0, .int .i64 0, .slice none 0 0] 42)
    simp only [World.size_alloc] at h
    exact h)
  have hr2 : ((((w.alloc (.cells #[.int .i64 o, .int .i64 n, .slice B ks.length d] 42)).alloc (.cells #[.int .i64 f.op, .int .i64 f.num, .slice Bf f.kids.length df] 42)).alloc (.cells #[.int .i64 0, .int .i64 0, .slice none 0 0] 42)).alloc (.cells #[.int .i64 o, .int .i64 n, .slice none 0 0] 42)).heap[w.heap.size + 1 + 1 + 1]? = some (.cells #[.int .i64 o, .int .i64 n, .slice none 0 0] 42 (0, 0)) := by
    have h := heap_alloc_new (((w.alloc (.cells #[.int .i64 o, .int .i64 n, .slice B ks.length d] 42)).alloc (.cells #[.int .i64 f.op, .int .i64 f.num, .slice Bf f.kids.length df] 42)).alloc (.cells #[.int .i64 0, .int .i64 0, .slice none 0 0] 42)) (.cells #[.int .i64 o, .int .i64 n, .slice none 0 0] 42)
    simp only [World.size_alloc] at h
    exact h
  have hf0 : ((((w.alloc (.cells #[.int .i64 o, .int .i64 n, .slice B ks.length d] 42)).alloc (.cells #[.int .i64 f.op, .int .i64 f.num, .slice Bf f.kids.length df] 42)).alloc (.cells #[.int .i64 0, .int .i64 0, .slice none 0 0] 42)).alloc (.cells #[.int .i64 o, .int .i64 n, .slice none 0 0] 42)).heap[w.heap.size + 1]? = some (.cells #[.int .i64 f.op, .int .i64 f.num, .slice Bf f.kids.length df] 42 (0, 0)) := (Below.heap_alloc (((w.alloc (.cells #[.int .i64 o, .int .i64 n, .slice B ks.length d] 42)).alloc (.cells #[.int .i64 f.op, .int .i64 f.num, .slice Bf f.kids.length df] 42)).alloc (.cells #[.int .i64 0, .int .i64 0, .slice none 0 0] 42)) _ _ (by first | (simp; done) | (simp; omega))).trans ((Below.heap_alloc ((w.alloc (.cells #[.int .i64 o, .int .i64 n, .slice B ks.length d] 42)).alloc (.cells #[.int .i64 f.op, .int .i64 f.num, .slice Bf f.kids.length df] 42)) _ _ (by first | (simp; done) | (simp; omega))).trans (secondI w _ #[.int .i64 f.op, .int .i64 f.num, .slice Bf f.kids.length df] 42))
  have HLR := Lib.hid hlr
  obtain ⟨b3, q3, he⟩ := hc
  clear hlr
  have HA := Lib.hid he
  clear he
  have START : Hid (∃ S, ((((w.alloc (.cells #[.int .i64 o, .int .i64 n, .slice B ks.length d] 42)).alloc (.cells #[.int .i64 f.op, .int .i64 f.num, .slice Bf f.kids.length df] 42)).alloc (.cells #[.int .i64 0, .int .i64 0, .slice none 0 0] 42)).alloc (.cells #[.int .i64 o, .int .i64 n, .slice none 0 0] 42)).heap[w.heap.size + 1 + 1 + 1]? = some (.cells #[.int .i64 o, .int .i64 n, .slice none 0 0] 42 (0, 0)) ∧ ((((w.alloc (.cells #[.int .i64 o, .int .i64 n, .slice B ks.length d] 42)).alloc (.cells #[.int .i64 f.op, .int .i64 f.num, .slice Bf f.kids.length df] 42)).alloc (.cells #[.int .i64 0, .int .i64 0, .slice none 0 0] 42)).alloc (.cells #[.int .i64 o, .int .i64 n, .slice none 0 0] 42)).heap[w.heap.size + 1 + 1]? = some (.cells #[.int .i64 0, .int .i64 0, .slice none 0 0] 42 (0, 0)) ∧ Own ((((w.alloc (.cells #[.int .i64 o, .int .i64 n, .slice B ks.length d] 42)).alloc (.cells #[.int .i64 f.op, .int .i64 f.num, .slice Bf f.kids.length df] 42)).alloc (.cells #[.int .i64 0, .int .i64 0, .slice none 0 0] 42)).alloc (.cells #[.int .i64 o, .int .i64 n, .slice none 0 0] 42)) S (.slice none 0 0) (ixsMem (rs.take 0)) ∧ (∀ b ∈ S, w.heap.size + 1 + 1 + 1 < b) ∧ Below w.heap.size w ((((w.alloc (.cells #[.int .i64 o, .int .i64 n, .slice B ks.length d] 42)).alloc (.cells #[.int .i64 f.op, .int .i64 f.num, .slice Bf f.kids.length df] 42)).alloc (.cells #[.int .i64 0, .int .i64 0, .slice none 0 0] 42)).alloc (.cells #[.int .i64 o, .int .i64 n, .slice none 0 0] 42)) ∧ ((((w.alloc (.cells #[.int .i64 o, .int .i64 n, .slice B ks.length d] 42)).alloc (.cells #[.int .i64 f.op, .int .i64 f.num, .slice Bf f.kids.length df] 42)).alloc (.cells #[.int .i64 0, .int .i64 0, .slice none 0 0] 42)).alloc (.cells #[.int .i64 o, .int .i64 n, .slice none 0 0] 42)).heap[w.heap.size + 1]? = some (.cells #[.int .i64 f.op, .int .i64 f.num, .slice Bf f.kids.length df] 42 (0, 0))) :=
    Lib.hid ⟨[], hr2, hr1, by rw [List.take_zero]; exact own_nokidsI, fun b hb => by simp at hb, hb0, hf0⟩
  clear hr1 hr2 hb0 hf0
  cases b3 with
  | false =>
    have e1 : a1 = a := HA.out
    subst e1
    clear HA
    go_enter Try.func88, Try.ntmps88
    go_wp2
    go_loopw [48] (fun i wr => ∃ (j : Nat) (v : Value) (S : List Nat), j ≤ ks.length ∧ i = .int .i64 j ∧ wr.heap[w.heap.size + 1 + 1 + 1]? = some (.cells #[.int .i64 o, .int .i64 n, v] 42 (0, 0)) ∧ wr.heap[w.heap.size + 1 + 1]? = some (.cells #[.int .i64 0, .int .i64 0, .slice none 0 0] 42 (0, 0)) ∧ Own wr S v (ixsMem (rs.take j)) ∧ (∀ b ∈ S, w.heap.size + 1 + 1 + 1 < b) ∧ Below w.heap.size w wr ∧ wr.heap[w.heap.size + 1]? = some (.cells #[.int .i64 f.op, .int .i64 f.num, .slice Bf f.kids.length df] 42 (0, 0))) (fun i _ => ks.length - (intOf i).toNat)
    case atStart =>
      obtain ⟨S, h⟩ := START.out
      exact ⟨0, _, S, Nat.zero_le _, rfl, h⟩
    case round =>
      clear START
      obtain ⟨j, v, S, hj, rfl, hr2, hr1, hown, hSb, hb, hff⟩ := hrel
      by_cases hlt : j < ks.length
      · obtain ⟨b, off, B1, e1, rfl, hbl, d0, d1, d2, hy⟩ := kid_ix (hk.below hb) hlt
        have hdw : Below wr.heap.size wr (wr.alloc (.cells #[.int .i64 (ixAt ks j).op, .int .i64 (ixAt ks j).num, .slice B1 (ixAt ks j).kids.length e1] 42)).drew := ((Below.refl _ _).alloc (Nat.le_refl _) _).trans ⟨rfl, rfl, rfl, by simp, fun _ _ => rfl⟩
        have hsz : (wr.alloc (.cells #[.int .i64 (ixAt ks j).op, .int .i64 (ixAt ks j).num, .slice B1 (ixAt ks j).kids.length e1] 42)).drew.heap.size = wr.heap.size + 1 := by show (wr.alloc _).heap.size = _; simp
        have HSZ := Lib.hid hsz
        have hct := ih j hlt (wr.alloc (.cells #[.int .i64 (ixAt ks j).op, .int .i64 (ixAt ks j).num, .slice B1 (ixAt ks j).kids.length e1] 42)).drew _ (hb.trans (hdw.mono hb.size)) (hy.below hdw)
        have hlt2 : w.heap.size + 1 + 1 + 1 < wr.heap.size := Args8S.box_lt hr2
        have HD2 := Lib.hid ((hdw.block (w.heap.size + 1 + 1 + 1) hlt2).trans hr2)
        have HD1 := Lib.hid ((hdw.block (w.heap.size + 1 + 1) (Nat.lt_of_succ_lt hlt2)).trans hr1)
        have hownd := hown.alike (w' := (wr.alloc (.cells #[.int .i64 (ixAt ks j).op, .int .i64 (ixAt ks j).num, .slice B1 (ixAt ks j).kids.length e1] 42)).drew) (fun bb hbb => hdw.block bb (hown.lt bb hbb))
        have HBD := Lib.hid (hb.trans (hdw.mono hb.size))
        obtain ⟨m0, m1, m2⟩ := IxK.row3 hr2
        have htk : Hid (rs.take (j + 1) = rs.take j ++ [ixAt rs j]) := Lib.hid (ix_take_next (by rw [HLR.out]; exact hlt))
        have hln : (rs.take j).length = j := by rw [List.length_take, HLR.out]; omega
        generalize rs.take j = R at hown hownd htk hln
        generalize ixAt rs j = r at hct htk
        generalize ixAt ks j = u at *
        obtain ⟨xs9, S9, hoA, hLA, hsub, hvS⟩ := own_ixs0 hownd
        rw [hln] at hoA
        have HLN := Lib.hid hln
        have hmax : j + 1 ≤ maxLen := by unfold maxLen; omega
        have hbytes : (j + 1) * 40 ≤ 140737488355328 := by omega
        have HSL := Lib.hid (fun bb (hbb : bb ∈ S) => (Nat.lt_of_lt_of_le (hown.lt bb hbb) hdw.size : bb < (wr.alloc (.cells #[.int .i64 u.op, .int .i64 u.num, .slice B1 u.kids.length e1] 42)).drew.heap.size))
        have HLT2 := Lib.hid hlt2
        have HFD := Lib.hid ((hdw.block (w.heap.size + 1) (Nat.lt_of_succ_lt (Nat.lt_of_succ_lt hlt2))).trans hff)
        obtain ⟨ff0, ff1, ff2⟩ := IxK.row3 hff
        have fm0 : (wr.alloc (.cells #[.int .i64 u.op, .int .i64 u.num, .slice B1 u.kids.length e1] 42)).cell? ⟨w.heap.size + 1, 0, none⟩ = some _ := (IxK.row3 HFD.out).1
        have fm1 : (wr.alloc (.cells #[.int .i64 u.op, .int .i64 u.num, .slice B1 u.kids.length e1] 42)).cell? ⟨w.heap.size + 1, 1, none⟩ = some _ := (IxK.row3 HFD.out).2.1
        have fm2 : (wr.alloc (.cells #[.int .i64 u.op, .int .i64 u.num, .slice B1 u.kids.length e1] 42)).cell? ⟨w.heap.size + 1, 2, none⟩ = some _ := (IxK.row3 HFD.out).2.2
        have mm2 : (wr.alloc (.cells #[.int .i64 u.op, .int .i64 u.num, .slice B1 u.kids.length e1] 42)).cell? ⟨w.heap.size + 1 + 1 + 1, 2, none⟩ = some v := (IxK.row3 HD2.out).2.2
        have mz2 : (wr.alloc (.cells #[.int .i64 u.op, .int .i64 u.num, .slice B1 u.kids.length e1] 42)).frozen? ⟨w.heap.size + 1 + 1 + 1, 2, none⟩ = false := frozen_of_row _ _ 2 _ _ HD2.out
        clear hy hbl hsz hdw hb hr1 hr2 hff hown hownd hk ih HLR hln hlt2
        go_wp2
        go_region_law (first
          | (refine step_append_lies _ (by rfl) _ _ _ (by rfl) 0 42 i0 _ 3 40 Try.underlying40 hi0 hz0 hz1 HS.out rfl (by decide) v j xs9 (by rfl) ho9 ⟨w2.heap.size, 0, none⟩ 1 1 [.int .i64 r.op, .int .i64 r.num, .slice A2 r.kids.length c2] (by rfl) (by rfl) hnews hone (by decide) hmax hbytes (Nat.zero_le _) _ rfl ?_; intro g1 cap1 w4 ho4 hg4 hcase _; have k4 := (hg4.block (w.heap.size + 1 + 1 + 1) hlt3 (hvR v.ownBlock rfl)).trans k3; obtain ⟨t0, t1, t2⟩ := IxK.row3 k4; have tz := frozen_of_row _ _ 2 _ _ k4)
          | (go_simp; go_at_call 88; (with_reducible refine hct.mono ?_); rintro e w2 ⟨A2, c2, S2, rfl, hS2, hS2b, hb2⟩; have k2 := (hb2.block (w.heap.size + 1 + 1 + 1) (by have h1 := HLT2.out; have h2 := HSZ.out; omega)).trans HD2.out; obtain ⟨g0, g1', g2⟩ := IxK.row3 k2; have hb3 : Below w2.heap.size w2 (w2.alloc (.cells #[.int .i64 r.op, .int .i64 r.num, .slice A2 r.kids.length c2] 42)) := (Below.refl _ _).alloc (Nat.le_refl _) _; have ho9 := own_below (own_below hoA hb2) hb3; have hnews := World.news_of_block (heap_alloc_new w2 (.cells #[.int .i64 r.op, .int .i64 r.num, .slice A2 r.kids.length c2] 42)); have hone := three_one r.op r.num A2 r.kids.length c2; have hlt3 : w.heap.size + 1 + 1 + 1 < (w2.alloc (.cells #[.int .i64 r.op, .int .i64 r.num, .slice A2 r.kids.length c2] 42)).heap.size := Nat.lt_of_lt_of_le (Args8S.box_lt k2) hb3.size; have k3 := (hb3.block (w.heap.size + 1 + 1 + 1) (Args8S.box_lt k2)).trans k2; have gg2 : (w2.alloc (.cells #[.int .i64 r.op, .int .i64 r.num, .slice A2 r.kids.length c2] 42)).cell? ⟨w.heap.size + 1 + 1 + 1, 2, none⟩ = some v := (IxK.row3 k3).2.2; have hvR : ∀ ob : Option Nat, ob = v.ownBlock → some (w.heap.size + 1 + 1 + 1) ≠ ob := fun ob e1 e2 => (by rw [e1] at e2; have h1 := hSb _ ((hvS _ e2.symm).1); exact Nat.lt_irrefl _ h1))
          | fail)
        all_goals (
          have hwd := HSZ.out
          have hl2 := HLT2.out
          have s2 := hb2.size
          have s3 := hb3.size
          have hb23 := hb2.trans (hb3.mono s2)
          have hLA3 := hLA.alike (w' := w2.alloc (.cells #[.int .i64 r.op, .int .i64 r.num, .slice A2 r.kids.length c2] 42)) (fun bb hbb => hb23.block bb (HSL.out bb (hsub bb hbb)))
          have hS23 := hS2.alike (w' := w2.alloc (.cells #[.int .i64 r.op, .int .i64 r.num, .slice A2 r.kids.length c2] 42)) (fun bb hbb => hb3.block bb (hS2.lt bb hbb))
          have hownN := own_snocI (r := r) HLN.out.symm ho9 hLA3 (fun g h => (hvS g h).2) hS23 (fun bb h1 h2 => by have h3 := HSL.out bb (hsub bb h1); have h4 := hS2b bb h2; omega) (fun g h h2 => by have h3 := HSL.out g (hvS g h).1; have h4 := hS2b g h2; omega) ho4 hg4 hcase
          have hbig : ∀ bb ∈ g1 :: (S9 ++ S2), w.heap.size + 1 + 1 + 1 < bb := fun bb hbb => by
            rcases List.mem_cons.1 hbb with e | e
            · rcases hcase with h | h
              · rw [e]; exact hSb g1 (hvS g1 h).1
              · omega
            · rcases List.mem_append.1 e with h | h
              · exact hSb bb (hsub bb h)
              · have := hS2b bb h; omega
          have kN : (w4.setCell ⟨w.heap.size + 1 + 1 + 1, 2, none⟩ (.slice (some ⟨g1, 0, none⟩) (j + 1) cap1)).heap[w.heap.size + 1 + 1 + 1]? = some (.cells #[.int .i64 o, .int .i64 n, .slice (some ⟨g1, 0, none⟩) (j + 1) cap1] 42 (0, 0)) := heap_setCell_same w4 (w.heap.size + 1 + 1 + 1) 2 _ _ (.slice (some ⟨g1, 0, none⟩) (j + 1) cap1) k4
          have k1 := (hb23.block (w.heap.size + 1 + 1) (by omega)).trans HD1.out
          have k1N : (w4.setCell ⟨w.heap.size + 1 + 1 + 1, 2, none⟩ (.slice (some ⟨g1, 0, none⟩) (j + 1) cap1)).heap[w.heap.size + 1 + 1]? = some (.cells #[.int .i64 0, .int .i64 0, .slice none 0 0] 42 (0, 0)) := (Below.heap_setCell w4 ⟨w.heap.size + 1 + 1 + 1, 2, none⟩ _ (w.heap.size + 1 + 1) (by show w.heap.size + 1 + 1 ≠ w.heap.size + 1 + 1 + 1; omega)).trans ((hg4.block (w.heap.size + 1 + 1) (by omega) (fun e => by have h1 := hSb _ (hvS _ e.symm).1; omega)).trans k1)
          have kfN : (w4.setCell ⟨w.heap.size + 1 + 1 + 1, 2, none⟩ (.slice (some ⟨g1, 0, none⟩) (j + 1) cap1)).heap[w.heap.size + 1]? = some (.cells #[.int .i64 f.op, .int .i64 f.num, .slice Bf f.kids.length df] 42 (0, 0)) := (Below.heap_setCell w4 ⟨w.heap.size + 1 + 1 + 1, 2, none⟩ _ (w.heap.size + 1) (by show w.heap.size + 1 ≠ w.heap.size + 1 + 1 + 1; omega)).trans ((hg4.block (w.heap.size + 1) (by omega) (fun e => by have h1 := hSb _ (hvS _ e.symm).1; omega)).trans ((hb23.block (w.heap.size + 1) (by omega)).trans HFD.out))
          have hownN2 := hownN.setCell_other ⟨w.heap.size + 1 + 1 + 1, 2, none⟩ (.slice (some ⟨g1, 0, none⟩) (j + 1) cap1) (fun bb hbb => by have h1 := hbig bb hbb; show bb ≠ w.heap.size + 1 + 1 + 1; omega)
          have hbw := HBD.out.trans (hb23.mono HBD.out.size)
          have hbN : Below w.heap.size w (w4.setCell ⟨w.heap.size + 1 + 1 + 1, 2, none⟩ (.slice (some ⟨g1, 0, none⟩) (j + 1) cap1)) := (hbw.grown hg4 hbw.size (fun k hk' => by have h1 := hSb _ (hvS _ hk').1; omega)).setCell (by show w.heap.size ≤ w.heap.size + 1 + 1 + 1; omega) _
          rw [← htk.out] at hownN2
          clear hownN hLA3 hS23 hb23 hbw k1 s2 s3 hwd hl2 hct hb2 hb3 hS2 hS2b ho9 hnews hone hlt3 hvR k2 k3 k4 gg2 g0 g1' g2 t0 t1 t2 tz ho4 hg4 hcase mm2 mz2 fm0 fm1 fm2 ff0 ff1 ff2 HFD m0 m1 m2 HD1 HD2 HBD HSL HLT2 HLN HSZ hoA hLA hsub hvS hSb htk d0 d1 d2 hmax hbytes
          go_wp2
          refine ⟨⟨j + 1, _, _, by omega, by go_num, kN, k1N, hownN2, hbig, hbN, kfN⟩, ?_⟩
          simp only [intOf]
          omega)
      · have ej : j = ks.length := by omega
        have htake : rs.take j = rs := List.take_of_length_le (by rw [HLR.out]; omega)
        rw [htake] at hown
        obtain ⟨A9, c9, rfl⟩ := IxsIn.form (ts := rs) hown.at_
        have hL := ownL_ix (t := .mk o n rs) hown
        have hLs := set3_own hL (R := w.heap.size + 1 + 1) (fun bb hbb => by rw [List.append_nil] at hbb; have := hSb bb hbb; omega) (.int .i64 o) (.int .i64 n) (.slice A9 rs.length c9)
        have hbel := set3_below hb (show w.heap.size ≤ w.heap.size + 1 + 1 by omega) (.int .i64 o) (.int .i64 n) (.slice A9 rs.length c9)
        have hpost : IxOut (.mk o n rs) w (.returned (.agg #[.int .i64 o, .int .i64 n, .slice A9 rs.length c9])) _ := ⟨A9, c9, _, rfl, hLs, fun bb hbb => by rw [List.append_nil] at hbb; have := hSb bb hbb; omega, hbel⟩
        obtain ⟨m0, m1, m2⟩ := IxK.row3 hr2
        obtain ⟨r0, r1, r2⟩ := IxK.row3 hr1
        have z0 := frozen_of_row _ _ 0 _ _ hr1
        have z1 := frozen_of_row _ _ 1 _ _ hr1
        have z2 := frozen_of_row _ _ 2 _ _ hr1
        clear hL hLs hbel hown hSb hb hr1 hr2 hff htake ih hk HLR
        go_wp2
        exact bodyPost_ret (v := .agg #[.int .i64 o, .int .i64 n, .slice A9 rs.length c9]) (by simp [results, Try.results88, go_sem, r0, r1, r2]) rfl hpost
  | true =>
    have e1 : a1 = a + 1 := HA.out
    subst e1
    clear HA
    go_enter Try.func88, Try.ntmps88
    go_wp2
    go_loopw [48] (fun i wr => ∃ (j : Nat) (v : Value) (S : List Nat), j ≤ ks.length ∧ i = .int .i64 j ∧ wr.heap[w.heap.size + 1 + 1 + 1]? = some (.cells #[.int .i64 o, .int .i64 n, v] 42 (0, 0)) ∧ wr.heap[w.heap.size + 1 + 1]? = some (.cells #[.int .i64 0, .int .i64 0, .slice none 0 0] 42 (0, 0)) ∧ Own wr S v (ixsMem (rs.take j)) ∧ (∀ b ∈ S, w.heap.size + 1 + 1 + 1 < b) ∧ Below w.heap.size w wr ∧ wr.heap[w.heap.size + 1]? = some (.cells #[.int .i64 f.op, .int .i64 f.num, .slice Bf f.kids.length df] 42 (0, 0))) (fun i _ => ks.length - (intOf i).toNat)
    case atStart =>
      obtain ⟨S, h⟩ := START.out
      exact ⟨0, _, S, Nat.zero_le _, rfl, h⟩
    case round =>
      clear START
      obtain ⟨j, v, S, hj, rfl, hr2, hr1, hown, hSb, hb, hff⟩ := hrel
      by_cases hlt : j < ks.length
      · obtain ⟨b, off, B1, e1, rfl, hbl, d0, d1, d2, hy⟩ := kid_ix (hk.below hb) hlt
        have hdw : Below wr.heap.size wr (wr.alloc (.cells #[.int .i64 (ixAt ks j).op, .int .i64 (ixAt ks j).num, .slice B1 (ixAt ks j).kids.length e1] 42)).drew := ((Below.refl _ _).alloc (Nat.le_refl _) _).trans ⟨rfl, rfl, rfl, by simp, fun _ _ => rfl⟩
        have hsz : (wr.alloc (.cells #[.int .i64 (ixAt ks j).op, .int .i64 (ixAt ks j).num, .slice B1 (ixAt ks j).kids.length e1] 42)).drew.heap.size = wr.heap.size + 1 := by show (wr.alloc _).heap.size = _; simp
        have HSZ := Lib.hid hsz
        have hct := ih j hlt (wr.alloc (.cells #[.int .i64 (ixAt ks j).op, .int .i64 (ixAt ks j).num, .slice B1 (ixAt ks j).kids.length e1] 42)).drew _ (hb.trans (hdw.mono hb.size)) (hy.below hdw)
        have hlt2 : w.heap.size + 1 + 1 + 1 < wr.heap.size := Args8S.box_lt hr2
        have HD2 := Lib.hid ((hdw.block (w.heap.size + 1 + 1 + 1) hlt2).trans hr2)
        have HD1 := Lib.hid ((hdw.block (w.heap.size + 1 + 1) (Nat.lt_of_succ_lt hlt2)).trans hr1)
        have hownd := hown.alike (w' := (wr.alloc (.cells #[.int .i64 (ixAt ks j).op, .int .i64 (ixAt ks j).num, .slice B1 (ixAt ks j).kids.length e1] 42)).drew) (fun bb hbb => hdw.block bb (hown.lt bb hbb))
        have HBD := Lib.hid (hb.trans (hdw.mono hb.size))
        obtain ⟨m0, m1, m2⟩ := IxK.row3 hr2
        have htk : Hid (rs.take (j + 1) = rs.take j ++ [ixAt rs j]) := Lib.hid (ix_take_next (by rw [HLR.out]; exact hlt))
        have hln : (rs.take j).length = j := by rw [List.length_take, HLR.out]; omega
        generalize rs.take j = R at hown hownd htk hln
        generalize ixAt rs j = r at hct htk
        generalize ixAt ks j = u at *
        obtain ⟨xs9, S9, hoA, hLA, hsub, hvS⟩ := own_ixs0 hownd
        rw [hln] at hoA
        have HLN := Lib.hid hln
        have hmax : j + 1 ≤ maxLen := by unfold maxLen; omega
        have hbytes : (j + 1) * 40 ≤ 140737488355328 := by omega
        have HSL := Lib.hid (fun bb (hbb : bb ∈ S) => (Nat.lt_of_lt_of_le (hown.lt bb hbb) hdw.size : bb < (wr.alloc (.cells #[.int .i64 u.op, .int .i64 u.num, .slice B1 u.kids.length e1] 42)).drew.heap.size))
        have HLT2 := Lib.hid hlt2
        have HFD := Lib.hid ((hdw.block (w.heap.size + 1) (Nat.lt_of_succ_lt (Nat.lt_of_succ_lt hlt2))).trans hff)
        obtain ⟨ff0, ff1, ff2⟩ := IxK.row3 hff
        have fm0 : (wr.alloc (.cells #[.int .i64 u.op, .int .i64 u.num, .slice B1 u.kids.length e1] 42)).cell? ⟨w.heap.size + 1, 0, none⟩ = some _ := (IxK.row3 HFD.out).1
        have fm1 : (wr.alloc (.cells #[.int .i64 u.op, .int .i64 u.num, .slice B1 u.kids.length e1] 42)).cell? ⟨w.heap.size + 1, 1, none⟩ = some _ := (IxK.row3 HFD.out).2.1
        have fm2 : (wr.alloc (.cells #[.int .i64 u.op, .int .i64 u.num, .slice B1 u.kids.length e1] 42)).cell? ⟨w.heap.size + 1, 2, none⟩ = some _ := (IxK.row3 HFD.out).2.2
        have mm2 : (wr.alloc (.cells #[.int .i64 u.op, .int .i64 u.num, .slice B1 u.kids.length e1] 42)).cell? ⟨w.heap.size + 1 + 1 + 1, 2, none⟩ = some v := (IxK.row3 HD2.out).2.2
        have mz2 : (wr.alloc (.cells #[.int .i64 u.op, .int .i64 u.num, .slice B1 u.kids.length e1] 42)).frozen? ⟨w.heap.size + 1 + 1 + 1, 2, none⟩ = false := frozen_of_row _ _ 2 _ _ HD2.out
        clear hy hbl hsz hdw hb hr1 hr2 hff hown hownd hk ih HLR hln hlt2
        go_wp2
        go_region_law (first
          | (refine step_append_lies _ (by rfl) _ _ _ (by rfl) 0 42 i0 _ 3 40 Try.underlying40 hi0 hz0 hz1 HS.out rfl (by decide) v j xs9 (by rfl) ho9 ⟨w2.heap.size, 0, none⟩ 1 1 [.int .i64 r.op, .int .i64 r.num, .slice A2 r.kids.length c2] (by rfl) (by rfl) hnews hone (by decide) hmax hbytes (Nat.zero_le _) _ rfl ?_; intro g1 cap1 w4 ho4 hg4 hcase _; have k4 := (hg4.block (w.heap.size + 1 + 1 + 1) hlt3 (hvR v.ownBlock rfl)).trans k3; obtain ⟨t0, t1, t2⟩ := IxK.row3 k4; have tz := frozen_of_row _ _ 2 _ _ k4)
          | (go_simp; go_at_call 88; (with_reducible refine hct.mono ?_); rintro e w2 ⟨A2, c2, S2, rfl, hS2, hS2b, hb2⟩; have k2 := (hb2.block (w.heap.size + 1 + 1 + 1) (by have h1 := HLT2.out; have h2 := HSZ.out; omega)).trans HD2.out; obtain ⟨g0, g1', g2⟩ := IxK.row3 k2; have hb3 : Below w2.heap.size w2 (w2.alloc (.cells #[.int .i64 r.op, .int .i64 r.num, .slice A2 r.kids.length c2] 42)) := (Below.refl _ _).alloc (Nat.le_refl _) _; have ho9 := own_below (own_below hoA hb2) hb3; have hnews := World.news_of_block (heap_alloc_new w2 (.cells #[.int .i64 r.op, .int .i64 r.num, .slice A2 r.kids.length c2] 42)); have hone := three_one r.op r.num A2 r.kids.length c2; have hlt3 : w.heap.size + 1 + 1 + 1 < (w2.alloc (.cells #[.int .i64 r.op, .int .i64 r.num, .slice A2 r.kids.length c2] 42)).heap.size := Nat.lt_of_lt_of_le (Args8S.box_lt k2) hb3.size; have k3 := (hb3.block (w.heap.size + 1 + 1 + 1) (Args8S.box_lt k2)).trans k2; have gg2 : (w2.alloc (.cells #[.int .i64 r.op, .int .i64 r.num, .slice A2 r.kids.length c2] 42)).cell? ⟨w.heap.size + 1 + 1 + 1, 2, none⟩ = some v := (IxK.row3 k3).2.2; have hvR : ∀ ob : Option Nat, ob = v.ownBlock → some (w.heap.size + 1 + 1 + 1) ≠ ob := fun ob e1 e2 => (by rw [e1] at e2; have h1 := hSb _ ((hvS _ e2.symm).1); exact Nat.lt_irrefl _ h1))
          | fail)
        all_goals (
          have hwd := HSZ.out
          have hl2 := HLT2.out
          have s2 := hb2.size
          have s3 := hb3.size
          have hb23 := hb2.trans (hb3.mono s2)
          have hLA3 := hLA.alike (w' := w2.alloc (.cells #[.int .i64 r.op, .int .i64 r.num, .slice A2 r.kids.length c2] 42)) (fun bb hbb => hb23.block bb (HSL.out bb (hsub bb hbb)))
          have hS23 := hS2.alike (w' := w2.alloc (.cells #[.int .i64 r.op, .int .i64 r.num, .slice A2 r.kids.length c2] 42)) (fun bb hbb => hb3.block bb (hS2.lt bb hbb))
          have hownN := own_snocI (r := r) HLN.out.symm ho9 hLA3 (fun g h => (hvS g h).2) hS23 (fun bb h1 h2 => by have h3 := HSL.out bb (hsub bb h1); have h4 := hS2b bb h2; omega) (fun g h h2 => by have h3 := HSL.out g (hvS g h).1; have h4 := hS2b g h2; omega) ho4 hg4 hcase
          have hbig : ∀ bb ∈ g1 :: (S9 ++ S2), w.heap.size + 1 + 1 + 1 < bb := fun bb hbb => by
            rcases List.mem_cons.1 hbb with e | e
            · rcases hcase with h | h
              · rw [e]; exact hSb g1 (hvS g1 h).1
              · omega
            · rcases List.mem_append.1 e with h | h
              · exact hSb bb (hsub bb h)
              · have := hS2b bb h; omega
          have kN : (w4.setCell ⟨w.heap.size + 1 + 1 + 1, 2, none⟩ (.slice (some ⟨g1, 0, none⟩) (j + 1) cap1)).heap[w.heap.size + 1 + 1 + 1]? = some (.cells #[.int .i64 o, .int .i64 n, .slice (some ⟨g1, 0, none⟩) (j + 1) cap1] 42 (0, 0)) := heap_setCell_same w4 (w.heap.size + 1 + 1 + 1) 2 _ _ (.slice (some ⟨g1, 0, none⟩) (j + 1) cap1) k4
          have k1 := (hb23.block (w.heap.size + 1 + 1) (by omega)).trans HD1.out
          have k1N : (w4.setCell ⟨w.heap.size + 1 + 1 + 1, 2, none⟩ (.slice (some ⟨g1, 0, none⟩) (j + 1) cap1)).heap[w.heap.size + 1 + 1]? = some (.cells #[.int .i64 0, .int .i64 0, .slice none 0 0] 42 (0, 0)) := (Below.heap_setCell w4 ⟨w.heap.size + 1 + 1 + 1, 2, none⟩ _ (w.heap.size + 1 + 1) (by show w.heap.size + 1 + 1 ≠ w.heap.size + 1 + 1 + 1; omega)).trans ((hg4.block (w.heap.size + 1 + 1) (by omega) (fun e => by have h1 := hSb _ (hvS _ e.symm).1; omega)).trans k1)
          have kfN : (w4.setCell ⟨w.heap.size + 1 + 1 + 1, 2, none⟩ (.slice (some ⟨g1, 0, none⟩) (j + 1) cap1)).heap[w.heap.size + 1]? = some (.cells #[.int .i64 f.op, .int .i64 f.num, .slice Bf f.kids.length df] 42 (0, 0)) := (Below.heap_setCell w4 ⟨w.heap.size + 1 + 1 + 1, 2, none⟩ _ (w.heap.size + 1) (by show w.heap.size + 1 ≠ w.heap.size + 1 + 1 + 1; omega)).trans ((hg4.block (w.heap.size + 1) (by omega) (fun e => by have h1 := hSb _ (hvS _ e.symm).1; omega)).trans ((hb23.block (w.heap.size + 1) (by omega)).trans HFD.out))
          have hownN2 := hownN.setCell_other ⟨w.heap.size + 1 + 1 + 1, 2, none⟩ (.slice (some ⟨g1, 0, none⟩) (j + 1) cap1) (fun bb hbb => by have h1 := hbig bb hbb; show bb ≠ w.heap.size + 1 + 1 + 1; omega)
          have hbw := HBD.out.trans (hb23.mono HBD.out.size)
          have hbN : Below w.heap.size w (w4.setCell ⟨w.heap.size + 1 + 1 + 1, 2, none⟩ (.slice (some ⟨g1, 0, none⟩) (j + 1) cap1)) := (hbw.grown hg4 hbw.size (fun k hk' => by have h1 := hSb _ (hvS _ hk').1; omega)).setCell (by show w.heap.size ≤ w.heap.size + 1 + 1 + 1; omega) _
          rw [← htk.out] at hownN2
          clear hownN hLA3 hS23 hb23 hbw k1 s2 s3 hwd hl2 hct hb2 hb3 hS2 hS2b ho9 hnews hone hlt3 hvR k2 k3 k4 gg2 g0 g1' g2 t0 t1 t2 tz ho4 hg4 hcase mm2 mz2 fm0 fm1 fm2 ff0 ff1 ff2 HFD m0 m1 m2 HD1 HD2 HBD HSL HLT2 HLN HSZ hoA hLA hsub hvS hSb htk d0 d1 d2 hmax hbytes
          go_wp2
          refine ⟨⟨j + 1, _, _, by omega, by go_num, kN, k1N, hownN2, hbig, hbN, kfN⟩, ?_⟩
          simp only [intOf]
          omega)
      · have ej : j = ks.length := by omega
        have htake : rs.take j = rs := List.take_of_length_le (by rw [HLR.out]; omega)
        rw [htake] at hown
        obtain ⟨A9, c9, rfl⟩ := IxsIn.form (ts := rs) hown.at_
        have hL := ownL_ix (t := .mk o n rs) hown
        have hLs := set3_own hL (R := w.heap.size + 1 + 1) (fun bb hbb => by rw [List.append_nil] at hbb; have := hSb bb hbb; omega) (.int .i64 o) (.int .i64 n) (.slice A9 rs.length c9)
        have hbel := set3_below hb (show w.heap.size ≤ w.heap.size + 1 + 1 by omega) (.int .i64 o) (.int .i64 n) (.slice A9 rs.length c9)
        have hpost : IxOut (.mk o n rs) w (.returned (.agg #[.int .i64 o, .int .i64 n, .slice A9 rs.length c9])) _ := ⟨A9, c9, _, rfl, hLs, fun bb hbb => by rw [List.append_nil] at hbb; have := hSb bb hbb; omega, hbel⟩
        obtain ⟨m0, m1, m2⟩ := IxK.row3 hr2
        obtain ⟨r0, r1, r2⟩ := IxK.row3 hr1
        have z0 := frozen_of_row _ _ 0 _ _ hr1
        have z1 := frozen_of_row _ _ 1 _ _ hr1
        have z2 := frozen_of_row _ _ 2 _ _ hr1
        clear hL hLs hbel hown hSb hb hr1 hr2 hff htake ih hk HLR
        go_wp2
        exact bodyPost_ret (v := .agg #[.int .i64 o, .int .i64 n, .slice A9 rs.length c9]) (by simp [results, Try.results88, go_sem, r0, r1, r2]) rfl hpost

end Go.Proofs.Ytihijigbdpjcoaa
