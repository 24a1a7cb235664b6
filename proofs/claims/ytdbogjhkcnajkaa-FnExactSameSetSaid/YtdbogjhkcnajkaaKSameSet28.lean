/-
  withoutConstant of the program, as a contract. ReducedSet of the program, as a contract. ReducedSet of the model, as a contract.
-/
import Derived.Test.YtdbogjhkcnajkaaKSameSet25
import Derived.Test.YtdbogjhkcnajkaaKSameSet18
import Derived.Test.YtdbogjhkcnajkaaKSameSet26
import Derived.Test.YtdbogjhkcnajkaaKSameSet16
import Derived.Test.YtdbogjhkcnajkaaKSameSet17
import Derived.Test.YtdbogjhkcnajkaaKSameSet27
import Derived.Test.YtdbogjhkcnajkaaKSameSet22
import Derived.Test.YtdbogjhkcnajkaaKSameSet2
import Derived.Lib.SliceRun
import Derived.Deep.RegionHeld3
import Derived.Test.YtdbogjhkcnajkaaKSameSet15
section
namespace Go.Proofs.Ytdbogjhkcnajkaa
open Go.RowKit Go.Sort Go.Shelf
set_option linter.unusedVariables false

theorem wo_gives (n x : Int) (B : Nat) (w : World) (h : w.cell? ⟨B, 0, none⟩ = some (.int .i64 n)) :
    Calls Try.prog 145 #[.int .i64 x, .pointer (some ⟨B, 0, none⟩)] w fun e w' => e = .returned (.bool (x == n)) ∧ ∃ q, w' = w.drewN q := by
  by_cases hx : x = n
  · have hb : (x == n) = true := by simpa using hx
    rw [hb]
    subst hx
    go_enter Try.func145, Try.ntmps145
    go_wp2
    go_ret
    exact ⟨rfl, 0, rfl⟩
  · have hb : (x == n) = false := by simpa using hx
    rw [hb]
    go_enter Try.func145, Try.ntmps145
    go_wp2
    go_ret
    exact ⟨by first | rfl | (simp [hx]), 0, rfl⟩
theorem wo_pred (n : Int) (B : Nat) (w : World) (hB : B < w.heap.size) (hcell : w.cell? ⟨B, 0, none⟩ = some (.int .i64 n)) :
    PredAt Try.prog 145 #[.pointer (some ⟨B, 0, none⟩)] (Value.int .i64) (fun x => x == n) w :=
  fun W x hb => wo_gives n x B W ((hb.cell (p := ⟨B, 0, none⟩) hB).trans hcell)
theorem wo_over (n : Int) (B blk off size : Nat) (w : World) (hB : B < w.heap.size) (hne : B ≠ blk) (hcell : w.cell? ⟨B, 0, none⟩ = some (.int .i64 n)) :
    PredOver Try.prog 145 #[.pointer (some ⟨B, 0, none⟩)] (Value.int .i64) (fun x => x == n) blk off size w :=
  fun k os dk x _ => wo_gives n x B _ (by
    unfold sortWorld
    rw [cell?_grow _ _ _ (by show B < (putRow _ _ _ _ _).heap.size; rw [size_putRow]; exact hB), cell?_putRow_other _ _ blk off _ _ (Or.inl hne)]
    exact hcell)

theorem wo_putRow {B : Nat} {w0 w : World} {g q : Nat} {d : Array Int} (h : Below B w0 w) (hg : B ≤ g) : Below B w0 (putRow (Value.int .i64) (Sort.ahead w q) g 0 d) := Lib.below_putRow h hg

set_option maxRecDepth 100000 in
set_option maxHeartbeats 8000000 in
theorem without_any (n : Nat) (hn : n ≤ 4) (cs : List Int) (hc : constB cs = true) (hpos : 0 < cs.length) (M : List (List Int)) (hM : M = thoseL n cs.length M) (c : Int) (x : Value) (w : World) (hx : OrbIx w x n cs M) :
    Calls Try.prog 106 #[x, .int .i64 c] w (OrbBOut n (restL cs c) (fewM n cs M c) (keepB n cs M c) w) := by
  have hX := hx
  obtain ⟨A, c0, B, d, rfl, hl, hmr, hm⟩ := hx
  have hb0 : Below w.heap.size w (((w.alloc (.cells #[.int .i64 (n : Int), .slice A cs.length c0, .slice B M.length d] 29)).alloc (.cells #[.int .i64 c] 3)).alloc (.cells #[.int .i64 0, .slice none 0 0, .slice none 0 0] 29)) := (((Below.refl _ _).alloc (Nat.le_refl _) _).alloc (by simp) _).alloc (by simp; omega) _
  have k0 : (((w.alloc (.cells #[.int .i64 (n : Int), .slice A cs.length c0, .slice B M.length d] 29)).alloc (.cells #[.int .i64 c] 3)).alloc (.cells #[.int .i64 0, .slice none 0 0, .slice none 0 0] 29)).heap[w.heap.size]? = some (.cells #[.int .i64 (n : Int), .slice A cs.length c0, .slice B M.length d] 29 (0, 0)) := (Below.heap_alloc _ _ _ (by simp; omega)).trans ((Below.heap_alloc _ _ _ (by simp)).trans (heap_alloc_new w _))
  have k1 : (((w.alloc (.cells #[.int .i64 (n : Int), .slice A cs.length c0, .slice B M.length d] 29)).alloc (.cells #[.int .i64 c] 3)).alloc (.cells #[.int .i64 0, .slice none 0 0, .slice none 0 0] 29)).heap[w.heap.size + 1]? = some (.cells #[.int .i64 c] 3 (0, 0)) := by
    have h := heap_alloc_new (w.alloc (.cells #[.int .i64 (n : Int), .slice A cs.length c0, .slice B M.length d] 29)) (.cells #[.int .i64 c] 3)
    rw [World.size_alloc] at h
    exact (Below.heap_alloc _ _ _ (by simp)).trans h
  have k2 : (((w.alloc (.cells #[.int .i64 (n : Int), .slice A cs.length c0, .slice B M.length d] 29)).alloc (.cells #[.int .i64 c] 3)).alloc (.cells #[.int .i64 0, .slice none 0 0, .slice none 0 0] 29)).heap[w.heap.size + 1 + 1]? = some (.cells #[.int .i64 0, .slice none 0 0, .slice none 0 0] 29 (0, 0)) := by
    have h := heap_alloc_new ((w.alloc (.cells #[.int .i64 (n : Int), .slice A cs.length c0, .slice B M.length d] 29)).alloc (.cells #[.int .i64 c] 3)) (.cells #[.int .i64 0, .slice none 0 0, .slice none 0 0] 29)
    rw [World.size_alloc, World.size_alloc] at h
    exact h
  obtain ⟨b0, b1, b2⟩ := OrbK.row3 k0
  have hk3 := const_len hc
  have hr3 := const_len (restL_const c hc)
  have hfit := normal_fit (k := (cs.length : Int)) (by omega) (by omega) hn hM
  have hFO : FitO cs M := ⟨by omega, fitR_of (by omega)⟩
  have hor := orb_normal hn hc hM
  have hsubM : ∀ q ∈ M, q ∈ allP n cs.length := orb_mem hor
  have hsubF : ∀ q ∈ fewM n cs M c, q ∈ allP n (restL cs c).length := fun q hq => by rw [normal_few] at hq; exact thoseL_sub q hq
  have hfitF := normal_fit (k := ((restL cs c).length : Int)) (by omega) (by omega) hn (normal_few n cs M c)
  have hdg : ∀ i, i < M.length → (rwAt M i).length ≤ 4 ∧ digP (rwAt M i) := fun i hi => by
    have h9 : rwAt M i ∈ M := by rw [rwAt_get _ _ hi]; exact List.getElem_mem hi
    have h1 := dig_allP (k := (cs.length : Int)) (by omega) (by omega) hn (hsubM _ h9)
    exact ⟨by omega, h1.2⟩
  have hen : ∀ i, i < (exsL cs M).length → (rwAt (exsL cs M) i).length = n := fun i hi => by
    rw [exsL_len] at hi
    rw [ex_at hi, exL_len]
    have h9 : rwAt M i ∈ M := by rw [rwAt_get _ _ hi]; exact List.getElem_mem hi
    exact ((mem_allP (by omega)).1 (hsubM _ h9)).1
  have hcl := clone_any A c0 cs _ (hl.1.below hb0) (by omega)
  have hex := fun (W : World) (h : Below w.heap.size w W) => examplesOf_impl n cs M hFO _ W (hX.below h)
  rw [exsR_yes hor] at hex
  have hso := fun (W : World) (A' : Option Addr) (c' : Nat) (hA' : IntsAt W A' (restL cs c)) (B9 : Option Addr) (d9 : Nat) (hB : RowsIn W (.slice B9 (exsL cs M).length d9) (exsL cs M)) => setOfTuples_any n hn (restL cs c) hr3 (exsL cs M) (by rw [exsL_len]; omega) hen A' B9 c' d9 W hA' hB
  rw [show thoseL n (restL cs c).length (patsL (restL cs c) (exsL cs M)) = fewM n cs M c from rfl] at hso
  have hec := fun (W : World) (h : Below w.heap.size w W) A7 c7 B7 d7 (hA7 : IntsAt W A7 (restL cs c)) (hB7 : RowsIn W (.slice B7 (fewM n cs M c).length d7) (fewM n cs M c)) => extendedCodes_any n hn (restL cs c) hr3 (fewM n cs M c) (by omega) cs hk3 hsubF A7 B7 A c7 d7 c0 W hA7 hB7 (hl.1.below h)
  have hco := fun (W : World) (h : Below w.heap.size w W) => codesOf_any B d M W (hmr.below h) (by omega) hdg
  have hEQ := fun W => run_eql_tab (tabOf (extL n (restL cs c) (fewM n cs M c) cs)) (tabOf M) W
  rw [keep_tab c hn hc hM] at hEQ
  unfold TabP at hec hco
  have HB0 := Lib.hid hb0
  have HK0 := Lib.hid k0
  have HK1 := Lib.hid k1
  have HK2 := Lib.hid k2
  have HREST : Hid (cs.filter (fun a => !(a == c)) = restL cs c) := Lib.hid rfl
  have HPOS := Lib.hid hpos
  clear hl hmr hm k0 k1 k2 hX hb0 hfit hFO hor hsubM hsubF hfitF hdg hen hM hc hr3
  generalize tabV (tabOf (extL n (restL cs c) (fewM n cs M c) cs)) = t1 at *
  generalize tabV (tabOf M) = t2 at *
  generalize keepB n cs M c = kb at *
  generalize fewM n cs M c = fs at *
  generalize restL cs c = rs at *
  generalize exsL cs M = E at *
  have eg : ∀ args w, (callFunc 145 args).run Try.prog w = .ok (.enter 145 args) w := enters_of Try.func145 (by kernel_rfl) rfl
  go_enter Try.func106, Try.ntmps106
  go_wp2_with fail
  (with_reducible refine hcl.mono ?_)
  rintro e w2 ⟨v2, rfl, ho2, hb2⟩
  clear b0 b1 b2 hcl
  have ho' : w2.ownsRow (((w.alloc (.cells #[.int .i64 (n : Int), .slice A cs.length c0, .slice B M.length d] 29)).alloc (.cells #[.int .i64 c] 3)).alloc (.cells #[.int .i64 0, .slice none 0 0, .slice none 0 0] 29)).heap.size 3 1 v2 cs.length (cs.map (Value.int .i64)) := ho2
  obtain ⟨g, cap, rfl, hbg, hgs, hnc, _, _, hH⟩ := Lib.holds_of_ownsRow ho' (fun e => by
    rcases ho2.2 with ⟨_, h0⟩ | ⟨g, cap, cur, e2, _⟩
    · omega
    · rw [e] at e2; cases e2)
  have hsz0 : (((w.alloc (.cells #[.int .i64 (n : Int), .slice A cs.length c0, .slice B M.length d] 29)).alloc (.cells #[.int .i64 c] 3)).alloc (.cells #[.int .i64 0, .slice none 0 0, .slice none 0 0] 29)).heap.size = w.heap.size + 3 := by simp
  rw [hsz0] at hbg
  have hbz2 := HB0.out.trans (hb2.mono HB0.out.size)
  have kk0 := (hb2.block _ (OrbK.box_lt HK0.out)).trans HK0.out
  have kk1 := (hb2.block _ (OrbK.box_lt HK1.out)).trans HK1.out
  have kk2 := (hb2.block _ (OrbK.box_lt HK2.out)).trans HK2.out
  have hc1 : w2.cell? ⟨w.heap.size + 1, 0, none⟩ = some (.int .i64 c) := by rw [cell_of_row w2 _ _ _ _ _ kk1]; rfl
  have hlt1 := OrbK.box_lt kk1
  have hdel := AnyE.slices_DeleteFunc Try.delInts (Value.int .i64) (fun _ => rfl) (fun x => x == c) 145 #[.pointer (some ⟨w.heap.size + 1, 0, none⟩)] eg 0 Try.zeroValue3 g 0 cap cs.toArray w2
    (wo_pred c (w.heap.size + 1) _ hlt1 hc1) (wo_over c (w.heap.size + 1) g 0 _ _ hlt1 (by omega) hc1) hH (by rw [List.size_toArray]; omega) (by rw [List.size_toArray]; exact hnc)
  change Calls Try.prog 144 _ _ _ at hdel
  rw [List.size_toArray] at hdel
  have hle := List.length_filter_le (fun x => !(x == c)) cs
  have hfl : (cs.toArray.toList.filter fun x => !(x == c)) = (cs.filter fun x => !(x == c)) := rfl
  rw [hfl] at hdel
  rw [HREST.out] at hdel hle
  have HO := Lib.hid (fun q7 => Lib.ownsRow_putRow (q := q7) (k := rs.length) (ys := rs ++ List.replicate (cs.length - rs.length) 0) ho' (by rw [List.length_append, List.length_replicate]; omega) hle)
  have HB := Lib.hid (fun q7 => wo_putRow (B := w.heap.size + 3) (q := q7) (d := (rs ++ List.replicate (cs.length - rs.length) 0).toArray) (Below.refl _ w2) (show w.heap.size + 3 ≤ g by omega))
  clear ho2 ho' hH hc1 eg hfl hb2 kk1 hlt1
  go_wp2_with fail
  refine hdel.mono ?_
  rintro e w7 ⟨rfl, q7, rfl⟩
  have ho7 := HO.out q7
  rw [List.take_left] at ho7
  have hb3 := HB.out q7
  generalize putRow (Value.int .i64) (Sort.ahead w2 q7) g 0 (rs ++ List.replicate (cs.length - rs.length) 0).toArray = w3 at ho7 hb3 ⊢
  have hIR : Hid (IntsAt w3 (some ⟨g, 0, none⟩) rs) := Lib.hid (ints_own ho7)
  have K3 := Lib.hid ((hb3.block w.heap.size (by omega)).trans kk0)
  have R3 := Lib.hid ((hb3.block (w.heap.size + 1 + 1) (by omega)).trans kk2)
  have HBZ : Hid (Below w.heap.size w w3) := Lib.hid (hbz2.trans (hb3.mono (by omega)))
  have hltk := OrbK.box_lt K3.out
  have hltr := OrbK.box_lt R3.out
  obtain ⟨b0, b1, b2⟩ := OrbK.row3 K3.out
  have HS : Hid (∀ W : World, Below w3.heap.size w3 W → W.cell? ⟨w.heap.size, 0, none⟩ = some (.int .i64 (n : Int)) ∧ W.cell? ⟨w.heap.size, 1, none⟩ = some (.slice A cs.length c0) ∧ W.cell? ⟨w.heap.size, 2, none⟩ = some (.slice B M.length d)) :=
    Lib.hid (fun W h => ⟨(h.cell (p := ⟨w.heap.size, 0, none⟩) hltk).trans b0, (h.cell (p := ⟨w.heap.size, 1, none⟩) hltk).trans b1, (h.cell (p := ⟨w.heap.size, 2, none⟩) hltk).trans b2⟩)
  have HQ : Hid (∀ W : World, Below w3.heap.size w3 W → W.heap[w.heap.size + 1 + 1]? = some (.cells #[.int .i64 0, .slice none 0 0, .slice none 0 0] 29 (0, 0))) := Lib.hid (fun W h => (h.block _ hltr).trans R3.out)
  have hexw := fun (W : World) (h : Below w3.heap.size w3 W) => hex W (HBZ.out.trans (h.mono HBZ.out.size))
  have hecw := fun (W : World) (h : Below w3.heap.size w3 W) A7 c7 B7 d7 h1 h2 => hec W (HBZ.out.trans (h.mono HBZ.out.size)) A7 c7 B7 d7 h1 h2
  have hcow := fun (W : World) (h : Below w3.heap.size w3 W) => hco W (HBZ.out.trans (h.mono HBZ.out.size))
  have hsow := fun (W : World) (h : Below w3.heap.size w3 W) (B9 : Option Addr) (d9 : Nat) (hB : RowsIn W (.slice B9 E.length d9) E) => hso W (some ⟨g, 0, none⟩) cap (hIR.out.below h) B9 d9 hB
  clear hex hec hco hso hdel HO HB hb3 kk0 kk2 hbz2 ho7 b0 b1 b2 HB0 HK0 HK1 HK2 hltk
  try go_wp2_with fail
  go_cut [7] (fun s wx => OrbQ.Rel w3 n rs fs s wx)
  case first =>
    have hz0 : Below w3.heap.size w3 w3.drew := grow_drew (Below.refl _ _)
    have hz1 : Below w3.heap.size w3 (w3.alloc (.cells #[.int .i64 0, .slice none 0 0, .slice none 0 0] 29)).drew := grow_drew (grow_alloc (Below.refl _ _) _)
    have hx0 := hexw _ hz0
    have hx1 := hexw _ hz1
    have zk0 := heap_alloc_new w3 (.cells #[.int .i64 0, .slice none 0 0, .slice none 0 0] 29)
    go_region_held3 (fun w' => w'.cell? ⟨w.heap.size, 0, none⟩ = some (.int .i64 (n : Int)) ∧ w'.cell? ⟨w.heap.size, 1, none⟩ = some (.slice A cs.length c0) ∧ w'.cell? ⟨w.heap.size, 2, none⟩ = some (.slice B M.length d))
      ((refine HS.out _ ?_; (repeat (first | assumption | refine grow_drew ?_ | refine grow_alloc ?_ _ | refine grow_set ?_ (by omega) _ | exact Below.refl _ _))))
      (first
      | (go_at_call 91; (with_reducible refine hx0.mono ?_); rintro e wa ⟨vE, SE, rfl, hSE, hSEb, hba⟩; have fra := hz0.trans (hba.mono hz0.size); have sza := fra.size; obtain ⟨BE, dE, hBE⟩ := RowsIn.form (ls := E) hSE.at_; subst hBE; have hRE : RowsIn wa (.slice BE E.length dE) E := hSE.at_; have hab := grow_alloc (Below.refl wa.heap.size wa) (.cells #[.int .i64 0, .slice none 0 0, .slice none 0 0] 29); have h20 := hsow wa fra BE dE hRE; have h21 := hsow (wa.alloc (.cells #[.int .i64 0, .slice none 0 0, .slice none 0 0] 29)) (grow_alloc fra _) BE dE (hRE.below hab); have zka := heap_alloc_new wa (.cells #[.int .i64 0, .slice none 0 0, .slice none 0 0] 29))
      | (go_at_call 91; (with_reducible refine hx1.mono ?_); rintro e wa ⟨vE, SE, rfl, hSE, hSEb, hba⟩; have fra := hz1.trans (hba.mono hz1.size); have sza := fra.size; obtain ⟨BE, dE, hBE⟩ := RowsIn.form (ls := E) hSE.at_; subst hBE; have hRE : RowsIn wa (.slice BE E.length dE) E := hSE.at_; have zkb := (hba.block w3.heap.size (OrbK.box_lt zk0)).trans zk0; have h20 := hsow wa fra BE dE hRE)
      | (go_at_call 73; (with_reducible refine h20.mono ?_); rintro e wb ⟨Aw, cw, Bw, dw, Sw, rfl, hLw, hSw, hbb⟩; have frb := fra.trans (hbb.mono fra.size); have szb := frb.size; (try (have zkc := (hbb.block _ (OrbK.box_lt zkb)).trans zkb; obtain ⟨qb0, qb1, qb2⟩ := OrbK.row3 zkc; obtain ⟨yb0, yb1, yb2⟩ := z3At zkc)))
      | (go_at_call 73; (with_reducible refine h21.mono ?_); rintro e wb ⟨Aw, cw, Bw, dw, Sw, rfl, hLw, hSw, hbb⟩; have frb := (grow_alloc fra (.cells #[.int .i64 0, .slice none 0 0, .slice none 0 0] 29)).trans (hbb.mono (grow_alloc fra (.cells #[.int .i64 0, .slice none 0 0, .slice none 0 0] 29)).size); have szb := frb.size; have zkd := (hbb.block _ (OrbK.box_lt zka)).trans zka; obtain ⟨qb0, qb1, qb2⟩ := OrbK.row3 zkd; obtain ⟨yb0, yb1, yb2⟩ := z3At zkd)
      | fail)
    all_goals
      go_wp2_with fail
      go_meet
      first
        | exact OrbQ.rel_set zkc hLw (fun b hb => Nat.le_trans sza (hSw b hb)) (fun b hb e => by have h1 := hSw b hb; have h2 := OrbK.box_lt zkb; omega) (Nat.le_refl _) frb
        | exact OrbQ.rel_set zkd hLw (fun b hb => by have h1 := hSw b hb; rw [World.size_alloc] at h1; omega) (fun b hb e => by have h1 := hSw b hb; rw [World.size_alloc] at h1; omega) sza frb
        | exact OrbQ.rel_new hLw (fun b hb => Nat.le_trans sza (hSw b hb)) frb
  case rest =>
    obtain ⟨g7, A7, c7, B7, d7, S7, rfl, hg7, hL7, hgS7, hS7b, hg7b, hbc⟩ := hcut
    have hp7 := orb_parts hL7
    have hlt7 := OrbK.box_lt hg7
    obtain ⟨p0, p1, p2⟩ := OrbK.row3 hg7
    have HS3 : Hid (∀ W : World, Below wc.heap.size wc W → (W.cell? ⟨g7, 0, none⟩ = some (.int .i64 (n : Int)) ∧ W.cell? ⟨g7, 1, none⟩ = some (.slice A7 rs.length c7) ∧ W.cell? ⟨g7, 2, none⟩ = some (.slice B7 fs.length d7)) ∧ W.cell? ⟨w.heap.size, 1, none⟩ = some (.slice A cs.length c0) ∧ W.cell? ⟨w.heap.size, 2, none⟩ = some (.slice B M.length d)) :=
      Lib.hid (fun W h => by
        obtain ⟨_, q1, q2⟩ := HS.out W (hbc.trans (h.mono hbc.size))
        exact ⟨⟨(h.cell (p := ⟨g7, 0, none⟩) hlt7).trans p0, (h.cell (p := ⟨g7, 1, none⟩) hlt7).trans p1, (h.cell (p := ⟨g7, 2, none⟩) hlt7).trans p2⟩, q1, q2⟩)
    have hdw : Below wc.heap.size wc wc.drew := grow_drew (Below.refl _ _)
    have hE0 := hecw wc.drew (hbc.trans (hdw.mono hbc.size)) A7 c7 B7 d7 (hp7.1.1.below hdw) (hp7.2.below hdw)
    have HCW := Lib.hid (fun (W : World) (h : Below wc.heap.size wc W) => hcow W (hbc.trans (h.mono hbc.size)))
    have hEQ2 := fun W => hEQ W
    have hGD : Try.prog.eqGuardType Try.prog.depth 72 = false := by kernel_rfl
    obtain ⟨⟨f0, f1, f2⟩, f3, f4⟩ := HS3.out wc.drew hdw
    have HQ3 : Hid (∀ W : World, Below wc.heap.size wc W → W.heap[w.heap.size + 1 + 1]? = some (.cells #[.int .i64 0, .slice none 0 0, .slice none 0 0] 29 (0, 0))) := Lib.hid (fun W h => HQ.out W (hbc.trans (h.mono hbc.size)))
    have HL7 := Lib.hid hL7
    have HFIN := Lib.hid (fun (W : World) (h : Below wc.heap.size wc W) => orbB_of kb (orb_pass (r := w.heap.size + 1 + 1) (hL7.alike (w' := W) fun b hb => h.block b (hL7.lt b hb)) (HBZ.out.trans ((hbc.trans (h.mono hbc.size)).mono HBZ.out.size)) (show w.heap.size ≤ w.heap.size + 1 + 1 by omega) (fun b hb => by have h1 := hS7b b hb; have h2 := HBZ.out.size; exact ⟨by omega, by omega⟩)))
    have ne7 : g7 ≠ w.heap.size + 1 + 1 := by omega
    have ne0 : w.heap.size ≠ w.heap.size + 1 + 1 := by omega
    clear hL7 hgS7 hS7b hp7 hecw hcow hexw hsow HS HQ p0 p1 p2 hIR K3 R3
    try go_wp2_with fail
    go_region_held3 (fun w' => (w'.cell? ⟨g7, 0, none⟩ = some (.int .i64 (n : Int)) ∧ w'.cell? ⟨g7, 1, none⟩ = some (.slice A7 rs.length c7) ∧ w'.cell? ⟨g7, 2, none⟩ = some (.slice B7 fs.length d7)) ∧ w'.cell? ⟨w.heap.size, 1, none⟩ = some (.slice A cs.length c0) ∧ w'.cell? ⟨w.heap.size, 2, none⟩ = some (.slice B M.length d))
      (first | (with_reducible exact ⟨⟨by assumption, by assumption, by assumption⟩, by assumption, by assumption⟩) | (with_reducible exact ⟨⟨OrbQ.set3_keep (by assumption) (by assumption), OrbQ.set3_keep (by assumption) (by assumption), OrbQ.set3_keep (by assumption) (by assumption)⟩, OrbQ.set3_keep (by assumption) (by assumption), OrbQ.set3_keep (by assumption) (by assumption)⟩))
      (first
      | (go_at_call 80; (with_reducible refine hE0.mono ?_); rintro e w5 ⟨rfl, hb5⟩; have fr5 := hdw.trans (hb5.mono hdw.size); obtain ⟨⟨j0, j1, j2⟩, j3, j4⟩ := HS3.out w5 fr5; have hcq := HCW.out w5 fr5)
      | (go_at_call 93; (with_reducible refine hcq.mono ?_); rintro e w6 ⟨rfl, hb6⟩; have fr6 := fr5.trans (hb6.mono fr5.size); obtain ⟨⟨i0, i1, i2⟩, i3, i4⟩ := HS3.out w6 fr6; have hr2 := HQ3.out w6 fr6; obtain ⟨x0, x1, x2⟩ := OrbK.row3 hr2; obtain ⟨y0, y1, y2⟩ := z3At hr2; have hEQ3 := hEQ w6; have hpost := HFIN.out w6 fr6)
      | fail)
    clear f0 f1 f2 f3 f4 j0 j1 j2 j3 j4 i0 i1 i2 i3 i4 hE0 hcq fr5 fr6 hb5 hb6 HS3 HQ3 HCW HFIN hdw hr2 hEQ hEQ2 hEQ3
    go_wp2
    exact bodyPost_ret (v := .tuple #[.agg #[.int .i64 (n : Int), .slice A7 rs.length c7, .slice B7 fs.length d7], .bool kb]) (by simp [results, Try.results106, go_sem, x0, x1, x2]) rfl hpost
end Go.Proofs.Ytdbogjhkcnajkaa
end

section
namespace Go.Proofs.Ytdbogjhkcnajkaa
open Go.RowKit Go.Sort
set_option linter.unusedVariables false

/-- A box that holds a set of the call's own. -/
def RedBox (w : World) (lo g : Nat) (n : Int) (cs : List Int) (M : List (List Int)) : Prop :=
  ∃ A c B d S, w.heap[g]? = some (.cells #[.int .i64 n, .slice A cs.length c, .slice B M.length d] 29 (0, 0)) ∧ OwnL w S [.int .i64 n, .slice A cs.length c, .slice B M.length d] (encO n cs M) ∧ g ∉ S ∧ ∀ b ∈ S, lo ≤ b

set_option maxRecDepth 100000 in
set_option maxHeartbeats 8000000 in
theorem reduced_impl (z : Int) (l : List Int) (m : List (List Int)) (hf : FitO l m) (x : Value) (w : World) (hx : OrbIx w x z l m) :
    Calls Try.prog 51 #[x] w (OrbOut (ozR (orbB z l m) z) (olR (orbB z l m) (redCz z l m)) (omR (orbB z l m) (redMz z l m)) w) := by
  have hX := hx
  obtain ⟨A, c, B, d, rfl, hl, hmr, hm⟩ := hx
  have hb0 : Below w.heap.size w ((w.alloc (.cells #[.int .i64 z, .slice A l.length c, .slice B m.length d] 29)).alloc (.cells #[.int .i64 0, .slice none 0 0, .slice none 0 0] 29)) := ((Below.refl _ _).alloc (Nat.le_refl _) _).alloc (by simp) _
  have k0 : ((w.alloc (.cells #[.int .i64 z, .slice A l.length c, .slice B m.length d] 29)).alloc (.cells #[.int .i64 0, .slice none 0 0, .slice none 0 0] 29)).heap[w.heap.size]? = some (.cells #[.int .i64 z, .slice A l.length c, .slice B m.length d] 29 (0, 0)) := (Below.heap_alloc _ _ _ (by simp)).trans (heap_alloc_new w _)
  have k1 : ((w.alloc (.cells #[.int .i64 z, .slice A l.length c, .slice B m.length d] 29)).alloc (.cells #[.int .i64 0, .slice none 0 0, .slice none 0 0] 29)).heap[w.heap.size + 1]? = some (.cells #[.int .i64 0, .slice none 0 0, .slice none 0 0] 29 (0, 0)) := by
    have h := heap_alloc_new (w.alloc (.cells #[.int .i64 z, .slice A l.length c, .slice B m.length d] 29)) (.cells #[.int .i64 0, .slice none 0 0, .slice none 0 0] 29)
    rw [World.size_alloc] at h
    exact h
  obtain ⟨b0, b1, b2⟩ := OrbK.row3 k0
  have hio := isOrbitSet_impl z l m hf _ _ (hX.below hb0)
  have HB0 := Lib.hid hb0
  have HK0 := Lib.hid k0
  have HK1 := Lib.hid k1
  cases ho : orbB z l m with
  | false =>
    rw [ho] at hio
    clear hl hmr hm k0 k1 hX ho hb0
    go_enter Try.func51, Try.ntmps51
    go_wp2_with (go_at_call 77; (with_reducible refine hio.mono ?_); rintro e w2 ⟨rfl, hb2⟩; have hr2 := (hb2.block _ (OrbK.box_lt HK1.out)).trans HK1.out; obtain ⟨x0, x1, x2⟩ := OrbK.row3 hr2; obtain ⟨y0, y1, y2⟩ := z3At hr2)
    have hbz := HB0.out.trans (hb2.mono HB0.out.size)
    clear hio hb2 b0 b1 b2 hr2 HB0 HK0 HK1
    have hpost := orb_zero (((hbz.setCell (p := ⟨w.heap.size + 1, 0, none⟩) (Nat.le_succ _) (.int .i64 0)).setCell (p := ⟨w.heap.size + 1, 1, none⟩) (Nat.le_succ _) (.slice none 0 0)).setCell (p := ⟨w.heap.size + 1, 2, none⟩) (Nat.le_succ _) (.slice none 0 0))
    go_wp2
    exact bodyPost_ret (v := .agg #[.int .i64 0, .slice none 0 0, .slice none 0 0]) (by simp [results, Try.results51, go_sem, x0, x1, x2]) rfl hpost
  | true =>
    rw [ho] at hio
    have hcl := orb_const ho
    obtain ⟨hwz, hro⟩ := orb_rows ho
    have hz4 := widB_iff.1 hwz
    have hk3 := const_len hcl
    obtain ⟨n, rfl⟩ : ∃ n : Nat, z = n := ⟨z.toNat, by omega⟩
    have hn4 : n ≤ 4 := by omega
    have hmm := orb_mem ho
    have hdg : ∀ i, i < m.length → (rwAt m i).length ≤ 4 ∧ digP (rwAt m i) := fun i hi => by
      have h9 : rwAt m i ∈ m := by rw [rwAt_get _ _ hi]; exact List.getElem_mem hi
      have h1 := dig_allP (k := (l.length : Int)) (by omega) (by omega) hn4 (hmm _ h9)
      exact ⟨by omega, h1.2⟩
    have hcw := fun (W : World) (h : Below w.heap.size w W) => codesOf_any B d m W (hmr.below h) (by have := hf.2.1; omega) hdg
    have hso := fun (W : World) (h : Below w.heap.size w W) => setOfCodes_any (tabOf m) n hn4 l (by omega) A c W (hl.1.below h)
    rw [patsOf_tabOf (k := (l.length : Int)) (by omega) (by omega) hn4 hmm] at hso
    unfold TabP at hcw
    have HINV := Lib.hid (redF_inv (n := n) (m := m) hcl)
    have HNX := Lib.hid (fun k (hk : k < l.length) => redF_next (n := n) (m := m) hk)
    have HR0 := Lib.hid (redF_zero n l m)
    have HRE : Hid ((redF n l m l.length).1 = redCz n l m ∧ (redF n l m l.length).2 = redMz n l m) := Lib.hid (by unfold redCz redMz redC redM; rw [show ((n : Int).toNat) = n by omega]; exact ⟨rfl, rfl⟩)
    have HLX := Lib.hid hl.1
    clear hl hmr hm k0 k1 hX ho hb0 hro hwz hz4 hmm hdg hcl
    generalize tabV (tabOf m) = t1 at *
    generalize thoseL n l.length m = M0 at *
    go_enter Try.func51, Try.ntmps51
    go_wp2_with (go_at_call 77; (with_reducible refine hio.mono ?_); rintro e w2 ⟨rfl, hb2⟩; have k2 := (hb2.block _ (OrbK.box_lt HK0.out)).trans HK0.out; clear b0 b1 b2; obtain ⟨b0, b1, b2⟩ := OrbK.row3 k2)
    have HBZ := Lib.hid (HB0.out.trans (hb2.mono HB0.out.size))
    have K2 := Lib.hid k2
    have R2 := Lib.hid ((hb2.block _ (OrbK.box_lt HK1.out)).trans HK1.out)
    have hltk := OrbK.box_lt k2
    have HS : Hid (∀ W : World, Below w2.heap.size w2 W → W.cell? ⟨w.heap.size, 0, none⟩ = some (.int .i64 (n : Int)) ∧ W.cell? ⟨w.heap.size, 1, none⟩ = some (.slice A l.length c) ∧ W.cell? ⟨w.heap.size, 2, none⟩ = some (.slice B m.length d)) :=
      Lib.hid (fun W h => ⟨(h.cell (p := ⟨w.heap.size, 0, none⟩) hltk).trans b0, (h.cell (p := ⟨w.heap.size, 1, none⟩) hltk).trans b1, (h.cell (p := ⟨w.heap.size, 2, none⟩) hltk).trans b2⟩)
    have hcww := fun (W : World) (h : Below w2.heap.size w2 W) => hcw W (HBZ.out.trans (h.mono HBZ.out.size))
    have hsow := fun (W : World) (h : Below w2.heap.size w2 W) => hso W (HBZ.out.trans (h.mono HBZ.out.size))
    clear hio hb2 HK0 HK1 HB0 k2 b0 b1 b2 hcw hso hltk
    try go_wp2_with fail
    go_cut [3] (fun s wx => OrbQ.Rel w2 n l M0 s wx)
    case first =>
      have hz0 : Below w2.heap.size w2 w2.drew := grow_drew (Below.refl _ _)
      have hz1 : Below w2.heap.size w2 (w2.alloc (.cells #[.int .i64 0, .slice none 0 0, .slice none 0 0] 29)).drew := grow_drew (grow_alloc (Below.refl _ _) _)
      have hx0 := hcww _ hz0
      have hx1 := hcww _ hz1
      have zk0 := heap_alloc_new w2 (.cells #[.int .i64 0, .slice none 0 0, .slice none 0 0] 29)
      go_region_held3 (fun w' => w'.cell? ⟨w.heap.size, 0, none⟩ = some (.int .i64 (n : Int)) ∧ w'.cell? ⟨w.heap.size, 1, none⟩ = some (.slice A l.length c) ∧ w'.cell? ⟨w.heap.size, 2, none⟩ = some (.slice B m.length d))
        ((refine HS.out _ ?_; (repeat (first | assumption | refine grow_drew ?_ | refine grow_alloc ?_ _ | refine grow_set ?_ (by omega) _ | exact Below.refl _ _))))
        (first
        | (go_at_call 93; (with_reducible refine hx0.mono ?_); rintro e wa ⟨rfl, hba⟩; have fra := hz0.trans (hba.mono hz0.size); have sza := fra.size; have h20 := hsow wa fra; have h21 := hsow (wa.alloc (.cells #[.int .i64 0, .slice none 0 0, .slice none 0 0] 29)) (grow_alloc fra _); have zka := heap_alloc_new wa (.cells #[.int .i64 0, .slice none 0 0, .slice none 0 0] 29))
        | (go_at_call 93; (with_reducible refine hx1.mono ?_); rintro e wa ⟨rfl, hba⟩; have fra := hz1.trans (hba.mono hz1.size); have sza := fra.size; have zkb := (hba.block w2.heap.size (OrbK.box_lt zk0)).trans zk0; have h20 := hsow wa fra)
        | (go_at_call 79; (with_reducible refine h20.mono ?_); rintro e wb ⟨Aw, cw, Bw, dw, Sw, rfl, hLw, hSw, hbb⟩; have frb := fra.trans (hbb.mono fra.size); have szb := frb.size; (try (have zkc := (hbb.block _ (OrbK.box_lt zkb)).trans zkb; obtain ⟨qb0, qb1, qb2⟩ := OrbK.row3 zkc; obtain ⟨yb0, yb1, yb2⟩ := z3At zkc)))
        | (go_at_call 79; (with_reducible refine h21.mono ?_); rintro e wb ⟨Aw, cw, Bw, dw, Sw, rfl, hLw, hSw, hbb⟩; have frb := (grow_alloc fra (.cells #[.int .i64 0, .slice none 0 0, .slice none 0 0] 29)).trans (hbb.mono (grow_alloc fra (.cells #[.int .i64 0, .slice none 0 0, .slice none 0 0] 29)).size); have szb := frb.size; have zkd := (hbb.block _ (OrbK.box_lt zka)).trans zka; obtain ⟨qb0, qb1, qb2⟩ := OrbK.row3 zkd; obtain ⟨yb0, yb1, yb2⟩ := z3At zkd)
        | fail)
      all_goals
        go_wp2_with fail
        go_meet
        first
          | exact OrbQ.rel_set zkc hLw (fun b hb => Nat.le_trans sza (hSw b hb)) (fun b hb e => by have h1 := hSw b hb; have h2 := OrbK.box_lt zkb; omega) (Nat.le_refl _) frb
          | exact OrbQ.rel_set zkd hLw (fun b hb => by have h1 := hSw b hb; rw [World.size_alloc] at h1; omega) (fun b hb e => by have h1 := hSw b hb; rw [World.size_alloc] at h1; omega) sza frb
          | exact OrbQ.rel_new hLw (fun b hb => Nat.le_trans sza (hSw b hb)) frb
    case rest =>
      obtain ⟨g7, A7, c7, B7, d7, S7, rfl, hg7, hL7, hgS7, hS7b, hg7b, hbc⟩ := hcut
      have RB0 : Hid (RedBox wc w2.heap.size g7 n (redF n l m 0).1 (redF n l m 0).2) := by
        rw [HR0.out]
        exact Lib.hid ⟨A7, c7, B7, d7, S7, hg7, hL7, hgS7, hS7b⟩
      obtain ⟨q0, q1, q2⟩ := HS.out wc hbc
      clear hg7 hL7 hgS7 hS7b hcww hsow HR0
      go_wp2
      clear q0 q1 q2
      go_loopw [5, 6, 7, 23] (fun _ _ _ i wr => ∃ k : Nat, k ≤ l.length ∧ i = .int .i64 k ∧ Hid (RedBox wr w2.heap.size g7 n (redF n l m k).1 (redF n l m k).2) ∧ Below w2.heap.size w2 wr ∧ g7 < wr.heap.size) (fun _ _ _ i _ => l.length - (intOf i).toNat)
      case atStart => exact ⟨0, Nat.zero_le _, rfl, RB0, hbc, by obtain ⟨_, _, _, _, _, h, _⟩ := RB0.out; exact OrbK.box_lt h⟩
      case round =>
        clear RB0 hbc
        obtain ⟨k, hk, rfl, hR, hb, hgl⟩ := hrel
        obtain ⟨hc, hM, hin⟩ := HINV.out k hk
        by_cases hlt : k < l.length
        · obtain ⟨b1, o1, rfl, hb1, hc1⟩ := (HLX.out.below (HBZ.out.trans (hb.mono HBZ.out.size))) (by omega)
          have cl := hc1 k hlt
          have hcin := hin k (Nat.le_refl _) hlt
          have hnx := Lib.hid (HNX.out k hlt)
          clear hc1 hin
          generalize hs1 : redF n l m (k + 1) = s1 at hnx ⊢
          have HS1 := Lib.hid hs1
          clear hs1
          generalize redF n l m k = s at *
          obtain ⟨cs, M⟩ := s
          generalize itAt l k = a at *
          obtain ⟨Ab, cb, Bb, db, Sb, hbox, hLb, hgSb, hSbb⟩ := hR.out
          have hpos : 0 < cs.length := List.length_pos_of_mem hcin
          have hwo := without_any n hn4 cs hc hpos M hM a _ wr (orbOut_ix hLb)
          have hst : Hid (s1 = if keepB n cs M a then (restL cs a, fewM n cs M a) else (cs, M)) := hnx
          obtain ⟨p0, p1, p2⟩ := OrbK.row3 hbox
          obtain ⟨y0, y1, y2⟩ := z3At hbox
          have HBOX := Lib.hid hbox
          have HLB := Lib.hid hLb
          have HSB : Hid (g7 ∉ Sb ∧ ∀ b ∈ Sb, w2.heap.size ≤ b) := Lib.hid ⟨hgSb, hSbb⟩
          clear hbox hLb hgSb hSbb hnx hc hM hcin hpos hR
          cases hkb : keepB n cs M a with
          | true =>
            rw [hkb] at hwo
            have hst2 : Hid (s1 = (restL cs a, fewM n cs M a)) := by rw [hst.out, hkb]; exact Lib.hid rfl
            clear hst hkb
            generalize restL cs a = rs at *
            generalize fewM n cs M a = fs at *
            go_wp2_with fail
            (with_reducible refine hwo.mono ?_)
            rintro e w4 ⟨A4, c4, B4, d4, S4, rfl, hL4, hS4, hb4⟩
            have hbx : Below w4.heap.size w4 (w4.alloc (.cells #[.int .i64 (n : Int), .slice A4 rs.length c4, .slice B4 fs.length d4] 29)) := (Below.refl _ _).alloc (Nat.le_refl _) _
            have h44 := hb4.trans (hbx.mono hb4.size)
            have hbox4 := (h44.block _ hgl).trans HBOX.out
            clear p0 p1 p2 y0 y1 y2
            obtain ⟨p0, p1, p2⟩ := OrbK.row3 hbox4
            obtain ⟨y0, y1, y2⟩ := z3At hbox4
            have hL5 := hL4.alike (w' := (w4.alloc (.cells #[.int .i64 (n : Int), .slice A4 rs.length c4, .slice B4 fs.length d4] 29))) fun b hb => hbx.block b (hL4.lt b hb)
            have on3 := OrbQ.set3_only (w4.alloc (.cells #[.int .i64 (n : Int), .slice A4 rs.length c4, .slice B4 fs.length d4] 29)) g7 (.int .i64 (n : Int)) (.slice A4 rs.length c4) (.slice B4 fs.length d4)
            have hne4 : ∀ b ∈ S4, b ≠ g7 := fun b hb e => by have := hS4 b hb; omega
            have hRB : Hid (RedBox ((((w4.alloc (.cells #[.int .i64 (n : Int), .slice A4 rs.length c4, .slice B4 fs.length d4] 29)).setCell ⟨g7, 0, none⟩ (.int .i64 (n : Int))).setCell ⟨g7, 1, none⟩ (.slice A4 rs.length c4)).setCell ⟨g7, 2, none⟩ (.slice B4 fs.length d4)) w2.heap.size g7 n s1.1 s1.2) := by
              rw [hst2.out]
              exact Lib.hid ⟨A4, c4, B4, d4, S4, OrbQ.set3_box hbox4 (.int .i64 (n : Int)) (.slice A4 rs.length c4) (.slice B4 fs.length d4), hL5.alike fun b hb => on3.block b (hL5.lt b hb) (by have := hne4 b hb; simpa using this), fun h => hne4 g7 h rfl, fun b hb' => by have := hS4 b hb'; have := hb.size; omega⟩
            have hbn := (((hb.trans (h44.mono hb.size)).setCell (p := ⟨g7, 0, none⟩) hg7b (.int .i64 (n : Int))).setCell (p := ⟨g7, 1, none⟩) hg7b (.slice A4 rs.length c4)).setCell (p := ⟨g7, 2, none⟩) hg7b (.slice B4 fs.length d4)
            have hgn := Nat.lt_of_lt_of_le hgl (Nat.le_trans h44.size on3.size)
            clear hwo hL4 hS4 hb4 hbx h44 hbox4 hL5 on3 hne4 hb HBOX HLB HSB hst2 cl
            go_wp2
            refine ⟨⟨k + 1, by omega, by go_num, by rw [HS1.out]; exact hRB, hbn, hgn⟩, ?_⟩
            simp only [intOf]
            omega
          | false =>
            rw [hkb] at hwo
            have hst2 : Hid (s1 = (cs, M)) := by rw [hst.out, hkb]; exact Lib.hid rfl
            clear hst hkb
            generalize restL cs a = rs at *
            generalize fewM n cs M a = fs at *
            go_wp2_with fail
            (with_reducible refine hwo.mono ?_)
            rintro e w4 ⟨A4, c4, B4, d4, S4, rfl, hL4, hS4, hb4⟩
            have hbx : Below w4.heap.size w4 (w4.alloc (.cells #[.int .i64 (n : Int), .slice A4 rs.length c4, .slice B4 fs.length d4] 29)) := (Below.refl _ _).alloc (Nat.le_refl _) _
            have h44 := hb4.trans (hbx.mono hb4.size)
            have hRB : Hid (RedBox (w4.alloc (.cells #[.int .i64 (n : Int), .slice A4 rs.length c4, .slice B4 fs.length d4] 29)) w2.heap.size g7 n s1.1 s1.2) := by
              rw [hst2.out]
              exact Lib.hid ⟨Ab, cb, Bb, db, Sb, (h44.block _ hgl).trans HBOX.out, HLB.out.alike fun b hb => h44.block b (HLB.out.lt b hb), HSB.out.1, HSB.out.2⟩
            have hbn := hb.trans (h44.mono hb.size)
            have hgn := Nat.lt_of_lt_of_le hgl h44.size
            clear hwo hL4 hS4 hb4 hbx h44 hb HBOX HLB HSB hst2 cl p0 p1 p2 y0 y1 y2
            go_wp2
            refine ⟨⟨k + 1, by omega, by go_num, by rw [HS1.out]; exact hRB, hbn, hgn⟩, ?_⟩
            simp only [intOf]
            omega
        · have e : k = l.length := by omega
          subst e
          rw [HRE.out.1, HRE.out.2] at hR
          generalize redCz n l m = cs at *
          generalize redMz n l m = M at *
          obtain ⟨Ab, cb, Bb, db, Sb, hbox, hLb, hgSb, hSbb⟩ := hR.out
          obtain ⟨p0, p1, p2⟩ := OrbK.row3 hbox
          have hq := (hb.block _ (OrbK.box_lt R2.out)).trans R2.out
          have hltq := OrbK.box_lt R2.out
          obtain ⟨x0, x1, x2⟩ := OrbK.row3 hq
          obtain ⟨y0, y1, y2⟩ := z3At hq
          have ne7 : g7 ≠ w.heap.size + 1 := by omega
          have hpost := orb_pass (r := w.heap.size + 1) hLb (HBZ.out.trans (hb.mono HBZ.out.size)) (Nat.le_succ _) (fun b h => by have h1 := hSbb b h; have h2 := HBZ.out.size; exact ⟨by omega, by omega⟩)
          clear hLb hgSb hSbb hb hR hc hM hin
          go_wp2
          exact bodyPost_ret (v := .agg #[.int .i64 (n : Int), .slice Ab cs.length cb, .slice Bb M.length db]) (by simp [results, Try.results51, go_sem, x0, x1, x2]) rfl hpost
end Go.Proofs.Ytdbogjhkcnajkaa
end

section
namespace Go.Proofs.Ytdbogjhkcnajkaa
open Go.RowKit Go.Sort
set_option linter.unusedVariables false

theorem ext_self {n : Nat} {l : List Int} {m : List (List Int)} (hn : n ≤ 4) (hl : constB l = true) : extL n l m l = thoseL n l.length m := by
  unfold extL thoseL
  refine List.filter_congr fun p hp => ?_
  unfold extG extQ
  rw [pat_exL (const_nodup hl) (const_len hl) hn hp]
/-- Whether the first rows are the same, and there are as many. -/
def sameTo (a b : List (List Int)) (q : Nat) : Bool := decide (a.length = b.length) && decide (a.take q = b.take q)
theorem sameTo_no {a b : List (List Int)} {q : Nat} (h : sameTo a b q = false) : decide (a = b) = false := by
  rw [decide_eq_false_iff_not]
  rintro rfl
  simp [sameTo] at h
theorem sameTo_all {a b : List (List Int)} (h : sameTo a b a.length = true) : decide (a = b) = true := by
  unfold sameTo at h
  simp only [Bool.and_eq_true, decide_eq_true_eq] at h
  rw [List.take_length, h.1, List.take_length] at h
  simpa using h.2
theorem sameTo_next {a b : List (List Int)} {q : Nat} (h : sameTo a b q = true) (hq : q < a.length) : sameTo a b (q + 1) = decide (rwAt a q = rwAt b q) := by
  unfold sameTo at h ⊢
  simp only [Bool.and_eq_true, decide_eq_true_eq] at h
  rw [rw_take_next hq, rw_take_next (by omega), h.2]
  simp [h.1]

set_option maxRecDepth 100000 in
set_option maxHeartbeats 8000000 in
theorem reduced_spec (z : Int) (l : List Int) (m : List (List Int)) (hf : FitO l m) (x : Value) (w : World) (hx : OrbIx w x z l m) :
    Calls Try.prog 50 #[x] w (OrbOut (ozR (orbB z l m) z) (olR (orbB z l m) (redCz z l m)) (omR (orbB z l m) (redMz z l m)) w) := by
  have hX := hx
  obtain ⟨A, c, B, d, rfl, hl, hmr, hm⟩ := hx
  have hb0 : Below w.heap.size w ((w.alloc (.cells #[.int .i64 z, .slice A l.length c, .slice B m.length d] 29)).alloc (.cells #[.int .i64 0, .slice none 0 0, .slice none 0 0] 29)) := ((Below.refl _ _).alloc (Nat.le_refl _) _).alloc (by simp) _
  have k0 : ((w.alloc (.cells #[.int .i64 z, .slice A l.length c, .slice B m.length d] 29)).alloc (.cells #[.int .i64 0, .slice none 0 0, .slice none 0 0] 29)).heap[w.heap.size]? = some (.cells #[.int .i64 z, .slice A l.length c, .slice B m.length d] 29 (0, 0)) := (Below.heap_alloc _ _ _ (by simp)).trans (heap_alloc_new w _)
  have k1 : ((w.alloc (.cells #[.int .i64 z, .slice A l.length c, .slice B m.length d] 29)).alloc (.cells #[.int .i64 0, .slice none 0 0, .slice none 0 0] 29)).heap[w.heap.size + 1]? = some (.cells #[.int .i64 0, .slice none 0 0, .slice none 0 0] 29 (0, 0)) := by
    have h := heap_alloc_new (w.alloc (.cells #[.int .i64 z, .slice A l.length c, .slice B m.length d] 29)) (.cells #[.int .i64 0, .slice none 0 0, .slice none 0 0] 29)
    rw [World.size_alloc] at h
    exact h
  obtain ⟨b0, b1, b2⟩ := OrbK.row3 k0
  have hio := isOrbitSet_spec z l m hf _ _ (hX.below hb0)
  have HB0 := Lib.hid hb0
  have HK0 := Lib.hid k0
  have HK1 := Lib.hid k1
  cases ho : orbB z l m with
  | false =>
    rw [ho] at hio
    clear hl hmr hm k0 k1 hX ho hb0
    go_enter Try.func50, Try.ntmps50
    go_wp2_with (go_at_call 74; (with_reducible refine hio.mono ?_); rintro e w2 ⟨rfl, hb2⟩; have hr2 := (hb2.block _ (OrbK.box_lt HK1.out)).trans HK1.out; obtain ⟨x0, x1, x2⟩ := OrbK.row3 hr2; obtain ⟨y0, y1, y2⟩ := z3At hr2)
    have hbz := HB0.out.trans (hb2.mono HB0.out.size)
    clear hio hb2 b0 b1 b2 hr2 HB0 HK0 HK1
    have hpost := orb_zero (((hbz.setCell (p := ⟨w.heap.size + 1, 0, none⟩) (Nat.le_succ _) (.int .i64 0)).setCell (p := ⟨w.heap.size + 1, 1, none⟩) (Nat.le_succ _) (.slice none 0 0)).setCell (p := ⟨w.heap.size + 1, 2, none⟩) (Nat.le_succ _) (.slice none 0 0))
    go_wp2
    exact bodyPost_ret (v := .agg #[.int .i64 0, .slice none 0 0, .slice none 0 0]) (by simp [results, Try.results50, go_sem, x0, x1, x2]) rfl hpost
  | true =>
    rw [ho] at hio
    have hcl := orb_const ho
    obtain ⟨hwz, hro⟩ := orb_rows ho
    have hz4 := widB_iff.1 hwz
    have hk3 := const_len hcl
    have hnd := const_nodup hcl
    obtain ⟨n, rfl⟩ : ∃ n : Nat, z = n := ⟨z.toNat, by omega⟩
    have hn4 : n ≤ 4 := by omega
    have hxt := fun (W : World) (h : Below w.heap.size w W) => l6Extend_any n hn4 l hk3 hnd m hf.2 l hk3 A B A c d c W (hl.below h) (hmr.below h) (hl.below h)
    rw [ext_self hn4 hcl] at hxt
    have HINV := Lib.hid (redF_inv (n := n) (m := m) hcl)
    have HNX := Lib.hid (fun k (hk : k < l.length) => redF_next (n := n) (m := m) hk)
    have HR0 := Lib.hid (redF_zero n l m)
    have HRE : Hid ((redF n l m l.length).1 = redCz n l m ∧ (redF n l m l.length).2 = redMz n l m) := Lib.hid (by unfold redCz redMz redC redM; rw [show ((n : Int).toNat) = n by omega]; exact ⟨rfl, rfl⟩)
    have HLX := Lib.hid hl.1
    clear hl hmr hm k0 k1 hX ho hb0 hro hwz hz4 hcl hnd
    generalize thoseL n l.length m = M0 at *
    go_enter Try.func50, Try.ntmps50
    go_wp2_with (first
      | (go_at_call 74; (with_reducible refine hio.mono ?_); rintro e w2 ⟨rfl, hb2⟩; have k2 := (hb2.block _ (OrbK.box_lt HK0.out)).trans HK0.out; clear b0 b1 b2; obtain ⟨b0, b1, b2⟩ := OrbK.row3 k2; have hxq := hxt w2 (HB0.out.trans (hb2.mono HB0.out.size)))
      | (go_at_call 76; (with_reducible refine hxq.mono ?_); rintro e w3 ⟨A7, c7, B7, d7, S7, rfl, hL7, hS7, hb3⟩; have hbx3 : Below w3.heap.size w3 (w3.alloc (.cells #[.int .i64 (n : Int), .slice A7 l.length c7, .slice B7 M0.length d7] 29)) := (Below.refl _ _).alloc (Nat.le_refl _) _; have h23 := hb3.trans (hbx3.mono hb3.size); have k3 := (h23.block _ (OrbK.box_lt k2)).trans k2; clear b0 b1 b2; obtain ⟨b0, b1, b2⟩ := OrbK.row3 k3))
    have HBZ := Lib.hid (HB0.out.trans (hb2.mono HB0.out.size))
    have R2 := Lib.hid ((hb2.block _ (OrbK.box_lt HK1.out)).trans HK1.out)
    have RB0 : Hid (RedBox (w3.alloc (.cells #[.int .i64 (n : Int), .slice A7 l.length c7, .slice B7 M0.length d7] 29)) w2.heap.size w3.heap.size n (redF n l m 0).1 (redF n l m 0).2) := by
      rw [HR0.out]
      exact Lib.hid ⟨A7, c7, B7, d7, S7, heap_alloc_new w3 _, hL7.alike fun b hb => hbx3.block b (hL7.lt b hb), fun h => by have := hL7.lt _ h; omega, hS7⟩
    have hg7b : w2.heap.size ≤ w3.heap.size := hb3.size
    obtain ⟨g7, hg7⟩ : ∃ g : Nat, g = w3.heap.size := ⟨_, rfl⟩
    rw [← hg7] at RB0 hg7b ⊢
    have HG7 := Lib.hid hg7
    have hgl0 : g7 < (w3.alloc (.cells #[.int .i64 (n : Int), .slice A7 l.length c7, .slice B7 M0.length d7] 29)).heap.size := by rw [hg7]; simp
    clear hio hxt hxq hb2 hb3 hbx3 HK0 HK1 HB0 k2 k3 b0 b1 b2 hL7 hS7 HR0 hg7
    generalize (w3.alloc (.cells #[.int .i64 (n : Int), .slice A7 l.length c7, .slice B7 M0.length d7] 29)) = W3 at *
    go_wp2
    go_loopw [5, 6, 7, 8, 9, 21] (fun _ _ _ _ _ i wr => ∃ k : Nat, k ≤ l.length ∧ i = .int .i64 k ∧ Hid (RedBox wr w2.heap.size g7 n (redF n l m k).1 (redF n l m k).2) ∧ Below w2.heap.size w2 wr ∧ g7 < wr.heap.size) (fun _ _ _ _ _ i _ => l.length - (intOf i).toNat)
    case atStart => exact ⟨0, Nat.zero_le _, rfl, RB0, h23, hgl0⟩
    case round =>
      clear RB0 h23 hgl0
      obtain ⟨k, hk, rfl, hR, hb, hgl⟩ := hrel
      obtain ⟨hc, hM, hin⟩ := HINV.out k hk
      by_cases hlt : k < l.length
      · obtain ⟨wo, rfl⟩ : ∃ x : World, x = wr := ⟨_, rfl⟩
        obtain ⟨b1, o1, rfl, hb1, hc1⟩ := (HLX.out.below (HBZ.out.trans (hb.mono HBZ.out.size))) (by omega)
        have cl := hc1 k hlt
        have hnx := Lib.hid (HNX.out k hlt)
        clear hc1 hin
        generalize hs1 : redF n l m (k + 1) = s1 at hnx
        have HS1 := Lib.hid hs1
        clear hs1
        generalize redF n l m k = s at *
        obtain ⟨cs, M⟩ := s
        replace hc : constB cs = true := hc
        replace hM : M = thoseL n cs.length M := hM
        generalize itAt l k = a at *
        obtain ⟨Ab, cb, Bb, db, Sb, hbox, hLb, hgSb, hSbb⟩ := hR.out
        have hst : Hid (s1 = if keepB n cs M a then (restL cs a, fewM n cs M a) else (cs, M)) := hnx
        have hck := const_len hc
        have hrk := const_len (restL_const a hc)
        have hrn := const_nodup (restL_const a hc)
        have hfit := normal_fit (k := (cs.length : Int)) (by omega) (by omega) hn4 hM
        have hfitL := normal_fit (k := ((restL cs a).length : Int)) (by omega) (by omega) hn4 (normal_les n cs M a)
        have hfitE := normal_fit (k := (cs.length : Int)) (by omega) (by omega) hn4 (normal_ext n (restL cs a) (lesM n cs M a) cs)
        have hwo := l6Without_any n hn4 cs hc M (fitR_of (by omega)) a _ wo (orbOut_ix hLb)
        have HXT := Lib.hid (fun (W : World) A4 c4 B4 d4 (h1 : ConstAt W A4 c4 (restL cs a)) (h2 : RowsIn W (.slice B4 (lesM n cs M a).length d4) (lesM n cs M a)) (h3 : ConstAt W Ab cb cs) => l6Extend_any n hn4 (restL cs a) hrk hrn (lesM n cs M a) (fitR_of (by omega)) cs hck A4 B4 Ab c4 d4 cb W h1 h2 h3)
        have HKL : Hid (decide (extL n (restL cs a) (lesM n cs M a) cs = M) = keepB n cs M a) := Lib.hid (keep_les a hn4 hc)
        have HLF : Hid (keepB n cs M a = true → lesM n cs M a = fewM n cs M a) := Lib.hid (fun h => keep_eq hn4 hc h)
        have hpb := orb_parts hLb
        have HRM := Lib.hid (show RowsIn wo (.slice Bb M.length db) M from hpb.2)
        have HCB := Lib.hid hpb.1
        obtain ⟨p0, p1, p2⟩ := OrbK.row3 hbox
        have HBOX := Lib.hid hbox
        have HLB := Lib.hid hLb
        have HSB : Hid (g7 ∉ Sb ∧ ∀ b ∈ Sb, w2.heap.size ≤ b) := Lib.hid ⟨hgSb, hSbb⟩
        have HML : Hid (M.length + sumR M ≤ 32768 ∧ (extL n (restL cs a) (lesM n cs M a) cs).length + sumR (extL n (restL cs a) (lesM n cs M a) cs) ≤ 32768) := Lib.hid ⟨hfit, hfitE⟩
        clear hbox hLb hgSb hSbb hnx hc hM hR hpb hfit hfitL hfitE hrn
        generalize keepB n cs M a = kb at *
        generalize extL n (restL cs a) (lesM n cs M a) cs = more at *
        generalize restL cs a = rs at *
        generalize fewM n cs M a = fs at *
        generalize lesM n cs M a = les at *
        go_wp2_with (first
          | (go_at_call 104; (with_reducible refine hwo.mono ?_); rintro e w4 ⟨A4, c4, B4, d4, S4, rfl, hL4, hS4, hb4⟩; have hbx4 : Below w4.heap.size w4 (w4.alloc (.cells #[.int .i64 (n : Int), .slice A4 rs.length c4, .slice B4 les.length d4] 29)) := (Below.refl _ _).alloc (Nat.le_refl _) _; have h04 := hb4.trans (hbx4.mono hb4.size); have hbox4 := (h04.block _ hgl).trans HBOX.out; clear p0 p1 p2; obtain ⟨p0, p1, p2⟩ := OrbK.row3 hbox4; have hp4 := orb_parts hL4; have hxq := HXT.out (w4.alloc (.cells #[.int .i64 (n : Int), .slice A4 rs.length c4, .slice B4 les.length d4] 29)) A4 c4 B4 d4 (hp4.1.below hbx4) (hp4.2.below hbx4) (HCB.out.below h04))
          | (go_at_call 76; (with_reducible refine hxq.mono ?_); rintro e w5 ⟨A5, c5, B5, d5, S5, rfl, hL5, hS5, hb5⟩; have hbx5 : Below w5.heap.size w5 (w5.alloc (.cells #[.int .i64 (n : Int), .slice A5 cs.length c5, .slice B5 more.length d5] 29)) := (Below.refl _ _).alloc (Nat.le_refl _) _; have h45 := hb5.trans (hbx5.mono hb5.size); have hbox5 := (h45.block _ (OrbK.box_lt hbox4)).trans hbox4; clear p0 p1 p2; obtain ⟨p0, p1, p2⟩ := OrbK.row3 hbox5))
        have hsx4 : (w4.alloc (.cells #[.int .i64 (n : Int), .slice A4 rs.length c4, .slice B4 les.length d4] 29)).heap.size = w4.heap.size + 1 := by simp
        have HB3 := Lib.hid hbox5
        have H6L0 : w4.heap.size < (w4.alloc (.cells #[.int .i64 (n : Int), .slice A4 rs.length c4, .slice B4 les.length d4] 29)).heap.size := by rw [hsx4]; omega
        have H6 := Lib.hid ((h45.block w4.heap.size H6L0).trans (heap_alloc_new w4 (.cells #[.int .i64 (n : Int), .slice A4 rs.length c4, .slice B4 les.length d4] 29)))
        have H6L : Hid (w4.heap.size < (w5.alloc (.cells #[.int .i64 (n : Int), .slice A5 cs.length c5, .slice B5 more.length d5] 29)).heap.size) := Lib.hid (Nat.lt_of_lt_of_le H6L0 h45.size)
        have HL4 := Lib.hid hL4
        have HS4 : Hid (∀ b ∈ S4, wo.heap.size ≤ b) := Lib.hid hS4
        have HS45 : Hid (w4.heap.size ≤ (w5.alloc (.cells #[.int .i64 (n : Int), .slice A5 cs.length c5, .slice B5 more.length d5] 29)).heap.size) := Lib.hid (Nat.le_of_lt H6L.out)
        have HW45 : Hid (∀ b, b < w4.heap.size → (w5.alloc (.cells #[.int .i64 (n : Int), .slice A5 cs.length c5, .slice B5 more.length d5] 29)).heap[b]? = w4.heap[b]?) := Lib.hid (fun b hb => (h45.block b (by rw [hsx4]; omega)).trans (hbx4.block b hb))
        have HLB5 := Lib.hid (HLB.out.alike (w' := w5.alloc (.cells #[.int .i64 (n : Int), .slice A5 cs.length c5, .slice B5 more.length d5] 29)) fun b hb => (h45.block b (Nat.lt_of_lt_of_le (HLB.out.lt b hb) h04.size)).trans (h04.block b (HLB.out.lt b hb)))
        have H05 := Lib.hid (h04.trans (h45.mono h04.size))
        have HSZ5 : Hid (wo.heap.size ≤ (w5.alloc (.cells #[.int .i64 (n : Int), .slice A5 cs.length c5, .slice B5 more.length d5] 29)).heap.size) := Lib.hid H05.out.size
        have H7 := Lib.hid (heap_alloc_new w5 (.cells #[.int .i64 (n : Int), .slice A5 cs.length c5, .slice B5 more.length d5] 29))
        have H7L : Hid (w5.heap.size < (w5.alloc (.cells #[.int .i64 (n : Int), .slice A5 cs.length c5, .slice B5 more.length d5] 29)).heap.size) := Lib.hid (by simp)
        have HMM := Lib.hid (show RowsIn (w5.alloc (.cells #[.int .i64 (n : Int), .slice A5 cs.length c5, .slice B5 more.length d5] 29)) (.slice B5 more.length d5) more from ((orb_parts hL5).2).below hbx5)
        have HRM5 := Lib.hid (show RowsIn (w5.alloc (.cells #[.int .i64 (n : Int), .slice A5 cs.length c5, .slice B5 more.length d5] 29)) (.slice Bb M.length db) M from (HRM.out.below h04).below h45)
        clear hwo hxq hL4 hS4 hb4 hbx4 h04 hbox4 hp4 hL5 hS5 hb5 hbx5 h45 hbox5 hsx4 H6L0 HXT HCB HRM HLB HBOX p0 p1 p2 cl
        obtain ⟨gm, hgm⟩ : ∃ g : Nat, g = w5.heap.size := ⟨_, rfl⟩
        rw [← hgm] at H7 H7L ⊢
        clear hgm
        generalize (w5.alloc (.cells #[.int .i64 (n : Int), .slice A5 cs.length c5, .slice B5 more.length d5] 29)) = W5 at *
        obtain ⟨hm1, hm2⟩ := HML.out
        clear HML
        obtain ⟨u0, u1, u2⟩ := OrbK.row3 H7.out
        obtain ⟨v0, v1, v2⟩ := OrbK.row3 HB3.out
        by_cases hle : more.length = M.length
        · have hleb : ((more.length : Int) == (M.length : Int)) = true := by simp [hle]
          have hled : decide ((more.length : Int) = (M.length : Int)) = true := by simp [hle]
          have hs0 : Hid (sameTo more M 0 = true) := Lib.hid (by simp [sameTo, hle])
          have HLE := Lib.hid hle
          have hlei : (more.length : Int) = (M.length : Int) := by omega
          have HLQ := Lib.hid hleb
          clear hle
          go_wp2
          clear u0 u1 u2 v0 v1 v2 hleb hled hlei
          go_loopw [8, 9] (fun sv iv wr => ∃ q : Nat, q ≤ more.length ∧ iv = .int .i64 q ∧ sv = .bool (sameTo more M q) ∧ Below W5.heap.size W5 wr) (fun _ iv _ => more.length - (intOf iv).toNat)
          case atStart => exact ⟨0, Nat.zero_le _, rfl, by rw [hs0.out, HLQ.out], Below.refl _ _⟩
          case round =>
            obtain ⟨q, hq, rfl, rfl, hbi⟩ := hrel
            have h7w := (hbi.block _ H7L.out).trans H7.out
            obtain ⟨u0, u1, u2⟩ := OrbK.row3 h7w
            cases hsq : sameTo more M q with
            | false =>
              have hkb : kb = false := HKL.out.symm.trans (sameTo_no hsq)
              clear hsq h7w u0 u1 u2
              have hst2 : Hid (s1 = (cs, M)) := by rw [hst.out, hkb]; exact Lib.hid rfl
              have hboxw := (hbi.block _ (Nat.lt_of_lt_of_le hgl HSZ5.out)).trans HB3.out
              have hLw := HLB5.out.alike (w' := wr) fun b hb => hbi.block b (HLB5.out.lt b hb)
              have hRB : Hid (RedBox wr w2.heap.size g7 n s1.1 s1.2) := by
                rw [hst2.out]
                exact Lib.hid ⟨Ab, cb, Bb, db, Sb, hboxw, hLw, HSB.out.1, HSB.out.2⟩
              have hbn := hb.trans ((H05.out.trans (hbi.mono H05.out.size)).mono hb.size)
              have hgn := Nat.lt_of_lt_of_le (Nat.lt_of_lt_of_le hgl HSZ5.out) hbi.size
              clear hboxw hLw hb hbi hst2
              go_wp2
              refine ⟨⟨k + 1, by omega, by go_num, by rw [HS1.out]; exact hRB, hbn, hgn⟩, ?_⟩
              (first | (simp only [intOf]; omega) | omega)
            | true =>
              by_cases hlq : q < more.length
              · have hlm : q < M.length := by have := HLE.out; omega
                have HN := Lib.hid (sameTo_next hsq hlq)
                obtain ⟨b5, o5, rfl, hb5, hc5⟩ := RowsIn.get (HMM.out.below hbi) (by omega)
                obtain ⟨b6, o6, rfl, hb6, hc6⟩ := RowsIn.get (HRM5.out.below hbi) (by omega)
                obtain ⟨Ax, cx, dx, hAx⟩ := hc5 q hlq
                obtain ⟨Ay, cy, dy, hAy⟩ := hc6 q hlm
                have hdw : Below wr.heap.size wr wr.drew := ⟨rfl, rfl, rfl, Nat.le_refl _, fun _ _ => rfl⟩
                have hx1 := sumR_at hlq
                have hy1 := sumR_at hlm
                have hsm := l1Same_any Ax Ay cx cy (rwAt more q) (rwAt M q) wr.drew (hAx.below hdw) (hAy.below hdw) (by omega) (by omega)
                have h3w := (hbi.block _ (Nat.lt_of_lt_of_le hgl HSZ5.out)).trans HB3.out
                obtain ⟨v0, v1, v2⟩ := OrbK.row3 h3w
                have hl7 := OrbK.box_lt h7w
                have hl3 := OrbK.box_lt h3w
                have hqi : (q : Int) < (more.length : Int) := by omega
                have hqj : (q : Int) < (M.length : Int) := by omega
                have hq0 : (0 : Int) ≤ (q : Int) := by omega
                clear hAx hAy hc5 hc6 hx1 hy1 h7w h3w hsq
                generalize rwAt more q = X at *
                generalize rwAt M q = Y at *
                have HS : Hid (∀ W : World, Below wr.heap.size wr W → W.cell? ⟨gm, 2, none⟩ = some (.slice (some ⟨b5, o5, none⟩) more.length d5) ∧ W.cell? ⟨b5, o5 + q, none⟩ = some (.slice Ax X.length cx) ∧ W.cell? ⟨g7, 2, none⟩ = some (.slice (some ⟨b6, o6, none⟩) M.length db) ∧ W.cell? ⟨b6, o6 + q, none⟩ = some (.slice Ay Y.length cy)) :=
                  Lib.hid (fun W h => ⟨(h.cell (p := ⟨gm, 2, none⟩) hl7).trans u2, (h.cell (p := ⟨b5, o5 + q, none⟩) hb5).trans dx, (h.cell (p := ⟨g7, 2, none⟩) hl3).trans v2, (h.cell (p := ⟨b6, o6 + q, none⟩) hb6).trans dy⟩)
                obtain ⟨f0, f1, f2, f3⟩ := HS.out wr.drew hdw
                go_wp2
                go_region_held3 (fun w' => w'.cell? ⟨gm, 2, none⟩ = some (.slice (some ⟨b5, o5, none⟩) more.length d5) ∧ w'.cell? ⟨b5, o5 + q, none⟩ = some (.slice Ax X.length cx) ∧ w'.cell? ⟨g7, 2, none⟩ = some (.slice (some ⟨b6, o6, none⟩) M.length db) ∧ w'.cell? ⟨b6, o6 + q, none⟩ = some (.slice Ay Y.length cy))
                  (with_reducible exact ⟨by assumption, by assumption, by assumption, by assumption⟩)
                  (first
                  | (go_at_call 105; (with_reducible refine hsm.mono ?_); rintro e w9 ⟨rfl, hb9⟩; have fr9 := hdw.trans (hb9.mono hdw.size); obtain ⟨j0, j1, j2, j3⟩ := HS.out w9 fr9)
                  | fail)
                have hbn := hbi.trans (fr9.mono hbi.size)
                clear f0 f1 f2 f3 j0 j1 j2 j3 hsm hdw hb9 fr9 HS u0 u1 u2 v0 v1 v2 dx dy hbi
                go_wp2
                refine ⟨⟨q + 1, by omega, by go_num, by rw [HN.out], hbn⟩, ?_⟩
                (first | (simp only [intOf]; omega) | omega)
              · have e : q = more.length := by omega
                subst e
                have hkb : kb = true := HKL.out.symm.trans (sameTo_all hsq)
                clear hsq h7w
                have hst2 : Hid (s1 = (rs, fs)) := by rw [hst.out, hkb]; exact Lib.hid rfl
                have hlf : les = fs := HLF.out hkb
                have hboxw := (hbi.block _ (Nat.lt_of_lt_of_le hgl HSZ5.out)).trans HB3.out
                have h6w := (hbi.block _ H6L.out).trans H6.out
                obtain ⟨r0, r1, r2⟩ := OrbK.row3 h6w
                obtain ⟨p0, p1, p2⟩ := OrbK.row3 hboxw
                obtain ⟨y0, y1, y2⟩ := z3At hboxw
                have hL6 := HL4.out.alike (w' := wr) fun b hb => hbi.block b (Nat.lt_of_lt_of_le (HL4.out.lt b hb) HS45.out) |>.trans (HW45.out b (HL4.out.lt b hb))
                have on3 := OrbQ.set3_only wr g7 (.int .i64 (n : Int)) (.slice A4 rs.length c4) (.slice B4 les.length d4)
                have hne4 : ∀ b ∈ S4, b ≠ g7 := fun b hb e => by have := HS4.out b hb; omega
                have hRB : Hid (RedBox (((wr.setCell ⟨g7, 0, none⟩ (.int .i64 (n : Int))).setCell ⟨g7, 1, none⟩ (.slice A4 rs.length c4)).setCell ⟨g7, 2, none⟩ (.slice B4 les.length d4)) w2.heap.size g7 n s1.1 s1.2) := by
                  rw [hst2.out]
                  show Hid (RedBox _ w2.heap.size g7 n rs fs)
                  rw [← hlf]
                  exact Lib.hid ⟨A4, c4, B4, d4, S4, OrbQ.set3_box hboxw (.int .i64 (n : Int)) (.slice A4 rs.length c4) (.slice B4 les.length d4), hL6.alike fun b hb => on3.block b (hL6.lt b hb) (by have := hne4 b hb; simpa using this), fun h => hne4 g7 h rfl, fun b hb' => by have := HS4.out b hb'; have := hb.size; omega⟩
                have hbn := (((hb.trans ((H05.out.trans (hbi.mono H05.out.size)).mono hb.size)).setCell (p := ⟨g7, 0, none⟩) hg7b (.int .i64 (n : Int))).setCell (p := ⟨g7, 1, none⟩) hg7b (.slice A4 rs.length c4)).setCell (p := ⟨g7, 2, none⟩) hg7b (.slice B4 les.length d4)
                have hgn := Nat.lt_of_lt_of_le (Nat.lt_of_lt_of_le hgl HSZ5.out) (Nat.le_trans hbi.size on3.size)
                clear hboxw h6w hL6 on3 hne4 hb hbi hst2 hlf
                go_wp2
                refine ⟨⟨k + 1, by omega, by go_num, by rw [HS1.out]; exact hRB, hbn, hgn⟩, ?_⟩
                (first | (simp only [intOf]; omega) | omega)
        · have hleb : ((more.length : Int) == (M.length : Int)) = false := by simp; omega
          have hled : decide ((more.length : Int) = (M.length : Int)) = false := by simp; omega
          have hs0 : Hid (sameTo more M 0 = false) := Lib.hid (by simp [sameTo, hle])
          have hlei : ¬ (more.length : Int) = (M.length : Int) := by omega
          have HLQ := Lib.hid hleb
          clear hle
          go_wp2
          clear u0 u1 u2 v0 v1 v2 hleb hled hlei
          go_loopw [8, 9] (fun sv iv wr => iv = .int .i64 0 ∧ sv = .bool false ∧ Below W5.heap.size W5 wr) (fun _ iv _ => 0)
          case atStart => exact ⟨rfl, by rw [HLQ.out], Below.refl _ _⟩
          case round =>
            obtain ⟨rfl, rfl, hbi⟩ := hrel
            have hkb : kb = false := HKL.out.symm.trans (sameTo_no hs0.out)
            have hst2 : Hid (s1 = (cs, M)) := by rw [hst.out, hkb]; exact Lib.hid rfl
            have hboxw := (hbi.block _ (Nat.lt_of_lt_of_le hgl HSZ5.out)).trans HB3.out
            have hLw := HLB5.out.alike (w' := wr) fun b hb => hbi.block b (HLB5.out.lt b hb)
            have hRB : Hid (RedBox wr w2.heap.size g7 n s1.1 s1.2) := by
              rw [hst2.out]
              exact Lib.hid ⟨Ab, cb, Bb, db, Sb, hboxw, hLw, HSB.out.1, HSB.out.2⟩
            have hbn := hb.trans ((H05.out.trans (hbi.mono H05.out.size)).mono hb.size)
            have hgn := Nat.lt_of_lt_of_le (Nat.lt_of_lt_of_le hgl HSZ5.out) hbi.size
            clear hboxw hLw hb hbi hst2
            go_wp2
            refine ⟨⟨k + 1, by omega, by go_num, by rw [HS1.out]; exact hRB, hbn, hgn⟩, ?_⟩
            (first | (simp only [intOf]; omega) | omega)
      · have e : k = l.length := by omega
        subst e
        rw [HRE.out.1, HRE.out.2] at hR
        generalize redCz n l m = cs at *
        generalize redMz n l m = M at *
        obtain ⟨Ab, cb, Bb, db, Sb, hbox, hLb, hgSb, hSbb⟩ := hR.out
        obtain ⟨p0, p1, p2⟩ := OrbK.row3 hbox
        have hq := (hb.block _ (OrbK.box_lt R2.out)).trans R2.out
        have hltq := OrbK.box_lt R2.out
        obtain ⟨x0, x1, x2⟩ := OrbK.row3 hq
        obtain ⟨y0, y1, y2⟩ := z3At hq
        have ne7 : g7 ≠ w.heap.size + 1 := by omega
        have hpost := orb_pass (r := w.heap.size + 1) hLb (HBZ.out.trans (hb.mono HBZ.out.size)) (Nat.le_succ _) (fun b h => by have h1 := hSbb b h; have h2 := HBZ.out.size; exact ⟨by omega, by omega⟩)
        clear hLb hgSb hSbb hb hR hc hM hin
        go_wp2
        exact bodyPost_ret (v := .agg #[.int .i64 (n : Int), .slice Ab cs.length cb, .slice Bb M.length db]) (by simp [results, Try.results50, go_sem, x0, x1, x2]) rfl hpost
end Go.Proofs.Ytdbogjhkcnajkaa
end

