/-
  A valid machine that the model draws: a contract. What the draw of two machines is to give. A copy of a machine in the model's draws: what stays while the rows are copied. A copy of a machine in the model's draws: the walk. Two machines that the model draws: the contract of DrawMachines. Two machines that the model draws: the walk of DrawMachines. Where two machines stand at first: a contract. Two machines of which one accepts the empty word and the other does not: the least length of a difference is 0.
-/
import Derived.Test.YthacnbeckhdhiaaKComplement6
import Derived.Test.YthacnbeckhdhiaaKComplement2
import Derived.Test.YthacnbeckhdhiaaKComplement4
import Derived.Deep.AppendLies
import Derived.Deep.RegionLaw
import Derived.Deep.DeepCutAuto
import Derived.MapKept
import Derived.Deep.RegionHeld3
import Derived.Maps.Own
section
namespace Go.Proofs.Ythacnbeckhdhiaa
open Go.RowKit Go.Sort
set_option linter.unusedVariables false

namespace DrawM
theorem row_box {w : World} {base size n g : Nat} {e T : TypeId} {v : Value} {xs : List Value} {cs : Array Value} {z : Nat × Nat} (h : w.ownsRow base e size v n xs) (hg : w.heap[g]? = some (.cells cs T z)) (hne : e ≠ T) : v.ownBlock ≠ some g := by
  intro hk
  rcases h.2 with ⟨rfl, _⟩ | ⟨g', cap, cur, rfl, _, hc, _⟩
  · cases hk
  · simp only [Value.ownBlock, Option.some.injEq] at hk
    subst hk
    rw [hc] at hg
    injection hg with hg
    injection hg with h1 h2
    exact hne h2
theorem row_row {w : World} {base base' size size' n n' : Nat} {e e' : TypeId} {v v' : Value} {xs xs' : List Value} (h : w.ownsRow base e size v n xs) (h' : w.ownsRow base' e' size' v' n' xs') (hne : e ≠ e') : ∀ k, v.ownBlock = some k → v'.ownBlock ≠ some k := by
  intro k hk hk'
  rcases h'.2 with ⟨rfl, _⟩ | ⟨g', cap, cur, rfl, _, hc, _⟩
  · cases hk'
  · simp only [Value.ownBlock, Option.some.injEq] at hk'
    subst hk'
    exact row_box h hc hne hk
theorem box4 {w : World} {g : Nat} {a b c d : Value} {T : TypeId} (h : w.heap[g]? = some (.cells #[a, b, c, d] T (0, 0))) : w.cell? ⟨g, 0, none⟩ = some a ∧ w.cell? ⟨g, 1, none⟩ = some b ∧ w.cell? ⟨g, 2, none⟩ = some c ∧ w.cell? ⟨g, 3, none⟩ = some d := by
  refine ⟨?_, ?_, ?_, ?_⟩ <;> rw [cell_of_row w g _ _ _ _ h] <;> rfl
theorem blt {w : World} {g : Nat} {o : Obj} (h : w.heap[g]? = some o) : g < w.heap.size := (Array.getElem?_eq_some_iff.1 h).1
theorem drew_only {B C : Nat} {w w' : World} (h : Drew B C w w') : Only [C] w w' := ⟨h.2.os, h.2.tape, h.2.output, h.2.size, fun k hk hn => h.2.block k hk (fun e => hn (by injection e with e; simp [e]))⟩
theorem below_drew {w0 w w' : World} {B C : Nat} (hC : C < w0.heap.size) (h : Drew B C w0 w) (hb : Below w.heap.size w w') : Drew B C w0 w' := DrawN.drew_grown hC h (DrawN.grown_below hb) (fun k hk => by cases hk)
theorem grown_set (w : World) (g o : Nat) (v : Value) : w.grownBy (w.setCell ⟨g, o, none⟩ v) (some g) := ⟨rfl, rfl, rfl, by simp, fun k _ hk => heap_setCell_other w ⟨g, o, none⟩ k _ (fun e => hk (by simp [e]))⟩
/-- A machine that is being drawn: it lies in the box g, the answer's box stands in front of it. -/
structure St (w : World) (B C g : Nat) (st rg : Int) (ac : List Bool) (mv : List (Int × Int)) (vA vB : Value) (wr : World) : Prop where
  bx : wr.heap[g]? = some (.cells #[.int .i64 st, .int .i64 rg, vA, vB] 27 (0, 0))
  rs : wr.heap[w.heap.size]? = some (.cells #[.int .i64 0, .int .i64 0, .slice none 0 0, .slice none 0 0] 27 (0, 0))
  ra : wr.ownsRow (w.heap.size + 1) 4 1 vA ac.length (bcells ac)
  rm : wr.ownsRow (w.heap.size + 1) 45 2 vB mv.length (cellsOf mv)
  dr : Drew B C w wr
  gc : w.heap.size < g
theorem St.only {w : World} {B C g : Nat} {st rg : Int} {ac : List Bool} {mv : List (Int × Int)} {vA vB : Value} {wr w' : World} (h : St w B C g st rg ac mv vA vB wr) (hC : C < w.heap.size) (hd : Drew B C wr w') : St w B C g st rg ac mv vA vB w' := by
  have hn := h.gc
  refine ⟨(hd.2.block g (blt h.bx) (fun e => by injection e with e; omega)).trans h.bx, (hd.2.block w.heap.size (blt h.rs) (fun e => by injection e with e; omega)).trans h.rs, h.ra.kept hd.2 (.inr fun e => by have := (h.ra.lt C e).1; omega), h.rm.kept hd.2 (.inr fun e => by have := (h.rm.lt C e).1; omega), h.dr.trans hd, h.gc⟩
theorem St.below {w : World} {B C g : Nat} {st rg : Int} {ac : List Bool} {mv : List (Int × Int)} {vA vB : Value} {wr w' : World} (h : St w B C g st rg ac mv vA vB wr) (hC : C < w.heap.size) (hb : Below wr.heap.size wr w') : St w B C g st rg ac mv vA vB w' :=
  ⟨(hb.block g (blt h.bx)).trans h.bx, (hb.block w.heap.size (blt h.rs)).trans h.rs, own_below h.ra hb, own_below h.rm hb, DrawN.drew_grown hC h.dr (DrawN.grown_below hb) (fun k hk => by cases hk), h.gc⟩
theorem St.addA {w : World} {B C g : Nat} {st rg : Int} {ac : List Bool} {mv : List (Int × Int)} {vA vB vN : Value} {wr w' : World} {b : Bool} (h : St w B C g st rg ac mv vA vB wr) (hC : C < w.heap.size) (ho : w'.ownsRow (w.heap.size + 1) 4 1 vN (ac.length + 1) (bcells ac ++ [.bool b])) (hg : wr.grownBy w' vA.ownBlock) :
    St w B C g st rg (ac ++ [b]) mv vN vB (w'.setCell ⟨g, 2, none⟩ vN) := by
  have hn := h.gc
  have b1 : w'.heap[g]? = some (.cells #[.int .i64 st, .int .i64 rg, vA, vB] 27 (0, 0)) := (hg.block g (blt h.bx) (fun e => row_box h.ra h.bx (by decide) e.symm)).trans h.bx
  have r1 : w'.heap[w.heap.size]? = some (.cells #[.int .i64 0, .int .i64 0, .slice none 0 0, .slice none 0 0] 27 (0, 0)) := (hg.block w.heap.size (blt h.rs) (fun e => by have := (h.ra.lt _ e.symm).1; omega)).trans h.rs
  have m1 := h.rm.kept hg (by
    cases hk : vB.ownBlock with
    | none => exact .inl rfl
    | some k => exact .inr fun e => row_row h.rm h.ra (by decide) k hk e.symm)
  have hgr : w'.grownBy (w'.setCell ⟨g, 2, none⟩ vN) (some g) := grown_set w' g 2 vN
  refine ⟨heap_setCell_same w' g 2 _ _ vN b1, (hgr.block w.heap.size (blt r1) (fun e => by injection e with e; omega)).trans r1, ?_, m1.kept hgr (.inr (row_box m1 b1 (by decide))), DrawN.drew_grown hC (DrawN.drew_grown hC h.dr hg (fun k hk => by have := (h.ra.lt k hk).1; omega)) hgr (fun k hk => by injection hk with hk; omega), h.gc⟩
  rw [List.length_append, bcells_append]
  exact ho.kept hgr (.inr (row_box ho b1 (by decide)))
theorem St.addM {w : World} {B C g : Nat} {st rg : Int} {ac : List Bool} {mv : List (Int × Int)} {vA vB vN : Value} {wr w' : World} {x y : Int} (h : St w B C g st rg ac mv vA vB wr) (hC : C < w.heap.size) (ho : w'.ownsRow (w.heap.size + 1) 45 2 vN (mv.length + 1) (cellsOf mv ++ [.int .i64 x, .int .i64 y])) (hg : wr.grownBy w' vB.ownBlock) :
    St w B C g st rg ac (mv ++ [(x, y)]) vA vN (w'.setCell ⟨g, 3, none⟩ vN) := by
  have hn := h.gc
  have b1 : w'.heap[g]? = some (.cells #[.int .i64 st, .int .i64 rg, vA, vB] 27 (0, 0)) := (hg.block g (blt h.bx) (fun e => row_box h.rm h.bx (by decide) e.symm)).trans h.bx
  have r1 : w'.heap[w.heap.size]? = some (.cells #[.int .i64 0, .int .i64 0, .slice none 0 0, .slice none 0 0] 27 (0, 0)) := (hg.block w.heap.size (blt h.rs) (fun e => by have := (h.rm.lt _ e.symm).1; omega)).trans h.rs
  have m1 := h.ra.kept hg (by
    cases hk : vA.ownBlock with
    | none => exact .inl rfl
    | some k => exact .inr fun e => row_row h.ra h.rm (by decide) k hk e.symm)
  have hgr : w'.grownBy (w'.setCell ⟨g, 3, none⟩ vN) (some g) := grown_set w' g 3 vN
  refine ⟨heap_setCell_same w' g 3 _ _ vN b1, (hgr.block w.heap.size (blt r1) (fun e => by injection e with e; omega)).trans r1, m1.kept hgr (.inr (row_box m1 b1 (by decide))), ?_, DrawN.drew_grown hC (DrawN.drew_grown hC h.dr hg (fun k hk => by have := (h.rm.lt k hk).1; omega)) hgr (fun k hk => by injection hk with hk; omega), h.gc⟩
  have e : cellsOf (mv ++ [(x, y)]) = cellsOf mv ++ [.int .i64 x, .int .i64 y] := by simp [cellsOf]
  rw [List.length_append, e]
  exact ho.kept hgr (.inr (row_box ho b1 (by decide)))
/-- A drawn machine. -/
def Out (B C : Nat) (states regs : Nat) (w : World) (e : Ending) (w' : World) : Prop :=
  ∃ (t : Mach) (vA vB : Value), e = .returned (.agg #[.int .i64 t.st, .int .i64 t.rg, vA, vB]) ∧ machB t = true ∧ t.st ≤ states ∧ t.rg ≤ regs ∧
    w'.ownsRow (w.heap.size + 1) 4 1 vA t.ac.length (bcells t.ac) ∧ w'.ownsRow (w.heap.size + 1) 45 2 vB t.mv.length (cellsOf t.mv) ∧ Drew B C w w'
theorem St.setx {w : World} {B C g : Nat} {st rg : Int} {ac : List Bool} {mv : List (Int × Int)} {vA vB v : Value} {wr : World} {xb o : Nat} (h : St w B C g st rg ac mv vA vB wr) (hC : C < w.heap.size) (h1 : xb ≠ g) (h2 : w.heap.size < xb) (h3 : vA.ownBlock ≠ some xb) (h4 : vB.ownBlock ≠ some xb) : St w B C g st rg ac mv vA vB (wr.setCell ⟨xb, o, none⟩ v) := by
  have hg := grown_set wr xb o v
  refine ⟨(hg.block g (blt h.bx) (fun e => by injection e with e; omega)).trans h.bx, (hg.block w.heap.size (blt h.rs) (fun e => by injection e with e; omega)).trans h.rs, h.ra.kept hg (.inr h3), h.rm.kept hg (.inr h4), DrawN.drew_grown hC h.dr hg (fun k hk => by injection hk with hk; omega), h.gc⟩
theorem form {w : World} {base size n : Nat} {e : TypeId} {v : Value} {xs : List Value} (h : w.ownsRow base e size v n xs) : ∃ A c, v = .slice A n c := by
  rcases h.2 with ⟨rfl, h0⟩ | ⟨g', cap, cur, rfl, _⟩
  · subst h0
    exact ⟨none, 0, rfl⟩
  · exact ⟨_, _, rfl⟩
theorem box2 {w : World} {g : Nat} {a b : Value} {T : TypeId} (h : w.heap[g]? = some (.cells #[a, b] T (0, 0))) : w.cell? ⟨g, 0, none⟩ = some a ∧ w.cell? ⟨g, 1, none⟩ = some b := by
  refine ⟨?_, ?_⟩ <;> rw [cell_of_row w g _ _ _ _ h] <;> rfl
theorem set_r {w wr : World} {B C n m : Nat} {vA vB : Value} {xs ys : List Value} (hC : C < w.heap.size) (ra : wr.ownsRow (w.heap.size + 1) 4 1 vA n xs) (rm : wr.ownsRow (w.heap.size + 1) 45 2 vB m ys) (dr : Drew B C w wr) (o : Nat) (v : Value) :
    (wr.setCell ⟨w.heap.size, o, none⟩ v).ownsRow (w.heap.size + 1) 4 1 vA n xs ∧ (wr.setCell ⟨w.heap.size, o, none⟩ v).ownsRow (w.heap.size + 1) 45 2 vB m ys ∧ Drew B C w (wr.setCell ⟨w.heap.size, o, none⟩ v) := by
  have hg := grown_set wr w.heap.size o v
  exact ⟨ra.kept hg (.inr fun e => by have := (ra.lt _ e).1; omega), rm.kept hg (.inr fun e => by have := (rm.lt _ e).1; omega), DrawN.drew_grown hC dr hg (fun k hk => by injection hk with hk; omega)⟩
theorem cas_pos {rg : Int} (h0 : 0 ≤ rg) (h3 : rg ≤ 3) : ∃ c : Nat, casZ rg = (c : Int) ∧ 1 ≤ c ∧ c ≤ 8 := by
  rcases casZ_of h0 h3 with ⟨_, h⟩ | ⟨_, h⟩ | ⟨_, h⟩ | ⟨_, h⟩
  · exact ⟨1, h, by omega, by omega⟩
  · exact ⟨2, h, by omega, by omega⟩
  · exact ⟨4, h, by omega, by omega⟩
  · exact ⟨8, h, by omega, by omega⟩
theorem one2 {w : World} {g : Nat} {a b : Value} {T : TypeId} (h : w.heap[g]? = some (.cells #[a, b] T (0, 0))) : ∀ j x, [a, b][j]? = some x → w.cell? ((⟨g, 0, none⟩ : Addr).add j) = some x := World.news_of_block h
theorem move_one (x y : Int) : ∀ u ∈ [Value.int .i64 x, Value.int .i64 y], u.oneCell' = true := by
  intro u hu
  simp at hu
  rcases hu with rfl | rfl <;> rfl
theorem bool_one (b : Bool) : ∀ u ∈ [Value.bool b], u.oneCell' = true := by
  intro u hu
  simp at hu
  subst hu
  rfl
end DrawM

set_option maxRecDepth 100000 in
set_option maxHeartbeats 8000000 in
theorem l7Draw_any (B C states regs : Nat) (hst : 1 ≤ states ∧ states ≤ 9) (hrg : regs ≤ 3) (w : World) (hc : Cur w B C) :
    Calls Try.prog 13 #[.pointer (some ⟨C, 0, none⟩), .int .i64 states, .int .i64 regs] w (DrawM.Out B C states regs w) := by
  obtain ⟨i1, hi1, hz0, hz1, hz2⟩ := info_parts bool_info
  obtain ⟨i2, hi2, hy0, hy1, hy2⟩ := info_parts move_info
  have HS := Lib.hid hz2
  have HSM := Lib.hid hy2
  clear hz2 hy2
  have hC := hc.lt
  have hr0 := heap_alloc_new w (.cells #[.int .i64 0, .int .i64 0, .slice none 0 0, .slice none 0 0] 27)
  have hd0 : Drew B C w (w.alloc (.cells #[.int .i64 0, .int .i64 0, .slice none 0 0, .slice none 0 0] 27)) := (Drew.of hc).alloc _
  have hz0' : (w.alloc (.cells #[.int .i64 0, .int .i64 0, .slice none 0 0, .slice none 0 0] 27)).heap.size = w.heap.size + 1 := by simp
  have hbl := l1Below_int B C states _ hd0.1 (by omega) (by omega)
  have HR0 := Lib.hid hr0
  have HZ0 := Lib.hid hz0'
  clear hc hr0 hz0'
  go_enter Try.func13, Try.ntmps13
  go_wp2_with fail
  refine hbl.mono ?_
  rintro e w1 ⟨x1, hx1, rfl, hd1⟩
  have hs1 : w.heap.size + 1 ≤ w1.heap.size := by have := hd1.2.size; rw [HZ0.out] at this; exact this
  have r1 := ((DrawM.drew_only hd1).block w.heap.size (by rw [HZ0.out]; omega) (by simp; omega)).trans HR0.out
  have hbl2 := l1Below_int B C ((regs : Int) + 1) w1 hd1.1 (by omega) (by omega)
  have hD1 := hd0.trans hd1
  clear hbl hd0 hd1 HR0 HZ0
  go_wp2_with fail
  refine hbl2.mono ?_
  rintro e w2 ⟨x2, hx2, rfl, hd2⟩
  have hs2 := hd2.2.size
  have r2 := ((DrawM.drew_only hd2).block w.heap.size (by omega) (by simp; omega)).trans r1
  obtain ⟨cs, hcs, hc1, hc8⟩ := DrawM.cas_pos (rg := (x2 : Int)) (by omega) (by omega)
  have h0 : DrawM.St w B C w2.heap.size (1 + (x1 : Int)) x2 [] [] (.slice none 0 0) (.slice none 0 0) (w2.alloc (.cells #[.int .i64 (1 + (x1 : Int)), .int .i64 (x2 : Int), .slice none 0 0, .slice none 0 0] 27)) :=
    ⟨heap_alloc_new w2 _, (Below.heap_alloc _ _ _ (by omega)).trans r2, World.ownsRow_nil _ _ _ _, World.ownsRow_nil _ _ _ _, DrawM.below_drew hC (hD1.trans hd2) ((Below.refl _ _).alloc (Nat.le_refl _) _), by omega⟩
  have HC1 := Lib.hid hcs
  clear hbl2 hd2 hD1 r1 r2 hcs
  have hgz : w.heap.size < w2.heap.size := by omega
  clear hs1 hs2
  go_wp2
  generalize w2.heap.size = g at h0 hgz ⊢
  go_loopw [8, 9, 10] (fun q _ _ wr => ∃ (k : Nat) (ac : List Bool) (mv : List (Int × Int)) (vA vB : Value), (k : Int) ≤ 1 + (x1 : Int) ∧ q = .int .i64 k ∧ Hid (ac.length = k ∧ mv.length = k * cs ∧ ∀ m ∈ mv, mvB (1 + (x1 : Int)) x2 m = true) ∧ DrawM.St w B C g (1 + (x1 : Int)) x2 ac mv vA vB wr) (fun q _ _ _ => (1 + x1) - (intOf q).toNat)
  case atStart => exact ⟨0, [], [], _, _, by omega, rfl, Lib.hid ⟨rfl, by simp, by simp⟩, h0⟩
  case round =>
    clear h0
    obtain ⟨k, ac, mv, vA, vB, hk, rfl, hinv, hS⟩ := hrel
    obtain ⟨b0, b1, b2, b3⟩ := DrawM.box4 hS.bx
    have hal : ac.length ≤ 9 := by have := hinv.out.1; omega
    by_cases hlt : (k : Int) < 1 + (x1 : Int)
    · have hw : Below wr.heap.size wr wr.drew := ⟨rfl, rfl, rfl, Nat.le_refl _, fun _ _ => rfl⟩
      have hSd := hS.below hC hw
      have hod := l1Once_any B C 3 wr.drew hSd.dr.1 (by omega) (by omega)
      have q1 : wr.drew.cell? ⟨g, 2, none⟩ = some vA := (DrawM.box4 hSd.bx).2.2.1
      have HSd := Lib.hid hSd
      have HINV := Lib.hid hinv.out
      clear hS hSd hw hinv
      go_upto_region 5 with fail
      go_cut [29] (fun s wx => ∃ (bb : Bool) (vN : Value), s = .bool bb ∧ DrawM.St w B C g (1 + (x1 : Int)) x2 (ac ++ [bb]) mv vN vB wx)
      case first =>
        go_region_law (first
          | (refine step_append_lies _ (by rfl) _ _ 24 (by rfl) (w.heap.size + 1) 4 i1 (.bool false) 1 1 Try.underlying24 hi1 hz0 hz1 HS.out rfl (by decide) vA ac.length _ (by rfl) hoA ⟨w4.heap.size, 0, none⟩ 1 1 [.bool bb] (by rfl) (by rfl) HC.out (DrawM.bool_one _) (by decide) (by unfold maxLen; omega) (by omega) hszA _ rfl ?_; intro g5 cap5 w5 ho5 hg5 hcase hlt5; have K5 := (hg5.block g (DrawM.blt HS4.out.bx) (fun e => DrawM.row_box HS4.out.ra HS4.out.bx (by decide) e.symm)).trans HS4.out.bx; obtain ⟨t0, t1, t2, t3⟩ := DrawM.box4 K5; have tz := frozen_of_row _ _ 2 _ _ K5)
          | (go_simp; go_at_call 14; (with_reducible refine hod.mono ?_); rintro e w4 ⟨bb, rfl, hd4⟩; have hS4 := HSd.out.only hC hd4; have q4 := (DrawM.box4 hS4.bx).2.2.1; have hbf : Below w4.heap.size w4 (w4.alloc (.cells #[.bool bb] 4)) := (Below.refl _ _).alloc (Nat.le_refl _) _; have HS4 := Lib.hid (hS4.below hC hbf); have q5 := (DrawM.box4 HS4.out.bx).2.2.1; have hoA := HS4.out.ra; have hszA : w.heap.size + 1 ≤ (w4.alloc (.cells #[.bool bb] 4)).heap.size := (by have h9 := DrawM.blt HS4.out.rs; omega); have hcell : (w4.alloc (.cells #[.bool bb] 4)).cell? ⟨w4.heap.size, 0, none⟩ = some (.bool bb) := (by simp); have HC := Lib.hid (DrawN.one_cell hcell))
          | fail)
        all_goals
          have hS6 := HS4.out.addA hC ho5 hg5
          go_wp2_with fail
          go_meet
          exact ⟨bb, _, rfl, hS6⟩
      case rest =>
        obtain ⟨bb, vN, rfl, hS6⟩ := hcut
        have HI6 : Hid ((ac ++ [bb]).length = k + 1 ∧ mv.length = k * cs + 0 ∧ ∀ m ∈ mv, mvB (1 + (x1 : Int)) x2 m = true) := Lib.hid (by have h9 := HINV.out; exact ⟨by rw [List.length_append, h9.1]; rfl, h9.2.1, h9.2.2⟩)
        have hkk : k ≤ 8 := by omega
        clear HSd HINV hod q1 b0 b1 b2 b3 hal
        generalize ac ++ [bb] = ac2 at hS6 HI6
        obtain ⟨wa, rfl⟩ : ∃ x : World, x = wc := ⟨_, rfl⟩
        go_wp2
        go_loopw [9, 10] (fun n _ wr => ∃ (j : Nat) (mv2 : List (Int × Int)) (vB2 : Value), j ≤ cs ∧ n = .int .i64 j ∧ Hid (ac2.length = k + 1 ∧ mv2.length = k * cs + j ∧ ∀ m ∈ mv2, mvB (1 + (x1 : Int)) x2 m = true) ∧ DrawM.St w B C g (1 + (x1 : Int)) x2 ac2 mv2 vN vB2 wr) (fun n _ _ => cs - (intOf n).toNat)
        case atStart => exact ⟨0, mv, vB, Nat.zero_le _, rfl, HI6, hS6⟩
        case round =>
          clear hS6 HI6
          obtain ⟨j, mv2, vB2, hj, rfl, hI, hS⟩ := hrel
          obtain ⟨b0, b1, b2, b3⟩ := DrawM.box4 hS.bx
          have hcas := l7Cases_any (1 + (x1 : Int)) x2 vN vB2 wr (by omega) (by omega)
          rw [HC1.out] at hcas
          go_wp2_with fail
          refine hcas.mono ?_
          rintro e w3 ⟨rfl, hb3⟩
          have hS3 := hS.below hC hb3
          have hml : mv2.length ≤ 100 := by
            have h9 := hI.out.2.1
            have h8 : k * cs ≤ 8 * 8 := Nat.mul_le_mul hkk hc8
            omega
          clear hcas hb3 hS b0 b1 b2 b3
          by_cases hjc : j < cs
          · have hji : (j : Int) < (cs : Int) := by omega
            obtain ⟨b0, b1, b2, b3⟩ := DrawM.box4 hS3.bx
            have hbl := l1Below_int B C (1 + (x1 : Int)) w3 hS3.dr.1 (by omega) (by omega)
            go_wp2_with fail
            refine hbl.mono ?_
            rintro e w4 ⟨y, hy, rfl, hd4⟩
            have hS4 := hS3.only hC hd4
            have hbm : Below w4.heap.size w4 (w4.alloc (.cells #[.int .i64 (y : Int), .int .i64 (-1)] 45)) := (Below.refl _ _).alloc (Nat.le_refl _) _
            have hS5 := hS4.below hC hbm
            have kx : (w4.alloc (.cells #[.int .i64 (y : Int), .int .i64 (-1)] 45)).heap[w4.heap.size]? = some (.cells #[.int .i64 (y : Int), .int .i64 (-1)] 45 (0, 0)) := heap_alloc_new w4 _
            have hon := l1Once_any B C 2 _ hS5.dr.1 (by omega) (by omega)
            have nA : vN.ownBlock ≠ some w4.heap.size := fun e => by have := (hS4.ra.lt _ e).2; omega
            have nB : vB2.ownBlock ≠ some w4.heap.size := fun e => by have := (hS4.rm.lt _ e).2; omega
            have hg4 := DrawM.blt hS4.bx
            have hr4 := DrawM.blt hS4.rs
            have HS5 := Lib.hid hS5
            have HKX := Lib.hid kx
            clear hbl hS3 hd4 hbm hS5 kx b0 b1 b2 b3 hS4
            go_wp2_with fail
            refine hon.mono ?_
            rintro e w6 ⟨b, rfl, hd6⟩
            have hS6 := HS5.out.only hC hd6
            have k6 := (hd6.2.block w4.heap.size (DrawM.blt HKX.out) (fun e => by injection e with e; omega)).trans HKX.out
            have h46 := hd6.2.size
            rw [World.size_alloc] at h46
            cases b with
            | false =>
              have kc := DrawM.box2 k6
              obtain ⟨x0, xx1⟩ := kc
              have hbn : Below w6.heap.size w6 (w6.alloc (.cells #[.int .i64 (y : Int), .int .i64 (-1)] 45)) := (Below.refl _ _).alloc (Nat.le_refl _) _
              have HSn := Lib.hid (hS6.below hC hbn)
              have hrm := HSn.out.rm
              have hnews := DrawM.one2 (heap_alloc_new w6 (.cells #[.int .i64 (y : Int), .int .i64 (-1)] 45))
              obtain ⟨b0, b1, b2, b3⟩ := DrawM.box4 hS6.bx
              have hsz9 : w.heap.size + 1 ≤ (w6.alloc (.cells #[.int .i64 (y : Int), .int .i64 (-1)] 45)).heap.size := by have h9 := DrawM.blt HSn.out.rs; omega
              have HIM : Hid ((mv2 ++ [((y : Int), (-1))]).length = k * cs + (j + 1) ∧ ∀ m ∈ mv2 ++ [((y : Int), (-1))], mvB (1 + (x1 : Int)) x2 m = true) := Lib.hid (by have h9 := hI.out; refine ⟨by rw [List.length_append, h9.2.1]; rfl, fun m hm => ?_⟩; rcases List.mem_append.1 hm with h8 | h8; exact h9.2.2 m h8; rw [List.mem_singleton.1 h8]; unfold mvB; simp; omega)
              clear hbn k6 HS5 HKX hon hS6 hd6 h46 nA nB
              go_wp2_with (at_builtin; refine wpList_append_lies _ rfl (.tmp 54) (.tmp 56) 25 rfl (w.heap.size + 1) 45 i2 _ 2 16 Try.underlying25 hi2 hy0 hy1 HSM.out rfl (by decide) _ mv2.length _ rfl hrm ⟨w6.heap.size, 0, none⟩ 1 1 [.int .i64 (y : Int), .int .i64 (-1)] rfl rfl hnews (DrawM.move_one _ _) (by decide) ?c3 ?c4 ?c5 _ rfl ?_)
              case c3 => unfold maxLen; omega
              case c4 => omega
              case c5 => exact hsz9
              intro g7 cap7 w9 ho9 hg9 hcase _
              have hS9 := HSn.out.addM hC ho9 hg9
              have K9 := (hg9.block g (DrawM.blt HSn.out.bx) (fun e => DrawM.row_box HSn.out.rm HSn.out.bx (by decide) e.symm)).trans HSn.out.bx
              obtain ⟨t0, t1, t2, t3⟩ := DrawM.box4 K9
              have tz := frozen_of_row _ _ 3 _ _ K9
              have HI9 : Hid (ac2.length = k + 1 ∧ (mv2 ++ [((y : Int), (-1))]).length = k * cs + (j + 1) ∧ ∀ m ∈ mv2 ++ [((y : Int), (-1))], mvB (1 + (x1 : Int)) x2 m = true) := Lib.hid ⟨hI.out.1, HIM.out.1, HIM.out.2⟩
              clear b0 b1 b2 b3 hrm hnews hsz9 ho9 hg9 hcase K9 HIM HSn
              go_wp2
              refine ⟨⟨j + 1, mv2 ++ [((y : Int), (-1))], _, by omega, by go_num, HI9, hS9⟩, ?_⟩
              simp only [intOf]
              omega
            | true =>
              have hbl := l1Below_int B C ((x2 : Int) + 1) w6 hS6.dr.1 (by omega) (by omega)
              obtain ⟨b0, b1, b2, b3⟩ := DrawM.box4 hS6.bx
              clear hon hd6
              go_wp2_with fail
              refine hbl.mono ?_
              rintro e w7 ⟨z, hz, rfl, hd7⟩
              have hS7 := hS6.only hC hd7
              have k7 := (hd7.2.block w4.heap.size (DrawM.blt k6) (fun e => by injection e with e; omega)).trans k6
              obtain ⟨x0, xx1⟩ := DrawM.box2 k7
              have xz := frozen_of_row _ _ 1 _ _ k7
              have hS8 := hS7.setx (xb := w4.heap.size) (o := 1) (v := .int .i64 ((z : Int) - 1)) hC (by omega) (by omega) nA nB
              have hgx : ¬ g = w4.heap.size := by omega
              obtain ⟨p0, p1, p2, p3⟩ := DrawM.box4 hS7.bx
              have hgx2 : ¬ w4.heap.size = g := by omega
              clear hbl hS6 hd7 b0 b1 b2 b3
              have hbn : Below (w7.setCell ⟨w4.heap.size, 1, none⟩ (.int .i64 ((z : Int) - 1))).heap.size (w7.setCell ⟨w4.heap.size, 1, none⟩ (.int .i64 ((z : Int) - 1))) ((w7.setCell ⟨w4.heap.size, 1, none⟩ (.int .i64 ((z : Int) - 1))).alloc (.cells #[.int .i64 (y : Int), .int .i64 ((z : Int) - 1)] 45)) := (Below.refl _ _).alloc (Nat.le_refl _) _
              have HSn := Lib.hid (hS8.below hC hbn)
              have hrm := HSn.out.rm
              have hz7 : (w7.setCell ⟨w4.heap.size, 1, none⟩ (.int .i64 ((z : Int) - 1))).heap.size = w7.heap.size := by simp
              have hnews := DrawM.one2 (heap_alloc_new (w7.setCell ⟨w4.heap.size, 1, none⟩ (.int .i64 ((z : Int) - 1))) (.cells #[.int .i64 (y : Int), .int .i64 ((z : Int) - 1)] 45))
              rw [hz7] at hnews
              clear hz7
              obtain ⟨b0, b1, b2, b3⟩ := DrawM.box4 hS8.bx
              have hsz9 : w.heap.size + 1 ≤ ((w7.setCell ⟨w4.heap.size, 1, none⟩ (.int .i64 ((z : Int) - 1))).alloc (.cells #[.int .i64 (y : Int), .int .i64 ((z : Int) - 1)] 45)).heap.size := by have h9 := DrawM.blt HSn.out.rs; omega
              have HIM : Hid ((mv2 ++ [((y : Int), ((z : Int) - 1))]).length = k * cs + (j + 1) ∧ ∀ m ∈ mv2 ++ [((y : Int), ((z : Int) - 1))], mvB (1 + (x1 : Int)) x2 m = true) := Lib.hid (by have h9 := hI.out; refine ⟨by rw [List.length_append, h9.2.1]; rfl, fun m hm => ?_⟩; rcases List.mem_append.1 hm with h8 | h8; exact h9.2.2 m h8; rw [List.mem_singleton.1 h8]; unfold mvB; simp; omega)
              clear hbn k6 k7 HS5 HKX hS7 hS8 h46 nA nB
              go_wp2_with (at_builtin; refine wpList_append_lies _ rfl (.tmp 54) (.tmp 56) 25 rfl (w.heap.size + 1) 45 i2 _ 2 16 Try.underlying25 hi2 hy0 hy1 HSM.out rfl (by decide) _ mv2.length _ rfl hrm ⟨w7.heap.size, 0, none⟩ 1 1 [.int .i64 (y : Int), .int .i64 ((z : Int) - 1)] rfl rfl hnews (DrawM.move_one _ _) (by decide) ?c3 ?c4 ?c5 _ rfl ?_)
              case c3 => unfold maxLen; omega
              case c4 => omega
              case c5 => exact hsz9
              intro g7 cap7 w9 ho9 hg9 hcase _
              have hS9 := HSn.out.addM hC ho9 hg9
              have K9 := (hg9.block g (DrawM.blt HSn.out.bx) (fun e => DrawM.row_box HSn.out.rm HSn.out.bx (by decide) e.symm)).trans HSn.out.bx
              obtain ⟨t0, t1, t2, t3⟩ := DrawM.box4 K9
              have tz := frozen_of_row _ _ 3 _ _ K9
              have HI9 : Hid (ac2.length = k + 1 ∧ (mv2 ++ [((y : Int), ((z : Int) - 1))]).length = k * cs + (j + 1) ∧ ∀ m ∈ mv2 ++ [((y : Int), ((z : Int) - 1))], mvB (1 + (x1 : Int)) x2 m = true) := Lib.hid ⟨hI.out.1, HIM.out.1, HIM.out.2⟩
              clear b0 b1 b2 b3 hrm hnews hsz9 ho9 hg9 hcase K9 HIM HSn
              go_wp2
              refine ⟨⟨j + 1, mv2 ++ [((y : Int), ((z : Int) - 1))], _, by omega, by go_num, HI9, hS9⟩, ?_⟩
              simp only [intOf]
              omega
          · have e : j = cs := by omega
            subst e
            have HI7 : Hid (ac2.length = k + 1 ∧ mv2.length = (k + 1) * j ∧ ∀ m ∈ mv2, mvB (1 + (x1 : Int)) x2 m = true) := Lib.hid (by have h9 := hI.out; exact ⟨h9.1, by rw [h9.2.1, Nat.succ_mul], h9.2.2⟩)
            go_wp2
            refine ⟨⟨k + 1, ac2, mv2, vN, vB2, by omega, by go_num, HI7, hS3⟩, ?_⟩
            simp only [intOf]
            omega
    · have e : (k : Int) = 1 + (x1 : Int) := by omega
      obtain ⟨A7, c7, hvA⟩ := DrawM.form hS.ra
      obtain ⟨A8, c8, hvB⟩ := DrawM.form hS.rm
      subst hvA
      subst hvB
      obtain ⟨s0, s1, s2, s3⟩ := DrawM.box4 hS.rs
      have z0 := frozen_of_row _ _ 0 _ _ hS.rs
      have z1 := frozen_of_row _ _ 1 _ _ hS.rs
      have z2 := frozen_of_row _ _ 2 _ _ hS.rs
      have z3 := frozen_of_row _ _ 3 _ _ hS.rs
      have HSS := Lib.hid hS
      have q1 := DrawM.set_r hC hS.ra hS.rm hS.dr 0 (.int .i64 (1 + (x1 : Int)))
      have q2 := DrawM.set_r hC q1.1 q1.2.1 q1.2.2 1 (.int .i64 (x2 : Int))
      have q3 := DrawM.set_r hC q2.1 q2.2.1 q2.2.2 2 (.slice A7 ac.length c7)
      have q4 := DrawM.set_r hC q3.1 q3.2.1 q3.2.2 3 (.slice A8 mv.length c8)
      have hmb : machB ⟨1 + (x1 : Int), x2, ac, mv⟩ = true := by
        have h9 := hinv.out
        refine machB_yes ⟨⟨?_, ?_⟩, ?_, ?_⟩ ⟨?_, ?_⟩ ?_
        · show (1 : Int) ≤ 1 + (x1 : Int); omega
        · show 1 + (x1 : Int) ≤ 9; omega
        · show (0 : Int) ≤ x2; omega
        · show (x2 : Int) ≤ 3; omega
        · show ((ac.length : Nat) : Int) = 1 + (x1 : Int); omega
        · show ((mv.length : Nat) : Int) = (1 + (x1 : Int)) * casZ x2
          rw [h9.2.1, HC1.out, ← e, Int.natCast_mul]
        · unfold movB; rw [List.all_eq_true]; exact h9.2.2
      have hpost : Hid (DrawM.Out B C states regs w (.returned (.agg #[.int .i64 (1 + (x1 : Int)), .int .i64 (x2 : Int), (.slice A7 ac.length c7), (.slice A8 mv.length c8)])) ((((wr.setCell ⟨w.heap.size, 0, none⟩ (.int .i64 (1 + (x1 : Int)))).setCell ⟨w.heap.size, 1, none⟩ (.int .i64 (x2 : Int))).setCell ⟨w.heap.size, 2, none⟩ (.slice A7 ac.length c7)).setCell ⟨w.heap.size, 3, none⟩ (.slice A8 mv.length c8))) := Lib.hid ⟨⟨1 + (x1 : Int), x2, ac, mv⟩, (.slice A7 ac.length c7), (.slice A8 mv.length c8), rfl, hmb, by show 1 + (x1 : Int) ≤ states; omega, by show (x2 : Int) ≤ regs; omega, q4.1, q4.2.1, q4.2.2⟩
      clear q1 q2 q3 q4 hmb hS hinv e
      go_wp2
      exact bodyPost_ret (v := .agg #[.int .i64 (1 + (x1 : Int)), .int .i64 (x2 : Int), (.slice A7 ac.length c7), (.slice A8 mv.length c8)]) (by simp [results, Try.results13, go_sem, s0, s1, s2, s3]) rfl hpost.out
end Go.Proofs.Ythacnbeckhdhiaa
end

section
namespace Go.Proofs.Ythacnbeckhdhiaa
open Go.RowKit Go.Sort
set_option linter.unusedVariables false

namespace DrawM
/-- Two drawn machines: the first one is valid. -/
def Two (w : World) (e : Ending) (w' : World) : Prop :=
  ∃ (t : Mach) (A B A2 B2 : Option Addr) (c d c2 d2 n2 m2 : Nat) (s2 r2 : Int), e = .returned (.tuple #[.agg #[.int .i64 t.st, .int .i64 t.rg, .slice A t.ac.length c, .slice B t.mv.length d], .agg #[.int .i64 s2, .int .i64 r2, .slice A2 n2 c2, .slice B2 m2 d2]]) ∧ machB t = true ∧ t.st ≤ 3 ∧ t.rg ≤ 2 ∧ MachIx w' (.agg #[.int .i64 t.st, .int .i64 t.rg, .slice A t.ac.length c, .slice B t.mv.length d]) t ∧ Below w.heap.size w w'
/-- The contract of DrawMachines: to be proved. -/
def MachinesP : Prop := ∀ (A : Option Addr) (n c : Nat) (w : World), BytesIn w A n → n ≤ 1048576 → Calls Try.prog 5 #[.slice A n c] w (Two w)
end DrawM
end Go.Proofs.Ythacnbeckhdhiaa
end

section
namespace Go.Proofs.Ythacnbeckhdhiaa
open Go.RowKit Go.Sort
set_option linter.unusedVariables false

namespace Twin
/-- The parameter's box, the answer's box, the rows to be copied. -/
structure T (w : World) (B C base : Nat) (st rg : Int) (ac : List Bool) (mv : List (Int × Int)) (vA vB : Value) (wr : World) : Prop where
  pb : wr.heap[w.heap.size]? = some (.cells #[.int .i64 st, .int .i64 rg, vA, vB] 27 (0, 0))
  rs : wr.heap[w.heap.size + 1]? = some (.cells #[.int .i64 0, .int .i64 0, .slice none 0 0, .slice none 0 0] 27 (0, 0))
  ra : wr.ownsRow base 4 1 vA ac.length (bcells ac)
  rm : wr.ownsRow base 45 2 vB mv.length (cellsOf mv)
  dr : Drew B C (w.alloc (.cells #[.int .i64 st, .int .i64 rg, vA, vB] 27)) wr
  d1 : Drew B C w (w.alloc (.cells #[.int .i64 st, .int .i64 rg, vA, vB] 27))
  na : ∀ k, vA.ownBlock = some k → k < w.heap.size
  nb : ∀ k, vB.ownBlock = some k → k < w.heap.size
theorem T.below {w : World} {B C base : Nat} {st rg : Int} {ac : List Bool} {mv : List (Int × Int)} {vA vB : Value} {wr w' : World} (h : T w B C base st rg ac mv vA vB wr) (hC : C < w.heap.size) (hb : Below wr.heap.size wr w') : T w B C base st rg ac mv vA vB w' :=
  ⟨(hb.block _ (DrawM.blt h.pb)).trans h.pb, (hb.block _ (DrawM.blt h.rs)).trans h.rs, own_below h.ra hb, own_below h.rm hb, DrawM.below_drew (by rw [World.size_alloc]; omega) h.dr hb, h.d1, h.na, h.nb⟩
theorem T.grown {w : World} {B C base : Nat} {st rg : Int} {ac : List Bool} {mv : List (Int × Int)} {vA vB v : Value} {wr w' : World} (h : T w B C base st rg ac mv vA vB wr) (hC : C < w.heap.size) (hg : wr.grownBy w' v.ownBlock) (hv : ∀ k, v.ownBlock = some k → w.heap.size + 2 ≤ k) : T w B C base st rg ac mv vA vB w' := by
  refine ⟨(hg.block _ (DrawM.blt h.pb) (fun e => by have := hv _ e.symm; omega)).trans h.pb, (hg.block _ (DrawM.blt h.rs) (fun e => by have := hv _ e.symm; omega)).trans h.rs, h.ra.kept hg ?_, h.rm.kept hg ?_, DrawN.drew_grown (by rw [World.size_alloc]; omega) h.dr hg (fun k hk => by have := hv k hk; rw [World.size_alloc]; omega), h.d1, h.na, h.nb⟩
  · cases hk : vA.ownBlock with
    | none => exact .inl rfl
    | some k => exact .inr fun e => by have := h.na k hk; have := hv k e.symm; omega
  · cases hk : vB.ownBlock with
    | none => exact .inl rfl
    | some k => exact .inr fun e => by have := h.nb k hk; have := hv k e.symm; omega
/-- An empty row of its own. -/
theorem lit0 (w : World) (base : Nat) (e : TypeId) (size : Nat) (hb : base ≤ w.heap.size) : (w.alloc (.cells #[] e)).ownsRow base e size (.slice (some ⟨w.heap.size, 0, none⟩) 0 0) 0 [] :=
  World.ownsRow_lit (base := base) (e := e) (size := size) w #[] 0 hb (by decide) (by simp)
theorem lit0g (w : World) (base : Nat) (e : TypeId) (size g : Nat) (hb : base ≤ w.heap.size) (hg : g = w.heap.size) : (w.alloc (.cells #[] e)).ownsRow base e size (.slice (some ⟨g, 0, none⟩) 0 0) 0 [] := by
  subst hg
  exact lit0 w base e size hb
/-- Behind the first region: the two boxes lie. -/
theorem T.start {w : World} {B C base : Nat} {st rg : Int} {ac : List Bool} {mv : List (Int × Int)} {vA vB : Value} (hc : Cur w B C) (ra : w.ownsRow base 4 1 vA ac.length (bcells ac)) (rm : w.ownsRow base 45 2 vB mv.length (cellsOf mv)) : T w B C base st rg ac mv vA vB ((w.alloc (.cells #[.int .i64 st, .int .i64 rg, vA, vB] 27)).alloc (.cells #[.int .i64 0, .int .i64 0, .slice none 0 0, .slice none 0 0] 27)).drew := by
  have hC := hc.lt
  have hp := heap_alloc_new w (.cells #[.int .i64 st, .int .i64 rg, vA, vB] 27)
  have hb1 : Below w.heap.size w (w.alloc (.cells #[.int .i64 st, .int .i64 rg, vA, vB] 27)) := (Below.refl _ _).alloc (Nat.le_refl _) _
  have hr := heap_alloc_new (w.alloc (.cells #[.int .i64 st, .int .i64 rg, vA, vB] 27)) (.cells #[.int .i64 0, .int .i64 0, .slice none 0 0, .slice none 0 0] 27)
  have hb2 : Below (w.alloc (.cells #[.int .i64 st, .int .i64 rg, vA, vB] 27)).heap.size (w.alloc (.cells #[.int .i64 st, .int .i64 rg, vA, vB] 27)) ((w.alloc (.cells #[.int .i64 st, .int .i64 rg, vA, vB] 27)).alloc (.cells #[.int .i64 0, .int .i64 0, .slice none 0 0, .slice none 0 0] 27)) := (Below.refl _ _).alloc (Nat.le_refl _) _
  have hsz : (w.alloc (.cells #[.int .i64 st, .int .i64 rg, vA, vB] 27)).heap.size = w.heap.size + 1 := by simp
  rw [hsz] at hr
  have hT0 : T w B C base st rg ac mv vA vB ((w.alloc (.cells #[.int .i64 st, .int .i64 rg, vA, vB] 27)).alloc (.cells #[.int .i64 0, .int .i64 0, .slice none 0 0, .slice none 0 0] 27)) :=
    ⟨(hb2.block _ (DrawM.blt hp)).trans hp, hr, own_below (own_below ra hb1) hb2, own_below (own_below rm hb1) hb2, DrawM.below_drew (by rw [World.size_alloc]; omega) (Drew.of (hc.alloc _)) hb2, (Drew.of hc).alloc _, fun k hk => (ra.lt k hk).2, fun k hk => (rm.lt k hk).2⟩
  have hw : Below ((w.alloc (.cells #[.int .i64 st, .int .i64 rg, vA, vB] 27)).alloc (.cells #[.int .i64 0, .int .i64 0, .slice none 0 0, .slice none 0 0] 27)).heap.size ((w.alloc (.cells #[.int .i64 st, .int .i64 rg, vA, vB] 27)).alloc (.cells #[.int .i64 0, .int .i64 0, .slice none 0 0, .slice none 0 0] 27)) ((w.alloc (.cells #[.int .i64 st, .int .i64 rg, vA, vB] 27)).alloc (.cells #[.int .i64 0, .int .i64 0, .slice none 0 0, .slice none 0 0] 27)).drew := ⟨rfl, rfl, rfl, Nat.le_refl _, fun _ _ => rfl⟩
  exact hT0.below hC hw
theorem bool_ones (l : List Bool) : ∀ u ∈ bcells l, u.oneCell' = true := by
  intro u hu
  unfold bcells at hu
  obtain ⟨b, _, rfl⟩ := List.mem_map.1 hu
  rfl
theorem pair_ones (l : List (Int × Int)) : ∀ u ∈ cellsOf l, u.oneCell' = true := by
  intro u hu
  unfold cellsOf at hu
  obtain ⟨p, _, hp⟩ := List.mem_flatMap.1 hu
  simp at hp
  rcases hp with rfl | rfl <;> rfl
/-- The step of a copy onto an empty row of its own, in a region that draws its order. -/
theorem step_copyA {w wr : World} {B C base : Nat} {st rg : Int} {ac : List Bool} {mv : List (Int × Int)} {vA vB : Value} {ops : Array Oper} {o : Oper} {a : Act} {K : Act → World → Prop} {Q : Exit → Act → World → Prop} {E : Prop} (hT : T w B C base st rg ac mv vA vB wr) (hC : C < w.heap.size) (hgd : o.guard = none) (s x : Operand)
    (ho : o.op = .call { callee := .builtin .append, args := #[s, x], argTypes := #[24, 24] }) (hp : 0 < ac.length) (hm : ac.length ≤ 1000000) (gv : Nat) (hs : a.eval s = .slice (some ⟨gv, 0, none⟩) 0 0) (hx : a.eval x = vA) (hv : wr.ownsRow (w.heap.size + 2) 4 1 (.slice (some ⟨gv, 0, none⟩) 0 0) 0 [])
    (h : ∀ g cap w', w'.ownsRow (w.heap.size + 2) 4 1 (.slice (some ⟨g, 0, none⟩) ac.length cap) ac.length (bcells ac) → T w B C base st rg ac mv vA vB w' → wr.grownBy w' (some gv) → K (a.put o.dst (.slice (some ⟨g, 0, none⟩) ac.length cap)) w') :
    if Region.wanted o (yielded ops a.tmps) = true then Oper.wp Try.prog o a wr K Q else E := by
  obtain ⟨i1, hi1, hz0, hz1, hz2⟩ := info_parts bool_info
  have hr := hT.ra
  obtain ⟨g0, c0, hg0, _, _⟩ := hr.form hp
  have hcell := hr.cells (g := g0) (by rw [hg0]; rfl)
  have hsz : w.heap.size + 2 ≤ wr.heap.size := by have := DrawM.blt hT.rs; omega
  refine step_append_lies wr hgd s x 24 ho (w.heap.size + 2) 4 i1 (.bool false) 1 1 Try.underlying24 hi1 hz0 hz1 hz2 rfl (by decide) _ 0 [] hs hv ⟨g0, 0, none⟩ ac.length c0 (bcells ac) (by rw [hx, hg0]) (by rw [bcells_len]; try omega) hcell (bool_ones ac) hp (by unfold maxLen; omega) (by omega) hsz wr.heap.size rfl ?_
  intro g cap w' h1 h2 _ _
  rw [Nat.zero_add] at h1 ⊢
  rw [List.nil_append] at h1
  exact h g cap w' h1 (hT.grown hC h2 (fun k hk => (hv.lt k hk).1)) h2
/-- The step of a copy onto an empty row of its own, in a region that draws its order. -/
theorem step_copyM {w wr : World} {B C base : Nat} {st rg : Int} {ac : List Bool} {mv : List (Int × Int)} {vA vB : Value} {ops : Array Oper} {o : Oper} {a : Act} {K : Act → World → Prop} {Q : Exit → Act → World → Prop} {E : Prop} (hT : T w B C base st rg ac mv vA vB wr) (hC : C < w.heap.size) (hgd : o.guard = none) (s x : Operand)
    (ho : o.op = .call { callee := .builtin .append, args := #[s, x], argTypes := #[25, 25] }) (hp : 0 < mv.length) (hm : mv.length ≤ 1000000) (gv : Nat) (hs : a.eval s = .slice (some ⟨gv, 0, none⟩) 0 0) (hx : a.eval x = vB) (hv : wr.ownsRow (w.heap.size + 2) 45 2 (.slice (some ⟨gv, 0, none⟩) 0 0) 0 [])
    (h : ∀ g cap w', w'.ownsRow (w.heap.size + 2) 45 2 (.slice (some ⟨g, 0, none⟩) mv.length cap) mv.length (cellsOf mv) → T w B C base st rg ac mv vA vB w' → wr.grownBy w' (some gv) → K (a.put o.dst (.slice (some ⟨g, 0, none⟩) mv.length cap)) w') :
    if Region.wanted o (yielded ops a.tmps) = true then Oper.wp Try.prog o a wr K Q else E := by
  obtain ⟨i1, hi1, hz0, hz1, hz2⟩ := info_parts move_info
  have hr := hT.rm
  obtain ⟨g0, c0, hg0, _, _⟩ := hr.form hp
  have hcell := hr.cells (g := g0) (by rw [hg0]; rfl)
  have hsz : w.heap.size + 2 ≤ wr.heap.size := by have := DrawM.blt hT.rs; omega
  refine step_append_lies wr hgd s x 25 ho (w.heap.size + 2) 45 i1 _ 2 16 Try.underlying25 hi1 hz0 hz1 hz2 rfl (by decide) _ 0 [] hs hv ⟨g0, 0, none⟩ mv.length c0 (cellsOf mv) (by rw [hx, hg0]) (by rw [cellsOf_len]; try omega) hcell (pair_ones mv) hp (by unfold maxLen; omega) (by omega) hsz wr.heap.size rfl ?_
  intro g cap w' h1 h2 _ _
  rw [Nat.zero_add] at h1 ⊢
  rw [List.nil_append] at h1
  exact h g cap w' h1 (hT.grown hC h2 (fun k hk => (hv.lt k hk).1)) h2
/-- One cell of the box is written. -/
theorem set_one {w0 W : World} {B C b0 n m g r o : Nat} {vA vB v : Value} {xs ys : List Value} {cs : Array Value} {O : Obj} (ha : W.ownsRow b0 4 1 vA n xs) (hm : W.ownsRow b0 45 2 vB m ys) (hd : Drew B C w0 W) (hr : W.heap[r]? = some O) (hb : W.heap[g]? = some (.cells cs 27 (0, 0))) (hgr : r ≠ g) (hC : C < w0.heap.size) (hg : w0.heap.size ≤ g) :
    (W.setCell ⟨g, o, none⟩ v).ownsRow b0 4 1 vA n xs ∧ (W.setCell ⟨g, o, none⟩ v).ownsRow b0 45 2 vB m ys ∧ Drew B C w0 (W.setCell ⟨g, o, none⟩ v) ∧ (W.setCell ⟨g, o, none⟩ v).heap[r]? = some O := by
  have hs := DrawM.grown_set W g o v
  exact ⟨ha.kept hs (.inr (DrawM.row_box ha hb (by decide))), hm.kept hs (.inr (DrawM.row_box hm hb (by decide))), DrawN.drew_grown hC hd hs (fun k hk => by injection hk with hk; omega), (hs.block r (DrawM.blt hr) (fun e => by injection e with e; exact hgr e)).trans hr⟩
/-- Behind the first region: the copy lies in a box of its own. -/
theorem T.fin {w : World} {B C base : Nat} {st rg : Int} {ac : List Bool} {mv : List (Int × Int)} {vA vB : Value} {wr : World} (h : T w B C base st rg ac mv vA vB wr) (hC : C < w.heap.size) {g : Nat} {vA2 vB2 : Value} (hb : wr.heap[g]? = some (.cells #[.int .i64 0, .int .i64 0, .slice none 0 0, .slice none 0 0] 27 (0, 0)))
    (ha : wr.ownsRow (w.heap.size + 2) 4 1 vA2 ac.length (bcells ac)) (hm : wr.ownsRow (w.heap.size + 2) 45 2 vB2 mv.length (cellsOf mv)) (hg : w.heap.size + 2 ≤ g) :
    ∃ w1 : World, w1.heap.size = w.heap.size + 1 ∧ Drew B C w w1 ∧ DrawM.St w1 B C g st rg ac mv vA2 vB2 ((((wr.setCell ⟨g, 0, none⟩ (.int .i64 st)).setCell ⟨g, 1, none⟩ (.int .i64 rg)).setCell ⟨g, 2, none⟩ vA2).setCell ⟨g, 3, none⟩ vB2) := by
  have hz : (w.alloc (.cells #[.int .i64 st, .int .i64 rg, vA, vB] 27)).heap.size = w.heap.size + 1 := World.size_alloc ..
  have hd := h.dr
  have hd1 := h.d1
  have hr := h.rs
  generalize w.alloc (.cells #[.int .i64 st, .int .i64 rg, vA, vB] 27) = w1 at hz hd hd1
  have k0 := heap_setCell_same wr g 0 _ _ (.int .i64 st) hb
  obtain ⟨ha, hm, hd, hr⟩ := set_one (o := 0) (v := .int .i64 st) ha hm hd hr hb (by omega) (by omega) (by omega)
  have k1 := heap_setCell_same _ g 1 _ _ (.int .i64 rg) k0
  obtain ⟨ha, hm, hd, hr⟩ := set_one (o := 1) (v := .int .i64 rg) ha hm hd hr k0 (by omega) (by omega) (by omega)
  have k2 := heap_setCell_same _ g 2 _ _ vA2 k1
  obtain ⟨ha, hm, hd, hr⟩ := set_one (o := 2) (v := vA2) ha hm hd hr k1 (by omega) (by omega) (by omega)
  have k3 := heap_setCell_same _ g 3 _ _ vB2 k2
  obtain ⟨ha, hm, hd, hr⟩ := set_one (o := 3) (v := vB2) ha hm hd hr k2 (by omega) (by omega) (by omega)
  exact ⟨w1, hz, hd1, k3, by rw [hz]; exact hr, by rw [hz]; exact ha, by rw [hz]; exact hm, hd, by omega⟩
/-- Behind the first region, where the box is made last. -/
theorem T.fin2 {w : World} {B C base : Nat} {st rg : Int} {ac : List Bool} {mv : List (Int × Int)} {vA vB : Value} {wr : World} (h : T w B C base st rg ac mv vA vB wr) (hC : C < w.heap.size) {vA2 vB2 : Value}
    (ha : wr.ownsRow (w.heap.size + 2) 4 1 vA2 ac.length (bcells ac)) (hm : wr.ownsRow (w.heap.size + 2) 45 2 vB2 mv.length (cellsOf mv)) :
    ∃ w1 : World, w1.heap.size = w.heap.size + 1 ∧ Drew B C w w1 ∧ DrawM.St w1 B C wr.heap.size st rg ac mv vA2 vB2 (wr.alloc (.cells #[.int .i64 st, .int .i64 rg, vA2, vB2] 27)) := by
  have hz : (w.alloc (.cells #[.int .i64 st, .int .i64 rg, vA, vB] 27)).heap.size = w.heap.size + 1 := World.size_alloc ..
  have hd := h.dr
  have hd1 := h.d1
  have hr := h.rs
  have hl := DrawM.blt hr
  generalize w.alloc (.cells #[.int .i64 st, .int .i64 rg, vA, vB] 27) = w1 at hz hd hd1
  exact ⟨w1, hz, hd1, heap_alloc_new wr _, by rw [hz]; exact (Below.heap_alloc wr _ _ hl).trans hr, by rw [hz]; exact ha.alloc _, by rw [hz]; exact hm.alloc _, hd.alloc _, by omega⟩
/-- The copy's box and the answer's box, wherever the rows stand. -/
structure Lies (w : World) (B C g : Nat) (st rg : Int) (vA vB : Value) (wr : World) : Prop where
  bx : wr.heap[g]? = some (.cells #[.int .i64 st, .int .i64 rg, vA, vB] 27 (0, 0))
  rs : wr.heap[w.heap.size + 1]? = some (.cells #[.int .i64 0, .int .i64 0, .slice none 0 0, .slice none 0 0] 27 (0, 0))
  dr : Drew B C w wr
theorem lies {w w1 wr : World} {B C g : Nat} {st rg : Int} {ac : List Bool} {mv : List (Int × Int)} {vA vB : Value} (hz : w1.heap.size = w.heap.size + 1) (hd : Drew B C w w1) (h : DrawM.St w1 B C g st rg ac mv vA vB wr) : Lies w B C g st rg vA vB wr :=
  ⟨h.bx, by rw [← hz]; exact h.rs, hd.trans h.dr⟩
theorem Lies.put {w wr : World} {B C g gR o : Nat} {st rg : Int} {vA vB v : Value} (h : Lies w B C g st rg vA vB wr) (hC : C < w.heap.size) (h1 : gR ≠ g) (h2 : w.heap.size + 2 ≤ gR) : Lies w B C g st rg vA vB (wr.setCell ⟨gR, o, none⟩ v) := by
  have hs := DrawM.grown_set wr gR o v
  exact ⟨(hs.block g (DrawM.blt h.bx) (fun e => by injection e with e; omega)).trans h.bx, (hs.block _ (DrawM.blt h.rs) (fun e => by injection e with e; omega)).trans h.rs, DrawN.drew_grown hC h.dr hs (fun k hk => by injection hk with hk; omega)⟩
theorem Lies.setB {w w1 wr : World} {B C g gB cB o : Nat} {st rg : Int} {ac : List Bool} {mv : List (Int × Int)} {vA v : Value} (h : Lies w B C g st rg vA (.slice (some ⟨gB, 0, none⟩) mv.length cB) wr) (hC : C < w.heap.size) (hS : DrawM.St w1 B C g st rg ac mv vA (.slice (some ⟨gB, 0, none⟩) mv.length cB) wr) (hz : w1.heap.size = w.heap.size + 1) : Lies w B C g st rg vA (.slice (some ⟨gB, 0, none⟩) mv.length cB) (wr.setCell ⟨gB, o, none⟩ v) :=
  h.put hC (fun e => DrawM.row_box hS.rm hS.bx (by decide) (by rw [← e]; rfl)) (by have := (hS.rm.lt gB rfl).1; omega)
theorem Lies.setA {w w1 wr : World} {B C g gA cA o : Nat} {st rg : Int} {ac : List Bool} {mv : List (Int × Int)} {vB v : Value} (h : Lies w B C g st rg (.slice (some ⟨gA, 0, none⟩) ac.length cA) vB wr) (hC : C < w.heap.size) (hS : DrawM.St w1 B C g st rg ac mv (.slice (some ⟨gA, 0, none⟩) ac.length cA) vB wr) (hz : w1.heap.size = w.heap.size + 1) : Lies w B C g st rg (.slice (some ⟨gA, 0, none⟩) ac.length cA) vB (wr.setCell ⟨gA, o, none⟩ v) :=
  h.put hC (fun e => DrawM.row_box hS.ra hS.bx (by decide) (by rw [← e]; rfl)) (by have := (hS.ra.lt gA rfl).1; omega)
theorem Lies.drew {w wr : World} {B C g : Nat} {st rg : Int} {vA vB : Value} (h : Lies w B C g st rg vA vB wr) (hC : C < w.heap.size) : Lies w B C g st rg vA vB wr.drew :=
  ⟨h.bx, h.rs, DrawM.below_drew hC h.dr ⟨rfl, rfl, rfl, Nat.le_refl _, fun _ _ => rfl⟩⟩
theorem Lies.back {w wr : World} {B C g : Nat} {st rg : Int} {vA vB v0 v1 v2 v3 : Value} (h : Lies w B C g st rg vA vB wr) (hC : C < w.heap.size) : Drew B C w ((((wr.setCell ⟨w.heap.size + 1, 0, none⟩ v0).setCell ⟨w.heap.size + 1, 1, none⟩ v1).setCell ⟨w.heap.size + 1, 2, none⟩ v2).setCell ⟨w.heap.size + 1, 3, none⟩ v3) := by
  have one : ∀ (W : World) (o : Nat) (v : Value), Drew B C w W → Drew B C w (W.setCell ⟨w.heap.size + 1, o, none⟩ v) := fun W o v hd => DrawN.drew_grown hC hd (DrawM.grown_set W _ o v) (fun k hk => by injection hk with hk; omega)
  exact one _ _ _ (one _ _ _ (one _ _ _ (one _ _ _ h.dr)))
theorem mv_cell (l : List (Int × Int)) (k : Nat) (hk : k < l.length) : (cellsOf l)[k * 2]? = some (.int .i64 (prAt l k).1) := by
  exact (cellsOf_at l k hk).1
theorem ac_cell (l : List Bool) (k : Nat) (hk : k < l.length) : ∃ b : Bool, (bcells l)[k]? = some (.bool b) := by
  unfold bcells
  exact ⟨l[k], by simp [hk]⟩
end Twin
end Go.Proofs.Ythacnbeckhdhiaa
end

section
namespace Go.Proofs.Ythacnbeckhdhiaa
open Go.RowKit Go.Sort
set_option linter.unusedVariables false
namespace Twin
theorem T.al {w : World} {B C base : Nat} {st rg : Int} {ac : List Bool} {mv : List (Int × Int)} {vA vB : Value} {wr : World} (h : T w B C base st rg ac mv vA vB wr) (hC : C < w.heap.size) (o : Obj) : T w B C base st rg ac mv vA vB (wr.alloc o) := h.below hC ((Below.refl _ _).alloc (Nat.le_refl _) _)
theorem T.room {w : World} {B C base : Nat} {st rg : Int} {ac : List Bool} {mv : List (Int × Int)} {vA vB : Value} {wr : World} (h : T w B C base st rg ac mv vA vB wr) : w.heap.size + 2 ≤ wr.heap.size := by
  have := DrawM.blt h.rs
  omega
theorem far {wr w' : World} {gv g : Nat} {o : Obj} (hg : wr.grownBy w' (some gv)) (h : wr.heap[g]? = some o) (hn : g ≠ gv) : w'.heap[g]? = some o := (hg.block g (DrawM.blt h) (fun e => hn (by injection e))).trans h
theorem boxg (wr : World) (o : Obj) (g : Nat) (hg : g = wr.heap.size) : (wr.alloc o).heap[g]? = some o := by
  subst hg
  exact heap_alloc_new wr o
theorem drew_al {w : World} {o : Obj} {a : Addr} {v : Value} (h : w.drew.cell? a = some v) : (w.alloc o).drew.cell? a = some v := by
  have h1 : (w.drew.alloc o).cell? a = some v := (World.cell?_alloc_some w.drew a o (by rw [h]; rfl)).trans h
  exact h1
theorem keepA {wr w' : World} {gv b n : Nat} {vA : Value} {xs : List Value} (hg : wr.grownBy w' (some gv)) (hM : wr.ownsRow b 45 2 (.slice (some ⟨gv, 0, none⟩) 0 0) 0 []) (hA : wr.ownsRow b 4 1 vA n xs) : w'.ownsRow b 4 1 vA n xs :=
  hA.kept hg (.inr (DrawM.row_row hM hA (by decide) gv rfl))
theorem olt {wr : World} {base size n g o c : Nat} {e : TypeId} {xs : List Value} (h : wr.ownsRow base e size (.slice (some ⟨g, o, none⟩) n c) n xs) : g < wr.heap.size := (h.lt g rfl).2
theorem boxm {wr : World} {g : Nat} {o : Obj} (h : wr.heap[g]? = some o) (o' : Obj) : (wr.alloc o').heap[g]? = some o := (Below.heap_alloc wr o' g (DrawM.blt h)).trans h
theorem mach_len {t : Mach} (h : machB t = true) : 0 < t.ac.length ∧ t.ac.length ≤ 1000000 ∧ 0 < t.mv.length ∧ t.mv.length ≤ 1000000 := by
  have hg := good_of h
  have h1 := hg.s1
  have h2 := hg.s9
  have h3 := hg.al
  have h4 := hg.ml
  rcases casZ_of hg.r0 hg.r3 with ⟨_, h5⟩ | ⟨_, h5⟩ | ⟨_, h5⟩ | ⟨_, h5⟩ <;> rw [h5] at h4 <;> omega
/-- What stands behind the first region. -/
def Fin (w : World) (B C : Nat) (t : Mach) (g : Nat) (vA vB : Value) (wx : World) : Prop := ∃ w1 : World, w1.heap.size = w.heap.size + 1 ∧ Drew B C w w1 ∧ DrawM.St w1 B C g t.st t.rg t.ac t.mv vA vB wx
end Twin
set_option maxRecDepth 100000 in
set_option maxHeartbeats 16000000 in
theorem l7Twin_any (B C base : Nat) (t : Mach) (A1 B1 : Option Addr) (c1 d1 : Nat) (w : World) (hm : machB t = true) (hc : Cur w B C) (hCb : C < base) (ra : w.ownsRow base 4 1 (.slice A1 t.ac.length c1) t.ac.length (bcells t.ac)) (rm : w.ownsRow base 45 2 (.slice B1 t.mv.length d1) t.mv.length (cellsOf t.mv)) :
    Calls Try.prog 15 #[.pointer (some ⟨C, 0, none⟩), .agg #[.int .i64 t.st, .int .i64 t.rg, .slice A1 t.ac.length c1, .slice B1 t.mv.length d1]] w fun e w' => ∃ (s2 r2 : Int) (A2 B2 : Option Addr) (n2 c2 m2 d2 : Nat), e = .returned (.agg #[.int .i64 s2, .int .i64 r2, .slice A2 n2 c2, .slice B2 m2 d2]) ∧ Drew B C w w' := by
  obtain ⟨i1, hi1, hz0, hz1, hz2⟩ := info_parts bool_info
  obtain ⟨i2, hi2, hy0, hy1, hy2⟩ := info_parts move_info
  have HS := Lib.hid hz2
  have HSM := Lib.hid hy2
  clear hz2 hy2
  have hC := hc.lt
  have hT := Twin.T.start (st := t.st) (rg := t.rg) hc ra rm
  obtain ⟨b0, b1, b2, b3⟩ := DrawM.box4 hT.pb
  have HT := Lib.hid hT
  have HZ := Lib.hid (Twin.T.room hT)
  clear hT hc ra rm
  have h9 := Twin.mach_len hm
  go_enter Try.func15, Try.ntmps15
  go_upto_region 1 with fail
  go_cut [5] (fun s wx => ∃ (g gA gB cA cB : Nat), s = .pointer (some ⟨g, 0, none⟩) ∧ Twin.Fin w B C t g (.slice (some ⟨gA, 0, none⟩) t.ac.length cA) (.slice (some ⟨gB, 0, none⟩) t.mv.length cB) wx)
  case first =>
    go_region_held3 (fun w' => w'.cell? ⟨w.heap.size, 0, none⟩ = some (.int .i64 t.st) ∧ w'.cell? ⟨w.heap.size, 1, none⟩ = some (.int .i64 t.rg) ∧ w'.cell? ⟨w.heap.size, 2, none⟩ = some (.slice A1 t.ac.length c1) ∧ w'.cell? ⟨w.heap.size, 3, none⟩ = some (.slice B1 t.mv.length d1))
      (first | ((try dsimp only); (with_reducible exact ⟨by assumption, by assumption, by assumption, by assumption⟩)) | (go_split_ands; with_reducible exact ⟨Twin.drew_al (by assumption), Twin.drew_al (by assumption), Twin.drew_al (by assumption), Twin.drew_al (by assumption)⟩) | go_keep)
      (first
        | (refine Twin.step_copyA (by first | exact HT.out | exact HT.out.al hC _ | exact (HT.out.al hC _).al hC _ | exact ((HT.out.al hC _).al hC _).al hC _ | fail) hC (by rfl) _ _ (by rfl) h9.1 h9.2.1 _ (by rfl) (by rfl) (by first | exact HO.out | exact HO.out.alloc _ | exact Twin.lit0g _ _ _ _ _ (by first | (have hz := HZ.out; (try simp only [World.size_alloc] at hz ⊢); omega) | (have hz := HZA.out; (try simp only [World.size_alloc] at hz ⊢); omega) | fail) (by first | rfl | (simp; done) | (simp only [World.size_alloc]; omega) | fail) | exact (Twin.lit0g _ _ _ _ _ (by first | (have hz := HZ.out; (try simp only [World.size_alloc] at hz ⊢); omega) | (have hz := HZA.out; (try simp only [World.size_alloc] at hz ⊢); omega) | fail) (by first | rfl | (simp; done) | (simp only [World.size_alloc]; omega) | fail)).alloc _ | exact ((Twin.lit0g _ _ _ _ _ (by first | (have hz := HZ.out; (try simp only [World.size_alloc] at hz ⊢); omega) | (have hz := HZA.out; (try simp only [World.size_alloc] at hz ⊢); omega) | fail) (by first | rfl | (simp; done) | (simp only [World.size_alloc]; omega) | fail)).alloc _).alloc _ | fail) ?_; intro gA capA wA hoA hTA hgA; have HT := Lib.hid hTA; have HZ := Lib.hid (Twin.T.room hTA); have HZA := HZ; obtain ⟨b0, b1, b2, b3⟩ := DrawM.box4 hTA.pb; have HOA := Lib.hid hoA; (try (have HO := Lib.hid (show wA.ownsRow (w.heap.size + 2) 45 2 (.slice (some ⟨w.heap.size + 1 + 1, 0, none⟩) 0 0) 0 [] from World.ownsRow.kept (by first | exact HO.out | exact HO.out.alloc _ | exact Twin.lit0g _ _ _ _ _ (by first | (have hz := HZ.out; (try simp only [World.size_alloc] at hz ⊢); omega) | (have hz := HZA.out; (try simp only [World.size_alloc] at hz ⊢); omega) | fail) (by first | rfl | (simp; done) | (simp only [World.size_alloc]; omega) | fail) | exact (Twin.lit0g _ _ _ _ _ (by first | (have hz := HZ.out; (try simp only [World.size_alloc] at hz ⊢); omega) | (have hz := HZA.out; (try simp only [World.size_alloc] at hz ⊢); omega) | fail) (by first | rfl | (simp; done) | (simp only [World.size_alloc]; omega) | fail)).alloc _ | exact ((Twin.lit0g _ _ _ _ _ (by first | (have hz := HZ.out; (try simp only [World.size_alloc] at hz ⊢); omega) | (have hz := HZA.out; (try simp only [World.size_alloc] at hz ⊢); omega) | fail) (by first | rfl | (simp; done) | (simp only [World.size_alloc]; omega) | fail)).alloc _).alloc _ | fail) hgA (.inr (by first | (simp [Value.ownBlock]; done) | (simp [Value.ownBlock]; omega) | fail))))); (try (have HO := Lib.hid (show wA.ownsRow (w.heap.size + 2) 45 2 (.slice (some ⟨w.heap.size + 1 + 1 + 1, 0, none⟩) 0 0) 0 [] from World.ownsRow.kept (by first | exact HO.out | exact HO.out.alloc _ | exact Twin.lit0g _ _ _ _ _ (by first | (have hz := HZ.out; (try simp only [World.size_alloc] at hz ⊢); omega) | (have hz := HZA.out; (try simp only [World.size_alloc] at hz ⊢); omega) | fail) (by first | rfl | (simp; done) | (simp only [World.size_alloc]; omega) | fail) | exact (Twin.lit0g _ _ _ _ _ (by first | (have hz := HZ.out; (try simp only [World.size_alloc] at hz ⊢); omega) | (have hz := HZA.out; (try simp only [World.size_alloc] at hz ⊢); omega) | fail) (by first | rfl | (simp; done) | (simp only [World.size_alloc]; omega) | fail)).alloc _ | exact ((Twin.lit0g _ _ _ _ _ (by first | (have hz := HZ.out; (try simp only [World.size_alloc] at hz ⊢); omega) | (have hz := HZA.out; (try simp only [World.size_alloc] at hz ⊢); omega) | fail) (by first | rfl | (simp; done) | (simp only [World.size_alloc]; omega) | fail)).alloc _).alloc _ | fail) hgA (.inr (by first | (simp [Value.ownBlock]; done) | (simp [Value.ownBlock]; omega) | fail))))); (try (have HO := Lib.hid (show wA.ownsRow (w.heap.size + 2) 45 2 (.slice (some ⟨w.heap.size + 1 + 1 + 1 + 1, 0, none⟩) 0 0) 0 [] from World.ownsRow.kept (by first | exact HO.out | exact HO.out.alloc _ | exact Twin.lit0g _ _ _ _ _ (by first | (have hz := HZ.out; (try simp only [World.size_alloc] at hz ⊢); omega) | (have hz := HZA.out; (try simp only [World.size_alloc] at hz ⊢); omega) | fail) (by first | rfl | (simp; done) | (simp only [World.size_alloc]; omega) | fail) | exact (Twin.lit0g _ _ _ _ _ (by first | (have hz := HZ.out; (try simp only [World.size_alloc] at hz ⊢); omega) | (have hz := HZA.out; (try simp only [World.size_alloc] at hz ⊢); omega) | fail) (by first | rfl | (simp; done) | (simp only [World.size_alloc]; omega) | fail)).alloc _ | exact ((Twin.lit0g _ _ _ _ _ (by first | (have hz := HZ.out; (try simp only [World.size_alloc] at hz ⊢); omega) | (have hz := HZA.out; (try simp only [World.size_alloc] at hz ⊢); omega) | fail) (by first | rfl | (simp; done) | (simp only [World.size_alloc]; omega) | fail)).alloc _).alloc _ | fail) hgA (.inr (by first | (simp [Value.ownBlock]; done) | (simp [Value.ownBlock]; omega) | fail))))); (try (have HB := Lib.hid (show wA.heap[w.heap.size + 1 + 1]? = some (.cells #[.int .i64 0, .int .i64 0, .slice none 0 0, .slice none 0 0] 27 (0, 0)) from Twin.far hgA (by first | exact HB.out | exact Twin.boxg _ _ _ (by first | rfl | (simp; done) | (simp only [World.size_alloc]; omega) | fail) | exact Twin.boxm (Twin.boxg _ _ _ (by first | rfl | (simp; done) | (simp only [World.size_alloc]; omega) | fail)) _ | exact Twin.boxm (Twin.boxm (Twin.boxg _ _ _ (by first | rfl | (simp; done) | (simp only [World.size_alloc]; omega) | fail)) _) _ | fail) (by first | omega | (have hk := HZ.out; omega) | fail)); obtain ⟨t0, t1, t2, t3⟩ := DrawM.box4 HB.out; have y0 := frozen_of_row _ _ 0 _ _ HB.out; have y1 := frozen_of_row _ _ 1 _ _ HB.out; have y2 := frozen_of_row _ _ 2 _ _ HB.out; have y3 := frozen_of_row _ _ 3 _ _ HB.out; have hn1 : ¬ (w.heap.size = w.heap.size + 1 + 1) := (by omega); have hn2 : ¬ (w.heap.size + 1 + 1 = w.heap.size) := (by omega))); (try (have HB := Lib.hid (show wA.heap[w.heap.size + 1 + 1 + 1]? = some (.cells #[.int .i64 0, .int .i64 0, .slice none 0 0, .slice none 0 0] 27 (0, 0)) from Twin.far hgA (by first | exact HB.out | exact Twin.boxg _ _ _ (by first | rfl | (simp; done) | (simp only [World.size_alloc]; omega) | fail) | exact Twin.boxm (Twin.boxg _ _ _ (by first | rfl | (simp; done) | (simp only [World.size_alloc]; omega) | fail)) _ | exact Twin.boxm (Twin.boxm (Twin.boxg _ _ _ (by first | rfl | (simp; done) | (simp only [World.size_alloc]; omega) | fail)) _) _ | fail) (by first | omega | (have hk := HZ.out; omega) | fail)); obtain ⟨t0, t1, t2, t3⟩ := DrawM.box4 HB.out; have y0 := frozen_of_row _ _ 0 _ _ HB.out; have y1 := frozen_of_row _ _ 1 _ _ HB.out; have y2 := frozen_of_row _ _ 2 _ _ HB.out; have y3 := frozen_of_row _ _ 3 _ _ HB.out; have hn1 : ¬ (w.heap.size = w.heap.size + 1 + 1 + 1) := (by omega); have hn2 : ¬ (w.heap.size + 1 + 1 + 1 = w.heap.size) := (by omega))); (try (have HB := Lib.hid (show wA.heap[w.heap.size + 1 + 1 + 1 + 1]? = some (.cells #[.int .i64 0, .int .i64 0, .slice none 0 0, .slice none 0 0] 27 (0, 0)) from Twin.far hgA (by first | exact HB.out | exact Twin.boxg _ _ _ (by first | rfl | (simp; done) | (simp only [World.size_alloc]; omega) | fail) | exact Twin.boxm (Twin.boxg _ _ _ (by first | rfl | (simp; done) | (simp only [World.size_alloc]; omega) | fail)) _ | exact Twin.boxm (Twin.boxm (Twin.boxg _ _ _ (by first | rfl | (simp; done) | (simp only [World.size_alloc]; omega) | fail)) _) _ | fail) (by first | omega | (have hk := HZ.out; omega) | fail)); obtain ⟨t0, t1, t2, t3⟩ := DrawM.box4 HB.out; have y0 := frozen_of_row _ _ 0 _ _ HB.out; have y1 := frozen_of_row _ _ 1 _ _ HB.out; have y2 := frozen_of_row _ _ 2 _ _ HB.out; have y3 := frozen_of_row _ _ 3 _ _ HB.out; have hn1 : ¬ (w.heap.size = w.heap.size + 1 + 1 + 1 + 1) := (by omega); have hn2 : ¬ (w.heap.size + 1 + 1 + 1 + 1 = w.heap.size) := (by omega))))
        | (refine Twin.step_copyM (by first | exact HT.out | exact HT.out.al hC _ | exact (HT.out.al hC _).al hC _ | exact ((HT.out.al hC _).al hC _).al hC _ | fail) hC (by rfl) _ _ (by rfl) h9.2.2.1 h9.2.2.2 _ (by rfl) (by rfl) (by first | exact HO.out | exact HO.out.alloc _ | exact Twin.lit0g _ _ _ _ _ (by first | (have hz := HZ.out; (try simp only [World.size_alloc] at hz ⊢); omega) | (have hz := HZA.out; (try simp only [World.size_alloc] at hz ⊢); omega) | fail) (by first | rfl | (simp; done) | (simp only [World.size_alloc]; omega) | fail) | exact (Twin.lit0g _ _ _ _ _ (by first | (have hz := HZ.out; (try simp only [World.size_alloc] at hz ⊢); omega) | (have hz := HZA.out; (try simp only [World.size_alloc] at hz ⊢); omega) | fail) (by first | rfl | (simp; done) | (simp only [World.size_alloc]; omega) | fail)).alloc _ | exact ((Twin.lit0g _ _ _ _ _ (by first | (have hz := HZ.out; (try simp only [World.size_alloc] at hz ⊢); omega) | (have hz := HZA.out; (try simp only [World.size_alloc] at hz ⊢); omega) | fail) (by first | rfl | (simp; done) | (simp only [World.size_alloc]; omega) | fail)).alloc _).alloc _ | fail) ?_; intro gB capB wB hoB hTB hgB; have HT := Lib.hid hTB; have HZ := Lib.hid (Twin.T.room hTB); obtain ⟨b0, b1, b2, b3⟩ := DrawM.box4 hTB.pb; (try (have HB := Lib.hid (Twin.far hgB HB.out (by first | omega | (have hk2 := Twin.olt HO.out; omega) | (have hk1 := DrawM.blt HB.out; omega) | (have hk1 := DrawM.blt HB.out; have hk2 := Twin.olt HO.out; omega) | (have hk := HZ.out; omega) | fail)))); (try (have HB := Lib.hid (Twin.far hgB (Twin.boxm HB.out _) (by first | omega | (have hk2 := Twin.olt HO.out; omega) | (have hk1 := DrawM.blt HB.out; omega) | (have hk1 := DrawM.blt HB.out; have hk2 := Twin.olt HO.out; omega) | (have hk := HZ.out; omega) | fail)))); (try (have HB := Lib.hid (show wB.heap[wA.heap.size]? = some (.cells #[.int .i64 0, .int .i64 0, .slice none 0 0, .slice none 0 0] 27 (0, 0)) from Twin.far hgB (by first | exact HB.out | exact Twin.boxg _ _ _ (by first | rfl | (simp; done) | (simp only [World.size_alloc]; omega) | fail) | exact Twin.boxm (Twin.boxg _ _ _ (by first | rfl | (simp; done) | (simp only [World.size_alloc]; omega) | fail)) _ | exact Twin.boxm (Twin.boxm (Twin.boxg _ _ _ (by first | rfl | (simp; done) | (simp only [World.size_alloc]; omega) | fail)) _) _ | fail) (by first | omega | (have hk2 := Twin.olt HO.out; omega) | (have hk1 := DrawM.blt HB.out; omega) | (have hk1 := DrawM.blt HB.out; have hk2 := Twin.olt HO.out; omega) | (have hk := HZ.out; omega) | fail)); have hn1 : ¬ (w.heap.size = wA.heap.size) := (by have hk := HZA.out; omega); have hn2 : ¬ (wA.heap.size = w.heap.size) := (by have hk := HZA.out; omega))); (try (have HB := Lib.hid (show wB.heap[wA.heap.size + 1]? = some (.cells #[.int .i64 0, .int .i64 0, .slice none 0 0, .slice none 0 0] 27 (0, 0)) from Twin.far hgB (by first | exact HB.out | exact Twin.boxg _ _ _ (by first | rfl | (simp; done) | (simp only [World.size_alloc]; omega) | fail) | exact Twin.boxm (Twin.boxg _ _ _ (by first | rfl | (simp; done) | (simp only [World.size_alloc]; omega) | fail)) _ | exact Twin.boxm (Twin.boxm (Twin.boxg _ _ _ (by first | rfl | (simp; done) | (simp only [World.size_alloc]; omega) | fail)) _) _ | fail) (by first | omega | (have hk2 := Twin.olt HO.out; omega) | (have hk1 := DrawM.blt HB.out; omega) | (have hk1 := DrawM.blt HB.out; have hk2 := Twin.olt HO.out; omega) | (have hk := HZ.out; omega) | fail)); have hn1 : ¬ (w.heap.size = wA.heap.size + 1) := (by have hk := HZA.out; omega); have hn2 : ¬ (wA.heap.size + 1 = w.heap.size) := (by have hk := HZA.out; omega))); (try (have HOA := Lib.hid (Twin.keepA hgB (by first | exact HO.out | exact HO.out.alloc _ | exact Twin.lit0g _ _ _ _ _ (by first | (have hz := HZ.out; (try simp only [World.size_alloc] at hz ⊢); omega) | (have hz := HZA.out; (try simp only [World.size_alloc] at hz ⊢); omega) | fail) (by first | rfl | (simp; done) | (simp only [World.size_alloc]; omega) | fail) | exact (Twin.lit0g _ _ _ _ _ (by first | (have hz := HZ.out; (try simp only [World.size_alloc] at hz ⊢); omega) | (have hz := HZA.out; (try simp only [World.size_alloc] at hz ⊢); omega) | fail) (by first | rfl | (simp; done) | (simp only [World.size_alloc]; omega) | fail)).alloc _ | exact ((Twin.lit0g _ _ _ _ _ (by first | (have hz := HZ.out; (try simp only [World.size_alloc] at hz ⊢); omega) | (have hz := HZA.out; (try simp only [World.size_alloc] at hz ⊢); omega) | fail) (by first | rfl | (simp; done) | (simp only [World.size_alloc]; omega) | fail)).alloc _).alloc _ | fail) (by first | exact HOA.out | exact HOA.out.alloc _ | exact (HOA.out.alloc _).alloc _ | fail)))); (try (obtain ⟨t0, t1, t2, t3⟩ := DrawM.box4 HB.out; have y0 := frozen_of_row _ _ 0 _ _ HB.out; have y1 := frozen_of_row _ _ 1 _ _ HB.out; have y2 := frozen_of_row _ _ 2 _ _ HB.out; have y3 := frozen_of_row _ _ 3 _ _ HB.out)))
        | fail)
    all_goals
      go_wp2_with fail
      go_meet
      first | exact ⟨_, _, _, _, _, rfl, Twin.T.fin (by first | exact HT.out | exact HT.out.al hC _ | exact (HT.out.al hC _).al hC _ | exact ((HT.out.al hC _).al hC _).al hC _ | fail) hC (by first | exact HB.out | exact Twin.boxg _ _ _ (by first | rfl | (simp; done) | (simp only [World.size_alloc]; omega) | fail) | exact Twin.boxm (Twin.boxg _ _ _ (by first | rfl | (simp; done) | (simp only [World.size_alloc]; omega) | fail)) _ | exact Twin.boxm (Twin.boxm (Twin.boxg _ _ _ (by first | rfl | (simp; done) | (simp only [World.size_alloc]; omega) | fail)) _) _ | fail) (by first | exact HOA.out | exact HOA.out.alloc _ | exact (HOA.out.alloc _).alloc _ | fail) (by first | exact hoB | exact hoB.alloc _ | fail) (by first | omega | (have hz := HZ.out; omega) | (have hz := HZA.out; omega) | fail)⟩ | exact ⟨_, _, _, _, _, rfl, Twin.T.fin2 (by first | exact HT.out | exact HT.out.al hC _ | exact (HT.out.al hC _).al hC _ | exact ((HT.out.al hC _).al hC _).al hC _ | fail) hC (by first | exact HOA.out | exact HOA.out.alloc _ | exact (HOA.out.alloc _).alloc _ | fail) (by first | exact hoB | exact hoB.alloc _ | fail)⟩ | exact ⟨_, _, _, _, _, rfl, Twin.T.fin (by first | exact HT.out | exact HT.out.al hC _ | exact (HT.out.al hC _).al hC _ | exact ((HT.out.al hC _).al hC _).al hC _ | fail) hC (by first | exact HB.out | exact Twin.boxg _ _ _ (by first | rfl | (simp; done) | (simp only [World.size_alloc]; omega) | fail) | exact Twin.boxm (Twin.boxg _ _ _ (by first | rfl | (simp; done) | (simp only [World.size_alloc]; omega) | fail)) _ | exact Twin.boxm (Twin.boxm (Twin.boxg _ _ _ (by first | rfl | (simp; done) | (simp only [World.size_alloc]; omega) | fail)) _) _ | fail) (Twin.keepA hgB (Twin.lit0g _ _ _ _ _ (by first | (have hz := HZ.out; (try simp only [World.size_alloc] at hz ⊢); omega) | (have hz := HZA.out; (try simp only [World.size_alloc] at hz ⊢); omega) | fail) (by first | rfl | (simp; done) | (simp only [World.size_alloc]; omega) | fail)) (by first | exact HOA.out | exact HOA.out.alloc _ | exact (HOA.out.alloc _).alloc _ | fail)) (by first | exact hoB | exact hoB.alloc _ | fail) (by first | omega | (have hz := HZ.out; omega) | (have hz := HZA.out; omega) | fail)⟩
  case rest =>
    obtain ⟨g, gA, gB, cA, cB, rfl, w1, hz1, hD1, hS⟩ := hcut
    clear HT HZ b0 b1 b2 b3 HS HSM
    have hC1 : C < w1.heap.size := by omega
    have hbl := l1Below_int B C 4 wc hS.dr.1 (by omega) (by omega)
    have HS := Lib.hid hS
    clear hS
    go_wp2_with fail
    refine hbl.mono ?_
    rintro e w2 ⟨x, hx, rfl, hd2⟩
    have hS2 := HS.out.only hC1 hd2
    clear hbl hd2 HS
    obtain ⟨b0, b1, b2, b3⟩ := DrawM.box4 hS2.bx
    have hLi := Twin.lies hz1 hD1 hS2
    by_cases hx0 : x = 0
    · subst hx0
      obtain ⟨k, hk⟩ : ∃ k : Nat, t.mv.length = k + 1 := ⟨t.mv.length - 1, by omega⟩
      have f1 := hS2.rm.frozenAt (k * 2)
      have m1 := (hS2.rm.cellAt (k * 2) (by omega)).trans (Twin.mv_cell t.mv k (by omega))
      have hw : IntKind.i64.wrap ((t.mv.length : Int) - 1) = (k : Int) := by rw [IntWalk.i64_in _ (by omega)]; omega
      have hL3 := hLi.setB (o := k * 2) (v := .int .i64 0) hC hS2 hz1
      have HL3 := Lib.hid hL3
      have hkl : (k : Int) < (t.mv.length : Int) := by omega
      clear hL3 hS2 hLi hk
      go_upto_region 9 with fail
      have hL3 := HL3.out
      obtain ⟨b0, b1, b2, b3⟩ := DrawM.box4 hL3.bx
      obtain ⟨s0, s1, s2, s3⟩ := DrawM.box4 hL3.rs
      have z0 := frozen_of_row _ _ 0 _ _ hL3.rs
      have z1 := frozen_of_row _ _ 1 _ _ hL3.rs
      have z2 := frozen_of_row _ _ 2 _ _ hL3.rs
      have z3 := frozen_of_row _ _ 3 _ _ hL3.rs
      have HD9 := Lib.hid (hL3.back hC (v0 := .int .i64 t.st) (v1 := .int .i64 t.rg) (v2 := .slice (some ⟨gA, 0, none⟩) t.ac.length cA) (v3 := .slice (some ⟨gB, 0, none⟩) t.mv.length cB))
      clear hL3
      go_wp2
      exact bodyPost_ret (v := .agg #[.int .i64 t.st, .int .i64 t.rg, .slice (some ⟨gA, 0, none⟩) t.ac.length cA, .slice (some ⟨gB, 0, none⟩) t.mv.length cB]) (by simp [results, Try.results15, go_sem, s0, s1, s2, s3]) rfl ⟨t.st, t.rg, _, _, _, _, _, _, rfl, HD9.out⟩
    · have hx0i : ¬ (x : Int) = 0 := by omega
      by_cases hx1 : x = 1
      · subst hx1
        by_cases hal : 1 < t.ac.length
        · obtain ⟨k, hk⟩ : ∃ k : Nat, t.ac.length = k + 1 := ⟨t.ac.length - 1, by omega⟩
          obtain ⟨b, hb⟩ := Twin.ac_cell t.ac k (by omega)
          have hSd := hS2.below hC1 (w' := w2.drew) ⟨rfl, rfl, rfl, Nat.le_refl _, fun _ _ => rfl⟩
          have f1 := hSd.ra.frozenAt k
          have m1 := (hSd.ra.cellAt k (by omega)).trans hb
          have hw : IntKind.i64.wrap ((t.ac.length : Int) - 1) = (k : Int) := by rw [IntWalk.i64_in _ (by omega)]; omega
          have hL3 := (hLi.setA (o := k) (v := .bool (!b)) hC hS2 hz1).drew hC
          have dq := (DrawM.box4 hL3.bx).2.2.1
          have HL3 := Lib.hid hL3
          have hkl : (k : Int) < (t.ac.length : Int) := by omega
          have hali : (1 : Int) < (t.ac.length : Int) := by omega
          have d2 := (DrawM.box4 hSd.bx).2.2.1
          have hgne : ¬ g = gA := fun e => DrawM.row_box hS2.ra hS2.bx (by decide) (by rw [e]; rfl)
          clear hL3 hS2 hSd hLi hk
          go_upto_region 8 with fail
          go_region
          all_goals
            go_upto_region 9 with fail
            generalize (w2.setCell ⟨gA, k, none⟩ (.bool (!b))).drew = w3 at HL3 ⊢
            clear b0 b1 b2 b3 d2 dq f1 m1
            have hL3 := HL3.out
            obtain ⟨b0, b1, b2, b3⟩ := DrawM.box4 hL3.bx
            obtain ⟨s0, s1, s2, s3⟩ := DrawM.box4 hL3.rs
            have z0 := frozen_of_row _ _ 0 _ _ hL3.rs
            have z1 := frozen_of_row _ _ 1 _ _ hL3.rs
            have z2 := frozen_of_row _ _ 2 _ _ hL3.rs
            have z3 := frozen_of_row _ _ 3 _ _ hL3.rs
            have HD9 := Lib.hid (hL3.back hC (v0 := .int .i64 t.st) (v1 := .int .i64 t.rg) (v2 := .slice (some ⟨gA, 0, none⟩) t.ac.length cA) (v3 := .slice (some ⟨gB, 0, none⟩) t.mv.length cB))
            clear hL3
            go_wp2
            exact bodyPost_ret (v := .agg #[.int .i64 t.st, .int .i64 t.rg, .slice (some ⟨gA, 0, none⟩) t.ac.length cA, .slice (some ⟨gB, 0, none⟩) t.mv.length cB]) (by simp [results, Try.results15, go_sem, s0, s1, s2, s3]) rfl ⟨t.st, t.rg, _, _, _, _, _, _, rfl, HD9.out⟩
        · have hali : ¬ (1 : Int) < (t.ac.length : Int) := by omega
          have HL3 := Lib.hid hLi
          clear hS2 hLi
          go_upto_region 9 with fail
          have hL3 := HL3.out
          obtain ⟨b0, b1, b2, b3⟩ := DrawM.box4 hL3.bx
          obtain ⟨s0, s1, s2, s3⟩ := DrawM.box4 hL3.rs
          have z0 := frozen_of_row _ _ 0 _ _ hL3.rs
          have z1 := frozen_of_row _ _ 1 _ _ hL3.rs
          have z2 := frozen_of_row _ _ 2 _ _ hL3.rs
          have z3 := frozen_of_row _ _ 3 _ _ hL3.rs
          have HD9 := Lib.hid (hL3.back hC (v0 := .int .i64 t.st) (v1 := .int .i64 t.rg) (v2 := .slice (some ⟨gA, 0, none⟩) t.ac.length cA) (v3 := .slice (some ⟨gB, 0, none⟩) t.mv.length cB))
          clear hL3
          go_wp2
          exact bodyPost_ret (v := .agg #[.int .i64 t.st, .int .i64 t.rg, .slice (some ⟨gA, 0, none⟩) t.ac.length cA, .slice (some ⟨gB, 0, none⟩) t.mv.length cB]) (by simp [results, Try.results15, go_sem, s0, s1, s2, s3]) rfl ⟨t.st, t.rg, _, _, _, _, _, _, rfl, HD9.out⟩
      · have hx1i : ¬ (x : Int) = 1 := by omega
        have HL3 := Lib.hid hLi
        clear hS2 hLi
        go_upto_region 9 with fail
        have hL3 := HL3.out
        obtain ⟨b0, b1, b2, b3⟩ := DrawM.box4 hL3.bx
        obtain ⟨s0, s1, s2, s3⟩ := DrawM.box4 hL3.rs
        have z0 := frozen_of_row _ _ 0 _ _ hL3.rs
        have z1 := frozen_of_row _ _ 1 _ _ hL3.rs
        have z2 := frozen_of_row _ _ 2 _ _ hL3.rs
        have z3 := frozen_of_row _ _ 3 _ _ hL3.rs
        have HD9 := Lib.hid (hL3.back hC (v0 := .int .i64 t.st) (v1 := .int .i64 t.rg) (v2 := .slice (some ⟨gA, 0, none⟩) t.ac.length cA) (v3 := .slice (some ⟨gB, 0, none⟩) t.mv.length cB))
        clear hL3
        go_wp2
        exact bodyPost_ret (v := .agg #[.int .i64 t.st, .int .i64 t.rg, .slice (some ⟨gA, 0, none⟩) t.ac.length cA, .slice (some ⟨gB, 0, none⟩) t.mv.length cB]) (by simp [results, Try.results15, go_sem, s0, s1, s2, s3]) rfl ⟨t.st, t.rg, _, _, _, _, _, _, rfl, HD9.out⟩
end Go.Proofs.Ythacnbeckhdhiaa
end

section
namespace Go.Proofs.Ythacnbeckhdhiaa
open Go.RowKit Go.Sort
set_option linter.unusedVariables false

namespace DrawM
/-- The first machine lies in the box g, the two answers' boxes hold x and y. -/
structure Duo (w : World) (C g base : Nat) (t : Mach) (gA cA gB cB : Nat) (x0 x1 x2 x3 y0 y1 y2 y3 : Value) (wr : World) : Prop where
  bx : wr.heap[g]? = some (.cells #[(.int .i64 t.st), (.int .i64 t.rg), (.slice (some ⟨gA, 0, none⟩) t.ac.length cA), (.slice (some ⟨gB, 0, none⟩) t.mv.length cB)] 27 (0, 0))
  ra : wr.ownsRow base 4 1 (.slice (some ⟨gA, 0, none⟩) t.ac.length cA) t.ac.length (bcells t.ac)
  rm : wr.ownsRow base 45 2 (.slice (some ⟨gB, 0, none⟩) t.mv.length cB) t.mv.length (cellsOf t.mv)
  r0 : wr.heap[w.heap.size]? = some (.cells #[x0, x1, x2, x3] 27 (0, 0))
  r1 : wr.heap[w.heap.size + 1]? = some (.cells #[y0, y1, y2, y3] 27 (0, 0))
  cu : Cur wr w.heap.size C
  be : Below w.heap.size w wr
  gg : w.heap.size + 2 ≤ g
  cc : w.heap.size + 2 ≤ C
  cg : C ≠ g
  cb : C < base
theorem cur_set {W : World} {B C g o : Nat} {v : Value} (h : Cur W B C) (hB : B ≤ g) (hne : g ≠ C) : Cur (W.setCell ⟨g, o, none⟩ v) B C := by
  have hl := h.lt
  have hs := grown_set W g o v
  obtain ⟨A, n, c, i, x, hblk, hi, hn, hB2, hby⟩ := h
  exact ⟨A, n, c, i, x, (hs.block C hl (fun e => by injection e with e; exact hne e.symm)).trans hblk, hi, hn, hB2, hby.keep fun k hk => hs.block k (by omega) (fun e => by injection e with e; omega)⟩
theorem Duo.drew {w wr : World} {C g base gA cA gB cB : Nat} {t : Mach} {x0 x1 x2 x3 y0 y1 y2 y3 : Value} (h : Duo w C g base t gA cA gB cB x0 x1 x2 x3 y0 y1 y2 y3 wr) {w' : World} (hd : Drew w.heap.size C wr w') : Duo w C g base t gA cA gB cB x0 x1 x2 x3 y0 y1 y2 y3 w' := by
  have hcc := h.cc
  have hgg := h.gg
  have hcg := h.cg
  have hcb := h.cb
  exact ⟨(hd.2.block g (blt h.bx) (fun e => by injection e with e; omega)).trans h.bx, h.ra.kept hd.2 (.inr fun e => by have := (h.ra.lt C e).1; omega), h.rm.kept hd.2 (.inr fun e => by have := (h.rm.lt C e).1; omega),
    (hd.2.block _ (blt h.r0) (fun e => by injection e with e; omega)).trans h.r0, (hd.2.block _ (blt h.r1) (fun e => by injection e with e; omega)).trans h.r1, hd.1, h.be.grown hd.2 h.be.size (fun q e => by injection e with e; omega), hgg, hcc, hcg, hcb⟩
theorem Duo.below {w wr : World} {C g base gA cA gB cB : Nat} {t : Mach} {x0 x1 x2 x3 y0 y1 y2 y3 : Value} (h : Duo w C g base t gA cA gB cB x0 x1 x2 x3 y0 y1 y2 y3 wr) {w' : World} (hb : Below wr.heap.size wr w') : Duo w C g base t gA cA gB cB x0 x1 x2 x3 y0 y1 y2 y3 w' := by
  have hl := h.cu.lt
  have hc := h.cu
  refine ⟨(hb.block g (blt h.bx)).trans h.bx, own_below h.ra hb, own_below h.rm hb, (hb.block _ (blt h.r0)).trans h.r0, (hb.block _ (blt h.r1)).trans h.r1, ?_, h.be.trans (hb.mono h.be.size), h.gg, h.cc, h.cg, h.cb⟩
  obtain ⟨A, n, c, i, x, hblk, hi, hn, hB2, hby⟩ := hc
  exact ⟨A, n, c, i, x, (hb.block C hl).trans hblk, hi, hn, hB2, hby.keep fun k hk => hb.block k (by have := h.be.size; omega)⟩
theorem Duo.put00 {w wr : World} {C g base gA cA gB cB : Nat} {t : Mach} {x0 x1 x2 x3 y0 y1 y2 y3 : Value} (h : Duo w C g base t gA cA gB cB x0 x1 x2 x3 y0 y1 y2 y3 wr) (v : Value) : Duo w C g base t gA cA gB cB v x1 x2 x3 y0 y1 y2 y3 (wr.setCell ⟨w.heap.size, 0, none⟩ v) := by
  have hcc := h.cc
  have hgg := h.gg
  have hcg := h.cg
  have hcb := h.cb
  have hs := grown_set wr w.heap.size 0 v
  exact ⟨(hs.block g (blt h.bx) (fun e => by injection e with e; omega)).trans h.bx, h.ra.kept hs (.inr fun e => by have := (h.ra.lt _ e).1; omega), h.rm.kept hs (.inr fun e => by have := (h.rm.lt _ e).1; omega), heap_setCell_same wr w.heap.size 0 _ _ v h.r0, (hs.block _ (blt h.r1) (fun e => by injection e with e; omega)).trans h.r1, cur_set h.cu (by omega) (by omega), h.be.setCell (p := ⟨w.heap.size, 0, none⟩) (by show w.heap.size ≤ w.heap.size; omega) _, hgg, hcc, hcg, hcb⟩
theorem Duo.put01 {w wr : World} {C g base gA cA gB cB : Nat} {t : Mach} {x0 x1 x2 x3 y0 y1 y2 y3 : Value} (h : Duo w C g base t gA cA gB cB x0 x1 x2 x3 y0 y1 y2 y3 wr) (v : Value) : Duo w C g base t gA cA gB cB x0 v x2 x3 y0 y1 y2 y3 (wr.setCell ⟨w.heap.size, 1, none⟩ v) := by
  have hcc := h.cc
  have hgg := h.gg
  have hcg := h.cg
  have hcb := h.cb
  have hs := grown_set wr w.heap.size 1 v
  exact ⟨(hs.block g (blt h.bx) (fun e => by injection e with e; omega)).trans h.bx, h.ra.kept hs (.inr fun e => by have := (h.ra.lt _ e).1; omega), h.rm.kept hs (.inr fun e => by have := (h.rm.lt _ e).1; omega), heap_setCell_same wr w.heap.size 1 _ _ v h.r0, (hs.block _ (blt h.r1) (fun e => by injection e with e; omega)).trans h.r1, cur_set h.cu (by omega) (by omega), h.be.setCell (p := ⟨w.heap.size, 1, none⟩) (by show w.heap.size ≤ w.heap.size; omega) _, hgg, hcc, hcg, hcb⟩
theorem Duo.put02 {w wr : World} {C g base gA cA gB cB : Nat} {t : Mach} {x0 x1 x2 x3 y0 y1 y2 y3 : Value} (h : Duo w C g base t gA cA gB cB x0 x1 x2 x3 y0 y1 y2 y3 wr) (v : Value) : Duo w C g base t gA cA gB cB x0 x1 v x3 y0 y1 y2 y3 (wr.setCell ⟨w.heap.size, 2, none⟩ v) := by
  have hcc := h.cc
  have hgg := h.gg
  have hcg := h.cg
  have hcb := h.cb
  have hs := grown_set wr w.heap.size 2 v
  exact ⟨(hs.block g (blt h.bx) (fun e => by injection e with e; omega)).trans h.bx, h.ra.kept hs (.inr fun e => by have := (h.ra.lt _ e).1; omega), h.rm.kept hs (.inr fun e => by have := (h.rm.lt _ e).1; omega), heap_setCell_same wr w.heap.size 2 _ _ v h.r0, (hs.block _ (blt h.r1) (fun e => by injection e with e; omega)).trans h.r1, cur_set h.cu (by omega) (by omega), h.be.setCell (p := ⟨w.heap.size, 2, none⟩) (by show w.heap.size ≤ w.heap.size; omega) _, hgg, hcc, hcg, hcb⟩
theorem Duo.put03 {w wr : World} {C g base gA cA gB cB : Nat} {t : Mach} {x0 x1 x2 x3 y0 y1 y2 y3 : Value} (h : Duo w C g base t gA cA gB cB x0 x1 x2 x3 y0 y1 y2 y3 wr) (v : Value) : Duo w C g base t gA cA gB cB x0 x1 x2 v y0 y1 y2 y3 (wr.setCell ⟨w.heap.size, 3, none⟩ v) := by
  have hcc := h.cc
  have hgg := h.gg
  have hcg := h.cg
  have hcb := h.cb
  have hs := grown_set wr w.heap.size 3 v
  exact ⟨(hs.block g (blt h.bx) (fun e => by injection e with e; omega)).trans h.bx, h.ra.kept hs (.inr fun e => by have := (h.ra.lt _ e).1; omega), h.rm.kept hs (.inr fun e => by have := (h.rm.lt _ e).1; omega), heap_setCell_same wr w.heap.size 3 _ _ v h.r0, (hs.block _ (blt h.r1) (fun e => by injection e with e; omega)).trans h.r1, cur_set h.cu (by omega) (by omega), h.be.setCell (p := ⟨w.heap.size, 3, none⟩) (by show w.heap.size ≤ w.heap.size; omega) _, hgg, hcc, hcg, hcb⟩
theorem Duo.set0 {w wr : World} {C g base gA cA gB cB : Nat} {t : Mach} {x0 x1 x2 x3 y0 y1 y2 y3 : Value} (h : Duo w C g base t gA cA gB cB x0 x1 x2 x3 y0 y1 y2 y3 wr) (a b c d : Value) : Duo w C g base t gA cA gB cB a b c d y0 y1 y2 y3 ((((wr.setCell ⟨w.heap.size, 0, none⟩ a).setCell ⟨w.heap.size, 1, none⟩ b).setCell ⟨w.heap.size, 2, none⟩ c).setCell ⟨w.heap.size, 3, none⟩ d) :=
  (((h.put00 a).put01 b).put02 c).put03 d
theorem Duo.put10 {w wr : World} {C g base gA cA gB cB : Nat} {t : Mach} {x0 x1 x2 x3 y0 y1 y2 y3 : Value} (h : Duo w C g base t gA cA gB cB x0 x1 x2 x3 y0 y1 y2 y3 wr) (v : Value) : Duo w C g base t gA cA gB cB x0 x1 x2 x3 v y1 y2 y3 (wr.setCell ⟨w.heap.size + 1, 0, none⟩ v) := by
  have hcc := h.cc
  have hgg := h.gg
  have hcg := h.cg
  have hcb := h.cb
  have hs := grown_set wr (w.heap.size + 1) 0 v
  exact ⟨(hs.block g (blt h.bx) (fun e => by injection e with e; omega)).trans h.bx, h.ra.kept hs (.inr fun e => by have := (h.ra.lt _ e).1; omega), h.rm.kept hs (.inr fun e => by have := (h.rm.lt _ e).1; omega), (hs.block _ (blt h.r0) (fun e => by injection e with e; omega)).trans h.r0, heap_setCell_same wr (w.heap.size + 1) 0 _ _ v h.r1, cur_set h.cu (by omega) (by omega), h.be.setCell (p := ⟨w.heap.size + 1, 0, none⟩) (by show w.heap.size ≤ w.heap.size + 1; omega) _, hgg, hcc, hcg, hcb⟩
theorem Duo.put11 {w wr : World} {C g base gA cA gB cB : Nat} {t : Mach} {x0 x1 x2 x3 y0 y1 y2 y3 : Value} (h : Duo w C g base t gA cA gB cB x0 x1 x2 x3 y0 y1 y2 y3 wr) (v : Value) : Duo w C g base t gA cA gB cB x0 x1 x2 x3 y0 v y2 y3 (wr.setCell ⟨w.heap.size + 1, 1, none⟩ v) := by
  have hcc := h.cc
  have hgg := h.gg
  have hcg := h.cg
  have hcb := h.cb
  have hs := grown_set wr (w.heap.size + 1) 1 v
  exact ⟨(hs.block g (blt h.bx) (fun e => by injection e with e; omega)).trans h.bx, h.ra.kept hs (.inr fun e => by have := (h.ra.lt _ e).1; omega), h.rm.kept hs (.inr fun e => by have := (h.rm.lt _ e).1; omega), (hs.block _ (blt h.r0) (fun e => by injection e with e; omega)).trans h.r0, heap_setCell_same wr (w.heap.size + 1) 1 _ _ v h.r1, cur_set h.cu (by omega) (by omega), h.be.setCell (p := ⟨w.heap.size + 1, 1, none⟩) (by show w.heap.size ≤ w.heap.size + 1; omega) _, hgg, hcc, hcg, hcb⟩
theorem Duo.put12 {w wr : World} {C g base gA cA gB cB : Nat} {t : Mach} {x0 x1 x2 x3 y0 y1 y2 y3 : Value} (h : Duo w C g base t gA cA gB cB x0 x1 x2 x3 y0 y1 y2 y3 wr) (v : Value) : Duo w C g base t gA cA gB cB x0 x1 x2 x3 y0 y1 v y3 (wr.setCell ⟨w.heap.size + 1, 2, none⟩ v) := by
  have hcc := h.cc
  have hgg := h.gg
  have hcg := h.cg
  have hcb := h.cb
  have hs := grown_set wr (w.heap.size + 1) 2 v
  exact ⟨(hs.block g (blt h.bx) (fun e => by injection e with e; omega)).trans h.bx, h.ra.kept hs (.inr fun e => by have := (h.ra.lt _ e).1; omega), h.rm.kept hs (.inr fun e => by have := (h.rm.lt _ e).1; omega), (hs.block _ (blt h.r0) (fun e => by injection e with e; omega)).trans h.r0, heap_setCell_same wr (w.heap.size + 1) 2 _ _ v h.r1, cur_set h.cu (by omega) (by omega), h.be.setCell (p := ⟨w.heap.size + 1, 2, none⟩) (by show w.heap.size ≤ w.heap.size + 1; omega) _, hgg, hcc, hcg, hcb⟩
theorem Duo.put13 {w wr : World} {C g base gA cA gB cB : Nat} {t : Mach} {x0 x1 x2 x3 y0 y1 y2 y3 : Value} (h : Duo w C g base t gA cA gB cB x0 x1 x2 x3 y0 y1 y2 y3 wr) (v : Value) : Duo w C g base t gA cA gB cB x0 x1 x2 x3 y0 y1 y2 v (wr.setCell ⟨w.heap.size + 1, 3, none⟩ v) := by
  have hcc := h.cc
  have hgg := h.gg
  have hcg := h.cg
  have hcb := h.cb
  have hs := grown_set wr (w.heap.size + 1) 3 v
  exact ⟨(hs.block g (blt h.bx) (fun e => by injection e with e; omega)).trans h.bx, h.ra.kept hs (.inr fun e => by have := (h.ra.lt _ e).1; omega), h.rm.kept hs (.inr fun e => by have := (h.rm.lt _ e).1; omega), (hs.block _ (blt h.r0) (fun e => by injection e with e; omega)).trans h.r0, heap_setCell_same wr (w.heap.size + 1) 3 _ _ v h.r1, cur_set h.cu (by omega) (by omega), h.be.setCell (p := ⟨w.heap.size + 1, 3, none⟩) (by show w.heap.size ≤ w.heap.size + 1; omega) _, hgg, hcc, hcg, hcb⟩
theorem Duo.set1 {w wr : World} {C g base gA cA gB cB : Nat} {t : Mach} {x0 x1 x2 x3 y0 y1 y2 y3 : Value} (h : Duo w C g base t gA cA gB cB x0 x1 x2 x3 y0 y1 y2 y3 wr) (a b c d : Value) : Duo w C g base t gA cA gB cB x0 x1 x2 x3 a b c d ((((wr.setCell ⟨w.heap.size + 1, 0, none⟩ a).setCell ⟨w.heap.size + 1, 1, none⟩ b).setCell ⟨w.heap.size + 1, 2, none⟩ c).setCell ⟨w.heap.size + 1, 3, none⟩ d) :=
  (((h.put10 a).put11 b).put12 c).put13 d
theorem own_cap {w : World} {base size n cap : Nat} {e : TypeId} {A : Option Addr} {xs : List Value} (h : w.ownsRow base e size (.slice A n cap) n xs) : n ≤ cap := by
  rcases h.2 with ⟨h1, rfl⟩ | ⟨g', cap', cur, h1, _, _, h2, _⟩
  · exact Nat.zero_le _
  · injection h1 with _ _ h3
    omega
theorem Duo.out {w wr : World} {C g base gA cA gB cB : Nat} {t : Mach} {x0 x1 x2 x3 y0 y1 y2 y3 : Value} (h : Duo w C g base t gA cA gB cB x0 x1 x2 x3 y0 y1 y2 y3 wr) (hmb : machB t = true) : MachIx wr (.agg #[(.int .i64 t.st), (.int .i64 t.rg), (.slice (some ⟨gA, 0, none⟩) t.ac.length cA), (.slice (some ⟨gB, 0, none⟩) t.mv.length cB)]) t ∧ Below w.heap.size w wr := by
  have h9 := Twin.mach_len hmb
  have hn0 := own_cap h.ra
  have hn1 := own_cap h.rm
  obtain ⟨A8, c8, e8, h8⟩ := own_boolsAt h.ra
  obtain ⟨A7, c7, e7, h7⟩ := own_pairsAt h.rm
  simp only [Value.slice.injEq, true_and] at e8 e7
  obtain ⟨rfl, rfl⟩ := e8
  obtain ⟨rfl, rfl⟩ := e7
  exact ⟨⟨_, _, _, _, rfl, h8, h7, (fun e => by cases e), (fun e => by cases e), by omega, by omega⟩, h.be⟩
theorem set4_keep {w : World} {h g q : Nat} {v a b c d : Value} (hv : w.cell? ⟨h, q, none⟩ = some v) (hne : h ≠ g) : ((((w.setCell ⟨g, 0, none⟩ a).setCell ⟨g, 1, none⟩ b).setCell ⟨g, 2, none⟩ c).setCell ⟨g, 3, none⟩ d).cell? ⟨h, q, none⟩ = some v := by
  have hlt : h < w.heap.size := by
    rcases Nat.lt_or_ge h w.heap.size with h3 | h3
    · exact h3
    · simp [World.cell?, Array.getElem?_eq_none h3] at hv
  have e : ∀ (W : World) (o : Nat) (x : Value), W.heap[h]? = w.heap[h]? → (W.setCell ⟨g, o, none⟩ x).heap[h]? = w.heap[h]? := fun W o x hW => (heap_setCell_other W ⟨g, o, none⟩ h _ hne).trans hW
  exact (World.cell?_of_block (w := w) (a := ⟨h, q, none⟩) (e _ 3 d (e _ 2 c (e _ 1 b (e _ 0 a rfl))))).trans hv
end DrawM
end Go.Proofs.Ythacnbeckhdhiaa
end

section
namespace Go.Proofs.Ythacnbeckhdhiaa
open Go.RowKit Go.Sort
set_option linter.unusedVariables false
namespace DrawM
theorem start2 (w : World) : ((w.alloc (.cells #[.int .i64 0, .int .i64 0, .slice none 0 0, .slice none 0 0] 27)).alloc (.cells #[.int .i64 0, .int .i64 0, .slice none 0 0, .slice none 0 0] 27)).heap[w.heap.size]? = some (.cells #[.int .i64 0, .int .i64 0, .slice none 0 0, .slice none 0 0] 27 (0, 0)) ∧ ((w.alloc (.cells #[.int .i64 0, .int .i64 0, .slice none 0 0, .slice none 0 0] 27)).alloc (.cells #[.int .i64 0, .int .i64 0, .slice none 0 0, .slice none 0 0] 27)).heap[w.heap.size + 1]? = some (.cells #[.int .i64 0, .int .i64 0, .slice none 0 0, .slice none 0 0] 27 (0, 0)) ∧ ((w.alloc (.cells #[.int .i64 0, .int .i64 0, .slice none 0 0, .slice none 0 0] 27)).alloc (.cells #[.int .i64 0, .int .i64 0, .slice none 0 0, .slice none 0 0] 27)).heap.size = w.heap.size + 2 ∧ Below w.heap.size w ((w.alloc (.cells #[.int .i64 0, .int .i64 0, .slice none 0 0, .slice none 0 0] 27)).alloc (.cells #[.int .i64 0, .int .i64 0, .slice none 0 0, .slice none 0 0] 27)) := by
  have h1 := heap_alloc_new w (.cells #[.int .i64 0, .int .i64 0, .slice none 0 0, .slice none 0 0] 27)
  have h2 := heap_alloc_new (w.alloc (.cells #[.int .i64 0, .int .i64 0, .slice none 0 0, .slice none 0 0] 27)) (.cells #[.int .i64 0, .int .i64 0, .slice none 0 0, .slice none 0 0] 27)
  rw [World.size_alloc] at h2
  refine ⟨(Below.heap_alloc _ _ _ (by rw [World.size_alloc]; omega)).trans h1, h2, by rw [World.size_alloc, World.size_alloc], ((Below.refl _ _).alloc (Nat.le_refl _) _).alloc (by rw [World.size_alloc]; omega) _⟩
theorem fz4 {w : World} {g : Nat} {a b c d : Value} {T : TypeId} (h : w.heap[g]? = some (.cells #[a, b, c, d] T (0, 0))) : w.frozen? ⟨g, 0, none⟩ = false ∧ w.frozen? ⟨g, 1, none⟩ = false ∧ w.frozen? ⟨g, 2, none⟩ = false ∧ w.frozen? ⟨g, 3, none⟩ = false :=
  ⟨frozen_of_row _ _ 0 _ _ h, frozen_of_row _ _ 1 _ _ h, frozen_of_row _ _ 2 _ _ h, frozen_of_row _ _ 3 _ _ h⟩
theorem Duo.drw {w wr : World} {C g base gA cA gB cB : Nat} {t : Mach} {x0 x1 x2 x3 y0 y1 y2 y3 : Value} (h : Duo w C g base t gA cA gB cB x0 x1 x2 x3 y0 y1 y2 y3 wr) : Duo w C g base t gA cA gB cB x0 x1 x2 x3 y0 y1 y2 y3 wr.drew :=
  h.below ⟨rfl, rfl, rfl, Nat.le_refl _, fun _ _ => rfl⟩
theorem drw_cell (W : World) (p : Addr) : W.drew.cell? p = W.cell? p := rfl
theorem set4_keepd {w : World} {h g q : Nat} {v a b c d : Value} (hv : w.drew.cell? ⟨h, q, none⟩ = some v) (hne : h ≠ g) : ((((w.setCell ⟨g, 0, none⟩ a).setCell ⟨g, 1, none⟩ b).setCell ⟨g, 2, none⟩ c).setCell ⟨g, 3, none⟩ d).drew.cell? ⟨h, q, none⟩ = some v := by
  rw [drw_cell] at hv ⊢
  exact set4_keep hv hne
end DrawM
set_option maxRecDepth 100000 in
set_option maxHeartbeats 16000000 in
theorem drawMachines_any : DrawM.MachinesP := by
  intro A n c w hA hn
  obtain ⟨r0, r1, hz0, hb0⟩ := DrawM.start2 w
  have hnew := l1New_up A n c w.heap.size ((w.alloc (.cells #[.int .i64 0, .int .i64 0, .slice none 0 0, .slice none 0 0] 27)).alloc (.cells #[.int .i64 0, .int .i64 0, .slice none 0 0, .slice none 0 0] 27)) (BytesAt.keep hA hb0.block) (by omega) hn
  have HR0 := Lib.hid r0
  have HR1 := Lib.hid r1
  have HZ0 := Lib.hid hz0
  have HB0 := Lib.hid hb0
  clear hA r0 r1 hz0 hb0
  go_enter Try.func5, Try.ntmps5
  go_wp2_with fail
  refine hnew.mono ?_
  rintro e w1 ⟨C, rfl, hc1, hb1, hCl⟩
  have hz := HZ0.out
  have hC1 := hc1.lt
  have hs1 := hb1.size
  have k0 := (hb1.block w.heap.size (by omega)).trans HR0.out
  have k1 := (hb1.block (w.heap.size + 1) (by omega)).trans HR1.out
  have hbe := HB0.out.trans (hb1.mono HB0.out.size)
  have hdr := l7Draw_any w.heap.size C 3 2 (by decide) (by decide) w1 hc1
  rw [show ((3 : Nat) : Int) = 3 from rfl, show ((2 : Nat) : Int) = 2 from rfl] at hdr
  rw [hz] at hCl hs1
  clear hnew HR0 HR1 HZ0 HB0 hb1 hz
  go_wp2_with fail
  refine hdr.mono ?_
  rintro e w2 ⟨t, vA, vB, rfl, hmb, hst, hrg, ra, rm, hd2⟩
  have h9 := Twin.mach_len hmb
  obtain ⟨gA, cA, rfl, _, _⟩ := ra.form h9.1
  obtain ⟨gB, cB, rfl, _, _⟩ := rm.form h9.2.2.1
  have hs2 := hd2.2.size
  have hD : DrawM.Duo w C w2.heap.size (w1.heap.size + 1) t gA cA gB cB (.int .i64 0) (.int .i64 0) (.slice none 0 0) (.slice none 0 0) (.int .i64 0) (.int .i64 0) (.slice none 0 0) (.slice none 0 0) (w2.alloc (.cells #[(.int .i64 t.st), (.int .i64 t.rg), (.slice (some ⟨gA, 0, none⟩) t.ac.length cA), (.slice (some ⟨gB, 0, none⟩) t.mv.length cB)] 27)) := by
    have hbx : Below w2.heap.size w2 (w2.alloc (.cells #[(.int .i64 t.st), (.int .i64 t.rg), (.slice (some ⟨gA, 0, none⟩) t.ac.length cA), (.slice (some ⟨gB, 0, none⟩) t.mv.length cB)] 27)) := (Below.refl _ _).alloc (Nat.le_refl _) _
    refine ⟨heap_alloc_new w2 _, own_below ra hbx, own_below rm hbx, (hbx.block _ (by omega)).trans ((hd2.2.block _ (by omega) (fun e => by injection e with e; omega)).trans k0), (hbx.block _ (by omega)).trans ((hd2.2.block _ (by omega) (fun e => by injection e with e; omega)).trans k1), ?_, (hbe.grown hd2.2 hbe.size (fun q e => by injection e with e; omega)).trans (hbx.mono (by omega)), by omega, by omega, by omega, by omega⟩
    exact hd2.1.alloc _
  have hon := l1Once_any w.heap.size C 2 _ hD.cu (by omega) (by omega)
  have HD := Lib.hid hD
  clear hdr ra rm hd2 k0 k1 hbe hD
  go_wp2_with fail
  refine hon.mono ?_
  rintro e w3 ⟨b, rfl, hd3⟩
  have hD3 := HD.out.drew hd3
  clear hon hd3 HD
  obtain ⟨g, hg⟩ : ∃ g : Nat, g = w2.heap.size := ⟨_, rfl⟩
  rw [← hg] at hD3 ⊢
  have hgg := hD3.gg
  have HD3 := Lib.hid hD3
  have HMB := Lib.hid hmb
  have hn0 : ¬ g = w.heap.size := by omega
  have hn1 : ¬ g = w.heap.size + 1 := by omega
  have hn2 : ¬ w.heap.size = g := by omega
  have hn3 : ¬ w.heap.size + 1 = g := by omega
  have hw : Below w3.heap.size w3 w3.drew := ⟨rfl, rfl, rfl, Nat.le_refl _, fun _ _ => rfl⟩
  clear hg hs1 hs2 hC1 hCl hc1 hD3 hmb
  cases b with
  | true =>
    have hDd := HD3.out.below hw
    have hDs := hDd.set0 (.int .i64 t.st) (.int .i64 t.rg) (.slice (some ⟨gA, 0, none⟩) t.ac.length cA) (.slice (some ⟨gB, 0, none⟩) t.mv.length cB)
    have HDd := Lib.hid hDd
    have HDs := Lib.hid hDs
    have hfa := l7Draw_any w.heap.size C 3 2 (by decide) (by decide) _ hDd.cu
    have hfb := l7Draw_any w.heap.size C 3 2 (by decide) (by decide) _ hDs.cu
    rw [show ((3 : Nat) : Int) = 3 from rfl, show ((2 : Nat) : Int) = 2 from rfl] at hfa hfb
    obtain ⟨u0, u1, u2, u3⟩ := DrawM.box4 hDd.bx
    obtain ⟨s0, s1, s2, s3⟩ := DrawM.box4 hDd.r0
    obtain ⟨e0, e1, e2, e3⟩ := DrawM.fz4 hDd.r0
    obtain ⟨v0, v1, v2, v3⟩ := DrawM.box4 hDs.bx
    clear hDd hDs
    go_wp2
    go_region_held3 (fun w' => w'.cell? ⟨g, 0, none⟩ = some (.int .i64 t.st) ∧ w'.cell? ⟨g, 1, none⟩ = some (.int .i64 t.rg) ∧ w'.cell? ⟨g, 2, none⟩ = some (.slice (some ⟨gA, 0, none⟩) t.ac.length cA) ∧ w'.cell? ⟨g, 3, none⟩ = some (.slice (some ⟨gB, 0, none⟩) t.mv.length cB))
      (first | (with_reducible exact ⟨by assumption, by assumption, by assumption, by assumption⟩) | (with_reducible exact ⟨DrawM.set4_keep (by assumption) (by assumption), DrawM.set4_keep (by assumption) (by assumption), DrawM.set4_keep (by assumption) (by assumption), DrawM.set4_keep (by assumption) (by assumption)⟩) | go_keep)
      (first
      | (go_at_call 13; first | ((with_reducible refine hfa.mono ?_); rintro e w4 ⟨t2, vA2, vB2, rfl, _, _, _, ra2, rm2, hd4⟩; obtain ⟨A2, c2, rfl⟩ := DrawM.form ra2; obtain ⟨B2, d2, rfl⟩ := DrawM.form rm2; have H4 := Lib.hid (HDd.out.drew hd4); obtain ⟨a0, a1, a2, a3⟩ := DrawM.box4 H4.out.bx; obtain ⟨s0, s1, s2, s3⟩ := DrawM.box4 H4.out.r0; obtain ⟨q0, q1, q2, q3⟩ := DrawM.box4 H4.out.r1; obtain ⟨e0, e1, e2, e3⟩ := DrawM.fz4 H4.out.r0; obtain ⟨f0, f1, f2, f3⟩ := DrawM.fz4 H4.out.r1) | ((with_reducible refine hfb.mono ?_); rintro e w4 ⟨t2, vA2, vB2, rfl, _, _, _, ra2, rm2, hd4⟩; obtain ⟨A2, c2, rfl⟩ := DrawM.form ra2; obtain ⟨B2, d2, rfl⟩ := DrawM.form rm2; have H4 := Lib.hid (HDs.out.drew hd4); obtain ⟨a0, a1, a2, a3⟩ := DrawM.box4 H4.out.bx; obtain ⟨s0, s1, s2, s3⟩ := DrawM.box4 H4.out.r0; obtain ⟨q0, q1, q2, q3⟩ := DrawM.box4 H4.out.r1; obtain ⟨e0, e1, e2, e3⟩ := DrawM.fz4 H4.out.r0; obtain ⟨f0, f1, f2, f3⟩ := DrawM.fz4 H4.out.r1))
      | fail)
    all_goals
      have H5 := ((H4.out.set0 (.int .i64 t.st) (.int .i64 t.rg) (.slice (some ⟨gA, 0, none⟩) t.ac.length cA) (.slice (some ⟨gB, 0, none⟩) t.mv.length cB)).set1 (.int .i64 t2.st) (.int .i64 t2.rg) (.slice A2 t2.ac.length c2) (.slice B2 t2.mv.length d2))
      obtain ⟨z0, z1, z2, z3⟩ := DrawM.box4 H5.r0
      obtain ⟨y0, y1, y2, y3⟩ := DrawM.box4 H5.r1
      have H6 := Lib.hid (H5.out HMB.out)
      clear H5
      go_wp2
      exact bodyPost_ret (v := .tuple #[.agg #[(.int .i64 t.st), (.int .i64 t.rg), (.slice (some ⟨gA, 0, none⟩) t.ac.length cA), (.slice (some ⟨gB, 0, none⟩) t.mv.length cB)], .agg #[(.int .i64 t2.st), (.int .i64 t2.rg), (.slice A2 t2.ac.length c2), (.slice B2 t2.mv.length d2)]]) (by simp [results, Try.results5, go_sem, z0, z1, z2, z3, y0, y1, y2, y3]) rfl ⟨t, _, _, _, _, _, _, _, _, _, _, _, _, rfl, HMB.out, hst, hrg, H6.out.1, H6.out.2⟩
  | false =>
    have htw := l7Twin_any w.heap.size C (w1.heap.size + 1) t (some ⟨gA, 0, none⟩) (some ⟨gB, 0, none⟩) cA cB w3 HMB.out HD3.out.cu HD3.out.cb HD3.out.ra HD3.out.rm
    obtain ⟨u0, u1, u2, u3⟩ := DrawM.box4 HD3.out.bx
    go_wp2_with fail
    refine htw.mono ?_
    rintro e w4 ⟨s2, r2, A2, B2, n2, c2, m2, d2, rfl, hd4⟩
    have hbx : Below w4.heap.size w4 (w4.alloc (.cells #[(.int .i64 s2), (.int .i64 r2), (.slice A2 n2 c2), (.slice B2 m2 d2)] 27)) := (Below.refl _ _).alloc (Nat.le_refl _) _
    have H4 := HD3.out.drew hd4
    have H5 := H4.below hbx
    have k5 := heap_alloc_new w4 (.cells #[(.int .i64 s2), (.int .i64 r2), (.slice A2 n2 c2), (.slice B2 m2 d2)] 27)
    have hl0 := DrawM.blt H4.r0
    have hl1 := DrawM.blt H4.r1
    have hlg := DrawM.blt H4.bx
    clear htw hd4 hbx u0 u1 u2 u3 H4
    have H6 := Lib.hid H5
    have K6 := Lib.hid k5
    have hm0 : ¬ w4.heap.size = w.heap.size := by omega
    have hm1 : ¬ w4.heap.size = w.heap.size + 1 := by omega
    clear H5 k5
    go_wp2
    generalize w4.alloc (.cells #[(.int .i64 s2), (.int .i64 r2), (.slice A2 n2 c2), (.slice B2 m2 d2)] 27) = w5 at H6 K6 ⊢
    generalize w4.heap.size = h at K6 hm0 hm1 ⊢
    have hw5 : Below w5.heap.size w5 w5.drew := ⟨rfl, rfl, rfl, Nat.le_refl _, fun _ _ => rfl⟩
    have H5 := H6.out.below hw5
    have k5 := (hw5.block h (DrawM.blt K6.out)).trans K6.out
    have H4 := Lib.hid H5
    obtain ⟨b0, b1, b2, b3⟩ := DrawM.box4 H5.bx
    obtain ⟨p0, p1, p2, p3⟩ := DrawM.box4 k5
    obtain ⟨s0, s1, s2c, s3⟩ := DrawM.box4 H5.r0
    obtain ⟨q0, q1, q2, q3⟩ := DrawM.box4 H5.r1
    obtain ⟨e0, e1, e2, e3⟩ := DrawM.fz4 H5.r0
    obtain ⟨f0, f1, f2, f3⟩ := DrawM.fz4 H5.r1
    obtain ⟨_, _, _, _⟩ := DrawM.box4 H6.out.r0
    obtain ⟨_, _, _, _⟩ := DrawM.box4 H6.out.r1
    obtain ⟨_, _, _, _⟩ := DrawM.fz4 H6.out.r0
    obtain ⟨_, _, _, _⟩ := DrawM.fz4 H6.out.r1
    clear H5 k5 hw5 K6
    go_region_held3 (fun w' => (w'.cell? ⟨g, 0, none⟩ = some (.int .i64 t.st) ∧ w'.cell? ⟨g, 1, none⟩ = some (.int .i64 t.rg) ∧ w'.cell? ⟨g, 2, none⟩ = some (.slice (some ⟨gA, 0, none⟩) t.ac.length cA) ∧ w'.cell? ⟨g, 3, none⟩ = some (.slice (some ⟨gB, 0, none⟩) t.mv.length cB)) ∧ (w'.cell? ⟨h, 0, none⟩ = some (.int .i64 s2) ∧ w'.cell? ⟨h, 1, none⟩ = some (.int .i64 r2) ∧ w'.cell? ⟨h, 2, none⟩ = some (.slice A2 n2 c2) ∧ w'.cell? ⟨h, 3, none⟩ = some (.slice B2 m2 d2)))
      (first | (with_reducible exact ⟨⟨by assumption, by assumption, by assumption, by assumption⟩, ⟨by assumption, by assumption, by assumption, by assumption⟩⟩) | (with_reducible exact ⟨⟨DrawM.set4_keepd (by assumption) (by assumption), DrawM.set4_keepd (by assumption) (by assumption), DrawM.set4_keepd (by assumption) (by assumption), DrawM.set4_keepd (by assumption) (by assumption)⟩, ⟨DrawM.set4_keepd (by assumption) (by assumption), DrawM.set4_keepd (by assumption) (by assumption), DrawM.set4_keepd (by assumption) (by assumption), DrawM.set4_keepd (by assumption) (by assumption)⟩⟩) | (go_split_ands; with_reducible exact ⟨⟨DrawM.set4_keepd (by assumption) (by assumption), DrawM.set4_keepd (by assumption) (by assumption), DrawM.set4_keepd (by assumption) (by assumption), DrawM.set4_keepd (by assumption) (by assumption)⟩, ⟨DrawM.set4_keepd (by assumption) (by assumption), DrawM.set4_keepd (by assumption) (by assumption), DrawM.set4_keepd (by assumption) (by assumption), DrawM.set4_keepd (by assumption) (by assumption)⟩⟩) | go_keep)
      (fail)
    all_goals
      have H5 := ((H6.out.set0 (.int .i64 t.st) (.int .i64 t.rg) (.slice (some ⟨gA, 0, none⟩) t.ac.length cA) (.slice (some ⟨gB, 0, none⟩) t.mv.length cB)).set1 (.int .i64 s2) (.int .i64 r2) (.slice A2 n2 c2) (.slice B2 m2 d2)).drw
      obtain ⟨z0, z1, z2, z3⟩ := DrawM.box4 H5.r0
      obtain ⟨y0, y1, y2, y3⟩ := DrawM.box4 H5.r1
      have H6 := Lib.hid (H5.out HMB.out)
      clear H5
      go_wp2
      exact bodyPost_ret (v := .tuple #[.agg #[(.int .i64 t.st), (.int .i64 t.rg), (.slice (some ⟨gA, 0, none⟩) t.ac.length cA), (.slice (some ⟨gB, 0, none⟩) t.mv.length cB)], .agg #[(.int .i64 s2), (.int .i64 r2), (.slice A2 n2 c2), (.slice B2 m2 d2)]]) (by simp [results, Try.results5, go_sem, z0, z1, z2, z3, y0, y1, y2, y3]) rfl ⟨t, _, _, _, _, _, _, _, _, _, _, _, _, rfl, HMB.out, hst, hrg, H6.out.1, H6.out.2⟩

end Go.Proofs.Ythacnbeckhdhiaa
end

section
namespace Go.Proofs.Ythacnbeckhdhiaa
open Go.RowKit Go.Sort
set_option linter.unusedVariables false

namespace StF
/-- A cell of the first standing, when k registers are emptied. -/
def c (k i : Nat) : Value := if i < 2 then .int .i64 0 else if i < 2 + k then .int .i64 (-1) else .int .i64 0
def cs (k : Nat) : Array Value := #[c k 0, c k 1, c k 2, c k 3, c k 4, c k 5, c k 6, c k 7]
theorem cell8 {w : World} {g k : Nat} {T : TypeId} (h : w.heap[g]? = some (.cells (cs k) T (0, 0))) : ∀ i, i < 8 → w.cell? ⟨g, i, none⟩ = some (c k i) := by
  intro i hi
  rw [cell_of_row w g _ _ _ _ h]
  obtain rfl | rfl | rfl | rfl | rfl | rfl | rfl | rfl : i = 0 ∨ i = 1 ∨ i = 2 ∨ i = 3 ∨ i = 4 ∨ i = 5 ∨ i = 6 ∨ i = 7 := by omega
  all_goals rfl
theorem cs_set {k : Nat} (hk : k < 6) : (cs k).setIfInBounds (2 + k) (.int .i64 (-1)) = cs (k + 1) := by
  obtain rfl | rfl | rfl | rfl | rfl | rfl : k = 0 ∨ k = 1 ∨ k = 2 ∨ k = 3 ∨ k = 4 ∨ k = 5 := by omega
  all_goals rfl
def first : Array Value := #[.int .i64 0, .int .i64 0, .int .i64 (-1), .int .i64 (-1), .int .i64 (-1), .int .i64 (-1), .int .i64 (-1), .int .i64 (-1)]
theorem box8 {w : World} {g : Nat} {a0 a1 a2 a3 a4 a5 a6 a7 : Value} {T : TypeId} (h : w.heap[g]? = some (.cells #[a0, a1, a2, a3, a4, a5, a6, a7] T (0, 0))) :
    w.cell? ⟨g, 0, none⟩ = some a0 ∧ w.cell? ⟨g, 1, none⟩ = some a1 ∧ w.cell? ⟨g, 2, none⟩ = some a2 ∧ w.cell? ⟨g, 3, none⟩ = some a3 ∧ w.cell? ⟨g, 4, none⟩ = some a4 ∧ w.cell? ⟨g, 5, none⟩ = some a5 ∧ w.cell? ⟨g, 6, none⟩ = some a6 ∧ w.cell? ⟨g, 7, none⟩ = some a7 := by
  refine ⟨?_, ?_, ?_, ?_, ?_, ?_, ?_, ?_⟩ <;> rw [cell_of_row w g _ _ _ _ h] <;> rfl
end StF
set_option maxRecDepth 100000 in
set_option maxHeartbeats 4000000 in
theorem standingAtFirst_any (w : World) : Calls Try.prog 22 #[] w fun e w' => e = .returned (.agg StF.first) ∧ Below w.heap.size w w' := by
  have h1 := heap_alloc_new w (.cells (StF.cs 0) 52)
  have h2 := heap_alloc_new (w.alloc (.cells (StF.cs 0) 52)) (.cells (StF.cs 0) 52)
  rw [World.size_alloc] at h2
  have h3 := (Below.heap_alloc (w.alloc (.cells (StF.cs 0) 52)) (.cells (StF.cs 0) 52) w.heap.size (by rw [World.size_alloc]; omega)).trans h1
  have hb : Below w.heap.size w ((w.alloc (.cells (StF.cs 0) 52)).alloc (.cells (StF.cs 0) 52)) := ((Below.refl _ _).alloc (Nat.le_refl _) _).alloc (by rw [World.size_alloc]; omega) _
  clear h1
  go_enter Try.func22, Try.ntmps22
  go_wp2
  go_loopw [2, 3] (fun _ i wr => ∃ k : Nat, k ≤ 6 ∧ i = .int .i64 k ∧ wr.heap[w.heap.size + 1]? = some (.cells (StF.cs k) 52 (0, 0)) ∧ wr.heap[w.heap.size]? = some (.cells (StF.cs 0) 52 (0, 0)) ∧ Below w.heap.size w wr) (fun _ i _ => 6 - (intOf i).toNat)
  case atStart => exact ⟨0, Nat.zero_le _, rfl, h2, h3, hb⟩
  case round =>
    obtain ⟨k, hk, rfl, k1, k0, hbw⟩ := hrel
    by_cases hlt : k < 6
    · have hli : (k : Int) < 6 := by omega
      have hc := StF.cell8 k1 (2 + k) (by omega)
      have hf := frozen_of_row _ _ (2 + k) _ _ k1
      have k2 := heap_setCell_same wr (w.heap.size + 1) (2 + k) _ _ (.int .i64 (-1)) k1
      rw [StF.cs_set hlt] at k2
      have hs := DrawM.grown_set wr (w.heap.size + 1) (2 + k) (.int .i64 (-1))
      have k3 := (hs.block _ (DrawM.blt k0) (fun e => by injection e with e; omega)).trans k0
      have hb3 := hbw.setCell (p := ⟨w.heap.size + 1, 2 + k, none⟩) (by show w.heap.size ≤ w.heap.size + 1; omega) (.int .i64 (-1))
      have HK := Lib.hid (And.intro k2 (And.intro k3 hb3))
      clear k1 k0 k2 k3 hs hb3 hbw
      go_wp2
      refine ⟨⟨k + 1, by omega, by go_num, HK.out.1, HK.out.2.1, HK.out.2.2⟩, ?_⟩
      simp only [intOf]
      omega
    · have e : k = 6 := by omega
      subst e
      have m : ∀ i, i < 8 → wr.cell? ⟨w.heap.size + 1, i, none⟩ = some (StF.c 6 i) := StF.cell8 k1
      have d : ∀ i, i < 8 → wr.cell? ⟨w.heap.size, i, none⟩ = some (StF.c 0 i) := StF.cell8 k0
      have m0 : wr.cell? ⟨w.heap.size + 1, 0, none⟩ = some (.int .i64 0) := m 0 (by omega)
      have d0 : wr.cell? ⟨w.heap.size, 0, none⟩ = some (.int .i64 0) := d 0 (by omega)
      have f0 := frozen_of_row _ _ 0 _ _ k0
      have m1 : wr.cell? ⟨w.heap.size + 1, 1, none⟩ = some (.int .i64 0) := m 1 (by omega)
      have d1 : wr.cell? ⟨w.heap.size, 1, none⟩ = some (.int .i64 0) := d 1 (by omega)
      have f1 := frozen_of_row _ _ 1 _ _ k0
      have m2 : wr.cell? ⟨w.heap.size + 1, 2, none⟩ = some (.int .i64 (-1)) := m 2 (by omega)
      have d2 : wr.cell? ⟨w.heap.size, 2, none⟩ = some (.int .i64 0) := d 2 (by omega)
      have f2 := frozen_of_row _ _ 2 _ _ k0
      have m3 : wr.cell? ⟨w.heap.size + 1, 3, none⟩ = some (.int .i64 (-1)) := m 3 (by omega)
      have d3 : wr.cell? ⟨w.heap.size, 3, none⟩ = some (.int .i64 0) := d 3 (by omega)
      have f3 := frozen_of_row _ _ 3 _ _ k0
      have m4 : wr.cell? ⟨w.heap.size + 1, 4, none⟩ = some (.int .i64 (-1)) := m 4 (by omega)
      have d4 : wr.cell? ⟨w.heap.size, 4, none⟩ = some (.int .i64 0) := d 4 (by omega)
      have f4 := frozen_of_row _ _ 4 _ _ k0
      have m5 : wr.cell? ⟨w.heap.size + 1, 5, none⟩ = some (.int .i64 (-1)) := m 5 (by omega)
      have d5 : wr.cell? ⟨w.heap.size, 5, none⟩ = some (.int .i64 0) := d 5 (by omega)
      have f5 := frozen_of_row _ _ 5 _ _ k0
      have m6 : wr.cell? ⟨w.heap.size + 1, 6, none⟩ = some (.int .i64 (-1)) := m 6 (by omega)
      have d6 : wr.cell? ⟨w.heap.size, 6, none⟩ = some (.int .i64 0) := d 6 (by omega)
      have f6 := frozen_of_row _ _ 6 _ _ k0
      have m7 : wr.cell? ⟨w.heap.size + 1, 7, none⟩ = some (.int .i64 (-1)) := m 7 (by omega)
      have d7 : wr.cell? ⟨w.heap.size, 7, none⟩ = some (.int .i64 0) := d 7 (by omega)
      have f7 := frozen_of_row _ _ 7 _ _ k0
      have HB := Lib.hid ((((((((hbw.setCell (p := ⟨w.heap.size, 0, none⟩) (Nat.le_refl _) (.int .i64 0)).setCell (p := ⟨w.heap.size, 1, none⟩) (Nat.le_refl _) (.int .i64 0)).setCell (p := ⟨w.heap.size, 2, none⟩) (Nat.le_refl _) (.int .i64 (-1))).setCell (p := ⟨w.heap.size, 3, none⟩) (Nat.le_refl _) (.int .i64 (-1))).setCell (p := ⟨w.heap.size, 4, none⟩) (Nat.le_refl _) (.int .i64 (-1))).setCell (p := ⟨w.heap.size, 5, none⟩) (Nat.le_refl _) (.int .i64 (-1))).setCell (p := ⟨w.heap.size, 6, none⟩) (Nat.le_refl _) (.int .i64 (-1))).setCell (p := ⟨w.heap.size, 7, none⟩) (Nat.le_refl _) (.int .i64 (-1)))
      clear m d k0 k1 hbw h2 h3 hb
      go_wp2
      exact bodyPost_ret (v := .agg StF.first) (by simp [results, Try.results22, go_sem, d0, d1, d2, d3, d4, d5, d6, d7, StF.first]) rfl ⟨rfl, HB.out⟩
/-- A first entry is put into a map that is empty. -/
theorem StF.map_first (W : World) (r c : Nat) (h : W.heap[r]? = some (.map #[] c)) :
    ∃ w', Sem.run Try.prog (Instr.mapUpdate 54 (.map (some r)) (.agg StF.first) (.bool true)) W = .ok () w' ∧ W.grownBy w' (some r) := by
  have hck : (Instr.checkKey false 10000 52 (.agg StF.first)).run Try.prog W = .ok () W := by kernel_rfl
  have hu := Try.underlying54
  have hfk : (Instr.findKey 52 (.agg StF.first) (#[] : Array MapEntry).toList).run Try.prog W = .ok none W := by kernel_rfl
  refine ⟨{ W with heap := W.heap.setIfInBounds r (.map #[{ key := .agg StF.first, val := .bool true, born := c }] (c + 1)) }, ?_, ?_⟩
  · unfold Instr.mapUpdate
    have hg : (getObj r).run Try.prog W = .ok (.map #[] c) W := by simp [getObj, Sem.run, h]
    have hs : ∀ o : Obj, (setObj r o).run Try.prog W = .ok () { W with heap := W.heap.setIfInBounds r o } := fun o => by simp [setObj, Sem.run, h]
    simp [go_sem, run_underlying hu, hg, hck, hfk, hs]
  · refine ⟨rfl, rfl, rfl, by simp, fun k _ hk => ?_⟩
    have hne : r ≠ k := fun e => hk (by rw [e])
    simp [hne]
end Go.Proofs.Ythacnbeckhdhiaa
end

section
namespace Go.Proofs.Ythacnbeckhdhiaa
open Go.RowKit Go.Sort
set_option linter.unusedVariables false

set_option maxRecDepth 100000 in
set_option maxHeartbeats 4000000 in
theorem differLength_zero (t u : Mach) (hmt : machB t = true) (hmu : machB u = true) (hdf : btAt t.ac 0 ≠ btAt u.ac 0) (x y : Value) (w : World) (hx : MachIx w x t) (hy : MachIx w y u) :
    Calls Try.prog 11 #[x, y] w fun e w' => e = .returned (.int .i64 0) ∧ Below w.heap.size w w' := by
  have HX := Lib.hid hx
  have HY := Lib.hid hy
  obtain ⟨A1, c1, B1, d1, rfl, ha1, hrest1⟩ := hx
  obtain ⟨A2, c2, B2, d2, rfl, ha2, hrest2⟩ := hy
  have hgt := good_of hmt
  have hgu := good_of hmu
  have hlt : t.ac.length ≤ 1099511627776 ∧ t.mv.length ≤ 1099511627776 := by
    have h5 := hgt.al; have h6 := hgt.s9; have h7 := hgt.ml
    rcases casZ_of hgt.r0 hgt.r3 with ⟨_, h8⟩ | ⟨_, h8⟩ | ⟨_, h8⟩ | ⟨_, h8⟩ <;> rw [h8] at h7 <;> omega
  have hlu : u.ac.length ≤ 1099511627776 ∧ u.mv.length ≤ 1099511627776 := by
    have h5 := hgu.al; have h6 := hgu.s9; have h7 := hgu.ml
    rcases casZ_of hgu.r0 hgu.r3 with ⟨_, h8⟩ | ⟨_, h8⟩ | ⟨_, h8⟩ | ⟨_, h8⟩ <;> rw [h8] at h7 <;> omega
  have hA1 : 0 < t.ac.length := by have := hgt.al; have := hgt.s1; omega
  have hA2 : 0 < u.ac.length := by have := hgu.al; have := hgu.s1; omega
  obtain ⟨ga, oa, rfl, hga, hca⟩ := ha1 hA1
  obtain ⟨gb, ob, rfl, hgb, hcb⟩ := ha2 hA2
  have hc1 := hca 0 hA1
  have hc2 := hcb 0 hA2
  rw [Nat.add_zero] at hc1 hc2
  have h1 := heap_alloc_new w (.cells #[.int .i64 t.st, .int .i64 t.rg, .slice (some ⟨ga, oa, none⟩) t.ac.length c1, .slice B1 t.mv.length d1] 27)
  have h2 := heap_alloc_new (w.alloc (.cells #[.int .i64 t.st, .int .i64 t.rg, .slice (some ⟨ga, oa, none⟩) t.ac.length c1, .slice B1 t.mv.length d1] 27)) (.cells #[.int .i64 u.st, .int .i64 u.rg, .slice (some ⟨gb, ob, none⟩) u.ac.length c2, .slice B2 u.mv.length d2] 27)
  rw [World.size_alloc] at h2
  have h3 := (Below.heap_alloc (w.alloc (.cells #[.int .i64 t.st, .int .i64 t.rg, .slice (some ⟨ga, oa, none⟩) t.ac.length c1, .slice B1 t.mv.length d1] 27)) (.cells #[.int .i64 u.st, .int .i64 u.rg, .slice (some ⟨gb, ob, none⟩) u.ac.length c2, .slice B2 u.mv.length d2] 27) w.heap.size (by rw [World.size_alloc]; omega)).trans h1
  have hb : Below w.heap.size w ((w.alloc (.cells #[.int .i64 t.st, .int .i64 t.rg, .slice (some ⟨ga, oa, none⟩) t.ac.length c1, .slice B1 t.mv.length d1] 27)).alloc (.cells #[.int .i64 u.st, .int .i64 u.rg, .slice (some ⟨gb, ob, none⟩) u.ac.length c2, .slice B2 u.mv.length d2] 27)) := ((Below.refl _ _).alloc (Nat.le_refl _) _).alloc (by rw [World.size_alloc]; omega) _
  have HA := Lib.hid (And.intro hA1 hA2)
  have hm1 := isMachine_impl t hlt _ ((w.alloc (.cells #[.int .i64 t.st, .int .i64 t.rg, .slice (some ⟨ga, oa, none⟩) t.ac.length c1, .slice B1 t.mv.length d1] 27)).alloc (.cells #[.int .i64 u.st, .int .i64 u.rg, .slice (some ⟨gb, ob, none⟩) u.ac.length c2, .slice B2 u.mv.length d2] 27)) (HX.out.below (hb.mono (Nat.le_refl _))).in_
  rw [hmt] at hm1
  obtain ⟨a0, a1, a2, a3⟩ := DrawM.box4 h3
  obtain ⟨b0, b1, b2, b3⟩ := DrawM.box4 h2
  have HK := Lib.hid (And.intro h3 h2)
  have HB := Lib.hid hb
  have HC := Lib.hid (And.intro hc1 hc2)
  have HG := Lib.hid (And.intro hga hgb)
  have HLU := Lib.hid hlu
  clear hca hcb hc1 hc2 h1 h2 h3 hb hgt hgu hA1 hA2 hga hgb hrest1 hrest2 hlt hlu
  have hmm := @run_makeMap Try.prog
  go_enter Try.func11, Try.ntmps11
  go_wp2_with fail
  (with_reducible refine hm1.mono ?_)
  rintro e w1 ⟨rfl, hb1⟩
  replace HK := Lib.hid (And.intro ((hb1.block _ (DrawM.blt HK.out.1)).trans HK.out.1) ((hb1.block _ (DrawM.blt HK.out.2)).trans HK.out.2))
  replace HB := Lib.hid (HB.out.trans (hb1.mono HB.out.size))
  clear hm1 a0 a1 a2 a3 b0 b1 b2 b3 hb1
  have hm2 := isMachine_impl u HLU.out _ w1 (HY.out.below HB.out).in_
  rw [hmu] at hm2
  obtain ⟨b0, b1, b2, b3⟩ := DrawM.box4 HK.out.2
  go_wp2_with fail
  (with_reducible refine hm2.mono ?_)
  rintro e w2 ⟨rfl, hb2⟩
  replace HK := Lib.hid (And.intro ((hb2.block _ (DrawM.blt HK.out.1)).trans HK.out.1) ((hb2.block _ (DrawM.blt HK.out.2)).trans HK.out.2))
  replace HB := Lib.hid (HB.out.trans (hb2.mono HB.out.size))
  clear hm2 b0 b1 b2 b3 hb2
  have hst := standingAtFirst_any w2
  go_wp2_with fail
  (with_reducible refine hst.mono ?_)
  rintro e w3 ⟨rfl, hb3⟩
  replace HK := Lib.hid (And.intro ((hb3.block _ (DrawM.blt HK.out.1)).trans HK.out.1) ((hb3.block _ (DrawM.blt HK.out.2)).trans HK.out.2))
  replace HB := Lib.hid (HB.out.trans (hb3.mono HB.out.size))
  clear hst hb3
  have hbs : Below w3.heap.size w3 ((w3.alloc (.cells StF.first 52)).alloc (.map #[] 0)) := ((Below.refl _ _).alloc (Nat.le_refl _) _).alloc (by rw [World.size_alloc]; omega) _
  have k0 : ((w3.alloc (.cells StF.first 52)).alloc (.map #[] 0)).heap[w3.heap.size]? = some (.cells StF.first 52 (0, 0)) := (Below.heap_alloc _ _ _ (by rw [World.size_alloc]; omega)).trans (heap_alloc_new w3 _)
  have k1 : ((w3.alloc (.cells StF.first 52)).alloc (.map #[] 0)).heap[w3.heap.size + 1]? = some (.map #[] 0) := by
    have h := heap_alloc_new (w3.alloc (.cells StF.first 52)) (.map #[] 0)
    rw [World.size_alloc] at h
    exact h
  obtain ⟨w4, hrun, hg4⟩ := StF.map_first _ _ _ k1
  have hgb := HG.out
  have hb4 : Below w3.heap.size w3 w4 := hbs.grown hg4 hbs.size (fun q e => by injection e with e; omega)
  have K0 := (hg4.block _ (DrawM.blt k0) (fun e => by injection e with e; omega)).trans k0
  unfold StF.first at hrun K0 ⊢
  obtain ⟨p0, p1, p2, p3, p4, p5, p6, p7⟩ := StF.box8 K0
  replace HK := Lib.hid (And.intro ((hb4.block _ (DrawM.blt HK.out.1)).trans HK.out.1) ((hb4.block _ (DrawM.blt HK.out.2)).trans HK.out.2))
  replace HB := Lib.hid (HB.out.trans (hb4.mono HB.out.size))
  have HK0 := Lib.hid K0
  clear hbs k0 k1 hg4 hb4 K0
  go_upto_region 5 with fail
  have hbd : Below w4.heap.size w4 (w4.drew.alloc (.cells #[.int .i64 0, .int .i64 0, .int .i64 (-1), .int .i64 (-1), .int .i64 (-1), .int .i64 (-1), .int .i64 (-1), .int .i64 (-1)] 52)) := ⟨rfl, rfl, rfl, ((Below.refl w4.drew.heap.size w4.drew).alloc (Nat.le_refl _) _).size, ((Below.refl w4.drew.heap.size w4.drew).alloc (Nat.le_refl _) _).block⟩
  have k5 : (w4.drew.alloc (.cells #[.int .i64 0, .int .i64 0, .int .i64 (-1), .int .i64 (-1), .int .i64 (-1), .int .i64 (-1), .int .i64 (-1), .int .i64 (-1)] 52)).heap[w4.heap.size]? = some (.cells #[.int .i64 0, .int .i64 0, .int .i64 (-1), .int .i64 (-1), .int .i64 (-1), .int .i64 (-1), .int .i64 (-1), .int .i64 (-1)] 52 (0, 0)) := heap_alloc_new w4.drew _
  have HR : Hid (∃ w5 : World, w5 = w4.drew.alloc (.cells #[.int .i64 0, .int .i64 0, .int .i64 (-1), .int .i64 (-1), .int .i64 (-1), .int .i64 (-1), .int .i64 (-1), .int .i64 (-1)] 52) ∧ True) := Lib.hid ⟨_, rfl, trivial⟩
  obtain ⟨d0, d1, d2, d3, d4, d5, d6, d7⟩ := StF.box8 (w := w4.drew) HK0.out
  replace HK := Lib.hid (And.intro ((hbd.block _ (DrawM.blt HK.out.1)).trans HK.out.1) ((hbd.block _ (DrawM.blt HK.out.2)).trans HK.out.2))
  replace HB := Lib.hid (HB.out.trans (hbd.mono HB.out.size))
  have K5 := Lib.hid k5
  clear hbd k5 HR
  go_cut [7, 8] (fun l n wx => l = .int .i64 0 ∧ n = .slice (some ⟨w4.heap.size, 0, none⟩) 1 1 ∧ wx = w4.drew.alloc (.cells #[.int .i64 0, .int .i64 0, .int .i64 (-1), .int .i64 (-1), .int .i64 (-1), .int .i64 (-1), .int .i64 (-1), .int .i64 (-1)] 52))
  case first =>
    go_region
    all_goals
      go_wp2_with fail
      go_meet
      exact ⟨rfl, rfl, rfl⟩
  case rest =>
    obtain ⟨rfl, rfl, rfl⟩ := hcut
    clear d0 d1 d2 d3 d4 d5 d6 d7 p0 p1 p2 p3 p4 p5 p6 p7 hrun
    generalize w4.drew.alloc (.cells #[.int .i64 0, .int .i64 0, .int .i64 (-1), .int .i64 (-1), .int .i64 (-1), .int .i64 (-1), .int .i64 (-1), .int .i64 (-1)] 52) = w5 at HK HB K5 ⊢
    have hgl := DrawM.blt K5.out
    generalize w4.heap.size = g5 at K5 hgl ⊢
    go_wp2
    go_loopw [7, 8] (fun l n wr => l = .int .i64 0 ∧ n = .slice (some ⟨g5, 0, none⟩) 1 1 ∧ wr = w5) (fun _ _ _ => 0)
    case atStart => exact ⟨rfl, rfl, rfl⟩
    case round =>
      obtain ⟨rfl, rfl, rfl⟩ := hrel
      obtain ⟨w5, rfl⟩ : ∃ x : World, x = wr := ⟨_, rfl⟩
      go_wp2
      have hb6 : Below w5.heap.size w5 (w5.alloc (.cells #[] 52)) := (Below.refl _ _).alloc (Nat.le_refl _) _
      have HK6 := Lib.hid (And.intro ((hb6.block _ (DrawM.blt HK.out.1)).trans HK.out.1) ((hb6.block _ (DrawM.blt HK.out.2)).trans HK.out.2))
      have HB6 := Lib.hid (HB.out.trans (hb6.mono HB.out.size))
      have K6 := Lib.hid ((hb6.block _ hgl).trans K5.out)
      clear hb6
      generalize w5.alloc (.cells #[] 52) = w6 at HK6 HB6 K6 ⊢
      go_loopw [36] (fun i wr => i = .int .i64 0 ∧ wr = w6) (fun _ _ => 0)
      case atStart => exact ⟨rfl, rfl⟩
      case round =>
        obtain ⟨rfl, rfl⟩ := hrel
        obtain ⟨w6, rfl⟩ : ∃ x : World, x = wr := ⟨_, rfl⟩
        obtain ⟨p0, p1, p2, p3, p4, p5, p6, p7⟩ := StF.box8 K6.out
        have hb7 : Below w6.heap.size w6 (w6.alloc (.cells #[.int .i64 0, .int .i64 0, .int .i64 (-1), .int .i64 (-1), .int .i64 (-1), .int .i64 (-1), .int .i64 (-1), .int .i64 (-1)] 52)) := (Below.refl _ _).alloc (Nat.le_refl _) _
        have HK7 := Lib.hid (And.intro ((hb7.block _ (DrawM.blt HK6.out.1)).trans HK6.out.1) ((hb7.block _ (DrawM.blt HK6.out.2)).trans HK6.out.2))
        have HB7 := Lib.hid (HB6.out.trans (hb7.mono HB6.out.size))
        have K7 := Lib.hid (heap_alloc_new w6 (.cells #[.int .i64 0, .int .i64 0, .int .i64 (-1), .int .i64 (-1), .int .i64 (-1), .int .i64 (-1), .int .i64 (-1), .int .i64 (-1)] 52))
        clear hb7
        go_upto_region 12 with fail
        generalize w6.alloc (.cells #[.int .i64 0, .int .i64 0, .int .i64 (-1), .int .i64 (-1), .int .i64 (-1), .int .i64 (-1), .int .i64 (-1), .int .i64 (-1)] 52) = w7 at HK7 HB7 K7 ⊢
        generalize w6.heap.size = g7 at K7 ⊢
        obtain ⟨_, _, a2, _⟩ := DrawM.box4 (w := w7.drew) HK7.out.1
        obtain ⟨_, _, b2, _⟩ := DrawM.box4 (w := w7.drew) HK7.out.2
        obtain ⟨s0, s1, _⟩ := StF.box8 (w := w7.drew) K7.out
        have x1 : w7.drew.cell? ⟨ga, oa, none⟩ = some (.bool (btAt t.ac 0)) := (HB7.out.cell (p := ⟨ga, oa, none⟩) HG.out.1).trans HC.out.1
        have x2 : w7.drew.cell? ⟨gb, ob, none⟩ = some (.bool (btAt u.ac 0)) := (HB7.out.cell (p := ⟨gb, ob, none⟩) HG.out.2).trans HC.out.2
        have hl1 : (0 : Int) < (t.ac.length : Int) := by have := HA.out.1; omega
        have hl2 : (0 : Int) < (u.ac.length : Int) := by have := HA.out.2; omega
        have HBD : Hid (Below w.heap.size w w7.drew) := Lib.hid HB7.out.drew
        clear p0 p1 p2 p3 p4 p5 p6 p7 HC
        generalize btAt t.ac 0 = e1 at x1 hdf
        generalize btAt u.ac 0 = e2 at x2 hdf
        cases e1 <;> cases e2
        · exact absurd rfl hdf
        · go_region
          all_goals
            go_wp2
            go_ret
            exact ⟨rfl, HBD.out⟩
        · go_region
          all_goals
            go_wp2
            go_ret
            exact ⟨rfl, HBD.out⟩
        · exact absurd rfl hdf
end Go.Proofs.Ythacnbeckhdhiaa
end

