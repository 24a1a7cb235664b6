/-
  The walk of the law FnRun, given the contract of the draw of machines. Two machines that the model draws: the contract of DrawMachines. Two machines that the model draws: the walk of DrawMachines.
-/
import Derived.Test.YtcginiklekdbgaaKCountWords9
import Derived.Test.YtcginiklekdbgaaKCountWords10
import Derived.Test.YtcginiklekdbgaaKCountWords14
import Derived.Test.YtcginiklekdbgaaKCountWords6
import Derived.Test.YtcginiklekdbgaaKCountWords3
import Derived.Test.YtcginiklekdbgaaKCountWords17
section
namespace Go.Proofs.Ytcginiklekdbgaa
open Go.RowKit Go.Sort
set_option linter.unusedVariables false

namespace DrawM
/-- Two drawn machines: the first one is valid. -/
def Two (w : World) (e : Ending) (w' : World) : Prop :=
  ∃ (t : Mach) (A B A2 B2 : Option Addr) (c d c2 d2 n2 m2 : Nat) (s2 r2 : Int), e = .returned (.tuple #[.agg #[.int .i64 t.st, .int .i64 t.rg, .slice A t.ac.length c, .slice B t.mv.length d], .agg #[.int .i64 s2, .int .i64 r2, .slice A2 n2 c2, .slice B2 m2 d2]]) ∧ machB t = true ∧ t.st ≤ 3 ∧ t.rg ≤ 2 ∧ MachIx w' (.agg #[.int .i64 t.st, .int .i64 t.rg, .slice A t.ac.length c, .slice B t.mv.length d]) t ∧ Below w.heap.size w w'
/-- The contract of DrawMachines: to be proved. -/
def MachinesP : Prop := ∀ (A : Option Addr) (n c : Nat) (w : World), BytesIn w A n → n ≤ 1048576 → Calls Try.prog 6 #[.slice A n c] w (Two w)
end DrawM

namespace fnRun
theorem big_no (A : Option Addr) (n c : Nat) (w : World) (h : n ≤ 4096) : Calls Try.prog 5 #[.slice A n c] w fun e w' => e = .returned (.bool false) ∧ w = w' := by
  have k0 : decide ((4096 : Int) < n) = false := by simp; omega
  go_enter Try.func5, Try.ntmps5
  go_wp2
  go_ret
  exact ⟨rfl, rfl⟩

theorem big_yes (A : Option Addr) (n c : Nat) (w : World) (h : 4096 < n) (h2 : n ≤ 9223372036854775807) : Calls Try.prog 5 #[.slice A n c] w fun e w' => e = .returned (.bool true) ∧ w = w' := by
  have k0 : decide ((4096 : Int) < n) = true := by simp; omega
  go_enter Try.func5, Try.ntmps5
  go_wp2
  go_ret
  exact ⟨rfl, rfl⟩

open Go.Sort in
end fnRun
end Go.Proofs.Ytcginiklekdbgaa
end

section
namespace Go.Proofs.Ytcginiklekdbgaa
open Go.RowKit Go.Sort
set_option linter.unusedVariables false

namespace DrawM
/-- The first machine lies in the box g, the two answers' boxes hold x and y. -/
structure Duo (w : World) (C g base : Nat) (t : Mach) (gA cA gB cB : Nat) (x0 x1 x2 x3 y0 y1 y2 y3 : Value) (wr : World) : Prop where
  bx : wr.heap[g]? = some (.cells #[(.int .i64 t.st), (.int .i64 t.rg), (.slice (some ⟨gA, 0, none⟩) t.ac.length cA), (.slice (some ⟨gB, 0, none⟩) t.mv.length cB)] 27 (0, 0))
  ra : wr.ownsRow base 4 1 (.slice (some ⟨gA, 0, none⟩) t.ac.length cA) t.ac.length (bcells t.ac)
  rm : wr.ownsRow base 66 2 (.slice (some ⟨gB, 0, none⟩) t.mv.length cB) t.mv.length (cellsOf t.mv)
  r0 : wr.heap[w.heap.size]? = some (.cells #[x0, x1, x2, x3] 27 (0, 0))
  r1 : wr.heap[w.heap.size + 1]? = some (.cells #[y0, y1, y2, y3] 27 (0, 0))
  cu : Cur wr w.heap.size C
  be : Below w.heap.size w wr
  gg : w.heap.size + 2 ≤ g
  cc : w.heap.size + 2 ≤ C
  cg : C ≠ g
  cb : C < base
theorem cur_set {W : World} {B C g o : Nat} {v : Value} (h : Cur W B C) (hB : B ≤ g) (hne : g ≠ C) : Cur (W.setCell ⟨g, o, none⟩ v) B C := by
  have hl := h.lt
  have hs := grown_set W g o v
  obtain ⟨A, n, c, i, x, hblk, hi, hn, hB2, hby⟩ := h
  exact ⟨A, n, c, i, x, (hs.block C hl (fun e => by injection e with e; exact hne e.symm)).trans hblk, hi, hn, hB2, hby.keep fun k hk => hs.block k (by omega) (fun e => by injection e with e; omega)⟩
theorem Duo.drew {w wr : World} {C g base gA cA gB cB : Nat} {t : Mach} {x0 x1 x2 x3 y0 y1 y2 y3 : Value} (h : Duo w C g base t gA cA gB cB x0 x1 x2 x3 y0 y1 y2 y3 wr) {w' : World} (hd : Drew w.heap.size C wr w') : Duo w C g base t gA cA gB cB x0 x1 x2 x3 y0 y1 y2 y3 w' := by
  have hcc := h.cc
  have hgg := h.gg
  have hcg := h.cg
  have hcb := h.cb
  exact ⟨(hd.2.block g (blt h.bx) (fun e => by injection e with e; omega)).trans h.bx, h.ra.kept hd.2 (.inr fun e => by have := (h.ra.lt C e).1; omega), h.rm.kept hd.2 (.inr fun e => by have := (h.rm.lt C e).1; omega),
    (hd.2.block _ (blt h.r0) (fun e => by injection e with e; omega)).trans h.r0, (hd.2.block _ (blt h.r1) (fun e => by injection e with e; omega)).trans h.r1, hd.1, h.be.grown hd.2 h.be.size (fun q e => by injection e with e; omega), hgg, hcc, hcg, hcb⟩
theorem Duo.below {w wr : World} {C g base gA cA gB cB : Nat} {t : Mach} {x0 x1 x2 x3 y0 y1 y2 y3 : Value} (h : Duo w C g base t gA cA gB cB x0 x1 x2 x3 y0 y1 y2 y3 wr) {w' : World} (hb : Below wr.heap.size wr w') : Duo w C g base t gA cA gB cB x0 x1 x2 x3 y0 y1 y2 y3 w' := by
  have hl := h.cu.lt
  have hc := h.cu
  refine ⟨(hb.block g (blt h.bx)).trans h.bx, own_below h.ra hb, own_below h.rm hb, (hb.block _ (blt h.r0)).trans h.r0, (hb.block _ (blt h.r1)).trans h.r1, ?_, h.be.trans (hb.mono h.be.size), h.gg, h.cc, h.cg, h.cb⟩
  obtain ⟨A, n, c, i, x, hblk, hi, hn, hB2, hby⟩ := hc
  exact ⟨A, n, c, i, x, (hb.block C hl).trans hblk, hi, hn, hB2, hby.keep fun k hk => hb.block k (by have := h.be.size; omega)⟩
theorem Duo.put00 {w wr : World} {C g base gA cA gB cB : Nat} {t : Mach} {x0 x1 x2 x3 y0 y1 y2 y3 : Value} (h : Duo w C g base t gA cA gB cB x0 x1 x2 x3 y0 y1 y2 y3 wr) (v : Value) : Duo w C g base t gA cA gB cB v x1 x2 x3 y0 y1 y2 y3 (wr.setCell ⟨w.heap.size, 0, none⟩ v) := by
  have hcc := h.cc
  have hgg := h.gg
  have hcg := h.cg
  have hcb := h.cb
  have hs := grown_set wr w.heap.size 0 v
  exact ⟨(hs.block g (blt h.bx) (fun e => by injection e with e; omega)).trans h.bx, h.ra.kept hs (.inr fun e => by have := (h.ra.lt _ e).1; omega), h.rm.kept hs (.inr fun e => by have := (h.rm.lt _ e).1; omega), heap_setCell_same wr w.heap.size 0 _ _ v h.r0, (hs.block _ (blt h.r1) (fun e => by injection e with e; omega)).trans h.r1, cur_set h.cu (by omega) (by omega), h.be.setCell (p := ⟨w.heap.size, 0, none⟩) (by show w.heap.size ≤ w.heap.size; omega) _, hgg, hcc, hcg, hcb⟩
theorem Duo.put01 {w wr : World} {C g base gA cA gB cB : Nat} {t : Mach} {x0 x1 x2 x3 y0 y1 y2 y3 : Value} (h : Duo w C g base t gA cA gB cB x0 x1 x2 x3 y0 y1 y2 y3 wr) (v : Value) : Duo w C g base t gA cA gB cB x0 v x2 x3 y0 y1 y2 y3 (wr.setCell ⟨w.heap.size, 1, none⟩ v) := by
  have hcc := h.cc
  have hgg := h.gg
  have hcg := h.cg
  have hcb := h.cb
  have hs := grown_set wr w.heap.size 1 v
  exact ⟨(hs.block g (blt h.bx) (fun e => by injection e with e; omega)).trans h.bx, h.ra.kept hs (.inr fun e => by have := (h.ra.lt _ e).1; omega), h.rm.kept hs (.inr fun e => by have := (h.rm.lt _ e).1; omega), heap_setCell_same wr w.heap.size 1 _ _ v h.r0, (hs.block _ (blt h.r1) (fun e => by injection e with e; omega)).trans h.r1, cur_set h.cu (by omega) (by omega), h.be.setCell (p := ⟨w.heap.size, 1, none⟩) (by show w.heap.size ≤ w.heap.size; omega) _, hgg, hcc, hcg, hcb⟩
theorem Duo.put02 {w wr : World} {C g base gA cA gB cB : Nat} {t : Mach} {x0 x1 x2 x3 y0 y1 y2 y3 : Value} (h : Duo w C g base t gA cA gB cB x0 x1 x2 x3 y0 y1 y2 y3 wr) (v : Value) : Duo w C g base t gA cA gB cB x0 x1 v x3 y0 y1 y2 y3 (wr.setCell ⟨w.heap.size, 2, none⟩ v) := by
  have hcc := h.cc
  have hgg := h.gg
  have hcg := h.cg
  have hcb := h.cb
  have hs := grown_set wr w.heap.size 2 v
  exact ⟨(hs.block g (blt h.bx) (fun e => by injection e with e; omega)).trans h.bx, h.ra.kept hs (.inr fun e => by have := (h.ra.lt _ e).1; omega), h.rm.kept hs (.inr fun e => by have := (h.rm.lt _ e).1; omega), heap_setCell_same wr w.heap.size 2 _ _ v h.r0, (hs.block _ (blt h.r1) (fun e => by injection e with e; omega)).trans h.r1, cur_set h.cu (by omega) (by omega), h.be.setCell (p := ⟨w.heap.size, 2, none⟩) (by show w.heap.size ≤ w.heap.size; omega) _, hgg, hcc, hcg, hcb⟩
theorem Duo.put03 {w wr : World} {C g base gA cA gB cB : Nat} {t : Mach} {x0 x1 x2 x3 y0 y1 y2 y3 : Value} (h : Duo w C g base t gA cA gB cB x0 x1 x2 x3 y0 y1 y2 y3 wr) (v : Value) : Duo w C g base t gA cA gB cB x0 x1 x2 v y0 y1 y2 y3 (wr.setCell ⟨w.heap.size, 3, none⟩ v) := by
  have hcc := h.cc
  have hgg := h.gg
  have hcg := h.cg
  have hcb := h.cb
  have hs := grown_set wr w.heap.size 3 v
  exact ⟨(hs.block g (blt h.bx) (fun e => by injection e with e; omega)).trans h.bx, h.ra.kept hs (.inr fun e => by have := (h.ra.lt _ e).1; omega), h.rm.kept hs (.inr fun e => by have := (h.rm.lt _ e).1; omega), heap_setCell_same wr w.heap.size 3 _ _ v h.r0, (hs.block _ (blt h.r1) (fun e => by injection e with e; omega)).trans h.r1, cur_set h.cu (by omega) (by omega), h.be.setCell (p := ⟨w.heap.size, 3, none⟩) (by show w.heap.size ≤ w.heap.size; omega) _, hgg, hcc, hcg, hcb⟩
theorem Duo.set0 {w wr : World} {C g base gA cA gB cB : Nat} {t : Mach} {x0 x1 x2 x3 y0 y1 y2 y3 : Value} (h : Duo w C g base t gA cA gB cB x0 x1 x2 x3 y0 y1 y2 y3 wr) (a b c d : Value) : Duo w C g base t gA cA gB cB a b c d y0 y1 y2 y3 ((((wr.setCell ⟨w.heap.size, 0, none⟩ a).setCell ⟨w.heap.size, 1, none⟩ b).setCell ⟨w.heap.size, 2, none⟩ c).setCell ⟨w.heap.size, 3, none⟩ d) :=
  (((h.put00 a).put01 b).put02 c).put03 d
theorem Duo.put10 {w wr : World} {C g base gA cA gB cB : Nat} {t : Mach} {x0 x1 x2 x3 y0 y1 y2 y3 : Value} (h : Duo w C g base t gA cA gB cB x0 x1 x2 x3 y0 y1 y2 y3 wr) (v : Value) : Duo w C g base t gA cA gB cB x0 x1 x2 x3 v y1 y2 y3 (wr.setCell ⟨w.heap.size + 1, 0, none⟩ v) := by
  have hcc := h.cc
  have hgg := h.gg
  have hcg := h.cg
  have hcb := h.cb
  have hs := grown_set wr (w.heap.size + 1) 0 v
  exact ⟨(hs.block g (blt h.bx) (fun e => by injection e with e; omega)).trans h.bx, h.ra.kept hs (.inr fun e => by have := (h.ra.lt _ e).1; omega), h.rm.kept hs (.inr fun e => by have := (h.rm.lt _ e).1; omega), (hs.block _ (blt h.r0) (fun e => by injection e with e; omega)).trans h.r0, heap_setCell_same wr (w.heap.size + 1) 0 _ _ v h.r1, cur_set h.cu (by omega) (by omega), h.be.setCell (p := ⟨w.heap.size + 1, 0, none⟩) (by show w.heap.size ≤ w.heap.size + 1; omega) _, hgg, hcc, hcg, hcb⟩
theorem Duo.put11 {w wr : World} {C g base gA cA gB cB : Nat} {t : Mach} {x0 x1 x2 x3 y0 y1 y2 y3 : Value} (h : Duo w C g base t gA cA gB cB x0 x1 x2 x3 y0 y1 y2 y3 wr) (v : Value) : Duo w C g base t gA cA gB cB x0 x1 x2 x3 y0 v y2 y3 (wr.setCell ⟨w.heap.size + 1, 1, none⟩ v) := by
  have hcc := h.cc
  have hgg := h.gg
  have hcg := h.cg
  have hcb := h.cb
  have hs := grown_set wr (w.heap.size + 1) 1 v
  exact ⟨(hs.block g (blt h.bx) (fun e => by injection e with e; omega)).trans h.bx, h.ra.kept hs (.inr fun e => by have := (h.ra.lt _ e).1; omega), h.rm.kept hs (.inr fun e => by have := (h.rm.lt _ e).1; omega), (hs.block _ (blt h.r0) (fun e => by injection e with e; omega)).trans h.r0, heap_setCell_same wr (w.heap.size + 1) 1 _ _ v h.r1, cur_set h.cu (by omega) (by omega), h.be.setCell (p := ⟨w.heap.size + 1, 1, none⟩) (by show w.heap.size ≤ w.heap.size + 1; omega) _, hgg, hcc, hcg, hcb⟩
theorem Duo.put12 {w wr : World} {C g base gA cA gB cB : Nat} {t : Mach} {x0 x1 x2 x3 y0 y1 y2 y3 : Value} (h : Duo w C g base t gA cA gB cB x0 x1 x2 x3 y0 y1 y2 y3 wr) (v : Value) : Duo w C g base t gA cA gB cB x0 x1 x2 x3 y0 y1 v y3 (wr.setCell ⟨w.heap.size + 1, 2, none⟩ v) := by
  have hcc := h.cc
  have hgg := h.gg
  have hcg := h.cg
  have hcb := h.cb
  have hs := grown_set wr (w.heap.size + 1) 2 v
  exact ⟨(hs.block g (blt h.bx) (fun e => by injection e with e; omega)).trans h.bx, h.ra.kept hs (.inr fun e => by have := (h.ra.lt _ e).1; omega), h.rm.kept hs (.inr fun e => by have := (h.rm.lt _ e).1; omega), (hs.block _ (blt h.r0) (fun e => by injection e with e; omega)).trans h.r0, heap_setCell_same wr (w.heap.size + 1) 2 _ _ v h.r1, cur_set h.cu (by omega) (by omega), h.be.setCell (p := ⟨w.heap.size + 1, 2, none⟩) (by show w.heap.size ≤ w.heap.size + 1; omega) _, hgg, hcc, hcg, hcb⟩
theorem Duo.put13 {w wr : World} {C g base gA cA gB cB : Nat} {t : Mach} {x0 x1 x2 x3 y0 y1 y2 y3 : Value} (h : Duo w C g base t gA cA gB cB x0 x1 x2 x3 y0 y1 y2 y3 wr) (v : Value) : Duo w C g base t gA cA gB cB x0 x1 x2 x3 y0 y1 y2 v (wr.setCell ⟨w.heap.size + 1, 3, none⟩ v) := by
  have hcc := h.cc
  have hgg := h.gg
  have hcg := h.cg
  have hcb := h.cb
  have hs := grown_set wr (w.heap.size + 1) 3 v
  exact ⟨(hs.block g (blt h.bx) (fun e => by injection e with e; omega)).trans h.bx, h.ra.kept hs (.inr fun e => by have := (h.ra.lt _ e).1; omega), h.rm.kept hs (.inr fun e => by have := (h.rm.lt _ e).1; omega), (hs.block _ (blt h.r0) (fun e => by injection e with e; omega)).trans h.r0, heap_setCell_same wr (w.heap.size + 1) 3 _ _ v h.r1, cur_set h.cu (by omega) (by omega), h.be.setCell (p := ⟨w.heap.size + 1, 3, none⟩) (by show w.heap.size ≤ w.heap.size + 1; omega) _, hgg, hcc, hcg, hcb⟩
theorem Duo.set1 {w wr : World} {C g base gA cA gB cB : Nat} {t : Mach} {x0 x1 x2 x3 y0 y1 y2 y3 : Value} (h : Duo w C g base t gA cA gB cB x0 x1 x2 x3 y0 y1 y2 y3 wr) (a b c d : Value) : Duo w C g base t gA cA gB cB x0 x1 x2 x3 a b c d ((((wr.setCell ⟨w.heap.size + 1, 0, none⟩ a).setCell ⟨w.heap.size + 1, 1, none⟩ b).setCell ⟨w.heap.size + 1, 2, none⟩ c).setCell ⟨w.heap.size + 1, 3, none⟩ d) :=
  (((h.put10 a).put11 b).put12 c).put13 d
theorem own_cap {w : World} {base size n cap : Nat} {e : TypeId} {A : Option Addr} {xs : List Value} (h : w.ownsRow base e size (.slice A n cap) n xs) : n ≤ cap := by
  rcases h.2 with ⟨h1, rfl⟩ | ⟨g', cap', cur, h1, _, _, h2, _⟩
  · exact Nat.zero_le _
  · injection h1 with _ _ h3
    omega
theorem Duo.out {w wr : World} {C g base gA cA gB cB : Nat} {t : Mach} {x0 x1 x2 x3 y0 y1 y2 y3 : Value} (h : Duo w C g base t gA cA gB cB x0 x1 x2 x3 y0 y1 y2 y3 wr) (hmb : machB t = true) : MachIx wr (.agg #[(.int .i64 t.st), (.int .i64 t.rg), (.slice (some ⟨gA, 0, none⟩) t.ac.length cA), (.slice (some ⟨gB, 0, none⟩) t.mv.length cB)]) t ∧ Below w.heap.size w wr := by
  have h9 := Twin.mach_len hmb
  have hn0 := own_cap h.ra
  have hn1 := own_cap h.rm
  obtain ⟨A8, c8, e8, h8⟩ := own_boolsAt h.ra
  obtain ⟨A7, c7, e7, h7⟩ := own_pairsAt h.rm
  simp only [Value.slice.injEq, true_and] at e8 e7
  obtain ⟨rfl, rfl⟩ := e8
  obtain ⟨rfl, rfl⟩ := e7
  exact ⟨⟨_, _, _, _, rfl, h8, h7, (fun e => by cases e), (fun e => by cases e), by omega, by omega⟩, h.be⟩
theorem set4_keep {w : World} {h g q : Nat} {v a b c d : Value} (hv : w.cell? ⟨h, q, none⟩ = some v) (hne : h ≠ g) : ((((w.setCell ⟨g, 0, none⟩ a).setCell ⟨g, 1, none⟩ b).setCell ⟨g, 2, none⟩ c).setCell ⟨g, 3, none⟩ d).cell? ⟨h, q, none⟩ = some v := by
  have hlt : h < w.heap.size := by
    rcases Nat.lt_or_ge h w.heap.size with h3 | h3
    · exact h3
    · simp [World.cell?, Array.getElem?_eq_none h3] at hv
  have e : ∀ (W : World) (o : Nat) (x : Value), W.heap[h]? = w.heap[h]? → (W.setCell ⟨g, o, none⟩ x).heap[h]? = w.heap[h]? := fun W o x hW => (heap_setCell_other W ⟨g, o, none⟩ h _ hne).trans hW
  exact (World.cell?_of_block (w := w) (a := ⟨h, q, none⟩) (e _ 3 d (e _ 2 c (e _ 1 b (e _ 0 a rfl))))).trans hv
end DrawM
end Go.Proofs.Ytcginiklekdbgaa
end

section
namespace Go.Proofs.Ytcginiklekdbgaa
open Go.RowKit Go.Sort
set_option linter.unusedVariables false
namespace DrawM
theorem start2 (w : World) : ((w.alloc (.cells #[.int .i64 0, .int .i64 0, .slice none 0 0, .slice none 0 0] 27)).alloc (.cells #[.int .i64 0, .int .i64 0, .slice none 0 0, .slice none 0 0] 27)).heap[w.heap.size]? = some (.cells #[.int .i64 0, .int .i64 0, .slice none 0 0, .slice none 0 0] 27 (0, 0)) ∧ ((w.alloc (.cells #[.int .i64 0, .int .i64 0, .slice none 0 0, .slice none 0 0] 27)).alloc (.cells #[.int .i64 0, .int .i64 0, .slice none 0 0, .slice none 0 0] 27)).heap[w.heap.size + 1]? = some (.cells #[.int .i64 0, .int .i64 0, .slice none 0 0, .slice none 0 0] 27 (0, 0)) ∧ ((w.alloc (.cells #[.int .i64 0, .int .i64 0, .slice none 0 0, .slice none 0 0] 27)).alloc (.cells #[.int .i64 0, .int .i64 0, .slice none 0 0, .slice none 0 0] 27)).heap.size = w.heap.size + 2 ∧ Below w.heap.size w ((w.alloc (.cells #[.int .i64 0, .int .i64 0, .slice none 0 0, .slice none 0 0] 27)).alloc (.cells #[.int .i64 0, .int .i64 0, .slice none 0 0, .slice none 0 0] 27)) := by
  have h1 := heap_alloc_new w (.cells #[.int .i64 0, .int .i64 0, .slice none 0 0, .slice none 0 0] 27)
  have h2 := heap_alloc_new (w.alloc (.cells #[.int .i64 0, .int .i64 0, .slice none 0 0, .slice none 0 0] 27)) (.cells #[.int .i64 0, .int .i64 0, .slice none 0 0, .slice none 0 0] 27)
  rw [World.size_alloc] at h2
  refine ⟨(Below.heap_alloc _ _ _ (by rw [World.size_alloc]; omega)).trans h1, h2, by rw [World.size_alloc, World.size_alloc], ((Below.refl _ _).alloc (Nat.le_refl _) _).alloc (by rw [World.size_alloc]; omega) _⟩
theorem fz4 {w : World} {g : Nat} {a b c d : Value} {T : TypeId} (h : w.heap[g]? = some (.cells #[a, b, c, d] T (0, 0))) : w.frozen? ⟨g, 0, none⟩ = false ∧ w.frozen? ⟨g, 1, none⟩ = false ∧ w.frozen? ⟨g, 2, none⟩ = false ∧ w.frozen? ⟨g, 3, none⟩ = false :=
  ⟨frozen_of_row _ _ 0 _ _ h, frozen_of_row _ _ 1 _ _ h, frozen_of_row _ _ 2 _ _ h, frozen_of_row _ _ 3 _ _ h⟩
theorem Duo.drw {w wr : World} {C g base gA cA gB cB : Nat} {t : Mach} {x0 x1 x2 x3 y0 y1 y2 y3 : Value} (h : Duo w C g base t gA cA gB cB x0 x1 x2 x3 y0 y1 y2 y3 wr) : Duo w C g base t gA cA gB cB x0 x1 x2 x3 y0 y1 y2 y3 wr.drew :=
  h.below ⟨rfl, rfl, rfl, Nat.le_refl _, fun _ _ => rfl⟩
theorem drw_cell (W : World) (p : Addr) : W.drew.cell? p = W.cell? p := rfl
theorem set4_keepd {w : World} {h g q : Nat} {v a b c d : Value} (hv : w.drew.cell? ⟨h, q, none⟩ = some v) (hne : h ≠ g) : ((((w.setCell ⟨g, 0, none⟩ a).setCell ⟨g, 1, none⟩ b).setCell ⟨g, 2, none⟩ c).setCell ⟨g, 3, none⟩ d).drew.cell? ⟨h, q, none⟩ = some v := by
  rw [drw_cell] at hv ⊢
  exact set4_keep hv hne
end DrawM
set_option maxRecDepth 100000 in
set_option maxHeartbeats 16000000 in
theorem drawMachines_any : DrawM.MachinesP := by
  intro A n c w hA hn
  obtain ⟨r0, r1, hz0, hb0⟩ := DrawM.start2 w
  have hnew := l1New_up A n c w.heap.size ((w.alloc (.cells #[.int .i64 0, .int .i64 0, .slice none 0 0, .slice none 0 0] 27)).alloc (.cells #[.int .i64 0, .int .i64 0, .slice none 0 0, .slice none 0 0] 27)) (BytesAt.keep hA hb0.block) (by omega) hn
  have HR0 := Lib.hid r0
  have HR1 := Lib.hid r1
  have HZ0 := Lib.hid hz0
  have HB0 := Lib.hid hb0
  clear hA r0 r1 hz0 hb0
  go_enter Try.func6, Try.ntmps6
  go_wp2_with fail
  refine hnew.mono ?_
  rintro e w1 ⟨C, rfl, hc1, hb1, hCl⟩
  have hz := HZ0.out
  have hC1 := hc1.lt
  have hs1 := hb1.size
  have k0 := (hb1.block w.heap.size (by omega)).trans HR0.out
  have k1 := (hb1.block (w.heap.size + 1) (by omega)).trans HR1.out
  have hbe := HB0.out.trans (hb1.mono HB0.out.size)
  have hdr := l7Draw_any w.heap.size C 3 2 (by decide) (by decide) w1 hc1
  rw [show ((3 : Nat) : Int) = 3 from rfl, show ((2 : Nat) : Int) = 2 from rfl] at hdr
  rw [hz] at hCl hs1
  clear hnew HR0 HR1 HZ0 HB0 hb1 hz
  go_wp2_with fail
  refine hdr.mono ?_
  rintro e w2 ⟨t, vA, vB, rfl, hmb, hst, hrg, ra, rm, hd2⟩
  have h9 := Twin.mach_len hmb
  obtain ⟨gA, cA, rfl, _, _⟩ := ra.form h9.1
  obtain ⟨gB, cB, rfl, _, _⟩ := rm.form h9.2.2.1
  have hs2 := hd2.2.size
  have hD : DrawM.Duo w C w2.heap.size (w1.heap.size + 1) t gA cA gB cB (.int .i64 0) (.int .i64 0) (.slice none 0 0) (.slice none 0 0) (.int .i64 0) (.int .i64 0) (.slice none 0 0) (.slice none 0 0) (w2.alloc (.cells #[(.int .i64 t.st), (.int .i64 t.rg), (.slice (some ⟨gA, 0, none⟩) t.ac.length cA), (.slice (some ⟨gB, 0, none⟩) t.mv.length cB)] 27)) := by
    have hbx : Below w2.heap.size w2 (w2.alloc (.cells #[(.int .i64 t.st), (.int .i64 t.rg), (.slice (some ⟨gA, 0, none⟩) t.ac.length cA), (.slice (some ⟨gB, 0, none⟩) t.mv.length cB)] 27)) := (Below.refl _ _).alloc (Nat.le_refl _) _
    refine ⟨heap_alloc_new w2 _, own_below ra hbx, own_below rm hbx, (hbx.block _ (by omega)).trans ((hd2.2.block _ (by omega) (fun e => by injection e with e; omega)).trans k0), (hbx.block _ (by omega)).trans ((hd2.2.block _ (by omega) (fun e => by injection e with e; omega)).trans k1), ?_, (hbe.grown hd2.2 hbe.size (fun q e => by injection e with e; omega)).trans (hbx.mono (by omega)), by omega, by omega, by omega, by omega⟩
    exact hd2.1.alloc _
  have hon := l1Once_any w.heap.size C 2 _ hD.cu (by omega) (by omega)
  have HD := Lib.hid hD
  clear hdr ra rm hd2 k0 k1 hbe hD
  go_wp2_with fail
  refine hon.mono ?_
  rintro e w3 ⟨b, rfl, hd3⟩
  have hD3 := HD.out.drew hd3
  clear hon hd3 HD
  obtain ⟨g, hg⟩ : ∃ g : Nat, g = w2.heap.size := ⟨_, rfl⟩
  rw [← hg] at hD3 ⊢
  have hgg := hD3.gg
  have HD3 := Lib.hid hD3
  have HMB := Lib.hid hmb
  have hn0 : ¬ g = w.heap.size := by omega
  have hn1 : ¬ g = w.heap.size + 1 := by omega
  have hn2 : ¬ w.heap.size = g := by omega
  have hn3 : ¬ w.heap.size + 1 = g := by omega
  have hw : Below w3.heap.size w3 w3.drew := ⟨rfl, rfl, rfl, Nat.le_refl _, fun _ _ => rfl⟩
  clear hg hs1 hs2 hC1 hCl hc1 hD3 hmb
  cases b with
  | true =>
    have hDd := HD3.out.below hw
    have hDs := hDd.set0 (.int .i64 t.st) (.int .i64 t.rg) (.slice (some ⟨gA, 0, none⟩) t.ac.length cA) (.slice (some ⟨gB, 0, none⟩) t.mv.length cB)
    have HDd := Lib.hid hDd
    have HDs := Lib.hid hDs
    have hfa := l7Draw_any w.heap.size C 3 2 (by decide) (by decide) _ hDd.cu
    have hfb := l7Draw_any w.heap.size C 3 2 (by decide) (by decide) _ hDs.cu
    rw [show ((3 : Nat) : Int) = 3 from rfl, show ((2 : Nat) : Int) = 2 from rfl] at hfa hfb
    obtain ⟨u0, u1, u2, u3⟩ := DrawM.box4 hDd.bx
    obtain ⟨s0, s1, s2, s3⟩ := DrawM.box4 hDd.r0
    obtain ⟨e0, e1, e2, e3⟩ := DrawM.fz4 hDd.r0
    obtain ⟨v0, v1, v2, v3⟩ := DrawM.box4 hDs.bx
    clear hDd hDs
    go_wp2
    go_region_held3 (fun w' => w'.cell? ⟨g, 0, none⟩ = some (.int .i64 t.st) ∧ w'.cell? ⟨g, 1, none⟩ = some (.int .i64 t.rg) ∧ w'.cell? ⟨g, 2, none⟩ = some (.slice (some ⟨gA, 0, none⟩) t.ac.length cA) ∧ w'.cell? ⟨g, 3, none⟩ = some (.slice (some ⟨gB, 0, none⟩) t.mv.length cB))
      (first | (with_reducible exact ⟨by assumption, by assumption, by assumption, by assumption⟩) | (with_reducible exact ⟨DrawM.set4_keep (by assumption) (by assumption), DrawM.set4_keep (by assumption) (by assumption), DrawM.set4_keep (by assumption) (by assumption), DrawM.set4_keep (by assumption) (by assumption)⟩) | go_keep)
      (first
      | (go_at_call 18; first | ((with_reducible refine hfa.mono ?_); rintro e w4 ⟨t2, vA2, vB2, rfl, _, _, _, ra2, rm2, hd4⟩; obtain ⟨A2, c2, rfl⟩ := DrawM.form ra2; obtain ⟨B2, d2, rfl⟩ := DrawM.form rm2; have H4 := Lib.hid (HDd.out.drew hd4); obtain ⟨a0, a1, a2, a3⟩ := DrawM.box4 H4.out.bx; obtain ⟨s0, s1, s2, s3⟩ := DrawM.box4 H4.out.r0; obtain ⟨q0, q1, q2, q3⟩ := DrawM.box4 H4.out.r1; obtain ⟨e0, e1, e2, e3⟩ := DrawM.fz4 H4.out.r0; obtain ⟨f0, f1, f2, f3⟩ := DrawM.fz4 H4.out.r1) | ((with_reducible refine hfb.mono ?_); rintro e w4 ⟨t2, vA2, vB2, rfl, _, _, _, ra2, rm2, hd4⟩; obtain ⟨A2, c2, rfl⟩ := DrawM.form ra2; obtain ⟨B2, d2, rfl⟩ := DrawM.form rm2; have H4 := Lib.hid (HDs.out.drew hd4); obtain ⟨a0, a1, a2, a3⟩ := DrawM.box4 H4.out.bx; obtain ⟨s0, s1, s2, s3⟩ := DrawM.box4 H4.out.r0; obtain ⟨q0, q1, q2, q3⟩ := DrawM.box4 H4.out.r1; obtain ⟨e0, e1, e2, e3⟩ := DrawM.fz4 H4.out.r0; obtain ⟨f0, f1, f2, f3⟩ := DrawM.fz4 H4.out.r1))
      | fail)
    all_goals
      have H5 := ((H4.out.set0 (.int .i64 t.st) (.int .i64 t.rg) (.slice (some ⟨gA, 0, none⟩) t.ac.length cA) (.slice (some ⟨gB, 0, none⟩) t.mv.length cB)).set1 (.int .i64 t2.st) (.int .i64 t2.rg) (.slice A2 t2.ac.length c2) (.slice B2 t2.mv.length d2))
      obtain ⟨z0, z1, z2, z3⟩ := DrawM.box4 H5.r0
      obtain ⟨y0, y1, y2, y3⟩ := DrawM.box4 H5.r1
      have H6 := Lib.hid (H5.out HMB.out)
      clear H5
      go_wp2
      exact bodyPost_ret (v := .tuple #[.agg #[(.int .i64 t.st), (.int .i64 t.rg), (.slice (some ⟨gA, 0, none⟩) t.ac.length cA), (.slice (some ⟨gB, 0, none⟩) t.mv.length cB)], .agg #[(.int .i64 t2.st), (.int .i64 t2.rg), (.slice A2 t2.ac.length c2), (.slice B2 t2.mv.length d2)]]) (by simp [results, Try.results6, go_sem, z0, z1, z2, z3, y0, y1, y2, y3]) rfl ⟨t, _, _, _, _, _, _, _, _, _, _, _, _, rfl, HMB.out, hst, hrg, H6.out.1, H6.out.2⟩
  | false =>
    have htw := l7Twin_any w.heap.size C (w1.heap.size + 1) t (some ⟨gA, 0, none⟩) (some ⟨gB, 0, none⟩) cA cB w3 HMB.out HD3.out.cu HD3.out.cb HD3.out.ra HD3.out.rm
    obtain ⟨u0, u1, u2, u3⟩ := DrawM.box4 HD3.out.bx
    go_wp2_with fail
    refine htw.mono ?_
    rintro e w4 ⟨s2, r2, A2, B2, n2, c2, m2, d2, rfl, hd4⟩
    have hbx : Below w4.heap.size w4 (w4.alloc (.cells #[(.int .i64 s2), (.int .i64 r2), (.slice A2 n2 c2), (.slice B2 m2 d2)] 27)) := (Below.refl _ _).alloc (Nat.le_refl _) _
    have H4 := HD3.out.drew hd4
    have H5 := H4.below hbx
    have k5 := heap_alloc_new w4 (.cells #[(.int .i64 s2), (.int .i64 r2), (.slice A2 n2 c2), (.slice B2 m2 d2)] 27)
    have hl0 := DrawM.blt H4.r0
    have hl1 := DrawM.blt H4.r1
    have hlg := DrawM.blt H4.bx
    clear htw hd4 hbx u0 u1 u2 u3 H4
    have H6 := Lib.hid H5
    have K6 := Lib.hid k5
    have hm0 : ¬ w4.heap.size = w.heap.size := by omega
    have hm1 : ¬ w4.heap.size = w.heap.size + 1 := by omega
    clear H5 k5
    go_wp2
    generalize w4.alloc (.cells #[(.int .i64 s2), (.int .i64 r2), (.slice A2 n2 c2), (.slice B2 m2 d2)] 27) = w5 at H6 K6 ⊢
    generalize w4.heap.size = h at K6 hm0 hm1 ⊢
    have hw5 : Below w5.heap.size w5 w5.drew := ⟨rfl, rfl, rfl, Nat.le_refl _, fun _ _ => rfl⟩
    have H5 := H6.out.below hw5
    have k5 := (hw5.block h (DrawM.blt K6.out)).trans K6.out
    have H4 := Lib.hid H5
    obtain ⟨b0, b1, b2, b3⟩ := DrawM.box4 H5.bx
    obtain ⟨p0, p1, p2, p3⟩ := DrawM.box4 k5
    obtain ⟨s0, s1, s2c, s3⟩ := DrawM.box4 H5.r0
    obtain ⟨q0, q1, q2, q3⟩ := DrawM.box4 H5.r1
    obtain ⟨e0, e1, e2, e3⟩ := DrawM.fz4 H5.r0
    obtain ⟨f0, f1, f2, f3⟩ := DrawM.fz4 H5.r1
    obtain ⟨_, _, _, _⟩ := DrawM.box4 H6.out.r0
    obtain ⟨_, _, _, _⟩ := DrawM.box4 H6.out.r1
    obtain ⟨_, _, _, _⟩ := DrawM.fz4 H6.out.r0
    obtain ⟨_, _, _, _⟩ := DrawM.fz4 H6.out.r1
    clear H5 k5 hw5 K6
    go_region_held3 (fun w' => (w'.cell? ⟨g, 0, none⟩ = some (.int .i64 t.st) ∧ w'.cell? ⟨g, 1, none⟩ = some (.int .i64 t.rg) ∧ w'.cell? ⟨g, 2, none⟩ = some (.slice (some ⟨gA, 0, none⟩) t.ac.length cA) ∧ w'.cell? ⟨g, 3, none⟩ = some (.slice (some ⟨gB, 0, none⟩) t.mv.length cB)) ∧ (w'.cell? ⟨h, 0, none⟩ = some (.int .i64 s2) ∧ w'.cell? ⟨h, 1, none⟩ = some (.int .i64 r2) ∧ w'.cell? ⟨h, 2, none⟩ = some (.slice A2 n2 c2) ∧ w'.cell? ⟨h, 3, none⟩ = some (.slice B2 m2 d2)))
      (first | (with_reducible exact ⟨⟨by assumption, by assumption, by assumption, by assumption⟩, ⟨by assumption, by assumption, by assumption, by assumption⟩⟩) | (with_reducible exact ⟨⟨DrawM.set4_keepd (by assumption) (by assumption), DrawM.set4_keepd (by assumption) (by assumption), DrawM.set4_keepd (by assumption) (by assumption), DrawM.set4_keepd (by assumption) (by assumption)⟩, ⟨DrawM.set4_keepd (by assumption) (by assumption), DrawM.set4_keepd (by assumption) (by assumption), DrawM.set4_keepd (by assumption) (by assumption), DrawM.set4_keepd (by assumption) (by assumption)⟩⟩) | (go_split_ands; with_reducible exact ⟨⟨DrawM.set4_keepd (by assumption) (by assumption), DrawM.set4_keepd (by assumption) (by assumption), DrawM.set4_keepd (by assumption) (by assumption), DrawM.set4_keepd (by assumption) (by assumption)⟩, ⟨DrawM.set4_keepd (by assumption) (by assumption), DrawM.set4_keepd (by assumption) (by assumption), DrawM.set4_keepd (by assumption) (by assumption), DrawM.set4_keepd (by assumption) (by assumption)⟩⟩) | go_keep)
      (fail)
    all_goals
      have H5 := ((H6.out.set0 (.int .i64 t.st) (.int .i64 t.rg) (.slice (some ⟨gA, 0, none⟩) t.ac.length cA) (.slice (some ⟨gB, 0, none⟩) t.mv.length cB)).set1 (.int .i64 s2) (.int .i64 r2) (.slice A2 n2 c2) (.slice B2 m2 d2)).drw
      obtain ⟨z0, z1, z2, z3⟩ := DrawM.box4 H5.r0
      obtain ⟨y0, y1, y2, y3⟩ := DrawM.box4 H5.r1
      have H6 := Lib.hid (H5.out HMB.out)
      clear H5
      go_wp2
      exact bodyPost_ret (v := .tuple #[.agg #[(.int .i64 t.st), (.int .i64 t.rg), (.slice (some ⟨gA, 0, none⟩) t.ac.length cA), (.slice (some ⟨gB, 0, none⟩) t.mv.length cB)], .agg #[(.int .i64 s2), (.int .i64 r2), (.slice A2 n2 c2), (.slice B2 m2 d2)]]) (by simp [results, Try.results6, go_sem, z0, z1, z2, z3, y0, y1, y2, y3]) rfl ⟨t, _, _, _, _, _, _, _, _, _, _, _, _, rfl, HMB.out, hst, hrg, H6.out.1, H6.out.2⟩

end Go.Proofs.Ytcginiklekdbgaa
end

