/-
  The comparison of two pairs and of two lists of pairs, as contracts. Comparing and numbering lists of booleans, as contracts. Lists of moves: the laws' own copies and comparisons, as contracts. The cursor from which the model draws: what it gives is within its range, as contracts. Numbers that the model draws from a cursor, limits and others: contracts. Comparing numbers, atoms, and finding a pair by its first atom, as contracts. Whether moves are in order, as a contract. Whether a list has a number: in the model, as a contract. Whether a list of pairs is a permutation, as the program decides it: a contract. Whether a list of pairs is a permutation, as the model decides it: a contract; and that both decide alike. The moved atoms of a list of pairs: in the program, as a contract. A number is put into an ascending list, and the atoms of two lists of pairs together: in the model, as contracts. l1Insert of the model at a list in any order, as a contract. Tuples and constants that the model draws from a cursor: contracts. The atoms that two lists of pairs move: in the model, as a contract. What the pairs give to an atom, in the program and in the model, as contracts. Plain mathematics of permutations that are written as lists of pairs. What a permutation gives to an atom, in the program and in the model, as contracts. What a permutation makes of a list of atoms: plain words. Whether a list has a number: in the laws, as a contract. Constants, tuples and patterns: plain words, no program is walked here. A cursor whose base lies below the memory at hand: the contract of l1New.
-/
import Derived.Test.YtcginiklekdbgaaKRun2
import Derived.WalkLawsBesides
import Derived.WalkSpells
import Derived.BigQuiet
import Derived.Lib.QuietBelow
import Derived.Lib.Hide
section
namespace Go.Proofs.Ytcginiklekdbgaa
open Go.RowKit Go.Sort

end Go.Proofs.Ytcginiklekdbgaa
end

section
namespace Go.Proofs.Ytcginiklekdbgaa
open Go.RowKit Go.Sort

end Go.Proofs.Ytcginiklekdbgaa
end

section
namespace Go.Proofs.Ytcginiklekdbgaa
open Go.RowKit Go.Sort
set_option linter.unusedVariables false

theorem move_info : (Try.prog.info? 66).map (fun i => (i.zero, i.size, i.bytes)) = some (some (.agg #[.int .i64 0, .int .i64 0]), 2, 16) := by kernel_rfl

end Go.Proofs.Ytcginiklekdbgaa
end

section
namespace Go.Proofs.Ytcginiklekdbgaa
open Go.RowKit Go.Sort

/-- Bytes that lie below a block. -/
def BytesAt (w : World) (B : Nat) (A : Option Addr) (n : Nat) : Prop :=
  ∀ j, j < n → ∃ b off, ∃ x : Nat, A = some ⟨b, off, none⟩ ∧ b < B ∧ x ≤ 255 ∧ w.cell? ⟨b, off + j, none⟩ = some (.int .u8 x)

/-- A cursor in block C. -/
def Cur (w : World) (B C : Nat) : Prop :=
  ∃ (A : Option Addr) (n c i : Nat) (h : Int), w.heap[C]? = some (.cells #[.slice A n c, .int .i64 i, .int .i64 h] 63 (0, 0)) ∧ i ≤ n ∧ n ≤ 1048576 ∧ B ≤ C ∧ BytesAt w B A n

theorem and255 (n : Int) : bits .and .i64 n 255 = n % 256 := by
  have hm : (BitVec.ofInt 64 255).toNat = 2 ^ 8 - 1 := by decide
  have key : (BitVec.ofInt 64 n &&& BitVec.ofInt 64 255).toNat = (n % ((2 ^ 64 : Nat) : Int)).toNat % 2 ^ 8 := by
    rw [BitVec.toNat_and, BitVec.toNat_ofInt, hm, Nat.and_two_pow_sub_one_eq_mod]
  show IntKind.i64.wrap ((BitVec.ofInt 64 n &&& BitVec.ofInt 64 255).toNat : Nat) = n % 256
  rw [key, IntKind.wrap_i64]
  omega

theorem byte_of (n : Int) : ∃ x : Nat, bits .and .i64 n 255 = x ∧ x ≤ 255 := by
  rw [and255]
  exact ⟨(n % 256).toNat, by omega, by omega⟩

theorem BytesAt.keep {w w' : World} {B : Nat} {A : Option Addr} {n : Nat} (h : BytesAt w B A n) (hk : ∀ k, k < B → w'.heap[k]? = w.heap[k]?) : BytesAt w' B A n := by
  intro j hj
  obtain ⟨b, off, x, e, hb, hx, hc⟩ := h j hj
  exact ⟨b, off, x, e, hb, hx, (World.cell?_of_block (w := w) (a := ⟨b, off + j, none⟩) (hk b hb)).trans hc⟩

set_option maxRecDepth 100000 in
set_option maxHeartbeats 1000000 in
theorem l1Byte_any (B C : Nat) (w : World) (hc : Cur w B C) :
    Calls Try.prog 37 #[.pointer (some ⟨C, 0, none⟩)] w fun e w' => ∃ x : Nat, x ≤ 255 ∧ e = .returned (.int .i64 x) ∧ Cur w' B C ∧ w.grownBy w' (some C) := by
  obtain ⟨A, n, c, i, h, hblk, hi, hn, hB, hbytes⟩ := hc
  have hlt0 : C < w.heap.size := (Array.getElem?_eq_some_iff.1 hblk).1
  have d0 : w.cell? ⟨C, 0, none⟩ = some (.slice A n c) := by rw [cell_of_row w C 0 _ _ _ hblk]; rfl
  have d1 : w.cell? ⟨C, 1, none⟩ = some (.int .i64 i) := by rw [cell_of_row w C 1 _ _ _ hblk]; rfl
  have d2 : w.cell? ⟨C, 2, none⟩ = some (.int .i64 h) := by rw [cell_of_row w C 2 _ _ _ hblk]; rfl
  have f1 : w.frozen? ⟨C, 1, none⟩ = false := frozen_of_row w C 1 _ _ hblk
  have f2 : w.frozen? ⟨C, 2, none⟩ = false := frozen_of_row w C 2 _ _ hblk
  go_enter Try.func37, Try.ntmps37
  go_wp2
  have hb1 : w.grownBy (w.setCell ⟨C, 2, none⟩ (.int .i64 (wrap64 (wrap64 (h * 6364136223846793005) + 1442695040888963407)))) (some C) :=
    ⟨rfl, rfl, rfl, by simp, fun k _ hk => heap_setCell_other w ⟨C, 2, none⟩ k _ (fun e => hk (by simp [e]))⟩
  have hblk1 := heap_setCell_same w C 2 _ _ (.int .i64 (wrap64 (wrap64 (h * 6364136223846793005) + 1442695040888963407))) hblk
  generalize wrap64 (wrap64 (h * 6364136223846793005) + 1442695040888963407) = h1 at hb1 hblk1 ⊢
  generalize w.setCell ⟨C, 2, none⟩ (.int .i64 h1) = w1 at hb1 hblk1 ⊢
  have hblk2 : w1.heap[C]? = some (.cells #[.slice A n c, .int .i64 i, .int .i64 h1] 63 (0, 0)) := hblk1
  clear d0 d1 d2 f1 f2 hblk hblk1
  have d0 : w1.cell? ⟨C, 0, none⟩ = some (.slice A n c) := by rw [cell_of_row w1 C 0 _ _ _ hblk2]; rfl
  have d1 : w1.cell? ⟨C, 1, none⟩ = some (.int .i64 i) := by rw [cell_of_row w1 C 1 _ _ _ hblk2]; rfl
  have d2 : w1.cell? ⟨C, 2, none⟩ = some (.int .i64 h1) := by rw [cell_of_row w1 C 2 _ _ _ hblk2]; rfl
  have q2 := fun d os => cell_regrown d2 d os
  have hb0 : Below w1.heap.size w1 w1 := Below.refl _ _
  refine wp_region_quiet_below (by kernel_rfl) (by kernel_rfl) ?_
  repeat (any_goals (first | go_big_quiet_step (fail) | quiet_step (fail)))
  refine wpQuiet_nil ?_
  intro _ hw'
  obtain ⟨⟨dq, osq⟩, hw''⟩ := hw'
  subst hw''
  have hb3 := hb0.trans ((below_regrown w1 dq osq).mono hb0.size)
  generalize grow (redrawn w1 dq) osq = w2 at hb3 ⊢
  clear q2 hb0
  obtain ⟨x, ex, hx⟩ := byte_of (bits BinOp.xor IntKind.i64 (h1 / 34359738368) (h1 / 35184372088832))
  rw [ex]
  clear ex
  have hCl : C < w1.heap.size := (Array.getElem?_eq_some_iff.1 hblk2).1
  have hblk3 : w2.heap[C]? = some (.cells #[.slice A n c, .int .i64 i, .int .i64 h1] 63 (0, 0)) := (hb3.block C hCl).trans hblk2
  have hg3 : w.grownBy w2 (some C) := grownBy_trans hb1 (grown_of_below hb3 _)
  clear hb1 hb3 hblk2 d0 d1 d2 hCl
  have d0 : w2.cell? ⟨C, 0, none⟩ = some (.slice A n c) := by rw [cell_of_row w2 C 0 _ _ _ hblk3]; rfl
  have d1 : w2.cell? ⟨C, 1, none⟩ = some (.int .i64 i) := by rw [cell_of_row w2 C 1 _ _ _ hblk3]; rfl
  have hby2 : BytesAt w2 B A n := hbytes.keep fun k hk => hg3.block k (by omega) (fun e => by injection e with e; omega)
  have q0 := fun d os => cell_regrown d0 d os
  have q1 := fun d os => cell_regrown d1 d os
  have hbz : Below w2.heap.size w2 w2 := Below.refl _ _
  go_wp2
  by_cases hlt : i < n
  · obtain ⟨b1, o1, y, rfl, hb1, hy, hcy⟩ := hby2 i hlt
    refine wp_region_quiet_below (by kernel_rfl) (by kernel_rfl) ?_
    repeat (any_goals (first | go_big_quiet_step (fail) | quiet_step (fail)))
    refine wpQuiet_nil ?_
    intro _ hw'
    obtain ⟨⟨dq, osq⟩, hw''⟩ := hw'
    subst hw''
    have hb6 := hbz.trans ((below_regrown w2 dq osq).mono hbz.size)
    generalize grow (redrawn w2 dq) osq = w3 at hb6 ⊢
    clear q0 q1 hbz
    have hCl : C < w2.heap.size := (Array.getElem?_eq_some_iff.1 hblk3).1
    have hblk4 : w3.heap[C]? = some (.cells #[.slice (some ⟨b1, o1, none⟩) n c, .int .i64 i, .int .i64 h1] 63 (0, 0)) := (hb6.block C hCl).trans hblk3
    have hg4 : w.grownBy w3 (some C) := grownBy_trans hg3 (grown_of_below hb6 _)
    have hby3 : BytesAt w3 B (some ⟨b1, o1, none⟩) n := hby2.keep fun k hk => hb6.block k (by omega)
    have hcy3 : w3.cell? ⟨b1, o1 + i, none⟩ = some (.int .u8 y) := (hb6.cell (p := ⟨b1, o1 + i, none⟩) (by show b1 < _; omega)).trans hcy
    clear hb6 hblk3 hg3 hby2 d0 d1 hbytes hcy
    have d0 : w3.cell? ⟨C, 0, none⟩ = some (.slice (some ⟨b1, o1, none⟩) n c) := by rw [cell_of_row w3 C 0 _ _ _ hblk4]; rfl
    have d1 : w3.cell? ⟨C, 1, none⟩ = some (.int .i64 i) := by rw [cell_of_row w3 C 1 _ _ _ hblk4]; rfl
    have q0 := fun d os => cell_regrown d0 d os
    have q1 := fun d os => cell_regrown d1 d os
    have qb := fun d os => cell_regrown hcy3 d os
    have hbz2 : Below w3.heap.size w3 w3 := Below.refl _ _
    clear hcy3
    go_wp2
    refine wp_region_quiet_below (by kernel_rfl) (by kernel_rfl) ?_
    repeat (any_goals (first | go_big_quiet_step (fail) | quiet_step (fail)))
    refine wpQuiet_nil ?_
    intro _ hw'
    obtain ⟨⟨dq, osq⟩, hw''⟩ := hw'
    subst hw''
    have hb7 := hbz2.trans ((below_regrown w3 dq osq).mono hbz2.size)
    generalize grow (redrawn w3 dq) osq = w4 at hb7 ⊢
    clear q0 q1 qb hbz2
    have hCl4 : C < w3.heap.size := (Array.getElem?_eq_some_iff.1 hblk4).1
    have hblk5 : w4.heap[C]? = some (.cells #[.slice (some ⟨b1, o1, none⟩) n c, .int .i64 i, .int .i64 h1] 63 (0, 0)) := (hb7.block C hCl4).trans hblk4
    have hg5 : w.grownBy w4 (some C) := grownBy_trans hg4 (grown_of_below hb7 _)
    have hby4 : BytesAt w4 B (some ⟨b1, o1, none⟩) n := hby3.keep fun k hk => hb7.block k (by omega)
    clear hb7 hblk4 hg4 hby3 d0 d1
    have d1 : w4.cell? ⟨C, 1, none⟩ = some (.int .i64 i) := by rw [cell_of_row w4 C 1 _ _ _ hblk5]; rfl
    have f1 : w4.frozen? ⟨C, 1, none⟩ = false := frozen_of_row w4 C 1 _ _ hblk5
    have hst := heap_setCell_same w4 C 1 _ _ (.int .i64 ((i : Int) + 1)) hblk5
    have hg6 : w.grownBy (w4.setCell ⟨C, 1, none⟩ (.int .i64 ((i : Int) + 1))) (some C) := grownBy_trans hg5
      ⟨rfl, rfl, rfl, by simp, fun k _ hk => heap_setCell_other w4 ⟨C, 1, none⟩ k _ (fun e => hk (by simp [e]))⟩
    have hby5 : BytesAt (w4.setCell ⟨C, 1, none⟩ (.int .i64 ((i : Int) + 1))) B (some ⟨b1, o1, none⟩) n := hby4.keep fun k hk => heap_setCell_other w4 ⟨C, 1, none⟩ k _ (fun e => by have : k = C := e; omega)
    have hpost : Cur (w4.setCell ⟨C, 1, none⟩ (.int .i64 ((i : Int) + 1))) B C := ⟨some ⟨b1, o1, none⟩, n, c, i + 1, h1, hst, hlt, hn, hB, hby5⟩
    obtain ⟨x2, ex2, hx2⟩ := byte_of ((x : Int) + (y : Int))
    clear hst hg5 hby4 hby5 hblk5
    go_wp2
    rw [ex2]
    go_ret
    exact ⟨x2, hx2, rfl, hpost, hg6⟩
  · have hge : n ≤ i := by omega
    refine wp_region_quiet_below (by kernel_rfl) (by kernel_rfl) ?_
    repeat (any_goals (first | go_big_quiet_step (fail) | quiet_step (fail)))
    refine wpQuiet_nil ?_
    intro _ hw'
    obtain ⟨⟨dq, osq⟩, hw''⟩ := hw'
    subst hw''
    have hb6 := hbz.trans ((below_regrown w2 dq osq).mono hbz.size)
    generalize grow (redrawn w2 dq) osq = w3 at hb6 ⊢
    clear q0 q1 hbz
    have hCl : C < w2.heap.size := (Array.getElem?_eq_some_iff.1 hblk3).1
    have hblk4 : w3.heap[C]? = some (.cells #[.slice A n c, .int .i64 i, .int .i64 h1] 63 (0, 0)) := (hb6.block C hCl).trans hblk3
    have hg4 : w.grownBy w3 (some C) := grownBy_trans hg3 (grown_of_below hb6 _)
    have hby3 : BytesAt w3 B A n := hby2.keep fun k hk => hb6.block k (by omega)
    have hpost : Cur w3 B C := ⟨A, n, c, i, h1, hblk4, hi, hn, hB, hby3⟩
    clear hb6 hblk3 hblk4 hg3 hby2 hby3 d0 d1 hbytes
    go_wp2
    go_ret
    exact ⟨x, hx, rfl, hpost, hg4⟩

/-- Cursors go on. -/
def Drew (B C : Nat) (w w' : World) : Prop := Cur w' B C ∧ w.grownBy w' (some C)

set_option maxRecDepth 100000 in
set_option maxHeartbeats 1000000 in
theorem l1Below_any (B C : Nat) (n : Nat) (w : World) (hc : Cur w B C) (h0 : 0 < n) (h1 : n ≤ 256) :
    Calls Try.prog 21 #[.pointer (some ⟨C, 0, none⟩), .int .i64 n] w fun e w' => ∃ x : Nat, x < n ∧ e = .returned (.int .i64 x) ∧ Drew B C w w' := by
  have hb := l1Byte_any B C w hc
  clear hc
  go_enter Try.func21, Try.ntmps21
  go_wp2_with fail
  refine hb.mono ?_
  rintro e w1 ⟨x, hx, rfl, hc1, hg1⟩
  have hr : Hid (((x : Int) % (n : Int)) = ((x % n : Nat) : Int)) := by show ((x : Int) % (n : Int)) = ((x % n : Nat) : Int); omega
  have hm := Nat.mod_lt x h0
  clear hb
  go_wp2
  go_ret
  exact ⟨x % n, hm, int_end hr.out, hc1, hg1⟩

theorem Cur.keep {w w' : World} {B C : Nat} (h : Cur w B C) (hk : ∀ k, k < w.heap.size → w'.heap[k]? = w.heap[k]?) : Cur w' B C := by
  obtain ⟨A, n, c, i, h1, hblk, hi, hn, hB, hby⟩ := h
  have hC : C < w.heap.size := (Array.getElem?_eq_some_iff.1 hblk).1
  exact ⟨A, n, c, i, h1, (hk C hC).trans hblk, hi, hn, hB, hby.keep fun k hk' => hk k (by omega)⟩

theorem Cur.alloc {w : World} {B C : Nat} (h : Cur w B C) (o : Obj) : Cur (w.alloc o) B C := h.keep fun k hk => Below.heap_alloc w o k hk

theorem Cur.lt {w : World} {B C : Nat} (h : Cur w B C) : C < w.heap.size := by
  obtain ⟨A, n, c, i, h1, hblk, _⟩ := h
  exact (Array.getElem?_eq_some_iff.1 hblk).1

theorem Drew.alloc {B C : Nat} {a w : World} (h : Drew B C a w) (o : Obj) : Drew B C a (w.alloc o) := ⟨h.1.alloc o, grownBy_trans h.2 (World.grownBy_alloc w o _)⟩
theorem Drew.of {B C : Nat} {w : World} (h : Cur w B C) : Drew B C w w := ⟨h, World.grownBy.refl _ _⟩
theorem Drew.trans {B C : Nat} {a b c : World} (h : Drew B C a b) (k : Drew B C b c) : Drew B C a c := ⟨k.1, grownBy_trans h.2 k.2⟩

theorem l1Below_int (B C : Nat) (n : Int) (w : World) (hc : Cur w B C) (h0 : 0 < n) (h1 : n ≤ 256) :
    Calls Try.prog 21 #[.pointer (some ⟨C, 0, none⟩), .int .i64 n] w fun e w' => ∃ x : Nat, (x : Int) < n ∧ e = .returned (.int .i64 x) ∧ Drew B C w w' := by
  obtain ⟨m, rfl⟩ := Int.eq_ofNat_of_zero_le (show 0 ≤ n by omega)
  refine (l1Below_any B C m w hc (by omega) (by omega)).mono ?_
  rintro e w' ⟨x, hx, he, hd⟩
  exact ⟨x, by omega, he, hd⟩

theorem l1Once_any (B C : Nat) (n : Int) (w : World) (hc : Cur w B C) (h0 : 0 < n) (h1 : n ≤ 256) :
    Calls Try.prog 19 #[.pointer (some ⟨C, 0, none⟩), .int .i64 n] w fun e w' => ∃ b : Bool, e = .returned (.bool b) ∧ Drew B C w w' := by
  have hb := l1Below_int B C n w hc h0 h1
  clear hc
  go_enter Try.func19, Try.ntmps19
  go_wp2_with fail
  refine hb.mono ?_
  rintro e w1 ⟨x, hx, rfl, hd⟩
  clear hb
  go_wp2
  go_ret
  exact ⟨_, rfl, hd⟩

theorem l1Int_any (B C g c : Nat) (l : List Int) (w : World) (hc : Cur w B C) (hl : IntsAt w (some ⟨g, 0, none⟩) l) (hg : g ≠ C) (h0 : 0 < l.length) (h1 : l.length ≤ 256) :
    Calls Try.prog 55 #[.pointer (some ⟨C, 0, none⟩), .slice (some ⟨g, 0, none⟩) l.length c] w fun e w' => ∃ x : Int, x ∈ l ∧ e = .returned (.int .i64 x) ∧ Drew B C w w' := by
  have hb := l1Below_int B C l.length w hc (by omega) (by omega)
  clear hc
  go_enter Try.func55, Try.ntmps55
  go_wp2_with fail
  refine hb.mono ?_
  rintro e w1 ⟨x, hx, rfl, hd⟩
  have hx' : x < l.length := by omega
  obtain ⟨b, off, e, hlt, hcell⟩ := hl (by omega)
  simp only [Option.some.injEq, Addr.mk.injEq, and_true] at e
  obtain ⟨rfl, rfl⟩ := e
  have c1 := hcell x hx'
  rw [Nat.zero_add] at c1
  have c2 : w1.cell? ⟨g, x, none⟩ = some (.int .i64 (itAt l x)) := hd.2.cell (a := ⟨g, x, none⟩) c1 (fun e => hg (by injection e))
  have hmem : Hid (itAt l x ∈ l) := by
    show itAt l x ∈ l
    rw [itAt_get l x hx']
    exact List.getElem_mem hx'
  generalize itAt l x = y at c2 hmem
  clear hb hcell c1 hl
  go_wp2
  go_ret
  exact ⟨y, hmem.out, rfl, hd⟩

/-- A new list of numbers in a block. -/
theorem intsAt_new (w : World) (l : List Int) (cs : Array Value) (h : cs.toList = icells l) : IntsAt (w.alloc (.cells cs 3)) (some ⟨w.heap.size, 0, none⟩) l := by
  intro _
  refine ⟨w.heap.size, 0, rfl, by simp, fun i hi => ?_⟩
  rw [Nat.zero_add, cell_of_row _ w.heap.size i cs 3 (0, 0) (heap_alloc_new w _), ← Array.getElem?_toList, h]
  exact icells_at l i hi

theorem atomDraw_any (B C : Nat) (w : World) (hc : Cur w B C) :
    Calls Try.prog 40 #[.pointer (some ⟨C, 0, none⟩)] w fun e w' => ∃ x : Int, (0 ≤ x ∧ x ≤ 999) ∧ e = .returned (.int .i64 x) ∧ Drew B C w w' := by
  have hb := l1Once_any B C 14 w hc (by omega) (by omega)
  clear hc
  go_enter Try.func40, Try.ntmps40
  go_wp2_with fail
  refine hb.mono ?_
  rintro e w1 ⟨b, rfl, hd⟩
  clear hb
  cases b with
  | true =>
    have hd2 := hd.alloc (.cells #[.int .i64 999, .int .i64 998, .int .i64 50, .int .i64 10] 3)
    have hi := l1Int_any B C w1.heap.size 4 [999, 998, 50, 10] _ hd2.1 (intsAt_new w1 [999, 998, 50, 10] _ rfl) (by have := hd.1.lt; omega) (by decide) (by decide)
    go_wp2_with fail
    refine hi.mono ?_
    rintro e w2 ⟨x, hx, rfl, hd3⟩
    have hd4 := hd2.trans hd3
    have hr : 0 ≤ x ∧ x ≤ 999 := by simp at hx; omega
    clear hi hd hd2 hd3 hx
    go_wp2
    go_ret
    exact ⟨x, hr, rfl, hd4⟩
  | false =>
    have hi := l1Below_int B C 7 w1 hd.1 (by omega) (by omega)
    go_wp2_with fail
    refine hi.mono ?_
    rintro e w2 ⟨x, hx, rfl, hd3⟩
    have hd4 := hd.trans hd3
    clear hi hd hd3
    go_wp2
    go_ret
    exact ⟨x, by omega, rfl, hd4⟩
/-- A slice of bytes that came in. -/
def BytesIn (w : World) (A : Option Addr) (n : Nat) : Prop := BytesAt w w.heap.size A n

theorem newCur {A : Option Addr} {n c : Nat} {w : World} (x : Int) (hA : BytesIn w A n) (hn : n ≤ 1048576) :
    Cur (w.alloc (.cells #[.slice A n c, .int .i64 0, .int .i64 x] 63)) w.heap.size w.heap.size :=
  ⟨A, n, c, 0, x, heap_alloc_new w _, Nat.zero_le _, hn, Nat.le_refl _, BytesAt.keep hA fun k hk => Below.heap_alloc w _ k hk⟩

set_option maxRecDepth 100000 in
set_option maxHeartbeats 1000000 in
theorem l1New_any (A : Option Addr) (n c : Nat) (w : World) (hA : BytesIn w A n) (hn : n ≤ 1048576) :
    Calls Try.prog 17 #[.slice A n c] w fun e w' => ∃ C, e = .returned (.pointer (some ⟨C, 0, none⟩)) ∧ Cur w' w.heap.size C ∧ Below w.heap.size w w' := by
  have HA := Lib.hid hA
  clear hA
  go_enter Try.func17, Try.ntmps17
  go_wp2
  go_loop [3, 4] (fun h i => ∃ (k : Nat) (x : Int), k ≤ n ∧ i = .int .i64 k ∧ h = .int .i64 x) (fun _ i => n - (intOf i).toNat)
  case atStart => exact ⟨0, _, Nat.zero_le _, rfl, rfl⟩
  case round =>
    obtain ⟨k, x, hk, rfl, rfl⟩ := hrel
    by_cases hlt : k < n
    · by_cases h4 : k < 4000
      · obtain ⟨b, off, y, rfl, hb, hy, hcy⟩ := HA.out k hlt
        go_wp2
        go_round
        case rel => exact ⟨k + 1, _, by omega, by go_num, rfl⟩
        case measure => simp [intOf]; omega
      · have h5 : 4000 ≤ k := by omega
        have hpost := newCur x HA.out hn (c := c)
        go_wp2
        go_ret
        exact ⟨w.heap.size, rfl, hpost, (Below.refl _ _).alloc (Nat.le_refl _) _⟩
    · have hpost := newCur x HA.out hn (c := c)
      go_wp2
      go_ret
      exact ⟨w.heap.size, rfl, hpost, (Below.refl _ _).alloc (Nat.le_refl _) _⟩

end Go.Proofs.Ytcginiklekdbgaa
end

section
namespace Go.Proofs.Ytcginiklekdbgaa
open Go.RowKit Go.Sort


end Go.Proofs.Ytcginiklekdbgaa
end

section
namespace Go.Proofs.Ytcginiklekdbgaa
section
open Go.RowKit Go.Sort

/-- Less, the same, greater. -/
def cmpI (a b : Int) : Int := if a < b then -1 else if b < a then 1 else 0

def atomB (a : Int) : Bool := decide (0 ≤ a ∧ a ≤ 999)

theorem isAtom_any (a : Int) (w : World) :
    Calls Try.prog 27 #[.int .i64 a] w fun e w' => e = .returned (.bool (atomB a)) ∧ w = w' := by
  by_cases h1 : 0 ≤ a
  · by_cases h2 : a ≤ 999
    · go_enter Try.func27, Try.ntmps27
      go_wp2
      go_ret
      exact ⟨bool_end (by simp [atomB, h1, h2]), rfl⟩
    · have k2 : decide (a ≤ 999) = false := by simpa using h2
      have k3 : 999 < a := by omega
      clear h2
      go_enter Try.func27, Try.ntmps27
      go_wp2
      go_ret
      exact ⟨bool_end (by simp [atomB]; omega), rfl⟩
  · have k1 : a < 0 := by omega
    clear h1
    go_enter Try.func27, Try.ntmps27
    go_wp2
    go_ret
    exact ⟨bool_end (by simp [atomB]; omega), rfl⟩

theorem compare_any (a b : Int) (w : World) :
    Calls Try.prog 62 #[.int .i64 a, .int .i64 b] w fun e w' => e = .returned (.int .i64 (cmpI a b)) ∧ w = w' := by
  have na : (a != a) = false := by simp
  have nb : (b != b) = false := by simp
  by_cases h1 : a < b
  · go_enter Try.func62, Try.ntmps62
    go_wp2
    go_ret
    exact ⟨int_end (by simp [cmpI, h1]), rfl⟩
  · by_cases h2 : b < a
    · go_enter Try.func62, Try.ntmps62
      go_wp2
      go_ret
      exact ⟨int_end (by simp [cmpI, h1, h2]), rfl⟩
    · go_enter Try.func62, Try.ntmps62
      go_wp2
      go_ret
      exact ⟨int_end (by unfold cmpI; rw [if_neg (by omega), if_neg (by omega)]), rfl⟩

theorem closure_any (a b t : Int) (w : World) :
    Calls Try.prog 61 #[.agg #[.int .i64 a, .int .i64 b], .int .i64 t] w
      fun e w' => e = .returned (.int .i64 (cmpI a t)) ∧ Below w.heap.size w w' := by
  go_enter Try.func61, Try.ntmps61
  go_wp2_with (go_at_call 62; refine (compare_any _ _ _).mono ?_; rintro e w' ⟨rfl, rfl⟩)
  go_ret
  exact ⟨rfl, (Below.refl _ _).alloc (Nat.le_refl _) _⟩

/-- The first atoms ascend. -/
def Asc (l : List (Int × Int)) : Prop := ∀ i j, i < j → j < l.length → (prAt l i).1 < (prAt l j).1

/-- Place i divides the pairs at t. -/
def Divides (l : List (Int × Int)) (t : Int) (i : Nat) : Prop := i ≤ l.length ∧ (∀ j, j < i → (prAt l j).1 < t) ∧ ∀ j, i ≤ j → j < l.length → t ≤ (prAt l j).1

def foundB (l : List (Int × Int)) (t : Int) (i : Nat) : Bool := decide (i < l.length ∧ (prAt l i).1 = t)

def FindPost (l : List (Int × Int)) (t : Int) (w : World) (e : Ending) (w' : World) : Prop :=
  ∃ i : Nat, e = .returned (.tuple #[.int .i64 i, .bool (foundB l t i)]) ∧ Divides l t i ∧ Below w.heap.size w w'

theorem divides_up {l : List (Int × Int)} {t : Int} {a b m : Nat} (hasc : Asc l) (h : (∀ q, q < a → (prAt l q).1 < t) ∧ ∀ q, b ≤ q → q < l.length → t ≤ (prAt l q).1) (hm : m < l.length) (ht : (prAt l m).1 < t) :
    (∀ q, q < m + 1 → (prAt l q).1 < t) ∧ ∀ q, b ≤ q → q < l.length → t ≤ (prAt l q).1 := by
  refine ⟨fun q hq => ?_, h.2⟩
  by_cases e : q = m
  · rw [e]; exact ht
  · have := hasc q m (by omega) hm; omega

theorem divides_down {l : List (Int × Int)} {t : Int} {a b m : Nat} (hasc : Asc l) (h : (∀ q, q < a → (prAt l q).1 < t) ∧ ∀ q, b ≤ q → q < l.length → t ≤ (prAt l q).1) (ht : ¬ (prAt l m).1 < t) :
    (∀ q, q < a → (prAt l q).1 < t) ∧ ∀ q, m ≤ q → q < l.length → t ≤ (prAt l q).1 := by
  refine ⟨h.1, fun q hq hl => ?_⟩
  by_cases e : q = m
  · rw [e]; omega
  · have := hasc m q (by omega) hl; omega

set_option maxRecDepth 100000 in
set_option maxHeartbeats 1000000 in
theorem search_any (A : Option Addr) (c : Nat) (l : List (Int × Int)) (t : Int) (w : World) (hA : PairsAt w A l) (hl : l.length ≤ 1099511627776) (hasc : Asc l) :
    Calls Try.prog 60 #[.slice A l.length c, .int .i64 t, .func (.func 61) #[] #[]] w (FindPost l t w) := by
  have HA := Lib.hid hasc
  clear hasc
  go_enter Try.func60, Try.ntmps60
  go_wp2
  go_loopw [9, 10, 11] (fun i j h wr => ∃ (a b : Nat), a ≤ b ∧ b ≤ l.length ∧ i = .int .i64 a ∧ j = .int .i64 b ∧ Hid ((∀ q, q < a → (prAt l q).1 < t) ∧ ∀ q, b ≤ q → q < l.length → t ≤ (prAt l q).1) ∧ Below w.heap.size w wr) (fun i j _ _ => (intOf j).toNat - (intOf i).toNat)
  case atStart => exact ⟨0, l.length, Nat.zero_le _, Nat.le_refl _, rfl, rfl, ⟨fun q h => absurd h (by omega), fun q h1 h2 => absurd h1 (by omega)⟩, Below.refl _ _⟩
  case round =>
    obtain ⟨a, b, hab, hbl, rfl, rfl, hq, hb⟩ := hrel
    by_cases hlt : a < b
    · have hm : (a + b) / 2 < l.length := by omega
      obtain ⟨b1, o1, rfl, hb1, hc1⟩ := hA (by omega)
      obtain ⟨c1, c2⟩ := hc1 ((a + b) / 2) hm
      rw [← hb.cell (p := ⟨b1, _, none⟩) hb1] at c1 c2
      clear hc1 hA
      have hcl := closure_any (prAt l ((a + b) / 2)).1 (prAt l ((a + b) / 2)).2 t wr
      by_cases ht : (prAt l ((a + b) / 2)).1 < t
      · have HQ : Hid _ := divides_up HA.out hq.out hm ht
        have k1 : cmpI (prAt l ((a + b) / 2)).1 t = -1 := by simp [cmpI, ht]
        rw [k1] at hcl
        generalize prAt l ((a + b) / 2) = pr at c1 c2 hcl
        clear ht k1 hq
        go_wp2_with (go_at_call 61; refine hcl.mono ?_; rintro e w2 ⟨rfl, hb2⟩; have hb3 := hb.trans (hb2.mono hb.size))
        refine ⟨⟨(a + b) / 2 + 1, b, by omega, hbl, by go_num, rfl, HQ, hb3⟩, ?_⟩
        simp only [intOf]
        omega
      · have HQ : Hid _ := divides_down HA.out hq.out ht
        have k1 : 0 ≤ cmpI (prAt l ((a + b) / 2)).1 t := by unfold cmpI; split; omega; split <;> omega
        generalize prAt l ((a + b) / 2) = pr at c1 c2 hcl k1
        generalize cmpI pr.1 t = z at hcl k1
        clear ht hq
        go_wp2_with (go_at_call 61; refine hcl.mono ?_; rintro e w2 ⟨rfl, hb2⟩; have hb3 := hb.trans (hb2.mono hb.size))
        refine ⟨⟨a, (a + b) / 2, by omega, by omega, rfl, by go_num, HQ, hb3⟩, ?_⟩
        simp only [intOf]
        omega
    · have hba : b ≤ a := by omega
      have hd : Divides l t a := ⟨by omega, hq.out.1, fun q h1 h2 => hq.out.2 q (by omega) h2⟩
      have HD := Lib.hid hd
      clear hd hq
      by_cases hn : a < l.length
      · obtain ⟨b1, o1, rfl, hb1, hc1⟩ := hA (by omega)
        obtain ⟨c1, c2⟩ := hc1 a hn
        rw [← hb.cell (p := ⟨b1, _, none⟩) hb1] at c1 c2
        clear hc1 hA
        have hcl := closure_any (prAt l a).1 (prAt l a).2 t wr
        by_cases he : (prAt l a).1 = t
        · have hf : foundB l t a = true := by simp [foundB, hn, he]
          have k1 : cmpI (prAt l a).1 t = 0 := by simp [cmpI, he]
          have HF := Lib.hid hf
          rw [k1] at hcl
          generalize prAt l a = pr at c1 c2 hcl
          clear he k1 hf
          go_wp2_with (go_at_call 61; refine hcl.mono ?_; rintro e w2 ⟨rfl, hb2⟩; have hb3 := hb.trans (hb2.mono hb.size))
          go_ret2
          exact ⟨a, by rw [HF.out]; rfl, HD.out, hb3⟩
        · have hf : foundB l t a = false := by simp [foundB, he]
          have k1 : (cmpI (prAt l a).1 t == 0) = false := by
            unfold cmpI
            split
            · rfl
            · split
              · rfl
              · omega
          have HF := Lib.hid hf
          generalize prAt l a = pr at c1 c2 hcl k1
          generalize cmpI pr.1 t = z at hcl k1
          clear he hf
          go_wp2_with (go_at_call 61; refine hcl.mono ?_; rintro e w2 ⟨rfl, hb2⟩; have hb3 := hb.trans (hb2.mono hb.size))
          go_ret2
          exact ⟨a, by rw [HF.out]; rfl, HD.out, hb3⟩
      · have hf : foundB l t a = false := by simp [foundB, hn]
        have HF := Lib.hid hf
        clear hf
        go_wp2
        go_ret2
        exact ⟨a, by rw [HF.out]; rfl, HD.out, hb⟩

theorem placeOf_any (A : Option Addr) (c : Nat) (l : List (Int × Int)) (t : Int) (w : World) (hA : PairsAt w A l) (hl : l.length ≤ 1099511627776) (hasc : Asc l) :
    Calls Try.prog 45 #[.slice A l.length c, .int .i64 t] w (FindPost l t w) := by
  have hs := search_any A c l t w hA hl hasc
  clear hasc hA
  go_enter Try.func45, Try.ntmps45
  go_wp2_with fail
  refine hs.mono ?_
  rintro e w1 ⟨i, rfl, hd, hb⟩
  have HD := Lib.hid hd
  clear hs hd
  go_wp2
  go_ret2
  exact ⟨i, rfl, HD.out, hb⟩
end

section
open Go.RowKit Go.Sort

/-- What is asked of the pair at a place. -/
def okAt (l : List (Int × Int)) (i : Nat) : Bool :=
  atomB (prAt l i).1 && (atomB (prAt l i).2 && (decide ((prAt l i).1 ≠ (prAt l i).2) && (decide (i = 0) || decide ((prAt l (i - 1)).1 < (prAt l i).1))))

def orderB (l : List (Int × Int)) : Bool := (List.range l.length).all (okAt l)

theorem orderB_no {l : List (Int × Int)} {i : Nat} (hi : i < l.length) (h : okAt l i = false) : orderB l = false := by
  unfold orderB
  rw [List.all_eq_false]
  exact ⟨i, List.mem_range.2 hi, by simp [h]⟩

theorem orderB_yes {l : List (Int × Int)} (h : ∀ j, j < l.length → okAt l j = true) : orderB l = true := by
  unfold orderB
  rw [List.all_eq_true]
  exact fun x hx => h x (List.mem_range.1 hx)

theorem all_next {p : Nat → Bool} {k : Nat} (h : ∀ j, j < k → p j = true) (hk : p k = true) : ∀ j, j < k + 1 → p j = true := by
  intro j hj
  by_cases e : j = k
  · rw [e]; exact hk
  · exact h j (by omega)

set_option maxRecDepth 100000 in
set_option maxHeartbeats 2000000 in
theorem inOrder_any (A : Option Addr) (c : Nat) (l : List (Int × Int)) (w : World) (hA : PairsAt w A l) (hl : l.length ≤ 1099511627776) :
    Calls Try.prog 44 #[.slice A l.length c] w fun e w' => e = .returned (.bool (orderB l)) ∧ Below w.heap.size w w' := by
  go_enter Try.func44, Try.ntmps44
  go_wp2
  go_loopw [3, 4, 7] (fun _ _ i wr => ∃ k : Nat, k ≤ l.length ∧ i = .int .i64 k ∧ Hid (∀ j, j < k → okAt l j = true) ∧ Below w.heap.size w wr) (fun _ _ i _ => l.length - (intOf i).toNat)
  case atStart => exact ⟨0, Nat.zero_le _, rfl, fun j hj => absurd hj (by omega), Below.refl _ _⟩
  case round =>
    obtain ⟨k, hk, rfl, hq, hb⟩ := hrel
    by_cases hlt : k < l.length
    · obtain ⟨b1, o1, rfl, hb1, hc1⟩ := hA (by omega)
      obtain ⟨c1, c2⟩ := hc1 k hlt
      rw [← hb.cell (p := ⟨b1, _, none⟩) hb1] at c1 c2
      have hbs := hb.size
      by_cases hbad : (atomB (prAt l k).1 && (atomB (prAt l k).2 && decide ((prAt l k).1 ≠ (prAt l k).2))) = false
      · have hn : Hid (orderB l = false) := orderB_no hlt (by
          unfold okAt
          revert hbad
          cases atomB (prAt l k).1 <;> cases atomB (prAt l k).2 <;> cases decide ((prAt l k).1 ≠ (prAt l k).2) <;> simp)
        have hbW : Below w.heap.size w (wr.alloc (.cells #[.int .i64 (prAt l k).1, .int .i64 (prAt l k).2] 74)) := hb.alloc hb.size _
        generalize prAt l k = p1 at c1 c2 hbad hbW
        clear hq hc1 hA
        by_cases ha1 : atomB p1.1 = true
        · by_cases ha2 : atomB p1.2 = true
          · have ha3 : (p1.1 == p1.2) = true := by revert hbad; rw [ha1, ha2]; simp
            clear hbad
            go_wp2_with (go_at_call 27; refine (isAtom_any _ _).mono ?_; rintro e w' ⟨rfl, rfl⟩)
            go_ret
            exact ⟨bool_end hn.out.symm, hbW⟩
          · have ha2' : atomB p1.2 = false := by simpa using ha2
            clear hbad ha2
            go_wp2_with (go_at_call 27; refine (isAtom_any _ _).mono ?_; rintro e w' ⟨rfl, rfl⟩)
            go_ret
            exact ⟨bool_end hn.out.symm, hbW⟩
        · have ha1' : atomB p1.1 = false := by simpa using ha1
          clear hbad ha1
          go_wp2_with (go_at_call 27; refine (isAtom_any _ _).mono ?_; rintro e w' ⟨rfl, rfl⟩)
          go_ret
          exact ⟨bool_end hn.out.symm, hbW⟩
      · have ha1 : atomB (prAt l k).1 = true := by revert hbad; cases atomB (prAt l k).1 <;> simp
        have ha2 : atomB (prAt l k).2 = true := by revert hbad; cases atomB (prAt l k).2 <;> simp
        have ha3 : ((prAt l k).1 == (prAt l k).2) = false := by revert hbad; rw [ha1, ha2]; simp
        clear hbad
        by_cases hz : k = 0
        · subst hz
          have hn : Hid (∀ q, q < 0 + 1 → okAt l q = true) := all_next hq.out (by simp [okAt, ha1, ha2]; simpa using ha3)
          rw [Nat.zero_mul, Nat.add_zero] at c1 c2
          generalize prAt l 0 = p1 at c1 c2 ha1 ha2 ha3
          clear hq hc1 hA
          go_wp2_with (go_at_call 27; refine (isAtom_any _ _).mono ?_; rintro e w' ⟨rfl, rfl⟩)
          have hbW : Below w.heap.size w (wr.alloc (.cells #[.int .i64 p1.1, .int .i64 p1.2] 74)) := hb.alloc hb.size _
          generalize wr.alloc (.cells #[.int .i64 p1.1, .int .i64 p1.2] 74) = W1 at hbW ⊢
          clear c1 c2
          refine wp_region_quiet_below (by kernel_rfl) (by kernel_rfl) ?_
          repeat (any_goals (first | go_big_quiet_step (fail) | quiet_step (fail)))
          refine wpQuiet_nil ?_
          intro _ hw'
          obtain ⟨⟨dq, osq⟩, hw''⟩ := hw'
          subst hw''
          have hb3 := hbW.trans ((below_regrown W1 dq osq).mono hbW.size)
          generalize grow (redrawn W1 dq) osq = w2 at hb3 ⊢
          clear hbW
          go_wp2
          refine ⟨⟨0 + 1, by omega, by go_num, hn, hb3⟩, ?_⟩
          simp only [intOf]
          omega
        · obtain ⟨j, rfl⟩ : ∃ j, k = j + 1 := ⟨k - 1, by omega⟩
          obtain ⟨c3, _⟩ := hc1 j (by omega)
          rw [← hb.cell (p := ⟨b1, _, none⟩) hb1] at c3
          clear hc1 hA hz
          by_cases hp : (prAt l j).1 < (prAt l (j + 1)).1
          · have hn : Hid (∀ q, q < j + 1 + 1 → okAt l q = true) := all_next hq.out (by simp [okAt, ha1, ha2, hp]; simpa using ha3)
            generalize prAt l (j + 1) = p1 at c1 c2 ha1 ha2 ha3 hp
            generalize (prAt l j).1 = p2 at c3 hp
            clear hq
            go_wp2_with (go_at_call 27; refine (isAtom_any _ _).mono ?_; rintro e w' ⟨rfl, rfl⟩)
            have d0 : (wr.alloc (.cells #[.int .i64 p1.1, .int .i64 p1.2] 74)).cell? ⟨wr.heap.size, 0, none⟩ = some (.int .i64 p1.1) := by simp
            have d3 : (wr.alloc (.cells #[.int .i64 p1.1, .int .i64 p1.2] 74)).cell? ⟨b1, o1 + j * 2, none⟩ = some (.int .i64 p2) := by
              rw [World.cell?_alloc_lt _ _ _ (by show b1 < _; omega)]; exact c3
            have hbW : Below w.heap.size w (wr.alloc (.cells #[.int .i64 p1.1, .int .i64 p1.2] 74)) := hb.alloc hb.size _
            generalize wr.alloc (.cells #[.int .i64 p1.1, .int .i64 p1.2] 74) = W1 at d0 d3 hbW ⊢
            have q0 := fun d os => cell_regrown d0 d os
            have q3 := fun d os => cell_regrown d3 d os
            clear c1 c2 c3 d0 d3
            refine wp_region_quiet_below (by kernel_rfl) (by kernel_rfl) ?_
            repeat (any_goals (first | go_big_quiet_step (fail) | quiet_step (fail)))
            refine wpQuiet_nil ?_
            intro _ hw'
            obtain ⟨⟨dq, osq⟩, hw''⟩ := hw'
            subst hw''
            have hb3 := hbW.trans ((below_regrown W1 dq osq).mono hbW.size)
            generalize grow (redrawn W1 dq) osq = w2 at hb3 ⊢
            clear q0 q3 hbW
            go_wp2
            refine ⟨⟨j + 1 + 1, by omega, by go_num, hn, hb3⟩, ?_⟩
            simp only [intOf]
            omega
          · have hn : Hid (orderB l = false) := orderB_no hlt (by simp [okAt, hp])
            generalize prAt l (j + 1) = p1 at c1 c2 ha1 ha2 ha3 hp
            generalize (prAt l j).1 = p2 at c3 hp
            have hp' : p1.1 ≤ p2 := by omega
            clear hq hp
            go_wp2_with (go_at_call 27; refine (isAtom_any _ _).mono ?_; rintro e w' ⟨rfl, rfl⟩)
            have d0 : (wr.alloc (.cells #[.int .i64 p1.1, .int .i64 p1.2] 74)).cell? ⟨wr.heap.size, 0, none⟩ = some (.int .i64 p1.1) := by simp
            have d3 : (wr.alloc (.cells #[.int .i64 p1.1, .int .i64 p1.2] 74)).cell? ⟨b1, o1 + j * 2, none⟩ = some (.int .i64 p2) := by
              rw [World.cell?_alloc_lt _ _ _ (by show b1 < _; omega)]; exact c3
            have hbW : Below w.heap.size w (wr.alloc (.cells #[.int .i64 p1.1, .int .i64 p1.2] 74)) := hb.alloc hb.size _
            generalize wr.alloc (.cells #[.int .i64 p1.1, .int .i64 p1.2] 74) = W1 at d0 d3 hbW ⊢
            have q0 := fun d os => cell_regrown d0 d os
            have q3 := fun d os => cell_regrown d3 d os
            clear c1 c2 c3 d0 d3
            refine wp_region_quiet_below (by kernel_rfl) (by kernel_rfl) ?_
            repeat (any_goals (first | go_big_quiet_step (fail) | quiet_step (fail)))
            refine wpQuiet_nil ?_
            intro _ hw'
            obtain ⟨⟨dq, osq⟩, hw''⟩ := hw'
            subst hw''
            have hb3 := hbW.trans ((below_regrown W1 dq osq).mono hbW.size)
            generalize grow (redrawn W1 dq) osq = w2 at hb3 ⊢
            clear q0 q3 hbW
            go_wp2
            go_ret
            exact ⟨bool_end hn.out.symm, hb3⟩
    · have hn : Hid (orderB l = true) := orderB_yes fun j hj => hq.out j (by omega)
      clear hq
      go_wp2
      go_ret
      exact ⟨bool_end hn.out.symm, hb⟩
end
end Go.Proofs.Ytcginiklekdbgaa
end

section
namespace Go.Proofs.Ytcginiklekdbgaa
open Go.RowKit Go.Sort

/-- Whether a list has a number. -/
def hasB (l : List Int) (a : Int) : Bool := l.contains a

set_option maxHeartbeats 400000 in
theorem l1Has_any (A : Option Addr) (c : Nat) (l : List Int) (a : Int) (w : World) (hA : IntsAt w A l) (hl : l.length ≤ 1099511627776) :
    Calls Try.prog 71 #[.slice A l.length c, .int .i64 a] w fun e w' => e = .returned (.bool (hasB l a)) ∧ w = w' := by
  go_enter Try.func71, Try.ntmps71
  go_wp2
  go_loop [5] (fun i => ∃ k : Nat, k ≤ l.length ∧ i = .int .i64 k ∧ Hid (∀ j, j < k → itAt l j ≠ a)) (fun i => l.length - (intOf i).toNat)
  case atStart => exact ⟨0, Nat.zero_le _, rfl, fun j hj => absurd hj (by omega)⟩
  case round =>
    obtain ⟨k, hk, rfl, hq⟩ := hrel
    by_cases hlt : k < l.length
    · obtain ⟨b1, o1, rfl, hb1, hc1⟩ := hA (by omega)
      have c1 := hc1 k hlt
      clear hc1 hA
      by_cases he : (itAt l k == a) = true
      · have hres : Hid (hasB l a = true) := by
          show hasB l a = true
          unfold hasB
          rw [List.contains_iff_mem]
          have e : itAt l k = a := by simpa using he
          rw [← e, itAt_get l k hlt]
          exact List.getElem_mem hlt
        generalize itAt l k = x at c1 he
        clear hq
        go_wp2
        go_ret
        exact ⟨bool_end hres.out.symm, rfl⟩
      · have he' : (itAt l k == a) = false := by simpa using he
        have hn : Hid (∀ j, j < k + 1 → itAt l j ≠ a) := by
          intro j hj
          by_cases e : j = k
          · rw [e]; simpa using he'
          · exact hq.out j (by omega)
        generalize itAt l k = x at c1 he he'
        clear hq he
        go_wp2
        go_round
        case rel => exact ⟨k + 1, by omega, by go_num, hn⟩
        case measure => simp [intOf]; omega
    · have hres : Hid (hasB l a = false) := by
        show hasB l a = false
        unfold hasB
        rw [← Bool.not_eq_true, List.contains_iff_mem]
        intro hmem
        obtain ⟨j, hj, e⟩ := List.getElem_of_mem hmem
        exact hq.out j (by omega) (by rw [itAt_get l j hj]; exact e)
      clear hq hA
      go_wp2
      go_ret
      exact ⟨bool_end hres.out.symm, rfl⟩

end Go.Proofs.Ytcginiklekdbgaa
end

section
namespace Go.Proofs.Ytcginiklekdbgaa
open Go.RowKit Go.Sort

def froms (l : List (Int × Int)) : List Int := l.map (·.1)
def tos (l : List (Int × Int)) : List Int := l.map (·.2)

theorem froms_at (l : List (Int × Int)) (i : Nat) (h : i < l.length) : (froms l)[i]? = some (prAt l i).1 := by
  simp [froms, prAt, h]
theorem tos_at (l : List (Int × Int)) (i : Nat) (h : i < l.length) : (tos l)[i]? = some (prAt l i).2 := by
  simp [tos, prAt, h]

theorem mem_froms {l : List (Int × Int)} {t : Int} : t ∈ froms l ↔ ∃ i, i < l.length ∧ (prAt l i).1 = t := by
  constructor
  · intro h
    obtain ⟨i, hi, e⟩ := List.getElem_of_mem h
    have hl : i < l.length := by simpa [froms] using hi
    refine ⟨i, hl, ?_⟩
    have h1 := froms_at l i hl
    rw [List.getElem?_eq_getElem hi, e] at h1
    injection h1 with h1
    exact h1.symm
  · rintro ⟨i, hi, rfl⟩
    exact List.mem_of_getElem? (froms_at l i hi)

theorem okAt_parts {l : List (Int × Int)} {i : Nat} (h : okAt l i = true) :
    (0 ≤ (prAt l i).1 ∧ (prAt l i).1 ≤ 999) ∧ (0 ≤ (prAt l i).2 ∧ (prAt l i).2 ≤ 999) ∧ (prAt l i).1 ≠ (prAt l i).2 ∧ (i = 0 ∨ (prAt l (i - 1)).1 < (prAt l i).1) := by
  simpa [okAt, atomB] using h

theorem order_at {l : List (Int × Int)} (h : orderB l = true) (i : Nat) (hi : i < l.length) : okAt l i = true := by
  unfold orderB at h
  rw [List.all_eq_true] at h
  exact h i (List.mem_range.2 hi)

theorem asc_of_order {l : List (Int × Int)} (h : orderB l = true) : Asc l := by
  intro i j hij hj
  induction j with
  | zero => omega
  | succ j ih =>
    have h1 := (okAt_parts (order_at h (j + 1) hj)).2.2.2
    rcases h1 with h1 | h1
    · omega
    · have e : j + 1 - 1 = j := by omega
      rw [e] at h1
      by_cases hc : i = j
      · rw [hc]; exact h1
      · have := ih (by omega) (by omega); omega

theorem found_iff {l : List (Int × Int)} {t : Int} {i : Nat} (hasc : Asc l) (hd : Divides l t i) : foundB l t i = (froms l).contains t := by
  rw [Bool.eq_iff_iff]
  simp only [foundB, decide_eq_true_eq, List.contains_iff_mem]
  rw [mem_froms]
  constructor
  · rintro ⟨h1, h2⟩
    exact ⟨i, h1, h2⟩
  · rintro ⟨q, hq, e⟩
    have h1 : i ≤ q := by
      rcases Nat.lt_or_ge q i with h | h
      · have := hd.2.1 q h; omega
      · exact h
    have h2 : i < l.length := by omega
    refine ⟨h2, ?_⟩
    have h3 := hd.2.2 i (Nat.le_refl _) h2
    by_cases hc : i = q
    · rw [hc]; exact e
    · have := hasc i q (by omega) hq; omega

/-- Which atoms of the pairs have been given by the first k. -/
def gBit (l : List (Int × Int)) (k q : Nat) : Bool := decide (q < l.length) && ((tos l).take k).contains (prAt l q).1
def gBits (l : List (Int × Int)) (k : Nat) : List Value := (List.range 40).map fun q => .bool (gBit l k q)

theorem gBits_at (l : List (Int × Int)) (k q : Nat) (h : q < 40) : (gBits l k)[q]? = some (.bool (gBit l k q)) := by
  simp [gBits, List.getElem?_map, List.getElem?_range h]

theorem gBits_set {l : List (Int × Int)} {k i : Nat} (hasc : Asc l) (hk : k < l.length) (hi : i < l.length) (e : (prAt l i).1 = (prAt l k).2) :
    (gBits l k).set i (.bool true) = gBits l (k + 1) := by
  have ht : (tos l).take (k + 1) = (tos l).take k ++ [(prAt l k).2] := by
    have hlt : k < (tos l).length := by simpa [tos] using hk
    rw [List.take_succ_eq_append_getElem hlt]
    have h1 := tos_at l k hk
    rw [List.getElem?_eq_getElem hlt] at h1
    injection h1 with h1
    rw [h1]
  apply List.ext_getElem?
  intro q
  by_cases hq : q < 40
  · rw [gBits_at l (k + 1) q hq, List.getElem?_set]
    by_cases hc : i = q
    · subst hc
      rw [if_pos rfl, if_pos (by simpa [gBits] using hq)]
      simp [gBit, hi, ht, e]
    · rw [if_neg hc, gBits_at l k q hq]
      by_cases hql : q < l.length
      · have hne : (prAt l q).1 ≠ (prAt l k).2 := by
          rw [← e]
          intro h
          rcases Nat.lt_or_gt_of_ne hc with h1 | h1
          · have := hasc i q h1 hql; omega
          · have := hasc q i h1 hi; omega
        simp [gBit, ht, hne]
      · simp [gBit, hql]
  · rw [List.getElem?_eq_none (by simp [gBits]; omega), List.getElem?_eq_none (by simp [gBits]; omega)]

theorem gBits_zero (l : List (Int × Int)) : gBits l 0 = List.replicate 40 (.bool false) := by
  apply List.ext_getElem?
  intro q
  by_cases hq : q < 40
  · rw [gBits_at l 0 q hq, List.getElem?_replicate, if_pos hq]
    simp [gBit]
  · rw [List.getElem?_eq_none (by simp [gBits]; omega), List.getElem?_eq_none (by simp; omega)]

def goodAt (l : List (Int × Int)) (k : Nat) : Bool := (froms l).contains (prAt l k).2 && !((tos l).take k).contains (prAt l k).2

/-- Whether a list of pairs is a permutation. -/
def permB (l : List (Int × Int)) : Bool := decide (l.length ≤ 40) && (orderB l && (List.range l.length).all (goodAt l))

theorem permB_no {l : List (Int × Int)} {i : Nat} (hi : i < l.length) (h : goodAt l i = false) : permB l = false := by
  unfold permB
  have : (List.range l.length).all (goodAt l) = false := by
    rw [List.all_eq_false]
    exact ⟨i, List.mem_range.2 hi, by simp [h]⟩
  rw [this]; simp

theorem permB_yes {l : List (Int × Int)} (h0 : l.length ≤ 40) (h1 : orderB l = true) (h : ∀ j, j < l.length → goodAt l j = true) : permB l = true := by
  unfold permB
  have : (List.range l.length).all (goodAt l) = true := by
    rw [List.all_eq_true]
    exact fun x hx => h x (List.mem_range.1 hx)
  rw [this, h1]; simp [h0]

/-- The block of marks after k pairs. -/
def Marks (w : World) (G : Nat) (l : List (Int × Int)) (k : Nat) : Prop := w.heap[G]? = some (.cells (gBits l k).toArray 72 (0, 0))

theorem Marks.lt {w : World} {G : Nat} {l : List (Int × Int)} {k : Nat} (h : Marks w G l k) : G < w.heap.size := (Array.getElem?_eq_some_iff.1 h).1
theorem Marks.cell {w : World} {G : Nat} {l : List (Int × Int)} {k : Nat} (h : Marks w G l k) (q : Nat) (hq : q < 40) : w.cell? ⟨G, q, none⟩ = some (.bool (gBit l k q)) := by
  rw [cell_of_row w G q _ _ _ h]
  simpa using gBits_at l k q hq
theorem Marks.frozen {w : World} {G : Nat} {l : List (Int × Int)} {k : Nat} (h : Marks w G l k) (q : Nat) : w.frozen? ⟨G, q, none⟩ = false := frozen_of_row w G q _ _ h
theorem Marks.below {w w' : World} {G : Nat} {l : List (Int × Int)} {k : Nat} (h : Marks w G l k) (hb : Below w.heap.size w w') : Marks w' G l k := (hb.block G h.lt).trans h
theorem Marks.alloc {w : World} {G : Nat} {l : List (Int × Int)} {k : Nat} (h : Marks w G l k) (o : Obj) : Marks (w.alloc o) G l k := h.below ((Below.refl _ _).alloc (Nat.le_refl _) o)
theorem Marks.set_ {w : World} {G : Nat} {l : List (Int × Int)} {k i : Nat} (h : Marks w G l k) (hasc : Asc l) (hk : k < l.length) (hi : i < l.length) (e : (prAt l i).1 = (prAt l k).2) :
    Marks (w.setCell ⟨G, i, none⟩ (.bool true)) G l (k + 1) := by
  unfold Marks at h ⊢
  rw [heap_setCell_same w G i _ _ _ h, ← gBits_set hasc hk hi e]
  simp

set_option maxRecDepth 100000 in
set_option maxHeartbeats 2000000 in
theorem isPerm_impl (A : Option Addr) (c : Nat) (l : List (Int × Int)) (w : World) (hA : PairsAt w A l) (hl : l.length ≤ 1099511627776) :
    Calls Try.prog 26 #[.slice A l.length c] w fun e w' => e = .returned (.bool (permB l)) ∧ Below w.heap.size w w' := by
  by_cases h40 : l.length ≤ 40
  · have hio := inOrder_any A c l w hA hl
    by_cases ho : orderB l = true
    · rw [ho] at hio
      have hasc := asc_of_order ho
      have HO := Lib.hid ho
      have HA := Lib.hid hasc
      clear ho hasc
      go_enter Try.func26, Try.ntmps26
      go_wp2_with fail
      refine hio.mono ?_
      rintro e w1 ⟨rfl, hb1⟩
      have k40 : decide (40 < (l.length : Int)) = false := by simp; omega
      clear hio
      go_wp2_with fail
      have hm0 : Marks (w1.alloc (.cells (gBits l 0).toArray 72)) w1.heap.size l 0 := heap_alloc_new w1 _
      rw [gBits_zero] at hm0
      have hb2 : Below w.heap.size w (w1.alloc (.cells (List.replicate 40 (Value.bool false)).toArray 72)) := hb1.alloc hb1.size _
      have e2 : w1.alloc (.cells (List.replicate 40 (Value.bool false)).toArray 72) = w1.alloc (.cells #[.bool false, .bool false, .bool false, .bool false, .bool false, .bool false, .bool false, .bool false, .bool false, .bool false, .bool false, .bool false, .bool false, .bool false, .bool false, .bool false, .bool false, .bool false, .bool false, .bool false, .bool false, .bool false, .bool false, .bool false, .bool false, .bool false, .bool false, .bool false, .bool false, .bool false, .bool false, .bool false, .bool false, .bool false, .bool false, .bool false, .bool false, .bool false, .bool false, .bool false] 72) := rfl
      rw [← e2]
      have hG : w.heap.size ≤ w1.heap.size := hb1.size
      generalize w1.alloc (.cells (List.replicate 40 (Value.bool false)).toArray 72) = w2 at hm0 hb2 ⊢
      clear e2 hb1
      generalize w1.heap.size = G at hm0 hG ⊢
      go_loopw [5, 6, 7, 18] (fun _ _ _ i wr => ∃ k : Nat, k ≤ l.length ∧ i = .int .i64 k ∧ Hid (∀ j, j < k → goodAt l j = true) ∧ Marks wr G l k ∧ Below w.heap.size w wr) (fun _ _ _ i _ => l.length - (intOf i).toNat)
      case atStart => exact ⟨0, Nat.zero_le _, rfl, fun j hj => absurd hj (by omega), hm0, hb2⟩
      case round =>
        clear hm0 hb2
        obtain ⟨k, hk, rfl, hq, hm, hb⟩ := hrel
        by_cases hlt : k < l.length
        · have hA1 := hA.below (w' := wr) (hb)
          obtain ⟨b1, o1, rfl, hb1, hc1⟩ := hA (by omega)
          obtain ⟨c1, c2⟩ := hc1 k hlt
          rw [← hb.cell (p := ⟨b1, _, none⟩) hb1] at c1 c2
          clear hc1 hA
          have hpl := fun W (hW : PairsAt W (some ⟨b1, o1, none⟩) l) => placeOf_any (some ⟨b1, o1, none⟩) c l (prAt l k).2 W hW hl HA.out
          have HG : Hid (goodAt l k = ((froms l).contains (prAt l k).2 && !((tos l).take k).contains (prAt l k).2)) := rfl
          generalize hp : prAt l k = p at c1 c2 hpl HG
          have HP := Lib.hid hp
          clear hp
          have hA2 : PairsAt (wr.alloc (.cells #[.int .i64 p.1, .int .i64 p.2] 74)) (some ⟨b1, o1, none⟩) l := hA1.below ((Below.refl _ _).alloc (Nat.le_refl _) _)
          have hm2 := hm.alloc (.cells #[.int .i64 p.1, .int .i64 p.2] 74)
          have hb2 := hb.alloc hb.size (.cells #[.int .i64 p.1, .int .i64 p.2] 74)
          clear hA1 hm
          go_wp2_with fail
          refine (hpl _ hA2).mono ?_
          rintro e w3 ⟨i, he, hd, hb3⟩
          have hfi := found_iff HA.out hd
          have hfp : foundB l p.2 i = true → i < l.length ∧ (prAt l i).1 = p.2 := fun h => by simpa [foundB] using h
          have hm3 := hm2.below hb3
          have hb4 := hb2.trans (hb3.mono hb2.size)
          clear hpl hA2 hm2 hb2 hb3 hd
          by_cases hfb : (froms l).contains p.2 = true
          · rw [hfb] at hfi
            obtain ⟨hi, hie⟩ := hfp hfi
            rw [hfi] at he
            subst he
            have hc := hm3.cell i (by omega)
            have hfz := hm3.frozen i
            have hgb : gBit l k i = ((tos l).take k).contains p.2 := by simp [gBit, hi, hie]
            have hst := hm3.set_ HA.out hlt hi (by rw [HP.out]; exact hie)
            have hst2 : Below w.heap.size w (w3.setCell ⟨G, i, none⟩ (.bool true)) := hb4.setCell hG _
            by_cases hg : ((tos l).take k).contains p.2 = true
            · have hn : Hid (permB l = false) := permB_no hlt (by rw [HG.out, hg]; simp)
              rw [hgb, hg] at hc
              clear hfp hfi hfb hgb hg hst hst2 hie hm3 hq HG
              go_wp2
              go_ret
              exact ⟨bool_end hn.out.symm, hb4⟩
            · have hg' : ((tos l).take k).contains p.2 = false := by simpa using hg
              have hn : Hid (∀ j, j < k + 1 → goodAt l j = true) := all_next hq.out (by rw [HG.out, hg', hfb]; rfl)
              rw [hgb, hg'] at hc
              clear hfp hfi hfb hgb hg hg' hie hm3 hq HG
              have HS := Lib.hid hst
              clear hst
              go_wp2
              refine ⟨⟨k + 1, by omega, by go_num, hn, HS.out, hst2⟩, ?_⟩
              simp only [intOf]
              omega
          · have hfb' : (froms l).contains p.2 = false := by simpa using hfb
            have hn : Hid (permB l = false) := permB_no hlt (by rw [HG.out, hfb']; rfl)
            rw [hfi, hfb'] at he
            subst he
            clear hfp hfi hfb hfb' hm3 hq HG
            go_wp2
            go_ret
            exact ⟨bool_end hn.out.symm, hb4⟩
        · have hn : Hid (permB l = true) := permB_yes h40 HO.out fun j hj => hq.out j (by omega)
          clear hq hm
          go_wp2
          go_ret
          exact ⟨bool_end hn.out.symm, hb⟩
    · have ho' : orderB l = false := by simpa using ho
      rw [ho'] at hio
      have hf : Hid (permB l = false) := by show permB l = false; unfold permB; rw [ho']; simp
      clear ho ho'
      go_enter Try.func26, Try.ntmps26
      go_wp2_with fail
      refine hio.mono ?_
      rintro e w1 ⟨rfl, hb1⟩
      go_wp2
      go_ret
      exact ⟨bool_end hf.out.symm, hb1⟩
  · have hf : Hid (permB l = false) := by show permB l = false; unfold permB; simp [h40]
    have h41 : 40 < l.length := by omega
    clear h40 hA
    go_enter Try.func26, Try.ntmps26
    go_wp2
    go_ret
    exact ⟨bool_end hf.out.symm, Below.refl _ _⟩

end Go.Proofs.Ytcginiklekdbgaa
end

section
namespace Go.Proofs.Ytcginiklekdbgaa
open Go.RowKit Go.Sort

theorem all_at {p : Nat → Bool} {n : Nat} (h : (List.range n).all p = true) (i : Nat) (hi : i < n) : p i = true := by
  rw [List.all_eq_true] at h
  exact h i (List.mem_range.2 hi)

/-- The same length, each element of the one without repetition in the other: the same elements. -/
theorem perm_of_subset : ∀ (xs ys : List Int), xs.Nodup → (∀ a, a ∈ xs → a ∈ ys) → ys.length ≤ xs.length → ys.Perm xs
  | [], ys, _, _, hl => by
    have : ys = [] := List.eq_nil_of_length_eq_zero (by simpa using hl)
    rw [this]
  | x :: r, ys, hn, hs, hl => by
    have hx : x ∈ ys := hs x List.mem_cons_self
    rw [List.nodup_cons] at hn
    have h1 : ys.Perm (x :: ys.erase x) := List.perm_cons_erase hx
    have h2 : (ys.erase x).Perm r := by
      refine perm_of_subset r (ys.erase x) hn.2 (fun a ha => ?_) ?_
      · have hne : a ≠ x := fun e => hn.1 (e ▸ ha)
        exact (List.mem_erase_of_ne hne).2 (hs a (List.mem_cons_of_mem _ ha))
      · rw [List.length_erase_of_mem hx]
        simp only [List.length_cons] at hl
        omega
    exact h1.trans (h2.cons x)

theorem mem_take_tos {l : List (Int × Int)} {k : Nat} {a : Int} (hk : k ≤ l.length) (h : a ∈ (tos l).take k) : ∃ j, j < k ∧ (prAt l j).2 = a := by
  obtain ⟨j, hj, e⟩ := List.getElem_of_mem h
  have hjk : j < k := by rw [List.length_take] at hj; omega
  refine ⟨j, hjk, ?_⟩
  have h1 := tos_at l j (by omega)
  have h2 : ((tos l).take k)[j]? = some a := by rw [List.getElem?_eq_getElem hj, e]
  rw [List.getElem?_take, if_pos hjk, h1] at h2
  injection h2

theorem permB_parts {l : List (Int × Int)} (h : permB l = true) : l.length ≤ 40 ∧ orderB l = true ∧ ∀ j, j < l.length → goodAt l j = true := by
  unfold permB at h
  simp only [Bool.and_eq_true, decide_eq_true_eq] at h
  exact ⟨h.1, h.2.1, all_at h.2.2⟩

end Go.Proofs.Ytcginiklekdbgaa
end

section
namespace Go.Proofs.Ytcginiklekdbgaa
open Go.RowKit Go.Sort

theorem int_infoM : (Try.prog.info? 3).map (fun i => (i.zero, i.size, i.bytes)) = some (some (.int .i64 0), 1, 8) := by kernel_rfl

theorem int_one (x : Int) : ∀ u ∈ [Value.int .i64 x], u.oneCell' = true := by
  intro u hu
  simp at hu
  subst hu
  rfl

theorem one_cell {w : World} {g : Nat} {u : Value} (h : w.cell? ⟨g, 0, none⟩ = some u) : ∀ j x, [u][j]? = some x → w.cell? ((⟨g, 0, none⟩ : Addr).add j) = some x := by
  intro j x hj
  cases j with
  | zero => simp at hj; subst hj; simpa [Addr.add] using h
  | succ j => simp at hj

end Go.Proofs.Ytcginiklekdbgaa
end

section
namespace Go.Proofs.Ytcginiklekdbgaa
open Go.RowKit Go.Sort

/-- A number is put into an ascending list, if it is not there. -/
def insL : List Int → Int → List Int
  | [], n => [n]
  | x :: r, n => if n < x then n :: x :: r else if n = x then x :: r else x :: insL r n

def AscP (l : List Int) : Prop := l.Pairwise (· < ·)

theorem mem_insL : ∀ (l : List Int) (n a : Int), a ∈ insL l n ↔ a = n ∨ a ∈ l
  | [], n, a => by simp [insL]
  | x :: r, n, a => by
    unfold insL
    split
    · simp
    · split
      · rename_i h; subst h; simp
      · simp only [List.mem_cons, mem_insL r n a]
        constructor
        · rintro (h | h | h)
          · exact .inr (.inl h)
          · exact .inl h
          · exact .inr (.inr h)
        · rintro (h | h | h)
          · exact .inr (.inl h)
          · exact .inl h
          · exact .inr (.inr h)

theorem asc_insL : ∀ (l : List Int) (n : Int), AscP l → AscP (insL l n)
  | [], n, _ => by simp [insL, AscP]
  | x :: r, n, h => by
    unfold AscP at h
    rw [List.pairwise_cons] at h
    unfold insL
    split
    · rename_i h1
      unfold AscP
      rw [List.pairwise_cons, List.pairwise_cons]
      refine ⟨fun a ha => ?_, h.1, h.2⟩
      rcases List.mem_cons.1 ha with e | e
      · rw [e]; exact h1
      · have := h.1 a e; omega
    · split
      · unfold AscP; rw [List.pairwise_cons]; exact h
      · rename_i h1 h2
        unfold AscP
        rw [List.pairwise_cons]
        refine ⟨fun a ha => ?_, asc_insL r n h.2⟩
        rcases (mem_insL r n a).1 ha with e | e
        · rw [e]; omega
        · exact h.1 a e

theorem insL_there : ∀ (l : List Int) (n : Int), AscP l → n ∈ l → insL l n = l
  | [], n, _, h => by simp at h
  | x :: r, n, h, hm => by
    unfold AscP at h
    rw [List.pairwise_cons] at h
    unfold insL
    rcases List.mem_cons.1 hm with e | e
    · rw [if_neg (by omega), if_pos e]
    · have h1 := h.1 n e
      rw [if_neg (by omega), if_neg (by omega), insL_there r n h.2 e]

theorem ins_eq : ∀ (l : List Int) (k : Nat) (n : Int), AscP l → k ≤ l.length → (∀ j, k ≤ j → j < l.length → n < itAt l j) → (k = 0 ∨ itAt l (k - 1) ≤ n) → n ∉ l → l.take k ++ n :: l.drop k = insL l n
  | [], k, n, _, hk, _, _, _ => by
    have e : k = 0 := by simpa using hk
    subst e
    rfl
  | x :: r, 0, n, _, _, h1, _, _ => by
    have h2 : n < x := h1 0 (Nat.le_refl _) (by simp)
    show n :: x :: r = insL (x :: r) n
    unfold insL
    rw [if_pos h2]
  | x :: r, k + 1, n, ha, hk, h1, h2, hn => by
    unfold AscP at ha
    rw [List.pairwise_cons] at ha
    have hk' : k ≤ r.length := by simpa using hk
    have hlast : itAt (x :: r) k ≤ n := by
      rcases h2 with h2 | h2
      · omega
      · exact h2
    have hx : x ≤ n := by
      cases k with
      | zero => exact hlast
      | succ k =>
        have h3 : k < r.length := by omega
        have h4 : itAt (x :: r) (k + 1) = r[k] := by simp [itAt, h3]
        have h5 := ha.1 r[k] (List.getElem_mem h3)
        omega
    have hne : n ≠ x := fun e => hn (by rw [e]; exact List.mem_cons_self)
    have ih := ins_eq r k n ha.2 hk' (fun j hj hl => h1 (j + 1) (by omega) (by simpa using hl)) (by
      cases k with
      | zero => exact .inl rfl
      | succ k => exact .inr hlast) (fun h => hn (List.mem_cons_of_mem _ h))
    show x :: (r.take k ++ n :: r.drop k) = insL (x :: r) n
    unfold insL
    rw [if_neg (by omega), if_neg hne, ih]

/-- Several numbers are put into an ascending list. -/
def insAll (acc xs : List Int) : List Int := xs.foldl insL acc

theorem asc_insAll (acc xs : List Int) (h : AscP acc) : AscP (insAll acc xs) := by
  unfold insAll
  induction xs generalizing acc with
  | nil => exact h
  | cons x r ih => exact ih _ (asc_insL acc x h)

theorem mem_insAll (acc xs : List Int) (a : Int) : a ∈ insAll acc xs ↔ a ∈ acc ∨ a ∈ xs := by
  unfold insAll
  induction xs generalizing acc with
  | nil => simp
  | cons x r ih =>
    rw [List.foldl_cons, ih, mem_insL, List.mem_cons]
    constructor
    · rintro ((h | h) | h)
      · exact .inr (.inl h)
      · exact .inl h
      · exact .inr (.inr h)
    · rintro (h | h | h)
      · exact .inl (.inr h)
      · exact .inl (.inl h)
      · exact .inr h

theorem insAll_next {xs : List Int} {k : Nat} (acc : List Int) (h : k < xs.length) : insAll acc (xs.take (k + 1)) = insL (insAll acc (xs.take k)) (itAt xs k) := by
  rw [itake_next h]
  unfold insAll
  rw [List.foldl_append]
  rfl

theorem ints_news {w : World} {a : Addr} {l : List Int} (h : IntsAt w (some a) l) : ∀ j u, (icells l)[j]? = some u → w.cell? (a.add j) = some u := by
  intro j u hj
  have hl : j < l.length := by
    rcases Nat.lt_or_ge j l.length with h1 | h1
    · exact h1
    · rw [List.getElem?_eq_none (by rw [icells_len]; exact h1)] at hj; cases hj
  obtain ⟨b, off, e, _, hc⟩ := h (by omega)
  injection e with e
  subst e
  rw [icells_at l j hl] at hj
  injection hj with hj
  subst hj
  have hadd : (⟨b, off, none⟩ : Addr).add j = ⟨b, off + j, none⟩ := by
    unfold Addr.add
    split
    · rename_i h0; rw [h0]; rfl
    · rfl
  rw [hadd]
  exact hc j hl

theorem icells_one (l : List Int) : ∀ u ∈ icells l, u.oneCell' = true := by
  intro u hu
  simp only [icells, List.mem_map] at hu
  obtain ⟨x, _, rfl⟩ := hu
  rfl

set_option maxHeartbeats 1000000 in
theorem l1Copy_any (a : Addr) (c : Nat) (l : List Int) (w : World) (hA : IntsAt w (some a) l) (hl : l.length ≤ 1099511627776) :
    Calls Try.prog 66 #[.slice (some a) l.length c] w (NewInts l w) := by
  obtain ⟨i0, hi0, hz0, hz1, hz2⟩ := info_parts int_infoM
  have HS := Lib.hid hz2
  clear hz2
  have hb : Below w.heap.size w (w.alloc (.cells #[] 3)) := (Below.refl _ _).alloc (Nat.le_refl _) _
  have HN := Lib.hid (ints_news (hA.below hb))
  have ho : (w.alloc (.cells #[] 3)).ownsRow w.heap.size 3 1 (.slice (some ⟨w.heap.size, 0, none⟩) 0 0) 0 [] := World.ownsRow_lit w #[] 0 (Nat.le_refl _) (by decide) rfl
  have HL := Lib.hid (icells_len l)
  go_enter Try.func66, Try.ntmps66
  go_wp2_with (at_builtin; refine wpList_append_own _ rfl (.tmp 3) (.tmp 4) 30 rfl w.heap.size 3 i0 (.int .i64 0) 1 8 Try.underlying30 hi0 hz0 hz1 HS.out rfl (by decide) _ 0 [] rfl ho a l.length c (icells l) rfl (by rw [HL.out, Nat.mul_one]) HN.out (icells_one l) ?c3 ?c4 ?c5 ?_)
  case c3 => unfold maxLen; omega
  case c4 => omega
  case c5 => simp
  intro v2 w2 ho3 hg _
  have hb4 : Below w.heap.size w w2 := below_own hb ho (Nat.le_refl _) (by simp) hg
  clear ho hg hb HN hA
  go_wp2
  go_ret
  exact ⟨_, rfl, ho3, hb4⟩

theorem IntsAt.take {w : World} {A : Option Addr} {l : List Int} (h : IntsAt w A l) (k : Nat) : IntsAt w A (l.take k) := by
  intro hp
  rw [List.length_take] at hp
  obtain ⟨b, off, rfl, hlt, hc⟩ := h (by omega)
  refine ⟨b, off, rfl, hlt, fun i hi => ?_⟩
  rw [List.length_take] at hi
  rw [hc i (by omega)]
  have : i < k := by omega
  simp [itAt, this]

theorem IntsAt.drop {w : World} {b off : Nat} {l : List Int} (h : IntsAt w (some ⟨b, off, none⟩) l) (k : Nat) : IntsAt w (some ⟨b, off + k, none⟩) (l.drop k) := by
  intro hp
  rw [List.length_drop] at hp
  obtain ⟨b', off', e, hlt, hc⟩ := h (by omega)
  simp only [Option.some.injEq, Addr.mk.injEq, and_true] at e
  obtain ⟨rfl, rfl⟩ := e
  refine ⟨b, off + k, rfl, hlt, fun i hi => ?_⟩
  rw [List.length_drop] at hi
  rw [Nat.add_assoc, hc (k + i) (by omega)]
  simp [itAt]

/-- A slice of the call's own that holds the numbers; of what was there nothing has turned. -/
def InsPost (base : Nat) (l : List Int) (w : World) (e : Ending) (w' : World) : Prop :=
  ∃ g cap, e = .returned (.slice (some ⟨g, 0, none⟩) l.length cap) ∧ w'.ownsRow base 3 1 (.slice (some ⟨g, 0, none⟩) l.length cap) l.length (icells l) ∧ Below w.heap.size w w'

theorem insPost_of {base : Nat} {l : List Int} {w w8 : World} {v8 : Value} (hb : base ≤ w.heap.size) (hp : 0 < l.length) (h : w8.ownsRow w.heap.size 3 1 v8 l.length (icells l)) (hbel : Below w.heap.size w w8) : InsPost base l w (.returned v8) w8 := by
  rcases h.2 with ⟨_, h0⟩ | ⟨g, cap, cur, rfl, _⟩
  · omega
  · exact ⟨g, cap, rfl, own_le h hb, hbel⟩

set_option maxRecDepth 100000 in
set_option maxHeartbeats 2000000 in
theorem l1Insert_any (base g cap : Nat) (l : List Int) (a : Int) (w : World) (hown : w.ownsRow base 3 1 (.slice (some ⟨g, 0, none⟩) l.length cap) l.length (icells l)) (hcap : l.length ≤ cap) (hl : l.length ≤ 1099511627776) (hasc : AscP l) :
    Calls Try.prog 64 #[.slice (some ⟨g, 0, none⟩) l.length cap, .int .i64 a] w (InsPost base (insL l a) w) := by
  obtain ⟨i0, hi0, hz0, hz1, hz2⟩ := info_parts int_infoM
  have HS := Lib.hid hz2
  clear hz2
  have hIA : IntsAt w (some ⟨g, 0, none⟩) l := by
    obtain ⟨A, c, e, h⟩ := own_intsAt hown
    simp only [Value.slice.injEq] at e
    rw [e.1]
    exact h
  have hh := l1Has_any (some ⟨g, 0, none⟩) cap l a w hIA hl
  by_cases hin : hasB l a = true
  · have hres : Hid (insL l a = l) := insL_there l a hasc (by unfold hasB at hin; exact List.contains_iff_mem.1 hin)
    rw [hin] at hh
    rw [hres.out]
    have hpost : InsPost base l w (.returned (.slice (some ⟨g, 0, none⟩) l.length cap)) w := ⟨g, cap, rfl, hown, Below.refl _ _⟩
    clear hin hasc hown hIA
    go_enter Try.func64, Try.ntmps64
    go_wp2_with fail
    refine hh.mono ?_
    rintro e w1 ⟨rfl, rfl⟩
    go_wp2
    go_ret
    exact hpost
  · have hin' : hasB l a = false := by simpa using hin
    have hni : Hid (a ∉ l) := fun h => by unfold hasB at hin'; rw [List.contains_iff_mem.2 h] at hin'; cases hin'
    have HA := Lib.hid hasc
    rw [hin'] at hh
    clear hin hin' hasc
    go_enter Try.func64, Try.ntmps64
    go_wp2_with fail
    refine hh.mono ?_
    rintro e w1 ⟨rfl, rfl⟩
    clear hh
    go_wp2
    go_loop [5] (fun i => ∃ k : Nat, k ≤ l.length ∧ i = .int .i64 k ∧ Hid (∀ j, k ≤ j → j < l.length → a < itAt l j)) (fun i => (intOf i).toNat)
    case atStart => exact ⟨l.length, Nat.le_refl _, rfl, fun j h1 h2 => absurd h1 (by omega)⟩
    case round =>
      obtain ⟨k, hk, rfl, hq⟩ := hrel
      by_cases hz : k = 0
      · subst hz
        have hfin : Hid (l.take 0 ++ a :: l.drop 0 = insL l a) := ins_eq l 0 a HA.out hk hq.out (.inl rfl) hni.out
        have ek : (l.take 0).length = 0 := by rw [List.length_take]; omega
        have hcp := l1Copy_any ⟨g, 0, none⟩ cap (l.take 0) w (hIA.take 0) (by omega)
        rw [ek] at hcp
        have EK := Lib.hid ek
        have hd0 := hIA.drop 0
        rw [Nat.zero_add] at hd0
        have HD := Lib.hid hd0
        have hgs : g < w.heap.size := (hown.lt g rfl).2
        have hbase : base ≤ g := (hown.lt g rfl).1
        have hlen : Hid ((insL l a).length = 0 + 1 + (l.length - 0)) := by
          show (insL l a).length = 0 + 1 + (l.length - 0)
          rw [← hfin.out]
          simp only [List.length_append, List.length_cons, List.length_take, List.length_drop]
          omega
        clear ek hq hown hIA hd0
        go_wp2_with fail
        refine hcp.mono ?_
        rintro e w6 ⟨v6, rfl, ho6, hb6⟩
        rw [EK.out] at ho6
        have hs6 := hb6.size
        have ho6b := ho6.alloc (.cells #[.int .i64 a] 3)
        have hb6b := hb6.alloc hb6.size (.cells #[.int .i64 a] 3)
        have hcell : (w6.alloc (.cells #[.int .i64 a] 3)).cell? ⟨w6.heap.size, 0, none⟩ = some (.int .i64 a) := by simp
        have HC := Lib.hid (one_cell hcell)
        clear hcell hcp ho6
        go_wp2_with (at_builtin; refine wpList_append_own _ rfl (.tmp 29) (.tmp 31) 30 rfl w.heap.size 3 i0 (.int .i64 0) 1 8 Try.underlying30 hi0 hz0 hz1 HS.out rfl (by decide) _ 0 _ rfl ho6b ⟨w6.heap.size, 0, none⟩ 1 1 [.int .i64 a] rfl rfl HC.out (int_one _) ?c3 ?c4 ?c5 ?_)
        case c3 => unfold maxLen; omega
        case c4 => omega
        case c5 => simp; omega
        intro v7 w7 ho7 hg7 _
        have hb7 : Below w.heap.size w w7 := below_own hb6b ho6b (Nat.le_refl _) (by simp; omega) hg7
        have HN := Lib.hid (ints_news (HD.out.below hb7))
        have HL := Lib.hid (show (icells (l.drop 0)).length = (l.length - 0) * 1 by rw [icells_len, List.length_drop, Nat.mul_one])
        have hs7 := hb7.size
        clear ho6b hg7 hb6 hb6b HC
        by_cases hck : cap = 0
        · have hnil : l.length - 0 = 0 := by omega
          have hdn : Hid (l.drop 0 = []) := List.drop_of_length_le (by omega)
          subst hck
          go_wp2_with (at_builtin; refine wpList_append_own _ rfl (.tmp 33) (.tmp 36) 30 rfl w.heap.size 3 i0 (.int .i64 0) 1 8 Try.underlying30 hi0 hz0 hz1 HS.out rfl (by decide) _ (0 + 1) _ rfl ho7 ⟨g, 0, none⟩ _ _ [] rfl ?d2 ?d3 ?d4 ?d5 ?d6 ?d7 ?_)
          case d2 => simp; try omega
          case d3 => intro j u hj; simp at hj
          case d4 => intro u hu; simp at hu
          case d5 => unfold maxLen; omega
          case d6 => omega
          case d7 => omega
          intro v8 w8 ho8 hg8 _
          have ho9 : w8.ownsRow w.heap.size 3 1 v8 (insL l a).length (icells (insL l a)) := by
            rw [hlen.out, ← hfin.out]
            rw [hdn.out]; simpa [icells, hnil] using ho8
          have hb9 : Below w.heap.size w w8 := below_own hb7 ho7 (Nat.le_refl _) hs7 hg8
          have hpost := insPost_of (base := base) (by omega) (by rw [hlen.out]; omega) ho9 hb9
          clear ho8 hg8 ho9 hb9 ho7 hb7 HN HL hlen hfin
          go_wp2
          go_ret
          exact hpost
        · go_wp2_with (at_builtin; refine wpList_append_own _ rfl (.tmp 33) (.tmp 36) 30 rfl w.heap.size 3 i0 (.int .i64 0) 1 8 Try.underlying30 hi0 hz0 hz1 HS.out rfl (by decide) _ (0 + 1) _ rfl ho7 ⟨g, 0, none⟩ (l.length - 0) (cap - 0) (icells (l.drop 0)) rfl HL.out HN.out (icells_one _) ?d3 ?d4 ?d5 ?_)
          case d3 => unfold maxLen; omega
          case d4 => omega
          case d5 => omega
          intro v8 w8 ho8 hg8 _
          have ho9 : w8.ownsRow w.heap.size 3 1 v8 (insL l a).length (icells (insL l a)) := by
            rw [hlen.out, ← hfin.out]
            simpa [icells] using ho8
          have hb9 : Below w.heap.size w w8 := below_own hb7 ho7 (Nat.le_refl _) hs7 hg8
          have hpost := insPost_of (base := base) (by omega) (by rw [hlen.out]; omega) ho9 hb9
          clear ho8 hg8 ho9 hb9 ho7 hb7 HN HL hlen hfin
          go_wp2
          go_ret
          exact hpost
      · obtain ⟨j, rfl⟩ : ∃ j, k = j + 1 := ⟨k - 1, by omega⟩
        have c1 := (hown.cellAt j (by omega)).trans (icells_at l j (by omega))
        by_cases hgt : a < itAt l j
        · have hn : Hid (∀ q, j ≤ q → q < l.length → a < itAt l q) := by
            intro q h1 h2
            by_cases e : q = j
            · rw [e]; exact hgt
            · exact hq.out q (by omega) h2
          generalize itAt l j = x at c1 hgt
          clear hq hown hIA hz
          go_wp2_with fail
          refine ⟨⟨j, by omega, by go_num, hn⟩, ?_⟩
          simp only [intOf]
          omega
        · have hle : itAt l j ≤ a := by omega
          have hfin : Hid (l.take (j + 1) ++ a :: l.drop (j + 1) = insL l a) := ins_eq l (j + 1) a HA.out hk hq.out (.inr hle) hni.out
          generalize itAt l j = x at c1 hle hgt
          have ek : (l.take (j + 1)).length = (j + 1) := by rw [List.length_take]; omega
          have hcp := l1Copy_any ⟨g, 0, none⟩ cap (l.take (j + 1)) w (hIA.take (j + 1)) (by omega)
          rw [ek] at hcp
          have EK := Lib.hid ek
          have hd0 := hIA.drop (j + 1)
          rw [Nat.zero_add] at hd0
          have HD := Lib.hid hd0
          have hgs : g < w.heap.size := (hown.lt g rfl).2
          have hbase : base ≤ g := (hown.lt g rfl).1
          have hlen : Hid ((insL l a).length = (j + 1) + 1 + (l.length - (j + 1))) := by
            show (insL l a).length = (j + 1) + 1 + (l.length - (j + 1))
            rw [← hfin.out]
            simp only [List.length_append, List.length_cons, List.length_take, List.length_drop]
            omega
          clear ek hq hown hIA hd0 hgt hz
          go_wp2_with fail
          refine hcp.mono ?_
          rintro e w6 ⟨v6, rfl, ho6, hb6⟩
          rw [EK.out] at ho6
          have hs6 := hb6.size
          have ho6b := ho6.alloc (.cells #[.int .i64 a] 3)
          have hb6b := hb6.alloc hb6.size (.cells #[.int .i64 a] 3)
          have hcell : (w6.alloc (.cells #[.int .i64 a] 3)).cell? ⟨w6.heap.size, 0, none⟩ = some (.int .i64 a) := by simp
          have HC := Lib.hid (one_cell hcell)
          clear hcell hcp ho6
          go_wp2_with (at_builtin; refine wpList_append_own _ rfl (.tmp 29) (.tmp 31) 30 rfl w.heap.size 3 i0 (.int .i64 0) 1 8 Try.underlying30 hi0 hz0 hz1 HS.out rfl (by decide) _ (j + 1) _ rfl ho6b ⟨w6.heap.size, 0, none⟩ 1 1 [.int .i64 a] rfl rfl HC.out (int_one _) ?c3 ?c4 ?c5 ?_)
          case c3 => unfold maxLen; omega
          case c4 => omega
          case c5 => simp; omega
          intro v7 w7 ho7 hg7 _
          have hb7 : Below w.heap.size w w7 := below_own hb6b ho6b (Nat.le_refl _) (by simp; omega) hg7
          have HN := Lib.hid (ints_news (HD.out.below hb7))
          have HL := Lib.hid (show (icells (l.drop (j + 1))).length = (l.length - (j + 1)) * 1 by rw [icells_len, List.length_drop, Nat.mul_one])
          have hs7 := hb7.size
          clear ho6b hg7 hb6 hb6b HC
          by_cases hck : cap = (j + 1)
          · have hnil : l.length - (j + 1) = 0 := by omega
            have hdn : Hid (l.drop (j + 1) = []) := List.drop_of_length_le (by omega)
            subst hck
            go_wp2_with (at_builtin; refine wpList_append_own _ rfl (.tmp 33) (.tmp 36) 30 rfl w.heap.size 3 i0 (.int .i64 0) 1 8 Try.underlying30 hi0 hz0 hz1 HS.out rfl (by decide) _ ((j + 1) + 1) _ rfl ho7 ⟨g, 0, none⟩ _ _ [] rfl ?d2 ?d3 ?d4 ?d5 ?d6 ?d7 ?_)
            case d2 => simp; try omega
            case d3 => intro j u hj; simp at hj
            case d4 => intro u hu; simp at hu
            case d5 => unfold maxLen; omega
            case d6 => omega
            case d7 => omega
            intro v8 w8 ho8 hg8 _
            have ho9 : w8.ownsRow w.heap.size 3 1 v8 (insL l a).length (icells (insL l a)) := by
              rw [hlen.out, ← hfin.out]
              rw [hdn.out]; simpa [icells, hnil] using ho8
            have hb9 : Below w.heap.size w w8 := below_own hb7 ho7 (Nat.le_refl _) hs7 hg8
            have hpost := insPost_of (base := base) (by omega) (by rw [hlen.out]; omega) ho9 hb9
            clear ho8 hg8 ho9 hb9 ho7 hb7 HN HL hlen hfin
            go_wp2
            go_ret
            exact hpost
          · go_wp2_with (at_builtin; refine wpList_append_own _ rfl (.tmp 33) (.tmp 36) 30 rfl w.heap.size 3 i0 (.int .i64 0) 1 8 Try.underlying30 hi0 hz0 hz1 HS.out rfl (by decide) _ ((j + 1) + 1) _ rfl ho7 ⟨g, (j + 1), none⟩ (l.length - (j + 1)) (cap - (j + 1)) (icells (l.drop (j + 1))) rfl HL.out HN.out (icells_one _) ?d3 ?d4 ?d5 ?_)
            case d3 => unfold maxLen; omega
            case d4 => omega
            case d5 => omega
            intro v8 w8 ho8 hg8 _
            have ho9 : w8.ownsRow w.heap.size 3 1 v8 (insL l a).length (icells (insL l a)) := by
              rw [hlen.out, ← hfin.out]
              simpa [icells] using ho8
            have hb9 : Below w.heap.size w w8 := below_own hb7 ho7 (Nat.le_refl _) hs7 hg8
            have hpost := insPost_of (base := base) (by omega) (by rw [hlen.out]; omega) ho9 hb9
            clear ho8 hg8 ho9 hb9 ho7 hb7 HN HL hlen hfin
            go_wp2
            go_ret
            exact hpost

end Go.Proofs.Ytcginiklekdbgaa
end

section
namespace Go.Proofs.Ytcginiklekdbgaa
open Go.RowKit Go.Sort
set_option linter.unusedVariables false

end Go.Proofs.Ytcginiklekdbgaa
end

section
namespace Go.Proofs.Ytcginiklekdbgaa
open Go.RowKit Go.Sort
set_option linter.unusedVariables false

namespace DrawN
theorem int_info : (Try.prog.info? 3).map (fun i => (i.zero, i.size, i.bytes)) = some (some (.int .i64 0), 1, 8) := by kernel_rfl
theorem int_one (x : Int) : ∀ u ∈ [Value.int .i64 x], u.oneCell' = true := by
  intro u hu
  simp at hu
  subst hu
  rfl
theorem one_cell {w : World} {g : Nat} {u : Value} (h : w.cell? ⟨g, 0, none⟩ = some u) : ∀ j x, [u][j]? = some x → w.cell? ((⟨g, 0, none⟩ : Addr).add j) = some x := by
  intro j x hj
  cases j with
  | zero => simp at hj; subst hj; simpa [Addr.add] using h
  | succ j => simp at hj
theorem cur_base {w : World} {B C : Nat} (h : Cur w B C) : B ≤ C := by obtain ⟨_, _, _, _, _, _, _, _, h, _⟩ := h; exact h
/-- A row of the call's own, and a cursor that has moved; nothing else of the world at the start is turned. -/
def Grow (w0 : World) (B C : Nat) (l : List Int) (v : Value) (w : World) : Prop :=
  w.ownsRow w0.heap.size 3 1 v l.length (icells l) ∧ Drew B C w0 w
theorem ne_cur {w0 w : World} {C n : Nat} {v : Value} {xs : List Value} (hC : C < w0.heap.size) (h : w.ownsRow w0.heap.size 3 1 v n xs) : v.ownBlock ≠ some C := fun e => by
  have := (h.lt C e).1
  omega
theorem drew_grown {w0 w w' : World} {B C : Nat} {row : Option Nat} (hC : C < w0.heap.size) (h : Drew B C w0 w) (hg : w.grownBy w' row) (hr : ∀ k, row = some k → w0.heap.size ≤ k) : Drew B C w0 w' := by
  obtain ⟨hc, h2⟩ := h
  have hCl : C < w.heap.size := hc.lt
  have hBC := cur_base hc
  obtain ⟨A, n, c, i, x, hblk, hi, hn, hB, hby⟩ := hc
  have hne : some C ≠ row := fun e => by have := hr C e.symm; omega
  refine ⟨⟨A, n, c, i, x, (hg.block C hCl hne).trans hblk, hi, hn, hB, hby.keep fun k hk => hg.block k (by omega) (fun e => by have := hr k e.symm; omega)⟩, ?_⟩
  refine ⟨hg.os.trans h2.os, hg.tape.trans h2.tape, hg.output.trans h2.output, Nat.le_trans h2.size hg.size, fun k hk hne2 => ?_⟩
  exact (hg.block k (Nat.lt_of_lt_of_le hk h2.size) (fun e => by have := hr k e.symm; omega)).trans (h2.block k hk hne2)
theorem grown_below {w w' : World} (h : Below w.heap.size w w') : w.grownBy w' none := ⟨h.os, h.tape, h.output, h.size, fun k hk _ => h.block k hk⟩
theorem more {w0 w w' : World} {B C : Nat} {l : List Int} {v v' : Value} {x : Int} (hC : C < w0.heap.size) (h : Grow w0 B C l v w) (ho : w'.ownsRow w0.heap.size 3 1 v' (l.length + 1) (icells l ++ [.int .i64 x])) (hg : w.grownBy w' v.ownBlock) : Grow w0 B C (l ++ [x]) v' w' :=
  ⟨by rw [List.length_append, icells_append]; exact ho, drew_grown hC h.2 hg (fun k hk => (h.1.lt k hk).1)⟩
theorem alloc {w0 w : World} {B C : Nat} {l : List Int} {v : Value} (h : Grow w0 B C l v w) (o : Obj) : Grow w0 B C l v (w.alloc o) := ⟨h.1.alloc o, h.2.alloc o⟩
theorem drew {w0 w w' : World} {B C : Nat} {l : List Int} {v : Value} (hC : C < w0.heap.size) (h : Grow w0 B C l v w) (hd : Drew B C w w') : Grow w0 B C l v w' :=
  ⟨h.1.kept hd.2 (.inr (ne_cur hC h.1)), h.2.trans hd⟩
end DrawN

end Go.Proofs.Ytcginiklekdbgaa
end

section
namespace Go.Proofs.Ytcginiklekdbgaa
open Go.RowKit Go.Sort

theorem length_insL : ∀ (l : List Int) (n : Int), (insL l n).length ≤ l.length + 1
  | [], n => by simp [insL]
  | x :: r, n => by
    unfold insL
    split
    · simp
    · split
      · simp
      · have := length_insL r n
        simp only [List.length_cons]
        omega

theorem length_insAll (acc xs : List Int) : (insAll acc xs).length ≤ acc.length + xs.length := by
  unfold insAll
  induction xs generalizing acc with
  | nil => simp
  | cons x r ih =>
    have h1 := ih (insL acc x)
    have h2 := length_insL acc x
    simp only [List.foldl_cons, List.length_cons]
    omega

/-- The atoms of both. -/
def atomsL (p q : List (Int × Int)) : List Int := insAll (insAll [] (froms p)) (froms q)

theorem froms_len (l : List (Int × Int)) : (froms l).length = l.length := by simp [froms]
theorem itAt_froms (l : List (Int × Int)) (k : Nat) (h : k < l.length) : itAt (froms l) k = (prAt l k).1 := by simp [itAt, froms, prAt, h]

/-- A slice that holds the numbers, in a row of the call's own that lies somewhere. -/
def OwnI (w : World) (base : Nat) (v : Value) (l : List Int) : Prop :=
  ∃ g cap, v = .slice (some ⟨g, 0, none⟩) l.length cap ∧ l.length ≤ cap ∧ w.ownsRow base 3 1 (.slice (some ⟨g, 0, none⟩) l.length cap) l.length (icells l)

theorem insPost_own {base : Nat} {l : List Int} {w w' : World} {e : Ending} (h : InsPost base l w e w') : ∃ v, e = .returned v ∧ OwnI w' base v l ∧ Below w.heap.size w w' := by
  obtain ⟨g, cap, rfl, ho, hb⟩ := h
  refine ⟨_, rfl, ⟨g, cap, rfl, ?_, ho⟩, hb⟩
  rcases ho.2 with ⟨h', _⟩ | ⟨g', cap', cur, h', _, _, hn, _⟩
  · simp at h'
  · simp only [Value.slice.injEq] at h'
    omega

set_option maxRecDepth 100000 in
set_option maxHeartbeats 2000000 in
theorem l1Atoms_any (A1 A2 : Option Addr) (c1 c2 : Nat) (p q : List (Int × Int)) (w : World) (hp : PairsAt w A1 p) (hq : PairsAt w A2 q) (hlp : p.length ≤ 1048576) (hlq : q.length ≤ 1048576) :
    Calls Try.prog 50 #[.slice A1 p.length c1, .slice A2 q.length c2] w fun e w' => ∃ v, e = .returned v ∧ OwnI w' w.heap.size v (atomsL p q) ∧ Below w.heap.size w w' := by
  go_enter Try.func50, Try.ntmps50
  go_wp2
  go_loopw [5, 6] (fun v i wr => ∃ k : Nat, k ≤ p.length ∧ i = .int .i64 k ∧ OwnI wr w.heap.size v (insAll [] ((froms p).take k)) ∧ Below w.heap.size w wr) (fun _ i _ => p.length - (intOf i).toNat)
  case atStart => exact ⟨0, Nat.zero_le _, rfl, ⟨w.heap.size, 0, rfl, Nat.le_refl _, World.ownsRow_lit w #[] 0 (Nat.le_refl _) (by decide) rfl⟩, (Below.refl _ _).alloc (Nat.le_refl _) _⟩
  case round =>
    obtain ⟨k, hk, rfl, ⟨g, cap, rfl, hcap, ho⟩, hb⟩ := hrel
    by_cases hlt : k < p.length
    · obtain ⟨b1, o1, rfl, hb1, hc1⟩ := hp (by omega)
      obtain ⟨d1, _⟩ := hc1 k hlt
      rw [← hb.cell (p := ⟨b1, _, none⟩) hb1] at d1
      have hlen := length_insAll [] ((froms p).take k)
      rw [List.length_take, froms_len , List.length_nil] at hlen
      have hins := l1Insert_any w.heap.size g cap _ (prAt p k).1 wr ho hcap (by omega) (asc_insAll _ _ List.Pairwise.nil)
      have hnext : Hid (insAll [] ((froms p).take (k + 1)) = insL (insAll [] ((froms p).take k)) (prAt p k).1) := by
        rw [← itAt_froms p k hlt]
        exact insAll_next [] (by rw [froms_len]; exact hlt)
      generalize insAll [] ((froms p).take k) = X at hins hnext hlen hcap ⊢
      generalize (prAt p k).1 = a at d1 hins hnext
      clear ho hc1 hp hlen
      go_wp2_with fail
      refine hins.mono ?_
      rintro e w2 hpost
      obtain ⟨v2, rfl, hv2, hb2⟩ := insPost_own hpost
      rw [← hnext.out] at hv2
      have hb3 := hb.trans (hb2.mono hb.size)
      clear hpost hins hnext hb hb2 d1
      go_wp2_with fail
      refine ⟨⟨k + 1, by omega, by go_num, hv2, hb3⟩, ?_⟩
      simp only [intOf]
      omega
    · have hown : OwnI wr w.heap.size (.slice (some ⟨g, 0, none⟩) (insAll [] ((froms p).take k)).length cap) (insAll [] (froms p)) := by
        rw [List.take_of_length_le (by rw [froms_len]; omega)] at ho hcap ⊢
        exact ⟨g, cap, rfl, hcap, ho⟩
      have hlen0 := length_insAll [] (froms p)
      rw [froms_len, List.length_nil] at hlen0
      generalize (insAll [] ((froms p).take k)).length = N at hown ⊢
      obtain ⟨wo, rfl⟩ : ∃ wo : World, wo = wr := ⟨_, rfl⟩
      clear ho hcap hp
      go_wp2
      go_loopw [5, 7] (fun v i wr => ∃ k : Nat, k ≤ q.length ∧ i = .int .i64 k ∧ OwnI wr w.heap.size v (insAll (insAll [] (froms p)) ((froms q).take k)) ∧ Below w.heap.size w wr) (fun _ i _ => q.length - (intOf i).toNat)
      case atStart => exact ⟨0, Nat.zero_le _, rfl, hown, hb⟩
      case round =>
        clear hown hb
        obtain ⟨k, hk, rfl, ⟨g, cap, rfl, hcap, ho⟩, hb⟩ := hrel
        by_cases hlt : k < q.length
        · obtain ⟨b1, o1, rfl, hb1, hc1⟩ := hq (by omega)
          obtain ⟨d1, _⟩ := hc1 k hlt
          rw [← hb.cell (p := ⟨b1, _, none⟩) hb1] at d1
          have hlen := length_insAll (insAll [] (froms p)) ((froms q).take k)
          rw [List.length_take, froms_len ] at hlen
          have hins := l1Insert_any w.heap.size g cap _ (prAt q k).1 wr ho hcap (by omega) (asc_insAll _ _ (asc_insAll _ _ List.Pairwise.nil))
          have hnext : Hid (insAll (insAll [] (froms p)) ((froms q).take (k + 1)) = insL (insAll (insAll [] (froms p)) ((froms q).take k)) (prAt q k).1) := by
            rw [← itAt_froms q k hlt]
            exact insAll_next (insAll [] (froms p)) (by rw [froms_len]; exact hlt)
          generalize insAll (insAll [] (froms p)) ((froms q).take k) = X at hins hnext hlen hcap ⊢
          generalize (prAt q k).1 = a at d1 hins hnext
          clear ho hc1 hq hlen
          go_wp2_with fail
          refine hins.mono ?_
          rintro e w2 hpost
          obtain ⟨v2, rfl, hv2, hb2⟩ := insPost_own hpost
          rw [← hnext.out] at hv2
          have hb3 := hb.trans (hb2.mono hb.size)
          clear hpost hins hnext hb hb2 d1
          go_wp2_with fail
          refine ⟨⟨k + 1, by omega, by go_num, hv2, hb3⟩, ?_⟩
          simp only [intOf]
          omega
        · have hown : OwnI wr w.heap.size (.slice (some ⟨g, 0, none⟩) (insAll (insAll [] (froms p)) ((froms q).take k)).length cap) (atomsL p q) := by
            rw [List.take_of_length_le (by rw [froms_len]; omega)] at ho hcap ⊢
            exact ⟨g, cap, rfl, hcap, ho⟩
          generalize (insAll (insAll [] (froms p)) ((froms q).take k)).length = M at hown ⊢
          clear ho hcap hq
          go_wp2
          go_ret
          exact ⟨_, rfl, hown, hb⟩

end Go.Proofs.Ytcginiklekdbgaa
end

section
namespace Go.Proofs.Ytcginiklekdbgaa
open Go.RowKit Go.Sort

/-- What the first pair with the atom gives to it; the atom, if there is none. -/
def imgL : List (Int × Int) → Int → Int
  | [], a => a
  | p :: r, a => if p.1 = a then p.2 else imgL r a

theorem imgL_at : ∀ (l : List (Int × Int)) (a : Int) (i : Nat), i < l.length → (∀ j, j < i → (prAt l j).1 ≠ a) → (prAt l i).1 = a → imgL l a = (prAt l i).2
  | [], _, i, h, _, _ => by simp at h
  | p :: r, a, 0, _, _, e => by
    have e' : p.1 = a := e
    simp [imgL, e', prAt]
  | p :: r, a, i + 1, h, hn, e => by
    have h0 : ¬ p.1 = a := hn 0 (by omega)
    have h1 := imgL_at r a i (by simpa using h) (fun j hj => hn (j + 1) (by omega)) e
    simp only [imgL, h0, if_false]
    exact h1

theorem imgL_none : ∀ (l : List (Int × Int)) (a : Int), (∀ j, j < l.length → (prAt l j).1 ≠ a) → imgL l a = a
  | [], _, _ => rfl
  | p :: r, a, hn => by
    have h0 : ¬ p.1 = a := hn 0 (by simp)
    simp only [imgL, h0, if_false]
    exact imgL_none r a fun j hj => hn (j + 1) (by simpa using hj)

def imageF (l : List (Int × Int)) (a : Int) : Int := if permB l && atomB a then imgL l a else -1

theorem imageF_no1 {l : List (Int × Int)} {a : Int} (h : permB l = false) : imageF l a = -1 := by simp [imageF, h]
theorem imageF_no2 {l : List (Int × Int)} {a : Int} (h : atomB a = false) : imageF l a = -1 := by simp [imageF, h]
theorem imageF_yes {l : List (Int × Int)} {a : Int} (h : permB l = true) (h' : atomB a = true) : imageF l a = imgL l a := by simp [imageF, h, h']

set_option maxHeartbeats 400000 in
theorem imageIn_any (A : Option Addr) (c : Nat) (l : List (Int × Int)) (a : Int) (w : World) (hA : PairsAt w A l) (hl : l.length ≤ 1099511627776) (hasc : Asc l) :
    Calls Try.prog 28 #[.slice A l.length c, .int .i64 a] w fun e w' => e = .returned (.int .i64 (imgL l a)) ∧ Below w.heap.size w w' := by
  have hpl := placeOf_any A c l a w hA hl hasc
  have HA := Lib.hid hasc
  clear hasc
  go_enter Try.func28, Try.ntmps28
  go_wp2_with fail
  refine hpl.mono ?_
  rintro e w1 ⟨i, he, hd, hb⟩
  clear hpl
  by_cases hf : foundB l a i = true
  · have hf' : i < l.length ∧ (prAt l i).1 = a := by simpa [foundB] using hf
    have hres : Hid (imgL l a = (prAt l i).2) := imgL_at l a i hf'.1 (fun j hj => by have := hd.2.1 j hj; omega) hf'.2
    rw [hf] at he
    subst he
    have hi := hf'.1
    obtain ⟨b1, o1, rfl, hb1, hc1⟩ := hA (by omega)
    obtain ⟨_, c2⟩ := hc1 i hi
    rw [← hb.cell (p := ⟨b1, _, none⟩) hb1] at c2
    clear hc1 hA hf hf' hd
    go_wp2
    go_ret
    exact ⟨int_end hres.out.symm, hb⟩
  · have hf' : foundB l a i = false := by simpa using hf
    have hres : Hid (imgL l a = a) := imgL_none l a fun j hj => by
      rcases Nat.lt_or_ge j i with h1 | h1
      · have := hd.2.1 j h1; omega
      · intro e
        have h2 := found_iff HA.out hd
        rw [hf'] at h2
        have h3 : a ∈ froms l := mem_froms.2 ⟨j, hj, e⟩
        have h4 : (froms l).contains a = true := List.contains_iff_mem.2 h3
        rw [h4] at h2
        cases h2
    rw [hf'] at he
    subst he
    clear hA hf hf' hd
    go_wp2
    go_ret
    exact ⟨int_end hres.out.symm, hb⟩

set_option maxHeartbeats 400000 in
theorem l1Image_any (A : Option Addr) (c : Nat) (l : List (Int × Int)) (a : Int) (w : World) (hA : PairsAt w A l) (hl : l.length ≤ 1099511627776) :
    Calls Try.prog 51 #[.slice A l.length c, .int .i64 a] w fun e w' => e = .returned (.int .i64 (imgL l a)) ∧ w = w' := by
  go_enter Try.func51, Try.ntmps51
  go_wp2
  go_loop [5] (fun i => ∃ k : Nat, k ≤ l.length ∧ i = .int .i64 k ∧ Hid (∀ j, j < k → (prAt l j).1 ≠ a)) (fun i => l.length - (intOf i).toNat)
  case atStart => exact ⟨0, Nat.zero_le _, rfl, fun j hj => absurd hj (by omega)⟩
  case round =>
    obtain ⟨k, hk, rfl, hq⟩ := hrel
    by_cases hlt : k < l.length
    · obtain ⟨b1, o1, rfl, hb1, hc1⟩ := hA (by omega)
      obtain ⟨c1, c2⟩ := hc1 k hlt
      clear hc1 hA
      by_cases he : ((prAt l k).1 == a) = true
      · have hres : Hid (imgL l a = (prAt l k).2) := imgL_at l a k hlt hq.out (by simpa using he)
        generalize prAt l k = p at c1 c2 he hres
        clear hq
        go_wp2
        go_ret
        exact ⟨int_end hres.out.symm, rfl⟩
      · have he' : ((prAt l k).1 == a) = false := by simpa using he
        have hn : Hid (∀ j, j < k + 1 → (prAt l j).1 ≠ a) := by
          intro j hj
          by_cases e : j = k
          · rw [e]; simpa using he'
          · exact hq.out j (by omega)
        generalize prAt l k = p at c1 c2 he he'
        clear hq he
        go_wp2
        go_round
        case rel => exact ⟨k + 1, by omega, by go_num, hn⟩
        case measure => simp [intOf]; omega
    · have hres : Hid (imgL l a = a) := imgL_none l a fun j hj => hq.out j (by omega)
      clear hq hA
      go_wp2
      go_ret
      exact ⟨int_end hres.out.symm, rfl⟩

end Go.Proofs.Ytcginiklekdbgaa
end

section
namespace Go.Proofs.Ytcginiklekdbgaa
open Go.RowKit

theorem prAt_mem {l : List (Int × Int)} {i : Nat} (h : i < l.length) : prAt l i ∈ l := by
  simp [prAt, h]

/-- No atom stands twice in front. -/
def Single (l : List (Int × Int)) : Prop := (froms l).Nodup

theorem imgL_out : ∀ {l : List (Int × Int)} {a : Int}, a ∉ froms l → imgL l a = a
  | [], _, _ => rfl
  | p :: r, a, h => by
    unfold froms at h
    rw [List.map_cons, List.mem_cons, not_or] at h
    have hne : ¬ p.1 = a := fun e => h.1 e.symm
    simp only [imgL, hne, if_false]
    exact imgL_out (l := r) h.2

theorem imgL_in : ∀ {l : List (Int × Int)} {a : Int}, a ∈ froms l → (a, imgL l a) ∈ l
  | [], _, h => by simp [froms] at h
  | p :: r, a, h => by
    by_cases e : p.1 = a
    · subst e; simp [imgL]
    · unfold froms at h
      rw [List.map_cons, List.mem_cons] at h
      have h' : a ∈ froms r := by
        rcases h with h | h
        · exact absurd h.symm e
        · exact h
      simp only [imgL, e, if_false]
      exact List.mem_cons_of_mem _ (imgL_in h')

/-- Nothing is given to itself. -/
def Moves (l : List (Int × Int)) : Prop := ∀ x ∈ l, x.1 ≠ x.2

theorem moved_iff {l : List (Int × Int)} (hm : Moves l) (a : Int) : a ∈ froms l ↔ imgL l a ≠ a := by
  constructor
  · intro h e
    exact hm _ (imgL_in h) e.symm
  · intro h
    rcases Decidable.em (a ∈ froms l) with h' | h'
    · exact h'
    · exact absurd (imgL_out h') h

theorem asc_single {l : List (Int × Int)} (h : AscP (froms l)) : Single l := by
  unfold Single
  exact h.imp fun h1 => by omega

/-- What a permutation is, without the bound on how many it moves. -/
structure IsP (l : List (Int × Int)) : Prop where
  asc : AscP (froms l)
  mv : Moves l
  dom : ∀ a ∈ froms l, 0 ≤ a ∧ a ≤ 999
  back : (froms l).Perm (tos l)

theorem IsP.single {l : List (Int × Int)} (h : IsP l) : Single l := asc_single h.asc

theorem asc_list {l : List (Int × Int)} (h : AscP (froms l)) : Asc l := by
  intro i j hij hj
  have h1 := List.pairwise_iff_getElem.1 h i j (by rw [froms_len]; omega) (by rw [froms_len]; omega) hij
  have e1 : (froms l)[i]'(by rw [froms_len]; omega) = (prAt l i).1 := by
    rw [← itAt_froms l i (by omega), itAt_get]
  have e2 : (froms l)[j]'(by rw [froms_len]; omega) = (prAt l j).1 := by
    rw [← itAt_froms l j (by omega), itAt_get]
  rw [e1, e2] at h1
  exact h1

theorem IsP.tos_nodup {l : List (Int × Int)} (h : IsP l) : (tos l).Nodup := h.back.nodup_iff.1 h.single

theorem IsP.to_mem {l : List (Int × Int)} (h : IsP l) {a : Int} (ha : a ∈ froms l) : imgL l a ∈ froms l := by
  have h1 : imgL l a ∈ tos l := List.mem_map_of_mem (f := Prod.snd) (imgL_in ha)
  exact h.back.mem_iff.2 h1

theorem IsP.atom {l : List (Int × Int)} (h : IsP l) {a : Int} (ha : 0 ≤ a ∧ a ≤ 999) : 0 ≤ imgL l a ∧ imgL l a ≤ 999 := by
  rcases Decidable.em (a ∈ froms l) with h' | h'
  · exact h.dom _ (h.to_mem h')
  · rw [imgL_out h']; exact ha

theorem nodup_snd : ∀ {l : List (Int × Int)} {a b c : Int}, (tos l).Nodup → (a, c) ∈ l → (b, c) ∈ l → a = b
  | [], _, _, _, _, h, _ => by simp at h
  | p :: r, a, b, c, hn, h1, h2 => by
    unfold tos at hn
    rw [List.map_cons, List.nodup_cons] at hn
    rcases List.mem_cons.1 h1 with e1 | e1
    · rcases List.mem_cons.1 h2 with e2 | e2
      · rw [← e2] at e1; exact congrArg Prod.fst e1
      · exact absurd (List.mem_map_of_mem (f := Prod.snd) e2) (by rw [← e1] at hn; exact hn.1)
    · rcases List.mem_cons.1 h2 with e2 | e2
      · exact absurd (List.mem_map_of_mem (f := Prod.snd) e1) (by rw [← e2] at hn; exact hn.1)
      · exact nodup_snd (l := r) hn.2 e1 e2

theorem IsP.inj {l : List (Int × Int)} (h : IsP l) {a b : Int} (e : imgL l a = imgL l b) : a = b := by
  rcases Decidable.em (a ∈ froms l) with ha | ha
  · rcases Decidable.em (b ∈ froms l) with hb | hb
    · exact nodup_snd h.tos_nodup (imgL_in ha) (by rw [e]; exact imgL_in hb)
    · have h1 := h.to_mem ha
      rw [e, imgL_out hb] at h1
      exact absurd h1 hb
  · rcases Decidable.em (b ∈ froms l) with hb | hb
    · have h1 := h.to_mem hb
      rw [← e, imgL_out ha] at h1
      exact absurd h1 ha
    · rw [imgL_out ha, imgL_out hb] at e; exact e

/-- A permutation that moves no more than may be moved passes the test. -/
theorem permB_of {l : List (Int × Int)} (h : IsP l) (hl : l.length ≤ 40) : permB l = true := by
  have hasc := asc_list h.asc
  refine permB_yes hl (orderB_yes fun i hi => ?_) fun i hi => ?_
  · have hm := prAt_mem hi
    have h1 := h.dom _ (List.mem_map_of_mem (f := Prod.fst) hm)
    have h2 := h.dom _ (h.back.mem_iff.2 (List.mem_map_of_mem (f := Prod.snd) hm))
    have h3 := h.mv _ hm
    have h4 : i = 0 ∨ (prAt l (i - 1)).1 < (prAt l i).1 := by
      by_cases e : i = 0
      · exact .inl e
      · exact .inr (hasc (i - 1) i (by omega) hi)
    simp only [okAt, atomB]
    simpa using ⟨h1, h2, h3, h4⟩
  · have hm := prAt_mem hi
    have h2 : (prAt l i).2 ∈ froms l := h.back.mem_iff.2 (List.mem_map_of_mem (f := Prod.snd) hm)
    unfold goodAt
    rw [List.contains_iff_mem.2 h2, Bool.true_and]
    have hn : (prAt l i).2 ∉ (tos l).take i := by
      intro hin
      obtain ⟨j, hj, e⟩ := mem_take_tos (Nat.le_of_lt hi) hin
      have h5 := nodup_snd h.tos_nodup (a := (prAt l j).1) (b := (prAt l i).1) (c := (prAt l i).2) (by rw [← e]; exact prAt_mem (by omega)) (prAt_mem hi)
      have := hasc j i hj hi
      omega
    simp [hn]

/-- A list that is told by its atoms and a map that is one to one on them, and keeps them. -/
theorem isP_map {L : List Int} {f : Int → Int} (hL : AscP L) (hd : ∀ a ∈ L, 0 ≤ a ∧ a ≤ 999) (hm : ∀ a ∈ L, f a ≠ a) (hk : ∀ a ∈ L, f a ∈ L) (hi : ∀ a ∈ L, ∀ b ∈ L, f a = f b → a = b) : IsP (L.map fun a => (a, f a)) := by
  have ef : froms (L.map fun a => (a, f a)) = L := by
    unfold froms; rw [List.map_map]; exact List.map_id'' (fun _ => rfl) L
  have et : tos (L.map fun a => (a, f a)) = L.map f := by
    unfold tos; rw [List.map_map]; rfl
  refine ⟨by rw [ef]; exact hL, fun x hx => ?_, by rw [ef]; exact hd, ?_⟩
  · obtain ⟨a, ha, rfl⟩ := List.mem_map.1 hx
    exact fun e => hm a ha e.symm
  · rw [ef, et]
    have hn : L.Nodup := hL.imp fun h1 => by omega
    have hn2 : (L.map f).Nodup := by
      rw [List.Nodup, List.pairwise_map]
      refine List.Pairwise.imp_of_mem ?_ hn
      intro a b ha hb hab e
      exact hab (hi a ha b hb e)
    refine (perm_of_subset (L.map f) L hn2 (fun a ha => ?_) (by rw [List.length_map]; exact Nat.le_refl _))
    obtain ⟨b, hb, rfl⟩ := List.mem_map.1 ha
    exact hk b hb

/-- First q, then p. -/
def thenB (p q : List (Int × Int)) (a : Int) : Bool := imgL p (imgL q a) != a
def thenG (p q : List (Int × Int)) (a : Int) : Int × Int := (a, imgL p (imgL q a))
def thenL (p q : List (Int × Int)) : List (Int × Int) := ((atomsL p q).filter (thenB p q)).map (thenG p q)

theorem mem_atomsL {p q : List (Int × Int)} {a : Int} : a ∈ atomsL p q ↔ a ∈ froms p ∨ a ∈ froms q := by
  unfold atomsL
  rw [mem_insAll, mem_insAll]
  simp

theorem asc_atomsL (p q : List (Int × Int)) : AscP (atomsL p q) := asc_insAll _ _ (asc_insAll _ _ List.Pairwise.nil)

theorem len_atomsL (p q : List (Int × Int)) : (atomsL p q).length ≤ p.length + q.length := by
  have h1 := length_insAll (insAll [] (froms p)) (froms q)
  have h2 := length_insAll [] (froms p)
  rw [froms_len] at h1 h2
  simp only [List.length_nil] at h2
  unfold atomsL
  omega

theorem thenL_len (p q : List (Int × Int)) : (thenL p q).length ≤ p.length + q.length := by
  unfold thenL
  rw [List.length_map]
  exact Nat.le_trans (List.length_filter_le _ _) (len_atomsL p q)

theorem froms_thenL (p q : List (Int × Int)) : froms (thenL p q) = (atomsL p q).filter (thenB p q) := by
  unfold froms thenL
  rw [List.map_map]
  exact List.map_id'' (fun _ => rfl) _

theorem asc_thenL (p q : List (Int × Int)) : AscP (froms (thenL p q)) := by
  rw [froms_thenL]
  exact (asc_atomsL p q).filter _

theorem moves_thenL (p q : List (Int × Int)) : Moves (thenL p q) := by
  intro x hx
  unfold thenL at hx
  obtain ⟨a, ha, rfl⟩ := List.mem_map.1 hx
  have h1 := (List.mem_filter.1 ha).2
  intro e
  have e' : a = imgL p (imgL q a) := e
  rw [thenB, ← e'] at h1
  simp at h1

theorem img_thenL (p q : List (Int × Int)) (a : Int) : imgL (thenL p q) a = imgL p (imgL q a) := by
  rcases Decidable.em (a ∈ froms (thenL p q)) with h | h
  · have h1 := imgL_in h
    unfold thenL at h1
    obtain ⟨b, _, e⟩ := List.mem_map.1 h1
    have e1 : b = a := congrArg Prod.fst e
    have e2 : imgL p (imgL q b) = imgL (thenL p q) a := congrArg Prod.snd e
    rw [← e2, e1]
  · rw [imgL_out h]
    rw [froms_thenL, List.mem_filter, mem_atomsL, Decidable.not_and_iff_not_or_not] at h
    rcases h with h | h
    · rw [not_or] at h
      rw [imgL_out h.2, imgL_out h.1]
    · simpa [thenB] using (Eq.symm (by simpa [thenB] using h : imgL p (imgL q a) = a))

theorem isP_thenL {p q : List (Int × Int)} (hp : IsP p) (hq : IsP q) : IsP (thenL p q) := by
  have hkey : ∀ a, a ∈ (atomsL p q).filter (thenB p q) ↔ imgL p (imgL q a) ≠ a := by
    intro a
    rw [← froms_thenL, moved_iff (moves_thenL p q), img_thenL]
  refine isP_map (f := fun a => imgL p (imgL q a)) (by rw [← froms_thenL]; exact asc_thenL p q) (fun a ha => ?_) (fun a ha => (hkey a).1 ha) (fun a ha => ?_) (fun a _ b _ e => hq.inj (hp.inj e))
  · rcases mem_atomsL.1 (List.mem_filter.1 ha).1 with h | h
    · exact hp.dom a h
    · exact hq.dom a h
  · refine (hkey _).2 fun e => (hkey a).1 ha ?_
    exact hq.inj (hp.inj e)

end Go.Proofs.Ytcginiklekdbgaa
end

section
namespace Go.Proofs.Ytcginiklekdbgaa
open Go.RowKit Go.Sort

theorem imageOf_impl (A : Option Addr) (c : Nat) (l : List (Int × Int)) (a : Int) (w : World) (hA : PairsAt w A l) (hl : l.length ≤ 1099511627776) :
    Calls Try.prog 11 #[.slice A l.length c, .int .i64 a] w fun e w' => e = .returned (.int .i64 (imageF l a)) ∧ Below w.heap.size w w' := by
  have hp := isPerm_impl A c l w hA hl
  by_cases h1 : permB l = true
  · have hasc := Lib.hid (asc_of_order (permB_parts h1).2.1)
    rw [h1] at hp
    by_cases h2 : atomB a = true
    · have hres : Hid (imageF l a = imgL l a) := imageF_yes h1 h2
      have him := fun W hW => imageIn_any A c l a W hW hl hasc.out
      clear h1
      go_enter Try.func11, Try.ntmps11
      go_wp2_with fail
      refine hp.mono ?_
      rintro e w1 ⟨rfl, hb1⟩
      have hA1 := hA.below hb1
      clear hp hA
      go_wp2_with (go_at_call 27; refine (isAtom_any _ _).mono ?_; rintro e w' ⟨rfl, rfl⟩)
      refine (him _ hA1).mono ?_
      rintro e w2 ⟨rfl, hb2⟩
      have hb3 := hb1.trans (hb2.mono hb1.size)
      clear him hA1 hb1 hb2
      go_wp2
      go_ret
      exact ⟨int_end hres.out.symm, hb3⟩
    · have h2' : atomB a = false := by simpa using h2
      have hres : Hid (imageF l a = -1) := imageF_no2 h2'
      clear h1 h2 hA
      go_enter Try.func11, Try.ntmps11
      go_wp2_with fail
      refine hp.mono ?_
      rintro e w1 ⟨rfl, hb1⟩
      clear hp
      go_wp2_with (go_at_call 27; refine (isAtom_any _ _).mono ?_; rintro e w' ⟨rfl, rfl⟩)
      go_ret
      exact ⟨int_end hres.out.symm, hb1⟩
  · have h1' : permB l = false := by simpa using h1
    have hres : Hid (imageF l a = -1) := imageF_no1 h1'
    rw [h1'] at hp
    clear h1 h1' hA
    go_enter Try.func11, Try.ntmps11
    go_wp2_with fail
    refine hp.mono ?_
    rintro e w1 ⟨rfl, hb1⟩
    clear hp
    go_wp2
    go_ret
    exact ⟨int_end hres.out.symm, hb1⟩

end Go.Proofs.Ytcginiklekdbgaa
end

section
namespace Go.Proofs.Ytcginiklekdbgaa
open Go.RowKit Go.Sort
set_option linter.unusedVariables false

def imsL (p : List (Int × Int)) (l : List Int) : List Int := l.map (imgL p)
theorem imsL_len (p : List (Int × Int)) (l : List Int) : (imsL p l).length = l.length := by simp [imsL]
theorem imsL_next {p : List (Int × Int)} {l : List Int} {k : Nat} (h : k < l.length) : imsL p (l.take (k + 1)) = imsL p (l.take k) ++ [imgL p (itAt l k)] := by
  rw [itake_next h]; simp [imsL]
end Go.Proofs.Ytcginiklekdbgaa
end

section
namespace Go.Proofs.Ytcginiklekdbgaa
open Go.RowKit Go.Sort

set_option maxHeartbeats 400000 in
theorem lawHas_any (A : Option Addr) (c : Nat) (l : List Int) (a : Int) (w : World) (hA : IntsAt w A l) (hl : l.length ≤ 1099511627776) :
    Calls Try.prog 12 #[.slice A l.length c, .int .i64 a] w fun e w' => e = .returned (.bool (hasB l a)) ∧ w = w' := by
  go_enter Try.func12, Try.ntmps12
  go_wp2
  go_loop [5] (fun i => ∃ k : Nat, k ≤ l.length ∧ i = .int .i64 k ∧ Hid (∀ j, j < k → itAt l j ≠ a)) (fun i => l.length - (intOf i).toNat)
  case atStart => exact ⟨0, Nat.zero_le _, rfl, fun j hj => absurd hj (by omega)⟩
  case round =>
    obtain ⟨k, hk, rfl, hq⟩ := hrel
    by_cases hlt : k < l.length
    · obtain ⟨b1, o1, rfl, hb1, hc1⟩ := hA (by omega)
      have c1 := hc1 k hlt
      clear hc1 hA
      by_cases he : (itAt l k == a) = true
      · have hres : Hid (hasB l a = true) := by
          show hasB l a = true
          unfold hasB
          rw [List.contains_iff_mem]
          have e : itAt l k = a := by simpa using he
          rw [← e, itAt_get l k hlt]
          exact List.getElem_mem hlt
        generalize itAt l k = x at c1 he
        clear hq
        go_wp2
        go_ret
        exact ⟨bool_end hres.out.symm, rfl⟩
      · have he' : (itAt l k == a) = false := by simpa using he
        have hn : Hid (∀ j, j < k + 1 → itAt l j ≠ a) := by
          intro j hj
          by_cases e : j = k
          · rw [e]; simpa using he'
          · exact hq.out j (by omega)
        generalize itAt l k = x at c1 he he'
        clear hq he
        go_wp2
        go_round
        case rel => exact ⟨k + 1, by omega, by go_num, hn⟩
        case measure => simp [intOf]; omega
    · have hres : Hid (hasB l a = false) := by
        show hasB l a = false
        unfold hasB
        rw [← Bool.not_eq_true, List.contains_iff_mem]
        intro hmem
        obtain ⟨j, hj, e⟩ := List.getElem_of_mem hmem
        exact hq.out j (by omega) (by rw [itAt_get l j hj]; exact e)
      clear hq hA
      go_wp2
      go_ret
      exact ⟨bool_end hres.out.symm, rfl⟩

end Go.Proofs.Ytcginiklekdbgaa
end

section
namespace Go.Proofs.Ytcginiklekdbgaa
open Go.RowKit
set_option linter.unusedVariables false

/-- Whether all are atoms. -/
def atomsB (l : List Int) : Bool := l.all atomB
theorem atomsB_no {l : List Int} {k : Nat} (hk : k < l.length) (h : atomB (itAt l k) = false) : atomsB l = false := by
  cases hh : atomsB l with
  | false => rfl
  | true =>
    unfold atomsB at hh
    rw [List.all_eq_true] at hh
    have := hh l[k] (List.getElem_mem hk)
    rw [← itAt_get l k hk, h] at this
    cases this
theorem atomsB_yes {l : List Int} (h : ∀ k, k < l.length → atomB (itAt l k) = true) : atomsB l = true := by
  unfold atomsB
  rw [List.all_eq_true]
  intro a ha
  obtain ⟨k, hk, rfl⟩ := List.getElem_of_mem ha
  rw [← itAt_get l k hk]
  exact h k hk
end Go.Proofs.Ytcginiklekdbgaa
end

section
namespace Go.Proofs.Ytcginiklekdbgaa
open Go.RowKit Go.Sort
set_option linter.unusedVariables false

namespace NewLo
theorem newCur {A : Option Addr} {n c B : Nat} {w : World} (x : Int) (hA : BytesAt w B A n) (hB : B ≤ w.heap.size) (hn : n ≤ 1048576) :
    Cur (w.alloc (.cells #[.slice A n c, .int .i64 0, .int .i64 x] 63)) B w.heap.size :=
  ⟨A, n, c, 0, x, heap_alloc_new _ _, Nat.zero_le _, hn, hB, hA.keep fun k hk => Below.heap_alloc _ _ _ (by omega)⟩
end NewLo
set_option maxRecDepth 100000 in
set_option maxHeartbeats 2000000 in
theorem l1New_up (A : Option Addr) (n c B : Nat) (w : World) (hA : BytesAt w B A n) (hB : B ≤ w.heap.size) (hn : n ≤ 1048576) :
    Calls Try.prog 17 #[.slice A n c] w fun e w' => ∃ C, e = .returned (.pointer (some ⟨C, 0, none⟩)) ∧ Cur w' B C ∧ Below w.heap.size w w' ∧ w.heap.size ≤ C := by
  have HA := Lib.hid hA
  clear hA
  go_enter Try.func17, Try.ntmps17
  go_wp2
  go_loop [3, 4] (fun h i => ∃ (k : Nat) (x : Int), k ≤ n ∧ i = .int .i64 k ∧ h = .int .i64 x) (fun _ i => n - (intOf i).toNat)
  case atStart => exact ⟨0, _, Nat.zero_le _, rfl, rfl⟩
  case round =>
    obtain ⟨k, x, hk, rfl, rfl⟩ := hrel
    by_cases hlt : k < n
    · by_cases h4 : k < 4000
      · obtain ⟨b, off, y, rfl, hb, hy, hcy⟩ := HA.out k hlt
        go_wp2
        go_round
        case rel => exact ⟨k + 1, _, by omega, by go_num, rfl⟩
        case measure => simp [intOf]; omega
      · have h5 : 4000 ≤ k := by omega
        have hpost := NewLo.newCur x HA.out hB hn (c := c)
        go_wp2
        go_ret
        exact ⟨w.heap.size, rfl, hpost, (Below.refl _ _).alloc (Nat.le_refl _) _, Nat.le_refl _⟩
    · have hpost := NewLo.newCur x HA.out hB hn (c := c)
      go_wp2
      go_ret
      exact ⟨w.heap.size, rfl, hpost, (Below.refl _ _).alloc (Nat.le_refl _) _, Nat.le_refl _⟩
end Go.Proofs.Ytcginiklekdbgaa
end

