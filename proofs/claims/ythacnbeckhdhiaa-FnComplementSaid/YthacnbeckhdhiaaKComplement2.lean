/-
  The comparison of two pairs and of two lists of pairs, as contracts. Comparing and numbering lists of booleans, as contracts. Lists of moves: the laws' own copies and comparisons, as contracts. The cursor from which the model draws: what it gives is within its range, as contracts. Numbers that the model draws from a cursor, limits and others: contracts. Comparing numbers, atoms, and finding a pair by its first atom, as contracts. Whether moves are in order, as a contract. Whether a list has a number: in the model, as a contract. Whether a list of pairs is a permutation, as the program decides it: a contract. Whether a list of pairs is a permutation, as the model decides it: a contract; and that both decide alike. The moved atoms of a list of pairs: in the program, as a contract. A number is put into an ascending list, and the atoms of two lists of pairs together: in the model, as contracts. l1Insert of the model at a list in any order, as a contract. Tuples and constants that the model draws from a cursor: contracts. A cursor whose base lies below the memory at hand: the contract of l1New. Constants, tuples and patterns: plain words, no program is walked here. Comparing, numbering and copying lists of integers, as contracts. Patterns by themselves, all of them, and their order: plain words, no program is walked here. What is a term: plain words, no program is walked here. All terms within a term: plain words. The shape of a term, in the model, as contracts. The least atom that is not in a list: in the program, as a contract. The least atom that is not in a list: in the model, as a contract. Whether a list has a number: in the laws, as a contract.
-/
import Derived.Test.YthacnbeckhdhiaaKComplement1
import Derived.WalkLawsBesides
import Derived.WalkSpells
import Derived.BigQuiet
import Derived.Lib.QuietBelow
import Derived.Lib.Hide
section
namespace Go.Proofs.Ythacnbeckhdhiaa
open Go.RowKit Go.Sort

end Go.Proofs.Ythacnbeckhdhiaa
end

section
namespace Go.Proofs.Ythacnbeckhdhiaa
open Go.RowKit Go.Sort

end Go.Proofs.Ythacnbeckhdhiaa
end

section
namespace Go.Proofs.Ythacnbeckhdhiaa
open Go.RowKit Go.Sort
set_option linter.unusedVariables false

/-- A new slice of the elements. -/
def NewMoves (l : List (Int × Int)) (w : World) (e : Ending) (w' : World) : Prop :=
  ∃ v, e = .returned v ∧ w'.ownsRow w.heap.size 45 2 v l.length (cellsOf l) ∧ Below w.heap.size w w'

theorem move_info : (Try.prog.info? 45).map (fun i => (i.zero, i.size, i.bytes)) = some (some (.agg #[.int .i64 0, .int .i64 0]), 2, 16) := by kernel_rfl

end Go.Proofs.Ythacnbeckhdhiaa
end

section
namespace Go.Proofs.Ythacnbeckhdhiaa
open Go.RowKit Go.Sort

/-- Bytes that lie below a block. -/
def BytesAt (w : World) (B : Nat) (A : Option Addr) (n : Nat) : Prop :=
  ∀ j, j < n → ∃ b off, ∃ x : Nat, A = some ⟨b, off, none⟩ ∧ b < B ∧ x ≤ 255 ∧ w.cell? ⟨b, off + j, none⟩ = some (.int .u8 x)

/-- A cursor in block C. -/
def Cur (w : World) (B C : Nat) : Prop :=
  ∃ (A : Option Addr) (n c i : Nat) (h : Int), w.heap[C]? = some (.cells #[.slice A n c, .int .i64 i, .int .i64 h] 59 (0, 0)) ∧ i ≤ n ∧ n ≤ 1048576 ∧ B ≤ C ∧ BytesAt w B A n

theorem and255 (n : Int) : bits .and .i64 n 255 = n % 256 := by
  have hm : (BitVec.ofInt 64 255).toNat = 2 ^ 8 - 1 := by decide
  have key : (BitVec.ofInt 64 n &&& BitVec.ofInt 64 255).toNat = (n % ((2 ^ 64 : Nat) : Int)).toNat % 2 ^ 8 := by
    rw [BitVec.toNat_and, BitVec.toNat_ofInt, hm, Nat.and_two_pow_sub_one_eq_mod]
  show IntKind.i64.wrap ((BitVec.ofInt 64 n &&& BitVec.ofInt 64 255).toNat : Nat) = n % 256
  rw [key, IntKind.wrap_i64]
  omega

theorem byte_of (n : Int) : ∃ x : Nat, bits .and .i64 n 255 = x ∧ x ≤ 255 := by
  rw [and255]
  exact ⟨(n % 256).toNat, by omega, by omega⟩

theorem BytesAt.keep {w w' : World} {B : Nat} {A : Option Addr} {n : Nat} (h : BytesAt w B A n) (hk : ∀ k, k < B → w'.heap[k]? = w.heap[k]?) : BytesAt w' B A n := by
  intro j hj
  obtain ⟨b, off, x, e, hb, hx, hc⟩ := h j hj
  exact ⟨b, off, x, e, hb, hx, (World.cell?_of_block (w := w) (a := ⟨b, off + j, none⟩) (hk b hb)).trans hc⟩

set_option maxRecDepth 100000 in
set_option maxHeartbeats 1000000 in
theorem l1Byte_any (B C : Nat) (w : World) (hc : Cur w B C) :
    Calls Try.prog 26 #[.pointer (some ⟨C, 0, none⟩)] w fun e w' => ∃ x : Nat, x ≤ 255 ∧ e = .returned (.int .i64 x) ∧ Cur w' B C ∧ w.grownBy w' (some C) := by
  obtain ⟨A, n, c, i, h, hblk, hi, hn, hB, hbytes⟩ := hc
  have hlt0 : C < w.heap.size := (Array.getElem?_eq_some_iff.1 hblk).1
  have d0 : w.cell? ⟨C, 0, none⟩ = some (.slice A n c) := by rw [cell_of_row w C 0 _ _ _ hblk]; rfl
  have d1 : w.cell? ⟨C, 1, none⟩ = some (.int .i64 i) := by rw [cell_of_row w C 1 _ _ _ hblk]; rfl
  have d2 : w.cell? ⟨C, 2, none⟩ = some (.int .i64 h) := by rw [cell_of_row w C 2 _ _ _ hblk]; rfl
  have f1 : w.frozen? ⟨C, 1, none⟩ = false := frozen_of_row w C 1 _ _ hblk
  have f2 : w.frozen? ⟨C, 2, none⟩ = false := frozen_of_row w C 2 _ _ hblk
  go_enter Try.func26, Try.ntmps26
  go_wp2
  have hb1 : w.grownBy (w.setCell ⟨C, 2, none⟩ (.int .i64 (wrap64 (wrap64 (h * 6364136223846793005) + 1442695040888963407)))) (some C) :=
    ⟨rfl, rfl, rfl, by simp, fun k _ hk => heap_setCell_other w ⟨C, 2, none⟩ k _ (fun e => hk (by simp [e]))⟩
  have hblk1 := heap_setCell_same w C 2 _ _ (.int .i64 (wrap64 (wrap64 (h * 6364136223846793005) + 1442695040888963407))) hblk
  generalize wrap64 (wrap64 (h * 6364136223846793005) + 1442695040888963407) = h1 at hb1 hblk1 ⊢
  generalize w.setCell ⟨C, 2, none⟩ (.int .i64 h1) = w1 at hb1 hblk1 ⊢
  have hblk2 : w1.heap[C]? = some (.cells #[.slice A n c, .int .i64 i, .int .i64 h1] 59 (0, 0)) := hblk1
  clear d0 d1 d2 f1 f2 hblk hblk1
  have d0 : w1.cell? ⟨C, 0, none⟩ = some (.slice A n c) := by rw [cell_of_row w1 C 0 _ _ _ hblk2]; rfl
  have d1 : w1.cell? ⟨C, 1, none⟩ = some (.int .i64 i) := by rw [cell_of_row w1 C 1 _ _ _ hblk2]; rfl
  have d2 : w1.cell? ⟨C, 2, none⟩ = some (.int .i64 h1) := by rw [cell_of_row w1 C 2 _ _ _ hblk2]; rfl
  have q2 := fun d os => cell_regrown d2 d os
  have hb0 : Below w1.heap.size w1 w1 := Below.refl _ _
  refine wp_region_quiet_below (by kernel_rfl) (by kernel_rfl) ?_
  repeat (any_goals (first | go_big_quiet_step (fail) | quiet_step (fail)))
  refine wpQuiet_nil ?_
  intro _ hw'
  obtain ⟨⟨dq, osq⟩, hw''⟩ := hw'
  subst hw''
  have hb3 := hb0.trans ((below_regrown w1 dq osq).mono hb0.size)
  generalize grow (redrawn w1 dq) osq = w2 at hb3 ⊢
  clear q2 hb0
  obtain ⟨x, ex, hx⟩ := byte_of (bits BinOp.xor IntKind.i64 (h1 / 34359738368) (h1 / 35184372088832))
  rw [ex]
  clear ex
  have hCl : C < w1.heap.size := (Array.getElem?_eq_some_iff.1 hblk2).1
  have hblk3 : w2.heap[C]? = some (.cells #[.slice A n c, .int .i64 i, .int .i64 h1] 59 (0, 0)) := (hb3.block C hCl).trans hblk2
  have hg3 : w.grownBy w2 (some C) := grownBy_trans hb1 (grown_of_below hb3 _)
  clear hb1 hb3 hblk2 d0 d1 d2 hCl
  have d0 : w2.cell? ⟨C, 0, none⟩ = some (.slice A n c) := by rw [cell_of_row w2 C 0 _ _ _ hblk3]; rfl
  have d1 : w2.cell? ⟨C, 1, none⟩ = some (.int .i64 i) := by rw [cell_of_row w2 C 1 _ _ _ hblk3]; rfl
  have hby2 : BytesAt w2 B A n := hbytes.keep fun k hk => hg3.block k (by omega) (fun e => by injection e with e; omega)
  have q0 := fun d os => cell_regrown d0 d os
  have q1 := fun d os => cell_regrown d1 d os
  have hbz : Below w2.heap.size w2 w2 := Below.refl _ _
  go_wp2
  by_cases hlt : i < n
  · obtain ⟨b1, o1, y, rfl, hb1, hy, hcy⟩ := hby2 i hlt
    refine wp_region_quiet_below (by kernel_rfl) (by kernel_rfl) ?_
    repeat (any_goals (first | go_big_quiet_step (fail) | quiet_step (fail)))
    refine wpQuiet_nil ?_
    intro _ hw'
    obtain ⟨⟨dq, osq⟩, hw''⟩ := hw'
    subst hw''
    have hb6 := hbz.trans ((below_regrown w2 dq osq).mono hbz.size)
    generalize grow (redrawn w2 dq) osq = w3 at hb6 ⊢
    clear q0 q1 hbz
    have hCl : C < w2.heap.size := (Array.getElem?_eq_some_iff.1 hblk3).1
    have hblk4 : w3.heap[C]? = some (.cells #[.slice (some ⟨b1, o1, none⟩) n c, .int .i64 i, .int .i64 h1] 59 (0, 0)) := (hb6.block C hCl).trans hblk3
    have hg4 : w.grownBy w3 (some C) := grownBy_trans hg3 (grown_of_below hb6 _)
    have hby3 : BytesAt w3 B (some ⟨b1, o1, none⟩) n := hby2.keep fun k hk => hb6.block k (by omega)
    have hcy3 : w3.cell? ⟨b1, o1 + i, none⟩ = some (.int .u8 y) := (hb6.cell (p := ⟨b1, o1 + i, none⟩) (by show b1 < _; omega)).trans hcy
    clear hb6 hblk3 hg3 hby2 d0 d1 hbytes hcy
    have d0 : w3.cell? ⟨C, 0, none⟩ = some (.slice (some ⟨b1, o1, none⟩) n c) := by rw [cell_of_row w3 C 0 _ _ _ hblk4]; rfl
    have d1 : w3.cell? ⟨C, 1, none⟩ = some (.int .i64 i) := by rw [cell_of_row w3 C 1 _ _ _ hblk4]; rfl
    have q0 := fun d os => cell_regrown d0 d os
    have q1 := fun d os => cell_regrown d1 d os
    have qb := fun d os => cell_regrown hcy3 d os
    have hbz2 : Below w3.heap.size w3 w3 := Below.refl _ _
    clear hcy3
    go_wp2
    refine wp_region_quiet_below (by kernel_rfl) (by kernel_rfl) ?_
    repeat (any_goals (first | go_big_quiet_step (fail) | quiet_step (fail)))
    refine wpQuiet_nil ?_
    intro _ hw'
    obtain ⟨⟨dq, osq⟩, hw''⟩ := hw'
    subst hw''
    have hb7 := hbz2.trans ((below_regrown w3 dq osq).mono hbz2.size)
    generalize grow (redrawn w3 dq) osq = w4 at hb7 ⊢
    clear q0 q1 qb hbz2
    have hCl4 : C < w3.heap.size := (Array.getElem?_eq_some_iff.1 hblk4).1
    have hblk5 : w4.heap[C]? = some (.cells #[.slice (some ⟨b1, o1, none⟩) n c, .int .i64 i, .int .i64 h1] 59 (0, 0)) := (hb7.block C hCl4).trans hblk4
    have hg5 : w.grownBy w4 (some C) := grownBy_trans hg4 (grown_of_below hb7 _)
    have hby4 : BytesAt w4 B (some ⟨b1, o1, none⟩) n := hby3.keep fun k hk => hb7.block k (by omega)
    clear hb7 hblk4 hg4 hby3 d0 d1
    have d1 : w4.cell? ⟨C, 1, none⟩ = some (.int .i64 i) := by rw [cell_of_row w4 C 1 _ _ _ hblk5]; rfl
    have f1 : w4.frozen? ⟨C, 1, none⟩ = false := frozen_of_row w4 C 1 _ _ hblk5
    have hst := heap_setCell_same w4 C 1 _ _ (.int .i64 ((i : Int) + 1)) hblk5
    have hg6 : w.grownBy (w4.setCell ⟨C, 1, none⟩ (.int .i64 ((i : Int) + 1))) (some C) := grownBy_trans hg5
      ⟨rfl, rfl, rfl, by simp, fun k _ hk => heap_setCell_other w4 ⟨C, 1, none⟩ k _ (fun e => hk (by simp [e]))⟩
    have hby5 : BytesAt (w4.setCell ⟨C, 1, none⟩ (.int .i64 ((i : Int) + 1))) B (some ⟨b1, o1, none⟩) n := hby4.keep fun k hk => heap_setCell_other w4 ⟨C, 1, none⟩ k _ (fun e => by have : k = C := e; omega)
    have hpost : Cur (w4.setCell ⟨C, 1, none⟩ (.int .i64 ((i : Int) + 1))) B C := ⟨some ⟨b1, o1, none⟩, n, c, i + 1, h1, hst, hlt, hn, hB, hby5⟩
    obtain ⟨x2, ex2, hx2⟩ := byte_of ((x : Int) + (y : Int))
    clear hst hg5 hby4 hby5 hblk5
    go_wp2
    rw [ex2]
    go_ret
    exact ⟨x2, hx2, rfl, hpost, hg6⟩
  · have hge : n ≤ i := by omega
    refine wp_region_quiet_below (by kernel_rfl) (by kernel_rfl) ?_
    repeat (any_goals (first | go_big_quiet_step (fail) | quiet_step (fail)))
    refine wpQuiet_nil ?_
    intro _ hw'
    obtain ⟨⟨dq, osq⟩, hw''⟩ := hw'
    subst hw''
    have hb6 := hbz.trans ((below_regrown w2 dq osq).mono hbz.size)
    generalize grow (redrawn w2 dq) osq = w3 at hb6 ⊢
    clear q0 q1 hbz
    have hCl : C < w2.heap.size := (Array.getElem?_eq_some_iff.1 hblk3).1
    have hblk4 : w3.heap[C]? = some (.cells #[.slice A n c, .int .i64 i, .int .i64 h1] 59 (0, 0)) := (hb6.block C hCl).trans hblk3
    have hg4 : w.grownBy w3 (some C) := grownBy_trans hg3 (grown_of_below hb6 _)
    have hby3 : BytesAt w3 B A n := hby2.keep fun k hk => hb6.block k (by omega)
    have hpost : Cur w3 B C := ⟨A, n, c, i, h1, hblk4, hi, hn, hB, hby3⟩
    clear hb6 hblk3 hblk4 hg3 hby2 hby3 d0 d1 hbytes
    go_wp2
    go_ret
    exact ⟨x, hx, rfl, hpost, hg4⟩

/-- Cursors go on. -/
def Drew (B C : Nat) (w w' : World) : Prop := Cur w' B C ∧ w.grownBy w' (some C)

set_option maxRecDepth 100000 in
set_option maxHeartbeats 1000000 in
theorem l1Below_any (B C : Nat) (n : Nat) (w : World) (hc : Cur w B C) (h0 : 0 < n) (h1 : n ≤ 256) :
    Calls Try.prog 16 #[.pointer (some ⟨C, 0, none⟩), .int .i64 n] w fun e w' => ∃ x : Nat, x < n ∧ e = .returned (.int .i64 x) ∧ Drew B C w w' := by
  have hb := l1Byte_any B C w hc
  clear hc
  go_enter Try.func16, Try.ntmps16
  go_wp2_with fail
  refine hb.mono ?_
  rintro e w1 ⟨x, hx, rfl, hc1, hg1⟩
  have hr : Hid (((x : Int) % (n : Int)) = ((x % n : Nat) : Int)) := by show ((x : Int) % (n : Int)) = ((x % n : Nat) : Int); omega
  have hm := Nat.mod_lt x h0
  clear hb
  go_wp2
  go_ret
  exact ⟨x % n, hm, int_end hr.out, hc1, hg1⟩

theorem Cur.keep {w w' : World} {B C : Nat} (h : Cur w B C) (hk : ∀ k, k < w.heap.size → w'.heap[k]? = w.heap[k]?) : Cur w' B C := by
  obtain ⟨A, n, c, i, h1, hblk, hi, hn, hB, hby⟩ := h
  have hC : C < w.heap.size := (Array.getElem?_eq_some_iff.1 hblk).1
  exact ⟨A, n, c, i, h1, (hk C hC).trans hblk, hi, hn, hB, hby.keep fun k hk' => hk k (by omega)⟩

theorem Cur.alloc {w : World} {B C : Nat} (h : Cur w B C) (o : Obj) : Cur (w.alloc o) B C := h.keep fun k hk => Below.heap_alloc w o k hk

theorem Cur.lt {w : World} {B C : Nat} (h : Cur w B C) : C < w.heap.size := by
  obtain ⟨A, n, c, i, h1, hblk, _⟩ := h
  exact (Array.getElem?_eq_some_iff.1 hblk).1

theorem Drew.alloc {B C : Nat} {a w : World} (h : Drew B C a w) (o : Obj) : Drew B C a (w.alloc o) := ⟨h.1.alloc o, grownBy_trans h.2 (World.grownBy_alloc w o _)⟩
theorem Drew.of {B C : Nat} {w : World} (h : Cur w B C) : Drew B C w w := ⟨h, World.grownBy.refl _ _⟩
theorem Drew.trans {B C : Nat} {a b c : World} (h : Drew B C a b) (k : Drew B C b c) : Drew B C a c := ⟨k.1, grownBy_trans h.2 k.2⟩

theorem l1Below_int (B C : Nat) (n : Int) (w : World) (hc : Cur w B C) (h0 : 0 < n) (h1 : n ≤ 256) :
    Calls Try.prog 16 #[.pointer (some ⟨C, 0, none⟩), .int .i64 n] w fun e w' => ∃ x : Nat, (x : Int) < n ∧ e = .returned (.int .i64 x) ∧ Drew B C w w' := by
  obtain ⟨m, rfl⟩ := Int.eq_ofNat_of_zero_le (show 0 ≤ n by omega)
  refine (l1Below_any B C m w hc (by omega) (by omega)).mono ?_
  rintro e w' ⟨x, hx, he, hd⟩
  exact ⟨x, by omega, he, hd⟩

theorem l1Once_any (B C : Nat) (n : Int) (w : World) (hc : Cur w B C) (h0 : 0 < n) (h1 : n ≤ 256) :
    Calls Try.prog 14 #[.pointer (some ⟨C, 0, none⟩), .int .i64 n] w fun e w' => ∃ b : Bool, e = .returned (.bool b) ∧ Drew B C w w' := by
  have hb := l1Below_int B C n w hc h0 h1
  clear hc
  go_enter Try.func14, Try.ntmps14
  go_wp2_with fail
  refine hb.mono ?_
  rintro e w1 ⟨x, hx, rfl, hd⟩
  clear hb
  go_wp2
  go_ret
  exact ⟨_, rfl, hd⟩

/-- A slice of bytes that came in. -/
def BytesIn (w : World) (A : Option Addr) (n : Nat) : Prop := BytesAt w w.heap.size A n

theorem newCur {A : Option Addr} {n c : Nat} {w : World} (x : Int) (hA : BytesIn w A n) (hn : n ≤ 1048576) :
    Cur (w.alloc (.cells #[.slice A n c, .int .i64 0, .int .i64 x] 59)) w.heap.size w.heap.size :=
  ⟨A, n, c, 0, x, heap_alloc_new w _, Nat.zero_le _, hn, Nat.le_refl _, BytesAt.keep hA fun k hk => Below.heap_alloc w _ k hk⟩

set_option maxRecDepth 100000 in
set_option maxHeartbeats 1000000 in
theorem l1New_any (A : Option Addr) (n c : Nat) (w : World) (hA : BytesIn w A n) (hn : n ≤ 1048576) :
    Calls Try.prog 12 #[.slice A n c] w fun e w' => ∃ C, e = .returned (.pointer (some ⟨C, 0, none⟩)) ∧ Cur w' w.heap.size C ∧ Below w.heap.size w w' := by
  have HA := Lib.hid hA
  clear hA
  go_enter Try.func12, Try.ntmps12
  go_wp2
  go_loop [3, 4] (fun h i => ∃ (k : Nat) (x : Int), k ≤ n ∧ i = .int .i64 k ∧ h = .int .i64 x) (fun _ i => n - (intOf i).toNat)
  case atStart => exact ⟨0, _, Nat.zero_le _, rfl, rfl⟩
  case round =>
    obtain ⟨k, x, hk, rfl, rfl⟩ := hrel
    by_cases hlt : k < n
    · by_cases h4 : k < 4000
      · obtain ⟨b, off, y, rfl, hb, hy, hcy⟩ := HA.out k hlt
        go_wp2
        go_round
        case rel => exact ⟨k + 1, _, by omega, by go_num, rfl⟩
        case measure => simp [intOf]; omega
      · have h5 : 4000 ≤ k := by omega
        have hpost := newCur x HA.out hn (c := c)
        go_wp2
        go_ret
        exact ⟨w.heap.size, rfl, hpost, (Below.refl _ _).alloc (Nat.le_refl _) _⟩
    · have hpost := newCur x HA.out hn (c := c)
      go_wp2
      go_ret
      exact ⟨w.heap.size, rfl, hpost, (Below.refl _ _).alloc (Nat.le_refl _) _⟩

end Go.Proofs.Ythacnbeckhdhiaa
end

section
namespace Go.Proofs.Ythacnbeckhdhiaa
open Go.RowKit Go.Sort


end Go.Proofs.Ythacnbeckhdhiaa
end

section
namespace Go.Proofs.Ythacnbeckhdhiaa
section
open Go.RowKit Go.Sort

def atomB (a : Int) : Bool := decide (0 ≤ a ∧ a ≤ 999)

theorem isAtom_any (a : Int) (w : World) :
    Calls Try.prog 35 #[.int .i64 a] w fun e w' => e = .returned (.bool (atomB a)) ∧ w = w' := by
  by_cases h1 : 0 ≤ a
  · by_cases h2 : a ≤ 999
    · go_enter Try.func35, Try.ntmps35
      go_wp2
      go_ret
      exact ⟨bool_end (by simp [atomB, h1, h2]), rfl⟩
    · have k2 : decide (a ≤ 999) = false := by simpa using h2
      have k3 : 999 < a := by omega
      clear h2
      go_enter Try.func35, Try.ntmps35
      go_wp2
      go_ret
      exact ⟨bool_end (by simp [atomB]; omega), rfl⟩
  · have k1 : a < 0 := by omega
    clear h1
    go_enter Try.func35, Try.ntmps35
    go_wp2
    go_ret
    exact ⟨bool_end (by simp [atomB]; omega), rfl⟩

end

section
open Go.RowKit Go.Sort

/-- What is asked of the pair at a place. -/
def okAt (l : List (Int × Int)) (i : Nat) : Bool :=
  atomB (prAt l i).1 && (atomB (prAt l i).2 && (decide ((prAt l i).1 ≠ (prAt l i).2) && (decide (i = 0) || decide ((prAt l (i - 1)).1 < (prAt l i).1))))

def orderB (l : List (Int × Int)) : Bool := (List.range l.length).all (okAt l)

end
end Go.Proofs.Ythacnbeckhdhiaa
end

section
namespace Go.Proofs.Ythacnbeckhdhiaa
open Go.RowKit Go.Sort

/-- Whether a list has a number. -/
def hasB (l : List Int) (a : Int) : Bool := l.contains a

end Go.Proofs.Ythacnbeckhdhiaa
end

section
namespace Go.Proofs.Ythacnbeckhdhiaa
open Go.RowKit Go.Sort

def froms (l : List (Int × Int)) : List Int := l.map (·.1)
def tos (l : List (Int × Int)) : List Int := l.map (·.2)

def goodAt (l : List (Int × Int)) (k : Nat) : Bool := (froms l).contains (prAt l k).2 && !((tos l).take k).contains (prAt l k).2

/-- Whether a list of pairs is a permutation. -/
def permB (l : List (Int × Int)) : Bool := decide (l.length ≤ 40) && (orderB l && (List.range l.length).all (goodAt l))

end Go.Proofs.Ythacnbeckhdhiaa
end

section
namespace Go.Proofs.Ythacnbeckhdhiaa
open Go.RowKit Go.Sort

end Go.Proofs.Ythacnbeckhdhiaa
end

section
namespace Go.Proofs.Ythacnbeckhdhiaa
open Go.RowKit Go.Sort

theorem int_infoM : (Try.prog.info? 3).map (fun i => (i.zero, i.size, i.bytes)) = some (some (.int .i64 0), 1, 8) := by kernel_rfl

theorem int_one (x : Int) : ∀ u ∈ [Value.int .i64 x], u.oneCell' = true := by
  intro u hu
  simp at hu
  subst hu
  rfl

theorem one_cell {w : World} {g : Nat} {u : Value} (h : w.cell? ⟨g, 0, none⟩ = some u) : ∀ j x, [u][j]? = some x → w.cell? ((⟨g, 0, none⟩ : Addr).add j) = some x := by
  intro j x hj
  cases j with
  | zero => simp at hj; subst hj; simpa [Addr.add] using h
  | succ j => simp at hj

end Go.Proofs.Ythacnbeckhdhiaa
end

section
namespace Go.Proofs.Ythacnbeckhdhiaa
open Go.RowKit Go.Sort

/-- A number is put into an ascending list, if it is not there. -/
def insL : List Int → Int → List Int
  | [], n => [n]
  | x :: r, n => if n < x then n :: x :: r else if n = x then x :: r else x :: insL r n

def AscP (l : List Int) : Prop := l.Pairwise (· < ·)

theorem mem_insL : ∀ (l : List Int) (n a : Int), a ∈ insL l n ↔ a = n ∨ a ∈ l
  | [], n, a => by simp [insL]
  | x :: r, n, a => by
    unfold insL
    split
    · simp
    · split
      · rename_i h; subst h; simp
      · simp only [List.mem_cons, mem_insL r n a]
        constructor
        · rintro (h | h | h)
          · exact .inr (.inl h)
          · exact .inl h
          · exact .inr (.inr h)
        · rintro (h | h | h)
          · exact .inr (.inl h)
          · exact .inl h
          · exact .inr (.inr h)

theorem asc_insL : ∀ (l : List Int) (n : Int), AscP l → AscP (insL l n)
  | [], n, _ => by simp [insL, AscP]
  | x :: r, n, h => by
    unfold AscP at h
    rw [List.pairwise_cons] at h
    unfold insL
    split
    · rename_i h1
      unfold AscP
      rw [List.pairwise_cons, List.pairwise_cons]
      refine ⟨fun a ha => ?_, h.1, h.2⟩
      rcases List.mem_cons.1 ha with e | e
      · rw [e]; exact h1
      · have := h.1 a e; omega
    · split
      · unfold AscP; rw [List.pairwise_cons]; exact h
      · rename_i h1 h2
        unfold AscP
        rw [List.pairwise_cons]
        refine ⟨fun a ha => ?_, asc_insL r n h.2⟩
        rcases (mem_insL r n a).1 ha with e | e
        · rw [e]; omega
        · exact h.1 a e

/-- Several numbers are put into an ascending list. -/
def insAll (acc xs : List Int) : List Int := xs.foldl insL acc

theorem asc_insAll (acc xs : List Int) (h : AscP acc) : AscP (insAll acc xs) := by
  unfold insAll
  induction xs generalizing acc with
  | nil => exact h
  | cons x r ih => exact ih _ (asc_insL acc x h)

theorem mem_insAll (acc xs : List Int) (a : Int) : a ∈ insAll acc xs ↔ a ∈ acc ∨ a ∈ xs := by
  unfold insAll
  induction xs generalizing acc with
  | nil => simp
  | cons x r ih =>
    rw [List.foldl_cons, ih, mem_insL, List.mem_cons]
    constructor
    · rintro ((h | h) | h)
      · exact .inr (.inl h)
      · exact .inl h
      · exact .inr (.inr h)
    · rintro (h | h | h)
      · exact .inl (.inr h)
      · exact .inl (.inl h)
      · exact .inr h

theorem ints_news {w : World} {a : Addr} {l : List Int} (h : IntsAt w (some a) l) : ∀ j u, (icells l)[j]? = some u → w.cell? (a.add j) = some u := by
  intro j u hj
  have hl : j < l.length := by
    rcases Nat.lt_or_ge j l.length with h1 | h1
    · exact h1
    · rw [List.getElem?_eq_none (by rw [icells_len]; exact h1)] at hj; cases hj
  obtain ⟨b, off, e, _, hc⟩ := h (by omega)
  injection e with e
  subst e
  rw [icells_at l j hl] at hj
  injection hj with hj
  subst hj
  have hadd : (⟨b, off, none⟩ : Addr).add j = ⟨b, off + j, none⟩ := by
    unfold Addr.add
    split
    · rename_i h0; rw [h0]; rfl
    · rfl
  rw [hadd]
  exact hc j hl

theorem icells_one (l : List Int) : ∀ u ∈ icells l, u.oneCell' = true := by
  intro u hu
  simp only [icells, List.mem_map] at hu
  obtain ⟨x, _, rfl⟩ := hu
  rfl

theorem IntsAt.take {w : World} {A : Option Addr} {l : List Int} (h : IntsAt w A l) (k : Nat) : IntsAt w A (l.take k) := by
  intro hp
  rw [List.length_take] at hp
  obtain ⟨b, off, rfl, hlt, hc⟩ := h (by omega)
  refine ⟨b, off, rfl, hlt, fun i hi => ?_⟩
  rw [List.length_take] at hi
  rw [hc i (by omega)]
  have : i < k := by omega
  simp [itAt, this]

theorem IntsAt.drop {w : World} {b off : Nat} {l : List Int} (h : IntsAt w (some ⟨b, off, none⟩) l) (k : Nat) : IntsAt w (some ⟨b, off + k, none⟩) (l.drop k) := by
  intro hp
  rw [List.length_drop] at hp
  obtain ⟨b', off', e, hlt, hc⟩ := h (by omega)
  simp only [Option.some.injEq, Addr.mk.injEq, and_true] at e
  obtain ⟨rfl, rfl⟩ := e
  refine ⟨b, off + k, rfl, hlt, fun i hi => ?_⟩
  rw [List.length_drop] at hi
  rw [Nat.add_assoc, hc (k + i) (by omega)]
  simp [itAt]

end Go.Proofs.Ythacnbeckhdhiaa
end

section
namespace Go.Proofs.Ythacnbeckhdhiaa
open Go.RowKit Go.Sort
set_option linter.unusedVariables false

end Go.Proofs.Ythacnbeckhdhiaa
end

section
namespace Go.Proofs.Ythacnbeckhdhiaa
open Go.RowKit Go.Sort
set_option linter.unusedVariables false

namespace DrawN
theorem int_info : (Try.prog.info? 3).map (fun i => (i.zero, i.size, i.bytes)) = some (some (.int .i64 0), 1, 8) := by kernel_rfl
theorem int_one (x : Int) : ∀ u ∈ [Value.int .i64 x], u.oneCell' = true := by
  intro u hu
  simp at hu
  subst hu
  rfl
theorem one_cell {w : World} {g : Nat} {u : Value} (h : w.cell? ⟨g, 0, none⟩ = some u) : ∀ j x, [u][j]? = some x → w.cell? ((⟨g, 0, none⟩ : Addr).add j) = some x := by
  intro j x hj
  cases j with
  | zero => simp at hj; subst hj; simpa [Addr.add] using h
  | succ j => simp at hj
theorem cur_base {w : World} {B C : Nat} (h : Cur w B C) : B ≤ C := by obtain ⟨_, _, _, _, _, _, _, _, h, _⟩ := h; exact h
/-- A row of the call's own, and a cursor that has moved; nothing else of the world at the start is turned. -/
def Grow (w0 : World) (B C : Nat) (l : List Int) (v : Value) (w : World) : Prop :=
  w.ownsRow w0.heap.size 3 1 v l.length (icells l) ∧ Drew B C w0 w
theorem ne_cur {w0 w : World} {C n : Nat} {v : Value} {xs : List Value} (hC : C < w0.heap.size) (h : w.ownsRow w0.heap.size 3 1 v n xs) : v.ownBlock ≠ some C := fun e => by
  have := (h.lt C e).1
  omega
theorem drew_grown {w0 w w' : World} {B C : Nat} {row : Option Nat} (hC : C < w0.heap.size) (h : Drew B C w0 w) (hg : w.grownBy w' row) (hr : ∀ k, row = some k → w0.heap.size ≤ k) : Drew B C w0 w' := by
  obtain ⟨hc, h2⟩ := h
  have hCl : C < w.heap.size := hc.lt
  have hBC := cur_base hc
  obtain ⟨A, n, c, i, x, hblk, hi, hn, hB, hby⟩ := hc
  have hne : some C ≠ row := fun e => by have := hr C e.symm; omega
  refine ⟨⟨A, n, c, i, x, (hg.block C hCl hne).trans hblk, hi, hn, hB, hby.keep fun k hk => hg.block k (by omega) (fun e => by have := hr k e.symm; omega)⟩, ?_⟩
  refine ⟨hg.os.trans h2.os, hg.tape.trans h2.tape, hg.output.trans h2.output, Nat.le_trans h2.size hg.size, fun k hk hne2 => ?_⟩
  exact (hg.block k (Nat.lt_of_lt_of_le hk h2.size) (fun e => by have := hr k e.symm; omega)).trans (h2.block k hk hne2)
theorem grown_below {w w' : World} (h : Below w.heap.size w w') : w.grownBy w' none := ⟨h.os, h.tape, h.output, h.size, fun k hk _ => h.block k hk⟩
theorem more {w0 w w' : World} {B C : Nat} {l : List Int} {v v' : Value} {x : Int} (hC : C < w0.heap.size) (h : Grow w0 B C l v w) (ho : w'.ownsRow w0.heap.size 3 1 v' (l.length + 1) (icells l ++ [.int .i64 x])) (hg : w.grownBy w' v.ownBlock) : Grow w0 B C (l ++ [x]) v' w' :=
  ⟨by rw [List.length_append, icells_append]; exact ho, drew_grown hC h.2 hg (fun k hk => (h.1.lt k hk).1)⟩
theorem alloc {w0 w : World} {B C : Nat} {l : List Int} {v : Value} (h : Grow w0 B C l v w) (o : Obj) : Grow w0 B C l v (w.alloc o) := ⟨h.1.alloc o, h.2.alloc o⟩
theorem drew {w0 w w' : World} {B C : Nat} {l : List Int} {v : Value} (hC : C < w0.heap.size) (h : Grow w0 B C l v w) (hd : Drew B C w w') : Grow w0 B C l v w' :=
  ⟨h.1.kept hd.2 (.inr (ne_cur hC h.1)), h.2.trans hd⟩
end DrawN

end Go.Proofs.Ythacnbeckhdhiaa
end

section
namespace Go.Proofs.Ythacnbeckhdhiaa
open Go.RowKit Go.Sort
set_option linter.unusedVariables false

namespace NewLo
theorem newCur {A : Option Addr} {n c B : Nat} {w : World} (x : Int) (hA : BytesAt w B A n) (hB : B ≤ w.heap.size) (hn : n ≤ 1048576) :
    Cur (w.alloc (.cells #[.slice A n c, .int .i64 0, .int .i64 x] 59)) B w.heap.size :=
  ⟨A, n, c, 0, x, heap_alloc_new _ _, Nat.zero_le _, hn, hB, hA.keep fun k hk => Below.heap_alloc _ _ _ (by omega)⟩
end NewLo
set_option maxRecDepth 100000 in
set_option maxHeartbeats 2000000 in
theorem l1New_up (A : Option Addr) (n c B : Nat) (w : World) (hA : BytesAt w B A n) (hB : B ≤ w.heap.size) (hn : n ≤ 1048576) :
    Calls Try.prog 12 #[.slice A n c] w fun e w' => ∃ C, e = .returned (.pointer (some ⟨C, 0, none⟩)) ∧ Cur w' B C ∧ Below w.heap.size w w' ∧ w.heap.size ≤ C := by
  have HA := Lib.hid hA
  clear hA
  go_enter Try.func12, Try.ntmps12
  go_wp2
  go_loop [3, 4] (fun h i => ∃ (k : Nat) (x : Int), k ≤ n ∧ i = .int .i64 k ∧ h = .int .i64 x) (fun _ i => n - (intOf i).toNat)
  case atStart => exact ⟨0, _, Nat.zero_le _, rfl, rfl⟩
  case round =>
    obtain ⟨k, x, hk, rfl, rfl⟩ := hrel
    by_cases hlt : k < n
    · by_cases h4 : k < 4000
      · obtain ⟨b, off, y, rfl, hb, hy, hcy⟩ := HA.out k hlt
        go_wp2
        go_round
        case rel => exact ⟨k + 1, _, by omega, by go_num, rfl⟩
        case measure => simp [intOf]; omega
      · have h5 : 4000 ≤ k := by omega
        have hpost := NewLo.newCur x HA.out hB hn (c := c)
        go_wp2
        go_ret
        exact ⟨w.heap.size, rfl, hpost, (Below.refl _ _).alloc (Nat.le_refl _) _, Nat.le_refl _⟩
    · have hpost := NewLo.newCur x HA.out hB hn (c := c)
      go_wp2
      go_ret
      exact ⟨w.heap.size, rfl, hpost, (Below.refl _ _).alloc (Nat.le_refl _) _, Nat.le_refl _⟩
end Go.Proofs.Ythacnbeckhdhiaa
end

section
namespace Go.Proofs.Ythacnbeckhdhiaa
open Go.RowKit
set_option linter.unusedVariables false

/-- Whether all are atoms. -/
def atomsB (l : List Int) : Bool := l.all atomB
theorem atomsB_no {l : List Int} {k : Nat} (hk : k < l.length) (h : atomB (itAt l k) = false) : atomsB l = false := by
  cases hh : atomsB l with
  | false => rfl
  | true =>
    unfold atomsB at hh
    rw [List.all_eq_true] at hh
    have := hh l[k] (List.getElem_mem hk)
    rw [← itAt_get l k hk, h] at this
    cases this
theorem atomsB_yes {l : List Int} (h : ∀ k, k < l.length → atomB (itAt l k) = true) : atomsB l = true := by
  unfold atomsB
  rw [List.all_eq_true]
  intro a ha
  obtain ⟨k, hk, rfl⟩ := List.getElem_of_mem ha
  rw [← itAt_get l k hk]
  exact h k hk
end Go.Proofs.Ythacnbeckhdhiaa
end

section
namespace Go.Proofs.Ythacnbeckhdhiaa
open Go.RowKit Go.Sort

end Go.Proofs.Ythacnbeckhdhiaa
end

section
namespace Go.Proofs.Ythacnbeckhdhiaa
open Go.RowKit
set_option linter.unusedVariables false

/-- The number that one more atom gets. -/
def newN (k : Int) (p : List Int) : Int := p.foldl (fun m n => max m (n + 1)) k
theorem newN_next {k : Int} {p : List Int} {i : Nat} (h : i < p.length) : newN k (p.take (i + 1)) = max (newN k (p.take i)) (itAt p i + 1) := by
  rw [itake_next h]
  unfold newN
  rw [List.foldl_append]
  rfl
theorem newN_ge (k : Int) (p : List Int) : k ≤ newN k p := by
  unfold newN
  induction p generalizing k with
  | nil => exact Int.le_refl _
  | cons a r ih => rw [List.foldl_cons]; have := ih (max k (a + 1)); omega
theorem newN_snoc (k : Int) (p : List Int) (n : Int) : newN k (p ++ [n]) = max (newN k p) (n + 1) := by
  unfold newN
  rw [List.foldl_append]
  rfl
theorem newN_bound {k B : Int} : ∀ {p : List Int}, k ≤ B → (∀ i, i < p.length → itAt p i < B) → newN k p ≤ B
  | [], h, _ => h
  | a :: r, h, hp => by
    have h0 := hp 0 (by simp)
    have h1 : itAt (a :: r) 0 = a := rfl
    rw [h1] at h0
    show newN (max k (a + 1)) r ≤ B
    exact newN_bound (by omega) fun i hi => hp (i + 1) (by simpa using hi)

def isPatB (k : Int) (p : List Int) : Bool := (List.range p.length).all fun i => decide (0 ≤ itAt p i) && decide (itAt p i ≤ newN k (p.take i))
theorem isPat_yes {k : Int} {p : List Int} (h : ∀ i, i < p.length → 0 ≤ itAt p i ∧ itAt p i ≤ newN k (p.take i)) : isPatB k p = true := by
  unfold isPatB
  rw [List.all_eq_true]
  intro i hi
  simp only [Bool.and_eq_true, decide_eq_true_eq]
  exact h i (List.mem_range.1 hi)
theorem isPat_at {k : Int} {p : List Int} (h : isPatB k p = true) {i : Nat} (hi : i < p.length) : 0 ≤ itAt p i ∧ itAt p i ≤ newN k (p.take i) := by
  unfold isPatB at h
  rw [List.all_eq_true] at h
  have := h i (List.mem_range.2 hi)
  simpa only [Bool.and_eq_true, decide_eq_true_eq] using this
theorem newN_le {k : Int} {p : List Int} : ∀ {i : Nat}, i ≤ p.length → (∀ j, j < i → itAt p j ≤ newN k (p.take j)) → newN k (p.take i) ≤ k + i
  | 0, _, _ => by simp [newN]
  | i + 1, hi, h => by
    rw [newN_next (by omega)]
    have h1 := newN_le (i := i) (by omega) fun j hj => h j (by omega)
    have h2 := h i (by omega)
    omega
theorem newN_pat {k : Int} {p : List Int} (h : isPatB k p = true) : newN k p ≤ k + p.length := by
  have := newN_le (k := k) (p := p) (i := p.length) (Nat.le_refl _) fun j hj => (isPat_at h hj).2
  rwa [List.take_length] at this

theorem itAt_snoc_lt {p : List Int} {n : Int} {i : Nat} (h : i < p.length) : itAt (p ++ [n]) i = itAt p i := by
  rw [itAt_get _ _ (by simp; omega), itAt_get _ _ h, List.getElem_append_left h]
theorem itAt_snoc_eq (p : List Int) (n : Int) : itAt (p ++ [n]) p.length = n := by
  rw [itAt_get _ _ (by simp), List.getElem_append_right (Nat.le_refl _)]
  simp
theorem isPat_snoc {k : Int} {p : List Int} {n : Int} : isPatB k (p ++ [n]) = true ↔ isPatB k p = true ∧ 0 ≤ n ∧ n ≤ newN k p := by
  constructor
  · intro h
    refine ⟨isPat_yes fun i hi => ?_, ?_⟩
    · have h1 := isPat_at h (i := i) (by simp; omega)
      rw [itAt_snoc_lt hi, List.take_append_of_le_length (by omega)] at h1
      exact h1
    · have h1 := isPat_at h (i := p.length) (by simp)
      rw [itAt_snoc_eq, List.take_append_of_le_length (Nat.le_refl _), List.take_length] at h1
      exact h1
  · rintro ⟨h, h0, h1⟩
    refine isPat_yes fun i hi => ?_
    rcases Nat.lt_or_ge i p.length with h2 | h2
    · rw [itAt_snoc_lt h2, List.take_append_of_le_length (by omega)]
      exact isPat_at h h2
    · have e : i = p.length := by simp at hi; omega
      subst e
      rw [itAt_snoc_eq, List.take_append_of_le_length (Nat.le_refl _), List.take_length]
      exact ⟨h0, h1⟩

/-- The patterns that go on from one. -/
def extP (k : Int) (p : List Int) : List (List Int) := (List.range (newN k p + 1).toNat).map fun n : Nat => p ++ [(n : Int)]
/-- All patterns of a width. -/
def allP : Nat → Int → List (List Int)
  | 0, _ => [[]]
  | w + 1, k => (allP w k).flatMap (extP k)

theorem mem_allP {k : Int} (hk : 0 ≤ k) : ∀ {w : Nat} {p : List Int}, p ∈ allP w k ↔ p.length = w ∧ isPatB k p = true
  | 0, p => by
    rw [allP, List.mem_singleton]
    constructor
    · rintro rfl; exact ⟨rfl, rfl⟩
    · rintro ⟨h, _⟩; exact List.eq_nil_of_length_eq_zero h
  | w + 1, p => by
    rw [allP, List.mem_flatMap]
    constructor
    · rintro ⟨q, hq, hp⟩
      obtain ⟨h1, h2⟩ := (mem_allP hk).1 hq
      unfold extP at hp
      rw [List.mem_map] at hp
      obtain ⟨n, hn, rfl⟩ := hp
      rw [List.mem_range] at hn
      refine ⟨by simp [h1], isPat_snoc.2 ⟨h2, by omega, by omega⟩⟩
    · rintro ⟨h1, h2⟩
      have hne : p ≠ [] := fun e => by rw [e] at h1; simp at h1
      have e := List.dropLast_concat_getLast hne
      rw [← e] at h2
      obtain ⟨h3, h4, h5⟩ := isPat_snoc.1 h2
      refine ⟨p.dropLast, (mem_allP hk).2 ⟨by simp [h1], h3⟩, ?_⟩
      unfold extP
      rw [List.mem_map]
      refine ⟨(p.getLast hne).toNat, List.mem_range.2 (by omega), ?_⟩
      rw [show (((p.getLast hne).toNat : Nat) : Int) = p.getLast hne by omega]
      exact e
theorem extP_len (k : Int) (p : List Int) : (extP k p).length = (newN k p + 1).toNat := by simp [extP]
theorem flat_len {α β : Type} {f : α → List β} {B : Nat} : ∀ {l : List α}, (∀ a ∈ l, (f a).length ≤ B) → (l.flatMap f).length ≤ l.length * B
  | [], _ => by simp
  | a :: r, h => by
    rw [List.flatMap_cons, List.length_append, List.length_cons, Nat.succ_mul]
    have h1 := h a List.mem_cons_self
    have h2 := flat_len (l := r) fun b hb => h b (List.mem_cons_of_mem _ hb)
    omega
theorem allP_len {k : Int} (hk : 0 ≤ k) (hk3 : k ≤ 3) : ∀ {w : Nat}, w ≤ 4 → (allP w k).length ≤ 8 ^ w
  | 0, _ => by simp [allP]
  | w + 1, h => by
    rw [allP, Nat.pow_succ]
    have h1 := allP_len hk hk3 (w := w) (by omega)
    have h2 : ((allP w k).flatMap (extP k)).length ≤ (allP w k).length * 8 := flat_len fun p hp => by
      obtain ⟨h3, h4⟩ := (mem_allP hk).1 hp
      have := newN_pat h4
      rw [extP_len]
      omega
    exact Nat.le_trans h2 (Nat.mul_le_mul_right _ h1)
theorem allP_4096 {k : Int} (hk : 0 ≤ k) (hk3 : k ≤ 3) {w : Nat} (hw : w ≤ 4) : (allP w k).length ≤ 4096 := by
  have h1 := allP_len hk hk3 hw
  have h2 : 8 ^ w ≤ 8 ^ 4 := Nat.pow_le_pow_right (by decide) hw
  omega
theorem allP_row {k : Int} (hk : 0 ≤ k) {w : Nat} {i : Nat} (hi : i < (allP w k).length) : (rwAt (allP w k) i).length = w ∧ isPatB k (rwAt (allP w k) i) = true :=
  (mem_allP hk).1 (by rw [rwAt_get _ _ hi]; exact List.getElem_mem hi)
theorem flat_next {k : Int} {ls : List (List Int)} {j : Nat} (h : j < ls.length) : (ls.take (j + 1)).flatMap (extP k) = (ls.take j).flatMap (extP k) ++ extP k (rwAt ls j) := by
  rw [rw_take_next h, List.flatMap_append]
  simp
theorem flat_take_len {k : Int} (ls : List (List Int)) (j : Nat) : ((ls.take j).flatMap (extP k)).length ≤ (ls.flatMap (extP k)).length := by
  have h : ls.flatMap (extP k) = (ls.take j).flatMap (extP k) ++ (ls.drop j).flatMap (extP k) := by rw [← List.flatMap_append, List.take_append_drop]
  rw [h, List.length_append]
  omega
/-- The first so many that go on from one. -/
def extTo (p : List Int) (n : Nat) : List (List Int) := (List.range n).map fun i : Nat => p ++ [(i : Int)]
theorem extTo_next (p : List Int) (n : Nat) : extTo p (n + 1) = extTo p n ++ [p ++ [(n : Int)]] := by simp [extTo, List.range_succ]
theorem extTo_all (k : Int) (p : List Int) : extTo p (newN k p + 1).toNat = extP k p := rfl
theorem extTo_len (p : List Int) (n : Nat) : (extTo p n).length = n := by simp [extTo]

end Go.Proofs.Ythacnbeckhdhiaa
end

section
namespace Go.Proofs.Ythacnbeckhdhiaa
section
open Go.RowKit

def shapeB (t : Tm) : Bool :=
  if t.op = 1 then atomB t.num && (decide (t.perm.length = 0) && decide (t.kids.length = 0))
  else if t.op = 2 then decide (0 ≤ t.num ∧ t.num ≤ 11) && (decide (t.perm.length = 0) && decide ((t.kids.length : Int) = t.num % 4))
  else if t.op = 3 then atomB t.num && (decide (t.perm.length = 0) && decide (t.kids.length = 1))
  else if t.op = 4 then decide (0 ≤ t.num ∧ t.num ≤ 9) && (permB t.perm && decide (t.kids.length = 0))
  else false

mutual
/-- Right, however great. -/
def goodT : Tm → Bool
  | .mk o n p ks => shapeB (.mk o n p ks) && goodTs ks
def goodTs : List Tm → Bool
  | [] => true
  | t :: r => goodT t && goodTs r
end

end

section
open Go.RowKit

mutual
def nodesT : Tm → List Tm
  | .mk o n p ks => .mk o n p ks :: nodesTs ks
def nodesTs : List Tm → List Tm
  | [] => []
  | t :: r => nodesT t ++ nodesTs r
end

/-- What is known while the terms within t are gone through: i of F have been looked at. -/
structure Walk (t : Tm) (F : List Tm) (i : Nat) : Prop where
  le : i ≤ F.length
  most : F.length ≤ 60
  good : goodT t = goodTs (F.drop i)
  size : szT t = i + szTs (F.drop i)
  mem : ∀ y, y ∈ nodesT t ↔ y ∈ F.take i ∨ y ∈ nodesTs (F.drop i)

end
end Go.Proofs.Ythacnbeckhdhiaa
end

section
namespace Go.Proofs.Ythacnbeckhdhiaa
open Go.RowKit Go.Sort
set_option linter.unusedVariables false

end Go.Proofs.Ythacnbeckhdhiaa
end

section
namespace Go.Proofs.Ythacnbeckhdhiaa
open Go.RowKit Go.Sort

/-- The least atom that is not in a list; -1: there is none. -/
def leastF (l : List Int) : Int := match (List.range 1000).find? (fun a : Nat => !hasB l (a : Int)) with
  | some a => a
  | none => -1

theorem leastF_cases (l : List Int) : (leastF l = -1 ∧ ∀ b : Nat, b < 1000 → hasB l (b : Int) = true) ∨ ∃ a : Nat, a < 1000 ∧ leastF l = a ∧ hasB l (a : Int) = false ∧ ∀ b : Nat, b < a → hasB l (b : Int) = true := by
  rcases h : (List.range 1000).find? (fun a : Nat => !hasB l (a : Int)) with _ | a
  · left
    refine ⟨by unfold leastF; rw [h], fun b hb => ?_⟩
    rw [List.find?_eq_none] at h
    simpa using h b (List.mem_range.2 hb)
  · right
    have h' := h
    rw [List.find?_range_eq_some] at h'
    refine ⟨a, by simpa using h'.2.1, by unfold leastF; rw [h], by simpa using h'.1, fun b hb => by simpa using h'.2.2 b hb⟩

end Go.Proofs.Ythacnbeckhdhiaa
end

section
namespace Go.Proofs.Ythacnbeckhdhiaa
open Go.RowKit Go.Sort

end Go.Proofs.Ythacnbeckhdhiaa
end

section
namespace Go.Proofs.Ythacnbeckhdhiaa
open Go.RowKit Go.Sort

end Go.Proofs.Ythacnbeckhdhiaa
end

