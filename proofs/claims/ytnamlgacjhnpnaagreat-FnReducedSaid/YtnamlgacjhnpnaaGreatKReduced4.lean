/-
  The cursor from which the model draws: what it gives is within its range, as contracts. Numbers that the model draws from a cursor, limits and others: contracts. Comparing numbers, atoms, and finding a pair by its first atom, as contracts. Whether moves are in order, as a contract. Whether a list has a number: in the model, as a contract. Whether a list of pairs is a permutation, as the program decides it: a contract. Whether a list of pairs is a permutation, as the model decides it: a contract; and that both decide alike. The moved atoms of a list of pairs: in the program, as a contract. A number is put into an ascending list, and the atoms of two lists of pairs together: in the model, as contracts. l1Insert of the model at a list in any order, as a contract. Tuples and constants that the model draws from a cursor: contracts. The comparison of two pairs and of two lists of pairs, as contracts. Comparing, numbering and copying lists of integers, as contracts. Constants, tuples and patterns: plain words, no program is walked here.
-/
import Derived.Test.YtnamlgacjhnpnaaGreatKReduced3
import Derived.WalkLawsBesides
import Derived.WalkSpells
import Derived.BigQuiet
import Derived.Lib.QuietBelow
import Derived.Lib.Hide
section
namespace Go.Proofs.YtnamlgacjhnpnaaGreat
open Go.RowKit Go.Sort

/-- Bytes that lie below a block. -/
def BytesAt (w : World) (B : Nat) (A : Option Addr) (n : Nat) : Prop :=
  ∀ j, j < n → ∃ b off, ∃ x : Nat, A = some ⟨b, off, none⟩ ∧ b < B ∧ x ≤ 255 ∧ w.cell? ⟨b, off + j, none⟩ = some (.int .u8 x)

/-- A cursor in block C. -/
def Cur (w : World) (B C : Nat) : Prop :=
  ∃ (A : Option Addr) (n c i : Nat) (h : Int), w.heap[C]? = some (.cells #[.slice A n c, .int .i64 i, .int .i64 h] 93 (0, 0)) ∧ i ≤ n ∧ n ≤ 1048576 ∧ B ≤ C ∧ BytesAt w B A n

theorem and255 (n : Int) : bits .and .i64 n 255 = n % 256 := by
  have hm : (BitVec.ofInt 64 255).toNat = 2 ^ 8 - 1 := by decide
  have key : (BitVec.ofInt 64 n &&& BitVec.ofInt 64 255).toNat = (n % ((2 ^ 64 : Nat) : Int)).toNat % 2 ^ 8 := by
    rw [BitVec.toNat_and, BitVec.toNat_ofInt, hm, Nat.and_two_pow_sub_one_eq_mod]
  show IntKind.i64.wrap ((BitVec.ofInt 64 n &&& BitVec.ofInt 64 255).toNat : Nat) = n % 256
  rw [key, IntKind.wrap_i64]
  omega

theorem byte_of (n : Int) : ∃ x : Nat, bits .and .i64 n 255 = x ∧ x ≤ 255 := by
  rw [and255]
  exact ⟨(n % 256).toNat, by omega, by omega⟩

theorem BytesAt.keep {w w' : World} {B : Nat} {A : Option Addr} {n : Nat} (h : BytesAt w B A n) (hk : ∀ k, k < B → w'.heap[k]? = w.heap[k]?) : BytesAt w' B A n := by
  intro j hj
  obtain ⟨b, off, x, e, hb, hx, hc⟩ := h j hj
  exact ⟨b, off, x, e, hb, hx, (World.cell?_of_block (w := w) (a := ⟨b, off + j, none⟩) (hk b hb)).trans hc⟩

set_option maxRecDepth 100000 in
set_option maxHeartbeats 1000000 in
theorem l1Byte_any (B C : Nat) (w : World) (hc : Cur w B C) :
    Calls Tryz.prog 70 #[.pointer (some ⟨C, 0, none⟩)] w fun e w' => ∃ x : Nat, x ≤ 255 ∧ e = .returned (.int .i64 x) ∧ Cur w' B C ∧ w.grownBy w' (some C) := by
  obtain ⟨A, n, c, i, h, hblk, hi, hn, hB, hbytes⟩ := hc
  have hlt0 : C < w.heap.size := (Array.getElem?_eq_some_iff.1 hblk).1
  have d0 : w.cell? ⟨C, 0, none⟩ = some (.slice A n c) := by rw [cell_of_row w C 0 _ _ _ hblk]; rfl
  have d1 : w.cell? ⟨C, 1, none⟩ = some (.int .i64 i) := by rw [cell_of_row w C 1 _ _ _ hblk]; rfl
  have d2 : w.cell? ⟨C, 2, none⟩ = some (.int .i64 h) := by rw [cell_of_row w C 2 _ _ _ hblk]; rfl
  have f1 : w.frozen? ⟨C, 1, none⟩ = false := frozen_of_row w C 1 _ _ hblk
  have f2 : w.frozen? ⟨C, 2, none⟩ = false := frozen_of_row w C 2 _ _ hblk
  go_enter Tryz.func70, Tryz.ntmps70
  go_wp2
  have hb1 : w.grownBy (w.setCell ⟨C, 2, none⟩ (.int .i64 (wrap64 (wrap64 (h * 6364136223846793005) + 1442695040888963407)))) (some C) :=
    ⟨rfl, rfl, rfl, by simp, fun k _ hk => heap_setCell_other w ⟨C, 2, none⟩ k _ (fun e => hk (by simp [e]))⟩
  have hblk1 := heap_setCell_same w C 2 _ _ (.int .i64 (wrap64 (wrap64 (h * 6364136223846793005) + 1442695040888963407))) hblk
  generalize wrap64 (wrap64 (h * 6364136223846793005) + 1442695040888963407) = h1 at hb1 hblk1 ⊢
  generalize w.setCell ⟨C, 2, none⟩ (.int .i64 h1) = w1 at hb1 hblk1 ⊢
  have hblk2 : w1.heap[C]? = some (.cells #[.slice A n c, .int .i64 i, .int .i64 h1] 93 (0, 0)) := hblk1
  clear d0 d1 d2 f1 f2 hblk hblk1
  have d0 : w1.cell? ⟨C, 0, none⟩ = some (.slice A n c) := by rw [cell_of_row w1 C 0 _ _ _ hblk2]; rfl
  have d1 : w1.cell? ⟨C, 1, none⟩ = some (.int .i64 i) := by rw [cell_of_row w1 C 1 _ _ _ hblk2]; rfl
  have d2 : w1.cell? ⟨C, 2, none⟩ = some (.int .i64 h1) := by rw [cell_of_row w1 C 2 _ _ _ hblk2]; rfl
  have q2 := fun d os => cell_regrown d2 d os
  have hb0 : Below w1.heap.size w1 w1 := Below.refl _ _
  refine wp_region_quiet_below (by kernel_rfl) (by kernel_rfl) ?_
  repeat (any_goals (first | go_big_quiet_step (fail) | quiet_step (fail)))
  refine wpQuiet_nil ?_
  intro _ hw'
  obtain ⟨⟨dq, osq⟩, hw''⟩ := hw'
  subst hw''
  have hb3 := hb0.trans ((below_regrown w1 dq osq).mono hb0.size)
  generalize grow (redrawn w1 dq) osq = w2 at hb3 ⊢
  clear q2 hb0
  obtain ⟨x, ex, hx⟩ := byte_of (bits BinOp.xor IntKind.i64 (h1 / 34359738368) (h1 / 35184372088832))
  rw [ex]
  clear ex
  have hCl : C < w1.heap.size := (Array.getElem?_eq_some_iff.1 hblk2).1
  have hblk3 : w2.heap[C]? = some (.cells #[.slice A n c, .int .i64 i, .int .i64 h1] 93 (0, 0)) := (hb3.block C hCl).trans hblk2
  have hg3 : w.grownBy w2 (some C) := grownBy_trans hb1 (grown_of_below hb3 _)
  clear hb1 hb3 hblk2 d0 d1 d2 hCl
  have d0 : w2.cell? ⟨C, 0, none⟩ = some (.slice A n c) := by rw [cell_of_row w2 C 0 _ _ _ hblk3]; rfl
  have d1 : w2.cell? ⟨C, 1, none⟩ = some (.int .i64 i) := by rw [cell_of_row w2 C 1 _ _ _ hblk3]; rfl
  have hby2 : BytesAt w2 B A n := hbytes.keep fun k hk => hg3.block k (by omega) (fun e => by injection e with e; omega)
  have q0 := fun d os => cell_regrown d0 d os
  have q1 := fun d os => cell_regrown d1 d os
  have hbz : Below w2.heap.size w2 w2 := Below.refl _ _
  go_wp2
  by_cases hlt : i < n
  · obtain ⟨b1, o1, y, rfl, hb1, hy, hcy⟩ := hby2 i hlt
    refine wp_region_quiet_below (by kernel_rfl) (by kernel_rfl) ?_
    repeat (any_goals (first | go_big_quiet_step (fail) | quiet_step (fail)))
    refine wpQuiet_nil ?_
    intro _ hw'
    obtain ⟨⟨dq, osq⟩, hw''⟩ := hw'
    subst hw''
    have hb6 := hbz.trans ((below_regrown w2 dq osq).mono hbz.size)
    generalize grow (redrawn w2 dq) osq = w3 at hb6 ⊢
    clear q0 q1 hbz
    have hCl : C < w2.heap.size := (Array.getElem?_eq_some_iff.1 hblk3).1
    have hblk4 : w3.heap[C]? = some (.cells #[.slice (some ⟨b1, o1, none⟩) n c, .int .i64 i, .int .i64 h1] 93 (0, 0)) := (hb6.block C hCl).trans hblk3
    have hg4 : w.grownBy w3 (some C) := grownBy_trans hg3 (grown_of_below hb6 _)
    have hby3 : BytesAt w3 B (some ⟨b1, o1, none⟩) n := hby2.keep fun k hk => hb6.block k (by omega)
    have hcy3 : w3.cell? ⟨b1, o1 + i, none⟩ = some (.int .u8 y) := (hb6.cell (p := ⟨b1, o1 + i, none⟩) (by show b1 < _; omega)).trans hcy
    clear hb6 hblk3 hg3 hby2 d0 d1 hbytes hcy
    have d0 : w3.cell? ⟨C, 0, none⟩ = some (.slice (some ⟨b1, o1, none⟩) n c) := by rw [cell_of_row w3 C 0 _ _ _ hblk4]; rfl
    have d1 : w3.cell? ⟨C, 1, none⟩ = some (.int .i64 i) := by rw [cell_of_row w3 C 1 _ _ _ hblk4]; rfl
    have q0 := fun d os => cell_regrown d0 d os
    have q1 := fun d os => cell_regrown d1 d os
    have qb := fun d os => cell_regrown hcy3 d os
    have hbz2 : Below w3.heap.size w3 w3 := Below.refl _ _
    clear hcy3
    go_wp2
    refine wp_region_quiet_below (by kernel_rfl) (by kernel_rfl) ?_
    repeat (any_goals (first | go_big_quiet_step (fail) | quiet_step (fail)))
    refine wpQuiet_nil ?_
    intro _ hw'
    obtain ⟨⟨dq, osq⟩, hw''⟩ := hw'
    subst hw''
    have hb7 := hbz2.trans ((below_regrown w3 dq osq).mono hbz2.size)
    generalize grow (redrawn w3 dq) osq = w4 at hb7 ⊢
    clear q0 q1 qb hbz2
    have hCl4 : C < w3.heap.size := (Array.getElem?_eq_some_iff.1 hblk4).1
    have hblk5 : w4.heap[C]? = some (.cells #[.slice (some ⟨b1, o1, none⟩) n c, .int .i64 i, .int .i64 h1] 93 (0, 0)) := (hb7.block C hCl4).trans hblk4
    have hg5 : w.grownBy w4 (some C) := grownBy_trans hg4 (grown_of_below hb7 _)
    have hby4 : BytesAt w4 B (some ⟨b1, o1, none⟩) n := hby3.keep fun k hk => hb7.block k (by omega)
    clear hb7 hblk4 hg4 hby3 d0 d1
    have d1 : w4.cell? ⟨C, 1, none⟩ = some (.int .i64 i) := by rw [cell_of_row w4 C 1 _ _ _ hblk5]; rfl
    have f1 : w4.frozen? ⟨C, 1, none⟩ = false := frozen_of_row w4 C 1 _ _ hblk5
    have hst := heap_setCell_same w4 C 1 _ _ (.int .i64 ((i : Int) + 1)) hblk5
    have hg6 : w.grownBy (w4.setCell ⟨C, 1, none⟩ (.int .i64 ((i : Int) + 1))) (some C) := grownBy_trans hg5
      ⟨rfl, rfl, rfl, by simp, fun k _ hk => heap_setCell_other w4 ⟨C, 1, none⟩ k _ (fun e => hk (by simp [e]))⟩
    have hby5 : BytesAt (w4.setCell ⟨C, 1, none⟩ (.int .i64 ((i : Int) + 1))) B (some ⟨b1, o1, none⟩) n := hby4.keep fun k hk => heap_setCell_other w4 ⟨C, 1, none⟩ k _ (fun e => by have : k = C := e; omega)
    have hpost : Cur (w4.setCell ⟨C, 1, none⟩ (.int .i64 ((i : Int) + 1))) B C := ⟨some ⟨b1, o1, none⟩, n, c, i + 1, h1, hst, hlt, hn, hB, hby5⟩
    obtain ⟨x2, ex2, hx2⟩ := byte_of ((x : Int) + (y : Int))
    clear hst hg5 hby4 hby5 hblk5
    go_wp2
    rw [ex2]
    go_ret
    exact ⟨x2, hx2, rfl, hpost, hg6⟩
  · have hge : n ≤ i := by omega
    refine wp_region_quiet_below (by kernel_rfl) (by kernel_rfl) ?_
    repeat (any_goals (first | go_big_quiet_step (fail) | quiet_step (fail)))
    refine wpQuiet_nil ?_
    intro _ hw'
    obtain ⟨⟨dq, osq⟩, hw''⟩ := hw'
    subst hw''
    have hb6 := hbz.trans ((below_regrown w2 dq osq).mono hbz.size)
    generalize grow (redrawn w2 dq) osq = w3 at hb6 ⊢
    clear q0 q1 hbz
    have hCl : C < w2.heap.size := (Array.getElem?_eq_some_iff.1 hblk3).1
    have hblk4 : w3.heap[C]? = some (.cells #[.slice A n c, .int .i64 i, .int .i64 h1] 93 (0, 0)) := (hb6.block C hCl).trans hblk3
    have hg4 : w.grownBy w3 (some C) := grownBy_trans hg3 (grown_of_below hb6 _)
    have hby3 : BytesAt w3 B A n := hby2.keep fun k hk => hb6.block k (by omega)
    have hpost : Cur w3 B C := ⟨A, n, c, i, h1, hblk4, hi, hn, hB, hby3⟩
    clear hb6 hblk3 hblk4 hg3 hby2 hby3 d0 d1 hbytes
    go_wp2
    go_ret
    exact ⟨x, hx, rfl, hpost, hg4⟩

/-- Cursors go on. -/
def Drew (B C : Nat) (w w' : World) : Prop := Cur w' B C ∧ w.grownBy w' (some C)

set_option maxRecDepth 100000 in
set_option maxHeartbeats 1000000 in
theorem l1Below_any (B C : Nat) (n : Nat) (w : World) (hc : Cur w B C) (h0 : 0 < n) (h1 : n ≤ 256) :
    Calls Tryz.prog 28 #[.pointer (some ⟨C, 0, none⟩), .int .i64 n] w fun e w' => ∃ x : Nat, x < n ∧ e = .returned (.int .i64 x) ∧ Drew B C w w' := by
  have hb := l1Byte_any B C w hc
  clear hc
  go_enter Tryz.func28, Tryz.ntmps28
  go_wp2_with fail
  refine hb.mono ?_
  rintro e w1 ⟨x, hx, rfl, hc1, hg1⟩
  have hr : Hid (((x : Int) % (n : Int)) = ((x % n : Nat) : Int)) := by show ((x : Int) % (n : Int)) = ((x % n : Nat) : Int); omega
  have hm := Nat.mod_lt x h0
  clear hb
  go_wp2
  go_ret
  exact ⟨x % n, hm, int_end hr.out, hc1, hg1⟩

theorem Cur.keep {w w' : World} {B C : Nat} (h : Cur w B C) (hk : ∀ k, k < w.heap.size → w'.heap[k]? = w.heap[k]?) : Cur w' B C := by
  obtain ⟨A, n, c, i, h1, hblk, hi, hn, hB, hby⟩ := h
  have hC : C < w.heap.size := (Array.getElem?_eq_some_iff.1 hblk).1
  exact ⟨A, n, c, i, h1, (hk C hC).trans hblk, hi, hn, hB, hby.keep fun k hk' => hk k (by omega)⟩

theorem Cur.alloc {w : World} {B C : Nat} (h : Cur w B C) (o : Obj) : Cur (w.alloc o) B C := h.keep fun k hk => Below.heap_alloc w o k hk

theorem Cur.lt {w : World} {B C : Nat} (h : Cur w B C) : C < w.heap.size := by
  obtain ⟨A, n, c, i, h1, hblk, _⟩ := h
  exact (Array.getElem?_eq_some_iff.1 hblk).1

theorem Drew.alloc {B C : Nat} {a w : World} (h : Drew B C a w) (o : Obj) : Drew B C a (w.alloc o) := ⟨h.1.alloc o, grownBy_trans h.2 (World.grownBy_alloc w o _)⟩
theorem Drew.of {B C : Nat} {w : World} (h : Cur w B C) : Drew B C w w := ⟨h, World.grownBy.refl _ _⟩
theorem Drew.trans {B C : Nat} {a b c : World} (h : Drew B C a b) (k : Drew B C b c) : Drew B C a c := ⟨k.1, grownBy_trans h.2 k.2⟩

theorem l1Below_int (B C : Nat) (n : Int) (w : World) (hc : Cur w B C) (h0 : 0 < n) (h1 : n ≤ 256) :
    Calls Tryz.prog 28 #[.pointer (some ⟨C, 0, none⟩), .int .i64 n] w fun e w' => ∃ x : Nat, (x : Int) < n ∧ e = .returned (.int .i64 x) ∧ Drew B C w w' := by
  obtain ⟨m, rfl⟩ := Int.eq_ofNat_of_zero_le (show 0 ≤ n by omega)
  refine (l1Below_any B C m w hc (by omega) (by omega)).mono ?_
  rintro e w' ⟨x, hx, he, hd⟩
  exact ⟨x, by omega, he, hd⟩

theorem l1Once_any (B C : Nat) (n : Int) (w : World) (hc : Cur w B C) (h0 : 0 < n) (h1 : n ≤ 256) :
    Calls Tryz.prog 88 #[.pointer (some ⟨C, 0, none⟩), .int .i64 n] w fun e w' => ∃ b : Bool, e = .returned (.bool b) ∧ Drew B C w w' := by
  have hb := l1Below_int B C n w hc h0 h1
  clear hc
  go_enter Tryz.func88, Tryz.ntmps88
  go_wp2_with fail
  refine hb.mono ?_
  rintro e w1 ⟨x, hx, rfl, hd⟩
  clear hb
  go_wp2
  go_ret
  exact ⟨_, rfl, hd⟩

theorem l1Int_any (B C g c : Nat) (l : List Int) (w : World) (hc : Cur w B C) (hl : IntsAt w (some ⟨g, 0, none⟩) l) (hg : g ≠ C) (h0 : 0 < l.length) (h1 : l.length ≤ 256) :
    Calls Tryz.prog 100 #[.pointer (some ⟨C, 0, none⟩), .slice (some ⟨g, 0, none⟩) l.length c] w fun e w' => ∃ x : Int, x ∈ l ∧ e = .returned (.int .i64 x) ∧ Drew B C w w' := by
  have hb := l1Below_int B C l.length w hc (by omega) (by omega)
  clear hc
  go_enter Tryz.func100, Tryz.ntmps100
  go_wp2_with fail
  refine hb.mono ?_
  rintro e w1 ⟨x, hx, rfl, hd⟩
  have hx' : x < l.length := by omega
  obtain ⟨b, off, e, hlt, hcell⟩ := hl (by omega)
  simp only [Option.some.injEq, Addr.mk.injEq, and_true] at e
  obtain ⟨rfl, rfl⟩ := e
  have c1 := hcell x hx'
  rw [Nat.zero_add] at c1
  have c2 : w1.cell? ⟨g, x, none⟩ = some (.int .i64 (itAt l x)) := hd.2.cell (a := ⟨g, x, none⟩) c1 (fun e => hg (by injection e))
  have hmem : Hid (itAt l x ∈ l) := by
    show itAt l x ∈ l
    rw [itAt_get l x hx']
    exact List.getElem_mem hx'
  generalize itAt l x = y at c2 hmem
  clear hb hcell c1 hl
  go_wp2
  go_ret
  exact ⟨y, hmem.out, rfl, hd⟩

/-- A new list of numbers in a block. -/
theorem intsAt_new (w : World) (l : List Int) (cs : Array Value) (h : cs.toList = icells l) : IntsAt (w.alloc (.cells cs 3)) (some ⟨w.heap.size, 0, none⟩) l := by
  intro _
  refine ⟨w.heap.size, 0, rfl, by simp, fun i hi => ?_⟩
  rw [Nat.zero_add, cell_of_row _ w.heap.size i cs 3 (0, 0) (heap_alloc_new w _), ← Array.getElem?_toList, h]
  exact icells_at l i hi

/-- A slice of bytes that came in. -/
def BytesIn (w : World) (A : Option Addr) (n : Nat) : Prop := BytesAt w w.heap.size A n

theorem newCur {A : Option Addr} {n c : Nat} {w : World} (x : Int) (hA : BytesIn w A n) (hn : n ≤ 1048576) :
    Cur (w.alloc (.cells #[.slice A n c, .int .i64 0, .int .i64 x] 93)) w.heap.size w.heap.size :=
  ⟨A, n, c, 0, x, heap_alloc_new w _, Nat.zero_le _, hn, Nat.le_refl _, BytesAt.keep hA fun k hk => Below.heap_alloc w _ k hk⟩

set_option maxRecDepth 100000 in
set_option maxHeartbeats 1000000 in
theorem l1New_any (A : Option Addr) (n c : Nat) (w : World) (hA : BytesIn w A n) (hn : n ≤ 1048576) :
    Calls Tryz.prog 27 #[.slice A n c] w fun e w' => ∃ C, e = .returned (.pointer (some ⟨C, 0, none⟩)) ∧ Cur w' w.heap.size C ∧ Below w.heap.size w w' := by
  have HA := Lib.hid hA
  clear hA
  go_enter Tryz.func27, Tryz.ntmps27
  go_wp2
  go_loop [3, 4] (fun h i => ∃ (k : Nat) (x : Int), k ≤ n ∧ i = .int .i64 k ∧ h = .int .i64 x) (fun _ i => n - (intOf i).toNat)
  case atStart => exact ⟨0, _, Nat.zero_le _, rfl, rfl⟩
  case round =>
    obtain ⟨k, x, hk, rfl, rfl⟩ := hrel
    by_cases hlt : k < n
    · by_cases h4 : k < 4000
      · obtain ⟨b, off, y, rfl, hb, hy, hcy⟩ := HA.out k hlt
        go_wp2
        go_round
        case rel => exact ⟨k + 1, _, by omega, by go_num, rfl⟩
        case measure => simp [intOf]; omega
      · have h5 : 4000 ≤ k := by omega
        have hpost := newCur x HA.out hn (c := c)
        go_wp2
        go_ret
        exact ⟨w.heap.size, rfl, hpost, (Below.refl _ _).alloc (Nat.le_refl _) _⟩
    · have hpost := newCur x HA.out hn (c := c)
      go_wp2
      go_ret
      exact ⟨w.heap.size, rfl, hpost, (Below.refl _ _).alloc (Nat.le_refl _) _⟩

end Go.Proofs.YtnamlgacjhnpnaaGreat
end

section
namespace Go.Proofs.YtnamlgacjhnpnaaGreat
open Go.RowKit Go.Sort


theorem l1Odd_any (B C : Nat) (w : World) (hc : Cur w B C) :
    Calls Tryz.prog 119 #[.pointer (some ⟨C, 0, none⟩)] w fun e w' => ∃ x : Int, e = .returned (.int .i64 x) ∧ Drew B C w w' := by
  have hd2 := (Drew.of hc).alloc (.cells #[.int .i64 (-1), .int .i64 0, .int .i64 1, .int .i64 2, .int .i64 3, .int .i64 7, .int .i64 8, .int .i64 9, .int .i64 15, .int .i64 16, .int .i64 17, .int .i64 63, .int .i64 64, .int .i64 65, .int .i64 999, .int .i64 1000, .int .i64 4096, .int .i64 4097, .int .i64 9223372036854775807, .int .i64 (-9223372036854775808)] 3)
  have hi := l1Int_any B C w.heap.size 20 [(-1), 0, 1, 2, 3, 7, 8, 9, 15, 16, 17, 63, 64, 65, 999, 1000, 4096, 4097, 9223372036854775807, (-9223372036854775808)] _ hd2.1 (intsAt_new w [(-1), 0, 1, 2, 3, 7, 8, 9, 15, 16, 17, 63, 64, 65, 999, 1000, 4096, 4097, 9223372036854775807, (-9223372036854775808)] _ rfl) (by have := hc.lt; omega) (by decide) (by decide)
  clear hc
  go_enter Tryz.func119, Tryz.ntmps119
  go_wp2_with fail
  refine hi.mono ?_
  rintro e w2 ⟨x, _, rfl, hd3⟩
  have hd4 := hd2.trans hd3
  clear hi hd2 hd3
  go_wp2
  go_ret
  exact ⟨x, rfl, hd4⟩

end Go.Proofs.YtnamlgacjhnpnaaGreat
end

section
namespace Go.Proofs.YtnamlgacjhnpnaaGreat
section
open Go.RowKit Go.Sort

/-- Less, the same, greater. -/
def cmpI (a b : Int) : Int := if a < b then -1 else if b < a then 1 else 0

def atomB (a : Int) : Bool := decide (0 ≤ a ∧ a ≤ 999)

theorem isAtom_any (a : Int) (w : World) :
    Calls Tryz.prog 58 #[.int .i64 a] w fun e w' => e = .returned (.bool (atomB a)) ∧ w = w' := by
  by_cases h1 : 0 ≤ a
  · by_cases h2 : a ≤ 999
    · go_enter Tryz.func58, Tryz.ntmps58
      go_wp2
      go_ret
      exact ⟨bool_end (by simp [atomB, h1, h2]), rfl⟩
    · have k2 : decide (a ≤ 999) = false := by simpa using h2
      have k3 : 999 < a := by omega
      clear h2
      go_enter Tryz.func58, Tryz.ntmps58
      go_wp2
      go_ret
      exact ⟨bool_end (by simp [atomB]; omega), rfl⟩
  · have k1 : a < 0 := by omega
    clear h1
    go_enter Tryz.func58, Tryz.ntmps58
    go_wp2
    go_ret
    exact ⟨bool_end (by simp [atomB]; omega), rfl⟩

theorem compare_any (a b : Int) (w : World) :
    Calls Tryz.prog 84 #[.int .i64 a, .int .i64 b] w fun e w' => e = .returned (.int .i64 (cmpI a b)) ∧ w = w' := by
  have na : (a != a) = false := by simp
  have nb : (b != b) = false := by simp
  by_cases h1 : a < b
  · go_enter Tryz.func84, Tryz.ntmps84
    go_wp2
    go_ret
    exact ⟨int_end (by simp [cmpI, h1]), rfl⟩
  · by_cases h2 : b < a
    · go_enter Tryz.func84, Tryz.ntmps84
      go_wp2
      go_ret
      exact ⟨int_end (by simp [cmpI, h1, h2]), rfl⟩
    · go_enter Tryz.func84, Tryz.ntmps84
      go_wp2
      go_ret
      exact ⟨int_end (by unfold cmpI; rw [if_neg (by omega), if_neg (by omega)]), rfl⟩

theorem closure_any (a b t : Int) (w : World) :
    Calls Tryz.prog 112 #[.agg #[.int .i64 a, .int .i64 b], .int .i64 t] w
      fun e w' => e = .returned (.int .i64 (cmpI a t)) ∧ Below w.heap.size w w' := by
  go_enter Tryz.func112, Tryz.ntmps112
  go_wp2_with (go_at_call 84; refine (compare_any _ _ _).mono ?_; rintro e w' ⟨rfl, rfl⟩)
  go_ret
  exact ⟨rfl, (Below.refl _ _).alloc (Nat.le_refl _) _⟩

/-- The first atoms ascend. -/
def Asc (l : List (Int × Int)) : Prop := ∀ i j, i < j → j < l.length → (prAt l i).1 < (prAt l j).1

/-- Place i divides the pairs at t. -/
def Divides (l : List (Int × Int)) (t : Int) (i : Nat) : Prop := i ≤ l.length ∧ (∀ j, j < i → (prAt l j).1 < t) ∧ ∀ j, i ≤ j → j < l.length → t ≤ (prAt l j).1

def foundB (l : List (Int × Int)) (t : Int) (i : Nat) : Bool := decide (i < l.length ∧ (prAt l i).1 = t)

def FindPost (l : List (Int × Int)) (t : Int) (w : World) (e : Ending) (w' : World) : Prop :=
  ∃ i : Nat, e = .returned (.tuple #[.int .i64 i, .bool (foundB l t i)]) ∧ Divides l t i ∧ Below w.heap.size w w'

theorem divides_up {l : List (Int × Int)} {t : Int} {a b m : Nat} (hasc : Asc l) (h : (∀ q, q < a → (prAt l q).1 < t) ∧ ∀ q, b ≤ q → q < l.length → t ≤ (prAt l q).1) (hm : m < l.length) (ht : (prAt l m).1 < t) :
    (∀ q, q < m + 1 → (prAt l q).1 < t) ∧ ∀ q, b ≤ q → q < l.length → t ≤ (prAt l q).1 := by
  refine ⟨fun q hq => ?_, h.2⟩
  by_cases e : q = m
  · rw [e]; exact ht
  · have := hasc q m (by omega) hm; omega

theorem divides_down {l : List (Int × Int)} {t : Int} {a b m : Nat} (hasc : Asc l) (h : (∀ q, q < a → (prAt l q).1 < t) ∧ ∀ q, b ≤ q → q < l.length → t ≤ (prAt l q).1) (ht : ¬ (prAt l m).1 < t) :
    (∀ q, q < a → (prAt l q).1 < t) ∧ ∀ q, m ≤ q → q < l.length → t ≤ (prAt l q).1 := by
  refine ⟨h.1, fun q hq hl => ?_⟩
  by_cases e : q = m
  · rw [e]; omega
  · have := hasc m q (by omega) hl; omega

set_option maxRecDepth 100000 in
set_option maxHeartbeats 1000000 in
theorem search_any (A : Option Addr) (c : Nat) (l : List (Int × Int)) (t : Int) (w : World) (hA : PairsAt w A l) (hl : l.length ≤ 1099511627776) (hasc : Asc l) :
    Calls Tryz.prog 111 #[.slice A l.length c, .int .i64 t, .func (.func 112) #[] #[]] w (FindPost l t w) := by
  have HA := Lib.hid hasc
  clear hasc
  go_enter Tryz.func111, Tryz.ntmps111
  go_wp2
  go_loopw [9, 10, 11] (fun i j h wr => ∃ (a b : Nat), a ≤ b ∧ b ≤ l.length ∧ i = .int .i64 a ∧ j = .int .i64 b ∧ Hid ((∀ q, q < a → (prAt l q).1 < t) ∧ ∀ q, b ≤ q → q < l.length → t ≤ (prAt l q).1) ∧ Below w.heap.size w wr) (fun i j _ _ => (intOf j).toNat - (intOf i).toNat)
  case atStart => exact ⟨0, l.length, Nat.zero_le _, Nat.le_refl _, rfl, rfl, ⟨fun q h => absurd h (by omega), fun q h1 h2 => absurd h1 (by omega)⟩, Below.refl _ _⟩
  case round =>
    obtain ⟨a, b, hab, hbl, rfl, rfl, hq, hb⟩ := hrel
    by_cases hlt : a < b
    · have hm : (a + b) / 2 < l.length := by omega
      obtain ⟨b1, o1, rfl, hb1, hc1⟩ := hA (by omega)
      obtain ⟨c1, c2⟩ := hc1 ((a + b) / 2) hm
      rw [← hb.cell (p := ⟨b1, _, none⟩) hb1] at c1 c2
      clear hc1 hA
      have hcl := closure_any (prAt l ((a + b) / 2)).1 (prAt l ((a + b) / 2)).2 t wr
      by_cases ht : (prAt l ((a + b) / 2)).1 < t
      · have HQ : Hid _ := divides_up HA.out hq.out hm ht
        have k1 : cmpI (prAt l ((a + b) / 2)).1 t = -1 := by simp [cmpI, ht]
        rw [k1] at hcl
        generalize prAt l ((a + b) / 2) = pr at c1 c2 hcl
        clear ht k1 hq
        go_wp2_with (go_at_call 112; refine hcl.mono ?_; rintro e w2 ⟨rfl, hb2⟩; have hb3 := hb.trans (hb2.mono hb.size))
        refine ⟨⟨(a + b) / 2 + 1, b, by omega, hbl, by go_num, rfl, HQ, hb3⟩, ?_⟩
        simp only [intOf]
        omega
      · have HQ : Hid _ := divides_down HA.out hq.out ht
        have k1 : 0 ≤ cmpI (prAt l ((a + b) / 2)).1 t := by unfold cmpI; split; omega; split <;> omega
        generalize prAt l ((a + b) / 2) = pr at c1 c2 hcl k1
        generalize cmpI pr.1 t = z at hcl k1
        clear ht hq
        go_wp2_with (go_at_call 112; refine hcl.mono ?_; rintro e w2 ⟨rfl, hb2⟩; have hb3 := hb.trans (hb2.mono hb.size))
        refine ⟨⟨a, (a + b) / 2, by omega, by omega, rfl, by go_num, HQ, hb3⟩, ?_⟩
        simp only [intOf]
        omega
    · have hba : b ≤ a := by omega
      have hd : Divides l t a := ⟨by omega, hq.out.1, fun q h1 h2 => hq.out.2 q (by omega) h2⟩
      have HD := Lib.hid hd
      clear hd hq
      by_cases hn : a < l.length
      · obtain ⟨b1, o1, rfl, hb1, hc1⟩ := hA (by omega)
        obtain ⟨c1, c2⟩ := hc1 a hn
        rw [← hb.cell (p := ⟨b1, _, none⟩) hb1] at c1 c2
        clear hc1 hA
        have hcl := closure_any (prAt l a).1 (prAt l a).2 t wr
        by_cases he : (prAt l a).1 = t
        · have hf : foundB l t a = true := by simp [foundB, hn, he]
          have k1 : cmpI (prAt l a).1 t = 0 := by simp [cmpI, he]
          have HF := Lib.hid hf
          rw [k1] at hcl
          generalize prAt l a = pr at c1 c2 hcl
          clear he k1 hf
          go_wp2_with (go_at_call 112; refine hcl.mono ?_; rintro e w2 ⟨rfl, hb2⟩; have hb3 := hb.trans (hb2.mono hb.size))
          go_ret2
          exact ⟨a, by rw [HF.out]; rfl, HD.out, hb3⟩
        · have hf : foundB l t a = false := by simp [foundB, he]
          have k1 : (cmpI (prAt l a).1 t == 0) = false := by
            unfold cmpI
            split
            · rfl
            · split
              · rfl
              · omega
          have HF := Lib.hid hf
          generalize prAt l a = pr at c1 c2 hcl k1
          generalize cmpI pr.1 t = z at hcl k1
          clear he hf
          go_wp2_with (go_at_call 112; refine hcl.mono ?_; rintro e w2 ⟨rfl, hb2⟩; have hb3 := hb.trans (hb2.mono hb.size))
          go_ret2
          exact ⟨a, by rw [HF.out]; rfl, HD.out, hb3⟩
      · have hf : foundB l t a = false := by simp [foundB, hn]
        have HF := Lib.hid hf
        clear hf
        go_wp2
        go_ret2
        exact ⟨a, by rw [HF.out]; rfl, HD.out, hb⟩

theorem placeOf_any (A : Option Addr) (c : Nat) (l : List (Int × Int)) (t : Int) (w : World) (hA : PairsAt w A l) (hl : l.length ≤ 1099511627776) (hasc : Asc l) :
    Calls Tryz.prog 77 #[.slice A l.length c, .int .i64 t] w (FindPost l t w) := by
  have hs := search_any A c l t w hA hl hasc
  clear hasc hA
  go_enter Tryz.func77, Tryz.ntmps77
  go_wp2_with fail
  refine hs.mono ?_
  rintro e w1 ⟨i, rfl, hd, hb⟩
  have HD := Lib.hid hd
  clear hs hd
  go_wp2
  go_ret2
  exact ⟨i, rfl, HD.out, hb⟩
end

section
open Go.RowKit Go.Sort

/-- What is asked of the pair at a place. -/
def okAt (l : List (Int × Int)) (i : Nat) : Bool :=
  atomB (prAt l i).1 && (atomB (prAt l i).2 && (decide ((prAt l i).1 ≠ (prAt l i).2) && (decide (i = 0) || decide ((prAt l (i - 1)).1 < (prAt l i).1))))

def orderB (l : List (Int × Int)) : Bool := (List.range l.length).all (okAt l)

theorem orderB_no {l : List (Int × Int)} {i : Nat} (hi : i < l.length) (h : okAt l i = false) : orderB l = false := by
  unfold orderB
  rw [List.all_eq_false]
  exact ⟨i, List.mem_range.2 hi, by simp [h]⟩

theorem orderB_yes {l : List (Int × Int)} (h : ∀ j, j < l.length → okAt l j = true) : orderB l = true := by
  unfold orderB
  rw [List.all_eq_true]
  exact fun x hx => h x (List.mem_range.1 hx)

theorem all_next {p : Nat → Bool} {k : Nat} (h : ∀ j, j < k → p j = true) (hk : p k = true) : ∀ j, j < k + 1 → p j = true := by
  intro j hj
  by_cases e : j = k
  · rw [e]; exact hk
  · exact h j (by omega)

set_option maxRecDepth 100000 in
set_option maxHeartbeats 2000000 in
theorem inOrder_any (A : Option Addr) (c : Nat) (l : List (Int × Int)) (w : World) (hA : PairsAt w A l) (hl : l.length ≤ 1099511627776) :
    Calls Tryz.prog 76 #[.slice A l.length c] w fun e w' => e = .returned (.bool (orderB l)) ∧ Below w.heap.size w w' := by
  go_enter Tryz.func76, Tryz.ntmps76
  go_wp2
  go_loopw [3, 4, 7] (fun _ _ i wr => ∃ k : Nat, k ≤ l.length ∧ i = .int .i64 k ∧ Hid (∀ j, j < k → okAt l j = true) ∧ Below w.heap.size w wr) (fun _ _ i _ => l.length - (intOf i).toNat)
  case atStart => exact ⟨0, Nat.zero_le _, rfl, fun j hj => absurd hj (by omega), Below.refl _ _⟩
  case round =>
    obtain ⟨k, hk, rfl, hq, hb⟩ := hrel
    by_cases hlt : k < l.length
    · obtain ⟨b1, o1, rfl, hb1, hc1⟩ := hA (by omega)
      obtain ⟨c1, c2⟩ := hc1 k hlt
      rw [← hb.cell (p := ⟨b1, _, none⟩) hb1] at c1 c2
      have hbs := hb.size
      by_cases hbad : (atomB (prAt l k).1 && (atomB (prAt l k).2 && decide ((prAt l k).1 ≠ (prAt l k).2))) = false
      · have hn : Hid (orderB l = false) := orderB_no hlt (by
          unfold okAt
          revert hbad
          cases atomB (prAt l k).1 <;> cases atomB (prAt l k).2 <;> cases decide ((prAt l k).1 ≠ (prAt l k).2) <;> simp)
        have hbW : Below w.heap.size w (wr.alloc (.cells #[.int .i64 (prAt l k).1, .int .i64 (prAt l k).2] 84)) := hb.alloc hb.size _
        generalize prAt l k = p1 at c1 c2 hbad hbW
        clear hq hc1 hA
        by_cases ha1 : atomB p1.1 = true
        · by_cases ha2 : atomB p1.2 = true
          · have ha3 : (p1.1 == p1.2) = true := by revert hbad; rw [ha1, ha2]; simp
            clear hbad
            go_wp2_with (go_at_call 58; refine (isAtom_any _ _).mono ?_; rintro e w' ⟨rfl, rfl⟩)
            go_ret
            exact ⟨bool_end hn.out.symm, hbW⟩
          · have ha2' : atomB p1.2 = false := by simpa using ha2
            clear hbad ha2
            go_wp2_with (go_at_call 58; refine (isAtom_any _ _).mono ?_; rintro e w' ⟨rfl, rfl⟩)
            go_ret
            exact ⟨bool_end hn.out.symm, hbW⟩
        · have ha1' : atomB p1.1 = false := by simpa using ha1
          clear hbad ha1
          go_wp2_with (go_at_call 58; refine (isAtom_any _ _).mono ?_; rintro e w' ⟨rfl, rfl⟩)
          go_ret
          exact ⟨bool_end hn.out.symm, hbW⟩
      · have ha1 : atomB (prAt l k).1 = true := by revert hbad; cases atomB (prAt l k).1 <;> simp
        have ha2 : atomB (prAt l k).2 = true := by revert hbad; cases atomB (prAt l k).2 <;> simp
        have ha3 : ((prAt l k).1 == (prAt l k).2) = false := by revert hbad; rw [ha1, ha2]; simp
        clear hbad
        by_cases hz : k = 0
        · subst hz
          have hn : Hid (∀ q, q < 0 + 1 → okAt l q = true) := all_next hq.out (by simp [okAt, ha1, ha2]; simpa using ha3)
          rw [Nat.zero_mul, Nat.add_zero] at c1 c2
          generalize prAt l 0 = p1 at c1 c2 ha1 ha2 ha3
          clear hq hc1 hA
          go_wp2_with (go_at_call 58; refine (isAtom_any _ _).mono ?_; rintro e w' ⟨rfl, rfl⟩)
          have hbW : Below w.heap.size w (wr.alloc (.cells #[.int .i64 p1.1, .int .i64 p1.2] 84)) := hb.alloc hb.size _
          generalize wr.alloc (.cells #[.int .i64 p1.1, .int .i64 p1.2] 84) = W1 at hbW ⊢
          clear c1 c2
          refine wp_region_quiet_below (by kernel_rfl) (by kernel_rfl) ?_
          repeat (any_goals (first | go_big_quiet_step (fail) | quiet_step (fail)))
          refine wpQuiet_nil ?_
          intro _ hw'
          obtain ⟨⟨dq, osq⟩, hw''⟩ := hw'
          subst hw''
          have hb3 := hbW.trans ((below_regrown W1 dq osq).mono hbW.size)
          generalize grow (redrawn W1 dq) osq = w2 at hb3 ⊢
          clear hbW
          go_wp2
          refine ⟨⟨0 + 1, by omega, by go_num, hn, hb3⟩, ?_⟩
          simp only [intOf]
          omega
        · obtain ⟨j, rfl⟩ : ∃ j, k = j + 1 := ⟨k - 1, by omega⟩
          obtain ⟨c3, _⟩ := hc1 j (by omega)
          rw [← hb.cell (p := ⟨b1, _, none⟩) hb1] at c3
          clear hc1 hA hz
          by_cases hp : (prAt l j).1 < (prAt l (j + 1)).1
          · have hn : Hid (∀ q, q < j + 1 + 1 → okAt l q = true) := all_next hq.out (by simp [okAt, ha1, ha2, hp]; simpa using ha3)
            generalize prAt l (j + 1) = p1 at c1 c2 ha1 ha2 ha3 hp
            generalize (prAt l j).1 = p2 at c3 hp
            clear hq
            go_wp2_with (go_at_call 58; refine (isAtom_any _ _).mono ?_; rintro e w' ⟨rfl, rfl⟩)
            have d0 : (wr.alloc (.cells #[.int .i64 p1.1, .int .i64 p1.2] 84)).cell? ⟨wr.heap.size, 0, none⟩ = some (.int .i64 p1.1) := by simp
            have d3 : (wr.alloc (.cells #[.int .i64 p1.1, .int .i64 p1.2] 84)).cell? ⟨b1, o1 + j * 2, none⟩ = some (.int .i64 p2) := by
              rw [World.cell?_alloc_lt _ _ _ (by show b1 < _; omega)]; exact c3
            have hbW : Below w.heap.size w (wr.alloc (.cells #[.int .i64 p1.1, .int .i64 p1.2] 84)) := hb.alloc hb.size _
            generalize wr.alloc (.cells #[.int .i64 p1.1, .int .i64 p1.2] 84) = W1 at d0 d3 hbW ⊢
            have q0 := fun d os => cell_regrown d0 d os
            have q3 := fun d os => cell_regrown d3 d os
            clear c1 c2 c3 d0 d3
            refine wp_region_quiet_below (by kernel_rfl) (by kernel_rfl) ?_
            repeat (any_goals (first | go_big_quiet_step (fail) | quiet_step (fail)))
            refine wpQuiet_nil ?_
            intro _ hw'
            obtain ⟨⟨dq, osq⟩, hw''⟩ := hw'
            subst hw''
            have hb3 := hbW.trans ((below_regrown W1 dq osq).mono hbW.size)
            generalize grow (redrawn W1 dq) osq = w2 at hb3 ⊢
            clear q0 q3 hbW
            go_wp2
            refine ⟨⟨j + 1 + 1, by omega, by go_num, hn, hb3⟩, ?_⟩
            simp only [intOf]
            omega
          · have hn : Hid (orderB l = false) := orderB_no hlt (by simp [okAt, hp])
            generalize prAt l (j + 1) = p1 at c1 c2 ha1 ha2 ha3 hp
            generalize (prAt l j).1 = p2 at c3 hp
            have hp' : p1.1 ≤ p2 := by omega
            clear hq hp
            go_wp2_with (go_at_call 58; refine (isAtom_any _ _).mono ?_; rintro e w' ⟨rfl, rfl⟩)
            have d0 : (wr.alloc (.cells #[.int .i64 p1.1, .int .i64 p1.2] 84)).cell? ⟨wr.heap.size, 0, none⟩ = some (.int .i64 p1.1) := by simp
            have d3 : (wr.alloc (.cells #[.int .i64 p1.1, .int .i64 p1.2] 84)).cell? ⟨b1, o1 + j * 2, none⟩ = some (.int .i64 p2) := by
              rw [World.cell?_alloc_lt _ _ _ (by show b1 < _; omega)]; exact c3
            have hbW : Below w.heap.size w (wr.alloc (.cells #[.int .i64 p1.1, .int .i64 p1.2] 84)) := hb.alloc hb.size _
            generalize wr.alloc (.cells #[.int .i64 p1.1, .int .i64 p1.2] 84) = W1 at d0 d3 hbW ⊢
            have q0 := fun d os => cell_regrown d0 d os
            have q3 := fun d os => cell_regrown d3 d os
            clear c1 c2 c3 d0 d3
            refine wp_region_quiet_below (by kernel_rfl) (by kernel_rfl) ?_
            repeat (any_goals (first | go_big_quiet_step (fail) | quiet_step (fail)))
            refine wpQuiet_nil ?_
            intro _ hw'
            obtain ⟨⟨dq, osq⟩, hw''⟩ := hw'
            subst hw''
            have hb3 := hbW.trans ((below_regrown W1 dq osq).mono hbW.size)
            generalize grow (redrawn W1 dq) osq = w2 at hb3 ⊢
            clear q0 q3 hbW
            go_wp2
            go_ret
            exact ⟨bool_end hn.out.symm, hb3⟩
    · have hn : Hid (orderB l = true) := orderB_yes fun j hj => hq.out j (by omega)
      clear hq
      go_wp2
      go_ret
      exact ⟨bool_end hn.out.symm, hb⟩
end
end Go.Proofs.YtnamlgacjhnpnaaGreat
end

section
namespace Go.Proofs.YtnamlgacjhnpnaaGreat
open Go.RowKit Go.Sort

/-- Whether a list has a number. -/
def hasB (l : List Int) (a : Int) : Bool := l.contains a

set_option maxHeartbeats 400000 in
theorem l1Has_any (A : Option Addr) (c : Nat) (l : List Int) (a : Int) (w : World) (hA : IntsAt w A l) (hl : l.length ≤ 1099511627776) :
    Calls Tryz.prog 128 #[.slice A l.length c, .int .i64 a] w fun e w' => e = .returned (.bool (hasB l a)) ∧ w = w' := by
  go_enter Tryz.func128, Tryz.ntmps128
  go_wp2
  go_loop [5] (fun i => ∃ k : Nat, k ≤ l.length ∧ i = .int .i64 k ∧ Hid (∀ j, j < k → itAt l j ≠ a)) (fun i => l.length - (intOf i).toNat)
  case atStart => exact ⟨0, Nat.zero_le _, rfl, fun j hj => absurd hj (by omega)⟩
  case round =>
    obtain ⟨k, hk, rfl, hq⟩ := hrel
    by_cases hlt : k < l.length
    · obtain ⟨b1, o1, rfl, hb1, hc1⟩ := hA (by omega)
      have c1 := hc1 k hlt
      clear hc1 hA
      by_cases he : (itAt l k == a) = true
      · have hres : Hid (hasB l a = true) := by
          show hasB l a = true
          unfold hasB
          rw [List.contains_iff_mem]
          have e : itAt l k = a := by simpa using he
          rw [← e, itAt_get l k hlt]
          exact List.getElem_mem hlt
        generalize itAt l k = x at c1 he
        clear hq
        go_wp2
        go_ret
        exact ⟨bool_end hres.out.symm, rfl⟩
      · have he' : (itAt l k == a) = false := by simpa using he
        have hn : Hid (∀ j, j < k + 1 → itAt l j ≠ a) := by
          intro j hj
          by_cases e : j = k
          · rw [e]; simpa using he'
          · exact hq.out j (by omega)
        generalize itAt l k = x at c1 he he'
        clear hq he
        go_wp2
        go_round
        case rel => exact ⟨k + 1, by omega, by go_num, hn⟩
        case measure => simp [intOf]; omega
    · have hres : Hid (hasB l a = false) := by
        show hasB l a = false
        unfold hasB
        rw [← Bool.not_eq_true, List.contains_iff_mem]
        intro hmem
        obtain ⟨j, hj, e⟩ := List.getElem_of_mem hmem
        exact hq.out j (by omega) (by rw [itAt_get l j hj]; exact e)
      clear hq hA
      go_wp2
      go_ret
      exact ⟨bool_end hres.out.symm, rfl⟩

end Go.Proofs.YtnamlgacjhnpnaaGreat
end

section
namespace Go.Proofs.YtnamlgacjhnpnaaGreat
open Go.RowKit Go.Sort

def froms (l : List (Int × Int)) : List Int := l.map (·.1)
def tos (l : List (Int × Int)) : List Int := l.map (·.2)

theorem froms_at (l : List (Int × Int)) (i : Nat) (h : i < l.length) : (froms l)[i]? = some (prAt l i).1 := by
  simp [froms, prAt, h]
theorem tos_at (l : List (Int × Int)) (i : Nat) (h : i < l.length) : (tos l)[i]? = some (prAt l i).2 := by
  simp [tos, prAt, h]

theorem mem_froms {l : List (Int × Int)} {t : Int} : t ∈ froms l ↔ ∃ i, i < l.length ∧ (prAt l i).1 = t := by
  constructor
  · intro h
    obtain ⟨i, hi, e⟩ := List.getElem_of_mem h
    have hl : i < l.length := by simpa [froms] using hi
    refine ⟨i, hl, ?_⟩
    have h1 := froms_at l i hl
    rw [List.getElem?_eq_getElem hi, e] at h1
    injection h1 with h1
    exact h1.symm
  · rintro ⟨i, hi, rfl⟩
    exact List.mem_of_getElem? (froms_at l i hi)

theorem okAt_parts {l : List (Int × Int)} {i : Nat} (h : okAt l i = true) :
    (0 ≤ (prAt l i).1 ∧ (prAt l i).1 ≤ 999) ∧ (0 ≤ (prAt l i).2 ∧ (prAt l i).2 ≤ 999) ∧ (prAt l i).1 ≠ (prAt l i).2 ∧ (i = 0 ∨ (prAt l (i - 1)).1 < (prAt l i).1) := by
  simpa [okAt, atomB] using h

theorem order_at {l : List (Int × Int)} (h : orderB l = true) (i : Nat) (hi : i < l.length) : okAt l i = true := by
  unfold orderB at h
  rw [List.all_eq_true] at h
  exact h i (List.mem_range.2 hi)

theorem asc_of_order {l : List (Int × Int)} (h : orderB l = true) : Asc l := by
  intro i j hij hj
  induction j with
  | zero => omega
  | succ j ih =>
    have h1 := (okAt_parts (order_at h (j + 1) hj)).2.2.2
    rcases h1 with h1 | h1
    · omega
    · have e : j + 1 - 1 = j := by omega
      rw [e] at h1
      by_cases hc : i = j
      · rw [hc]; exact h1
      · have := ih (by omega) (by omega); omega

theorem found_iff {l : List (Int × Int)} {t : Int} {i : Nat} (hasc : Asc l) (hd : Divides l t i) : foundB l t i = (froms l).contains t := by
  rw [Bool.eq_iff_iff]
  simp only [foundB, decide_eq_true_eq, List.contains_iff_mem]
  rw [mem_froms]
  constructor
  · rintro ⟨h1, h2⟩
    exact ⟨i, h1, h2⟩
  · rintro ⟨q, hq, e⟩
    have h1 : i ≤ q := by
      rcases Nat.lt_or_ge q i with h | h
      · have := hd.2.1 q h; omega
      · exact h
    have h2 : i < l.length := by omega
    refine ⟨h2, ?_⟩
    have h3 := hd.2.2 i (Nat.le_refl _) h2
    by_cases hc : i = q
    · rw [hc]; exact e
    · have := hasc i q (by omega) hq; omega

/-- Which atoms of the pairs have been given by the first k. -/
def gBit (l : List (Int × Int)) (k q : Nat) : Bool := decide (q < l.length) && ((tos l).take k).contains (prAt l q).1
def gBits (l : List (Int × Int)) (k : Nat) : List Value := (List.range 40).map fun q => .bool (gBit l k q)

theorem gBits_at (l : List (Int × Int)) (k q : Nat) (h : q < 40) : (gBits l k)[q]? = some (.bool (gBit l k q)) := by
  simp [gBits, List.getElem?_map, List.getElem?_range h]

theorem gBits_set {l : List (Int × Int)} {k i : Nat} (hasc : Asc l) (hk : k < l.length) (hi : i < l.length) (e : (prAt l i).1 = (prAt l k).2) :
    (gBits l k).set i (.bool true) = gBits l (k + 1) := by
  have ht : (tos l).take (k + 1) = (tos l).take k ++ [(prAt l k).2] := by
    have hlt : k < (tos l).length := by simpa [tos] using hk
    rw [List.take_succ_eq_append_getElem hlt]
    have h1 := tos_at l k hk
    rw [List.getElem?_eq_getElem hlt] at h1
    injection h1 with h1
    rw [h1]
  apply List.ext_getElem?
  intro q
  by_cases hq : q < 40
  · rw [gBits_at l (k + 1) q hq, List.getElem?_set]
    by_cases hc : i = q
    · subst hc
      rw [if_pos rfl, if_pos (by simpa [gBits] using hq)]
      simp [gBit, hi, ht, e]
    · rw [if_neg hc, gBits_at l k q hq]
      by_cases hql : q < l.length
      · have hne : (prAt l q).1 ≠ (prAt l k).2 := by
          rw [← e]
          intro h
          rcases Nat.lt_or_gt_of_ne hc with h1 | h1
          · have := hasc i q h1 hql; omega
          · have := hasc q i h1 hi; omega
        simp [gBit, ht, hne]
      · simp [gBit, hql]
  · rw [List.getElem?_eq_none (by simp [gBits]; omega), List.getElem?_eq_none (by simp [gBits]; omega)]

theorem gBits_zero (l : List (Int × Int)) : gBits l 0 = List.replicate 40 (.bool false) := by
  apply List.ext_getElem?
  intro q
  by_cases hq : q < 40
  · rw [gBits_at l 0 q hq, List.getElem?_replicate, if_pos hq]
    simp [gBit]
  · rw [List.getElem?_eq_none (by simp [gBits]; omega), List.getElem?_eq_none (by simp; omega)]

def goodAt (l : List (Int × Int)) (k : Nat) : Bool := (froms l).contains (prAt l k).2 && !((tos l).take k).contains (prAt l k).2

/-- Whether a list of pairs is a permutation. -/
def permB (l : List (Int × Int)) : Bool := decide (l.length ≤ 40) && (orderB l && (List.range l.length).all (goodAt l))

theorem permB_no {l : List (Int × Int)} {i : Nat} (hi : i < l.length) (h : goodAt l i = false) : permB l = false := by
  unfold permB
  have : (List.range l.length).all (goodAt l) = false := by
    rw [List.all_eq_false]
    exact ⟨i, List.mem_range.2 hi, by simp [h]⟩
  rw [this]; simp

theorem permB_yes {l : List (Int × Int)} (h0 : l.length ≤ 40) (h1 : orderB l = true) (h : ∀ j, j < l.length → goodAt l j = true) : permB l = true := by
  unfold permB
  have : (List.range l.length).all (goodAt l) = true := by
    rw [List.all_eq_true]
    exact fun x hx => h x (List.mem_range.1 hx)
  rw [this, h1]; simp [h0]

/-- The block of marks after k pairs. -/
def Marks (w : World) (G : Nat) (l : List (Int × Int)) (k : Nat) : Prop := w.heap[G]? = some (.cells (gBits l k).toArray 96 (0, 0))

theorem Marks.lt {w : World} {G : Nat} {l : List (Int × Int)} {k : Nat} (h : Marks w G l k) : G < w.heap.size := (Array.getElem?_eq_some_iff.1 h).1
theorem Marks.cell {w : World} {G : Nat} {l : List (Int × Int)} {k : Nat} (h : Marks w G l k) (q : Nat) (hq : q < 40) : w.cell? ⟨G, q, none⟩ = some (.bool (gBit l k q)) := by
  rw [cell_of_row w G q _ _ _ h]
  simpa using gBits_at l k q hq
theorem Marks.frozen {w : World} {G : Nat} {l : List (Int × Int)} {k : Nat} (h : Marks w G l k) (q : Nat) : w.frozen? ⟨G, q, none⟩ = false := frozen_of_row w G q _ _ h
theorem Marks.below {w w' : World} {G : Nat} {l : List (Int × Int)} {k : Nat} (h : Marks w G l k) (hb : Below w.heap.size w w') : Marks w' G l k := (hb.block G h.lt).trans h
theorem Marks.alloc {w : World} {G : Nat} {l : List (Int × Int)} {k : Nat} (h : Marks w G l k) (o : Obj) : Marks (w.alloc o) G l k := h.below ((Below.refl _ _).alloc (Nat.le_refl _) o)
theorem Marks.set_ {w : World} {G : Nat} {l : List (Int × Int)} {k i : Nat} (h : Marks w G l k) (hasc : Asc l) (hk : k < l.length) (hi : i < l.length) (e : (prAt l i).1 = (prAt l k).2) :
    Marks (w.setCell ⟨G, i, none⟩ (.bool true)) G l (k + 1) := by
  unfold Marks at h ⊢
  rw [heap_setCell_same w G i _ _ _ h, ← gBits_set hasc hk hi e]
  simp

set_option maxRecDepth 100000 in
set_option maxHeartbeats 2000000 in
theorem isPerm_impl (A : Option Addr) (c : Nat) (l : List (Int × Int)) (w : World) (hA : PairsAt w A l) (hl : l.length ≤ 1099511627776) :
    Calls Tryz.prog 33 #[.slice A l.length c] w fun e w' => e = .returned (.bool (permB l)) ∧ Below w.heap.size w w' := by
  by_cases h40 : l.length ≤ 40
  · have hio := inOrder_any A c l w hA hl
    by_cases ho : orderB l = true
    · rw [ho] at hio
      have hasc := asc_of_order ho
      have HO := Lib.hid ho
      have HA := Lib.hid hasc
      clear ho hasc
      go_enter Tryz.func33, Tryz.ntmps33
      go_wp2_with fail
      refine hio.mono ?_
      rintro e w1 ⟨rfl, hb1⟩
      have k40 : decide (40 < (l.length : Int)) = false := by simp; omega
      clear hio
      go_wp2_with fail
      have hm0 : Marks (w1.alloc (.cells (gBits l 0).toArray 96)) w1.heap.size l 0 := heap_alloc_new w1 _
      rw [gBits_zero] at hm0
      have hb2 : Below w.heap.size w (w1.alloc (.cells (List.replicate 40 (Value.bool false)).toArray 96)) := hb1.alloc hb1.size _
      have e2 : w1.alloc (.cells (List.replicate 40 (Value.bool false)).toArray 96) = w1.alloc (.cells #[.bool false, .bool false, .bool false, .bool false, .bool false, .bool false, .bool false, .bool false, .bool false, .bool false, .bool false, .bool false, .bool false, .bool false, .bool false, .bool false, .bool false, .bool false, .bool false, .bool false, .bool false, .bool false, .bool false, .bool false, .bool false, .bool false, .bool false, .bool false, .bool false, .bool false, .bool false, .bool false, .bool false, .bool false, .bool false, .bool false, .bool false, .bool false, .bool false, .bool false] 96) := rfl
      rw [← e2]
      have hG : w.heap.size ≤ w1.heap.size := hb1.size
      generalize w1.alloc (.cells (List.replicate 40 (Value.bool false)).toArray 96) = w2 at hm0 hb2 ⊢
      clear e2 hb1
      generalize w1.heap.size = G at hm0 hG ⊢
      go_loopw [5, 6, 7, 18] (fun _ _ _ i wr => ∃ k : Nat, k ≤ l.length ∧ i = .int .i64 k ∧ Hid (∀ j, j < k → goodAt l j = true) ∧ Marks wr G l k ∧ Below w.heap.size w wr) (fun _ _ _ i _ => l.length - (intOf i).toNat)
      case atStart => exact ⟨0, Nat.zero_le _, rfl, fun j hj => absurd hj (by omega), hm0, hb2⟩
      case round =>
        clear hm0 hb2
        obtain ⟨k, hk, rfl, hq, hm, hb⟩ := hrel
        by_cases hlt : k < l.length
        · have hA1 := hA.below (w' := wr) (hb)
          obtain ⟨b1, o1, rfl, hb1, hc1⟩ := hA (by omega)
          obtain ⟨c1, c2⟩ := hc1 k hlt
          rw [← hb.cell (p := ⟨b1, _, none⟩) hb1] at c1 c2
          clear hc1 hA
          have hpl := fun W (hW : PairsAt W (some ⟨b1, o1, none⟩) l) => placeOf_any (some ⟨b1, o1, none⟩) c l (prAt l k).2 W hW hl HA.out
          have HG : Hid (goodAt l k = ((froms l).contains (prAt l k).2 && !((tos l).take k).contains (prAt l k).2)) := rfl
          generalize hp : prAt l k = p at c1 c2 hpl HG
          have HP := Lib.hid hp
          clear hp
          have hA2 : PairsAt (wr.alloc (.cells #[.int .i64 p.1, .int .i64 p.2] 84)) (some ⟨b1, o1, none⟩) l := hA1.below ((Below.refl _ _).alloc (Nat.le_refl _) _)
          have hm2 := hm.alloc (.cells #[.int .i64 p.1, .int .i64 p.2] 84)
          have hb2 := hb.alloc hb.size (.cells #[.int .i64 p.1, .int .i64 p.2] 84)
          clear hA1 hm
          go_wp2_with fail
          refine (hpl _ hA2).mono ?_
          rintro e w3 ⟨i, he, hd, hb3⟩
          have hfi := found_iff HA.out hd
          have hfp : foundB l p.2 i = true → i < l.length ∧ (prAt l i).1 = p.2 := fun h => by simpa [foundB] using h
          have hm3 := hm2.below hb3
          have hb4 := hb2.trans (hb3.mono hb2.size)
          clear hpl hA2 hm2 hb2 hb3 hd
          by_cases hfb : (froms l).contains p.2 = true
          · rw [hfb] at hfi
            obtain ⟨hi, hie⟩ := hfp hfi
            rw [hfi] at he
            subst he
            have hc := hm3.cell i (by omega)
            have hfz := hm3.frozen i
            have hgb : gBit l k i = ((tos l).take k).contains p.2 := by simp [gBit, hi, hie]
            have hst := hm3.set_ HA.out hlt hi (by rw [HP.out]; exact hie)
            have hst2 : Below w.heap.size w (w3.setCell ⟨G, i, none⟩ (.bool true)) := hb4.setCell hG _
            by_cases hg : ((tos l).take k).contains p.2 = true
            · have hn : Hid (permB l = false) := permB_no hlt (by rw [HG.out, hg]; simp)
              rw [hgb, hg] at hc
              clear hfp hfi hfb hgb hg hst hst2 hie hm3 hq HG
              go_wp2
              go_ret
              exact ⟨bool_end hn.out.symm, hb4⟩
            · have hg' : ((tos l).take k).contains p.2 = false := by simpa using hg
              have hn : Hid (∀ j, j < k + 1 → goodAt l j = true) := all_next hq.out (by rw [HG.out, hg', hfb]; rfl)
              rw [hgb, hg'] at hc
              clear hfp hfi hfb hgb hg hg' hie hm3 hq HG
              have HS := Lib.hid hst
              clear hst
              go_wp2
              refine ⟨⟨k + 1, by omega, by go_num, hn, HS.out, hst2⟩, ?_⟩
              simp only [intOf]
              omega
          · have hfb' : (froms l).contains p.2 = false := by simpa using hfb
            have hn : Hid (permB l = false) := permB_no hlt (by rw [HG.out, hfb']; rfl)
            rw [hfi, hfb'] at he
            subst he
            clear hfp hfi hfb hfb' hm3 hq HG
            go_wp2
            go_ret
            exact ⟨bool_end hn.out.symm, hb4⟩
        · have hn : Hid (permB l = true) := permB_yes h40 HO.out fun j hj => hq.out j (by omega)
          clear hq hm
          go_wp2
          go_ret
          exact ⟨bool_end hn.out.symm, hb⟩
    · have ho' : orderB l = false := by simpa using ho
      rw [ho'] at hio
      have hf : Hid (permB l = false) := by show permB l = false; unfold permB; rw [ho']; simp
      clear ho ho'
      go_enter Tryz.func33, Tryz.ntmps33
      go_wp2_with fail
      refine hio.mono ?_
      rintro e w1 ⟨rfl, hb1⟩
      go_wp2
      go_ret
      exact ⟨bool_end hf.out.symm, hb1⟩
  · have hf : Hid (permB l = false) := by show permB l = false; unfold permB; simp [h40]
    have h41 : 40 < l.length := by omega
    clear h40 hA
    go_enter Tryz.func33, Tryz.ntmps33
    go_wp2
    go_ret
    exact ⟨bool_end hf.out.symm, Below.refl _ _⟩

end Go.Proofs.YtnamlgacjhnpnaaGreat
end

section
namespace Go.Proofs.YtnamlgacjhnpnaaGreat
open Go.RowKit Go.Sort

theorem l1Atom_any (a : Int) (w : World) :
    Calls Tryz.prog 92 #[.int .i64 a] w fun e w' => e = .returned (.bool (atomB a)) ∧ w = w' := by
  by_cases h1 : 0 ≤ a
  · by_cases h2 : a ≤ 999
    · go_enter Tryz.func92, Tryz.ntmps92
      go_wp2
      go_ret
      exact ⟨bool_end (by simp [atomB, h1, h2]), rfl⟩
    · have k2 : decide (a ≤ 999) = false := by simpa using h2
      have k3 : 999 < a := by omega
      clear h2
      go_enter Tryz.func92, Tryz.ntmps92
      go_wp2
      go_ret
      exact ⟨bool_end (by simp [atomB]; omega), rfl⟩
  · have k1 : a < 0 := by omega
    clear h1
    go_enter Tryz.func92, Tryz.ntmps92
    go_wp2
    go_ret
    exact ⟨bool_end (by simp [atomB]; omega), rfl⟩

theorem all_at {p : Nat → Bool} {n : Nat} (h : (List.range n).all p = true) (i : Nat) (hi : i < n) : p i = true := by
  rw [List.all_eq_true] at h
  exact h i (List.mem_range.2 hi)

/-- The same length, each element of the one without repetition in the other: the same elements. -/
theorem perm_of_subset : ∀ (xs ys : List Int), xs.Nodup → (∀ a, a ∈ xs → a ∈ ys) → ys.length ≤ xs.length → ys.Perm xs
  | [], ys, _, _, hl => by
    have : ys = [] := List.eq_nil_of_length_eq_zero (by simpa using hl)
    rw [this]
  | x :: r, ys, hn, hs, hl => by
    have hx : x ∈ ys := hs x List.mem_cons_self
    rw [List.nodup_cons] at hn
    have h1 : ys.Perm (x :: ys.erase x) := List.perm_cons_erase hx
    have h2 : (ys.erase x).Perm r := by
      refine perm_of_subset r (ys.erase x) hn.2 (fun a ha => ?_) ?_
      · have hne : a ≠ x := fun e => hn.1 (e ▸ ha)
        exact (List.mem_erase_of_ne hne).2 (hs a (List.mem_cons_of_mem _ ha))
      · rw [List.length_erase_of_mem hx]
        simp only [List.length_cons] at hl
        omega
    exact h1.trans (h2.cons x)

theorem nodup_of_get {l : List Int} (h : ∀ (i j : Nat) (a : Int), i < j → l[i]? = some a → l[j]? = some a → False) : l.Nodup := by
  rw [List.Nodup, List.pairwise_iff_getElem]
  intro i j hi hj hij e
  exact h i j l[i] hij (List.getElem?_eq_getElem hi) (by rw [List.getElem?_eq_getElem hj, e])

theorem mem_take_tos {l : List (Int × Int)} {k : Nat} {a : Int} (hk : k ≤ l.length) (h : a ∈ (tos l).take k) : ∃ j, j < k ∧ (prAt l j).2 = a := by
  obtain ⟨j, hj, e⟩ := List.getElem_of_mem h
  have hjk : j < k := by rw [List.length_take] at hj; omega
  refine ⟨j, hjk, ?_⟩
  have h1 := tos_at l j (by omega)
  have h2 : ((tos l).take k)[j]? = some a := by rw [List.getElem?_eq_getElem hj, e]
  rw [List.getElem?_take, if_pos hjk, h1] at h2
  injection h2

theorem take_tos_mem {l : List (Int × Int)} {j k : Nat} (hk : k ≤ l.length) (hj : j < k) : (prAt l j).2 ∈ (tos l).take k := by
  refine List.mem_of_getElem? (i := j) ?_
  rw [List.getElem?_take, if_pos hj]
  exact tos_at l j (by omega)

theorem permB_parts {l : List (Int × Int)} (h : permB l = true) : l.length ≤ 40 ∧ orderB l = true ∧ ∀ j, j < l.length → goodAt l j = true := by
  unfold permB at h
  simp only [Bool.and_eq_true, decide_eq_true_eq] at h
  exact ⟨h.1, h.2.1, all_at h.2.2⟩

/-- What makes a permutation of a list of pairs. -/
theorem perm_tos {l : List (Int × Int)} (h : permB l = true) : (froms l).Perm (tos l) := by
  obtain ⟨h40, hO, hG⟩ := permB_parts h
  refine perm_of_subset _ _ (nodup_of_get fun i j a hij h1 h2 => ?_) (fun a ha => ?_) (by simp [tos, froms])
  · have hj : j < l.length := by
      rcases Nat.lt_or_ge j l.length with h3 | h3
      · exact h3
      · rw [List.getElem?_eq_none (by simpa [tos] using h3)] at h2; cases h2
    rw [tos_at l i (by omega)] at h1
    rw [tos_at l j hj] at h2
    simp only [Option.some.injEq] at h1 h2
    have h3 := hG j hj
    unfold goodAt at h3
    simp only [Bool.and_eq_true, Bool.not_eq_true', ← Bool.not_eq_true, List.contains_iff_mem] at h3
    exact h3.2 (by rw [h2, ← h1]; exact take_tos_mem (by omega) hij)
  · obtain ⟨i, hi, e⟩ := List.getElem_of_mem ha
    have hl : i < l.length := by simpa [tos] using hi
    have h1 := tos_at l i hl
    rw [List.getElem?_eq_getElem hi, e] at h1
    injection h1 with h1
    have h3 := hG i hl
    unfold goodAt at h3
    simp only [Bool.and_eq_true, List.contains_iff_mem] at h3
    rw [h1]
    exact h3.1

end Go.Proofs.YtnamlgacjhnpnaaGreat
end

section
namespace Go.Proofs.YtnamlgacjhnpnaaGreat
open Go.RowKit Go.Sort

theorem int_infoM : (Tryz.prog.info? 3).map (fun i => (i.zero, i.size, i.bytes)) = some (some (.int .i64 0), 1, 8) := by kernel_rfl

theorem int_one (x : Int) : ∀ u ∈ [Value.int .i64 x], u.oneCell' = true := by
  intro u hu
  simp at hu
  subst hu
  rfl

theorem one_cell {w : World} {g : Nat} {u : Value} (h : w.cell? ⟨g, 0, none⟩ = some u) : ∀ j x, [u][j]? = some x → w.cell? ((⟨g, 0, none⟩ : Addr).add j) = some x := by
  intro j x hj
  cases j with
  | zero => simp at hj; subst hj; simpa [Addr.add] using h
  | succ j => simp at hj

end Go.Proofs.YtnamlgacjhnpnaaGreat
end

section
namespace Go.Proofs.YtnamlgacjhnpnaaGreat
open Go.RowKit Go.Sort

/-- A number is put into an ascending list, if it is not there. -/
def insL : List Int → Int → List Int
  | [], n => [n]
  | x :: r, n => if n < x then n :: x :: r else if n = x then x :: r else x :: insL r n

def AscP (l : List Int) : Prop := l.Pairwise (· < ·)

theorem mem_insL : ∀ (l : List Int) (n a : Int), a ∈ insL l n ↔ a = n ∨ a ∈ l
  | [], n, a => by simp [insL]
  | x :: r, n, a => by
    unfold insL
    split
    · simp
    · split
      · rename_i h; subst h; simp
      · simp only [List.mem_cons, mem_insL r n a]
        constructor
        · rintro (h | h | h)
          · exact .inr (.inl h)
          · exact .inl h
          · exact .inr (.inr h)
        · rintro (h | h | h)
          · exact .inr (.inl h)
          · exact .inl h
          · exact .inr (.inr h)

theorem asc_insL : ∀ (l : List Int) (n : Int), AscP l → AscP (insL l n)
  | [], n, _ => by simp [insL, AscP]
  | x :: r, n, h => by
    unfold AscP at h
    rw [List.pairwise_cons] at h
    unfold insL
    split
    · rename_i h1
      unfold AscP
      rw [List.pairwise_cons, List.pairwise_cons]
      refine ⟨fun a ha => ?_, h.1, h.2⟩
      rcases List.mem_cons.1 ha with e | e
      · rw [e]; exact h1
      · have := h.1 a e; omega
    · split
      · unfold AscP; rw [List.pairwise_cons]; exact h
      · rename_i h1 h2
        unfold AscP
        rw [List.pairwise_cons]
        refine ⟨fun a ha => ?_, asc_insL r n h.2⟩
        rcases (mem_insL r n a).1 ha with e | e
        · rw [e]; omega
        · exact h.1 a e

theorem insL_there : ∀ (l : List Int) (n : Int), AscP l → n ∈ l → insL l n = l
  | [], n, _, h => by simp at h
  | x :: r, n, h, hm => by
    unfold AscP at h
    rw [List.pairwise_cons] at h
    unfold insL
    rcases List.mem_cons.1 hm with e | e
    · rw [if_neg (by omega), if_pos e]
    · have h1 := h.1 n e
      rw [if_neg (by omega), if_neg (by omega), insL_there r n h.2 e]

theorem ins_eq : ∀ (l : List Int) (k : Nat) (n : Int), AscP l → k ≤ l.length → (∀ j, k ≤ j → j < l.length → n < itAt l j) → (k = 0 ∨ itAt l (k - 1) ≤ n) → n ∉ l → l.take k ++ n :: l.drop k = insL l n
  | [], k, n, _, hk, _, _, _ => by
    have e : k = 0 := by simpa using hk
    subst e
    rfl
  | x :: r, 0, n, _, _, h1, _, _ => by
    have h2 : n < x := h1 0 (Nat.le_refl _) (by simp)
    show n :: x :: r = insL (x :: r) n
    unfold insL
    rw [if_pos h2]
  | x :: r, k + 1, n, ha, hk, h1, h2, hn => by
    unfold AscP at ha
    rw [List.pairwise_cons] at ha
    have hk' : k ≤ r.length := by simpa using hk
    have hlast : itAt (x :: r) k ≤ n := by
      rcases h2 with h2 | h2
      · omega
      · exact h2
    have hx : x ≤ n := by
      cases k with
      | zero => exact hlast
      | succ k =>
        have h3 : k < r.length := by omega
        have h4 : itAt (x :: r) (k + 1) = r[k] := by simp [itAt, h3]
        have h5 := ha.1 r[k] (List.getElem_mem h3)
        omega
    have hne : n ≠ x := fun e => hn (by rw [e]; exact List.mem_cons_self)
    have ih := ins_eq r k n ha.2 hk' (fun j hj hl => h1 (j + 1) (by omega) (by simpa using hl)) (by
      cases k with
      | zero => exact .inl rfl
      | succ k => exact .inr hlast) (fun h => hn (List.mem_cons_of_mem _ h))
    show x :: (r.take k ++ n :: r.drop k) = insL (x :: r) n
    unfold insL
    rw [if_neg (by omega), if_neg hne, ih]

/-- Several numbers are put into an ascending list. -/
def insAll (acc xs : List Int) : List Int := xs.foldl insL acc

theorem asc_insAll (acc xs : List Int) (h : AscP acc) : AscP (insAll acc xs) := by
  unfold insAll
  induction xs generalizing acc with
  | nil => exact h
  | cons x r ih => exact ih _ (asc_insL acc x h)

theorem mem_insAll (acc xs : List Int) (a : Int) : a ∈ insAll acc xs ↔ a ∈ acc ∨ a ∈ xs := by
  unfold insAll
  induction xs generalizing acc with
  | nil => simp
  | cons x r ih =>
    rw [List.foldl_cons, ih, mem_insL, List.mem_cons]
    constructor
    · rintro ((h | h) | h)
      · exact .inr (.inl h)
      · exact .inl h
      · exact .inr (.inr h)
    · rintro (h | h | h)
      · exact .inl (.inr h)
      · exact .inl (.inl h)
      · exact .inr h

theorem asc_same : ∀ (xs ys : List Int), AscP xs → AscP ys → (∀ a, a ∈ xs ↔ a ∈ ys) → xs = ys
  | [], [], _, _, _ => rfl
  | [], y :: ys, _, _, h => by have := (h y).2 List.mem_cons_self; simp at this
  | x :: xs, [], _, _, h => by have := (h x).1 List.mem_cons_self; simp at this
  | x :: xs, y :: ys, h1, h2, h => by
    unfold AscP at h1 h2
    rw [List.pairwise_cons] at h1 h2
    have e : x = y := by
      rcases List.mem_cons.1 ((h x).1 List.mem_cons_self) with e | e
      · exact e
      · rcases List.mem_cons.1 ((h y).2 List.mem_cons_self) with e' | e'
        · exact e'.symm
        · have := h1.1 y e'; have := h2.1 x e; omega
    subst e
    congr 1
    refine asc_same xs ys h1.2 h2.2 fun a => ?_
    constructor
    · intro ha
      rcases List.mem_cons.1 ((h a).1 (List.mem_cons_of_mem _ ha)) with e | e
      · have := h1.1 a ha; omega
      · exact e
    · intro ha
      rcases List.mem_cons.1 ((h a).2 (List.mem_cons_of_mem _ ha)) with e | e
      · have := h2.1 a ha; omega
      · exact e

theorem ascP_froms {l : List (Int × Int)} (h : Asc l) : AscP (froms l) := by
  unfold AscP
  rw [List.pairwise_iff_getElem]
  intro i j hi hj hij
  have hj' : j < l.length := by simpa [froms] using hj
  have h1 := froms_at l i (by omega)
  have h2 := froms_at l j hj'
  rw [List.getElem?_eq_getElem hi] at h1
  rw [List.getElem?_eq_getElem hj] at h2
  simp only [Option.some.injEq] at h1 h2
  rw [h1, h2]
  exact h i j hij hj'

theorem ints_news {w : World} {a : Addr} {l : List Int} (h : IntsAt w (some a) l) : ∀ j u, (icells l)[j]? = some u → w.cell? (a.add j) = some u := by
  intro j u hj
  have hl : j < l.length := by
    rcases Nat.lt_or_ge j l.length with h1 | h1
    · exact h1
    · rw [List.getElem?_eq_none (by rw [icells_len]; exact h1)] at hj; cases hj
  obtain ⟨b, off, e, _, hc⟩ := h (by omega)
  injection e with e
  subst e
  rw [icells_at l j hl] at hj
  injection hj with hj
  subst hj
  have hadd : (⟨b, off, none⟩ : Addr).add j = ⟨b, off + j, none⟩ := by
    unfold Addr.add
    split
    · rename_i h0; rw [h0]; rfl
    · rfl
  rw [hadd]
  exact hc j hl

theorem icells_one (l : List Int) : ∀ u ∈ icells l, u.oneCell' = true := by
  intro u hu
  simp only [icells, List.mem_map] at hu
  obtain ⟨x, _, rfl⟩ := hu
  rfl

set_option maxHeartbeats 1000000 in
theorem l1Copy_any (a : Addr) (c : Nat) (l : List Int) (w : World) (hA : IntsAt w (some a) l) (hl : l.length ≤ 1099511627776) :
    Calls Tryz.prog 95 #[.slice (some a) l.length c] w (NewInts l w) := by
  obtain ⟨i0, hi0, hz0, hz1, hz2⟩ := info_parts int_infoM
  have HS := Lib.hid hz2
  clear hz2
  have hb : Below w.heap.size w (w.alloc (.cells #[] 3)) := (Below.refl _ _).alloc (Nat.le_refl _) _
  have HN := Lib.hid (ints_news (hA.below hb))
  have ho : (w.alloc (.cells #[] 3)).ownsRow w.heap.size 3 1 (.slice (some ⟨w.heap.size, 0, none⟩) 0 0) 0 [] := World.ownsRow_lit w #[] 0 (Nat.le_refl _) (by decide) rfl
  have HL := Lib.hid (icells_len l)
  go_enter Tryz.func95, Tryz.ntmps95
  go_wp2_with (at_builtin; refine wpList_append_own _ rfl (.tmp 3) (.tmp 4) 24 rfl w.heap.size 3 i0 (.int .i64 0) 1 8 Tryz.underlying24 hi0 hz0 hz1 HS.out rfl (by decide) _ 0 [] rfl ho a l.length c (icells l) rfl (by rw [HL.out, Nat.mul_one]) HN.out (icells_one l) ?c3 ?c4 ?c5 ?_)
  case c3 => unfold maxLen; omega
  case c4 => omega
  case c5 => simp
  intro v2 w2 ho3 hg _
  have hb4 : Below w.heap.size w w2 := below_own hb ho (Nat.le_refl _) (by simp) hg
  clear ho hg hb HN hA
  go_wp2
  go_ret
  exact ⟨_, rfl, ho3, hb4⟩

theorem IntsAt.take {w : World} {A : Option Addr} {l : List Int} (h : IntsAt w A l) (k : Nat) : IntsAt w A (l.take k) := by
  intro hp
  rw [List.length_take] at hp
  obtain ⟨b, off, rfl, hlt, hc⟩ := h (by omega)
  refine ⟨b, off, rfl, hlt, fun i hi => ?_⟩
  rw [List.length_take] at hi
  rw [hc i (by omega)]
  have : i < k := by omega
  simp [itAt, this]

theorem IntsAt.drop {w : World} {b off : Nat} {l : List Int} (h : IntsAt w (some ⟨b, off, none⟩) l) (k : Nat) : IntsAt w (some ⟨b, off + k, none⟩) (l.drop k) := by
  intro hp
  rw [List.length_drop] at hp
  obtain ⟨b', off', e, hlt, hc⟩ := h (by omega)
  simp only [Option.some.injEq, Addr.mk.injEq, and_true] at e
  obtain ⟨rfl, rfl⟩ := e
  refine ⟨b, off + k, rfl, hlt, fun i hi => ?_⟩
  rw [List.length_drop] at hi
  rw [Nat.add_assoc, hc (k + i) (by omega)]
  simp [itAt]

/-- A slice of the call's own that holds the numbers; of what was there nothing has turned. -/
def InsPost (base : Nat) (l : List Int) (w : World) (e : Ending) (w' : World) : Prop :=
  ∃ g cap, e = .returned (.slice (some ⟨g, 0, none⟩) l.length cap) ∧ w'.ownsRow base 3 1 (.slice (some ⟨g, 0, none⟩) l.length cap) l.length (icells l) ∧ Below w.heap.size w w'

theorem insPost_of {base : Nat} {l : List Int} {w w8 : World} {v8 : Value} (hb : base ≤ w.heap.size) (hp : 0 < l.length) (h : w8.ownsRow w.heap.size 3 1 v8 l.length (icells l)) (hbel : Below w.heap.size w w8) : InsPost base l w (.returned v8) w8 := by
  rcases h.2 with ⟨_, h0⟩ | ⟨g, cap, cur, rfl, _⟩
  · omega
  · exact ⟨g, cap, rfl, own_le h hb, hbel⟩

set_option maxRecDepth 100000 in
set_option maxHeartbeats 2000000 in
theorem l1Insert_any (base g cap : Nat) (l : List Int) (a : Int) (w : World) (hown : w.ownsRow base 3 1 (.slice (some ⟨g, 0, none⟩) l.length cap) l.length (icells l)) (hcap : l.length ≤ cap) (hl : l.length ≤ 1099511627776) (hasc : AscP l) :
    Calls Tryz.prog 107 #[.slice (some ⟨g, 0, none⟩) l.length cap, .int .i64 a] w (InsPost base (insL l a) w) := by
  obtain ⟨i0, hi0, hz0, hz1, hz2⟩ := info_parts int_infoM
  have HS := Lib.hid hz2
  clear hz2
  have hIA : IntsAt w (some ⟨g, 0, none⟩) l := by
    obtain ⟨A, c, e, h⟩ := own_intsAt hown
    simp only [Value.slice.injEq] at e
    rw [e.1]
    exact h
  have hh := l1Has_any (some ⟨g, 0, none⟩) cap l a w hIA hl
  by_cases hin : hasB l a = true
  · have hres : Hid (insL l a = l) := insL_there l a hasc (by unfold hasB at hin; exact List.contains_iff_mem.1 hin)
    rw [hin] at hh
    rw [hres.out]
    have hpost : InsPost base l w (.returned (.slice (some ⟨g, 0, none⟩) l.length cap)) w := ⟨g, cap, rfl, hown, Below.refl _ _⟩
    clear hin hasc hown hIA
    go_enter Tryz.func107, Tryz.ntmps107
    go_wp2_with fail
    refine hh.mono ?_
    rintro e w1 ⟨rfl, rfl⟩
    go_wp2
    go_ret
    exact hpost
  · have hin' : hasB l a = false := by simpa using hin
    have hni : Hid (a ∉ l) := fun h => by unfold hasB at hin'; rw [List.contains_iff_mem.2 h] at hin'; cases hin'
    have HA := Lib.hid hasc
    rw [hin'] at hh
    clear hin hin' hasc
    go_enter Tryz.func107, Tryz.ntmps107
    go_wp2_with fail
    refine hh.mono ?_
    rintro e w1 ⟨rfl, rfl⟩
    clear hh
    go_wp2
    go_loop [5] (fun i => ∃ k : Nat, k ≤ l.length ∧ i = .int .i64 k ∧ Hid (∀ j, k ≤ j → j < l.length → a < itAt l j)) (fun i => (intOf i).toNat)
    case atStart => exact ⟨l.length, Nat.le_refl _, rfl, fun j h1 h2 => absurd h1 (by omega)⟩
    case round =>
      obtain ⟨k, hk, rfl, hq⟩ := hrel
      by_cases hz : k = 0
      · subst hz
        have hfin : Hid (l.take 0 ++ a :: l.drop 0 = insL l a) := ins_eq l 0 a HA.out hk hq.out (.inl rfl) hni.out
        have ek : (l.take 0).length = 0 := by rw [List.length_take]; omega
        have hcp := l1Copy_any ⟨g, 0, none⟩ cap (l.take 0) w (hIA.take 0) (by omega)
        rw [ek] at hcp
        have EK := Lib.hid ek
        have hd0 := hIA.drop 0
        rw [Nat.zero_add] at hd0
        have HD := Lib.hid hd0
        have hgs : g < w.heap.size := (hown.lt g rfl).2
        have hbase : base ≤ g := (hown.lt g rfl).1
        have hlen : Hid ((insL l a).length = 0 + 1 + (l.length - 0)) := by
          show (insL l a).length = 0 + 1 + (l.length - 0)
          rw [← hfin.out]
          simp only [List.length_append, List.length_cons, List.length_take, List.length_drop]
          omega
        clear ek hq hown hIA hd0
        go_wp2_with fail
        refine hcp.mono ?_
        rintro e w6 ⟨v6, rfl, ho6, hb6⟩
        rw [EK.out] at ho6
        have hs6 := hb6.size
        have ho6b := ho6.alloc (.cells #[.int .i64 a] 3)
        have hb6b := hb6.alloc hb6.size (.cells #[.int .i64 a] 3)
        have hcell : (w6.alloc (.cells #[.int .i64 a] 3)).cell? ⟨w6.heap.size, 0, none⟩ = some (.int .i64 a) := by simp
        have HC := Lib.hid (one_cell hcell)
        clear hcell hcp ho6
        go_wp2_with (at_builtin; refine wpList_append_own _ rfl (.tmp 29) (.tmp 31) 24 rfl w.heap.size 3 i0 (.int .i64 0) 1 8 Tryz.underlying24 hi0 hz0 hz1 HS.out rfl (by decide) _ 0 _ rfl ho6b ⟨w6.heap.size, 0, none⟩ 1 1 [.int .i64 a] rfl rfl HC.out (int_one _) ?c3 ?c4 ?c5 ?_)
        case c3 => unfold maxLen; omega
        case c4 => omega
        case c5 => simp; omega
        intro v7 w7 ho7 hg7 _
        have hb7 : Below w.heap.size w w7 := below_own hb6b ho6b (Nat.le_refl _) (by simp; omega) hg7
        have HN := Lib.hid (ints_news (HD.out.below hb7))
        have HL := Lib.hid (show (icells (l.drop 0)).length = (l.length - 0) * 1 by rw [icells_len, List.length_drop, Nat.mul_one])
        have hs7 := hb7.size
        clear ho6b hg7 hb6 hb6b HC
        by_cases hck : cap = 0
        · have hnil : l.length - 0 = 0 := by omega
          have hdn : Hid (l.drop 0 = []) := List.drop_of_length_le (by omega)
          subst hck
          go_wp2_with (at_builtin; refine wpList_append_own _ rfl (.tmp 33) (.tmp 36) 24 rfl w.heap.size 3 i0 (.int .i64 0) 1 8 Tryz.underlying24 hi0 hz0 hz1 HS.out rfl (by decide) _ (0 + 1) _ rfl ho7 ⟨g, 0, none⟩ _ _ [] rfl ?d2 ?d3 ?d4 ?d5 ?d6 ?d7 ?_)
          case d2 => simp; try omega
          case d3 => intro j u hj; simp at hj
          case d4 => intro u hu; simp at hu
          case d5 => unfold maxLen; omega
          case d6 => omega
          case d7 => omega
          intro v8 w8 ho8 hg8 _
          have ho9 : w8.ownsRow w.heap.size 3 1 v8 (insL l a).length (icells (insL l a)) := by
            rw [hlen.out, ← hfin.out]
            rw [hdn.out]; simpa [icells, hnil] using ho8
          have hb9 : Below w.heap.size w w8 := below_own hb7 ho7 (Nat.le_refl _) hs7 hg8
          have hpost := insPost_of (base := base) (by omega) (by rw [hlen.out]; omega) ho9 hb9
          clear ho8 hg8 ho9 hb9 ho7 hb7 HN HL hlen hfin
          go_wp2
          go_ret
          exact hpost
        · go_wp2_with (at_builtin; refine wpList_append_own _ rfl (.tmp 33) (.tmp 36) 24 rfl w.heap.size 3 i0 (.int .i64 0) 1 8 Tryz.underlying24 hi0 hz0 hz1 HS.out rfl (by decide) _ (0 + 1) _ rfl ho7 ⟨g, 0, none⟩ (l.length - 0) (cap - 0) (icells (l.drop 0)) rfl HL.out HN.out (icells_one _) ?d3 ?d4 ?d5 ?_)
          case d3 => unfold maxLen; omega
          case d4 => omega
          case d5 => omega
          intro v8 w8 ho8 hg8 _
          have ho9 : w8.ownsRow w.heap.size 3 1 v8 (insL l a).length (icells (insL l a)) := by
            rw [hlen.out, ← hfin.out]
            simpa [icells] using ho8
          have hb9 : Below w.heap.size w w8 := below_own hb7 ho7 (Nat.le_refl _) hs7 hg8
          have hpost := insPost_of (base := base) (by omega) (by rw [hlen.out]; omega) ho9 hb9
          clear ho8 hg8 ho9 hb9 ho7 hb7 HN HL hlen hfin
          go_wp2
          go_ret
          exact hpost
      · obtain ⟨j, rfl⟩ : ∃ j, k = j + 1 := ⟨k - 1, by omega⟩
        have c1 := (hown.cellAt j (by omega)).trans (icells_at l j (by omega))
        by_cases hgt : a < itAt l j
        · have hn : Hid (∀ q, j ≤ q → q < l.length → a < itAt l q) := by
            intro q h1 h2
            by_cases e : q = j
            · rw [e]; exact hgt
            · exact hq.out q (by omega) h2
          generalize itAt l j = x at c1 hgt
          clear hq hown hIA hz
          go_wp2_with fail
          refine ⟨⟨j, by omega, by go_num, hn⟩, ?_⟩
          simp only [intOf]
          omega
        · have hle : itAt l j ≤ a := by omega
          have hfin : Hid (l.take (j + 1) ++ a :: l.drop (j + 1) = insL l a) := ins_eq l (j + 1) a HA.out hk hq.out (.inr hle) hni.out
          generalize itAt l j = x at c1 hle hgt
          have ek : (l.take (j + 1)).length = (j + 1) := by rw [List.length_take]; omega
          have hcp := l1Copy_any ⟨g, 0, none⟩ cap (l.take (j + 1)) w (hIA.take (j + 1)) (by omega)
          rw [ek] at hcp
          have EK := Lib.hid ek
          have hd0 := hIA.drop (j + 1)
          rw [Nat.zero_add] at hd0
          have HD := Lib.hid hd0
          have hgs : g < w.heap.size := (hown.lt g rfl).2
          have hbase : base ≤ g := (hown.lt g rfl).1
          have hlen : Hid ((insL l a).length = (j + 1) + 1 + (l.length - (j + 1))) := by
            show (insL l a).length = (j + 1) + 1 + (l.length - (j + 1))
            rw [← hfin.out]
            simp only [List.length_append, List.length_cons, List.length_take, List.length_drop]
            omega
          clear ek hq hown hIA hd0 hgt hz
          go_wp2_with fail
          refine hcp.mono ?_
          rintro e w6 ⟨v6, rfl, ho6, hb6⟩
          rw [EK.out] at ho6
          have hs6 := hb6.size
          have ho6b := ho6.alloc (.cells #[.int .i64 a] 3)
          have hb6b := hb6.alloc hb6.size (.cells #[.int .i64 a] 3)
          have hcell : (w6.alloc (.cells #[.int .i64 a] 3)).cell? ⟨w6.heap.size, 0, none⟩ = some (.int .i64 a) := by simp
          have HC := Lib.hid (one_cell hcell)
          clear hcell hcp ho6
          go_wp2_with (at_builtin; refine wpList_append_own _ rfl (.tmp 29) (.tmp 31) 24 rfl w.heap.size 3 i0 (.int .i64 0) 1 8 Tryz.underlying24 hi0 hz0 hz1 HS.out rfl (by decide) _ (j + 1) _ rfl ho6b ⟨w6.heap.size, 0, none⟩ 1 1 [.int .i64 a] rfl rfl HC.out (int_one _) ?c3 ?c4 ?c5 ?_)
          case c3 => unfold maxLen; omega
          case c4 => omega
          case c5 => simp; omega
          intro v7 w7 ho7 hg7 _
          have hb7 : Below w.heap.size w w7 := below_own hb6b ho6b (Nat.le_refl _) (by simp; omega) hg7
          have HN := Lib.hid (ints_news (HD.out.below hb7))
          have HL := Lib.hid (show (icells (l.drop (j + 1))).length = (l.length - (j + 1)) * 1 by rw [icells_len, List.length_drop, Nat.mul_one])
          have hs7 := hb7.size
          clear ho6b hg7 hb6 hb6b HC
          by_cases hck : cap = (j + 1)
          · have hnil : l.length - (j + 1) = 0 := by omega
            have hdn : Hid (l.drop (j + 1) = []) := List.drop_of_length_le (by omega)
            subst hck
            go_wp2_with (at_builtin; refine wpList_append_own _ rfl (.tmp 33) (.tmp 36) 24 rfl w.heap.size 3 i0 (.int .i64 0) 1 8 Tryz.underlying24 hi0 hz0 hz1 HS.out rfl (by decide) _ ((j + 1) + 1) _ rfl ho7 ⟨g, 0, none⟩ _ _ [] rfl ?d2 ?d3 ?d4 ?d5 ?d6 ?d7 ?_)
            case d2 => simp; try omega
            case d3 => intro j u hj; simp at hj
            case d4 => intro u hu; simp at hu
            case d5 => unfold maxLen; omega
            case d6 => omega
            case d7 => omega
            intro v8 w8 ho8 hg8 _
            have ho9 : w8.ownsRow w.heap.size 3 1 v8 (insL l a).length (icells (insL l a)) := by
              rw [hlen.out, ← hfin.out]
              rw [hdn.out]; simpa [icells, hnil] using ho8
            have hb9 : Below w.heap.size w w8 := below_own hb7 ho7 (Nat.le_refl _) hs7 hg8
            have hpost := insPost_of (base := base) (by omega) (by rw [hlen.out]; omega) ho9 hb9
            clear ho8 hg8 ho9 hb9 ho7 hb7 HN HL hlen hfin
            go_wp2
            go_ret
            exact hpost
          · go_wp2_with (at_builtin; refine wpList_append_own _ rfl (.tmp 33) (.tmp 36) 24 rfl w.heap.size 3 i0 (.int .i64 0) 1 8 Tryz.underlying24 hi0 hz0 hz1 HS.out rfl (by decide) _ ((j + 1) + 1) _ rfl ho7 ⟨g, (j + 1), none⟩ (l.length - (j + 1)) (cap - (j + 1)) (icells (l.drop (j + 1))) rfl HL.out HN.out (icells_one _) ?d3 ?d4 ?d5 ?_)
            case d3 => unfold maxLen; omega
            case d4 => omega
            case d5 => omega
            intro v8 w8 ho8 hg8 _
            have ho9 : w8.ownsRow w.heap.size 3 1 v8 (insL l a).length (icells (insL l a)) := by
              rw [hlen.out, ← hfin.out]
              simpa [icells] using ho8
            have hb9 : Below w.heap.size w w8 := below_own hb7 ho7 (Nat.le_refl _) hs7 hg8
            have hpost := insPost_of (base := base) (by omega) (by rw [hlen.out]; omega) ho9 hb9
            clear ho8 hg8 ho9 hb9 ho7 hb7 HN HL hlen hfin
            go_wp2
            go_ret
            exact hpost

end Go.Proofs.YtnamlgacjhnpnaaGreat
end

section
namespace Go.Proofs.YtnamlgacjhnpnaaGreat
open Go.RowKit Go.Sort
set_option linter.unusedVariables false

set_option maxRecDepth 100000 in
set_option maxHeartbeats 2000000 in
theorem l1Insert_all (base g cap : Nat) (l : List Int) (a : Int) (w : World) (hown : w.ownsRow base 3 1 (.slice (some ⟨g, 0, none⟩) l.length cap) l.length (icells l)) (hcap : l.length ≤ cap) (hl : l.length ≤ 1099511627776) (R : List Int) (hR1 : a ∈ l → R = l) (hR2 : ∀ k, k ≤ l.length → (∀ j, k ≤ j → j < l.length → a < itAt l j) → (k = 0 ∨ itAt l (k - 1) ≤ a) → a ∉ l → l.take k ++ a :: l.drop k = R) :
    Calls Tryz.prog 107 #[.slice (some ⟨g, 0, none⟩) l.length cap, .int .i64 a] w (InsPost base (R) w) := by
  obtain ⟨i0, hi0, hz0, hz1, hz2⟩ := info_parts int_infoM
  have HS := Lib.hid hz2
  clear hz2
  have hIA : IntsAt w (some ⟨g, 0, none⟩) l := by
    obtain ⟨A, c, e, h⟩ := own_intsAt hown
    simp only [Value.slice.injEq] at e
    rw [e.1]
    exact h
  have hh := l1Has_any (some ⟨g, 0, none⟩) cap l a w hIA hl
  by_cases hin : hasB l a = true
  · have hres : Hid (R = l) := hR1 (by unfold hasB at hin; exact List.contains_iff_mem.1 hin)
    rw [hin] at hh
    rw [hres.out]
    have hpost : InsPost base l w (.returned (.slice (some ⟨g, 0, none⟩) l.length cap)) w := ⟨g, cap, rfl, hown, Below.refl _ _⟩
    clear hin hR1 hR2 hown hIA
    go_enter Tryz.func107, Tryz.ntmps107
    go_wp2_with fail
    refine hh.mono ?_
    rintro e w1 ⟨rfl, rfl⟩
    go_wp2
    go_ret
    exact hpost
  · have hin' : hasB l a = false := by simpa using hin
    have hni : Hid (a ∉ l) := fun h => by unfold hasB at hin'; rw [List.contains_iff_mem.2 h] at hin'; cases hin'
    have HA := Lib.hid hR2
    rw [hin'] at hh
    clear hin hin' hR1 hR2
    go_enter Tryz.func107, Tryz.ntmps107
    go_wp2_with fail
    refine hh.mono ?_
    rintro e w1 ⟨rfl, rfl⟩
    clear hh
    go_wp2
    go_loop [5] (fun i => ∃ k : Nat, k ≤ l.length ∧ i = .int .i64 k ∧ Hid (∀ j, k ≤ j → j < l.length → a < itAt l j)) (fun i => (intOf i).toNat)
    case atStart => exact ⟨l.length, Nat.le_refl _, rfl, fun j h1 h2 => absurd h1 (by omega)⟩
    case round =>
      obtain ⟨k, hk, rfl, hq⟩ := hrel
      by_cases hz : k = 0
      · subst hz
        have hfin : Hid (l.take 0 ++ a :: l.drop 0 = R) := HA.out 0 hk hq.out (.inl rfl) hni.out
        have ek : (l.take 0).length = 0 := by rw [List.length_take]; omega
        have hcp := l1Copy_any ⟨g, 0, none⟩ cap (l.take 0) w (hIA.take 0) (by omega)
        rw [ek] at hcp
        have EK := Lib.hid ek
        have hd0 := hIA.drop 0
        rw [Nat.zero_add] at hd0
        have HD := Lib.hid hd0
        have hgs : g < w.heap.size := (hown.lt g rfl).2
        have hbase : base ≤ g := (hown.lt g rfl).1
        have hlen : Hid ((R).length = 0 + 1 + (l.length - 0)) := by
          show (R).length = 0 + 1 + (l.length - 0)
          rw [← hfin.out]
          simp only [List.length_append, List.length_cons, List.length_take, List.length_drop]
          omega
        clear ek hq hown hIA hd0
        go_wp2_with fail
        refine hcp.mono ?_
        rintro e w6 ⟨v6, rfl, ho6, hb6⟩
        rw [EK.out] at ho6
        have hs6 := hb6.size
        have ho6b := ho6.alloc (.cells #[.int .i64 a] 3)
        have hb6b := hb6.alloc hb6.size (.cells #[.int .i64 a] 3)
        have hcell : (w6.alloc (.cells #[.int .i64 a] 3)).cell? ⟨w6.heap.size, 0, none⟩ = some (.int .i64 a) := by simp
        have HC := Lib.hid (one_cell hcell)
        clear hcell hcp ho6
        go_wp2_with (at_builtin; refine wpList_append_own _ rfl (.tmp 29) (.tmp 31) 24 rfl w.heap.size 3 i0 (.int .i64 0) 1 8 Tryz.underlying24 hi0 hz0 hz1 HS.out rfl (by decide) _ 0 _ rfl ho6b ⟨w6.heap.size, 0, none⟩ 1 1 [.int .i64 a] rfl rfl HC.out (int_one _) ?c3 ?c4 ?c5 ?_)
        case c3 => unfold maxLen; omega
        case c4 => omega
        case c5 => simp; omega
        intro v7 w7 ho7 hg7 _
        have hb7 : Below w.heap.size w w7 := below_own hb6b ho6b (Nat.le_refl _) (by simp; omega) hg7
        have HN := Lib.hid (ints_news (HD.out.below hb7))
        have HL := Lib.hid (show (icells (l.drop 0)).length = (l.length - 0) * 1 by rw [icells_len, List.length_drop, Nat.mul_one])
        have hs7 := hb7.size
        clear ho6b hg7 hb6 hb6b HC
        by_cases hck : cap = 0
        · have hnil : l.length - 0 = 0 := by omega
          have hdn : Hid (l.drop 0 = []) := List.drop_of_length_le (by omega)
          subst hck
          go_wp2_with (at_builtin; refine wpList_append_own _ rfl (.tmp 33) (.tmp 36) 24 rfl w.heap.size 3 i0 (.int .i64 0) 1 8 Tryz.underlying24 hi0 hz0 hz1 HS.out rfl (by decide) _ (0 + 1) _ rfl ho7 ⟨g, 0, none⟩ _ _ [] rfl ?d2 ?d3 ?d4 ?d5 ?d6 ?d7 ?_)
          case d2 => simp; try omega
          case d3 => intro j u hj; simp at hj
          case d4 => intro u hu; simp at hu
          case d5 => unfold maxLen; omega
          case d6 => omega
          case d7 => omega
          intro v8 w8 ho8 hg8 _
          have ho9 : w8.ownsRow w.heap.size 3 1 v8 (R).length (icells (R)) := by
            rw [hlen.out, ← hfin.out]
            rw [hdn.out]; simpa [icells, hnil] using ho8
          have hb9 : Below w.heap.size w w8 := below_own hb7 ho7 (Nat.le_refl _) hs7 hg8
          have hpost := insPost_of (base := base) (by omega) (by rw [hlen.out]; omega) ho9 hb9
          clear ho8 hg8 ho9 hb9 ho7 hb7 HN HL hlen hfin
          go_wp2
          go_ret
          exact hpost
        · go_wp2_with (at_builtin; refine wpList_append_own _ rfl (.tmp 33) (.tmp 36) 24 rfl w.heap.size 3 i0 (.int .i64 0) 1 8 Tryz.underlying24 hi0 hz0 hz1 HS.out rfl (by decide) _ (0 + 1) _ rfl ho7 ⟨g, 0, none⟩ (l.length - 0) (cap - 0) (icells (l.drop 0)) rfl HL.out HN.out (icells_one _) ?d3 ?d4 ?d5 ?_)
          case d3 => unfold maxLen; omega
          case d4 => omega
          case d5 => omega
          intro v8 w8 ho8 hg8 _
          have ho9 : w8.ownsRow w.heap.size 3 1 v8 (R).length (icells (R)) := by
            rw [hlen.out, ← hfin.out]
            simpa [icells] using ho8
          have hb9 : Below w.heap.size w w8 := below_own hb7 ho7 (Nat.le_refl _) hs7 hg8
          have hpost := insPost_of (base := base) (by omega) (by rw [hlen.out]; omega) ho9 hb9
          clear ho8 hg8 ho9 hb9 ho7 hb7 HN HL hlen hfin
          go_wp2
          go_ret
          exact hpost
      · obtain ⟨j, rfl⟩ : ∃ j, k = j + 1 := ⟨k - 1, by omega⟩
        have c1 := (hown.cellAt j (by omega)).trans (icells_at l j (by omega))
        by_cases hgt : a < itAt l j
        · have hn : Hid (∀ q, j ≤ q → q < l.length → a < itAt l q) := by
            intro q h1 h2
            by_cases e : q = j
            · rw [e]; exact hgt
            · exact hq.out q (by omega) h2
          generalize itAt l j = x at c1 hgt
          clear hq hown hIA hz
          go_wp2_with fail
          refine ⟨⟨j, by omega, by go_num, hn⟩, ?_⟩
          simp only [intOf]
          omega
        · have hle : itAt l j ≤ a := by omega
          have hfin : Hid (l.take (j + 1) ++ a :: l.drop (j + 1) = R) := HA.out (j + 1) hk hq.out (.inr hle) hni.out
          generalize itAt l j = x at c1 hle hgt
          have ek : (l.take (j + 1)).length = (j + 1) := by rw [List.length_take]; omega
          have hcp := l1Copy_any ⟨g, 0, none⟩ cap (l.take (j + 1)) w (hIA.take (j + 1)) (by omega)
          rw [ek] at hcp
          have EK := Lib.hid ek
          have hd0 := hIA.drop (j + 1)
          rw [Nat.zero_add] at hd0
          have HD := Lib.hid hd0
          have hgs : g < w.heap.size := (hown.lt g rfl).2
          have hbase : base ≤ g := (hown.lt g rfl).1
          have hlen : Hid ((R).length = (j + 1) + 1 + (l.length - (j + 1))) := by
            show (R).length = (j + 1) + 1 + (l.length - (j + 1))
            rw [← hfin.out]
            simp only [List.length_append, List.length_cons, List.length_take, List.length_drop]
            omega
          clear ek hq hown hIA hd0 hgt hz
          go_wp2_with fail
          refine hcp.mono ?_
          rintro e w6 ⟨v6, rfl, ho6, hb6⟩
          rw [EK.out] at ho6
          have hs6 := hb6.size
          have ho6b := ho6.alloc (.cells #[.int .i64 a] 3)
          have hb6b := hb6.alloc hb6.size (.cells #[.int .i64 a] 3)
          have hcell : (w6.alloc (.cells #[.int .i64 a] 3)).cell? ⟨w6.heap.size, 0, none⟩ = some (.int .i64 a) := by simp
          have HC := Lib.hid (one_cell hcell)
          clear hcell hcp ho6
          go_wp2_with (at_builtin; refine wpList_append_own _ rfl (.tmp 29) (.tmp 31) 24 rfl w.heap.size 3 i0 (.int .i64 0) 1 8 Tryz.underlying24 hi0 hz0 hz1 HS.out rfl (by decide) _ (j + 1) _ rfl ho6b ⟨w6.heap.size, 0, none⟩ 1 1 [.int .i64 a] rfl rfl HC.out (int_one _) ?c3 ?c4 ?c5 ?_)
          case c3 => unfold maxLen; omega
          case c4 => omega
          case c5 => simp; omega
          intro v7 w7 ho7 hg7 _
          have hb7 : Below w.heap.size w w7 := below_own hb6b ho6b (Nat.le_refl _) (by simp; omega) hg7
          have HN := Lib.hid (ints_news (HD.out.below hb7))
          have HL := Lib.hid (show (icells (l.drop (j + 1))).length = (l.length - (j + 1)) * 1 by rw [icells_len, List.length_drop, Nat.mul_one])
          have hs7 := hb7.size
          clear ho6b hg7 hb6 hb6b HC
          by_cases hck : cap = (j + 1)
          · have hnil : l.length - (j + 1) = 0 := by omega
            have hdn : Hid (l.drop (j + 1) = []) := List.drop_of_length_le (by omega)
            subst hck
            go_wp2_with (at_builtin; refine wpList_append_own _ rfl (.tmp 33) (.tmp 36) 24 rfl w.heap.size 3 i0 (.int .i64 0) 1 8 Tryz.underlying24 hi0 hz0 hz1 HS.out rfl (by decide) _ ((j + 1) + 1) _ rfl ho7 ⟨g, 0, none⟩ _ _ [] rfl ?d2 ?d3 ?d4 ?d5 ?d6 ?d7 ?_)
            case d2 => simp; try omega
            case d3 => intro j u hj; simp at hj
            case d4 => intro u hu; simp at hu
            case d5 => unfold maxLen; omega
            case d6 => omega
            case d7 => omega
            intro v8 w8 ho8 hg8 _
            have ho9 : w8.ownsRow w.heap.size 3 1 v8 (R).length (icells (R)) := by
              rw [hlen.out, ← hfin.out]
              rw [hdn.out]; simpa [icells, hnil] using ho8
            have hb9 : Below w.heap.size w w8 := below_own hb7 ho7 (Nat.le_refl _) hs7 hg8
            have hpost := insPost_of (base := base) (by omega) (by rw [hlen.out]; omega) ho9 hb9
            clear ho8 hg8 ho9 hb9 ho7 hb7 HN HL hlen hfin
            go_wp2
            go_ret
            exact hpost
          · go_wp2_with (at_builtin; refine wpList_append_own _ rfl (.tmp 33) (.tmp 36) 24 rfl w.heap.size 3 i0 (.int .i64 0) 1 8 Tryz.underlying24 hi0 hz0 hz1 HS.out rfl (by decide) _ ((j + 1) + 1) _ rfl ho7 ⟨g, (j + 1), none⟩ (l.length - (j + 1)) (cap - (j + 1)) (icells (l.drop (j + 1))) rfl HL.out HN.out (icells_one _) ?d3 ?d4 ?d5 ?_)
            case d3 => unfold maxLen; omega
            case d4 => omega
            case d5 => omega
            intro v8 w8 ho8 hg8 _
            have ho9 : w8.ownsRow w.heap.size 3 1 v8 (R).length (icells (R)) := by
              rw [hlen.out, ← hfin.out]
              simpa [icells] using ho8
            have hb9 : Below w.heap.size w w8 := below_own hb7 ho7 (Nat.le_refl _) hs7 hg8
            have hpost := insPost_of (base := base) (by omega) (by rw [hlen.out]; omega) ho9 hb9
            clear ho8 hg8 ho9 hb9 ho7 hb7 HN HL hlen hfin
            go_wp2
            go_ret
            exact hpost


end Go.Proofs.YtnamlgacjhnpnaaGreat
end

section
namespace Go.Proofs.YtnamlgacjhnpnaaGreat
open Go.RowKit Go.Sort
set_option linter.unusedVariables false

namespace DrawN
theorem int_info : (Tryz.prog.info? 3).map (fun i => (i.zero, i.size, i.bytes)) = some (some (.int .i64 0), 1, 8) := by kernel_rfl
theorem int_one (x : Int) : ∀ u ∈ [Value.int .i64 x], u.oneCell' = true := by
  intro u hu
  simp at hu
  subst hu
  rfl
theorem one_cell {w : World} {g : Nat} {u : Value} (h : w.cell? ⟨g, 0, none⟩ = some u) : ∀ j x, [u][j]? = some x → w.cell? ((⟨g, 0, none⟩ : Addr).add j) = some x := by
  intro j x hj
  cases j with
  | zero => simp at hj; subst hj; simpa [Addr.add] using h
  | succ j => simp at hj
theorem insL_len : ∀ (l : List Int) (n : Int), (insL l n).length ≤ l.length + 1
  | [], n => by simp [insL]
  | x :: r, n => by
    have := insL_len r n
    unfold insL
    split
    · simp
    · split
      · simp
      · simp; omega
theorem cur_base {w : World} {B C : Nat} (h : Cur w B C) : B ≤ C := by obtain ⟨_, _, _, _, _, _, _, _, h, _⟩ := h; exact h
/-- A row of the call's own, and a cursor that has moved; nothing else of the world at the start is turned. -/
def Grow (w0 : World) (B C : Nat) (l : List Int) (v : Value) (w : World) : Prop :=
  w.ownsRow w0.heap.size 3 1 v l.length (icells l) ∧ Drew B C w0 w
theorem ne_cur {w0 w : World} {C n : Nat} {v : Value} {xs : List Value} (hC : C < w0.heap.size) (h : w.ownsRow w0.heap.size 3 1 v n xs) : v.ownBlock ≠ some C := fun e => by
  have := (h.lt C e).1
  omega
theorem drew_grown {w0 w w' : World} {B C : Nat} {row : Option Nat} (hC : C < w0.heap.size) (h : Drew B C w0 w) (hg : w.grownBy w' row) (hr : ∀ k, row = some k → w0.heap.size ≤ k) : Drew B C w0 w' := by
  obtain ⟨hc, h2⟩ := h
  have hCl : C < w.heap.size := hc.lt
  have hBC := cur_base hc
  obtain ⟨A, n, c, i, x, hblk, hi, hn, hB, hby⟩ := hc
  have hne : some C ≠ row := fun e => by have := hr C e.symm; omega
  refine ⟨⟨A, n, c, i, x, (hg.block C hCl hne).trans hblk, hi, hn, hB, hby.keep fun k hk => hg.block k (by omega) (fun e => by have := hr k e.symm; omega)⟩, ?_⟩
  refine ⟨hg.os.trans h2.os, hg.tape.trans h2.tape, hg.output.trans h2.output, Nat.le_trans h2.size hg.size, fun k hk hne2 => ?_⟩
  exact (hg.block k (Nat.lt_of_lt_of_le hk h2.size) (fun e => by have := hr k e.symm; omega)).trans (h2.block k hk hne2)
theorem grown_below {w w' : World} (h : Below w.heap.size w w') : w.grownBy w' none := ⟨h.os, h.tape, h.output, h.size, fun k hk _ => h.block k hk⟩
theorem more {w0 w w' : World} {B C : Nat} {l : List Int} {v v' : Value} {x : Int} (hC : C < w0.heap.size) (h : Grow w0 B C l v w) (ho : w'.ownsRow w0.heap.size 3 1 v' (l.length + 1) (icells l ++ [.int .i64 x])) (hg : w.grownBy w' v.ownBlock) : Grow w0 B C (l ++ [x]) v' w' :=
  ⟨by rw [List.length_append, icells_append]; exact ho, drew_grown hC h.2 hg (fun k hk => (h.1.lt k hk).1)⟩
theorem alloc {w0 w : World} {B C : Nat} {l : List Int} {v : Value} (h : Grow w0 B C l v w) (o : Obj) : Grow w0 B C l v (w.alloc o) := ⟨h.1.alloc o, h.2.alloc o⟩
theorem drew {w0 w w' : World} {B C : Nat} {l : List Int} {v : Value} (hC : C < w0.heap.size) (h : Grow w0 B C l v w) (hd : Drew B C w w') : Grow w0 B C l v w' :=
  ⟨h.1.kept hd.2 (.inr (ne_cur hC h.1)), h.2.trans hd⟩
/-- What is drawn: numbers of the call's own, the cursor moved, all else as it was. -/
def Ints (B C : Nat) (ok : List Int → Prop) (w : World) (e : Ending) (w' : World) : Prop :=
  ∃ (l : List Int) (g cap : Nat), e = .returned (.slice (some ⟨g, 0, none⟩) l.length cap) ∧ ok l ∧ w'.ownsRow w.heap.size 3 1 (.slice (some ⟨g, 0, none⟩) l.length cap) l.length (icells l) ∧ Drew B C w w'
/-- Small atoms. -/
def Small (l : List Int) : Prop := ∀ x ∈ l, 0 ≤ x ∧ x < 6
theorem small_more {l : List Int} (h : Small l) {x : Nat} (hx : (x : Int) < 6) : Small (l ++ [(x : Int)]) := by
  intro y hy
  rw [List.mem_append] at hy
  rcases hy with hy | hy
  · exact h y hy
  · simp at hy; omega
theorem small_ins {l : List Int} (h : Small l) {x : Nat} (hx : (x : Int) < 6) : Small (insL l (x : Int)) := by
  intro y hy
  rw [mem_insL] at hy
  rcases hy with rfl | hy
  · omega
  · exact h y hy
end DrawN

set_option maxRecDepth 100000 in
set_option maxHeartbeats 2000000 in
theorem l6Atoms_any (B C : Nat) (n : Nat) (w : World) (hc : Cur w B C) (hn : n ≤ 1000) :
    Calls Tryz.prog 31 #[.pointer (some ⟨C, 0, none⟩), .int .i64 n] w (DrawN.Ints B C (fun l => l.length = n ∧ DrawN.Small l) w) := by
  obtain ⟨i0, hi0, hz0, hz1, hz2⟩ := info_parts DrawN.int_info
  have HS := Lib.hid hz2
  clear hz2
  have hC := hc.lt
  have hg0 : DrawN.Grow w B C [] (.slice (some ⟨w.heap.size, 0, none⟩) 0 0) (w.alloc (.cells #[] 3)) :=
    ⟨World.ownsRow_lit w #[] 0 (Nat.le_refl _) (by decide) rfl, (Drew.of hc).alloc _⟩
  clear hc
  go_enter Tryz.func31, Tryz.ntmps31
  go_wp2
  go_loopw [5, 6] (fun v i wr => ∃ (l : List Int) (g cap : Nat), l.length ≤ n ∧ i = .int .i64 l.length ∧ v = .slice (some ⟨g, 0, none⟩) l.length cap ∧ DrawN.Small l ∧ DrawN.Grow w B C l v wr) (fun _ i _ => n - (intOf i).toNat)
  case atStart => exact ⟨[], _, _, by simp, rfl, rfl, fun x hx => by simp at hx, hg0⟩
  case round =>
    clear hg0
    obtain ⟨l, g, cap, hln, rfl, rfl, hs, hg⟩ := hrel
    have HSM := Lib.hid hs
    by_cases hlt : l.length < n
    · have hbl := l1Below_int B C 6 wr hg.2.1 (by omega) (by omega)
      clear hs
      go_wp2_with fail
      refine hbl.mono ?_
      rintro e w3 ⟨x, hx, rfl, hd3⟩
      have hg3 := DrawN.drew hC hg hd3
      have hga := DrawN.alloc hg3 (.cells #[.int .i64 x] 3)
      have hcell : (w3.alloc (.cells #[.int .i64 x] 3)).cell? ⟨w3.heap.size, 0, none⟩ = some (.int .i64 x) := by simp
      have HC := Lib.hid (DrawN.one_cell hcell)
      clear hbl hg hg3 hd3 hcell
      go_wp2_with (at_builtin; refine wpList_append_own _ rfl (.tmp 13) (.tmp 16) 24 rfl w.heap.size 3 i0 (.int .i64 0) 1 8 Tryz.underlying24 hi0 hz0 hz1 HS.out rfl (by decide) _ l.length _ rfl hga.1 ⟨w3.heap.size, 0, none⟩ 1 1 [.int .i64 x] rfl rfl HC.out (DrawN.int_one _) ?c3 ?c4 ?c5 ?_)
      case c3 => unfold maxLen; omega
      case c4 => omega
      case c5 => exact hga.2.2.size
      intro v5 w5 ho5 hg5 _
      have hgm := Lib.hid (DrawN.more hC hga ho5 hg5)
      have hln2 : Hid ((l ++ [(x : Int)]).length = l.length + 1) := Lib.hid (by simp)
      have hsm2 : Hid (DrawN.Small (l ++ [(x : Int)])) := Lib.hid (DrawN.small_more HSM.out hx)
      rcases hgm.out.1.2 with ⟨_, h0⟩ | ⟨g5, cap5, cur, rfl, _, _, hcap, _⟩
      · have := hln2.out; omega
      · clear ho5 hg5 hga HC
        go_wp2
        refine ⟨⟨l ++ [(x : Int)], g5, cap5, by rw [hln2.out]; omega, by rw [hln2.out]; go_num, rfl, hsm2.out, hgm.out⟩, ?_⟩
        simp only [intOf]
        omega
    · have e : l.length = n := by omega
      clear hs
      go_wp2
      go_ret
      exact ⟨l, g, cap, rfl, ⟨e, HSM.out⟩, hg.1, hg.2⟩

set_option maxRecDepth 100000 in
set_option maxHeartbeats 2000000 in
theorem l6Few_any (B C : Nat) (n : Nat) (w : World) (hc : Cur w B C) (hn : n ≤ 200) :
    Calls Tryz.prog 71 #[.pointer (some ⟨C, 0, none⟩), .int .i64 n] w (DrawN.Ints B C (fun l => l.length ≤ n ∧ AscP l ∧ DrawN.Small l) w) := by
  have hC := hc.lt
  have hg0 : DrawN.Grow w B C [] (.slice (some ⟨w.heap.size, 0, none⟩) 0 0) (w.alloc (.cells #[] 3)) :=
    ⟨World.ownsRow_lit w #[] 0 (Nat.le_refl _) (by decide) rfl, (Drew.of hc).alloc _⟩
  clear hc
  have hbl := l1Below_int B C ((n : Int) + 1) _ hg0.2.1 (by omega) (by omega)
  go_enter Tryz.func71, Tryz.ntmps71
  go_wp2_with fail
  refine hbl.mono ?_
  rintro e w2 ⟨y, hy, rfl, hd2⟩
  have hg2 := DrawN.drew hC hg0 hd2
  clear hbl hg0 hd2
  go_wp2
  go_loopw [5, 6] (fun v i wr => ∃ (l : List Int) (g cap m : Nat), l.length + m ≤ n ∧ i = .int .i64 m ∧ v = .slice (some ⟨g, 0, none⟩) l.length cap ∧ AscP l ∧ DrawN.Small l ∧ DrawN.Grow w B C l v wr) (fun _ i _ => (intOf i).toNat)
  case atStart => exact ⟨[], _, _, y, by simp; omega, rfl, rfl, List.Pairwise.nil, fun x hx => by simp at hx, hg2⟩
  case round =>
    clear hg2
    obtain ⟨l, g, cap, m, hln, rfl, rfl, ha, hs, hg⟩ := hrel
    have HSM := Lib.hid hs
    have HAS := Lib.hid ha
    clear hs ha
    by_cases hlt : m = 0
    · subst hlt
      go_wp2
      go_ret
      exact ⟨l, g, cap, rfl, ⟨by omega, HAS.out, HSM.out⟩, hg.1, hg.2⟩
    · obtain ⟨j, rfl⟩ : ∃ j, m = j + 1 := ⟨m - 1, by omega⟩
      have hbl := l1Below_int B C 6 wr hg.2.1 (by omega) (by omega)
      clear hlt
      go_wp2_with fail
      refine hbl.mono ?_
      rintro e w3 ⟨x, hx, rfl, hd3⟩
      have hg3 := DrawN.drew hC hg hd3
      have hcap : l.length ≤ cap := by
        rcases hg3.1.2 with ⟨e1, _⟩ | ⟨g', cap', cur, e1, _, _, hcp, _⟩
        · simp at e1
        · simp only [Value.slice.injEq, Option.some.injEq, Addr.mk.injEq, and_true, true_and] at e1
          omega
      have hins := l1Insert_any w.heap.size g cap l (x : Int) w3 hg3.1 hcap (by omega) HAS.out
      clear hbl hg hd3 hcap
      go_wp2_with fail
      refine hins.mono ?_
      rintro e w4 ⟨g4, cap4, rfl, ho4, hb4⟩
      have hg4 : Hid (DrawN.Grow w B C (insL l (x : Int)) (.slice (some ⟨g4, 0, none⟩) (insL l (x : Int)).length cap4) w4) := Lib.hid ⟨ho4, DrawN.drew_grown hC hg3.2 (DrawN.grown_below hb4) (fun k hk => by cases hk)⟩
      have hl4 := DrawN.insL_len l (x : Int)
      have ha4 := Lib.hid (asc_insL l (x : Int) HAS.out)
      have hs4 := Lib.hid (DrawN.small_ins HSM.out hx)
      clear hins hg3 ho4 hb4
      go_wp2
      refine ⟨⟨insL l (x : Int), g4, cap4, j, by omega, by go_num, rfl, ha4.out, hs4.out, hg4.out⟩, ?_⟩
      simp only [intOf]
      omega
end Go.Proofs.YtnamlgacjhnpnaaGreat
end

section
namespace Go.Proofs.YtnamlgacjhnpnaaGreat
open Go.RowKit Go.Sort

end Go.Proofs.YtnamlgacjhnpnaaGreat
end

section
namespace Go.Proofs.YtnamlgacjhnpnaaGreat
open Go.RowKit Go.Sort

end Go.Proofs.YtnamlgacjhnpnaaGreat
end

section
namespace Go.Proofs.YtnamlgacjhnpnaaGreat
open Go.RowKit
set_option linter.unusedVariables false

/-- Whether all are atoms. -/
def atomsB (l : List Int) : Bool := l.all atomB
/-- Whether each is less than the next one. -/
def ascB (l : List Int) : Bool := (List.range l.length).all fun i => decide (i = 0) || decide (itAt l (i - 1) < itAt l i)
def constB (l : List Int) : Bool := decide (l.length ≤ 3) && (atomsB l && ascB l)
def tupB (l : List Int) : Bool := decide (l.length ≤ 4) && atomsB l

theorem atomsB_no {l : List Int} {k : Nat} (hk : k < l.length) (h : atomB (itAt l k) = false) : atomsB l = false := by
  cases hh : atomsB l with
  | false => rfl
  | true =>
    unfold atomsB at hh
    rw [List.all_eq_true] at hh
    have := hh l[k] (List.getElem_mem hk)
    rw [← itAt_get l k hk, h] at this
    cases this
theorem atomsB_yes {l : List Int} (h : ∀ k, k < l.length → atomB (itAt l k) = true) : atomsB l = true := by
  unfold atomsB
  rw [List.all_eq_true]
  intro a ha
  obtain ⟨k, hk, rfl⟩ := List.getElem_of_mem ha
  rw [← itAt_get l k hk]
  exact h k hk
theorem ascB_no {l : List Int} {k : Nat} (hk : k < l.length) (h0 : 0 < k) (h : ¬ itAt l (k - 1) < itAt l k) : ascB l = false := by
  cases hh : ascB l with
  | false => rfl
  | true =>
    unfold ascB at hh
    rw [List.all_eq_true] at hh
    have := hh k (List.mem_range.2 hk)
    simp only [Bool.or_eq_true, decide_eq_true_eq] at this
    rcases this with h1 | h1
    · omega
    · exact absurd h1 h
theorem ascB_yes {l : List Int} (h : ∀ k, 0 < k → k < l.length → itAt l (k - 1) < itAt l k) : ascB l = true := by
  unfold ascB
  rw [List.all_eq_true]
  intro k hk
  rw [List.mem_range] at hk
  simp only [Bool.or_eq_true, decide_eq_true_eq]
  rcases Nat.eq_zero_or_pos k with h0 | h0
  · exact .inl h0
  · exact .inr (h k h0 hk)
theorem ascB_at {l : List Int} (h : ascB l = true) {k : Nat} (h0 : 0 < k) (hk : k < l.length) : itAt l (k - 1) < itAt l k := by
  unfold ascB at h
  rw [List.all_eq_true] at h
  have := h k (List.mem_range.2 hk)
  simp only [Bool.or_eq_true, decide_eq_true_eq] at this
  rcases this with h1 | h1
  · omega
  · exact h1
theorem asc_lt {l : List Int} (h : ascB l = true) : ∀ (j i : Nat), i < j → j < l.length → itAt l i < itAt l j
  | 0, i, hi, _ => by omega
  | j + 1, i, hi, hj => by
    have h1 := ascB_at h (k := j + 1) (by omega) hj
    rw [Nat.add_sub_cancel] at h1
    rcases Nat.lt_or_ge i j with h2 | h2
    · have := asc_lt h j i h2 (by omega)
      omega
    · have e : i = j := by omega
      rw [e]; exact h1
theorem asc_nodup {l : List Int} (h : ascB l = true) : l.Nodup := by
  rw [List.nodup_iff_pairwise_ne, List.pairwise_iff_getElem]
  intro i j hi hj hij e
  have := asc_lt h j i hij hj
  rw [itAt_get l i hi, itAt_get l j hj, e] at this
  omega
theorem const_nodup {l : List Int} (h : constB l = true) : l.Nodup := by
  unfold constB at h
  simp only [Bool.and_eq_true] at h
  exact asc_nodup h.2.2

/-- One atom more: what has been seen, and the pattern so far. -/
def patStep (s : List Int × List Int) (a : Int) : List Int × List Int := (if hasB s.1 a then s.1 else s.1 ++ [a], s.2 ++ [((s.1.idxOf a : Nat) : Int)])
def patF (cs xs : List Int) : List Int × List Int := xs.foldl patStep (cs, [])
/-- The pattern of a tuple. -/
def patL (cs xs : List Int) : List Int := (patF cs xs).2
def seenL (cs xs : List Int) : List Int := (patF cs xs).1

theorem patF_next {cs xs : List Int} {k : Nat} (h : k < xs.length) : patF cs (xs.take (k + 1)) = patStep (patF cs (xs.take k)) (itAt xs k) := by
  rw [itake_next h]
  unfold patF
  rw [List.foldl_append]
  rfl
theorem patF_len (cs : List Int) : ∀ (xs : List Int) (s : List Int × List Int), (xs.foldl patStep s).2.length = s.2.length + xs.length ∧ (xs.foldl patStep s).1.length ≤ s.1.length + xs.length
  | [], s => by simp
  | a :: r, s => by
    obtain ⟨h1, h2⟩ := patF_len cs r (patStep s a)
    rw [List.foldl_cons, h1]
    refine ⟨by simp [patStep]; omega, ?_⟩
    refine Nat.le_trans h2 ?_
    unfold patStep
    dsimp only
    split <;> simp <;> omega
theorem patL_len (cs xs : List Int) : (patL cs xs).length = xs.length := by
  have := (patF_len cs xs (cs, [])).1
  simpa [patL, patF] using this
theorem seenL_len (cs xs : List Int) : (seenL cs xs).length ≤ cs.length + xs.length := (patF_len cs xs (cs, [])).2
theorem patL_next {cs xs : List Int} {k : Nat} (h : k < xs.length) : patL cs (xs.take (k + 1)) = patL cs (xs.take k) ++ [(((seenL cs (xs.take k)).idxOf (itAt xs k) : Nat) : Int)] := by
  unfold patL seenL
  rw [patF_next h]
  rfl
theorem seenL_in {cs xs : List Int} {k : Nat} (h : k < xs.length) (hs : hasB (seenL cs (xs.take k)) (itAt xs k) = true) : seenL cs (xs.take (k + 1)) = seenL cs (xs.take k) := by
  unfold seenL at hs ⊢
  rw [patF_next h]
  unfold patStep
  simp only [hs, if_true]
theorem seenL_out {cs xs : List Int} {k : Nat} (h : k < xs.length) (hs : hasB (seenL cs (xs.take k)) (itAt xs k) = false) : seenL cs (xs.take (k + 1)) = seenL cs (xs.take k) ++ [itAt xs k] := by
  unfold seenL at hs ⊢
  rw [patF_next h]
  unfold patStep
  simp [hs]
theorem hasB_mem {l : List Int} {a : Int} : hasB l a = true ↔ a ∈ l := by unfold hasB; exact List.contains_iff_mem
theorem hasB_not {l : List Int} {a : Int} : hasB l a = false ↔ a ∉ l := by
  constructor
  · intro h hm; rw [hasB_mem.2 hm] at h; cases h
  · intro h
    cases hh : hasB l a with
    | false => rfl
    | true => exact absurd (hasB_mem.1 hh) h
theorem idx_out {l : List Int} {a : Int} (h : hasB l a = false) : l.idxOf a = l.length := List.idxOf_eq_length (hasB_not.1 h)
theorem idx_in {l : List Int} {a : Int} (h : hasB l a = true) : l.idxOf a < l.length := List.idxOf_lt_length_iff.2 (hasB_mem.1 h)
theorem idx_at {l : List Int} {a : Int} (h : hasB l a = true) : itAt l (l.idxOf a) = a := by
  rw [itAt_get _ _ (idx_in h)]
  exact List.getElem_idxOf (idx_in h)
/-- The first place at which it is. -/
theorem idx_first {l : List Int} {a : Int} {k : Nat} (hk : k < l.length) (e : itAt l k = a) (hn : ∀ j, j < k → itAt l j ≠ a) : l.idxOf a = k ∧ hasB l a = true := by
  have hm : hasB l a = true := by rw [hasB_mem, ← e, itAt_get l k hk]; exact List.getElem_mem hk
  refine ⟨?_, hm⟩
  rcases Nat.lt_trichotomy (l.idxOf a) k with h1 | h1 | h1
  · exact absurd (idx_at hm) (hn _ h1)
  · exact h1
  · exfalso
    have h2 := List.not_of_lt_findIdx (p := fun x => x == a) (xs := l) (i := k) h1
    rw [itAt_get l k hk] at e
    simp [e] at h2
theorem idx_none {l : List Int} {a : Int} (hn : ∀ j, j < l.length → itAt l j ≠ a) : hasB l a = false := by
  rw [hasB_not]
  intro hm
  obtain ⟨k, hk, e⟩ := List.getElem_of_mem hm
  exact hn k hk (by rw [itAt_get l k hk]; exact e)

theorem seen_nodup {cs : List Int} (h : cs.Nodup) (xs : List Int) : (seenL cs xs).Nodup := by
  have : ∀ (ys : List Int) (s : List Int × List Int), s.1.Nodup → (ys.foldl patStep s).1.Nodup := by
    intro ys
    induction ys with
    | nil => intro s hs; exact hs
    | cons a r ih =>
      intro s hs
      rw [List.foldl_cons]
      refine ih _ ?_
      unfold patStep
      dsimp only
      cases ha : hasB s.1 a with
      | true => simpa using hs
      | false =>
        simp only [Bool.false_eq_true, if_false]
        rw [List.nodup_append]
        exact ⟨hs, by simp, fun x hx y hy e => by simp at hy; subst hy; exact hasB_not.1 ha (e ▸ hx)⟩
  exact this xs (cs, []) h

/-- The last place up to a bound at which it is. -/
def lastK (l : List Int) (a : Int) : Nat → Int
  | 0 => -1
  | k + 1 => if itAt l k = a then (k : Int) else lastK l a k
theorem lastK_same (l : List Int) (a : Int) {k : Nat} (e : itAt l k = a) : lastK l a (k + 1) = k := by rw [lastK, if_pos e]
theorem lastK_other (l : List Int) (a : Int) {k : Nat} (e : ¬ itAt l k = a) : lastK l a (k + 1) = lastK l a k := by rw [lastK, if_neg e]
theorem lastK_none {l : List Int} {a : Int} : ∀ {k : Nat}, (∀ j, j < k → itAt l j ≠ a) → lastK l a k = -1
  | 0, _ => rfl
  | k + 1, h => by rw [lastK, if_neg (h k (by omega)), lastK_none fun j hj => h j (by omega)]
theorem lastK_some {l : List Int} {a : Int} {i : Nat} : ∀ {k : Nat}, i < k → itAt l i = a → (∀ j, j < k → j ≠ i → itAt l j ≠ a) → lastK l a k = i
  | 0, h, _, _ => by omega
  | k + 1, h, e, hn => by
    rw [lastK]
    rcases Nat.lt_or_ge i k with h1 | h1
    · rw [if_neg (hn k (by omega) (by omega)), lastK_some h1 e fun j hj hne => hn j (by omega) hne]
    · have : i = k := by omega
      subst this
      rw [if_pos e]
theorem lastK_out {l : List Int} {a : Int} (h : hasB l a = false) : lastK l a l.length = -1 :=
  lastK_none fun j hj e => hasB_not.1 h (by rw [← e, itAt_get l j hj]; exact List.getElem_mem hj)
theorem lastK_in {l : List Int} {a : Int} (hd : l.Nodup) (h : hasB l a = true) : lastK l a l.length = (l.idxOf a : Nat) := by
  refine lastK_some (idx_in h) (idx_at h) fun j hj hne e => hne ?_
  rw [List.nodup_iff_pairwise_ne, List.pairwise_iff_getElem] at hd
  have h1 := idx_at h
  rw [itAt_get _ _ (idx_in h)] at h1
  rw [itAt_get _ _ hj] at e
  rcases Nat.lt_trichotomy j (l.idxOf a) with h2 | h2 | h2
  · exact absurd (e.trans h1.symm) (hd j _ hj (idx_in h) h2)
  · exact h2
  · exact absurd (h1.trans e.symm) (hd _ j (idx_in h) hj h2)
theorem lastK_ge (l : List Int) (a : Int) : ∀ k : Nat, -1 ≤ lastK l a k ∧ lastK l a k < k
  | 0 => by simp [lastK]
  | k + 1 => by
    have := lastK_ge l a k
    rw [lastK]
    split <;> omega
end Go.Proofs.YtnamlgacjhnpnaaGreat
end

