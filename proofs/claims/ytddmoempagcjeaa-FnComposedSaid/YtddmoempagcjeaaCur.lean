/-
  The cursor from which the model draws: what it gives is within its range, as contracts.
-/
import Derived.Test.YtddmoempagcjeaaInts
import Derived.WalkLawsBesides
import Derived.WalkSpells
import Derived.BigQuiet
import Derived.Lib.QuietBelow
namespace Go.Proofs.Ytddmoempagcjeaa
open Go.RowKit Go.Sort

/-- Bytes that lie below a block. -/
def BytesAt (w : World) (B : Nat) (A : Option Addr) (n : Nat) : Prop :=
  ∀ j, j < n → ∃ b off, ∃ x : Nat, A = some ⟨b, off, none⟩ ∧ b < B ∧ x ≤ 255 ∧ w.cell? ⟨b, off + j, none⟩ = some (.int .u8 x)

/-- A cursor in block C. -/
def Cur (w : World) (B C : Nat) : Prop :=
  ∃ (A : Option Addr) (n c i : Nat) (h : Int), w.heap[C]? = some (.cells #[.slice A n c, .int .i64 i, .int .i64 h] 136 (0, 0)) ∧ i ≤ n ∧ n ≤ 1048576 ∧ B ≤ C ∧ BytesAt w B A n

theorem and255 (n : Int) : bits .and .i64 n 255 = n % 256 := by
  have hm : (BitVec.ofInt 64 255).toNat = 2 ^ 8 - 1 := by decide
  have key : (BitVec.ofInt 64 n &&& BitVec.ofInt 64 255).toNat = (n % ((2 ^ 64 : Nat) : Int)).toNat % 2 ^ 8 := by
    rw [BitVec.toNat_and, BitVec.toNat_ofInt, hm, Nat.and_two_pow_sub_one_eq_mod]
  show IntKind.i64.wrap ((BitVec.ofInt 64 n &&& BitVec.ofInt 64 255).toNat : Nat) = n % 256
  rw [key, IntKind.wrap_i64]
  omega

theorem byte_of (n : Int) : ∃ x : Nat, bits .and .i64 n 255 = x ∧ x ≤ 255 := by
  rw [and255]
  exact ⟨(n % 256).toNat, by omega, by omega⟩

theorem BytesAt.keep {w w' : World} {B : Nat} {A : Option Addr} {n : Nat} (h : BytesAt w B A n) (hk : ∀ k, k < B → w'.heap[k]? = w.heap[k]?) : BytesAt w' B A n := by
  intro j hj
  obtain ⟨b, off, x, e, hb, hx, hc⟩ := h j hj
  exact ⟨b, off, x, e, hb, hx, (World.cell?_of_block (w := w) (a := ⟨b, off + j, none⟩) (hk b hb)).trans hc⟩

set_option maxRecDepth 100000 in
set_option maxHeartbeats 1000000 in
theorem l1Byte_any (B C : Nat) (w : World) (hc : Cur w B C) :
    Calls Try.prog 128 #[.pointer (some ⟨C, 0, none⟩)] w fun e w' => ∃ x : Nat, x ≤ 255 ∧ e = .returned (.int .i64 x) ∧ Cur w' B C ∧ w.grownBy w' (some C) := by
  obtain ⟨A, n, c, i, h, hblk, hi, hn, hB, hbytes⟩ := hc
  have hlt0 : C < w.heap.size := (Array.getElem?_eq_some_iff.1 hblk).1
  have d0 : w.cell? ⟨C, 0, none⟩ = some (.slice A n c) := by rw [cell_of_row w C 0 _ _ _ hblk]; rfl
  have d1 : w.cell? ⟨C, 1, none⟩ = some (.int .i64 i) := by rw [cell_of_row w C 1 _ _ _ hblk]; rfl
  have d2 : w.cell? ⟨C, 2, none⟩ = some (.int .i64 h) := by rw [cell_of_row w C 2 _ _ _ hblk]; rfl
  have f1 : w.frozen? ⟨C, 1, none⟩ = false := frozen_of_row w C 1 _ _ hblk
  have f2 : w.frozen? ⟨C, 2, none⟩ = false := frozen_of_row w C 2 _ _ hblk
  go_enter Try.func128, Try.ntmps128
  go_wp2
  have hb1 : w.grownBy (w.setCell ⟨C, 2, none⟩ (.int .i64 (wrap64 (wrap64 (h * 6364136223846793005) + 1442695040888963407)))) (some C) :=
    ⟨rfl, rfl, rfl, by simp, fun k _ hk => heap_setCell_other w ⟨C, 2, none⟩ k _ (fun e => hk (by simp [e]))⟩
  have hblk1 := heap_setCell_same w C 2 _ _ (.int .i64 (wrap64 (wrap64 (h * 6364136223846793005) + 1442695040888963407))) hblk
  generalize wrap64 (wrap64 (h * 6364136223846793005) + 1442695040888963407) = h1 at hb1 hblk1 ⊢
  generalize w.setCell ⟨C, 2, none⟩ (.int .i64 h1) = w1 at hb1 hblk1 ⊢
  have hblk2 : w1.heap[C]? = some (.cells #[.slice A n c, .int .i64 i, .int .i64 h1] 136 (0, 0)) := hblk1
  clear d0 d1 d2 f1 f2 hblk hblk1
  have d0 : w1.cell? ⟨C, 0, none⟩ = some (.slice A n c) := by rw [cell_of_row w1 C 0 _ _ _ hblk2]; rfl
  have d1 : w1.cell? ⟨C, 1, none⟩ = some (.int .i64 i) := by rw [cell_of_row w1 C 1 _ _ _ hblk2]; rfl
  have d2 : w1.cell? ⟨C, 2, none⟩ = some (.int .i64 h1) := by rw [cell_of_row w1 C 2 _ _ _ hblk2]; rfl
  have q2 := fun d os => cell_regrown d2 d os
  have hb0 : Below w1.heap.size w1 w1 := Below.refl _ _
  refine wp_region_quiet_below (by kernel_rfl) (by kernel_rfl) ?_
  repeat (any_goals (first | go_big_quiet_step (fail) | quiet_step (fail)))
  refine wpQuiet_nil ?_
  intro _ hw'
  obtain ⟨⟨dq, osq⟩, hw''⟩ := hw'
  subst hw''
  have hb3 := hb0.trans ((below_regrown w1 dq osq).mono hb0.size)
  generalize grow (redrawn w1 dq) osq = w2 at hb3 ⊢
  clear q2 hb0
  obtain ⟨x, ex, hx⟩ := byte_of (bits BinOp.xor IntKind.i64 (h1 / 34359738368) (h1 / 35184372088832))
  rw [ex]
  clear ex
  have hCl : C < w1.heap.size := (Array.getElem?_eq_some_iff.1 hblk2).1
  have hblk3 : w2.heap[C]? = some (.cells #[.slice A n c, .int .i64 i, .int .i64 h1] 136 (0, 0)) := (hb3.block C hCl).trans hblk2
  have hg3 : w.grownBy w2 (some C) := grownBy_trans hb1 (grown_of_below hb3 _)
  clear hb1 hb3 hblk2 d0 d1 d2 hCl
  have d0 : w2.cell? ⟨C, 0, none⟩ = some (.slice A n c) := by rw [cell_of_row w2 C 0 _ _ _ hblk3]; rfl
  have d1 : w2.cell? ⟨C, 1, none⟩ = some (.int .i64 i) := by rw [cell_of_row w2 C 1 _ _ _ hblk3]; rfl
  have hby2 : BytesAt w2 B A n := hbytes.keep fun k hk => hg3.block k (by omega) (fun e => by injection e with e; omega)
  have q0 := fun d os => cell_regrown d0 d os
  have q1 := fun d os => cell_regrown d1 d os
  have hbz : Below w2.heap.size w2 w2 := Below.refl _ _
  go_wp2
  by_cases hlt : i < n
  · obtain ⟨b1, o1, y, rfl, hb1, hy, hcy⟩ := hby2 i hlt
    refine wp_region_quiet_below (by kernel_rfl) (by kernel_rfl) ?_
    repeat (any_goals (first | go_big_quiet_step (fail) | quiet_step (fail)))
    refine wpQuiet_nil ?_
    intro _ hw'
    obtain ⟨⟨dq, osq⟩, hw''⟩ := hw'
    subst hw''
    have hb6 := hbz.trans ((below_regrown w2 dq osq).mono hbz.size)
    generalize grow (redrawn w2 dq) osq = w3 at hb6 ⊢
    clear q0 q1 hbz
    have hCl : C < w2.heap.size := (Array.getElem?_eq_some_iff.1 hblk3).1
    have hblk4 : w3.heap[C]? = some (.cells #[.slice (some ⟨b1, o1, none⟩) n c, .int .i64 i, .int .i64 h1] 136 (0, 0)) := (hb6.block C hCl).trans hblk3
    have hg4 : w.grownBy w3 (some C) := grownBy_trans hg3 (grown_of_below hb6 _)
    have hby3 : BytesAt w3 B (some ⟨b1, o1, none⟩) n := hby2.keep fun k hk => hb6.block k (by omega)
    have hcy3 : w3.cell? ⟨b1, o1 + i, none⟩ = some (.int .u8 y) := (hb6.cell (p := ⟨b1, o1 + i, none⟩) (by show b1 < _; omega)).trans hcy
    clear hb6 hblk3 hg3 hby2 d0 d1 hbytes hcy
    have d0 : w3.cell? ⟨C, 0, none⟩ = some (.slice (some ⟨b1, o1, none⟩) n c) := by rw [cell_of_row w3 C 0 _ _ _ hblk4]; rfl
    have d1 : w3.cell? ⟨C, 1, none⟩ = some (.int .i64 i) := by rw [cell_of_row w3 C 1 _ _ _ hblk4]; rfl
    have q0 := fun d os => cell_regrown d0 d os
    have q1 := fun d os => cell_regrown d1 d os
    have qb := fun d os => cell_regrown hcy3 d os
    have hbz2 : Below w3.heap.size w3 w3 := Below.refl _ _
    clear hcy3
    go_wp2
    refine wp_region_quiet_below (by kernel_rfl) (by kernel_rfl) ?_
    repeat (any_goals (first | go_big_quiet_step (fail) | quiet_step (fail)))
    refine wpQuiet_nil ?_
    intro _ hw'
    obtain ⟨⟨dq, osq⟩, hw''⟩ := hw'
    subst hw''
    have hb7 := hbz2.trans ((below_regrown w3 dq osq).mono hbz2.size)
    generalize grow (redrawn w3 dq) osq = w4 at hb7 ⊢
    clear q0 q1 qb hbz2
    have hCl4 : C < w3.heap.size := (Array.getElem?_eq_some_iff.1 hblk4).1
    have hblk5 : w4.heap[C]? = some (.cells #[.slice (some ⟨b1, o1, none⟩) n c, .int .i64 i, .int .i64 h1] 136 (0, 0)) := (hb7.block C hCl4).trans hblk4
    have hg5 : w.grownBy w4 (some C) := grownBy_trans hg4 (grown_of_below hb7 _)
    have hby4 : BytesAt w4 B (some ⟨b1, o1, none⟩) n := hby3.keep fun k hk => hb7.block k (by omega)
    clear hb7 hblk4 hg4 hby3 d0 d1
    have d1 : w4.cell? ⟨C, 1, none⟩ = some (.int .i64 i) := by rw [cell_of_row w4 C 1 _ _ _ hblk5]; rfl
    have f1 : w4.frozen? ⟨C, 1, none⟩ = false := frozen_of_row w4 C 1 _ _ hblk5
    have hst := heap_setCell_same w4 C 1 _ _ (.int .i64 ((i : Int) + 1)) hblk5
    have hg6 : w.grownBy (w4.setCell ⟨C, 1, none⟩ (.int .i64 ((i : Int) + 1))) (some C) := grownBy_trans hg5
      ⟨rfl, rfl, rfl, by simp, fun k _ hk => heap_setCell_other w4 ⟨C, 1, none⟩ k _ (fun e => hk (by simp [e]))⟩
    have hby5 : BytesAt (w4.setCell ⟨C, 1, none⟩ (.int .i64 ((i : Int) + 1))) B (some ⟨b1, o1, none⟩) n := hby4.keep fun k hk => heap_setCell_other w4 ⟨C, 1, none⟩ k _ (fun e => by have : k = C := e; omega)
    have hpost : Cur (w4.setCell ⟨C, 1, none⟩ (.int .i64 ((i : Int) + 1))) B C := ⟨some ⟨b1, o1, none⟩, n, c, i + 1, h1, hst, hlt, hn, hB, hby5⟩
    obtain ⟨x2, ex2, hx2⟩ := byte_of ((x : Int) + (y : Int))
    clear hst hg5 hby4 hby5 hblk5
    go_wp2
    rw [ex2]
    go_ret
    exact ⟨x2, hx2, rfl, hpost, hg6⟩
  · have hge : n ≤ i := by omega
    refine wp_region_quiet_below (by kernel_rfl) (by kernel_rfl) ?_
    repeat (any_goals (first | go_big_quiet_step (fail) | quiet_step (fail)))
    refine wpQuiet_nil ?_
    intro _ hw'
    obtain ⟨⟨dq, osq⟩, hw''⟩ := hw'
    subst hw''
    have hb6 := hbz.trans ((below_regrown w2 dq osq).mono hbz.size)
    generalize grow (redrawn w2 dq) osq = w3 at hb6 ⊢
    clear q0 q1 hbz
    have hCl : C < w2.heap.size := (Array.getElem?_eq_some_iff.1 hblk3).1
    have hblk4 : w3.heap[C]? = some (.cells #[.slice A n c, .int .i64 i, .int .i64 h1] 136 (0, 0)) := (hb6.block C hCl).trans hblk3
    have hg4 : w.grownBy w3 (some C) := grownBy_trans hg3 (grown_of_below hb6 _)
    have hby3 : BytesAt w3 B A n := hby2.keep fun k hk => hb6.block k (by omega)
    have hpost : Cur w3 B C := ⟨A, n, c, i, h1, hblk4, hi, hn, hB, hby3⟩
    clear hb6 hblk3 hblk4 hg3 hby2 hby3 d0 d1 hbytes
    go_wp2
    go_ret
    exact ⟨x, hx, rfl, hpost, hg4⟩

/-- Cursors go on. -/
def Drew (B C : Nat) (w w' : World) : Prop := Cur w' B C ∧ w.grownBy w' (some C)

theorem drew_trans {B C : Nat} {a b c : World} (h : a.grownBy b (some C)) (k : Drew B C b c) : Drew B C a c := ⟨k.1, grownBy_trans h k.2⟩

set_option maxRecDepth 100000 in
set_option maxHeartbeats 1000000 in
theorem l1Below_any (B C : Nat) (n : Nat) (w : World) (hc : Cur w B C) (h0 : 0 < n) (h1 : n ≤ 256) :
    Calls Try.prog 99 #[.pointer (some ⟨C, 0, none⟩), .int .i64 n] w fun e w' => ∃ x : Nat, x < n ∧ e = .returned (.int .i64 x) ∧ Drew B C w w' := by
  have hb := l1Byte_any B C w hc
  clear hc
  go_enter Try.func99, Try.ntmps99
  go_wp2_with fail
  refine hb.mono ?_
  rintro e w1 ⟨x, hx, rfl, hc1, hg1⟩
  have hr : Hid (((x : Int) % (n : Int)) = ((x % n : Nat) : Int)) := by show ((x : Int) % (n : Int)) = ((x % n : Nat) : Int); omega
  have hm := Nat.mod_lt x h0
  clear hb
  go_wp2
  go_ret
  exact ⟨x % n, hm, int_end hr.out, hc1, hg1⟩

theorem Cur.keep {w w' : World} {B C : Nat} (h : Cur w B C) (hk : ∀ k, k < w.heap.size → w'.heap[k]? = w.heap[k]?) : Cur w' B C := by
  obtain ⟨A, n, c, i, h1, hblk, hi, hn, hB, hby⟩ := h
  have hC : C < w.heap.size := (Array.getElem?_eq_some_iff.1 hblk).1
  exact ⟨A, n, c, i, h1, (hk C hC).trans hblk, hi, hn, hB, hby.keep fun k hk' => hk k (by omega)⟩

theorem Cur.alloc {w : World} {B C : Nat} (h : Cur w B C) (o : Obj) : Cur (w.alloc o) B C := h.keep fun k hk => Below.heap_alloc w o k hk

theorem Cur.lt {w : World} {B C : Nat} (h : Cur w B C) : C < w.heap.size := by
  obtain ⟨A, n, c, i, h1, hblk, _⟩ := h
  exact (Array.getElem?_eq_some_iff.1 hblk).1

theorem Drew.alloc {B C : Nat} {a w : World} (h : Drew B C a w) (o : Obj) : Drew B C a (w.alloc o) := ⟨h.1.alloc o, grownBy_trans h.2 (World.grownBy_alloc w o _)⟩
theorem Drew.of {B C : Nat} {w : World} (h : Cur w B C) : Drew B C w w := ⟨h, World.grownBy.refl _ _⟩
theorem Drew.trans {B C : Nat} {a b c : World} (h : Drew B C a b) (k : Drew B C b c) : Drew B C a c := ⟨k.1, grownBy_trans h.2 k.2⟩

theorem l1Below_int (B C : Nat) (n : Int) (w : World) (hc : Cur w B C) (h0 : 0 < n) (h1 : n ≤ 256) :
    Calls Try.prog 99 #[.pointer (some ⟨C, 0, none⟩), .int .i64 n] w fun e w' => ∃ x : Nat, (x : Int) < n ∧ e = .returned (.int .i64 x) ∧ Drew B C w w' := by
  obtain ⟨m, rfl⟩ := Int.eq_ofNat_of_zero_le (show 0 ≤ n by omega)
  refine (l1Below_any B C m w hc (by omega) (by omega)).mono ?_
  rintro e w' ⟨x, hx, he, hd⟩
  exact ⟨x, by omega, he, hd⟩

theorem l1Once_any (B C : Nat) (n : Int) (w : World) (hc : Cur w B C) (h0 : 0 < n) (h1 : n ≤ 256) :
    Calls Try.prog 102 #[.pointer (some ⟨C, 0, none⟩), .int .i64 n] w fun e w' => ∃ b : Bool, e = .returned (.bool b) ∧ Drew B C w w' := by
  have hb := l1Below_int B C n w hc h0 h1
  clear hc
  go_enter Try.func102, Try.ntmps102
  go_wp2_with fail
  refine hb.mono ?_
  rintro e w1 ⟨x, hx, rfl, hd⟩
  clear hb
  go_wp2
  go_ret
  exact ⟨_, rfl, hd⟩

theorem l1Int_any (B C g c : Nat) (l : List Int) (w : World) (hc : Cur w B C) (hl : IntsAt w (some ⟨g, 0, none⟩) l) (hg : g ≠ C) (h0 : 0 < l.length) (h1 : l.length ≤ 256) :
    Calls Try.prog 103 #[.pointer (some ⟨C, 0, none⟩), .slice (some ⟨g, 0, none⟩) l.length c] w fun e w' => ∃ x : Int, x ∈ l ∧ e = .returned (.int .i64 x) ∧ Drew B C w w' := by
  have hb := l1Below_int B C l.length w hc (by omega) (by omega)
  clear hc
  go_enter Try.func103, Try.ntmps103
  go_wp2_with fail
  refine hb.mono ?_
  rintro e w1 ⟨x, hx, rfl, hd⟩
  have hx' : x < l.length := by omega
  obtain ⟨b, off, e, hlt, hcell⟩ := hl (by omega)
  simp only [Option.some.injEq, Addr.mk.injEq, and_true] at e
  obtain ⟨rfl, rfl⟩ := e
  have c1 := hcell x hx'
  rw [Nat.zero_add] at c1
  have c2 : w1.cell? ⟨g, x, none⟩ = some (.int .i64 (itAt l x)) := hd.2.cell (a := ⟨g, x, none⟩) c1 (fun e => hg (by injection e))
  have hmem : Hid (itAt l x ∈ l) := by
    show itAt l x ∈ l
    rw [itAt_get l x hx']
    exact List.getElem_mem hx'
  generalize itAt l x = y at c2 hmem
  clear hb hcell c1 hl
  go_wp2
  go_ret
  exact ⟨y, hmem.out, rfl, hd⟩

/-- A new list of numbers in a block. -/
theorem intsAt_new (w : World) (l : List Int) (cs : Array Value) (h : cs.toList = icells l) : IntsAt (w.alloc (.cells cs 3)) (some ⟨w.heap.size, 0, none⟩) l := by
  intro _
  refine ⟨w.heap.size, 0, rfl, by simp, fun i hi => ?_⟩
  rw [Nat.zero_add, cell_of_row _ w.heap.size i cs 3 (0, 0) (heap_alloc_new w _), ← Array.getElem?_toList, h]
  exact icells_at l i hi

theorem atomDraw_any (B C : Nat) (w : World) (hc : Cur w B C) :
    Calls Try.prog 60 #[.pointer (some ⟨C, 0, none⟩)] w fun e w' => ∃ x : Int, (0 ≤ x ∧ x ≤ 999) ∧ e = .returned (.int .i64 x) ∧ Drew B C w w' := by
  have hb := l1Once_any B C 14 w hc (by omega) (by omega)
  clear hc
  go_enter Try.func60, Try.ntmps60
  go_wp2_with fail
  refine hb.mono ?_
  rintro e w1 ⟨b, rfl, hd⟩
  clear hb
  cases b with
  | true =>
    have hd2 := hd.alloc (.cells #[.int .i64 999, .int .i64 998, .int .i64 50, .int .i64 10] 3)
    have hi := l1Int_any B C w1.heap.size 4 [999, 998, 50, 10] _ hd2.1 (intsAt_new w1 [999, 998, 50, 10] _ rfl) (by have := hd.1.lt; omega) (by decide) (by decide)
    go_wp2_with fail
    refine hi.mono ?_
    rintro e w2 ⟨x, hx, rfl, hd3⟩
    have hd4 := hd2.trans hd3
    have hr : 0 ≤ x ∧ x ≤ 999 := by simp at hx; omega
    clear hi hd hd2 hd3 hx
    go_wp2
    go_ret
    exact ⟨x, hr, rfl, hd4⟩
  | false =>
    have hi := l1Below_int B C 7 w1 hd.1 (by omega) (by omega)
    go_wp2_with fail
    refine hi.mono ?_
    rintro e w2 ⟨x, hx, rfl, hd3⟩
    have hd4 := hd.trans hd3
    clear hi hd hd3
    go_wp2
    go_ret
    exact ⟨x, by omega, rfl, hd4⟩
/-- A slice of bytes that came in. -/
def BytesIn (w : World) (A : Option Addr) (n : Nat) : Prop := BytesAt w w.heap.size A n

theorem newCur {A : Option Addr} {n c : Nat} {w : World} (x : Int) (hA : BytesIn w A n) (hn : n ≤ 1048576) :
    Cur (w.alloc (.cells #[.slice A n c, .int .i64 0, .int .i64 x] 136)) w.heap.size w.heap.size :=
  ⟨A, n, c, 0, x, heap_alloc_new w _, Nat.zero_le _, hn, Nat.le_refl _, BytesAt.keep hA fun k hk => Below.heap_alloc w _ k hk⟩

set_option maxRecDepth 100000 in
set_option maxHeartbeats 1000000 in
theorem l1New_any (A : Option Addr) (n c : Nat) (w : World) (hA : BytesIn w A n) (hn : n ≤ 1048576) :
    Calls Try.prog 58 #[.slice A n c] w fun e w' => ∃ C, e = .returned (.pointer (some ⟨C, 0, none⟩)) ∧ Cur w' w.heap.size C ∧ Below w.heap.size w w' := by
  have HA := Lib.hid hA
  clear hA
  go_enter Try.func58, Try.ntmps58
  go_wp2
  go_loop [3, 4] (fun h i => ∃ (k : Nat) (x : Int), k ≤ n ∧ i = .int .i64 k ∧ h = .int .i64 x) (fun _ i => n - (intOf i).toNat)
  case atStart => exact ⟨0, _, Nat.zero_le _, rfl, rfl⟩
  case round =>
    obtain ⟨k, x, hk, rfl, rfl⟩ := hrel
    by_cases hlt : k < n
    · by_cases h4 : k < 4000
      · obtain ⟨b, off, y, rfl, hb, hy, hcy⟩ := HA.out k hlt
        go_wp2
        go_round
        case rel => exact ⟨k + 1, _, by omega, by go_num, rfl⟩
        case measure => simp [intOf]; omega
      · have h5 : 4000 ≤ k := by omega
        have hpost := newCur x HA.out hn (c := c)
        go_wp2
        go_ret
        exact ⟨w.heap.size, rfl, hpost, (Below.refl _ _).alloc (Nat.le_refl _) _⟩
    · have hpost := newCur x HA.out hn (c := c)
      go_wp2
      go_ret
      exact ⟨w.heap.size, rfl, hpost, (Below.refl _ _).alloc (Nat.le_refl _) _⟩

end Go.Proofs.Ytddmoempagcjeaa
