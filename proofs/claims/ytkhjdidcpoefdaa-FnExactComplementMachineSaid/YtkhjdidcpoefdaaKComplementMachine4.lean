/-
  The law's own copies of an argument: its size is counted, each pair is copied, as contracts. Numbering the cells of a list of pairs, and looking whether they are still numbered so, as contracts. Numbering the cells of terms, and looking whether they are still numbered so, as contracts. Numbering the cells of a list of pairs, and looking whether they are still numbered so, as contracts.
-/
import Derived.Test.YtkhjdidcpoefdaaKComplementMachine1
import Derived.WalkLawsBesides
import Derived.WalkSpells
import Derived.Test.YtkhjdidcpoefdaaKComplementMachine3
section
namespace Go.Proofs.Ytkhjdidcpoefdaa
open Go.RowKit

end Go.Proofs.Ytkhjdidcpoefdaa
end

section
namespace Go.Proofs.Ytkhjdidcpoefdaa
open Go.RowKit

end Go.Proofs.Ytkhjdidcpoefdaa
end

section
namespace Go.Proofs.Ytkhjdidcpoefdaa
open Go.RowKit

/-- Of what was there only some blocks have turned. -/
structure Only (S : List Nat) (w w' : World) : Prop where
  os : w'.os = w.os
  tape : w'.tape = w.tape
  output : w'.output = w.output
  size : w.heap.size ≤ w'.heap.size
  block : ∀ k, k < w.heap.size → k ∉ S → w'.heap[k]? = w.heap[k]?

theorem Only.refl (S : List Nat) (w : World) : Only S w w := ⟨rfl, rfl, rfl, Nat.le_refl _, fun _ _ _ => rfl⟩
theorem Only.trans {S : List Nat} {a b c : World} (h : Only S a b) (k : Only S b c) : Only S a c :=
  ⟨k.os.trans h.os, k.tape.trans h.tape, k.output.trans h.output, Nat.le_trans h.size k.size, fun i hi hn => (k.block i (Nat.lt_of_lt_of_le hi h.size) hn).trans (h.block i hi hn)⟩
theorem Only.wide {S T : List Nat} {a b : World} (h : Only S a b) (hs : ∀ k ∈ S, k ∈ T) : Only T a b :=
  ⟨h.os, h.tape, h.output, h.size, fun i hi hn => h.block i hi fun hs' => hn (hs i hs')⟩
theorem Only.of_grown {S : List Nat} {a b : World} {row : Option Nat} (h : a.grownBy b row) (hs : ∀ k, row = some k → k ∈ S) : Only S a b :=
  ⟨h.os, h.tape, h.output, h.size, fun i hi hn => h.block i hi fun e => hn (hs i e.symm)⟩
theorem Only.set {S : List Nat} {a w : World} (h : Only S a w) (p : Addr) (u : Value) (hp : p.block ∈ S) : Only S a (w.setCell p u) := by
  have hb := Below.setCell (Below.refl 0 w) (p := p) (Nat.zero_le _) u
  exact ⟨hb.os.trans h.os, hb.tape.trans h.tape, hb.output.trans h.output, Nat.le_trans h.size hb.size, fun i hi hn => (Below.heap_setCell w p u i (fun e => hn (by rw [e]; exact hp))).trans (h.block i hi hn)⟩
theorem Only.below {S : List Nat} {B : Nat} {a w w' : World} (hb : Below B a w) (h : Only S w w') (hB : B ≤ w.heap.size) (hs : ∀ k ∈ S, B ≤ k) : Below B a w' :=
  ⟨h.os.trans hb.os, h.tape.trans hb.tape, h.output.trans hb.output, Nat.le_trans hb.size h.size, fun k hk => (h.block k (by omega) fun hm => by have := hs k hm; omega).trans (hb.block k hk)⟩

theorem only_of_below {S : List Nat} {w w' : World} (h : Below w.heap.size w w') : Only S w w' := Only.of_grown (grown_of_below h none) (fun k e => by cases e)

/-- A row of other blocks stays while those of a term are written. -/
theorem own_only {S : List Nat} {w w' : World} {base : Nat} {e : TypeId} {size n : Nat} {v : Value} {xs : List Value} (h : w.ownsRow base e size v n xs) (ho : Only S w w') (hn : ∀ k, v.ownBlock = some k → k ∉ S) : w'.ownsRow base e size v n xs := by
  refine ⟨h.1, ?_⟩
  rcases h.2 with hz | ⟨g, cap, cur, rfl, hb, hc, rest⟩
  · exact .inl hz
  · refine .inr ⟨g, cap, cur, rfl, hb, ?_, rest⟩
    rw [ho.block g (Array.getElem?_eq_some_iff.1 hc).1 (hn g rfl)]
    exact hc

/-- Pairs numbered from k on. -/
def mkP (k : Int) : List (Int × Int) → List (Int × Int)
  | [] => []
  | _ :: r => (k, k + 1) :: mkP (k + 2) r

mutual
/-- How many numbers a term in a list takes. -/
def mcT : Tm → Nat
  | .mk _ _ p ks => 2 + p.length * 2 + mcTs ks
def mcTs : List Tm → Nat
  | [] => 0
  | t :: r => mcT t + mcTs r
end
mutual
/-- Terms numbered from k on. -/
def mkT (k : Int) : Tm → Tm
  | .mk _ _ p ks => .mk k (k + 1) (mkP (k + 1 + 1) p) (mkTs (k + 1 + 1 + p.length * 2) ks)
def mkTs (k : Int) : List Tm → List Tm
  | [] => []
  | t :: r => mkT k t :: mkTs (k + mcT t) r
end

end Go.Proofs.Ytkhjdidcpoefdaa
end

section
namespace Go.Proofs.Ytkhjdidcpoefdaa
open Go.RowKit

set_option maxHeartbeats 400000 in
theorem markMoveS_row (base g n cap : Nat) (xs : List Value) (k : Int) (w : World) (hown : w.ownsRow base 70 2 (.slice (some ⟨g, 0, none⟩) n cap) n xs) (hk0 : 0 ≤ k) (hk1 : k + n * 2 ≤ 9223372036854775807) (hn : n ≤ 9223372036854775807) :
    Calls Try.prog 65 #[.slice (some ⟨g, 0, none⟩) n cap, .int .i64 k] w
      fun e w' => e = .returned (.int .i64 (k + n * 2)) ∧ w'.ownsRow base 70 2 (.slice (some ⟨g, 0, none⟩) n cap) n (marked k (n * 2)) ∧ w.grownBy w' (some g) := by
  have hlen := Lib.hid hown.1
  have hm0 := markTo_zero k xs
  go_enter Try.func65, Try.ntmps65
  go_wp2
  go_loopw [1, 5] (fun kk i wr => ∃ j : Nat, j ≤ n ∧ i = .int .i64 j ∧ kk = .int .i64 (k + j * 2) ∧ wr.ownsRow base 70 2 (.slice (some ⟨g, 0, none⟩) n cap) n (markTo k (j * 2) xs) ∧ w.grownBy wr (some g)) (fun _ i _ => n - (intOf i).toNat)
  case atStart => exact ⟨0, Nat.zero_le _, rfl, by simp, by simpa [hm0] using hown, World.grownBy.refl _ _⟩
  case round =>
    obtain ⟨j, hj, rfl, rfl, ho, hg⟩ := hrel
    have hl2 : (markTo k (j * 2) xs).length = n * 2 := by rw [markTo_len]; exact hlen.out
    by_cases hlt : j < n
    · have c0 := ho.cellAt (j * 2) (by omega)
      have c1 := ho.cellAt (j * 2 + 1) (by omega)
      have f0 := ho.frozenAt (j * 2)
      have f1 := ho.frozenAt (j * 2 + 1)
      rw [markTo_at k _ xs _ (by rw [hlen.out]; omega)] at c0 c1
      obtain ⟨v0, e0⟩ : ∃ v, wr.cell? ⟨g, j * 2, none⟩ = some v := ⟨_, c0⟩
      obtain ⟨v1, e1⟩ : ∃ v, wr.cell? ⟨g, j * 2 + 1, none⟩ = some v := ⟨_, c1⟩
      clear c0 c1
      obtain ⟨ho1, hg1⟩ := ho.stored (j * 2) (.int .i64 (k + j * 2))
      obtain ⟨ho2, hg2⟩ := ho1.stored (j * 2 + 1) (.int .i64 (k + j * 2 + 1))
      have n1 : k + (j : Int) * 2 = k + (j * 2 : Nat) := by omega
      have n2 : k + (j : Int) * 2 + 1 = k + (j * 2 + 1 : Nat) := by omega
      have es : ((markTo k (j * 2) xs).set (j * 2) (.int .i64 (k + j * 2))).set (j * 2 + 1) (.int .i64 (k + j * 2 + 1)) = markTo k ((j + 1) * 2) xs := by
        rw [n2, n1, markTo_set, markTo_set]; congr 1; omega
      rw [es] at ho2
      clear es n1 n2
      have hg3 := grownBy_trans hg (grownBy_trans hg1 hg2)
      clear ho1 hg1 hg2 hg ho hl2
      go_wp2
      refine ⟨⟨j + 1, by omega, by go_num, by go_num, ho2, hg3⟩, ?_⟩
      simp [intOf]; omega
    · have ej : j = n := by omega
      subst ej
      rw [markTo_all k _ xs hlen.out] at ho
      go_wp2
      go_ret
      exact ⟨rfl, ho, hg⟩

set_option maxHeartbeats 400000 in
theorem heldMoveS_row (base g n cap : Nat) (k : Int) (w : World) (hown : w.ownsRow base 70 2 (.slice (some ⟨g, 0, none⟩) n cap) n (marked k (n * 2))) (hk0 : 0 ≤ k) (hk1 : k + n * 2 ≤ 9223372036854775807) (hn : n ≤ 9223372036854775807) :
    Calls Try.prog 69 #[.slice (some ⟨g, 0, none⟩) n cap, .int .i64 k] w
      fun e w' => e = .returned (.int .i64 (k + n * 2)) ∧ w = w' := by
  go_enter Try.func69, Try.ntmps69
  go_wp2
  go_loop [1, 5] (fun kk i => ∃ j : Nat, j ≤ n ∧ i = .int .i64 j ∧ kk = .int .i64 (k + j * 2)) (fun _ i => n - (intOf i).toNat)
  case atStart => exact ⟨0, Nat.zero_le _, rfl, by simp⟩
  case round =>
    obtain ⟨j, hj, rfl, rfl⟩ := hrel
    by_cases hlt : j < n
    · have c0 := hown.cellAt (j * 2) (by omega)
      have c1 := hown.cellAt (j * 2 + 1) (by omega)
      rw [marked_at k _ _ (by omega)] at c0 c1
      have n1 : k + (j * 2 : Nat) = k + (j : Int) * 2 := by omega
      have n2 : k + (j * 2 + 1 : Nat) = k + (j : Int) * 2 + 1 := by omega
      rw [n1] at c0
      rw [n2] at c1
      clear n1 n2 hown
      have t0 : (k + (j : Int) * 2 != k + (j : Int) * 2) = false := by simp
      have t1 : (k + (j : Int) * 2 + 1 != k + (j : Int) * 2 + 1) = false := by simp
      go_wp2
      go_round
      case rel => exact ⟨j + 1, by omega, by go_num, by go_num⟩
      case measure => simp [intOf]; omega
    · have ej : j = n := by omega
      subst ej
      clear hown
      go_wp2
      go_ret
      exact ⟨rfl, rfl⟩

theorem markMoveS_none (k : Int) (w : World) :
    Calls Try.prog 65 #[.slice none 0 0, .int .i64 k] w fun e w' => e = .returned (.int .i64 k) ∧ w = w' := by
  go_enter Try.func65, Try.ntmps65
  go_wp2
  go_loop [1, 5] (fun kk i => kk = .int .i64 k ∧ i = .int .i64 0) (fun _ _ => 0)
  case atStart => exact ⟨rfl, rfl⟩
  case round =>
    obtain ⟨rfl, rfl⟩ := hrel
    go_wp2
    go_ret
    exact ⟨rfl, rfl⟩

theorem heldMoveS_none (k : Int) (w : World) :
    Calls Try.prog 69 #[.slice none 0 0, .int .i64 k] w fun e w' => e = .returned (.int .i64 k) ∧ w = w' := by
  go_enter Try.func69, Try.ntmps69
  go_wp2
  go_loop [1, 5] (fun kk i => kk = .int .i64 k ∧ i = .int .i64 0) (fun _ _ => 0)
  case atStart => exact ⟨rfl, rfl⟩
  case round =>
    obtain ⟨rfl, rfl⟩ := hrel
    go_wp2
    go_ret
    exact ⟨rfl, rfl⟩

/-- Both, for whatever slice of the call's own. -/
theorem markMoveS_own (base n : Nat) (v : Value) (xs : List Value) (k : Int) (w : World) (hown : w.ownsRow base 70 2 v n xs) (hk0 : 0 ≤ k) (hk1 : k + n * 2 ≤ 9223372036854775807) :
    Calls Try.prog 65 #[v, .int .i64 k] w
      fun e w' => e = .returned (.int .i64 (k + n * 2)) ∧ w'.ownsRow base 70 2 v n (marked k (n * 2)) ∧ w.grownBy w' v.ownBlock := by
  rcases hown.2 with ⟨rfl, rfl⟩ | ⟨g, cap, cur, rfl, _⟩
  · refine (markMoveS_none k w).mono ?_
    rintro e w' ⟨rfl, rfl⟩
    exact ⟨int_end (by simp), by simpa [marked] using World.ownsRow_nil w base _ 2, World.grownBy.refl _ _⟩
  · exact markMoveS_row base g n cap xs k w hown hk0 hk1 (by omega)

theorem heldMoveS_own (base n : Nat) (v : Value) (k : Int) (w : World) (hown : w.ownsRow base 70 2 v n (marked k (n * 2))) (hk0 : 0 ≤ k) (hk1 : k + n * 2 ≤ 9223372036854775807) :
    Calls Try.prog 69 #[v, .int .i64 k] w
      fun e w' => e = .returned (.int .i64 (k + n * 2)) ∧ w = w' := by
  rcases hown.2 with ⟨rfl, rfl⟩ | ⟨g, cap, cur, rfl, _⟩
  · refine (heldMoveS_none k w).mono ?_
    rintro e w' ⟨rfl, rfl⟩
    exact ⟨int_end (by simp), rfl⟩
  · exact heldMoveS_row base g n cap k w hown hk0 hk1 (by omega)
end Go.Proofs.Ytkhjdidcpoefdaa
end

