/-
  A tuple that the model draws: a contract.
-/
import Derived.Test.YtnamlgacjhnpnaaGreatKReduced4
import Derived.Laws.AppendOwnNone
namespace Go.Proofs.YtnamlgacjhnpnaaGreat
open Go.RowKit Go.Sort
set_option linter.unusedVariables false

namespace DrawN
theorem u8_info : (Tryz.prog.info? 5).map (fun i => (i.zero, i.size, i.bytes)) = some (some (.int .u8 0), 1, 1) := by kernel_rfl
/-- A tuple of a width. -/
def Tuple (n : Nat) (w : World) (e : Ending) (w' : World) : Prop :=
  ∃ (t : List Int) (A : Option Addr) (c : Nat), e = .returned (.slice A t.length c) ∧ t.length = n ∧ Small t ∧ IntsAt w' A t ∧ (∃ ad : Addr, A = some ad) ∧ Below w.heap.size w w'
def bcells (f : Nat → Nat) (n : Nat) : List Value := (List.range n).map fun j => .int .u8 (f j)
theorem bcells_at (f : Nat → Nat) {n j : Nat} (h : j < n) : (bcells f n)[j]? = some (.int .u8 (f j)) := by simp [bcells, h]
theorem bcells_one (f : Nat → Nat) (n : Nat) : ∀ u ∈ bcells f n, u.oneCell' = true := by
  intro u hu
  unfold bcells at hu
  obtain ⟨j, _, rfl⟩ := List.mem_map.1 hu
  rfl
theorem bytes_fn {w : World} {A : Option Addr} {n : Nat} (h : BytesIn w A n) (hp : 0 < n) : ∃ (b off : Nat) (f : Nat → Nat), A = some ⟨b, off, none⟩ ∧ ∀ j, j < n → f j ≤ 255 ∧ w.cell? ⟨b, off + j, none⟩ = some (.int .u8 (f j)) := by
  obtain ⟨b, off, x0, e, _⟩ := h 0 hp
  have h2 : ∀ j, ∃ x : Nat, j < n → x ≤ 255 ∧ w.cell? ⟨b, off + j, none⟩ = some (.int .u8 x) := fun j => by
    by_cases hj : j < n
    · obtain ⟨b', off', x, e', _, hx, hc⟩ := h j hj
      rw [e] at e'
      simp only [Option.some.injEq, Addr.mk.injEq, and_true] at e'
      obtain ⟨rfl, rfl⟩ := e'
      exact ⟨x, fun _ => ⟨hx, hc⟩⟩
    · exact ⟨0, fun h => absurd h hj⟩
  exact ⟨b, off, fun j => (h2 j).choose, e, fun j hj => (h2 j).choose_spec hj⟩
theorem bytes_own {w : World} {base : Nat} {v : Value} {n : Nat} {f : Nat → Nat} (h : w.ownsRow base 5 1 v (1 + n) ([.int .u8 1] ++ bcells f n)) (hf : ∀ j, j < n → f j ≤ 255) : ∃ A c, v = .slice A (1 + n) c ∧ BytesIn w A (1 + n) := by
  rcases h.2 with ⟨_, h0⟩ | ⟨g, cap, cur, rfl, _⟩
  · omega
  · refine ⟨_, _, rfl, fun j hj => ?_⟩
    have hc := h.cellAt j (by omega)
    cases j with
    | zero => exact ⟨g, 0, 1, rfl, (h.lt g rfl).2, by omega, by simpa using hc⟩
    | succ j =>
      refine ⟨g, 0, f j, rfl, (h.lt g rfl).2, hf j (by omega), ?_⟩
      rw [Nat.zero_add, hc]
      have := bcells_at f (n := n) (j := j) (by omega)
      simpa using this
theorem append_bytes {w : World} {ops : Array Oper} {rest : List Oper} {o : Oper} {a : Act} {Q : Exit → Act → World → Prop} (hgd : o.guard = none) (s x : Operand)
    (ho : o.op = .call { callee := .builtin .append, args := #[s, x], argTypes := #[22, 22] })
    (base : Nat) (v : Value) (hs : a.eval s = v) (hown : w.ownsRow base 5 1 v 1 [.int .u8 1])
    (A : Option Addr) (n c : Nat) (hx : a.eval x = .slice A n c) (hA : BytesIn w A n) (hz : A = none → c = 0) (hn : n ≤ 1000000) (hbase : base ≤ w.heap.size)
    (h : ∀ A' c' w', BytesIn w' A' (1 + n) → w.grownBy w' v.ownBlock → wpList Tryz.prog ops Q rest (a.put o.dst (.slice A' (1 + n) c')) w') : wpList Tryz.prog ops Q (o :: rest) a w := by
  obtain ⟨i0, hi0, hz0, hz1, hz2⟩ := info_parts u8_info
  rcases Nat.eq_zero_or_pos n with h0 | hp
  · subst h0
    cases A with
    | none =>
      have hc := hz rfl
      subst hc
      obtain ⟨A', c', e, hb⟩ := bytes_own (f := fun _ => 0) (n := 0) (by simpa [bcells] using hown) (fun _ h => by omega)
      subst e
      exact wpList_append_own_none hgd s x 22 ho base 5 i0 1 Tryz.underlying22 hi0 _ 1 _ hs hown hx (h A' c' w hb (World.grownBy.refl _ _))
    | some ad =>
      refine wpList_append_own _ hgd s x 22 ho base 5 i0 (.int .u8 0) 1 1 Tryz.underlying22 hi0 hz0 hz1 hz2 rfl (by decide) v 1 _ hs hown ad 0 c [] hx rfl (fun j u hj => by simp at hj) (fun u hu => by simp at hu) (by unfold maxLen; omega) (by omega) hbase fun v' w' h1 h2 _ => ?_
      obtain ⟨A', c', rfl, hb⟩ := bytes_own (f := fun _ => 0) (n := 0) (by simpa [bcells] using h1) (fun _ h => by omega)
      exact h A' c' w' hb h2
  · obtain ⟨b, off, f, rfl, hf⟩ := bytes_fn hA hp
    refine wpList_append_own _ hgd s x 22 ho base 5 i0 (.int .u8 0) 1 1 Tryz.underlying22 hi0 hz0 hz1 hz2 rfl (by decide) v 1 _ hs hown ⟨b, off, none⟩ n c (bcells f n) hx (by simp [bcells]) (fun j u hj => ?_) (fun u hu => ?_) (by unfold maxLen; omega) (by omega) hbase fun v' w' h1 h2 _ => ?_
    · have hjn : j < n := by
        rcases Nat.lt_or_ge j n with h3 | h3
        · exact h3
        · rw [List.getElem?_eq_none (by simp [bcells]; omega)] at hj; cases hj
      rw [bcells_at f hjn] at hj
      rw [← Option.some.inj hj]
      have h9 := (hf j hjn).2
      by_cases e0 : j = 0
      · subst e0
        simpa [Addr.add] using h9
      · simpa [Addr.add, e0] using h9
    · exact bcells_one f n u hu
    · obtain ⟨A', c', rfl, hb⟩ := bytes_own h1 (fun j hj => (hf j hj).1)
      exact h A' c' w' hb h2
theorem l1In_yes (a lo hi : Int) (w : World) (h1 : lo ≤ a) (h2 : a ≤ hi) : Calls Tryz.prog 51 #[.int .i64 a, .int .i64 lo, .int .i64 hi] w fun e w' => e = .returned (.bool true) ∧ w = w' := by
  have d1 : decide (lo ≤ a) = true := by simpa using h1
  have d2 : decide (a ≤ hi) = true := by simpa using h2
  go_enter Tryz.func51, Tryz.ntmps51
  go_wp2
  go_ret
  exact ⟨rfl, rfl⟩
theorem l1In2_yes (a : Int) (w : World) (h1 : 0 ≤ a) (h2 : a ≤ 4) : Calls Tryz.prog 32 #[.int .i64 a] w fun e w' => e = .returned (.int .i64 a) ∧ w = w' := by
  have hi := l1In_yes a 0 4 w h1 h2
  go_enter Tryz.func32, Tryz.ntmps32
  go_wp2_with (go_at_call 51; (with_reducible refine hi.mono ?_); rintro e w' ⟨rfl, rfl⟩)
  go_ret
  exact ⟨rfl, rfl⟩
end DrawN

set_option maxRecDepth 100000 in
set_option maxHeartbeats 2000000 in
theorem drawTuple_any (A : Option Addr) (n c : Nat) (m : Nat) (hm : m ≤ 4) (w : World) (hA : BytesIn w A n) (hz : A = none → c = 0) (hn : n ≤ 1000000) :
    Calls Tryz.prog 9 #[.slice A n c, .int .i64 m] w (DrawN.Tuple m w) := by
  have hb0 : Below w.heap.size w (w.alloc (.cells #[.int .u8 1] 5)) := (Below.refl _ _).alloc (Nat.le_refl _) _
  have ho : (w.alloc (.cells #[.int .u8 1] 5)).ownsRow w.heap.size 5 1 (.slice (some ⟨w.heap.size, 0, none⟩) 1 1) 1 [.int .u8 1] := World.ownsRow_lit w #[.int .u8 1] 1 (Nat.le_refl _) (by decide) rfl
  have hA0 : BytesIn (w.alloc (.cells #[.int .u8 1] 5)) A n := by
    have h1 : BytesAt (w.alloc (.cells #[.int .u8 1] 5)) w.heap.size A n := BytesAt.keep hA hb0.block
    intro j hj
    obtain ⟨b, off, x, e, hlt, hx, hc⟩ := h1 j hj
    exact ⟨b, off, x, e, Nat.lt_of_lt_of_le hlt hb0.size, hx, hc⟩
  clear hA
  go_enter Tryz.func9, Tryz.ntmps9
  go_wp2_with (at_builtin; refine DrawN.append_bytes rfl (.tmp 6) (.tmp 7) rfl w.heap.size _ rfl ho A n c rfl hA0 hz hn hb0.size ?_)
  intro A2 c2 w2 hB hg2
  have hb2 := below_own hb0 ho (Nat.le_refl _) hb0.size hg2
  have hnew := l1New_any A2 (1 + n) c2 w2 hB (by omega)
  clear ho hA0 hz hb0 hB hg2
  go_wp2_with fail
  refine hnew.mono ?_
  rintro e w3 ⟨C, rfl, hc3, hb3⟩
  have hC3 := hc3.lt
  have hBC := DrawN.cur_base hc3
  have hin := DrawN.l1In2_yes m w3 (by omega) (by omega)
  have hat := l6Atoms_any w2.heap.size C m w3 hc3 (by omega)
  have hb23 := hb2.trans (hb3.mono hb2.size)
  clear hnew hb3
  go_wp2_with (go_at_call 32; (with_reducible refine hin.mono ?_); rintro e w' ⟨rfl, rfl⟩)
  refine hat.mono ?_
  rintro e w4 ⟨t, g, p, rfl, ⟨hl, hs⟩, ho4, hd4⟩
  have hb4 : Below w.heap.size w w4 := hb23.grown hd4.2 hb23.size (fun k hk => by injection hk with hk; have := hb2.size; omega)
  obtain ⟨A5, c5, e5, hA5⟩ := own_intsAt ho4
  simp only [Value.slice.injEq, true_and] at e5
  obtain ⟨rfl, rfl⟩ := e5
  have hpost : Hid (DrawN.Tuple m w (.returned (.slice (some ⟨g, 0, none⟩) t.length p)) w4) := Lib.hid ⟨t, _, _, rfl, hl, hs, hA5, ⟨_, rfl⟩, hb4⟩
  clear hin hat hl hs ho4 hd4 hb4 hA5 hb23 hb2 hc3
  go_wp2
  go_ret
  exact hpost.out
end Go.Proofs.YtnamlgacjhnpnaaGreat
