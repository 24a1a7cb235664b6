/-
  A tuple that the model draws: a contract. A word that the model draws: a contract.
-/
import Derived.Test.YthacnbeckhdhiaaKComplement2
import Derived.Laws.AppendOwnNone
section
namespace Go.Proofs.Ythacnbeckhdhiaa
open Go.RowKit Go.Sort
set_option linter.unusedVariables false

namespace DrawN
theorem u8_info : (Try.prog.info? 5).map (fun i => (i.zero, i.size, i.bytes)) = some (some (.int .u8 0), 1, 1) := by kernel_rfl
def bcells (f : Nat → Nat) (n : Nat) : List Value := (List.range n).map fun j => .int .u8 (f j)
theorem bcells_at (f : Nat → Nat) {n j : Nat} (h : j < n) : (bcells f n)[j]? = some (.int .u8 (f j)) := by simp [bcells, h]
theorem bcells_one (f : Nat → Nat) (n : Nat) : ∀ u ∈ bcells f n, u.oneCell' = true := by
  intro u hu
  unfold bcells at hu
  obtain ⟨j, _, rfl⟩ := List.mem_map.1 hu
  rfl
theorem bytes_fn {w : World} {A : Option Addr} {n : Nat} (h : BytesIn w A n) (hp : 0 < n) : ∃ (b off : Nat) (f : Nat → Nat), A = some ⟨b, off, none⟩ ∧ ∀ j, j < n → f j ≤ 255 ∧ w.cell? ⟨b, off + j, none⟩ = some (.int .u8 (f j)) := by
  obtain ⟨b, off, x0, e, _⟩ := h 0 hp
  have h2 : ∀ j, ∃ x : Nat, j < n → x ≤ 255 ∧ w.cell? ⟨b, off + j, none⟩ = some (.int .u8 x) := fun j => by
    by_cases hj : j < n
    · obtain ⟨b', off', x, e', _, hx, hc⟩ := h j hj
      rw [e] at e'
      simp only [Option.some.injEq, Addr.mk.injEq, and_true] at e'
      obtain ⟨rfl, rfl⟩ := e'
      exact ⟨x, fun _ => ⟨hx, hc⟩⟩
    · exact ⟨0, fun h => absurd h hj⟩
  exact ⟨b, off, fun j => (h2 j).choose, e, fun j hj => (h2 j).choose_spec hj⟩
end DrawN

end Go.Proofs.Ythacnbeckhdhiaa
end

section
namespace Go.Proofs.Ythacnbeckhdhiaa
open Go.RowKit Go.Sort
set_option linter.unusedVariables false

namespace DrawN
theorem bytes_own2 {w : World} {base : Nat} {v : Value} {n : Nat} {f : Nat → Nat} (h : w.ownsRow base 5 1 v (1 + n) ([.int .u8 2] ++ bcells f n)) (hf : ∀ j, j < n → f j ≤ 255) : ∃ A c, v = .slice A (1 + n) c ∧ BytesIn w A (1 + n) := by
  rcases h.2 with ⟨_, h0⟩ | ⟨g, cap, cur, rfl, _⟩
  · omega
  · refine ⟨_, _, rfl, fun j hj => ?_⟩
    have hc := h.cellAt j (by omega)
    cases j with
    | zero => exact ⟨g, 0, 2, rfl, (h.lt g rfl).2, by omega, by simpa using hc⟩
    | succ j =>
      refine ⟨g, 0, f j, rfl, (h.lt g rfl).2, hf j (by omega), ?_⟩
      rw [Nat.zero_add, hc]
      have := bcells_at f (n := n) (j := j) (by omega)
      simpa using this
theorem append_bytes2 {w : World} {ops : Array Oper} {rest : List Oper} {o : Oper} {a : Act} {Q : Exit → Act → World → Prop} (hgd : o.guard = none) (s x : Operand)
    (ho : o.op = .call { callee := .builtin .append, args := #[s, x], argTypes := #[22, 22] })
    (base : Nat) (v : Value) (hs : a.eval s = v) (hown : w.ownsRow base 5 1 v 1 [.int .u8 2])
    (A : Option Addr) (n c : Nat) (hx : a.eval x = .slice A n c) (hA : BytesIn w A n) (hz : A = none → c = 0) (hn : n ≤ 1000000) (hbase : base ≤ w.heap.size)
    (h : ∀ A' c' w', BytesIn w' A' (1 + n) → w.grownBy w' v.ownBlock → wpList Try.prog ops Q rest (a.put o.dst (.slice A' (1 + n) c')) w') : wpList Try.prog ops Q (o :: rest) a w := by
  obtain ⟨i0, hi0, hz0, hz1, hz2⟩ := info_parts u8_info
  rcases Nat.eq_zero_or_pos n with h0 | hp
  · subst h0
    cases A with
    | none =>
      have hc := hz rfl
      subst hc
      obtain ⟨A', c', e, hb⟩ := bytes_own2 (f := fun _ => 0) (n := 0) (by simpa [bcells] using hown) (fun _ h => by omega)
      subst e
      exact wpList_append_own_none hgd s x 22 ho base 5 i0 1 Try.underlying22 hi0 _ 1 _ hs hown hx (h A' c' w hb (World.grownBy.refl _ _))
    | some ad =>
      refine wpList_append_own _ hgd s x 22 ho base 5 i0 (.int .u8 0) 1 1 Try.underlying22 hi0 hz0 hz1 hz2 rfl (by decide) v 1 _ hs hown ad 0 c [] hx rfl (fun j u hj => by simp at hj) (fun u hu => by simp at hu) (by unfold maxLen; omega) (by omega) hbase fun v' w' h1 h2 _ => ?_
      obtain ⟨A', c', rfl, hb⟩ := bytes_own2 (f := fun _ => 0) (n := 0) (by simpa [bcells] using h1) (fun _ h => by omega)
      exact h A' c' w' hb h2
  · obtain ⟨b, off, f, rfl, hf⟩ := bytes_fn hA hp
    refine wpList_append_own _ hgd s x 22 ho base 5 i0 (.int .u8 0) 1 1 Try.underlying22 hi0 hz0 hz1 hz2 rfl (by decide) v 1 _ hs hown ⟨b, off, none⟩ n c (bcells f n) hx (by simp [bcells]) (fun j u hj => ?_) (fun u hu => ?_) (by unfold maxLen; omega) (by omega) hbase fun v' w' h1 h2 _ => ?_
    · have hjn : j < n := by
        rcases Nat.lt_or_ge j n with h3 | h3
        · exact h3
        · rw [List.getElem?_eq_none (by simp [bcells]; omega)] at hj; cases hj
      rw [bcells_at f hjn] at hj
      rw [← Option.some.inj hj]
      have h9 := (hf j hjn).2
      by_cases e0 : j = 0
      · subst e0
        simpa [Addr.add] using h9
      · simpa [Addr.add, e0] using h9
    · exact bcells_one f n u hu
    · obtain ⟨A', c', rfl, hb⟩ := bytes_own2 h1 (fun j hj => (hf j hj).1)
      exact h A' c' w' hb h2
theorem bytes_moreW {w w' : World} {A : Option Addr} {n : Nat} (h : BytesIn w A n) (hb : Below w.heap.size w w') : BytesIn w' A n := by
  have h1 : BytesAt w' w.heap.size A n := BytesAt.keep h hb.block
  intro j hj
  obtain ⟨b, off, x, e, hlt, hx, hc⟩ := h1 j hj
  exact ⟨b, off, x, e, Nat.lt_of_lt_of_le hlt hb.size, hx, hc⟩
/-- Few atoms. -/
def Tiny (l : List Int) : Prop := ∀ x ∈ l, 0 ≤ x ∧ x < 4
theorem tiny_more {l : List Int} (h : Tiny l) {x : Nat} (hx : (x : Int) < 4) : Tiny (l ++ [(x : Int)]) := by
  intro y hy
  rcases List.mem_append.1 hy with h1 | h1
  · exact h y h1
  · rw [List.mem_singleton.1 h1]; omega
/-- A word. -/
def Word (w : World) (e : Ending) (w' : World) : Prop :=
  ∃ (t : List Int) (g c : Nat), e = .returned (.slice (some ⟨g, 0, none⟩) t.length c) ∧ t.length ≤ 7 ∧ Tiny t ∧ IntsAt w' (some ⟨g, 0, none⟩) t ∧ Below w.heap.size w w'
end DrawN

set_option maxRecDepth 100000 in
set_option maxHeartbeats 4000000 in
theorem drawWord_any (A : Option Addr) (n c : Nat) (w : World) (hA : BytesIn w A n) (hz : A = none → c = 0) (hn : n ≤ 1000000) :
    Calls Try.prog 6 #[.slice A n c] w (DrawN.Word w) := by
  obtain ⟨i0, hi0, hz0, hz1, hz2⟩ := info_parts DrawN.int_info
  have HS := Lib.hid hz2
  clear hz2
  have hb0 : Below w.heap.size w (w.alloc (.cells #[.int .u8 2] 5)) := (Below.refl _ _).alloc (Nat.le_refl _) _
  have ho : (w.alloc (.cells #[.int .u8 2] 5)).ownsRow w.heap.size 5 1 (.slice (some ⟨w.heap.size, 0, none⟩) 1 1) 1 [.int .u8 2] := World.ownsRow_lit w #[.int .u8 2] 1 (Nat.le_refl _) (by decide) rfl
  have hA0 : BytesIn (w.alloc (.cells #[.int .u8 2] 5)) A n := DrawN.bytes_moreW hA hb0
  clear hA
  go_enter Try.func6, Try.ntmps6
  go_wp2_with (at_builtin; refine DrawN.append_bytes2 rfl (.tmp 6) (.tmp 7) rfl w.heap.size _ rfl ho A n c rfl hA0 hz hn hb0.size ?_)
  intro A2 c2 w2 hB hg2
  have hb2 := below_own hb0 ho (Nat.le_refl _) hb0.size hg2
  have hnew := l1New_any A2 (1 + n) c2 w2 hB (by omega)
  clear ho hA0 hz hb0 hB hg2
  go_wp2_with fail
  refine hnew.mono ?_
  rintro e w3 ⟨C, rfl, hc3, hb3⟩
  have hC := hc3.lt
  have hBC := DrawN.cur_base hc3
  have hb23 := hb2.trans (hb3.mono hb2.size)
  have HB23 := Lib.hid hb23
  have hs23 := hb23.size
  have hg0 : DrawN.Grow w3 w2.heap.size C [] (.slice (some ⟨w3.heap.size, 0, none⟩) 0 0) (w3.alloc (.cells #[] 3)) :=
    ⟨World.ownsRow_lit w3 #[] 0 (Nat.le_refl _) (by decide) rfl, (Drew.of hc3).alloc _⟩
  have hbl := l1Below_int w2.heap.size C 8 _ hg0.2.1 (by omega) (by omega)
  clear hnew hb3 hc3
  go_wp2_with fail
  refine hbl.mono ?_
  rintro e w4 ⟨y, hy, rfl, hd4⟩
  have hg4 := DrawN.drew hC hg0 hd4
  have hCW : w.heap.size ≤ C := by have := hb2.size; omega
  clear hbl hg0 hd4 hb2 hb23
  go_wp2
  go_loopw [4, 5] (fun v i wr => ∃ (l : List Int) (g cap k : Nat), l.length + k = y ∧ i = .int .i64 k ∧ v = .slice (some ⟨g, 0, none⟩) l.length cap ∧ DrawN.Tiny l ∧ DrawN.Grow w3 w2.heap.size C l v wr) (fun _ i _ => (intOf i).toNat)
  case atStart => exact ⟨[], _, _, y, by simp, rfl, rfl, fun x hx => by simp at hx, hg4⟩
  case round =>
    clear hg4
    obtain ⟨l, g, cap, k, hlk, rfl, rfl, hs, hg⟩ := hrel
    have HSM := Lib.hid hs
    have HLK := Lib.hid hlk
    have hl8 : l.length ≤ 8 := by omega
    have hk8 : k ≤ 8 := by omega
    clear hlk
    by_cases hlt : 0 < k
    · have hbl := l1Below_int w2.heap.size C 4 wr hg.2.1 (by omega) (by omega)
      have hki : (0 : Int) < (k : Int) := by omega
      clear hs
      go_wp2_with fail
      refine hbl.mono ?_
      rintro e w5 ⟨x, hx, rfl, hd5⟩
      have hg5 := DrawN.drew hC hg hd5
      have hga := DrawN.alloc hg5 (.cells #[.int .i64 x] 3)
      have hcell : (w5.alloc (.cells #[.int .i64 x] 3)).cell? ⟨w5.heap.size, 0, none⟩ = some (.int .i64 x) := by simp
      have HC := Lib.hid (DrawN.one_cell hcell)
      clear hbl hg hg5 hd5 hcell
      go_wp2_with (at_builtin; refine wpList_append_own _ rfl (.tmp 17) (.tmp 20) 30 rfl w3.heap.size 3 i0 (.int .i64 0) 1 8 Try.underlying30 hi0 hz0 hz1 HS.out rfl (by decide) _ l.length _ rfl hga.1 ⟨w5.heap.size, 0, none⟩ 1 1 [.int .i64 x] rfl rfl HC.out (DrawN.int_one _) ?c3 ?c4 ?c5 ?_)
      case c3 => unfold maxLen; omega
      case c4 => omega
      case c5 => exact hga.2.2.size
      intro v6 w6 ho6 hg6 _
      have hgm := Lib.hid (DrawN.more hC hga ho6 hg6)
      have hln2 : Hid ((l ++ [(x : Int)]).length = l.length + 1) := Lib.hid (by simp)
      have hsm2 : Hid (DrawN.Tiny (l ++ [(x : Int)])) := Lib.hid (DrawN.tiny_more HSM.out hx)
      rcases hgm.out.1.2 with ⟨_, h0⟩ | ⟨g7, cap7, cur, rfl, _, _, hcap, _⟩
      · have := hln2.out; omega
      · clear ho6 hg6 hga HC
        go_wp2
        refine ⟨⟨l ++ [(x : Int)], g7, cap7, k - 1, by rw [hln2.out]; have := HLK.out; omega, congrArg (Value.int .i64) (by omega), rfl, hsm2.out, hgm.out⟩, ?_⟩
        simp only [intOf]
        omega
    · have e : k = 0 := by omega
      subst e
      have hd := hg.2
      obtain ⟨A9, c9, e9, hA9⟩ := own_intsAt hg.1
      simp only [Value.slice.injEq, true_and] at e9
      obtain ⟨rfl, rfl⟩ := e9
      have hbz : Below w.heap.size w wr := HB23.out.grown hd.2 HB23.out.size (fun q hq => by injection hq with hq; omega)
      have hpost : Hid (DrawN.Word w (.returned (.slice (some ⟨g, 0, none⟩) l.length cap)) wr) := Lib.hid ⟨l, g, cap, rfl, by have := HLK.out; omega, HSM.out, hA9, hbz⟩
      clear hs hg hd hA9 hbz
      go_wp2
      go_ret
      exact hpost.out
end Go.Proofs.Ythacnbeckhdhiaa
end

