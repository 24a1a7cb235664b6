/-
  Constants, tuples and patterns in the program, as contracts.
-/
import Derived.Test.YthjkogighppeaaaKSetOfFormula3
import Derived.BigQuiet
import Derived.WalkSpells
import Derived.Lib.QuietBelow
import Derived.Deep.AppendLies
namespace Go.Proofs.Ythjkogighppeaaa
open Go.RowKit Go.Sort
set_option linter.unusedVariables false

/-- Two values do not own one block. -/
def Apart (v u : Value) : Prop := ∀ k, v.ownBlock = some k → u.ownBlock ≠ some k
theorem apart_kept {w w' : World} {base : Nat} {e : TypeId} {size n : Nat} {v u : Value} {xs : List Value} (h : w.ownsRow base e size v n xs) (hg : w.grownBy w' u.ownBlock) (ha : Apart v u) : w'.ownsRow base e size v n xs := by
  refine h.kept hg ?_
  rcases hv : v.ownBlock with _ | k
  · exact Or.inl rfl
  · exact Or.inr fun e => ha k hv e.symm
theorem apart_new {w : World} {base : Nat} {e : TypeId} {size n m cap g : Nat} {v u : Value} {xs : List Value} (h : w.ownsRow base e size v n xs) (ha : Apart v u) (hl : u.ownBlock = some g ∨ g = w.heap.size) : Apart v (.slice (some ⟨g, 0, none⟩) m cap) := by
  intro k hk hq
  have hq' : g = k := by simpa [Value.ownBlock] using hq
  subst hq'
  rcases hl with h1 | h1
  · exact ha g hk h1
  · have := (h.lt g hk).2
    omega
theorem Apart.symm {v u : Value} (h : Apart v u) : Apart u v := fun k h1 h2 => h k h2 h1

/-- The answer, a bool, and new blocks at most. -/
def BoolP (b : Bool) (w : World) (e : Ending) (w' : World) : Prop := e = .returned (.bool b) ∧ Below w.heap.size w w'
theorem next_all {p : Nat → Bool} {k : Nat} (h : ∀ j, j < k → p j = true) (hk : p k = true) : ∀ j, j < k + 1 → p j = true := by
  intro j hj
  rcases Nat.lt_or_ge j k with h1 | h1
  · exact h j h1
  · rw [show j = k by omega]; exact hk

/-- The place that slices.Index tells. -/
def idxI (l : List Int) (a : Int) : Int := if hasB l a then ((l.idxOf a : Nat) : Int) else -1
theorem idxI_in {l : List Int} {a : Int} (h : hasB l a = true) : idxI l a = ((l.idxOf a : Nat) : Int) := by simp [idxI, h]
theorem idxI_out {l : List Int} {a : Int} (h : hasB l a = false) : idxI l a = -1 := by simp [idxI, h]

set_option maxRecDepth 100000 in
set_option maxHeartbeats 1000000 in
theorem indexOf_any (A : Option Addr) (c : Nat) (l : List Int) (a : Int) (w : World) (hA : IntsAt w A l) (hl : l.length ≤ 1099511627776) :
    Calls Try.prog 72 #[.slice A l.length c, .int .i64 a] w fun e w' => e = .returned (.int .i64 (idxI l a)) ∧ w = w' := by
  go_enter Try.func72, Try.ntmps72
  go_wp2
  go_loop [5, 8] (fun _ i => ∃ k : Nat, k ≤ l.length ∧ i = .int .i64 k ∧ Hid (∀ j, j < k → itAt l j ≠ a)) (fun _ i => l.length - (intOf i).toNat)
  case atStart => exact ⟨0, Nat.zero_le _, rfl, fun j hj => absurd hj (by omega)⟩
  case round =>
    obtain ⟨k, hk, rfl, hq⟩ := hrel
    by_cases hlt : k < l.length
    · obtain ⟨b1, o1, rfl, hb1, hc1⟩ := hA (by omega)
      have c1 := hc1 k hlt
      clear hc1 hA
      by_cases he : (a == itAt l k) = true
      · have hres : Hid (idxI l a = (k : Int)) := by
          have e : itAt l k = a := by simpa using (show a = itAt l k by simpa using he).symm
          obtain ⟨h1, h2⟩ := idx_first hlt e hq.out
          show idxI l a = (k : Int)
          rw [idxI_in h2, h1]
        generalize itAt l k = x at c1 he
        clear hq
        go_wp2
        go_ret
        exact ⟨int_end hres.out.symm, rfl⟩
      · have he' : (a == itAt l k) = false := by simpa using he
        have hn : Hid (∀ j, j < k + 1 → itAt l j ≠ a) := by
          intro j hj
          by_cases e : j = k
          · rw [e]; intro e2; exact he (by simp [e2])
          · exact hq.out j (by omega)
        generalize itAt l k = x at c1 he he'
        clear hq he
        go_wp2
        go_round
        case rel => exact ⟨k + 1, by omega, by go_num, hn⟩
        case measure => simp [intOf]; omega
    · have hres : Hid (idxI l a = -1) := idxI_out (idx_none fun j hj => hq.out j (by omega))
      clear hq hA
      go_wp2
      go_ret
      exact ⟨int_end hres.out.symm, rfl⟩

set_option maxRecDepth 100000 in
set_option maxHeartbeats 1000000 in
theorem clone_any (A : Option Addr) (c : Nat) (l : List Int) (w : World) (hA : IntsAt w A l) (hl : l.length ≤ 1099511627776) :
    Calls Try.prog 46 #[.slice A l.length c] w (NewInts l w) := by
  have q22 : ∀ (w : World) (a : Option Addr) (n c n' c' : Nat), (binOp .eql 26 (.slice a n c) (.slice none n' c')).run Try.prog w = .ok (.bool a.isNone) w := fun w a n c n' c' => Lib.run_eql_slice_nil w _ _ a n c n' c' Try.underlying26
  cases A with
  | none =>
    have e : l = [] := by
      rcases Nat.eq_zero_or_pos l.length with h0 | h0
      · exact List.eq_nil_of_length_eq_zero h0
      · obtain ⟨b, o, e, _⟩ := hA h0; cases e
    subst e
    go_enter Try.func46, Try.ntmps46
    go_wp2
    go_ret
    exact newInts_nil w
  | some a =>
    obtain ⟨i0, hi0, hz0, hz1, hz2⟩ := info_parts int_infoM
    have HS := Lib.hid hz2
    clear hz2
    have hb : Below w.heap.size w (w.alloc (.cells #[] 3)) := (Below.refl _ _).alloc (Nat.le_refl _) _
    have HN := Lib.hid (ints_news (hA.below hb))
    have ho : (w.alloc (.cells #[] 3)).ownsRow w.heap.size 3 1 (.slice (some ⟨w.heap.size, 0, none⟩) 0 0) 0 [] := World.ownsRow_lit w #[] 0 (Nat.le_refl _) (by decide) rfl
    have HL := Lib.hid (icells_len l)
    go_enter Try.func46, Try.ntmps46
    go_wp2_with (at_builtin; refine wpList_append_own _ rfl (.tmp 5) (.tmp 6) 26 rfl w.heap.size 3 i0 (.int .i64 0) 1 8 Try.underlying26 hi0 hz0 hz1 HS.out rfl (by decide) _ 0 [] rfl ho a l.length c (icells l) rfl (by rw [HL.out, Nat.mul_one]) HN.out (icells_one l) ?c3 ?c4 ?c5 ?_)
    case c3 => unfold maxLen; omega
    case c4 => omega
    case c5 => simp
    intro v2 w2 ho3 hg _
    have hb4 : Below w.heap.size w w2 := below_own hb ho (Nat.le_refl _) (by simp) hg
    clear ho hg hb HN hA
    go_wp2
    go_ret
    exact ⟨_, rfl, ho3, hb4⟩

theorem apart_lit {w : World} {base : Nat} {e : TypeId} {size n : Nat} {v : Value} {xs : List Value} {m cap : Nat} (h : w.ownsRow base e size v n xs) : Apart v (.slice (some ⟨w.heap.size, 0, none⟩) m cap) := by
  intro k hk hq
  have hq' : w.heap.size = k := by simpa [Value.ownBlock] using hq
  have := (h.lt k hk).2
  omega

set_option maxRecDepth 100000 in
set_option maxHeartbeats 4000000 in
theorem patternIn_any (A B : Option Addr) (c d : Nat) (cs xs : List Int) (w : World) (hA : IntsAt w A cs) (hB : IntsAt w B xs) (hlc : cs.length ≤ 1048576) (hlx : xs.length ≤ 1048576) :
    Calls Try.prog 55 #[.slice A cs.length c, .slice B xs.length d] w (NewInts (patL cs xs) w) := by
  obtain ⟨i0, hi0, hz0, hz1, hz2⟩ := info_parts int_infoM
  have HS := Lib.hid hz2
  clear hz2
  have hcl := clone_any A c cs w hA (by omega)
  clear hA
  go_enter Try.func55, Try.ntmps55
  go_wp2_with (go_at_call 46; refine hcl.mono ?_; rintro e w1 ⟨v1, rfl, ho1, hb1⟩)
  have hbx : Below w1.heap.size w1 (w1.alloc (.cells #[] 3)) := (Below.refl _ _).alloc (Nat.le_refl _) _
  have hb2 : Below w.heap.size w (w1.alloc (.cells #[] 3)) := hb1.trans (hbx.mono hb1.size)
  have ho2 := own_below ho1 hbx
  have hp2 : (w1.alloc (.cells #[] 3)).ownsRow w.heap.size 3 1 (.slice (some ⟨w1.heap.size, 0, none⟩) 0 0) 0 [] := own_le (World.ownsRow_lit w1 #[] 0 (Nat.le_refl _) (by decide) rfl) hb1.size
  have hap : Apart v1 (.slice (some ⟨w1.heap.size, 0, none⟩) 0 0) := apart_lit ho1
  clear hcl ho1 hb1 hbx
  go_loopw [5, 6, 8, 9, 15] (fun v5 v6 _ _ i wr => ∃ k : Nat, k ≤ xs.length ∧ i = .int .i64 k ∧ wr.ownsRow w.heap.size 3 1 v5 (seenL cs (xs.take k)).length (icells (seenL cs (xs.take k))) ∧ wr.ownsRow w.heap.size 3 1 v6 k (icells (patL cs (xs.take k))) ∧ Apart v5 v6 ∧ Below w.heap.size w wr) (fun _ _ _ _ i _ => xs.length - (intOf i).toNat)
  case atStart => exact ⟨0, Nat.zero_le _, rfl, ho2, hp2, hap, hb2⟩
  case round =>
    clear ho2 hp2 hap hb2
    obtain ⟨k, hk, rfl, ho5, ho6, hap, hb⟩ := hrel
    by_cases hlt : k < xs.length
    · obtain ⟨b1, o1, rfl, hb1, hc1⟩ := hB (by omega)
      have c1 := hc1 k hlt
      rw [← hb.cell (p := ⟨b1, _, none⟩) hb1] at c1
      obtain ⟨A5, c5, rfl, hA5⟩ := own_intsAt ho5
      have hsl := seenL_len cs (xs.take k)
      rw [List.length_take] at hsl
      have hsl2 : (seenL cs (xs.take k)).length ≤ 2097152 := by omega
      have hix := indexOf_any A5 c5 (seenL cs (xs.take k)) (itAt xs k) wr hA5 (by omega)
      have hpn := Lib.hid (patL_next (cs := cs) hlt)
      have hsi := Lib.hid (seenL_in (cs := cs) hlt)
      have hso := Lib.hid (seenL_out (cs := cs) hlt)
      generalize itAt xs k = a at c1 hix hpn hsi hso
      generalize seenL cs (xs.take k) = S at ho5 hA5 hsl2 hix hpn hsi hso hap
      generalize patL cs (xs.take k) = Q at ho6 hpn
      clear hsl hc1 hB
      have hsz : w.heap.size ≤ wr.heap.size := hb.size
      by_cases hin : hasB S a = true
      · have hii := idxI_in hin
        have hil := idx_in hin
        have hS2 := Lib.hid (hsi.out hin)
        rw [hii] at hix
        have hneg : ¬ ((S.idxOf a : Nat) : Int) < 0 := by omega
        generalize S.idxOf a = n at hix hneg hpn hil
        have hbx : Below wr.heap.size wr (wr.alloc (.cells #[.int .i64 (n : Int)] 3)) := (Below.refl _ _).alloc (Nat.le_refl _) _
        have ho5b := own_below ho5 hbx
        have ho6b := own_below ho6 hbx
        have hb2 := hb.trans (hbx.mono hb.size)
        have hcell : (wr.alloc (.cells #[.int .i64 (n : Int)] 3)).cell? ⟨wr.heap.size, 0, none⟩ = some (.int .i64 n) := by simp
        have HC := Lib.hid (one_cell hcell)
        have hsz2 : w.heap.size ≤ (wr.alloc (.cells #[.int .i64 (n : Int)] 3)).heap.size := by simp; omega
        clear hcell ho5 ho6 hb hbx hii hsi hso hin hA5
        go_wp2_with (first
          | (go_at_call 72; refine hix.mono ?_; rintro e w2 ⟨rfl, rfl⟩)
          | (at_builtin; refine wpList_append_lies _ rfl (.tmp 30) (.tmp 32) 26 rfl w.heap.size 3 i0 (.int .i64 0) 1 8 Try.underlying26 hi0 hz0 hz1 HS.out rfl (by decide) _ k _ rfl ho6b ⟨wr.heap.size, 0, none⟩ 1 1 [.int .i64 n] rfl rfl HC.out (int_one _) (by decide) ?c3 ?c4 ?c5 _ rfl ?_))
        case c3 => unfold maxLen; omega
        case c4 => omega
        case c5 => exact hsz2
        intro g cap w3 ho7 hg7 hcase _
        have ho8 : w3.ownsRow w.heap.size 3 1 (.slice (some ⟨g, 0, none⟩) (k + 1) cap) (k + 1) (icells (patL cs (xs.take (k + 1)))) := by
          rw [hpn.out, icells_append]
          exact ho7
        have ho9 : w3.ownsRow w.heap.size 3 1 (.slice A5 S.length c5) (seenL cs (xs.take (k + 1))).length (icells (seenL cs (xs.take (k + 1)))) := by
          rw [hS2.out]
          exact apart_kept ho5b hg7 hap
        have hap2 : Apart (.slice A5 S.length c5) (.slice (some ⟨g, 0, none⟩) (k + 1) cap) := apart_new ho5b hap (hcase.imp id fun h => by rw [h, World.size_alloc])
        have hb4 : Below w.heap.size w w3 := below_own hb2 ho6b (Nat.le_refl _) hsz2 hg7
        clear ho7 hg7 hcase ho5b ho6b hb2 hap HC hpn hS2 hix c1
        go_wp2
        refine ⟨⟨k + 1, by omega, by go_num, ho9, ho8, hap2, hb4⟩, ?_⟩
        simp only [intOf]
        omega
      · have hin' : hasB S a = false := by simpa using hin
        have hii := idxI_out hin'
        have hil := idx_out hin'
        have hS2 := Lib.hid (hso.out hin')
        rw [hii] at hix
        rw [hil] at hpn
        have hbx : Below wr.heap.size wr (wr.alloc (.cells #[.int .i64 a] 3)) := (Below.refl _ _).alloc (Nat.le_refl _) _
        have ho5b := own_below ho5 hbx
        have ho6b := own_below ho6 hbx
        have hb2 := hb.trans (hbx.mono hb.size)
        have hcell : (wr.alloc (.cells #[.int .i64 a] 3)).cell? ⟨wr.heap.size, 0, none⟩ = some (.int .i64 a) := by simp
        have HC := Lib.hid (one_cell hcell)
        have hsz2 : w.heap.size ≤ (wr.alloc (.cells #[.int .i64 a] 3)).heap.size := by simp; omega
        clear hcell ho5 ho6 hb hbx hii hsi hso hin hA5 hil hin'
        go_wp2_with (first
          | (go_at_call 72; refine hix.mono ?_; rintro e w2 ⟨rfl, rfl⟩)
          | (at_builtin; refine wpList_append_lies _ rfl (.tmp 26) (.tmp 28) 26 rfl w.heap.size 3 i0 (.int .i64 0) 1 8 Try.underlying26 hi0 hz0 hz1 HS.out rfl (by decide) _ S.length _ rfl ho5b ⟨wr.heap.size, 0, none⟩ 1 1 [.int .i64 a] rfl rfl HC.out (int_one _) (by decide) ?c3 ?c4 ?c5 _ rfl ?_))
        case c3 => unfold maxLen; omega
        case c4 => omega
        case c5 => exact hsz2
        intro g cap w3 ho7 hg7 hcase _
        have ho9 : w3.ownsRow w.heap.size 3 1 (.slice (some ⟨g, 0, none⟩) (S.length + 1) cap) (S.length + 1) (icells (S ++ [a])) := by
          rw [icells_append]
          exact ho7
        have ho8 := apart_kept ho6b hg7 hap.symm
        have hap2 : Apart u6 (.slice (some ⟨g, 0, none⟩) (S.length + 1) cap) := apart_new ho6b hap.symm (hcase.imp id fun h => by rw [h, World.size_alloc])
        have hb4 : Below w.heap.size w w3 := below_own hb2 ho5b (Nat.le_refl _) hsz2 hg7
        have hbx : Below w3.heap.size w3 (w3.alloc (.cells #[.int .i64 (S.length : Int)] 3)) := (Below.refl _ _).alloc (Nat.le_refl _) _
        have ho9b := own_below ho9 hbx
        have ho8b := own_below ho8 hbx
        have hb5 := hb4.trans (hbx.mono hb4.size)
        have hcell : (w3.alloc (.cells #[.int .i64 (S.length : Int)] 3)).cell? ⟨w3.heap.size, 0, none⟩ = some (.int .i64 S.length) := by simp
        have HC2 := Lib.hid (one_cell hcell)
        have hsz3 : w.heap.size ≤ (w3.alloc (.cells #[.int .i64 (S.length : Int)] 3)).heap.size := hb5.size
        have HS2 : Hid ((S ++ [a]).length = S.length + 1) := Lib.hid (by simp)
        clear ho7 hg7 hcase ho5b ho6b hb2 hap HC hix c1 ho8 ho9 hcell hb4 hbx
        go_wp2_with (at_builtin; refine wpList_append_lies _ rfl (.tmp 30) (.tmp 32) 26 rfl w.heap.size 3 i0 (.int .i64 0) 1 8 Try.underlying26 hi0 hz0 hz1 HS.out rfl (by decide) _ k _ rfl ho8b ⟨w3.heap.size, 0, none⟩ 1 1 [.int .i64 (S.length : Int)] rfl rfl HC2.out (int_one _) (by decide) ?c3 ?c4 ?c5 _ rfl ?_)
        case c3 => unfold maxLen; omega
        case c4 => omega
        case c5 => exact hsz3
        intro g2 cap2 w4 ho10 hg10 hcase2 _
        have ho11 : w4.ownsRow w.heap.size 3 1 (.slice (some ⟨g2, 0, none⟩) (k + 1) cap2) (k + 1) (icells (patL cs (xs.take (k + 1)))) := by
          rw [hpn.out, icells_append]
          exact ho10
        have ho12 : w4.ownsRow w.heap.size 3 1 (.slice (some ⟨g, 0, none⟩) (S.length + 1) cap) (seenL cs (xs.take (k + 1))).length (icells (seenL cs (xs.take (k + 1)))) := by
          rw [hS2.out, HS2.out]
          exact apart_kept ho9b hg10 hap2.symm
        have hap3 : Apart (.slice (some ⟨g, 0, none⟩) (S.length + 1) cap) (.slice (some ⟨g2, 0, none⟩) (k + 1) cap2) := apart_new ho9b hap2.symm (hcase2.imp id fun h => by rw [h, World.size_alloc])
        have hb6 : Below w.heap.size w w4 := below_own hb5 ho8b (Nat.le_refl _) hsz3 hg10
        clear ho10 hg10 hcase2 ho9b ho8b hb5 hap2 HC2 hpn hS2 HS2
        go_wp2
        refine ⟨⟨k + 1, by omega, by go_num, ho12, ho11, hap3, hb6⟩, ?_⟩
        simp only [intOf]
        omega
    · have e : k = xs.length := by omega
      subst e
      rw [List.take_length] at ho6
      have hpl := Lib.hid (patL_len cs xs)
      have hpost : NewInts (patL cs xs) w (.returned u6) wr := ⟨_, rfl, by rw [hpl.out]; exact ho6, hb⟩
      clear ho5 ho6 hap hb hB hpl
      go_wp2
      go_ret
      exact hpost

end Go.Proofs.Ythjkogighppeaaa
