/-
  Constants, tuples and patterns in the program, as contracts.
-/
import Derived.Test.YtdbogjhkcnajkaaKWidenSet2
import Derived.BigQuiet
import Derived.WalkSpells
import Derived.Lib.QuietBelow
import Derived.Deep.AppendLies
namespace Go.Proofs.Ytdbogjhkcnajkaa
open Go.RowKit Go.Sort
set_option linter.unusedVariables false

/-- Two values do not own one block. -/
def Apart (v u : Value) : Prop := ∀ k, v.ownBlock = some k → u.ownBlock ≠ some k
theorem Apart.symm {v u : Value} (h : Apart v u) : Apart u v := fun k h1 h2 => h k h2 h1

/-- The answer, a bool, and new blocks at most. -/
def BoolP (b : Bool) (w : World) (e : Ending) (w' : World) : Prop := e = .returned (.bool b) ∧ Below w.heap.size w w'
theorem notAtom_any (n : Int) (w : World) :
    Calls Try.prog 152 #[.int .i64 n] w fun e w' => e = .returned (.bool (!atomB n)) ∧ w = w' := by
  have hc := isAtom_any n w
  generalize atomB n = r at hc ⊢
  go_enter Try.func152, Try.ntmps152
  go_wp2_with fail
  refine hc.mono ?_
  rintro e w2 ⟨rfl, rfl⟩
  clear hc
  go_wp2
  go_ret
  exact ⟨rfl, rfl⟩

theorem next_all {p : Nat → Bool} {k : Nat} (h : ∀ j, j < k → p j = true) (hk : p k = true) : ∀ j, j < k + 1 → p j = true := by
  intro j hj
  rcases Nat.lt_or_ge j k with h1 | h1
  · exact h j h1
  · rw [show j = k by omega]; exact hk

set_option maxRecDepth 100000 in
set_option maxHeartbeats 2000000 in
theorem indexNotAtom_any (A : Option Addr) (c : Nat) (p : List Int) (w : World) (hA : IntsAt w A p) (hp : p.length ≤ 1099511627776) :
    Calls Try.prog 135 #[.slice A p.length c, .func (.func 152) #[] #[]] w
      fun e w' => (∃ i : Int, e = .returned (.int .i64 i) ∧ ((0 ≤ i ∧ atomsB p = false) ∨ (i < 0 ∧ atomsB p = true))) ∧ w = w' := by
  go_enter Try.func135, Try.ntmps135
  go_wp2
  go_loopw [5, 8] (fun _ i wr => ∃ k : Nat, k ≤ p.length ∧ i = .int .i64 k ∧ Hid (∀ j, j < k → atomB (itAt p j) = true) ∧ w = wr) (fun _ i _ => p.length - (intOf i).toNat)
  case atStart => exact ⟨0, Nat.zero_le _, rfl, Lib.hid (fun j hj => absurd hj (by omega)), rfl⟩
  case round =>
    obtain ⟨k, hk, rfl, hn, rfl⟩ := hrel
    by_cases hlt : k < p.length
    · obtain ⟨b1, o1, rfl, hb1, hc1⟩ := hA (by omega)
      have c1 := hc1 k hlt
      have hcall := notAtom_any (itAt p k) w
      by_cases hx : atomB (itAt p k) = true
      · rw [hx] at hcall
        have hn2 := Lib.hid (next_all (p := fun j => atomB (itAt p j)) hn.out hx)
        clear hc1 hA hn hx
        generalize itAt p k = p1 at c1 hcall
        go_wp2_with (go_at_call 152; refine hcall.mono ?_; rintro e w2 ⟨rfl, rfl⟩)
        clear hcall c1
        refine ⟨⟨k + 1, by omega, by go_num, hn2, by first | rfl | trivial⟩, ?_⟩
        simp only [intOf]
        omega
      · have hx' : atomB (itAt p k) = false := by simpa using hx
        rw [hx'] at hcall
        have hn2 := Lib.hid (atomsB_no hlt hx')
        clear hc1 hA hn hx hx'
        generalize itAt p k = p1 at c1 hcall
        go_wp2_with (go_at_call 152; refine hcall.mono ?_; rintro e w2 ⟨rfl, rfl⟩)
        clear hcall c1
        go_ret
        exact ⟨⟨_, rfl, Or.inl ⟨by omega, hn2.out⟩⟩, rfl⟩
    · have hn2 := Lib.hid (atomsB_yes (l := p) fun j hj => hn.out j (by omega))
      clear hn hA
      go_wp2
      go_ret
      exact ⟨⟨_, rfl, Or.inr ⟨by decide, hn2.out⟩⟩, rfl⟩

theorem containsNotAtom_any (A : Option Addr) (c : Nat) (p : List Int) (w : World) (hA : IntsAt w A p) (hp : p.length ≤ 1099511627776) :
    Calls Try.prog 88 #[.slice A p.length c, .func (.func 152) #[] #[]] w
      fun e w' => e = .returned (.bool (!atomsB p)) ∧ w = w' := by
  have hi := indexNotAtom_any A c p w hA hp
  clear hA
  generalize atomsB p = r at hi ⊢
  go_enter Try.func88, Try.ntmps88
  go_wp2_with fail
  refine hi.mono ?_
  rintro e w2 ⟨⟨i, rfl, h⟩, rfl⟩
  clear hi
  rcases h with ⟨h, rfl⟩ | ⟨h, rfl⟩
  · go_wp2
    go_ret
    exact ⟨rfl, rfl⟩
  · have h' : ¬ 0 ≤ i := by omega
    go_wp2
    go_ret
    exact ⟨bool_end (by first | rfl | (simp; omega)), rfl⟩

theorem areAtoms_any (A : Option Addr) (c : Nat) (p : List Int) (w : World) (hA : IntsAt w A p) (hp : p.length ≤ 1099511627776) :
    Calls Try.prog 125 #[.slice A p.length c] w fun e w' => e = .returned (.bool (atomsB p)) ∧ w = w' := by
  have hi := containsNotAtom_any A c p w hA hp
  clear hA
  generalize atomsB p = r at hi ⊢
  go_enter Try.func125, Try.ntmps125
  go_wp2_with fail
  refine hi.mono ?_
  rintro e w2 ⟨rfl, rfl⟩
  clear hi
  go_wp2
  go_ret
  exact ⟨bool_end (by cases r <;> rfl), rfl⟩

theorem constB_no1 {l : List Int} (h : ¬ l.length ≤ 3) : constB l = false := by simp [constB, h]
theorem constB_no2 {l : List Int} (h : atomsB l = false) : constB l = false := by simp [constB, h]
theorem constB_no3 {l : List Int} (h : ascB l = false) : constB l = false := by simp [constB, h]
theorem constB_yes {l : List Int} (h : l.length ≤ 3) (h1 : atomsB l = true) (h2 : ascB l = true) : constB l = true := by simp [constB, h, h1, h2]

set_option maxRecDepth 100000 in
set_option maxHeartbeats 2000000 in
theorem areConstants_any (A : Option Addr) (c : Nat) (l : List Int) (w : World) (hA : IntsAt w A l) (hp : l.length ≤ 1099511627776) :
    Calls Try.prog 71 #[.slice A l.length c] w (BoolP (constB l) w) := by
  by_cases h3 : l.length ≤ 3
  · have hi := areAtoms_any A c l w hA hp
    have k3 : ¬ (3 : Int) < (l.length : Int) := by omega
    by_cases ha : atomsB l = true
    · rw [ha] at hi
      go_enter Try.func71, Try.ntmps71
      go_wp2_with (go_at_call 125; refine hi.mono ?_; rintro e w2 ⟨rfl, rfl⟩)
      clear hi
      go_loopw [3] (fun i wr => ∃ k : Nat, 1 ≤ k ∧ (k ≤ l.length ∨ k = 1) ∧ i = .int .i64 k ∧ Hid (∀ j, 0 < j → j < k → itAt l (j - 1) < itAt l j) ∧ Below w.heap.size w wr) (fun i _ => l.length - (intOf i).toNat)
      case atStart => exact ⟨1, Nat.le_refl _, .inr rfl, rfl, fun j h1 h2 => absurd h1 (by omega), Below.refl _ _⟩
      case round =>
        obtain ⟨k, hk1, hk, rfl, hq, hb⟩ := hrel
        by_cases hlt : k < l.length
        · obtain ⟨b1, o1, rfl, hb1, hc1⟩ := hA (by omega)
          obtain ⟨j, rfl⟩ : ∃ j, k = j + 1 := ⟨k - 1, by omega⟩
          have c1 := hc1 j (by omega)
          have c2 := hc1 (j + 1) hlt
          rw [← hb.cell (p := ⟨b1, _, none⟩) hb1] at c1 c2
          have q1 := fun d os => cell_regrown c1 d os
          have q2 := fun d os => cell_regrown c2 d os
          have hres : Hid (¬ itAt l j < itAt l (j + 1) → constB l = false) := Lib.hid fun h => constB_no3 (ascB_no hlt (by omega) h)
          have hnx : Hid (itAt l j < itAt l (j + 1) → ∀ i, 0 < i → i < j + 1 + 1 → itAt l (i - 1) < itAt l i) := Lib.hid fun h i h1 h2 => by
            by_cases e : i = j + 1
            · subst e; exact h
            · exact hq.out i h1 (by omega)
          generalize itAt l j = x at q1 hres hnx
          generalize itAt l (j + 1) = y at q2 hres hnx
          clear hc1 hA hq c1 c2
          by_cases hxy : x < y
          · have hn := Lib.hid (hnx.out hxy)
            have hge : ¬ y ≤ x := by omega
            clear hres hnx
            go_wp2
            refine wp_region_quiet_below (by kernel_rfl) (by kernel_rfl) ?_
            repeat (any_goals (first | go_big_quiet_step (fail) | quiet_step (fail)))
            refine wpQuiet_nil ?_
            intro _ hw'
            obtain ⟨⟨dq, osq⟩, hw''⟩ := hw'
            subst hw''
            have hb3 := hb.trans ((below_regrown wr dq osq).mono hb.size)
            generalize grow (redrawn wr dq) osq = w2 at hb3 ⊢
            clear hb q1 q2
            go_wp2
            refine ⟨⟨j + 1 + 1, by omega, .inl (by omega), by go_num, hn, hb3⟩, ?_⟩
            simp only [intOf]
            omega
          · have hn := Lib.hid (hres.out hxy)
            have hge : y ≤ x := by omega
            clear hres hnx
            go_wp2
            refine wp_region_quiet_below (by kernel_rfl) (by kernel_rfl) ?_
            repeat (any_goals (first | go_big_quiet_step (fail) | quiet_step (fail)))
            refine wpQuiet_nil ?_
            intro _ hw'
            obtain ⟨⟨dq, osq⟩, hw''⟩ := hw'
            subst hw''
            have hb3 := hb.trans ((below_regrown wr dq osq).mono hb.size)
            generalize grow (redrawn wr dq) osq = w2 at hb3 ⊢
            clear hb q1 q2
            go_wp2
            go_ret
            exact ⟨bool_end hn.out.symm, hb3⟩
        · have hn := Lib.hid (constB_yes h3 ha (ascB_yes fun j h1 h2 => hq.out j h1 (by omega)))
          clear hq hA
          go_wp2
          go_ret
          exact ⟨bool_end hn.out.symm, hb⟩
    · have ha' : atomsB l = false := by simpa using ha
      have hn := Lib.hid (constB_no2 ha')
      rw [ha'] at hi
      clear ha ha' hA
      go_enter Try.func71, Try.ntmps71
      go_wp2_with (go_at_call 125; refine hi.mono ?_; rintro e w2 ⟨rfl, rfl⟩)
      go_ret
      exact ⟨bool_end hn.out.symm, Below.refl _ _⟩
  · have hn := Lib.hid (constB_no1 h3)
    have k3 : (3 : Int) < (l.length : Int) := by omega
    clear hA
    go_enter Try.func71, Try.ntmps71
    go_wp2
    go_ret
    exact ⟨bool_end hn.out.symm, Below.refl _ _⟩

set_option maxRecDepth 100000 in
set_option maxHeartbeats 1000000 in
theorem clone_any (A : Option Addr) (c : Nat) (l : List Int) (w : World) (hA : IntsAt w A l) (hl : l.length ≤ 1099511627776) :
    Calls Try.prog 132 #[.slice A l.length c] w (NewInts l w) := by
  have q22 : ∀ (w : World) (a : Option Addr) (n c n' c' : Nat), (binOp .eql 27 (.slice a n c) (.slice none n' c')).run Try.prog w = .ok (.bool a.isNone) w := fun w a n c n' c' => Lib.run_eql_slice_nil w _ _ a n c n' c' Try.underlying27
  cases A with
  | none =>
    have e : l = [] := by
      rcases Nat.eq_zero_or_pos l.length with h0 | h0
      · exact List.eq_nil_of_length_eq_zero h0
      · obtain ⟨b, o, e, _⟩ := hA h0; cases e
    subst e
    go_enter Try.func132, Try.ntmps132
    go_wp2
    go_ret
    exact newInts_nil w
  | some a =>
    obtain ⟨i0, hi0, hz0, hz1, hz2⟩ := info_parts int_infoM
    have HS := Lib.hid hz2
    clear hz2
    have hb : Below w.heap.size w (w.alloc (.cells #[] 3)) := (Below.refl _ _).alloc (Nat.le_refl _) _
    have HN := Lib.hid (ints_news (hA.below hb))
    have ho : (w.alloc (.cells #[] 3)).ownsRow w.heap.size 3 1 (.slice (some ⟨w.heap.size, 0, none⟩) 0 0) 0 [] := World.ownsRow_lit w #[] 0 (Nat.le_refl _) (by decide) rfl
    have HL := Lib.hid (icells_len l)
    go_enter Try.func132, Try.ntmps132
    go_wp2_with (at_builtin; refine wpList_append_own _ rfl (.tmp 5) (.tmp 6) 27 rfl w.heap.size 3 i0 (.int .i64 0) 1 8 Try.underlying27 hi0 hz0 hz1 HS.out rfl (by decide) _ 0 [] rfl ho a l.length c (icells l) rfl (by rw [HL.out, Nat.mul_one]) HN.out (icells_one l) ?c3 ?c4 ?c5 ?_)
    case c3 => unfold maxLen; omega
    case c4 => omega
    case c5 => simp
    intro v2 w2 ho3 hg _
    have hb4 : Below w.heap.size w w2 := below_own hb ho (Nat.le_refl _) (by simp) hg
    clear ho hg hb HN hA
    go_wp2
    go_ret
    exact ⟨_, rfl, ho3, hb4⟩

end Go.Proofs.Ytdbogjhkcnajkaa
