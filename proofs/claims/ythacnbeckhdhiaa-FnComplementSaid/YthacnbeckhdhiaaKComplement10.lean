/-
  Constants, tuples and patterns in the program, as contracts.
-/
import Derived.Test.YthacnbeckhdhiaaKComplement2
import Derived.BigQuiet
import Derived.WalkSpells
import Derived.Lib.QuietBelow
import Derived.Deep.AppendLies
namespace Go.Proofs.Ythacnbeckhdhiaa
open Go.RowKit Go.Sort
set_option linter.unusedVariables false

/-- Two values do not own one block. -/
def Apart (v u : Value) : Prop := ∀ k, v.ownBlock = some k → u.ownBlock ≠ some k
theorem Apart.symm {v u : Value} (h : Apart v u) : Apart u v := fun k h1 h2 => h k h2 h1

theorem notAtom_any (n : Int) (w : World) :
    Calls Try.prog 34 #[.int .i64 n] w fun e w' => e = .returned (.bool (!atomB n)) ∧ w = w' := by
  have hc := isAtom_any n w
  generalize atomB n = r at hc ⊢
  go_enter Try.func34, Try.ntmps34
  go_wp2_with fail
  refine hc.mono ?_
  rintro e w2 ⟨rfl, rfl⟩
  clear hc
  go_wp2
  go_ret
  exact ⟨rfl, rfl⟩

theorem next_all {p : Nat → Bool} {k : Nat} (h : ∀ j, j < k → p j = true) (hk : p k = true) : ∀ j, j < k + 1 → p j = true := by
  intro j hj
  rcases Nat.lt_or_ge j k with h1 | h1
  · exact h j h1
  · rw [show j = k by omega]; exact hk

set_option maxRecDepth 100000 in
set_option maxHeartbeats 2000000 in
theorem indexNotAtom_any (A : Option Addr) (c : Nat) (p : List Int) (w : World) (hA : IntsAt w A p) (hp : p.length ≤ 1099511627776) :
    Calls Try.prog 40 #[.slice A p.length c, .func (.func 34) #[] #[]] w
      fun e w' => (∃ i : Int, e = .returned (.int .i64 i) ∧ ((0 ≤ i ∧ atomsB p = false) ∨ (i < 0 ∧ atomsB p = true))) ∧ w = w' := by
  go_enter Try.func40, Try.ntmps40
  go_wp2
  go_loopw [5, 8] (fun _ i wr => ∃ k : Nat, k ≤ p.length ∧ i = .int .i64 k ∧ Hid (∀ j, j < k → atomB (itAt p j) = true) ∧ w = wr) (fun _ i _ => p.length - (intOf i).toNat)
  case atStart => exact ⟨0, Nat.zero_le _, rfl, Lib.hid (fun j hj => absurd hj (by omega)), rfl⟩
  case round =>
    obtain ⟨k, hk, rfl, hn, rfl⟩ := hrel
    by_cases hlt : k < p.length
    · obtain ⟨b1, o1, rfl, hb1, hc1⟩ := hA (by omega)
      have c1 := hc1 k hlt
      have hcall := notAtom_any (itAt p k) w
      by_cases hx : atomB (itAt p k) = true
      · rw [hx] at hcall
        have hn2 := Lib.hid (next_all (p := fun j => atomB (itAt p j)) hn.out hx)
        clear hc1 hA hn hx
        generalize itAt p k = p1 at c1 hcall
        go_wp2_with (go_at_call 34; refine hcall.mono ?_; rintro e w2 ⟨rfl, rfl⟩)
        clear hcall c1
        refine ⟨⟨k + 1, by omega, by go_num, hn2, by first | rfl | trivial⟩, ?_⟩
        simp only [intOf]
        omega
      · have hx' : atomB (itAt p k) = false := by simpa using hx
        rw [hx'] at hcall
        have hn2 := Lib.hid (atomsB_no hlt hx')
        clear hc1 hA hn hx hx'
        generalize itAt p k = p1 at c1 hcall
        go_wp2_with (go_at_call 34; refine hcall.mono ?_; rintro e w2 ⟨rfl, rfl⟩)
        clear hcall c1
        go_ret
        exact ⟨⟨_, rfl, Or.inl ⟨by omega, hn2.out⟩⟩, rfl⟩
    · have hn2 := Lib.hid (atomsB_yes (l := p) fun j hj => hn.out j (by omega))
      clear hn hA
      go_wp2
      go_ret
      exact ⟨⟨_, rfl, Or.inr ⟨by decide, hn2.out⟩⟩, rfl⟩

theorem containsNotAtom_any (A : Option Addr) (c : Nat) (p : List Int) (w : World) (hA : IntsAt w A p) (hp : p.length ≤ 1099511627776) :
    Calls Try.prog 33 #[.slice A p.length c, .func (.func 34) #[] #[]] w
      fun e w' => e = .returned (.bool (!atomsB p)) ∧ w = w' := by
  have hi := indexNotAtom_any A c p w hA hp
  clear hA
  generalize atomsB p = r at hi ⊢
  go_enter Try.func33, Try.ntmps33
  go_wp2_with fail
  refine hi.mono ?_
  rintro e w2 ⟨⟨i, rfl, h⟩, rfl⟩
  clear hi
  rcases h with ⟨h, rfl⟩ | ⟨h, rfl⟩
  · go_wp2
    go_ret
    exact ⟨rfl, rfl⟩
  · have h' : ¬ 0 ≤ i := by omega
    go_wp2
    go_ret
    exact ⟨bool_end (by first | rfl | (simp; omega)), rfl⟩

theorem areAtoms_any (A : Option Addr) (c : Nat) (p : List Int) (w : World) (hA : IntsAt w A p) (hp : p.length ≤ 1099511627776) :
    Calls Try.prog 27 #[.slice A p.length c] w fun e w' => e = .returned (.bool (atomsB p)) ∧ w = w' := by
  have hi := containsNotAtom_any A c p w hA hp
  clear hA
  generalize atomsB p = r at hi ⊢
  go_enter Try.func27, Try.ntmps27
  go_wp2_with fail
  refine hi.mono ?_
  rintro e w2 ⟨rfl, rfl⟩
  clear hi
  go_wp2
  go_ret
  exact ⟨bool_end (by cases r <;> rfl), rfl⟩

end Go.Proofs.Ythacnbeckhdhiaa
