/-
  Whether every number of the one list is in the other, in the program: areAmong as a contract.
-/
import Derived.Test.YtnamlgacjhnpnaaKExtended4
import Derived.Test.YtnamlgacjhnpnaaKExtended9
namespace Go.Proofs.Ytnamlgacjhnpnaa
open Go.RowKit Go.Sort
set_option linter.unusedVariables false

/-- Whether every number of the one list is in the other. -/
def amongB (p q : List Int) : Bool := (List.range p.length).all fun i => hasB q (itAt p i)
theorem among_no {p q : List Int} {i : Nat} (hi : i < p.length) (h : hasB q (itAt p i) = false) : amongB p q = false := by
  unfold amongB
  rw [List.all_eq_false]
  exact ⟨i, List.mem_range.2 hi, by simp [h]⟩
theorem among_yes {p q : List Int} (h : ∀ k, k < p.length → hasB q (itAt p k) = true) : amongB p q = true := by
  unfold amongB
  rw [List.all_eq_true]
  exact fun x hx => h x (List.mem_range.1 hx)
namespace RuleK
theorem next_ok {p : Nat → Bool} {k : Nat} (h : ∀ j, j < k → p j = true) (hk : p k = true) : ∀ j, j < k + 1 → p j = true := by
  intro j hj
  rcases Nat.lt_or_ge j k with h1 | h1
  · exact h j h1
  · rw [show j = k by omega]; exact hk
end RuleK

/-- The function literal: whether a number is not in the list. -/
theorem notIn_any (B : Option Addr) (d V : Nat) (q : List Int) (n : Int) (w : World) (hV : w.cell? ⟨V, 0, none⟩ = some (.slice B q.length d)) (hB : IntsAt w B q) (hl : q.length ≤ 1099511627776) :
    Calls Try.prog 89 #[.int .i64 n, .pointer (some ⟨V, 0, none⟩)] w fun e w' => e = .returned (.bool (!hasB q n)) ∧ w = w' := by
  have hc := contains_any B d q n w hB hl
  generalize hasB q n = r at hc ⊢
  clear hB
  go_enter Try.func89, Try.ntmps89
  go_wp2_with fail
  refine hc.mono ?_
  rintro e w2 ⟨rfl, rfl⟩
  clear hc
  go_wp2
  go_ret
  exact ⟨rfl, rfl⟩

set_option maxRecDepth 100000 in
set_option maxHeartbeats 2000000 in
theorem indexNotIn_any (A B : Option Addr) (c d V : Nat) (p q : List Int) (w : World) (hA : IntsAt w A p) (hV : w.cell? ⟨V, 0, none⟩ = some (.slice B q.length d)) (hB : IntsAt w B q) (hp : p.length ≤ 1099511627776) (hq : q.length ≤ 1099511627776) :
    Calls Try.prog 96 #[.slice A p.length c, .func (.func 89) #[] #[.pointer (some ⟨V, 0, none⟩)]] w
      fun e w' => (∃ i : Int, e = .returned (.int .i64 i) ∧ ((0 ≤ i ∧ amongB p q = false) ∨ (i < 0 ∧ amongB p q = true))) ∧ w = w' := by
  go_enter Try.func96, Try.ntmps96
  go_wp2
  go_loopw [5, 8] (fun _ i wr => ∃ k : Nat, k ≤ p.length ∧ i = .int .i64 k ∧ Hid (∀ j, j < k → hasB q (itAt p j) = true) ∧ w = wr) (fun _ i _ => p.length - (intOf i).toNat)
  case atStart => exact ⟨0, Nat.zero_le _, rfl, Lib.hid (fun j hj => absurd hj (by omega)), rfl⟩
  case round =>
    obtain ⟨k, hk, rfl, hn, rfl⟩ := hrel
    by_cases hlt : k < p.length
    · obtain ⟨b1, o1, rfl, hb1, hc1⟩ := hA (by omega)
      have c1 := hc1 k hlt
      have hcall := notIn_any B d V q (itAt p k) w hV hB hq
      by_cases hx : hasB q (itAt p k) = true
      · rw [hx] at hcall
        have hn2 := Lib.hid (RuleK.next_ok (p := fun j => hasB q (itAt p j)) hn.out hx)
        clear hc1 hA hV hB hn hx
        generalize itAt p k = p1 at c1 hcall
        go_wp2_with (go_at_call 89; refine hcall.mono ?_; rintro e w2 ⟨rfl, rfl⟩)
        clear hcall c1
        refine ⟨⟨k + 1, by omega, by go_num, hn2, by first | rfl | trivial⟩, ?_⟩
        simp only [intOf]
        omega
      · have hx' : hasB q (itAt p k) = false := by simpa using hx
        rw [hx'] at hcall
        have hn2 : Hid (amongB p q = false) := Lib.hid (among_no hlt hx')
        clear hc1 hA hV hB hn hx hx'
        generalize itAt p k = p1 at c1 hcall
        go_wp2_with (go_at_call 89; refine hcall.mono ?_; rintro e w2 ⟨rfl, rfl⟩)
        clear hcall c1
        go_ret
        exact ⟨⟨_, rfl, Or.inl ⟨by omega, hn2.out⟩⟩, rfl⟩
    · have hn2 : Hid (amongB p q = true) := Lib.hid (among_yes fun j hj => hn.out j (by omega))
      clear hA hV hB hn
      go_wp2
      go_ret
      exact ⟨⟨_, rfl, Or.inr ⟨by decide, hn2.out⟩⟩, rfl⟩

theorem containsNotIn_any (A B : Option Addr) (c d V : Nat) (p q : List Int) (w : World) (hA : IntsAt w A p) (hV : w.cell? ⟨V, 0, none⟩ = some (.slice B q.length d)) (hB : IntsAt w B q) (hp : p.length ≤ 1099511627776) (hq : q.length ≤ 1099511627776) :
    Calls Try.prog 65 #[.slice A p.length c, .func (.func 89) #[] #[.pointer (some ⟨V, 0, none⟩)]] w
      fun e w' => e = .returned (.bool (!amongB p q)) ∧ w = w' := by
  have hi := indexNotIn_any A B c d V p q w hA hV hB hp hq
  clear hA hV hB
  generalize amongB p q = r at hi ⊢
  go_enter Try.func65, Try.ntmps65
  go_wp2_with fail
  refine hi.mono ?_
  rintro e w2 ⟨⟨i, rfl, h⟩, rfl⟩
  clear hi
  rcases h with ⟨h, rfl⟩ | ⟨h, rfl⟩
  · go_wp2
    go_ret
    exact ⟨rfl, rfl⟩
  · have h' : ¬ 0 ≤ i := by omega
    go_wp2
    go_ret
    exact ⟨bool_end (by first | rfl | (simp; omega)), rfl⟩

theorem areAmong_any (A B : Option Addr) (c d : Nat) (p q : List Int) (w : World) (hA : IntsAt w A p) (hB : IntsAt w B q) (hp : p.length ≤ 1099511627776) (hq : q.length ≤ 1099511627776) :
    Calls Try.prog 57 #[.slice A p.length c, .slice B q.length d] w fun e w' => e = .returned (.bool (amongB p q)) ∧ Below w.heap.size w w' := by
  have hb0 : Below w.heap.size w (w.alloc (.cells #[.slice B q.length d] 24)) := (Below.refl _ _).alloc (Nat.le_refl _) _
  have hV : (w.alloc (.cells #[.slice B q.length d] 24)).cell? ⟨w.heap.size, 0, none⟩ = some (.slice B q.length d) := by simp
  have hcc := containsNotIn_any A B c d w.heap.size p q _ (hA.below hb0) hV (hB.below hb0) hp hq
  generalize amongB p q = r at hcc ⊢
  clear hA hB hV
  go_enter Try.func57, Try.ntmps57
  go_wp2_with fail
  refine hcc.mono ?_
  rintro e w2 ⟨rfl, rfl⟩
  clear hcc
  go_wp2
  go_ret
  exact ⟨by first | rfl | simp, hb0⟩

end Go.Proofs.Ytnamlgacjhnpnaa
