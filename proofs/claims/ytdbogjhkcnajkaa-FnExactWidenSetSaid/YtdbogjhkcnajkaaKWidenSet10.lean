/-
  Constants, tuples and patterns in the model, as contracts. The pattern of a tuple in the model, for whatever constants: as a contract.
-/
import Derived.Test.YtdbogjhkcnajkaaKWidenSet4
import Derived.Laws.AppendOwnNone
import Derived.Test.YtdbogjhkcnajkaaKWidenSet2
section
namespace Go.Proofs.Ytdbogjhkcnajkaa
open Go.RowKit Go.Sort
set_option linter.unusedVariables false

set_option maxRecDepth 100000 in
set_option maxHeartbeats 2000000 in
theorem l6Constants_any (A : Option Addr) (c : Nat) (l : List Int) (w : World) (hA : IntsAt w A l) (hp : l.length ≤ 1099511627776) :
    Calls Try.prog 67 #[.slice A l.length c] w (BoolP (constB l) w) := by
  go_enter Try.func67, Try.ntmps67
  go_wp2
  go_loop [3, 4, 7] (fun _ _ i => ∃ k : Nat, k ≤ l.length ∧ i = .int .i64 k ∧ Hid (∀ j, j < k → atomB (itAt l j) = true) ∧ Hid (∀ j, 0 < j → j < k → itAt l (j - 1) < itAt l j)) (fun _ _ i => l.length - (intOf i).toNat)
  case atStart => exact ⟨0, Nat.zero_le _, rfl, fun j h1 => absurd h1 (by omega), fun j h1 h2 => absurd h1 (by omega)⟩
  case round =>
    obtain ⟨k, hk, rfl, hqa, hq⟩ := hrel
    by_cases hlt : k < l.length
    · obtain ⟨b1, o1, rfl, hb1, hc1⟩ := hA (by omega)
      have c2 := hc1 k hlt
      by_cases ha : atomB (itAt l k) = true
      · have hat := l1Atom_any (itAt l k) w
        rw [ha] at hat
        have hna : Hid (∀ j, j < k + 1 → atomB (itAt l j) = true) := Lib.hid (next_all (p := fun j => atomB (itAt l j)) hqa.out ha)
        rcases Nat.eq_zero_or_pos k with h0 | h0
        · subst h0
          have hn : Hid (∀ j, 0 < j → j < 0 + 1 → itAt l (j - 1) < itAt l j) := Lib.hid fun j h1 h2 => absurd h1 (by omega)
          rw [Nat.add_zero] at c2
          generalize itAt l 0 = y at c2 hat
          clear hc1 hA hq hqa ha
          go_wp2_with (go_at_call 124; refine hat.mono ?_; rintro e w2 ⟨rfl, rfl⟩)
          clear hat c2
          go_round
          case rel => exact ⟨0 + 1, by omega, by go_num, hna, hn⟩
          case measure => simp [intOf]; omega
        · obtain ⟨j, rfl⟩ : ∃ j, k = j + 1 := ⟨k - 1, by omega⟩
          have c1 := hc1 j (by omega)
          have hres : Hid (¬ itAt l j < itAt l (j + 1) → constB l = false) := Lib.hid fun h => constB_no3 (ascB_no hlt (by omega) h)
          have hnx : Hid (itAt l j < itAt l (j + 1) → ∀ i, 0 < i → i < j + 1 + 1 → itAt l (i - 1) < itAt l i) := Lib.hid fun h i h1 h2 => by
            by_cases e : i = j + 1
            · subst e; exact h
            · exact hq.out i h1 (by omega)
          generalize itAt l j = x at c1 hres hnx
          generalize itAt l (j + 1) = y at c2 hres hnx hat
          clear hc1 hA hq hqa ha
          by_cases hxy : x < y
          · have hn := Lib.hid (hnx.out hxy)
            have hge : ¬ y ≤ x := by omega
            clear hres hnx
            go_wp2_with (go_at_call 124; refine hat.mono ?_; rintro e w2 ⟨rfl, rfl⟩)
            clear hat c1 c2
            go_round
            case rel => exact ⟨j + 1 + 1, by omega, by go_num, hna, hn⟩
            case measure => simp [intOf]; omega
          · have hn := Lib.hid (hres.out hxy)
            have hge : y ≤ x := by omega
            clear hres hnx
            go_wp2_with (go_at_call 124; refine hat.mono ?_; rintro e w2 ⟨rfl, rfl⟩)
            clear hat c1 c2
            go_ret
            exact ⟨bool_end hn.out.symm, Below.refl _ _⟩
      · have ha' : atomB (itAt l k) = false := by simpa using ha
        have hat := l1Atom_any (itAt l k) w
        rw [ha'] at hat
        have hn := Lib.hid (constB_no2 (atomsB_no hlt ha'))
        generalize itAt l k = y at c2 hat
        clear hc1 hA hq hqa ha ha'
        go_wp2_with (go_at_call 124; refine hat.mono ?_; rintro e w2 ⟨rfl, rfl⟩)
        clear hat c2
        go_ret
        exact ⟨bool_end hn.out.symm, Below.refl _ _⟩
    · have h1 := atomsB_yes (l := l) fun j hj => hqa.out j (by omega)
      have h2 := ascB_yes (l := l) fun j h1 h2 => hq.out j h1 (by omega)
      by_cases h3 : l.length ≤ 3
      · have hn := Lib.hid (constB_yes h3 h1 h2)
        have k3 : (l.length : Int) ≤ 3 := by omega
        clear hq hqa hA h1 h2
        go_wp2
        go_ret
        exact ⟨bool_end hn.out.symm, Below.refl _ _⟩
      · have hn := Lib.hid (constB_no1 h3)
        have k3 : ¬ (l.length : Int) ≤ 3 := by omega
        clear hq hqa hA h1 h2
        go_wp2
        go_ret
        exact ⟨bool_end hn.out.symm, Below.refl _ _⟩

set_option maxRecDepth 100000 in
/-- append(row of the call's own, a list of numbers that is there or nil). -/
theorem wpList_append_ints {w : World} {ops : Array Oper} {rest : List Oper} {o : Oper} {a : Act} {Q : Exit → Act → World → Prop} (hgd : o.guard = none) (s x : Operand)
    (ho : o.op = .call { callee := .builtin .append, args := #[s, x], argTypes := #[27, 27] })
    (base : Nat) (v : Value) (n : Nat) (xs : List Value) (hs : a.eval s = v) (hown : w.ownsRow base 3 1 v n xs)
    (A : Option Addr) (c : Nat) (l : List Int) (hx : a.eval x = .slice A l.length c) (hA : IntsAt w A l) (hz : A = none → c = 0) (hn : n + l.length ≤ 1099511627776) (hbase : base ≤ w.heap.size)
    (h : ∀ v' w', w'.ownsRow base 3 1 v' (n + l.length) (xs ++ icells l) → w.grownBy w' v.ownBlock → wpList Try.prog ops Q rest (a.put o.dst v') w') : wpList Try.prog ops Q (o :: rest) a w := by
  obtain ⟨i0, hi0, hz0, hz1, hz2⟩ := info_parts int_infoM
  cases A with
  | none =>
    have e : l = [] := by
      rcases Nat.eq_zero_or_pos l.length with h0 | h0
      · exact List.eq_nil_of_length_eq_zero h0
      · obtain ⟨b, o, e, _⟩ := hA h0; cases e
    subst e
    have hc := hz rfl
    subst hc
    refine wpList_append_own_none hgd s x 27 ho base 3 i0 1 Try.underlying27 hi0 v n xs hs hown hx (h v w ?_ (World.grownBy.refl _ _))
    have e : xs ++ icells [] = xs := by simp [icells]
    rw [e]
    exact hown
  | some ad =>
    refine wpList_append_own _ hgd s x 27 ho base 3 i0 (.int .i64 0) 1 8 Try.underlying27 hi0 hz0 hz1 hz2 rfl (by decide) v n xs hs hown ad l.length c (icells l) hx (by rw [icells_len, Nat.mul_one]) (ints_news hA) (icells_one l) (by unfold maxLen; omega) (by omega) hbase fun v' w' h1 h2 _ => h v' w' h1 h2

end Go.Proofs.Ytdbogjhkcnajkaa
end

section
namespace Go.Proofs.Ytdbogjhkcnajkaa
open Go.RowKit Go.Sort
set_option linter.unusedVariables false

end Go.Proofs.Ytdbogjhkcnajkaa
end

