/-
  Constants, tuples and patterns in the model, as contracts. The pattern of a tuple in the model, for whatever constants: as a contract.
-/
import Derived.Test.YtnamlgacjhnpnaaGreatKReduced12
import Derived.Laws.AppendOwnNone
import Derived.Test.YtnamlgacjhnpnaaGreatKReduced5
section
namespace Go.Proofs.YtnamlgacjhnpnaaGreat
open Go.RowKit Go.Sort
set_option linter.unusedVariables false

set_option maxRecDepth 100000 in
set_option maxHeartbeats 2000000 in
theorem l6Constants_any (A : Option Addr) (c : Nat) (l : List Int) (w : World) (hA : IntsAt w A l) (hp : l.length ≤ 1099511627776) :
    Calls Tryz.prog 52 #[.slice A l.length c] w (BoolP (constB l) w) := by
  go_enter Tryz.func52, Tryz.ntmps52
  go_wp2
  go_loop [3, 4, 7] (fun _ _ i => ∃ k : Nat, k ≤ l.length ∧ i = .int .i64 k ∧ Hid (∀ j, j < k → atomB (itAt l j) = true) ∧ Hid (∀ j, 0 < j → j < k → itAt l (j - 1) < itAt l j)) (fun _ _ i => l.length - (intOf i).toNat)
  case atStart => exact ⟨0, Nat.zero_le _, rfl, fun j h1 => absurd h1 (by omega), fun j h1 h2 => absurd h1 (by omega)⟩
  case round =>
    obtain ⟨k, hk, rfl, hqa, hq⟩ := hrel
    by_cases hlt : k < l.length
    · obtain ⟨b1, o1, rfl, hb1, hc1⟩ := hA (by omega)
      have c2 := hc1 k hlt
      by_cases ha : atomB (itAt l k) = true
      · have hat := l1Atom_any (itAt l k) w
        rw [ha] at hat
        have hna : Hid (∀ j, j < k + 1 → atomB (itAt l j) = true) := Lib.hid (next_all (p := fun j => atomB (itAt l j)) hqa.out ha)
        rcases Nat.eq_zero_or_pos k with h0 | h0
        · subst h0
          have hn : Hid (∀ j, 0 < j → j < 0 + 1 → itAt l (j - 1) < itAt l j) := Lib.hid fun j h1 h2 => absurd h1 (by omega)
          rw [Nat.add_zero] at c2
          generalize itAt l 0 = y at c2 hat
          clear hc1 hA hq hqa ha
          go_wp2_with (go_at_call 92; refine hat.mono ?_; rintro e w2 ⟨rfl, rfl⟩)
          clear hat c2
          go_round
          case rel => exact ⟨0 + 1, by omega, by go_num, hna, hn⟩
          case measure => simp [intOf]; omega
        · obtain ⟨j, rfl⟩ : ∃ j, k = j + 1 := ⟨k - 1, by omega⟩
          have c1 := hc1 j (by omega)
          have hres : Hid (¬ itAt l j < itAt l (j + 1) → constB l = false) := Lib.hid fun h => constB_no3 (ascB_no hlt (by omega) h)
          have hnx : Hid (itAt l j < itAt l (j + 1) → ∀ i, 0 < i → i < j + 1 + 1 → itAt l (i - 1) < itAt l i) := Lib.hid fun h i h1 h2 => by
            by_cases e : i = j + 1
            · subst e; exact h
            · exact hq.out i h1 (by omega)
          generalize itAt l j = x at c1 hres hnx
          generalize itAt l (j + 1) = y at c2 hres hnx hat
          clear hc1 hA hq hqa ha
          by_cases hxy : x < y
          · have hn := Lib.hid (hnx.out hxy)
            have hge : ¬ y ≤ x := by omega
            clear hres hnx
            go_wp2_with (go_at_call 92; refine hat.mono ?_; rintro e w2 ⟨rfl, rfl⟩)
            clear hat c1 c2
            go_round
            case rel => exact ⟨j + 1 + 1, by omega, by go_num, hna, hn⟩
            case measure => simp [intOf]; omega
          · have hn := Lib.hid (hres.out hxy)
            have hge : y ≤ x := by omega
            clear hres hnx
            go_wp2_with (go_at_call 92; refine hat.mono ?_; rintro e w2 ⟨rfl, rfl⟩)
            clear hat c1 c2
            go_ret
            exact ⟨bool_end hn.out.symm, Below.refl _ _⟩
      · have ha' : atomB (itAt l k) = false := by simpa using ha
        have hat := l1Atom_any (itAt l k) w
        rw [ha'] at hat
        have hn := Lib.hid (constB_no2 (atomsB_no hlt ha'))
        generalize itAt l k = y at c2 hat
        clear hc1 hA hq hqa ha ha'
        go_wp2_with (go_at_call 92; refine hat.mono ?_; rintro e w2 ⟨rfl, rfl⟩)
        clear hat c2
        go_ret
        exact ⟨bool_end hn.out.symm, Below.refl _ _⟩
    · have h1 := atomsB_yes (l := l) fun j hj => hqa.out j (by omega)
      have h2 := ascB_yes (l := l) fun j h1 h2 => hq.out j h1 (by omega)
      by_cases h3 : l.length ≤ 3
      · have hn := Lib.hid (constB_yes h3 h1 h2)
        have k3 : (l.length : Int) ≤ 3 := by omega
        clear hq hqa hA h1 h2
        go_wp2
        go_ret
        exact ⟨bool_end hn.out.symm, Below.refl _ _⟩
      · have hn := Lib.hid (constB_no1 h3)
        have k3 : ¬ (l.length : Int) ≤ 3 := by omega
        clear hq hqa hA h1 h2
        go_wp2
        go_ret
        exact ⟨bool_end hn.out.symm, Below.refl _ _⟩

set_option maxRecDepth 100000 in
/-- append(row of the call's own, a list of numbers that is there or nil). -/
theorem wpList_append_ints {w : World} {ops : Array Oper} {rest : List Oper} {o : Oper} {a : Act} {Q : Exit → Act → World → Prop} (hgd : o.guard = none) (s x : Operand)
    (ho : o.op = .call { callee := .builtin .append, args := #[s, x], argTypes := #[24, 24] })
    (base : Nat) (v : Value) (n : Nat) (xs : List Value) (hs : a.eval s = v) (hown : w.ownsRow base 3 1 v n xs)
    (A : Option Addr) (c : Nat) (l : List Int) (hx : a.eval x = .slice A l.length c) (hA : IntsAt w A l) (hz : A = none → c = 0) (hn : n + l.length ≤ 1099511627776) (hbase : base ≤ w.heap.size)
    (h : ∀ v' w', w'.ownsRow base 3 1 v' (n + l.length) (xs ++ icells l) → w.grownBy w' v.ownBlock → wpList Tryz.prog ops Q rest (a.put o.dst v') w') : wpList Tryz.prog ops Q (o :: rest) a w := by
  obtain ⟨i0, hi0, hz0, hz1, hz2⟩ := info_parts int_infoM
  cases A with
  | none =>
    have e : l = [] := by
      rcases Nat.eq_zero_or_pos l.length with h0 | h0
      · exact List.eq_nil_of_length_eq_zero h0
      · obtain ⟨b, o, e, _⟩ := hA h0; cases e
    subst e
    have hc := hz rfl
    subst hc
    refine wpList_append_own_none hgd s x 24 ho base 3 i0 1 Tryz.underlying24 hi0 v n xs hs hown hx (h v w ?_ (World.grownBy.refl _ _))
    have e : xs ++ icells [] = xs := by simp [icells]
    rw [e]
    exact hown
  | some ad =>
    refine wpList_append_own _ hgd s x 24 ho base 3 i0 (.int .i64 0) 1 8 Tryz.underlying24 hi0 hz0 hz1 hz2 rfl (by decide) v n xs hs hown ad l.length c (icells l) hx (by rw [icells_len, Nat.mul_one]) (ints_news hA) (icells_one l) (by unfold maxLen; omega) (by omega) hbase fun v' w' h1 h2 _ => h v' w' h1 h2

theorem lastK_end {S : List Int} {a : Int} (hd : S.Nodup) : lastK S a S.length = idxI S a := by
  cases h : hasB S a with
  | true => rw [idxI_in h, lastK_in hd h]
  | false => rw [idxI_out h, lastK_out h]

set_option maxRecDepth 100000 in
set_option maxHeartbeats 4000000 in
theorem l6Pattern_any (A B : Option Addr) (c d : Nat) (cs xs : List Int) (w : World) (hA : IntsAt w A cs) (hz : A = none → c = 0) (hd : cs.Nodup) (hB : IntsAt w B xs) (hlc : cs.length ≤ 1048576) (hlx : xs.length ≤ 1048576) :
    Calls Tryz.prog 120 #[.slice A cs.length c, .slice B xs.length d] w (NewInts (patL cs xs) w) := by
  obtain ⟨i0, hi0, hz0, hz1, hz2⟩ := info_parts int_infoM
  have HS := Lib.hid hz2
  clear hz2
  have hb1 : Below w.heap.size w (w.alloc (.cells #[] 3)) := (Below.refl _ _).alloc (Nat.le_refl _) _
  have hb2 : Below w.heap.size w ((w.alloc (.cells #[] 3)).alloc (.cells #[] 3)) := hb1.alloc (by simp) _
  have ho6 : ((w.alloc (.cells #[] 3)).alloc (.cells #[] 3)).ownsRow w.heap.size 3 1 (.slice (some ⟨w.heap.size, 0, none⟩) 0 0) 0 [] := own_below (World.ownsRow_lit w #[] 0 (Nat.le_refl _) (by decide) rfl) ((Below.refl _ _).alloc (Nat.le_refl _) _)
  have ho5 : ((w.alloc (.cells #[] 3)).alloc (.cells #[] 3)).ownsRow (w.heap.size + 1) 3 1 (.slice (some ⟨w.heap.size + 1, 0, none⟩) 0 0) 0 [] := by
    have h := World.ownsRow_lit (w.alloc (.cells #[] 3)) (e := 3) (size := 1) #[] 0 (Nat.le_refl _) (by decide) rfl
    simpa using h
  have HD := Lib.hid (fun k => seen_nodup hd (xs.take k))
  have hA2 := hA.below hb2
  have hsz2 : w.heap.size + 1 ≤ ((w.alloc (.cells #[] 3)).alloc (.cells #[] 3)).heap.size := by simp
  clear hA hb1 hd
  go_enter Tryz.func120, Tryz.ntmps120
  go_wp2_with (at_builtin; refine wpList_append_ints rfl (.tmp 13) (.tmp 14) rfl (w.heap.size + 1) _ 0 [] rfl ho5 A c cs rfl hA2 hz ?c3 ?c5 ?_)
  case c3 => omega
  case c5 => exact hsz2
  intro v7 w7 ho7 hg7
  have hb7 : Below w.heap.size w w7 := below_own hb2 ho5 (by omega) (by omega) hg7
  have ho8 := own_newer ho6 ho5 hg7 (fun k hk => by simp [Value.ownBlock] at hk; omega)
  have hap7 : Apart v7 (.slice (some ⟨w.heap.size, 0, none⟩) 0 0) := fun k h1 h2 => by
    have h3 := (ho7.lt k h1).1
    simp [Value.ownBlock] at h2
    omega
  have ho9 := own_le ho7 (show w.heap.size ≤ w.heap.size + 1 by omega)
  clear ho5 ho6 hb2 hA2 hsz2 ho7 hg7
  go_wp2
  go_loopw [5, 6, 8, 9, 10, 11, 18] (fun v5 v6 _ _ _ _ i wr => ∃ k : Nat, k ≤ xs.length ∧ i = .int .i64 k ∧ wr.ownsRow w.heap.size 3 1 v6 (seenL cs (xs.take k)).length (icells (seenL cs (xs.take k))) ∧ wr.ownsRow w.heap.size 3 1 v5 k (icells (patL cs (xs.take k))) ∧ Apart v6 v5 ∧ Below w.heap.size w wr) (fun _ _ _ _ _ _ i _ => xs.length - (intOf i).toNat)
  case atStart => exact ⟨0, Nat.zero_le _, rfl, ho9, ho8, hap7, hb7⟩
  case round =>
    clear ho9 ho8 hap7 hb7
    obtain ⟨k, hk, rfl, ho5, ho6, hap, hb⟩ := hrel
    by_cases hlt : k < xs.length
    · obtain ⟨b1, o1, rfl, hb1, hc1⟩ := hB (by omega)
      have c1 := hc1 k hlt
      rw [← hb.cell (p := ⟨b1, _, none⟩) hb1] at c1
      obtain ⟨A5, c5, rfl, hA5⟩ := own_intsAt ho5
      have hsl := seenL_len cs (xs.take k)
      rw [List.length_take] at hsl
      have hsl2 : (seenL cs (xs.take k)).length ≤ 2097152 := by omega
      have hpn := Lib.hid (patL_next (cs := cs) hlt)
      have hsi := Lib.hid (seenL_in (cs := cs) hlt)
      have hso := Lib.hid (seenL_out (cs := cs) hlt)
      have hle := Lib.hid (lastK_end (a := itAt xs k) (HD.out k))
      generalize itAt xs k = a at c1 hpn hsi hso hle
      generalize seenL cs (xs.take k) = S at ho5 hA5 hsl2 hpn hsi hso hap hle
      generalize patL cs (xs.take k) = Q at ho6 hpn
      clear hsl hc1 hB
      have hsz : w.heap.size ≤ wr.heap.size := hb.size
      go_wp2
      go_loop [9, 10, 11, 24] (fun at9 _ _ i => ∃ j : Nat, j ≤ S.length ∧ i = .int .i64 j ∧ at9 = .int .i64 (lastK S a j)) (fun _ _ _ i => S.length - (intOf i).toNat)
      case atStart => exact ⟨0, Nat.zero_le _, rfl, rfl⟩
      case round =>
        obtain ⟨j, hj, rfl, rfl⟩ := hrel
        by_cases hlj : j < S.length
        · obtain ⟨b2, o2, rfl, hb2, hc2⟩ := hA5 (by omega)
          have c2 := hc2 j hlj
          have hks := Lib.hid (lastK_same S a (k := j))
          have hko := Lib.hid (lastK_other S a (k := j))
          have hkg := lastK_ge S a j
          generalize itAt S j = y at c2 hks hko
          clear hc2 ho5 ho6 hb hpn hsi hso hap hle
          by_cases he : y = a
          · have hr := Lib.hid (hks.out he)
            have he' : (y == a) = true := by simp [he]
            clear hks hko he
            go_wp2
            go_round
            case rel => exact ⟨j + 1, by omega, by go_num, by rw [hr.out]⟩
            case measure => simp [intOf]; omega
          · have hr := Lib.hid (hko.out he)
            have he' : (y == a) = false := by simp [he]
            clear hks hko he
            go_wp2
            go_round
            case rel => exact ⟨j + 1, by omega, by go_num, by rw [hr.out]⟩
            case measure => simp [intOf]; omega
        · have e : j = S.length := by omega
          subst e
          rw [hle.out]
          by_cases hin : hasB S a = true
          · have hii := Lib.hid (idxI_in hin)
            have hil := idx_in hin
            have hS2 := Lib.hid (hsi.out hin)
            rw [hii.out]
            have hneg : ¬ ((S.idxOf a : Nat) : Int) < 0 := by omega
            generalize S.idxOf a = n at hneg hpn hil ⊢
            have hbx : Below wr.heap.size wr (wr.alloc (.cells #[.int .i64 (n : Int)] 3)) := (Below.refl _ _).alloc (Nat.le_refl _) _
            have ho5b := own_below ho5 hbx
            have ho6b := own_below ho6 hbx
            have hb2 := hb.trans (hbx.mono hb.size)
            have hcell : (wr.alloc (.cells #[.int .i64 (n : Int)] 3)).cell? ⟨wr.heap.size, 0, none⟩ = some (.int .i64 n) := by simp
            have HC := Lib.hid (one_cell hcell)
            have hsz2 : w.heap.size ≤ (wr.alloc (.cells #[.int .i64 (n : Int)] 3)).heap.size := by simp; omega
            clear hcell ho5 ho6 hb hbx hii hsi hso hin hA5 hle
            go_wp2_with (at_builtin; refine wpList_append_lies _ rfl (.tmp 42) (.tmp 44) 24 rfl w.heap.size 3 i0 (.int .i64 0) 1 8 Tryz.underlying24 hi0 hz0 hz1 HS.out rfl (by decide) _ k _ rfl ho6b ⟨wr.heap.size, 0, none⟩ 1 1 [.int .i64 n] rfl rfl HC.out (int_one _) (by decide) ?c3 ?c4 ?c5 _ rfl ?_)
            case c3 => unfold maxLen; omega
            case c4 => omega
            case c5 => first | exact hsz2 | (simp at hsz2 ⊢; omega) | omega
            intro g cap w3 ho7 hg7 hcase _
            have ho8 : w3.ownsRow w.heap.size 3 1 (.slice (some ⟨g, 0, none⟩) (k + 1) cap) (k + 1) (icells (patL cs (xs.take (k + 1)))) := by
              rw [hpn.out, icells_append]
              exact ho7
            have ho9 : w3.ownsRow w.heap.size 3 1 (.slice A5 S.length c5) (seenL cs (xs.take (k + 1))).length (icells (seenL cs (xs.take (k + 1)))) := by
              rw [hS2.out]
              exact apart_kept ho5b hg7 hap
            have hap2 : Apart (.slice A5 S.length c5) (.slice (some ⟨g, 0, none⟩) (k + 1) cap) := apart_new ho5b hap (hcase.imp id fun h => by rw [h, World.size_alloc])
            have hb4 : Below w.heap.size w w3 := below_own hb2 ho6b (Nat.le_refl _) hsz2 hg7
            clear ho7 hg7 hcase ho5b ho6b hb2 hap HC hpn hS2 c1
            go_wp2
            refine ⟨⟨k + 1, by omega, by go_num, ho9, ho8, hap2, hb4⟩, ?_⟩
            simp only [intOf]
            omega
          · have hin' : hasB S a = false := by simpa using hin
            have hii := Lib.hid (idxI_out hin')
            have hil := idx_out hin'
            have hS2 := Lib.hid (hso.out hin')
            rw [hii.out]
            rw [hil] at hpn
            have hbx : Below wr.heap.size wr (wr.alloc (.cells #[.int .i64 a] 3)) := (Below.refl _ _).alloc (Nat.le_refl _) _
            have ho5b := own_below ho5 hbx
            have ho6b := own_below ho6 hbx
            have hb2 := hb.trans (hbx.mono hb.size)
            have hcell : (wr.alloc (.cells #[.int .i64 a] 3)).cell? ⟨wr.heap.size, 0, none⟩ = some (.int .i64 a) := by simp
            have HC := Lib.hid (one_cell hcell)
            have hsz2 : w.heap.size ≤ (wr.alloc (.cells #[.int .i64 a] 3)).heap.size := by simp; omega
            clear hcell ho5 ho6 hb hbx hii hsi hso hin hA5 hil hin' hle
            go_wp2_with (at_builtin; refine wpList_append_lies _ rfl (.tmp 38) (.tmp 40) 24 rfl w.heap.size 3 i0 (.int .i64 0) 1 8 Tryz.underlying24 hi0 hz0 hz1 HS.out rfl (by decide) _ S.length _ rfl ho5b ⟨wr.heap.size, 0, none⟩ 1 1 [.int .i64 a] rfl rfl HC.out (int_one _) (by decide) ?c3 ?c4 ?c5 _ rfl ?_)
            case c3 => unfold maxLen; omega
            case c4 => omega
            case c5 => first | exact hsz2 | (simp at hsz2 ⊢; omega) | omega
            intro g cap w3 ho7 hg7 hcase _
            have ho9 : w3.ownsRow w.heap.size 3 1 (.slice (some ⟨g, 0, none⟩) (S.length + 1) cap) (S.length + 1) (icells (S ++ [a])) := by
              rw [icells_append]
              exact ho7
            have ho8 := apart_kept ho6b hg7 hap.symm
            have hap2 := apart_new (m := S.length + 1) (cap := cap) ho6b hap.symm (hcase.imp id fun h => by rw [h, World.size_alloc])
            have hb4 : Below w.heap.size w w3 := below_own hb2 ho5b (Nat.le_refl _) hsz2 hg7
            have hbx : Below w3.heap.size w3 (w3.alloc (.cells #[.int .i64 (S.length : Int)] 3)) := (Below.refl _ _).alloc (Nat.le_refl _) _
            have ho9b := own_below ho9 hbx
            have ho8b := own_below ho8 hbx
            have hb5 := hb4.trans (hbx.mono hb4.size)
            have hcell : (w3.alloc (.cells #[.int .i64 (S.length : Int)] 3)).cell? ⟨w3.heap.size, 0, none⟩ = some (.int .i64 S.length) := by simp
            have HC2 := Lib.hid (one_cell hcell)
            have hsz3 : w.heap.size ≤ (w3.alloc (.cells #[.int .i64 (S.length : Int)] 3)).heap.size := hb5.size
            have HS2 : Hid ((S ++ [a]).length = S.length + 1) := Lib.hid (by simp)
            clear ho7 hg7 hcase ho5b ho6b hb2 hap HC c1 ho8 ho9 hcell hb4 hbx
            go_wp2_with (at_builtin; refine wpList_append_lies _ rfl (.tmp 42) (.tmp 44) 24 rfl w.heap.size 3 i0 (.int .i64 0) 1 8 Tryz.underlying24 hi0 hz0 hz1 HS.out rfl (by decide) _ k _ rfl ho8b ⟨w3.heap.size, 0, none⟩ 1 1 [.int .i64 (S.length : Int)] rfl rfl HC2.out (int_one _) (by decide) ?c3 ?c4 ?c5 _ rfl ?_)
            case c3 => unfold maxLen; omega
            case c4 => omega
            case c5 => first | exact hsz3 | (simp at hsz3 ⊢; omega) | omega
            intro g2 cap2 w4 ho10 hg10 hcase2 _
            have ho11 : w4.ownsRow w.heap.size 3 1 (.slice (some ⟨g2, 0, none⟩) (k + 1) cap2) (k + 1) (icells (patL cs (xs.take (k + 1)))) := by
              rw [hpn.out, icells_append]
              exact ho10
            have ho12 : w4.ownsRow w.heap.size 3 1 (.slice (some ⟨g, 0, none⟩) (S.length + 1) cap) (seenL cs (xs.take (k + 1))).length (icells (seenL cs (xs.take (k + 1)))) := by
              rw [hS2.out, HS2.out]
              exact apart_kept ho9b hg10 hap2.symm
            have hap3 : Apart (.slice (some ⟨g, 0, none⟩) (S.length + 1) cap) (.slice (some ⟨g2, 0, none⟩) (k + 1) cap2) := apart_new ho9b hap2.symm (hcase2.imp id fun h => by rw [h, World.size_alloc])
            have hb6 : Below w.heap.size w w4 := below_own hb5 ho8b (Nat.le_refl _) hsz3 hg10
            clear ho10 hg10 hcase2 ho9b ho8b hb5 hap2 HC2 hpn hS2 HS2
            go_wp2
            refine ⟨⟨k + 1, by omega, by go_num, ho12, ho11, hap3, hb6⟩, ?_⟩
            simp only [intOf]
            omega
    · have e : k = xs.length := by omega
      subst e
      rw [List.take_length] at ho6
      have hpl := Lib.hid (patL_len cs xs)
      have hpost : NewInts (patL cs xs) w (.returned u5) wr := ⟨_, rfl, by rw [hpl.out]; exact ho6, hb⟩
      clear ho5 ho6 hap hb hB hpl
      go_wp2
      go_ret
      exact hpost

end Go.Proofs.YtnamlgacjhnpnaaGreat
end

section
namespace Go.Proofs.YtnamlgacjhnpnaaGreat
open Go.RowKit Go.Sort
set_option linter.unusedVariables false

end Go.Proofs.YtnamlgacjhnpnaaGreat
end

