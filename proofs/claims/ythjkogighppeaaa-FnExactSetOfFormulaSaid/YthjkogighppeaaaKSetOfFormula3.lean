/-
  The comparison of two pairs and of two lists of pairs, as contracts. Comparing, numbering and copying lists of integers, as contracts. Comparing numbers, atoms, and finding a pair by its first atom, as contracts. Whether moves are in order, as a contract. Whether a list has a number: in the model, as a contract. Constants, tuples and patterns: plain words, no program is walked here. Patterns by themselves, all of them, and their order: plain words, no program is walked here. Whether a list of pairs is a permutation, as the program decides it: a contract. Whether a list of pairs is a permutation, as the model decides it: a contract; and that both decide alike. The moved atoms of a list of pairs: in the program, as a contract. A number is put into an ascending list, and the atoms of two lists of pairs together: in the model, as contracts. The atoms that two lists of pairs move: in the model, as a contract. What is a term: plain words, no program is walked here. All terms within a term: plain words. The shape of a term, in the model, as contracts. The least atom that is not in a list: in the program, as a contract. Patterns as codes of base eight, and tables of them: plain words, no program is walked here. The pattern of a tuple is a pattern: plain words, no program is walked here. Examples of patterns: plain words, no program is walked here. The least atom that is not in a list: in the model, as a contract. What is a term, and how great it is, in the model, as contracts.
-/
import Derived.Test.YthjkogighppeaaaKSetOfFormula2
import Derived.WalkLawsBesides
import Derived.WalkSpells
import Derived.BigQuiet
import Derived.Lib.QuietBelow
import Derived.Lib.Hide
section
namespace Go.Proofs.Ythjkogighppeaaa
open Go.RowKit Go.Sort

end Go.Proofs.Ythjkogighppeaaa
end

section
namespace Go.Proofs.Ythjkogighppeaaa
open Go.RowKit Go.Sort

set_option maxHeartbeats 400000 in
theorem eqIntS_any (A B : Option Addr) (c d : Nat) (xs ys : List Int) (w : World) (hx : IntsAt w A xs) (hy : IntsAt w B ys) (hlx : xs.length ≤ 9223372036854775807) :
    Calls Try.prog 29 #[.slice A xs.length c, .slice B ys.length d] w
      fun e w' => e = .returned (.bool (decide (xs = ys))) ∧ Below w.heap.size w w' := by
  by_cases hl : xs.length = ys.length
  · have k0 : ((xs.length : Int) != (ys.length : Int)) = false := by simp [hl]
    have HL := Lib.hid hl
    clear hl
    go_enter Try.func29, Try.ntmps29
    go_wp2
    go_loopw [5] (fun i wr => ∃ k : Nat, k ≤ xs.length ∧ i = .int .i64 k ∧ xs.take k = ys.take k ∧ Below w.heap.size w wr) (fun i _ => xs.length - (intOf i).toNat)
    case atStart => exact ⟨0, Nat.zero_le _, rfl, rfl, Below.refl _ _⟩
    case round =>
      obtain ⟨k, hk, rfl, ht, hb⟩ := hrel
      have HT := Lib.hid ht
      clear ht
      by_cases hlt : k < xs.length
      · obtain ⟨b1, o1, rfl, hb1, hc1⟩ := hx (by omega)
        obtain ⟨b2, o2, rfl, hb2, hc2⟩ := hy (by have := HL.out; omega)
        have c1 := hc1 k hlt
        have c3 := hc2 k (by have := HL.out; omega)
        rw [← hb.cell (p := ⟨b1, _, none⟩) hb1] at c1
        rw [← hb.cell (p := ⟨b2, _, none⟩) hb2] at c3
        have hlt2 : k < ys.length := by have := HL.out; omega
        clear hc1 hc2 hx hy
        have q1 := fun d os => cell_regrown c1 d os
        have q3 := fun d os => cell_regrown c3 d os
        by_cases he : itAt xs k = itAt ys k
        · have hn : Hid (xs.take (k + 1) = ys.take (k + 1)) := (take_next 0 k hlt hlt2 HT.out).2 he
          have hq : (itAt xs k != itAt ys k) = false := by simp [he]
          generalize itAt xs k = x at q1 hq
          generalize itAt ys k = y at q3 hq
          clear he c1 c3
          go_wp2
          refine wp_region_quiet_below (by kernel_rfl) (by kernel_rfl) ?_
          repeat (any_goals (first | go_big_quiet_step (fail) | quiet_step (fail)))
          refine wpQuiet_nil ?_
          intro _ hw'
          obtain ⟨⟨dq, osq⟩, hw''⟩ := hw'
          subst hw''
          have hb3 := hb.trans ((below_regrown wr dq osq).mono hb.size)
          generalize grow (redrawn wr dq) osq = w2 at hb3 ⊢
          clear q1 q3 hb
          go_wp2
          refine ⟨⟨k + 1, by omega, by go_num, hn.out, hb3⟩, ?_⟩
          simp only [intOf]
          omega
        · have hn : Hid (decide (xs = ys) = false) := idiffer_at k he
          have hq : (itAt xs k != itAt ys k) = true := by simp [he]
          generalize itAt xs k = x at q1 hq
          generalize itAt ys k = y at q3 hq
          clear he c1 c3
          go_wp2
          refine wp_region_quiet_below (by kernel_rfl) (by kernel_rfl) ?_
          repeat (any_goals (first | go_big_quiet_step (fail) | quiet_step (fail)))
          refine wpQuiet_nil ?_
          intro _ hw'
          obtain ⟨⟨dq, osq⟩, hw''⟩ := hw'
          subst hw''
          have hb3 := hb.trans ((below_regrown wr dq osq).mono hb.size)
          generalize grow (redrawn wr dq) osq = w2 at hb3 ⊢
          clear q1 q3 hb
          go_wp2
          go_ret
          exact ⟨bool_end hn.out.symm, hb3⟩
      · go_wp2
        go_ret
        have e : k = xs.length := by omega
        subst e
        exact ⟨bool_end (isame_all HL.out HT.out).symm, hb⟩
  · have k0 : ((xs.length : Int) != (ys.length : Int)) = true := by simp; omega
    have hf : decide (xs = ys) = false := by
      simp only [decide_eq_false_iff_not]
      intro e
      exact hl (by rw [e])
    have HF := Lib.hid hf
    clear hl hf
    go_enter Try.func29, Try.ntmps29
    go_wp2
    go_ret
    exact ⟨bool_end HF.out.symm, Below.refl _ _⟩

set_option maxHeartbeats 400000 in
theorem markIntS_row (base g n cap : Nat) (xs : List Value) (k : Int) (w : World) (hown : w.ownsRow base 3 1 (.slice (some ⟨g, 0, none⟩) n cap) n xs) (hk0 : 0 ≤ k) (hk1 : k + n ≤ 9223372036854775807) (hn : n ≤ 9223372036854775807) :
    Calls Try.prog 33 #[.slice (some ⟨g, 0, none⟩) n cap, .int .i64 k] w
      fun e w' => e = .returned (.int .i64 (k + n)) ∧ w'.ownsRow base 3 1 (.slice (some ⟨g, 0, none⟩) n cap) n (marked k n) ∧ w.grownBy w' (some g) := by
  have hlen := Lib.hid (show xs.length = n by simpa using hown.1)
  have hm0 := markTo_zero k xs
  go_enter Try.func33, Try.ntmps33
  go_wp2
  go_loopw [1, 5] (fun kk i wr => ∃ j : Nat, j ≤ n ∧ i = .int .i64 j ∧ kk = .int .i64 (k + j) ∧ wr.ownsRow base 3 1 (.slice (some ⟨g, 0, none⟩) n cap) n (markTo k j xs) ∧ w.grownBy wr (some g)) (fun _ i _ => n - (intOf i).toNat)
  case atStart => exact ⟨0, Nat.zero_le _, rfl, by simp, by simpa [hm0] using hown, World.grownBy.refl _ _⟩
  case round =>
    obtain ⟨j, hj, rfl, rfl, ho, hg⟩ := hrel
    by_cases hlt : j < n
    · have c0 := ho.cellAt j (by omega)
      have f0 := ho.frozenAt j
      rw [markTo_at k _ xs _ (by rw [hlen.out]; omega)] at c0
      obtain ⟨v0, e0⟩ : ∃ v, wr.cell? ⟨g, j, none⟩ = some v := ⟨_, c0⟩
      clear c0
      obtain ⟨ho1, hg1⟩ := ho.stored j (.int .i64 (k + j))
      rw [markTo_set] at ho1
      have hg3 := grownBy_trans hg hg1
      clear hg1 hg ho
      go_wp2
      refine ⟨⟨j + 1, by omega, by go_num, by go_num, ho1, hg3⟩, ?_⟩
      simp only [intOf]
      omega
    · have ej : j = n := by omega
      subst ej
      rw [markTo_all k _ xs hlen.out] at ho
      go_wp2
      go_ret
      exact ⟨rfl, ho, hg⟩

set_option maxHeartbeats 400000 in
theorem heldIntS_row (base g n cap : Nat) (k : Int) (w : World) (hown : w.ownsRow base 3 1 (.slice (some ⟨g, 0, none⟩) n cap) n (marked k n)) (hk0 : 0 ≤ k) (hk1 : k + n ≤ 9223372036854775807) (hn : n ≤ 9223372036854775807) :
    Calls Try.prog 35 #[.slice (some ⟨g, 0, none⟩) n cap, .int .i64 k] w
      fun e w' => e = .returned (.int .i64 (k + n)) ∧ w = w' := by
  go_enter Try.func35, Try.ntmps35
  go_wp2
  go_loop [1, 5] (fun kk i => ∃ j : Nat, j ≤ n ∧ i = .int .i64 j ∧ kk = .int .i64 (k + j)) (fun _ i => n - (intOf i).toNat)
  case atStart => exact ⟨0, Nat.zero_le _, rfl, by simp⟩
  case round =>
    obtain ⟨j, hj, rfl, rfl⟩ := hrel
    by_cases hlt : j < n
    · have c0 := hown.cellAt j (by omega)
      rw [marked_at k _ _ (by omega)] at c0
      clear hown
      have t0 : (k + (j : Int) != k + (j : Int)) = false := by simp
      go_wp2
      go_round
      case rel => exact ⟨j + 1, by omega, by go_num, by go_num⟩
      case measure => simp [intOf]; omega
    · have ej : j = n := by omega
      subst ej
      clear hown
      go_wp2
      go_ret
      exact ⟨rfl, rfl⟩

theorem markIntS_none (k : Int) (w : World) :
    Calls Try.prog 33 #[.slice none 0 0, .int .i64 k] w fun e w' => e = .returned (.int .i64 k) ∧ w = w' := by
  go_enter Try.func33, Try.ntmps33
  go_wp2
  go_loop [1, 5] (fun kk i => kk = .int .i64 k ∧ i = .int .i64 0) (fun _ _ => 0)
  case atStart => exact ⟨rfl, rfl⟩
  case round =>
    obtain ⟨rfl, rfl⟩ := hrel
    go_wp2
    go_ret
    exact ⟨rfl, rfl⟩

theorem heldIntS_none (k : Int) (w : World) :
    Calls Try.prog 35 #[.slice none 0 0, .int .i64 k] w fun e w' => e = .returned (.int .i64 k) ∧ w = w' := by
  go_enter Try.func35, Try.ntmps35
  go_wp2
  go_loop [1, 5] (fun kk i => kk = .int .i64 k ∧ i = .int .i64 0) (fun _ _ => 0)
  case atStart => exact ⟨rfl, rfl⟩
  case round =>
    obtain ⟨rfl, rfl⟩ := hrel
    go_wp2
    go_ret
    exact ⟨rfl, rfl⟩

theorem markIntS_own (base n : Nat) (v : Value) (xs : List Value) (k : Int) (w : World) (hown : w.ownsRow base 3 1 v n xs) (hk0 : 0 ≤ k) (hk1 : k + n ≤ 9223372036854775807) :
    Calls Try.prog 33 #[v, .int .i64 k] w
      fun e w' => e = .returned (.int .i64 (k + n)) ∧ w'.ownsRow base 3 1 v n (marked k n) ∧ w.grownBy w' v.ownBlock := by
  rcases hown.2 with ⟨rfl, rfl⟩ | ⟨g, cap, cur, rfl, _⟩
  · refine (markIntS_none k w).mono ?_
    rintro e w' ⟨rfl, rfl⟩
    exact ⟨int_end (by simp), by simpa [marked] using World.ownsRow_nil w base _ 1, World.grownBy.refl _ _⟩
  · exact markIntS_row base g n cap xs k w hown hk0 hk1 (by omega)

theorem heldIntS_own (base n : Nat) (v : Value) (k : Int) (w : World) (hown : w.ownsRow base 3 1 v n (marked k n)) (hk0 : 0 ≤ k) (hk1 : k + n ≤ 9223372036854775807) :
    Calls Try.prog 35 #[v, .int .i64 k] w
      fun e w' => e = .returned (.int .i64 (k + n)) ∧ w = w' := by
  rcases hown.2 with ⟨rfl, rfl⟩ | ⟨g, cap, cur, rfl, _⟩
  · refine (heldIntS_none k w).mono ?_
    rintro e w' ⟨rfl, rfl⟩
    exact ⟨int_end (by simp), rfl⟩
  · exact heldIntS_row base g n cap k w hown hk0 hk1 (by omega)

end Go.Proofs.Ythjkogighppeaaa
end

section
namespace Go.Proofs.Ythjkogighppeaaa
section
open Go.RowKit Go.Sort

def atomB (a : Int) : Bool := decide (0 ≤ a ∧ a ≤ 999)

theorem isAtom_any (a : Int) (w : World) :
    Calls Try.prog 62 #[.int .i64 a] w fun e w' => e = .returned (.bool (atomB a)) ∧ w = w' := by
  by_cases h1 : 0 ≤ a
  · by_cases h2 : a ≤ 999
    · go_enter Try.func62, Try.ntmps62
      go_wp2
      go_ret
      exact ⟨bool_end (by simp [atomB, h1, h2]), rfl⟩
    · have k2 : decide (a ≤ 999) = false := by simpa using h2
      have k3 : 999 < a := by omega
      clear h2
      go_enter Try.func62, Try.ntmps62
      go_wp2
      go_ret
      exact ⟨bool_end (by simp [atomB]; omega), rfl⟩
  · have k1 : a < 0 := by omega
    clear h1
    go_enter Try.func62, Try.ntmps62
    go_wp2
    go_ret
    exact ⟨bool_end (by simp [atomB]; omega), rfl⟩

end

section
open Go.RowKit Go.Sort

/-- What is asked of the pair at a place. -/
def okAt (l : List (Int × Int)) (i : Nat) : Bool :=
  atomB (prAt l i).1 && (atomB (prAt l i).2 && (decide ((prAt l i).1 ≠ (prAt l i).2) && (decide (i = 0) || decide ((prAt l (i - 1)).1 < (prAt l i).1))))

def orderB (l : List (Int × Int)) : Bool := (List.range l.length).all (okAt l)

end
end Go.Proofs.Ythjkogighppeaaa
end

section
namespace Go.Proofs.Ythjkogighppeaaa
open Go.RowKit Go.Sort

/-- Whether a list has a number. -/
def hasB (l : List Int) (a : Int) : Bool := l.contains a

set_option maxHeartbeats 400000 in
theorem l1Has_any (A : Option Addr) (c : Nat) (l : List Int) (a : Int) (w : World) (hA : IntsAt w A l) (hl : l.length ≤ 1099511627776) :
    Calls Try.prog 59 #[.slice A l.length c, .int .i64 a] w fun e w' => e = .returned (.bool (hasB l a)) ∧ w = w' := by
  go_enter Try.func59, Try.ntmps59
  go_wp2
  go_loop [5] (fun i => ∃ k : Nat, k ≤ l.length ∧ i = .int .i64 k ∧ Hid (∀ j, j < k → itAt l j ≠ a)) (fun i => l.length - (intOf i).toNat)
  case atStart => exact ⟨0, Nat.zero_le _, rfl, fun j hj => absurd hj (by omega)⟩
  case round =>
    obtain ⟨k, hk, rfl, hq⟩ := hrel
    by_cases hlt : k < l.length
    · obtain ⟨b1, o1, rfl, hb1, hc1⟩ := hA (by omega)
      have c1 := hc1 k hlt
      clear hc1 hA
      by_cases he : (itAt l k == a) = true
      · have hres : Hid (hasB l a = true) := by
          show hasB l a = true
          unfold hasB
          rw [List.contains_iff_mem]
          have e : itAt l k = a := by simpa using he
          rw [← e, itAt_get l k hlt]
          exact List.getElem_mem hlt
        generalize itAt l k = x at c1 he
        clear hq
        go_wp2
        go_ret
        exact ⟨bool_end hres.out.symm, rfl⟩
      · have he' : (itAt l k == a) = false := by simpa using he
        have hn : Hid (∀ j, j < k + 1 → itAt l j ≠ a) := by
          intro j hj
          by_cases e : j = k
          · rw [e]; simpa using he'
          · exact hq.out j (by omega)
        generalize itAt l k = x at c1 he he'
        clear hq he
        go_wp2
        go_round
        case rel => exact ⟨k + 1, by omega, by go_num, hn⟩
        case measure => simp [intOf]; omega
    · have hres : Hid (hasB l a = false) := by
        show hasB l a = false
        unfold hasB
        rw [← Bool.not_eq_true, List.contains_iff_mem]
        intro hmem
        obtain ⟨j, hj, e⟩ := List.getElem_of_mem hmem
        exact hq.out j (by omega) (by rw [itAt_get l j hj]; exact e)
      clear hq hA
      go_wp2
      go_ret
      exact ⟨bool_end hres.out.symm, rfl⟩

end Go.Proofs.Ythjkogighppeaaa
end

section
namespace Go.Proofs.Ythjkogighppeaaa
open Go.RowKit
set_option linter.unusedVariables false

/-- One atom more: what has been seen, and the pattern so far. -/
def patStep (s : List Int × List Int) (a : Int) : List Int × List Int := (if hasB s.1 a then s.1 else s.1 ++ [a], s.2 ++ [((s.1.idxOf a : Nat) : Int)])
def patF (cs xs : List Int) : List Int × List Int := xs.foldl patStep (cs, [])
/-- The pattern of a tuple. -/
def patL (cs xs : List Int) : List Int := (patF cs xs).2
def seenL (cs xs : List Int) : List Int := (patF cs xs).1

theorem patF_next {cs xs : List Int} {k : Nat} (h : k < xs.length) : patF cs (xs.take (k + 1)) = patStep (patF cs (xs.take k)) (itAt xs k) := by
  rw [itake_next h]
  unfold patF
  rw [List.foldl_append]
  rfl
theorem patF_len (cs : List Int) : ∀ (xs : List Int) (s : List Int × List Int), (xs.foldl patStep s).2.length = s.2.length + xs.length ∧ (xs.foldl patStep s).1.length ≤ s.1.length + xs.length
  | [], s => by simp
  | a :: r, s => by
    obtain ⟨h1, h2⟩ := patF_len cs r (patStep s a)
    rw [List.foldl_cons, h1]
    refine ⟨by simp [patStep]; omega, ?_⟩
    refine Nat.le_trans h2 ?_
    unfold patStep
    dsimp only
    split <;> simp <;> omega
theorem patL_len (cs xs : List Int) : (patL cs xs).length = xs.length := by
  have := (patF_len cs xs (cs, [])).1
  simpa [patL, patF] using this
theorem seenL_len (cs xs : List Int) : (seenL cs xs).length ≤ cs.length + xs.length := (patF_len cs xs (cs, [])).2
theorem patL_next {cs xs : List Int} {k : Nat} (h : k < xs.length) : patL cs (xs.take (k + 1)) = patL cs (xs.take k) ++ [(((seenL cs (xs.take k)).idxOf (itAt xs k) : Nat) : Int)] := by
  unfold patL seenL
  rw [patF_next h]
  rfl
theorem seenL_in {cs xs : List Int} {k : Nat} (h : k < xs.length) (hs : hasB (seenL cs (xs.take k)) (itAt xs k) = true) : seenL cs (xs.take (k + 1)) = seenL cs (xs.take k) := by
  unfold seenL at hs ⊢
  rw [patF_next h]
  unfold patStep
  simp only [hs, if_true]
theorem seenL_out {cs xs : List Int} {k : Nat} (h : k < xs.length) (hs : hasB (seenL cs (xs.take k)) (itAt xs k) = false) : seenL cs (xs.take (k + 1)) = seenL cs (xs.take k) ++ [itAt xs k] := by
  unfold seenL at hs ⊢
  rw [patF_next h]
  unfold patStep
  simp [hs]
theorem hasB_mem {l : List Int} {a : Int} : hasB l a = true ↔ a ∈ l := by unfold hasB; exact List.contains_iff_mem
theorem hasB_not {l : List Int} {a : Int} : hasB l a = false ↔ a ∉ l := by
  constructor
  · intro h hm; rw [hasB_mem.2 hm] at h; cases h
  · intro h
    cases hh : hasB l a with
    | false => rfl
    | true => exact absurd (hasB_mem.1 hh) h
theorem idx_out {l : List Int} {a : Int} (h : hasB l a = false) : l.idxOf a = l.length := List.idxOf_eq_length (hasB_not.1 h)
theorem idx_in {l : List Int} {a : Int} (h : hasB l a = true) : l.idxOf a < l.length := List.idxOf_lt_length_iff.2 (hasB_mem.1 h)
theorem idx_at {l : List Int} {a : Int} (h : hasB l a = true) : itAt l (l.idxOf a) = a := by
  rw [itAt_get _ _ (idx_in h)]
  exact List.getElem_idxOf (idx_in h)
/-- The first place at which it is. -/
theorem idx_first {l : List Int} {a : Int} {k : Nat} (hk : k < l.length) (e : itAt l k = a) (hn : ∀ j, j < k → itAt l j ≠ a) : l.idxOf a = k ∧ hasB l a = true := by
  have hm : hasB l a = true := by rw [hasB_mem, ← e, itAt_get l k hk]; exact List.getElem_mem hk
  refine ⟨?_, hm⟩
  rcases Nat.lt_trichotomy (l.idxOf a) k with h1 | h1 | h1
  · exact absurd (idx_at hm) (hn _ h1)
  · exact h1
  · exfalso
    have h2 := List.not_of_lt_findIdx (p := fun x => x == a) (xs := l) (i := k) h1
    rw [itAt_get l k hk] at e
    simp [e] at h2
theorem idx_none {l : List Int} {a : Int} (hn : ∀ j, j < l.length → itAt l j ≠ a) : hasB l a = false := by
  rw [hasB_not]
  intro hm
  obtain ⟨k, hk, e⟩ := List.getElem_of_mem hm
  exact hn k hk (by rw [itAt_get l k hk]; exact e)

end Go.Proofs.Ythjkogighppeaaa
end

section
namespace Go.Proofs.Ythjkogighppeaaa
open Go.RowKit
set_option linter.unusedVariables false

/-- The number that one more atom gets. -/
def newN (k : Int) (p : List Int) : Int := p.foldl (fun m n => max m (n + 1)) k
theorem newN_next {k : Int} {p : List Int} {i : Nat} (h : i < p.length) : newN k (p.take (i + 1)) = max (newN k (p.take i)) (itAt p i + 1) := by
  rw [itake_next h]
  unfold newN
  rw [List.foldl_append]
  rfl
theorem newN_ge (k : Int) (p : List Int) : k ≤ newN k p := by
  unfold newN
  induction p generalizing k with
  | nil => exact Int.le_refl _
  | cons a r ih => rw [List.foldl_cons]; have := ih (max k (a + 1)); omega
theorem newN_snoc (k : Int) (p : List Int) (n : Int) : newN k (p ++ [n]) = max (newN k p) (n + 1) := by
  unfold newN
  rw [List.foldl_append]
  rfl
theorem newN_bound {k B : Int} : ∀ {p : List Int}, k ≤ B → (∀ i, i < p.length → itAt p i < B) → newN k p ≤ B
  | [], h, _ => h
  | a :: r, h, hp => by
    have h0 := hp 0 (by simp)
    have h1 : itAt (a :: r) 0 = a := rfl
    rw [h1] at h0
    show newN (max k (a + 1)) r ≤ B
    exact newN_bound (by omega) fun i hi => hp (i + 1) (by simpa using hi)

def isPatB (k : Int) (p : List Int) : Bool := (List.range p.length).all fun i => decide (0 ≤ itAt p i) && decide (itAt p i ≤ newN k (p.take i))
theorem isPat_yes {k : Int} {p : List Int} (h : ∀ i, i < p.length → 0 ≤ itAt p i ∧ itAt p i ≤ newN k (p.take i)) : isPatB k p = true := by
  unfold isPatB
  rw [List.all_eq_true]
  intro i hi
  simp only [Bool.and_eq_true, decide_eq_true_eq]
  exact h i (List.mem_range.1 hi)
theorem isPat_at {k : Int} {p : List Int} (h : isPatB k p = true) {i : Nat} (hi : i < p.length) : 0 ≤ itAt p i ∧ itAt p i ≤ newN k (p.take i) := by
  unfold isPatB at h
  rw [List.all_eq_true] at h
  have := h i (List.mem_range.2 hi)
  simpa only [Bool.and_eq_true, decide_eq_true_eq] using this
theorem newN_le {k : Int} {p : List Int} : ∀ {i : Nat}, i ≤ p.length → (∀ j, j < i → itAt p j ≤ newN k (p.take j)) → newN k (p.take i) ≤ k + i
  | 0, _, _ => by simp [newN]
  | i + 1, hi, h => by
    rw [newN_next (by omega)]
    have h1 := newN_le (i := i) (by omega) fun j hj => h j (by omega)
    have h2 := h i (by omega)
    omega
theorem newN_pat {k : Int} {p : List Int} (h : isPatB k p = true) : newN k p ≤ k + p.length := by
  have := newN_le (k := k) (p := p) (i := p.length) (Nat.le_refl _) fun j hj => (isPat_at h hj).2
  rwa [List.take_length] at this

theorem itAt_snoc_lt {p : List Int} {n : Int} {i : Nat} (h : i < p.length) : itAt (p ++ [n]) i = itAt p i := by
  rw [itAt_get _ _ (by simp; omega), itAt_get _ _ h, List.getElem_append_left h]
theorem itAt_snoc_eq (p : List Int) (n : Int) : itAt (p ++ [n]) p.length = n := by
  rw [itAt_get _ _ (by simp), List.getElem_append_right (Nat.le_refl _)]
  simp
theorem isPat_snoc {k : Int} {p : List Int} {n : Int} : isPatB k (p ++ [n]) = true ↔ isPatB k p = true ∧ 0 ≤ n ∧ n ≤ newN k p := by
  constructor
  · intro h
    refine ⟨isPat_yes fun i hi => ?_, ?_⟩
    · have h1 := isPat_at h (i := i) (by simp; omega)
      rw [itAt_snoc_lt hi, List.take_append_of_le_length (by omega)] at h1
      exact h1
    · have h1 := isPat_at h (i := p.length) (by simp)
      rw [itAt_snoc_eq, List.take_append_of_le_length (Nat.le_refl _), List.take_length] at h1
      exact h1
  · rintro ⟨h, h0, h1⟩
    refine isPat_yes fun i hi => ?_
    rcases Nat.lt_or_ge i p.length with h2 | h2
    · rw [itAt_snoc_lt h2, List.take_append_of_le_length (by omega)]
      exact isPat_at h h2
    · have e : i = p.length := by simp at hi; omega
      subst e
      rw [itAt_snoc_eq, List.take_append_of_le_length (Nat.le_refl _), List.take_length]
      exact ⟨h0, h1⟩

/-- The patterns that go on from one. -/
def extP (k : Int) (p : List Int) : List (List Int) := (List.range (newN k p + 1).toNat).map fun n : Nat => p ++ [(n : Int)]
/-- All patterns of a width. -/
def allP : Nat → Int → List (List Int)
  | 0, _ => [[]]
  | w + 1, k => (allP w k).flatMap (extP k)

theorem mem_allP {k : Int} (hk : 0 ≤ k) : ∀ {w : Nat} {p : List Int}, p ∈ allP w k ↔ p.length = w ∧ isPatB k p = true
  | 0, p => by
    rw [allP, List.mem_singleton]
    constructor
    · rintro rfl; exact ⟨rfl, rfl⟩
    · rintro ⟨h, _⟩; exact List.eq_nil_of_length_eq_zero h
  | w + 1, p => by
    rw [allP, List.mem_flatMap]
    constructor
    · rintro ⟨q, hq, hp⟩
      obtain ⟨h1, h2⟩ := (mem_allP hk).1 hq
      unfold extP at hp
      rw [List.mem_map] at hp
      obtain ⟨n, hn, rfl⟩ := hp
      rw [List.mem_range] at hn
      refine ⟨by simp [h1], isPat_snoc.2 ⟨h2, by omega, by omega⟩⟩
    · rintro ⟨h1, h2⟩
      have hne : p ≠ [] := fun e => by rw [e] at h1; simp at h1
      have e := List.dropLast_concat_getLast hne
      rw [← e] at h2
      obtain ⟨h3, h4, h5⟩ := isPat_snoc.1 h2
      refine ⟨p.dropLast, (mem_allP hk).2 ⟨by simp [h1], h3⟩, ?_⟩
      unfold extP
      rw [List.mem_map]
      refine ⟨(p.getLast hne).toNat, List.mem_range.2 (by omega), ?_⟩
      rw [show (((p.getLast hne).toNat : Nat) : Int) = p.getLast hne by omega]
      exact e
theorem extP_len (k : Int) (p : List Int) : (extP k p).length = (newN k p + 1).toNat := by simp [extP]
theorem flat_len {α β : Type} {f : α → List β} {B : Nat} : ∀ {l : List α}, (∀ a ∈ l, (f a).length ≤ B) → (l.flatMap f).length ≤ l.length * B
  | [], _ => by simp
  | a :: r, h => by
    rw [List.flatMap_cons, List.length_append, List.length_cons, Nat.succ_mul]
    have h1 := h a List.mem_cons_self
    have h2 := flat_len (l := r) fun b hb => h b (List.mem_cons_of_mem _ hb)
    omega
theorem allP_len {k : Int} (hk : 0 ≤ k) (hk3 : k ≤ 3) : ∀ {w : Nat}, w ≤ 4 → (allP w k).length ≤ 8 ^ w
  | 0, _ => by simp [allP]
  | w + 1, h => by
    rw [allP, Nat.pow_succ]
    have h1 := allP_len hk hk3 (w := w) (by omega)
    have h2 : ((allP w k).flatMap (extP k)).length ≤ (allP w k).length * 8 := flat_len fun p hp => by
      obtain ⟨h3, h4⟩ := (mem_allP hk).1 hp
      have := newN_pat h4
      rw [extP_len]
      omega
    exact Nat.le_trans h2 (Nat.mul_le_mul_right _ h1)
theorem allP_4096 {k : Int} (hk : 0 ≤ k) (hk3 : k ≤ 3) {w : Nat} (hw : w ≤ 4) : (allP w k).length ≤ 4096 := by
  have h1 := allP_len hk hk3 hw
  have h2 : 8 ^ w ≤ 8 ^ 4 := Nat.pow_le_pow_right (by decide) hw
  omega
theorem allP_row {k : Int} (hk : 0 ≤ k) {w : Nat} {i : Nat} (hi : i < (allP w k).length) : (rwAt (allP w k) i).length = w ∧ isPatB k (rwAt (allP w k) i) = true :=
  (mem_allP hk).1 (by rw [rwAt_get _ _ hi]; exact List.getElem_mem hi)
theorem sumR_const {c : Nat} : ∀ {ls : List (List Int)}, (∀ l ∈ ls, l.length ≤ c) → sumR ls ≤ ls.length * c
  | [], _ => by simp [sumR]
  | l :: r, h => by
    rw [sumR, List.length_cons, Nat.succ_mul]
    have h1 := h l List.mem_cons_self
    have h2 := sumR_const (ls := r) fun b hb => h b (List.mem_cons_of_mem _ hb)
    omega
theorem allP_fit {k : Int} (hk : 0 ≤ k) (hk3 : k ≤ 3) {w : Nat} (hw : w ≤ 4) : (allP w k).length + sumR (allP w k) ≤ 1048576 := by
  have h1 := allP_4096 hk hk3 hw
  have h2 := sumR_const (c := 4) (ls := allP w k) fun l hl => by have := ((mem_allP hk).1 hl).1; omega
  omega
theorem flat_next {k : Int} {ls : List (List Int)} {j : Nat} (h : j < ls.length) : (ls.take (j + 1)).flatMap (extP k) = (ls.take j).flatMap (extP k) ++ extP k (rwAt ls j) := by
  rw [rw_take_next h, List.flatMap_append]
  simp
theorem flat_take_len {k : Int} (ls : List (List Int)) (j : Nat) : ((ls.take j).flatMap (extP k)).length ≤ (ls.flatMap (extP k)).length := by
  have h : ls.flatMap (extP k) = (ls.take j).flatMap (extP k) ++ (ls.drop j).flatMap (extP k) := by rw [← List.flatMap_append, List.take_append_drop]
  rw [h, List.length_append]
  omega
/-- The first so many that go on from one. -/
def extTo (p : List Int) (n : Nat) : List (List Int) := (List.range n).map fun i : Nat => p ++ [(i : Int)]
theorem extTo_next (p : List Int) (n : Nat) : extTo p (n + 1) = extTo p n ++ [p ++ [(n : Int)]] := by simp [extTo, List.range_succ]
theorem extTo_all (k : Int) (p : List Int) : extTo p (newN k p + 1).toNat = extP k p := rfl
theorem extTo_len (p : List Int) (n : Nat) : (extTo p n).length = n := by simp [extTo]

/-- Whether one is among several. -/
def thereB (ls : List (List Int)) (p : List Int) : Bool := ls.contains p
theorem there_mem {ls : List (List Int)} {p : List Int} : thereB ls p = true ↔ p ∈ ls := by unfold thereB; exact List.contains_iff_mem
theorem there_no {ls : List (List Int)} {p : List Int} (h : ∀ i, i < ls.length → ¬ rwAt ls i = p) : thereB ls p = false := by
  cases hh : thereB ls p with
  | false => rfl
  | true =>
    obtain ⟨i, hi, e⟩ := List.getElem_of_mem (there_mem.1 hh)
    exact absurd (by rw [rwAt_get _ _ hi]; exact e) (h i hi)
theorem there_yes {ls : List (List Int)} {p : List Int} {i : Nat} (hi : i < ls.length) (e : rwAt ls i = p) : thereB ls p = true := by
  rw [there_mem, ← e, rwAt_get _ _ hi]
  exact List.getElem_mem hi
def widB (z : Int) : Bool := decide (0 ≤ z ∧ z ≤ 4)
end Go.Proofs.Ythjkogighppeaaa
end

section
namespace Go.Proofs.Ythjkogighppeaaa
open Go.RowKit Go.Sort

def froms (l : List (Int × Int)) : List Int := l.map (·.1)
def tos (l : List (Int × Int)) : List Int := l.map (·.2)

def goodAt (l : List (Int × Int)) (k : Nat) : Bool := (froms l).contains (prAt l k).2 && !((tos l).take k).contains (prAt l k).2

/-- Whether a list of pairs is a permutation. -/
def permB (l : List (Int × Int)) : Bool := decide (l.length ≤ 40) && (orderB l && (List.range l.length).all (goodAt l))

end Go.Proofs.Ythjkogighppeaaa
end

section
namespace Go.Proofs.Ythjkogighppeaaa
open Go.RowKit Go.Sort

theorem l1Atom_any (a : Int) (w : World) :
    Calls Try.prog 57 #[.int .i64 a] w fun e w' => e = .returned (.bool (atomB a)) ∧ w = w' := by
  by_cases h1 : 0 ≤ a
  · by_cases h2 : a ≤ 999
    · go_enter Try.func57, Try.ntmps57
      go_wp2
      go_ret
      exact ⟨bool_end (by simp [atomB, h1, h2]), rfl⟩
    · have k2 : decide (a ≤ 999) = false := by simpa using h2
      have k3 : 999 < a := by omega
      clear h2
      go_enter Try.func57, Try.ntmps57
      go_wp2
      go_ret
      exact ⟨bool_end (by simp [atomB]; omega), rfl⟩
  · have k1 : a < 0 := by omega
    clear h1
    go_enter Try.func57, Try.ntmps57
    go_wp2
    go_ret
    exact ⟨bool_end (by simp [atomB]; omega), rfl⟩

end Go.Proofs.Ythjkogighppeaaa
end

section
namespace Go.Proofs.Ythjkogighppeaaa
open Go.RowKit Go.Sort

theorem int_infoM : (Try.prog.info? 3).map (fun i => (i.zero, i.size, i.bytes)) = some (some (.int .i64 0), 1, 8) := by kernel_rfl

theorem int_one (x : Int) : ∀ u ∈ [Value.int .i64 x], u.oneCell' = true := by
  intro u hu
  simp at hu
  subst hu
  rfl

theorem one_cell {w : World} {g : Nat} {u : Value} (h : w.cell? ⟨g, 0, none⟩ = some u) : ∀ j x, [u][j]? = some x → w.cell? ((⟨g, 0, none⟩ : Addr).add j) = some x := by
  intro j x hj
  cases j with
  | zero => simp at hj; subst hj; simpa [Addr.add] using h
  | succ j => simp at hj

end Go.Proofs.Ythjkogighppeaaa
end

section
namespace Go.Proofs.Ythjkogighppeaaa
open Go.RowKit Go.Sort

/-- A number is put into an ascending list, if it is not there. -/
def insL : List Int → Int → List Int
  | [], n => [n]
  | x :: r, n => if n < x then n :: x :: r else if n = x then x :: r else x :: insL r n

def AscP (l : List Int) : Prop := l.Pairwise (· < ·)

theorem mem_insL : ∀ (l : List Int) (n a : Int), a ∈ insL l n ↔ a = n ∨ a ∈ l
  | [], n, a => by simp [insL]
  | x :: r, n, a => by
    unfold insL
    split
    · simp
    · split
      · rename_i h; subst h; simp
      · simp only [List.mem_cons, mem_insL r n a]
        constructor
        · rintro (h | h | h)
          · exact .inr (.inl h)
          · exact .inl h
          · exact .inr (.inr h)
        · rintro (h | h | h)
          · exact .inr (.inl h)
          · exact .inl h
          · exact .inr (.inr h)

theorem asc_insL : ∀ (l : List Int) (n : Int), AscP l → AscP (insL l n)
  | [], n, _ => by simp [insL, AscP]
  | x :: r, n, h => by
    unfold AscP at h
    rw [List.pairwise_cons] at h
    unfold insL
    split
    · rename_i h1
      unfold AscP
      rw [List.pairwise_cons, List.pairwise_cons]
      refine ⟨fun a ha => ?_, h.1, h.2⟩
      rcases List.mem_cons.1 ha with e | e
      · rw [e]; exact h1
      · have := h.1 a e; omega
    · split
      · unfold AscP; rw [List.pairwise_cons]; exact h
      · rename_i h1 h2
        unfold AscP
        rw [List.pairwise_cons]
        refine ⟨fun a ha => ?_, asc_insL r n h.2⟩
        rcases (mem_insL r n a).1 ha with e | e
        · rw [e]; omega
        · exact h.1 a e

theorem insL_there : ∀ (l : List Int) (n : Int), AscP l → n ∈ l → insL l n = l
  | [], n, _, h => by simp at h
  | x :: r, n, h, hm => by
    unfold AscP at h
    rw [List.pairwise_cons] at h
    unfold insL
    rcases List.mem_cons.1 hm with e | e
    · rw [if_neg (by omega), if_pos e]
    · have h1 := h.1 n e
      rw [if_neg (by omega), if_neg (by omega), insL_there r n h.2 e]

theorem ins_eq : ∀ (l : List Int) (k : Nat) (n : Int), AscP l → k ≤ l.length → (∀ j, k ≤ j → j < l.length → n < itAt l j) → (k = 0 ∨ itAt l (k - 1) ≤ n) → n ∉ l → l.take k ++ n :: l.drop k = insL l n
  | [], k, n, _, hk, _, _, _ => by
    have e : k = 0 := by simpa using hk
    subst e
    rfl
  | x :: r, 0, n, _, _, h1, _, _ => by
    have h2 : n < x := h1 0 (Nat.le_refl _) (by simp)
    show n :: x :: r = insL (x :: r) n
    unfold insL
    rw [if_pos h2]
  | x :: r, k + 1, n, ha, hk, h1, h2, hn => by
    unfold AscP at ha
    rw [List.pairwise_cons] at ha
    have hk' : k ≤ r.length := by simpa using hk
    have hlast : itAt (x :: r) k ≤ n := by
      rcases h2 with h2 | h2
      · omega
      · exact h2
    have hx : x ≤ n := by
      cases k with
      | zero => exact hlast
      | succ k =>
        have h3 : k < r.length := by omega
        have h4 : itAt (x :: r) (k + 1) = r[k] := by simp [itAt, h3]
        have h5 := ha.1 r[k] (List.getElem_mem h3)
        omega
    have hne : n ≠ x := fun e => hn (by rw [e]; exact List.mem_cons_self)
    have ih := ins_eq r k n ha.2 hk' (fun j hj hl => h1 (j + 1) (by omega) (by simpa using hl)) (by
      cases k with
      | zero => exact .inl rfl
      | succ k => exact .inr hlast) (fun h => hn (List.mem_cons_of_mem _ h))
    show x :: (r.take k ++ n :: r.drop k) = insL (x :: r) n
    unfold insL
    rw [if_neg (by omega), if_neg hne, ih]

/-- Several numbers are put into an ascending list. -/
def insAll (acc xs : List Int) : List Int := xs.foldl insL acc

theorem asc_insAll (acc xs : List Int) (h : AscP acc) : AscP (insAll acc xs) := by
  unfold insAll
  induction xs generalizing acc with
  | nil => exact h
  | cons x r ih => exact ih _ (asc_insL acc x h)

theorem mem_insAll (acc xs : List Int) (a : Int) : a ∈ insAll acc xs ↔ a ∈ acc ∨ a ∈ xs := by
  unfold insAll
  induction xs generalizing acc with
  | nil => simp
  | cons x r ih =>
    rw [List.foldl_cons, ih, mem_insL, List.mem_cons]
    constructor
    · rintro ((h | h) | h)
      · exact .inr (.inl h)
      · exact .inl h
      · exact .inr (.inr h)
    · rintro (h | h | h)
      · exact .inl (.inr h)
      · exact .inl (.inl h)
      · exact .inr h

theorem insAll_next {xs : List Int} {k : Nat} (acc : List Int) (h : k < xs.length) : insAll acc (xs.take (k + 1)) = insL (insAll acc (xs.take k)) (itAt xs k) := by
  rw [itake_next h]
  unfold insAll
  rw [List.foldl_append]
  rfl

theorem asc_same : ∀ (xs ys : List Int), AscP xs → AscP ys → (∀ a, a ∈ xs ↔ a ∈ ys) → xs = ys
  | [], [], _, _, _ => rfl
  | [], y :: ys, _, _, h => by have := (h y).2 List.mem_cons_self; simp at this
  | x :: xs, [], _, _, h => by have := (h x).1 List.mem_cons_self; simp at this
  | x :: xs, y :: ys, h1, h2, h => by
    unfold AscP at h1 h2
    rw [List.pairwise_cons] at h1 h2
    have e : x = y := by
      rcases List.mem_cons.1 ((h x).1 List.mem_cons_self) with e | e
      · exact e
      · rcases List.mem_cons.1 ((h y).2 List.mem_cons_self) with e' | e'
        · exact e'.symm
        · have := h1.1 y e'; have := h2.1 x e; omega
    subst e
    congr 1
    refine asc_same xs ys h1.2 h2.2 fun a => ?_
    constructor
    · intro ha
      rcases List.mem_cons.1 ((h a).1 (List.mem_cons_of_mem _ ha)) with e | e
      · have := h1.1 a ha; omega
      · exact e
    · intro ha
      rcases List.mem_cons.1 ((h a).2 (List.mem_cons_of_mem _ ha)) with e | e
      · have := h2.1 a ha; omega
      · exact e

theorem ints_news {w : World} {a : Addr} {l : List Int} (h : IntsAt w (some a) l) : ∀ j u, (icells l)[j]? = some u → w.cell? (a.add j) = some u := by
  intro j u hj
  have hl : j < l.length := by
    rcases Nat.lt_or_ge j l.length with h1 | h1
    · exact h1
    · rw [List.getElem?_eq_none (by rw [icells_len]; exact h1)] at hj; cases hj
  obtain ⟨b, off, e, _, hc⟩ := h (by omega)
  injection e with e
  subst e
  rw [icells_at l j hl] at hj
  injection hj with hj
  subst hj
  have hadd : (⟨b, off, none⟩ : Addr).add j = ⟨b, off + j, none⟩ := by
    unfold Addr.add
    split
    · rename_i h0; rw [h0]; rfl
    · rfl
  rw [hadd]
  exact hc j hl

theorem icells_one (l : List Int) : ∀ u ∈ icells l, u.oneCell' = true := by
  intro u hu
  simp only [icells, List.mem_map] at hu
  obtain ⟨x, _, rfl⟩ := hu
  rfl

set_option maxHeartbeats 1000000 in
theorem l1Copy_any (a : Addr) (c : Nat) (l : List Int) (w : World) (hA : IntsAt w (some a) l) (hl : l.length ≤ 1099511627776) :
    Calls Try.prog 41 #[.slice (some a) l.length c] w (NewInts l w) := by
  obtain ⟨i0, hi0, hz0, hz1, hz2⟩ := info_parts int_infoM
  have HS := Lib.hid hz2
  clear hz2
  have hb : Below w.heap.size w (w.alloc (.cells #[] 3)) := (Below.refl _ _).alloc (Nat.le_refl _) _
  have HN := Lib.hid (ints_news (hA.below hb))
  have ho : (w.alloc (.cells #[] 3)).ownsRow w.heap.size 3 1 (.slice (some ⟨w.heap.size, 0, none⟩) 0 0) 0 [] := World.ownsRow_lit w #[] 0 (Nat.le_refl _) (by decide) rfl
  have HL := Lib.hid (icells_len l)
  go_enter Try.func41, Try.ntmps41
  go_wp2_with (at_builtin; refine wpList_append_own _ rfl (.tmp 3) (.tmp 4) 26 rfl w.heap.size 3 i0 (.int .i64 0) 1 8 Try.underlying26 hi0 hz0 hz1 HS.out rfl (by decide) _ 0 [] rfl ho a l.length c (icells l) rfl (by rw [HL.out, Nat.mul_one]) HN.out (icells_one l) ?c3 ?c4 ?c5 ?_)
  case c3 => unfold maxLen; omega
  case c4 => omega
  case c5 => simp
  intro v2 w2 ho3 hg _
  have hb4 : Below w.heap.size w w2 := below_own hb ho (Nat.le_refl _) (by simp) hg
  clear ho hg hb HN hA
  go_wp2
  go_ret
  exact ⟨_, rfl, ho3, hb4⟩

theorem IntsAt.take {w : World} {A : Option Addr} {l : List Int} (h : IntsAt w A l) (k : Nat) : IntsAt w A (l.take k) := by
  intro hp
  rw [List.length_take] at hp
  obtain ⟨b, off, rfl, hlt, hc⟩ := h (by omega)
  refine ⟨b, off, rfl, hlt, fun i hi => ?_⟩
  rw [List.length_take] at hi
  rw [hc i (by omega)]
  have : i < k := by omega
  simp [itAt, this]

theorem IntsAt.drop {w : World} {b off : Nat} {l : List Int} (h : IntsAt w (some ⟨b, off, none⟩) l) (k : Nat) : IntsAt w (some ⟨b, off + k, none⟩) (l.drop k) := by
  intro hp
  rw [List.length_drop] at hp
  obtain ⟨b', off', e, hlt, hc⟩ := h (by omega)
  simp only [Option.some.injEq, Addr.mk.injEq, and_true] at e
  obtain ⟨rfl, rfl⟩ := e
  refine ⟨b, off + k, rfl, hlt, fun i hi => ?_⟩
  rw [List.length_drop] at hi
  rw [Nat.add_assoc, hc (k + i) (by omega)]
  simp [itAt]

/-- A slice of the call's own that holds the numbers; of what was there nothing has turned. -/
def InsPost (base : Nat) (l : List Int) (w : World) (e : Ending) (w' : World) : Prop :=
  ∃ g cap, e = .returned (.slice (some ⟨g, 0, none⟩) l.length cap) ∧ w'.ownsRow base 3 1 (.slice (some ⟨g, 0, none⟩) l.length cap) l.length (icells l) ∧ Below w.heap.size w w'

theorem insPost_of {base : Nat} {l : List Int} {w w8 : World} {v8 : Value} (hb : base ≤ w.heap.size) (hp : 0 < l.length) (h : w8.ownsRow w.heap.size 3 1 v8 l.length (icells l)) (hbel : Below w.heap.size w w8) : InsPost base l w (.returned v8) w8 := by
  rcases h.2 with ⟨_, h0⟩ | ⟨g, cap, cur, rfl, _⟩
  · omega
  · exact ⟨g, cap, rfl, own_le h hb, hbel⟩

set_option maxRecDepth 100000 in
set_option maxHeartbeats 2000000 in
theorem l1Insert_any (base g cap : Nat) (l : List Int) (a : Int) (w : World) (hown : w.ownsRow base 3 1 (.slice (some ⟨g, 0, none⟩) l.length cap) l.length (icells l)) (hcap : l.length ≤ cap) (hl : l.length ≤ 1099511627776) (hasc : AscP l) :
    Calls Try.prog 58 #[.slice (some ⟨g, 0, none⟩) l.length cap, .int .i64 a] w (InsPost base (insL l a) w) := by
  obtain ⟨i0, hi0, hz0, hz1, hz2⟩ := info_parts int_infoM
  have HS := Lib.hid hz2
  clear hz2
  have hIA : IntsAt w (some ⟨g, 0, none⟩) l := by
    obtain ⟨A, c, e, h⟩ := own_intsAt hown
    simp only [Value.slice.injEq] at e
    rw [e.1]
    exact h
  have hh := l1Has_any (some ⟨g, 0, none⟩) cap l a w hIA hl
  by_cases hin : hasB l a = true
  · have hres : Hid (insL l a = l) := insL_there l a hasc (by unfold hasB at hin; exact List.contains_iff_mem.1 hin)
    rw [hin] at hh
    rw [hres.out]
    have hpost : InsPost base l w (.returned (.slice (some ⟨g, 0, none⟩) l.length cap)) w := ⟨g, cap, rfl, hown, Below.refl _ _⟩
    clear hin hasc hown hIA
    go_enter Try.func58, Try.ntmps58
    go_wp2_with fail
    refine hh.mono ?_
    rintro e w1 ⟨rfl, rfl⟩
    go_wp2
    go_ret
    exact hpost
  · have hin' : hasB l a = false := by simpa using hin
    have hni : Hid (a ∉ l) := fun h => by unfold hasB at hin'; rw [List.contains_iff_mem.2 h] at hin'; cases hin'
    have HA := Lib.hid hasc
    rw [hin'] at hh
    clear hin hin' hasc
    go_enter Try.func58, Try.ntmps58
    go_wp2_with fail
    refine hh.mono ?_
    rintro e w1 ⟨rfl, rfl⟩
    clear hh
    go_wp2
    go_loop [5] (fun i => ∃ k : Nat, k ≤ l.length ∧ i = .int .i64 k ∧ Hid (∀ j, k ≤ j → j < l.length → a < itAt l j)) (fun i => (intOf i).toNat)
    case atStart => exact ⟨l.length, Nat.le_refl _, rfl, fun j h1 h2 => absurd h1 (by omega)⟩
    case round =>
      obtain ⟨k, hk, rfl, hq⟩ := hrel
      by_cases hz : k = 0
      · subst hz
        have hfin : Hid (l.take 0 ++ a :: l.drop 0 = insL l a) := ins_eq l 0 a HA.out hk hq.out (.inl rfl) hni.out
        have ek : (l.take 0).length = 0 := by rw [List.length_take]; omega
        have hcp := l1Copy_any ⟨g, 0, none⟩ cap (l.take 0) w (hIA.take 0) (by omega)
        rw [ek] at hcp
        have EK := Lib.hid ek
        have hd0 := hIA.drop 0
        rw [Nat.zero_add] at hd0
        have HD := Lib.hid hd0
        have hgs : g < w.heap.size := (hown.lt g rfl).2
        have hbase : base ≤ g := (hown.lt g rfl).1
        have hlen : Hid ((insL l a).length = 0 + 1 + (l.length - 0)) := by
          show (insL l a).length = 0 + 1 + (l.length - 0)
          rw [← hfin.out]
          simp only [List.length_append, List.length_cons, List.length_take, List.length_drop]
          omega
        clear ek hq hown hIA hd0
        go_wp2_with fail
        refine hcp.mono ?_
        rintro e w6 ⟨v6, rfl, ho6, hb6⟩
        rw [EK.out] at ho6
        have hs6 := hb6.size
        have ho6b := ho6.alloc (.cells #[.int .i64 a] 3)
        have hb6b := hb6.alloc hb6.size (.cells #[.int .i64 a] 3)
        have hcell : (w6.alloc (.cells #[.int .i64 a] 3)).cell? ⟨w6.heap.size, 0, none⟩ = some (.int .i64 a) := by simp
        have HC := Lib.hid (one_cell hcell)
        clear hcell hcp ho6
        go_wp2_with (at_builtin; refine wpList_append_own _ rfl (.tmp 29) (.tmp 31) 26 rfl w.heap.size 3 i0 (.int .i64 0) 1 8 Try.underlying26 hi0 hz0 hz1 HS.out rfl (by decide) _ 0 _ rfl ho6b ⟨w6.heap.size, 0, none⟩ 1 1 [.int .i64 a] rfl rfl HC.out (int_one _) ?c3 ?c4 ?c5 ?_)
        case c3 => unfold maxLen; omega
        case c4 => omega
        case c5 => simp; omega
        intro v7 w7 ho7 hg7 _
        have hb7 : Below w.heap.size w w7 := below_own hb6b ho6b (Nat.le_refl _) (by simp; omega) hg7
        have HN := Lib.hid (ints_news (HD.out.below hb7))
        have HL := Lib.hid (show (icells (l.drop 0)).length = (l.length - 0) * 1 by rw [icells_len, List.length_drop, Nat.mul_one])
        have hs7 := hb7.size
        clear ho6b hg7 hb6 hb6b HC
        by_cases hck : cap = 0
        · have hnil : l.length - 0 = 0 := by omega
          have hdn : Hid (l.drop 0 = []) := List.drop_of_length_le (by omega)
          subst hck
          go_wp2_with (at_builtin; refine wpList_append_own _ rfl (.tmp 33) (.tmp 36) 26 rfl w.heap.size 3 i0 (.int .i64 0) 1 8 Try.underlying26 hi0 hz0 hz1 HS.out rfl (by decide) _ (0 + 1) _ rfl ho7 ⟨g, 0, none⟩ _ _ [] rfl ?d2 ?d3 ?d4 ?d5 ?d6 ?d7 ?_)
          case d2 => simp; try omega
          case d3 => intro j u hj; simp at hj
          case d4 => intro u hu; simp at hu
          case d5 => unfold maxLen; omega
          case d6 => omega
          case d7 => omega
          intro v8 w8 ho8 hg8 _
          have ho9 : w8.ownsRow w.heap.size 3 1 v8 (insL l a).length (icells (insL l a)) := by
            rw [hlen.out, ← hfin.out]
            rw [hdn.out]; simpa [icells, hnil] using ho8
          have hb9 : Below w.heap.size w w8 := below_own hb7 ho7 (Nat.le_refl _) hs7 hg8
          have hpost := insPost_of (base := base) (by omega) (by rw [hlen.out]; omega) ho9 hb9
          clear ho8 hg8 ho9 hb9 ho7 hb7 HN HL hlen hfin
          go_wp2
          go_ret
          exact hpost
        · go_wp2_with (at_builtin; refine wpList_append_own _ rfl (.tmp 33) (.tmp 36) 26 rfl w.heap.size 3 i0 (.int .i64 0) 1 8 Try.underlying26 hi0 hz0 hz1 HS.out rfl (by decide) _ (0 + 1) _ rfl ho7 ⟨g, 0, none⟩ (l.length - 0) (cap - 0) (icells (l.drop 0)) rfl HL.out HN.out (icells_one _) ?d3 ?d4 ?d5 ?_)
          case d3 => unfold maxLen; omega
          case d4 => omega
          case d5 => omega
          intro v8 w8 ho8 hg8 _
          have ho9 : w8.ownsRow w.heap.size 3 1 v8 (insL l a).length (icells (insL l a)) := by
            rw [hlen.out, ← hfin.out]
            simpa [icells] using ho8
          have hb9 : Below w.heap.size w w8 := below_own hb7 ho7 (Nat.le_refl _) hs7 hg8
          have hpost := insPost_of (base := base) (by omega) (by rw [hlen.out]; omega) ho9 hb9
          clear ho8 hg8 ho9 hb9 ho7 hb7 HN HL hlen hfin
          go_wp2
          go_ret
          exact hpost
      · obtain ⟨j, rfl⟩ : ∃ j, k = j + 1 := ⟨k - 1, by omega⟩
        have c1 := (hown.cellAt j (by omega)).trans (icells_at l j (by omega))
        by_cases hgt : a < itAt l j
        · have hn : Hid (∀ q, j ≤ q → q < l.length → a < itAt l q) := by
            intro q h1 h2
            by_cases e : q = j
            · rw [e]; exact hgt
            · exact hq.out q (by omega) h2
          generalize itAt l j = x at c1 hgt
          clear hq hown hIA hz
          go_wp2_with fail
          refine ⟨⟨j, by omega, by go_num, hn⟩, ?_⟩
          simp only [intOf]
          omega
        · have hle : itAt l j ≤ a := by omega
          have hfin : Hid (l.take (j + 1) ++ a :: l.drop (j + 1) = insL l a) := ins_eq l (j + 1) a HA.out hk hq.out (.inr hle) hni.out
          generalize itAt l j = x at c1 hle hgt
          have ek : (l.take (j + 1)).length = (j + 1) := by rw [List.length_take]; omega
          have hcp := l1Copy_any ⟨g, 0, none⟩ cap (l.take (j + 1)) w (hIA.take (j + 1)) (by omega)
          rw [ek] at hcp
          have EK := Lib.hid ek
          have hd0 := hIA.drop (j + 1)
          rw [Nat.zero_add] at hd0
          have HD := Lib.hid hd0
          have hgs : g < w.heap.size := (hown.lt g rfl).2
          have hbase : base ≤ g := (hown.lt g rfl).1
          have hlen : Hid ((insL l a).length = (j + 1) + 1 + (l.length - (j + 1))) := by
            show (insL l a).length = (j + 1) + 1 + (l.length - (j + 1))
            rw [← hfin.out]
            simp only [List.length_append, List.length_cons, List.length_take, List.length_drop]
            omega
          clear ek hq hown hIA hd0 hgt hz
          go_wp2_with fail
          refine hcp.mono ?_
          rintro e w6 ⟨v6, rfl, ho6, hb6⟩
          rw [EK.out] at ho6
          have hs6 := hb6.size
          have ho6b := ho6.alloc (.cells #[.int .i64 a] 3)
          have hb6b := hb6.alloc hb6.size (.cells #[.int .i64 a] 3)
          have hcell : (w6.alloc (.cells #[.int .i64 a] 3)).cell? ⟨w6.heap.size, 0, none⟩ = some (.int .i64 a) := by simp
          have HC := Lib.hid (one_cell hcell)
          clear hcell hcp ho6
          go_wp2_with (at_builtin; refine wpList_append_own _ rfl (.tmp 29) (.tmp 31) 26 rfl w.heap.size 3 i0 (.int .i64 0) 1 8 Try.underlying26 hi0 hz0 hz1 HS.out rfl (by decide) _ (j + 1) _ rfl ho6b ⟨w6.heap.size, 0, none⟩ 1 1 [.int .i64 a] rfl rfl HC.out (int_one _) ?c3 ?c4 ?c5 ?_)
          case c3 => unfold maxLen; omega
          case c4 => omega
          case c5 => simp; omega
          intro v7 w7 ho7 hg7 _
          have hb7 : Below w.heap.size w w7 := below_own hb6b ho6b (Nat.le_refl _) (by simp; omega) hg7
          have HN := Lib.hid (ints_news (HD.out.below hb7))
          have HL := Lib.hid (show (icells (l.drop (j + 1))).length = (l.length - (j + 1)) * 1 by rw [icells_len, List.length_drop, Nat.mul_one])
          have hs7 := hb7.size
          clear ho6b hg7 hb6 hb6b HC
          by_cases hck : cap = (j + 1)
          · have hnil : l.length - (j + 1) = 0 := by omega
            have hdn : Hid (l.drop (j + 1) = []) := List.drop_of_length_le (by omega)
            subst hck
            go_wp2_with (at_builtin; refine wpList_append_own _ rfl (.tmp 33) (.tmp 36) 26 rfl w.heap.size 3 i0 (.int .i64 0) 1 8 Try.underlying26 hi0 hz0 hz1 HS.out rfl (by decide) _ ((j + 1) + 1) _ rfl ho7 ⟨g, 0, none⟩ _ _ [] rfl ?d2 ?d3 ?d4 ?d5 ?d6 ?d7 ?_)
            case d2 => simp; try omega
            case d3 => intro j u hj; simp at hj
            case d4 => intro u hu; simp at hu
            case d5 => unfold maxLen; omega
            case d6 => omega
            case d7 => omega
            intro v8 w8 ho8 hg8 _
            have ho9 : w8.ownsRow w.heap.size 3 1 v8 (insL l a).length (icells (insL l a)) := by
              rw [hlen.out, ← hfin.out]
              rw [hdn.out]; simpa [icells, hnil] using ho8
            have hb9 : Below w.heap.size w w8 := below_own hb7 ho7 (Nat.le_refl _) hs7 hg8
            have hpost := insPost_of (base := base) (by omega) (by rw [hlen.out]; omega) ho9 hb9
            clear ho8 hg8 ho9 hb9 ho7 hb7 HN HL hlen hfin
            go_wp2
            go_ret
            exact hpost
          · go_wp2_with (at_builtin; refine wpList_append_own _ rfl (.tmp 33) (.tmp 36) 26 rfl w.heap.size 3 i0 (.int .i64 0) 1 8 Try.underlying26 hi0 hz0 hz1 HS.out rfl (by decide) _ ((j + 1) + 1) _ rfl ho7 ⟨g, (j + 1), none⟩ (l.length - (j + 1)) (cap - (j + 1)) (icells (l.drop (j + 1))) rfl HL.out HN.out (icells_one _) ?d3 ?d4 ?d5 ?_)
            case d3 => unfold maxLen; omega
            case d4 => omega
            case d5 => omega
            intro v8 w8 ho8 hg8 _
            have ho9 : w8.ownsRow w.heap.size 3 1 v8 (insL l a).length (icells (insL l a)) := by
              rw [hlen.out, ← hfin.out]
              simpa [icells] using ho8
            have hb9 : Below w.heap.size w w8 := below_own hb7 ho7 (Nat.le_refl _) hs7 hg8
            have hpost := insPost_of (base := base) (by omega) (by rw [hlen.out]; omega) ho9 hb9
            clear ho8 hg8 ho9 hb9 ho7 hb7 HN HL hlen hfin
            go_wp2
            go_ret
            exact hpost

end Go.Proofs.Ythjkogighppeaaa
end

section
namespace Go.Proofs.Ythjkogighppeaaa
open Go.RowKit Go.Sort

end Go.Proofs.Ythjkogighppeaaa
end

section
namespace Go.Proofs.Ythjkogighppeaaa
section
open Go.RowKit

def shapeB (t : Tm) : Bool :=
  if t.op = 1 then atomB t.num && (decide (t.perm.length = 0) && decide (t.kids.length = 0))
  else if t.op = 2 then decide (0 ≤ t.num ∧ t.num ≤ 11) && (decide (t.perm.length = 0) && decide ((t.kids.length : Int) = t.num % 4))
  else if t.op = 3 then atomB t.num && (decide (t.perm.length = 0) && decide (t.kids.length = 1))
  else if t.op = 4 then decide (0 ≤ t.num ∧ t.num ≤ 9) && (permB t.perm && decide (t.kids.length = 0))
  else false

mutual
/-- Right, however great. -/
def goodT : Tm → Bool
  | .mk o n p ks => shapeB (.mk o n p ks) && goodTs ks
def goodTs : List Tm → Bool
  | [] => true
  | t :: r => goodT t && goodTs r
end

end

section
open Go.RowKit

mutual
def nodesT : Tm → List Tm
  | .mk o n p ks => .mk o n p ks :: nodesTs ks
def nodesTs : List Tm → List Tm
  | [] => []
  | t :: r => nodesT t ++ nodesTs r
end

/-- What is known while the terms within t are gone through: i of F have been looked at. -/
structure Walk (t : Tm) (F : List Tm) (i : Nat) : Prop where
  le : i ≤ F.length
  most : F.length ≤ 60
  good : goodT t = goodTs (F.drop i)
  size : szT t = i + szTs (F.drop i)
  mem : ∀ y, y ∈ nodesT t ↔ y ∈ F.take i ∨ y ∈ nodesTs (F.drop i)

end
end Go.Proofs.Ythjkogighppeaaa
end

section
namespace Go.Proofs.Ythjkogighppeaaa
open Go.RowKit Go.Sort
set_option linter.unusedVariables false

theorem l1In_any (x a b : Int) (w : World) :
    Calls Try.prog 37 #[.int .i64 x, .int .i64 a, .int .i64 b] w fun e w' => e = .returned (.bool (decide (a ≤ x ∧ x ≤ b))) ∧ w = w' := by
  by_cases h1 : a ≤ x
  · by_cases h2 : x ≤ b
    · have r : Hid (decide (a ≤ x ∧ x ≤ b) = true) := decide_eq_true ⟨h1, h2⟩
      go_enter Try.func37, Try.ntmps37
      go_wp2
      go_ret
      first | exact ⟨rfl, rfl⟩ | exact ⟨bool_end r.out.symm, rfl⟩
    · have r : Hid (decide (a ≤ x ∧ x ≤ b) = false) := decide_eq_false fun h => h2 h.2
      have k2 : decide (x ≤ b) = false := decide_eq_false h2
      have k3 : b < x := by omega
      go_enter Try.func37, Try.ntmps37
      go_wp2
      go_ret
      first | exact ⟨rfl, rfl⟩ | exact ⟨bool_end r.out.symm, rfl⟩
  · have r : Hid (decide (a ≤ x ∧ x ≤ b) = false) := decide_eq_false fun h => h1 h.1
    have k1 : decide (a ≤ x) = false := decide_eq_false h1
    have k3 : x < a := by omega
    go_enter Try.func37, Try.ntmps37
    go_wp2
    go_ret
    first | exact ⟨rfl, rfl⟩ | exact ⟨bool_end r.out.symm, rfl⟩

end Go.Proofs.Ythjkogighppeaaa
end

section
namespace Go.Proofs.Ythjkogighppeaaa
open Go.RowKit Go.Sort

/-- The least atom that is not in a list; -1: there is none. -/
def leastF (l : List Int) : Int := match (List.range 1000).find? (fun a : Nat => !hasB l (a : Int)) with
  | some a => a
  | none => -1

theorem leastF_at {l : List Int} {a : Nat} (ha : a < 1000) (hn : hasB l (a : Int) = false) (hb : ∀ b : Nat, b < a → hasB l (b : Int) = true) : leastF l = a := by
  have h : (List.range 1000).find? (fun a : Nat => !hasB l (a : Int)) = some a := by
    rw [List.find?_range_eq_some]
    refine ⟨by simp [hn], by simpa using ha, fun j hj => ?_⟩
    simp [hb j hj]
  unfold leastF
  rw [h]

theorem leastF_none {l : List Int} (hb : ∀ b : Nat, b < 1000 → hasB l (b : Int) = true) : leastF l = -1 := by
  have h : (List.range 1000).find? (fun a : Nat => !hasB l (a : Int)) = none := by
    rw [List.find?_eq_none]
    intro x hx
    rw [hb x (List.mem_range.1 hx)]
    simp
  unfold leastF
  rw [h]

/-- Which atoms the first k numbers are. -/
def tBits (l : List Int) (k : Nat) : List Value := (List.range 1000).map fun q : Nat => .bool (hasB (l.take k) (q : Int))

theorem tBits_len (l : List Int) (k : Nat) : (tBits l k).length = 1000 := by rw [tBits, List.length_map, List.length_range]

theorem tBits_at (l : List Int) (k q : Nat) (h : q < 1000) : (tBits l k)[q]? = some (.bool (hasB (l.take k) (q : Int))) := by
  simp [tBits, List.getElem?_map, List.getElem?_range h]

theorem tBits_zero (l : List Int) : tBits l 0 = List.replicate 1000 (.bool false) := by
  apply List.ext_getElem?
  intro q
  by_cases hq : q < 1000
  · rw [tBits_at l 0 q hq, List.getElem?_replicate, if_pos hq]
    simp [hasB]
  · rw [List.getElem?_eq_none (by rw [tBits_len]; omega), List.getElem?_eq_none (by rw [List.length_replicate]; omega)]

theorem contains_next {l : List Int} {k : Nat} (hk : k < l.length) (q : Int) : hasB (l.take (k + 1)) q = (hasB (l.take k) q || decide (q = itAt l k)) := by
  rw [itake_next hk, Bool.eq_iff_iff]
  simp [hasB]

theorem tBits_set {l : List Int} {k m : Nat} (hk : k < l.length) (hm : m < 1000) (e : itAt l k = (m : Int)) : (tBits l k).set m (.bool true) = tBits l (k + 1) := by
  apply List.ext_getElem?
  intro q
  by_cases hq : q < 1000
  · rw [tBits_at l (k + 1) q hq, List.getElem?_set, contains_next hk, e]
    by_cases hc : m = q
    · subst hc
      rw [if_pos rfl, if_pos (by rw [tBits_len]; exact hm)]
      simp
    · rw [if_neg hc, tBits_at l k q hq]
      have : ¬ (q : Int) = (m : Int) := by omega
      simp [this]
  · rw [List.getElem?_eq_none (by rw [List.length_set, tBits_len]; omega), List.getElem?_eq_none (by rw [tBits_len]; omega)]

theorem tBits_skip {l : List Int} {k : Nat} (hk : k < l.length) (h : atomB (itAt l k) = false) : tBits l k = tBits l (k + 1) := by
  apply List.ext_getElem?
  intro q
  by_cases hq : q < 1000
  · rw [tBits_at l k q hq, tBits_at l (k + 1) q hq, contains_next hk]
    have hne : ¬ (q : Int) = itAt l k := by
      intro e
      rw [← e] at h
      simp [atomB] at h
      omega
    simp [hne]
  · rw [List.getElem?_eq_none (by rw [tBits_len]; omega), List.getElem?_eq_none (by rw [tBits_len]; omega)]

/-- The block of marks after k numbers. -/
def TMarks (w : World) (G : Nat) (l : List Int) (k : Nat) : Prop := w.heap[G]? = some (.cells (tBits l k).toArray 79 (0, 0))

theorem TMarks.lt {w : World} {G : Nat} {l : List Int} {k : Nat} (h : TMarks w G l k) : G < w.heap.size := (Array.getElem?_eq_some_iff.1 h).1
theorem TMarks.cell {w : World} {G : Nat} {l : List Int} {k : Nat} (h : TMarks w G l k) (q : Nat) (hq : q < 1000) : w.cell? ⟨G, q, none⟩ = some (.bool (hasB (l.take k) (q : Int))) := by
  rw [cell_of_row w G q _ _ _ h]
  simpa using tBits_at l k q hq
theorem TMarks.frozen {w : World} {G : Nat} {l : List Int} {k : Nat} (h : TMarks w G l k) (q : Nat) : w.frozen? ⟨G, q, none⟩ = false := frozen_of_row w G q _ _ h
theorem TMarks.set_ {w : World} {G : Nat} {l : List Int} {k m : Nat} (h : TMarks w G l k) (hk : k < l.length) (hm : m < 1000) (e : itAt l k = (m : Int)) :
    TMarks (w.setCell ⟨G, m, none⟩ (.bool true)) G l (k + 1) := by
  unfold TMarks at h ⊢
  rw [heap_setCell_same w G m _ _ _ h, ← tBits_set hk hm e]
  simp

theorem zero_marks : Try.zeroCells79 = (List.replicate 1000 (Value.bool false)).toArray := by kernel_rfl

set_option maxRecDepth 100000 in
set_option maxHeartbeats 1000000 in
theorem least_impl (A : Option Addr) (c : Nat) (l : List Int) (w : World) (hA : IntsAt w A l) (hl : l.length ≤ 1099511627776) :
    Calls Try.prog 47 #[.slice A l.length c] w fun e w' => e = .returned (.int .i64 (leastF l)) ∧ Below w.heap.size w w' := by
  have hm0 : TMarks (w.alloc (.cells Try.zeroCells79 79)) w.heap.size l 0 := by
    rw [zero_marks, ← tBits_zero l]
    exact heap_alloc_new w _
  have hb0 : Below w.heap.size w (w.alloc (.cells Try.zeroCells79 79)) := (Below.refl _ _).alloc (Nat.le_refl _) _
  go_enter Try.func47, Try.ntmps47
  go_wp2_with fail
  generalize w.alloc (.cells Try.zeroCells79 79) = w1 at hm0 hb0 ⊢
  go_loopw [5, 9] (fun _ i wr => ∃ k : Nat, k ≤ l.length ∧ i = .int .i64 k ∧ TMarks wr w.heap.size l k ∧ Below w.heap.size w wr) (fun _ i _ => l.length - (intOf i).toNat)
  case atStart => exact ⟨0, Nat.zero_le _, rfl, hm0, hb0⟩
  case round =>
    clear hm0 hb0
    obtain ⟨k, hk, rfl, hm, hb⟩ := hrel
    by_cases hlt : k < l.length
    · obtain ⟨b1, o1, rfl, hb1, hc1⟩ := hA (by omega)
      have c1 := hc1 k hlt
      rw [← hb.cell (p := ⟨b1, _, none⟩) hb1] at c1
      clear hc1 hA
      by_cases ha : atomB (itAt l k) = true
      · obtain ⟨m, hx⟩ : ∃ m : Nat, itAt l k = (m : Int) := ⟨(itAt l k).toNat, by simp [atomB] at ha; omega⟩
        have hm1 : m < 1000 := by rw [hx] at ha; simp [atomB] at ha; omega
        have hc := hm.cell m hm1
        have hfz := hm.frozen m
        have hst : Hid (TMarks (wr.setCell ⟨w.heap.size, m, none⟩ (.bool true)) w.heap.size l (k + 1)) := hm.set_ hlt hm1 hx
        have hb2 : Below w.heap.size w (wr.setCell ⟨w.heap.size, m, none⟩ (.bool true)) := hb.setCell (Nat.le_refl _) _
        rw [hx] at c1 ha
        generalize hasB (l.take k) (m : Int) = bb at hc
        clear hm hb hx
        go_wp2_with (go_at_call 62; refine (isAtom_any _ _).mono ?_; rintro e w' ⟨rfl, rfl⟩)
        refine ⟨⟨k + 1, by omega, by go_num, hst.out, hb2⟩, ?_⟩
        simp only [intOf]
        omega
      · have ha' : atomB (itAt l k) = false := by simpa using ha
        have hst : Hid (TMarks wr w.heap.size l (k + 1)) := by
          show TMarks wr w.heap.size l (k + 1)
          unfold TMarks at hm ⊢
          rw [← tBits_skip hlt ha']
          exact hm
        generalize itAt l k = x at c1 ha'
        clear hm ha
        go_wp2_with (go_at_call 62; refine (isAtom_any _ _).mono ?_; rintro e w' ⟨rfl, rfl⟩)
        refine ⟨⟨k + 1, by omega, by go_num, hst.out, hb⟩, ?_⟩
        simp only [intOf]
        omega
    · have hall : Hid (l.take k = l) := List.take_of_length_le (by omega)
      obtain ⟨wo, rfl⟩ : ∃ wo : World, wo = wr := ⟨_, rfl⟩
      clear hA
      go_wp2
      go_loop [6, 18] (fun _ i => ∃ a : Nat, a ≤ 1000 ∧ i = .int .i64 a ∧ Hid (∀ b : Nat, b < a → hasB l (b : Int) = true)) (fun _ i => 1000 - (intOf i).toNat)
      case atStart => exact ⟨0, Nat.zero_le _, rfl, fun b hb => absurd hb (by omega)⟩
      case round =>
        obtain ⟨a, ha, rfl, hq⟩ := hrel
        by_cases hlt2 : a < 1000
        · have hc := hm.cell a hlt2
          rw [hall.out] at hc
          by_cases hin : hasB l (a : Int) = true
          · have hn : Hid (∀ b : Nat, b < a + 1 → hasB l (b : Int) = true) := by
              intro b hb'
              by_cases e : b = a
              · rw [e]; exact hin
              · exact hq.out b (by omega)
            rw [hin] at hc
            clear hm hin hq
            go_wp2
            go_round
            case rel => exact ⟨a + 1, by omega, by go_num, hn⟩
            case measure => simp [intOf]; omega
          · have hin' : hasB l (a : Int) = false := by simpa using hin
            have hn : Hid (leastF l = a) := leastF_at hlt2 hin' hq.out
            rw [hin'] at hc
            clear hm hin hin' hq
            go_wp2
            go_ret
            exact ⟨int_end hn.out.symm, hb⟩
        · have hn : Hid (leastF l = -1) := leastF_none fun b hb' => hq.out b (by omega)
          clear hm hq
          go_wp2
          go_ret
          exact ⟨int_end hn.out.symm, hb⟩

theorem leastF_cases (l : List Int) : (leastF l = -1 ∧ ∀ b : Nat, b < 1000 → hasB l (b : Int) = true) ∨ ∃ a : Nat, a < 1000 ∧ leastF l = a ∧ hasB l (a : Int) = false ∧ ∀ b : Nat, b < a → hasB l (b : Int) = true := by
  rcases h : (List.range 1000).find? (fun a : Nat => !hasB l (a : Int)) with _ | a
  · left
    refine ⟨by unfold leastF; rw [h], fun b hb => ?_⟩
    rw [List.find?_eq_none] at h
    simpa using h b (List.mem_range.2 hb)
  · right
    have h' := h
    rw [List.find?_range_eq_some] at h'
    refine ⟨a, by simpa using h'.2.1, by unfold leastF; rw [h], by simpa using h'.1, fun b hb => by simpa using h'.2.2 b hb⟩

/-- A list that has many different numbers is long. -/
theorem long_of : ∀ (xs l : List Int), xs.Nodup → (∀ a, a ∈ xs → a ∈ l) → xs.length ≤ l.length
  | [], _, _, _ => by simp
  | x :: r, l, hn, hs => by
    have hx : x ∈ l := hs x List.mem_cons_self
    rw [List.nodup_cons] at hn
    have h2 := long_of r (l.erase x) hn.2 (fun a ha => by
      have hne : a ≠ x := fun e => hn.1 (e ▸ ha)
      exact (List.mem_erase_of_ne hne).2 (hs a (List.mem_cons_of_mem _ ha)))
    rw [List.length_erase_of_mem hx] at h2
    have h3 : 0 < l.length := List.length_pos_of_mem hx
    simp only [List.length_cons]
    omega

end Go.Proofs.Ythjkogighppeaaa
end

section
namespace Go.Proofs.Ythjkogighppeaaa
open Go.RowKit
set_option linter.unusedVariables false

/-- The number of which a list's numbers are the digits of base eight. -/
def codeP (p : List Int) : Nat := p.foldl (fun c n => c * 8 + n.toNat) 0
theorem codeP_snoc (p : List Int) (n : Int) : codeP (p ++ [n]) = codeP p * 8 + n.toNat := by unfold codeP; rw [List.foldl_append]; rfl
theorem codeP_next {p : List Int} {i : Nat} (h : i < p.length) : codeP (p.take (i + 1)) = codeP (p.take i) * 8 + (itAt p i).toNat := by rw [itake_next h, codeP_snoc]
theorem codeP_nil : codeP [] = 0 := rfl
def digP (p : List Int) : Prop := ∀ n ∈ p, 0 ≤ n ∧ n < 8
theorem digP_snoc {p : List Int} {n : Int} (h : digP (p ++ [n])) : digP p ∧ 0 ≤ n ∧ n < 8 := ⟨fun x hx => h x (List.mem_append_left _ hx), h n (by simp)⟩
theorem digP_at {p : List Int} (h : digP p) {i : Nat} (hi : i < p.length) : 0 ≤ itAt p i ∧ itAt p i < 8 := h _ (by rw [itAt_get _ _ hi]; exact List.getElem_mem hi)
/-- The digits of a number. -/
def decP : Nat → Nat → List Int
  | 0, _ => []
  | w + 1, c => decP w (c / 8) ++ [((c % 8 : Nat) : Int)]
theorem decP_len : ∀ (w c : Nat), (decP w c).length = w
  | 0, _ => rfl
  | w + 1, c => by rw [decP, List.length_append, decP_len w]; rfl
theorem snoc_of {p : List Int} {w : Nat} (h : p.length = w + 1) : ∃ q n, p = q ++ [n] ∧ q.length = w := by
  have hne : p ≠ [] := fun e => by rw [e] at h; simp at h
  exact ⟨p.dropLast, p.getLast hne, (List.dropLast_concat_getLast hne).symm, by simp [h]⟩
theorem codeP_lt : ∀ {w : Nat} {p : List Int}, p.length = w → digP p → codeP p < 8 ^ w
  | 0, p, h, _ => by rw [List.eq_nil_of_length_eq_zero h, codeP_nil]; decide
  | w + 1, p, h, hd => by
    obtain ⟨q, n, rfl, hq⟩ := snoc_of h
    obtain ⟨h1, h2, h3⟩ := digP_snoc hd
    have := codeP_lt hq h1
    rw [codeP_snoc, Nat.pow_succ]
    omega
theorem decP_code : ∀ {w : Nat} {p : List Int}, p.length = w → digP p → decP w (codeP p) = p
  | 0, p, h, _ => by rw [List.eq_nil_of_length_eq_zero h]; rfl
  | w + 1, p, h, hd => by
    obtain ⟨q, n, rfl, hq⟩ := snoc_of h
    obtain ⟨h1, h2, h3⟩ := digP_snoc hd
    have e1 : (codeP q * 8 + n.toNat) / 8 = codeP q := by omega
    have e2 : (((codeP q * 8 + n.toNat) % 8 : Nat) : Int) = n := by omega
    rw [codeP_snoc, decP, e1, e2, decP_code hq h1]

theorem dig_allP {k : Int} (hk : 0 ≤ k) (hk3 : k ≤ 3) {w : Nat} (hw : w ≤ 4) {p : List Int} (hp : p ∈ allP w k) : p.length = w ∧ digP p := by
  obtain ⟨h1, h2⟩ := (mem_allP hk).1 hp
  refine ⟨h1, fun n hn => ?_⟩
  obtain ⟨i, hi, e⟩ := List.getElem_of_mem hn
  have h3 := isPat_at h2 hi
  have h4 := newN_le (k := k) (p := p) (i := i) (by omega) fun j hj => (isPat_at h2 (by omega)).2
  rw [itAt_get _ _ hi, e] at h3
  omega

theorem codes_asc {k : Int} (hk : 0 ≤ k) (hk3 : k ≤ 3) : ∀ {w : Nat}, w ≤ 4 → (allP w k).Pairwise (fun a b => codeP a < codeP b)
  | 0, _ => by simp [allP]
  | w + 1, hw => by
    have ih := codes_asc hk hk3 (w := w) (by omega)
    rw [allP, List.pairwise_flatMap]
    have hb : ∀ p ∈ allP w k, ∀ x ∈ extP k p, codeP p * 8 ≤ codeP x ∧ codeP x < codeP p * 8 + 8 := by
      intro p hp x hx
      obtain ⟨h1, h2⟩ := (mem_allP hk).1 hp
      have h3 := newN_pat h2
      unfold extP at hx
      rw [List.mem_map] at hx
      obtain ⟨n, hn, rfl⟩ := hx
      rw [List.mem_range] at hn
      rw [codeP_snoc]
      omega
    refine ⟨fun p hp => ?_, ?_⟩
    · unfold extP
      rw [List.pairwise_map]
      refine List.pairwise_lt_range.imp fun {a b} hab => ?_
      rw [codeP_snoc, codeP_snoc]
      omega
    · refine List.Pairwise.imp_of_mem ?_ ih
      intro a b ha hb' hab x hx y hy
      have h1 := hb a ha x hx
      have h2 := hb b hb' y hy
      omega

theorem eq_asc : ∀ {a b : List Nat}, a.Pairwise (· < ·) → b.Pairwise (· < ·) → (∀ x, x ∈ a ↔ x ∈ b) → a = b
  | [], [], _, _, _ => rfl
  | [], y :: b, _, _, h => absurd ((h y).2 (by simp)) (by simp)
  | x :: a, [], _, _, h => absurd ((h x).1 (by simp)) (by simp)
  | x :: a, y :: b, ha, hb, h => by
    rw [List.pairwise_cons] at ha hb
    have hxy : x = y := by
      rcases List.mem_cons.1 ((h x).1 (by simp)) with e | h1
      · exact e
      · rcases List.mem_cons.1 ((h y).2 (by simp)) with e | h2
        · exact e.symm
        · have h3 := ha.1 y h2
          have h4 := hb.1 x h1
          omega
    subst hxy
    rw [eq_asc ha.2 hb.2 fun z => ?_]
    constructor
    · intro hz
      rcases List.mem_cons.1 ((h z).1 (by simp [hz])) with e | h1
      · have := ha.1 z hz; omega
      · exact h1
    · intro hz
      rcases List.mem_cons.1 ((h z).2 (by simp [hz])) with e | h1
      · have := hb.1 z hz; omega
      · exact h1

/-- The patterns of a width that a table has. -/
def patsOf (w : Nat) (f : Nat → Bool) : List (List Int) := ((List.range 4096).filter f).map (decP w)
theorem code_4096 {k : Int} (hk : 0 ≤ k) (hk3 : k ≤ 3) {w : Nat} (hw : w ≤ 4) {p : List Int} (hp : p ∈ allP w k) : codeP p < 4096 := by
  obtain ⟨h1, h2⟩ := dig_allP hk hk3 hw hp
  have h3 := codeP_lt h1 h2
  have h4 : 8 ^ w ≤ 8 ^ 4 := Nat.pow_le_pow_right (by decide) hw
  omega
/-- Only codes of patterns of a width are in a table. -/
def tabOk (w : Nat) (k : Int) (f : Nat → Bool) : Prop := ∀ c, c < 4096 → f c = true → ∃ p ∈ allP w k, codeP p = c
theorem patsOf_eq {k : Int} (hk : 0 ≤ k) (hk3 : k ≤ 3) {w : Nat} (hw : w ≤ 4) {f : Nat → Bool} (hf : tabOk w k f) : patsOf w f = (allP w k).filter fun p => f (codeP p) := by
  have e : (List.range 4096).filter f = ((allP w k).filter fun p => f (codeP p)).map codeP := by
    refine eq_asc (List.pairwise_lt_range.filter _) ?_ fun c => ?_
    · rw [List.pairwise_map]
      exact (codes_asc hk hk3 hw).filter _
    · rw [List.mem_filter, List.mem_range, List.mem_map]
      constructor
      · rintro ⟨h1, h2⟩
        obtain ⟨p, hp, rfl⟩ := hf c h1 h2
        exact ⟨p, List.mem_filter.2 ⟨hp, h2⟩, rfl⟩
      · rintro ⟨p, hp, rfl⟩
        rw [List.mem_filter] at hp
        exact ⟨code_4096 hk hk3 hw hp.1, hp.2⟩
  unfold patsOf
  rw [e, List.map_map]
  refine (List.map_congr_left fun p hp => ?_).trans (List.map_id _)
  obtain ⟨h1, h2⟩ := dig_allP hk hk3 hw (List.mem_filter.1 hp).1
  exact decP_code h1 h2
theorem code_inj {k : Int} (hk : 0 ≤ k) (hk3 : k ≤ 3) {w : Nat} (hw : w ≤ 4) {p q : List Int} (hp : p ∈ allP w k) (hq : q ∈ allP w k) (e : codeP p = codeP q) : p = q := by
  obtain ⟨h1, h2⟩ := dig_allP hk hk3 hw hp
  obtain ⟨h3, h4⟩ := dig_allP hk hk3 hw hq
  rw [← decP_code h1 h2, ← decP_code h3 h4, e]

/-- The table of several patterns. -/
def tabOf (l : List (List Int)) (c : Nat) : Bool := l.any fun p => codeP p == c
theorem tabOf_mem {l : List (List Int)} {c : Nat} : tabOf l c = true ↔ ∃ p ∈ l, codeP p = c := by simp [tabOf]
theorem tabOf_ok {w : Nat} {k : Int} {l : List (List Int)} (h : ∀ p ∈ l, p ∈ allP w k) : tabOk w k (tabOf l) := fun c _ hc => by
  obtain ⟨p, hp, e⟩ := tabOf_mem.1 hc
  exact ⟨p, h p hp, e⟩
theorem tabOf_has {k : Int} (hk : 0 ≤ k) (hk3 : k ≤ 3) {w : Nat} (hw : w ≤ 4) {l : List (List Int)} (h : ∀ p ∈ l, p ∈ allP w k) {p : List Int} (hp : p ∈ allP w k) : tabOf l (codeP p) = thereB l p := by
  rw [Bool.eq_iff_iff, tabOf_mem, there_mem]
  constructor
  · rintro ⟨q, hq, e⟩
    rw [← code_inj hk hk3 hw (h q hq) hp e]
    exact hq
  · exact fun h => ⟨p, h, rfl⟩
/-- All those of a list, in the order of all patterns. -/
def thoseL (w : Nat) (k : Int) (l : List (List Int)) : List (List Int) := (allP w k).filter fun p => thereB l p
theorem patsOf_tabOf {k : Int} (hk : 0 ≤ k) (hk3 : k ≤ 3) {w : Nat} (hw : w ≤ 4) {l : List (List Int)} (h : ∀ p ∈ l, p ∈ allP w k) : patsOf w (tabOf l) = thoseL w k l := by
  rw [patsOf_eq hk hk3 hw (tabOf_ok h)]
  exact List.filter_congr fun p hp => tabOf_has hk hk3 hw h hp
/-- A table with a code more. -/
theorem tabOf_next {l : List (List Int)} {i : Nat} (h : i < l.length) (c : Nat) : tabOf (l.take (i + 1)) c = (tabOf (l.take i) c || decide (codeP (rwAt l i) = c)) := by
  rw [rw_take_next h]
  unfold tabOf
  rw [List.any_append, Bool.eq_iff_iff]
  simp
end Go.Proofs.Ythjkogighppeaaa
end

section
namespace Go.Proofs.Ythjkogighppeaaa
open Go.RowKit
set_option linter.unusedVariables false

theorem pat_state (cs xs : List Int) : ∀ k, k ≤ xs.length → newN cs.length (patL cs (xs.take k)) = ((seenL cs (xs.take k)).length : Int) ∧ isPatB cs.length (patL cs (xs.take k)) = true
  | 0, _ => ⟨rfl, rfl⟩
  | k + 1, hk => by
    obtain ⟨h1, h2⟩ := pat_state cs xs k (by omega)
    rw [patL_next (by omega), newN_snoc, h1, isPat_snoc, h1]
    cases hs : hasB (seenL cs (xs.take k)) (itAt xs k) with
    | true =>
      have h3 := idx_in hs
      rw [seenL_in (by omega) hs]
      exact ⟨by omega, h2, by omega, by omega⟩
    | false =>
      have h3 := idx_out hs
      rw [seenL_out (by omega) hs, h3, List.length_append]
      exact ⟨by simp; omega, h2, by omega, by omega⟩
theorem patL_pat (cs xs : List Int) : isPatB cs.length (patL cs xs) = true := by
  have := (pat_state cs xs xs.length (Nat.le_refl _)).2
  rwa [List.take_length] at this
theorem patL_mem {cs xs : List Int} {n : Nat} (h : xs.length = n) : patL cs xs ∈ allP n cs.length := (mem_allP (by omega)).2 ⟨by rw [patL_len, h], patL_pat cs xs⟩
/-- The patterns of tuples. -/
def patsL (cs : List Int) (ts : List (List Int)) : List (List Int) := ts.map (patL cs)
theorem patsL_len (cs : List Int) (ts : List (List Int)) : (patsL cs ts).length = ts.length := by simp [patsL]
theorem patsL_at {cs : List Int} {ts : List (List Int)} {i : Nat} (h : i < ts.length) : rwAt (patsL cs ts) i = patL cs (rwAt ts i) := by
  rw [rwAt_get _ _ (by rw [patsL_len]; exact h), rwAt_get _ _ h]
  simp [patsL]
theorem patsL_mem {cs : List Int} {ts : List (List Int)} {n : Nat} (h : ∀ i, i < ts.length → (rwAt ts i).length = n) : ∀ p ∈ patsL cs ts, p ∈ allP n cs.length := by
  intro p hp
  unfold patsL at hp
  rw [List.mem_map] at hp
  obtain ⟨t, ht, rfl⟩ := hp
  obtain ⟨i, hi, e⟩ := List.getElem_of_mem ht
  refine patL_mem ?_
  have := h i hi
  rwa [rwAt_get _ _ hi, e] at this
end Go.Proofs.Ythjkogighppeaaa
end

section
namespace Go.Proofs.Ythjkogighppeaaa
open Go.RowKit
set_option linter.unusedVariables false

/-- Constants, and so many least other atoms behind them. -/
def numL (cs : List Int) : Nat → List Int
  | 0 => cs
  | j + 1 => numL cs j ++ [leastF (numL cs j)]
theorem numL_len (cs : List Int) : ∀ j : Nat, (numL cs j).length = cs.length + j
  | 0 => rfl
  | j + 1 => by rw [numL, List.length_append, numL_len cs j]; simp; omega
theorem numL_at {cs : List Int} {i : Nat} : ∀ {j : Nat}, i < cs.length + j → ∀ q : Nat, itAt (numL cs (j + q)) i = itAt (numL cs j) i
  | j, h, 0 => rfl
  | j, h, q + 1 => by
    rw [← Nat.add_assoc, numL, itAt_snoc_lt (by rw [numL_len]; omega), numL_at h q]
/-- What stands at the places that a pattern tells. -/
def exL (V p : List Int) : List Int := p.map fun n => itAt V n.toNat
theorem exL_len (V p : List Int) : (exL V p).length = p.length := by simp [exL]
theorem exL_next {V p : List Int} {i : Nat} (h : i < p.length) : exL V (p.take (i + 1)) = exL V (p.take i) ++ [itAt V (itAt p i).toNat] := by
  rw [itake_next h]
  simp [exL]
theorem exL_same {cs p : List Int} (hp : isPatB cs.length p = true) (h4 : p.length ≤ 4) : exL (numL cs p.length) p = exL (numL cs 4) p := by
  unfold exL
  refine List.map_congr_left fun n hn => ?_
  obtain ⟨i, hi, rfl⟩ := List.getElem_of_mem hn
  have h1 := isPat_at hp hi
  have h2 := newN_le (k := (cs.length : Int)) (p := p) (i := i) (by omega) (fun q hq => (isPat_at hp (by omega)).2)
  rw [itAt_get p i hi] at h1
  obtain ⟨q, hq⟩ : ∃ q, 4 = p.length + q := ⟨4 - p.length, by omega⟩
  rw [hq]
  exact (numL_at (by omega) q).symm
def exsL (l : List Int) (m : List (List Int)) : List (List Int) := m.map (exL (numL l 4))
theorem exsL_next {l : List Int} {m : List (List Int)} {j : Nat} (h : j < m.length) : exsL l (m.take (j + 1)) = exsL l (m.take j) ++ [exL (numL l 4) (rwAt m j)] := by
  rw [rw_take_next h]
  simp [exsL]
theorem exsL_len (l : List Int) (m : List (List Int)) : (exsL l m).length = m.length := by simp [exsL]
/-- All places that a pattern tells are there. -/
theorem pat_places {k : Nat} {p : List Int} (hp : isPatB k p = true) {V : List Int} (hV : k + p.length ≤ V.length) : ∀ i, i < p.length → 0 ≤ itAt p i ∧ (itAt p i).toNat < V.length := fun i hi => by
  have h1 := isPat_at hp hi
  have h2 := newN_le (k := (k : Int)) (p := p) (i := i) (by omega) (fun q hq => (isPat_at hp (by omega)).2)
  omega
end Go.Proofs.Ythjkogighppeaaa
end

section
namespace Go.Proofs.Ythjkogighppeaaa
open Go.RowKit Go.Sort

set_option maxRecDepth 100000 in
set_option maxHeartbeats 400000 in
theorem least_spec (A : Option Addr) (c : Nat) (l : List Int) (w : World) (hA : IntsAt w A l) (hl : l.length ≤ 1099511627776) :
    Calls Try.prog 42 #[.slice A l.length c] w fun e w' => e = .returned (.int .i64 (leastF l)) ∧ w = w' := by
  go_enter Try.func42, Try.ntmps42
  go_wp2
  go_loop [3] (fun i => ∃ a : Nat, a ≤ 1000 ∧ i = .int .i64 a ∧ Hid (∀ b : Nat, b < a → hasB l (b : Int) = true)) (fun i => 1000 - (intOf i).toNat)
  case atStart => exact ⟨0, Nat.zero_le _, rfl, fun b hb => absurd hb (by omega)⟩
  case round =>
    obtain ⟨a, ha, rfl, hq⟩ := hrel
    by_cases hlt : a < 1000
    · have hh := l1Has_any A c l a w hA hl
      by_cases hin : hasB l (a : Int) = true
      · have hn : Hid (∀ b : Nat, b < a + 1 → hasB l (b : Int) = true) := by
          intro b hb'
          by_cases e : b = a
          · rw [e]; exact hin
          · exact hq.out b (by omega)
        rw [hin] at hh
        clear hin hq
        go_wp2_with (go_at_call 59; refine hh.mono ?_; rintro e w' ⟨rfl, rfl⟩)
        go_round
        case rel => exact ⟨a + 1, by omega, by go_num, hn⟩
        case measure => simp [intOf]; omega
      · have hin' : hasB l (a : Int) = false := by simpa using hin
        have hn : Hid (leastF l = a) := leastF_at hlt hin' hq.out
        rw [hin'] at hh
        clear hin hin' hq
        go_wp2_with (go_at_call 59; refine hh.mono ?_; rintro e w' ⟨rfl, rfl⟩)
        go_ret
        exact ⟨int_end hn.out.symm, rfl⟩
    · have hn : Hid (leastF l = -1) := leastF_none fun b hb' => hq.out b (by omega)
      clear hq
      go_wp2
      go_ret
      exact ⟨int_end hn.out.symm, rfl⟩

end Go.Proofs.Ythjkogighppeaaa
end

section
namespace Go.Proofs.Ythjkogighppeaaa
open Go.RowKit Go.Sort

mutual
theorem szT_le : ∀ t : Tm, szT t ≤ 1 + cntT t
  | .mk o n p ks => by
    have := szTs_le ks
    rw [szT, cntT]; omega
theorem szTs_le : ∀ ts : List Tm, szTs ts ≤ ts.length + sumT ts
  | [] => by simp [szTs]
  | t :: r => by
    have h1 := szT_le t
    have h2 := szTs_le r
    rw [szTs, sumT, List.length_cons]; omega
end

end Go.Proofs.Ythjkogighppeaaa
end

