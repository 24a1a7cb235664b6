/-
  The comparison of two pairs and of two lists of pairs, as contracts. Comparing, numbering and copying lists of integers, as contracts. Comparing numbers, atoms, and finding a pair by its first atom, as contracts. Whether moves are in order, as a contract. Whether a list has a number: in the model, as a contract. Constants, tuples and patterns: plain words, no program is walked here.
-/
import Derived.Test.YtjjokghcjgighaaKHasTuple1
import Derived.WalkLawsBesides
import Derived.WalkSpells
import Derived.BigQuiet
import Derived.Lib.QuietBelow
import Derived.Lib.Hide
section
namespace Go.Proofs.Ytjjokghcjgighaa
open Go.RowKit Go.Sort

end Go.Proofs.Ytjjokghcjgighaa
end

section
namespace Go.Proofs.Ytjjokghcjgighaa
open Go.RowKit Go.Sort

set_option maxHeartbeats 400000 in
theorem eqIntS_any (A B : Option Addr) (c d : Nat) (xs ys : List Int) (w : World) (hx : IntsAt w A xs) (hy : IntsAt w B ys) (hlx : xs.length ≤ 9223372036854775807) :
    Calls Try.prog 12 #[.slice A xs.length c, .slice B ys.length d] w
      fun e w' => e = .returned (.bool (decide (xs = ys))) ∧ Below w.heap.size w w' := by
  by_cases hl : xs.length = ys.length
  · have k0 : ((xs.length : Int) != (ys.length : Int)) = false := by simp [hl]
    have HL := Lib.hid hl
    clear hl
    go_enter Try.func12, Try.ntmps12
    go_wp2
    go_loopw [5] (fun i wr => ∃ k : Nat, k ≤ xs.length ∧ i = .int .i64 k ∧ xs.take k = ys.take k ∧ Below w.heap.size w wr) (fun i _ => xs.length - (intOf i).toNat)
    case atStart => exact ⟨0, Nat.zero_le _, rfl, rfl, Below.refl _ _⟩
    case round =>
      obtain ⟨k, hk, rfl, ht, hb⟩ := hrel
      have HT := Lib.hid ht
      clear ht
      by_cases hlt : k < xs.length
      · obtain ⟨b1, o1, rfl, hb1, hc1⟩ := hx (by omega)
        obtain ⟨b2, o2, rfl, hb2, hc2⟩ := hy (by have := HL.out; omega)
        have c1 := hc1 k hlt
        have c3 := hc2 k (by have := HL.out; omega)
        rw [← hb.cell (p := ⟨b1, _, none⟩) hb1] at c1
        rw [← hb.cell (p := ⟨b2, _, none⟩) hb2] at c3
        have hlt2 : k < ys.length := by have := HL.out; omega
        clear hc1 hc2 hx hy
        have q1 := fun d os => cell_regrown c1 d os
        have q3 := fun d os => cell_regrown c3 d os
        by_cases he : itAt xs k = itAt ys k
        · have hn : Hid (xs.take (k + 1) = ys.take (k + 1)) := (take_next 0 k hlt hlt2 HT.out).2 he
          have hq : (itAt xs k != itAt ys k) = false := by simp [he]
          generalize itAt xs k = x at q1 hq
          generalize itAt ys k = y at q3 hq
          clear he c1 c3
          go_wp2
          refine wp_region_quiet_below (by kernel_rfl) (by kernel_rfl) ?_
          repeat (any_goals (first | go_big_quiet_step (fail) | quiet_step (fail)))
          refine wpQuiet_nil ?_
          intro _ hw'
          obtain ⟨⟨dq, osq⟩, hw''⟩ := hw'
          subst hw''
          have hb3 := hb.trans ((below_regrown wr dq osq).mono hb.size)
          generalize grow (redrawn wr dq) osq = w2 at hb3 ⊢
          clear q1 q3 hb
          go_wp2
          refine ⟨⟨k + 1, by omega, by go_num, hn.out, hb3⟩, ?_⟩
          simp only [intOf]
          omega
        · have hn : Hid (decide (xs = ys) = false) := idiffer_at k he
          have hq : (itAt xs k != itAt ys k) = true := by simp [he]
          generalize itAt xs k = x at q1 hq
          generalize itAt ys k = y at q3 hq
          clear he c1 c3
          go_wp2
          refine wp_region_quiet_below (by kernel_rfl) (by kernel_rfl) ?_
          repeat (any_goals (first | go_big_quiet_step (fail) | quiet_step (fail)))
          refine wpQuiet_nil ?_
          intro _ hw'
          obtain ⟨⟨dq, osq⟩, hw''⟩ := hw'
          subst hw''
          have hb3 := hb.trans ((below_regrown wr dq osq).mono hb.size)
          generalize grow (redrawn wr dq) osq = w2 at hb3 ⊢
          clear q1 q3 hb
          go_wp2
          go_ret
          exact ⟨bool_end hn.out.symm, hb3⟩
      · go_wp2
        go_ret
        have e : k = xs.length := by omega
        subst e
        exact ⟨bool_end (isame_all HL.out HT.out).symm, hb⟩
  · have k0 : ((xs.length : Int) != (ys.length : Int)) = true := by simp; omega
    have hf : decide (xs = ys) = false := by
      simp only [decide_eq_false_iff_not]
      intro e
      exact hl (by rw [e])
    have HF := Lib.hid hf
    clear hl hf
    go_enter Try.func12, Try.ntmps12
    go_wp2
    go_ret
    exact ⟨bool_end HF.out.symm, Below.refl _ _⟩

theorem eqIntS_own (base1 base2 : Nat) (v1 v2 : Value) (l1 l2 : List Int) (w : World) (h1 : w.ownsRow base1 3 1 v1 l1.length (icells l1)) (h2 : w.ownsRow base2 3 1 v2 l2.length (icells l2)) (hl : l1.length ≤ 9223372036854775807) :
    Calls Try.prog 12 #[v1, v2] w
      fun e w' => e = .returned (.bool (decide (l1 = l2))) ∧ Below w.heap.size w w' := by
  obtain ⟨A, c, rfl, hA⟩ := own_intsAt h1
  obtain ⟨B, d, rfl, hB⟩ := own_intsAt h2
  exact eqIntS_any A B c d l1 l2 w hA hB hl

end Go.Proofs.Ytjjokghcjgighaa
end

section
namespace Go.Proofs.Ytjjokghcjgighaa
section
open Go.RowKit Go.Sort

/-- Less, the same, greater. -/
def cmpI (a b : Int) : Int := if a < b then -1 else if b < a then 1 else 0

def atomB (a : Int) : Bool := decide (0 ≤ a ∧ a ≤ 999)

theorem isAtom_any (a : Int) (w : World) :
    Calls Try.prog 78 #[.int .i64 a] w fun e w' => e = .returned (.bool (atomB a)) ∧ w = w' := by
  by_cases h1 : 0 ≤ a
  · by_cases h2 : a ≤ 999
    · go_enter Try.func78, Try.ntmps78
      go_wp2
      go_ret
      exact ⟨bool_end (by simp [atomB, h1, h2]), rfl⟩
    · have k2 : decide (a ≤ 999) = false := by simpa using h2
      have k3 : 999 < a := by omega
      clear h2
      go_enter Try.func78, Try.ntmps78
      go_wp2
      go_ret
      exact ⟨bool_end (by simp [atomB]; omega), rfl⟩
  · have k1 : a < 0 := by omega
    clear h1
    go_enter Try.func78, Try.ntmps78
    go_wp2
    go_ret
    exact ⟨bool_end (by simp [atomB]; omega), rfl⟩

theorem compare_any (a b : Int) (w : World) :
    Calls Try.prog 71 #[.int .i64 a, .int .i64 b] w fun e w' => e = .returned (.int .i64 (cmpI a b)) ∧ w = w' := by
  have na : (a != a) = false := by simp
  have nb : (b != b) = false := by simp
  by_cases h1 : a < b
  · go_enter Try.func71, Try.ntmps71
    go_wp2
    go_ret
    exact ⟨int_end (by simp [cmpI, h1]), rfl⟩
  · by_cases h2 : b < a
    · go_enter Try.func71, Try.ntmps71
      go_wp2
      go_ret
      exact ⟨int_end (by simp [cmpI, h1, h2]), rfl⟩
    · go_enter Try.func71, Try.ntmps71
      go_wp2
      go_ret
      exact ⟨int_end (by unfold cmpI; rw [if_neg (by omega), if_neg (by omega)]), rfl⟩

end

section
open Go.RowKit Go.Sort

/-- What is asked of the pair at a place. -/
def okAt (l : List (Int × Int)) (i : Nat) : Bool :=
  atomB (prAt l i).1 && (atomB (prAt l i).2 && (decide ((prAt l i).1 ≠ (prAt l i).2) && (decide (i = 0) || decide ((prAt l (i - 1)).1 < (prAt l i).1))))

def orderB (l : List (Int × Int)) : Bool := (List.range l.length).all (okAt l)

end
end Go.Proofs.Ytjjokghcjgighaa
end

section
namespace Go.Proofs.Ytjjokghcjgighaa
open Go.RowKit Go.Sort

/-- Whether a list has a number. -/
def hasB (l : List Int) (a : Int) : Bool := l.contains a

end Go.Proofs.Ytjjokghcjgighaa
end

section
namespace Go.Proofs.Ytjjokghcjgighaa
open Go.RowKit
set_option linter.unusedVariables false

/-- Whether all are atoms. -/
def atomsB (l : List Int) : Bool := l.all atomB
/-- Whether each is less than the next one. -/
def ascB (l : List Int) : Bool := (List.range l.length).all fun i => decide (i = 0) || decide (itAt l (i - 1) < itAt l i)
def constB (l : List Int) : Bool := decide (l.length ≤ 3) && (atomsB l && ascB l)
def tupB (l : List Int) : Bool := decide (l.length ≤ 4) && atomsB l

theorem atomsB_no {l : List Int} {k : Nat} (hk : k < l.length) (h : atomB (itAt l k) = false) : atomsB l = false := by
  cases hh : atomsB l with
  | false => rfl
  | true =>
    unfold atomsB at hh
    rw [List.all_eq_true] at hh
    have := hh l[k] (List.getElem_mem hk)
    rw [← itAt_get l k hk, h] at this
    cases this
theorem atomsB_yes {l : List Int} (h : ∀ k, k < l.length → atomB (itAt l k) = true) : atomsB l = true := by
  unfold atomsB
  rw [List.all_eq_true]
  intro a ha
  obtain ⟨k, hk, rfl⟩ := List.getElem_of_mem ha
  rw [← itAt_get l k hk]
  exact h k hk
theorem ascB_no {l : List Int} {k : Nat} (hk : k < l.length) (h0 : 0 < k) (h : ¬ itAt l (k - 1) < itAt l k) : ascB l = false := by
  cases hh : ascB l with
  | false => rfl
  | true =>
    unfold ascB at hh
    rw [List.all_eq_true] at hh
    have := hh k (List.mem_range.2 hk)
    simp only [Bool.or_eq_true, decide_eq_true_eq] at this
    rcases this with h1 | h1
    · omega
    · exact absurd h1 h
theorem ascB_yes {l : List Int} (h : ∀ k, 0 < k → k < l.length → itAt l (k - 1) < itAt l k) : ascB l = true := by
  unfold ascB
  rw [List.all_eq_true]
  intro k hk
  rw [List.mem_range] at hk
  simp only [Bool.or_eq_true, decide_eq_true_eq]
  rcases Nat.eq_zero_or_pos k with h0 | h0
  · exact .inl h0
  · exact .inr (h k h0 hk)
theorem ascB_at {l : List Int} (h : ascB l = true) {k : Nat} (h0 : 0 < k) (hk : k < l.length) : itAt l (k - 1) < itAt l k := by
  unfold ascB at h
  rw [List.all_eq_true] at h
  have := h k (List.mem_range.2 hk)
  simp only [Bool.or_eq_true, decide_eq_true_eq] at this
  rcases this with h1 | h1
  · omega
  · exact h1
theorem asc_lt {l : List Int} (h : ascB l = true) : ∀ (j i : Nat), i < j → j < l.length → itAt l i < itAt l j
  | 0, i, hi, _ => by omega
  | j + 1, i, hi, hj => by
    have h1 := ascB_at h (k := j + 1) (by omega) hj
    rw [Nat.add_sub_cancel] at h1
    rcases Nat.lt_or_ge i j with h2 | h2
    · have := asc_lt h j i h2 (by omega)
      omega
    · have e : i = j := by omega
      rw [e]; exact h1
theorem asc_nodup {l : List Int} (h : ascB l = true) : l.Nodup := by
  rw [List.nodup_iff_pairwise_ne, List.pairwise_iff_getElem]
  intro i j hi hj hij e
  have := asc_lt h j i hij hj
  rw [itAt_get l i hi, itAt_get l j hj, e] at this
  omega
theorem const_nodup {l : List Int} (h : constB l = true) : l.Nodup := by
  unfold constB at h
  simp only [Bool.and_eq_true] at h
  exact asc_nodup h.2.2

/-- One atom more: what has been seen, and the pattern so far. -/
def patStep (s : List Int × List Int) (a : Int) : List Int × List Int := (if hasB s.1 a then s.1 else s.1 ++ [a], s.2 ++ [((s.1.idxOf a : Nat) : Int)])
def patF (cs xs : List Int) : List Int × List Int := xs.foldl patStep (cs, [])
/-- The pattern of a tuple. -/
def patL (cs xs : List Int) : List Int := (patF cs xs).2
def seenL (cs xs : List Int) : List Int := (patF cs xs).1

theorem patF_next {cs xs : List Int} {k : Nat} (h : k < xs.length) : patF cs (xs.take (k + 1)) = patStep (patF cs (xs.take k)) (itAt xs k) := by
  rw [itake_next h]
  unfold patF
  rw [List.foldl_append]
  rfl
theorem patF_len (cs : List Int) : ∀ (xs : List Int) (s : List Int × List Int), (xs.foldl patStep s).2.length = s.2.length + xs.length ∧ (xs.foldl patStep s).1.length ≤ s.1.length + xs.length
  | [], s => by simp
  | a :: r, s => by
    obtain ⟨h1, h2⟩ := patF_len cs r (patStep s a)
    rw [List.foldl_cons, h1]
    refine ⟨by simp [patStep]; omega, ?_⟩
    refine Nat.le_trans h2 ?_
    unfold patStep
    dsimp only
    split <;> simp <;> omega
theorem patL_len (cs xs : List Int) : (patL cs xs).length = xs.length := by
  have := (patF_len cs xs (cs, [])).1
  simpa [patL, patF] using this
theorem seenL_len (cs xs : List Int) : (seenL cs xs).length ≤ cs.length + xs.length := (patF_len cs xs (cs, [])).2
theorem patL_next {cs xs : List Int} {k : Nat} (h : k < xs.length) : patL cs (xs.take (k + 1)) = patL cs (xs.take k) ++ [(((seenL cs (xs.take k)).idxOf (itAt xs k) : Nat) : Int)] := by
  unfold patL seenL
  rw [patF_next h]
  rfl
theorem seenL_in {cs xs : List Int} {k : Nat} (h : k < xs.length) (hs : hasB (seenL cs (xs.take k)) (itAt xs k) = true) : seenL cs (xs.take (k + 1)) = seenL cs (xs.take k) := by
  unfold seenL at hs ⊢
  rw [patF_next h]
  unfold patStep
  simp only [hs, if_true]
theorem seenL_out {cs xs : List Int} {k : Nat} (h : k < xs.length) (hs : hasB (seenL cs (xs.take k)) (itAt xs k) = false) : seenL cs (xs.take (k + 1)) = seenL cs (xs.take k) ++ [itAt xs k] := by
  unfold seenL at hs ⊢
  rw [patF_next h]
  unfold patStep
  simp [hs]
theorem hasB_mem {l : List Int} {a : Int} : hasB l a = true ↔ a ∈ l := by unfold hasB; exact List.contains_iff_mem
theorem hasB_not {l : List Int} {a : Int} : hasB l a = false ↔ a ∉ l := by
  constructor
  · intro h hm; rw [hasB_mem.2 hm] at h; cases h
  · intro h
    cases hh : hasB l a with
    | false => rfl
    | true => exact absurd (hasB_mem.1 hh) h
theorem idx_out {l : List Int} {a : Int} (h : hasB l a = false) : l.idxOf a = l.length := List.idxOf_eq_length (hasB_not.1 h)
theorem idx_in {l : List Int} {a : Int} (h : hasB l a = true) : l.idxOf a < l.length := List.idxOf_lt_length_iff.2 (hasB_mem.1 h)
theorem idx_at {l : List Int} {a : Int} (h : hasB l a = true) : itAt l (l.idxOf a) = a := by
  rw [itAt_get _ _ (idx_in h)]
  exact List.getElem_idxOf (idx_in h)
/-- The first place at which it is. -/
theorem idx_first {l : List Int} {a : Int} {k : Nat} (hk : k < l.length) (e : itAt l k = a) (hn : ∀ j, j < k → itAt l j ≠ a) : l.idxOf a = k ∧ hasB l a = true := by
  have hm : hasB l a = true := by rw [hasB_mem, ← e, itAt_get l k hk]; exact List.getElem_mem hk
  refine ⟨?_, hm⟩
  rcases Nat.lt_trichotomy (l.idxOf a) k with h1 | h1 | h1
  · exact absurd (idx_at hm) (hn _ h1)
  · exact h1
  · exfalso
    have h2 := List.not_of_lt_findIdx (p := fun x => x == a) (xs := l) (i := k) h1
    rw [itAt_get l k hk] at e
    simp [e] at h2
theorem idx_none {l : List Int} {a : Int} (hn : ∀ j, j < l.length → itAt l j ≠ a) : hasB l a = false := by
  rw [hasB_not]
  intro hm
  obtain ⟨k, hk, e⟩ := List.getElem_of_mem hm
  exact hn k hk (by rw [itAt_get l k hk]; exact e)

theorem seen_nodup {cs : List Int} (h : cs.Nodup) (xs : List Int) : (seenL cs xs).Nodup := by
  have : ∀ (ys : List Int) (s : List Int × List Int), s.1.Nodup → (ys.foldl patStep s).1.Nodup := by
    intro ys
    induction ys with
    | nil => intro s hs; exact hs
    | cons a r ih =>
      intro s hs
      rw [List.foldl_cons]
      refine ih _ ?_
      unfold patStep
      dsimp only
      cases ha : hasB s.1 a with
      | true => simpa using hs
      | false =>
        simp only [Bool.false_eq_true, if_false]
        rw [List.nodup_append]
        exact ⟨hs, by simp, fun x hx y hy e => by simp at hy; subst hy; exact hasB_not.1 ha (e ▸ hx)⟩
  exact this xs (cs, []) h

/-- The last place up to a bound at which it is. -/
def lastK (l : List Int) (a : Int) : Nat → Int
  | 0 => -1
  | k + 1 => if itAt l k = a then (k : Int) else lastK l a k
theorem lastK_same (l : List Int) (a : Int) {k : Nat} (e : itAt l k = a) : lastK l a (k + 1) = k := by rw [lastK, if_pos e]
theorem lastK_other (l : List Int) (a : Int) {k : Nat} (e : ¬ itAt l k = a) : lastK l a (k + 1) = lastK l a k := by rw [lastK, if_neg e]
theorem lastK_none {l : List Int} {a : Int} : ∀ {k : Nat}, (∀ j, j < k → itAt l j ≠ a) → lastK l a k = -1
  | 0, _ => rfl
  | k + 1, h => by rw [lastK, if_neg (h k (by omega)), lastK_none fun j hj => h j (by omega)]
theorem lastK_some {l : List Int} {a : Int} {i : Nat} : ∀ {k : Nat}, i < k → itAt l i = a → (∀ j, j < k → j ≠ i → itAt l j ≠ a) → lastK l a k = i
  | 0, h, _, _ => by omega
  | k + 1, h, e, hn => by
    rw [lastK]
    rcases Nat.lt_or_ge i k with h1 | h1
    · rw [if_neg (hn k (by omega) (by omega)), lastK_some h1 e fun j hj hne => hn j (by omega) hne]
    · have : i = k := by omega
      subst this
      rw [if_pos e]
theorem lastK_out {l : List Int} {a : Int} (h : hasB l a = false) : lastK l a l.length = -1 :=
  lastK_none fun j hj e => hasB_not.1 h (by rw [← e, itAt_get l j hj]; exact List.getElem_mem hj)
theorem lastK_in {l : List Int} {a : Int} (hd : l.Nodup) (h : hasB l a = true) : lastK l a l.length = (l.idxOf a : Nat) := by
  refine lastK_some (idx_in h) (idx_at h) fun j hj hne e => hne ?_
  rw [List.nodup_iff_pairwise_ne, List.pairwise_iff_getElem] at hd
  have h1 := idx_at h
  rw [itAt_get _ _ (idx_in h)] at h1
  rw [itAt_get _ _ hj] at e
  rcases Nat.lt_trichotomy j (l.idxOf a) with h2 | h2 | h2
  · exact absurd (e.trans h1.symm) (hd j _ hj (idx_in h) h2)
  · exact h2
  · exact absurd (h1.trans e.symm) (hd _ j (idx_in h) hj h2)
theorem lastK_ge (l : List Int) (a : Int) : ∀ k : Nat, -1 ≤ lastK l a k ∧ lastK l a k < k
  | 0 => by simp [lastK]
  | k + 1 => by
    have := lastK_ge l a k
    rw [lastK]
    split <;> omega
end Go.Proofs.Ytjjokghcjgighaa
end

