/-
  The comparison of two pairs and of two lists of pairs, as contracts. Comparing, numbering and copying lists of integers, as contracts. Comparing numbers, atoms, and finding a pair by its first atom, as contracts. Whether moves are in order, as a contract. Whether a list has a number: in the model, as a contract. Constants, tuples and patterns: plain words, no program is walked here. Patterns by themselves, all of them, and their order: plain words, no program is walked here. Whether a list of pairs is a permutation, as the program decides it: a contract. Whether a list of pairs is a permutation, as the model decides it: a contract; and that both decide alike. The moved atoms of a list of pairs: in the program, as a contract. A number is put into an ascending list, and the atoms of two lists of pairs together: in the model, as contracts. The atoms that two lists of pairs move: in the model, as a contract. What is a term: plain words, no program is walked here. All terms within a term: plain words. The shape of a term, in the model, as contracts. The least atom that is not in a list: in the program, as a contract. The least atom that is not in a list: in the model, as a contract.
-/
import Derived.Test.YtjjokghcjgighabKHoldsFormula2
import Derived.WalkLawsBesides
import Derived.WalkSpells
import Derived.BigQuiet
import Derived.Lib.QuietBelow
import Derived.Lib.Hide
section
namespace Go.Proofs.Ytjjokghcjgighab
open Go.RowKit Go.Sort

end Go.Proofs.Ytjjokghcjgighab
end

section
namespace Go.Proofs.Ytjjokghcjgighab
open Go.RowKit Go.Sort

set_option maxHeartbeats 400000 in
theorem eqIntS_any (A B : Option Addr) (c d : Nat) (xs ys : List Int) (w : World) (hx : IntsAt w A xs) (hy : IntsAt w B ys) (hlx : xs.length ≤ 9223372036854775807) :
    Calls Try.prog 14 #[.slice A xs.length c, .slice B ys.length d] w
      fun e w' => e = .returned (.bool (decide (xs = ys))) ∧ Below w.heap.size w w' := by
  by_cases hl : xs.length = ys.length
  · have k0 : ((xs.length : Int) != (ys.length : Int)) = false := by simp [hl]
    have HL := Lib.hid hl
    clear hl
    go_enter Try.func14, Try.ntmps14
    go_wp2
    go_loopw [5] (fun i wr => ∃ k : Nat, k ≤ xs.length ∧ i = .int .i64 k ∧ xs.take k = ys.take k ∧ Below w.heap.size w wr) (fun i _ => xs.length - (intOf i).toNat)
    case atStart => exact ⟨0, Nat.zero_le _, rfl, rfl, Below.refl _ _⟩
    case round =>
      obtain ⟨k, hk, rfl, ht, hb⟩ := hrel
      have HT := Lib.hid ht
      clear ht
      by_cases hlt : k < xs.length
      · obtain ⟨b1, o1, rfl, hb1, hc1⟩ := hx (by omega)
        obtain ⟨b2, o2, rfl, hb2, hc2⟩ := hy (by have := HL.out; omega)
        have c1 := hc1 k hlt
        have c3 := hc2 k (by have := HL.out; omega)
        rw [← hb.cell (p := ⟨b1, _, none⟩) hb1] at c1
        rw [← hb.cell (p := ⟨b2, _, none⟩) hb2] at c3
        have hlt2 : k < ys.length := by have := HL.out; omega
        clear hc1 hc2 hx hy
        have q1 := fun d os => cell_regrown c1 d os
        have q3 := fun d os => cell_regrown c3 d os
        by_cases he : itAt xs k = itAt ys k
        · have hn : Hid (xs.take (k + 1) = ys.take (k + 1)) := (take_next 0 k hlt hlt2 HT.out).2 he
          have hq : (itAt xs k != itAt ys k) = false := by simp [he]
          generalize itAt xs k = x at q1 hq
          generalize itAt ys k = y at q3 hq
          clear he c1 c3
          go_wp2
          refine wp_region_quiet_below (by kernel_rfl) (by kernel_rfl) ?_
          repeat (any_goals (first | go_big_quiet_step (fail) | quiet_step (fail)))
          refine wpQuiet_nil ?_
          intro _ hw'
          obtain ⟨⟨dq, osq⟩, hw''⟩ := hw'
          subst hw''
          have hb3 := hb.trans ((below_regrown wr dq osq).mono hb.size)
          generalize grow (redrawn wr dq) osq = w2 at hb3 ⊢
          clear q1 q3 hb
          go_wp2
          refine ⟨⟨k + 1, by omega, by go_num, hn.out, hb3⟩, ?_⟩
          simp only [intOf]
          omega
        · have hn : Hid (decide (xs = ys) = false) := idiffer_at k he
          have hq : (itAt xs k != itAt ys k) = true := by simp [he]
          generalize itAt xs k = x at q1 hq
          generalize itAt ys k = y at q3 hq
          clear he c1 c3
          go_wp2
          refine wp_region_quiet_below (by kernel_rfl) (by kernel_rfl) ?_
          repeat (any_goals (first | go_big_quiet_step (fail) | quiet_step (fail)))
          refine wpQuiet_nil ?_
          intro _ hw'
          obtain ⟨⟨dq, osq⟩, hw''⟩ := hw'
          subst hw''
          have hb3 := hb.trans ((below_regrown wr dq osq).mono hb.size)
          generalize grow (redrawn wr dq) osq = w2 at hb3 ⊢
          clear q1 q3 hb
          go_wp2
          go_ret
          exact ⟨bool_end hn.out.symm, hb3⟩
      · go_wp2
        go_ret
        have e : k = xs.length := by omega
        subst e
        exact ⟨bool_end (isame_all HL.out HT.out).symm, hb⟩
  · have k0 : ((xs.length : Int) != (ys.length : Int)) = true := by simp; omega
    have hf : decide (xs = ys) = false := by
      simp only [decide_eq_false_iff_not]
      intro e
      exact hl (by rw [e])
    have HF := Lib.hid hf
    clear hl hf
    go_enter Try.func14, Try.ntmps14
    go_wp2
    go_ret
    exact ⟨bool_end HF.out.symm, Below.refl _ _⟩

theorem eqIntS_own (base1 base2 : Nat) (v1 v2 : Value) (l1 l2 : List Int) (w : World) (h1 : w.ownsRow base1 3 1 v1 l1.length (icells l1)) (h2 : w.ownsRow base2 3 1 v2 l2.length (icells l2)) (hl : l1.length ≤ 9223372036854775807) :
    Calls Try.prog 14 #[v1, v2] w
      fun e w' => e = .returned (.bool (decide (l1 = l2))) ∧ Below w.heap.size w w' := by
  obtain ⟨A, c, rfl, hA⟩ := own_intsAt h1
  obtain ⟨B, d, rfl, hB⟩ := own_intsAt h2
  exact eqIntS_any A B c d l1 l2 w hA hB hl

end Go.Proofs.Ytjjokghcjgighab
end

section
namespace Go.Proofs.Ytjjokghcjgighab
section
open Go.RowKit Go.Sort

def atomB (a : Int) : Bool := decide (0 ≤ a ∧ a ≤ 999)

theorem isAtom_any (a : Int) (w : World) :
    Calls Try.prog 108 #[.int .i64 a] w fun e w' => e = .returned (.bool (atomB a)) ∧ w = w' := by
  by_cases h1 : 0 ≤ a
  · by_cases h2 : a ≤ 999
    · go_enter Try.func108, Try.ntmps108
      go_wp2
      go_ret
      exact ⟨bool_end (by simp [atomB, h1, h2]), rfl⟩
    · have k2 : decide (a ≤ 999) = false := by simpa using h2
      have k3 : 999 < a := by omega
      clear h2
      go_enter Try.func108, Try.ntmps108
      go_wp2
      go_ret
      exact ⟨bool_end (by simp [atomB]; omega), rfl⟩
  · have k1 : a < 0 := by omega
    clear h1
    go_enter Try.func108, Try.ntmps108
    go_wp2
    go_ret
    exact ⟨bool_end (by simp [atomB]; omega), rfl⟩

/-- The first atoms ascend. -/
def Asc (l : List (Int × Int)) : Prop := ∀ i j, i < j → j < l.length → (prAt l i).1 < (prAt l j).1

end

section
open Go.RowKit Go.Sort

/-- What is asked of the pair at a place. -/
def okAt (l : List (Int × Int)) (i : Nat) : Bool :=
  atomB (prAt l i).1 && (atomB (prAt l i).2 && (decide ((prAt l i).1 ≠ (prAt l i).2) && (decide (i = 0) || decide ((prAt l (i - 1)).1 < (prAt l i).1))))

def orderB (l : List (Int × Int)) : Bool := (List.range l.length).all (okAt l)

end
end Go.Proofs.Ytjjokghcjgighab
end

section
namespace Go.Proofs.Ytjjokghcjgighab
open Go.RowKit Go.Sort

/-- Whether a list has a number. -/
def hasB (l : List Int) (a : Int) : Bool := l.contains a

set_option maxHeartbeats 400000 in
theorem l1Has_any (A : Option Addr) (c : Nat) (l : List Int) (a : Int) (w : World) (hA : IntsAt w A l) (hl : l.length ≤ 1099511627776) :
    Calls Try.prog 102 #[.slice A l.length c, .int .i64 a] w fun e w' => e = .returned (.bool (hasB l a)) ∧ w = w' := by
  go_enter Try.func102, Try.ntmps102
  go_wp2
  go_loop [5] (fun i => ∃ k : Nat, k ≤ l.length ∧ i = .int .i64 k ∧ Hid (∀ j, j < k → itAt l j ≠ a)) (fun i => l.length - (intOf i).toNat)
  case atStart => exact ⟨0, Nat.zero_le _, rfl, fun j hj => absurd hj (by omega)⟩
  case round =>
    obtain ⟨k, hk, rfl, hq⟩ := hrel
    by_cases hlt : k < l.length
    · obtain ⟨b1, o1, rfl, hb1, hc1⟩ := hA (by omega)
      have c1 := hc1 k hlt
      clear hc1 hA
      by_cases he : (itAt l k == a) = true
      · have hres : Hid (hasB l a = true) := by
          show hasB l a = true
          unfold hasB
          rw [List.contains_iff_mem]
          have e : itAt l k = a := by simpa using he
          rw [← e, itAt_get l k hlt]
          exact List.getElem_mem hlt
        generalize itAt l k = x at c1 he
        clear hq
        go_wp2
        go_ret
        exact ⟨bool_end hres.out.symm, rfl⟩
      · have he' : (itAt l k == a) = false := by simpa using he
        have hn : Hid (∀ j, j < k + 1 → itAt l j ≠ a) := by
          intro j hj
          by_cases e : j = k
          · rw [e]; simpa using he'
          · exact hq.out j (by omega)
        generalize itAt l k = x at c1 he he'
        clear hq he
        go_wp2
        go_round
        case rel => exact ⟨k + 1, by omega, by go_num, hn⟩
        case measure => simp [intOf]; omega
    · have hres : Hid (hasB l a = false) := by
        show hasB l a = false
        unfold hasB
        rw [← Bool.not_eq_true, List.contains_iff_mem]
        intro hmem
        obtain ⟨j, hj, e⟩ := List.getElem_of_mem hmem
        exact hq.out j (by omega) (by rw [itAt_get l j hj]; exact e)
      clear hq hA
      go_wp2
      go_ret
      exact ⟨bool_end hres.out.symm, rfl⟩

end Go.Proofs.Ytjjokghcjgighab
end

section
namespace Go.Proofs.Ytjjokghcjgighab
open Go.RowKit
set_option linter.unusedVariables false

/-- Whether all are atoms. -/
def atomsB (l : List Int) : Bool := l.all atomB
def tupB (l : List Int) : Bool := decide (l.length ≤ 4) && atomsB l

theorem atomsB_no {l : List Int} {k : Nat} (hk : k < l.length) (h : atomB (itAt l k) = false) : atomsB l = false := by
  cases hh : atomsB l with
  | false => rfl
  | true =>
    unfold atomsB at hh
    rw [List.all_eq_true] at hh
    have := hh l[k] (List.getElem_mem hk)
    rw [← itAt_get l k hk, h] at this
    cases this
theorem atomsB_yes {l : List Int} (h : ∀ k, k < l.length → atomB (itAt l k) = true) : atomsB l = true := by
  unfold atomsB
  rw [List.all_eq_true]
  intro a ha
  obtain ⟨k, hk, rfl⟩ := List.getElem_of_mem ha
  rw [← itAt_get l k hk]
  exact h k hk
end Go.Proofs.Ytjjokghcjgighab
end

section
namespace Go.Proofs.Ytjjokghcjgighab
open Go.RowKit
set_option linter.unusedVariables false

def widB (z : Int) : Bool := decide (0 ≤ z ∧ z ≤ 4)
end Go.Proofs.Ytjjokghcjgighab
end

section
namespace Go.Proofs.Ytjjokghcjgighab
open Go.RowKit Go.Sort

def froms (l : List (Int × Int)) : List Int := l.map (·.1)
def tos (l : List (Int × Int)) : List Int := l.map (·.2)

theorem tos_at (l : List (Int × Int)) (i : Nat) (h : i < l.length) : (tos l)[i]? = some (prAt l i).2 := by
  simp [tos, prAt, h]

/-- Which atoms of the pairs have been given by the first k. -/
def gBit (l : List (Int × Int)) (k q : Nat) : Bool := decide (q < l.length) && ((tos l).take k).contains (prAt l q).1
def gBits (l : List (Int × Int)) (k : Nat) : List Value := (List.range 40).map fun q => .bool (gBit l k q)

theorem gBits_at (l : List (Int × Int)) (k q : Nat) (h : q < 40) : (gBits l k)[q]? = some (.bool (gBit l k q)) := by
  simp [gBits, List.getElem?_map, List.getElem?_range h]

theorem gBits_set {l : List (Int × Int)} {k i : Nat} (hasc : Asc l) (hk : k < l.length) (hi : i < l.length) (e : (prAt l i).1 = (prAt l k).2) :
    (gBits l k).set i (.bool true) = gBits l (k + 1) := by
  have ht : (tos l).take (k + 1) = (tos l).take k ++ [(prAt l k).2] := by
    have hlt : k < (tos l).length := by simpa [tos] using hk
    rw [List.take_succ_eq_append_getElem hlt]
    have h1 := tos_at l k hk
    rw [List.getElem?_eq_getElem hlt] at h1
    injection h1 with h1
    rw [h1]
  apply List.ext_getElem?
  intro q
  by_cases hq : q < 40
  · rw [gBits_at l (k + 1) q hq, List.getElem?_set]
    by_cases hc : i = q
    · subst hc
      rw [if_pos rfl, if_pos (by simpa [gBits] using hq)]
      simp [gBit, hi, ht, e]
    · rw [if_neg hc, gBits_at l k q hq]
      by_cases hql : q < l.length
      · have hne : (prAt l q).1 ≠ (prAt l k).2 := by
          rw [← e]
          intro h
          rcases Nat.lt_or_gt_of_ne hc with h1 | h1
          · have := hasc i q h1 hql; omega
          · have := hasc q i h1 hi; omega
        simp [gBit, ht, hne]
      · simp [gBit, hql]
  · rw [List.getElem?_eq_none (by simp [gBits]; omega), List.getElem?_eq_none (by simp [gBits]; omega)]

def goodAt (l : List (Int × Int)) (k : Nat) : Bool := (froms l).contains (prAt l k).2 && !((tos l).take k).contains (prAt l k).2

/-- Whether a list of pairs is a permutation. -/
def permB (l : List (Int × Int)) : Bool := decide (l.length ≤ 40) && (orderB l && (List.range l.length).all (goodAt l))

/-- The block of marks after k pairs. -/
def Marks (w : World) (G : Nat) (l : List (Int × Int)) (k : Nat) : Prop := w.heap[G]? = some (.cells (gBits l k).toArray 170 (0, 0))

theorem Marks.lt {w : World} {G : Nat} {l : List (Int × Int)} {k : Nat} (h : Marks w G l k) : G < w.heap.size := (Array.getElem?_eq_some_iff.1 h).1
theorem Marks.cell {w : World} {G : Nat} {l : List (Int × Int)} {k : Nat} (h : Marks w G l k) (q : Nat) (hq : q < 40) : w.cell? ⟨G, q, none⟩ = some (.bool (gBit l k q)) := by
  rw [cell_of_row w G q _ _ _ h]
  simpa using gBits_at l k q hq
theorem Marks.frozen {w : World} {G : Nat} {l : List (Int × Int)} {k : Nat} (h : Marks w G l k) (q : Nat) : w.frozen? ⟨G, q, none⟩ = false := frozen_of_row w G q _ _ h
theorem Marks.below {w w' : World} {G : Nat} {l : List (Int × Int)} {k : Nat} (h : Marks w G l k) (hb : Below w.heap.size w w') : Marks w' G l k := (hb.block G h.lt).trans h
theorem Marks.alloc {w : World} {G : Nat} {l : List (Int × Int)} {k : Nat} (h : Marks w G l k) (o : Obj) : Marks (w.alloc o) G l k := h.below ((Below.refl _ _).alloc (Nat.le_refl _) o)
theorem Marks.set_ {w : World} {G : Nat} {l : List (Int × Int)} {k i : Nat} (h : Marks w G l k) (hasc : Asc l) (hk : k < l.length) (hi : i < l.length) (e : (prAt l i).1 = (prAt l k).2) :
    Marks (w.setCell ⟨G, i, none⟩ (.bool true)) G l (k + 1) := by
  unfold Marks at h ⊢
  rw [heap_setCell_same w G i _ _ _ h, ← gBits_set hasc hk hi e]
  simp

end Go.Proofs.Ytjjokghcjgighab
end

section
namespace Go.Proofs.Ytjjokghcjgighab
open Go.RowKit Go.Sort

theorem l1Atom_any (a : Int) (w : World) :
    Calls Try.prog 84 #[.int .i64 a] w fun e w' => e = .returned (.bool (atomB a)) ∧ w = w' := by
  by_cases h1 : 0 ≤ a
  · by_cases h2 : a ≤ 999
    · go_enter Try.func84, Try.ntmps84
      go_wp2
      go_ret
      exact ⟨bool_end (by simp [atomB, h1, h2]), rfl⟩
    · have k2 : decide (a ≤ 999) = false := by simpa using h2
      have k3 : 999 < a := by omega
      clear h2
      go_enter Try.func84, Try.ntmps84
      go_wp2
      go_ret
      exact ⟨bool_end (by simp [atomB]; omega), rfl⟩
  · have k1 : a < 0 := by omega
    clear h1
    go_enter Try.func84, Try.ntmps84
    go_wp2
    go_ret
    exact ⟨bool_end (by simp [atomB]; omega), rfl⟩

end Go.Proofs.Ytjjokghcjgighab
end

section
namespace Go.Proofs.Ytjjokghcjgighab
open Go.RowKit Go.Sort

theorem int_infoM : (Try.prog.info? 3).map (fun i => (i.zero, i.size, i.bytes)) = some (some (.int .i64 0), 1, 8) := by kernel_rfl

theorem int_one (x : Int) : ∀ u ∈ [Value.int .i64 x], u.oneCell' = true := by
  intro u hu
  simp at hu
  subst hu
  rfl

theorem one_cell {w : World} {g : Nat} {u : Value} (h : w.cell? ⟨g, 0, none⟩ = some u) : ∀ j x, [u][j]? = some x → w.cell? ((⟨g, 0, none⟩ : Addr).add j) = some x := by
  intro j x hj
  cases j with
  | zero => simp at hj; subst hj; simpa [Addr.add] using h
  | succ j => simp at hj

end Go.Proofs.Ytjjokghcjgighab
end

section
namespace Go.Proofs.Ytjjokghcjgighab
open Go.RowKit Go.Sort

/-- A number is put into an ascending list, if it is not there. -/
def insL : List Int → Int → List Int
  | [], n => [n]
  | x :: r, n => if n < x then n :: x :: r else if n = x then x :: r else x :: insL r n

def AscP (l : List Int) : Prop := l.Pairwise (· < ·)

theorem mem_insL : ∀ (l : List Int) (n a : Int), a ∈ insL l n ↔ a = n ∨ a ∈ l
  | [], n, a => by simp [insL]
  | x :: r, n, a => by
    unfold insL
    split
    · simp
    · split
      · rename_i h; subst h; simp
      · simp only [List.mem_cons, mem_insL r n a]
        constructor
        · rintro (h | h | h)
          · exact .inr (.inl h)
          · exact .inl h
          · exact .inr (.inr h)
        · rintro (h | h | h)
          · exact .inr (.inl h)
          · exact .inl h
          · exact .inr (.inr h)

theorem asc_insL : ∀ (l : List Int) (n : Int), AscP l → AscP (insL l n)
  | [], n, _ => by simp [insL, AscP]
  | x :: r, n, h => by
    unfold AscP at h
    rw [List.pairwise_cons] at h
    unfold insL
    split
    · rename_i h1
      unfold AscP
      rw [List.pairwise_cons, List.pairwise_cons]
      refine ⟨fun a ha => ?_, h.1, h.2⟩
      rcases List.mem_cons.1 ha with e | e
      · rw [e]; exact h1
      · have := h.1 a e; omega
    · split
      · unfold AscP; rw [List.pairwise_cons]; exact h
      · rename_i h1 h2
        unfold AscP
        rw [List.pairwise_cons]
        refine ⟨fun a ha => ?_, asc_insL r n h.2⟩
        rcases (mem_insL r n a).1 ha with e | e
        · rw [e]; omega
        · exact h.1 a e

theorem insL_there : ∀ (l : List Int) (n : Int), AscP l → n ∈ l → insL l n = l
  | [], n, _, h => by simp at h
  | x :: r, n, h, hm => by
    unfold AscP at h
    rw [List.pairwise_cons] at h
    unfold insL
    rcases List.mem_cons.1 hm with e | e
    · rw [if_neg (by omega), if_pos e]
    · have h1 := h.1 n e
      rw [if_neg (by omega), if_neg (by omega), insL_there r n h.2 e]

theorem ins_eq : ∀ (l : List Int) (k : Nat) (n : Int), AscP l → k ≤ l.length → (∀ j, k ≤ j → j < l.length → n < itAt l j) → (k = 0 ∨ itAt l (k - 1) ≤ n) → n ∉ l → l.take k ++ n :: l.drop k = insL l n
  | [], k, n, _, hk, _, _, _ => by
    have e : k = 0 := by simpa using hk
    subst e
    rfl
  | x :: r, 0, n, _, _, h1, _, _ => by
    have h2 : n < x := h1 0 (Nat.le_refl _) (by simp)
    show n :: x :: r = insL (x :: r) n
    unfold insL
    rw [if_pos h2]
  | x :: r, k + 1, n, ha, hk, h1, h2, hn => by
    unfold AscP at ha
    rw [List.pairwise_cons] at ha
    have hk' : k ≤ r.length := by simpa using hk
    have hlast : itAt (x :: r) k ≤ n := by
      rcases h2 with h2 | h2
      · omega
      · exact h2
    have hx : x ≤ n := by
      cases k with
      | zero => exact hlast
      | succ k =>
        have h3 : k < r.length := by omega
        have h4 : itAt (x :: r) (k + 1) = r[k] := by simp [itAt, h3]
        have h5 := ha.1 r[k] (List.getElem_mem h3)
        omega
    have hne : n ≠ x := fun e => hn (by rw [e]; exact List.mem_cons_self)
    have ih := ins_eq r k n ha.2 hk' (fun j hj hl => h1 (j + 1) (by omega) (by simpa using hl)) (by
      cases k with
      | zero => exact .inl rfl
      | succ k => exact .inr hlast) (fun h => hn (List.mem_cons_of_mem _ h))
    show x :: (r.take k ++ n :: r.drop k) = insL (x :: r) n
    unfold insL
    rw [if_neg (by omega), if_neg hne, ih]

/-- Several numbers are put into an ascending list. -/
def insAll (acc xs : List Int) : List Int := xs.foldl insL acc

theorem asc_insAll (acc xs : List Int) (h : AscP acc) : AscP (insAll acc xs) := by
  unfold insAll
  induction xs generalizing acc with
  | nil => exact h
  | cons x r ih => exact ih _ (asc_insL acc x h)

theorem mem_insAll (acc xs : List Int) (a : Int) : a ∈ insAll acc xs ↔ a ∈ acc ∨ a ∈ xs := by
  unfold insAll
  induction xs generalizing acc with
  | nil => simp
  | cons x r ih =>
    rw [List.foldl_cons, ih, mem_insL, List.mem_cons]
    constructor
    · rintro ((h | h) | h)
      · exact .inr (.inl h)
      · exact .inl h
      · exact .inr (.inr h)
    · rintro (h | h | h)
      · exact .inl (.inr h)
      · exact .inl (.inl h)
      · exact .inr h

theorem insAll_next {xs : List Int} {k : Nat} (acc : List Int) (h : k < xs.length) : insAll acc (xs.take (k + 1)) = insL (insAll acc (xs.take k)) (itAt xs k) := by
  rw [itake_next h]
  unfold insAll
  rw [List.foldl_append]
  rfl

theorem asc_same : ∀ (xs ys : List Int), AscP xs → AscP ys → (∀ a, a ∈ xs ↔ a ∈ ys) → xs = ys
  | [], [], _, _, _ => rfl
  | [], y :: ys, _, _, h => by have := (h y).2 List.mem_cons_self; simp at this
  | x :: xs, [], _, _, h => by have := (h x).1 List.mem_cons_self; simp at this
  | x :: xs, y :: ys, h1, h2, h => by
    unfold AscP at h1 h2
    rw [List.pairwise_cons] at h1 h2
    have e : x = y := by
      rcases List.mem_cons.1 ((h x).1 List.mem_cons_self) with e | e
      · exact e
      · rcases List.mem_cons.1 ((h y).2 List.mem_cons_self) with e' | e'
        · exact e'.symm
        · have := h1.1 y e'; have := h2.1 x e; omega
    subst e
    congr 1
    refine asc_same xs ys h1.2 h2.2 fun a => ?_
    constructor
    · intro ha
      rcases List.mem_cons.1 ((h a).1 (List.mem_cons_of_mem _ ha)) with e | e
      · have := h1.1 a ha; omega
      · exact e
    · intro ha
      rcases List.mem_cons.1 ((h a).2 (List.mem_cons_of_mem _ ha)) with e | e
      · have := h2.1 a ha; omega
      · exact e

theorem ints_news {w : World} {a : Addr} {l : List Int} (h : IntsAt w (some a) l) : ∀ j u, (icells l)[j]? = some u → w.cell? (a.add j) = some u := by
  intro j u hj
  have hl : j < l.length := by
    rcases Nat.lt_or_ge j l.length with h1 | h1
    · exact h1
    · rw [List.getElem?_eq_none (by rw [icells_len]; exact h1)] at hj; cases hj
  obtain ⟨b, off, e, _, hc⟩ := h (by omega)
  injection e with e
  subst e
  rw [icells_at l j hl] at hj
  injection hj with hj
  subst hj
  have hadd : (⟨b, off, none⟩ : Addr).add j = ⟨b, off + j, none⟩ := by
    unfold Addr.add
    split
    · rename_i h0; rw [h0]; rfl
    · rfl
  rw [hadd]
  exact hc j hl

theorem icells_one (l : List Int) : ∀ u ∈ icells l, u.oneCell' = true := by
  intro u hu
  simp only [icells, List.mem_map] at hu
  obtain ⟨x, _, rfl⟩ := hu
  rfl

set_option maxHeartbeats 1000000 in
theorem l1Copy_any (a : Addr) (c : Nat) (l : List Int) (w : World) (hA : IntsAt w (some a) l) (hl : l.length ≤ 1099511627776) :
    Calls Try.prog 87 #[.slice (some a) l.length c] w (NewInts l w) := by
  obtain ⟨i0, hi0, hz0, hz1, hz2⟩ := info_parts int_infoM
  have HS := Lib.hid hz2
  clear hz2
  have hb : Below w.heap.size w (w.alloc (.cells #[] 3)) := (Below.refl _ _).alloc (Nat.le_refl _) _
  have HN := Lib.hid (ints_news (hA.below hb))
  have ho : (w.alloc (.cells #[] 3)).ownsRow w.heap.size 3 1 (.slice (some ⟨w.heap.size, 0, none⟩) 0 0) 0 [] := World.ownsRow_lit w #[] 0 (Nat.le_refl _) (by decide) rfl
  have HL := Lib.hid (icells_len l)
  go_enter Try.func87, Try.ntmps87
  go_wp2_with (at_builtin; refine wpList_append_own _ rfl (.tmp 3) (.tmp 4) 25 rfl w.heap.size 3 i0 (.int .i64 0) 1 8 Try.underlying25 hi0 hz0 hz1 HS.out rfl (by decide) _ 0 [] rfl ho a l.length c (icells l) rfl (by rw [HL.out, Nat.mul_one]) HN.out (icells_one l) ?c3 ?c4 ?c5 ?_)
  case c3 => unfold maxLen; omega
  case c4 => omega
  case c5 => simp
  intro v2 w2 ho3 hg _
  have hb4 : Below w.heap.size w w2 := below_own hb ho (Nat.le_refl _) (by simp) hg
  clear ho hg hb HN hA
  go_wp2
  go_ret
  exact ⟨_, rfl, ho3, hb4⟩

theorem IntsAt.take {w : World} {A : Option Addr} {l : List Int} (h : IntsAt w A l) (k : Nat) : IntsAt w A (l.take k) := by
  intro hp
  rw [List.length_take] at hp
  obtain ⟨b, off, rfl, hlt, hc⟩ := h (by omega)
  refine ⟨b, off, rfl, hlt, fun i hi => ?_⟩
  rw [List.length_take] at hi
  rw [hc i (by omega)]
  have : i < k := by omega
  simp [itAt, this]

theorem IntsAt.drop {w : World} {b off : Nat} {l : List Int} (h : IntsAt w (some ⟨b, off, none⟩) l) (k : Nat) : IntsAt w (some ⟨b, off + k, none⟩) (l.drop k) := by
  intro hp
  rw [List.length_drop] at hp
  obtain ⟨b', off', e, hlt, hc⟩ := h (by omega)
  simp only [Option.some.injEq, Addr.mk.injEq, and_true] at e
  obtain ⟨rfl, rfl⟩ := e
  refine ⟨b, off + k, rfl, hlt, fun i hi => ?_⟩
  rw [List.length_drop] at hi
  rw [Nat.add_assoc, hc (k + i) (by omega)]
  simp [itAt]

/-- A slice of the call's own that holds the numbers; of what was there nothing has turned. -/
def InsPost (base : Nat) (l : List Int) (w : World) (e : Ending) (w' : World) : Prop :=
  ∃ g cap, e = .returned (.slice (some ⟨g, 0, none⟩) l.length cap) ∧ w'.ownsRow base 3 1 (.slice (some ⟨g, 0, none⟩) l.length cap) l.length (icells l) ∧ Below w.heap.size w w'

theorem insPost_of {base : Nat} {l : List Int} {w w8 : World} {v8 : Value} (hb : base ≤ w.heap.size) (hp : 0 < l.length) (h : w8.ownsRow w.heap.size 3 1 v8 l.length (icells l)) (hbel : Below w.heap.size w w8) : InsPost base l w (.returned v8) w8 := by
  rcases h.2 with ⟨_, h0⟩ | ⟨g, cap, cur, rfl, _⟩
  · omega
  · exact ⟨g, cap, rfl, own_le h hb, hbel⟩

set_option maxRecDepth 100000 in
set_option maxHeartbeats 2000000 in
theorem l1Insert_any (base g cap : Nat) (l : List Int) (a : Int) (w : World) (hown : w.ownsRow base 3 1 (.slice (some ⟨g, 0, none⟩) l.length cap) l.length (icells l)) (hcap : l.length ≤ cap) (hl : l.length ≤ 1099511627776) (hasc : AscP l) :
    Calls Try.prog 74 #[.slice (some ⟨g, 0, none⟩) l.length cap, .int .i64 a] w (InsPost base (insL l a) w) := by
  obtain ⟨i0, hi0, hz0, hz1, hz2⟩ := info_parts int_infoM
  have HS := Lib.hid hz2
  clear hz2
  have hIA : IntsAt w (some ⟨g, 0, none⟩) l := by
    obtain ⟨A, c, e, h⟩ := own_intsAt hown
    simp only [Value.slice.injEq] at e
    rw [e.1]
    exact h
  have hh := l1Has_any (some ⟨g, 0, none⟩) cap l a w hIA hl
  by_cases hin : hasB l a = true
  · have hres : Hid (insL l a = l) := insL_there l a hasc (by unfold hasB at hin; exact List.contains_iff_mem.1 hin)
    rw [hin] at hh
    rw [hres.out]
    have hpost : InsPost base l w (.returned (.slice (some ⟨g, 0, none⟩) l.length cap)) w := ⟨g, cap, rfl, hown, Below.refl _ _⟩
    clear hin hasc hown hIA
    go_enter Try.func74, Try.ntmps74
    go_wp2_with fail
    refine hh.mono ?_
    rintro e w1 ⟨rfl, rfl⟩
    go_wp2
    go_ret
    exact hpost
  · have hin' : hasB l a = false := by simpa using hin
    have hni : Hid (a ∉ l) := fun h => by unfold hasB at hin'; rw [List.contains_iff_mem.2 h] at hin'; cases hin'
    have HA := Lib.hid hasc
    rw [hin'] at hh
    clear hin hin' hasc
    go_enter Try.func74, Try.ntmps74
    go_wp2_with fail
    refine hh.mono ?_
    rintro e w1 ⟨rfl, rfl⟩
    clear hh
    go_wp2
    go_loop [5] (fun i => ∃ k : Nat, k ≤ l.length ∧ i = .int .i64 k ∧ Hid (∀ j, k ≤ j → j < l.length → a < itAt l j)) (fun i => (intOf i).toNat)
    case atStart => exact ⟨l.length, Nat.le_refl _, rfl, fun j h1 h2 => absurd h1 (by omega)⟩
    case round =>
      obtain ⟨k, hk, rfl, hq⟩ := hrel
      by_cases hz : k = 0
      · subst hz
        have hfin : Hid (l.take 0 ++ a :: l.drop 0 = insL l a) := ins_eq l 0 a HA.out hk hq.out (.inl rfl) hni.out
        have ek : (l.take 0).length = 0 := by rw [List.length_take]; omega
        have hcp := l1Copy_any ⟨g, 0, none⟩ cap (l.take 0) w (hIA.take 0) (by omega)
        rw [ek] at hcp
        have EK := Lib.hid ek
        have hd0 := hIA.drop 0
        rw [Nat.zero_add] at hd0
        have HD := Lib.hid hd0
        have hgs : g < w.heap.size := (hown.lt g rfl).2
        have hbase : base ≤ g := (hown.lt g rfl).1
        have hlen : Hid ((insL l a).length = 0 + 1 + (l.length - 0)) := by
          show (insL l a).length = 0 + 1 + (l.length - 0)
          rw [← hfin.out]
          simp only [List.length_append, List.length_cons, List.length_take, List.length_drop]
          omega
        clear ek hq hown hIA hd0
        go_wp2_with fail
        refine hcp.mono ?_
        rintro e w6 ⟨v6, rfl, ho6, hb6⟩
        rw [EK.out] at ho6
        have hs6 := hb6.size
        have ho6b := ho6.alloc (.cells #[.int .i64 a] 3)
        have hb6b := hb6.alloc hb6.size (.cells #[.int .i64 a] 3)
        have hcell : (w6.alloc (.cells #[.int .i64 a] 3)).cell? ⟨w6.heap.size, 0, none⟩ = some (.int .i64 a) := by simp
        have HC := Lib.hid (one_cell hcell)
        clear hcell hcp ho6
        go_wp2_with (at_builtin; refine wpList_append_own _ rfl (.tmp 29) (.tmp 31) 25 rfl w.heap.size 3 i0 (.int .i64 0) 1 8 Try.underlying25 hi0 hz0 hz1 HS.out rfl (by decide) _ 0 _ rfl ho6b ⟨w6.heap.size, 0, none⟩ 1 1 [.int .i64 a] rfl rfl HC.out (int_one _) ?c3 ?c4 ?c5 ?_)
        case c3 => unfold maxLen; omega
        case c4 => omega
        case c5 => simp; omega
        intro v7 w7 ho7 hg7 _
        have hb7 : Below w.heap.size w w7 := below_own hb6b ho6b (Nat.le_refl _) (by simp; omega) hg7
        have HN := Lib.hid (ints_news (HD.out.below hb7))
        have HL := Lib.hid (show (icells (l.drop 0)).length = (l.length - 0) * 1 by rw [icells_len, List.length_drop, Nat.mul_one])
        have hs7 := hb7.size
        clear ho6b hg7 hb6 hb6b HC
        by_cases hck : cap = 0
        · have hnil : l.length - 0 = 0 := by omega
          have hdn : Hid (l.drop 0 = []) := List.drop_of_length_le (by omega)
          subst hck
          go_wp2_with (at_builtin; refine wpList_append_own _ rfl (.tmp 33) (.tmp 36) 25 rfl w.heap.size 3 i0 (.int .i64 0) 1 8 Try.underlying25 hi0 hz0 hz1 HS.out rfl (by decide) _ (0 + 1) _ rfl ho7 ⟨g, 0, none⟩ _ _ [] rfl ?d2 ?d3 ?d4 ?d5 ?d6 ?d7 ?_)
          case d2 => simp; try omega
          case d3 => intro j u hj; simp at hj
          case d4 => intro u hu; simp at hu
          case d5 => unfold maxLen; omega
          case d6 => omega
          case d7 => omega
          intro v8 w8 ho8 hg8 _
          have ho9 : w8.ownsRow w.heap.size 3 1 v8 (insL l a).length (icells (insL l a)) := by
            rw [hlen.out, ← hfin.out]
            rw [hdn.out]; simpa [icells, hnil] using ho8
          have hb9 : Below w.heap.size w w8 := below_own hb7 ho7 (Nat.le_refl _) hs7 hg8
          have hpost := insPost_of (base := base) (by omega) (by rw [hlen.out]; omega) ho9 hb9
          clear ho8 hg8 ho9 hb9 ho7 hb7 HN HL hlen hfin
          go_wp2
          go_ret
          exact hpost
        · go_wp2_with (at_builtin; refine wpList_append_own _ rfl (.tmp 33) (.tmp 36) 25 rfl w.heap.size 3 i0 (.int .i64 0) 1 8 Try.underlying25 hi0 hz0 hz1 HS.out rfl (by decide) _ (0 + 1) _ rfl ho7 ⟨g, 0, none⟩ (l.length - 0) (cap - 0) (icells (l.drop 0)) rfl HL.out HN.out (icells_one _) ?d3 ?d4 ?d5 ?_)
          case d3 => unfold maxLen; omega
          case d4 => omega
          case d5 => omega
          intro v8 w8 ho8 hg8 _
          have ho9 : w8.ownsRow w.heap.size 3 1 v8 (insL l a).length (icells (insL l a)) := by
            rw [hlen.out, ← hfin.out]
            simpa [icells] using ho8
          have hb9 : Below w.heap.size w w8 := below_own hb7 ho7 (Nat.le_refl _) hs7 hg8
          have hpost := insPost_of (base := base) (by omega) (by rw [hlen.out]; omega) ho9 hb9
          clear ho8 hg8 ho9 hb9 ho7 hb7 HN HL hlen hfin
          go_wp2
          go_ret
          exact hpost
      · obtain ⟨j, rfl⟩ : ∃ j, k = j + 1 := ⟨k - 1, by omega⟩
        have c1 := (hown.cellAt j (by omega)).trans (icells_at l j (by omega))
        by_cases hgt : a < itAt l j
        · have hn : Hid (∀ q, j ≤ q → q < l.length → a < itAt l q) := by
            intro q h1 h2
            by_cases e : q = j
            · rw [e]; exact hgt
            · exact hq.out q (by omega) h2
          generalize itAt l j = x at c1 hgt
          clear hq hown hIA hz
          go_wp2_with fail
          refine ⟨⟨j, by omega, by go_num, hn⟩, ?_⟩
          simp only [intOf]
          omega
        · have hle : itAt l j ≤ a := by omega
          have hfin : Hid (l.take (j + 1) ++ a :: l.drop (j + 1) = insL l a) := ins_eq l (j + 1) a HA.out hk hq.out (.inr hle) hni.out
          generalize itAt l j = x at c1 hle hgt
          have ek : (l.take (j + 1)).length = (j + 1) := by rw [List.length_take]; omega
          have hcp := l1Copy_any ⟨g, 0, none⟩ cap (l.take (j + 1)) w (hIA.take (j + 1)) (by omega)
          rw [ek] at hcp
          have EK := Lib.hid ek
          have hd0 := hIA.drop (j + 1)
          rw [Nat.zero_add] at hd0
          have HD := Lib.hid hd0
          have hgs : g < w.heap.size := (hown.lt g rfl).2
          have hbase : base ≤ g := (hown.lt g rfl).1
          have hlen : Hid ((insL l a).length = (j + 1) + 1 + (l.length - (j + 1))) := by
            show (insL l a).length = (j + 1) + 1 + (l.length - (j + 1))
            rw [← hfin.out]
            simp only [List.length_append, List.length_cons, List.length_take, List.length_drop]
            omega
          clear ek hq hown hIA hd0 hgt hz
          go_wp2_with fail
          refine hcp.mono ?_
          rintro e w6 ⟨v6, rfl, ho6, hb6⟩
          rw [EK.out] at ho6
          have hs6 := hb6.size
          have ho6b := ho6.alloc (.cells #[.int .i64 a] 3)
          have hb6b := hb6.alloc hb6.size (.cells #[.int .i64 a] 3)
          have hcell : (w6.alloc (.cells #[.int .i64 a] 3)).cell? ⟨w6.heap.size, 0, none⟩ = some (.int .i64 a) := by simp
          have HC := Lib.hid (one_cell hcell)
          clear hcell hcp ho6
          go_wp2_with (at_builtin; refine wpList_append_own _ rfl (.tmp 29) (.tmp 31) 25 rfl w.heap.size 3 i0 (.int .i64 0) 1 8 Try.underlying25 hi0 hz0 hz1 HS.out rfl (by decide) _ (j + 1) _ rfl ho6b ⟨w6.heap.size, 0, none⟩ 1 1 [.int .i64 a] rfl rfl HC.out (int_one _) ?c3 ?c4 ?c5 ?_)
          case c3 => unfold maxLen; omega
          case c4 => omega
          case c5 => simp; omega
          intro v7 w7 ho7 hg7 _
          have hb7 : Below w.heap.size w w7 := below_own hb6b ho6b (Nat.le_refl _) (by simp; omega) hg7
          have HN := Lib.hid (ints_news (HD.out.below hb7))
          have HL := Lib.hid (show (icells (l.drop (j + 1))).length = (l.length - (j + 1)) * 1 by rw [icells_len, List.length_drop, Nat.mul_one])
          have hs7 := hb7.size
          clear ho6b hg7 hb6 hb6b HC
          by_cases hck : cap = (j + 1)
          · have hnil : l.length - (j + 1) = 0 := by omega
            have hdn : Hid (l.drop (j + 1) = []) := List.drop_of_length_le (by omega)
            subst hck
            go_wp2_with (at_builtin; refine wpList_append_own _ rfl (.tmp 33) (.tmp 36) 25 rfl w.heap.size 3 i0 (.int .i64 0) 1 8 Try.underlying25 hi0 hz0 hz1 HS.out rfl (by decide) _ ((j + 1) + 1) _ rfl ho7 ⟨g, 0, none⟩ _ _ [] rfl ?d2 ?d3 ?d4 ?d5 ?d6 ?d7 ?_)
            case d2 => simp; try omega
            case d3 => intro j u hj; simp at hj
            case d4 => intro u hu; simp at hu
            case d5 => unfold maxLen; omega
            case d6 => omega
            case d7 => omega
            intro v8 w8 ho8 hg8 _
            have ho9 : w8.ownsRow w.heap.size 3 1 v8 (insL l a).length (icells (insL l a)) := by
              rw [hlen.out, ← hfin.out]
              rw [hdn.out]; simpa [icells, hnil] using ho8
            have hb9 : Below w.heap.size w w8 := below_own hb7 ho7 (Nat.le_refl _) hs7 hg8
            have hpost := insPost_of (base := base) (by omega) (by rw [hlen.out]; omega) ho9 hb9
            clear ho8 hg8 ho9 hb9 ho7 hb7 HN HL hlen hfin
            go_wp2
            go_ret
            exact hpost
          · go_wp2_with (at_builtin; refine wpList_append_own _ rfl (.tmp 33) (.tmp 36) 25 rfl w.heap.size 3 i0 (.int .i64 0) 1 8 Try.underlying25 hi0 hz0 hz1 HS.out rfl (by decide) _ ((j + 1) + 1) _ rfl ho7 ⟨g, (j + 1), none⟩ (l.length - (j + 1)) (cap - (j + 1)) (icells (l.drop (j + 1))) rfl HL.out HN.out (icells_one _) ?d3 ?d4 ?d5 ?_)
            case d3 => unfold maxLen; omega
            case d4 => omega
            case d5 => omega
            intro v8 w8 ho8 hg8 _
            have ho9 : w8.ownsRow w.heap.size 3 1 v8 (insL l a).length (icells (insL l a)) := by
              rw [hlen.out, ← hfin.out]
              simpa [icells] using ho8
            have hb9 : Below w.heap.size w w8 := below_own hb7 ho7 (Nat.le_refl _) hs7 hg8
            have hpost := insPost_of (base := base) (by omega) (by rw [hlen.out]; omega) ho9 hb9
            clear ho8 hg8 ho9 hb9 ho7 hb7 HN HL hlen hfin
            go_wp2
            go_ret
            exact hpost

end Go.Proofs.Ytjjokghcjgighab
end

section
namespace Go.Proofs.Ytjjokghcjgighab
open Go.RowKit Go.Sort

end Go.Proofs.Ytjjokghcjgighab
end

section
namespace Go.Proofs.Ytjjokghcjgighab
section
open Go.RowKit

def shapeB (t : Tm) : Bool :=
  if t.op = 1 then atomB t.num && (decide (t.perm.length = 0) && decide (t.kids.length = 0))
  else if t.op = 2 then decide (0 ≤ t.num ∧ t.num ≤ 11) && (decide (t.perm.length = 0) && decide ((t.kids.length : Int) = t.num % 4))
  else if t.op = 3 then atomB t.num && (decide (t.perm.length = 0) && decide (t.kids.length = 1))
  else if t.op = 4 then decide (0 ≤ t.num ∧ t.num ≤ 9) && (permB t.perm && decide (t.kids.length = 0))
  else false

mutual
/-- Right, however great. -/
def goodT : Tm → Bool
  | .mk o n p ks => shapeB (.mk o n p ks) && goodTs ks
def goodTs : List Tm → Bool
  | [] => true
  | t :: r => goodT t && goodTs r
end

end

section
open Go.RowKit

mutual
def nodesT : Tm → List Tm
  | .mk o n p ks => .mk o n p ks :: nodesTs ks
def nodesTs : List Tm → List Tm
  | [] => []
  | t :: r => nodesT t ++ nodesTs r
end

/-- What is known while the terms within t are gone through: i of F have been looked at. -/
structure Walk (t : Tm) (F : List Tm) (i : Nat) : Prop where
  le : i ≤ F.length
  most : F.length ≤ 60
  good : goodT t = goodTs (F.drop i)
  size : szT t = i + szTs (F.drop i)
  mem : ∀ y, y ∈ nodesT t ↔ y ∈ F.take i ∨ y ∈ nodesTs (F.drop i)

end
end Go.Proofs.Ytjjokghcjgighab
end

section
namespace Go.Proofs.Ytjjokghcjgighab
open Go.RowKit Go.Sort
set_option linter.unusedVariables false

theorem l1In_any (x a b : Int) (w : World) :
    Calls Try.prog 48 #[.int .i64 x, .int .i64 a, .int .i64 b] w fun e w' => e = .returned (.bool (decide (a ≤ x ∧ x ≤ b))) ∧ w = w' := by
  by_cases h1 : a ≤ x
  · by_cases h2 : x ≤ b
    · have r : Hid (decide (a ≤ x ∧ x ≤ b) = true) := decide_eq_true ⟨h1, h2⟩
      go_enter Try.func48, Try.ntmps48
      go_wp2
      go_ret
      first | exact ⟨rfl, rfl⟩ | exact ⟨bool_end r.out.symm, rfl⟩
    · have r : Hid (decide (a ≤ x ∧ x ≤ b) = false) := decide_eq_false fun h => h2 h.2
      have k2 : decide (x ≤ b) = false := decide_eq_false h2
      have k3 : b < x := by omega
      go_enter Try.func48, Try.ntmps48
      go_wp2
      go_ret
      first | exact ⟨rfl, rfl⟩ | exact ⟨bool_end r.out.symm, rfl⟩
  · have r : Hid (decide (a ≤ x ∧ x ≤ b) = false) := decide_eq_false fun h => h1 h.1
    have k1 : decide (a ≤ x) = false := decide_eq_false h1
    have k3 : x < a := by omega
    go_enter Try.func48, Try.ntmps48
    go_wp2
    go_ret
    first | exact ⟨rfl, rfl⟩ | exact ⟨bool_end r.out.symm, rfl⟩

end Go.Proofs.Ytjjokghcjgighab
end

section
namespace Go.Proofs.Ytjjokghcjgighab
open Go.RowKit Go.Sort

/-- The least atom that is not in a list; -1: there is none. -/
def leastF (l : List Int) : Int := match (List.range 1000).find? (fun a : Nat => !hasB l (a : Int)) with
  | some a => a
  | none => -1

theorem leastF_at {l : List Int} {a : Nat} (ha : a < 1000) (hn : hasB l (a : Int) = false) (hb : ∀ b : Nat, b < a → hasB l (b : Int) = true) : leastF l = a := by
  have h : (List.range 1000).find? (fun a : Nat => !hasB l (a : Int)) = some a := by
    rw [List.find?_range_eq_some]
    refine ⟨by simp [hn], by simpa using ha, fun j hj => ?_⟩
    simp [hb j hj]
  unfold leastF
  rw [h]

theorem leastF_none {l : List Int} (hb : ∀ b : Nat, b < 1000 → hasB l (b : Int) = true) : leastF l = -1 := by
  have h : (List.range 1000).find? (fun a : Nat => !hasB l (a : Int)) = none := by
    rw [List.find?_eq_none]
    intro x hx
    rw [hb x (List.mem_range.1 hx)]
    simp
  unfold leastF
  rw [h]

/-- Which atoms the first k numbers are. -/
def tBits (l : List Int) (k : Nat) : List Value := (List.range 1000).map fun q : Nat => .bool (hasB (l.take k) (q : Int))

theorem tBits_len (l : List Int) (k : Nat) : (tBits l k).length = 1000 := by rw [tBits, List.length_map, List.length_range]

theorem tBits_at (l : List Int) (k q : Nat) (h : q < 1000) : (tBits l k)[q]? = some (.bool (hasB (l.take k) (q : Int))) := by
  simp [tBits, List.getElem?_map, List.getElem?_range h]

theorem tBits_zero (l : List Int) : tBits l 0 = List.replicate 1000 (.bool false) := by
  apply List.ext_getElem?
  intro q
  by_cases hq : q < 1000
  · rw [tBits_at l 0 q hq, List.getElem?_replicate, if_pos hq]
    simp [hasB]
  · rw [List.getElem?_eq_none (by rw [tBits_len]; omega), List.getElem?_eq_none (by rw [List.length_replicate]; omega)]

theorem contains_next {l : List Int} {k : Nat} (hk : k < l.length) (q : Int) : hasB (l.take (k + 1)) q = (hasB (l.take k) q || decide (q = itAt l k)) := by
  rw [itake_next hk, Bool.eq_iff_iff]
  simp [hasB]

theorem tBits_set {l : List Int} {k m : Nat} (hk : k < l.length) (hm : m < 1000) (e : itAt l k = (m : Int)) : (tBits l k).set m (.bool true) = tBits l (k + 1) := by
  apply List.ext_getElem?
  intro q
  by_cases hq : q < 1000
  · rw [tBits_at l (k + 1) q hq, List.getElem?_set, contains_next hk, e]
    by_cases hc : m = q
    · subst hc
      rw [if_pos rfl, if_pos (by rw [tBits_len]; exact hm)]
      simp
    · rw [if_neg hc, tBits_at l k q hq]
      have : ¬ (q : Int) = (m : Int) := by omega
      simp [this]
  · rw [List.getElem?_eq_none (by rw [List.length_set, tBits_len]; omega), List.getElem?_eq_none (by rw [tBits_len]; omega)]

theorem tBits_skip {l : List Int} {k : Nat} (hk : k < l.length) (h : atomB (itAt l k) = false) : tBits l k = tBits l (k + 1) := by
  apply List.ext_getElem?
  intro q
  by_cases hq : q < 1000
  · rw [tBits_at l k q hq, tBits_at l (k + 1) q hq, contains_next hk]
    have hne : ¬ (q : Int) = itAt l k := by
      intro e
      rw [← e] at h
      simp [atomB] at h
      omega
    simp [hne]
  · rw [List.getElem?_eq_none (by rw [tBits_len]; omega), List.getElem?_eq_none (by rw [tBits_len]; omega)]

/-- The block of marks after k numbers. -/
def TMarks (w : World) (G : Nat) (l : List Int) (k : Nat) : Prop := w.heap[G]? = some (.cells (tBits l k).toArray 151 (0, 0))

theorem TMarks.lt {w : World} {G : Nat} {l : List Int} {k : Nat} (h : TMarks w G l k) : G < w.heap.size := (Array.getElem?_eq_some_iff.1 h).1
theorem TMarks.cell {w : World} {G : Nat} {l : List Int} {k : Nat} (h : TMarks w G l k) (q : Nat) (hq : q < 1000) : w.cell? ⟨G, q, none⟩ = some (.bool (hasB (l.take k) (q : Int))) := by
  rw [cell_of_row w G q _ _ _ h]
  simpa using tBits_at l k q hq
theorem TMarks.frozen {w : World} {G : Nat} {l : List Int} {k : Nat} (h : TMarks w G l k) (q : Nat) : w.frozen? ⟨G, q, none⟩ = false := frozen_of_row w G q _ _ h
theorem TMarks.set_ {w : World} {G : Nat} {l : List Int} {k m : Nat} (h : TMarks w G l k) (hk : k < l.length) (hm : m < 1000) (e : itAt l k = (m : Int)) :
    TMarks (w.setCell ⟨G, m, none⟩ (.bool true)) G l (k + 1) := by
  unfold TMarks at h ⊢
  rw [heap_setCell_same w G m _ _ _ h, ← tBits_set hk hm e]
  simp

theorem zero_marks : Try.zeroCells151 = (List.replicate 1000 (Value.bool false)).toArray := by kernel_rfl

set_option maxRecDepth 100000 in
set_option maxHeartbeats 1000000 in
theorem least_impl (A : Option Addr) (c : Nat) (l : List Int) (w : World) (hA : IntsAt w A l) (hl : l.length ≤ 1099511627776) :
    Calls Try.prog 111 #[.slice A l.length c] w fun e w' => e = .returned (.int .i64 (leastF l)) ∧ Below w.heap.size w w' := by
  have hm0 : TMarks (w.alloc (.cells Try.zeroCells151 151)) w.heap.size l 0 := by
    rw [zero_marks, ← tBits_zero l]
    exact heap_alloc_new w _
  have hb0 : Below w.heap.size w (w.alloc (.cells Try.zeroCells151 151)) := (Below.refl _ _).alloc (Nat.le_refl _) _
  go_enter Try.func111, Try.ntmps111
  go_wp2_with fail
  generalize w.alloc (.cells Try.zeroCells151 151) = w1 at hm0 hb0 ⊢
  go_loopw [5, 9] (fun _ i wr => ∃ k : Nat, k ≤ l.length ∧ i = .int .i64 k ∧ TMarks wr w.heap.size l k ∧ Below w.heap.size w wr) (fun _ i _ => l.length - (intOf i).toNat)
  case atStart => exact ⟨0, Nat.zero_le _, rfl, hm0, hb0⟩
  case round =>
    clear hm0 hb0
    obtain ⟨k, hk, rfl, hm, hb⟩ := hrel
    by_cases hlt : k < l.length
    · obtain ⟨b1, o1, rfl, hb1, hc1⟩ := hA (by omega)
      have c1 := hc1 k hlt
      rw [← hb.cell (p := ⟨b1, _, none⟩) hb1] at c1
      clear hc1 hA
      by_cases ha : atomB (itAt l k) = true
      · obtain ⟨m, hx⟩ : ∃ m : Nat, itAt l k = (m : Int) := ⟨(itAt l k).toNat, by simp [atomB] at ha; omega⟩
        have hm1 : m < 1000 := by rw [hx] at ha; simp [atomB] at ha; omega
        have hc := hm.cell m hm1
        have hfz := hm.frozen m
        have hst : Hid (TMarks (wr.setCell ⟨w.heap.size, m, none⟩ (.bool true)) w.heap.size l (k + 1)) := hm.set_ hlt hm1 hx
        have hb2 : Below w.heap.size w (wr.setCell ⟨w.heap.size, m, none⟩ (.bool true)) := hb.setCell (Nat.le_refl _) _
        rw [hx] at c1 ha
        generalize hasB (l.take k) (m : Int) = bb at hc
        clear hm hb hx
        go_wp2_with (go_at_call 108; refine (isAtom_any _ _).mono ?_; rintro e w' ⟨rfl, rfl⟩)
        refine ⟨⟨k + 1, by omega, by go_num, hst.out, hb2⟩, ?_⟩
        simp only [intOf]
        omega
      · have ha' : atomB (itAt l k) = false := by simpa using ha
        have hst : Hid (TMarks wr w.heap.size l (k + 1)) := by
          show TMarks wr w.heap.size l (k + 1)
          unfold TMarks at hm ⊢
          rw [← tBits_skip hlt ha']
          exact hm
        generalize itAt l k = x at c1 ha'
        clear hm ha
        go_wp2_with (go_at_call 108; refine (isAtom_any _ _).mono ?_; rintro e w' ⟨rfl, rfl⟩)
        refine ⟨⟨k + 1, by omega, by go_num, hst.out, hb⟩, ?_⟩
        simp only [intOf]
        omega
    · have hall : Hid (l.take k = l) := List.take_of_length_le (by omega)
      obtain ⟨wo, rfl⟩ : ∃ wo : World, wo = wr := ⟨_, rfl⟩
      clear hA
      go_wp2
      go_loop [6, 18] (fun _ i => ∃ a : Nat, a ≤ 1000 ∧ i = .int .i64 a ∧ Hid (∀ b : Nat, b < a → hasB l (b : Int) = true)) (fun _ i => 1000 - (intOf i).toNat)
      case atStart => exact ⟨0, Nat.zero_le _, rfl, fun b hb => absurd hb (by omega)⟩
      case round =>
        obtain ⟨a, ha, rfl, hq⟩ := hrel
        by_cases hlt2 : a < 1000
        · have hc := hm.cell a hlt2
          rw [hall.out] at hc
          by_cases hin : hasB l (a : Int) = true
          · have hn : Hid (∀ b : Nat, b < a + 1 → hasB l (b : Int) = true) := by
              intro b hb'
              by_cases e : b = a
              · rw [e]; exact hin
              · exact hq.out b (by omega)
            rw [hin] at hc
            clear hm hin hq
            go_wp2
            go_round
            case rel => exact ⟨a + 1, by omega, by go_num, hn⟩
            case measure => simp [intOf]; omega
          · have hin' : hasB l (a : Int) = false := by simpa using hin
            have hn : Hid (leastF l = a) := leastF_at hlt2 hin' hq.out
            rw [hin'] at hc
            clear hm hin hin' hq
            go_wp2
            go_ret
            exact ⟨int_end hn.out.symm, hb⟩
        · have hn : Hid (leastF l = -1) := leastF_none fun b hb' => hq.out b (by omega)
          clear hm hq
          go_wp2
          go_ret
          exact ⟨int_end hn.out.symm, hb⟩

end Go.Proofs.Ytjjokghcjgighab
end

section
namespace Go.Proofs.Ytjjokghcjgighab
open Go.RowKit Go.Sort

set_option maxRecDepth 100000 in
set_option maxHeartbeats 400000 in
theorem least_spec (A : Option Addr) (c : Nat) (l : List Int) (w : World) (hA : IntsAt w A l) (hl : l.length ≤ 1099511627776) :
    Calls Try.prog 86 #[.slice A l.length c] w fun e w' => e = .returned (.int .i64 (leastF l)) ∧ w = w' := by
  go_enter Try.func86, Try.ntmps86
  go_wp2
  go_loop [3] (fun i => ∃ a : Nat, a ≤ 1000 ∧ i = .int .i64 a ∧ Hid (∀ b : Nat, b < a → hasB l (b : Int) = true)) (fun i => 1000 - (intOf i).toNat)
  case atStart => exact ⟨0, Nat.zero_le _, rfl, fun b hb => absurd hb (by omega)⟩
  case round =>
    obtain ⟨a, ha, rfl, hq⟩ := hrel
    by_cases hlt : a < 1000
    · have hh := l1Has_any A c l a w hA hl
      by_cases hin : hasB l (a : Int) = true
      · have hn : Hid (∀ b : Nat, b < a + 1 → hasB l (b : Int) = true) := by
          intro b hb'
          by_cases e : b = a
          · rw [e]; exact hin
          · exact hq.out b (by omega)
        rw [hin] at hh
        clear hin hq
        go_wp2_with (go_at_call 102; refine hh.mono ?_; rintro e w' ⟨rfl, rfl⟩)
        go_round
        case rel => exact ⟨a + 1, by omega, by go_num, hn⟩
        case measure => simp [intOf]; omega
      · have hin' : hasB l (a : Int) = false := by simpa using hin
        have hn : Hid (leastF l = a) := leastF_at hlt hin' hq.out
        rw [hin'] at hh
        clear hin hin' hq
        go_wp2_with (go_at_call 102; refine hh.mono ?_; rintro e w' ⟨rfl, rfl⟩)
        go_ret
        exact ⟨int_end hn.out.symm, rfl⟩
    · have hn : Hid (leastF l = -1) := leastF_none fun b hb' => hq.out b (by omega)
      clear hq
      go_wp2
      go_ret
      exact ⟨int_end hn.out.symm, rfl⟩

end Go.Proofs.Ytjjokghcjgighab
end

