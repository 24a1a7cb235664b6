/-
  The laws' own comparison of two values that read as the same term, as contracts. Machines: how they lie in memory, their sizes, their copies, comparison and numbering, as contracts. When a machine is valid, its moves, and what it does with a word; plain words, no program is walked here. Whether a machine is valid, as the model decides it: a contract. What a machine does with a word; plain words, no program is walked here. Whether a machine is valid, as the program decides it: a contract. Slices of slices of numbers: their sizes, copies, comparison and numbering, as contracts. Orbit sets: how they lie in memory, their sizes, their copies, comparison and numbering, as contracts. Whether a machine is valid, as the model decides it: a contract.
-/
import Derived.Test.YthacnbeckhdhiaaKComplement1
import Derived.Test.YthacnbeckhdhiaaKComplement2
import Derived.Deep.RegionHeld3
import Derived.Deep.DrawnRows
import Derived.Test.YthacnbeckhdhiaaKComplement5
import Derived.Test.YthacnbeckhdhiaaKComplement3
import Derived.Test.YthacnbeckhdhiaaKComplement4
section
namespace Go.Proofs.Ythacnbeckhdhiaa
open Go.RowKit Go.Sort

end Go.Proofs.Ythacnbeckhdhiaa
end

section
namespace Go.Proofs.Ythacnbeckhdhiaa
open Go.RowKit
set_option linter.unusedVariables false

/-- A machine: its states, registers, accepting states and moves. -/
structure Mach where
  st : Int
  rg : Int
  ac : List Bool
  mv : List (Int × Int)

/-- A value that is a machine. -/
def MachIn (w : World) (x : Value) (t : Mach) : Prop :=
  ∃ A c B d, x = .agg #[.int .i64 t.st, .int .i64 t.rg, .slice A t.ac.length c, .slice B t.mv.length d] ∧ BoolsAt w A t.ac ∧ PairsAt w B t.mv
theorem MachIn.below {w w' : World} {x : Value} {t : Mach} (h : MachIn w x t) (hb : Below w.heap.size w w') : MachIn w' x t := by
  obtain ⟨A, c, B, d, rfl, h1, h2⟩ := h
  exact ⟨A, c, B, d, rfl, h1.below hb, h2.below hb⟩
/-- A value that is a machine, as it is handed over: with room for what it holds. -/
def MachIx (w : World) (x : Value) (t : Mach) : Prop :=
  ∃ A c B d, x = .agg #[.int .i64 t.st, .int .i64 t.rg, .slice A t.ac.length c, .slice B t.mv.length d] ∧ BoolsAt w A t.ac ∧ PairsAt w B t.mv ∧ (A = none → c = 0) ∧ (B = none → d = 0) ∧ t.ac.length ≤ c ∧ t.mv.length ≤ d
theorem MachIx.below {w w' : World} {x : Value} {t : Mach} (h : MachIx w x t) (hb : Below w.heap.size w w') : MachIx w' x t := by
  obtain ⟨A, c, B, d, rfl, h1, h2, h3⟩ := h
  exact ⟨A, c, B, d, rfl, h1.below hb, h2.below hb, h3⟩
theorem MachIx.in_ {w : World} {x : Value} {t : Mach} (h : MachIx w x t) : MachIn w x t := by
  obtain ⟨A, c, B, d, rfl, h1, h2, _⟩ := h
  exact ⟨A, c, B, d, rfl, h1, h2⟩
def FitM (t : Mach) : Prop := t.ac.length ≤ 2097152 ∧ t.mv.length ≤ 2097152
def boolMem (l : List Bool) : Mem := .row 4 1 ((bcells l).map .cell)
def moveMem (l : List (Int × Int)) : Mem := .row 45 2 ((cellsOf l).map .cell)
def encM (t : Mach) : List Mem := [.cell (.int .i64 t.st), .cell (.int .i64 t.rg), boolMem t.ac, moveMem t.mv]

namespace MachK
theorem box_lt {w : World} {g : Nat} {o : Obj} (h : w.heap[g]? = some o) : g < w.heap.size := (Array.getElem?_eq_some_iff.1 h).1
theorem row4 {w : World} {g : Nat} {a b c d : Value} {T : TypeId} (h : w.heap[g]? = some (.cells #[a, b, c, d] T (0, 0))) : w.cell? ⟨g, 0, none⟩ = some a ∧ w.cell? ⟨g, 1, none⟩ = some b ∧ w.cell? ⟨g, 2, none⟩ = some c ∧ w.cell? ⟨g, 3, none⟩ = some d := by
  refine ⟨?_, ?_, ?_, ?_⟩ <;> rw [cell_of_row w g _ _ _ _ h] <;> rfl
theorem row2_of {w : World} {v : Value} {n base : Nat} {vs : List Value} {e : TypeId} (h : w.ownsRow base e 2 v n vs) : Own w v.ownBlock.toList v (.row e 2 (vs.map .cell)) := by
  rcases h.2 with ⟨rfl, h0⟩ | ⟨g, cap, cur, rfl, hb, hg, hn, hm, hs, ht⟩
  · have e : vs = [] := List.eq_nil_of_length_eq_zero (by have := h.1; omega)
    subst e
    exact .nil _ _
  · exact .row (by rw [List.length_map]; exact h.1) ⟨h.1, .inr ⟨g, cap, cur, rfl, Nat.zero_le _, hg, hn, hm, hs, ht⟩⟩ (ownL_cells w _) (by simp)
theorem room {w : World} {base size n len d : Nat} {e : TypeId} {B : Option Addr} {xs : List Value} (h : w.ownsRow base e size (.slice B n d) len xs) : len ≤ d := by
  rcases h.2 with ⟨e1, h0⟩ | ⟨g, cap, cur, e1, _, _, hn, _⟩
  · omega
  · injection e1 with _ _ e3
    omega
end MachK

theorem mach_ownL {w : World} {m1 m2 : Mem} {a b : Value} {pv kv : Value} {S T : List Nat} (h : Own w S pv m1) (k : Own w T kv m2) (hd : ∀ b ∈ S, b ∉ T) : OwnL w (S ++ (T ++ [])) [a, b, pv, kv] [.cell a, .cell b, m1, m2] :=
  .cons (S := []) (.cell _) (.cons (S := []) (.cell _) (.cons h (.cons k .nil (fun b _ => by simp)) (fun b hb ht => hd b hb (by simpa using ht))) (fun b hb => by simp at hb)) (fun b hb => by simp at hb)
/-- A machine whose slices are of the call's own. -/
def MachOut (t : Mach) (w : World) (e : Ending) (w' : World) : Prop :=
  ∃ A1 c1 A2 c2 S, e = .returned (.agg #[.int .i64 t.st, .int .i64 t.rg, .slice A1 t.ac.length c1, .slice A2 t.mv.length c2]) ∧
    OwnL w' S [.int .i64 t.st, .int .i64 t.rg, .slice A1 t.ac.length c1, .slice A2 t.mv.length c2] (encM t) ∧ (∀ b ∈ S, w.heap.size ≤ b) ∧ Below w.heap.size w w'

end Go.Proofs.Ythacnbeckhdhiaa
end

section
namespace Go.Proofs.Ythacnbeckhdhiaa
open Go.RowKit
set_option linter.unusedVariables false

def mvB (st rg : Int) (m : Int × Int) : Bool := decide (0 ≤ m.1 ∧ m.1 < st) && decide (-1 ≤ m.2 ∧ m.2 < rg)
def headB (t : Mach) : Bool := decide (1 ≤ t.st ∧ t.st ≤ 9) && decide (0 ≤ t.rg ∧ t.rg ≤ 3)
/-- The number of sets of so many registers. -/
def casZ (rg : Int) : Int := ((2 ^ rg.toNat : Nat) : Int)
def lenB (t : Mach) : Bool := decide ((t.ac.length : Int) = t.st) && decide ((t.mv.length : Int) = t.st * casZ t.rg)
def movB (t : Mach) : Bool := t.mv.all (mvB t.st t.rg)
/-- Whether a machine is valid. -/
def machB (t : Mach) : Bool := headB t && (lenB t && movB t)

theorem casZ_of {rg : Int} (h0 : 0 ≤ rg) (h3 : rg ≤ 3) : (rg = 0 ∧ casZ rg = 1) ∨ (rg = 1 ∧ casZ rg = 2) ∨ (rg = 2 ∧ casZ rg = 4) ∨ (rg = 3 ∧ casZ rg = 8) := by
  have h : rg = 0 ∨ rg = 1 ∨ rg = 2 ∨ rg = 3 := by omega
  rcases h with rfl | rfl | rfl | rfl
  · exact .inl ⟨rfl, rfl⟩
  · exact .inr (.inl ⟨rfl, rfl⟩)
  · exact .inr (.inr (.inl ⟨rfl, rfl⟩))
  · exact .inr (.inr (.inr ⟨rfl, rfl⟩))
theorem headB_yes {t : Mach} (h : headB t = true) : (1 ≤ t.st ∧ t.st ≤ 9) ∧ 0 ≤ t.rg ∧ t.rg ≤ 3 := by
  unfold headB at h
  rw [Bool.and_eq_true, decide_eq_true_eq, decide_eq_true_eq] at h
  exact h
theorem headB_no {t : Mach} (h : ¬ ((1 ≤ t.st ∧ t.st ≤ 9) ∧ 0 ≤ t.rg ∧ t.rg ≤ 3)) : machB t = false := by
  unfold machB headB
  rcases Classical.em (1 ≤ t.st ∧ t.st ≤ 9) with h1 | h1
  · have h2 : ¬ (0 ≤ t.rg ∧ t.rg ≤ 3) := fun h2 => h ⟨h1, h2⟩
    simp [h1, h2]
  · simp [h1]
theorem lenB_no {t : Mach} (h : ¬ ((t.ac.length : Int) = t.st ∧ (t.mv.length : Int) = t.st * casZ t.rg)) : machB t = false := by
  unfold machB lenB
  rcases Classical.em ((t.ac.length : Int) = t.st) with h1 | h1
  · have h2 : ¬ ((t.mv.length : Int) = t.st * casZ t.rg) := fun h2 => h ⟨h1, h2⟩
    simp [h2]
  · simp [h1]
theorem movB_no {t : Mach} {i : Nat} (hi : i < t.mv.length) (h : mvB t.st t.rg (prAt t.mv i) = false) : machB t = false := by
  have : movB t = false := by
    unfold movB
    rw [List.all_eq_false]
    exact ⟨prAt t.mv i, by simp [prAt, hi], by simp [h]⟩
  unfold machB
  simp [this]
theorem movB_yes {t : Mach} (h : ∀ j, j < t.mv.length → mvB t.st t.rg (prAt t.mv j) = true) : movB t = true := by
  unfold movB
  rw [List.all_eq_true]
  intro x hx
  obtain ⟨i, hi, rfl⟩ := List.getElem_of_mem hx
  have := h i hi
  rwa [show prAt t.mv i = t.mv[i] by simp [prAt, hi]] at this
theorem machB_mov {t : Mach} (h1 : (1 ≤ t.st ∧ t.st ≤ 9) ∧ 0 ≤ t.rg ∧ t.rg ≤ 3) (h2 : (t.ac.length : Int) = t.st ∧ (t.mv.length : Int) = t.st * casZ t.rg) : machB t = movB t := by
  unfold machB headB lenB
  simp [h1, h2]
theorem machB_yes {t : Mach} (h1 : (1 ≤ t.st ∧ t.st ≤ 9) ∧ 0 ≤ t.rg ∧ t.rg ≤ 3) (h2 : (t.ac.length : Int) = t.st ∧ (t.mv.length : Int) = t.st * casZ t.rg) (h3 : movB t = true) : machB t = true := by
  unfold machB headB lenB
  simp [h1, h2, h3]
/-- What a valid machine is. -/
structure Good (t : Mach) : Prop where
  s1 : 1 ≤ t.st
  s9 : t.st ≤ 9
  r0 : 0 ≤ t.rg
  r3 : t.rg ≤ 3
  al : (t.ac.length : Int) = t.st
  ml : (t.mv.length : Int) = t.st * casZ t.rg
  mv : ∀ j, j < t.mv.length → (0 ≤ (prAt t.mv j).1 ∧ (prAt t.mv j).1 < t.st) ∧ -1 ≤ (prAt t.mv j).2 ∧ (prAt t.mv j).2 < t.rg
theorem good_of {t : Mach} (h : machB t = true) : Good t := by
  unfold machB at h
  rw [Bool.and_eq_true, Bool.and_eq_true] at h
  obtain ⟨h1, h2, h3⟩ := h
  obtain ⟨⟨a, b⟩, c, d⟩ := headB_yes h1
  unfold lenB at h2
  rw [Bool.and_eq_true, decide_eq_true_eq, decide_eq_true_eq] at h2
  refine ⟨a, b, c, d, h2.1, h2.2, fun j hj => ?_⟩
  unfold movB at h3
  rw [List.all_eq_true] at h3
  have := h3 (prAt t.mv j) (by simp [prAt, hj])
  unfold mvB at this
  rw [Bool.and_eq_true, decide_eq_true_eq, decide_eq_true_eq] at this
  exact this
theorem Good.casZ_le {t : Mach} (g : Good t) : 1 ≤ casZ t.rg ∧ casZ t.rg ≤ 8 := by
  rcases casZ_of g.r0 g.r3 with h | h | h | h <;> omega
end Go.Proofs.Ythacnbeckhdhiaa
end

section
namespace Go.Proofs.Ythacnbeckhdhiaa
open Go.RowKit Go.Sort
set_option linter.unusedVariables false

set_option maxRecDepth 100000 in
set_option maxHeartbeats 2000000 in
theorem l7Cases_any (st rg : Int) (x y : Value) (w : World) (h0 : 0 ≤ rg) (h3 : rg ≤ 3) :
    Calls Try.prog 25 #[.agg #[.int .i64 st, .int .i64 rg, x, y]] w fun e w' => e = .returned (.int .i64 (casZ rg)) ∧ Below w.heap.size w w' := by
  have hbW : Below w.heap.size w (w.alloc (.cells #[.int .i64 st, .int .i64 rg, x, y] 27)) := (Below.refl _ _).alloc (Nat.le_refl _) _
  have hc := Lib.hid (casZ_of h0 h3)
  go_enter Try.func25, Try.ntmps25
  go_wp2
  go_loop [3, 4] (fun n i => ∃ k : Nat, (k : Int) ≤ rg ∧ i = .int .i64 k ∧ n = .int .i64 ((2 ^ k : Nat) : Int)) (fun _ i => rg.toNat - (intOf i).toNat)
  case atStart => exact ⟨0, by omega, rfl, rfl⟩
  case round =>
    obtain ⟨k, hk, rfl, rfl⟩ := hrel
    by_cases hlt : (k : Int) < rg
    · have hp : ((2 ^ k : Nat) : Int) ≤ 8 := by
        have : k = 0 ∨ k = 1 ∨ k = 2 := by omega
        rcases this with rfl | rfl | rfl <;> decide
      have hp0 : (0 : Int) ≤ ((2 ^ k : Nat) : Int) := Int.natCast_nonneg _
      have hnx : Hid (((2 ^ (k + 1) : Nat) : Int) = 2 * ((2 ^ k : Nat) : Int)) := Lib.hid (by rw [Nat.pow_succ]; omega)
      generalize ((2 ^ k : Nat) : Int) = n at hp hp0 hnx
      go_wp2
      refine ⟨⟨k + 1, by omega, by go_num, by rw [hnx.out]⟩, ?_⟩
      simp only [intOf]
      omega
    · have e : rg.toNat = k := by omega
      have hn : Hid (((2 ^ k : Nat) : Int) = casZ rg) := Lib.hid (by unfold casZ; rw [e])
      go_wp2
      go_ret
      exact ⟨int_end hn.out, hbW⟩

end Go.Proofs.Ythacnbeckhdhiaa
end

section
namespace Go.Proofs.Ythacnbeckhdhiaa
open Go.RowKit
set_option linter.unusedVariables false

/-- The number of the set of the registers that hold a letter. -/
def setN : List Int → Int → Int
  | [], _ => 0
  | r :: rs, a => (if r = a then 1 else 0) + 2 * setN rs a
theorem setN_next (a : Int) : ∀ (xs : List Int) (r : Int), setN (xs ++ [r]) a = setN xs a + (if r = a then ((2 ^ xs.length : Nat) : Int) else 0)
  | [], r => by simp [setN]
  | x :: xs, r => by
    rw [List.cons_append, setN, setN, setN_next a xs r, List.length_cons, Nat.pow_succ]
    by_cases h : r = a
    · rw [if_pos h, if_pos h]; omega
    · rw [if_neg h, if_neg h]; omega
theorem setN_take {l : List Int} {k : Nat} (a : Int) (h : k < l.length) : setN (l.take (k + 1)) a = setN (l.take k) a + (if itAt l k = a then ((2 ^ k : Nat) : Int) else 0) := by
  rw [itake_next h, setN_next, List.length_take, Nat.min_eq_left (by omega)]
theorem setN_bound (a : Int) : ∀ xs : List Int, 0 ≤ setN xs a ∧ setN xs a < ((2 ^ xs.length : Nat) : Int)
  | [] => by simp [setN]
  | x :: xs => by
    have ⟨h0, h1⟩ := setN_bound a xs
    rw [setN, List.length_cons, Nat.pow_succ]
    by_cases h : x = a
    · rw [if_pos h]; omega
    · rw [if_neg h]; omega
/-- The index of the move. -/
def mvIx (t : Mach) (q : Int) (rs : List Int) (a : Int) : Nat := (q * casZ t.rg + setN rs a).toNat
/-- The move. -/
def mvOf (t : Mach) (q : Int) (rs : List Int) (a : Int) : Int × Int := prAt t.mv (mvIx t q rs a)
/-- What the registers hold then. -/
def stored (rs : List Int) (i a : Int) : List Int := if 0 ≤ i then rs.set i.toNat a else rs
theorem stored_len (rs : List Int) (i a : Int) : (stored rs i a).length = rs.length := by
  unfold stored
  by_cases h : 0 ≤ i
  · rw [if_pos h, List.length_set]
  · rw [if_neg h]
theorem Good.ix {t : Mach} (g : Good t) {q : Int} {rs : List Int} {a : Int} (h0 : 0 ≤ q) (h1 : q < t.st) (hl : rs.length = t.rg.toNat) :
    mvIx t q rs a < t.mv.length ∧ 0 ≤ q * casZ t.rg + setN rs a ∧ (0 ≤ setN rs a ∧ setN rs a ≤ 8) ∧ q * casZ t.rg + setN rs a ≤ 100 := by
  have hb := setN_bound a rs
  have hm := g.ml
  have h9 := g.s9
  unfold mvIx
  rw [hl] at hb
  change 0 ≤ setN rs a ∧ setN rs a < casZ t.rg at hb
  rcases casZ_of g.r0 g.r3 with ⟨_, h⟩ | ⟨_, h⟩ | ⟨_, h⟩ | ⟨_, h⟩ <;> rw [h] at hb hm ⊢ <;> omega
theorem Good.move {t : Mach} (g : Good t) {q : Int} {rs : List Int} {a : Int} (h0 : 0 ≤ q) (h1 : q < t.st) (hl : rs.length = t.rg.toNat) :
    (0 ≤ (mvOf t q rs a).1 ∧ (mvOf t q rs a).1 < t.st) ∧ -1 ≤ (mvOf t q rs a).2 ∧ (mvOf t q rs a).2 < t.rg := g.mv _ (g.ix h0 h1 hl).1
/-- A letter read. -/
def stepM (t : Mach) (p : Int × List Int) (a : Int) : Int × List Int := ((mvOf t p.1 p.2 a).1, stored p.2 (mvOf t p.1 p.2 a).2 a)
/-- A word read. -/
def runFrom (t : Mach) (p : Int × List Int) (l : List Int) : Int × List Int := l.foldl (stepM t) p
def runM (t : Mach) (l : List Int) : Int × List Int := runFrom t (0, List.replicate t.rg.toNat (-1)) l
theorem runFrom_next (t : Mach) (p : Int × List Int) {l : List Int} {k : Nat} (h : k < l.length) : runFrom t p (l.take (k + 1)) = stepM t (runFrom t p (l.take k)) (itAt l k) := by
  unfold runFrom
  rw [itake_next h, List.foldl_append]; rfl
def StOk (t : Mach) (p : Int × List Int) : Prop := 0 ≤ p.1 ∧ p.1 < t.st ∧ p.2.length = t.rg.toNat
theorem stepM_ok {t : Mach} (g : Good t) {p : Int × List Int} (h : StOk t p) (a : Int) : StOk t (stepM t p a) :=
  ⟨(g.move h.1 h.2.1 h.2.2).1.1, (g.move h.1 h.2.1 h.2.2).1.2, by unfold stepM; rw [stored_len]; exact h.2.2⟩
theorem runFrom_ok {t : Mach} (g : Good t) : ∀ {l : List Int} {p : Int × List Int}, StOk t p → StOk t (runFrom t p l)
  | [], _, h => h
  | a :: l, p, h => runFrom_ok g (l := l) (stepM_ok g h a)
theorem start_ok {t : Mach} (g : Good t) : StOk t (0, List.replicate t.rg.toNat (-1)) := ⟨Int.le_refl _, by have := g.s1; show (0 : Int) < t.st; omega, List.length_replicate⟩
theorem runM_ok {t : Mach} (g : Good t) (l : List Int) : StOk t (runM t l) := runFrom_ok g (start_ok g)
end Go.Proofs.Ythacnbeckhdhiaa
end

section
namespace Go.Proofs.Ythacnbeckhdhiaa
open Go.RowKit Go.Sort
set_option linter.unusedVariables false

set_option maxRecDepth 100000 in
set_option maxHeartbeats 4000000 in
theorem isMachine_impl (t : Mach) (hs : t.ac.length ≤ 1099511627776 ∧ t.mv.length ≤ 1099511627776) (x : Value) (w : World) (hx : MachIn w x t) :
    Calls Try.prog 8 #[x] w fun e w' => e = .returned (.bool (machB t)) ∧ Below w.heap.size w w' := by
  obtain ⟨A, c, B, d, rfl, hA, hB⟩ := hx
  obtain ⟨hs1, hs2⟩ := hs
  by_cases hh : (1 ≤ t.st ∧ t.st ≤ 9) ∧ 0 ≤ t.rg ∧ t.rg ≤ 3
  case neg =>
    have hn := Lib.hid (headB_no hh)
    obtain ⟨st, rg, l, p⟩ := t
    dsimp only at *
    have hbW : Below w.heap.size w (w.alloc (.cells #[.int .i64 st, .int .i64 rg, .slice A l.length c, .slice B p.length d] 27)) := (Below.refl _ _).alloc (Nat.le_refl _) _
    clear hA hB
    have h4 : st < 1 ∨ (¬ st < 1 ∧ 9 < st) ∨ (¬ st < 1 ∧ ¬ 9 < st ∧ rg < 0) ∨ (¬ st < 1 ∧ ¬ 9 < st ∧ ¬ rg < 0 ∧ 3 < rg) := by omega
    clear hh
    rcases h4 with h1 | ⟨h1, h2⟩ | ⟨h1, h2, h3⟩ | ⟨h1, h2, h3, h4⟩
    all_goals
      go_enter Try.func8, Try.ntmps8
      go_wp2
      go_ret
      exact ⟨bool_end hn.out.symm, hbW⟩
  have hcl := Lib.hid (fun h => machB_mov (t := t) hh h)
  by_cases hl : (t.ac.length : Int) = t.st ∧ (t.mv.length : Int) = t.st * casZ t.rg
  case neg =>
    have hn := Lib.hid (lenB_no hl)
    clear hcl
    obtain ⟨st, rg, l, p⟩ := t
    dsimp only at *
    obtain ⟨⟨s1, s9⟩, r0, r3⟩ := hh
    have k1 : ¬ st < 1 := by omega
    have k2 : ¬ 9 < st := by omega
    have k3 : ¬ rg < 0 := by omega
    have k4 : ¬ 3 < rg := by omega
    have hbW : Below w.heap.size w (w.alloc (.cells #[.int .i64 st, .int .i64 rg, .slice A l.length c, .slice B p.length d] 27)) := (Below.refl _ _).alloc (Nat.le_refl _) _
    have hbx := heap_alloc_new w (.cells #[.int .i64 st, .int .i64 rg, .slice A l.length c, .slice B p.length d] 27)
    obtain ⟨d0, d1, d2, d3⟩ := MachK.row4 hbx
    have q0 := fun d os => cell_regrown d0 d os
    have q1 := fun d os => cell_regrown d1 d os
    have q2 := fun d os => cell_regrown d2 d os
    have q3 := fun d os => cell_regrown d3 d os
    clear d0 d1 d2 d3 hbx
    have hc := casZ_of r0 r3
    generalize casZ rg = cz at *
    clear hA hB
    by_cases ha : (l.length : Int) = st
    · have hm : ¬ (p.length : Int) = st * cz := fun h => hl ⟨ha, h⟩
      have ha2 : ((l.length : Int) != st) = false := by simp [ha]
      clear hl ha
      rcases hc with ⟨rfl, rfl⟩ | ⟨rfl, rfl⟩ | ⟨rfl, rfl⟩ | ⟨rfl, rfl⟩
      · have hm2 : ((p.length : Int) != st) = true := by simp only [bne_iff_ne]; omega
        clear hm
        go_enter Try.func8, Try.ntmps8
        go_wp2
        generalize (w.alloc (.cells #[.int .i64 st, .int .i64 0, .slice A l.length c, .slice B p.length d] 27)) = W1 at hbW q0 q1 q2 q3 ⊢
        refine wp_region_quiet_below (by kernel_rfl) (by kernel_rfl) ?_
        repeat (any_goals (first | go_big_quiet_step (fail) | quiet_step (fail)))
        refine wpQuiet_nil ?_
        intro _ hw'
        obtain ⟨⟨dq, osq⟩, hw''⟩ := hw'
        subst hw''
        have hb3 := hbW.trans ((below_regrown W1 dq osq).mono hbW.size)
        generalize grow (redrawn W1 dq) osq = w2 at hb3 ⊢
        clear hbW q0 q1 q2 q3
        go_wp2
        go_ret
        exact ⟨bool_end hn.out.symm, hb3⟩
      · have hm2 : ((p.length : Int) != st * 2) = true := by simp only [bne_iff_ne]; omega
        clear hm
        go_enter Try.func8, Try.ntmps8
        go_wp2
        generalize (w.alloc (.cells #[.int .i64 st, .int .i64 1, .slice A l.length c, .slice B p.length d] 27)) = W1 at hbW q0 q1 q2 q3 ⊢
        refine wp_region_quiet_below (by kernel_rfl) (by kernel_rfl) ?_
        repeat (any_goals (first | go_big_quiet_step (fail) | quiet_step (fail)))
        refine wpQuiet_nil ?_
        intro _ hw'
        obtain ⟨⟨dq, osq⟩, hw''⟩ := hw'
        subst hw''
        have hb3 := hbW.trans ((below_regrown W1 dq osq).mono hbW.size)
        generalize grow (redrawn W1 dq) osq = w2 at hb3 ⊢
        clear hbW q0 q1 q2 q3
        go_wp2
        go_ret
        exact ⟨bool_end hn.out.symm, hb3⟩
      · have hm2 : ((p.length : Int) != st * 4) = true := by simp only [bne_iff_ne]; omega
        clear hm
        go_enter Try.func8, Try.ntmps8
        go_wp2
        generalize (w.alloc (.cells #[.int .i64 st, .int .i64 2, .slice A l.length c, .slice B p.length d] 27)) = W1 at hbW q0 q1 q2 q3 ⊢
        refine wp_region_quiet_below (by kernel_rfl) (by kernel_rfl) ?_
        repeat (any_goals (first | go_big_quiet_step (fail) | quiet_step (fail)))
        refine wpQuiet_nil ?_
        intro _ hw'
        obtain ⟨⟨dq, osq⟩, hw''⟩ := hw'
        subst hw''
        have hb3 := hbW.trans ((below_regrown W1 dq osq).mono hbW.size)
        generalize grow (redrawn W1 dq) osq = w2 at hb3 ⊢
        clear hbW q0 q1 q2 q3
        go_wp2
        go_ret
        exact ⟨bool_end hn.out.symm, hb3⟩
      · have hm2 : ((p.length : Int) != st * 8) = true := by simp only [bne_iff_ne]; omega
        clear hm
        go_enter Try.func8, Try.ntmps8
        go_wp2
        generalize (w.alloc (.cells #[.int .i64 st, .int .i64 3, .slice A l.length c, .slice B p.length d] 27)) = W1 at hbW q0 q1 q2 q3 ⊢
        refine wp_region_quiet_below (by kernel_rfl) (by kernel_rfl) ?_
        repeat (any_goals (first | go_big_quiet_step (fail) | quiet_step (fail)))
        refine wpQuiet_nil ?_
        intro _ hw'
        obtain ⟨⟨dq, osq⟩, hw''⟩ := hw'
        subst hw''
        have hb3 := hbW.trans ((below_regrown W1 dq osq).mono hbW.size)
        generalize grow (redrawn W1 dq) osq = w2 at hb3 ⊢
        clear hbW q0 q1 q2 q3
        go_wp2
        go_ret
        exact ⟨bool_end hn.out.symm, hb3⟩
    · have ha2 : ((l.length : Int) != st) = true := by simp [ha]
      clear hl ha hc
      go_enter Try.func8, Try.ntmps8
      go_wp2
      generalize (w.alloc (.cells #[.int .i64 st, .int .i64 rg, .slice A l.length c, .slice B p.length d] 27)) = W1 at hbW q0 q1 q2 q3 ⊢
      refine wp_region_quiet_below (by kernel_rfl) (by kernel_rfl) ?_
      repeat (any_goals (first | go_big_quiet_step (fail) | quiet_step (fail)))
      refine wpQuiet_nil ?_
      intro _ hw'
      obtain ⟨⟨dq, osq⟩, hw''⟩ := hw'
      subst hw''
      have hb3 := hbW.trans ((below_regrown W1 dq osq).mono hbW.size)
      generalize grow (redrawn W1 dq) osq = w2 at hb3 ⊢
      clear hbW q0 q1 q2 q3
      go_wp2
      go_ret
      exact ⟨bool_end hn.out.symm, hb3⟩
  · have hq0 := Lib.hid (show (∀ j, j < t.mv.length → mvB t.st t.rg (prAt t.mv j) = true) → machB t = true from fun h => (hcl.out hl).trans (movB_yes h))
    have hq1 := Lib.hid (fun i (hi : i < t.mv.length) (h : mvB t.st t.rg (prAt t.mv i) = false) => movB_no hi h)
    clear hcl
    obtain ⟨st, rg, l, p⟩ := t
    dsimp only at *
    obtain ⟨⟨s1, s9⟩, r0, r3⟩ := hh
    have k1 : ¬ st < 1 := by omega
    have k2 : ¬ 9 < st := by omega
    have k3 : ¬ rg < 0 := by omega
    have k4 : ¬ 3 < rg := by omega
    have hbW : Below w.heap.size w (w.alloc (.cells #[.int .i64 st, .int .i64 rg, .slice A l.length c, .slice B p.length d] 27)) := (Below.refl _ _).alloc (Nat.le_refl _) _
    have hbx := heap_alloc_new w (.cells #[.int .i64 st, .int .i64 rg, .slice A l.length c, .slice B p.length d] 27)
    obtain ⟨d0, d1, d2, d3⟩ := MachK.row4 hbx
    have q0 := fun d os => cell_regrown d0 d os
    have q1 := fun d os => cell_regrown d1 d os
    have q2 := fun d os => cell_regrown d2 d os
    have q3 := fun d os => cell_regrown d3 d os
    clear d0 d1 d2 d3 hbx
    have hc := casZ_of r0 r3
    generalize casZ rg = cz at *
    obtain ⟨ha, hm⟩ := hl
    have ha2 : ((l.length : Int) != st) = false := by simp [ha]
    clear ha hA
    rcases hc with ⟨rfl, rfl⟩ | ⟨rfl, rfl⟩ | ⟨rfl, rfl⟩ | ⟨rfl, rfl⟩
    · have hm2 : ((p.length : Int) != st) = false := by simp only [bne_eq_false_iff_eq]; omega
      have h0W : w.heap.size < (w.alloc (.cells #[.int .i64 st, .int .i64 0, .slice A l.length c, .slice B p.length d] 27)).heap.size := by simp
      go_enter Try.func8, Try.ntmps8
      go_wp2
      generalize (w.alloc (.cells #[.int .i64 st, .int .i64 0, .slice A l.length c, .slice B p.length d] 27)) = W1 at hbW q0 q1 q2 q3 h0W ⊢
      refine wp_region_quiet_below (by kernel_rfl) (by kernel_rfl) ?_
      repeat (any_goals (first | go_big_quiet_step (fail) | quiet_step (fail)))
      refine wpQuiet_nil ?_
      intro _ hw'
      obtain ⟨⟨dq, osq⟩, hw''⟩ := hw'
      subst hw''
      have hb3 := hbW.trans ((below_regrown W1 dq osq).mono hbW.size)
      have d0 := q0 dq osq
      have d1 := q1 dq osq
      have d2 := q2 dq osq
      have d3 := q3 dq osq
      have hlt0 : w.heap.size < (grow (redrawn W1 dq) osq).heap.size := by have := (below_regrown W1 dq osq).size; omega
      generalize grow (redrawn W1 dq) osq = w2 at hb3 d0 d1 d2 d3 hlt0 ⊢
      clear hbW q0 q1 q2 q3 h0W
      go_wp2
      go_loopw [43] (fun i wr => ∃ k : Nat, k ≤ p.length ∧ i = .int .i64 k ∧ Hid (∀ j, j < k → mvB st 0 (prAt p j) = true) ∧ Below w2.heap.size w2 wr) (fun i _ => p.length - (intOf i).toNat)
      case atStart => exact ⟨0, Nat.zero_le _, rfl, fun j hj => absurd hj (by omega), Below.refl _ _⟩
      case round =>
        obtain ⟨k, hk, rfl, hq, hb⟩ := hrel
        have hbw := hb3.trans (hb.mono hb3.size)
        by_cases hlt : k < p.length
        · obtain ⟨b1, o1, rfl, hb1, hc1⟩ := hB (by omega)
          obtain ⟨c1, c2⟩ := hc1 k hlt
          rw [← hbw.cell (p := ⟨b1, _, none⟩) hb1] at c1 c2
          have hbs := hbw.size
          have e0 := (hb.cell (p := ⟨w.heap.size, 0, none⟩) hlt0).trans d0
          have e1 := (hb.cell (p := ⟨w.heap.size, 1, none⟩) hlt0).trans d1
          have e3 := (hb.cell (p := ⟨w.heap.size, 3, none⟩) hlt0).trans d3
          have hltX : (k : Int) < st := by omega
          have hlt1 : w.heap.size < wr.heap.size := by have := hb.size; omega
          have hbn := hb.alloc hb.size (.cells #[.int .i64 (prAt p k).1, .int .i64 (prAt p k).2] 45)
          have hq1k := Lib.hid (hq1.out k hlt)
          have hqn := Lib.hid (show mvB st 0 (prAt p k) = true → ∀ j, j < k + 1 → mvB st 0 (prAt p j) = true from fun h j hj => if e : j = k then e ▸ h else hq.out j (by omega))
          generalize prAt p k = m at c1 c2 hq1k hqn hbn
          obtain ⟨m1, m2⟩ := m
          dsimp only at c1 c2 hbn
          clear hq hc1 hB hq0 hq1 d0 d1 d2 d3 hm ha2
          have h5 : m1 < 0 ∨ (¬ m1 < 0 ∧ st ≤ m1) ∨ (¬ m1 < 0 ∧ ¬ st ≤ m1 ∧ m2 < -1) ∨ (¬ m1 < 0 ∧ ¬ st ≤ m1 ∧ ¬ m2 < -1 ∧ 0 ≤ m2) ∨ ((0 ≤ m1 ∧ m1 < st) ∧ -1 ≤ m2 ∧ m2 < 0) := by omega
          rcases h5 with h1 | ⟨h1, h2⟩ | ⟨h1, h2, h3⟩ | ⟨h1, h2, h3, h4⟩ | h5
          rotate_left 4
          · have hgo := Lib.hid (hqn.out (by unfold mvB; simp [h5]))
            have g1 : ¬ m1 < 0 := by omega
            have g2 : ¬ st ≤ m1 := by omega
            have g3 : ¬ m2 < -1 := by omega
            have g4 : ¬ 0 ≤ m2 := by omega
            clear hqn hq1k h5
            go_wp2
            refine ⟨⟨k + 1, by omega, by go_num, hgo, hbn⟩, ?_⟩
            simp only [intOf]
            omega
          all_goals
            have hn := Lib.hid (hq1k.out (by unfold mvB; simp; omega))
            have hend := hb3.trans (hbn.mono hb3.size)
            clear hqn hq1k hbn
            go_wp2
            go_ret
            exact ⟨bool_end hn.out.symm, hend⟩
        · have hn := Lib.hid (hq0.out fun j hj => hq.out j (by omega))
          have hltX : ¬ (k : Int) < st := by omega
          clear hq hq1 hq0 d0 d1 d2 d3 hB
          go_wp2
          go_ret
          exact ⟨bool_end hn.out.symm, hbw⟩
    · have hm2 : ((p.length : Int) != st * 2) = false := by simp only [bne_eq_false_iff_eq]; omega
      have h0W : w.heap.size < (w.alloc (.cells #[.int .i64 st, .int .i64 1, .slice A l.length c, .slice B p.length d] 27)).heap.size := by simp
      go_enter Try.func8, Try.ntmps8
      go_wp2
      generalize (w.alloc (.cells #[.int .i64 st, .int .i64 1, .slice A l.length c, .slice B p.length d] 27)) = W1 at hbW q0 q1 q2 q3 h0W ⊢
      refine wp_region_quiet_below (by kernel_rfl) (by kernel_rfl) ?_
      repeat (any_goals (first | go_big_quiet_step (fail) | quiet_step (fail)))
      refine wpQuiet_nil ?_
      intro _ hw'
      obtain ⟨⟨dq, osq⟩, hw''⟩ := hw'
      subst hw''
      have hb3 := hbW.trans ((below_regrown W1 dq osq).mono hbW.size)
      have d0 := q0 dq osq
      have d1 := q1 dq osq
      have d2 := q2 dq osq
      have d3 := q3 dq osq
      have hlt0 : w.heap.size < (grow (redrawn W1 dq) osq).heap.size := by have := (below_regrown W1 dq osq).size; omega
      generalize grow (redrawn W1 dq) osq = w2 at hb3 d0 d1 d2 d3 hlt0 ⊢
      clear hbW q0 q1 q2 q3 h0W
      go_wp2
      go_loopw [43] (fun i wr => ∃ k : Nat, k ≤ p.length ∧ i = .int .i64 k ∧ Hid (∀ j, j < k → mvB st 1 (prAt p j) = true) ∧ Below w2.heap.size w2 wr) (fun i _ => p.length - (intOf i).toNat)
      case atStart => exact ⟨0, Nat.zero_le _, rfl, fun j hj => absurd hj (by omega), Below.refl _ _⟩
      case round =>
        obtain ⟨k, hk, rfl, hq, hb⟩ := hrel
        have hbw := hb3.trans (hb.mono hb3.size)
        by_cases hlt : k < p.length
        · obtain ⟨b1, o1, rfl, hb1, hc1⟩ := hB (by omega)
          obtain ⟨c1, c2⟩ := hc1 k hlt
          rw [← hbw.cell (p := ⟨b1, _, none⟩) hb1] at c1 c2
          have hbs := hbw.size
          have e0 := (hb.cell (p := ⟨w.heap.size, 0, none⟩) hlt0).trans d0
          have e1 := (hb.cell (p := ⟨w.heap.size, 1, none⟩) hlt0).trans d1
          have e3 := (hb.cell (p := ⟨w.heap.size, 3, none⟩) hlt0).trans d3
          have hltX : (k : Int) < st * 2 := by omega
          have hlt1 : w.heap.size < wr.heap.size := by have := hb.size; omega
          have hbn := hb.alloc hb.size (.cells #[.int .i64 (prAt p k).1, .int .i64 (prAt p k).2] 45)
          have hq1k := Lib.hid (hq1.out k hlt)
          have hqn := Lib.hid (show mvB st 1 (prAt p k) = true → ∀ j, j < k + 1 → mvB st 1 (prAt p j) = true from fun h j hj => if e : j = k then e ▸ h else hq.out j (by omega))
          generalize prAt p k = m at c1 c2 hq1k hqn hbn
          obtain ⟨m1, m2⟩ := m
          dsimp only at c1 c2 hbn
          clear hq hc1 hB hq0 hq1 d0 d1 d2 d3 hm ha2
          have h5 : m1 < 0 ∨ (¬ m1 < 0 ∧ st ≤ m1) ∨ (¬ m1 < 0 ∧ ¬ st ≤ m1 ∧ m2 < -1) ∨ (¬ m1 < 0 ∧ ¬ st ≤ m1 ∧ ¬ m2 < -1 ∧ 1 ≤ m2) ∨ ((0 ≤ m1 ∧ m1 < st) ∧ -1 ≤ m2 ∧ m2 < 1) := by omega
          rcases h5 with h1 | ⟨h1, h2⟩ | ⟨h1, h2, h3⟩ | ⟨h1, h2, h3, h4⟩ | h5
          rotate_left 4
          · have hgo := Lib.hid (hqn.out (by unfold mvB; simp [h5]))
            have g1 : ¬ m1 < 0 := by omega
            have g2 : ¬ st ≤ m1 := by omega
            have g3 : ¬ m2 < -1 := by omega
            have g4 : ¬ 1 ≤ m2 := by omega
            clear hqn hq1k h5
            go_wp2
            refine ⟨⟨k + 1, by omega, by go_num, hgo, hbn⟩, ?_⟩
            simp only [intOf]
            omega
          all_goals
            have hn := Lib.hid (hq1k.out (by unfold mvB; simp; omega))
            have hend := hb3.trans (hbn.mono hb3.size)
            clear hqn hq1k hbn
            go_wp2
            go_ret
            exact ⟨bool_end hn.out.symm, hend⟩
        · have hn := Lib.hid (hq0.out fun j hj => hq.out j (by omega))
          have hltX : ¬ (k : Int) < st * 2 := by omega
          clear hq hq1 hq0 d0 d1 d2 d3 hB
          go_wp2
          go_ret
          exact ⟨bool_end hn.out.symm, hbw⟩
    · have hm2 : ((p.length : Int) != st * 4) = false := by simp only [bne_eq_false_iff_eq]; omega
      have h0W : w.heap.size < (w.alloc (.cells #[.int .i64 st, .int .i64 2, .slice A l.length c, .slice B p.length d] 27)).heap.size := by simp
      go_enter Try.func8, Try.ntmps8
      go_wp2
      generalize (w.alloc (.cells #[.int .i64 st, .int .i64 2, .slice A l.length c, .slice B p.length d] 27)) = W1 at hbW q0 q1 q2 q3 h0W ⊢
      refine wp_region_quiet_below (by kernel_rfl) (by kernel_rfl) ?_
      repeat (any_goals (first | go_big_quiet_step (fail) | quiet_step (fail)))
      refine wpQuiet_nil ?_
      intro _ hw'
      obtain ⟨⟨dq, osq⟩, hw''⟩ := hw'
      subst hw''
      have hb3 := hbW.trans ((below_regrown W1 dq osq).mono hbW.size)
      have d0 := q0 dq osq
      have d1 := q1 dq osq
      have d2 := q2 dq osq
      have d3 := q3 dq osq
      have hlt0 : w.heap.size < (grow (redrawn W1 dq) osq).heap.size := by have := (below_regrown W1 dq osq).size; omega
      generalize grow (redrawn W1 dq) osq = w2 at hb3 d0 d1 d2 d3 hlt0 ⊢
      clear hbW q0 q1 q2 q3 h0W
      go_wp2
      go_loopw [43] (fun i wr => ∃ k : Nat, k ≤ p.length ∧ i = .int .i64 k ∧ Hid (∀ j, j < k → mvB st 2 (prAt p j) = true) ∧ Below w2.heap.size w2 wr) (fun i _ => p.length - (intOf i).toNat)
      case atStart => exact ⟨0, Nat.zero_le _, rfl, fun j hj => absurd hj (by omega), Below.refl _ _⟩
      case round =>
        obtain ⟨k, hk, rfl, hq, hb⟩ := hrel
        have hbw := hb3.trans (hb.mono hb3.size)
        by_cases hlt : k < p.length
        · obtain ⟨b1, o1, rfl, hb1, hc1⟩ := hB (by omega)
          obtain ⟨c1, c2⟩ := hc1 k hlt
          rw [← hbw.cell (p := ⟨b1, _, none⟩) hb1] at c1 c2
          have hbs := hbw.size
          have e0 := (hb.cell (p := ⟨w.heap.size, 0, none⟩) hlt0).trans d0
          have e1 := (hb.cell (p := ⟨w.heap.size, 1, none⟩) hlt0).trans d1
          have e3 := (hb.cell (p := ⟨w.heap.size, 3, none⟩) hlt0).trans d3
          have hltX : (k : Int) < st * 4 := by omega
          have hlt1 : w.heap.size < wr.heap.size := by have := hb.size; omega
          have hbn := hb.alloc hb.size (.cells #[.int .i64 (prAt p k).1, .int .i64 (prAt p k).2] 45)
          have hq1k := Lib.hid (hq1.out k hlt)
          have hqn := Lib.hid (show mvB st 2 (prAt p k) = true → ∀ j, j < k + 1 → mvB st 2 (prAt p j) = true from fun h j hj => if e : j = k then e ▸ h else hq.out j (by omega))
          generalize prAt p k = m at c1 c2 hq1k hqn hbn
          obtain ⟨m1, m2⟩ := m
          dsimp only at c1 c2 hbn
          clear hq hc1 hB hq0 hq1 d0 d1 d2 d3 hm ha2
          have h5 : m1 < 0 ∨ (¬ m1 < 0 ∧ st ≤ m1) ∨ (¬ m1 < 0 ∧ ¬ st ≤ m1 ∧ m2 < -1) ∨ (¬ m1 < 0 ∧ ¬ st ≤ m1 ∧ ¬ m2 < -1 ∧ 2 ≤ m2) ∨ ((0 ≤ m1 ∧ m1 < st) ∧ -1 ≤ m2 ∧ m2 < 2) := by omega
          rcases h5 with h1 | ⟨h1, h2⟩ | ⟨h1, h2, h3⟩ | ⟨h1, h2, h3, h4⟩ | h5
          rotate_left 4
          · have hgo := Lib.hid (hqn.out (by unfold mvB; simp [h5]))
            have g1 : ¬ m1 < 0 := by omega
            have g2 : ¬ st ≤ m1 := by omega
            have g3 : ¬ m2 < -1 := by omega
            have g4 : ¬ 2 ≤ m2 := by omega
            clear hqn hq1k h5
            go_wp2
            refine ⟨⟨k + 1, by omega, by go_num, hgo, hbn⟩, ?_⟩
            simp only [intOf]
            omega
          all_goals
            have hn := Lib.hid (hq1k.out (by unfold mvB; simp; omega))
            have hend := hb3.trans (hbn.mono hb3.size)
            clear hqn hq1k hbn
            go_wp2
            go_ret
            exact ⟨bool_end hn.out.symm, hend⟩
        · have hn := Lib.hid (hq0.out fun j hj => hq.out j (by omega))
          have hltX : ¬ (k : Int) < st * 4 := by omega
          clear hq hq1 hq0 d0 d1 d2 d3 hB
          go_wp2
          go_ret
          exact ⟨bool_end hn.out.symm, hbw⟩
    · have hm2 : ((p.length : Int) != st * 8) = false := by simp only [bne_eq_false_iff_eq]; omega
      have h0W : w.heap.size < (w.alloc (.cells #[.int .i64 st, .int .i64 3, .slice A l.length c, .slice B p.length d] 27)).heap.size := by simp
      go_enter Try.func8, Try.ntmps8
      go_wp2
      generalize (w.alloc (.cells #[.int .i64 st, .int .i64 3, .slice A l.length c, .slice B p.length d] 27)) = W1 at hbW q0 q1 q2 q3 h0W ⊢
      refine wp_region_quiet_below (by kernel_rfl) (by kernel_rfl) ?_
      repeat (any_goals (first | go_big_quiet_step (fail) | quiet_step (fail)))
      refine wpQuiet_nil ?_
      intro _ hw'
      obtain ⟨⟨dq, osq⟩, hw''⟩ := hw'
      subst hw''
      have hb3 := hbW.trans ((below_regrown W1 dq osq).mono hbW.size)
      have d0 := q0 dq osq
      have d1 := q1 dq osq
      have d2 := q2 dq osq
      have d3 := q3 dq osq
      have hlt0 : w.heap.size < (grow (redrawn W1 dq) osq).heap.size := by have := (below_regrown W1 dq osq).size; omega
      generalize grow (redrawn W1 dq) osq = w2 at hb3 d0 d1 d2 d3 hlt0 ⊢
      clear hbW q0 q1 q2 q3 h0W
      go_wp2
      go_loopw [43] (fun i wr => ∃ k : Nat, k ≤ p.length ∧ i = .int .i64 k ∧ Hid (∀ j, j < k → mvB st 3 (prAt p j) = true) ∧ Below w2.heap.size w2 wr) (fun i _ => p.length - (intOf i).toNat)
      case atStart => exact ⟨0, Nat.zero_le _, rfl, fun j hj => absurd hj (by omega), Below.refl _ _⟩
      case round =>
        obtain ⟨k, hk, rfl, hq, hb⟩ := hrel
        have hbw := hb3.trans (hb.mono hb3.size)
        by_cases hlt : k < p.length
        · obtain ⟨b1, o1, rfl, hb1, hc1⟩ := hB (by omega)
          obtain ⟨c1, c2⟩ := hc1 k hlt
          rw [← hbw.cell (p := ⟨b1, _, none⟩) hb1] at c1 c2
          have hbs := hbw.size
          have e0 := (hb.cell (p := ⟨w.heap.size, 0, none⟩) hlt0).trans d0
          have e1 := (hb.cell (p := ⟨w.heap.size, 1, none⟩) hlt0).trans d1
          have e3 := (hb.cell (p := ⟨w.heap.size, 3, none⟩) hlt0).trans d3
          have hltX : (k : Int) < st * 8 := by omega
          have hlt1 : w.heap.size < wr.heap.size := by have := hb.size; omega
          have hbn := hb.alloc hb.size (.cells #[.int .i64 (prAt p k).1, .int .i64 (prAt p k).2] 45)
          have hq1k := Lib.hid (hq1.out k hlt)
          have hqn := Lib.hid (show mvB st 3 (prAt p k) = true → ∀ j, j < k + 1 → mvB st 3 (prAt p j) = true from fun h j hj => if e : j = k then e ▸ h else hq.out j (by omega))
          generalize prAt p k = m at c1 c2 hq1k hqn hbn
          obtain ⟨m1, m2⟩ := m
          dsimp only at c1 c2 hbn
          clear hq hc1 hB hq0 hq1 d0 d1 d2 d3 hm ha2
          have h5 : m1 < 0 ∨ (¬ m1 < 0 ∧ st ≤ m1) ∨ (¬ m1 < 0 ∧ ¬ st ≤ m1 ∧ m2 < -1) ∨ (¬ m1 < 0 ∧ ¬ st ≤ m1 ∧ ¬ m2 < -1 ∧ 3 ≤ m2) ∨ ((0 ≤ m1 ∧ m1 < st) ∧ -1 ≤ m2 ∧ m2 < 3) := by omega
          rcases h5 with h1 | ⟨h1, h2⟩ | ⟨h1, h2, h3⟩ | ⟨h1, h2, h3, h4⟩ | h5
          rotate_left 4
          · have hgo := Lib.hid (hqn.out (by unfold mvB; simp [h5]))
            have g1 : ¬ m1 < 0 := by omega
            have g2 : ¬ st ≤ m1 := by omega
            have g3 : ¬ m2 < -1 := by omega
            have g4 : ¬ 3 ≤ m2 := by omega
            clear hqn hq1k h5
            go_wp2
            refine ⟨⟨k + 1, by omega, by go_num, hgo, hbn⟩, ?_⟩
            simp only [intOf]
            omega
          all_goals
            have hn := Lib.hid (hq1k.out (by unfold mvB; simp; omega))
            have hend := hb3.trans (hbn.mono hb3.size)
            clear hqn hq1k hbn
            go_wp2
            go_ret
            exact ⟨bool_end hn.out.symm, hend⟩
        · have hn := Lib.hid (hq0.out fun j hj => hq.out j (by omega))
          have hltX : ¬ (k : Int) < st * 8 := by omega
          clear hq hq1 hq0 d0 d1 d2 d3 hB
          go_wp2
          go_ret
          exact ⟨bool_end hn.out.symm, hbw⟩
end Go.Proofs.Ythacnbeckhdhiaa
end

section
namespace Go.Proofs.Ythacnbeckhdhiaa
open Go.RowKit Go.Sort
set_option linter.unusedVariables false

theorem rows_info : (Try.prog.info? 30).map (fun i => (i.zero, i.size, i.bytes)) = some (some (.slice none 0 0), 1, 24) := by kernel_rfl

end Go.Proofs.Ythacnbeckhdhiaa
end

section
namespace Go.Proofs.Ythacnbeckhdhiaa
open Go.RowKit
set_option linter.unusedVariables false

abbrev ConstAt := ConstAtR
theorem ConstAt.below {w w' : World} {A : Option Addr} {c : Nat} {l : List Int} (h : ConstAt w A c l) (hb : Below w.heap.size w w') : ConstAt w' A c l := ⟨h.1.below hb, h.2⟩
/-- A value that is an orbit set. -/
def OrbIn (w : World) (x : Value) (z : Int) (l : List Int) (m : List (List Int)) : Prop :=
  ∃ A c B d, x = .agg #[.int .i64 z, .slice A l.length c, .slice B m.length d] ∧ ConstAt w A c l ∧ RowsIn w (.slice B m.length d) m
theorem OrbIn.below {w w' : World} {x : Value} {z : Int} {l : List Int} {m : List (List Int)} (h : OrbIn w x z l m) (hb : Below w.heap.size w w') : OrbIn w' x z l m := by
  obtain ⟨A, c, B, d, rfl, h1, h2⟩ := h
  exact ⟨A, c, B, d, rfl, h1.below hb, h2.below hb⟩
namespace OrbK
theorem box_lt {w : World} {g : Nat} {o : Obj} (h : w.heap[g]? = some o) : g < w.heap.size := (Array.getElem?_eq_some_iff.1 h).1
end OrbK

/-- Rows, each with room for itself. -/
def RowsC (w : World) (A : Option Addr) (ls : List (List Int)) : Prop :=
  0 < ls.length → ∃ b off, A = some ⟨b, off, none⟩ ∧ b < w.heap.size ∧ ∀ i, i < ls.length → ∃ A1 c1, w.cell? ⟨b, off + i, none⟩ = some (.slice A1 (rwAt ls i).length c1) ∧ IntsAt w A1 (rwAt ls i) ∧ (rwAt ls i).length ≤ c1
theorem RowsC.below {w w' : World} {A : Option Addr} {ls : List (List Int)} (h : RowsC w A ls) (hb : Below w.heap.size w w') : RowsC w' A ls := by
  intro hp
  obtain ⟨b, off, rfl, hlt, hc⟩ := h hp
  refine ⟨b, off, rfl, Nat.lt_of_lt_of_le hlt hb.size, fun i hi => ?_⟩
  obtain ⟨A1, c1, h1, h2, h3⟩ := hc i hi
  exact ⟨A1, c1, (hb.cell (p := ⟨b, off + i, none⟩) hlt).trans h1, h2.below hb, h3⟩
/-- A value that is an orbit set, as it is handed over. -/
def OrbIx (w : World) (x : Value) (z : Int) (l : List Int) (m : List (List Int)) : Prop :=
  ∃ A c B d, x = .agg #[.int .i64 z, .slice A l.length c, .slice B m.length d] ∧ ConstAt w A c l ∧ RowsIn w (.slice B m.length d) m ∧ RowsC w B m
theorem OrbIx.below {w w' : World} {x : Value} {z : Int} {l : List Int} {m : List (List Int)} (h : OrbIx w x z l m) (hb : Below w.heap.size w w') : OrbIx w' x z l m := by
  obtain ⟨A, c, B, d, rfl, h1, h2, h3⟩ := h
  exact ⟨A, c, B, d, rfl, h1.below hb, h2.below hb, h3.below hb⟩
theorem OrbIx.in_ {w : World} {x : Value} {z : Int} {l : List Int} {m : List (List Int)} (h : OrbIx w x z l m) : OrbIn w x z l m := by
  obtain ⟨A, c, B, d, rfl, h1, h2, _⟩ := h
  exact ⟨A, c, B, d, rfl, h1, h2⟩
end Go.Proofs.Ythacnbeckhdhiaa
end

section
namespace Go.Proofs.Ythacnbeckhdhiaa
open Go.RowKit Go.Sort
set_option linter.unusedVariables false

end Go.Proofs.Ythacnbeckhdhiaa
end

