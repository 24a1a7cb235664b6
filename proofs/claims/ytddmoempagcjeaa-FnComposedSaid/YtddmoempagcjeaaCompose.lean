/-
  ComposePermutations, in the program and in the model, as contracts.
-/
import Derived.Test.YtddmoempagcjeaaComposed
namespace Go.Proofs.Ytddmoempagcjeaa
open Go.RowKit Go.Sort

def compB (p q : List (Int × Int)) : Bool := permB p && permB q && decide ((thenL p q).length ≤ 40)
def compL (p q : List (Int × Int)) : List (Int × Int) := if compB p q then thenL p q else []

theorem compB_no1 {p q : List (Int × Int)} (h : permB p = false) : compB p q = false := by simp [compB, h]
theorem compB_no2 {p q : List (Int × Int)} (h : permB q = false) : compB p q = false := by simp [compB, h]
theorem compB_no3 {p q : List (Int × Int)} (h : ¬ (thenL p q).length ≤ 40) : compB p q = false := by simp [compB]; omega
theorem compB_yes {p q : List (Int × Int)} (h1 : permB p = true) (h2 : permB q = true) (h : (thenL p q).length ≤ 40) : compB p q = true := by simp [compB, h1, h2, h]
theorem compL_no {p q : List (Int × Int)} (h : compB p q = false) : compL p q = [] := by simp [compL, h]
theorem compL_yes {p q : List (Int × Int)} (h : compB p q = true) : compL p q = thenL p q := by simp [compL, h]
theorem compL_len (p q : List (Int × Int)) : (compL p q).length ≤ p.length + q.length := by
  unfold compL
  split
  · exact thenL_len p q
  · simp

/-- A new slice of the pairs, and a bool. -/
def NewPairsB (l : List (Int × Int)) (b : Bool) (w : World) (e : Ending) (w' : World) : Prop :=
  ∃ v, e = .returned (.tuple #[v, .bool b]) ∧ w'.ownsRow w.heap.size 81 2 v l.length (cellsOf l) ∧ Below w.heap.size w w'

theorem newPairsB_later {l : List (Int × Int)} {b : Bool} {w w1 w2 : World} {v : Value} (ho : w2.ownsRow w1.heap.size 81 2 v l.length (cellsOf l)) (hb2 : Below w1.heap.size w1 w2) (hb : Below w.heap.size w w1) : NewPairsB l b w (.returned (.tuple #[v, .bool b])) w2 :=
  ⟨v, rfl, own_le ho hb.size, hb.trans (hb2.mono hb.size)⟩

theorem newPairsB_empty {b : Bool} {w w1 : World} (hb : Below w.heap.size w w1) : NewPairsB [] b w (.returned (.tuple #[.slice (some ⟨w1.heap.size, 0, none⟩) 0 0, .bool b])) (w1.alloc (.cells #[] 81)) :=
  ⟨_, rfl, own_le (World.ownsRow_lit w1 #[] 0 (Nat.le_refl _) (by decide) rfl) hb.size, hb.alloc hb.size _⟩

theorem newPairsB_nil {b : Bool} {w w1 : World} (hb : Below w.heap.size w w1) : NewPairsB [] b w (.returned (.tuple #[.slice none 0 0, .bool b])) w1 :=
  ⟨_, rfl, World.ownsRow_nil w1 _ _ _, hb⟩

set_option maxRecDepth 100000 in
set_option maxHeartbeats 1000000 in
theorem compose_impl (A1 A2 : Option Addr) (d1 d2 : Nat) (p q : List (Int × Int)) (w : World) (hp : PairsAt w A1 p) (hq : PairsAt w A2 q) (hlp : p.length ≤ 1048576) (hlq : q.length ≤ 1048576) :
    Calls Try.prog 20 #[.slice A1 p.length d1, .slice A2 q.length d2] w (NewPairsB (compL p q) (compB p q) w) := by
  have hpp := isPerm_impl A1 d1 p _ hp (by omega)
  by_cases h1 : permB p = true
  · rw [h1] at hpp
    have hpq := fun W hQ => isPerm_impl A2 d2 q W hQ (by omega)
    by_cases h2 : permB q = true
    · rw [h2] at hpq
      have hco := fun W hP hQ => composed_any A1 A2 d1 d2 p q W hP hQ hlp hlq (asc_of_order (permB_parts h1).2.1) (asc_of_order (permB_parts h2).2.1)
      have hll := thenL_len p q
      by_cases h3 : (thenL p q).length ≤ 40
      · have HB := Lib.hid (compB_yes h1 h2 h3)
        have HL := Lib.hid (compL_yes HB.out)
        rw [HB.out, HL.out]
        generalize thenL p q = L at hco h3 hll ⊢
        clear h1 h2 HB HL
        go_enter Try.func20, Try.ntmps20
        go_wp2_with fail
        refine hpp.mono ?_
        rintro e w1 ⟨rfl, hb1⟩
        have hpq' := hpq w1 (hq.below hb1)
        clear hpp hpq
        go_wp2_with fail
        refine hpq'.mono ?_
        rintro e w2 ⟨rfl, hb2⟩
        have hs2 := hb1.trans (hb2.mono hb1.size)
        have hc := hco w2 (hp.below hs2) (hq.below hs2)
        clear hpq' hb1 hb2 hp hq hco
        go_wp2_with fail
        refine hc.mono ?_
        rintro e w3 ⟨g, cap, rfl, ho3, hb3⟩
        have hpost : NewPairsB L true w (.returned (.tuple #[.slice (some ⟨g, 0, none⟩) L.length cap, .bool true])) w3 := newPairsB_later ho3 hb3 hs2
        clear hc ho3 hb3 hs2
        go_wp2
        go_ret2
        exact hpost
      · have HB := Lib.hid (compB_no3 (p := p) (q := q) h3)
        have HL := Lib.hid (compL_no HB.out)
        rw [HB.out, HL.out]
        generalize thenL p q = L at hco h3 hll
        clear h1 h2 HB HL
        have h3' : 40 < L.length := by omega
        clear h3
        go_enter Try.func20, Try.ntmps20
        go_wp2_with fail
        refine hpp.mono ?_
        rintro e w1 ⟨rfl, hb1⟩
        have hpq' := hpq w1 (hq.below hb1)
        clear hpp hpq
        go_wp2_with fail
        refine hpq'.mono ?_
        rintro e w2 ⟨rfl, hb2⟩
        have hs2 := hb1.trans (hb2.mono hb1.size)
        have hc := hco w2 (hp.below hs2) (hq.below hs2)
        clear hpq' hb1 hb2 hp hq hco
        go_wp2_with fail
        refine hc.mono ?_
        rintro e w3 ⟨g, cap, rfl, ho3, hb3⟩
        have hpost := newPairsB_empty (b := false) (hs2.trans (hb3.mono hs2.size))
        clear hc ho3 hb3 hs2
        go_wp2
        go_ret2
        exact hpost
    · have h2' : permB q = false := by simpa using h2
      have HB := Lib.hid (compB_no2 (p := p) h2')
      have HL := Lib.hid (compL_no HB.out)
      rw [HB.out, HL.out]
      rw [h2'] at hpq
      clear h1 h2 h2' HB HL
      go_enter Try.func20, Try.ntmps20
      go_wp2_with fail
      refine hpp.mono ?_
      rintro e w1 ⟨rfl, hb1⟩
      have hpq' := hpq w1 (hq.below hb1)
      clear hpp hpq
      go_wp2_with fail
      refine hpq'.mono ?_
      rintro e w2 ⟨rfl, hb2⟩
      have hpost := newPairsB_empty (b := false) (hb1.trans (hb2.mono hb1.size))
      clear hpq' hb1 hb2 hp hq
      go_wp2
      go_ret2
      exact hpost
  · have h1' : permB p = false := by simpa using h1
    have HB := Lib.hid (compB_no1 (q := q) h1')
    have HL := Lib.hid (compL_no HB.out)
    rw [HB.out, HL.out]
    rw [h1'] at hpp
    clear h1 h1' HB HL
    go_enter Try.func20, Try.ntmps20
    go_wp2_with fail
    refine hpp.mono ?_
    rintro e w1 ⟨rfl, hb1⟩
    have hpost := newPairsB_empty (b := false) hb1
    clear hpp hb1 hp hq
    go_wp2
    go_ret2
    exact hpost

theorem compose_impl_own (b1 b2 : Nat) (v1 v2 : Value) (p q : List (Int × Int)) (w : World) (h1 : w.ownsRow b1 81 2 v1 p.length (cellsOf p)) (h2 : w.ownsRow b2 81 2 v2 q.length (cellsOf q)) (hlp : p.length ≤ 1048576) (hlq : q.length ≤ 1048576) :
    Calls Try.prog 20 #[v1, v2] w (NewPairsB (compL p q) (compB p q) w) := by
  obtain ⟨A, c, rfl, hA⟩ := own_pairsAt h1
  obtain ⟨B, d, rfl, hB⟩ := own_pairsAt h2
  exact compose_impl A B c d p q w hA hB hlp hlq

end Go.Proofs.Ytddmoempagcjeaa
