/-
  Rules: their sizes, their copies and their comparison, as contracts; a rule as an argument. Rules: what they read as, in memory. Rules: their sizes, as the laws count them. An argument that is a slice of rules, opened. Copies of rules, in memory of their own, as the laws make them. The same rules compared, as contracts. Copies of slices of rules, in memory of their own, as the laws make them. A copy of rules reads as the rules.
-/
import Derived.Test.YtnomidnjglbedaaKAreRules7
import Derived.Test.YtnomidnjglbedaaKAreRules6
import Derived.Test.YtnomidnjglbedaaKAreRules4
import Derived.Test.YtnomidnjglbedaaKAreRules8
import Derived.Test.YtnomidnjglbedaaKAreRules5
import Derived.Test.YtnomidnjglbedaaKAreRules15
import Derived.Deep.RegionHeld3
section
namespace Go.Proofs.Ytnomidnjglbedaa
open Go.RowKit
set_option linter.unusedVariables false

/-- A value that is a rule. -/
def RuleIn (w : World) (x : Value) (m : List (Int × Int)) (s t : Tm) : Prop :=
  ∃ C cc A1 c1 B1 d1 A2 c2 B2 d2, x = .agg #[.slice C m.length cc, .int .i64 s.op, .int .i64 s.num, .slice A1 s.perm.length c1, .slice B1 s.kids.length d1, .int .i64 t.op, .int .i64 t.num, .slice A2 t.perm.length c2, .slice B2 t.kids.length d2] ∧ PairsAt w C m ∧ TmIn w (.agg #[.int .i64 s.op, .int .i64 s.num, .slice A1 s.perm.length c1, .slice B1 s.kids.length d1]) s ∧ TmIn w (.agg #[.int .i64 t.op, .int .i64 t.num, .slice A2 t.perm.length c2, .slice B2 t.kids.length d2]) t
theorem RuleIn.below {w w' : World} {x : Value} {m : List (Int × Int)} {s t : Tm} (h : RuleIn w x m s t) (hb : Below w.heap.size w w') : RuleIn w' x m s t := by
  obtain ⟨C, cc, A1, c1, B1, d1, A2, c2, B2, d2, rfl, h1, h2, h3⟩ := h
  exact ⟨C, cc, A1, c1, B1, d1, A2, c2, B2, d2, rfl, h1.below hb, h2.below hb, h3.below hb⟩
def ShortRule (m : List (Int × Int)) (s t : Tm) : Prop := m.length ≤ maxLen ∧ Short s ∧ Short t
namespace RuleK
theorem row9 {w : World} {g : Nat} {a0 a1 a2 a3 a4 a5 a6 a7 a8 : Value} {T : TypeId} (h : w.heap[g]? = some (.cells #[a0, a1, a2, a3, a4, a5, a6, a7, a8] T (0, 0))) : w.cell? ⟨g, 0, none⟩ = some a0 ∧ w.cell? ⟨g, 1, none⟩ = some a1 ∧ w.cell? ⟨g, 2, none⟩ = some a2 ∧ w.cell? ⟨g, 3, none⟩ = some a3 ∧ w.cell? ⟨g, 4, none⟩ = some a4 ∧ w.cell? ⟨g, 5, none⟩ = some a5 ∧ w.cell? ⟨g, 6, none⟩ = some a6 ∧ w.cell? ⟨g, 7, none⟩ = some a7 ∧ w.cell? ⟨g, 8, none⟩ = some a8 := by
  refine ⟨?_, ?_, ?_, ?_, ?_, ?_, ?_, ?_, ?_⟩ <;> rw [cell_of_row w g _ _ _ _ h] <;> rfl
end RuleK
theorem szT_any (t : Tm) (hs : Short t) (left : Int) (w : World) (x : Value) (h0 : 0 ≤ left) (h1 : left ≤ 1099511627776) (hx : TmIn w x t) : Calls Try.prog 15 #[x, .int .i64 left] w (LeftPost left (cntT t) w) := by
  have hsh := (short_eq t).1 hs
  exact szTerm_of t _ _ left h0 h1 hx hsh.1 fun l' w' y g0 g1 hy => szTermS_any _ t.kids (Nat.le_refl _) hsh.2.2 hsh.2.1 l' w' y g0 g1 hy

set_option maxRecDepth 100000 in
set_option maxHeartbeats 4000000 in
theorem szRule_any (m : List (Int × Int)) (s t : Tm) (hs : ShortRule m s t) (left : Int) (w : World) (x : Value) (h0 : 0 ≤ left) (h1 : left ≤ 1099511627776) (hx : RuleIn w x m s t) :
    Calls Try.prog 47 #[x, .int .i64 left] w (LeftPost left (m.length + cntT s + cntT t) w) := by
  obtain ⟨hm, hs, ht⟩ := hs
  obtain ⟨C, cc, A1, c1, B1, d1, A2, c2, B2, d2, rfl, hp, h2, h3⟩ := hx
  have hlm : m.length ≤ 9223372036854775807 := by unfold maxLen at hm; omega
  have hb0 : Below w.heap.size w (w.alloc (.cells #[.slice C m.length cc, .int .i64 s.op, .int .i64 s.num, .slice A1 s.perm.length c1, .slice B1 s.kids.length d1, .int .i64 t.op, .int .i64 t.num, .slice A2 t.perm.length c2, .slice B2 t.kids.length d2] 63)) := (Below.refl _ _).alloc (Nat.le_refl _) _
  have k0 := heap_alloc_new w (.cells #[.slice C m.length cc, .int .i64 s.op, .int .i64 s.num, .slice A1 s.perm.length c1, .slice B1 s.kids.length d1, .int .i64 t.op, .int .i64 t.num, .slice A2 t.perm.length c2, .slice B2 t.kids.length d2] 63)
  have HB := Lib.hid (fun (W : World) (h : Below (w.alloc (.cells #[.slice C m.length cc, .int .i64 s.op, .int .i64 s.num, .slice A1 s.perm.length c1, .slice B1 s.kids.length d1, .int .i64 t.op, .int .i64 t.num, .slice A2 t.perm.length c2, .slice B2 t.kids.length d2] 63)).heap.size (w.alloc (.cells #[.slice C m.length cc, .int .i64 s.op, .int .i64 s.num, .slice A1 s.perm.length c1, .slice B1 s.kids.length d1, .int .i64 t.op, .int .i64 t.num, .slice A2 t.perm.length c2, .slice B2 t.kids.length d2] 63)) W) => RuleK.row9 ((h.block w.heap.size (by simp)).trans k0))
  have HS := Lib.hid (h2.below hb0)
  have HT := Lib.hid (h3.below hb0)
  have HB0 := Lib.hid hb0
  obtain ⟨m0, m1, m2, m3, m4, m5, m6, m7, m8⟩ := RuleK.row9 k0
  unfold LeftPost
  generalize hzz : leftR left (m.length + cntT s + cntT t) = zz
  have HZZ := Lib.hid hzz
  clear hzz hp h2 h3 k0 hb0 hm
  by_cases e1 : (m.length : Int) ≤ left
  · have hl1 : ¬ left - (m.length : Int) < 0 := by omega
    have hsz := szT_any s hs (left - (m.length : Int)) (w.alloc (.cells #[.slice C m.length cc, .int .i64 s.op, .int .i64 s.num, .slice A1 s.perm.length c1, .slice B1 s.kids.length d1, .int .i64 t.op, .int .i64 t.num, .slice A2 t.perm.length c2, .slice B2 t.kids.length d2] 63)) _ (by omega) (by omega) HS.out
    unfold LeftPost at hsz
    by_cases e2 : (cntT s : Int) ≤ left - (m.length : Int)
    · rw [leftR_yes e2] at hsz
      have hl2 : ¬ left - (m.length : Int) - (cntT s : Int) < 0 := by omega
      go_enter Try.func47, Try.ntmps47
      go_wp2_with fail
      refine (szF_yes C m.length cc left _ (by omega) h1 e1).mono ?_
      rintro e w2 ⟨rfl, rfl⟩
      go_wp2_with fail
      refine hsz.mono ?_
      rintro e w3 ⟨rfl, hb3⟩
      clear hsz m0 m1 m2 m3 m4 m5 m6 m7 m8
      have hsz := szT_any t ht (left - (m.length : Int) - (cntT s : Int)) w3 _ (by omega) (by omega) (HT.out.below hb3)
      have hbz3 := HB0.out.trans (hb3.mono HB0.out.size)
      unfold LeftPost at hsz
      by_cases e3 : (cntT t : Int) ≤ left - (m.length : Int) - (cntT s : Int)
      · rw [leftR_yes e3] at hsz
        have hl3 : ¬ left - (m.length : Int) - (cntT s : Int) - (cntT t : Int) < 0 := by omega
        have he : left - (m.length : Int) - (cntT s : Int) - (cntT t : Int) = zz := by rw [← HZZ.out, leftR_yes (by omega)]; omega
        obtain ⟨m0, m1, m2, m3, m4, m5, m6, m7, m8⟩ := HB.out w3 hb3
        go_wp2_with fail
        refine hsz.mono ?_
        rintro e w4 ⟨rfl, hb4⟩
        have hpost := hbz3.trans (hb4.mono hbz3.size)
        clear hsz m0 m1 m2 m3 m4 m5 m6 m7 m8 HZZ HB HS HT HB0 hb3 hb4 hbz3
        go_wp2
        go_ret
        exact ⟨by first | rfl | (subst he; rfl), hpost⟩
      · rw [leftR_no e3] at hsz
        have he : -1 = zz := by rw [← HZZ.out, leftR_no (by omega)]
        obtain ⟨m0, m1, m2, m3, m4, m5, m6, m7, m8⟩ := HB.out w3 hb3
        go_wp2_with fail
        refine hsz.mono ?_
        rintro e w4 ⟨rfl, hb4⟩
        have hpost := hbz3.trans (hb4.mono hbz3.size)
        clear hsz m0 m1 m2 m3 m4 m5 m6 m7 m8 HZZ HB HS HT HB0 hb3 hb4 hbz3
        go_wp2
        go_ret
        exact ⟨by first | rfl | (subst he; rfl), hpost⟩
    · rw [leftR_no e2] at hsz
      have he : -1 = zz := by rw [← HZZ.out, leftR_no (by omega)]
      go_enter Try.func47, Try.ntmps47
      go_wp2_with fail
      refine (szF_yes C m.length cc left _ (by omega) h1 e1).mono ?_
      rintro e w2 ⟨rfl, rfl⟩
      go_wp2_with fail
      refine hsz.mono ?_
      rintro e w3 ⟨rfl, hb3⟩
      have hpost := HB0.out.trans (hb3.mono HB0.out.size)
      clear hsz m0 m1 m2 m3 m4 m5 m6 m7 m8 HZZ HB HS HT HB0 hb3
      go_wp2
      go_ret
      exact ⟨by first | rfl | (subst he; rfl), hpost⟩
  · have he : -1 = zz := by rw [← HZZ.out, leftR_no (by omega)]
    go_enter Try.func47, Try.ntmps47
    go_wp2_with fail
    refine (szF_no C m.length cc left _ (by omega) (by omega) h1 (by omega)).mono ?_
    rintro e w2 ⟨rfl, rfl⟩
    have hpost := HB0.out
    clear m0 m1 m2 m3 m4 m5 m6 m7 m8 HZZ HB HS HT HB0
    go_wp2
    go_ret
    exact ⟨by first | rfl | (subst he; rfl), hpost⟩

/-- The same with what is owned. -/
def RuleParts (m : List (Int × Int)) (s t : Tm) (w : World) (e : Ending) (w' : World) : Prop :=
  ∃ C cc A1 c1 B1 d1 A2 c2 B2 d2 S1 S2, e = .returned (.agg #[.slice C m.length cc, .int .i64 s.op, .int .i64 s.num, .slice A1 s.perm.length c1, .slice B1 s.kids.length d1, .int .i64 t.op, .int .i64 t.num, .slice A2 t.perm.length c2, .slice B2 t.kids.length d2]) ∧ w'.ownsRow w.heap.size 123 2 (.slice C m.length cc) m.length (cellsOf m) ∧ OwnL w' S1 [.int .i64 s.op, .int .i64 s.num, .slice A1 s.perm.length c1, .slice B1 s.kids.length d1] (encT s) ∧ OwnL w' S2 [.int .i64 t.op, .int .i64 t.num, .slice A2 t.perm.length c2, .slice B2 t.kids.length d2] (encT t) ∧
    (∀ b ∈ S1, w.heap.size ≤ b) ∧ (∀ b ∈ S2, w.heap.size ≤ b) ∧ (∀ b, (Value.slice C m.length cc).ownBlock = some b → b ∉ S1) ∧ (∀ b, (Value.slice C m.length cc).ownBlock = some b → b ∉ S2) ∧ (∀ b ∈ S1, b ∉ S2) ∧ Below w.heap.size w w'

set_option maxRecDepth 100000 in
set_option maxHeartbeats 8000000 in
theorem toRule_parts (m : List (Int × Int)) (s t : Tm) (hml : m.length ≤ 1048576) (hfs : Fit s) (hft : Fit t) (w : World) (x : Value) (hx : RuleIn w x m s t) :
    Calls Try.prog 49 #[x] w (RuleParts m s t w) := by
  obtain ⟨C, cc, A1, c1, B1, d1, A2, c2, B2, d2, rfl, hp, h2, h3⟩ := hx
  have hb0 : Below w.heap.size w (((w.alloc (.cells #[.slice C m.length cc, .int .i64 s.op, .int .i64 s.num, .slice A1 s.perm.length c1, .slice B1 s.kids.length d1, .int .i64 t.op, .int .i64 t.num, .slice A2 t.perm.length c2, .slice B2 t.kids.length d2] 63)).alloc (.cells #[.slice none 0 0, .int .i64 0, .int .i64 0, .slice none 0 0, .slice none 0 0, .int .i64 0, .int .i64 0, .slice none 0 0, .slice none 0 0] 68)).alloc (.cells #[.slice none 0 0, .int .i64 0, .int .i64 0, .slice none 0 0, .slice none 0 0, .int .i64 0, .int .i64 0, .slice none 0 0, .slice none 0 0] 68)) := (((Below.refl _ _).alloc (Nat.le_refl _) _).alloc (by simp) _).alloc (by simp; omega) _
  have hsz0 : (((w.alloc (.cells #[.slice C m.length cc, .int .i64 s.op, .int .i64 s.num, .slice A1 s.perm.length c1, .slice B1 s.kids.length d1, .int .i64 t.op, .int .i64 t.num, .slice A2 t.perm.length c2, .slice B2 t.kids.length d2] 63)).alloc (.cells #[.slice none 0 0, .int .i64 0, .int .i64 0, .slice none 0 0, .slice none 0 0, .int .i64 0, .int .i64 0, .slice none 0 0, .slice none 0 0] 68)).alloc (.cells #[.slice none 0 0, .int .i64 0, .int .i64 0, .slice none 0 0, .slice none 0 0, .int .i64 0, .int .i64 0, .slice none 0 0, .slice none 0 0] 68)).heap.size = w.heap.size + 3 := by simp
  have hbox : (((w.alloc (.cells #[.slice C m.length cc, .int .i64 s.op, .int .i64 s.num, .slice A1 s.perm.length c1, .slice B1 s.kids.length d1, .int .i64 t.op, .int .i64 t.num, .slice A2 t.perm.length c2, .slice B2 t.kids.length d2] 63)).alloc (.cells #[.slice none 0 0, .int .i64 0, .int .i64 0, .slice none 0 0, .slice none 0 0, .int .i64 0, .int .i64 0, .slice none 0 0, .slice none 0 0] 68)).alloc (.cells #[.slice none 0 0, .int .i64 0, .int .i64 0, .slice none 0 0, .slice none 0 0, .int .i64 0, .int .i64 0, .slice none 0 0, .slice none 0 0] 68)).heap[w.heap.size]? = some (.cells #[.slice C m.length cc, .int .i64 s.op, .int .i64 s.num, .slice A1 s.perm.length c1, .slice B1 s.kids.length d1, .int .i64 t.op, .int .i64 t.num, .slice A2 t.perm.length c2, .slice B2 t.kids.length d2] 63 (0, 0)) := (Below.heap_alloc _ _ _ (by simp; omega)).trans ((Below.heap_alloc _ _ _ (by simp)).trans (heap_alloc_new w _))
  have hres : (((w.alloc (.cells #[.slice C m.length cc, .int .i64 s.op, .int .i64 s.num, .slice A1 s.perm.length c1, .slice B1 s.kids.length d1, .int .i64 t.op, .int .i64 t.num, .slice A2 t.perm.length c2, .slice B2 t.kids.length d2] 63)).alloc (.cells #[.slice none 0 0, .int .i64 0, .int .i64 0, .slice none 0 0, .slice none 0 0, .int .i64 0, .int .i64 0, .slice none 0 0, .slice none 0 0] 68)).alloc (.cells #[.slice none 0 0, .int .i64 0, .int .i64 0, .slice none 0 0, .slice none 0 0, .int .i64 0, .int .i64 0, .slice none 0 0, .slice none 0 0] 68)).heap[w.heap.size + 1]? = some (.cells #[.slice none 0 0, .int .i64 0, .int .i64 0, .slice none 0 0, .slice none 0 0, .int .i64 0, .int .i64 0, .slice none 0 0, .slice none 0 0] 68 (0, 0)) := by
    have h9 := heap_alloc_new (w.alloc (.cells #[.slice C m.length cc, .int .i64 s.op, .int .i64 s.num, .slice A1 s.perm.length c1, .slice B1 s.kids.length d1, .int .i64 t.op, .int .i64 t.num, .slice A2 t.perm.length c2, .slice B2 t.kids.length d2] 63)) (.cells #[.slice none 0 0, .int .i64 0, .int .i64 0, .slice none 0 0, .slice none 0 0, .int .i64 0, .int .i64 0, .slice none 0 0, .slice none 0 0] 68)
    rw [World.size_alloc] at h9
    exact (Below.heap_alloc _ _ _ (by simp)).trans h9
  have hout : (((w.alloc (.cells #[.slice C m.length cc, .int .i64 s.op, .int .i64 s.num, .slice A1 s.perm.length c1, .slice B1 s.kids.length d1, .int .i64 t.op, .int .i64 t.num, .slice A2 t.perm.length c2, .slice B2 t.kids.length d2] 63)).alloc (.cells #[.slice none 0 0, .int .i64 0, .int .i64 0, .slice none 0 0, .slice none 0 0, .int .i64 0, .int .i64 0, .slice none 0 0, .slice none 0 0] 68)).alloc (.cells #[.slice none 0 0, .int .i64 0, .int .i64 0, .slice none 0 0, .slice none 0 0, .int .i64 0, .int .i64 0, .slice none 0 0, .slice none 0 0] 68)).heap[w.heap.size + 1 + 1]? = some (.cells #[.slice none 0 0, .int .i64 0, .int .i64 0, .slice none 0 0, .slice none 0 0, .int .i64 0, .int .i64 0, .slice none 0 0, .slice none 0 0] 68 (0, 0)) := by
    have h9 := heap_alloc_new ((w.alloc (.cells #[.slice C m.length cc, .int .i64 s.op, .int .i64 s.num, .slice A1 s.perm.length c1, .slice B1 s.kids.length d1, .int .i64 t.op, .int .i64 t.num, .slice A2 t.perm.length c2, .slice B2 t.kids.length d2] 63)).alloc (.cells #[.slice none 0 0, .int .i64 0, .int .i64 0, .slice none 0 0, .slice none 0 0, .int .i64 0, .int .i64 0, .slice none 0 0, .slice none 0 0] 68)) (.cells #[.slice none 0 0, .int .i64 0, .int .i64 0, .slice none 0 0, .slice none 0 0, .int .i64 0, .int .i64 0, .slice none 0 0, .slice none 0 0] 68)
    rw [World.size_alloc, World.size_alloc] at h9
    exact h9
  have hto := toFreshS_any C cc m (((w.alloc (.cells #[.slice C m.length cc, .int .i64 s.op, .int .i64 s.num, .slice A1 s.perm.length c1, .slice B1 s.kids.length d1, .int .i64 t.op, .int .i64 t.num, .slice A2 t.perm.length c2, .slice B2 t.kids.length d2] 63)).alloc (.cells #[.slice none 0 0, .int .i64 0, .int .i64 0, .slice none 0 0, .slice none 0 0, .int .i64 0, .int .i64 0, .slice none 0 0, .slice none 0 0] 68)).alloc (.cells #[.slice none 0 0, .int .i64 0, .int .i64 0, .slice none 0 0, .slice none 0 0, .int .i64 0, .int .i64 0, .slice none 0 0, .slice none 0 0] 68)) (hp.below hb0) (by omega)
  have HSS := Lib.hid h2
  have HTT := Lib.hid h3
  have HS0 := Lib.hid hsz0
  have HK := Lib.hid hbox
  have HR := Lib.hid hres
  have HO := Lib.hid hout
  have HB0 := Lib.hid hb0
  obtain ⟨m0, m1, m2, m3, m4, m5, m6, m7, m8⟩ := RuleK.row9 hbox
  clear hp h2 h3 hbox hres hout hb0 hsz0
  go_enter Try.func49, Try.ntmps49
  go_wp2_with fail
  refine hto.mono ?_
  rintro e w1 ⟨v1, rfl, ho1, hb1⟩
  obtain ⟨C1, cc1, rfl, _⟩ := own_pairsAt ho1
  have ho1 := own_le ho1 (show w.heap.size + 3 ≤ _ by rw [HS0.out]; exact Nat.le_refl _)
  have hz1 : w.heap.size + 3 ≤ w1.heap.size := by have h := hb1.size; rw [HS0.out] at h; exact h
  have k1 := (hb1.block w.heap.size (by rw [HS0.out]; omega)).trans HK.out
  have r1 := (hb1.block (w.heap.size + 1) (by rw [HS0.out]; omega)).trans HR.out
  have o1 := (hb1.block (w.heap.size + 1 + 1) (by rw [HS0.out]; omega)).trans HO.out
  have hbz1 := HB0.out.trans (hb1.mono HB0.out.size)
  clear hto m0 m1 m2 m3 m4 m5 m6 m7 m8 hb1 HK HR HO HB0 HS0
  obtain ⟨x0, x1, x2, x3, x4, x5, x6, x7, x8⟩ := RuleK.row9 o1
  have y0 := frozen_of_row _ _ 0 _ _ o1
  have on : Only [w.heap.size + 1 + 1] w1 (w1.setCell ⟨w.heap.size + 1 + 1, 0, none⟩ (.slice C1 m.length cc1)) := ((Only.refl _ _).set ⟨w.heap.size + 1 + 1, 0, none⟩ (.slice C1 m.length cc1) (by simp))
  have o1' := heap_setCell_same w1 (w.heap.size + 1 + 1) 0 _ _ (.slice C1 m.length cc1) o1
  have k1' := (on.block w.heap.size (BoxR.box_lt k1) (by first | (simp; done) | (simp; omega))).trans k1
  have r1' := (on.block (w.heap.size + 1) (BoxR.box_lt r1) (by first | (simp; done) | (simp; omega))).trans r1
  have hbA := (hbz1.setCell (p := ⟨w.heap.size + 1 + 1, 0, none⟩) (show w.heap.size ≤ w.heap.size + 1 + 1 by omega) (.slice C1 m.length cc1))
  have hoA := own_only ho1 on (fun k e hm => by have h1 := ho1.lt k e; simp at hm; omega)
  have hszA : (w1.setCell ⟨w.heap.size + 1 + 1, 0, none⟩ (.slice C1 m.length cc1)).heap.size = w1.heap.size := by simp
  have hto := toTerm_any s hfs (w1.setCell ⟨w.heap.size + 1 + 1, 0, none⟩ (.slice C1 m.length cc1)) _ (HSS.out.below hbA)
  obtain ⟨m0, m1, m2, m3, m4, m5, m6, m7, m8⟩ := RuleK.row9 k1'
  have HO := Lib.hid o1'
  have HK := Lib.hid k1'
  have HR := Lib.hid r1'
  have HBA := Lib.hid hbA
  have HOA := Lib.hid hoA
  have HSA := Lib.hid hszA
  have HOA2 := Lib.hid ho1
  clear o1 o1' k1 k1' r1 r1' hbA hoA on ho1 hbz1 hszA
  go_wp2_with fail
  refine hto.mono ?_
  rintro e w2 ⟨P1, q1, K1, r1, S1, rfl, hL1, hS1, hb2⟩
  rw [HSA.out] at hS1
  have hz3 : w1.heap.size ≤ w2.heap.size := by have h := hb2.size; rw [HSA.out] at h; exact h
  have hz2 : w.heap.size + 3 ≤ w2.heap.size := by omega
  have k2 := (hb2.block w.heap.size (BoxR.box_lt HK.out)).trans HK.out
  have rr2 := (hb2.block (w.heap.size + 1) (BoxR.box_lt HR.out)).trans HR.out
  have o2 := (hb2.block (w.heap.size + 1 + 1) (BoxR.box_lt HO.out)).trans HO.out
  have hbz2 := HBA.out.trans (hb2.mono HBA.out.size)
  have ho2 := own_below HOA.out hb2
  clear hto m0 m1 m2 m3 m4 m5 m6 m7 m8 x0 x1 x2 x3 x4 x5 x6 x7 x8 y0 hb2 HK HR HO HBA HOA HSA
  obtain ⟨x0, x1, x2, x3, x4, x5, x6, x7, x8⟩ := RuleK.row9 o2
  have y1 := frozen_of_row _ _ 1 _ _ o2
  have y2 := frozen_of_row _ _ 2 _ _ o2
  have y3 := frozen_of_row _ _ 3 _ _ o2
  have y4 := frozen_of_row _ _ 4 _ _ o2
  have on : Only [w.heap.size + 1 + 1] w2 ((((w2.setCell ⟨w.heap.size + 1 + 1, 1, none⟩ (.int .i64 s.op)).setCell ⟨w.heap.size + 1 + 1, 2, none⟩ (.int .i64 s.num)).setCell ⟨w.heap.size + 1 + 1, 3, none⟩ (.slice P1 s.perm.length q1)).setCell ⟨w.heap.size + 1 + 1, 4, none⟩ (.slice K1 s.kids.length r1)) := (((((Only.refl _ _).set ⟨w.heap.size + 1 + 1, 1, none⟩ (.int .i64 s.op) (by simp)).set ⟨w.heap.size + 1 + 1, 2, none⟩ (.int .i64 s.num) (by simp)).set ⟨w.heap.size + 1 + 1, 3, none⟩ (.slice P1 s.perm.length q1) (by simp)).set ⟨w.heap.size + 1 + 1, 4, none⟩ (.slice K1 s.kids.length r1) (by simp))
  have oB0 := heap_setCell_same w2 (w.heap.size + 1 + 1) 1 _ _ (.int .i64 s.op) o2
  have oB1 := heap_setCell_same (w2.setCell ⟨w.heap.size + 1 + 1, 1, none⟩ (.int .i64 s.op)) (w.heap.size + 1 + 1) 2 _ _ (.int .i64 s.num) oB0
  have oB2 := heap_setCell_same ((w2.setCell ⟨w.heap.size + 1 + 1, 1, none⟩ (.int .i64 s.op)).setCell ⟨w.heap.size + 1 + 1, 2, none⟩ (.int .i64 s.num)) (w.heap.size + 1 + 1) 3 _ _ (.slice P1 s.perm.length q1) oB1
  have oB3 := heap_setCell_same (((w2.setCell ⟨w.heap.size + 1 + 1, 1, none⟩ (.int .i64 s.op)).setCell ⟨w.heap.size + 1 + 1, 2, none⟩ (.int .i64 s.num)).setCell ⟨w.heap.size + 1 + 1, 3, none⟩ (.slice P1 s.perm.length q1)) (w.heap.size + 1 + 1) 4 _ _ (.slice K1 s.kids.length r1) oB2
  have k2' := (on.block w.heap.size (BoxR.box_lt k2) (by first | (simp; done) | (simp; omega))).trans k2
  have r2' := (on.block (w.heap.size + 1) (BoxR.box_lt rr2) (by first | (simp; done) | (simp; omega))).trans rr2
  have hbB := ((((hbz2.setCell (p := ⟨w.heap.size + 1 + 1, 1, none⟩) (show w.heap.size ≤ w.heap.size + 1 + 1 by omega) (.int .i64 s.op)).setCell (p := ⟨w.heap.size + 1 + 1, 2, none⟩) (show w.heap.size ≤ w.heap.size + 1 + 1 by omega) (.int .i64 s.num)).setCell (p := ⟨w.heap.size + 1 + 1, 3, none⟩) (show w.heap.size ≤ w.heap.size + 1 + 1 by omega) (.slice P1 s.perm.length q1)).setCell (p := ⟨w.heap.size + 1 + 1, 4, none⟩) (show w.heap.size ≤ w.heap.size + 1 + 1 by omega) (.slice K1 s.kids.length r1))
  have hoB := own_only ho2 on (fun k e hm => by have h1 := ho2.lt k e; simp at hm; omega)
  have hLB := hL1.alike (w' := ((((w2.setCell ⟨w.heap.size + 1 + 1, 1, none⟩ (.int .i64 s.op)).setCell ⟨w.heap.size + 1 + 1, 2, none⟩ (.int .i64 s.num)).setCell ⟨w.heap.size + 1 + 1, 3, none⟩ (.slice P1 s.perm.length q1)).setCell ⟨w.heap.size + 1 + 1, 4, none⟩ (.slice K1 s.kids.length r1))) fun bb hbb => on.block bb (hL1.lt bb hbb) (by have := hS1 bb hbb; simp; omega)
  have hszB : ((((w2.setCell ⟨w.heap.size + 1 + 1, 1, none⟩ (.int .i64 s.op)).setCell ⟨w.heap.size + 1 + 1, 2, none⟩ (.int .i64 s.num)).setCell ⟨w.heap.size + 1 + 1, 3, none⟩ (.slice P1 s.perm.length q1)).setCell ⟨w.heap.size + 1 + 1, 4, none⟩ (.slice K1 s.kids.length r1)).heap.size = w2.heap.size := by simp
  have hto := toTerm_any t hft ((((w2.setCell ⟨w.heap.size + 1 + 1, 1, none⟩ (.int .i64 s.op)).setCell ⟨w.heap.size + 1 + 1, 2, none⟩ (.int .i64 s.num)).setCell ⟨w.heap.size + 1 + 1, 3, none⟩ (.slice P1 s.perm.length q1)).setCell ⟨w.heap.size + 1 + 1, 4, none⟩ (.slice K1 s.kids.length r1)) _ (HTT.out.below hbB)
  obtain ⟨m0, m1, m2, m3, m4, m5, m6, m7, m8⟩ := RuleK.row9 k2'
  have HO := Lib.hid oB3
  have HR := Lib.hid r2'
  have HBB := Lib.hid hbB
  have HOB := Lib.hid hoB
  have HLB := Lib.hid hLB
  have HSB := Lib.hid hszB
  have HL12 := Lib.hid (fun b (h : b ∈ S1) => hL1.lt b h)
  have HZ2 := Lib.hid (show w1.heap.size ≤ w2.heap.size by omega)
  clear o2 oB0 oB1 oB2 oB3 k2 k2' rr2 r2' hbB hoB hLB on ho2 hbz2 hszB hL1
  go_wp2_with fail
  refine hto.mono ?_
  rintro e w3 ⟨P2, q2, K2, r2, S2, rfl, hL2, hS2, hb3⟩
  rw [HSB.out] at hS2
  have rr3 := (hb3.block (w.heap.size + 1) (BoxR.box_lt HR.out)).trans HR.out
  have o3 := (hb3.block (w.heap.size + 1 + 1) (BoxR.box_lt HO.out)).trans HO.out
  have hbz3 := HBB.out.trans (hb3.mono HBB.out.size)
  have ho3 := own_below HOB.out hb3
  have hL1 := HLB.out.alike (w' := w3) fun bb hbb => hb3.block bb (HLB.out.lt bb hbb)
  clear hto m0 m1 m2 m3 m4 m5 m6 m7 m8 x0 x1 x2 x3 x4 x5 x6 x7 x8 y1 y2 y3 y4 hb3 HR HO HBB HOB HLB HSB
  have on : Only [w.heap.size + 1 + 1, w.heap.size + 1] w3 (((((((((((((w3.setCell ⟨w.heap.size + 1 + 1, 5, none⟩ (.int .i64 t.op)).setCell ⟨w.heap.size + 1 + 1, 6, none⟩ (.int .i64 t.num)).setCell ⟨w.heap.size + 1 + 1, 7, none⟩ (.slice P2 t.perm.length q2)).setCell ⟨w.heap.size + 1 + 1, 8, none⟩ (.slice K2 t.kids.length r2)).setCell ⟨w.heap.size + 1, 0, none⟩ (.slice C1 m.length cc1)).setCell ⟨w.heap.size + 1, 1, none⟩ (.int .i64 s.op)).setCell ⟨w.heap.size + 1, 2, none⟩ (.int .i64 s.num)).setCell ⟨w.heap.size + 1, 3, none⟩ (.slice P1 s.perm.length q1)).setCell ⟨w.heap.size + 1, 4, none⟩ (.slice K1 s.kids.length r1)).setCell ⟨w.heap.size + 1, 5, none⟩ (.int .i64 t.op)).setCell ⟨w.heap.size + 1, 6, none⟩ (.int .i64 t.num)).setCell ⟨w.heap.size + 1, 7, none⟩ (.slice P2 t.perm.length q2)).setCell ⟨w.heap.size + 1, 8, none⟩ (.slice K2 t.kids.length r2)) := ((((((((((((((Only.refl _ _).set ⟨w.heap.size + 1 + 1, 5, none⟩ (.int .i64 t.op) (by simp)).set ⟨w.heap.size + 1 + 1, 6, none⟩ (.int .i64 t.num) (by simp)).set ⟨w.heap.size + 1 + 1, 7, none⟩ (.slice P2 t.perm.length q2) (by simp)).set ⟨w.heap.size + 1 + 1, 8, none⟩ (.slice K2 t.kids.length r2) (by simp)).set ⟨w.heap.size + 1, 0, none⟩ (.slice C1 m.length cc1) (by simp)).set ⟨w.heap.size + 1, 1, none⟩ (.int .i64 s.op) (by simp)).set ⟨w.heap.size + 1, 2, none⟩ (.int .i64 s.num) (by simp)).set ⟨w.heap.size + 1, 3, none⟩ (.slice P1 s.perm.length q1) (by simp)).set ⟨w.heap.size + 1, 4, none⟩ (.slice K1 s.kids.length r1) (by simp)).set ⟨w.heap.size + 1, 5, none⟩ (.int .i64 t.op) (by simp)).set ⟨w.heap.size + 1, 6, none⟩ (.int .i64 t.num) (by simp)).set ⟨w.heap.size + 1, 7, none⟩ (.slice P2 t.perm.length q2) (by simp)).set ⟨w.heap.size + 1, 8, none⟩ (.slice K2 t.kids.length r2) (by simp))
  have hbD : Below w.heap.size w (((((((((((((w3.setCell ⟨w.heap.size + 1 + 1, 5, none⟩ (.int .i64 t.op)).setCell ⟨w.heap.size + 1 + 1, 6, none⟩ (.int .i64 t.num)).setCell ⟨w.heap.size + 1 + 1, 7, none⟩ (.slice P2 t.perm.length q2)).setCell ⟨w.heap.size + 1 + 1, 8, none⟩ (.slice K2 t.kids.length r2)).setCell ⟨w.heap.size + 1, 0, none⟩ (.slice C1 m.length cc1)).setCell ⟨w.heap.size + 1, 1, none⟩ (.int .i64 s.op)).setCell ⟨w.heap.size + 1, 2, none⟩ (.int .i64 s.num)).setCell ⟨w.heap.size + 1, 3, none⟩ (.slice P1 s.perm.length q1)).setCell ⟨w.heap.size + 1, 4, none⟩ (.slice K1 s.kids.length r1)).setCell ⟨w.heap.size + 1, 5, none⟩ (.int .i64 t.op)).setCell ⟨w.heap.size + 1, 6, none⟩ (.int .i64 t.num)).setCell ⟨w.heap.size + 1, 7, none⟩ (.slice P2 t.perm.length q2)).setCell ⟨w.heap.size + 1, 8, none⟩ (.slice K2 t.kids.length r2)) := (((((((((((((hbz3.setCell (p := ⟨w.heap.size + 1 + 1, 5, none⟩) (show w.heap.size ≤ w.heap.size + 1 + 1 by omega) (.int .i64 t.op)).setCell (p := ⟨w.heap.size + 1 + 1, 6, none⟩) (show w.heap.size ≤ w.heap.size + 1 + 1 by omega) (.int .i64 t.num)).setCell (p := ⟨w.heap.size + 1 + 1, 7, none⟩) (show w.heap.size ≤ w.heap.size + 1 + 1 by omega) (.slice P2 t.perm.length q2)).setCell (p := ⟨w.heap.size + 1 + 1, 8, none⟩) (show w.heap.size ≤ w.heap.size + 1 + 1 by omega) (.slice K2 t.kids.length r2)).setCell (p := ⟨w.heap.size + 1, 0, none⟩) (show w.heap.size ≤ w.heap.size + 1 by omega) (.slice C1 m.length cc1)).setCell (p := ⟨w.heap.size + 1, 1, none⟩) (show w.heap.size ≤ w.heap.size + 1 by omega) (.int .i64 s.op)).setCell (p := ⟨w.heap.size + 1, 2, none⟩) (show w.heap.size ≤ w.heap.size + 1 by omega) (.int .i64 s.num)).setCell (p := ⟨w.heap.size + 1, 3, none⟩) (show w.heap.size ≤ w.heap.size + 1 by omega) (.slice P1 s.perm.length q1)).setCell (p := ⟨w.heap.size + 1, 4, none⟩) (show w.heap.size ≤ w.heap.size + 1 by omega) (.slice K1 s.kids.length r1)).setCell (p := ⟨w.heap.size + 1, 5, none⟩) (show w.heap.size ≤ w.heap.size + 1 by omega) (.int .i64 t.op)).setCell (p := ⟨w.heap.size + 1, 6, none⟩) (show w.heap.size ≤ w.heap.size + 1 by omega) (.int .i64 t.num)).setCell (p := ⟨w.heap.size + 1, 7, none⟩) (show w.heap.size ≤ w.heap.size + 1 by omega) (.slice P2 t.perm.length q2)).setCell (p := ⟨w.heap.size + 1, 8, none⟩) (show w.heap.size ≤ w.heap.size + 1 by omega) (.slice K2 t.kids.length r2))
  have hoD := own_only ho3 on (fun k e hm => by have h1 := ho3.lt k e; simp at hm; omega)
  have hLD1 := hL1.alike (w' := (((((((((((((w3.setCell ⟨w.heap.size + 1 + 1, 5, none⟩ (.int .i64 t.op)).setCell ⟨w.heap.size + 1 + 1, 6, none⟩ (.int .i64 t.num)).setCell ⟨w.heap.size + 1 + 1, 7, none⟩ (.slice P2 t.perm.length q2)).setCell ⟨w.heap.size + 1 + 1, 8, none⟩ (.slice K2 t.kids.length r2)).setCell ⟨w.heap.size + 1, 0, none⟩ (.slice C1 m.length cc1)).setCell ⟨w.heap.size + 1, 1, none⟩ (.int .i64 s.op)).setCell ⟨w.heap.size + 1, 2, none⟩ (.int .i64 s.num)).setCell ⟨w.heap.size + 1, 3, none⟩ (.slice P1 s.perm.length q1)).setCell ⟨w.heap.size + 1, 4, none⟩ (.slice K1 s.kids.length r1)).setCell ⟨w.heap.size + 1, 5, none⟩ (.int .i64 t.op)).setCell ⟨w.heap.size + 1, 6, none⟩ (.int .i64 t.num)).setCell ⟨w.heap.size + 1, 7, none⟩ (.slice P2 t.perm.length q2)).setCell ⟨w.heap.size + 1, 8, none⟩ (.slice K2 t.kids.length r2))) fun bb hbb => on.block bb (hL1.lt bb hbb) (by have := hS1 bb hbb; simp; omega)
  have hLD2 := hL2.alike (w' := (((((((((((((w3.setCell ⟨w.heap.size + 1 + 1, 5, none⟩ (.int .i64 t.op)).setCell ⟨w.heap.size + 1 + 1, 6, none⟩ (.int .i64 t.num)).setCell ⟨w.heap.size + 1 + 1, 7, none⟩ (.slice P2 t.perm.length q2)).setCell ⟨w.heap.size + 1 + 1, 8, none⟩ (.slice K2 t.kids.length r2)).setCell ⟨w.heap.size + 1, 0, none⟩ (.slice C1 m.length cc1)).setCell ⟨w.heap.size + 1, 1, none⟩ (.int .i64 s.op)).setCell ⟨w.heap.size + 1, 2, none⟩ (.int .i64 s.num)).setCell ⟨w.heap.size + 1, 3, none⟩ (.slice P1 s.perm.length q1)).setCell ⟨w.heap.size + 1, 4, none⟩ (.slice K1 s.kids.length r1)).setCell ⟨w.heap.size + 1, 5, none⟩ (.int .i64 t.op)).setCell ⟨w.heap.size + 1, 6, none⟩ (.int .i64 t.num)).setCell ⟨w.heap.size + 1, 7, none⟩ (.slice P2 t.perm.length q2)).setCell ⟨w.heap.size + 1, 8, none⟩ (.slice K2 t.kids.length r2))) fun bb hbb => on.block bb (hL2.lt bb hbb) (by have := hS2 bb hbb; simp; omega)
  have hd1 : ∀ b, (Value.slice C1 m.length cc1).ownBlock = some b → b ∉ S1 := fun b e hm => by have h1 := (HOA2.out.lt b e).2; have h2 := hS1 b hm; omega
  have hd2 : ∀ b, (Value.slice C1 m.length cc1).ownBlock = some b → b ∉ S2 := fun b e hm => by have h1 := (HOA2.out.lt b e).2; have h2 := hS2 b hm; have h3 := HZ2.out; omega
  have hd : ∀ b ∈ S1, b ∉ S2 := fun b h1 h2 => by have h3 := HL12.out b h1; have h4 := hS2 b h2; omega
  have hpost : RuleParts m s t w (.returned (.agg #[.slice C1 m.length cc1, .int .i64 s.op, .int .i64 s.num, .slice P1 s.perm.length q1, .slice K1 s.kids.length r1, .int .i64 t.op, .int .i64 t.num, .slice P2 t.perm.length q2, .slice K2 t.kids.length r2])) (((((((((((((w3.setCell ⟨w.heap.size + 1 + 1, 5, none⟩ (.int .i64 t.op)).setCell ⟨w.heap.size + 1 + 1, 6, none⟩ (.int .i64 t.num)).setCell ⟨w.heap.size + 1 + 1, 7, none⟩ (.slice P2 t.perm.length q2)).setCell ⟨w.heap.size + 1 + 1, 8, none⟩ (.slice K2 t.kids.length r2)).setCell ⟨w.heap.size + 1, 0, none⟩ (.slice C1 m.length cc1)).setCell ⟨w.heap.size + 1, 1, none⟩ (.int .i64 s.op)).setCell ⟨w.heap.size + 1, 2, none⟩ (.int .i64 s.num)).setCell ⟨w.heap.size + 1, 3, none⟩ (.slice P1 s.perm.length q1)).setCell ⟨w.heap.size + 1, 4, none⟩ (.slice K1 s.kids.length r1)).setCell ⟨w.heap.size + 1, 5, none⟩ (.int .i64 t.op)).setCell ⟨w.heap.size + 1, 6, none⟩ (.int .i64 t.num)).setCell ⟨w.heap.size + 1, 7, none⟩ (.slice P2 t.perm.length q2)).setCell ⟨w.heap.size + 1, 8, none⟩ (.slice K2 t.kids.length r2)) :=
    ⟨C1, cc1, P1, q1, K1, r1, P2, q2, K2, r2, S1, S2, rfl, own_le hoD (by omega), hLD1, hLD2, fun b h => by have := hS1 b h; omega, fun b h => by have := hS2 b h; omega, hd1, hd2, hd, hbD⟩
  obtain ⟨x0, x1, x2, x3, x4, x5, x6, x7, x8⟩ := RuleK.row9 o3
  have y0 := frozen_of_row _ _ 0 _ _ o3
  have y1 := frozen_of_row _ _ 1 _ _ o3
  have y2 := frozen_of_row _ _ 2 _ _ o3
  have y3 := frozen_of_row _ _ 3 _ _ o3
  have y4 := frozen_of_row _ _ 4 _ _ o3
  have y5 := frozen_of_row _ _ 5 _ _ o3
  have y6 := frozen_of_row _ _ 6 _ _ o3
  have y7 := frozen_of_row _ _ 7 _ _ o3
  have y8 := frozen_of_row _ _ 8 _ _ o3
  obtain ⟨s0, s1, s2, s3, s4, s5, s6, s7, s8⟩ := RuleK.row9 rr3
  have z0 := frozen_of_row _ _ 0 _ _ rr3
  have z1 := frozen_of_row _ _ 1 _ _ rr3
  have z2 := frozen_of_row _ _ 2 _ _ rr3
  have z3 := frozen_of_row _ _ 3 _ _ rr3
  have z4 := frozen_of_row _ _ 4 _ _ rr3
  have z5 := frozen_of_row _ _ 5 _ _ rr3
  have z6 := frozen_of_row _ _ 6 _ _ rr3
  have z7 := frozen_of_row _ _ 7 _ _ rr3
  have z8 := frozen_of_row _ _ 8 _ _ rr3
  clear o3 rr3 hbz3 ho3 hL1 hL2 on hbD hoD hLD1 hLD2 hS1 hS2 HSS HTT hd1 hd2 hd HOA2 HL12 HZ2
  go_wp2
  exact bodyPost_ret (v := .agg #[.slice C1 m.length cc1, .int .i64 s.op, .int .i64 s.num, .slice P1 s.perm.length q1, .slice K1 s.kids.length r1, .int .i64 t.op, .int .i64 t.num, .slice P2 t.perm.length q2, .slice K2 t.kids.length r2]) (by simp [results, Try.results49, go_sem, s0, s1, s2, s3, s4, s5, s6, s7, s8]) rfl hpost
set_option maxRecDepth 100000 in
set_option maxHeartbeats 4000000 in
theorem eqRule_any (m : List (Int × Int)) (s t : Tm) (hml : m.length ≤ 1048576) (hfs : Fit s) (hft : Fit t) (w : World) (x y : Value) (hx : RuleIn w x m s t) (hy : RuleIn w y m s t) :
    Calls Try.prog 51 #[x, y] w (YesPost w) := by
  obtain ⟨C, cc, A1, c1, B1, d1, A2, c2, B2, d2, rfl, hp, h2, h3⟩ := hx
  obtain ⟨C', cc', A1', c1', B1', d1', A2', c2', B2', d2', rfl, hp', h2', h3'⟩ := hy
  have hb0 : Below w.heap.size w ((w.alloc (.cells #[.slice C m.length cc, .int .i64 s.op, .int .i64 s.num, .slice A1 s.perm.length c1, .slice B1 s.kids.length d1, .int .i64 t.op, .int .i64 t.num, .slice A2 t.perm.length c2, .slice B2 t.kids.length d2] 68)).alloc (.cells #[.slice C' m.length cc', .int .i64 s.op, .int .i64 s.num, .slice A1' s.perm.length c1', .slice B1' s.kids.length d1', .int .i64 t.op, .int .i64 t.num, .slice A2' t.perm.length c2', .slice B2' t.kids.length d2'] 68)) := ((Below.refl _ _).alloc (Nat.le_refl _) _).alloc (by simp) _
  have k0 : ((w.alloc (.cells #[.slice C m.length cc, .int .i64 s.op, .int .i64 s.num, .slice A1 s.perm.length c1, .slice B1 s.kids.length d1, .int .i64 t.op, .int .i64 t.num, .slice A2 t.perm.length c2, .slice B2 t.kids.length d2] 68)).alloc (.cells #[.slice C' m.length cc', .int .i64 s.op, .int .i64 s.num, .slice A1' s.perm.length c1', .slice B1' s.kids.length d1', .int .i64 t.op, .int .i64 t.num, .slice A2' t.perm.length c2', .slice B2' t.kids.length d2'] 68)).heap[w.heap.size]? = some (.cells #[.slice C m.length cc, .int .i64 s.op, .int .i64 s.num, .slice A1 s.perm.length c1, .slice B1 s.kids.length d1, .int .i64 t.op, .int .i64 t.num, .slice A2 t.perm.length c2, .slice B2 t.kids.length d2] 68 (0, 0)) := (Below.heap_alloc _ _ _ (by simp)).trans (heap_alloc_new w _)
  have k1 : ((w.alloc (.cells #[.slice C m.length cc, .int .i64 s.op, .int .i64 s.num, .slice A1 s.perm.length c1, .slice B1 s.kids.length d1, .int .i64 t.op, .int .i64 t.num, .slice A2 t.perm.length c2, .slice B2 t.kids.length d2] 68)).alloc (.cells #[.slice C' m.length cc', .int .i64 s.op, .int .i64 s.num, .slice A1' s.perm.length c1', .slice B1' s.kids.length d1', .int .i64 t.op, .int .i64 t.num, .slice A2' t.perm.length c2', .slice B2' t.kids.length d2'] 68)).heap[w.heap.size + 1]? = some (.cells #[.slice C' m.length cc', .int .i64 s.op, .int .i64 s.num, .slice A1' s.perm.length c1', .slice B1' s.kids.length d1', .int .i64 t.op, .int .i64 t.num, .slice A2' t.perm.length c2', .slice B2' t.kids.length d2'] 68 (0, 0)) := by
    have h := heap_alloc_new (w.alloc (.cells #[.slice C m.length cc, .int .i64 s.op, .int .i64 s.num, .slice A1 s.perm.length c1, .slice B1 s.kids.length d1, .int .i64 t.op, .int .i64 t.num, .slice A2 t.perm.length c2, .slice B2 t.kids.length d2] 68)) (.cells #[.slice C' m.length cc', .int .i64 s.op, .int .i64 s.num, .slice A1' s.perm.length c1', .slice B1' s.kids.length d1', .int .i64 t.op, .int .i64 t.num, .slice A2' t.perm.length c2', .slice B2' t.kids.length d2'] 68)
    rw [World.size_alloc] at h
    exact h
  have he1 := eqFreshS_any C C' cc cc' m m ((w.alloc (.cells #[.slice C m.length cc, .int .i64 s.op, .int .i64 s.num, .slice A1 s.perm.length c1, .slice B1 s.kids.length d1, .int .i64 t.op, .int .i64 t.num, .slice A2 t.perm.length c2, .slice B2 t.kids.length d2] 68)).alloc (.cells #[.slice C' m.length cc', .int .i64 s.op, .int .i64 s.num, .slice A1' s.perm.length c1', .slice B1' s.kids.length d1', .int .i64 t.op, .int .i64 t.num, .slice A2' t.perm.length c2', .slice B2' t.kids.length d2'] 68)) (hp.below hb0) (hp'.below hb0) (by omega)
  rw [decide_eq_true (rfl : m = m)] at he1
  have HS := Lib.hid (And.intro h2 h2')
  have HT := Lib.hid (And.intro h3 h3')
  have HB0 := Lib.hid hb0
  have HK0 := Lib.hid k0
  have HK1 := Lib.hid k1
  obtain ⟨m0, m1, m2, m3, m4, m5, m6, m7, m8⟩ := RuleK.row9 k0
  obtain ⟨n0, n1, n2, n3, n4, n5, n6, n7, n8⟩ := RuleK.row9 k1
  clear hp hp' h2 h2' h3 h3' hb0 k0 k1
  go_enter Try.func51, Try.ntmps51
  go_wp2_with fail
  refine he1.mono ?_
  rintro e w1 ⟨rfl, hb1⟩
  have hbw1 := HB0.out.trans (hb1.mono HB0.out.size)
  have k0 := (hb1.block w.heap.size (BoxR.box_lt HK0.out)).trans HK0.out
  have k1 := (hb1.block (w.heap.size + 1) (BoxR.box_lt HK1.out)).trans HK1.out
  clear he1 m0 m1 m2 m3 m4 m5 m6 m7 m8 n0 n1 n2 n3 n4 n5 n6 n7 n8 HK0 HK1
  obtain ⟨m0, m1, m2, m3, m4, m5, m6, m7, m8⟩ := RuleK.row9 k0
  obtain ⟨n0, n1, n2, n3, n4, n5, n6, n7, n8⟩ := RuleK.row9 k1
  have he2 := eqTerm_any s hfs w1 _ _ (HS.out.1.below hbw1) (HS.out.2.below hbw1)
  have HK0 := Lib.hid k0
  have HK1 := Lib.hid k1
  clear k0 k1
  go_wp2_with fail
  refine he2.mono ?_
  rintro e w2 ⟨rfl, hb2⟩
  have hbw2 := hbw1.trans (hb2.mono hbw1.size)
  have k0 := (hb2.block w.heap.size (BoxR.box_lt HK0.out)).trans HK0.out
  have k1 := (hb2.block (w.heap.size + 1) (BoxR.box_lt HK1.out)).trans HK1.out
  clear he2 m0 m1 m2 m3 m4 m5 m6 m7 m8 n0 n1 n2 n3 n4 n5 n6 n7 n8 HK0 HK1
  obtain ⟨m0, m1, m2, m3, m4, m5, m6, m7, m8⟩ := RuleK.row9 k0
  obtain ⟨n0, n1, n2, n3, n4, n5, n6, n7, n8⟩ := RuleK.row9 k1
  have he3 := eqTerm_any t hft w2 _ _ (HT.out.1.below hbw2) (HT.out.2.below hbw2)
  clear k0 k1
  go_wp2_with fail
  refine he3.mono ?_
  rintro e w3 ⟨rfl, hb3⟩
  have hbw3 := hbw2.trans (hb3.mono hbw2.size)
  clear he3 m0 m1 m2 m3 m4 m5 m6 m7 m8 n0 n1 n2 n3 n4 n5 n6 n7 n8
  go_wp2
  go_ret
  exact ⟨rfl, hbw3⟩

open Go.Deep Go.ChangeShapes Go.WideShapes
theorem rfCells : Try.prog.cellsOf 61 = 1 := by kernel_rfl
section
variable {H : Type} {enc : TypeId × Value → H} {W : World}
theorem open_fs1 {fuel : Nat} {v : Value} {x : DataW H × List MemPlace} (h : DataW.trod enc Try.prog W 0 (fun _ => true) true fuel 61 [v] = some x) :
    ∃ A l c, v = .slice A (l : List (Int × Int)).length c ∧ PairsAt W A l ∧ l.length ≤ maxLen := by
  have hform : ∃ A n c, v = .slice A n c := by
    rcases DataW.trod_slice Try.underlying61 h with ⟨e, _⟩ | ⟨a, len, cap, _, _, _, _, e, _⟩
    · simp at e; exact ⟨_, _, _, e⟩
    · simp at e; exact ⟨_, _, _, e⟩
  obtain ⟨A, n, c, rfl⟩ := hform
  obtain ⟨l, rfl, hA, hm⟩ := open_freshs (W := W) (A := A) (n := n) (c := c) (d := x.1) (p := x.2) ⟨fuel, by simpa [Value.cells] using h⟩
  exact ⟨A, l, c, rfl, hA, hm⟩
set_option maxRecDepth 100000 in
theorem open_fourRule {fuel : Nat} {v0 v1 v2 v3 : Value} {x : DataW H × List MemPlace} (h : DataW.trod enc Try.prog W 0 (fun _ => true) true fuel 25 [v0, v1, v2, v3] = some x) :
    ∃ (t : Tm) (A : Option Addr) (c : Nat) (B : Option Addr) (d : Nat), v0 = .int .i64 t.op ∧ v1 = .int .i64 t.num ∧ v2 = .slice A t.perm.length c ∧ v3 = .slice B t.kids.length d ∧ TmIn W (.agg #[.int .i64 t.op, .int .i64 t.num, .slice A t.perm.length c, .slice B t.kids.length d]) t ∧ Short t := by
  obtain ⟨xs, m, hmn, _, _, hxl, hfs⟩ := DataW.trod_struct Try.underlying25 h
  match xs, hxl with
  | [y0, y1, y2, y3], _ =>
    have g0 := hfs 0 _ rfl
    have g1 := hfs 1 _ rfl
    have g2 := hfs 2 _ rfl
    have g3 := hfs 3 _ rfl
    simp [intCells, psCells, tsCells] at g0 g1 g2 g3
    obtain ⟨z0, e0, _⟩ := DataW.trod_int Try.underlying3 g0
    obtain ⟨z1, e1, _⟩ := DataW.trod_int Try.underlying3 g1
    simp at e0 e1
    subst e0; subst e1
    obtain ⟨A, l, c, rfl, hA, hlm⟩ := open_ps g2
    obtain ⟨ks, hks, hsh, hkm⟩ := open_tms m m (Nat.le_refl _) v3 y3 g3
    obtain ⟨B, d, rfl⟩ := hks.form
    exact ⟨.mk z0 z1 l ks, A, c, B, d, rfl, rfl, rfl, rfl, ⟨A, c, _, rfl, hA, hks⟩, hlm, hkm, hsh⟩
end
end Go.Proofs.Ytnomidnjglbedaa
end

section
namespace Go.Proofs.Ytnomidnjglbedaa
open Go.RowKit
set_option linter.unusedVariables false

structure RRule where
  f0 : List (Int × Int)
  f1 : Tm
  f2 : Tm
def zeroRRule : RRule := { f0 := [], f1 := tm0, f2 := tm0 }
instance : Inhabited RRule := ⟨zeroRRule⟩
def atRRule (rs : List RRule) (i : Nat) : RRule := rs.getD i zeroRRule
theorem atRRule_zero (r : RRule) (rs : List RRule) : atRRule (r :: rs) 0 = r := rfl
theorem atRRule_succ (r : RRule) (rs : List RRule) (i : Nat) : atRRule (r :: rs) (i + 1) = atRRule rs i := by simp [atRRule]
theorem takeRRule_next : ∀ {rs : List RRule} {k : Nat}, k < rs.length → rs.take (k + 1) = rs.take k ++ [atRRule rs k]
  | [], k, h => by simp at h
  | r :: rs, 0, _ => by simp [atRRule_zero]
  | r :: rs, k + 1, h => by rw [List.take_succ_cons, List.take_succ_cons, takeRRule_next (rs := rs) (by simpa using h), atRRule_succ]; rfl
/-- The parts that are counted. -/
def cntRRule (r : RRule) : Nat := r.f0.length + cntT r.f1 + cntT r.f2
def sumRRule : List RRule → Nat
  | [] => 0
  | r :: rs => cntRRule r + sumRRule rs
theorem sumRRule_append : ∀ a b : List RRule, sumRRule (a ++ b) = sumRRule a + sumRRule b
  | [], b => by simp [sumRRule]
  | r :: a, b => by rw [List.cons_append, sumRRule, sumRRule, sumRRule_append a b]; omega
theorem sumRRule_next {rs : List RRule} {k : Nat} (h : k < rs.length) : sumRRule (rs.take (k + 1)) = sumRRule (rs.take k) + cntRRule (atRRule rs k) := by
  rw [takeRRule_next h, sumRRule_append]; simp [sumRRule]
theorem sumRRule_take (rs : List RRule) (k : Nat) : sumRRule (rs.take k) ≤ sumRRule rs := by
  have h := sumRRule_append (rs.take k) (rs.drop k)
  rw [List.take_append_drop] at h
  omega
theorem cntRRule_le : ∀ {rs : List RRule} {k : Nat}, k < rs.length → cntRRule (atRRule rs k) ≤ sumRRule rs
  | [], k, h => by simp at h
  | r :: rs, 0, _ => by rw [atRRule_zero, sumRRule]; omega
  | r :: rs, k + 1, h => by have := cntRRule_le (rs := rs) (k := k) (by simpa using h); rw [atRRule_succ, sumRRule]; omega
/-- A value reads as a record. -/
def RRuleIn (w : World) (v : Value) (r : RRule) : Prop := ∃ A0 c0 A1 c1 B1 d1 A2 c2 B2 d2, v = .agg #[.slice A0 r.f0.length c0, .int .i64 r.f1.op, .int .i64 r.f1.num, .slice A1 r.f1.perm.length c1, .slice B1 r.f1.kids.length d1, .int .i64 r.f2.op, .int .i64 r.f2.num, .slice A2 r.f2.perm.length c2, .slice B2 r.f2.kids.length d2] ∧ PairsAt w A0 r.f0 ∧ TmIn w (.agg #[.int .i64 r.f1.op, .int .i64 r.f1.num, .slice A1 r.f1.perm.length c1, .slice B1 r.f1.kids.length d1]) r.f1 ∧ TmIn w (.agg #[.int .i64 r.f2.op, .int .i64 r.f2.num, .slice A2 r.f2.perm.length c2, .slice B2 r.f2.kids.length d2]) r.f2
/-- Cells read as a record. -/
def RRuleAt (w : World) (b off : Nat) (r : RRule) : Prop := ∃ A0 c0 A1 c1 B1 d1 A2 c2 B2 d2, w.cell? ⟨b, off, none⟩ = some (.slice A0 r.f0.length c0) ∧ w.cell? ⟨b, off + 1, none⟩ = some (.int .i64 r.f1.op) ∧ w.cell? ⟨b, off + 2, none⟩ = some (.int .i64 r.f1.num) ∧ w.cell? ⟨b, off + 3, none⟩ = some (.slice A1 r.f1.perm.length c1) ∧ w.cell? ⟨b, off + 4, none⟩ = some (.slice B1 r.f1.kids.length d1) ∧ w.cell? ⟨b, off + 5, none⟩ = some (.int .i64 r.f2.op) ∧ w.cell? ⟨b, off + 6, none⟩ = some (.int .i64 r.f2.num) ∧ w.cell? ⟨b, off + 7, none⟩ = some (.slice A2 r.f2.perm.length c2) ∧ w.cell? ⟨b, off + 8, none⟩ = some (.slice B2 r.f2.kids.length d2) ∧ PairsAt w A0 r.f0 ∧ TmIn w (.agg #[.int .i64 r.f1.op, .int .i64 r.f1.num, .slice A1 r.f1.perm.length c1, .slice B1 r.f1.kids.length d1]) r.f1 ∧ TmIn w (.agg #[.int .i64 r.f2.op, .int .i64 r.f2.num, .slice A2 r.f2.perm.length c2, .slice B2 r.f2.kids.length d2]) r.f2
/-- A slice reads as a list of records. -/
def RRulesIn (w : World) (v : Value) (rs : List RRule) : Prop :=
  ∃ B d, v = .slice B rs.length d ∧ (0 < rs.length → ∃ b off, B = some ⟨b, off, none⟩ ∧ b < w.heap.size ∧ ∀ k, k < rs.length → RRuleAt w b (off + k * 9) (atRRule rs k))
theorem RRuleIn.below {w w' : World} {v : Value} {r : RRule} (h : RRuleIn w v r) (hb : Below w.heap.size w w') : RRuleIn w' v r := by
  obtain ⟨A0, c0, A1, c1, B1, d1, A2, c2, B2, d2, e, h0, h1, h2⟩ := h
  exact ⟨A0, c0, A1, c1, B1, d1, A2, c2, B2, d2, e, h0.below hb, h1.below hb, h2.below hb⟩
theorem RRuleAt.below {w w' : World} {b off : Nat} {r : RRule} (h : RRuleAt w b off r) (hl : b < w.heap.size) (hb : Below w.heap.size w w') : RRuleAt w' b off r := by
  obtain ⟨A0, c0, A1, c1, B1, d1, A2, c2, B2, d2, e0, e1, e2, e3, e4, e5, e6, e7, e8, h0, h1, h2⟩ := h
  exact ⟨A0, c0, A1, c1, B1, d1, A2, c2, B2, d2, (hb.cell (p := ⟨b, off, none⟩) hl).trans e0, (hb.cell (p := ⟨b, off + 1, none⟩) hl).trans e1, (hb.cell (p := ⟨b, off + 2, none⟩) hl).trans e2, (hb.cell (p := ⟨b, off + 3, none⟩) hl).trans e3, (hb.cell (p := ⟨b, off + 4, none⟩) hl).trans e4, (hb.cell (p := ⟨b, off + 5, none⟩) hl).trans e5, (hb.cell (p := ⟨b, off + 6, none⟩) hl).trans e6, (hb.cell (p := ⟨b, off + 7, none⟩) hl).trans e7, (hb.cell (p := ⟨b, off + 8, none⟩) hl).trans e8, h0.below hb, h1.below hb, h2.below hb⟩
theorem RRulesIn.below {w w' : World} {v : Value} {rs : List RRule} (h : RRulesIn w v rs) (hb : Below w.heap.size w w') : RRulesIn w' v rs := by
  obtain ⟨B, d, e, hg⟩ := h
  refine ⟨B, d, e, fun hp => ?_⟩
  obtain ⟨b, off, e2, hl, hk⟩ := hg hp
  exact ⟨b, off, e2, Nat.lt_of_lt_of_le hl hb.size, fun k hk' => (hk k hk').below hl hb⟩
end Go.Proofs.Ytnomidnjglbedaa
end

section
namespace Go.Proofs.Ytnomidnjglbedaa
open Go.RowKit
set_option linter.unusedVariables false

theorem szRule_at (r : RRule) (v : Value) (w : World) (left : Int) (h0 : 0 ≤ left) (h1 : left ≤ 1099511627776) (hv : RRuleIn w v r) (hs : ShortRule r.f0 r.f1 r.f2) :
    Calls Try.prog 47 #[v, .int .i64 left] w (LeftPost left (cntRRule r) w) := by
  obtain ⟨A0, c0, A1, c1, B1, d1, A2, c2, B2, d2, rfl, hv0, hv1, hv2⟩ := hv
  exact szRule_any r.f0 r.f1 r.f2 hs left w _ h0 h1 ⟨A0, c0, A1, c1, B1, d1, A2, c2, B2, d2, rfl, hv0, hv1, hv2⟩

/-- Every record of a list is short. -/
def ShortRRules (rs : List RRule) : Prop := ∀ k, k < rs.length → ShortRule (atRRule rs k).f0 (atRRule rs k).f1 (atRRule rs k).f2

set_option maxRecDepth 100000 in
set_option maxHeartbeats 2000000 in
theorem szRuleS_any (rs : List RRule) (hsh : ShortRRules rs) (hlen : rs.length ≤ maxLen) (left : Int) (w : World) (x : Value) (h0 : 0 ≤ left) (h1 : left ≤ 1099511627776) (hx : RRulesIn w x rs) :
    Calls Try.prog 52 #[x, .int .i64 left] w (LeftPost left (rs.length + sumRRule rs) w) := by
  obtain ⟨A, c, rfl, hg⟩ := hx
  unfold maxLen at hlen
  by_cases h2 : (rs.length : Int) ≤ left
  · have hl2 : ¬ left - (rs.length : Int) < 0 := by omega
    go_enter Try.func52, Try.ntmps52
    go_wp2
    go_loopw [1, 5] (fun l i wr => ∃ k : Nat, k ≤ rs.length ∧ i = .int .i64 k ∧ l = .int .i64 (left - rs.length - sumRRule (rs.take k)) ∧ (sumRRule (rs.take k) : Int) ≤ left - rs.length ∧ Below w.heap.size w wr) (fun _ i _ => rs.length - (intOf i).toNat)
    case atStart => exact ⟨0, Nat.zero_le _, rfl, by simp [sumRRule], by simp [sumRRule]; omega, Below.refl _ _⟩
    case round =>
      obtain ⟨k, hk, rfl, rfl, hle, hb⟩ := hrel
      by_cases hlt : k < rs.length
      · obtain ⟨b, off, rfl, hbl, hget⟩ := hg (by omega)
        obtain ⟨A0, c0, A1, c1, B1, d1, A2, c2, B2, d2, e0, e1, e2, e3, e4, e5, e6, e7, e8, h0, h1, h2⟩ := (hget k hlt).below hbl hb
        have hct := szRule_at (atRRule rs k) _ wr (left - rs.length - sumRRule (rs.take k)) (by omega) (by omega) ⟨A0, c0, A1, c1, B1, d1, A2, c2, B2, d2, rfl, h0, h1, h2⟩ (hsh k hlt)
        have hnx := Lib.hid (sumRRule_next hlt)
        have hst := sumRRule_take rs (k + 1)
        generalize hc : cntRRule (atRRule rs k) = cc at hct hnx
        generalize hs : sumRRule (rs.take k) = s at hct hnx hle
        generalize atRRule rs k = r at *
        clear hget hg hc hs hsh h0 h1 h2
        by_cases h3 : (cc : Int) ≤ left - rs.length - s
        · have hl3 : ¬ left - (rs.length : Int) - (s : Int) - (cc : Int) < 0 := by omega
          unfold LeftPost at hct
          rw [leftR_yes h3] at hct
          have hse : Hid (((sumRRule (rs.take (k + 1)) : Nat) : Int) = s + cc) := by show ((sumRRule (rs.take (k + 1)) : Nat) : Int) = s + cc; rw [hnx.out]; omega
          clear hst
          go_wp2_with fail
          refine hct.mono ?_
          rintro e w2 ⟨rfl, hb2⟩
          have hb3 := hb.trans (hb2.mono hb.size)
          clear hct hb2 e0 e1 e2 e3 e4 e5 e6 e7 e8
          go_wp2
          refine ⟨⟨k + 1, by omega, by go_num, by rw [hse.out]; go_num, by rw [hse.out]; omega, hb3⟩, ?_⟩
          simp only [intOf]
          omega
        · unfold LeftPost at hct
          rw [leftR_no (by omega)] at hct
          have hr : Hid (leftR left (rs.length + sumRRule rs) = -1) := by
            show leftR left (rs.length + sumRRule rs) = -1
            refine leftR_no ?_
            have := hnx.out
            omega
          clear hst
          go_wp2_with fail
          refine hct.mono ?_
          rintro e w2 ⟨rfl, hb2⟩
          have hpost : LeftPost left (rs.length + sumRRule rs) w (.returned (.int .i64 (-1))) w2 := ⟨by rw [hr.out], hb.trans (hb2.mono hb.size)⟩
          clear hct hb2 hr hb e0 e1 e2 e3 e4 e5 e6 e7 e8
          go_wp2
          go_ret
          exact hpost
      · have e : k = rs.length := by omega
        have hr : Hid (left - rs.length - sumRRule (rs.take k) = leftR left (rs.length + sumRRule rs)) := by
          show left - rs.length - sumRRule (rs.take k) = leftR left (rs.length + sumRRule rs)
          rw [List.take_of_length_le (by omega)] at hle ⊢
          rw [leftR_yes (by omega)]
          omega
        have hpost : LeftPost left (rs.length + sumRRule rs) w (.returned (.int .i64 (left - rs.length - sumRRule (rs.take k)))) wr := ⟨by rw [hr.out], hb⟩
        clear hg e hr hb
        go_wp2
        go_ret
        exact hpost
  · have hl2 : left - (rs.length : Int) < 0 := by omega
    have hpost : LeftPost left (rs.length + sumRRule rs) w (.returned (.int .i64 (-1))) w := ⟨by rw [leftR_no (by omega)], Below.refl _ _⟩
    clear hg
    go_enter Try.func52, Try.ntmps52
    go_wp2
    go_ret
    exact hpost
end Go.Proofs.Ytnomidnjglbedaa
end

section
namespace Go.Proofs.Ytnomidnjglbedaa
open Go.RowKit Go.Deep Go.ChangeShapes Go.WideShapes
variable {H : Type} {enc : TypeId × Value → H} {W : World}

theorem lcellsRule : Try.prog.cellsOf 63 = 9 := by kernel_rfl

set_option maxRecDepth 100000 in
theorem open_rules {A : Option Addr} {n c : Nat} {d : DataW H} {p : List MemPlace} (h : DataW.Trod enc Try.prog W 0 (fun _ => true) true 72 (.slice A n c) d p) :
    ∃ rs : List RRule, rs.length = n ∧ RRulesIn W (.slice A rs.length c) rs ∧ ShortRRules rs ∧ n ≤ maxLen := by
  obtain ⟨fuel, hf⟩ := h
  rcases DataW.trod_slice Try.underlying72 hf with ⟨e, _⟩ | ⟨a, len, cap, elems, rest, nn, hfu, e, _, hb, hl, hm, hlen, hel, _, _⟩
  · simp [Value.cells] at e
    obtain ⟨rfl, rfl, rfl⟩ := e
    exact ⟨[], rfl, ⟨none, 0, rfl, fun h => absurd h (by simp)⟩, fun k h => absurd h (by simp), by decide⟩
  · simp [Value.cells] at e
    obtain ⟨rfl, rfl, rfl⟩ := e
    have each : ∀ i, i < n → ∃ r : RRule, (ShortRule r.f0 r.f1 r.f2) ∧ ∃ A0 c0 A1 c1 B1 d1 A2 c2 B2 d2, W.cell? (a.add (i * 9)) = some (.slice A0 r.f0.length c0) ∧ W.cell? (a.add (i * 9 + 1)) = some (.int .i64 r.f1.op) ∧ W.cell? (a.add (i * 9 + 2)) = some (.int .i64 r.f1.num) ∧ W.cell? (a.add (i * 9 + 3)) = some (.slice A1 r.f1.perm.length c1) ∧ W.cell? (a.add (i * 9 + 4)) = some (.slice B1 r.f1.kids.length d1) ∧ W.cell? (a.add (i * 9 + 5)) = some (.int .i64 r.f2.op) ∧ W.cell? (a.add (i * 9 + 6)) = some (.int .i64 r.f2.num) ∧ W.cell? (a.add (i * 9 + 7)) = some (.slice A2 r.f2.perm.length c2) ∧ W.cell? (a.add (i * 9 + 8)) = some (.slice B2 r.f2.kids.length d2) ∧ PairsAt W A0 r.f0 ∧ TmIn W (.agg #[.int .i64 r.f1.op, .int .i64 r.f1.num, .slice A1 r.f1.perm.length c1, .slice B1 r.f1.kids.length d1]) r.f1 ∧ TmIn W (.agg #[.int .i64 r.f2.op, .int .i64 r.f2.num, .slice A2 r.f2.perm.length c2, .slice B2 r.f2.kids.length d2]) r.f2 := by
      intro i hi
      have h1 := hel i hi
      rw [List.getElem?_eq_getElem (by omega), lcellsRule, Option.bind_eq_some_iff] at h1
      obtain ⟨cs', h2, h3⟩ := h1
      obtain ⟨_, hcl, hcell⟩ := World.cells?_some h2
      obtain ⟨xs, m, hmn, _, _, hxl, hfs⟩ := DataW.trod_struct Try.underlying63 h3
      match xs, hxl, cs', hcl with
      | [y0, y1, y2], _, [v0, v1, v2, v3, v4, v5, v6, v7, v8], _ =>
          have g0 := hfs 0 _ rfl
          have g1 := hfs 1 _ rfl
          have g2 := hfs 2 _ rfl
          simp [rfCells, ltCells] at g0 g1 g2
          obtain ⟨A0, l0, c0, rfl, ht0, hs0⟩ := open_fs1 g0
          obtain ⟨t1, A1, c1, B1, d1, w01, w11, w21, w31, ht1, hs1⟩ := open_fourRule g1
          subst w01; subst w11; subst w21; subst w31
          obtain ⟨t2, A2, c2, B2, d2, w02, w12, w22, w32, ht2, hs2⟩ := open_fourRule g2
          subst w02; subst w12; subst w22; subst w32
          have q0 := hcell 0 (by omega)
          have q1 := hcell 1 (by omega)
          have q2 := hcell 2 (by omega)
          have q3 := hcell 3 (by omega)
          have q4 := hcell 4 (by omega)
          have q5 := hcell 5 (by omega)
          have q6 := hcell 6 (by omega)
          have q7 := hcell 7 (by omega)
          have q8 := hcell 8 (by omega)
          rw [add_add] at q0 q1 q2 q3 q4 q5 q6 q7 q8
          exact ⟨⟨l0, t1, t2⟩, ⟨hs0, hs1, hs2⟩, A0, c0, A1, c1, B1, d1, A2, c2, B2, d2, by simpa using q0, by simpa using q1, by simpa using q2, by simpa using q3, by simpa using q4, by simpa using q5, by simpa using q6, by simpa using q7, by simpa using q8, ht0, ht1, ht2⟩
    obtain ⟨q, hq⟩ := choose_lt each
    have hat : ∀ i, i < n → atRRule ((List.range n).map q) i = q i := fun i hi => by simp [atRRule, hi]
    refine ⟨(List.range n).map q, by simp, ⟨a, c, rfl, fun hp => ?_⟩, fun k hk => ?_, by omega⟩
    · have h0 : 0 < n := by simpa using hp
      obtain ⟨_, A0, c0, A1, c1, B1, d1, A2, c2, B2, d2, hc0, _⟩ := hq 0 h0
      have ha : a = ⟨a.block, a.off, none⟩ := spot_none (by simpa [Addr.add] using hc0)
      have hblt : a.block < W.heap.size := block_lt_of_cell (a := a) (by simpa [Addr.add] using hc0)
      have hadd : ∀ j, a.add j = ⟨a.block, a.off + j, none⟩ := fun j => by
        unfold Addr.add
        split
        · rename_i h0; rw [h0]; exact ha
        · rfl
      refine ⟨a.block, a.off, by rw [← ha], hblt, fun i hi => ?_⟩
      have hi' : i < n := by simpa using hi
      obtain ⟨_, A0, c0, A1, c1, B1, d1, A2, c2, B2, d2, e0, e1, e2, e3, e4, e5, e6, e7, e8, ht0, ht1, ht2⟩ := hq i hi'
      rw [hadd] at e0 e1 e2 e3 e4 e5 e6 e7 e8
      rw [hat i hi']
      exact ⟨A0, c0, A1, c1, B1, d1, A2, c2, B2, d2, e0, by rw [Nat.add_assoc]; exact e1, by rw [Nat.add_assoc]; exact e2, by rw [Nat.add_assoc]; exact e3, by rw [Nat.add_assoc]; exact e4, by rw [Nat.add_assoc]; exact e5, by rw [Nat.add_assoc]; exact e6, by rw [Nat.add_assoc]; exact e7, by rw [Nat.add_assoc]; exact e8, ht0, ht1, ht2⟩
    · have hk' : k < n := by simpa using hk
      rw [hat k hk']
      exact (hq k hk').1
end Go.Proofs.Ytnomidnjglbedaa
end

section
namespace Go.Proofs.Ytnomidnjglbedaa
open Go.RowKit Go.ChangeShapes Go.WideShapes
set_option linter.unusedVariables false

/-- Elements of contexts of the call's own, as a tree. -/
def freshMem (p : List (Int × Int)) : Mem := .row 123 2 ((cellsOf p).map .cell)
theorem at_freshs {w : World} {v : Value} {p : List (Int × Int)} (h : At w v (freshMem p)) : ∃ A c, v = .slice A p.length c ∧ PairsAt w A p := by
  obtain ⟨A, n, c, rfl, hl⟩ := At.form h
  rw [List.length_map, cellsOf_len] at hl
  have hn : n = p.length := by omega
  subst hn
  refine ⟨A, c, rfl, fun hp => ?_⟩
  obtain ⟨b, off, rfl, hb, hc⟩ := At.get h hp
  refine ⟨b, off, rfl, hb, fun i hi => ?_⟩
  obtain ⟨c1, c2⟩ := cellsOf_at p i hi
  obtain ⟨u1, d1, a1⟩ := hc (i * 2) (.cell (.int .i64 (prAt p i).1)) (by rw [List.getElem?_map, c1]; rfl)
  obtain ⟨u2, d2, a2⟩ := hc (i * 2 + 1) (.cell (.int .i64 (prAt p i).2)) (by rw [List.getElem?_map, c2]; rfl)
  rw [a1.cell_eq] at d1
  rw [a2.cell_eq] at d2
  exact ⟨d1, by rw [Nat.add_assoc]; exact d2⟩
theorem own_freshMem {w : World} {base : Nat} {v : Value} {l : List (Int × Int)} (h : w.ownsRow base 123 2 v l.length (cellsOf l)) :
    ∃ S, Own w S v (freshMem l) ∧ (∀ b ∈ S, base ≤ b) ∧ S = v.ownBlock.toList := by
  rcases h.2 with ⟨rfl, h0⟩ | ⟨g, cap, cur, rfl, hb, hg, hn, hm, hs, ht⟩
  · have e : l = [] := List.eq_nil_of_length_eq_zero h0
    subst e
    exact ⟨[], .nil _ _, fun b hb => by simp at hb, rfl⟩
  · refine ⟨[g], .row (by rw [List.length_map, cellsOf_len]) ⟨h.1, .inr ⟨g, cap, cur, rfl, Nat.zero_le _, hg, hn, hm, hs, ht⟩⟩ (ownL_cells w _) (by simp), fun b hb' => ?_, rfl⟩
    simp at hb'
    omega

def encRRule (r : RRule) : List Mem := freshMem r.f0 :: (encT r.f1 ++ encT r.f2)
def encRRules : List RRule → List Mem
  | [] => []
  | r :: rs => encRRule r ++ encRRules rs
theorem encRRule_len (r : RRule) : (encRRule r).length = 9 := by simp [encRRule, encT_len]
theorem encRRules_len : ∀ rs : List RRule, (encRRules rs).length = rs.length * 9
  | [] => rfl
  | r :: rs => by rw [encRRules, List.length_append, encRRule_len, encRRules_len rs, List.length_cons]; omega
theorem encRRules_append : ∀ a b : List RRule, encRRules (a ++ b) = encRRules a ++ encRRules b
  | [], b => rfl
  | r :: a, b => by rw [List.cons_append, encRRules, encRRules, encRRules_append a b, List.append_assoc]
def memRRules (rs : List RRule) : Mem := .row 68 9 (encRRules rs)
def FitRule (m : List (Int × Int)) (s t : Tm) : Prop := m.length ≤ 1048576 ∧ Fit s ∧ Fit t
def RRuleOut (r : RRule) (w : World) (e : Ending) (w' : World) : Prop :=
  ∃ P0 q0 P1 q1 K1 s1 P2 q2 K2 s2 S, e = .returned (.agg #[.slice P0 r.f0.length q0, .int .i64 r.f1.op, .int .i64 r.f1.num, .slice P1 r.f1.perm.length q1, .slice K1 r.f1.kids.length s1, .int .i64 r.f2.op, .int .i64 r.f2.num, .slice P2 r.f2.perm.length q2, .slice K2 r.f2.kids.length s2]) ∧ OwnL w' S [.slice P0 r.f0.length q0, .int .i64 r.f1.op, .int .i64 r.f1.num, .slice P1 r.f1.perm.length q1, .slice K1 r.f1.kids.length s1, .int .i64 r.f2.op, .int .i64 r.f2.num, .slice P2 r.f2.perm.length q2, .slice K2 r.f2.kids.length s2] (encRRule r) ∧ (∀ b ∈ S, w.heap.size ≤ b) ∧ Below w.heap.size w w'
def RRulesOut (rs : List RRule) (w : World) (e : Ending) (w' : World) : Prop :=
  ∃ v S, e = .returned v ∧ Own w' S v (memRRules rs) ∧ (∀ b ∈ S, w.heap.size ≤ b) ∧ Below w.heap.size w w'
theorem toRule_own (r : RRule) (hf : FitRule r.f0 r.f1 r.f2) (w : World) (v : Value) (hv : RRuleIn w v r) : Calls Try.prog 49 #[v] w (RRuleOut r w) := by
  obtain ⟨A0, c0, A1, c1, B1, d1, A2, c2, B2, d2, rfl, h0, h1, h2⟩ := hv
  refine (toRule_parts r.f0 r.f1 r.f2 hf.1 hf.2.1 hf.2.2 w _ ⟨A0, c0, A1, c1, B1, d1, A2, c2, B2, d2, rfl, h0, h1, h2⟩).mono ?_
  rintro e w' ⟨C, cc, P1, q1, K1, s1, P2, q2, K2, s2, S1, S2, rfl, ho, hL1, hL2, hb1, hb2, hd1, hd2, hd, hb⟩
  obtain ⟨S0, hO, hO2, hO3⟩ := own_freshMem ho
  have hd0 : ∀ b ∈ S0, b ∉ S1 ++ S2 := fun b h => by
    rw [hO3] at h
    have h' : (Value.slice C r.f0.length cc).ownBlock = some b := by simpa using h
    intro hm
    rcases List.mem_append.1 hm with hm | hm
    · exact hd1 b h' hm
    · exact hd2 b h' hm
  refine ⟨C, cc, P1, q1, K1, s1, P2, q2, K2, s2, S0 ++ (S1 ++ S2), rfl, .cons hO (hL1.append hL2 hd) hd0, fun b h => ?_, hb⟩
  rcases List.mem_append.1 h with h | h
  · exact hO2 b h
  · rcases List.mem_append.1 h with h | h
    · exact hb1 b h
    · exact hb2 b h
end Go.Proofs.Ytnomidnjglbedaa
end

section
namespace Go.Proofs.Ytnomidnjglbedaa
open Go.RowKit
set_option linter.unusedVariables false

set_option maxRecDepth 100000 in
set_option maxHeartbeats 4000000 in
theorem eqRuleS_any (rs : List RRule) (hf : ∀ k, k < rs.length → FitRule (atRRule rs k).f0 (atRRule rs k).f1 (atRRule rs k).f2) (hlen : rs.length ≤ 1048576) (w : World) (x y : Value) (hx : RRulesIn w x rs) (hy : RRulesIn w y rs) : Calls Try.prog 56 #[x, y] w (YesPost w) := by
  obtain ⟨A, c, rfl, hg⟩ := hx
  obtain ⟨B, d, rfl, hg'⟩ := hy
  have hq0 : ((rs.length : Int) != (rs.length : Int)) = false := by simp
  go_enter Try.func56, Try.ntmps56
  go_wp2
  go_loopw [5] (fun i wr => ∃ k : Nat, k ≤ rs.length ∧ i = .int .i64 k ∧ Below w.heap.size w wr) (fun i _ => rs.length - (intOf i).toNat)
  case atStart => exact ⟨0, Nat.zero_le _, rfl, Below.refl _ _⟩
  case round =>
    obtain ⟨k, hk, rfl, hb⟩ := hrel
    by_cases hlt : k < rs.length
    · obtain ⟨b, off, rfl, hbl, hget⟩ := hg (by omega)
      obtain ⟨b', off', rfl, hbl', hget'⟩ := hg' (by omega)
      have hdw : Below wr.heap.size wr wr.drew := ⟨rfl, rfl, rfl, Nat.le_refl _, fun _ _ => rfl⟩
      have hbd := hb.trans (hdw.mono hb.size)
      obtain ⟨A0, c0, A1, c1, B1, d1, A2, c2, B2, d2, e0, e1, e2, e3, e4, e5, e6, e7, e8, h0, h1, h2⟩ := (hget k hlt).below hbl hbd
      obtain ⟨A0q, c0q, A1q, c1q, B1q, d1q, A2q, c2q, B2q, d2q, e0q, e1q, e2q, e3q, e4q, e5q, e6q, e7q, e8q, h0q, h1q, h2q⟩ := (hget' k hlt).below hbl' hbd
      have hct := eqRule_any (atRRule rs k).f0 (atRRule rs k).f1 (atRRule rs k).f2 (hf k hlt).1 (hf k hlt).2.1 (hf k hlt).2.2 wr.drew _ _ ⟨A0, c0, A1, c1, B1, d1, A2, c2, B2, d2, rfl, h0, h1, h2⟩ ⟨A0q, c0q, A1q, c1q, B1q, d1q, A2q, c2q, B2q, d2q, rfl, h0q, h1q, h2q⟩
      have i1 : (k : Int) < (rs.length : Int) := by omega
      have i3 : (0 : Int) ≤ (k : Int) := by omega
      have hw1 : b < wr.drew.heap.size := Nat.lt_of_lt_of_le hbl hbd.size
      have hw2 : b' < wr.drew.heap.size := Nat.lt_of_lt_of_le hbl' hbd.size
      have HLT := Lib.hid hlt
      generalize atRRule rs k = r at *
      clear hget hget' hg hg' hf h0 h0q h1 h1q h2 h2q hbl hbl'
      go_wp2
      go_region_held3 (fun w' => w'.cell? ⟨b, off + k * 9, none⟩ = some (.slice A0 r.f0.length c0) ∧ w'.cell? ⟨b, off + k * 9 + 1, none⟩ = some (.int .i64 r.f1.op) ∧ w'.cell? ⟨b, off + k * 9 + 2, none⟩ = some (.int .i64 r.f1.num) ∧ w'.cell? ⟨b, off + k * 9 + 3, none⟩ = some (.slice A1 r.f1.perm.length c1) ∧ w'.cell? ⟨b, off + k * 9 + 4, none⟩ = some (.slice B1 r.f1.kids.length d1) ∧ w'.cell? ⟨b, off + k * 9 + 5, none⟩ = some (.int .i64 r.f2.op) ∧ w'.cell? ⟨b, off + k * 9 + 6, none⟩ = some (.int .i64 r.f2.num) ∧ w'.cell? ⟨b, off + k * 9 + 7, none⟩ = some (.slice A2 r.f2.perm.length c2) ∧ w'.cell? ⟨b, off + k * 9 + 8, none⟩ = some (.slice B2 r.f2.kids.length d2) ∧ w'.cell? ⟨b', off' + k * 9, none⟩ = some (.slice A0q r.f0.length c0q) ∧ w'.cell? ⟨b', off' + k * 9 + 1, none⟩ = some (.int .i64 r.f1.op) ∧ w'.cell? ⟨b', off' + k * 9 + 2, none⟩ = some (.int .i64 r.f1.num) ∧ w'.cell? ⟨b', off' + k * 9 + 3, none⟩ = some (.slice A1q r.f1.perm.length c1q) ∧ w'.cell? ⟨b', off' + k * 9 + 4, none⟩ = some (.slice B1q r.f1.kids.length d1q) ∧ w'.cell? ⟨b', off' + k * 9 + 5, none⟩ = some (.int .i64 r.f2.op) ∧ w'.cell? ⟨b', off' + k * 9 + 6, none⟩ = some (.int .i64 r.f2.num) ∧ w'.cell? ⟨b', off' + k * 9 + 7, none⟩ = some (.slice A2q r.f2.perm.length c2q) ∧ w'.cell? ⟨b', off' + k * 9 + 8, none⟩ = some (.slice B2q r.f2.kids.length d2q))
        (first | (with_reducible exact ⟨by assumption, by assumption, by assumption, by assumption, by assumption, by assumption, by assumption, by assumption, by assumption, by assumption, by assumption, by assumption, by assumption, by assumption, by assumption, by assumption, by assumption, by assumption⟩) | ((try dsimp only); exact ⟨by assumption, by assumption, by assumption, by assumption, by assumption, by assumption, by assumption, by assumption, by assumption, by assumption, by assumption, by assumption, by assumption, by assumption, by assumption, by assumption, by assumption, by assumption⟩) | go_keep)
        (first
          | (go_at_call 51; refine hct.mono ?_; rintro e w2 ⟨rfl, hb2⟩; have n0 := (hb2.cell (p := ⟨b, off + k * 9, none⟩) hw1).trans e0; have n1 := (hb2.cell (p := ⟨b, off + k * 9 + 1, none⟩) hw1).trans e1; have n2 := (hb2.cell (p := ⟨b, off + k * 9 + 2, none⟩) hw1).trans e2; have n3 := (hb2.cell (p := ⟨b, off + k * 9 + 3, none⟩) hw1).trans e3; have n4 := (hb2.cell (p := ⟨b, off + k * 9 + 4, none⟩) hw1).trans e4; have n5 := (hb2.cell (p := ⟨b, off + k * 9 + 5, none⟩) hw1).trans e5; have n6 := (hb2.cell (p := ⟨b, off + k * 9 + 6, none⟩) hw1).trans e6; have n7 := (hb2.cell (p := ⟨b, off + k * 9 + 7, none⟩) hw1).trans e7; have n8 := (hb2.cell (p := ⟨b, off + k * 9 + 8, none⟩) hw1).trans e8; have n0q := (hb2.cell (p := ⟨b', off' + k * 9, none⟩) hw2).trans e0q; have n1q := (hb2.cell (p := ⟨b', off' + k * 9 + 1, none⟩) hw2).trans e1q; have n2q := (hb2.cell (p := ⟨b', off' + k * 9 + 2, none⟩) hw2).trans e2q; have n3q := (hb2.cell (p := ⟨b', off' + k * 9 + 3, none⟩) hw2).trans e3q; have n4q := (hb2.cell (p := ⟨b', off' + k * 9 + 4, none⟩) hw2).trans e4q; have n5q := (hb2.cell (p := ⟨b', off' + k * 9 + 5, none⟩) hw2).trans e5q; have n6q := (hb2.cell (p := ⟨b', off' + k * 9 + 6, none⟩) hw2).trans e6q; have n7q := (hb2.cell (p := ⟨b', off' + k * 9 + 7, none⟩) hw2).trans e7q; have n8q := (hb2.cell (p := ⟨b', off' + k * 9 + 8, none⟩) hw2).trans e8q)
          | fail)
      have hb3 := hbd.trans (hb2.mono hbd.size)
      clear hct hb2 hdw hb hbd hw1 hw2 e0 e0q n0 n0q e1 e1q n1 n1q e2 e2q n2 n2q e3 e3q n3 n3q e4 e4q n4 n4q e5 e5q n5 n5q e6 e6q n6 n6q e7 e7q n7 n7q e8 e8q n8 n8q
      go_wp2
      have hlt' := HLT.out
      refine ⟨⟨k + 1, by omega, by go_num, hb3⟩, ?_⟩
      simp only [intOf]
      omega
    · have e : k = rs.length := by omega
      subst e
      clear hg hg' hf
      go_wp2
      go_ret
      exact ⟨rfl, hb⟩
end Go.Proofs.Ytnomidnjglbedaa
end

section
namespace Go.Proofs.Ytnomidnjglbedaa
open Go.RowKit Go.ChangeShapes Go.WideShapes
set_option linter.unusedVariables false

theorem take_set9' {xs : List Value} {j : Nat} {a0 a1 a2 a3 a4 a5 a6 a7 a8 : Value} (h : j + 9 ≤ xs.length) : (((((((((xs.set (j) a0).set (j + 1) a1).set (j + 2) a2).set (j + 3) a3).set (j + 4) a4).set (j + 5) a5).set (j + 6) a6).set (j + 7) a7).set (j + 8) a8).take (j + 9) = xs.take j ++ [a0, a1, a2, a3, a4, a5, a6, a7, a8] := by
  apply List.ext_getElem?
  intro i
  rw [List.getElem?_take]
  by_cases hi : i < j + 9
  · rw [if_pos hi]
    by_cases h1 : i < j
    · rw [List.getElem?_append_left (by rw [List.length_take]; omega), List.getElem?_take, if_pos h1]
      simp [show ¬ j = i by omega, show ¬ j + 1 = i by omega, show ¬ j + 2 = i by omega, show ¬ j + 3 = i by omega, show ¬ j + 4 = i by omega, show ¬ j + 5 = i by omega, show ¬ j + 6 = i by omega, show ¬ j + 7 = i by omega, show ¬ j + 8 = i by omega]
    · rw [List.getElem?_append_right (by rw [List.length_take]; omega), List.length_take, show min j xs.length = j by omega]
      have hc : i = j ∨ i = j + 1 ∨ i = j + 2 ∨ i = j + 3 ∨ i = j + 4 ∨ i = j + 5 ∨ i = j + 6 ∨ i = j + 7 ∨ i = j + 8 := by omega
      rcases hc with rfl | rfl | rfl | rfl | rfl | rfl | rfl | rfl | rfl
      · simp [show i < xs.length by omega]
      · simp [show j + 1 < xs.length by omega, show j + 1 - j = 1 by omega]
      · simp [show j + 2 < xs.length by omega, show j + 2 - j = 2 by omega]
      · simp [show j + 3 < xs.length by omega, show j + 3 - j = 3 by omega]
      · simp [show j + 4 < xs.length by omega, show j + 4 - j = 4 by omega]
      · simp [show j + 5 < xs.length by omega, show j + 5 - j = 5 by omega]
      · simp [show j + 6 < xs.length by omega, show j + 6 - j = 6 by omega]
      · simp [show j + 7 < xs.length by omega, show j + 7 - j = 7 by omega]
      · simp [show j + 8 < xs.length by omega, show j + 8 - j = 8 by omega]
  · rw [if_neg hi, List.getElem?_eq_none (by rw [List.length_append, List.length_take]; simp; omega)]

theorem infoRRule : (Try.prog.info? 68).map (fun i => (i.zero, i.size, i.bytes)) = some (some (.agg #[.slice none 0 0, .int .i64 0, .int .i64 0, .slice none 0 0, .slice none 0 0, .int .i64 0, .int .i64 0, .slice none 0 0, .slice none 0 0]), 9, 152) := by kernel_rfl

/-- Every term of a list of records fits. -/
def FitRRules (rs : List RRule) : Prop := ∀ k, k < rs.length → FitRule (atRRule rs k).f0 (atRRule rs k).f1 (atRRule rs k).f2

set_option maxRecDepth 100000 in
set_option maxHeartbeats 4000000 in
theorem toRuleS_any (rs : List RRule) (hf : FitRRules rs) (hlen : rs.length ≤ 1048576) (w : World) (x : Value) (hx : RRulesIn w x rs) : Calls Try.prog 54 #[x] w (RRulesOut rs w) := by
  obtain ⟨A, c, rfl, hg⟩ := hx
  obtain ⟨i0, hi0, hz0, hz1, hz2⟩ := info_parts infoRRule
  have HS := Lib.hid hz2
  clear hz2
  go_enter Try.func54, Try.ntmps54
  go_wp2_with (at_make; refine wpList_make_full _ rfl (.tmp 6) (.tmp 6) 75 rfl w.heap.size 68 i0 _ 9 Try.underlying75 hi0 hz0 hz1 .i64 .i64 _ _ rs.length rfl rfl rfl rfl ?c1 ?c2 (Nat.le_refl _) ?_)
  case c1 => rw [HS.out]; omega
  case c2 => unfold maxLen; omega
  intro w1 ho hgw
  have hb0 := (Below.refl w.heap.size w).grown hgw (Nat.le_refl _) (fun k hk => by cases hk)
  clear hgw
  generalize hz : (madeCells #[Value.slice none 0 0, Value.int .i64 0, Value.int .i64 0, Value.slice none 0 0, Value.slice none 0 0, Value.int .i64 0, Value.int .i64 0, Value.slice none 0 0, Value.slice none 0 0] (rs.length * 9)).toList = zs at ho
  clear hz
  have hlt0 : w.heap.size < w1.heap.size := (ho.lt w.heap.size rfl).2
  go_wp2
  go_loopw [4] (fun i wr => ∃ (k : Nat) (S : List Nat) (xs : List Value), k ≤ rs.length ∧ i = .int .i64 k ∧ wr.ownsRow w.heap.size 68 9 (.slice (some ⟨w.heap.size, 0, none⟩) rs.length rs.length) rs.length xs ∧ OwnL wr S (xs.take (k * 9)) (encRRules (rs.take k)) ∧ (∀ b ∈ S, w.heap.size < b) ∧ Below w.heap.size w wr) (fun i _ => rs.length - (intOf i).toNat)
  case atStart => exact ⟨0, [], zs, Nat.zero_le _, rfl, ho, by simp [encRRules]; exact .nil, fun b hb => by simp at hb, hb0⟩
  case round =>
    clear ho hb0
    obtain ⟨k, S, xs, hk, rfl, ho, hL, hSb, hb⟩ := hrel
    have hwr : w.heap.size < wr.heap.size := (ho.lt w.heap.size rfl).2
    by_cases hlt : k < rs.length
    · obtain ⟨b, off, rfl, hbl, hget⟩ := hg (by omega)
      obtain ⟨A0, c0, A1, c1, B1, d1, A2, c2, B2, d2, e0, e1, e2, e3, e4, e5, e6, e7, e8, h0, h1, h2⟩ := (hget k hlt).below hbl hb
      have hct := toRule_own (atRRule rs k) (hf k hlt) wr _ ⟨A0, c0, A1, c1, B1, d1, A2, c2, B2, d2, rfl, h0, h1, h2⟩
      have hnx := Lib.hid (congrArg encRRules (takeRRule_next hlt))
      generalize atRRule rs k = r at *
      clear hget h0 h1 h2 hg hf hbl
      go_wp2_with fail
      refine hct.mono ?_
      rintro e w2 ⟨P0, q0, P1, q1, K1, s1, P2, q2, K2, s2, Q, rfl, hQ, hQb, hb2⟩
      have ho2 := own_below ho hb2
      have hL2 := hL.alike (w' := w2) fun b hb' => hb2.block b (hL.lt b hb')
      have hb3 := hb.trans (hb2.mono hb.size)
      have hxl := ho2.1
      obtain ⟨v0, u0⟩ := some_of_lt xs (k * 9) (by omega)
      obtain ⟨v1, u1⟩ := some_of_lt xs (k * 9 + 1) (by omega)
      obtain ⟨v2, u2⟩ := some_of_lt xs (k * 9 + 2) (by omega)
      obtain ⟨v3, u3⟩ := some_of_lt xs (k * 9 + 3) (by omega)
      obtain ⟨v4, u4⟩ := some_of_lt xs (k * 9 + 4) (by omega)
      obtain ⟨v5, u5⟩ := some_of_lt xs (k * 9 + 5) (by omega)
      obtain ⟨v6, u6⟩ := some_of_lt xs (k * 9 + 6) (by omega)
      obtain ⟨v7, u7⟩ := some_of_lt xs (k * 9 + 7) (by omega)
      obtain ⟨v8, u8⟩ := some_of_lt xs (k * 9 + 8) (by omega)
      have g0 := (ho2.cellAt (k * 9) (by omega)).trans u0
      have g1 := (ho2.cellAt (k * 9 + 1) (by omega)).trans u1
      have g2 := (ho2.cellAt (k * 9 + 2) (by omega)).trans u2
      have g3 := (ho2.cellAt (k * 9 + 3) (by omega)).trans u3
      have g4 := (ho2.cellAt (k * 9 + 4) (by omega)).trans u4
      have g5 := (ho2.cellAt (k * 9 + 5) (by omega)).trans u5
      have g6 := (ho2.cellAt (k * 9 + 6) (by omega)).trans u6
      have g7 := (ho2.cellAt (k * 9 + 7) (by omega)).trans u7
      have g8 := (ho2.cellAt (k * 9 + 8) (by omega)).trans u8
      have f0 := ho2.frozenAt (k * 9)
      have f1 := ho2.frozenAt (k * 9 + 1)
      have f2 := ho2.frozenAt (k * 9 + 2)
      have f3 := ho2.frozenAt (k * 9 + 3)
      have f4 := ho2.frozenAt (k * 9 + 4)
      have f5 := ho2.frozenAt (k * 9 + 5)
      have f6 := ho2.frozenAt (k * 9 + 6)
      have f7 := ho2.frozenAt (k * 9 + 7)
      have f8 := ho2.frozenAt (k * 9 + 8)
      obtain ⟨o0, q0g⟩ := ho2.stored (k * 9) (.slice P0 r.f0.length q0)
      obtain ⟨o1, q1g⟩ := o0.stored (k * 9 + 1) (.int .i64 r.f1.op)
      obtain ⟨o2, q2g⟩ := o1.stored (k * 9 + 2) (.int .i64 r.f1.num)
      obtain ⟨o3, q3g⟩ := o2.stored (k * 9 + 3) (.slice P1 r.f1.perm.length q1)
      obtain ⟨o4, q4g⟩ := o3.stored (k * 9 + 4) (.slice K1 r.f1.kids.length s1)
      obtain ⟨o5, q5g⟩ := o4.stored (k * 9 + 5) (.int .i64 r.f2.op)
      obtain ⟨o6, q6g⟩ := o5.stored (k * 9 + 6) (.int .i64 r.f2.num)
      obtain ⟨o7, q7g⟩ := o6.stored (k * 9 + 7) (.slice P2 r.f2.perm.length q2)
      obtain ⟨o8, q8g⟩ := o7.stored (k * 9 + 8) (.slice K2 r.f2.kids.length s2)
      have hq := (grownBy_trans q0g (grownBy_trans q1g (grownBy_trans q2g (grownBy_trans q3g (grownBy_trans q4g (grownBy_trans q5g (grownBy_trans q6g (grownBy_trans q7g q8g))))))))
      have hL3 := hL2.kept hq (fun b hb' => by have := hSb b hb'; intro e; injection e with e; omega)
      have hR3 := hQ.kept hq (fun b hb' => by have := hQb b hb'; intro e; injection e with e; omega)
      have hdis : ∀ b ∈ S, b ∉ Q := fun b h1 h2 => by have h3 := hL.lt b h1; have h4 := hQb b h2; omega
      have hL4 := hL3.append hR3 hdis
      have hb5 := hb3.grown hq hb3.size (fun j hj => by injection hj with hj; omega)
      have htk : Hid ((((((((((xs.set (k * 9) (.slice P0 r.f0.length q0)).set (k * 9 + 1) (.int .i64 r.f1.op)).set (k * 9 + 2) (.int .i64 r.f1.num)).set (k * 9 + 3) (.slice P1 r.f1.perm.length q1)).set (k * 9 + 4) (.slice K1 r.f1.kids.length s1)).set (k * 9 + 5) (.int .i64 r.f2.op)).set (k * 9 + 6) (.int .i64 r.f2.num)).set (k * 9 + 7) (.slice P2 r.f2.perm.length q2)).set (k * 9 + 8) (.slice K2 r.f2.kids.length s2)).take ((k + 1) * 9) = xs.take (k * 9) ++ [.slice P0 r.f0.length q0, .int .i64 r.f1.op, .int .i64 r.f1.num, .slice P1 r.f1.perm.length q1, .slice K1 r.f1.kids.length s1, .int .i64 r.f2.op, .int .i64 r.f2.num, .slice P2 r.f2.perm.length q2, .slice K2 r.f2.kids.length s2]) := by
        show (((((((((xs.set (k * 9) (.slice P0 r.f0.length q0)).set (k * 9 + 1) (.int .i64 r.f1.op)).set (k * 9 + 2) (.int .i64 r.f1.num)).set (k * 9 + 3) (.slice P1 r.f1.perm.length q1)).set (k * 9 + 4) (.slice K1 r.f1.kids.length s1)).set (k * 9 + 5) (.int .i64 r.f2.op)).set (k * 9 + 6) (.int .i64 r.f2.num)).set (k * 9 + 7) (.slice P2 r.f2.perm.length q2)).set (k * 9 + 8) (.slice K2 r.f2.kids.length s2)).take ((k + 1) * 9) = xs.take (k * 9) ++ [.slice P0 r.f0.length q0, .int .i64 r.f1.op, .int .i64 r.f1.num, .slice P1 r.f1.perm.length q1, .slice K1 r.f1.kids.length s1, .int .i64 r.f2.op, .int .i64 r.f2.num, .slice P2 r.f2.perm.length q2, .slice K2 r.f2.kids.length s2]
        rw [show (k + 1) * 9 = k * 9 + 9 by omega]
        exact take_set9' (by omega)
      have hL5 := hL4
      rw [← htk.out, ← (show encRRules [r] = encRRule r by simp [encRRules]), ← encRRules_append, ← hnx.out] at hL5
      have hSR : ∀ b ∈ S ++ Q, w.heap.size < b := fun b hb' => by
        rcases List.mem_append.1 hb' with h | h
        · exact hSb b h
        · have := hQb b h; omega
      clear ho ho2 hL hL2 hL3 hL4 hQ hR3 hb hb2 hb3 q0g q1g q2g q3g q4g q5g q6g q7g q8g hq o0 o1 o2 o3 o4 o5 o6 o7 u0 u1 u2 u3 u4 u5 u6 u7 u8 hxl hct hnx htk hdis hSb hQb e0 e1 e2 e3 e4 e5 e6 e7 e8
      go_wp2
      refine ⟨⟨k + 1, S ++ Q, _, by omega, by go_num, o8, hL5, hSR, hb5⟩, ?_⟩
      simp only [intOf]
      omega
    · have e : k = rs.length := by omega
      subst e
      have hl := ho.1
      rw [List.take_of_length_le (by omega), List.take_of_length_le (Nat.le_refl _)] at hL
      have hpost : RRulesOut rs w (.returned (.slice (some ⟨w.heap.size, 0, none⟩) rs.length rs.length)) wr :=
        ⟨_, w.heap.size :: S, rfl, .row (encRRules_len rs) (own_le ho (Nat.zero_le _)) hL (fun h => by have := hSb _ h; omega), fun b hb' => by
          rcases List.mem_cons.1 hb' with h | h
          · omega
          · have := hSb b h; omega, hb⟩
      clear ho hL hSb hb hg hl
      go_wp2
      go_ret
      exact hpost
end Go.Proofs.Ytnomidnjglbedaa
end

section
namespace Go.Proofs.Ytnomidnjglbedaa
open Go.RowKit
set_option linter.unusedVariables false

theorem encRRule_eq (r : RRule) : encRRule r = [freshMem r.f0, .cell (.int .i64 r.f1.op), .cell (.int .i64 r.f1.num), pairMem r.f1.perm, tmsMem r.f1.kids, .cell (.int .i64 r.f2.op), .cell (.int .i64 r.f2.num), pairMem r.f2.perm, tmsMem r.f2.kids] := by unfold encRRule; rw [encT_eq]; rw [encT_eq]; rfl
theorem encRRules_parts : ∀ {rs : List RRule} {i : Nat}, i < rs.length → (encRRules rs)[i * 9]? = some (freshMem (atRRule rs i).f0) ∧ (encRRules rs)[i * 9 + 1]? = some (.cell (.int .i64 (atRRule rs i).f1.op)) ∧ (encRRules rs)[i * 9 + 2]? = some (.cell (.int .i64 (atRRule rs i).f1.num)) ∧ (encRRules rs)[i * 9 + 3]? = some (pairMem (atRRule rs i).f1.perm) ∧ (encRRules rs)[i * 9 + 4]? = some (tmsMem (atRRule rs i).f1.kids) ∧ (encRRules rs)[i * 9 + 5]? = some (.cell (.int .i64 (atRRule rs i).f2.op)) ∧ (encRRules rs)[i * 9 + 6]? = some (.cell (.int .i64 (atRRule rs i).f2.num)) ∧ (encRRules rs)[i * 9 + 7]? = some (pairMem (atRRule rs i).f2.perm) ∧ (encRRules rs)[i * 9 + 8]? = some (tmsMem (atRRule rs i).f2.kids)
  | [], i, h => by simp at h
  | r :: rs, 0, _ => by
    rw [encRRules, encRRule_eq, atRRule_zero]
    exact ⟨rfl, rfl, rfl, rfl, rfl, rfl, rfl, rfl, rfl⟩
  | r :: rs, i + 1, h => by
    have g := encRRules_parts (rs := rs) (i := i) (by simpa using h)
    have hl := encRRule_len r
    rw [encRRules, atRRule_succ]
    refine ⟨?_, ?_, ?_, ?_, ?_, ?_, ?_, ?_, ?_⟩
    · rw [List.getElem?_append_right (by omega), show (i + 1) * 9 - (encRRule r).length = i * 9 by omega]; exact g.1
    · rw [List.getElem?_append_right (by omega), show (i + 1) * 9 + 1 - (encRRule r).length = i * 9 + 1 by omega]; exact g.2.1
    · rw [List.getElem?_append_right (by omega), show (i + 1) * 9 + 2 - (encRRule r).length = i * 9 + 2 by omega]; exact g.2.2.1
    · rw [List.getElem?_append_right (by omega), show (i + 1) * 9 + 3 - (encRRule r).length = i * 9 + 3 by omega]; exact g.2.2.2.1
    · rw [List.getElem?_append_right (by omega), show (i + 1) * 9 + 4 - (encRRule r).length = i * 9 + 4 by omega]; exact g.2.2.2.2.1
    · rw [List.getElem?_append_right (by omega), show (i + 1) * 9 + 5 - (encRRule r).length = i * 9 + 5 by omega]; exact g.2.2.2.2.2.1
    · rw [List.getElem?_append_right (by omega), show (i + 1) * 9 + 6 - (encRRule r).length = i * 9 + 6 by omega]; exact g.2.2.2.2.2.2.1
    · rw [List.getElem?_append_right (by omega), show (i + 1) * 9 + 7 - (encRRule r).length = i * 9 + 7 by omega]; exact g.2.2.2.2.2.2.2.1
    · rw [List.getElem?_append_right (by omega), show (i + 1) * 9 + 8 - (encRRule r).length = i * 9 + 8 by omega]; exact g.2.2.2.2.2.2.2.2

theorem ownRRules_in {w : World} {S : List Nat} {v : Value} {rs : List RRule} (h : Own w S v (memRRules rs)) : RRulesIn w v rs := by
  have h := h.at_
  obtain ⟨B, m, d, rfl, hl⟩ := At.form h
  rw [encRRules_len] at hl
  have e : m = rs.length := by omega
  subst e
  refine ⟨B, d, rfl, fun hp => ?_⟩
  obtain ⟨b, off, rfl, hb, hc⟩ := At.get h hp
  refine ⟨b, off, rfl, hb, fun k hk => ?_⟩
  obtain ⟨p0, p1, p2, p3, p4, p5, p6, p7, p8⟩ := encRRules_parts hk
  obtain ⟨u0, e0, a0⟩ := hc _ _ p0
  obtain ⟨u1, e1, a1⟩ := hc _ _ p1
  obtain ⟨u2, e2, a2⟩ := hc _ _ p2
  obtain ⟨u3, e3, a3⟩ := hc _ _ p3
  obtain ⟨u4, e4, a4⟩ := hc _ _ p4
  obtain ⟨u5, e5, a5⟩ := hc _ _ p5
  obtain ⟨u6, e6, a6⟩ := hc _ _ p6
  obtain ⟨u7, e7, a7⟩ := hc _ _ p7
  obtain ⟨u8, e8, a8⟩ := hc _ _ p8
  obtain ⟨A0, c0, rfl, hp0⟩ := at_freshs a0
  rw [a1.cell_eq] at e1
  rw [a2.cell_eq] at e2
  obtain ⟨A1, c1, rfl, hp1⟩ := at_pairs a3
  obtain ⟨B1, d1, rfl⟩ := TmsIn.form (ts := (atRRule rs k).f1.kids) a4
  rw [a5.cell_eq] at e5
  rw [a6.cell_eq] at e6
  obtain ⟨A2, c2, rfl, hp2⟩ := at_pairs a7
  obtain ⟨B2, d2, rfl⟩ := TmsIn.form (ts := (atRRule rs k).f2.kids) a8
  exact ⟨A0, c0, A1, c1, B1, d1, A2, c2, B2, d2, e0, (by rw [Nat.add_assoc]; exact e1), (by rw [Nat.add_assoc]; exact e2), (by rw [Nat.add_assoc]; exact e3), (by rw [Nat.add_assoc]; exact e4), (by rw [Nat.add_assoc]; exact e5), (by rw [Nat.add_assoc]; exact e6), (by rw [Nat.add_assoc]; exact e7), (by rw [Nat.add_assoc]; exact e8), hp0, ⟨A1, c1, _, rfl, hp1, a4⟩, ⟨A2, c2, _, rfl, hp2, a8⟩⟩
end Go.Proofs.Ytnomidnjglbedaa
end

