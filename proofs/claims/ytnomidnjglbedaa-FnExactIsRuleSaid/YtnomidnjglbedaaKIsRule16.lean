/-
  Rules: their sizes, their copies and their comparison, as contracts; a rule as an argument.
-/
import Derived.Test.YtnomidnjglbedaaKIsRule7
import Derived.Test.YtnomidnjglbedaaKIsRule6
import Derived.Test.YtnomidnjglbedaaKIsRule4
import Derived.Test.YtnomidnjglbedaaKIsRule8
import Derived.Test.YtnomidnjglbedaaKIsRule5
import Derived.Test.YtnomidnjglbedaaKIsRule15
namespace Go.Proofs.Ytnomidnjglbedaa
open Go.RowKit
set_option linter.unusedVariables false

/-- A value that is a rule. -/
def RuleIn (w : World) (x : Value) (m : List (Int × Int)) (s t : Tm) : Prop :=
  ∃ C cc A1 c1 B1 d1 A2 c2 B2 d2, x = .agg #[.slice C m.length cc, .int .i64 s.op, .int .i64 s.num, .slice A1 s.perm.length c1, .slice B1 s.kids.length d1, .int .i64 t.op, .int .i64 t.num, .slice A2 t.perm.length c2, .slice B2 t.kids.length d2] ∧ PairsAt w C m ∧ TmIn w (.agg #[.int .i64 s.op, .int .i64 s.num, .slice A1 s.perm.length c1, .slice B1 s.kids.length d1]) s ∧ TmIn w (.agg #[.int .i64 t.op, .int .i64 t.num, .slice A2 t.perm.length c2, .slice B2 t.kids.length d2]) t
theorem RuleIn.below {w w' : World} {x : Value} {m : List (Int × Int)} {s t : Tm} (h : RuleIn w x m s t) (hb : Below w.heap.size w w') : RuleIn w' x m s t := by
  obtain ⟨C, cc, A1, c1, B1, d1, A2, c2, B2, d2, rfl, h1, h2, h3⟩ := h
  exact ⟨C, cc, A1, c1, B1, d1, A2, c2, B2, d2, rfl, h1.below hb, h2.below hb, h3.below hb⟩
def ShortRule (m : List (Int × Int)) (s t : Tm) : Prop := m.length ≤ maxLen ∧ Short s ∧ Short t
namespace RuleK
theorem row9 {w : World} {g : Nat} {a0 a1 a2 a3 a4 a5 a6 a7 a8 : Value} {T : TypeId} (h : w.heap[g]? = some (.cells #[a0, a1, a2, a3, a4, a5, a6, a7, a8] T (0, 0))) : w.cell? ⟨g, 0, none⟩ = some a0 ∧ w.cell? ⟨g, 1, none⟩ = some a1 ∧ w.cell? ⟨g, 2, none⟩ = some a2 ∧ w.cell? ⟨g, 3, none⟩ = some a3 ∧ w.cell? ⟨g, 4, none⟩ = some a4 ∧ w.cell? ⟨g, 5, none⟩ = some a5 ∧ w.cell? ⟨g, 6, none⟩ = some a6 ∧ w.cell? ⟨g, 7, none⟩ = some a7 ∧ w.cell? ⟨g, 8, none⟩ = some a8 := by
  refine ⟨?_, ?_, ?_, ?_, ?_, ?_, ?_, ?_, ?_⟩ <;> rw [cell_of_row w g _ _ _ _ h] <;> rfl
end RuleK
theorem szT_any (t : Tm) (hs : Short t) (left : Int) (w : World) (x : Value) (h0 : 0 ≤ left) (h1 : left ≤ 1099511627776) (hx : TmIn w x t) : Calls Try.prog 15 #[x, .int .i64 left] w (LeftPost left (cntT t) w) := by
  have hsh := (short_eq t).1 hs
  exact szTerm_of t _ _ left h0 h1 hx hsh.1 fun l' w' y g0 g1 hy => szTermS_any _ t.kids (Nat.le_refl _) hsh.2.2 hsh.2.1 l' w' y g0 g1 hy

set_option maxRecDepth 100000 in
set_option maxHeartbeats 4000000 in
theorem szRule_any (m : List (Int × Int)) (s t : Tm) (hs : ShortRule m s t) (left : Int) (w : World) (x : Value) (h0 : 0 ≤ left) (h1 : left ≤ 1099511627776) (hx : RuleIn w x m s t) :
    Calls Try.prog 47 #[x, .int .i64 left] w (LeftPost left (m.length + cntT s + cntT t) w) := by
  obtain ⟨hm, hs, ht⟩ := hs
  obtain ⟨C, cc, A1, c1, B1, d1, A2, c2, B2, d2, rfl, hp, h2, h3⟩ := hx
  have hlm : m.length ≤ 9223372036854775807 := by unfold maxLen at hm; omega
  have hb0 : Below w.heap.size w (w.alloc (.cells #[.slice C m.length cc, .int .i64 s.op, .int .i64 s.num, .slice A1 s.perm.length c1, .slice B1 s.kids.length d1, .int .i64 t.op, .int .i64 t.num, .slice A2 t.perm.length c2, .slice B2 t.kids.length d2] 63)) := (Below.refl _ _).alloc (Nat.le_refl _) _
  have k0 := heap_alloc_new w (.cells #[.slice C m.length cc, .int .i64 s.op, .int .i64 s.num, .slice A1 s.perm.length c1, .slice B1 s.kids.length d1, .int .i64 t.op, .int .i64 t.num, .slice A2 t.perm.length c2, .slice B2 t.kids.length d2] 63)
  have HB := Lib.hid (fun (W : World) (h : Below (w.alloc (.cells #[.slice C m.length cc, .int .i64 s.op, .int .i64 s.num, .slice A1 s.perm.length c1, .slice B1 s.kids.length d1, .int .i64 t.op, .int .i64 t.num, .slice A2 t.perm.length c2, .slice B2 t.kids.length d2] 63)).heap.size (w.alloc (.cells #[.slice C m.length cc, .int .i64 s.op, .int .i64 s.num, .slice A1 s.perm.length c1, .slice B1 s.kids.length d1, .int .i64 t.op, .int .i64 t.num, .slice A2 t.perm.length c2, .slice B2 t.kids.length d2] 63)) W) => RuleK.row9 ((h.block w.heap.size (by simp)).trans k0))
  have HS := Lib.hid (h2.below hb0)
  have HT := Lib.hid (h3.below hb0)
  have HB0 := Lib.hid hb0
  obtain ⟨m0, m1, m2, m3, m4, m5, m6, m7, m8⟩ := RuleK.row9 k0
  unfold LeftPost
  generalize hzz : leftR left (m.length + cntT s + cntT t) = zz
  have HZZ := Lib.hid hzz
  clear hzz hp h2 h3 k0 hb0 hm
  by_cases e1 : (m.length : Int) ≤ left
  · have hl1 : ¬ left - (m.length : Int) < 0 := by omega
    have hsz := szT_any s hs (left - (m.length : Int)) (w.alloc (.cells #[.slice C m.length cc, .int .i64 s.op, .int .i64 s.num, .slice A1 s.perm.length c1, .slice B1 s.kids.length d1, .int .i64 t.op, .int .i64 t.num, .slice A2 t.perm.length c2, .slice B2 t.kids.length d2] 63)) _ (by omega) (by omega) HS.out
    unfold LeftPost at hsz
    by_cases e2 : (cntT s : Int) ≤ left - (m.length : Int)
    · rw [leftR_yes e2] at hsz
      have hl2 : ¬ left - (m.length : Int) - (cntT s : Int) < 0 := by omega
      go_enter Try.func47, Try.ntmps47
      go_wp2_with fail
      refine (szF_yes C m.length cc left _ (by omega) h1 e1).mono ?_
      rintro e w2 ⟨rfl, rfl⟩
      go_wp2_with fail
      refine hsz.mono ?_
      rintro e w3 ⟨rfl, hb3⟩
      clear hsz m0 m1 m2 m3 m4 m5 m6 m7 m8
      have hsz := szT_any t ht (left - (m.length : Int) - (cntT s : Int)) w3 _ (by omega) (by omega) (HT.out.below hb3)
      have hbz3 := HB0.out.trans (hb3.mono HB0.out.size)
      unfold LeftPost at hsz
      by_cases e3 : (cntT t : Int) ≤ left - (m.length : Int) - (cntT s : Int)
      · rw [leftR_yes e3] at hsz
        have hl3 : ¬ left - (m.length : Int) - (cntT s : Int) - (cntT t : Int) < 0 := by omega
        have he : left - (m.length : Int) - (cntT s : Int) - (cntT t : Int) = zz := by rw [← HZZ.out, leftR_yes (by omega)]; omega
        obtain ⟨m0, m1, m2, m3, m4, m5, m6, m7, m8⟩ := HB.out w3 hb3
        go_wp2_with fail
        refine hsz.mono ?_
        rintro e w4 ⟨rfl, hb4⟩
        have hpost := hbz3.trans (hb4.mono hbz3.size)
        clear hsz m0 m1 m2 m3 m4 m5 m6 m7 m8 HZZ HB HS HT HB0 hb3 hb4 hbz3
        go_wp2
        go_ret
        exact ⟨by first | rfl | (subst he; rfl), hpost⟩
      · rw [leftR_no e3] at hsz
        have he : -1 = zz := by rw [← HZZ.out, leftR_no (by omega)]
        obtain ⟨m0, m1, m2, m3, m4, m5, m6, m7, m8⟩ := HB.out w3 hb3
        go_wp2_with fail
        refine hsz.mono ?_
        rintro e w4 ⟨rfl, hb4⟩
        have hpost := hbz3.trans (hb4.mono hbz3.size)
        clear hsz m0 m1 m2 m3 m4 m5 m6 m7 m8 HZZ HB HS HT HB0 hb3 hb4 hbz3
        go_wp2
        go_ret
        exact ⟨by first | rfl | (subst he; rfl), hpost⟩
    · rw [leftR_no e2] at hsz
      have he : -1 = zz := by rw [← HZZ.out, leftR_no (by omega)]
      go_enter Try.func47, Try.ntmps47
      go_wp2_with fail
      refine (szF_yes C m.length cc left _ (by omega) h1 e1).mono ?_
      rintro e w2 ⟨rfl, rfl⟩
      go_wp2_with fail
      refine hsz.mono ?_
      rintro e w3 ⟨rfl, hb3⟩
      have hpost := HB0.out.trans (hb3.mono HB0.out.size)
      clear hsz m0 m1 m2 m3 m4 m5 m6 m7 m8 HZZ HB HS HT HB0 hb3
      go_wp2
      go_ret
      exact ⟨by first | rfl | (subst he; rfl), hpost⟩
  · have he : -1 = zz := by rw [← HZZ.out, leftR_no (by omega)]
    go_enter Try.func47, Try.ntmps47
    go_wp2_with fail
    refine (szF_no C m.length cc left _ (by omega) (by omega) h1 (by omega)).mono ?_
    rintro e w2 ⟨rfl, rfl⟩
    have hpost := HB0.out
    clear m0 m1 m2 m3 m4 m5 m6 m7 m8 HZZ HB HS HT HB0
    go_wp2
    go_ret
    exact ⟨by first | rfl | (subst he; rfl), hpost⟩

/-- The same with the value written out. -/
def RuleOut9 (m : List (Int × Int)) (s t : Tm) (w : World) (e : Ending) (w' : World) : Prop :=
  ∃ C cc A1 c1 B1 d1 A2 c2 B2 d2, e = .returned (.agg #[.slice C m.length cc, .int .i64 s.op, .int .i64 s.num, .slice A1 s.perm.length c1, .slice B1 s.kids.length d1, .int .i64 t.op, .int .i64 t.num, .slice A2 t.perm.length c2, .slice B2 t.kids.length d2]) ∧ RuleIn w' (.agg #[.slice C m.length cc, .int .i64 s.op, .int .i64 s.num, .slice A1 s.perm.length c1, .slice B1 s.kids.length d1, .int .i64 t.op, .int .i64 t.num, .slice A2 t.perm.length c2, .slice B2 t.kids.length d2]) m s t ∧ Below w.heap.size w w'

/-- The same with what is owned. -/
def RuleParts (m : List (Int × Int)) (s t : Tm) (w : World) (e : Ending) (w' : World) : Prop :=
  ∃ C cc A1 c1 B1 d1 A2 c2 B2 d2 S1 S2, e = .returned (.agg #[.slice C m.length cc, .int .i64 s.op, .int .i64 s.num, .slice A1 s.perm.length c1, .slice B1 s.kids.length d1, .int .i64 t.op, .int .i64 t.num, .slice A2 t.perm.length c2, .slice B2 t.kids.length d2]) ∧ w'.ownsRow w.heap.size 123 2 (.slice C m.length cc) m.length (cellsOf m) ∧ OwnL w' S1 [.int .i64 s.op, .int .i64 s.num, .slice A1 s.perm.length c1, .slice B1 s.kids.length d1] (encT s) ∧ OwnL w' S2 [.int .i64 t.op, .int .i64 t.num, .slice A2 t.perm.length c2, .slice B2 t.kids.length d2] (encT t) ∧
    (∀ b ∈ S1, w.heap.size ≤ b) ∧ (∀ b ∈ S2, w.heap.size ≤ b) ∧ (∀ b, (Value.slice C m.length cc).ownBlock = some b → b ∉ S1) ∧ (∀ b, (Value.slice C m.length cc).ownBlock = some b → b ∉ S2) ∧ (∀ b ∈ S1, b ∉ S2) ∧ Below w.heap.size w w'

set_option maxRecDepth 100000 in
set_option maxHeartbeats 8000000 in
theorem toRule_parts (m : List (Int × Int)) (s t : Tm) (hml : m.length ≤ 1048576) (hfs : Fit s) (hft : Fit t) (w : World) (x : Value) (hx : RuleIn w x m s t) :
    Calls Try.prog 49 #[x] w (RuleParts m s t w) := by
  obtain ⟨C, cc, A1, c1, B1, d1, A2, c2, B2, d2, rfl, hp, h2, h3⟩ := hx
  have hb0 : Below w.heap.size w (((w.alloc (.cells #[.slice C m.length cc, .int .i64 s.op, .int .i64 s.num, .slice A1 s.perm.length c1, .slice B1 s.kids.length d1, .int .i64 t.op, .int .i64 t.num, .slice A2 t.perm.length c2, .slice B2 t.kids.length d2] 63)).alloc (.cells #[.slice none 0 0, .int .i64 0, .int .i64 0, .slice none 0 0, .slice none 0 0, .int .i64 0, .int .i64 0, .slice none 0 0, .slice none 0 0] 68)).alloc (.cells #[.slice none 0 0, .int .i64 0, .int .i64 0, .slice none 0 0, .slice none 0 0, .int .i64 0, .int .i64 0, .slice none 0 0, .slice none 0 0] 68)) := (((Below.refl _ _).alloc (Nat.le_refl _) _).alloc (by simp) _).alloc (by simp; omega) _
  have hsz0 : (((w.alloc (.cells #[.slice C m.length cc, .int .i64 s.op, .int .i64 s.num, .slice A1 s.perm.length c1, .slice B1 s.kids.length d1, .int .i64 t.op, .int .i64 t.num, .slice A2 t.perm.length c2, .slice B2 t.kids.length d2] 63)).alloc (.cells #[.slice none 0 0, .int .i64 0, .int .i64 0, .slice none 0 0, .slice none 0 0, .int .i64 0, .int .i64 0, .slice none 0 0, .slice none 0 0] 68)).alloc (.cells #[.slice none 0 0, .int .i64 0, .int .i64 0, .slice none 0 0, .slice none 0 0, .int .i64 0, .int .i64 0, .slice none 0 0, .slice none 0 0] 68)).heap.size = w.heap.size + 3 := by simp
  have hbox : (((w.alloc (.cells #[.slice C m.length cc, .int .i64 s.op, .int .i64 s.num, .slice A1 s.perm.length c1, .slice B1 s.kids.length d1, .int .i64 t.op, .int .i64 t.num, .slice A2 t.perm.length c2, .slice B2 t.kids.length d2] 63)).alloc (.cells #[.slice none 0 0, .int .i64 0, .int .i64 0, .slice none 0 0, .slice none 0 0, .int .i64 0, .int .i64 0, .slice none 0 0, .slice none 0 0] 68)).alloc (.cells #[.slice none 0 0, .int .i64 0, .int .i64 0, .slice none 0 0, .slice none 0 0, .int .i64 0, .int .i64 0, .slice none 0 0, .slice none 0 0] 68)).heap[w.heap.size]? = some (.cells #[.slice C m.length cc, .int .i64 s.op, .int .i64 s.num, .slice A1 s.perm.length c1, .slice B1 s.kids.length d1, .int .i64 t.op, .int .i64 t.num, .slice A2 t.perm.length c2, .slice B2 t.kids.length d2] 63 (0, 0)) := (Below.heap_alloc _ _ _ (by simp; omega)).trans ((Below.heap_alloc _ _ _ (by simp)).trans (heap_alloc_new w _))
  have hres : (((w.alloc (.cells #[.slice C m.length cc, .int .i64 s.op, .int .i64 s.num, .slice A1 s.perm.length c1, .slice B1 s.kids.length d1, .int .i64 t.op, .int .i64 t.num, .slice A2 t.perm.length c2, .slice B2 t.kids.length d2] 63)).alloc (.cells #[.slice none 0 0, .int .i64 0, .int .i64 0, .slice none 0 0, .slice none 0 0, .int .i64 0, .int .i64 0, .slice none 0 0, .slice none 0 0] 68)).alloc (.cells #[.slice none 0 0, .int .i64 0, .int .i64 0, .slice none 0 0, .slice none 0 0, .int .i64 0, .int .i64 0, .slice none 0 0, .slice none 0 0] 68)).heap[w.heap.size + 1]? = some (.cells #[.slice none 0 0, .int .i64 0, .int .i64 0, .slice none 0 0, .slice none 0 0, .int .i64 0, .int .i64 0, .slice none 0 0, .slice none 0 0] 68 (0, 0)) := by
    have h9 := heap_alloc_new (w.alloc (.cells #[.slice C m.length cc, .int .i64 s.op, .int .i64 s.num, .slice A1 s.perm.length c1, .slice B1 s.kids.length d1, .int .i64 t.op, .int .i64 t.num, .slice A2 t.perm.length c2, .slice B2 t.kids.length d2] 63)) (.cells #[.slice none 0 0, .int .i64 0, .int .i64 0, .slice none 0 0, .slice none 0 0, .int .i64 0, .int .i64 0, .slice none 0 0, .slice none 0 0] 68)
    rw [World.size_alloc] at h9
    exact (Below.heap_alloc _ _ _ (by simp)).trans h9
  have hout : (((w.alloc (.cells #[.slice C m.length cc, .int .i64 s.op, .int .i64 s.num, .slice A1 s.perm.length c1, .slice B1 s.kids.length d1, .int .i64 t.op, .int .i64 t.num, .slice A2 t.perm.length c2, .slice B2 t.kids.length d2] 63)).alloc (.cells #[.slice none 0 0, .int .i64 0, .int .i64 0, .slice none 0 0, .slice none 0 0, .int .i64 0, .int .i64 0, .slice none 0 0, .slice none 0 0] 68)).alloc (.cells #[.slice none 0 0, .int .i64 0, .int .i64 0, .slice none 0 0, .slice none 0 0, .int .i64 0, .int .i64 0, .slice none 0 0, .slice none 0 0] 68)).heap[w.heap.size + 1 + 1]? = some (.cells #[.slice none 0 0, .int .i64 0, .int .i64 0, .slice none 0 0, .slice none 0 0, .int .i64 0, .int .i64 0, .slice none 0 0, .slice none 0 0] 68 (0, 0)) := by
    have h9 := heap_alloc_new ((w.alloc (.cells #[.slice C m.length cc, .int .i64 s.op, .int .i64 s.num, .slice A1 s.perm.length c1, .slice B1 s.kids.length d1, .int .i64 t.op, .int .i64 t.num, .slice A2 t.perm.length c2, .slice B2 t.kids.length d2] 63)).alloc (.cells #[.slice none 0 0, .int .i64 0, .int .i64 0, .slice none 0 0, .slice none 0 0, .int .i64 0, .int .i64 0, .slice none 0 0, .slice none 0 0] 68)) (.cells #[.slice none 0 0, .int .i64 0, .int .i64 0, .slice none 0 0, .slice none 0 0, .int .i64 0, .int .i64 0, .slice none 0 0, .slice none 0 0] 68)
    rw [World.size_alloc, World.size_alloc] at h9
    exact h9
  have hto := toFreshS_any C cc m (((w.alloc (.cells #[.slice C m.length cc, .int .i64 s.op, .int .i64 s.num, .slice A1 s.perm.length c1, .slice B1 s.kids.length d1, .int .i64 t.op, .int .i64 t.num, .slice A2 t.perm.length c2, .slice B2 t.kids.length d2] 63)).alloc (.cells #[.slice none 0 0, .int .i64 0, .int .i64 0, .slice none 0 0, .slice none 0 0, .int .i64 0, .int .i64 0, .slice none 0 0, .slice none 0 0] 68)).alloc (.cells #[.slice none 0 0, .int .i64 0, .int .i64 0, .slice none 0 0, .slice none 0 0, .int .i64 0, .int .i64 0, .slice none 0 0, .slice none 0 0] 68)) (hp.below hb0) (by omega)
  have HSS := Lib.hid h2
  have HTT := Lib.hid h3
  have HS0 := Lib.hid hsz0
  have HK := Lib.hid hbox
  have HR := Lib.hid hres
  have HO := Lib.hid hout
  have HB0 := Lib.hid hb0
  obtain ⟨m0, m1, m2, m3, m4, m5, m6, m7, m8⟩ := RuleK.row9 hbox
  clear hp h2 h3 hbox hres hout hb0 hsz0
  go_enter Try.func49, Try.ntmps49
  go_wp2_with fail
  refine hto.mono ?_
  rintro e w1 ⟨v1, rfl, ho1, hb1⟩
  obtain ⟨C1, cc1, rfl, _⟩ := own_pairsAt ho1
  have ho1 := own_le ho1 (show w.heap.size + 3 ≤ _ by rw [HS0.out]; exact Nat.le_refl _)
  have hz1 : w.heap.size + 3 ≤ w1.heap.size := by have h := hb1.size; rw [HS0.out] at h; exact h
  have k1 := (hb1.block w.heap.size (by rw [HS0.out]; omega)).trans HK.out
  have r1 := (hb1.block (w.heap.size + 1) (by rw [HS0.out]; omega)).trans HR.out
  have o1 := (hb1.block (w.heap.size + 1 + 1) (by rw [HS0.out]; omega)).trans HO.out
  have hbz1 := HB0.out.trans (hb1.mono HB0.out.size)
  clear hto m0 m1 m2 m3 m4 m5 m6 m7 m8 hb1 HK HR HO HB0 HS0
  obtain ⟨x0, x1, x2, x3, x4, x5, x6, x7, x8⟩ := RuleK.row9 o1
  have y0 := frozen_of_row _ _ 0 _ _ o1
  have on : Only [w.heap.size + 1 + 1] w1 (w1.setCell ⟨w.heap.size + 1 + 1, 0, none⟩ (.slice C1 m.length cc1)) := ((Only.refl _ _).set ⟨w.heap.size + 1 + 1, 0, none⟩ (.slice C1 m.length cc1) (by simp))
  have o1' := heap_setCell_same w1 (w.heap.size + 1 + 1) 0 _ _ (.slice C1 m.length cc1) o1
  have k1' := (on.block w.heap.size (BoxR.box_lt k1) (by first | (simp; done) | (simp; omega))).trans k1
  have r1' := (on.block (w.heap.size + 1) (BoxR.box_lt r1) (by first | (simp; done) | (simp; omega))).trans r1
  have hbA := (hbz1.setCell (p := ⟨w.heap.size + 1 + 1, 0, none⟩) (show w.heap.size ≤ w.heap.size + 1 + 1 by omega) (.slice C1 m.length cc1))
  have hoA := own_only ho1 on (fun k e hm => by have h1 := ho1.lt k e; simp at hm; omega)
  have hszA : (w1.setCell ⟨w.heap.size + 1 + 1, 0, none⟩ (.slice C1 m.length cc1)).heap.size = w1.heap.size := by simp
  have hto := toTerm_any s hfs (w1.setCell ⟨w.heap.size + 1 + 1, 0, none⟩ (.slice C1 m.length cc1)) _ (HSS.out.below hbA)
  obtain ⟨m0, m1, m2, m3, m4, m5, m6, m7, m8⟩ := RuleK.row9 k1'
  have HO := Lib.hid o1'
  have HK := Lib.hid k1'
  have HR := Lib.hid r1'
  have HBA := Lib.hid hbA
  have HOA := Lib.hid hoA
  have HSA := Lib.hid hszA
  have HOA2 := Lib.hid ho1
  clear o1 o1' k1 k1' r1 r1' hbA hoA on ho1 hbz1 hszA
  go_wp2_with fail
  refine hto.mono ?_
  rintro e w2 ⟨P1, q1, K1, r1, S1, rfl, hL1, hS1, hb2⟩
  rw [HSA.out] at hS1
  have hz3 : w1.heap.size ≤ w2.heap.size := by have h := hb2.size; rw [HSA.out] at h; exact h
  have hz2 : w.heap.size + 3 ≤ w2.heap.size := by omega
  have k2 := (hb2.block w.heap.size (BoxR.box_lt HK.out)).trans HK.out
  have rr2 := (hb2.block (w.heap.size + 1) (BoxR.box_lt HR.out)).trans HR.out
  have o2 := (hb2.block (w.heap.size + 1 + 1) (BoxR.box_lt HO.out)).trans HO.out
  have hbz2 := HBA.out.trans (hb2.mono HBA.out.size)
  have ho2 := own_below HOA.out hb2
  clear hto m0 m1 m2 m3 m4 m5 m6 m7 m8 x0 x1 x2 x3 x4 x5 x6 x7 x8 y0 hb2 HK HR HO HBA HOA HSA
  obtain ⟨x0, x1, x2, x3, x4, x5, x6, x7, x8⟩ := RuleK.row9 o2
  have y1 := frozen_of_row _ _ 1 _ _ o2
  have y2 := frozen_of_row _ _ 2 _ _ o2
  have y3 := frozen_of_row _ _ 3 _ _ o2
  have y4 := frozen_of_row _ _ 4 _ _ o2
  have on : Only [w.heap.size + 1 + 1] w2 ((((w2.setCell ⟨w.heap.size + 1 + 1, 1, none⟩ (.int .i64 s.op)).setCell ⟨w.heap.size + 1 + 1, 2, none⟩ (.int .i64 s.num)).setCell ⟨w.heap.size + 1 + 1, 3, none⟩ (.slice P1 s.perm.length q1)).setCell ⟨w.heap.size + 1 + 1, 4, none⟩ (.slice K1 s.kids.length r1)) := (((((Only.refl _ _).set ⟨w.heap.size + 1 + 1, 1, none⟩ (.int .i64 s.op) (by simp)).set ⟨w.heap.size + 1 + 1, 2, none⟩ (.int .i64 s.num) (by simp)).set ⟨w.heap.size + 1 + 1, 3, none⟩ (.slice P1 s.perm.length q1) (by simp)).set ⟨w.heap.size + 1 + 1, 4, none⟩ (.slice K1 s.kids.length r1) (by simp))
  have oB0 := heap_setCell_same w2 (w.heap.size + 1 + 1) 1 _ _ (.int .i64 s.op) o2
  have oB1 := heap_setCell_same (w2.setCell ⟨w.heap.size + 1 + 1, 1, none⟩ (.int .i64 s.op)) (w.heap.size + 1 + 1) 2 _ _ (.int .i64 s.num) oB0
  have oB2 := heap_setCell_same ((w2.setCell ⟨w.heap.size + 1 + 1, 1, none⟩ (.int .i64 s.op)).setCell ⟨w.heap.size + 1 + 1, 2, none⟩ (.int .i64 s.num)) (w.heap.size + 1 + 1) 3 _ _ (.slice P1 s.perm.length q1) oB1
  have oB3 := heap_setCell_same (((w2.setCell ⟨w.heap.size + 1 + 1, 1, none⟩ (.int .i64 s.op)).setCell ⟨w.heap.size + 1 + 1, 2, none⟩ (.int .i64 s.num)).setCell ⟨w.heap.size + 1 + 1, 3, none⟩ (.slice P1 s.perm.length q1)) (w.heap.size + 1 + 1) 4 _ _ (.slice K1 s.kids.length r1) oB2
  have k2' := (on.block w.heap.size (BoxR.box_lt k2) (by first | (simp; done) | (simp; omega))).trans k2
  have r2' := (on.block (w.heap.size + 1) (BoxR.box_lt rr2) (by first | (simp; done) | (simp; omega))).trans rr2
  have hbB := ((((hbz2.setCell (p := ⟨w.heap.size + 1 + 1, 1, none⟩) (show w.heap.size ≤ w.heap.size + 1 + 1 by omega) (.int .i64 s.op)).setCell (p := ⟨w.heap.size + 1 + 1, 2, none⟩) (show w.heap.size ≤ w.heap.size + 1 + 1 by omega) (.int .i64 s.num)).setCell (p := ⟨w.heap.size + 1 + 1, 3, none⟩) (show w.heap.size ≤ w.heap.size + 1 + 1 by omega) (.slice P1 s.perm.length q1)).setCell (p := ⟨w.heap.size + 1 + 1, 4, none⟩) (show w.heap.size ≤ w.heap.size + 1 + 1 by omega) (.slice K1 s.kids.length r1))
  have hoB := own_only ho2 on (fun k e hm => by have h1 := ho2.lt k e; simp at hm; omega)
  have hLB := hL1.alike (w' := ((((w2.setCell ⟨w.heap.size + 1 + 1, 1, none⟩ (.int .i64 s.op)).setCell ⟨w.heap.size + 1 + 1, 2, none⟩ (.int .i64 s.num)).setCell ⟨w.heap.size + 1 + 1, 3, none⟩ (.slice P1 s.perm.length q1)).setCell ⟨w.heap.size + 1 + 1, 4, none⟩ (.slice K1 s.kids.length r1))) fun bb hbb => on.block bb (hL1.lt bb hbb) (by have := hS1 bb hbb; simp; omega)
  have hszB : ((((w2.setCell ⟨w.heap.size + 1 + 1, 1, none⟩ (.int .i64 s.op)).setCell ⟨w.heap.size + 1 + 1, 2, none⟩ (.int .i64 s.num)).setCell ⟨w.heap.size + 1 + 1, 3, none⟩ (.slice P1 s.perm.length q1)).setCell ⟨w.heap.size + 1 + 1, 4, none⟩ (.slice K1 s.kids.length r1)).heap.size = w2.heap.size := by simp
  have hto := toTerm_any t hft ((((w2.setCell ⟨w.heap.size + 1 + 1, 1, none⟩ (.int .i64 s.op)).setCell ⟨w.heap.size + 1 + 1, 2, none⟩ (.int .i64 s.num)).setCell ⟨w.heap.size + 1 + 1, 3, none⟩ (.slice P1 s.perm.length q1)).setCell ⟨w.heap.size + 1 + 1, 4, none⟩ (.slice K1 s.kids.length r1)) _ (HTT.out.below hbB)
  obtain ⟨m0, m1, m2, m3, m4, m5, m6, m7, m8⟩ := RuleK.row9 k2'
  have HO := Lib.hid oB3
  have HR := Lib.hid r2'
  have HBB := Lib.hid hbB
  have HOB := Lib.hid hoB
  have HLB := Lib.hid hLB
  have HSB := Lib.hid hszB
  have HL12 := Lib.hid (fun b (h : b ∈ S1) => hL1.lt b h)
  have HZ2 := Lib.hid (show w1.heap.size ≤ w2.heap.size by omega)
  clear o2 oB0 oB1 oB2 oB3 k2 k2' rr2 r2' hbB hoB hLB on ho2 hbz2 hszB hL1
  go_wp2_with fail
  refine hto.mono ?_
  rintro e w3 ⟨P2, q2, K2, r2, S2, rfl, hL2, hS2, hb3⟩
  rw [HSB.out] at hS2
  have rr3 := (hb3.block (w.heap.size + 1) (BoxR.box_lt HR.out)).trans HR.out
  have o3 := (hb3.block (w.heap.size + 1 + 1) (BoxR.box_lt HO.out)).trans HO.out
  have hbz3 := HBB.out.trans (hb3.mono HBB.out.size)
  have ho3 := own_below HOB.out hb3
  have hL1 := HLB.out.alike (w' := w3) fun bb hbb => hb3.block bb (HLB.out.lt bb hbb)
  clear hto m0 m1 m2 m3 m4 m5 m6 m7 m8 x0 x1 x2 x3 x4 x5 x6 x7 x8 y1 y2 y3 y4 hb3 HR HO HBB HOB HLB HSB
  have on : Only [w.heap.size + 1 + 1, w.heap.size + 1] w3 (((((((((((((w3.setCell ⟨w.heap.size + 1 + 1, 5, none⟩ (.int .i64 t.op)).setCell ⟨w.heap.size + 1 + 1, 6, none⟩ (.int .i64 t.num)).setCell ⟨w.heap.size + 1 + 1, 7, none⟩ (.slice P2 t.perm.length q2)).setCell ⟨w.heap.size + 1 + 1, 8, none⟩ (.slice K2 t.kids.length r2)).setCell ⟨w.heap.size + 1, 0, none⟩ (.slice C1 m.length cc1)).setCell ⟨w.heap.size + 1, 1, none⟩ (.int .i64 s.op)).setCell ⟨w.heap.size + 1, 2, none⟩ (.int .i64 s.num)).setCell ⟨w.heap.size + 1, 3, none⟩ (.slice P1 s.perm.length q1)).setCell ⟨w.heap.size + 1, 4, none⟩ (.slice K1 s.kids.length r1)).setCell ⟨w.heap.size + 1, 5, none⟩ (.int .i64 t.op)).setCell ⟨w.heap.size + 1, 6, none⟩ (.int .i64 t.num)).setCell ⟨w.heap.size + 1, 7, none⟩ (.slice P2 t.perm.length q2)).setCell ⟨w.heap.size + 1, 8, none⟩ (.slice K2 t.kids.length r2)) := ((((((((((((((Only.refl _ _).set ⟨w.heap.size + 1 + 1, 5, none⟩ (.int .i64 t.op) (by simp)).set ⟨w.heap.size + 1 + 1, 6, none⟩ (.int .i64 t.num) (by simp)).set ⟨w.heap.size + 1 + 1, 7, none⟩ (.slice P2 t.perm.length q2) (by simp)).set ⟨w.heap.size + 1 + 1, 8, none⟩ (.slice K2 t.kids.length r2) (by simp)).set ⟨w.heap.size + 1, 0, none⟩ (.slice C1 m.length cc1) (by simp)).set ⟨w.heap.size + 1, 1, none⟩ (.int .i64 s.op) (by simp)).set ⟨w.heap.size + 1, 2, none⟩ (.int .i64 s.num) (by simp)).set ⟨w.heap.size + 1, 3, none⟩ (.slice P1 s.perm.length q1) (by simp)).set ⟨w.heap.size + 1, 4, none⟩ (.slice K1 s.kids.length r1) (by simp)).set ⟨w.heap.size + 1, 5, none⟩ (.int .i64 t.op) (by simp)).set ⟨w.heap.size + 1, 6, none⟩ (.int .i64 t.num) (by simp)).set ⟨w.heap.size + 1, 7, none⟩ (.slice P2 t.perm.length q2) (by simp)).set ⟨w.heap.size + 1, 8, none⟩ (.slice K2 t.kids.length r2) (by simp))
  have hbD : Below w.heap.size w (((((((((((((w3.setCell ⟨w.heap.size + 1 + 1, 5, none⟩ (.int .i64 t.op)).setCell ⟨w.heap.size + 1 + 1, 6, none⟩ (.int .i64 t.num)).setCell ⟨w.heap.size + 1 + 1, 7, none⟩ (.slice P2 t.perm.length q2)).setCell ⟨w.heap.size + 1 + 1, 8, none⟩ (.slice K2 t.kids.length r2)).setCell ⟨w.heap.size + 1, 0, none⟩ (.slice C1 m.length cc1)).setCell ⟨w.heap.size + 1, 1, none⟩ (.int .i64 s.op)).setCell ⟨w.heap.size + 1, 2, none⟩ (.int .i64 s.num)).setCell ⟨w.heap.size + 1, 3, none⟩ (.slice P1 s.perm.length q1)).setCell ⟨w.heap.size + 1, 4, none⟩ (.slice K1 s.kids.length r1)).setCell ⟨w.heap.size + 1, 5, none⟩ (.int .i64 t.op)).setCell ⟨w.heap.size + 1, 6, none⟩ (.int .i64 t.num)).setCell ⟨w.heap.size + 1, 7, none⟩ (.slice P2 t.perm.length q2)).setCell ⟨w.heap.size + 1, 8, none⟩ (.slice K2 t.kids.length r2)) := (((((((((((((hbz3.setCell (p := ⟨w.heap.size + 1 + 1, 5, none⟩) (show w.heap.size ≤ w.heap.size + 1 + 1 by omega) (.int .i64 t.op)).setCell (p := ⟨w.heap.size + 1 + 1, 6, none⟩) (show w.heap.size ≤ w.heap.size + 1 + 1 by omega) (.int .i64 t.num)).setCell (p := ⟨w.heap.size + 1 + 1, 7, none⟩) (show w.heap.size ≤ w.heap.size + 1 + 1 by omega) (.slice P2 t.perm.length q2)).setCell (p := ⟨w.heap.size + 1 + 1, 8, none⟩) (show w.heap.size ≤ w.heap.size + 1 + 1 by omega) (.slice K2 t.kids.length r2)).setCell (p := ⟨w.heap.size + 1, 0, none⟩) (show w.heap.size ≤ w.heap.size + 1 by omega) (.slice C1 m.length cc1)).setCell (p := ⟨w.heap.size + 1, 1, none⟩) (show w.heap.size ≤ w.heap.size + 1 by omega) (.int .i64 s.op)).setCell (p := ⟨w.heap.size + 1, 2, none⟩) (show w.heap.size ≤ w.heap.size + 1 by omega) (.int .i64 s.num)).setCell (p := ⟨w.heap.size + 1, 3, none⟩) (show w.heap.size ≤ w.heap.size + 1 by omega) (.slice P1 s.perm.length q1)).setCell (p := ⟨w.heap.size + 1, 4, none⟩) (show w.heap.size ≤ w.heap.size + 1 by omega) (.slice K1 s.kids.length r1)).setCell (p := ⟨w.heap.size + 1, 5, none⟩) (show w.heap.size ≤ w.heap.size + 1 by omega) (.int .i64 t.op)).setCell (p := ⟨w.heap.size + 1, 6, none⟩) (show w.heap.size ≤ w.heap.size + 1 by omega) (.int .i64 t.num)).setCell (p := ⟨w.heap.size + 1, 7, none⟩) (show w.heap.size ≤ w.heap.size + 1 by omega) (.slice P2 t.perm.length q2)).setCell (p := ⟨w.heap.size + 1, 8, none⟩) (show w.heap.size ≤ w.heap.size + 1 by omega) (.slice K2 t.kids.length r2))
  have hoD := own_only ho3 on (fun k e hm => by have h1 := ho3.lt k e; simp at hm; omega)
  have hLD1 := hL1.alike (w' := (((((((((((((w3.setCell ⟨w.heap.size + 1 + 1, 5, none⟩ (.int .i64 t.op)).setCell ⟨w.heap.size + 1 + 1, 6, none⟩ (.int .i64 t.num)).setCell ⟨w.heap.size + 1 + 1, 7, none⟩ (.slice P2 t.perm.length q2)).setCell ⟨w.heap.size + 1 + 1, 8, none⟩ (.slice K2 t.kids.length r2)).setCell ⟨w.heap.size + 1, 0, none⟩ (.slice C1 m.length cc1)).setCell ⟨w.heap.size + 1, 1, none⟩ (.int .i64 s.op)).setCell ⟨w.heap.size + 1, 2, none⟩ (.int .i64 s.num)).setCell ⟨w.heap.size + 1, 3, none⟩ (.slice P1 s.perm.length q1)).setCell ⟨w.heap.size + 1, 4, none⟩ (.slice K1 s.kids.length r1)).setCell ⟨w.heap.size + 1, 5, none⟩ (.int .i64 t.op)).setCell ⟨w.heap.size + 1, 6, none⟩ (.int .i64 t.num)).setCell ⟨w.heap.size + 1, 7, none⟩ (.slice P2 t.perm.length q2)).setCell ⟨w.heap.size + 1, 8, none⟩ (.slice K2 t.kids.length r2))) fun bb hbb => on.block bb (hL1.lt bb hbb) (by have := hS1 bb hbb; simp; omega)
  have hLD2 := hL2.alike (w' := (((((((((((((w3.setCell ⟨w.heap.size + 1 + 1, 5, none⟩ (.int .i64 t.op)).setCell ⟨w.heap.size + 1 + 1, 6, none⟩ (.int .i64 t.num)).setCell ⟨w.heap.size + 1 + 1, 7, none⟩ (.slice P2 t.perm.length q2)).setCell ⟨w.heap.size + 1 + 1, 8, none⟩ (.slice K2 t.kids.length r2)).setCell ⟨w.heap.size + 1, 0, none⟩ (.slice C1 m.length cc1)).setCell ⟨w.heap.size + 1, 1, none⟩ (.int .i64 s.op)).setCell ⟨w.heap.size + 1, 2, none⟩ (.int .i64 s.num)).setCell ⟨w.heap.size + 1, 3, none⟩ (.slice P1 s.perm.length q1)).setCell ⟨w.heap.size + 1, 4, none⟩ (.slice K1 s.kids.length r1)).setCell ⟨w.heap.size + 1, 5, none⟩ (.int .i64 t.op)).setCell ⟨w.heap.size + 1, 6, none⟩ (.int .i64 t.num)).setCell ⟨w.heap.size + 1, 7, none⟩ (.slice P2 t.perm.length q2)).setCell ⟨w.heap.size + 1, 8, none⟩ (.slice K2 t.kids.length r2))) fun bb hbb => on.block bb (hL2.lt bb hbb) (by have := hS2 bb hbb; simp; omega)
  have hd1 : ∀ b, (Value.slice C1 m.length cc1).ownBlock = some b → b ∉ S1 := fun b e hm => by have h1 := (HOA2.out.lt b e).2; have h2 := hS1 b hm; omega
  have hd2 : ∀ b, (Value.slice C1 m.length cc1).ownBlock = some b → b ∉ S2 := fun b e hm => by have h1 := (HOA2.out.lt b e).2; have h2 := hS2 b hm; have h3 := HZ2.out; omega
  have hd : ∀ b ∈ S1, b ∉ S2 := fun b h1 h2 => by have h3 := HL12.out b h1; have h4 := hS2 b h2; omega
  have hpost : RuleParts m s t w (.returned (.agg #[.slice C1 m.length cc1, .int .i64 s.op, .int .i64 s.num, .slice P1 s.perm.length q1, .slice K1 s.kids.length r1, .int .i64 t.op, .int .i64 t.num, .slice P2 t.perm.length q2, .slice K2 t.kids.length r2])) (((((((((((((w3.setCell ⟨w.heap.size + 1 + 1, 5, none⟩ (.int .i64 t.op)).setCell ⟨w.heap.size + 1 + 1, 6, none⟩ (.int .i64 t.num)).setCell ⟨w.heap.size + 1 + 1, 7, none⟩ (.slice P2 t.perm.length q2)).setCell ⟨w.heap.size + 1 + 1, 8, none⟩ (.slice K2 t.kids.length r2)).setCell ⟨w.heap.size + 1, 0, none⟩ (.slice C1 m.length cc1)).setCell ⟨w.heap.size + 1, 1, none⟩ (.int .i64 s.op)).setCell ⟨w.heap.size + 1, 2, none⟩ (.int .i64 s.num)).setCell ⟨w.heap.size + 1, 3, none⟩ (.slice P1 s.perm.length q1)).setCell ⟨w.heap.size + 1, 4, none⟩ (.slice K1 s.kids.length r1)).setCell ⟨w.heap.size + 1, 5, none⟩ (.int .i64 t.op)).setCell ⟨w.heap.size + 1, 6, none⟩ (.int .i64 t.num)).setCell ⟨w.heap.size + 1, 7, none⟩ (.slice P2 t.perm.length q2)).setCell ⟨w.heap.size + 1, 8, none⟩ (.slice K2 t.kids.length r2)) :=
    ⟨C1, cc1, P1, q1, K1, r1, P2, q2, K2, r2, S1, S2, rfl, own_le hoD (by omega), hLD1, hLD2, fun b h => by have := hS1 b h; omega, fun b h => by have := hS2 b h; omega, hd1, hd2, hd, hbD⟩
  obtain ⟨x0, x1, x2, x3, x4, x5, x6, x7, x8⟩ := RuleK.row9 o3
  have y0 := frozen_of_row _ _ 0 _ _ o3
  have y1 := frozen_of_row _ _ 1 _ _ o3
  have y2 := frozen_of_row _ _ 2 _ _ o3
  have y3 := frozen_of_row _ _ 3 _ _ o3
  have y4 := frozen_of_row _ _ 4 _ _ o3
  have y5 := frozen_of_row _ _ 5 _ _ o3
  have y6 := frozen_of_row _ _ 6 _ _ o3
  have y7 := frozen_of_row _ _ 7 _ _ o3
  have y8 := frozen_of_row _ _ 8 _ _ o3
  obtain ⟨s0, s1, s2, s3, s4, s5, s6, s7, s8⟩ := RuleK.row9 rr3
  have z0 := frozen_of_row _ _ 0 _ _ rr3
  have z1 := frozen_of_row _ _ 1 _ _ rr3
  have z2 := frozen_of_row _ _ 2 _ _ rr3
  have z3 := frozen_of_row _ _ 3 _ _ rr3
  have z4 := frozen_of_row _ _ 4 _ _ rr3
  have z5 := frozen_of_row _ _ 5 _ _ rr3
  have z6 := frozen_of_row _ _ 6 _ _ rr3
  have z7 := frozen_of_row _ _ 7 _ _ rr3
  have z8 := frozen_of_row _ _ 8 _ _ rr3
  clear o3 rr3 hbz3 ho3 hL1 hL2 on hbD hoD hLD1 hLD2 hS1 hS2 HSS HTT hd1 hd2 hd HOA2 HL12 HZ2
  go_wp2
  exact bodyPost_ret (v := .agg #[.slice C1 m.length cc1, .int .i64 s.op, .int .i64 s.num, .slice P1 s.perm.length q1, .slice K1 s.kids.length r1, .int .i64 t.op, .int .i64 t.num, .slice P2 t.perm.length q2, .slice K2 t.kids.length r2]) (by simp [results, Try.results49, go_sem, s0, s1, s2, s3, s4, s5, s6, s7, s8]) rfl hpost
theorem toRule_any (m : List (Int × Int)) (s t : Tm) (hml : m.length ≤ 1048576) (hfs : Fit s) (hft : Fit t) (w : World) (x : Value) (hx : RuleIn w x m s t) :
    Calls Try.prog 49 #[x] w (RuleOut9 m s t w) := by
  refine (toRule_parts m s t hml hfs hft w x hx).mono ?_
  rintro e w' ⟨C, cc, A1, c1, B1, d1, A2, c2, B2, d2, S1, S2, rfl, ho, hL1, hL2, _, _, _, _, _, hb⟩
  obtain ⟨C3, cc3, e3, hp3⟩ := own_pairsAt ho
  cases e3
  exact ⟨C, cc, A1, c1, B1, d1, A2, c2, B2, d2, rfl, ⟨C, cc, A1, c1, B1, d1, A2, c2, B2, d2, rfl, hp3, tmOut_in hL1, tmOut_in hL2⟩, hb⟩

set_option maxRecDepth 100000 in
set_option maxHeartbeats 4000000 in
theorem eqRule_any (m : List (Int × Int)) (s t : Tm) (hml : m.length ≤ 1048576) (hfs : Fit s) (hft : Fit t) (w : World) (x y : Value) (hx : RuleIn w x m s t) (hy : RuleIn w y m s t) :
    Calls Try.prog 51 #[x, y] w (YesPost w) := by
  obtain ⟨C, cc, A1, c1, B1, d1, A2, c2, B2, d2, rfl, hp, h2, h3⟩ := hx
  obtain ⟨C', cc', A1', c1', B1', d1', A2', c2', B2', d2', rfl, hp', h2', h3'⟩ := hy
  have hb0 : Below w.heap.size w ((w.alloc (.cells #[.slice C m.length cc, .int .i64 s.op, .int .i64 s.num, .slice A1 s.perm.length c1, .slice B1 s.kids.length d1, .int .i64 t.op, .int .i64 t.num, .slice A2 t.perm.length c2, .slice B2 t.kids.length d2] 68)).alloc (.cells #[.slice C' m.length cc', .int .i64 s.op, .int .i64 s.num, .slice A1' s.perm.length c1', .slice B1' s.kids.length d1', .int .i64 t.op, .int .i64 t.num, .slice A2' t.perm.length c2', .slice B2' t.kids.length d2'] 68)) := ((Below.refl _ _).alloc (Nat.le_refl _) _).alloc (by simp) _
  have k0 : ((w.alloc (.cells #[.slice C m.length cc, .int .i64 s.op, .int .i64 s.num, .slice A1 s.perm.length c1, .slice B1 s.kids.length d1, .int .i64 t.op, .int .i64 t.num, .slice A2 t.perm.length c2, .slice B2 t.kids.length d2] 68)).alloc (.cells #[.slice C' m.length cc', .int .i64 s.op, .int .i64 s.num, .slice A1' s.perm.length c1', .slice B1' s.kids.length d1', .int .i64 t.op, .int .i64 t.num, .slice A2' t.perm.length c2', .slice B2' t.kids.length d2'] 68)).heap[w.heap.size]? = some (.cells #[.slice C m.length cc, .int .i64 s.op, .int .i64 s.num, .slice A1 s.perm.length c1, .slice B1 s.kids.length d1, .int .i64 t.op, .int .i64 t.num, .slice A2 t.perm.length c2, .slice B2 t.kids.length d2] 68 (0, 0)) := (Below.heap_alloc _ _ _ (by simp)).trans (heap_alloc_new w _)
  have k1 : ((w.alloc (.cells #[.slice C m.length cc, .int .i64 s.op, .int .i64 s.num, .slice A1 s.perm.length c1, .slice B1 s.kids.length d1, .int .i64 t.op, .int .i64 t.num, .slice A2 t.perm.length c2, .slice B2 t.kids.length d2] 68)).alloc (.cells #[.slice C' m.length cc', .int .i64 s.op, .int .i64 s.num, .slice A1' s.perm.length c1', .slice B1' s.kids.length d1', .int .i64 t.op, .int .i64 t.num, .slice A2' t.perm.length c2', .slice B2' t.kids.length d2'] 68)).heap[w.heap.size + 1]? = some (.cells #[.slice C' m.length cc', .int .i64 s.op, .int .i64 s.num, .slice A1' s.perm.length c1', .slice B1' s.kids.length d1', .int .i64 t.op, .int .i64 t.num, .slice A2' t.perm.length c2', .slice B2' t.kids.length d2'] 68 (0, 0)) := by
    have h := heap_alloc_new (w.alloc (.cells #[.slice C m.length cc, .int .i64 s.op, .int .i64 s.num, .slice A1 s.perm.length c1, .slice B1 s.kids.length d1, .int .i64 t.op, .int .i64 t.num, .slice A2 t.perm.length c2, .slice B2 t.kids.length d2] 68)) (.cells #[.slice C' m.length cc', .int .i64 s.op, .int .i64 s.num, .slice A1' s.perm.length c1', .slice B1' s.kids.length d1', .int .i64 t.op, .int .i64 t.num, .slice A2' t.perm.length c2', .slice B2' t.kids.length d2'] 68)
    rw [World.size_alloc] at h
    exact h
  have he1 := eqFreshS_any C C' cc cc' m m ((w.alloc (.cells #[.slice C m.length cc, .int .i64 s.op, .int .i64 s.num, .slice A1 s.perm.length c1, .slice B1 s.kids.length d1, .int .i64 t.op, .int .i64 t.num, .slice A2 t.perm.length c2, .slice B2 t.kids.length d2] 68)).alloc (.cells #[.slice C' m.length cc', .int .i64 s.op, .int .i64 s.num, .slice A1' s.perm.length c1', .slice B1' s.kids.length d1', .int .i64 t.op, .int .i64 t.num, .slice A2' t.perm.length c2', .slice B2' t.kids.length d2'] 68)) (hp.below hb0) (hp'.below hb0) (by omega)
  rw [decide_eq_true (rfl : m = m)] at he1
  have HS := Lib.hid (And.intro h2 h2')
  have HT := Lib.hid (And.intro h3 h3')
  have HB0 := Lib.hid hb0
  have HK0 := Lib.hid k0
  have HK1 := Lib.hid k1
  obtain ⟨m0, m1, m2, m3, m4, m5, m6, m7, m8⟩ := RuleK.row9 k0
  obtain ⟨n0, n1, n2, n3, n4, n5, n6, n7, n8⟩ := RuleK.row9 k1
  clear hp hp' h2 h2' h3 h3' hb0 k0 k1
  go_enter Try.func51, Try.ntmps51
  go_wp2_with fail
  refine he1.mono ?_
  rintro e w1 ⟨rfl, hb1⟩
  have hbw1 := HB0.out.trans (hb1.mono HB0.out.size)
  have k0 := (hb1.block w.heap.size (BoxR.box_lt HK0.out)).trans HK0.out
  have k1 := (hb1.block (w.heap.size + 1) (BoxR.box_lt HK1.out)).trans HK1.out
  clear he1 m0 m1 m2 m3 m4 m5 m6 m7 m8 n0 n1 n2 n3 n4 n5 n6 n7 n8 HK0 HK1
  obtain ⟨m0, m1, m2, m3, m4, m5, m6, m7, m8⟩ := RuleK.row9 k0
  obtain ⟨n0, n1, n2, n3, n4, n5, n6, n7, n8⟩ := RuleK.row9 k1
  have he2 := eqTerm_any s hfs w1 _ _ (HS.out.1.below hbw1) (HS.out.2.below hbw1)
  have HK0 := Lib.hid k0
  have HK1 := Lib.hid k1
  clear k0 k1
  go_wp2_with fail
  refine he2.mono ?_
  rintro e w2 ⟨rfl, hb2⟩
  have hbw2 := hbw1.trans (hb2.mono hbw1.size)
  have k0 := (hb2.block w.heap.size (BoxR.box_lt HK0.out)).trans HK0.out
  have k1 := (hb2.block (w.heap.size + 1) (BoxR.box_lt HK1.out)).trans HK1.out
  clear he2 m0 m1 m2 m3 m4 m5 m6 m7 m8 n0 n1 n2 n3 n4 n5 n6 n7 n8 HK0 HK1
  obtain ⟨m0, m1, m2, m3, m4, m5, m6, m7, m8⟩ := RuleK.row9 k0
  obtain ⟨n0, n1, n2, n3, n4, n5, n6, n7, n8⟩ := RuleK.row9 k1
  have he3 := eqTerm_any t hft w2 _ _ (HT.out.1.below hbw2) (HT.out.2.below hbw2)
  clear k0 k1
  go_wp2_with fail
  refine he3.mono ?_
  rintro e w3 ⟨rfl, hb3⟩
  have hbw3 := hbw2.trans (hb3.mono hbw2.size)
  clear he3 m0 m1 m2 m3 m4 m5 m6 m7 m8 n0 n1 n2 n3 n4 n5 n6 n7 n8
  go_wp2
  go_ret
  exact ⟨rfl, hbw3⟩

open Go.Deep Go.ChangeShapes Go.WideShapes
theorem ruleCells : Try.prog.cellsOf 63 = 9 := by kernel_rfl
theorem rfCells : Try.prog.cellsOf 61 = 1 := by kernel_rfl
theorem array9 {α : Type} {cs : Array α} (h : cs.size = 9) : ∃ c0 c1 c2 c3 c4 c5 c6 c7 c8, cs = #[c0, c1, c2, c3, c4, c5, c6, c7, c8] := by
  obtain ⟨l⟩ := cs
  match l, h with
  | [c0, c1, c2, c3, c4, c5, c6, c7, c8], _ => exact ⟨c0, c1, c2, c3, c4, c5, c6, c7, c8, rfl⟩
section
variable {H : Type} {enc : TypeId × Value → H} {W : World}
theorem open_fs1 {fuel : Nat} {v : Value} {x : DataW H × List MemPlace} (h : DataW.trod enc Try.prog W 0 (fun _ => true) true fuel 61 [v] = some x) :
    ∃ A l c, v = .slice A (l : List (Int × Int)).length c ∧ PairsAt W A l ∧ l.length ≤ maxLen := by
  have hform : ∃ A n c, v = .slice A n c := by
    rcases DataW.trod_slice Try.underlying61 h with ⟨e, _⟩ | ⟨a, len, cap, _, _, _, _, e, _⟩
    · simp at e; exact ⟨_, _, _, e⟩
    · simp at e; exact ⟨_, _, _, e⟩
  obtain ⟨A, n, c, rfl⟩ := hform
  obtain ⟨l, rfl, hA, hm⟩ := open_freshs (W := W) (A := A) (n := n) (c := c) (d := x.1) (p := x.2) ⟨fuel, by simpa [Value.cells] using h⟩
  exact ⟨A, l, c, rfl, hA, hm⟩
set_option maxRecDepth 100000 in
theorem open_fourRule {fuel : Nat} {v0 v1 v2 v3 : Value} {x : DataW H × List MemPlace} (h : DataW.trod enc Try.prog W 0 (fun _ => true) true fuel 25 [v0, v1, v2, v3] = some x) :
    ∃ (t : Tm) (A : Option Addr) (c : Nat) (B : Option Addr) (d : Nat), v0 = .int .i64 t.op ∧ v1 = .int .i64 t.num ∧ v2 = .slice A t.perm.length c ∧ v3 = .slice B t.kids.length d ∧ TmIn W (.agg #[.int .i64 t.op, .int .i64 t.num, .slice A t.perm.length c, .slice B t.kids.length d]) t ∧ Short t := by
  obtain ⟨xs, m, hmn, _, _, hxl, hfs⟩ := DataW.trod_struct Try.underlying25 h
  match xs, hxl with
  | [y0, y1, y2, y3], _ =>
    have g0 := hfs 0 _ rfl
    have g1 := hfs 1 _ rfl
    have g2 := hfs 2 _ rfl
    have g3 := hfs 3 _ rfl
    simp [intCells, psCells, tsCells] at g0 g1 g2 g3
    obtain ⟨z0, e0, _⟩ := DataW.trod_int Try.underlying3 g0
    obtain ⟨z1, e1, _⟩ := DataW.trod_int Try.underlying3 g1
    simp at e0 e1
    subst e0; subst e1
    obtain ⟨A, l, c, rfl, hA, hlm⟩ := open_ps g2
    obtain ⟨ks, hks, hsh, hkm⟩ := open_tms m m (Nat.le_refl _) v3 y3 g3
    obtain ⟨B, d, rfl⟩ := hks.form
    exact ⟨.mk z0 z1 l ks, A, c, B, d, rfl, rfl, rfl, rfl, ⟨A, c, _, rfl, hA, hks⟩, hlm, hkm, hsh⟩
set_option maxRecDepth 100000 in
/-- A struct argument that is a rule. -/
theorem open_rule {r : Reach} {b0 : Nat} {v : Value} {d : DataW H} {p : List MemPlace} (hv : Value.okWide Try.prog W r b0 63 v) (h : DataW.Trod enc Try.prog W 0 (fun _ => true) true 63 v d p) :
    ∃ (m : List (Int × Int)) (s t : Tm), RuleIn W v m s t ∧ ShortRule m s t := by
  obtain ⟨cs, rfl, hsz⟩ := okWide_struct Try.underlying63 hv
  obtain ⟨v0, v1, v2, v3, v4, v5, v6, v7, v8, rfl⟩ := array9 (hsz.trans ruleCells)
  obtain ⟨fuel, hf⟩ := h
  obtain ⟨xs, n, hmn, _, _, hxl, hfs⟩ := DataW.trod_struct Try.underlying63 hf
  match xs, hxl with
  | [y0, y1, y2], _ =>
    have g0 := hfs 0 _ rfl
    have g1 := hfs 1 _ rfl
    have g2 := hfs 2 _ rfl
    simp [Value.cells, rfCells, ltCells] at g0 g1 g2
    obtain ⟨C, m, cc, rfl, hm, hml⟩ := open_fs1 g0
    obtain ⟨s, A1, c1, B1, d1, rfl, rfl, rfl, rfl, h1, s1⟩ := open_fourRule g1
    obtain ⟨t, A2, c2, B2, d2, rfl, rfl, rfl, rfl, h2, s2⟩ := open_fourRule g2
    exact ⟨m, s, t, ⟨C, cc, A1, c1, B1, d1, A2, c2, B2, d2, rfl, hm, h1, h2⟩, hml, s1, s2⟩
end
end Go.Proofs.Ytnomidnjglbedaa
