/-
  Copies of slices of equations, in memory of their own, as the laws make them. A copy of equations reads as the equations.
-/
import Derived.Test.YtnomidnjglbedaaKIsProblem14
section
namespace Go.Proofs.Ytnomidnjglbedaa
open Go.RowKit Go.ChangeShapes Go.WideShapes
set_option linter.unusedVariables false

theorem take_set8' {xs : List Value} {j : Nat} {a0 a1 a2 a3 a4 a5 a6 a7 : Value} (h : j + 8 ≤ xs.length) : ((((((((xs.set (j) a0).set (j + 1) a1).set (j + 2) a2).set (j + 3) a3).set (j + 4) a4).set (j + 5) a5).set (j + 6) a6).set (j + 7) a7).take (j + 8) = xs.take j ++ [a0, a1, a2, a3, a4, a5, a6, a7] := by
  apply List.ext_getElem?
  intro i
  rw [List.getElem?_take]
  by_cases hi : i < j + 8
  · rw [if_pos hi]
    by_cases h1 : i < j
    · rw [List.getElem?_append_left (by rw [List.length_take]; omega), List.getElem?_take, if_pos h1]
      simp [show ¬ j = i by omega, show ¬ j + 1 = i by omega, show ¬ j + 2 = i by omega, show ¬ j + 3 = i by omega, show ¬ j + 4 = i by omega, show ¬ j + 5 = i by omega, show ¬ j + 6 = i by omega, show ¬ j + 7 = i by omega]
    · rw [List.getElem?_append_right (by rw [List.length_take]; omega), List.length_take, show min j xs.length = j by omega]
      have hc : i = j ∨ i = j + 1 ∨ i = j + 2 ∨ i = j + 3 ∨ i = j + 4 ∨ i = j + 5 ∨ i = j + 6 ∨ i = j + 7 := by omega
      rcases hc with rfl | rfl | rfl | rfl | rfl | rfl | rfl | rfl
      · simp [show i < xs.length by omega]
      · simp [show j + 1 < xs.length by omega, show j + 1 - j = 1 by omega]
      · simp [show j + 2 < xs.length by omega, show j + 2 - j = 2 by omega]
      · simp [show j + 3 < xs.length by omega, show j + 3 - j = 3 by omega]
      · simp [show j + 4 < xs.length by omega, show j + 4 - j = 4 by omega]
      · simp [show j + 5 < xs.length by omega, show j + 5 - j = 5 by omega]
      · simp [show j + 6 < xs.length by omega, show j + 6 - j = 6 by omega]
      · simp [show j + 7 < xs.length by omega, show j + 7 - j = 7 by omega]
  · rw [if_neg hi, List.getElem?_eq_none (by rw [List.length_append, List.length_take]; simp; omega)]

theorem infoREquation : (Try.prog.info? 115).map (fun i => (i.zero, i.size, i.bytes)) = some (some (.agg #[.int .i64 0, .int .i64 0, .slice none 0 0, .slice none 0 0, .int .i64 0, .int .i64 0, .slice none 0 0, .slice none 0 0]), 8, 128) := by kernel_rfl

/-- Every term of a list of records fits. -/
def FitREquations (rs : List REquation) : Prop := ∀ k, k < rs.length → Fit (atREquation rs k).f0 ∧ Fit (atREquation rs k).f1

set_option maxRecDepth 100000 in
set_option maxHeartbeats 4000000 in
theorem toEquationS_any (rs : List REquation) (hf : FitREquations rs) (hlen : rs.length ≤ 1048576) (w : World) (x : Value) (hx : REquationsIn w x rs) : Calls Try.prog 37 #[x] w (REquationsOut rs w) := by
  obtain ⟨A, c, rfl, hg⟩ := hx
  obtain ⟨i0, hi0, hz0, hz1, hz2⟩ := info_parts infoREquation
  have HS := Lib.hid hz2
  clear hz2
  go_enter Try.func37, Try.ntmps37
  go_wp2_with (at_make; refine wpList_make_full _ rfl (.tmp 6) (.tmp 6) 51 rfl w.heap.size 115 i0 _ 8 Try.underlying51 hi0 hz0 hz1 .i64 .i64 _ _ rs.length rfl rfl rfl rfl ?c1 ?c2 (Nat.le_refl _) ?_)
  case c1 => rw [HS.out]; omega
  case c2 => unfold maxLen; omega
  intro w1 ho hgw
  have hb0 := (Below.refl w.heap.size w).grown hgw (Nat.le_refl _) (fun k hk => by cases hk)
  clear hgw
  generalize hz : (madeCells #[Value.int .i64 0, Value.int .i64 0, Value.slice none 0 0, Value.slice none 0 0, Value.int .i64 0, Value.int .i64 0, Value.slice none 0 0, Value.slice none 0 0] (rs.length * 8)).toList = zs at ho
  clear hz
  have hlt0 : w.heap.size < w1.heap.size := (ho.lt w.heap.size rfl).2
  go_wp2
  go_loopw [4] (fun i wr => ∃ (k : Nat) (S : List Nat) (xs : List Value), k ≤ rs.length ∧ i = .int .i64 k ∧ wr.ownsRow w.heap.size 115 8 (.slice (some ⟨w.heap.size, 0, none⟩) rs.length rs.length) rs.length xs ∧ OwnL wr S (xs.take (k * 8)) (encREquations (rs.take k)) ∧ (∀ b ∈ S, w.heap.size < b) ∧ Below w.heap.size w wr) (fun i _ => rs.length - (intOf i).toNat)
  case atStart => exact ⟨0, [], zs, Nat.zero_le _, rfl, ho, by simp [encREquations]; exact .nil, fun b hb => by simp at hb, hb0⟩
  case round =>
    clear ho hb0
    obtain ⟨k, S, xs, hk, rfl, ho, hL, hSb, hb⟩ := hrel
    have hwr : w.heap.size < wr.heap.size := (ho.lt w.heap.size rfl).2
    by_cases hlt : k < rs.length
    · obtain ⟨b, off, rfl, hbl, hget⟩ := hg (by omega)
      obtain ⟨A0, c0, B0, d0, A1, c1, B1, d1, e0, e1, e2, e3, e4, e5, e6, e7, h0, h1⟩ := (hget k hlt).below hbl hb
      have hct := toEquation_any (atREquation rs k) (hf k hlt) wr _ ⟨A0, c0, B0, d0, A1, c1, B1, d1, rfl, h0, h1⟩
      have hnx := Lib.hid (congrArg encREquations (takeREquation_next hlt))
      generalize atREquation rs k = r at *
      clear hget h0 h1 hg hf hbl
      go_wp2_with fail
      refine hct.mono ?_
      rintro e w2 ⟨P0, q0, K0, s0, P1, q1, K1, s1, Q, rfl, hQ, hQb, hb2⟩
      have ho2 := own_below ho hb2
      have hL2 := hL.alike (w' := w2) fun b hb' => hb2.block b (hL.lt b hb')
      have hb3 := hb.trans (hb2.mono hb.size)
      have hxl := ho2.1
      obtain ⟨v0, u0⟩ := some_of_lt xs (k * 8) (by omega)
      obtain ⟨v1, u1⟩ := some_of_lt xs (k * 8 + 1) (by omega)
      obtain ⟨v2, u2⟩ := some_of_lt xs (k * 8 + 2) (by omega)
      obtain ⟨v3, u3⟩ := some_of_lt xs (k * 8 + 3) (by omega)
      obtain ⟨v4, u4⟩ := some_of_lt xs (k * 8 + 4) (by omega)
      obtain ⟨v5, u5⟩ := some_of_lt xs (k * 8 + 5) (by omega)
      obtain ⟨v6, u6⟩ := some_of_lt xs (k * 8 + 6) (by omega)
      obtain ⟨v7, u7⟩ := some_of_lt xs (k * 8 + 7) (by omega)
      have g0 := (ho2.cellAt (k * 8) (by omega)).trans u0
      have g1 := (ho2.cellAt (k * 8 + 1) (by omega)).trans u1
      have g2 := (ho2.cellAt (k * 8 + 2) (by omega)).trans u2
      have g3 := (ho2.cellAt (k * 8 + 3) (by omega)).trans u3
      have g4 := (ho2.cellAt (k * 8 + 4) (by omega)).trans u4
      have g5 := (ho2.cellAt (k * 8 + 5) (by omega)).trans u5
      have g6 := (ho2.cellAt (k * 8 + 6) (by omega)).trans u6
      have g7 := (ho2.cellAt (k * 8 + 7) (by omega)).trans u7
      have f0 := ho2.frozenAt (k * 8)
      have f1 := ho2.frozenAt (k * 8 + 1)
      have f2 := ho2.frozenAt (k * 8 + 2)
      have f3 := ho2.frozenAt (k * 8 + 3)
      have f4 := ho2.frozenAt (k * 8 + 4)
      have f5 := ho2.frozenAt (k * 8 + 5)
      have f6 := ho2.frozenAt (k * 8 + 6)
      have f7 := ho2.frozenAt (k * 8 + 7)
      obtain ⟨o0, q0g⟩ := ho2.stored (k * 8) (.int .i64 r.f0.op)
      obtain ⟨o1, q1g⟩ := o0.stored (k * 8 + 1) (.int .i64 r.f0.num)
      obtain ⟨o2, q2g⟩ := o1.stored (k * 8 + 2) (.slice P0 r.f0.perm.length q0)
      obtain ⟨o3, q3g⟩ := o2.stored (k * 8 + 3) (.slice K0 r.f0.kids.length s0)
      obtain ⟨o4, q4g⟩ := o3.stored (k * 8 + 4) (.int .i64 r.f1.op)
      obtain ⟨o5, q5g⟩ := o4.stored (k * 8 + 5) (.int .i64 r.f1.num)
      obtain ⟨o6, q6g⟩ := o5.stored (k * 8 + 6) (.slice P1 r.f1.perm.length q1)
      obtain ⟨o7, q7g⟩ := o6.stored (k * 8 + 7) (.slice K1 r.f1.kids.length s1)
      have hq := (grownBy_trans q0g (grownBy_trans q1g (grownBy_trans q2g (grownBy_trans q3g (grownBy_trans q4g (grownBy_trans q5g (grownBy_trans q6g q7g)))))))
      have hL3 := hL2.kept hq (fun b hb' => by have := hSb b hb'; intro e; injection e with e; omega)
      have hR3 := hQ.kept hq (fun b hb' => by have := hQb b hb'; intro e; injection e with e; omega)
      have hdis : ∀ b ∈ S, b ∉ Q := fun b h1 h2 => by have h3 := hL.lt b h1; have h4 := hQb b h2; omega
      have hL4 := hL3.append hR3 hdis
      have hb5 := hb3.grown hq hb3.size (fun j hj => by injection hj with hj; omega)
      have htk : Hid (((((((((xs.set (k * 8) (.int .i64 r.f0.op)).set (k * 8 + 1) (.int .i64 r.f0.num)).set (k * 8 + 2) (.slice P0 r.f0.perm.length q0)).set (k * 8 + 3) (.slice K0 r.f0.kids.length s0)).set (k * 8 + 4) (.int .i64 r.f1.op)).set (k * 8 + 5) (.int .i64 r.f1.num)).set (k * 8 + 6) (.slice P1 r.f1.perm.length q1)).set (k * 8 + 7) (.slice K1 r.f1.kids.length s1)).take ((k + 1) * 8) = xs.take (k * 8) ++ [.int .i64 r.f0.op, .int .i64 r.f0.num, .slice P0 r.f0.perm.length q0, .slice K0 r.f0.kids.length s0, .int .i64 r.f1.op, .int .i64 r.f1.num, .slice P1 r.f1.perm.length q1, .slice K1 r.f1.kids.length s1]) := by
        show ((((((((xs.set (k * 8) (.int .i64 r.f0.op)).set (k * 8 + 1) (.int .i64 r.f0.num)).set (k * 8 + 2) (.slice P0 r.f0.perm.length q0)).set (k * 8 + 3) (.slice K0 r.f0.kids.length s0)).set (k * 8 + 4) (.int .i64 r.f1.op)).set (k * 8 + 5) (.int .i64 r.f1.num)).set (k * 8 + 6) (.slice P1 r.f1.perm.length q1)).set (k * 8 + 7) (.slice K1 r.f1.kids.length s1)).take ((k + 1) * 8) = xs.take (k * 8) ++ [.int .i64 r.f0.op, .int .i64 r.f0.num, .slice P0 r.f0.perm.length q0, .slice K0 r.f0.kids.length s0, .int .i64 r.f1.op, .int .i64 r.f1.num, .slice P1 r.f1.perm.length q1, .slice K1 r.f1.kids.length s1]
        rw [show (k + 1) * 8 = k * 8 + 8 by omega]
        exact take_set8' (by omega)
      have hL5 := hL4
      rw [← htk.out, ← (show encREquations [r] = encREquation r by simp [encREquations]), ← encREquations_append, ← hnx.out] at hL5
      have hSR : ∀ b ∈ S ++ Q, w.heap.size < b := fun b hb' => by
        rcases List.mem_append.1 hb' with h | h
        · exact hSb b h
        · have := hQb b h; omega
      clear ho ho2 hL hL2 hL3 hL4 hQ hR3 hb hb2 hb3 q0g q1g q2g q3g q4g q5g q6g q7g hq o0 o1 o2 o3 o4 o5 o6 u0 u1 u2 u3 u4 u5 u6 u7 hxl hct hnx htk hdis hSb hQb e0 e1 e2 e3 e4 e5 e6 e7
      go_wp2
      refine ⟨⟨k + 1, S ++ Q, _, by omega, by go_num, o7, hL5, hSR, hb5⟩, ?_⟩
      simp only [intOf]
      omega
    · have e : k = rs.length := by omega
      subst e
      have hl := ho.1
      rw [List.take_of_length_le (by omega), List.take_of_length_le (Nat.le_refl _)] at hL
      have hpost : REquationsOut rs w (.returned (.slice (some ⟨w.heap.size, 0, none⟩) rs.length rs.length)) wr :=
        ⟨_, w.heap.size :: S, rfl, .row (encREquations_len rs) (own_le ho (Nat.zero_le _)) hL (fun h => by have := hSb _ h; omega), fun b hb' => by
          rcases List.mem_cons.1 hb' with h | h
          · omega
          · have := hSb b h; omega, hb⟩
      clear ho hL hSb hb hg hl
      go_wp2
      go_ret
      exact hpost
end Go.Proofs.Ytnomidnjglbedaa
end

section
namespace Go.Proofs.Ytnomidnjglbedaa
open Go.RowKit
set_option linter.unusedVariables false

theorem encREquation_eq (r : REquation) : encREquation r = [.cell (.int .i64 r.f0.op), .cell (.int .i64 r.f0.num), pairMem r.f0.perm, tmsMem r.f0.kids, .cell (.int .i64 r.f1.op), .cell (.int .i64 r.f1.num), pairMem r.f1.perm, tmsMem r.f1.kids] := by unfold encREquation; rw [encT_eq]; rw [encT_eq]; rfl
theorem encREquations_parts : ∀ {rs : List REquation} {i : Nat}, i < rs.length → (encREquations rs)[i * 8]? = some (.cell (.int .i64 (atREquation rs i).f0.op)) ∧ (encREquations rs)[i * 8 + 1]? = some (.cell (.int .i64 (atREquation rs i).f0.num)) ∧ (encREquations rs)[i * 8 + 2]? = some (pairMem (atREquation rs i).f0.perm) ∧ (encREquations rs)[i * 8 + 3]? = some (tmsMem (atREquation rs i).f0.kids) ∧ (encREquations rs)[i * 8 + 4]? = some (.cell (.int .i64 (atREquation rs i).f1.op)) ∧ (encREquations rs)[i * 8 + 5]? = some (.cell (.int .i64 (atREquation rs i).f1.num)) ∧ (encREquations rs)[i * 8 + 6]? = some (pairMem (atREquation rs i).f1.perm) ∧ (encREquations rs)[i * 8 + 7]? = some (tmsMem (atREquation rs i).f1.kids)
  | [], i, h => by simp at h
  | r :: rs, 0, _ => by
    rw [encREquations, encREquation_eq, atREquation_zero]
    exact ⟨rfl, rfl, rfl, rfl, rfl, rfl, rfl, rfl⟩
  | r :: rs, i + 1, h => by
    have g := encREquations_parts (rs := rs) (i := i) (by simpa using h)
    have hl := encREquation_len r
    rw [encREquations, atREquation_succ]
    refine ⟨?_, ?_, ?_, ?_, ?_, ?_, ?_, ?_⟩
    · rw [List.getElem?_append_right (by omega), show (i + 1) * 8 - (encREquation r).length = i * 8 by omega]; exact g.1
    · rw [List.getElem?_append_right (by omega), show (i + 1) * 8 + 1 - (encREquation r).length = i * 8 + 1 by omega]; exact g.2.1
    · rw [List.getElem?_append_right (by omega), show (i + 1) * 8 + 2 - (encREquation r).length = i * 8 + 2 by omega]; exact g.2.2.1
    · rw [List.getElem?_append_right (by omega), show (i + 1) * 8 + 3 - (encREquation r).length = i * 8 + 3 by omega]; exact g.2.2.2.1
    · rw [List.getElem?_append_right (by omega), show (i + 1) * 8 + 4 - (encREquation r).length = i * 8 + 4 by omega]; exact g.2.2.2.2.1
    · rw [List.getElem?_append_right (by omega), show (i + 1) * 8 + 5 - (encREquation r).length = i * 8 + 5 by omega]; exact g.2.2.2.2.2.1
    · rw [List.getElem?_append_right (by omega), show (i + 1) * 8 + 6 - (encREquation r).length = i * 8 + 6 by omega]; exact g.2.2.2.2.2.2.1
    · rw [List.getElem?_append_right (by omega), show (i + 1) * 8 + 7 - (encREquation r).length = i * 8 + 7 by omega]; exact g.2.2.2.2.2.2.2

theorem ownREquations_in {w : World} {S : List Nat} {v : Value} {rs : List REquation} (h : Own w S v (memREquations rs)) : REquationsIn w v rs := by
  have h := h.at_
  obtain ⟨B, m, d, rfl, hl⟩ := At.form h
  rw [encREquations_len] at hl
  have e : m = rs.length := by omega
  subst e
  refine ⟨B, d, rfl, fun hp => ?_⟩
  obtain ⟨b, off, rfl, hb, hc⟩ := At.get h hp
  refine ⟨b, off, rfl, hb, fun k hk => ?_⟩
  obtain ⟨p0, p1, p2, p3, p4, p5, p6, p7⟩ := encREquations_parts hk
  obtain ⟨u0, e0, a0⟩ := hc _ _ p0
  obtain ⟨u1, e1, a1⟩ := hc _ _ p1
  obtain ⟨u2, e2, a2⟩ := hc _ _ p2
  obtain ⟨u3, e3, a3⟩ := hc _ _ p3
  obtain ⟨u4, e4, a4⟩ := hc _ _ p4
  obtain ⟨u5, e5, a5⟩ := hc _ _ p5
  obtain ⟨u6, e6, a6⟩ := hc _ _ p6
  obtain ⟨u7, e7, a7⟩ := hc _ _ p7
  rw [a0.cell_eq] at e0
  rw [a1.cell_eq] at e1
  obtain ⟨A0, c0, rfl, hp0⟩ := at_pairs a2
  obtain ⟨B0, d0, rfl⟩ := TmsIn.form (ts := (atREquation rs k).f0.kids) a3
  rw [a4.cell_eq] at e4
  rw [a5.cell_eq] at e5
  obtain ⟨A1, c1, rfl, hp1⟩ := at_pairs a6
  obtain ⟨B1, d1, rfl⟩ := TmsIn.form (ts := (atREquation rs k).f1.kids) a7
  exact ⟨A0, c0, B0, d0, A1, c1, B1, d1, e0, (by rw [Nat.add_assoc]; exact e1), (by rw [Nat.add_assoc]; exact e2), (by rw [Nat.add_assoc]; exact e3), (by rw [Nat.add_assoc]; exact e4), (by rw [Nat.add_assoc]; exact e5), (by rw [Nat.add_assoc]; exact e6), (by rw [Nat.add_assoc]; exact e7), ⟨A0, c0, _, rfl, hp0, a3⟩, ⟨A1, c1, _, rfl, hp1, a7⟩⟩
end Go.Proofs.Ytnomidnjglbedaa
end

