/-
  Rows of terms that a call makes by appending; a copy of pairs: plain words and a contract. Pairs that are put behind a row of the call's own, wherever they lie, also where there are none: as laws for the walk. The free atoms of a form, in the program, as contracts. The free atoms of a term, in the program, as a contract. Whether an atom is fresh for a ground term: in the program and in the model, as contracts.
-/
import Derived.Test.YtbfkfklaplgebaaGreatKHoldsFor13
import Derived.Test.YtbfkfklaplgebaaGreatKHoldsFor7
import Derived.Test.YtbfkfklaplgebaaGreatKHoldsFor5
import Derived.Test.YtbfkfklaplgebaaGreatKHoldsFor15
import Derived.Test.YtbfkfklaplgebaaGreatKHoldsFor14
import Derived.Lib.SliceRun
import Derived.Laws.AppendOwnNone
import Derived.Test.YtbfkfklaplgebaaGreatKHoldsFor12
import Derived.Test.YtbfkfklaplgebaaGreatKHoldsFor2
section
namespace Go.Proofs.YtbfkfklaplgebaaGreat
section
open Go.RowKit Go.Sort
set_option linter.unusedVariables false

/-- A row of the call's own that holds terms of the call's own. -/
def TRow (w : World) (B : Nat) (v : Value) (k : Nat) (ts : List Tm) : Prop :=
  ∃ g cap xs S, v = .slice (some ⟨g, 0, none⟩) k cap ∧ w.ownsRow B 31 4 (.slice (some ⟨g, 0, none⟩) k cap) k xs ∧ OwnL w S xs (encTs ts) ∧ g ∉ S ∧ ∀ b ∈ S, B ≤ b

/-- One more term behind a row. -/
theorem trow_next {wr w2 w3 w4 : World} {B C g cap g1 cap1 k : Nat} {xs ys : List Value} {S T : List Nat} {ts : List Tm} {t : Tm}
    (hC : wr.heap.size ≤ C) (ho : wr.ownsRow B 31 4 (.slice (some ⟨g, 0, none⟩) k cap) k xs)
    (hx : OwnL wr S xs (encTs ts)) (hgS : g ∉ S) (hSB : ∀ b ∈ S, B ≤ b) (h13 : Below wr.heap.size wr w3) (hT : OwnL w2 T ys (encT t)) (hTC : ∀ b ∈ T, C ≤ b) (h23 : Below w2.heap.size w2 w3)
    (ho4 : w4.ownsRow B 31 4 (.slice (some ⟨g1, 0, none⟩) (k + 1) cap1) (k + 1) (xs ++ ys))
    (hg : w3.grownBy w4 (some g)) (hcase : some g = some g1 ∨ g1 = w3.heap.size) :
    TRow w4 B (.slice (some ⟨g1, 0, none⟩) (k + 1) cap1) (k + 1) (ts ++ [t]) := by
  obtain ⟨hg1, hg2⟩ := ho.lt g rfl
  have hbl : ∀ b, b < w3.heap.size → b ≠ g → w4.heap[b]? = w3.heap[b]? := fun b h1 h2 => hg.block b h1 (fun e => by injection e with e; exact h2 e)
  have hs13 := h13.size
  have hs23 := h23.size
  have hSl : ∀ b ∈ S, b < wr.heap.size := fun b hb => hx.lt b hb
  have hTl : ∀ b ∈ T, b < w2.heap.size := fun b hb => hT.lt b hb
  have hTg : g ∉ T := fun hm => by have := hTC g hm; omega
  have hx4 : OwnL w4 S xs (encTs ts) := hx.alike fun b hb => (hbl b (by have := hSl b hb; omega) (fun e => hgS (e ▸ hb))).trans (h13.block b (hSl b hb))
  have hT4 : OwnL w4 T ys (encT t) := hT.alike fun b hb => (hbl b (by have := hTl b hb; omega) (fun e => hTg (e ▸ hb))).trans (h23.block b (hTl b hb))
  have hdis : ∀ b ∈ S, b ∉ T := fun b hb ht => by
    have h1 := hSl b hb
    have h2 := hTC b ht
    omega
  have e : encTs (ts ++ [t]) = encTs ts ++ encT t := by rw [encTs_append, encTs, encTs, List.append_nil]
  refine ⟨g1, cap1, xs ++ ys, S ++ T, rfl, ho4, by rw [e]; exact hx4.append hT4 hdis, fun hm => ?_, fun b hb => ?_⟩
  · rcases hcase with h | h
    · injection h with h
      subst h
      rcases List.mem_append.1 hm with h | h
      · exact hgS h
      · exact hTg h
    · rcases List.mem_append.1 hm with h' | h'
      · have := hSl g1 h'; omega
      · have := hTl g1 h'; omega
  · rcases List.mem_append.1 hb with h | h
    · exact hSB b h
    · have := hTC b h; omega

theorem term_infoR : (Tryz.prog.info? 31).map (fun i => (i.zero, i.size, i.bytes)) = some (some (.agg #[.int .i64 0, .int .i64 0, .slice none 0 0, .slice none 0 0]), 4, 64) := by kernel_rfl

theorem four_cells {w : World} {g : Nat} {a b c d : Value} (h0 : w.cell? ⟨g, 0, none⟩ = some a) (h1 : w.cell? ⟨g, 1, none⟩ = some b) (h2 : w.cell? ⟨g, 2, none⟩ = some c) (h3 : w.cell? ⟨g, 3, none⟩ = some d) :
    ∀ j x, [a, b, c, d][j]? = some x → w.cell? ((⟨g, 0, none⟩ : Addr).add j) = some x := by
  intro j x hj
  rw [addr_add]
  match j, hj with
  | 0, hj => simp at hj; subst hj; exact h0
  | 1, hj => simp at hj; subst hj; exact h1
  | 2, hj => simp at hj; subst hj; exact h2
  | 3, hj => simp at hj; subst hj; exact h3
  | j + 4, hj => simp at hj

theorem four_one (o n : Int) (A B : Option Addr) (a b c d : Nat) : ∀ u ∈ [Value.int .i64 o, .int .i64 n, .slice A a b, .slice B c d], u.oneCell' = true := by
  intro u hu
  simp only [List.mem_cons, List.not_mem_nil, or_false] at hu
  rcases hu with rfl | rfl | rfl | rfl <;> rfl

/-- A copy of pairs. -/
def ClonePost (p : List (Int × Int)) (w : World) (e : Ending) (w' : World) : Prop :=
  ∃ A c, e = .returned (.slice A p.length c) ∧ w'.ownsRow w.heap.size 134 2 (.slice A p.length c) p.length (cellsOf p) ∧ Below w.heap.size w w'

set_option maxRecDepth 100000 in
theorem clone_any (A : Option Addr) (c : Nat) (p : List (Int × Int)) (w : World) (hp : PairsAt w A p) (hl : p.length ≤ 1048576) :
    Calls Tryz.prog 229 #[.slice A p.length c] w (ClonePost p w) := by
  have qT : ∀ (w : World) (a : Option Addr) (n c n' c' : Nat), (binOp .eql 28 (.slice a n c) (.slice none n' c')).run Tryz.prog w = .ok (.bool a.isNone) w := fun w a n c n' c' => Lib.run_eql_slice_nil w _ _ a n c n' c' Tryz.underlying28
  obtain ⟨i0, hi0, hz0, hz1, hz2⟩ := info_parts pair_infoT
  have HS := Lib.hid hz2
  clear hz2
  cases A with
  | none =>
    have h0 : p = [] := by
      rcases Nat.eq_zero_or_pos p.length with h | h
      · exact List.eq_nil_of_length_eq_zero h
      · obtain ⟨b, off, e, _⟩ := hp h
        cases e
    subst h0
    have hpost : ClonePost [] w (.returned (.slice none 0 0)) w := ⟨none, 0, rfl, World.ownsRow_nil w _ _ _, Below.refl _ _⟩
    clear hp
    go_enter Tryz.func229, Tryz.ntmps229
    go_wp2
    go_ret
    exact hpost
  | some ad =>
    have hb0 : Below w.heap.size w (w.alloc (.cells #[] 134)) := (Below.refl _ _).alloc (Nat.le_refl _) _
    have ho0 : (w.alloc (.cells #[] 134)).ownsRow w.heap.size 134 2 (.slice (some ⟨w.heap.size, 0, none⟩) 0 0) 0 (cellsOf []) := World.ownsRow_lit w #[] 0 (Nat.le_refl _) (by decide) rfl
    have HN := Lib.hid (pairs_news (hp.below hb0))
    have HL := Lib.hid (cellsOf_len p)
    have hs0 := hb0.size
    clear hp
    go_enter Tryz.func229, Tryz.ntmps229
    go_wp2_with (at_builtin; refine wpList_append_own _ rfl (.tmp 5) (.tmp 6) 28 rfl w.heap.size 134 i0 (.agg #[.int .i64 0, .int .i64 0]) 2 16 Tryz.underlying28 hi0 hz0 hz1 HS.out rfl (by decide) _ 0 _ rfl ho0 ad p.length c (cellsOf p) rfl HL.out HN.out (cellsOf_one _) ?c3 ?c4 ?c5 ?_)
    case c3 => unfold maxLen; omega
    case c4 => omega
    case c5 => exact hs0
    intro v4 w4 ho4 hg4 hnil
    have hb4 := below_own hb0 ho0 (Nat.le_refl _) hs0 hg4
    have hpost : ClonePost p w (.returned v4) w4 := by
      have ho5 : w4.ownsRow w.heap.size 134 2 v4 p.length (cellsOf p) := by
        exact ho4
      obtain ⟨A, c', rfl, _⟩ := own_pairsAt ho5
      exact ⟨A, c', rfl, ho5, hb4⟩
    obtain ⟨A, c', e, hown, hbel⟩ := hpost
    injection e with e
    subst e
    have hpost : ClonePost p w (.returned (.slice A p.length c')) w4 := ⟨A, c', rfl, hown, hbel⟩
    clear ho4 hg4 hnil hb4 hown hbel ho0 hb0 HN HL
    go_wp2
    go_ret
    exact hpost
end

section
open Go.RowKit Go.Sort
set_option linter.unusedVariables false

theorem step_append_pairs {P : Program} {w : World} {ops : Array Oper} {o : Oper} {a : Act} {K : Act → World → Prop} {Q : Exit → Act → World → Prop} {E : Prop} (hgd : o.guard = none) (s x : Operand) (t : TypeId)
    (ho : o.op = .call { callee := .builtin .append, args := #[s, x], argTypes := #[t, t] })
    (base : Nat) (e : TypeId) (i : TypeInfo) (z : Value) (ht : P.underlying t = some (.slice e)) (hi : P.info? e = some i) (hz : i.zero = some z) (hsize : i.size = 2) (hby : i.bytes = 16) (hzs : z.cells.size = 2)
    (v : Value) (n : Nat) (xs : List Value) (hs : a.eval s = v) (hown : w.ownsRow base e 2 v n xs) (A : Option Addr) (c : Nat) (l : List (Int × Int)) (hx : a.eval x = .slice A l.length c) (hA : PairsAt w A l) (h63 : n + l.length ≤ 1048576) (hbase : base ≤ w.heap.size)
    (h : ∀ v' w', w'.ownsRow base e 2 v' (n + l.length) (xs ++ cellsOf l) → w.grownBy w' v.ownBlock → K (a.put o.dst v') w') :
    if Region.wanted o (yielded ops a.tmps) = true then Oper.wp P o a w K Q else E := by
  have hw : Region.wanted o (yielded ops a.tmps) = true := by simp [Region.wanted, hgd]
  rw [if_pos hw]
  obtain ⟨v', w', hr, h2, h3⟩ := run_append_pairs (P := P) base t o.type e i z ht hi hz hsize hby hzs v n xs hown A c l hA h63 hbase
  unfold Oper.wp execOp
  simp only [ho, resolve, invoke, builtin, Sem.run_bind, Sem.run_pure, Result.andThen_ok, List.map_toArray, List.map_cons, List.map_nil, hs, hx, hr]
  exact h v' w' h2 h3
end
end Go.Proofs.YtbfkfklaplgebaaGreat
end

section
namespace Go.Proofs.YtbfkfklaplgebaaGreat
open Go.RowKit Go.Sort Go.Shelf
set_option linter.unusedVariables false

end Go.Proofs.YtbfkfklaplgebaaGreat
end

section
namespace Go.Proofs.YtbfkfklaplgebaaGreat
open Go.RowKit Go.Sort
set_option linter.unusedVariables false

end Go.Proofs.YtbfkfklaplgebaaGreat
end

section
namespace Go.Proofs.YtbfkfklaplgebaaGreat
open Go.RowKit Go.Sort
set_option linter.unusedVariables false

end Go.Proofs.YtbfkfklaplgebaaGreat
end

