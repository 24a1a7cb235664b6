/-
  Copies of moves; one more boolean behind a row; the complement of a machine: plain words and contracts.
-/
import Derived.Test.YthacnbeckhdhiaaKComplement6
import Derived.Lib.SliceRun
import Derived.Laws.AppendOwnNone
import Derived.WalkLawsBesides
namespace Go.Proofs.Ythacnbeckhdhiaa
open Go.RowKit Go.Sort
set_option linter.unusedVariables false

theorem move_infoM : (Try.prog.info? 45).map (fun i => (i.zero, i.size, i.bytes)) = some (some (.agg #[.int .i64 0, .int .i64 0]), 2, 16) := by kernel_rfl
theorem bool_infoM : (Try.prog.info? 4).map (fun i => (i.zero, i.size, i.bytes)) = some (some (.bool false), 1, 1) := by kernel_rfl
theorem moves_one (l : List (Int × Int)) : ∀ u ∈ cellsOf l, u.oneCell' = true := by
  intro u hu
  unfold cellsOf at hu
  rw [List.mem_flatMap] at hu
  obtain ⟨p, _, hp⟩ := hu
  simp only [List.mem_cons, List.not_mem_nil, or_false] at hp
  rcases hp with rfl | rfl <;> rfl
theorem moves_news {w : World} {ad : Addr} {l : List (Int × Int)} (h : PairsAt w (some ad) l) : ∀ j u, (cellsOf l)[j]? = some u → w.cell? (ad.add j) = some u := by
  intro j u hj
  have hlt : j < l.length * 2 := by
    rcases Nat.lt_or_ge j (l.length * 2) with h1 | h1
    · exact h1
    · rw [List.getElem?_eq_none (by rw [cellsOf_len]; exact h1)] at hj; cases hj
  obtain ⟨b, off, e, hb, hc⟩ := h (by omega)
  injection e with e
  subst e
  have hadd : (⟨b, off, none⟩ : Addr).add j = ⟨b, off + j, none⟩ := by unfold Addr.add; split <;> simp_all
  rw [hadd]
  obtain ⟨c1, c2⟩ := hc (j / 2) (by omega)
  obtain ⟨s1, s2⟩ := cellsOf_at l (j / 2) (by omega)
  rcases Nat.mod_two_eq_zero_or_one j with h0 | h0
  · have e : j = j / 2 * 2 := by omega
    rw [e] at hj ⊢
    rw [s1] at hj
    injection hj with hj
    rw [← hj]
    simpa using c1
  · have e : j = j / 2 * 2 + 1 := by omega
    rw [e] at hj ⊢
    rw [s2] at hj
    injection hj with hj
    rw [← hj, ← Nat.add_assoc]
    exact c2
set_option maxRecDepth 100000 in
theorem cloneM_any (ad : Addr) (c : Nat) (p : List (Int × Int)) (w : World) (hp : PairsAt w (some ad) p) (hl : p.length ≤ 1048576) :
    Calls Try.prog 17 #[.slice (some ad) p.length c] w (NewMoves p w) := by
  have qT : ∀ (w : World) (a : Option Addr) (n c n' c' : Nat), (binOp .eql 25 (.slice a n c) (.slice none n' c')).run Try.prog w = .ok (.bool a.isNone) w := fun w a n c n' c' => Lib.run_eql_slice_nil w _ _ a n c n' c' Try.underlying25
  obtain ⟨i0, hi0, hz0, hz1, hz2⟩ := info_parts move_infoM
  have HS := Lib.hid hz2
  clear hz2
  have hb0 : Below w.heap.size w (w.alloc (.cells #[] 45)) := (Below.refl _ _).alloc (Nat.le_refl _) _
  have ho0 : (w.alloc (.cells #[] 45)).ownsRow w.heap.size 45 2 (.slice (some ⟨w.heap.size, 0, none⟩) 0 0) 0 [] := World.ownsRow_lit w #[] 0 (Nat.le_refl _) (by decide) rfl
  have HN := Lib.hid (moves_news (hp.below hb0))
  have HL := Lib.hid (cellsOf_len p)
  have hs0 := hb0.size
  clear hp
  go_enter Try.func17, Try.ntmps17
  go_wp2_with (at_builtin; refine wpList_append_own _ rfl (.tmp 5) (.tmp 6) 25 rfl w.heap.size 45 i0 (.agg #[.int .i64 0, .int .i64 0]) 2 16 Try.underlying25 hi0 hz0 hz1 HS.out rfl (by decide) _ 0 [] rfl ho0 ad p.length c (cellsOf p) rfl HL.out HN.out (moves_one _) ?c3 ?c4 ?c5 ?_)
  case c3 => unfold maxLen; omega
  case c4 => omega
  case c5 => exact hs0
  intro v4 w4 ho4 hg4 hnil
  have hb4 := below_own hb0 ho0 (Nat.le_refl _) hs0 hg4
  have HF := Lib.hid (show NewMoves p w (.returned v4) w4 from ⟨v4, rfl, ho4, hb4⟩)
  clear ho4 hg4 hnil hb4 ho0 hb0 HN HL
  go_wp2
  go_ret
  exact HF.out
/-- One boolean behind a row of the call's own. -/
theorem wpList_append_bool {w : World} {ops : Array Oper} {rest : List Oper} {o : Oper} {a : Act} {Q : Exit → Act → World → Prop} (hgd : o.guard = none) (s x : Operand)
    (ho : o.op = .call { callee := .builtin .append, args := #[s, x], argTypes := #[24, 24] })
    (base : Nat) (v : Value) (n : Nat) (xs : List Value) (hs : a.eval s = v) (hown : w.ownsRow base 4 1 v n xs) (g : Nat) (b : Bool) (hx : a.eval x = .slice (some ⟨g, 0, none⟩) 1 1) (hg : w.cell? ⟨g, 0, none⟩ = some (.bool b)) (hn : n ≤ 1099511627775) (hbase : base ≤ w.heap.size)
    (h : ∀ v' w', w'.ownsRow base 4 1 v' (n + 1) (xs ++ [.bool b]) → w.grownBy w' v.ownBlock → wpList Try.prog ops Q rest (a.put o.dst v') w') : wpList Try.prog ops Q (o :: rest) a w := by
  obtain ⟨i0, hi0, hz0, hz1, hz2⟩ := info_parts bool_infoM
  refine wpList_append_own _ hgd s x 24 ho base 4 i0 (.bool false) 1 1 Try.underlying24 hi0 hz0 hz1 hz2 rfl (by decide) v n xs hs hown ⟨g, 0, none⟩ 1 1 [.bool b] hx rfl (fun j u hj => ?_) (fun u hu => by rw [List.mem_singleton.1 hu]; rfl) (by unfold maxLen; omega) (by omega) hbase fun v' w' h1 h2 _ => h v' w' h1 h2
  have hj0 : j = 0 := by
    rcases j with _ | j
    · rfl
    · simp at hj
  subst hj0
  simp at hj
  subst hj
  simpa [Addr.add] using hg
/-- The complement of a machine. -/
def compM (t : Mach) : Mach := if machB t then ⟨t.st, t.rg, t.ac.map (!·), t.mv⟩ else ⟨0, 0, [], []⟩
theorem compM_no {t : Mach} (h : machB t = false) : compM t = ⟨0, 0, [], []⟩ := by simp [compM, h]
theorem compM_yes {t : Mach} (h : machB t = true) : compM t = ⟨t.st, t.rg, t.ac.map (!·), t.mv⟩ := by simp [compM, h]
theorem compM_fit {t : Mach} (h : FitM t) : FitM (compM t) := by
  unfold compM
  split
  · exact ⟨by simpa using h.1, h.2⟩
  · exact ⟨by simp, by simp⟩
theorem not_next {l : List Bool} {k : Nat} (h : k < l.length) : bcells ((l.map (!·)).take (k + 1)) = bcells ((l.map (!·)).take k) ++ [.bool (!btAt l k)] := by
  rw [List.take_succ_eq_append_getElem (by simpa using h), bcells_append]
  simp [bcells, btAt, h]
namespace CmR
theorem row4 {w : World} {g : Nat} {a b c d : Value} {T : TypeId} (h : w.heap[g]? = some (.cells #[a, b, c, d] T (0, 0))) : w.cell? ⟨g, 0, none⟩ = some a ∧ w.cell? ⟨g, 1, none⟩ = some b ∧ w.cell? ⟨g, 2, none⟩ = some c ∧ w.cell? ⟨g, 3, none⟩ = some d := MachK.row4 h
/-- A pointer to a box that holds a machine without accepting states. -/
def Rel (w0 : World) (st rg : Int) (p : List (Int × Int)) (s : Value) (wx : World) : Prop :=
  ∃ g B d, s = .pointer (some ⟨g, 0, none⟩) ∧ wx.heap[g]? = some (.cells #[.int .i64 st, .int .i64 rg, .slice none 0 0, .slice B p.length d] 27 (0, 0)) ∧ wx.ownsRow w0.heap.size 45 2 (.slice B p.length d) p.length (cellsOf p) ∧ (∀ k, (Value.slice B p.length d).ownBlock = some k → k ≠ g) ∧ w0.heap.size ≤ g ∧ Below w0.heap.size w0 wx
theorem set4_only (w : World) (R : Nat) (a b c d : Value) : Only [R] w ((((w.setCell ⟨R, 0, none⟩ a).setCell ⟨R, 1, none⟩ b).setCell ⟨R, 2, none⟩ c).setCell ⟨R, 3, none⟩ d) :=
  ((((Only.refl _ _).set ⟨R, 0, none⟩ a (by simp)).set ⟨R, 1, none⟩ b (by simp)).set ⟨R, 2, none⟩ c (by simp)).set ⟨R, 3, none⟩ d (by simp)
theorem set4_box {w : World} {R : Nat} {o0 o1 o2 o3 : Value} {T : TypeId} (h : w.heap[R]? = some (.cells #[o0, o1, o2, o3] T)) (a b c d : Value) : ((((w.setCell ⟨R, 0, none⟩ a).setCell ⟨R, 1, none⟩ b).setCell ⟨R, 2, none⟩ c).setCell ⟨R, 3, none⟩ d).heap[R]? = some (.cells #[a, b, c, d] T) := by
  have h1 := heap_setCell_same w R 0 _ _ a h
  have h2 := heap_setCell_same _ R 1 _ _ b h1
  have h3 := heap_setCell_same _ R 2 _ _ c h2
  have h4 := heap_setCell_same _ R 3 _ _ d h3
  exact h4
theorem set4_keep {w : World} {h g q : Nat} {v a b c d : Value} (hv : w.cell? ⟨h, q, none⟩ = some v) (hne : h ≠ g) : ((((w.setCell ⟨g, 0, none⟩ a).setCell ⟨g, 1, none⟩ b).setCell ⟨g, 2, none⟩ c).setCell ⟨g, 3, none⟩ d).cell? ⟨h, q, none⟩ = some v := by
  have h1 := (set4_only w g a b c d)
  have hlt : h < w.heap.size := by
    rcases Nat.lt_or_ge h w.heap.size with h3 | h3
    · exact h3
    · simp [World.cell?, Array.getElem?_eq_none h3] at hv
  exact (World.cell?_of_block (w := w) (a := ⟨h, q, none⟩) (h1.block h hlt (by simpa using hne))).trans hv
theorem rel_set {w0 w4 : World} {g : Nat} {st rg : Int} {p : List (Int × Int)} {B : Option Addr} {d : Nat} (hz : w4.heap[g]? = some (.cells #[.int .i64 0, .int .i64 0, .slice none 0 0, .slice none 0 0] 27)) (ho : w4.ownsRow w0.heap.size 45 2 (.slice B p.length d) p.length (cellsOf p)) (hne : ∀ k, (Value.slice B p.length d).ownBlock = some k → k ≠ g) (hg : w0.heap.size ≤ g) (hb : Below w0.heap.size w0 w4) :
    Rel w0 st rg p (.pointer (some ⟨g, 0, none⟩)) ((((w4.setCell ⟨g, 0, none⟩ (.int .i64 st)).setCell ⟨g, 1, none⟩ (.int .i64 rg)).setCell ⟨g, 2, none⟩ (.slice none 0 0)).setCell ⟨g, 3, none⟩ (.slice B p.length d)) :=
  ⟨g, B, d, rfl, set4_box hz _ _ _ _, own_only ho (set4_only w4 g _ _ _ _) (fun k e hm => hne k e (by simpa using hm)), hne, hg, (((hb.setCell (p := ⟨g, 0, none⟩) hg _).setCell (p := ⟨g, 1, none⟩) hg _).setCell (p := ⟨g, 2, none⟩) hg _).setCell (p := ⟨g, 3, none⟩) hg _⟩
theorem rel_new {w0 w4 : World} {st rg : Int} {p : List (Int × Int)} {B : Option Addr} {d : Nat} (ho : w4.ownsRow w0.heap.size 45 2 (.slice B p.length d) p.length (cellsOf p)) (hb : Below w0.heap.size w0 w4) :
    Rel w0 st rg p (.pointer (some ⟨w4.heap.size, 0, none⟩)) (w4.alloc (.cells #[.int .i64 st, .int .i64 rg, .slice none 0 0, .slice B p.length d] 27)) :=
  ⟨w4.heap.size, B, d, rfl, heap_alloc_new _ _, own_below ho ((Below.refl _ _).alloc (Nat.le_refl _) _), fun k e => Nat.ne_of_lt (ho.lt k e).2, hb.size, hb.alloc hb.size _⟩
end CmR
end Go.Proofs.Ythacnbeckhdhiaa
