/-
  The paths of a term: plain words, and rows that come behind rows.
-/
import Derived.Test.YtnnebndcjjdhoaaKPathsOf4
import Derived.Test.YtnnebndcjjdhoaaKPathsOf12
import Derived.Test.YtnnebndcjjdhoaaKPathsOf13
namespace Go.Proofs.Ytnnebndcjjdhoaa
open Go.RowKit Go.Sort
set_option linter.unusedVariables false

mutual
/-- The path that leads to a term, and those on from there. -/
def pthT : List Int → Tm → List (List Int)
  | p, .mk _ _ _ ks => p :: pthTs p 0 ks
def pthTs : List Int → Nat → List Tm → List (List Int)
  | _, _, [] => []
  | p, i, t :: r => pthT (p ++ [(i : Int)]) t ++ pthTs p (i + 1) r
end
theorem pthT_eq (p : List Int) (t : Tm) : pthT p t = p :: pthTs p 0 t.kids := by cases t; simp [pthT, Tm.kids]
theorem pthTs_append (p : List Int) : ∀ (a : List Tm) (i : Nat) (x : Tm), pthTs p i (a ++ [x]) = pthTs p i a ++ pthT (p ++ [((i + a.length : Nat) : Int)]) x
  | [], i, x => by simp [pthTs]
  | t :: r, i, x => by
    rw [List.cons_append, pthTs, pthTs, pthTs_append p r (i + 1) x, List.append_assoc, List.length_cons]
    rw [show i + 1 + r.length = i + (r.length + 1) by omega]
theorem pthTs_next {p : List Int} {ts : List Tm} {k : Nat} (h : k < ts.length) : pthTs p 0 (ts.take (k + 1)) = pthTs p 0 (ts.take k) ++ pthT (p ++ [(k : Int)]) (tmAt ts k) := by
  rw [tm_take_next h, pthTs_append, List.length_take, Nat.min_eq_left (by omega), Nat.zero_add]
mutual
theorem pthT_len : ∀ (p : List Int) (t : Tm), (pthT p t).length = szT t
  | p, .mk _ _ _ ks => by rw [pthT, szT, List.length_cons, pthTs_len p 0 ks]; omega
theorem pthTs_len : ∀ (p : List Int) (i : Nat) (ts : List Tm), (pthTs p i ts).length = szTs ts
  | p, i, [] => rfl
  | p, i, t :: r => by rw [pthTs, szTs, List.length_append, pthT_len _ t, pthTs_len p (i + 1) r]
end
mutual
theorem pthT_row : ∀ (p : List Int) (t : Tm) (q : List Int), q ∈ pthT p t → q.length ≤ p.length + szT t
  | p, .mk o n pp ks, q, h => by
    rw [pthT] at h
    rw [szT]
    rcases List.mem_cons.1 h with rfl | h
    · omega
    · have := pthTs_row p 0 ks q h
      omega
theorem pthTs_row : ∀ (p : List Int) (i : Nat) (ts : List Tm) (q : List Int), q ∈ pthTs p i ts → q.length ≤ p.length + 1 + szTs ts
  | p, i, [], q, h => by simp [pthTs] at h
  | p, i, t :: r, q, h => by
    rw [pthTs] at h
    rw [szTs]
    rcases List.mem_append.1 h with h | h
    · have := pthT_row _ t q h
      rw [List.length_append, List.length_singleton] at this
      omega
    · have := pthTs_row p (i + 1) r q h
      omega
end
theorem sumR_le {B : Nat} : ∀ {ls : List (List Int)}, (∀ q ∈ ls, q.length ≤ B) → sumR ls ≤ ls.length * B
  | [], _ => by simp [sumR]
  | l :: r, h => by
    have h1 := h l List.mem_cons_self
    have h2 := sumR_le (ls := r) fun q hq => h q (List.mem_cons_of_mem _ hq)
    rw [sumR, List.length_cons, Nat.add_mul]
    omega

theorem rows_ones {w : World} : ∀ {ls : List (List Int)} {S : List Nat} {ys : List Value}, OwnL w S ys (encR ls) → ∀ y ∈ ys, y.oneCell' = true
  | [], _, _, h => by
    unfold encR at h
    cases h
    exact fun y hy => by simp at hy
  | l :: r, _, _, h => by
    unfold encR at h
    cases h with
    | cons h1 h2 h3 =>
      intro y hy
      rcases List.mem_cons.1 hy with rfl | hy
      · obtain ⟨A, c, rfl, _⟩ := own_intSlice h1
        rfl
      · exact rows_ones (ls := r) h2 y hy
set_option maxRecDepth 100000 in
/-- The same as a step of a drawn region. -/
theorem step_append_many {w : World} {ops : Array Oper} {o : Oper} {a : Act} {K : Act → World → Prop} {Q : Exit → Act → World → Prop} {E : Prop} (hgd : o.guard = none) (s x : Operand)
    (ho : o.op = .call { callee := .builtin .append, args := #[s, x], argTypes := #[27, 27] })
    (v : Value) (T : List Nat) (ls : List (List Int)) (hs : a.eval s = v) (hown : Own w T v (rowsMem ls))
    (u : Value) (ms : List (List Int)) (R : List Nat) (hx : a.eval x = u) (hR : Own w R u (rowsMem ms)) (hp : 0 < ms.length) (hd : ∀ b ∈ T, b ∉ R) (hn : ls.length + ms.length ≤ 16777216)
    (h : ∀ g cap T' w', Own w' T' (.slice (some ⟨g, 0, none⟩) (ls.length + ms.length) cap) (rowsMem (ls ++ ms)) → (∀ b ∈ T', b ∈ T ∨ b ∈ R ∨ b = w.heap.size) → w.grownBy w' v.ownBlock → (v.ownBlock = some g ∨ g = w.heap.size) → K (a.put o.dst (.slice (some ⟨g, 0, none⟩) (ls.length + ms.length) cap)) w') : if Region.wanted o (yielded ops a.tmps) = true then Oper.wp Try.prog o a w K Q else E := by
  obtain ⟨i0, hi0, hz0, hz1, hz2⟩ := info_parts rows_info
  obtain ⟨xs, S, hrow, hL, rfl, hnS⟩ := own_split hown
  obtain ⟨ys, S2, hrow2, hL2, rfl, hnS2⟩ := own_split hR
  obtain ⟨g2, cap2, hu, hb2, hl2⟩ := hrow2.form hp
  have hone : ∀ y ∈ ys, y.oneCell' = true := rows_ones hL2
  have hcell := hrow2.cells (g := g2) (by rw [hu]; rfl)
  refine step_append_lies w hgd s x 27 ho 0 46 i0 (.slice none 0 0) 1 24 Try.underlying27 hi0 hz0 hz1 hz2 rfl (by decide) v ls.length xs hs hrow ⟨g2, 0, none⟩ ms.length cap2 ys (by rw [hx, hu]) (by rw [hrow2.1]) hcell hone hp (by unfold maxLen; omega) (by omega) (Nat.zero_le _) w.heap.size rfl ?_
  intro g cap w' h1 h2 h3 h4
  have hLa := hL.alike (w' := w') (fun b hb => h2.block b (hL.lt b hb) (fun e => hnS b e.symm hb))
  have hLb := hL2.alike (w' := w') (fun b hb => h2.block b (hL2.lt b hb) (fun e => hd b (by rw [← e]; simp) (List.mem_append_right _ hb)))
  have hdis : ∀ b ∈ S, b ∉ S2 := fun b hb hr => hd b (List.mem_append_right _ hb) (List.mem_append_right _ hr)
  have hL3 := hLa.append hLb hdis
  have hgn : g ∉ S ++ S2 := by
    intro hm
    rcases h3 with h3 | h3
    · rcases List.mem_append.1 hm with h5 | h5
      · exact hnS g h3 h5
      · exact hd g (by rw [h3]; simp) (List.mem_append_right _ h5)
    · rcases List.mem_append.1 hm with h5 | h5
      · have := hL.lt g h5; omega
      · have := hL2.lt g h5; omega
  refine h g cap (g :: (S ++ S2)) w' (.row (by rw [encR_len, List.length_append]; simp) h1 (by rw [encR_append]; exact hL3) hgn) (fun b hb => ?_) h2 h3
  rcases List.mem_cons.1 hb with h5 | h5
  · subst h5
    rcases h3 with h3 | h3
    · exact .inl (by rw [h3]; simp)
    · exact .inr (.inr h3)
  · rcases List.mem_append.1 h5 with h6 | h6
    · exact .inl (List.mem_append_right _ h6)
    · exact .inr (.inl (List.mem_append_right _ h6))
namespace Pth
theorem take_sz : ∀ (l : List Tm) (k : Nat), szTs (l.take k) ≤ szTs l
  | [], k => by simp [szTs]
  | a :: r, 0 => by simp [szTs]
  | a :: r, k + 1 => by
    have := take_sz r k
    rw [List.take_succ_cons, szTs, szTs]
    omega
theorem drew_al {w : World} {o : Obj} {a : Addr} {v : Value} (h : w.drew.cell? a = some v) : (w.alloc o).drew.cell? a = some v := by
  have h1 : (w.drew.alloc o).cell? a = some v := (World.cell?_alloc_some w.drew a o (by rw [h]; rfl)).trans h
  exact h1
/-- What the paths below a term give. -/
def Post (ls : List (List Int)) (R : List Nat) (w : World) (e : Ending) (w' : World) : Prop :=
  ∃ v T, e = .returned v ∧ Own w' T v (rowsMem ls) ∧ (∀ b ∈ T, b ∈ R ∨ w.heap.size ≤ b) ∧ Below w.heap.size w w'
theorem box4 {w : World} {g : Nat} {a b c d : Value} {T : TypeId} (h : w.heap[g]? = some (.cells #[a, b, c, d] T (0, 0))) : w.cell? ⟨g, 0, none⟩ = some a ∧ w.cell? ⟨g, 1, none⟩ = some b ∧ w.cell? ⟨g, 2, none⟩ = some c ∧ w.cell? ⟨g, 3, none⟩ = some d := by
  refine ⟨?_, ?_, ?_, ?_⟩ <;> rw [cell_of_row w g _ _ _ _ h] <;> rfl
theorem blt {w : World} {g : Nat} {o : Obj} (h : w.heap[g]? = some o) : g < w.heap.size := (Array.getElem?_eq_some_iff.1 h).1
/-- One row in a new block. -/
theorem one_row {w : World} {R : List Nat} {v : Value} {p : List Int} (h : Own w R v (intMem p)) : Own (w.alloc (.cells #[v] 46)) (w.heap.size :: R) (.slice (some ⟨w.heap.size, 0, none⟩) 1 1) (rowsMem [p]) := by
  have hb : Below w.heap.size w (w.alloc (.cells #[v] 46)) := (Below.refl _ _).alloc (Nat.le_refl _) _
  have h1 := h.alike (w' := w.alloc (.cells #[v] 46)) (fun b hb' => hb.block b (h.lt b hb'))
  have ho : (w.alloc (.cells #[v] 46)).ownsRow 0 46 1 (.slice (some ⟨w.heap.size, 0, none⟩) 1 1) 1 [v] := World.ownsRow_lit (base := 0) (e := 46) (size := 1) w #[v] 1 (Nat.zero_le _) (by unfold maxLen; omega) rfl
  have hL : OwnL (w.alloc (.cells #[v] 46)) (R ++ []) [v] (encR [p]) := OwnL.cons h1 .nil (fun b _ hb => by simp at hb)
  rw [List.append_nil] at hL
  exact .row rfl ho hL (fun hm => by have := h.lt _ hm; omega)
theorem lit1b {w : World} {g : Nat} {z : Int} (h : w.heap[g]? = some (.cells #[.int .i64 z] 3 (0, 0))) : IntsAt w (some ⟨g, 0, none⟩) [z] := by
  refine fun _ => ⟨g, 0, rfl, blt h, fun j hj => ?_⟩
  have hj0 : j = 0 := by simp at hj; omega
  subst hj0
  rw [cell_of_row w g _ _ _ _ h]
  rfl
/-- A path and one more step, to be put together. -/
theorem cat2 {w : World} {A : Option Addr} {c : Nat} {p : List Int} {k : Int} {g h : Nat} (hA : IntsAt w A p) (hz : A = none → c = 0) (h1 : w.heap[g]? = some (.cells #[.int .i64 k] 3 (0, 0))) (h2 : w.heap[h]? = some (.cells #[.slice A p.length c, .slice (some ⟨g, 0, none⟩) 1 1] 46 (0, 0))) : CatAt w (some ⟨h, 0, none⟩) [p, [k]] := by
  intro _
  refine ⟨h, 0, rfl, blt h2, fun i hi => ?_⟩
  have hi2 : i = 0 ∨ i = 1 := by simp at hi; omega
  rcases hi2 with rfl | rfl
  · exact ⟨A, c, by rw [cell_of_row w h _ _ _ _ h2]; rfl, hA, hz⟩
  · refine ⟨some ⟨g, 0, none⟩, 1, by rw [cell_of_row w h _ _ _ _ h2]; rfl, fun _ => ⟨g, 0, rfl, blt h1, fun j hj => ?_⟩, fun e => by cases e⟩
    have hj0 : j = 0 := by simp [rwAt] at hj; omega
    subst hj0
    rw [cell_of_row w g _ _ _ _ h1]
    rfl
end Pth
end Go.Proofs.Ytnnebndcjjdhoaa
