/-
  Numbering the cells of a term that is handed over by value, as a contract.
-/
import Derived.Test.YtddmoempagcjeaaTmMark
import Derived.Test.YtddmoempagcjeaaTmTo
import Derived.Test.YtddmoempagcjeaaShapeS
import Derived.Test.YtddmoempagcjeaaTermS
namespace Go.Proofs.Ytddmoempagcjeaa
open Go.RowKit

theorem only_of_below {S : List Nat} {w w' : World} (h : Below w.heap.size w w') : Only S w w' := Only.of_grown (grown_of_below h none) (fun k e => by cases e)

/-- A row of other blocks stays while those of a term are written. -/
theorem own_only {S : List Nat} {w w' : World} {base : Nat} {e : TypeId} {size n : Nat} {v : Value} {xs : List Value} (h : w.ownsRow base e size v n xs) (ho : Only S w w') (hn : ∀ k, v.ownBlock = some k → k ∉ S) : w'.ownsRow base e size v n xs := by
  refine ⟨h.1, ?_⟩
  rcases h.2 with hz | ⟨g, cap, cur, rfl, hb, hc, rest⟩
  · exact .inl hz
  · refine .inr ⟨g, cap, cur, rfl, hb, ?_, rest⟩
    rw [ho.block g (Array.getElem?_eq_some_iff.1 hc).1 (hn g rfl)]
    exact hc

/-- The two slices of a term. -/
theorem ownL_parts {w : World} {S : List Nat} {a b pv kv : Value} {t : Tm} (h : OwnL w S [a, b, pv, kv] (encT t)) :
    ∃ P K, (∀ x, x ∈ S ↔ x ∈ P ∨ x ∈ K) ∧ (∀ x ∈ P, x ∉ K) ∧ Own w P pv (pairMem t.perm) ∧ Own w K kv (tmsMem t.kids) := by
  rw [encT_eq] at h
  cases h with
  | cons h0 k0 hd0 =>
    cases k0 with
    | cons h1 k1 hd1 =>
      cases k1 with
      | cons h2 k2 hd2 =>
        cases k2 with
        | cons h3 k3 hd3 =>
          cases k3
          cases h0
          cases h1
          exact ⟨_, _, fun x => by simp, fun x hx hk => hd2 x hx (by simpa using hk), h2, h3⟩

mutual
theorem mcT_le : ∀ t : Tm, mcT t ≤ 2 + 2 * cntT t
  | .mk o n p ks => by
    have := mcTs_le ks
    rw [mcT, cntT]; omega
theorem mcTs_le : ∀ ts : List Tm, mcTs ts ≤ 2 * (ts.length + sumT ts)
  | [] => by simp [mcTs]
  | t :: r => by
    have h1 := mcT_le t
    have h2 := mcTs_le r
    rw [mcTs, sumT, List.length_cons]; omega
end

set_option maxRecDepth 100000 in
set_option maxHeartbeats 2000000 in
theorem markTerm_any (t : Tm) (hf : Fit t) (S : List Nat) (A B : Option Addr) (c d : Nat) (k : Int) (w : World) (hk0 : 0 ≤ k) (hk1 : k + t.perm.length * 2 + mcTs t.kids ≤ 9007199254740992)
    (h : OwnL w S [.int .i64 t.op, .int .i64 t.num, .slice A t.perm.length c, .slice B t.kids.length d] (encT t)) :
    Calls Try.prog 52 #[.agg #[.int .i64 t.op, .int .i64 t.num, .slice A t.perm.length c, .slice B t.kids.length d], .int .i64 k] w
      fun e w' => e = .returned (.int .i64 (k + t.perm.length * 2 + mcTs t.kids)) ∧ Only S w w' := by
  have h2 := (fit_eq _).1 hf
  obtain ⟨P, K, hS, hd, hP, hK⟩ := ownL_parts h
  have hbx : Below w.heap.size w (w.alloc (.cells #[.int .i64 t.op, .int .i64 t.num, .slice A t.perm.length c, .slice B t.kids.length d] 74)) := (Below.refl _ _).alloc (Nat.le_refl _) _
  have hP1 := hP.keep hbx
  have hK1 := hK.keep hbx
  obtain ⟨how, hPe⟩ := pairMem_own hP1
  have hmp := markPairS_own 0 t.perm.length (.slice A t.perm.length c) _ k _ how (by omega) (by omega)
  have hlt := fun (b : Nat) hb => hP.lt b hb
  clear h hP hK hP1 how
  go_enter Try.func52, Try.ntmps52
  go_wp2_with fail
  (with_reducible refine hmp.mono ?_)
  rintro e w1 ⟨rfl, _, hg1⟩
  have hon1 : Only P (w.alloc (.cells #[.int .i64 t.op, .int .i64 t.num, .slice A t.perm.length c, .slice B t.kids.length d] 74)) w1 := Only.of_grown hg1 (fun b e => by rw [hPe, e]; simp)
  have hK2 := hK1.alike (w' := w1) (fun b hb => hon1.block b (hK1.lt b hb) (fun hp => hd b hp hb))
  have b3 : w1.cell? ⟨w.heap.size, 3, none⟩ = some (.slice B t.kids.length d) := by
    have h9 := (hon1.block w.heap.size (by simp) (fun hp => by have := hlt _ hp; omega)).trans (heap_alloc_new w _)
    rw [cell_of_row w1 w.heap.size _ _ _ _ h9]; rfl
  have hon2 : Only S w w1 := (only_of_below hbx).trans (hon1.wide fun b hb => (hS b).2 (.inl hb))
  have hmk := markTermS_any _ t.kids (Nat.le_refl _) h2.2.2 h2.2.1 K _ (k + t.perm.length * 2) w1 (by omega) hk1 hK2
  clear hmp hg1 hon1 hK1 hK2 hPe hbx
  go_wp2_with fail
  (with_reducible refine hmk.mono ?_)
  rintro e w2 ⟨rfl, _, hon3⟩
  have hon4 := hon2.trans (hon3.wide fun b hb => (hS b).2 (.inr hb))
  clear hmk hon2 hon3 b3
  go_wp2
  go_ret
  exact ⟨rfl, hon4⟩

end Go.Proofs.Ytddmoempagcjeaa
