/-
  Numbering a term, and looking at it, with what stands there.
-/
import Derived.Test.YtgdaefmmljgjkaaTmVal
import Derived.Test.YtgdaefmmljgjkaaTmHeld
import Derived.Test.YtgdaefmmljgjkaaOpenT
import Derived.Test.YtgdaefmmljgjkaaBase
import Derived.Test.YtgdaefmmljgjkaaTermS
namespace Go.Proofs.Ytgdaefmmljgjkaa
open Go.RowKit Go.Sort
set_option linter.unusedVariables false

theorem box_lt {w : World} {g : Nat} {o : Obj} (h : w.heap[g]? = some o) : g < w.heap.size := (Array.getElem?_eq_some_iff.1 h).1

theorem row4 {w : World} {g : Nat} {a b c d : Value} {T : TypeId} (h : w.heap[g]? = some (.cells #[a, b, c, d] T)) :
    w.cell? ⟨g, 0, none⟩ = some a ∧ w.cell? ⟨g, 1, none⟩ = some b ∧ w.cell? ⟨g, 2, none⟩ = some c ∧ w.cell? ⟨g, 3, none⟩ = some d := by
  refine ⟨?_, ?_, ?_, ?_⟩ <;> rw [cell_of_row w g _ _ _ _ h] <;> rfl

/-- A term's pairs and kids numbered from k on. -/
def mkR (k : Int) (t : Tm) : Tm := .mk t.op t.num (mkP k t.perm) (mkTs (k + t.perm.length * 2) t.kids)
/-- How many numbers that takes. -/
def mcR (t : Tm) : Nat := t.perm.length * 2 + mcTs t.kids

theorem own_mkR {w : World} {k : Int} {t : Tm} {pv kv : Value} {P K : List Nat} (h : Own w P pv (pairMem (mkP k t.perm))) (h' : Own w K kv (tmsMem (mkTs (k + t.perm.length * 2) t.kids))) (hd : ∀ b ∈ P, b ∉ K) : OwnL w (P ++ (K ++ [])) [.int .i64 t.op, .int .i64 t.num, pv, kv] (encT (mkR k t)) :=
  ownL_term (t := mkR k t) h h' hd

set_option maxHeartbeats 1000000 in
theorem markTerm_full (t : Tm) (hf : Fit t) (S : List Nat) (A B : Option Addr) (c d : Nat) (k : Int) (w : World) (hk0 : 0 ≤ k) (hk1 : k + mcR t ≤ 9007199254740992)
    (h : OwnL w S [.int .i64 t.op, .int .i64 t.num, .slice A t.perm.length c, .slice B t.kids.length d] (encT t)) :
    Calls Try.prog 14 #[.agg #[.int .i64 t.op, .int .i64 t.num, .slice A t.perm.length c, .slice B t.kids.length d], .int .i64 k] w
      fun e w' => e = .returned (.int .i64 (k + mcR t)) ∧ (∃ S', OwnL w' S' [.int .i64 t.op, .int .i64 t.num, .slice A t.perm.length c, .slice B t.kids.length d] (encT (mkR k t)) ∧ ∀ b ∈ S', b ∈ S) ∧ Only S w w' := by
  have h2 := (fit_eq _).1 hf
  have HM : Hid (k + t.perm.length * 2 + mcTs t.kids = k + (mcR t : Int)) := Lib.hid (by unfold mcR; omega)
  unfold mcR at hk1
  obtain ⟨P, K, hS, hd, hP, hK⟩ := ownL_parts h
  have hbx : Below w.heap.size w (w.alloc (.cells #[.int .i64 t.op, .int .i64 t.num, .slice A t.perm.length c, .slice B t.kids.length d] 32)) := (Below.refl _ _).alloc (Nat.le_refl _) _
  have hP1 := hP.keep hbx
  have hK1 := hK.keep hbx
  obtain ⟨how, hPe⟩ := pairMem_own hP1
  have hmp := markPairS_own 0 t.perm.length (.slice A t.perm.length c) _ k _ how (by omega) (by omega)
  have hlt := fun (b : Nat) hb => hP.lt b hb
  clear h hP hK hP1 how
  go_enter Try.func14, Try.ntmps14
  go_wp2_with fail
  (with_reducible refine hmp.mono ?_)
  rintro e w1 ⟨rfl, hmk1, hg1⟩
  have hon1 : Only P (w.alloc (.cells #[.int .i64 t.op, .int .i64 t.num, .slice A t.perm.length c, .slice B t.kids.length d] 32)) w1 := Only.of_grown hg1 (fun b e => by rw [hPe, e]; simp)
  have hK2 := hK1.alike (w' := w1) (fun b hb => hon1.block b (hK1.lt b hb) (fun hp => hd b hp hb))
  have hPm : Own w1 P (.slice A t.perm.length c) (pairMem (mkP k t.perm)) := by
    have h9 : w1.ownsRow 0 75 2 (.slice A t.perm.length c) (mkP k t.perm).length (cellsOf (mkP k t.perm)) := by
      rw [mkP_len, cells_mkP]
      exact hmk1
    obtain ⟨P', h10, _, e⟩ := own_pairMem h9
    rw [hPe, ← e]
    exact h10
  have b3 : w1.cell? ⟨w.heap.size, 3, none⟩ = some (.slice B t.kids.length d) := by
    have h9 := (hon1.block w.heap.size (by simp) (fun hp => by have := hlt _ hp; omega)).trans (heap_alloc_new w _)
    rw [cell_of_row w1 w.heap.size _ _ _ _ h9]; rfl
  have hon2 : Only S w w1 := (only_of_below hbx).trans (hon1.wide fun b hb => (hS b).2 (.inl hb))
  have hmk := markTermS_any _ t.kids (Nat.le_refl _) h2.2.2 h2.2.1 K _ (k + t.perm.length * 2) w1 (by omega) (by omega) hK2
  have HPM := Lib.hid hPm
  clear hmp hg1 hon1 hK1 hK2 hPe hbx hmk1 hPm
  go_wp2_with fail
  (with_reducible refine hmk.mono ?_)
  rintro e w2 ⟨rfl, hKm, hon3⟩
  have hon4 := hon2.trans (hon3.wide fun b hb => (hS b).2 (.inr hb))
  have hP2 := HPM.out.alike (w' := w2) (fun b hb => hon3.block b (HPM.out.lt b hb) (hd b hb))
  have hpost : Ending.returned (.int .i64 (k + t.perm.length * 2 + mcTs t.kids)) = .returned (.int .i64 (k + (mcR t : Int))) ∧ (∃ S', OwnL w2 S' [.int .i64 t.op, .int .i64 t.num, .slice A t.perm.length c, .slice B t.kids.length d] (encT (mkR k t)) ∧ ∀ b ∈ S', b ∈ S) ∧ Only S w w2 := by
    refine ⟨by rw [HM.out], ⟨_, own_mkR hP2 hKm hd, fun b hb => ?_⟩, hon4⟩
    rw [List.append_nil] at hb
    rcases List.mem_append.1 hb with h | h
    · exact (hS b).2 (.inl h)
    · exact (hS b).2 (.inr h)
  clear hmk hon2 hon3 b3 hKm hP2 HPM hon4
  go_wp2
  go_ret
  exact hpost

set_option maxHeartbeats 1000000 in
theorem heldTerm_any (t : Tm) (hf : Fit t) (A B : Option Addr) (c d : Nat) (k : Int) (w : World) (hk0 : 0 ≤ k) (hk1 : k + mcR t ≤ 9007199254740992) (S : List Nat)
    (h : OwnL w S [.int .i64 t.op, .int .i64 t.num, .slice A t.perm.length c, .slice B t.kids.length d] (encT (mkR k t))) :
    Calls Try.prog 25 #[.agg #[.int .i64 t.op, .int .i64 t.num, .slice A t.perm.length c, .slice B t.kids.length d], .int .i64 k] w (IntPost (k + mcR t) w) := by
  have h2 := (fit_eq _).1 hf
  have HM : Hid (k + t.perm.length * 2 + mcTs t.kids = k + (mcR t : Int)) := Lib.hid (by unfold mcR; omega)
  unfold mcR at hk1
  obtain ⟨P, K, hS, hd, hP, hK⟩ := ownL_parts h
  have hbx : Below w.heap.size w (w.alloc (.cells #[.int .i64 t.op, .int .i64 t.num, .slice A t.perm.length c, .slice B t.kids.length d] 32)) := (Below.refl _ _).alloc (Nat.le_refl _) _
  have hPa : PairsAt (w.alloc (.cells #[.int .i64 t.op, .int .i64 t.num, .slice A t.perm.length c, .slice B t.kids.length d] 32)) A (mkP k t.perm) := by
    have h9 := (hP.keep hbx).at_
    obtain ⟨A', c', e, h10⟩ := at_pairs (p := mkP k t.perm) h9
    injection e with e1 _ _
    rw [← e1] at h10
    exact h10
  have hKa : TmsIn (w.alloc (.cells #[.int .i64 t.op, .int .i64 t.num, .slice A t.perm.length c, .slice B t.kids.length d] 32)) (.slice B t.kids.length d) (mkTs (k + t.perm.length * 2) t.kids) := (hK.keep hbx).at_
  have hhp := heldPairS_at A c t.perm k _ hPa hk0 (by omega)
  have hhk := heldTermS_any _ t.kids (Nat.le_refl _) h2.2.2 h2.2.1 (.slice B t.kids.length d) (k + t.perm.length * 2) _ (by omega) (by omega) hKa
  have n1 : ¬ k + (t.perm.length : Int) * 2 < 0 := by omega
  have n2 : ¬ k + (t.perm.length : Int) * 2 + mcTs t.kids < 0 := by omega
  clear h hP hK hPa hKa
  go_enter Try.func25, Try.ntmps25
  go_wp2_with fail
  (with_reducible refine hhp.mono ?_)
  rintro e w' ⟨rfl, rfl⟩
  clear hhp
  go_wp2_with fail
  (with_reducible refine hhk.mono ?_)
  rintro e w' ⟨rfl, rfl⟩
  have hpost : IntPost (k + mcR t) w (.returned (.int .i64 (k + t.perm.length * 2 + mcTs t.kids))) (w.alloc (.cells #[.int .i64 t.op, .int .i64 t.num, .slice A t.perm.length c, .slice B t.kids.length d] 32)) := ⟨by rw [HM.out], hbx⟩
  clear hhk hbx HM
  go_wp2
  go_ret
  exact hpost
end Go.Proofs.Ytgdaefmmljgjkaa
