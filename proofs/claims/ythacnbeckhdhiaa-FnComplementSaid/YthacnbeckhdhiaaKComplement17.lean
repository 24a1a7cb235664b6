/-
  A machine and its complement: of each word exactly one accepts it, and what they count is all words; plain words, and what a machine handed over is.
-/
import Derived.Test.YthacnbeckhdhiaaKComplement15
import Derived.Test.YthacnbeckhdhiaaKComplement16
import Derived.Test.YthacnbeckhdhiaaKComplement11
namespace Go.Proofs.Ythacnbeckhdhiaa
open Go.RowKit Go.Sort
set_option linter.unusedVariables false

namespace CmT
def comp (t : Mach) : Mach := ⟨t.st, t.rg, t.ac.map (!·), t.mv⟩
theorem comp_is {t : Mach} (h : machB t = true) : compM t = comp t := compM_yes h
theorem comp_mach {t : Mach} (h : machB t = true) : machB (comp t) = true := by
  unfold machB at h ⊢
  unfold headB lenB movB at h ⊢
  unfold comp
  simpa using h
theorem bt_flip {l : List Bool} {i : Nat} (h : i < l.length) : btAt (l.map (!·)) i = !btAt l i := by
  rw [btAt_get _ i (by rw [List.length_map]; exact h), btAt_get l i h]
  simp
theorem run_comp (t : Mach) (l : List Int) : runM (comp t) l = runM t l := rfl
theorem acc_flip {t : Mach} (h : machB t = true) {l : List Int} (hl : wordB l = true) : accB (comp t) l = !accB t l := by
  have g := good_of h
  have ho := runM_ok g l
  have hal := g.al
  have h1 := ho.1
  have h2 := ho.2.1
  unfold accB runOk lastB
  rw [comp_mach h, h, hl, run_comp]
  show (true && true && btAt (t.ac.map (!·)) (runM t l).1.toNat) = !(true && true && btAt t.ac (runM t l).1.toNat)
  rw [bt_flip (by omega)]
  simp
theorem sumI_add {α : Type} (f g : α → Int) : ∀ l : List α, sumI (l.map f) + sumI (l.map g) = sumI (l.map fun x => f x + g x)
  | [] => rfl
  | x :: r => by
    have ih := sumI_add f g r
    simp only [List.map_cons, sumI]
    omega
theorem sumI_const {α : Type} (z : Int) : ∀ l : List α, sumI (l.map fun _ => z) = l.length * z
  | [] => by simp [sumI]
  | x :: r => by
    rw [List.map_cons, sumI, sumI_const z r, List.length_cons, Int.natCast_add, Int.add_mul]
    omega
theorem cnt_both {t : Mach} (g : Good t) (n : Nat) : ∀ (L : Nat) (q : Int) (rs : List Int), 0 ≤ q → q < t.st → rs.length = t.rg.toNat → CwT.Low n rs → cntM t n L q rs + cntM (comp t) n L q rs = ((n ^ L : Nat) : Int)
  | 0, q, rs, h0, h1, hl, _ => by
    have hal := g.al
    rw [cntM, cntM]
    show (if btAt t.ac q.toNat = true then (1 : Int) else 0) + (if btAt (t.ac.map (!·)) q.toNat = true then (1 : Int) else 0) = ((n ^ 0 : Nat) : Int)
    rw [bt_flip (by omega)]
    cases btAt t.ac q.toNat <;> simp
  | L + 1, q, rs, h0, h1, hl, hr => by
    have h3 := g.r3
    have hlt : rs.length < 1000 := by omega
    rw [CwT.letters t n L q rs hlt hr, CwT.letters (comp t) n L q rs hlt hr, sumI_add]
    rw [sumI_congr (g := fun _ => ((n ^ L : Nat) : Int)) fun c hc => by
      have ho := stepM_ok g (p := (q, rs)) ⟨h0, h1, hl⟩ (c : Int)
      exact cnt_both g n L _ _ ho.1 ho.2.1 ho.2.2 (CwT.low_step hr (List.mem_range.1 hc))]
    rw [sumI_const, List.length_range, ← Int.natCast_mul, Nat.pow_succ, Nat.mul_comm]
theorem cw_both {t : Mach} (h : machB t = true) (L : Nat) (hL : L ≤ 5) : cwR t L 3 + cwR (comp t) L 3 = ((3 ^ L : Nat) : Int) := by
  have g := good_of h
  rw [cwR_yes h (by omega) (by omega), cwR_yes (comp_mach h) (by omega) (by omega)]
  have h0 := cnt_both g 3 L 0 (List.replicate t.rg.toNat (-1)) (Int.le_refl _) (by have := g.s1; omega) List.length_replicate (fun x hx => .inl (List.mem_replicate.1 hx).2)
  rw [Int.toNat_natCast]
  exact h0
theorem cw_pos {t : Mach} (h : machB t = true) (L : Nat) (hL : L ≤ 5) : 0 ≤ cwR t L 3 := by
  have g := good_of h
  have h3 := g.r3
  rw [cwR_yes h (by omega) (by omega)]
  exact (cntM_bound t 3 (by omega) (by omega) _ 0 (List.replicate t.rg.toNat (-1)) (by rw [List.length_replicate]; omega)).1
theorem first_differs {t : Mach} (h : machB t = true) : btAt t.ac 0 ≠ btAt (comp t).ac 0 := by
  have g := good_of h
  have h1 := g.s1
  have h2 := g.al
  show btAt t.ac 0 ≠ btAt (t.ac.map (!·)) 0
  rw [bt_flip (by omega)]
  cases btAt t.ac 0 <;> decide
theorem ownL_cells {w : World} : ∀ {xs vs : List Value} {S : List Nat}, OwnL w S xs (vs.map .cell) → xs = vs
  | [], [], _, _ => rfl
  | [], _ :: _, _, h => by cases h
  | _ :: _, [], _, h => by cases h
  | x :: xs, v :: vs, _, h => by
    cases h with
    | cons h1 h2 h3 =>
      cases h1
      rw [ownL_cells h2]
theorem own_row {w : World} {S : List Nat} {A : Option Addr} {n c size : Nat} {e : TypeId} {vs : List Value} (h : Own w S (.slice A n c) (.row e size (vs.map .cell))) (hv : 0 < vs.length) : w.ownsRow 0 e size (.slice A n c) n vs := by
  generalize hms : vs.map Mem.cell = ms at h
  cases h with
  | nil => rw [List.map_eq_nil_iff] at hms; rw [hms] at hv; simp at hv
  | row hl ho h hg =>
    subst hms
    rw [← ownL_cells h]
    exact ho
theorem cap_of {w : World} {base size n cap : Nat} {e : TypeId} {A : Option Addr} {xs : List Value} (h : w.ownsRow base e size (.slice A n cap) n xs) : n ≤ cap := by
  rcases h.2 with ⟨h1, rfl⟩ | ⟨g', cap', cur, h1, _, _, h2, _⟩
  · exact Nat.zero_le _
  · injection h1 with _ _ h3
    omega
/-- A machine that lies in rows is one that can be handed over. -/
theorem ix_of {w : World} {S : List Nat} {t : Mach} {A B : Option Addr} {c d : Nat} (hm : machB t = true) (h : OwnL w S [.int .i64 t.st, .int .i64 t.rg, .slice A t.ac.length c, .slice B t.mv.length d] (encM t)) :
    MachIx w (.agg #[.int .i64 t.st, .int .i64 t.rg, .slice A t.ac.length c, .slice B t.mv.length d]) t := by
  have g := good_of hm
  have h1 := g.s1
  have h2 := g.al
  have h3 := g.ml
  have h4 := g.casZ_le
  have hml : 0 < t.mv.length := by
    rcases casZ_of g.r0 g.r3 with ⟨_, h5⟩ | ⟨_, h5⟩ | ⟨_, h5⟩ | ⟨_, h5⟩ <;> rw [h5] at h3 <;> omega
  unfold encM boolMem moveMem at h
  cases h with
  | cons _ h _ =>
    cases h with
    | cons _ h _ =>
      cases h with
      | cons hA h _ =>
        cases h with
        | cons hB _ _ =>
          have ra := own_row hA (by rw [bcells_len]; omega)
          have rb := own_row hB (by rw [cellsOf_len]; omega)
          obtain ⟨A8, c8, e8, h8⟩ := own_boolsAt ra
          obtain ⟨A7, c7, e7, h7⟩ := own_pairsAt rb
          have k1 := cap_of ra
          have k2 := cap_of rb
          simp only [Value.slice.injEq, true_and] at e8 e7
          obtain ⟨rfl, rfl⟩ := e8
          obtain ⟨rfl, rfl⟩ := e7
          refine ⟨_, _, _, _, rfl, h8, h7, fun e => ?_, fun e => ?_, k1, k2⟩
          · obtain ⟨b, off, e2, _⟩ := h8 (by omega)
            rw [e] at e2; cases e2
          · obtain ⟨b, off, e2, _⟩ := h7 hml
            rw [e] at e2; cases e2
end CmT
end Go.Proofs.Ythacnbeckhdhiaa
