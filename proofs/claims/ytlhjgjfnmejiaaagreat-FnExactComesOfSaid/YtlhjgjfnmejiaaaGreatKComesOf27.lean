/-
  A substitution done on a term: plain words, no program is walked here. What a substitution binds, as a map of the call's own from holes to forms, in the program, as contracts. A substitution done on a form, in the program, as contracts.
-/
import Derived.Test.YtlhjgjfnmejiaaaGreatKComesOf25
import Derived.Test.YtlhjgjfnmejiaaaGreatKComesOf26
import Derived.Test.YtlhjgjfnmejiaaaGreatKComesOf17
import Derived.MapViews
import Derived.Maps.OwnOps
import Derived.Maps.OwnSet
import Derived.Maps.Views
import Derived.Lib.SmallJoins
import Derived.Test.YtlhjgjfnmejiaaaGreatKComesOf24
import Derived.Test.YtlhjgjfnmejiaaaGreatKComesOf13
section
namespace Go.Proofs.YtlhjgjfnmejiaaaGreat
open Go.RowKit Go.Sort
set_option linter.unusedVariables false

/-- What is bound to a hole. -/
def findB : List RBinding → Int → Option Tm
  | [], _ => none
  | r :: rs, h => if r.f0 = h then some r.f1 else findB rs h
theorem findB_none : ∀ {rs : List RBinding} {h : Int}, (∀ j, j < rs.length → ¬ (atRBinding rs j).f0 = h) → findB rs h = none
  | [], h, _ => rfl
  | r :: rs, h, hn => by
    have h0 := hn 0 (by simp)
    rw [atRBinding_zero] at h0
    rw [findB, if_neg h0]
    exact findB_none fun j hj => by have := hn (j + 1) (by simpa using hj); rwa [atRBinding_succ] at this
theorem findB_mem : ∀ {rs : List RBinding} {h : Int} {u : Tm}, findB rs h = some u → ∃ i, i < rs.length ∧ (atRBinding rs i).f0 = h ∧ (atRBinding rs i).f1 = u
  | [], h, u, e => by cases e
  | r :: rs, h, u, e => by
    rw [findB] at e
    split at e
    · rename_i h0
      injection e with e
      exact ⟨0, by simp, h0, e⟩
    · obtain ⟨i, hi, h1, h2⟩ := findB_mem e
      exact ⟨i + 1, by simpa using hi, by rw [atRBinding_succ]; exact h1, by rw [atRBinding_succ]; exact h2⟩
theorem sub_term {rs : List RBinding} (h : subB rs = true) {i : Nat} (hi : i < rs.length) : isTermB (atRBinding rs i).f1 = true := by
  have h1 := subB_at h hi
  unfold bdAt at h1
  simp only [Bool.and_eq_true] at h1
  exact h1.2.1
theorem findB_term {rs : List RBinding} (h : subB rs = true) {n : Int} {u : Tm} (e : findB rs n = some u) : isTermB u = true := by
  obtain ⟨i, hi, _, rfl⟩ := findB_mem e
  exact sub_term h hi

mutual
/-- A substitution done on a term. -/
def doT (l : List RBinding) : Tm → Tm
  | .mk o n p ks => if o = 4 then (match findB l n with | some u => actT p u | none => .mk o n p (doTs l ks)) else .mk o n p (doTs l ks)
def doTs (l : List RBinding) : List Tm → List Tm
  | [] => []
  | t :: r => doT l t :: doTs l r
end
theorem doTs_map (l : List RBinding) : ∀ ts : List Tm, doTs l ts = ts.map (doT l)
  | [] => rfl
  | t :: r => by rw [doTs, List.map_cons, doTs_map l r]
theorem doT_1 (l : List RBinding) (n : Int) : doT l (.mk 1 n [] []) = .mk 1 n [] [] := by simp [doT, doTs]
theorem doT_2 (l : List RBinding) (n : Int) (ks : List Tm) : doT l (.mk 2 n [] ks) = .mk 2 n [] (ks.map (doT l)) := by simp [doT, doTs_map]
theorem doT_3 (l : List RBinding) (n : Int) (k : Tm) : doT l (.mk 3 n [] [k]) = .mk 3 n [] [doT l k] := by simp [doT, doTs]
theorem doT_4y (l : List RBinding) (n : Int) (p : List (Int × Int)) {u : Tm} (h : findB l n = some u) : doT l (.mk 4 n p []) = actT p u := by simp [doT, h]
theorem doT_4n (l : List RBinding) (n : Int) (p : List (Int × Int)) (h : findB l n = none) : doT l (.mk 4 n p []) = .mk 4 n p [] := by simp [doT, doTs, h]
/-- In the model's words: at what is no bound hole, the kids alone change. -/
theorem doT_kids {l : List RBinding} {t : Tm} (h : t.op = 4 → findB l t.num = none) : doT l t = .mk t.op t.num t.perm (t.kids.map (doT l)) := by
  cases t with
  | mk o n p ks =>
    rw [op_mk, num_mk] at h
    simp only [op_mk, num_mk, perm_mk, kids_mk]
    rw [doT, doTs_map]
    split
    · rename_i h4
      rw [h h4]
    · rfl
theorem doT_hole {l : List RBinding} {t u : Tm} (h4 : t.op = 4) (h : findB l t.num = some u) : doT l t = actT t.perm u := by
  cases t with
  | mk o n p ks =>
    rw [op_mk] at h4
    rw [num_mk] at h
    rw [doT, if_pos h4, h]; rfl

mutual
theorem szT_doT {l : List RBinding} (hl : subB l = true) : ∀ t : Tm, szT (doT l t) ≤ szT t * 60
  | .mk o n p ks => by
    have h0 := szTs_doTs hl ks
    rw [doT]
    split
    · split
      · rename_i u hu
        rw [szT_actT, szT, Nat.add_mul]
        have := term_size (findB_term hl hu)
        omega
      · rw [szT, szT, Nat.add_mul]; omega
    · rw [szT, szT, Nat.add_mul]; omega
theorem szTs_doTs {l : List RBinding} (hl : subB l = true) : ∀ ts : List Tm, szTs (doTs l ts) ≤ szTs ts * 60
  | [] => by simp [doTs, szTs]
  | t :: r => by
    have h1 := szT_doT hl t
    have h2 := szTs_doTs hl r
    rw [doTs, szTs, szTs, Nat.add_mul]; omega
end
mutual
theorem okP_doT {l : List RBinding} (hl : subB l = true) : ∀ {t : Tm}, OkP 40 t → OkP 80 (doT l t)
  | .mk o n p ks, h => by
    have h0 := okPs_doTs hl h.2.2
    have h1 := h.2.1
    rw [doT]
    split
    · split
      · rename_i u hu
        exact okP_le (by omega) (okP_act p (okP_good (term_good (findB_term hl hu))))
      · exact ⟨h.1, by omega, h0⟩
    · exact ⟨h.1, by omega, h0⟩
theorem okPs_doTs {l : List RBinding} (hl : subB l = true) : ∀ {ts : List Tm}, OkPs 40 ts → OkPs 80 (doTs l ts)
  | [], _ => trivial
  | t :: r, h => ⟨okP_doT hl h.1, okPs_doTs hl h.2⟩
end
theorem do_bounds {l : List RBinding} {t : Tm} (hl : subB l = true) (ht : isTermB t = true) : szT (doT l t) ≤ 3600 ∧ OkP 80 (doT l t) ∧ cntT (doT l t) ≤ 1048576 := by
  have h1 := szT_doT hl t
  have h2 := term_size ht
  have h3 := okP_doT hl (okP_good (term_good ht))
  have h4 := cnt_ok h3
  have h5 : szT t * 60 ≤ 60 * 60 := Nat.mul_le_mul h2 (Nat.le_refl _)
  have h6 : (80 + 1) * szT (doT l t) ≤ 81 * 3600 := Nat.mul_le_mul (by decide) (by omega)
  exact ⟨by omega, h3, by omega⟩

/-- Whether a substitution can be done. -/
def doB (l : List RBinding) (t : Tm) : Bool := subB l && (isTermB t && isTermB (doT l t))
theorem doB_term {l : List RBinding} {t : Tm} (h : doB l t = true) : isTermB (doT l t) = true := by
  unfold doB at h
  simp only [Bool.and_eq_true] at h
  exact h.2.2
theorem doB_no2 {l : List RBinding} {t : Tm} (h : isTermB t = false) : doB l t = false := by simp [doB, h]
theorem doB_yes {l : List RBinding} {t : Tm} (h1 : subB l = true) (h2 : isTermB t = true) : doB l t = isTermB (doT l t) := by simp [doB, h1, h2]
end Go.Proofs.YtlhjgjfnmejiaaaGreat
end

section
namespace Go.Proofs.YtlhjgjfnmejiaaaGreat
open Go.RowKit Go.Sort Go.ChangeShapes Go.WideShapes Go.WideMaps Go.Maps
set_option linter.unusedVariables false

theorem holeKeyed : Keyed Tryz.prog 3 := int_keyed Tryz.underlying3
theorem formZero (w : World) : (zeroValue 94).run Tryz.prog w = .ok .nilIface w := by kernel_rfl
def heldE (v : Value) : Option (DataW Value × List MemPlace) := some (.held v, [])
theorem heldE_inv {v u : Value} {ps : List MemPlace} (h : heldE v = some (.held u, ps)) : v = u := by
  simp only [heldE, Option.some.injEq, Prod.mk.injEq, DataW.held.injEq] at h
  exact h.1
theorem hole_wf {h : Int} (hh : holeB h = true) : (Lit.int .i64 h).wf = true := by
  simp only [holeB, decide_eq_true_eq] at hh
  exact WalkArith.wf_i64 (n := h) ⟨by omega, by omega⟩
theorem holeKey {h : Int} (hh : holeB h = true) : keyOf Tryz.prog 3 (.int .i64 h) = some (.int .i64 h) := keyOf_int_mk Tryz.underlying3 (hole_wf hh)

/-- Block b is a map of what is bound: each bound hole gives a form, and no other one is a key. -/
def BoundAt (w : World) (q : Nat → Prop) (b : Nat) (l : List RBinding) : Prop :=
  ∃ (n : Nat) (D : DataW Value), w.ownsMap Tryz.prog 3 heldE b n D ∧ n ≤ l.length ∧
    (∀ (h : Int) (u : Tm), holeB h = true → findB l h = some u → ∃ v, D.atKey (.int .i64 h) (.held .nilIface) = .held v ∧ has D (.int .i64 h) = true ∧ FIn w q v u) ∧
    (∀ h : Int, holeB h = true → findB l h = none → D.atKey (.int .i64 h) (.held .nilIface) = .held .nilIface ∧ has D (.int .i64 h) = false)

theorem boundAt_made (w : World) (q : Nat → Prop) : BoundAt (w.alloc (.map #[] 0)) q w.heap.size [] :=
  ⟨0, .map [], World.ownsMap_made w _ _ _, Nat.le_refl _, (fun h u _ e => by cases e), (fun h _ _ => ⟨by simp [DataW.atKey], by simp [has_eq]⟩)⟩
theorem BoundAt.over {w w' : World} {q q' : Nat → Prop} {b : Nat} {l : List RBinding} {row : Option Nat} (h : BoundAt w q b l) (hg : w.grownBy w' row) (hne : some b ≠ row) (ho : Over w w' q q') : BoundAt w' q' b l := by
  obtain ⟨n, D, hm, hn, h1, h2⟩ := h
  refine ⟨n, D, hm.kept hg hne, hn, fun x u hx e => ?_, h2⟩
  obtain ⟨v, a1, a2, a3⟩ := h1 x u hx e
  exact ⟨v, a1, a2, a3.over ho⟩
theorem BoundAt.keep {w w' : World} {q : Nat → Prop} {b : Nat} {l : List RBinding} (h : BoundAt w q b l) (hb : Below w.heap.size w w') : BoundAt w' q b l :=
  h.over (grown_of_below hb none) (by simp) ⟨hb.size, fun b _ hl => hb.block b hl, fun _ h _ => h⟩
theorem BoundAt.kind {w : World} {q q' : Nat → Prop} {b : Nat} {l : List RBinding} (h : BoundAt w q b l) (hk : ∀ b, b < w.heap.size → q b → q' b) : BoundAt w q' b l := by
  obtain ⟨n, D, hm, hn, h1, h2⟩ := h
  refine ⟨n, D, hm, hn, fun x u hx e => ?_, h2⟩
  obtain ⟨v, a1, a2, a3⟩ := h1 x u hx e
  exact ⟨v, a1, a2, a3.kind hk⟩
theorem BoundAt.lt {w : World} {q : Nat → Prop} {b : Nat} {l : List RBinding} (h : BoundAt w q b l) : b < w.heap.size := by
  obtain ⟨n, D, hm, _⟩ := h
  exact hm.lt
theorem findB_snoc : ∀ (xs : List RBinding) (r : RBinding) (h : Int), findB (xs ++ [r]) h = match findB xs h with | some u => some u | none => if r.f0 = h then some r.f1 else none
  | [], r, h => by simp [findB]
  | x :: xs, r, h => by
    rw [List.cons_append, findB, findB]
    by_cases e : x.f0 = h
    · rw [if_pos e, if_pos e]
    · rw [if_neg e, if_neg e, findB_snoc xs r h]
set_option maxRecDepth 100000 in
/-- One more binding, of a hole that was not bound. -/
theorem bound_update {w : World} {q : Nat → Prop} {b : Nat} {l : List RBinding} {t : TypeId} (ht : Tryz.prog.underlying t = some (.map 3 94)) (h : BoundAt w q b l) (hq : ¬ q b) (hlen : l.length ≤ 1000) (r : RBinding) (hh : holeB r.f0 = true) (hn : findB l r.f0 = none) (v : Value) (hv : FIn w q v r.f1) :
    ∃ w', (Instr.mapUpdate t (.map (some b)) (.int .i64 r.f0) v).run Tryz.prog w = .ok () w' ∧ BoundAt w' q b (l ++ [r]) ∧ w.grownBy w' (some b) := by
  obtain ⟨n, D, hm, hnl, h1, h2⟩ := h
  obtain ⟨w', hrun, hm', hg⟩ := hm.update holeKeyed ht (by unfold maxLen; omega) (holeKey hh) (show heldE v = some (.held v, []) from rfl)
  have ho : Over w w' q q := ⟨hg.size, fun c hc hl => hg.block c hl (fun e => by injection e with e; exact hq (e ▸ hc)), fun _ h _ => h⟩
  refine ⟨w', hrun, ⟨n + 1, _, hm', by rw [List.length_append]; simp; omega, fun x u hx e => ?_, fun x hx e => ?_⟩, hg⟩
  · rw [findB_snoc] at e
    by_cases ex : r.f0 = x
    · subst ex
      rw [hn, if_pos rfl] at e
      injection e with e
      subst e
      exact ⟨v, atKey_put_same hm.isMap (holeKeyed.key (holeKey hh)) _ _, has_put_same hm.isMap (holeKeyed.key (holeKey hh)) _, hv.over ho⟩
    · have hne : (Lit.int .i64 x) ≠ .int .i64 r.f0 := fun e2 => ex (by injection e2 with _ e2; exact e2.symm)
      rw [if_neg ex] at e
      have e' : findB l x = some u := by
        cases hf : findB l x with
        | none => rw [hf] at e; cases e
        | some y => rw [hf] at e; exact e
      obtain ⟨y, a1, a2, a3⟩ := h1 x u hx e'
      exact ⟨y, by rw [atKey_put_other hne]; exact a1, by rw [has_put_other hne]; exact a2, a3.over ho⟩
  · rw [findB_snoc] at e
    have e' : findB l x = none ∧ ¬ r.f0 = x := by
      cases hf : findB l x with
      | some y => rw [hf] at e; cases e
      | none =>
        rw [hf] at e
        refine ⟨rfl, fun ex => ?_⟩
        rw [if_pos ex] at e
        cases e
    have hne : (Lit.int .i64 x) ≠ .int .i64 r.f0 := fun e2 => e'.2 (by injection e2 with _ e2; exact e2.symm)
    obtain ⟨a1, a2⟩ := h2 x hx e'.1
    exact ⟨by rw [atKey_put_other hne]; exact a1, by rw [has_put_other hne]; exact a2⟩

set_option maxRecDepth 100000 in
theorem wpList_lookup_bound (w : World) {ops : Array Oper} {rest : List Oper} {o : Oper} {a : Act} {Q : Exit → Act → World → Prop}
    (hg : o.guard = none) (m x : Operand) (t : TypeId) (hop : o.op = Op.lookup t m x true) (ht : Tryz.prog.underlying t = some (.map 3 94)) (q : Nat → Prop) (b : Nat) (l : List RBinding)
    (hm : a.eval m = .map (some b)) (hs : BoundAt w q b l) (h : Int) (hx : a.eval x = .int .i64 h) (hh : holeB h = true) (u : Tm) (hf : findB l h = some u)
    (hK : ∀ v, FIn w q v u → wpList Tryz.prog ops Q rest (a.put o.dst (.tuple #[v, .bool true])) w) :
    wpList Tryz.prog ops Q (o :: rest) a w := by
  obtain ⟨n, D, ho, _, h1, _⟩ := hs
  obtain ⟨v, a1, a2, a3⟩ := h1 h u hh hf
  refine wpList_lookup_own_ok w hg m x t hop _ _ holeKeyed ht heldE (formZero w) (.held .nilIface) [] rfl b n D hm ho _ (.int .i64 h) hx (holeKey hh) fun y ps hy => ?_
  rw [a1] at hy
  rw [a2, heldE_inv hy]
  exact hK v a3
set_option maxRecDepth 100000 in
theorem wpList_lookup_free (w : World) {ops : Array Oper} {rest : List Oper} {o : Oper} {a : Act} {Q : Exit → Act → World → Prop}
    (hg : o.guard = none) (m x : Operand) (t : TypeId) (hop : o.op = Op.lookup t m x true) (ht : Tryz.prog.underlying t = some (.map 3 94)) (q : Nat → Prop) (b : Nat) (l : List RBinding)
    (hm : a.eval m = .map (some b)) (hs : BoundAt w q b l) (h : Int) (hx : a.eval x = .int .i64 h) (hh : holeB h = true) (hf : findB l h = none)
    (hK : wpList Tryz.prog ops Q rest (a.put o.dst (.tuple #[.nilIface, .bool false])) w) :
    wpList Tryz.prog ops Q (o :: rest) a w := by
  obtain ⟨n, D, ho, _, _, h2⟩ := hs
  obtain ⟨a1, a2⟩ := h2 h hh hf
  refine wpList_lookup_own_ok w hg m x t hop _ _ holeKeyed ht heldE (formZero w) (.held .nilIface) [] rfl b n D hm ho _ (.int .i64 h) hx (holeKey hh) fun y ps hy => ?_
  rw [a1] at hy
  rw [a2, heldE_inv hy]
  exact hK

theorem sub_hole {rs : List RBinding} (h : subB rs = true) {i : Nat} (hi : i < rs.length) : holeB (atRBinding rs i).f0 = true := by
  have h1 := subB_at h hi
  unfold bdAt at h1
  simp only [Bool.and_eq_true] at h1
  exact h1.1
theorem sub_less {rs : List RBinding} (h : subB rs = true) : ∀ (d i : Nat), i + d + 1 < rs.length → (atRBinding rs i).f0 < (atRBinding rs (i + d + 1)).f0 := by
  intro d
  induction d with
  | zero =>
    intro i hi
    have h1 := subB_at h hi
    unfold bdAt at h1
    simp only [Bool.and_eq_true, Bool.or_eq_true, beq_iff_eq, decide_eq_true_eq] at h1
    rcases h1.2.2 with h2 | h2
    · omega
    · simpa using h2
  | succ d ih =>
    intro i hi
    have h1 := ih i (by omega)
    have h2 := subB_at h hi
    unfold bdAt at h2
    simp only [Bool.and_eq_true, Bool.or_eq_true, beq_iff_eq, decide_eq_true_eq] at h2
    rcases h2.2.2 with h3 | h3
    · omega
    · have e : i + (d + 1) + 1 - 1 = i + d + 1 := by omega
      rw [e] at h3
      omega
theorem atRBinding_take {rs : List RBinding} {k j : Nat} (h : j < k) : atRBinding (rs.take k) j = atRBinding rs j := by
  unfold atRBinding
  rw [List.getD_eq_getElem?_getD, List.getD_eq_getElem?_getD, List.getElem?_take_of_lt h]
theorem sub_new {rs : List RBinding} (h : subB rs = true) {k : Nat} (hk : k < rs.length) : findB (rs.take k) (atRBinding rs k).f0 = none := by
  refine findB_none fun j hj e => ?_
  rw [List.length_take] at hj
  rw [atRBinding_take (by omega)] at e
  have h1 := sub_less h (k - j - 1) j (by omega)
  rw [show j + (k - j - 1) + 1 = k by omega] at h1
  omega
end Go.Proofs.YtlhjgjfnmejiaaaGreat
end

section
namespace Go.Proofs.YtlhjgjfnmejiaaaGreat
open Go.RowKit Go.Sort Go.ChangeShapes Go.WideShapes Go.WideMaps Go.Maps
set_option linter.unusedVariables false

theorem row5 {w : World} {g : Nat} {a b c d e : Value} {T : TypeId} (h : w.heap[g]? = some (.cells #[a, b, c, d, e] T (0, 0))) : w.cell? ⟨g, 0, none⟩ = some a ∧ w.cell? ⟨g, 1, none⟩ = some b ∧ w.cell? ⟨g, 2, none⟩ = some c ∧ w.cell? ⟨g, 3, none⟩ = some d ∧ w.cell? ⟨g, 4, none⟩ = some e := by
  refine ⟨?_, ?_, ?_, ?_, ?_⟩ <;> rw [cell_of_row w g _ _ _ _ h] <;> rfl

set_option maxRecDepth 100000 in
set_option maxHeartbeats 4000000 in
theorem boundForms_any (l : List RBinding) (hsub : subB l = true) (x : Value) (w : World) (hx : RBindingsIn w x l) :
    Calls Tryz.prog 92 #[x] w (fun e w' => ∃ b, e = .returned (.map (some b)) ∧ BoundAt w' AnyB b l ∧ Below w.heap.size w w') := by
  have hlen := sub_len hsub
  obtain ⟨C, cc, rfl, hg⟩ := hx
  have hmm := @run_makeMap Tryz.prog
  go_enter Tryz.func92, Tryz.ntmps92
  go_wp2
  clear hmm
  go_loopw [9] (fun i wr => ∃ k : Nat, k ≤ l.length ∧ i = .int .i64 k ∧ BoundAt wr (fun b => b ≠ w.heap.size) w.heap.size (l.take k) ∧ Below w.heap.size w wr) (fun i _ => l.length - (intOf i).toNat)
  case atStart => exact ⟨0, Nat.zero_le _, rfl, boundAt_made w _, (Below.refl _ _).alloc (Nat.le_refl _) _⟩
  case round =>
    obtain ⟨k, hk, rfl, hm, hb⟩ := hrel
    by_cases hlt : k < l.length
    · obtain ⟨b1, o1, rfl, hb1, hget⟩ := hg (by omega)
      obtain ⟨A1, c1, B1, d1, e0, e1, e2, e3, e4, ht⟩ := hget k hlt
      have hT := sub_term hsub hlt
      have hHole := sub_hole hsub hlt
      have hNew := sub_new hsub hlt
      have hnx := Lib.hid (takeRBinding_next hlt)
      have hltk : (l.take k).length ≤ 1000 := by rw [List.length_take]; omega
      rw [← hb.cell (p := ⟨b1, _, none⟩) hb1] at e0 e1 e2 e3 e4
      have hmlt := hm.lt
      have hbx : Below wr.heap.size wr (wr.alloc (.cells #[.int .i64 (atRBinding l k).f0, .int .i64 (atRBinding l k).f1.op, .int .i64 (atRBinding l k).f1.num, .slice A1 (atRBinding l k).f1.perm.length c1, .slice B1 (atRBinding l k).f1.kids.length d1] 78)) := (Below.refl _ _).alloc (Nat.le_refl _) _
      have hdw : Below (wr.alloc (.cells #[.int .i64 (atRBinding l k).f0, .int .i64 (atRBinding l k).f1.op, .int .i64 (atRBinding l k).f1.num, .slice A1 (atRBinding l k).f1.perm.length c1, .slice B1 (atRBinding l k).f1.kids.length d1] 78)).heap.size (wr.alloc (.cells #[.int .i64 (atRBinding l k).f0, .int .i64 (atRBinding l k).f1.op, .int .i64 (atRBinding l k).f1.num, .slice A1 (atRBinding l k).f1.perm.length c1, .slice B1 (atRBinding l k).f1.kids.length d1] 78)) (wr.alloc (.cells #[.int .i64 (atRBinding l k).f0, .int .i64 (atRBinding l k).f1.op, .int .i64 (atRBinding l k).f1.num, .slice A1 (atRBinding l k).f1.perm.length c1, .slice B1 (atRBinding l k).f1.kids.length d1] 78)).drew := ⟨rfl, rfl, rfl, Nat.le_refl _, fun _ _ => rfl⟩
      have hbxd := hbx.trans (hdw.mono hbx.size)
      have hbW := hb.trans (hbxd.mono hb.size)
      have hrow : (wr.alloc (.cells #[.int .i64 (atRBinding l k).f0, .int .i64 (atRBinding l k).f1.op, .int .i64 (atRBinding l k).f1.num, .slice A1 (atRBinding l k).f1.perm.length c1, .slice B1 (atRBinding l k).f1.kids.length d1] 78)).drew.heap[wr.heap.size]? = _ := heap_alloc_new wr (.cells #[.int .i64 (atRBinding l k).f0, .int .i64 (atRBinding l k).f1.op, .int .i64 (atRBinding l k).f1.num, .slice A1 (atRBinding l k).f1.perm.length c1, .slice B1 (atRBinding l k).f1.kids.length d1] 78)
      have hct := formOf_any _ (atRBinding l k).f1 (Nat.le_refl _) (term_good hT) w (wr.alloc (.cells #[.int .i64 (atRBinding l k).f0, .int .i64 (atRBinding l k).f1.op, .int .i64 (atRBinding l k).f1.num, .slice A1 (atRBinding l k).f1.perm.length c1, .slice B1 (atRBinding l k).f1.kids.length d1] 78)).drew _ ht hbW
      have HM := Lib.hid (fun (W : World) (h : Below (wr.alloc (.cells #[.int .i64 (atRBinding l k).f0, .int .i64 (atRBinding l k).f1.op, .int .i64 (atRBinding l k).f1.num, .slice A1 (atRBinding l k).f1.perm.length c1, .slice B1 (atRBinding l k).f1.kids.length d1] 78)).drew.heap.size (wr.alloc (.cells #[.int .i64 (atRBinding l k).f0, .int .i64 (atRBinding l k).f1.op, .int .i64 (atRBinding l k).f1.num, .slice A1 (atRBinding l k).f1.perm.length c1, .slice B1 (atRBinding l k).f1.kids.length d1] 78)).drew W) => hm.keep (hbxd.trans (h.mono hbxd.size)))
      have HROW := Lib.hid (fun (W : World) (h : Below (wr.alloc (.cells #[.int .i64 (atRBinding l k).f0, .int .i64 (atRBinding l k).f1.op, .int .i64 (atRBinding l k).f1.num, .slice A1 (atRBinding l k).f1.perm.length c1, .slice B1 (atRBinding l k).f1.kids.length d1] 78)).drew.heap.size (wr.alloc (.cells #[.int .i64 (atRBinding l k).f0, .int .i64 (atRBinding l k).f1.op, .int .i64 (atRBinding l k).f1.num, .slice A1 (atRBinding l k).f1.perm.length c1, .slice B1 (atRBinding l k).f1.kids.length d1] 78)).drew W) => (h.block wr.heap.size (show wr.heap.size < (wr.alloc (.cells #[.int .i64 (atRBinding l k).f0, .int .i64 (atRBinding l k).f1.op, .int .i64 (atRBinding l k).f1.num, .slice A1 (atRBinding l k).f1.perm.length c1, .slice B1 (atRBinding l k).f1.kids.length d1] 78)).heap.size by simp)).trans hrow)
      have HUP := Lib.hid (fun (W : World) (h : BoundAt W (fun b => b ≠ w.heap.size) w.heap.size (l.take k)) (v : Value) (hv : FIn W (fun b => b ≠ w.heap.size) v (atRBinding l k).f1) => bound_update (t := 128) Tryz.underlying128 h (fun h => h rfl) hltk (atRBinding l k) hHole hNew v hv)
      have HBW := Lib.hid hbW
      have hbl := hb.size
      obtain ⟨m0, m1, m2, m3, m4⟩ := row5 hrow
      clear hT hHole hNew hltk hget hg hsub ht hm hdw hbxd hbW hbx hrow hb
      generalize l.take k = pre at *
      generalize atRBinding l k = r at *
      go_wp2
      go_region_held3 (fun w' => w'.cell? ⟨wr.heap.size, 0, none⟩ = some (.int .i64 r.f0) ∧ w'.cell? ⟨wr.heap.size, 1, none⟩ = some (.int .i64 r.f1.op) ∧ w'.cell? ⟨wr.heap.size, 2, none⟩ = some (.int .i64 r.f1.num) ∧ w'.cell? ⟨wr.heap.size, 3, none⟩ = some (.slice A1 r.f1.perm.length c1) ∧ w'.cell? ⟨wr.heap.size, 4, none⟩ = some (.slice B1 r.f1.kids.length d1))
        (first | ((try dsimp only); (with_reducible exact ⟨by assumption, by assumption, by assumption, by assumption, by assumption⟩)) | go_keep)
        (first
          | (go_at_call 60; refine hct.mono ?_; rintro e w2 ⟨fv, rfl, hfv, hb2⟩; obtain ⟨fx, rfl⟩ := hfv.iface; have hf2 := hfv.kind (q' := fun b => b ≠ w.heap.size) (fun b _ h e => by (rcases h with h | h); (all_goals (have h9 : (wr.alloc (.cells #[.int .i64 r.f0, .int .i64 r.f1.op, .int .i64 r.f1.num, .slice A1 r.f1.perm.length c1, .slice B1 r.f1.kids.length d1] 78)).drew.heap.size = wr.heap.size + 1 := (by show (wr.alloc (.cells #[.int .i64 r.f0, .int .i64 r.f1.op, .int .i64 r.f1.num, .slice A1 r.f1.perm.length c1, .slice B1 r.f1.kids.length d1] 78)).heap.size = _; simp))); (all_goals omega)); obtain ⟨w4, hrun4, hm4, hg4⟩ := HUP.out w2 (HM.out w2 hb2) _ hf2; have hrow4 := (hg4.block wr.heap.size (Nat.lt_of_lt_of_le (show wr.heap.size < (wr.alloc (.cells #[.int .i64 r.f0, .int .i64 r.f1.op, .int .i64 r.f1.num, .slice A1 r.f1.perm.length c1, .slice B1 r.f1.kids.length d1] 78)).heap.size by simp) hb2.size) (fun e => by injection e with e; omega)).trans (HROW.out w2 hb2); obtain ⟨n0, n1, n2, n3, n4⟩ := row5 (HROW.out w2 hb2); obtain ⟨p0, p1, p2, p3, p4⟩ := row5 hrow4)
          | fail)
      have hb4 : Below w.heap.size w w4 := (HBW.out.trans (hb2.mono HBW.out.size)).grown hg4 (Nat.le_trans HBW.out.size hb2.size) (fun k hk => by injection hk with hk; omega)
      have hm5 : BoundAt w4 (fun b => b ≠ w.heap.size) w.heap.size (l.take (k + 1)) := by rw [hnx.out]; exact hm4
      clear hct hfv hb2 hf2 hrun4 hm4 hg4 hrow4 n0 n1 n2 n3 n4 p0 p1 p2 p3 p4 m0 m1 m2 m3 m4 HM HROW HUP HBW hnx
      go_wp2
      refine ⟨⟨k + 1, by omega, by go_num, hm5, hb4⟩, ?_⟩
      simp only [intOf]
      omega
    · have hpost : ∃ b, Ending.returned (Value.map (some w.heap.size)) = .returned (.map (some b)) ∧ BoundAt wr AnyB b l ∧ Below w.heap.size w wr := by
        rw [List.take_of_length_le (by omega)] at hm
        exact ⟨_, rfl, hm.kind fun _ _ _ => trivial, hb⟩
      clear hm hb hg
      go_wp2
      go_ret
      exact hpost

attribute [local go_sem] ask_atom_atom ask_atom_node ask_atom_bind ask_atom_hole ask_node_atom ask_node_node ask_node_bind ask_node_hole ask_bind_atom ask_bind_node ask_bind_bind ask_bind_hole ask_hole_atom ask_hole_node ask_hole_bind ask_hole_hole

set_option maxRecDepth 100000 in
set_option maxHeartbeats 2000000 in
theorem done_atom (l : List RBinding) (n : Int) (q : Nat → Prop) (b : Nat) (w : World) :
    Calls Tryz.prog 94 #[.map (some b), .iface 153 (.agg #[.int .i64 n])] w (FormQ q (.mk 1 n [] []) w) := by
  have hpost : FormQ q (.mk 1 n [] []) w (.returned (.iface 153 (.agg #[.int .i64 n]))) w := ⟨_, rfl, form_atom (t := .mk 1 n [] []) rfl, Below.refl _ _⟩
  go_enter Tryz.func94, Tryz.ntmps94
  go_wp2
  go_ret
  exact hpost

set_option maxRecDepth 100000 in
set_option maxHeartbeats 2000000 in
theorem done_node (l : List RBinding) (n : Int) (mb : Nat) (b off c0 : Nat) (xs : List Value) (ks : List Tm) (q : Nat → Prop) (w : World) (hq : ∀ b, q b → b < w.heap.size) (hbl : b < w.heap.size) (hc : ∀ j u, xs[j]? = some u → w.cell? ⟨b, off + j, none⟩ = some u) (hxs : FsIn w q xs ks) (hlen : ks.length ≤ 1048576)
    (ih : ∀ i, i < ks.length → ∀ (w' : World) (T : TypeId) (y : Value), Below w.heap.size w w' → FIn w' q (.iface T y) (tmAt ks i) → Calls Tryz.prog 94 #[.map (some mb), .iface T y] w' (FormQ q (doT l (tmAt ks i)) w')) :
    Calls Tryz.prog 94 #[.map (some mb), .iface 156 (.agg #[.int .i64 n, .slice (some ⟨b, off, none⟩) ks.length c0])] w (FormQ q (.mk 2 n [] (ks.map (doT l))) w) := by
  have hb0 : Below w.heap.size w (w.alloc (.cells #[.int .i64 n, .slice (some ⟨b, off, none⟩) ks.length c0] 156)) := (Below.refl _ _).alloc (Nat.le_refl _) _
  have eg : ∀ args w, (callFunc 94 args).run Tryz.prog w = .ok (.enter 94 args) w := enters_of Tryz.func94 (by kernel_rfl) rfl
  have hwk := withKidsM_any n b off c0 xs ks (ks.map (doT l)) q _ q 94 (.map (some mb)) (by simp) (fun b h => Nat.lt_of_lt_of_le (hq b h) hb0.size) eg (Nat.lt_of_lt_of_le hbl hb0.size)
    (fun j u hj => (hb0.cell (p := ⟨b, off + j, none⟩) hbl).trans (hc j u hj)) (hxs.over ⟨hb0.size, fun b _ hl => hb0.block b hl, fun _ h _ => h⟩) hlen
    (fun i hi w' T y hb hf => by
      rw [tmAt_map (doT l) hi]
      exact ih i hi w' T y (hb0.trans (hb.mono hb0.size)) hf)
  have HB := Lib.hid hb0
  clear hc hxs ih eg hb0 hbl hq
  generalize hrs : ks.map (doT l) = rs at hwk ⊢
  clear hrs
  go_enter Tryz.func94, Tryz.ntmps94
  go_wp2_with fail
  refine hwk.mono ?_
  rintro e w2 ⟨g, cap, rfl, hf, hb2⟩
  have hpost : FormQ q (.mk 2 n [] rs) w (.returned (.iface 156 (.agg #[.int .i64 n, .slice (some ⟨g, 0, none⟩) rs.length cap]))) w2 :=
    ⟨_, rfl, hf.kind fun b _ h => sinceQ_le h HB.out.size, HB.out.trans (hb2.mono HB.out.size)⟩
  clear hwk HB hf hb2
  go_wp2
  go_ret
  exact hpost

set_option maxRecDepth 100000 in
set_option maxHeartbeats 4000000 in
theorem done_bind (l : List RBinding) (n : Int) (mb : Nat) (v : Value) (k : Tm) (q : Nat → Prop) (w : World) (hv : FIn w q v k)
    (ih : ∀ (w' : World) (T : TypeId) (y : Value), Below w.heap.size w w' → FIn w' q (.iface T y) k → Calls Tryz.prog 94 #[.map (some mb), .iface T y] w' (FormQ q (doT l k) w')) :
    Calls Tryz.prog 94 #[.map (some mb), .iface 159 (.agg #[.int .i64 n, v])] w (FormQ q (.mk 3 n [] [doT l k]) w) := by
  obtain ⟨kx, rfl⟩ := hv.iface
  have hb0 : Below w.heap.size w (w.alloc (.cells #[.int .i64 n, .iface (fty k) kx] 159)) := (Below.refl _ _).alloc (Nat.le_refl _) _
  have hdw : Below (w.alloc (.cells #[.int .i64 n, .iface (fty k) kx] 159)).heap.size (w.alloc (.cells #[.int .i64 n, .iface (fty k) kx] 159)) (w.alloc (.cells #[.int .i64 n, .iface (fty k) kx] 159)).drew := ⟨rfl, rfl, rfl, Nat.le_refl _, fun _ _ => rfl⟩
  have hbd := hb0.trans (hdw.mono hb0.size)
  have hrow : (w.alloc (.cells #[.int .i64 n, .iface (fty k) kx] 159)).drew.heap[w.heap.size]? = _ := heap_alloc_new w (.cells #[.int .i64 n, .iface (fty k) kx] 159)
  have hct := ih _ _ kx hbd (hv.keep hbd)
  have hlt : w.heap.size < (w.alloc (.cells #[.int .i64 n, .iface (fty k) kx] 159)).drew.heap.size := (Array.getElem?_eq_some_iff.1 hrow).1
  have HB := Lib.hid hbd
  have HROW := Lib.hid (fun (W : World) (h : Below (w.alloc (.cells #[.int .i64 n, .iface (fty k) kx] 159)).drew.heap.size (w.alloc (.cells #[.int .i64 n, .iface (fty k) kx] 159)).drew W) => row2 ((h.block w.heap.size hlt).trans hrow))
  obtain ⟨m0, m1, _, _⟩ := row2 hrow
  generalize doT l k = r at *
  generalize fty k = T at *
  clear ih hv hb0 hdw hbd hrow hlt
  go_enter Tryz.func94, Tryz.ntmps94
  go_wp2
  go_region_held3 (fun w' => w'.cell? ⟨w.heap.size, 0, none⟩ = some (.int .i64 n) ∧ w'.cell? ⟨w.heap.size, 1, none⟩ = some (.iface T kx))
    (first | ((try dsimp only); (with_reducible exact ⟨by assumption, by assumption⟩)) | go_keep)
    (first
      | (go_at_call 94; refine hct.mono ?_; rintro e w2 ⟨v2, rfl, hv2, hb2⟩; obtain ⟨f2, rfl⟩ := hv2.iface; obtain ⟨n0, n1, _, _⟩ := HROW.out w2 hb2)
      | fail)
  have hpost : FormQ q (.mk 3 n [] [r]) w (.returned (.iface 159 (.agg #[.int .i64 n, .iface (fty r) f2]))) w2 :=
    ⟨_, rfl, .bind _ (hv2.kind fun b _ h => sinceQ_le h HB.out.size), HB.out.trans (hb2.mono HB.out.size)⟩
  clear hct hv2 hb2 HB HROW m0 m1 n0 n1
  go_wp2
  go_ret
  exact hpost

set_option maxRecDepth 100000 in
set_option maxHeartbeats 4000000 in
theorem done_hole_no (l : List RBinding) (n : Int) (mb : Nat) (A : Option Addr) (c : Nat) (p : List (Int × Int)) (q : Nat → Prop) (w : World) (hm : BoundAt w q mb l) (hh : holeB n = true) (hf : findB l n = none) (hv : FIn w q (.iface 135 (.agg #[.int .i64 n, .slice A p.length c])) (.mk 4 n p [])) :
    Calls Tryz.prog 94 #[.map (some mb), .iface 135 (.agg #[.int .i64 n, .slice A p.length c])] w (FormQ q (.mk 4 n p []) w) := by
  have hb0 : Below w.heap.size w (w.alloc (.cells #[.int .i64 n, .slice A p.length c] 135)) := (Below.refl _ _).alloc (Nat.le_refl _) _
  have hpost : FormQ q (.mk 4 n p []) w (.returned (.iface 135 (.agg #[.int .i64 n, .slice A p.length c]))) (w.alloc (.cells #[.int .i64 n, .slice A p.length c] 135)) :=
    ⟨_, rfl, (hv.keep hb0).kind fun b _ h => .inl h, hb0⟩
  have hm0 := hm.keep hb0
  clear hv hm hb0
  go_enter Tryz.func94, Tryz.ntmps94
  go_wp2_with (at_lookup; refine wpList_lookup_free _ rfl _ _ 128 rfl Tryz.underlying128 q mb l rfl hm0 n rfl hh hf ?_)
  go_wp2
  go_ret
  exact hpost

set_option maxRecDepth 100000 in
set_option maxHeartbeats 4000000 in
theorem done_hole_yes (l : List RBinding) (n : Int) (mb : Nat) (A : Option Addr) (c : Nat) (p : List (Int × Int)) (u : Tm) (q : Nat → Prop) (w : World) (hm : BoundAt w q mb l) (hh : holeB n = true) (hf : findB l n = some u) (hp : PairsAt w A p) (hlp : p.length ≤ 1048576) (hasc : Asc p) (hszu : szT u ≤ 1048576) (hPu : OkP 1048576 u) :
    Calls Tryz.prog 94 #[.map (some mb), .iface 135 (.agg #[.int .i64 n, .slice A p.length c])] w (FormQ q (actT p u) w) := by
  have hb0 : Below w.heap.size w (w.alloc (.cells #[.int .i64 n, .slice A p.length c] 135)) := (Below.refl _ _).alloc (Nat.le_refl _) _
  have hrow := heap_alloc_new w (.cells #[.int .i64 n, .slice A p.length c] 135)
  obtain ⟨m0, m1, _, _⟩ := row2 hrow
  have hm0 := hm.keep hb0
  have hac := fun (y : Value) (hy : FIn (w.alloc (.cells #[.int .i64 n, .slice A p.length c] 135)) q (.iface (fty u) y) u) => act_any (szT u) u (Nat.le_refl _) hszu hPu q _ y A c p (hp.below hb0) hlp hasc hy
  have hma := askAct u
  have hna := enterAct u
  have HB := Lib.hid hb0
  have HAC := Lib.hid hac
  clear hm hb0 hrow hp hasc hPu hac hszu
  go_enter Tryz.func94, Tryz.ntmps94
  go_wp2_with (at_lookup; refine wpList_lookup_bound _ rfl _ _ 128 rfl Tryz.underlying128 q mb l rfl hm0 n rfl hh u hf ?_)
  intro v hv
  obtain ⟨vx, rfl⟩ := hv.iface
  have hac := HAC.out vx hv
  clear HAC hv hm0 hf
  generalize actT p u = r at *
  generalize actF u = F at *
  generalize fty u = T at *
  go_wp2_with fail
  refine hac.mono ?_
  rintro e w2 ⟨v2, rfl, hv2, hb2⟩
  obtain ⟨f2, rfl⟩ := hv2.iface
  have hpost : FormQ q r w (.returned (.iface (fty r) f2)) w2 :=
    ⟨_, rfl, hv2.kind fun b _ h => by
      rcases h with h | h
      · omega
      · exact .inr (Nat.le_trans HB.out.size h), HB.out.trans (hb2.mono HB.out.size)⟩
  generalize fty r = T2 at *
  clear hac hv2 hb2 HB hma hna m0 m1
  go_wp2
  go_ret
  exact hpost

/-- A substitution done on a form. -/
theorem doneOn_any (l : List RBinding) (hsub : subB l = true) : ∀ (N : Nat) (t : Tm), szT t ≤ N → N ≤ 1048576 → goodT t = true → ∀ (q : Nat → Prop) (w : World) (b : Nat) (T : TypeId) (y : Value), (∀ b, q b → b < w.heap.size) → BoundAt w q b l → FIn w q (.iface T y) t → Calls Tryz.prog 94 #[.map (some b), .iface T y] w (FormQ q (doT l t) w) := by
  intro N
  induction N with
  | zero => intro t h; rw [szT_eq] at h; omega
  | succ N ih =>
    intro t hN hM hg q w b T y hq hm h
    obtain ⟨fx', e⟩ := h.iface
    injection e with e1 e2
    subst e1; subst e2
    have hok := okP_good hg
    have hg' := hg
    rw [goodT_eq, Bool.and_eq_true] at hg
    rcases form_cases h with ⟨n, rfl, rfl⟩ | ⟨n, b', off, c', xs, ks, rfl, rfl, _, hb, hc, hxs⟩ | ⟨n, v, k, rfl, rfl, hk⟩ | ⟨n, A', c', r, rfl, rfl, hr, _⟩
    · rw [doT_1, gty_1]
      exact done_atom l n q b w
    · rw [doT_2, gty_2]
      rw [szT_eq, kids_mk] at hN
      have hkl := len_szTs ks
      refine done_node l n b b' off c' xs ks q w hq hb hc hxs (by omega) fun i hi w' T y hb' hy => ih (tmAt ks i) (by have := szT_at hi; omega) (by omega) (goodTs_at hg.2 hi) q w' b T y (fun b h => Nat.lt_of_lt_of_le (hq b h) hb'.size) (hm.keep hb') hy
    · rw [doT_3, gty_3]
      have hszk : szT (.mk 3 n [] [k]) = 1 + szT k := by simp [szT, szTs]
      rw [hszk] at hN
      exact done_bind l n b v k q w hk fun w' T y hb' hy => ih k (by omega) (by omega) (goodTs_at (ts := [k]) (i := 0) hg.2 (by simp)) q w' b T y (fun b h => Nat.lt_of_lt_of_le (hq b h) hb'.size) (hm.keep hb') hy
    · have hs := hg.1
      unfold shapeB at hs
      rw [op_mk, if_neg (by omega), if_neg (by omega), if_neg (by omega), if_pos rfl] at hs
      simp only [Bool.and_eq_true] at hs
      have hh : holeB n = true := hs.1
      rw [gty_4]
      cases hf : findB l n with
      | none =>
        rw [doT_4n _ _ _ hf]
        rw [gty_4] at h
        exact done_hole_no l n b A' c' r q w hm hh hf h
      | some u =>
        rw [doT_4y _ _ _ hf]
        have ht := findB_term hsub hf
        exact done_hole_yes l n b A' c' r u q w hm hh hf hr (Nat.le_trans hok.2.1 (by decide)) hok.1 (by have := term_size ht; omega) (okP_le (by decide) (okP_good (term_good ht)))
end Go.Proofs.YtlhjgjfnmejiaaaGreat
end

