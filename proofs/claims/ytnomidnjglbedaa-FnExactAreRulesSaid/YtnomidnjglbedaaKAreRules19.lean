/-
  IsRule in the program, as a contract. IsRule in the model, as a contract. AreRules in the program and in the model, as contracts.
-/
import Derived.Test.YtnomidnjglbedaaKAreRules16
import Derived.Test.YtnomidnjglbedaaKAreRules17
import Derived.Test.YtnomidnjglbedaaKAreRules9
import Derived.Test.YtnomidnjglbedaaKAreRules13
import Derived.Test.YtnomidnjglbedaaKAreRules18
import Derived.Carry
import Derived.Test.YtnomidnjglbedaaKAreRules5
section
namespace Go.Proofs.Ytnomidnjglbedaa
open Go.RowKit Go.Sort
set_option linter.unusedVariables false

/-- Whether every number of the one list is in the other. -/
def amongB (p q : List Int) : Bool := (List.range p.length).all fun i => hasB q (itAt p i)
theorem among_no {p q : List Int} {i : Nat} (hi : i < p.length) (h : hasB q (itAt p i) = false) : amongB p q = false := by
  unfold amongB
  rw [List.all_eq_false]
  exact ⟨i, List.mem_range.2 hi, by simp [h]⟩
theorem among_yes {p q : List Int} (h : ∀ k, k < p.length → hasB q (itAt p k) = true) : amongB p q = true := by
  unfold amongB
  rw [List.all_eq_true]
  exact fun x hx => h x (List.mem_range.1 hx)
theorem among_app (a b q : List Int) : amongB (a ++ b) q = (amongB a q && amongB b q) := by
  have e : ∀ l : List Int, amongB l q = l.all (hasB q) := fun l => by
    unfold amongB
    rw [Bool.eq_iff_iff, List.all_eq_true, List.all_eq_true]
    refine ⟨fun h x hx => ?_, fun h i hi => ?_⟩
    · obtain ⟨n, hn, rfl⟩ := List.getElem_of_mem hx
      have := h n (List.mem_range.2 hn)
      rwa [itAt_get l n hn] at this
    · have hi' := List.mem_range.1 hi
      rw [itAt_get l i hi']
      exact h _ (List.getElem_mem hi')
  rw [e, e, e, List.all_append]
/-- The holes of a context, in its order. -/
def holesC (m : List (Int × Int)) : List Int := m.map (·.2)
theorem holesC_next {m : List (Int × Int)} {k : Nat} (h : k < m.length) : holesC (m.take (k + 1)) = holesC (m.take k) ++ [(prAt m k).2] := by
  have e : prAt m k = m[k] := by simp [prAt, h]
  rw [holesC, holesC, List.take_succ_eq_append_getElem h, List.map_append, e]; rfl
theorem holesC_len (m : List (Int × Int)) (k : Nat) : (holesC (m.take k)).length ≤ m.length := by
  rw [holesC, List.length_map, List.length_take]; omega
def ruleB (m : List (Int × Int)) (s t : Tm) : Bool := ctxB m && (isTermB s && (isTermB t && (!decide (s.op = 4) && amongB (holesL t ++ holesC m) (holesL s))))
theorem rule_no1 {m : List (Int × Int)} {s t : Tm} (h : ctxB m = false) : ruleB m s t = false := by simp [ruleB, h]
theorem rule_no2 {m : List (Int × Int)} {s t : Tm} (h : isTermB s = false) : ruleB m s t = false := by simp [ruleB, h]
theorem rule_no3 {m : List (Int × Int)} {s t : Tm} (h : isTermB t = false) : ruleB m s t = false := by simp [ruleB, h]
theorem rule_no4 {m : List (Int × Int)} {s t : Tm} (h : s.op = 4) : ruleB m s t = false := by simp [ruleB, h]
theorem rule_in {m : List (Int × Int)} {s t : Tm} (h1 : ctxB m = true) (h2 : isTermB s = true) (h3 : isTermB t = true) (h4 : ¬ s.op = 4) : ruleB m s t = amongB (holesL t ++ holesC m) (holesL s) := by simp [ruleB, h1, h2, h3, h4]

namespace RuleK
theorem intsAt_of {w : World} {base n : Nat} {e : TypeId} {B : Option Addr} {d : Nat} {l : List Int} (h : w.ownsRow base e 1 (.slice B n d) l.length (icells l)) : IntsAt w B l := by
  obtain ⟨A, c, ee, hp⟩ := own_intsAt h
  injection ee with e1 e2 e3
  subst e1
  exact hp
theorem next_ok {p : Nat → Bool} {k : Nat} (h : ∀ j, j < k → p j = true) (hk : p k = true) : ∀ j, j < k + 1 → p j = true := by
  intro j hj
  rcases Nat.lt_or_ge j k with h1 | h1
  · exact h j h1
  · rw [show j = k by omega]; exact hk
end RuleK

/-- The function literal: whether a number is not in the list. -/
theorem notIn_any (B : Option Addr) (d V : Nat) (q : List Int) (n : Int) (w : World) (hV : w.cell? ⟨V, 0, none⟩ = some (.slice B q.length d)) (hB : IntsAt w B q) (hl : q.length ≤ 1099511627776) :
    Calls Try.prog 123 #[.int .i64 n, .pointer (some ⟨V, 0, none⟩)] w fun e w' => e = .returned (.bool (!hasB q n)) ∧ w = w' := by
  have hc := contains_any B d q n w hB hl
  generalize hasB q n = r at hc ⊢
  clear hB
  go_enter Try.func123, Try.ntmps123
  go_wp2_with fail
  refine hc.mono ?_
  rintro e w2 ⟨rfl, rfl⟩
  clear hc
  go_wp2
  go_ret
  exact ⟨rfl, rfl⟩

set_option maxRecDepth 100000 in
set_option maxHeartbeats 2000000 in
theorem indexNotIn_any (A B : Option Addr) (c d V : Nat) (p q : List Int) (w : World) (hA : IntsAt w A p) (hV : w.cell? ⟨V, 0, none⟩ = some (.slice B q.length d)) (hB : IntsAt w B q) (hp : p.length ≤ 1099511627776) (hq : q.length ≤ 1099511627776) :
    Calls Try.prog 141 #[.slice A p.length c, .func (.func 123) #[] #[.pointer (some ⟨V, 0, none⟩)]] w
      fun e w' => (∃ i : Int, e = .returned (.int .i64 i) ∧ ((0 ≤ i ∧ amongB p q = false) ∨ (i < 0 ∧ amongB p q = true))) ∧ w = w' := by
  go_enter Try.func141, Try.ntmps141
  go_wp2
  go_loopw [5, 8] (fun _ i wr => ∃ k : Nat, k ≤ p.length ∧ i = .int .i64 k ∧ Hid (∀ j, j < k → hasB q (itAt p j) = true) ∧ w = wr) (fun _ i _ => p.length - (intOf i).toNat)
  case atStart => exact ⟨0, Nat.zero_le _, rfl, Lib.hid (fun j hj => absurd hj (by omega)), rfl⟩
  case round =>
    obtain ⟨k, hk, rfl, hn, rfl⟩ := hrel
    by_cases hlt : k < p.length
    · obtain ⟨b1, o1, rfl, hb1, hc1⟩ := hA (by omega)
      have c1 := hc1 k hlt
      have hcall := notIn_any B d V q (itAt p k) w hV hB hq
      by_cases hx : hasB q (itAt p k) = true
      · rw [hx] at hcall
        have hn2 := Lib.hid (RuleK.next_ok (p := fun j => hasB q (itAt p j)) hn.out hx)
        clear hc1 hA hV hB hn hx
        generalize itAt p k = p1 at c1 hcall
        go_wp2_with (go_at_call 123; refine hcall.mono ?_; rintro e w2 ⟨rfl, rfl⟩)
        clear hcall c1
        refine ⟨⟨k + 1, by omega, by go_num, hn2, by first | rfl | trivial⟩, ?_⟩
        simp only [intOf]
        omega
      · have hx' : hasB q (itAt p k) = false := by simpa using hx
        rw [hx'] at hcall
        have hn2 : Hid (amongB p q = false) := Lib.hid (among_no hlt hx')
        clear hc1 hA hV hB hn hx hx'
        generalize itAt p k = p1 at c1 hcall
        go_wp2_with (go_at_call 123; refine hcall.mono ?_; rintro e w2 ⟨rfl, rfl⟩)
        clear hcall c1
        go_ret
        exact ⟨⟨_, rfl, Or.inl ⟨by omega, hn2.out⟩⟩, rfl⟩
    · have hn2 : Hid (amongB p q = true) := Lib.hid (among_yes fun j hj => hn.out j (by omega))
      clear hA hV hB hn
      go_wp2
      go_ret
      exact ⟨⟨_, rfl, Or.inr ⟨by decide, hn2.out⟩⟩, rfl⟩

theorem containsNotIn_any (A B : Option Addr) (c d V : Nat) (p q : List Int) (w : World) (hA : IntsAt w A p) (hV : w.cell? ⟨V, 0, none⟩ = some (.slice B q.length d)) (hB : IntsAt w B q) (hp : p.length ≤ 1099511627776) (hq : q.length ≤ 1099511627776) :
    Calls Try.prog 122 #[.slice A p.length c, .func (.func 123) #[] #[.pointer (some ⟨V, 0, none⟩)]] w
      fun e w' => e = .returned (.bool (!amongB p q)) ∧ w = w' := by
  have hi := indexNotIn_any A B c d V p q w hA hV hB hp hq
  clear hA hV hB
  generalize amongB p q = r at hi ⊢
  go_enter Try.func122, Try.ntmps122
  go_wp2_with fail
  refine hi.mono ?_
  rintro e w2 ⟨⟨i, rfl, h⟩, rfl⟩
  clear hi
  rcases h with ⟨h, rfl⟩ | ⟨h, rfl⟩
  · go_wp2
    go_ret
    exact ⟨rfl, rfl⟩
  · have h' : ¬ 0 ≤ i := by omega
    go_wp2
    go_ret
    exact ⟨bool_end (by first | rfl | (simp; omega)), rfl⟩

theorem areAmong_any (A B : Option Addr) (c d : Nat) (p q : List Int) (w : World) (hA : IntsAt w A p) (hB : IntsAt w B q) (hp : p.length ≤ 1099511627776) (hq : q.length ≤ 1099511627776) :
    Calls Try.prog 98 #[.slice A p.length c, .slice B q.length d] w (BoolPost (amongB p q) w) := by
  have hb0 : Below w.heap.size w (w.alloc (.cells #[.slice B q.length d] 36)) := (Below.refl _ _).alloc (Nat.le_refl _) _
  have hV : (w.alloc (.cells #[.slice B q.length d] 36)).cell? ⟨w.heap.size, 0, none⟩ = some (.slice B q.length d) := by simp
  have hcc := containsNotIn_any A B c d w.heap.size p q _ (hA.below hb0) hV (hB.below hb0) hp hq
  generalize amongB p q = r at hcc ⊢
  clear hA hB hV
  go_enter Try.func98, Try.ntmps98
  go_wp2_with fail
  refine hcc.mono ?_
  rintro e w2 ⟨rfl, rfl⟩
  clear hcc
  go_wp2
  go_ret
  exact ⟨by first | rfl | simp, hb0⟩

set_option maxRecDepth 100000 in
set_option maxHeartbeats 8000000 in
/-- IsRule of the program. -/
theorem isRule_impl (m : List (Int × Int)) (s t : Tm) (hml : m.length ≤ 1048576) (hns : cntT s ≤ 1048576) (hnt : cntT t ≤ 1048576) (x : Value) (w : World) (hx : RuleIn w x m s t) :
    Calls Try.prog 50 #[x] w (BoolPost (ruleB m s t) w) := by
  obtain ⟨i0, hi0, hz0, hz1, hz2⟩ := info_parts int_infoH
  have HSI := Lib.hid hz2
  clear hz2
  obtain ⟨C, cc, A1, c1, B1, d1, A2, c2, B2, d2, rfl, hp, hs, ht⟩ := hx
  have hb0 : Below w.heap.size w (w.alloc (.cells #[.slice C m.length cc, .int .i64 s.op, .int .i64 s.num, .slice A1 s.perm.length c1, .slice B1 s.kids.length d1, .int .i64 t.op, .int .i64 t.num, .slice A2 t.perm.length c2, .slice B2 t.kids.length d2] 68)) := (Below.refl _ _).alloc (Nat.le_refl _) _
  have k0 := heap_alloc_new w (.cells #[.slice C m.length cc, .int .i64 s.op, .int .i64 s.num, .slice A1 s.perm.length c1, .slice B1 s.kids.length d1, .int .i64 t.op, .int .i64 t.num, .slice A2 t.perm.length c2, .slice B2 t.kids.length d2] 68)
  have HB := Lib.hid (fun (W : World) (h : Below (w.alloc (.cells #[.slice C m.length cc, .int .i64 s.op, .int .i64 s.num, .slice A1 s.perm.length c1, .slice B1 s.kids.length d1, .int .i64 t.op, .int .i64 t.num, .slice A2 t.perm.length c2, .slice B2 t.kids.length d2] 68)).heap.size (w.alloc (.cells #[.slice C m.length cc, .int .i64 s.op, .int .i64 s.num, .slice A1 s.perm.length c1, .slice B1 s.kids.length d1, .int .i64 t.op, .int .i64 t.num, .slice A2 t.perm.length c2, .slice B2 t.kids.length d2] 68)) W) => RuleK.row9 ((h.block w.heap.size (by simp)).trans k0))
  have HC := Lib.hid (fun (W : World) (h : Below (w.alloc (.cells #[.slice C m.length cc, .int .i64 s.op, .int .i64 s.num, .slice A1 s.perm.length c1, .slice B1 s.kids.length d1, .int .i64 t.op, .int .i64 t.num, .slice A2 t.perm.length c2, .slice B2 t.kids.length d2] 68)).heap.size (w.alloc (.cells #[.slice C m.length cc, .int .i64 s.op, .int .i64 s.num, .slice A1 s.perm.length c1, .slice B1 s.kids.length d1, .int .i64 t.op, .int .i64 t.num, .slice A2 t.perm.length c2, .slice B2 t.kids.length d2] 68)) W) => isContext_impl C cc m W (hp.below (hb0.trans (h.mono hb0.size))) (by omega))
  have HS := Lib.hid (fun (W : World) (h : Below (w.alloc (.cells #[.slice C m.length cc, .int .i64 s.op, .int .i64 s.num, .slice A1 s.perm.length c1, .slice B1 s.kids.length d1, .int .i64 t.op, .int .i64 t.num, .slice A2 t.perm.length c2, .slice B2 t.kids.length d2] 68)).heap.size (w.alloc (.cells #[.slice C m.length cc, .int .i64 s.op, .int .i64 s.num, .slice A1 s.perm.length c1, .slice B1 s.kids.length d1, .int .i64 t.op, .int .i64 t.num, .slice A2 t.perm.length c2, .slice B2 t.kids.length d2] 68)) W) => isTerm_impl s _ W (hs.below (hb0.trans (h.mono hb0.size))) (fit_of s hns))
  have HT := Lib.hid (fun (W : World) (h : Below (w.alloc (.cells #[.slice C m.length cc, .int .i64 s.op, .int .i64 s.num, .slice A1 s.perm.length c1, .slice B1 s.kids.length d1, .int .i64 t.op, .int .i64 t.num, .slice A2 t.perm.length c2, .slice B2 t.kids.length d2] 68)).heap.size (w.alloc (.cells #[.slice C m.length cc, .int .i64 s.op, .int .i64 s.num, .slice A1 s.perm.length c1, .slice B1 s.kids.length d1, .int .i64 t.op, .int .i64 t.num, .slice A2 t.perm.length c2, .slice B2 t.kids.length d2] 68)) W) => isTerm_impl t _ W (ht.below (hb0.trans (h.mono hb0.size))) (fit_of t hnt))
  have HHS := Lib.hid (fun (W : World) (h : Below (w.alloc (.cells #[.slice C m.length cc, .int .i64 s.op, .int .i64 s.num, .slice A1 s.perm.length c1, .slice B1 s.kids.length d1, .int .i64 t.op, .int .i64 t.num, .slice A2 t.perm.length c2, .slice B2 t.kids.length d2] 68)).heap.size (w.alloc (.cells #[.slice C m.length cc, .int .i64 s.op, .int .i64 s.num, .slice A1 s.perm.length c1, .slice B1 s.kids.length d1, .int .i64 t.op, .int .i64 t.num, .slice A2 t.perm.length c2, .slice B2 t.kids.length d2] 68)) W) => holes_impl s _ W (hs.below (hb0.trans (h.mono hb0.size))) (fit_of s hns))
  have HHT := Lib.hid (fun (W : World) (h : Below (w.alloc (.cells #[.slice C m.length cc, .int .i64 s.op, .int .i64 s.num, .slice A1 s.perm.length c1, .slice B1 s.kids.length d1, .int .i64 t.op, .int .i64 t.num, .slice A2 t.perm.length c2, .slice B2 t.kids.length d2] 68)).heap.size (w.alloc (.cells #[.slice C m.length cc, .int .i64 s.op, .int .i64 s.num, .slice A1 s.perm.length c1, .slice B1 s.kids.length d1, .int .i64 t.op, .int .i64 t.num, .slice A2 t.perm.length c2, .slice B2 t.kids.length d2] 68)) W) => holes_impl t _ W (ht.below (hb0.trans (h.mono hb0.size))) (fit_of t hnt))
  have HCX := Lib.hid (fun (W : World) (h : Below (w.alloc (.cells #[.slice C m.length cc, .int .i64 s.op, .int .i64 s.num, .slice A1 s.perm.length c1, .slice B1 s.kids.length d1, .int .i64 t.op, .int .i64 t.num, .slice A2 t.perm.length c2, .slice B2 t.kids.length d2] 68)).heap.size (w.alloc (.cells #[.slice C m.length cc, .int .i64 s.op, .int .i64 s.num, .slice A1 s.perm.length c1, .slice B1 s.kids.length d1, .int .i64 t.op, .int .i64 t.num, .slice A2 t.perm.length c2, .slice B2 t.kids.length d2] 68)) W) => hp.below (hb0.trans (h.mono hb0.size)))
  have HB0 := Lib.hid hb0
  obtain ⟨m0, m1, m2, m3, m4, m5, m6, m7, m8⟩ := RuleK.row9 k0
  clear hp hs ht k0 hb0
  cases h0 : ctxB m with
  | false =>
    have HF := Lib.hid (rule_no1 (s := s) (t := t) h0)
    go_enter Try.func50, Try.ntmps50
    have hc := HC.out (w.alloc (.cells #[.slice C m.length cc, .int .i64 s.op, .int .i64 s.num, .slice A1 s.perm.length c1, .slice B1 s.kids.length d1, .int .i64 t.op, .int .i64 t.num, .slice A2 t.perm.length c2, .slice B2 t.kids.length d2] 68)) (Below.refl _ _)
    rw [h0] at hc
    go_wp2_with fail
    refine hc.mono ?_
    rintro e w1 ⟨rfl, hb1⟩
    have hx0 := hb1
    clear hc m0 m1 m2 m3 m4 m5 m6 m7 m8
    have hpost : BoolPost (ruleB m s t) w (.returned (.bool false)) w1 := ⟨by rw [HF.out], HB0.out.trans (hx0.mono HB0.out.size)⟩
    clear HC HS HT HB HB0 HHS HHT HCX hx0 hb1 h0
    go_wp2
    go_ret
    exact hpost
  | true =>
  cases h1 : isTermB s with
  | false =>
    have HF := Lib.hid (rule_no2 (m := m) (t := t) h1)
    go_enter Try.func50, Try.ntmps50
    have hc := HC.out (w.alloc (.cells #[.slice C m.length cc, .int .i64 s.op, .int .i64 s.num, .slice A1 s.perm.length c1, .slice B1 s.kids.length d1, .int .i64 t.op, .int .i64 t.num, .slice A2 t.perm.length c2, .slice B2 t.kids.length d2] 68)) (Below.refl _ _)
    rw [h0] at hc
    go_wp2_with fail
    refine hc.mono ?_
    rintro e w1 ⟨rfl, hb1⟩
    have hx0 := hb1
    clear hc m0 m1 m2 m3 m4 m5 m6 m7 m8
    have hc := HS.out w1 hx0
    rw [h1] at hc
    obtain ⟨m0, m1, m2, m3, m4, m5, m6, m7, m8⟩ := HB.out w1 hx0
    go_wp2_with fail
    refine hc.mono ?_
    rintro e w2 ⟨rfl, hb2⟩
    have hx1 := hx0.trans (hb2.mono hx0.size)
    clear hb2
    clear hc m0 m1 m2 m3 m4 m5 m6 m7 m8
    have hpost : BoolPost (ruleB m s t) w (.returned (.bool false)) w2 := ⟨by rw [HF.out], HB0.out.trans (hx1.mono HB0.out.size)⟩
    clear HC HS HT HB HB0 HHS HHT HCX hx0 hx1 hb1 h0 h1
    go_wp2
    go_ret
    exact hpost
  | true =>
  cases h2 : isTermB t with
  | false =>
    have HF := Lib.hid (rule_no3 (m := m) (s := s) h2)
    go_enter Try.func50, Try.ntmps50
    have hc := HC.out (w.alloc (.cells #[.slice C m.length cc, .int .i64 s.op, .int .i64 s.num, .slice A1 s.perm.length c1, .slice B1 s.kids.length d1, .int .i64 t.op, .int .i64 t.num, .slice A2 t.perm.length c2, .slice B2 t.kids.length d2] 68)) (Below.refl _ _)
    rw [h0] at hc
    go_wp2_with fail
    refine hc.mono ?_
    rintro e w1 ⟨rfl, hb1⟩
    have hx0 := hb1
    clear hc m0 m1 m2 m3 m4 m5 m6 m7 m8
    have hc := HS.out w1 hx0
    rw [h1] at hc
    obtain ⟨m0, m1, m2, m3, m4, m5, m6, m7, m8⟩ := HB.out w1 hx0
    go_wp2_with fail
    refine hc.mono ?_
    rintro e w2 ⟨rfl, hb2⟩
    have hx1 := hx0.trans (hb2.mono hx0.size)
    clear hb2
    clear hc m0 m1 m2 m3 m4 m5 m6 m7 m8
    have hc := HT.out w2 hx1
    rw [h2] at hc
    obtain ⟨m0, m1, m2, m3, m4, m5, m6, m7, m8⟩ := HB.out w2 hx1
    go_wp2_with fail
    refine hc.mono ?_
    rintro e w3 ⟨rfl, hb3⟩
    have hx2 := hx1.trans (hb3.mono hx1.size)
    clear hb3
    clear hc m0 m1 m2 m3 m4 m5 m6 m7 m8
    have hpost : BoolPost (ruleB m s t) w (.returned (.bool false)) w3 := ⟨by rw [HF.out], HB0.out.trans (hx2.mono HB0.out.size)⟩
    clear HC HS HT HB HB0 HHS HHT HCX hx0 hx1 hx2 hb1 h0 h1 h2
    go_wp2
    go_ret
    exact hpost
  | true =>
  by_cases h4 : s.op = 4
  · have HF := Lib.hid (rule_no4 (m := m) (t := t) h4)
    have H4 := Lib.hid h4
    clear h4
    go_enter Try.func50, Try.ntmps50
    have hc := HC.out (w.alloc (.cells #[.slice C m.length cc, .int .i64 s.op, .int .i64 s.num, .slice A1 s.perm.length c1, .slice B1 s.kids.length d1, .int .i64 t.op, .int .i64 t.num, .slice A2 t.perm.length c2, .slice B2 t.kids.length d2] 68)) (Below.refl _ _)
    rw [h0] at hc
    go_wp2_with fail
    refine hc.mono ?_
    rintro e w1 ⟨rfl, hb1⟩
    have hx0 := hb1
    clear hc m0 m1 m2 m3 m4 m5 m6 m7 m8
    have hc := HS.out w1 hx0
    rw [h1] at hc
    obtain ⟨m0, m1, m2, m3, m4, m5, m6, m7, m8⟩ := HB.out w1 hx0
    go_wp2_with fail
    refine hc.mono ?_
    rintro e w2 ⟨rfl, hb2⟩
    have hx1 := hx0.trans (hb2.mono hx0.size)
    clear hb2
    clear hc m0 m1 m2 m3 m4 m5 m6 m7 m8
    have hc := HT.out w2 hx1
    rw [h2] at hc
    obtain ⟨m0, m1, m2, m3, m4, m5, m6, m7, m8⟩ := HB.out w2 hx1
    go_wp2_with fail
    refine hc.mono ?_
    rintro e w3 ⟨rfl, hb3⟩
    have hx2 := hx1.trans (hb3.mono hx1.size)
    clear hb3
    clear hc m0 m1 m2 m3 m4 m5 m6 m7 m8
    have h4b : (s.op == 4) = true := by simp [H4.out]
    have hpost : BoolPost (ruleB m s t) w (.returned (.bool false)) w3 := ⟨by rw [HF.out], HB0.out.trans (hx2.mono HB0.out.size)⟩
    obtain ⟨m0, m1, m2, m3, m4, m5, m6, m7, m8⟩ := HB.out w3 hx2
    clear HC HS HT HB HB0 HHS HHT HCX hx0 hx1 hx2 hb1 h0 h1 h2
    go_wp2
    go_ret
    exact hpost
  · have HF := Lib.hid (rule_in h0 h1 h2 h4)
    have h4b : (s.op == 4) = false := by simp [h4]
    have hhl := holesL_len h1
    have hhr := holesL_len h2
    go_enter Try.func50, Try.ntmps50
    have hc := HC.out (w.alloc (.cells #[.slice C m.length cc, .int .i64 s.op, .int .i64 s.num, .slice A1 s.perm.length c1, .slice B1 s.kids.length d1, .int .i64 t.op, .int .i64 t.num, .slice A2 t.perm.length c2, .slice B2 t.kids.length d2] 68)) (Below.refl _ _)
    rw [h0] at hc
    go_wp2_with fail
    refine hc.mono ?_
    rintro e w1 ⟨rfl, hb1⟩
    have hx0 := hb1
    clear hc m0 m1 m2 m3 m4 m5 m6 m7 m8
    have hc := HS.out w1 hx0
    rw [h1] at hc
    obtain ⟨m0, m1, m2, m3, m4, m5, m6, m7, m8⟩ := HB.out w1 hx0
    go_wp2_with fail
    refine hc.mono ?_
    rintro e w2 ⟨rfl, hb2⟩
    have hx1 := hx0.trans (hb2.mono hx0.size)
    clear hb2
    clear hc m0 m1 m2 m3 m4 m5 m6 m7 m8
    have hc := HT.out w2 hx1
    rw [h2] at hc
    obtain ⟨m0, m1, m2, m3, m4, m5, m6, m7, m8⟩ := HB.out w2 hx1
    go_wp2_with fail
    refine hc.mono ?_
    rintro e w3 ⟨rfl, hb3⟩
    have hx2 := hx1.trans (hb3.mono hx1.size)
    clear hb3
    clear hc m0 m1 m2 m3 m4 m5 m6 m7 m8
    clear h0 h1 h2 h4 hb1 hx0 hx1 HC HS HT
    obtain ⟨m0, m1, m2, m3, m4, m5, m6, m7, m8⟩ := HB.out w3 hx2
    have hh := HHT.out w3 hx2
    go_wp2_with fail
    refine hh.mono ?_
    rintro e w4 ⟨g0, cap0, rfl, ho4, hb4⟩
    have hx4 := hx2.trans (hb4.mono hx2.size)
    have ho4 := own_le ho4 hx2.size
    clear hh m0 m1 m2 m3 m4 m5 m6 m7 m8 hb4 hx2
    generalize holesL t = H at *
    obtain ⟨m0, m1, m2, m3, m4, m5, m6, m7, m8⟩ := HB.out w4 hx4
    go_wp2
    clear m0 m1 m2 m3 m4 m5 m6 m7 m8
    generalize (w.alloc (.cells #[.slice C m.length cc, .int .i64 s.op, .int .i64 s.num, .slice A1 s.perm.length c1, .slice B1 s.kids.length d1, .int .i64 t.op, .int .i64 t.num, .slice A2 t.perm.length c2, .slice B2 t.kids.length d2] 68)) = W0 at HB HB0 HHS HHT HCX ho4 hx4
    go_loopw [3, 34] (fun v i wr => ∃ k g cap : Nat, k ≤ m.length ∧ i = .int .i64 k ∧ v = .slice (some ⟨g, 0, none⟩) (H ++ holesC (m.take k)).length cap ∧
      wr.ownsRow W0.heap.size 3 1 v (H ++ holesC (m.take k)).length (icells (H ++ holesC (m.take k))) ∧ Below W0.heap.size W0 wr) (fun _ i _ => m.length - (intOf i).toNat)
    case atStart => exact ⟨0, g0, cap0, Nat.zero_le _, rfl, by simp [holesC], by simpa [holesC] using ho4, hx4⟩
    case round =>
      clear ho4 hx4
      obtain ⟨k, g, cap, hk, rfl, rfl, ho, hb⟩ := hrel
      have hg := own_at_least ho
      have htl := holesC_len m k
      by_cases hlt : k < m.length
      · have hnext : Hid (H ++ holesC (m.take (k + 1)) = (H ++ holesC (m.take k)) ++ [(prAt m k).2]) := Lib.hid (by rw [holesC_next hlt, List.append_assoc])
        have hlX : (H ++ holesC (m.take k)).length ≤ 1048636 := by rw [List.length_append]; omega
        generalize H ++ holesC (m.take k) = X at ho hnext hlX ⊢
        have hpa := HCX.out wr hb
        obtain ⟨b1, o1, rfl, hb1, hc1⟩ := hpa (by omega)
        obtain ⟨c1q, c2q⟩ := hc1 k hlt
        clear hc1 hpa
        generalize prAt m k = pr at c1q c2q hnext
        have ho2 := ho.alloc (.cells #[.int .i64 pr.1, .int .i64 pr.2] 123)
        have hb2 := hb.alloc hb.size (.cells #[.int .i64 pr.1, .int .i64 pr.2] 123)
        have ho3 := ho2.alloc (.cells #[.int .i64 pr.2] 3)
        have hb3 := hb2.alloc (Nat.le_trans hb.size (by simp)) (.cells #[.int .i64 pr.2] 3)
        have hcell : ((wr.alloc (.cells #[.int .i64 pr.1, .int .i64 pr.2] 123)).alloc (.cells #[.int .i64 pr.2] 3)).cell? ⟨wr.heap.size + 1, 0, none⟩ = some (.int .i64 pr.2) := by simp
        have HCE := Lib.hid (one_cell hcell)
        have hsz := hb.size
        clear hcell ho ho2 hb hb2 hb1
        go_wp2_with (at_builtin; refine wpList_append_own _ rfl (.tmp 38) (.tmp 41) 36 rfl W0.heap.size 3 i0 (.int .i64 0) 1 8 Try.underlying36 hi0 hz0 hz1 HSI.out rfl (by decide) _ X.length _ rfl ho3 ⟨wr.heap.size + 1, 0, none⟩ 1 1 [.int .i64 pr.2] rfl rfl HCE.out (int_one _) ?c3 ?c4 ?c5 ?_)
        case c3 => unfold maxLen; omega
        case c4 => omega
        case c5 => simp; omega
        intro v2 w2' ho4 hg4 _
        have hb4 : Below W0.heap.size W0 w2' := below_own hb3 ho3 (Nat.le_refl _) (by simp; omega) hg4
        obtain ⟨g6, cap6, rfl⟩ := own_row_form ho4 (by omega)
        have ho5 : w2'.ownsRow W0.heap.size 3 1 (.slice (some ⟨g6, 0, none⟩) (X.length + 1) cap6) (X ++ [pr.2]).length (icells (X ++ [pr.2])) := by
          rw [icells_append, List.length_append]
          exact ho4
        have hlen : Hid (X.length + 1 = (X ++ [pr.2]).length) := by show X.length + 1 = (X ++ [pr.2]).length; simp
        rw [hlen.out] at ho5 ⊢
        rw [← hnext.out] at ho5 ⊢
        clear ho3 ho4 hg4 hb3 HCE hnext hlen c1q c2q
        go_wp2
        refine ⟨⟨k + 1, g6, cap6, by omega, by go_num, rfl, ho5, hb4⟩, ?_⟩
        simp only [intOf]
        omega
      · have e : m.take k = m := List.take_of_length_le (by omega)
        have hlX : (H ++ holesC m).length ≤ 1048636 := by rw [List.length_append]; have := holesC_len m m.length; rw [List.take_length] at this; omega
        rw [e] at ho ⊢
        generalize H ++ holesC m = Z at *
        obtain ⟨m0, m1, m2, m3, m4, m5, m6, m7, m8⟩ := HB.out wr hb
        have hh := HHS.out wr hb
        have hZ := RuleK.intsAt_of ho
        clear ho e
        go_wp2_with fail
        refine hh.mono ?_
        rintro e w5 ⟨g5, cap5, rfl, ho5, hb5⟩
        have ham := areAmong_any _ _ cap cap5 Z (holesL s) w5 (hZ.below hb5) (RuleK.intsAt_of ho5) (by omega) (by omega)
        have hx5 := HB0.out.trans ((hb.trans (hb5.mono hb.size)).mono HB0.out.size)
        clear hh hZ m0 m1 m2 m3 m4 m5 m6 m7 m8 ho5 hb5 hb
        go_wp2_with fail
        refine ham.mono ?_
        rintro e w6 ⟨rfl, hb6⟩
        have hpost : BoolPost (ruleB m s t) w (.returned (.bool (amongB Z (holesL s)))) w6 := ⟨by rw [HF.out], hx5.trans (hb6.mono hx5.size)⟩
        clear ham hb6 hx5 HF HB HB0 HHS HHT HCX
        go_wp2
        go_ret
        exact hpost
end Go.Proofs.Ytnomidnjglbedaa
end

section
namespace Go.Proofs.Ytnomidnjglbedaa
open Go.RowKit Go.Sort
set_option linter.unusedVariables false

theorem holesC_at {m : List (Int × Int)} {k : Nat} (h : k < m.length) : itAt (holesC m) k = (prAt m k).2 := by
  rw [itAt_get _ _ (by simpa [holesC] using h)]
  simp [holesC, prAt, h]
theorem holesC_full (m : List (Int × Int)) : (holesC m).length = m.length := by simp [holesC]
theorem rule_out1 {m : List (Int × Int)} {s t : Tm} {i : Nat} (hi : i < m.length) (h : hasB (holesL s) (prAt m i).2 = false) : ruleB m s t = false := by
  have h2 : amongB (holesC m) (holesL s) = false := among_no (i := i) (by rw [holesC_full]; exact hi) (by rw [holesC_at hi]; exact h)
  simp [ruleB, among_app, h2]
theorem rule_out2 {m : List (Int × Int)} {s t : Tm} {i : Nat} (hi : i < (holesL t).length) (h : hasB (holesL s) (itAt (holesL t) i) = false) : ruleB m s t = false := by
  have h2 : amongB (holesL t) (holesL s) = false := among_no hi h
  simp [ruleB, among_app, h2]
theorem rule_yes {m : List (Int × Int)} {s t : Tm} (h1 : ctxB m = true) (h2 : isTermB s = true) (h3 : isTermB t = true) (h4 : ¬ s.op = 4) (h5 : ∀ j, j < m.length → hasB (holesL s) (prAt m j).2 = true) (h6 : ∀ j, j < (holesL t).length → hasB (holesL s) (itAt (holesL t) j) = true) : ruleB m s t = true := by
  rw [rule_in h1 h2 h3 h4, among_app, among_yes h6, among_yes (p := holesC m) (fun j hj => by rw [holesC_full] at hj; rw [holesC_at hj]; exact h5 j hj)]
  rfl

set_option maxRecDepth 100000 in
set_option maxHeartbeats 8000000 in
/-- IsRule of the model. -/
theorem isRule_spec (m : List (Int × Int)) (s t : Tm) (hml : m.length ≤ 1048576) (hns : cntT s ≤ 1048576) (hnt : cntT t ≤ 1048576) (x : Value) (w : World) (hx : RuleIn w x m s t) :
    Calls Try.prog 48 #[x] w (BoolPost (ruleB m s t) w) := by
  obtain ⟨C, cc, A1, c1, B1, d1, A2, c2, B2, d2, rfl, hp, hs, ht⟩ := hx
  have hb0 : Below w.heap.size w (w.alloc (.cells #[.slice C m.length cc, .int .i64 s.op, .int .i64 s.num, .slice A1 s.perm.length c1, .slice B1 s.kids.length d1, .int .i64 t.op, .int .i64 t.num, .slice A2 t.perm.length c2, .slice B2 t.kids.length d2] 68)) := (Below.refl _ _).alloc (Nat.le_refl _) _
  have k0 := heap_alloc_new w (.cells #[.slice C m.length cc, .int .i64 s.op, .int .i64 s.num, .slice A1 s.perm.length c1, .slice B1 s.kids.length d1, .int .i64 t.op, .int .i64 t.num, .slice A2 t.perm.length c2, .slice B2 t.kids.length d2] 68)
  have HB := Lib.hid (fun (W : World) (h : Below (w.alloc (.cells #[.slice C m.length cc, .int .i64 s.op, .int .i64 s.num, .slice A1 s.perm.length c1, .slice B1 s.kids.length d1, .int .i64 t.op, .int .i64 t.num, .slice A2 t.perm.length c2, .slice B2 t.kids.length d2] 68)).heap.size (w.alloc (.cells #[.slice C m.length cc, .int .i64 s.op, .int .i64 s.num, .slice A1 s.perm.length c1, .slice B1 s.kids.length d1, .int .i64 t.op, .int .i64 t.num, .slice A2 t.perm.length c2, .slice B2 t.kids.length d2] 68)) W) => RuleK.row9 ((h.block w.heap.size (by simp)).trans k0))
  have HC := Lib.hid (fun (W : World) (h : Below (w.alloc (.cells #[.slice C m.length cc, .int .i64 s.op, .int .i64 s.num, .slice A1 s.perm.length c1, .slice B1 s.kids.length d1, .int .i64 t.op, .int .i64 t.num, .slice A2 t.perm.length c2, .slice B2 t.kids.length d2] 68)).heap.size (w.alloc (.cells #[.slice C m.length cc, .int .i64 s.op, .int .i64 s.num, .slice A1 s.perm.length c1, .slice B1 s.kids.length d1, .int .i64 t.op, .int .i64 t.num, .slice A2 t.perm.length c2, .slice B2 t.kids.length d2] 68)) W) => isContext_spec C cc m W (hp.below (hb0.trans (h.mono hb0.size))) (by omega))
  have HS := Lib.hid (fun (W : World) (h : Below (w.alloc (.cells #[.slice C m.length cc, .int .i64 s.op, .int .i64 s.num, .slice A1 s.perm.length c1, .slice B1 s.kids.length d1, .int .i64 t.op, .int .i64 t.num, .slice A2 t.perm.length c2, .slice B2 t.kids.length d2] 68)).heap.size (w.alloc (.cells #[.slice C m.length cc, .int .i64 s.op, .int .i64 s.num, .slice A1 s.perm.length c1, .slice B1 s.kids.length d1, .int .i64 t.op, .int .i64 t.num, .slice A2 t.perm.length c2, .slice B2 t.kids.length d2] 68)) W) => isTerm_spec s _ W (hs.below (hb0.trans (h.mono hb0.size))) hns)
  have HT := Lib.hid (fun (W : World) (h : Below (w.alloc (.cells #[.slice C m.length cc, .int .i64 s.op, .int .i64 s.num, .slice A1 s.perm.length c1, .slice B1 s.kids.length d1, .int .i64 t.op, .int .i64 t.num, .slice A2 t.perm.length c2, .slice B2 t.kids.length d2] 68)).heap.size (w.alloc (.cells #[.slice C m.length cc, .int .i64 s.op, .int .i64 s.num, .slice A1 s.perm.length c1, .slice B1 s.kids.length d1, .int .i64 t.op, .int .i64 t.num, .slice A2 t.perm.length c2, .slice B2 t.kids.length d2] 68)) W) => isTerm_spec t _ W (ht.below (hb0.trans (h.mono hb0.size))) hnt)
  have HHS := Lib.hid (fun (W : World) (h : Below (w.alloc (.cells #[.slice C m.length cc, .int .i64 s.op, .int .i64 s.num, .slice A1 s.perm.length c1, .slice B1 s.kids.length d1, .int .i64 t.op, .int .i64 t.num, .slice A2 t.perm.length c2, .slice B2 t.kids.length d2] 68)).heap.size (w.alloc (.cells #[.slice C m.length cc, .int .i64 s.op, .int .i64 s.num, .slice A1 s.perm.length c1, .slice B1 s.kids.length d1, .int .i64 t.op, .int .i64 t.num, .slice A2 t.perm.length c2, .slice B2 t.kids.length d2] 68)) W) => holesOf_all _ s (Nat.le_refl _) hns W _ (hs.below (hb0.trans (h.mono hb0.size))))
  have HHT := Lib.hid (fun (W : World) (h : Below (w.alloc (.cells #[.slice C m.length cc, .int .i64 s.op, .int .i64 s.num, .slice A1 s.perm.length c1, .slice B1 s.kids.length d1, .int .i64 t.op, .int .i64 t.num, .slice A2 t.perm.length c2, .slice B2 t.kids.length d2] 68)).heap.size (w.alloc (.cells #[.slice C m.length cc, .int .i64 s.op, .int .i64 s.num, .slice A1 s.perm.length c1, .slice B1 s.kids.length d1, .int .i64 t.op, .int .i64 t.num, .slice A2 t.perm.length c2, .slice B2 t.kids.length d2] 68)) W) => holesOf_all _ t (Nat.le_refl _) hnt W _ (ht.below (hb0.trans (h.mono hb0.size))))
  have HCX := Lib.hid (fun (W : World) (h : Below (w.alloc (.cells #[.slice C m.length cc, .int .i64 s.op, .int .i64 s.num, .slice A1 s.perm.length c1, .slice B1 s.kids.length d1, .int .i64 t.op, .int .i64 t.num, .slice A2 t.perm.length c2, .slice B2 t.kids.length d2] 68)).heap.size (w.alloc (.cells #[.slice C m.length cc, .int .i64 s.op, .int .i64 s.num, .slice A1 s.perm.length c1, .slice B1 s.kids.length d1, .int .i64 t.op, .int .i64 t.num, .slice A2 t.perm.length c2, .slice B2 t.kids.length d2] 68)) W) => hp.below (hb0.trans (h.mono hb0.size)))
  have HB0 := Lib.hid hb0
  obtain ⟨m0, m1, m2, m3, m4, m5, m6, m7, m8⟩ := RuleK.row9 k0
  clear hp hs ht k0 hb0
  cases h0 : ctxB m with
  | false =>
    have HF := Lib.hid (rule_no1 (s := s) (t := t) h0)
    go_enter Try.func48, Try.ntmps48
    have hc := HC.out (w.alloc (.cells #[.slice C m.length cc, .int .i64 s.op, .int .i64 s.num, .slice A1 s.perm.length c1, .slice B1 s.kids.length d1, .int .i64 t.op, .int .i64 t.num, .slice A2 t.perm.length c2, .slice B2 t.kids.length d2] 68)) (Below.refl _ _)
    rw [h0] at hc
    go_wp2_with fail
    refine hc.mono ?_
    rintro e w1 ⟨rfl, hb1⟩
    have hx0 := hb1
    clear hc m0 m1 m2 m3 m4 m5 m6 m7 m8
    have hpost : BoolPost (ruleB m s t) w (.returned (.bool false)) w1 := ⟨by rw [HF.out], HB0.out.trans (hx0.mono HB0.out.size)⟩
    clear HC HS HT HB HB0 HHS HHT HCX hx0 hb1 h0
    go_wp2
    go_ret
    exact hpost
  | true =>
  cases h1 : isTermB s with
  | false =>
    have HF := Lib.hid (rule_no2 (m := m) (t := t) h1)
    go_enter Try.func48, Try.ntmps48
    have hc := HC.out (w.alloc (.cells #[.slice C m.length cc, .int .i64 s.op, .int .i64 s.num, .slice A1 s.perm.length c1, .slice B1 s.kids.length d1, .int .i64 t.op, .int .i64 t.num, .slice A2 t.perm.length c2, .slice B2 t.kids.length d2] 68)) (Below.refl _ _)
    rw [h0] at hc
    go_wp2_with fail
    refine hc.mono ?_
    rintro e w1 ⟨rfl, hb1⟩
    have hx0 := hb1
    clear hc m0 m1 m2 m3 m4 m5 m6 m7 m8
    have hc := HS.out w1 hx0
    rw [h1] at hc
    obtain ⟨m0, m1, m2, m3, m4, m5, m6, m7, m8⟩ := HB.out w1 hx0
    go_wp2_with fail
    refine hc.mono ?_
    rintro e w2 ⟨rfl, hb2⟩
    have hx1 := hx0.trans (hb2.mono hx0.size)
    clear hb2
    clear hc m0 m1 m2 m3 m4 m5 m6 m7 m8
    have hpost : BoolPost (ruleB m s t) w (.returned (.bool false)) w2 := ⟨by rw [HF.out], HB0.out.trans (hx1.mono HB0.out.size)⟩
    clear HC HS HT HB HB0 HHS HHT HCX hx0 hx1 hb1 h0 h1
    go_wp2
    go_ret
    exact hpost
  | true =>
  cases h2 : isTermB t with
  | false =>
    have HF := Lib.hid (rule_no3 (m := m) (s := s) h2)
    go_enter Try.func48, Try.ntmps48
    have hc := HC.out (w.alloc (.cells #[.slice C m.length cc, .int .i64 s.op, .int .i64 s.num, .slice A1 s.perm.length c1, .slice B1 s.kids.length d1, .int .i64 t.op, .int .i64 t.num, .slice A2 t.perm.length c2, .slice B2 t.kids.length d2] 68)) (Below.refl _ _)
    rw [h0] at hc
    go_wp2_with fail
    refine hc.mono ?_
    rintro e w1 ⟨rfl, hb1⟩
    have hx0 := hb1
    clear hc m0 m1 m2 m3 m4 m5 m6 m7 m8
    have hc := HS.out w1 hx0
    rw [h1] at hc
    obtain ⟨m0, m1, m2, m3, m4, m5, m6, m7, m8⟩ := HB.out w1 hx0
    go_wp2_with fail
    refine hc.mono ?_
    rintro e w2 ⟨rfl, hb2⟩
    have hx1 := hx0.trans (hb2.mono hx0.size)
    clear hb2
    clear hc m0 m1 m2 m3 m4 m5 m6 m7 m8
    have hc := HT.out w2 hx1
    rw [h2] at hc
    obtain ⟨m0, m1, m2, m3, m4, m5, m6, m7, m8⟩ := HB.out w2 hx1
    go_wp2_with fail
    refine hc.mono ?_
    rintro e w3 ⟨rfl, hb3⟩
    have hx2 := hx1.trans (hb3.mono hx1.size)
    clear hb3
    clear hc m0 m1 m2 m3 m4 m5 m6 m7 m8
    have hpost : BoolPost (ruleB m s t) w (.returned (.bool false)) w3 := ⟨by rw [HF.out], HB0.out.trans (hx2.mono HB0.out.size)⟩
    clear HC HS HT HB HB0 HHS HHT HCX hx0 hx1 hx2 hb1 h0 h1 h2
    go_wp2
    go_ret
    exact hpost
  | true =>
  by_cases h4 : s.op = 4
  · have HF := Lib.hid (rule_no4 (m := m) (t := t) h4)
    have H4 := Lib.hid h4
    clear h4
    go_enter Try.func48, Try.ntmps48
    have hc := HC.out (w.alloc (.cells #[.slice C m.length cc, .int .i64 s.op, .int .i64 s.num, .slice A1 s.perm.length c1, .slice B1 s.kids.length d1, .int .i64 t.op, .int .i64 t.num, .slice A2 t.perm.length c2, .slice B2 t.kids.length d2] 68)) (Below.refl _ _)
    rw [h0] at hc
    go_wp2_with fail
    refine hc.mono ?_
    rintro e w1 ⟨rfl, hb1⟩
    have hx0 := hb1
    clear hc m0 m1 m2 m3 m4 m5 m6 m7 m8
    have hc := HS.out w1 hx0
    rw [h1] at hc
    obtain ⟨m0, m1, m2, m3, m4, m5, m6, m7, m8⟩ := HB.out w1 hx0
    go_wp2_with fail
    refine hc.mono ?_
    rintro e w2 ⟨rfl, hb2⟩
    have hx1 := hx0.trans (hb2.mono hx0.size)
    clear hb2
    clear hc m0 m1 m2 m3 m4 m5 m6 m7 m8
    have hc := HT.out w2 hx1
    rw [h2] at hc
    obtain ⟨m0, m1, m2, m3, m4, m5, m6, m7, m8⟩ := HB.out w2 hx1
    go_wp2_with fail
    refine hc.mono ?_
    rintro e w3 ⟨rfl, hb3⟩
    have hx2 := hx1.trans (hb3.mono hx1.size)
    clear hb3
    clear hc m0 m1 m2 m3 m4 m5 m6 m7 m8
    have h4b : (s.op == 4) = true := by simp [H4.out]
    have hpost : BoolPost (ruleB m s t) w (.returned (.bool false)) w3 := ⟨by rw [HF.out], HB0.out.trans (hx2.mono HB0.out.size)⟩
    obtain ⟨m0, m1, m2, m3, m4, m5, m6, m7, m8⟩ := HB.out w3 hx2
    clear HC HS HT HB HB0 HHS HHT HCX hx0 hx1 hx2 hb1 h0 h1 h2
    go_wp2
    go_ret
    exact hpost
  · have HF := Lib.hid (rule_in h0 h1 h2 h4)
    have h4b : (s.op == 4) = false := by simp [h4]
    have hhl := holesL_len h1
    have hhr := holesL_len h2
    go_enter Try.func48, Try.ntmps48
    have hc := HC.out (w.alloc (.cells #[.slice C m.length cc, .int .i64 s.op, .int .i64 s.num, .slice A1 s.perm.length c1, .slice B1 s.kids.length d1, .int .i64 t.op, .int .i64 t.num, .slice A2 t.perm.length c2, .slice B2 t.kids.length d2] 68)) (Below.refl _ _)
    rw [h0] at hc
    go_wp2_with fail
    refine hc.mono ?_
    rintro e w1 ⟨rfl, hb1⟩
    have hx0 := hb1
    clear hc m0 m1 m2 m3 m4 m5 m6 m7 m8
    have hc := HS.out w1 hx0
    rw [h1] at hc
    obtain ⟨m0, m1, m2, m3, m4, m5, m6, m7, m8⟩ := HB.out w1 hx0
    go_wp2_with fail
    refine hc.mono ?_
    rintro e w2 ⟨rfl, hb2⟩
    have hx1 := hx0.trans (hb2.mono hx0.size)
    clear hb2
    clear hc m0 m1 m2 m3 m4 m5 m6 m7 m8
    have hc := HT.out w2 hx1
    rw [h2] at hc
    obtain ⟨m0, m1, m2, m3, m4, m5, m6, m7, m8⟩ := HB.out w2 hx1
    go_wp2_with fail
    refine hc.mono ?_
    rintro e w3 ⟨rfl, hb3⟩
    have hx2 := hx1.trans (hb3.mono hx1.size)
    clear hb3
    clear hc m0 m1 m2 m3 m4 m5 m6 m7 m8
    have HYES := Lib.hid (rule_yes (m := m) (s := s) (t := t) h0 h1 h2 h4)
    have HO1 := Lib.hid (fun i => rule_out1 (m := m) (s := s) (t := t) (i := i))
    have HO2 := Lib.hid (fun i => rule_out2 (m := m) (s := s) (t := t) (i := i))
    clear h0 h1 h2 h4 hb1 hx0 hx1 HC HS HT
    obtain ⟨m0, m1, m2, m3, m4, m5, m6, m7, m8⟩ := HB.out w3 hx2
    have hh := HHS.out w3 hx2
    go_wp2_with fail
    refine hh.mono ?_
    rintro e w4 ⟨g0, cap0, rfl, ho4, hb4⟩
    have hx4 := hx2.trans (hb4.mono hx2.size)
    have hL := RuleK.intsAt_of ho4
    clear hh m0 m1 m2 m3 m4 m5 m6 m7 m8 hb4 ho4 hx2
    generalize holesL s = L at *
    have HIL : Hid (∀ W, Below w4.heap.size w4 W → IntsAt W (some ⟨g0, 0, none⟩) L) := Lib.hid (fun W h => hL.below h)
    clear hL
    obtain ⟨m0, m1, m2, m3, m4, m5, m6, m7, m8⟩ := HB.out w4 hx4
    go_wp2
    clear m0 m1 m2 m3 m4 m5 m6 m7 m8
    generalize (w.alloc (.cells #[.slice C m.length cc, .int .i64 s.op, .int .i64 s.num, .slice A1 s.perm.length c1, .slice B1 s.kids.length d1, .int .i64 t.op, .int .i64 t.num, .slice A2 t.perm.length c2, .slice B2 t.kids.length d2] 68)) = W0 at HB HB0 HHS HHT HCX hx4
    go_loopw [36] (fun i wr => ∃ k : Nat, k ≤ m.length ∧ i = .int .i64 k ∧ Hid (∀ j, j < k → hasB L (prAt m j).2 = true) ∧ Below w4.heap.size w4 wr) (fun i _ => m.length - (intOf i).toNat)
    case atStart => exact ⟨0, Nat.zero_le _, rfl, Lib.hid (fun j hj => absurd hj (by omega)), Below.refl _ _⟩
    case round =>
      obtain ⟨k, hk, rfl, hq, hb⟩ := hrel
      have hbx := hx4.trans (hb.mono hx4.size)
      have hsz := hb.size
      by_cases hlt : k < m.length
      · have hpa := HCX.out wr hbx
        obtain ⟨b1, o1, rfl, hb1, hc1⟩ := hpa (by omega)
        obtain ⟨c1q, c2q⟩ := hc1 k hlt
        have hno := HO1.out k hlt
        have hnx := fun hx => RuleK.next_ok (p := fun j => hasB L (prAt m j).2) hq.out hx
        clear hc1 hpa hb1
        generalize prAt m k = pr at c1q c2q hno hnx
        have hb2 := hb.alloc hb.size (.cells #[.int .i64 pr.1, .int .i64 pr.2] 123)
        have hha := l1Has_any (some ⟨g0, 0, none⟩) cap0 L pr.2 _ (HIL.out _ hb2) (by omega)
        cases hx : hasB L pr.2 with
        | false =>
          rw [hx] at hha
          have HN := Lib.hid (hno hx)
          have hbz := HB0.out.trans ((hx4.trans (hb2.mono hx4.size)).mono HB0.out.size)
          clear hno hnx hx hq
          go_wp2_with fail
          refine hha.mono ?_
          rintro e w5 ⟨rfl, rfl⟩
          have hpost : BoolPost (ruleB m s t) w (.returned (.bool false)) (wr.alloc (.cells #[.int .i64 pr.1, .int .i64 pr.2] 123)) := ⟨by rw [HN.out], hbz⟩
          clear hha c1q c2q hb hb2 hbx hbz HO1 HO2 HYES HB HB0 HHS HHT HCX HIL HF
          go_wp2
          go_ret
          exact hpost
        | true =>
          rw [hx] at hha
          have HN := Lib.hid (hnx hx)
          clear hno hnx hx hq
          go_wp2_with fail
          refine hha.mono ?_
          rintro e w5 ⟨rfl, rfl⟩
          clear hha c1q c2q hbx
          go_wp2
          refine ⟨⟨k + 1, by omega, by go_num, HN, hb2⟩, ?_⟩
          simp only [intOf]
          omega
      · have HQ := Lib.hid (fun h6 => HYES.out (fun j hj => hq.out j (by omega)) h6)
        clear hq HYES HO1 HCX
        obtain ⟨m0, m1, m2, m3, m4, m5, m6, m7, m8⟩ := HB.out wr hbx
        have hh := HHT.out wr hbx
        go_wp2_with fail
        refine hh.mono ?_
        rintro e w6 ⟨g1, cap1, rfl, ho6, hb6⟩
        have hR := RuleK.intsAt_of ho6
        have hbl := hb.trans (hb6.mono hb.size)
        have hbx6 := hbx.trans (hb6.mono hbx.size)
        clear hh m0 m1 m2 m3 m4 m5 m6 m7 m8 hb6 ho6 hbx
        generalize holesL t = R at *
        go_wp2
        go_loopw [50] (fun i wr2 => ∃ k : Nat, k ≤ R.length ∧ i = .int .i64 k ∧ Hid (∀ j, j < k → hasB L (itAt R j) = true) ∧ w6 = wr2) (fun i _ => R.length - (intOf i).toNat)
        case atStart => exact ⟨0, Nat.zero_le _, rfl, Lib.hid (fun j hj => absurd hj (by omega)), rfl⟩
        case round =>
          obtain ⟨k2, hk2, rfl, hq, rfl⟩ := hrel
          by_cases hlt2 : k2 < R.length
          · obtain ⟨b1, o1, e1, hb1, hc1⟩ := id hR (by omega)
            cases e1
            have c1q := hc1 k2 hlt2
            rw [Nat.zero_add] at c1q
            have hno := HO2.out k2 hlt2
            have hnx := fun hx => RuleK.next_ok (p := fun j => hasB L (itAt R j)) hq.out hx
            have hha := l1Has_any (some ⟨g0, 0, none⟩) cap0 L (itAt R k2) w6 (HIL.out _ hbl) (by omega)
            clear hc1 hb1
            generalize itAt R k2 = a at c1q hno hnx hha
            cases hx : hasB L a with
            | false =>
              rw [hx] at hha
              have HN := Lib.hid (hno hx)
              have hbz := HB0.out.trans (hbx6.mono HB0.out.size)
              clear hno hnx hx hq
              go_wp2_with fail
              refine hha.mono ?_
              rintro e w7 ⟨rfl, rfl⟩
              have hpost : BoolPost (ruleB m s t) w (.returned (.bool false)) w6 := ⟨by rw [HN.out], hbz⟩
              clear hha c1q hbz HQ HO2 HB HB0 HHS HHT HIL HF hR
              go_wp2
              go_ret
              exact hpost
            | true =>
              rw [hx] at hha
              have HN := Lib.hid (hnx hx)
              clear hno hnx hx hq
              go_wp2_with fail
              refine hha.mono ?_
              rintro e w7 ⟨rfl, rfl⟩
              clear hha c1q
              go_wp2
              refine ⟨⟨k2 + 1, by omega, by go_num, HN, by first | rfl | trivial⟩, ?_⟩
              simp only [intOf]
              omega
          · have HN := Lib.hid (HQ.out (fun j hj => hq.out j (by omega)))
            have hbz := HB0.out.trans (hbx6.mono HB0.out.size)
            have hpost : BoolPost (ruleB m s t) w (.returned (.bool true)) w6 := ⟨by rw [HN.out], hbz⟩
            clear hq HQ hbz HN HO2 HB HB0 HHS HHT HIL HF hR
            go_wp2
            go_ret
            exact hpost
end Go.Proofs.Ytnomidnjglbedaa
end

section
namespace Go.Proofs.Ytnomidnjglbedaa
open Go.RowKit Go.Sort
set_option linter.unusedVariables false

def ruleR (r : RRule) : Bool := ruleB r.f0 r.f1 r.f2
def ruleAll (rs : List RRule) : Bool := (List.range rs.length).all fun i => ruleR (atRRule rs i)
/-- A list of rules. -/
def rulesB (rs : List RRule) : Bool := ruleAll rs && decide (rs.length ≤ 6)
theorem ruleAll_no {rs : List RRule} {i : Nat} (hi : i < rs.length) (h : ruleR (atRRule rs i) = false) : ruleAll rs = false := by
  unfold ruleAll
  rw [List.all_eq_false]
  exact ⟨i, List.mem_range.2 hi, by simp [h]⟩
theorem ruleAll_yes {rs : List RRule} (h : ∀ k, k < rs.length → ruleR (atRRule rs k) = true) : ruleAll rs = true := by
  unfold ruleAll
  rw [List.all_eq_true]
  exact fun x hx => h x (List.mem_range.1 hx)
theorem rules_no {rs : List RRule} (h : ruleAll rs = false) : rulesB rs = false := by simp [rulesB, h]
theorem isRule_implR (r : RRule) (v : Value) (w : World) (hv : RRuleIn w v r) (hc : cntRRule r ≤ 1048576) : Calls Try.prog 50 #[v] w (BoolPost (ruleR r) w) := by
  unfold cntRRule at hc
  obtain ⟨A0, c0, A1, c1, B1, d1, A2, c2, B2, d2, rfl, h0, h1, h2⟩ := hv
  exact isRule_impl r.f0 r.f1 r.f2 (by omega) (by omega) (by omega) _ w ⟨A0, c0, A1, c1, B1, d1, A2, c2, B2, d2, rfl, h0, h1, h2⟩
theorem isRule_specR (r : RRule) (v : Value) (w : World) (hv : RRuleIn w v r) (hc : cntRRule r ≤ 1048576) : Calls Try.prog 48 #[v] w (BoolPost (ruleR r) w) := by
  unfold cntRRule at hc
  obtain ⟨A0, c0, A1, c1, B1, d1, A2, c2, B2, d2, rfl, h0, h1, h2⟩ := hv
  exact isRule_spec r.f0 r.f1 r.f2 (by omega) (by omega) (by omega) _ w ⟨A0, c0, A1, c1, B1, d1, A2, c2, B2, d2, rfl, h0, h1, h2⟩

set_option maxRecDepth 100000 in
set_option maxHeartbeats 2000000 in
/-- The function literal: whether a value is no rule. -/
theorem noRule_any (r : RRule) (v : Value) (w : World) (hv : RRuleIn w v r) (hc : cntRRule r ≤ 1048576) : Calls Try.prog 101 #[v] w (BoolPost (!ruleR r) w) := by
  have HV := Lib.hid hv
  obtain ⟨A0, c0, A1, c1, B1, d1, A2, c2, B2, d2, rfl, h0, h1, h2⟩ := hv
  have hb0 : Below w.heap.size w (w.alloc (.cells #[.slice A0 r.f0.length c0, .int .i64 r.f1.op, .int .i64 r.f1.num, .slice A1 r.f1.perm.length c1, .slice B1 r.f1.kids.length d1, .int .i64 r.f2.op, .int .i64 r.f2.num, .slice A2 r.f2.perm.length c2, .slice B2 r.f2.kids.length d2] 68)) := (Below.refl _ _).alloc (Nat.le_refl _) _
  have hi := isRule_implR r _ _ (HV.out.below hb0) hc
  obtain ⟨m0, m1, m2, m3, m4, m5, m6, m7, m8⟩ := RuleK.row9 (heap_alloc_new w (.cells #[.slice A0 r.f0.length c0, .int .i64 r.f1.op, .int .i64 r.f1.num, .slice A1 r.f1.perm.length c1, .slice B1 r.f1.kids.length d1, .int .i64 r.f2.op, .int .i64 r.f2.num, .slice A2 r.f2.perm.length c2, .slice B2 r.f2.kids.length d2] 68))
  generalize ruleR r = q at hi ⊢
  clear h0 h1 h2 HV hc
  go_enter Try.func101, Try.ntmps101
  go_wp2_with fail
  refine hi.mono ?_
  rintro e w2 ⟨rfl, hb2⟩
  have hpost := hb0.trans (hb2.mono hb0.size)
  clear hi m0 m1 m2 m3 m4 m5 m6 m7 m8 hb0 hb2
  go_wp2
  go_ret
  exact ⟨rfl, hpost⟩

set_option maxRecDepth 100000 in
set_option maxHeartbeats 2000000 in
theorem indexNoRule_any (rs : List RRule) (x : Value) (w : World) (hx : RRulesIn w x rs) (hl : rs.length ≤ 1048576) (hcn : ∀ k, k < rs.length → cntRRule (atRRule rs k) ≤ 1048576) :
    Calls Try.prog 126 #[x, .func (.func 101) #[] #[]] w
      fun e w' => (∃ i : Int, e = .returned (.int .i64 i) ∧ ((0 ≤ i ∧ ruleAll rs = false) ∨ (i < 0 ∧ ruleAll rs = true))) ∧ Below w.heap.size w w' := by
  obtain ⟨C, cc, rfl, hg⟩ := hx
  go_enter Try.func126, Try.ntmps126
  go_wp2
  go_loopw [5, 8] (fun _ i wr => ∃ k : Nat, k ≤ rs.length ∧ i = .int .i64 k ∧ Hid (∀ j, j < k → ruleR (atRRule rs j) = true) ∧ Below w.heap.size w wr) (fun _ i _ => rs.length - (intOf i).toNat)
  case atStart => exact ⟨0, Nat.zero_le _, rfl, Lib.hid (fun j hj => absurd hj (by omega)), Below.refl _ _⟩
  case round =>
    obtain ⟨k, hk, rfl, hn, hb⟩ := hrel
    by_cases hlt : k < rs.length
    · obtain ⟨b1, o1, rfl, hb1, hget⟩ := hg (by omega)
      obtain ⟨A0, c0, A1, c1, B1, d1, A2, c2, B2, d2, e0, e1, e2, e3, e4, e5, e6, e7, e8, h0, h1, h2⟩ := (hget k hlt).below hb1 hb
      have hcall := noRule_any (atRRule rs k) _ wr ⟨A0, c0, A1, c1, B1, d1, A2, c2, B2, d2, rfl, h0, h1, h2⟩ (hcn k hlt)
      by_cases hq : ruleR (atRRule rs k) = true
      · rw [hq] at hcall
        have hn2 := Lib.hid (RuleK.next_ok (p := fun j => ruleR (atRRule rs j)) hn.out hq)
        clear hget hg hcn hn hq h0 h1 h2
        generalize atRRule rs k = r at *
        go_wp2_with (go_at_call 101; refine hcall.mono ?_; rintro e w2 ⟨rfl, hb2⟩)
        have hb3 := hb.trans (hb2.mono hb.size)
        clear hcall e0 e1 e2 e3 e4 e5 e6 e7 e8
        refine ⟨⟨k + 1, by omega, by go_num, hn2, hb3⟩, ?_⟩
        simp only [intOf]
        omega
      · have hq' : ruleR (atRRule rs k) = false := by simpa using hq
        rw [hq'] at hcall
        have hn2 : Hid (ruleAll rs = false) := Lib.hid (ruleAll_no hlt hq')
        clear hget hg hcn hn hq hq' h0 h1 h2
        generalize atRRule rs k = r at *
        go_wp2_with (go_at_call 101; refine hcall.mono ?_; rintro e w2 ⟨rfl, hb2⟩)
        have hb3 := hb.trans (hb2.mono hb.size)
        clear hcall e0 e1 e2 e3 e4 e5 e6 e7 e8
        go_ret
        exact ⟨⟨_, rfl, Or.inl ⟨by omega, hn2.out⟩⟩, hb3⟩
    · have hn2 : Hid (ruleAll rs = true) := Lib.hid (ruleAll_yes fun j hj => hn.out j (by omega))
      clear hg hcn hn
      go_wp2
      go_ret
      exact ⟨⟨_, rfl, Or.inr ⟨by decide, hn2.out⟩⟩, hb⟩

theorem containsNoRule_any (rs : List RRule) (x : Value) (w : World) (hx : RRulesIn w x rs) (hl : rs.length ≤ 1048576) (hcn : ∀ k, k < rs.length → cntRRule (atRRule rs k) ≤ 1048576) :
    Calls Try.prog 100 #[x, .func (.func 101) #[] #[]] w (BoolPost (!ruleAll rs) w) := by
  have hi := indexNoRule_any rs x w hx hl hcn
  clear hx hcn
  generalize ruleAll rs = r at hi ⊢
  go_enter Try.func100, Try.ntmps100
  go_wp2_with fail
  refine hi.mono ?_
  rintro e w2 ⟨⟨i, rfl, h⟩, hb⟩
  clear hi
  rcases h with ⟨h, rfl⟩ | ⟨h, rfl⟩
  · go_wp2
    go_ret
    exact ⟨rfl, hb⟩
  · have h' : ¬ 0 ≤ i := by omega
    go_wp2
    go_ret
    exact ⟨bool_end (by first | rfl | (simp; omega)), hb⟩

set_option maxRecDepth 100000 in
set_option maxHeartbeats 2000000 in
theorem areRules_impl (rs : List RRule) (x : Value) (w : World) (hx : RRulesIn w x rs) (hl : rs.length ≤ 1048576) (hcn : ∀ k, k < rs.length → cntRRule (atRRule rs k) ≤ 1048576) : Calls Try.prog 55 #[x] w (BoolPost (rulesB rs) w) := by
  have hcc := containsNoRule_any rs x w hx hl hcn
  obtain ⟨C, cc, rfl, hg⟩ := hx
  clear hg hcn
  by_cases h6 : rs.length ≤ 6
  · have k0 : (rs.length : Int) ≤ 6 := by omega
    have HE := Lib.hid (show rulesB rs = ruleAll rs by simp [rulesB, h6])
    generalize rulesB rs = z at *
    generalize ruleAll rs = r at *
    go_enter Try.func55, Try.ntmps55
    go_wp2_with fail
    refine hcc.mono ?_
    rintro e w2 ⟨rfl, hb⟩
    clear hcc
    go_wp2
    go_ret
    exact ⟨by rw [HE.out]; first | rfl | simp, hb⟩
  · have k0 : ¬ (rs.length : Int) ≤ 6 := by omega
    have hpost : BoolPost (rulesB rs) w (.returned (.bool false)) w := ⟨by simp [rulesB, h6], Below.refl _ _⟩
    clear hcc h6
    go_enter Try.func55, Try.ntmps55
    go_wp2
    go_ret
    exact hpost

set_option maxRecDepth 100000 in
set_option maxHeartbeats 4000000 in
theorem areRules_spec (rs : List RRule) (x : Value) (w : World) (hx : RRulesIn w x rs) (hl : rs.length ≤ 1048576) (hcn : ∀ k, k < rs.length → cntRRule (atRRule rs k) ≤ 1048576) : Calls Try.prog 53 #[x] w (BoolPost (rulesB rs) w) := by
  obtain ⟨C, cc, rfl, hg⟩ := hx
  go_enter Try.func53, Try.ntmps53
  go_wp2
  go_loopw [7] (fun i wr => ∃ k : Nat, k ≤ rs.length ∧ i = .int .i64 k ∧ Hid (∀ j, j < k → ruleR (atRRule rs j) = true) ∧ Below w.heap.size w wr) (fun i _ => rs.length - (intOf i).toNat)
  case atStart => exact ⟨0, Nat.zero_le _, rfl, Lib.hid (fun j hj => absurd hj (by omega)), Below.refl _ _⟩
  case round =>
    obtain ⟨k, hk, rfl, hn, hb⟩ := hrel
    by_cases hlt : k < rs.length
    · obtain ⟨b1, o1, rfl, hb1, hget⟩ := hg (by omega)
      obtain ⟨A0, c0, A1, c1, B1, d1, A2, c2, B2, d2, e0, e1, e2, e3, e4, e5, e6, e7, e8, h0, h1, h2⟩ := (hget k hlt).below hb1 hb
      have hc := hcn k hlt
      have hno := fun h => ruleAll_no (rs := rs) hlt h
      have hnx := fun h => RuleK.next_ok (p := fun j => ruleR (atRRule rs j)) hn.out h
      clear hget hg hcn hn
      have hbs := hb.size
      generalize atRRule rs k = r at *
      have hbx : Below wr.heap.size wr (wr.alloc (.cells #[.slice A0 r.f0.length c0, .int .i64 r.f1.op, .int .i64 r.f1.num, .slice A1 r.f1.perm.length c1, .slice B1 r.f1.kids.length d1, .int .i64 r.f2.op, .int .i64 r.f2.num, .slice A2 r.f2.perm.length c2, .slice B2 r.f2.kids.length d2] 68)) := (Below.refl _ _).alloc (Nat.le_refl _) _
      have hi := isRule_specR r _ (wr.alloc (.cells #[.slice A0 r.f0.length c0, .int .i64 r.f1.op, .int .i64 r.f1.num, .slice A1 r.f1.perm.length c1, .slice B1 r.f1.kids.length d1, .int .i64 r.f2.op, .int .i64 r.f2.num, .slice A2 r.f2.perm.length c2, .slice B2 r.f2.kids.length d2] 68)) ⟨A0, c0, A1, c1, B1, d1, A2, c2, B2, d2, rfl, h0.below hbx, h1.below hbx, h2.below hbx⟩ hc
      obtain ⟨m0, m1, m2, m3, m4, m5, m6, m7, m8⟩ := RuleK.row9 (heap_alloc_new wr (.cells #[.slice A0 r.f0.length c0, .int .i64 r.f1.op, .int .i64 r.f1.num, .slice A1 r.f1.perm.length c1, .slice B1 r.f1.kids.length d1, .int .i64 r.f2.op, .int .i64 r.f2.num, .slice A2 r.f2.perm.length c2, .slice B2 r.f2.kids.length d2] 68))
      have hbX := hb.trans (hbx.mono hb.size)
      cases hq : ruleR r with
      | false =>
        rw [hq] at hi
        have HN := Lib.hid (rules_no (hno hq))
        clear hno hnx hq h0 h1 h2 hbx hc
        go_wp2_with fail
        refine hi.mono ?_
        rintro e w2 ⟨rfl, hb2⟩
        have hpost : BoolPost (rulesB rs) w (.returned (.bool false)) w2 := ⟨by rw [HN.out], hbX.trans (hb2.mono hbX.size)⟩
        clear hi m0 m1 m2 m3 m4 m5 m6 m7 m8 e0 e1 e2 e3 e4 e5 e6 e7 e8 hb2 hbX hb
        go_wp2
        go_ret
        exact hpost
      | true =>
        rw [hq] at hi
        have HN := Lib.hid (hnx hq)
        clear hno hnx hq h0 h1 h2 hbx hc
        go_wp2_with fail
        refine hi.mono ?_
        rintro e w2 ⟨rfl, hb2⟩
        have hb3 := hbX.trans (hb2.mono hbX.size)
        clear hi m0 m1 m2 m3 m4 m5 m6 m7 m8 e0 e1 e2 e3 e4 e5 e6 e7 e8 hb2 hbX hb
        go_wp2
        refine ⟨⟨k + 1, by omega, by go_num, HN, hb3⟩, ?_⟩
        simp only [intOf]
        omega
    · have hr : Hid (ruleAll rs = true) := Lib.hid (ruleAll_yes fun j hj => hn.out j (by omega))
      have hpost : BoolPost (rulesB rs) w (.returned (.bool (decide ((rs.length : Int) ≤ 6)))) wr := ⟨by unfold rulesB; rw [hr.out, Bool.true_and]; congr 2; exact decide_eq_decide.2 (by omega), hb⟩
      clear hg hcn hr hb hn
      go_wp2
      go_ret
      exact hpost
end Go.Proofs.Ytnomidnjglbedaa
end

