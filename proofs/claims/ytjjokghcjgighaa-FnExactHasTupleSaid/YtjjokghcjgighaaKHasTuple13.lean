/-
  HasTuple in the program, as a contract.
-/
import Derived.Test.YtjjokghcjgighaaKHasTuple12
namespace Go.Proofs.Ytjjokghcjgighaa
open Go.RowKit Go.Sort
set_option linter.unusedVariables false

def hasTB (z : Int) (l : List Int) (m : List (List Int)) (t : List Int) : Bool := orbB z l m && (tupB t && thereB m (patL l t))
theorem hasT_no1 {z : Int} {l : List Int} {m : List (List Int)} {t : List Int} (h : orbB z l m = false) : hasTB z l m t = false := by simp [hasTB, h]
theorem hasT_no2 {z : Int} {l : List Int} {m : List (List Int)} {t : List Int} (h : tupB t = false) : hasTB z l m t = false := by simp [hasTB, h]
theorem hasT_is {z : Int} {l : List Int} {m : List (List Int)} {t : List Int} (h : orbB z l m = true) (h1 : tupB t = true) : hasTB z l m t = thereB m (patL l t) := by simp [hasTB, h, h1]
theorem orb_const {z : Int} {l : List Int} {m : List (List Int)} (h : orbB z l m = true) : constB l = true := by
  unfold orbB at h
  simp only [Bool.and_eq_true] at h
  exact h.2.1

set_option maxRecDepth 100000 in
set_option maxHeartbeats 2000000 in
theorem equalI_any (A B : Option Addr) (c d : Nat) (a b : List Int) (w : World) (hA : IntsAt w A a) (hB : IntsAt w B b) (hla : a.length ≤ 1099511627776) (hlb : b.length ≤ 1099511627776) :
    Calls Try.prog 53 #[.slice A a.length c, .slice B b.length d] w (BoolP (decide (a = b)) w) := by
  by_cases hl : a.length = b.length
  · have hl0 : ((a.length : Int) != (b.length : Int)) = false := by simp [hl]
    have HL := Lib.hid hl
    clear hl
    go_enter Try.func53, Try.ntmps53
    go_wp2
    go_loopw [5, 13] (fun _ i wr => ∃ j : Nat, j ≤ a.length ∧ i = .int .i64 j ∧ Hid (∀ q, q < j → itAt a q = itAt b q) ∧ Below w.heap.size w wr) (fun _ i _ => a.length - (intOf i).toNat)
    case atStart => exact ⟨0, Nat.zero_le _, rfl, fun q hq => absurd hq (by omega), Below.refl _ _⟩
    case round =>
      obtain ⟨j, hj, rfl, hq, hb⟩ := hrel
      by_cases hlt : j < a.length
      · obtain ⟨b1, o1, rfl, hb1, hc1⟩ := hA (by omega)
        obtain ⟨b2, o2, rfl, hb2, hc2⟩ := hB (by have := HL.out; omega)
        have hltb : j < b.length := by have := HL.out; omega
        have c1 := hc1 j hlt
        have c2 := hc2 j hltb
        rw [← hb.cell (p := ⟨b1, _, none⟩) hb1] at c1
        rw [← hb.cell (p := ⟨b2, _, none⟩) hb2] at c2
        have q1 := fun d os => cell_regrown c1 d os
        have q2 := fun d os => cell_regrown c2 d os
        have hno := Lib.hid (fun (h : ¬ itAt a j = itAt b j) => idiffer_at (xs := a) (ys := b) j h)
        have hok := Lib.hid (fun (h : itAt a j = itAt b j) (q : Nat) (hq2 : q < j + 1) => (by
          by_cases e : q = j
          · subst e; exact h
          · exact hq.out q (by omega) : itAt a q = itAt b q))
        generalize itAt a j = x at q1 hno hok
        generalize itAt b j = y at q2 hno hok
        clear hc1 hc2 hA hB hq c1 c2
        by_cases hxy : x = y
        · have hn := Lib.hid (hok.out hxy)
          have he : (x != y) = false := by simp [hxy]
          clear hno hok hxy
          go_wp2
          refine wp_region_quiet_below (by kernel_rfl) (by kernel_rfl) ?_
          repeat (any_goals (first | go_big_quiet_step (fail) | quiet_step (fail)))
          refine wpQuiet_nil ?_
          intro _ hw'
          obtain ⟨⟨dq, osq⟩, hw''⟩ := hw'
          subst hw''
          have hb3 := hb.trans ((below_regrown wr dq osq).mono hb.size)
          generalize grow (redrawn wr dq) osq = w2 at hb3 ⊢
          clear hb q1 q2
          go_wp2
          refine ⟨⟨j + 1, by omega, by go_num, hn, hb3⟩, ?_⟩
          simp only [intOf]
          omega
        · have hn := Lib.hid (hno.out hxy)
          have he : (x != y) = true := by simp [hxy]
          clear hno hok hxy
          go_wp2
          refine wp_region_quiet_below (by kernel_rfl) (by kernel_rfl) ?_
          repeat (any_goals (first | go_big_quiet_step (fail) | quiet_step (fail)))
          refine wpQuiet_nil ?_
          intro _ hw'
          obtain ⟨⟨dq, osq⟩, hw''⟩ := hw'
          subst hw''
          have hb3 := hb.trans ((below_regrown wr dq osq).mono hb.size)
          generalize grow (redrawn wr dq) osq = w2 at hb3 ⊢
          clear hb q1 q2
          go_wp2
          go_ret
          exact ⟨bool_end hn.out.symm, hb3⟩
      · have hn : Hid (decide (a = b) = true) := Lib.hid (by
          rw [decide_eq_true_eq]
          refine List.ext_getElem HL.out fun i h1 h2 => ?_
          have h3 := hq.out i (by omega)
          rwa [itAt_get _ _ h1, itAt_get _ _ h2] at h3)
        clear hq hA hB
        go_wp2
        go_ret
        exact ⟨bool_end hn.out.symm, hb⟩
  · have hl0 : ((a.length : Int) != (b.length : Int)) = true := by simp; omega
    have hn : Hid (decide (a = b) = false) := Lib.hid (decide_eq_false (fun e => hl (by rw [e])))
    clear hA hB hl
    go_enter Try.func53, Try.ntmps53
    go_wp2
    go_ret
    exact ⟨bool_end hn.out.symm, Below.refl _ _⟩

theorem isTheRow_any (A B : Option Addr) (c d V : Nat) (p q : List Int) (w : World) (hA : IntsAt w A p) (hV : w.cell? ⟨V, 0, none⟩ = some (.slice B q.length d)) (hB : IntsAt w B q) (hp : p.length ≤ 1099511627776) (hq : q.length ≤ 1099511627776) :
    Calls Try.prog 52 #[.slice A p.length c, .pointer (some ⟨V, 0, none⟩)] w (BoolP (decide (p = q)) w) := by
  have hc := equalI_any A B c d p q w hA hB hp hq
  clear hA hB
  generalize decide (p = q) = r at hc ⊢
  generalize p.length = pl at hc ⊢
  generalize q.length = ql at hc hV ⊢
  go_enter Try.func52, Try.ntmps52
  go_wp2_with (go_at_call 53; refine hc.mono ?_; rintro e w2 ⟨rfl, hb⟩)
  clear hc
  go_ret
  exact ⟨rfl, hb⟩

set_option maxRecDepth 100000 in
set_option maxHeartbeats 2000000 in
theorem indexRow_any (A B : Option Addr) (c d V : Nat) (ls : List (List Int)) (q : List Int) (w : World) (hA : RowsIn w (.slice A ls.length c) ls) (hV : w.cell? ⟨V, 0, none⟩ = some (.slice B q.length d)) (hB : IntsAt w B q) (hf : FitR ls) (hq : q.length ≤ 1099511627776) :
    Calls Try.prog 72 #[.slice A ls.length c, .func (.func 52) #[] #[.pointer (some ⟨V, 0, none⟩)]] w
      fun e w' => (∃ i : Int, e = .returned (.int .i64 i) ∧ ((0 ≤ i ∧ thereB ls q = true) ∨ (i < 0 ∧ thereB ls q = false))) ∧ Below w.heap.size w w' := by
  obtain ⟨hll, hrl⟩ := hf
  have hVl : V < w.heap.size := block_lt_of_cell hV
  go_enter Try.func72, Try.ntmps72
  go_wp2
  go_loopw [5, 8] (fun _ i wr => ∃ k : Nat, k ≤ ls.length ∧ i = .int .i64 k ∧ Hid (∀ j, j < k → ¬ rwAt ls j = q) ∧ Below w.heap.size w wr) (fun _ i _ => ls.length - (intOf i).toNat)
  case atStart => exact ⟨0, Nat.zero_le _, rfl, Lib.hid (fun j hj => absurd hj (by omega)), Below.refl _ _⟩
  case round =>
    obtain ⟨k, hk, rfl, hn, hb⟩ := hrel
    by_cases hlt : k < ls.length
    · obtain ⟨b1, o1, rfl, hb1, hc1⟩ := (hA.below hb).get (by omega)
      obtain ⟨A1, c1, d1, hA1⟩ := hc1 k hlt
      have hV2 := (hb.cell (p := ⟨V, 0, none⟩) hVl).trans hV
      have hcall := isTheRow_any A1 B c1 d V (rwAt ls k) q wr hA1 hV2 (hB.below hb) (by have := hrl k hlt; omega) hq
      have hno := Lib.hid (fun (h : ¬ rwAt ls k = q) (j : Nat) (hj2 : j < k + 1) => (by
        by_cases e : j = k
        · subst e; exact h
        · exact hn.out j (by omega) : ¬ rwAt ls j = q))
      have hyes := Lib.hid (fun (h : rwAt ls k = q) => there_yes hlt h)
      by_cases hx : rwAt ls k = q
      · have hn2 := Lib.hid (hyes.out hx)
        rw [decide_eq_true hx] at hcall
        clear hc1 hA hn hno hyes hx hA1 hV hV2 hB
        generalize (rwAt ls k).length = rl at *
        go_wp2_with (go_at_call 52; refine hcall.mono ?_; rintro e w2 ⟨rfl, hb2⟩; have hb3 := hb.trans (hb2.mono hb.size))
        clear hcall d1 hb hb2
        go_ret
        exact ⟨⟨_, rfl, Or.inl ⟨by omega, hn2.out⟩⟩, hb3⟩
      · have hn2 := Lib.hid (hno.out hx)
        rw [decide_eq_false hx] at hcall
        clear hc1 hA hn hno hyes hx hA1 hV hV2 hB
        generalize (rwAt ls k).length = rl at *
        go_wp2_with (go_at_call 52; refine hcall.mono ?_; rintro e w2 ⟨rfl, hb2⟩; have hb3 := hb.trans (hb2.mono hb.size))
        clear hcall d1 hb hb2
        refine ⟨⟨k + 1, by omega, by go_num, hn2, hb3⟩, ?_⟩
        simp only [intOf]
        omega
    · have hn2 := Lib.hid (there_no (ls := ls) (p := q) fun j hj => hn.out j (by omega))
      clear hn hA hV hB
      go_wp2
      go_ret
      exact ⟨⟨_, rfl, Or.inr ⟨by decide, hn2.out⟩⟩, hb⟩

theorem containsRow_any (A B : Option Addr) (c d V : Nat) (ls : List (List Int)) (q : List Int) (w : World) (hA : RowsIn w (.slice A ls.length c) ls) (hV : w.cell? ⟨V, 0, none⟩ = some (.slice B q.length d)) (hB : IntsAt w B q) (hf : FitR ls) (hq : q.length ≤ 1099511627776) :
    Calls Try.prog 51 #[.slice A ls.length c, .func (.func 52) #[] #[.pointer (some ⟨V, 0, none⟩)]] w (BoolP (thereB ls q) w) := by
  have hi := indexRow_any A B c d V ls q w hA hV hB hf hq
  clear hA hV hB hf
  generalize thereB ls q = r at hi ⊢
  generalize ls.length = n at hi ⊢
  go_enter Try.func51, Try.ntmps51
  go_wp2_with fail
  refine hi.mono ?_
  rintro e w2 ⟨⟨i, rfl, h⟩, hb⟩
  clear hi
  rcases h with ⟨h, rfl⟩ | ⟨h, rfl⟩
  · go_wp2
    go_ret
    exact ⟨rfl, hb⟩
  · have h' : ¬ 0 ≤ i := by omega
    go_wp2
    go_ret
    exact ⟨bool_end (by first | rfl | (simp; omega)), hb⟩

set_option maxRecDepth 100000 in
set_option maxHeartbeats 4000000 in
theorem hasTuple_impl (z : Int) (l : List Int) (m : List (List Int)) (t : List Int) (hf : FitO l m) (C : Option Addr) (cc : Nat) (x : Value) (w : World) (hx : OrbIx w x z l m) (hC : IntsAt w C t) (htl : t.length ≤ 1048576) :
    Calls Try.prog 21 #[x, .slice C t.length cc] w (BoolP (hasTB z l m t) w) := by
  have hX := hx
  obtain ⟨A, c, B, d, rfl, hl, hmr, hm⟩ := hx
  have hb0 : Below w.heap.size w (w.alloc (.cells #[.int .i64 z, .slice A l.length c, .slice B m.length d] 33)) := (Below.refl _ _).alloc (Nat.le_refl _) _
  have k0 := heap_alloc_new w (.cells #[.int .i64 z, .slice A l.length c, .slice B m.length d] 33)
  obtain ⟨m0, m1, m2⟩ := OrbK.row3 k0
  have hio := isOrbitSet_impl z l m hf _ _ (hX.below hb0)
  have HB0 := Lib.hid hb0
  have HK0 := Lib.hid k0
  cases ho : orbB z l m with
  | false =>
    have hn := Lib.hid (hasT_no1 (t := t) ho)
    rw [ho] at hio
    clear hl hmr hm k0 hX hC
    go_enter Try.func21, Try.ntmps21
    go_wp2_with (go_at_call 18; refine hio.mono ?_; rintro e w2 ⟨rfl, hb2⟩; have hb3 := HB0.out.trans (hb2.mono HB0.out.size))
    clear hio hb2 m0 m1 m2 hb0
    go_ret
    exact ⟨bool_end hn.out.symm, hb3⟩
  | true =>
    rw [ho] at hio
    have hit := fun W (h : Below w.heap.size w W) => isTuple_any C cc t W (hC.below h) (by omega)
    have hk3 := const_len (orb_const ho)
    cases ht : tupB t with
    | false =>
      have hn := Lib.hid (hasT_no2 (z := z) (l := l) (m := m) ht)
      rw [ht] at hit
      clear hl hmr hm k0 hX hC
      go_enter Try.func21, Try.ntmps21
      go_wp2_with (first
        | (go_at_call 18; refine hio.mono ?_; rintro e w2 ⟨rfl, hb2⟩; have hb3 := HB0.out.trans (hb2.mono HB0.out.size))
        | (go_at_call 39; refine (hit _ hb3).mono ?_; rintro e w3 ⟨rfl, hb4⟩; have hb5 := hb3.trans (hb4.mono hb3.size)))
      clear hio hit hb2 m0 m1 m2 hb0 hb3 hb4
      go_ret
      exact ⟨bool_end hn.out.symm, hb5⟩
    | true =>
      have hn := Lib.hid (hasT_is ho ht)
      rw [ht] at hit
      have hpa := fun W (h : Below w.heap.size w W) => patternIn_any A C c cc l t W (hl.1.below h) (hC.below h) (by omega) htl
      have hrm := Lib.hid (fun W (h : Below w.heap.size w W) => hmr.below h)
      have hpl := patL_len l t
      have hplb : (patL l t).length ≤ 1048576 := by omega
      have hfm := Lib.hid hf.2
      clear hl hmr hm k0 hX hC ho ht hpl
      generalize patL l t = q at hpa hn hplb
      go_enter Try.func21, Try.ntmps21
      go_wp2_with (first
        | (go_at_call 18; refine hio.mono ?_; rintro e w2 ⟨rfl, hb2⟩; have hb3 := HB0.out.trans (hb2.mono HB0.out.size))
        | (go_at_call 39; refine (hit _ hb3).mono ?_; rintro e w3 ⟨rfl, hb4⟩; have hb5 := hb3.trans (hb4.mono hb3.size); have hb9 := hb2.trans (hb4.mono hb2.size); have k2 := (hb9.block _ (OrbK.box_lt HK0.out)).trans HK0.out; clear m0 m1 m2; obtain ⟨m0, m1, m2⟩ := OrbK.row3 k2)
        | (go_at_call 40; refine (hpa _ hb5).mono ?_; rintro e w5 ⟨v5, rfl, ho5, hb6⟩; obtain ⟨A7, c7, rfl, hA7⟩ := own_intsAt ho5; have hb7 := hb5.trans (hb6.mono hb5.size); have hb10 := hb9.trans (hb6.mono hb9.size); have k5 := (hb10.block _ (OrbK.box_lt HK0.out)).trans HK0.out; clear m0 m1 m2; obtain ⟨m0, m1, m2⟩ := OrbK.row3 k5; have hlt := OrbK.box_lt k5; have hbv : Below w5.heap.size w5 (w5.alloc (.cells #[.slice A7 q.length c7] 22)) := (Below.refl _ _).alloc (Nat.le_refl _) _; have hvv : (w5.alloc (.cells #[.slice A7 q.length c7] 22)).cell? ⟨w5.heap.size, 0, none⟩ = some (.slice A7 q.length c7) := (by rw [cell_of_row _ w5.heap.size 0 _ _ _ (heap_alloc_new w5 _)]; rfl); have hb11 := hb7.trans (hbv.mono hb7.size); have hcf := containsRow_any B A7 d c7 w5.heap.size m q (w5.alloc (.cells #[.slice A7 q.length c7] 22)) (hrm.out _ hb11) hvv (hA7.below hbv) hfm.out (by omega); clear hvv hbv)
        | (go_at_call 51; refine hcf.mono ?_; rintro e w9 ⟨rfl, hb12⟩; have hb13 := hb11.trans (hb12.mono hb11.size)))
      clear hio hit hpa hcf m0 m1 m2 hb0 hb2 hb3 hb4 hb5 hb6 hb7 hb9 hb10 hb11 hb12 k2 k5 ho5 hA7
      go_ret
      exact ⟨bool_end hn.out.symm, hb13⟩
end Go.Proofs.Ytjjokghcjgighaa
