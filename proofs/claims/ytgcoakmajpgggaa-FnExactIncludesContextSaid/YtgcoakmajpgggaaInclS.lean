/-
  IncludesContext in the model, as a contract.
-/
import Derived.Test.YtgcoakmajpgggaaInclP
import Derived.Test.YtgcoakmajpgggaaCtxS
namespace Go.Proofs.Ytgcoakmajpgggaa
open Go.RowKit Go.Sort
set_option linter.unusedVariables false

theorem hasF_yes {S : List (Int × Int)} {k : Nat} (h : k < S.length) : hasF S (prAt S k) = true := by
  simp [hasF, prAt, h]

theorem hasF_no {S : List (Int × Int)} {x : Int × Int} (h : ∀ j, j < S.length → prAt S j ≠ x) : hasF S x = false := by
  simp only [hasF, decide_eq_false_iff_not]
  intro hm
  obtain ⟨j, hj, e⟩ := List.getElem_of_mem hm
  exact h j hj (by simp [prAt, hj, e])

set_option maxRecDepth 100000 in
set_option maxHeartbeats 1000000 in
theorem l3Has_any (A : Option Addr) (c : Nat) (l : List (Int × Int)) (x : Int × Int) (w : World) (hA : PairsAt w A l) (hl : l.length ≤ 1099511627776) :
    Calls Try.prog 134 #[.slice A l.length c, .agg #[.int .i64 x.1, .int .i64 x.2]] w fun e w' => e = .returned (.bool (hasF l x)) ∧ Below w.heap.size w w' := by
  have hb0 : Below w.heap.size w (w.alloc (.cells #[.int .i64 x.1, .int .i64 x.2] 85)) := (Below.refl _ _).alloc (Nat.le_refl _) _
  have hx0 : (w.alloc (.cells #[.int .i64 x.1, .int .i64 x.2] 85)).cell? ⟨w.heap.size, 0, none⟩ = some (.int .i64 x.1) := by simp
  have hx1 : (w.alloc (.cells #[.int .i64 x.1, .int .i64 x.2] 85)).cell? ⟨w.heap.size, 1, none⟩ = some (.int .i64 x.2) := by simp
  have hsz : w.heap.size < (w.alloc (.cells #[.int .i64 x.1, .int .i64 x.2] 85)).heap.size := by simp
  go_enter Try.func134, Try.ntmps134
  go_wp2
  generalize (w.alloc (.cells #[.int .i64 x.1, .int .i64 x.2] 85)) = w0 at hb0 hx0 hx1 hsz ⊢
  have hA0 := hA.below hb0
  clear hA
  go_loopw [9] (fun i wr => ∃ k : Nat, k ≤ l.length ∧ i = .int .i64 k ∧ Hid (∀ j, j < k → prAt l j ≠ x) ∧ Below w.heap.size w wr ∧ Below w0.heap.size w0 wr) (fun i _ => l.length - (intOf i).toNat)
  case atStart => exact ⟨0, Nat.zero_le _, rfl, fun j hj => absurd hj (by omega), hb0, Below.refl _ _⟩
  case round =>
    obtain ⟨k, hk, rfl, hq, hb, hbb⟩ := hrel
    by_cases hlt : k < l.length
    · obtain ⟨b1, o1, rfl, hb1, hc1⟩ := hA0 (by omega)
      obtain ⟨c1, c2⟩ := hc1 k hlt
      rw [← hbb.cell (p := ⟨b1, _, none⟩) hb1] at c1 c2
      rw [← hbb.cell (p := ⟨w.heap.size, _, none⟩) hsz] at hx0 hx1
      have hlw : w.heap.size < wr.heap.size := Nat.lt_of_lt_of_le hsz hbb.size
      clear hc1 hA0
      by_cases he : prAt l k = x
      · have hn : Hid (hasF l x = true) := by show hasF l x = true; rw [← he]; exact hasF_yes hlt
        rw [he] at c1 c2
        have hbW : Below w.heap.size w (wr.alloc (.cells #[.int .i64 x.1, .int .i64 x.2] 85)) := hb.alloc hb.size _
        clear hq he
        go_wp2
        go_ret
        exact ⟨bool_end hn.out.symm, hbW⟩
      · have hne : ¬ ((prAt l k).1 = x.1 ∧ (prAt l k).2 = x.2) := fun h => he (Prod.ext h.1 h.2)
        have hn : Hid (∀ j, j < k + 1 → prAt l j ≠ x) := by
          intro j hj
          by_cases e : j = k
          · rw [e]; exact he
          · exact hq.out j (by omega)
        have hbW : Below w.heap.size w (wr.alloc (.cells #[.int .i64 (prAt l k).1, .int .i64 (prAt l k).2] 85)) := hb.alloc hb.size _
        have hbbW : Below w0.heap.size w0 (wr.alloc (.cells #[.int .i64 (prAt l k).1, .int .i64 (prAt l k).2] 85)) := hbb.alloc hbb.size _
        clear hq he
        by_cases h1 : (prAt l k).1 = x.1
        · have h2 : ¬ (prAt l k).2 = x.2 := fun h => hne ⟨h1, h⟩
          rw [h1] at c1 hbW hbbW
          clear hne h1
          generalize (prAt l k).2 = y at c2 h2 hbW hbbW
          go_wp2
          refine ⟨⟨k + 1, by omega, by go_num, hn, hbW, hbbW⟩, ?_⟩
          simp only [intOf]
          omega
        · clear hne
          generalize prAt l k = p1 at c1 c2 h1 hbW hbbW
          go_wp2
          refine ⟨⟨k + 1, by omega, by go_num, hn, hbW, hbbW⟩, ?_⟩
          simp only [intOf]
          omega
    · have hn : Hid (hasF l x = false) := hasF_no fun j hj => hq.out j (by omega)
      clear hq
      go_wp2
      go_ret
      exact ⟨bool_end hn.out.symm, hb⟩

set_option maxRecDepth 100000 in
set_option maxHeartbeats 1000000 in
theorem l3In_any (A B : Option Addr) (c d : Nat) (S l : List (Int × Int)) (w : World) (hA : PairsAt w A S) (hB : PairsAt w B l) (hS : S.length ≤ 1099511627776) (hl : l.length ≤ 1099511627776) :
    Calls Try.prog 107 #[.slice A S.length c, .slice B l.length d] w fun e w' => e = .returned (.bool (allIn S l)) ∧ Below w.heap.size w w' := by
  go_enter Try.func107, Try.ntmps107
  go_wp2
  go_loopw [9] (fun i wr => ∃ k : Nat, k ≤ l.length ∧ i = .int .i64 k ∧ Hid (∀ j, j < k → hasF S (prAt l j) = true) ∧ Below w.heap.size w wr) (fun i _ => l.length - (intOf i).toNat)
  case atStart => exact ⟨0, Nat.zero_le _, rfl, fun j hj => absurd hj (by omega), Below.refl _ _⟩
  case round =>
    obtain ⟨k, hk, rfl, hq, hb⟩ := hrel
    by_cases hlt : k < l.length
    · obtain ⟨b1, o1, rfl, hb1, hc1⟩ := hB (by omega)
      obtain ⟨c1, c2⟩ := hc1 k hlt
      rw [← hb.cell (p := ⟨b1, _, none⟩) hb1] at c1 c2
      have hbW : Below w.heap.size w (wr.alloc (.cells #[.int .i64 (prAt l k).1, .int .i64 (prAt l k).2] 85)) := hb.alloc hb.size _
      have hcall := l3Has_any A c S (prAt l k) _ (hA.below hbW) hS
      have hno : Hid (hasF S (prAt l k) = false → allIn S l = false) := fun h => allIn_no hlt h
      have hyes : Hid (hasF S (prAt l k) = true → ∀ j, j < k + 1 → hasF S (prAt l j) = true) := fun h => ctx_next hq.out h
      generalize prAt l k = p1 at c1 c2 hbW hcall hno hyes
      generalize hasF S p1 = r at hcall hno hyes
      clear hc1 hB hq hA
      cases r with
      | true =>
        have hn : Hid (∀ j, j < k + 1 → hasF S (prAt l j) = true) := hyes.out rfl
        clear hno hyes
        go_wp2_with fail
        refine hcall.mono ?_
        rintro e w2 ⟨rfl, hb2⟩
        have hb3 := hbW.trans (hb2.mono hbW.size)
        clear hcall hbW hb2 c1 c2
        go_wp2
        refine ⟨⟨k + 1, by omega, by go_num, hn, hb3⟩, ?_⟩
        simp only [intOf]
        omega
      | false =>
        have hn : Hid (allIn S l = false) := hno.out rfl
        clear hno hyes
        go_wp2_with fail
        refine hcall.mono ?_
        rintro e w2 ⟨rfl, hb2⟩
        have hb3 := hbW.trans (hb2.mono hbW.size)
        clear hcall hbW hb2 c1 c2
        go_wp2
        go_ret
        exact ⟨bool_end hn.out.symm, hb3⟩
    · have hn : Hid (allIn S l = true) := allIn_yes fun j hj => hq.out j (by omega)
      clear hq hA hB
      go_wp2
      go_ret
      exact ⟨bool_end hn.out.symm, hb⟩

theorem includes_spec (A B : Option Addr) (c d : Nat) (l m : List (Int × Int)) (w : World) (hA : PairsAt w A l) (hB : PairsAt w B m) (hl : l.length ≤ 1048576) (hm : m.length ≤ 1048576) :
    Calls Try.prog 64 #[.slice A l.length c, .slice B m.length d] w fun e w' => e = .returned (.bool (inclB l m)) ∧ Below w.heap.size w w' := by
  have h1 := isContext_spec A c l w hA (by omega)
  have h2 := fun W hW => isContext_spec B d m W hW (by omega)
  have h3 := fun W hP hQ => l3In_any A B c d l m W hP hQ (by omega) (by omega)
  have hr : Hid (inclB l m = (ctxB l && (ctxB m && allIn l m))) := rfl
  generalize ctxB l = k1 at h1 hr
  generalize ctxB m = k2 at h2 hr
  generalize allIn l m = k3 at h3 hr
  cases k1 with
  | false =>
    have hn : Hid (inclB l m = false) := by show inclB l m = false; rw [hr.out]; simp
    clear h2 h3 hr
    go_enter Try.func64, Try.ntmps64
    go_wp2_with fail
    refine h1.mono ?_
    rintro e w1 ⟨rfl, hb1⟩
    clear h1
    go_wp2
    go_ret
    exact ⟨bool_end hn.out.symm, hb1⟩
  | true =>
    cases k2 with
    | false =>
      have hn : Hid (inclB l m = false) := by show inclB l m = false; rw [hr.out]; simp
      clear h3 hr
      go_enter Try.func64, Try.ntmps64
      go_wp2_with fail
      refine h1.mono ?_
      rintro e w1 ⟨rfl, hb1⟩
      have h2' := h2 w1 (hB.below hb1)
      clear h1 h2
      go_wp2_with fail
      refine h2'.mono ?_
      rintro e w2 ⟨rfl, hb2⟩
      have hs2 := hb1.trans (hb2.mono hb1.size)
      clear h2' hb1 hb2
      go_wp2
      go_ret
      exact ⟨bool_end hn.out.symm, hs2⟩
    | true =>
      have hn : Hid (inclB l m = k3) := by show inclB l m = k3; rw [hr.out]; simp
      clear hr
      go_enter Try.func64, Try.ntmps64
      go_wp2_with fail
      refine h1.mono ?_
      rintro e w1 ⟨rfl, hb1⟩
      have h2' := h2 w1 (hB.below hb1)
      clear h1 h2
      go_wp2_with fail
      refine h2'.mono ?_
      rintro e w2 ⟨rfl, hb2⟩
      have hs2 := hb1.trans (hb2.mono hb1.size)
      have h3' := h3 w2 (hA.below hs2) (hB.below hs2)
      clear h2' hb1 hb2 h3
      go_wp2_with fail
      refine h3'.mono ?_
      rintro e w3 ⟨rfl, hb3⟩
      have hs3 := hs2.trans (hb3.mono hs2.size)
      clear h3' hs2 hb3
      go_wp2
      go_ret
      exact ⟨bool_end hn.out.symm, hs3⟩

end Go.Proofs.Ytgcoakmajpgggaa
