/-
  Whether a formula holds for a tuple: plain words; no program is walked here. Whether a formula holds for a tuple, in the program, as a contract. The operators of a formula, in the program, as contracts. Whether a formula holds for a tuple, in the model, as a contract.
-/
import Derived.Test.YthjkogighppeaaaKSetOfFormula15
import Derived.Test.YthjkogighppeaaaKSetOfFormula3
import Derived.Test.YthjkogighppeaaaKSetOfFormula16
import Derived.Test.YthjkogighppeaaaKSetOfFormula11
import Derived.Test.YthjkogighppeaaaKSetOfFormula12
section
namespace Go.Proofs.Ythjkogighppeaaa
open Go.RowKit Go.Sort
set_option linter.unusedVariables false

/-- The atoms that are tried for a place. -/
def quantL (cs xs : List Int) : List Int := (cs ++ xs) ++ [leastF (cs ++ xs)]
/-- Whether a formula of at most so great a depth holds. -/
def holdB : Nat → List Int → Fm → List Int → Bool
  | 0, _, _, _ => false
  | d + 1, cs, t, xs => if t.op = 1 then decide (itAt xs t.fa.toNat = itAt xs t.fb.toNat) else if t.op = 2 then decide (itAt xs t.fa.toNat = t.fb) else if t.op = 3 then !holdB d cs (fmAt t.kids 0) xs
    else if t.op = 4 then holdB d cs (fmAt t.kids 0) xs && holdB d cs (fmAt t.kids 1) xs else if t.op = 5 then holdB d cs (fmAt t.kids 0) xs || holdB d cs (fmAt t.kids 1) xs
    else if t.op = 6 then (quantL cs xs).any fun a => holdB d cs (fmAt t.kids 0) (xs ++ [a]) == true
    else if t.op = 7 then !(quantL cs xs).any fun a => holdB d cs (fmAt t.kids 0) (xs ++ [a]) == false else false

theorem alone_parts {P : Fm → Bool} {n : Int} {t : Fm} (h : aloneB P n t = true) : (t.kids.length : Int) = n ∧ ∀ i, i < t.kids.length → P (fmAt t.kids i) = true := by
  unfold aloneB at h
  simp only [Bool.and_eq_true, decide_eq_true_eq, List.all_eq_true] at h
  exact ⟨h.2.1, fun i hi => h.2.2 _ (by rw [fmAt_get _ _ hi]; exact List.getElem_mem hi)⟩
theorem fw_cases {d : Nat} {z : Int} {t : Fm} (h : fwB (d + 1) z t = true) : (0 ≤ z ∧ z ≤ 4) ∧
    ((t.op = 1 ∧ (0 ≤ t.fa ∧ t.fa < z) ∧ 0 ≤ t.fb ∧ t.fb < z) ∨ (t.op = 2 ∧ 0 ≤ t.fa ∧ t.fa < z) ∨ (t.op = 3 ∧ t.kids.length = 1 ∧ fwB d z (fmAt t.kids 0) = true)
    ∨ (t.op = 4 ∧ t.kids.length = 2 ∧ fwB d z (fmAt t.kids 0) = true ∧ fwB d z (fmAt t.kids 1) = true) ∨ (t.op = 5 ∧ t.kids.length = 2 ∧ fwB d z (fmAt t.kids 0) = true ∧ fwB d z (fmAt t.kids 1) = true)
    ∨ (t.op = 6 ∧ t.kids.length = 1 ∧ fwB d (z + 1) (fmAt t.kids 0) = true) ∨ (t.op = 7 ∧ t.kids.length = 1 ∧ fwB d (z + 1) (fmAt t.kids 0) = true)) := by
  cases hw : widB z with
  | false => rw [fw_no hw] at h; cases h
  | true =>
    refine ⟨widB_iff.1 hw, ?_⟩
    cases t with
    | mk o a b ks =>
    rw [fw_yes hw] at h
    simp only [Fm.op, Fm.fa, Fm.fb, Fm.kids]
    by_cases h1 : o = 1
    · rw [if_pos h1] at h
      unfold leafB placeB at h
      simp only [Bool.and_eq_true, decide_eq_true_eq, Fm.kids] at h
      exact .inl ⟨h1, h.1.1, h.1.2⟩
    rw [if_neg h1] at h
    by_cases h2 : o = 2
    · rw [if_pos h2] at h
      unfold leafB placeB at h
      simp only [Bool.and_eq_true, decide_eq_true_eq, Fm.kids] at h
      exact .inr (.inl ⟨h2, h.1.1⟩)
    rw [if_neg h2] at h
    by_cases h3 : o = 3
    · rw [if_pos h3] at h
      have hp := alone_parts h
      simp only [Fm.kids] at hp
      exact .inr (.inr (.inl ⟨h3, by omega, hp.2 0 (by omega)⟩))
    rw [if_neg h3] at h
    by_cases h4 : o = 4
    · rw [if_pos h4] at h
      have hp := alone_parts h
      simp only [Fm.kids] at hp
      exact .inr (.inr (.inr (.inl ⟨h4, by omega, hp.2 0 (by omega), hp.2 1 (by omega)⟩)))
    rw [if_neg h4] at h
    by_cases h5 : o = 5
    · rw [if_pos h5] at h
      have hp := alone_parts h
      simp only [Fm.kids] at hp
      exact .inr (.inr (.inr (.inr (.inl ⟨h5, by omega, hp.2 0 (by omega), hp.2 1 (by omega)⟩))))
    rw [if_neg h5] at h
    by_cases h6 : o = 6
    · rw [if_pos h6] at h
      have hp := alone_parts h
      simp only [Fm.kids] at hp
      exact .inr (.inr (.inr (.inr (.inr (.inl ⟨h6, by omega, hp.2 0 (by omega)⟩)))))
    rw [if_neg h6] at h
    by_cases h7 : o = 7
    · rw [if_pos h7] at h
      have hp := alone_parts h
      simp only [Fm.kids] at hp
      exact .inr (.inr (.inr (.inr (.inr (.inr ⟨h7, by omega, hp.2 0 (by omega)⟩)))))
    rw [if_neg h7] at h
    cases h
theorem any_no {P : Int → Bool} {l : List Int} {k : Nat} (h : ∀ j, j < k → P (itAt l j) = false) (hk : k = l.length) : l.any P = false := by
  rw [List.any_eq_false]
  intro a ha
  obtain ⟨j, hj, rfl⟩ := List.getElem_of_mem ha
  have := h j (by omega)
  unfold itAt at this
  simpa [hj] using this
theorem any_yes {P : Int → Bool} {l : List Int} {k : Nat} (hk : k < l.length) (h : P (itAt l k) = true) : l.any P = true := by
  rw [List.any_eq_true]
  refine ⟨l[k], List.getElem_mem hk, ?_⟩
  unfold itAt at h
  simpa [hk] using h

end Go.Proofs.Ythjkogighppeaaa
end

section
namespace Go.Proofs.Ythjkogighppeaaa
open Go.RowKit Go.Sort
set_option linter.unusedVariables false

/-- The contract that is handed down. -/
def HoldsP (d : Nat) : Prop := ∀ (t : Fm) (cs xs : List Int) (A B : Option Addr) (c e : Nat) (x : Value) (w : World), fwB d xs.length t = true → cs.length ≤ 3 → FmIn w x t → IntsAt w A cs → (A = none → c = 0) → IntsAt w B xs → (B = none → e = 0) →
  Calls Try.prog 27 #[.slice A cs.length c, x, .slice B xs.length e] w (BoolP (holdB d cs t xs) w)

theorem hz_ownH {w : World} {base size n len d : Nat} {e : TypeId} {B : Option Addr} {xs : List Value} (h : w.ownsRow base e size (.slice B n d) len xs) : B = none → d = 0 := by
  rintro rfl
  rcases h.2 with ⟨e1, _⟩ | ⟨g, cap, cur, e1, _⟩
  · injection e1
  · cases e1
theorem cat2 {w : World} {A B : Option Addr} {a b : Nat} {x y : List Int} {T : TypeId} (hA : IntsAt w A x) (hB : IntsAt w B y) (ha : A = none → a = 0) (hb : B = none → b = 0) :
    CatAt (w.alloc (.cells #[.slice A x.length a, .slice B y.length b] T)) (some ⟨w.heap.size, 0, none⟩) [x, y] := by
  intro _
  have hbe : Below w.heap.size w (w.alloc (.cells #[.slice A x.length a, .slice B y.length b] T)) := (Below.refl _ _).alloc (Nat.le_refl _) _
  have hk := heap_alloc_new w (.cells #[.slice A x.length a, .slice B y.length b] T)
  refine ⟨w.heap.size, 0, rfl, by simp, fun i hi => ?_⟩
  rcases i with _ | _ | i
  · exact ⟨A, a, by rw [cell_of_row _ _ _ _ _ _ hk]; rfl, hA.below hbe, ha⟩
  · exact ⟨B, b, by rw [cell_of_row _ _ _ _ _ _ hk]; rfl, hB.below hbe, hb⟩
  · simp at hi; omega
theorem one_ints (w : World) (a : Int) (T : TypeId) : IntsAt (w.alloc (.cells #[.int .i64 a] T)) (some ⟨w.heap.size, 0, none⟩) [a] := fun _ =>
  ⟨w.heap.size, 0, rfl, by simp, fun i hi => by
    have e : i = 0 := by simp at hi; omega
    subst e
    rw [cell_of_row _ _ _ _ _ _ (heap_alloc_new w (.cells #[.int .i64 a] T))]; rfl⟩

set_option maxRecDepth 100000 in
set_option maxHeartbeats 8000000 in
theorem holdsOne_any (d : Nat) (ih : HoldsP d) (t : Fm) (cs xs : List Int) (a : Int) (b : Bool) (A B K : Option Addr) (c e kk : Nat) (V1 V2 V3 V4 : Nat) (w : World) (hw : fwB d ((xs.length : Int) + 1) t = true) (hx4 : xs.length ≤ 4) (hcs : cs.length ≤ 3)
    (hk : FmsIn w (.slice K t.kids.length kk) t.kids) (hA : IntsAt w A cs) (hz : A = none → c = 0) (hB : IntsAt w B xs) (hz2 : B = none → e = 0) (m0 : w.cell? ⟨V1, 0, none⟩ = some (.slice A cs.length c)) (m1 : w.cell? ⟨V2, 0, none⟩ = some (.int .i64 t.op)) (m2 : w.cell? ⟨V2, 1, none⟩ = some (.int .i64 t.fa)) (m3 : w.cell? ⟨V2, 2, none⟩ = some (.int .i64 t.fb)) (m4 : w.cell? ⟨V2, 3, none⟩ = some (.slice K t.kids.length kk)) (m5 : w.cell? ⟨V3, 0, none⟩ = some (.slice B xs.length e)) (m6 : w.cell? ⟨V4, 0, none⟩ = some (.bool b)) :
    Calls Try.prog 71 #[.int .i64 a, .pointer (some ⟨V1, 0, none⟩), .pointer (some ⟨V2, 0, none⟩), .pointer (some ⟨V3, 0, none⟩), .pointer (some ⟨V4, 0, none⟩)] w (BoolP (holdB d cs t (xs ++ [a]) == b) w) := by
  have l1 := block_lt_of_cell m0
  have l2 := block_lt_of_cell m1
  have l3 := block_lt_of_cell m5
  have l4 := block_lt_of_cell m6
  have HB : Hid (∀ w' : World, Below w.heap.size w w' → w'.cell? ⟨V1, 0, none⟩ = some (.slice A cs.length c) ∧ w'.cell? ⟨V2, 0, none⟩ = some (.int .i64 t.op) ∧ w'.cell? ⟨V2, 1, none⟩ = some (.int .i64 t.fa) ∧ w'.cell? ⟨V2, 2, none⟩ = some (.int .i64 t.fb) ∧ w'.cell? ⟨V2, 3, none⟩ = some (.slice K t.kids.length kk) ∧ w'.cell? ⟨V3, 0, none⟩ = some (.slice B xs.length e) ∧ w'.cell? ⟨V4, 0, none⟩ = some (.bool b)) := Lib.hid (fun w' h => ⟨(h.cell (p := ⟨V1, 0, none⟩) l1).trans m0, (h.cell (p := ⟨V2, 0, none⟩) l2).trans m1, (h.cell (p := ⟨V2, 1, none⟩) l2).trans m2, (h.cell (p := ⟨V2, 2, none⟩) l2).trans m3, (h.cell (p := ⟨V2, 3, none⟩) l2).trans m4, (h.cell (p := ⟨V3, 0, none⟩) l3).trans m5, (h.cell (p := ⟨V4, 0, none⟩) l4).trans m6⟩)
  have hdw : Below w.heap.size w w.drew := ⟨rfl, rfl, rfl, Nat.le_refl _, fun _ _ => rfl⟩
  have hd1 : Below w.heap.size w (w.drew.alloc (.cells #[.int .i64 a] 3)) := hdw.alloc (Nat.le_refl _) _
  have hd2 : Below w.heap.size w ((w.drew.alloc (.cells #[.int .i64 a] 3)).alloc (.cells #[.slice B xs.length e, .slice (some ⟨w.heap.size, 0, none⟩) 1 1] 26)) := hd1.alloc hd1.size _
  have hcat := concat_any (some ⟨w.heap.size + 1, 0, none⟩) 2 [xs, [a]] ((w.drew.alloc (.cells #[.int .i64 a] 3)).alloc (.cells #[.slice B xs.length e, .slice (some ⟨w.heap.size, 0, none⟩) 1 1] 26)) (by
    have h := cat2 (w := w.drew.alloc (.cells #[.int .i64 a] 3)) (T := 26) (a := e) (b := 1) (hB.below hd1) (one_ints w.drew a 3) hz2 (fun h => by cases h)
    simpa using h) (by simp) (by simp [sumR]; omega)
  have hfl : [xs, [a]].flatten = xs ++ [a] := by simp
  rw [hfl] at hcat
  have hih := fun W (h : Below w.heap.size w W) (A4 : Option Addr) (c4 : Nat) (h4 : IntsAt W A4 (xs ++ [a])) (hz4 : A4 = none → c4 = 0) => ih t cs (xs ++ [a]) A A4 c c4 _ W (by rw [List.length_append]; exact hw) hcs ⟨K, kk, rfl, hk.below h⟩ (hA.below h) hz h4 hz4
  clear hfl ih hw hdw hd1 hA hB hk hz hz2
  generalize holdB d cs t (xs ++ [a]) = r at *
  generalize hY : xs ++ [a] = Y at *
  clear hY
  have HD2 := Lib.hid hd2
  clear hd2
  go_enter Try.func71, Try.ntmps71
  go_wp2
  go_region_held3 (fun w' => w'.cell? ⟨V1, 0, none⟩ = some (.slice A cs.length c) ∧ w'.cell? ⟨V2, 0, none⟩ = some (.int .i64 t.op) ∧ w'.cell? ⟨V2, 1, none⟩ = some (.int .i64 t.fa) ∧ w'.cell? ⟨V2, 2, none⟩ = some (.int .i64 t.fb) ∧ w'.cell? ⟨V2, 3, none⟩ = some (.slice K t.kids.length kk) ∧ w'.cell? ⟨V3, 0, none⟩ = some (.slice B xs.length e) ∧ w'.cell? ⟨V4, 0, none⟩ = some (.bool b))
    (first | (with_reducible exact ⟨by assumption, by assumption, by assumption, by assumption, by assumption, by assumption, by assumption⟩) | ((try dsimp only); exact ⟨by assumption, by assumption, by assumption, by assumption, by assumption, by assumption, by assumption⟩) | go_keep)
    (first
      | (go_at_call 69; refine hcat.mono ?_; rintro e w4 ⟨v4, rfl, ho4, hb4⟩; obtain ⟨A4, c4, rfl, hA4⟩ := own_intsAt ho4; have hz4 := hz_ownH ho4; have hd4 := HD2.out.trans (hb4.mono HD2.out.size); have hhw := hih w4 hd4 A4 c4 hA4 hz4; obtain ⟨n0, n1, n2, n3, n4, n5, n6⟩ := HB.out w4 hd4)
      | (go_at_call 27; refine hhw.mono ?_; rintro e w5 ⟨rfl, hb5⟩; have hd5 := hd4.trans (hb5.mono hd4.size); obtain ⟨p0, p1, p2, p3, p4, p5, p6⟩ := HB.out w5 hd5)
      | fail)
  clear hcat hih hhw hd4 ho4 hb4 hb5 hA4 hz4 HB HD2 m0 m1 m2 m3 m4 m5 m6 n0 n1 n2 n3 n4 n5 n6 p0 p1 p2 p3 p4 p5 p6
  go_wp2
  go_ret
  exact ⟨rfl, hd5⟩


set_option maxRecDepth 100000 in
set_option maxHeartbeats 4000000 in
theorem indexHolds_any (d : Nat) (ih : HoldsP d) (t : Fm) (cs xs L : List Int) (b : Bool) (A B K D : Option Addr) (c e kk q : Nat) (V1 V2 V3 V4 : Nat) (w : World) (hw : fwB d ((xs.length : Int) + 1) t = true) (hx4 : xs.length ≤ 4) (hcs : cs.length ≤ 3)
    (hk : FmsIn w (.slice K t.kids.length kk) t.kids) (hA : IntsAt w A cs) (hz : A = none → c = 0) (hB : IntsAt w B xs) (hz2 : B = none → e = 0) (hL : IntsAt w D L) (hLl : L.length ≤ 100) (m0 : w.cell? ⟨V1, 0, none⟩ = some (.slice A cs.length c)) (m1 : w.cell? ⟨V2, 0, none⟩ = some (.int .i64 t.op)) (m2 : w.cell? ⟨V2, 1, none⟩ = some (.int .i64 t.fa)) (m3 : w.cell? ⟨V2, 2, none⟩ = some (.int .i64 t.fb)) (m4 : w.cell? ⟨V2, 3, none⟩ = some (.slice K t.kids.length kk)) (m5 : w.cell? ⟨V3, 0, none⟩ = some (.slice B xs.length e)) (m6 : w.cell? ⟨V4, 0, none⟩ = some (.bool b)) :
    Calls Try.prog 80 #[.slice D L.length q, .func (.func 71) #[] #[.pointer (some ⟨V1, 0, none⟩), .pointer (some ⟨V2, 0, none⟩), .pointer (some ⟨V3, 0, none⟩), .pointer (some ⟨V4, 0, none⟩)]] w
      fun e w' => (∃ i : Int, e = .returned (.int .i64 i) ∧ ((0 ≤ i ∧ L.any (fun a => holdB d cs t (xs ++ [a]) == b) = true) ∨ (i < 0 ∧ L.any (fun a => holdB d cs t (xs ++ [a]) == b) = false))) ∧ Below w.heap.size w w' := by
  have l1 := block_lt_of_cell m0
  have l2 := block_lt_of_cell m1
  have l3 := block_lt_of_cell m5
  have l4 := block_lt_of_cell m6
  obtain ⟨P, hP⟩ : ∃ P : Int → Bool, P = fun a => holdB d cs t (xs ++ [a]) == b := ⟨_, rfl⟩
  have HONE := Lib.hid (fun W (h : Below w.heap.size w W) (a : Int) => (show Calls _ _ _ _ (BoolP (P a) W) from by rw [hP]; exact holdsOne_any d ih t cs xs a b A B K c e kk V1 V2 V3 V4 W hw hx4 hcs (hk.below h) (hA.below h) hz (hB.below h) hz2 ((h.cell (p := ⟨V1, 0, none⟩) l1).trans m0) ((h.cell (p := ⟨V2, 0, none⟩) l2).trans m1) ((h.cell (p := ⟨V2, 1, none⟩) l2).trans m2) ((h.cell (p := ⟨V2, 2, none⟩) l2).trans m3) ((h.cell (p := ⟨V2, 3, none⟩) l2).trans m4) ((h.cell (p := ⟨V3, 0, none⟩) l3).trans m5) ((h.cell (p := ⟨V4, 0, none⟩) l4).trans m6)))
  rw [← hP]
  clear hP
  clear hw hk hA hB hz hz2 ih m0 m1 m2 m3 m4 m5 m6
  go_enter Try.func80, Try.ntmps80
  go_wp2
  go_loopw [5, 8] (fun _ i wr => ∃ k : Nat, k ≤ L.length ∧ i = .int .i64 k ∧ Hid (∀ j, j < k → P (itAt L j) = false) ∧ Below w.heap.size w wr) (fun _ i _ => L.length - (intOf i).toNat)
  case atStart => exact ⟨0, Nat.zero_le _, rfl, Lib.hid (fun j hj => absurd hj (by omega)), Below.refl _ _⟩
  case round =>
    obtain ⟨k, hkl, rfl, hn, hb⟩ := hrel
    by_cases hlt : k < L.length
    · obtain ⟨b1, o1, rfl, hb1, hc1⟩ := (hL.below hb) (by omega)
      have d1 := hc1 k hlt
      have hcall := HONE.out wr hb (itAt L k)
      cases hx : P (itAt L k) with
      | false =>
        have hn2 : Hid (∀ j, j < k + 1 → P (itAt L j) = false) := Lib.hid (fun j hj => by
          by_cases e : j = k
          · rw [e]; exact hx
          · exact hn.out j (by omega))
        rw [hx] at hcall
        generalize itAt L k = a at *
        clear hc1 hL HONE hn hx
        go_wp2_with (go_at_call 71; refine hcall.mono ?_; rintro e w2 ⟨rfl, hb2⟩; have hb3 := hb.trans (hb2.mono hb.size))
        clear hcall d1 hb hb2
        refine ⟨⟨k + 1, by omega, by go_num, hn2, hb3⟩, ?_⟩
        simp only [intOf]
        omega
      | true =>
        have hn2 := Lib.hid (any_yes hlt hx)
        rw [hx] at hcall
        generalize itAt L k = a at *
        clear hc1 hL HONE hn hx
        go_wp2_with (go_at_call 71; refine hcall.mono ?_; rintro e w2 ⟨rfl, hb2⟩; have hb3 := hb.trans (hb2.mono hb.size))
        clear hcall d1 hb hb2
        go_ret
        exact ⟨⟨_, rfl, Or.inl ⟨by omega, hn2.out⟩⟩, hb3⟩
    · have hn2 := Lib.hid (any_no (P := P) hn.out (by omega))
      clear hn hL HONE
      go_wp2
      go_ret
      exact ⟨⟨_, rfl, Or.inr ⟨by decide, hn2.out⟩⟩, hb⟩

set_option maxRecDepth 100000 in
theorem containsHolds_any (d : Nat) (ih : HoldsP d) (t : Fm) (cs xs L : List Int) (b : Bool) (A B K D : Option Addr) (c e kk q : Nat) (V1 V2 V3 V4 : Nat) (w : World) (hw : fwB d ((xs.length : Int) + 1) t = true) (hx4 : xs.length ≤ 4) (hcs : cs.length ≤ 3)
    (hk : FmsIn w (.slice K t.kids.length kk) t.kids) (hA : IntsAt w A cs) (hz : A = none → c = 0) (hB : IntsAt w B xs) (hz2 : B = none → e = 0) (hL : IntsAt w D L) (hLl : L.length ≤ 100) (m0 : w.cell? ⟨V1, 0, none⟩ = some (.slice A cs.length c)) (m1 : w.cell? ⟨V2, 0, none⟩ = some (.int .i64 t.op)) (m2 : w.cell? ⟨V2, 1, none⟩ = some (.int .i64 t.fa)) (m3 : w.cell? ⟨V2, 2, none⟩ = some (.int .i64 t.fb)) (m4 : w.cell? ⟨V2, 3, none⟩ = some (.slice K t.kids.length kk)) (m5 : w.cell? ⟨V3, 0, none⟩ = some (.slice B xs.length e)) (m6 : w.cell? ⟨V4, 0, none⟩ = some (.bool b)) :
    Calls Try.prog 70 #[.slice D L.length q, .func (.func 71) #[] #[.pointer (some ⟨V1, 0, none⟩), .pointer (some ⟨V2, 0, none⟩), .pointer (some ⟨V3, 0, none⟩), .pointer (some ⟨V4, 0, none⟩)]] w (BoolP (L.any (fun a => holdB d cs t (xs ++ [a]) == b)) w) := by
  have hi := indexHolds_any d ih t cs xs L b A B K D c e kk q V1 V2 V3 V4 w hw hx4 hcs hk hA hz hB hz2 hL hLl m0 m1 m2 m3 m4 m5 m6
  clear hw hk hA hB hz hz2 ih hL m0 m1 m2 m3 m4 m5 m6
  generalize (L.any fun a => holdB d cs t (xs ++ [a]) == b) = r at hi ⊢
  generalize L.length = n at hi ⊢
  go_enter Try.func70, Try.ntmps70
  go_wp2_with fail
  refine hi.mono ?_
  rintro e w2 ⟨⟨i, rfl, h⟩, hb⟩
  clear hi
  rcases h with ⟨h, rfl⟩ | ⟨h, rfl⟩
  · go_wp2
    go_ret
    exact ⟨bool_end (by first | rfl | (simp; omega)), hb⟩
  · have h' : ¬ 0 ≤ i := by omega
    go_wp2
    go_ret
    exact ⟨bool_end (by first | rfl | (simp; omega)), hb⟩

theorem four_boxes (w : World) (o1 o2 o3 o4 : Obj) : ((((w.alloc o1).alloc o2).alloc o3).alloc o4).heap[w.heap.size]? = some o1 ∧ ((((w.alloc o1).alloc o2).alloc o3).alloc o4).heap[w.heap.size + 1]? = some o2 ∧
    ((((w.alloc o1).alloc o2).alloc o3).alloc o4).heap[w.heap.size + 2]? = some o3 ∧ ((((w.alloc o1).alloc o2).alloc o3).alloc o4).heap[w.heap.size + 3]? = some o4 := by
  have s1 : (w.alloc o1).heap.size = w.heap.size + 1 := World.size_alloc w o1
  have s2 : ((w.alloc o1).alloc o2).heap.size = w.heap.size + 2 := by rw [World.size_alloc, s1]
  have s3 : (((w.alloc o1).alloc o2).alloc o3).heap.size = w.heap.size + 3 := by rw [World.size_alloc, s2]
  have h1 := heap_alloc_new w o1
  have h2 := heap_alloc_new (w.alloc o1) o2
  have h3 := heap_alloc_new ((w.alloc o1).alloc o2) o3
  have h4 := heap_alloc_new (((w.alloc o1).alloc o2).alloc o3) o4
  rw [s1] at h2
  rw [s2] at h3
  rw [s3] at h4
  exact ⟨(Below.heap_alloc _ _ _ (by omega)).trans ((Below.heap_alloc _ _ _ (by omega)).trans ((Below.heap_alloc _ _ _ (by omega)).trans h1)), (Below.heap_alloc _ _ _ (by omega)).trans ((Below.heap_alloc _ _ _ (by omega)).trans h2), (Below.heap_alloc _ _ _ (by omega)).trans h3, h4⟩

set_option maxRecDepth 100000 in
set_option maxHeartbeats 8000000 in
theorem holdsBehind_any (d : Nat) (ih : HoldsP d) (t : Fm) (cs xs : List Int) (b : Bool) (A B : Option Addr) (c e : Nat) (x : Value) (w : World) (hw : fwB d ((xs.length : Int) + 1) t = true) (hx4 : xs.length ≤ 4) (hcs : cs.length ≤ 3)
    (hx : FmIn w x t) (hA : IntsAt w A cs) (hz : A = none → c = 0) (hB : IntsAt w B xs) (hz2 : B = none → e = 0) :
    Calls Try.prog 53 #[.slice A cs.length c, x, .slice B xs.length e, .bool b] w (BoolP ((quantL cs xs).any (fun a => holdB d cs t (xs ++ [a]) == b)) w) := by
  obtain ⟨K, kk, rfl, hk⟩ := hx
  have hb0 : Below w.heap.size w ((((w.alloc (.cells #[.slice A cs.length c] 26)).alloc (.cells #[.int .i64 t.op, .int .i64 t.fa, .int .i64 t.fb, .slice K t.kids.length kk] 34)).alloc (.cells #[.slice B xs.length e] 26)).alloc (.cells #[.bool b] 4)) := (((((Below.refl _ _).alloc (Nat.le_refl _) _).alloc (by simp) _).alloc (by simp; omega) _).alloc (by simp; omega) _)
  obtain ⟨k1, k2, k3, k4⟩ := four_boxes w (.cells #[.slice A cs.length c] 26) (.cells #[.int .i64 t.op, .int .i64 t.fa, .int .i64 t.fb, .slice K t.kids.length kk] 34) (.cells #[.slice B xs.length e] 26) (.cells #[.bool b] 4)
  have hsz : ((((w.alloc (.cells #[.slice A cs.length c] 26)).alloc (.cells #[.int .i64 t.op, .int .i64 t.fa, .int .i64 t.fb, .slice K t.kids.length kk] 34)).alloc (.cells #[.slice B xs.length e] 26)).alloc (.cells #[.bool b] 4)).heap.size = w.heap.size + 4 := by simp
  have HB := Lib.hid hb0
  have HAA := Lib.hid (hA.below hb0)
  have HBB := Lib.hid (hB.below hb0)
  have HKK := Lib.hid (hk.below hb0)
  have hcat := concat_any (some ⟨w.heap.size + 4, 0, none⟩) 2 [cs, xs] (((((w.alloc (.cells #[.slice A cs.length c] 26)).alloc (.cells #[.int .i64 t.op, .int .i64 t.fa, .int .i64 t.fb, .slice K t.kids.length kk] 34)).alloc (.cells #[.slice B xs.length e] 26)).alloc (.cells #[.bool b] 4)).alloc (.cells #[.slice A cs.length c, .slice B xs.length e] 26)) (by
    have h := cat2 (w := ((((w.alloc (.cells #[.slice A cs.length c] 26)).alloc (.cells #[.int .i64 t.op, .int .i64 t.fa, .int .i64 t.fb, .slice K t.kids.length kk] 34)).alloc (.cells #[.slice B xs.length e] 26)).alloc (.cells #[.bool b] 4))) (T := 26) (a := c) (b := e) (hA.below hb0) (hB.below hb0) hz hz2
    rw [hsz] at h
    exact h) (by simp) (by simp [sumR]; omega)
  have hfl : [cs, xs].flatten = cs ++ xs := by simp
  rw [hfl] at hcat
  have hYl : (cs ++ xs).length ≤ 7 := by rw [List.length_append]; omega
  have hba : Below w.heap.size w (((((w.alloc (.cells #[.slice A cs.length c] 26)).alloc (.cells #[.int .i64 t.op, .int .i64 t.fa, .int .i64 t.fb, .slice K t.kids.length kk] 34)).alloc (.cells #[.slice B xs.length e] 26)).alloc (.cells #[.bool b] 4)).alloc (.cells #[.slice A cs.length c, .slice B xs.length e] 26)) := hb0.alloc hb0.size _
  have HK1 : Hid (∀ w' : World, Below ((((w.alloc (.cells #[.slice A cs.length c] 26)).alloc (.cells #[.int .i64 t.op, .int .i64 t.fa, .int .i64 t.fb, .slice K t.kids.length kk] 34)).alloc (.cells #[.slice B xs.length e] 26)).alloc (.cells #[.bool b] 4)).heap.size ((((w.alloc (.cells #[.slice A cs.length c] 26)).alloc (.cells #[.int .i64 t.op, .int .i64 t.fa, .int .i64 t.fb, .slice K t.kids.length kk] 34)).alloc (.cells #[.slice B xs.length e] 26)).alloc (.cells #[.bool b] 4)) w' → w'.heap[w.heap.size]? = some (.cells #[.slice A cs.length c] 26) ∧ w'.heap[w.heap.size + 1]? = some (.cells #[.int .i64 t.op, .int .i64 t.fa, .int .i64 t.fb, .slice K t.kids.length kk] 34) ∧ w'.heap[w.heap.size + 2]? = some (.cells #[.slice B xs.length e] 26) ∧ w'.heap[w.heap.size + 3]? = some (.cells #[.bool b] 4)) := Lib.hid (fun w' h => ⟨(h.block _ (by omega)).trans k1, (h.block _ (by omega)).trans k2, (h.block _ (by omega)).trans k3, (h.block _ (by omega)).trans k4⟩)
  have hq : Hid (icells (cs ++ xs) ++ icells [leastF (cs ++ xs)] = icells (quantL cs xs)) := Lib.hid (by simp [icells, quantL])
  have hql : Hid ((cs ++ xs).length + 1 = (quantL cs xs).length) := Lib.hid (by simp [quantL]; omega)
  have hcon := fun (W : World) (D : Option Addr) (q : Nat) (h : Below w.heap.size w W) (hL : IntsAt W D (quantL cs xs)) (n0 : W.cell? ⟨w.heap.size, 0, none⟩ = some (.slice A cs.length c)) (n1 : W.cell? ⟨w.heap.size + 1, 0, none⟩ = some (.int .i64 t.op)) (n2 : W.cell? ⟨w.heap.size + 1, 1, none⟩ = some (.int .i64 t.fa)) (n3 : W.cell? ⟨w.heap.size + 1, 2, none⟩ = some (.int .i64 t.fb)) (n4 : W.cell? ⟨w.heap.size + 1, 3, none⟩ = some (.slice K t.kids.length kk)) (n5 : W.cell? ⟨w.heap.size + 2, 0, none⟩ = some (.slice B xs.length e)) (n6 : W.cell? ⟨w.heap.size + 3, 0, none⟩ = some (.bool b)) =>
    containsHolds_any d ih t cs xs (quantL cs xs) b A B K D c e kk q w.heap.size (w.heap.size + 1) (w.heap.size + 2) (w.heap.size + 3) W hw hx4 hcs (hk.below h) (hA.below h) hz (hB.below h) hz2 hL (by have := hql.out; omega) n0 n1 n2 n3 n4 n5 n6
  generalize ((quantL cs xs).any fun a => holdB d cs t (xs ++ [a]) == b) = r at hcon ⊢
  generalize hQ : quantL cs xs = Q at hq hql hcon
  generalize hY : cs ++ xs = Y at hq hql hcat hYl
  clear hQ hY ih hA hB hk hfl hw
  obtain ⟨j1, j2, j3, j4⟩ := HK1.out ((((w.alloc (.cells #[.slice A cs.length c] 26)).alloc (.cells #[.int .i64 t.op, .int .i64 t.fa, .int .i64 t.fb, .slice K t.kids.length kk] 34)).alloc (.cells #[.slice B xs.length e] 26)).alloc (.cells #[.bool b] 4)) (Below.refl _ _)
  have f0 : ((((w.alloc (.cells #[.slice A cs.length c] 26)).alloc (.cells #[.int .i64 t.op, .int .i64 t.fa, .int .i64 t.fb, .slice K t.kids.length kk] 34)).alloc (.cells #[.slice B xs.length e] 26)).alloc (.cells #[.bool b] 4)).cell? ⟨w.heap.size, 0, none⟩ = some (.slice A cs.length c) := by rw [cell_of_row _ _ _ _ _ _ j1]; rfl
  have f5 : ((((w.alloc (.cells #[.slice A cs.length c] 26)).alloc (.cells #[.int .i64 t.op, .int .i64 t.fa, .int .i64 t.fb, .slice K t.kids.length kk] 34)).alloc (.cells #[.slice B xs.length e] 26)).alloc (.cells #[.bool b] 4)).cell? ⟨w.heap.size + 2, 0, none⟩ = some (.slice B xs.length e) := by rw [cell_of_row _ _ _ _ _ _ j3]; rfl
  have HSZ := Lib.hid hsz
  clear k1 k2 k3 k4 j1 j2 j3 j4 hsz
  have HBA := Lib.hid hba
  have HQ0 : Hid (Below ((((w.alloc (.cells #[.slice A cs.length c] 26)).alloc (.cells #[.int .i64 t.op, .int .i64 t.fa, .int .i64 t.fb, .slice K t.kids.length kk] 34)).alloc (.cells #[.slice B xs.length e] 26)).alloc (.cells #[.bool b] 4)).heap.size ((((w.alloc (.cells #[.slice A cs.length c] 26)).alloc (.cells #[.int .i64 t.op, .int .i64 t.fa, .int .i64 t.fb, .slice K t.kids.length kk] 34)).alloc (.cells #[.slice B xs.length e] 26)).alloc (.cells #[.bool b] 4)) (((((w.alloc (.cells #[.slice A cs.length c] 26)).alloc (.cells #[.int .i64 t.op, .int .i64 t.fa, .int .i64 t.fb, .slice K t.kids.length kk] 34)).alloc (.cells #[.slice B xs.length e] 26)).alloc (.cells #[.bool b] 4)).alloc (.cells #[.slice A cs.length c, .slice B xs.length e] 26))) := Lib.hid ((Below.refl _ _).alloc (Nat.le_refl _) _)
  clear hba hb0 HB HAA HBB HKK
  go_enter Try.func53, Try.ntmps53
  go_wp2_with (first
    | (go_at_call 69; refine hcat.mono ?_; rintro e w4 ⟨v4, rfl, ho4, hb4⟩; obtain ⟨A4, c4, rfl, hA4⟩ := own_intsAt ho4; have h4 := HBA.out.trans (hb4.mono HBA.out.size); have q4 := HQ0.out.trans (hb4.mono HQ0.out.size))
    | (go_at_call 47; refine (least_impl A4 c4 Y w4 hA4 (by omega)).mono ?_; rintro e w5 ⟨rfl, hb5⟩; have h5 := h4.trans (hb5.mono h4.size); have q5 := q4.trans (hb5.mono q4.size); have h6 := h5.alloc h5.size (.cells #[.int .i64 (leastF Y)] 3); have q6 := q5.alloc q5.size (.cells #[.int .i64 (leastF Y)] 3); have ho6 := (own_below ho4 hb5).alloc (.cells #[.int .i64 (leastF Y)] 3); have hs6 := (HQ0.out.alloc HQ0.out.size (.cells #[.int .i64 (leastF Y)] 3)).size)
    | (at_builtin; refine wpList_append_ints rfl (.tmp 15) (.tmp 18) rfl w.heap.size _ Y.length _ rfl (own_le ho6 HBA.out.size) (some ⟨w5.heap.size, 0, none⟩) 1 [leastF Y] rfl (one_ints w5 _ _) (fun h => by cases h) ?c3 ?c5 ?_))
  case c3 => simp; omega
  case c5 => exact h6.size
  intro v7 w7 ho7 hg7
  have h7 : Below w.heap.size w w7 := below_own h6 (own_le ho6 HBA.out.size) (Nat.le_refl _) h6.size hg7
  have q7 : Below ((((w.alloc (.cells #[.slice A cs.length c] 26)).alloc (.cells #[.int .i64 t.op, .int .i64 t.fa, .int .i64 t.fb, .slice K t.kids.length kk] 34)).alloc (.cells #[.slice B xs.length e] 26)).alloc (.cells #[.bool b] 4)).heap.size ((((w.alloc (.cells #[.slice A cs.length c] 26)).alloc (.cells #[.int .i64 t.op, .int .i64 t.fa, .int .i64 t.fb, .slice K t.kids.length kk] 34)).alloc (.cells #[.slice B xs.length e] 26)).alloc (.cells #[.bool b] 4)) w7 := below_own q6 ho6 HQ0.out.size q6.size hg7

  rw [hql.out, hq.out] at ho7
  obtain ⟨A7, c7, rfl, hA7⟩ := own_intsAt ho7
  obtain ⟨j1, j2, j3, j4⟩ := HK1.out w7 q7
  have n0 : w7.cell? ⟨w.heap.size, 0, none⟩ = some (.slice A cs.length c) := by rw [cell_of_row _ _ _ _ _ _ j1]; rfl
  have n1 : w7.cell? ⟨w.heap.size + 1, 0, none⟩ = some (.int .i64 t.op) := by rw [cell_of_row _ _ _ _ _ _ j2]; rfl
  have n2 : w7.cell? ⟨w.heap.size + 1, 1, none⟩ = some (.int .i64 t.fa) := by rw [cell_of_row _ _ _ _ _ _ j2]; rfl
  have n3 : w7.cell? ⟨w.heap.size + 1, 2, none⟩ = some (.int .i64 t.fb) := by rw [cell_of_row _ _ _ _ _ _ j2]; rfl
  have n4 : w7.cell? ⟨w.heap.size + 1, 3, none⟩ = some (.slice K t.kids.length kk) := by rw [cell_of_row _ _ _ _ _ _ j2]; rfl
  have n5 : w7.cell? ⟨w.heap.size + 2, 0, none⟩ = some (.slice B xs.length e) := by rw [cell_of_row _ _ _ _ _ _ j3]; rfl
  have n6 : w7.cell? ⟨w.heap.size + 3, 0, none⟩ = some (.bool b) := by rw [cell_of_row _ _ _ _ _ _ j4]; rfl
  have hc7 := hcon w7 A7 c7 h7 hA7 n0 n1 n2 n3 n4 n5 n6
  clear hcat hcon ho4 ho6 ho7 hg7 h4 h5 h6 q4 q5 q6 q7 hb4 hb5 hA4 hA7 HBA HQ0 HK1 hq hql f0 f5 j1 j2 j3 j4 n0 n1 n2 n3 n4 n5 n6 hs6
  go_wp2_with (go_at_call 70; refine hc7.mono ?_; rintro e w8 ⟨rfl, hb8⟩; have h8 := h7.trans (hb8.mono h7.size))
  go_ret
  exact ⟨rfl, h8⟩
end Go.Proofs.Ythjkogighppeaaa
end

section
namespace Go.Proofs.Ythjkogighppeaaa
open Go.RowKit Go.Sort
set_option linter.unusedVariables false

set_option maxRecDepth 100000 in
set_option maxHeartbeats 8000000 in
theorem with1_any (d : Nat) (cs xs : List Int) (A B K : Option Addr) (c e kk : Nat) (ks : List Fm) (w : World) (n m : Nat) (hn : n < xs.length) (hm : m < xs.length) (hB : IntsAt w B xs) :
    Calls Try.prog 27 #[.slice A cs.length c, .agg #[.int .i64 1, .int .i64 n, .int .i64 m, .slice K ks.length kk], .slice B xs.length e] w (BoolP (decide (itAt xs n = itAt xs m)) w) := by
  have hb0 : Below w.heap.size w (w.alloc (.cells #[.int .i64 1, .int .i64 n, .int .i64 m, .slice K ks.length kk] 34)) := (Below.refl _ _).alloc (Nat.le_refl _) _
  obtain ⟨b1, o1, rfl, hb1, hc1⟩ := (hB.below hb0) (by omega)
  have g1 := hc1 n hn
  have g2 := hc1 m hm
  generalize itAt xs n = p1 at *
  generalize itAt xs m = p2 at *
  have hdw : ∀ W : World, Below w.heap.size W W.drew := fun W => ⟨rfl, rfl, rfl, Nat.le_refl _, fun _ _ => rfl⟩
  clear hc1 hB
  go_enter Try.func27, Try.ntmps27
  go_wp2
  go_region
  go_wp2
  go_ret
  exact ⟨bool_end (by first | rfl | (rw [Bool.eq_iff_iff]; simp)), hb0.trans (hdw _)⟩

set_option maxRecDepth 100000 in
set_option maxHeartbeats 8000000 in
theorem with2_any (d : Nat) (cs xs : List Int) (A B K : Option Addr) (c e kk : Nat) (ks : List Fm) (w : World) (n : Nat) (v : Int) (hn : n < xs.length) (hB : IntsAt w B xs) :
    Calls Try.prog 27 #[.slice A cs.length c, .agg #[.int .i64 2, .int .i64 n, .int .i64 v, .slice K ks.length kk], .slice B xs.length e] w (BoolP (decide (itAt xs n = v)) w) := by
  have hb0 : Below w.heap.size w (w.alloc (.cells #[.int .i64 2, .int .i64 n, .int .i64 v, .slice K ks.length kk] 34)) := (Below.refl _ _).alloc (Nat.le_refl _) _
  obtain ⟨b1, o1, rfl, hb1, hc1⟩ := (hB.below hb0) (by omega)
  have g1 := hc1 n hn
  generalize itAt xs n = p1 at *
  have hdw : ∀ W : World, Below w.heap.size W W.drew := fun W => ⟨rfl, rfl, rfl, Nat.le_refl _, fun _ _ => rfl⟩
  clear hc1 hB
  go_enter Try.func27, Try.ntmps27
  go_wp2
  go_region
  go_wp2
  go_ret
  exact ⟨bool_end (by first | rfl | (rw [Bool.eq_iff_iff]; simp)), hb0.trans (hdw _)⟩

set_option maxRecDepth 100000 in
set_option maxHeartbeats 8000000 in
theorem with3_any (d : Nat) (cs xs : List Int) (A B K : Option Addr) (c e kk : Nat) (ks : List Fm) (w : World) (ih : HoldsP d) (a b : Int) (hl : ks.length = 1) (hw : fwB d xs.length (fmAt ks 0) = true) (hcs : cs.length ≤ 3) (hk : FmsIn w (.slice K ks.length kk) ks) (hA : IntsAt w A cs) (hz : A = none → c = 0) (hB : IntsAt w B xs) (hz2 : B = none → e = 0) :
    Calls Try.prog 27 #[.slice A cs.length c, .agg #[.int .i64 3, .int .i64 a, .int .i64 b, .slice K ks.length kk], .slice B xs.length e] w (BoolP (!holdB d cs (fmAt ks 0) xs) w) := by
  have hb0 : Below w.heap.size w (w.alloc (.cells #[.int .i64 3, .int .i64 a, .int .i64 b, .slice K ks.length kk] 34)) := (Below.refl _ _).alloc (Nat.le_refl _) _
  obtain ⟨b1, o1, rfl, hb1, hc1⟩ := (hk.below hb0).get (by omega)
  obtain ⟨B01, e01, d00, d01, d02, d03, hk0⟩ := hc1 0 (by omega)
  rw [Nat.zero_mul, Nat.add_zero] at d00 d01 d02 d03
  have hct := ih (fmAt ks 0) cs xs A B c e _ (w.alloc (.cells #[.int .i64 3, .int .i64 a, .int .i64 b, .slice (some ⟨b1, o1, none⟩) ks.length kk] 34)) hw hcs (⟨B01, e01, rfl, hk0⟩ : FmIn _ (.agg #[.int .i64 (fmAt ks 0).op, .int .i64 (fmAt ks 0).fa, .int .i64 (fmAt ks 0).fb, .slice B01 (fmAt ks 0).kids.length e01]) (fmAt ks 0)) (hA.below hb0) hz (hB.below hb0) hz2
  rw [hl] at *
  clear hc1 hA hB hk hk0 ih hw
  generalize fmAt ks 0 = u at *
  generalize holdB d cs u xs = r at *
  go_enter Try.func27, Try.ntmps27
  go_wp2_with fail
  refine hct.mono ?_
  rintro e w2 ⟨rfl, hb2⟩
  have hb3 := hb0.trans (hb2.mono hb0.size)
  clear hct d00 d01 d02 d03
  go_wp2
  go_ret
  exact ⟨rfl, hb3⟩

set_option maxRecDepth 100000 in
set_option maxHeartbeats 8000000 in
theorem with6_any (d : Nat) (cs xs : List Int) (A B K : Option Addr) (c e kk : Nat) (ks : List Fm) (w : World) (ih : HoldsP d) (a b : Int) (hl : ks.length = 1) (hw : fwB d ((xs.length : Int) + 1) (fmAt ks 0) = true) (hx4 : xs.length ≤ 4) (hcs : cs.length ≤ 3) (hk : FmsIn w (.slice K ks.length kk) ks) (hA : IntsAt w A cs) (hz : A = none → c = 0) (hB : IntsAt w B xs) (hz2 : B = none → e = 0) :
    Calls Try.prog 27 #[.slice A cs.length c, .agg #[.int .i64 6, .int .i64 a, .int .i64 b, .slice K ks.length kk], .slice B xs.length e] w (BoolP ((quantL cs xs).any fun a => holdB d cs (fmAt ks 0) (xs ++ [a]) == true) w) := by
  have hb0 : Below w.heap.size w (w.alloc (.cells #[.int .i64 6, .int .i64 a, .int .i64 b, .slice K ks.length kk] 34)) := (Below.refl _ _).alloc (Nat.le_refl _) _
  obtain ⟨b1, o1, rfl, hb1, hc1⟩ := (hk.below hb0).get (by omega)
  obtain ⟨B01, e01, d00, d01, d02, d03, hk0⟩ := hc1 0 (by omega)
  rw [Nat.zero_mul, Nat.add_zero] at d00 d01 d02 d03
  have hct := holdsBehind_any d ih (fmAt ks 0) cs xs true A B c e _ (w.alloc (.cells #[.int .i64 6, .int .i64 a, .int .i64 b, .slice (some ⟨b1, o1, none⟩) ks.length kk] 34)) hw hx4 hcs (⟨B01, e01, rfl, hk0⟩ : FmIn _ (.agg #[.int .i64 (fmAt ks 0).op, .int .i64 (fmAt ks 0).fa, .int .i64 (fmAt ks 0).fb, .slice B01 (fmAt ks 0).kids.length e01]) (fmAt ks 0)) (hA.below hb0) hz (hB.below hb0) hz2
  rw [hl] at *
  clear hc1 hA hB hk hk0 ih hw
  generalize ((quantL cs xs).any fun a => holdB d cs (fmAt ks 0) (xs ++ [a]) == true) = r at hct ⊢
  generalize fmAt ks 0 = u at *
  go_enter Try.func27, Try.ntmps27
  go_wp2_with fail
  refine hct.mono ?_
  rintro e w2 ⟨rfl, hb2⟩
  have hb3 := hb0.trans (hb2.mono hb0.size)
  clear hct d00 d01 d02 d03
  go_wp2
  go_ret
  exact ⟨rfl, hb3⟩

set_option maxRecDepth 100000 in
set_option maxHeartbeats 8000000 in
theorem with7_any (d : Nat) (cs xs : List Int) (A B K : Option Addr) (c e kk : Nat) (ks : List Fm) (w : World) (ih : HoldsP d) (a b : Int) (hl : ks.length = 1) (hw : fwB d ((xs.length : Int) + 1) (fmAt ks 0) = true) (hx4 : xs.length ≤ 4) (hcs : cs.length ≤ 3) (hk : FmsIn w (.slice K ks.length kk) ks) (hA : IntsAt w A cs) (hz : A = none → c = 0) (hB : IntsAt w B xs) (hz2 : B = none → e = 0) :
    Calls Try.prog 27 #[.slice A cs.length c, .agg #[.int .i64 7, .int .i64 a, .int .i64 b, .slice K ks.length kk], .slice B xs.length e] w (BoolP (!(quantL cs xs).any fun a => holdB d cs (fmAt ks 0) (xs ++ [a]) == false) w) := by
  have hb0 : Below w.heap.size w (w.alloc (.cells #[.int .i64 7, .int .i64 a, .int .i64 b, .slice K ks.length kk] 34)) := (Below.refl _ _).alloc (Nat.le_refl _) _
  obtain ⟨b1, o1, rfl, hb1, hc1⟩ := (hk.below hb0).get (by omega)
  obtain ⟨B01, e01, d00, d01, d02, d03, hk0⟩ := hc1 0 (by omega)
  rw [Nat.zero_mul, Nat.add_zero] at d00 d01 d02 d03
  have hct := holdsBehind_any d ih (fmAt ks 0) cs xs false A B c e _ (w.alloc (.cells #[.int .i64 7, .int .i64 a, .int .i64 b, .slice (some ⟨b1, o1, none⟩) ks.length kk] 34)) hw hx4 hcs (⟨B01, e01, rfl, hk0⟩ : FmIn _ (.agg #[.int .i64 (fmAt ks 0).op, .int .i64 (fmAt ks 0).fa, .int .i64 (fmAt ks 0).fb, .slice B01 (fmAt ks 0).kids.length e01]) (fmAt ks 0)) (hA.below hb0) hz (hB.below hb0) hz2
  rw [hl] at *
  clear hc1 hA hB hk hk0 ih hw
  generalize ((quantL cs xs).any fun a => holdB d cs (fmAt ks 0) (xs ++ [a]) == false) = r at hct ⊢
  generalize fmAt ks 0 = u at *
  go_enter Try.func27, Try.ntmps27
  go_wp2_with fail
  refine hct.mono ?_
  rintro e w2 ⟨rfl, hb2⟩
  have hb3 := hb0.trans (hb2.mono hb0.size)
  clear hct d00 d01 d02 d03
  go_wp2
  go_ret
  exact ⟨rfl, hb3⟩

set_option maxRecDepth 100000 in
set_option maxHeartbeats 8000000 in
theorem with4_any (d : Nat) (cs xs : List Int) (A B K : Option Addr) (c e kk : Nat) (ks : List Fm) (w : World) (ih : HoldsP d) (a b : Int) (hl : ks.length = 2) (hw : fwB d xs.length (fmAt ks 0) = true) (hw2 : fwB d xs.length (fmAt ks 1) = true) (hcs : cs.length ≤ 3) (hk : FmsIn w (.slice K ks.length kk) ks) (hA : IntsAt w A cs) (hz : A = none → c = 0) (hB : IntsAt w B xs) (hz2 : B = none → e = 0) :
    Calls Try.prog 27 #[.slice A cs.length c, .agg #[.int .i64 4, .int .i64 a, .int .i64 b, .slice K ks.length kk], .slice B xs.length e] w (BoolP (holdB d cs (fmAt ks 0) xs && holdB d cs (fmAt ks 1) xs) w) := by
  have hb0 : Below w.heap.size w (w.alloc (.cells #[.int .i64 4, .int .i64 a, .int .i64 b, .slice K ks.length kk] 34)) := (Below.refl _ _).alloc (Nat.le_refl _) _
  have k0 := heap_alloc_new w (.cells #[.int .i64 4, .int .i64 a, .int .i64 b, .slice K ks.length kk] 34)
  obtain ⟨b1, o1, rfl, hb1, hc1⟩ := (hk.below hb0).get (by omega)
  obtain ⟨B01, e01, d00, d01, d02, d03, hk0⟩ := hc1 0 (by omega)
  rw [Nat.zero_mul, Nat.add_zero] at d00 d01 d02 d03
  obtain ⟨B11, e11, d10, d11, d12, d13, hk1⟩ := hc1 1 (by omega)
  rw [Nat.one_mul] at d10 d11 d12 d13
  have hct := ih (fmAt ks 0) cs xs A B c e _ (w.alloc (.cells #[.int .i64 4, .int .i64 a, .int .i64 b, .slice (some ⟨b1, o1, none⟩) ks.length kk] 34)) hw hcs (⟨B01, e01, rfl, hk0⟩ : FmIn _ (.agg #[.int .i64 (fmAt ks 0).op, .int .i64 (fmAt ks 0).fa, .int .i64 (fmAt ks 0).fb, .slice B01 (fmAt ks 0).kids.length e01]) (fmAt ks 0)) (hA.below hb0) hz (hB.below hb0) hz2
  have hc2 := fun W (h : Below (w.alloc (.cells #[.int .i64 4, .int .i64 a, .int .i64 b, .slice (some ⟨b1, o1, none⟩) ks.length kk] 34)).heap.size (w.alloc (.cells #[.int .i64 4, .int .i64 a, .int .i64 b, .slice (some ⟨b1, o1, none⟩) ks.length kk] 34)) W) => ih (fmAt ks 1) cs xs A B c e _ W hw2 hcs (⟨B11, e11, rfl, hk1.below h⟩ : FmIn W (.agg #[.int .i64 (fmAt ks 1).op, .int .i64 (fmAt ks 1).fa, .int .i64 (fmAt ks 1).fb, .slice B11 (fmAt ks 1).kids.length e11]) (fmAt ks 1)) ((hA.below hb0).below h) hz ((hB.below hb0).below h) hz2
  rw [hl] at *
  clear hc1 hA hB hk hk0 hk1 ih hw hw2
  generalize holdB d cs (fmAt ks 0) xs = r0 at *
  generalize holdB d cs (fmAt ks 1) xs = r1 at *
  generalize fmAt ks 0 = u0 at *
  generalize fmAt ks 1 = u1 at *
  cases r0 with
  | false =>
    clear hc2
    go_enter Try.func27, Try.ntmps27
    go_wp2_with fail
    refine hct.mono ?_
    rintro e w2 ⟨rfl, hb2⟩
    have hb3 := hb0.trans (hb2.mono hb0.size)
    clear hct d00 d01 d02 d03 d10 d11 d12 d13 k0
    go_wp2
    go_ret
    exact ⟨rfl, hb3⟩
  | true =>
    go_enter Try.func27, Try.ntmps27
    go_wp2_with fail
    refine hct.mono ?_
    rintro e w2 ⟨rfl, hb2⟩
    have hb3 := hb0.trans (hb2.mono hb0.size)
    have hk2 := (hb2.block _ (OrbK.box_lt k0)).trans k0
    obtain ⟨m0, m1, m2, m3⟩ := fmRow4 hk2
    have hx0 := (hb2.cell (p := ⟨b1, o1 + 4, none⟩) hb1).trans d10
    have hx1 := (hb2.cell (p := ⟨b1, o1 + 4 + 1, none⟩) hb1).trans d11
    have hx2 := (hb2.cell (p := ⟨b1, o1 + 4 + 2, none⟩) hb1).trans d12
    have hx3 := (hb2.cell (p := ⟨b1, o1 + 4 + 3, none⟩) hb1).trans d13
    have hc3 := hc2 w2 hb2
    clear d00 d01 d02 d03 d10 d11 d12 d13 hct hc2
    go_wp2_with fail
    refine hc3.mono ?_
    rintro e w4 ⟨rfl, hb4⟩
    have hb5 := hb3.trans (hb4.mono hb3.size)
    clear hc3 hb2 hb3 hb4 hx0 hx1 hx2 hx3 m0 m1 m2 m3 hk2 k0
    go_wp2
    go_ret
    exact ⟨bool_end (by cases r1 <;> rfl), hb5⟩

set_option maxRecDepth 100000 in
set_option maxHeartbeats 8000000 in
theorem with5_any (d : Nat) (cs xs : List Int) (A B K : Option Addr) (c e kk : Nat) (ks : List Fm) (w : World) (ih : HoldsP d) (a b : Int) (hl : ks.length = 2) (hw : fwB d xs.length (fmAt ks 0) = true) (hw2 : fwB d xs.length (fmAt ks 1) = true) (hcs : cs.length ≤ 3) (hk : FmsIn w (.slice K ks.length kk) ks) (hA : IntsAt w A cs) (hz : A = none → c = 0) (hB : IntsAt w B xs) (hz2 : B = none → e = 0) :
    Calls Try.prog 27 #[.slice A cs.length c, .agg #[.int .i64 5, .int .i64 a, .int .i64 b, .slice K ks.length kk], .slice B xs.length e] w (BoolP (holdB d cs (fmAt ks 0) xs || holdB d cs (fmAt ks 1) xs) w) := by
  have hb0 : Below w.heap.size w (w.alloc (.cells #[.int .i64 5, .int .i64 a, .int .i64 b, .slice K ks.length kk] 34)) := (Below.refl _ _).alloc (Nat.le_refl _) _
  have k0 := heap_alloc_new w (.cells #[.int .i64 5, .int .i64 a, .int .i64 b, .slice K ks.length kk] 34)
  obtain ⟨b1, o1, rfl, hb1, hc1⟩ := (hk.below hb0).get (by omega)
  obtain ⟨B01, e01, d00, d01, d02, d03, hk0⟩ := hc1 0 (by omega)
  rw [Nat.zero_mul, Nat.add_zero] at d00 d01 d02 d03
  obtain ⟨B11, e11, d10, d11, d12, d13, hk1⟩ := hc1 1 (by omega)
  rw [Nat.one_mul] at d10 d11 d12 d13
  have hct := ih (fmAt ks 0) cs xs A B c e _ (w.alloc (.cells #[.int .i64 5, .int .i64 a, .int .i64 b, .slice (some ⟨b1, o1, none⟩) ks.length kk] 34)) hw hcs (⟨B01, e01, rfl, hk0⟩ : FmIn _ (.agg #[.int .i64 (fmAt ks 0).op, .int .i64 (fmAt ks 0).fa, .int .i64 (fmAt ks 0).fb, .slice B01 (fmAt ks 0).kids.length e01]) (fmAt ks 0)) (hA.below hb0) hz (hB.below hb0) hz2
  have hc2 := fun W (h : Below (w.alloc (.cells #[.int .i64 5, .int .i64 a, .int .i64 b, .slice (some ⟨b1, o1, none⟩) ks.length kk] 34)).heap.size (w.alloc (.cells #[.int .i64 5, .int .i64 a, .int .i64 b, .slice (some ⟨b1, o1, none⟩) ks.length kk] 34)) W) => ih (fmAt ks 1) cs xs A B c e _ W hw2 hcs (⟨B11, e11, rfl, hk1.below h⟩ : FmIn W (.agg #[.int .i64 (fmAt ks 1).op, .int .i64 (fmAt ks 1).fa, .int .i64 (fmAt ks 1).fb, .slice B11 (fmAt ks 1).kids.length e11]) (fmAt ks 1)) ((hA.below hb0).below h) hz ((hB.below hb0).below h) hz2
  rw [hl] at *
  clear hc1 hA hB hk hk0 hk1 ih hw hw2
  generalize holdB d cs (fmAt ks 0) xs = r0 at *
  generalize holdB d cs (fmAt ks 1) xs = r1 at *
  generalize fmAt ks 0 = u0 at *
  generalize fmAt ks 1 = u1 at *
  cases r0 with
  | true =>
    clear hc2
    go_enter Try.func27, Try.ntmps27
    go_wp2_with fail
    refine hct.mono ?_
    rintro e w2 ⟨rfl, hb2⟩
    have hb3 := hb0.trans (hb2.mono hb0.size)
    clear hct d00 d01 d02 d03 d10 d11 d12 d13 k0
    go_wp2
    go_ret
    exact ⟨rfl, hb3⟩
  | false =>
    go_enter Try.func27, Try.ntmps27
    go_wp2_with fail
    refine hct.mono ?_
    rintro e w2 ⟨rfl, hb2⟩
    have hb3 := hb0.trans (hb2.mono hb0.size)
    have hk2 := (hb2.block _ (OrbK.box_lt k0)).trans k0
    obtain ⟨m0, m1, m2, m3⟩ := fmRow4 hk2
    have hx0 := (hb2.cell (p := ⟨b1, o1 + 4, none⟩) hb1).trans d10
    have hx1 := (hb2.cell (p := ⟨b1, o1 + 4 + 1, none⟩) hb1).trans d11
    have hx2 := (hb2.cell (p := ⟨b1, o1 + 4 + 2, none⟩) hb1).trans d12
    have hx3 := (hb2.cell (p := ⟨b1, o1 + 4 + 3, none⟩) hb1).trans d13
    have hc3 := hc2 w2 hb2
    clear d00 d01 d02 d03 d10 d11 d12 d13 hct hc2
    go_wp2_with fail
    refine hc3.mono ?_
    rintro e w4 ⟨rfl, hb4⟩
    have hb5 := hb3.trans (hb4.mono hb3.size)
    clear hc3 hb2 hb3 hb4 hx0 hx1 hx2 hx3 m0 m1 m2 m3 hk2 k0
    go_wp2
    go_ret
    exact ⟨bool_end (by cases r1 <;> rfl), hb5⟩

theorem with_step (d : Nat) (ih : HoldsP d) : HoldsP (d + 1) := by
  intro t cs xs A B c e x w hw hcs hx hA hz hB hz2
  obtain ⟨K, kk, rfl, hk⟩ := hx
  obtain ⟨⟨h0, h4⟩, hc⟩ := fw_cases hw
  have hx4 : xs.length ≤ 4 := by omega
  clear hw
  cases t with
  | mk o a b ks =>
    simp only [Fm.op, Fm.fa, Fm.fb, Fm.kids] at *
    rcases hc with ⟨rfl, h1, h2⟩ | ⟨rfl, h1⟩ | ⟨rfl, hl, h1⟩ | ⟨rfl, hl, h1, h2⟩ | ⟨rfl, hl, h1, h2⟩ | ⟨rfl, hl, h1⟩ | ⟨rfl, hl, h1⟩
    · obtain ⟨n, rfl⟩ : ∃ n : Nat, a = n := ⟨a.toNat, by omega⟩
      obtain ⟨m, rfl⟩ : ∃ m : Nat, b = m := ⟨b.toNat, by omega⟩
      rw [show holdB (d + 1) cs (.mk 1 n m ks) xs = decide (itAt xs n = itAt xs m) from by rw [holdB]; rfl]
      exact with1_any d cs xs A B K c e kk ks w n m (by omega) (by omega) hB
    · obtain ⟨n, rfl⟩ : ∃ n : Nat, a = n := ⟨a.toNat, by omega⟩
      rw [show holdB (d + 1) cs (.mk 2 n b ks) xs = decide (itAt xs n = b) from by rw [holdB]; rfl]
      exact with2_any d cs xs A B K c e kk ks w n b (by omega) hB
    · rw [show holdB (d + 1) cs (.mk 3 a b ks) xs = !holdB d cs (fmAt ks 0) xs from by simp [holdB, Fm.op, Fm.kids]]
      exact with3_any d cs xs A B K c e kk ks w ih a b hl h1 hcs hk hA hz hB hz2
    · rw [show holdB (d + 1) cs (.mk 4 a b ks) xs = (holdB d cs (fmAt ks 0) xs && holdB d cs (fmAt ks 1) xs) from by simp [holdB, Fm.op, Fm.kids]]
      exact with4_any d cs xs A B K c e kk ks w ih a b hl h1 h2 hcs hk hA hz hB hz2
    · rw [show holdB (d + 1) cs (.mk 5 a b ks) xs = (holdB d cs (fmAt ks 0) xs || holdB d cs (fmAt ks 1) xs) from by simp [holdB, Fm.op, Fm.kids]]
      exact with5_any d cs xs A B K c e kk ks w ih a b hl h1 h2 hcs hk hA hz hB hz2
    · rw [show holdB (d + 1) cs (.mk 6 a b ks) xs = ((quantL cs xs).any fun a => holdB d cs (fmAt ks 0) (xs ++ [a]) == true) from by rw [holdB]; rfl]
      exact with6_any d cs xs A B K c e kk ks w ih a b hl h1 hx4 hcs hk hA hz hB hz2
    · rw [show holdB (d + 1) cs (.mk 7 a b ks) xs = (!(quantL cs xs).any fun a => holdB d cs (fmAt ks 0) (xs ++ [a]) == false) from by rw [holdB]; rfl]
      exact with7_any d cs xs A B K c e kk ks w ih a b hl h1 hx4 hcs hk hA hz hB hz2
theorem holdsWith_any : ∀ d : Nat, HoldsP d
  | 0 => fun t cs xs A B c e x w hw => by cases hw
  | d + 1 => with_step d (holdsWith_any d)
end Go.Proofs.Ythjkogighppeaaa
end

section
namespace Go.Proofs.Ythjkogighppeaaa
open Go.RowKit Go.Sort
set_option linter.unusedVariables false

/-- The contract that is handed down. -/
def HoldsM (d : Nat) : Prop := ∀ (t : Fm) (cs xs : List Int) (A B : Option Addr) (c e : Nat) (x : Value) (w : World), fwB d xs.length t = true → cs.length ≤ 3 → AscP cs → FmIn w x t → IntsAt w A cs → (A = none → c = 0) → IntsAt w B xs → (B = none → e = 0) →
  Calls Try.prog 17 #[x, .slice A cs.length c, .slice B xs.length e] w (BoolP (holdB d cs t xs) w)

theorem step_append_intsM {w : World} {ops : Array Oper} {o : Oper} {a : Act} {K : Act → World → Prop} {Q : Exit → Act → World → Prop} {E : Prop} (hgd : o.guard = none) (s x : Operand)
    (ho : o.op = .call { callee := .builtin .append, args := #[s, x], argTypes := #[26, 26] })
    (base : Nat) (v : Value) (n : Nat) (xs : List Value) (hs : a.eval s = v) (hown : w.ownsRow base 3 1 v n xs) (ad : Addr) (c : Nat) (l : List Int) (hx : a.eval x = .slice (some ad) l.length c) (hA : IntsAt w (some ad) l) (h63 : n + l.length ≤ 1099511627776) (hbase : base ≤ w.heap.size)
    (h : ∀ v' w', w'.ownsRow base 3 1 v' (n + l.length) (xs ++ icells l) → w.grownBy w' v.ownBlock → K (a.put o.dst v') w') :
    if Region.wanted o (yielded ops a.tmps) = true then Oper.wp Try.prog o a w K Q else E := by
  have hw : Region.wanted o (yielded ops a.tmps) = true := by simp [Region.wanted, hgd]
  rw [if_pos hw]
  obtain ⟨i0, hi0, hz0, hz1, hz2⟩ := info_parts int_infoM
  obtain ⟨v', w', hr, h2, h3, _⟩ := run_append_own (P := Try.prog) w base 26 o.type 3 i0 (.int .i64 0) 1 8 Try.underlying26 hi0 hz0 hz1 hz2 rfl (by decide) v n xs hown ad l.length c (icells l) (by rw [icells_len, Nat.mul_one]) (ints_news hA) (icells_one l) (by unfold maxLen; omega) (by omega) hbase
  unfold Oper.wp execOp
  simp only [ho, resolve, invoke, builtin, Sem.run_bind, Sem.run_pure, Result.andThen_ok, List.map_toArray, List.map_cons, List.map_nil, hs, hx, hr]
  exact h v' w' h2 h3

theorem leastF_same {l m : List Int} (h : ∀ a, a ∈ l ↔ a ∈ m) : leastF l = leastF m := by
  have e : ∀ a, hasB l a = hasB m a := fun a => by
    unfold hasB
    rw [Bool.eq_iff_iff, List.contains_iff_mem, List.contains_iff_mem]
    exact h a
  unfold leastF
  simp only [e]
def quantR (r b : Bool) : Bool := if r then b else !b
theorem quant_same {cs xs : List Int} (P : Int → Bool) : (quantL cs xs).any P = ((insAll cs xs) ++ [leastF (insAll cs xs)]).any P := by
  have hm : ∀ a, a ∈ cs ++ xs ↔ a ∈ insAll cs xs := fun a => by rw [mem_insAll, List.mem_append]
  have hl := leastF_same hm
  have ha : (cs ++ xs).any P = (insAll cs xs).any P := by
    rw [Bool.eq_iff_iff, List.any_eq_true, List.any_eq_true]
    exact ⟨fun ⟨a, h1, h2⟩ => ⟨a, (hm a).1 h1, h2⟩, fun ⟨a, h1, h2⟩ => ⟨a, (hm a).2 h1, h2⟩⟩
  unfold quantL
  rw [hl, List.any_append (xs := cs ++ xs), List.any_append (xs := insAll cs xs), ha]

set_option maxRecDepth 100000 in
set_option maxHeartbeats 8000000 in
theorem mwith1_any (d : Nat) (cs xs : List Int) (A B K : Option Addr) (c e kk : Nat) (ks : List Fm) (w : World) (n m : Nat) (hn : n < xs.length) (hm : m < xs.length) (hB : IntsAt w B xs) :
    Calls Try.prog 17 #[.agg #[.int .i64 1, .int .i64 n, .int .i64 m, .slice K ks.length kk], .slice A cs.length c, .slice B xs.length e] w (BoolP (decide (itAt xs n = itAt xs m)) w) := by
  have hb0 : Below w.heap.size w (w.alloc (.cells #[.int .i64 1, .int .i64 n, .int .i64 m, .slice K ks.length kk] 34)) := (Below.refl _ _).alloc (Nat.le_refl _) _
  obtain ⟨b1, o1, rfl, hb1, hc1⟩ := (hB.below hb0) (by omega)
  have g1 := hc1 n hn
  have g2 := hc1 m hm
  generalize itAt xs n = p1 at *
  generalize itAt xs m = p2 at *
  have hdw : ∀ W : World, Below w.heap.size W W.drew := fun W => ⟨rfl, rfl, rfl, Nat.le_refl _, fun _ _ => rfl⟩
  clear hc1 hB
  go_enter Try.func17, Try.ntmps17
  go_wp2
  go_region
  go_wp2
  go_ret
  exact ⟨bool_end (by first | rfl | (rw [Bool.eq_iff_iff]; simp)), hb0.trans (hdw _)⟩

set_option maxRecDepth 100000 in
set_option maxHeartbeats 8000000 in
theorem mwith2_any (d : Nat) (cs xs : List Int) (A B K : Option Addr) (c e kk : Nat) (ks : List Fm) (w : World) (n : Nat) (v : Int) (hn : n < xs.length) (hB : IntsAt w B xs) :
    Calls Try.prog 17 #[.agg #[.int .i64 2, .int .i64 n, .int .i64 v, .slice K ks.length kk], .slice A cs.length c, .slice B xs.length e] w (BoolP (decide (itAt xs n = v)) w) := by
  have hb0 : Below w.heap.size w (w.alloc (.cells #[.int .i64 2, .int .i64 n, .int .i64 v, .slice K ks.length kk] 34)) := (Below.refl _ _).alloc (Nat.le_refl _) _
  obtain ⟨b1, o1, rfl, hb1, hc1⟩ := (hB.below hb0) (by omega)
  have g1 := hc1 n hn
  generalize itAt xs n = p1 at *
  have hdw : ∀ W : World, Below w.heap.size W W.drew := fun W => ⟨rfl, rfl, rfl, Nat.le_refl _, fun _ _ => rfl⟩
  clear hc1 hB
  go_enter Try.func17, Try.ntmps17
  go_wp2
  go_region
  go_wp2
  go_ret
  exact ⟨bool_end (by first | rfl | (rw [Bool.eq_iff_iff]; simp)), hb0.trans (hdw _)⟩

set_option maxRecDepth 100000 in
set_option maxHeartbeats 8000000 in
theorem mwith3_any (d : Nat) (cs xs : List Int) (A B K : Option Addr) (c e kk : Nat) (ks : List Fm) (w : World) (ih : HoldsM d) (a b : Int) (hl : ks.length = 1) (hw : fwB d xs.length (fmAt ks 0) = true) (hcs : cs.length ≤ 3) (hac : AscP cs) (hk : FmsIn w (.slice K ks.length kk) ks) (hA : IntsAt w A cs) (hz : A = none → c = 0) (hB : IntsAt w B xs) (hz2 : B = none → e = 0) :
    Calls Try.prog 17 #[.agg #[.int .i64 3, .int .i64 a, .int .i64 b, .slice K ks.length kk], .slice A cs.length c, .slice B xs.length e] w (BoolP (!holdB d cs (fmAt ks 0) xs) w) := by
  have hb0 : Below w.heap.size w (w.alloc (.cells #[.int .i64 3, .int .i64 a, .int .i64 b, .slice K ks.length kk] 34)) := (Below.refl _ _).alloc (Nat.le_refl _) _
  obtain ⟨b1, o1, rfl, hb1, hc1⟩ := (hk.below hb0).get (by omega)
  obtain ⟨B01, e01, d00, d01, d02, d03, hk0⟩ := hc1 0 (by omega)
  rw [Nat.zero_mul, Nat.add_zero] at d00 d01 d02 d03
  have hct := ih (fmAt ks 0) cs xs A B c e _ (w.alloc (.cells #[.int .i64 3, .int .i64 a, .int .i64 b, .slice (some ⟨b1, o1, none⟩) ks.length kk] 34)) hw hcs hac (⟨B01, e01, rfl, hk0⟩ : FmIn _ (.agg #[.int .i64 (fmAt ks 0).op, .int .i64 (fmAt ks 0).fa, .int .i64 (fmAt ks 0).fb, .slice B01 (fmAt ks 0).kids.length e01]) (fmAt ks 0)) (hA.below hb0) hz (hB.below hb0) hz2
  rw [hl] at *
  clear hc1 hA hB hk hk0 ih hw
  generalize fmAt ks 0 = u at *
  generalize holdB d cs u xs = r at *
  go_enter Try.func17, Try.ntmps17
  go_wp2_with fail
  refine hct.mono ?_
  rintro e w2 ⟨rfl, hb2⟩
  have hb3 := hb0.trans (hb2.mono hb0.size)
  clear hct d00 d01 d02 d03
  go_wp2
  go_ret
  exact ⟨rfl, hb3⟩

set_option maxRecDepth 100000 in
set_option maxHeartbeats 8000000 in
theorem mwith4_any (d : Nat) (cs xs : List Int) (A B K : Option Addr) (c e kk : Nat) (ks : List Fm) (w : World) (ih : HoldsM d) (a b : Int) (hl : ks.length = 2) (hw : fwB d xs.length (fmAt ks 0) = true) (hw2 : fwB d xs.length (fmAt ks 1) = true) (hcs : cs.length ≤ 3) (hac : AscP cs) (hk : FmsIn w (.slice K ks.length kk) ks) (hA : IntsAt w A cs) (hz : A = none → c = 0) (hB : IntsAt w B xs) (hz2 : B = none → e = 0) :
    Calls Try.prog 17 #[.agg #[.int .i64 4, .int .i64 a, .int .i64 b, .slice K ks.length kk], .slice A cs.length c, .slice B xs.length e] w (BoolP (holdB d cs (fmAt ks 0) xs && holdB d cs (fmAt ks 1) xs) w) := by
  have hb0 : Below w.heap.size w (w.alloc (.cells #[.int .i64 4, .int .i64 a, .int .i64 b, .slice K ks.length kk] 34)) := (Below.refl _ _).alloc (Nat.le_refl _) _
  have k0 := heap_alloc_new w (.cells #[.int .i64 4, .int .i64 a, .int .i64 b, .slice K ks.length kk] 34)
  obtain ⟨b1, o1, rfl, hb1, hc1⟩ := (hk.below hb0).get (by omega)
  obtain ⟨B01, e01, d00, d01, d02, d03, hk0⟩ := hc1 0 (by omega)
  rw [Nat.zero_mul, Nat.add_zero] at d00 d01 d02 d03
  obtain ⟨B11, e11, d10, d11, d12, d13, hk1⟩ := hc1 1 (by omega)
  rw [Nat.one_mul] at d10 d11 d12 d13
  have hct := ih (fmAt ks 0) cs xs A B c e _ (w.alloc (.cells #[.int .i64 4, .int .i64 a, .int .i64 b, .slice (some ⟨b1, o1, none⟩) ks.length kk] 34)) hw hcs hac (⟨B01, e01, rfl, hk0⟩ : FmIn _ (.agg #[.int .i64 (fmAt ks 0).op, .int .i64 (fmAt ks 0).fa, .int .i64 (fmAt ks 0).fb, .slice B01 (fmAt ks 0).kids.length e01]) (fmAt ks 0)) (hA.below hb0) hz (hB.below hb0) hz2
  have hc2 := fun W (h : Below (w.alloc (.cells #[.int .i64 4, .int .i64 a, .int .i64 b, .slice (some ⟨b1, o1, none⟩) ks.length kk] 34)).heap.size (w.alloc (.cells #[.int .i64 4, .int .i64 a, .int .i64 b, .slice (some ⟨b1, o1, none⟩) ks.length kk] 34)) W) => ih (fmAt ks 1) cs xs A B c e _ W hw2 hcs hac (⟨B11, e11, rfl, hk1.below h⟩ : FmIn W (.agg #[.int .i64 (fmAt ks 1).op, .int .i64 (fmAt ks 1).fa, .int .i64 (fmAt ks 1).fb, .slice B11 (fmAt ks 1).kids.length e11]) (fmAt ks 1)) ((hA.below hb0).below h) hz ((hB.below hb0).below h) hz2
  rw [hl] at *
  clear hc1 hA hB hk hk0 hk1 ih hw hw2
  generalize holdB d cs (fmAt ks 0) xs = r0 at *
  generalize holdB d cs (fmAt ks 1) xs = r1 at *
  generalize fmAt ks 0 = u0 at *
  generalize fmAt ks 1 = u1 at *
  cases r0 with
  | false =>
    clear hc2
    go_enter Try.func17, Try.ntmps17
    go_wp2_with fail
    refine hct.mono ?_
    rintro e w2 ⟨rfl, hb2⟩
    have hb3 := hb0.trans (hb2.mono hb0.size)
    clear hct d00 d01 d02 d03 d10 d11 d12 d13 k0
    go_wp2
    go_ret
    exact ⟨rfl, hb3⟩
  | true =>
    go_enter Try.func17, Try.ntmps17
    go_wp2_with fail
    refine hct.mono ?_
    rintro e w2 ⟨rfl, hb2⟩
    have hb3 := hb0.trans (hb2.mono hb0.size)
    have hk2 := (hb2.block _ (OrbK.box_lt k0)).trans k0
    obtain ⟨m0, m1, m2, m3⟩ := fmRow4 hk2
    have hx0 := (hb2.cell (p := ⟨b1, o1 + 4, none⟩) hb1).trans d10
    have hx1 := (hb2.cell (p := ⟨b1, o1 + 4 + 1, none⟩) hb1).trans d11
    have hx2 := (hb2.cell (p := ⟨b1, o1 + 4 + 2, none⟩) hb1).trans d12
    have hx3 := (hb2.cell (p := ⟨b1, o1 + 4 + 3, none⟩) hb1).trans d13
    have hc3 := hc2 w2 hb2
    clear d00 d01 d02 d03 d10 d11 d12 d13 hct hc2
    go_wp2_with fail
    refine hc3.mono ?_
    rintro e w4 ⟨rfl, hb4⟩
    have hb5 := hb3.trans (hb4.mono hb3.size)
    clear hc3 hb2 hb3 hb4 hx0 hx1 hx2 hx3 m0 m1 m2 m3 hk2 k0
    go_wp2
    go_ret
    exact ⟨bool_end (by cases r1 <;> rfl), hb5⟩

set_option maxRecDepth 100000 in
set_option maxHeartbeats 8000000 in
theorem mwith5_any (d : Nat) (cs xs : List Int) (A B K : Option Addr) (c e kk : Nat) (ks : List Fm) (w : World) (ih : HoldsM d) (a b : Int) (hl : ks.length = 2) (hw : fwB d xs.length (fmAt ks 0) = true) (hw2 : fwB d xs.length (fmAt ks 1) = true) (hcs : cs.length ≤ 3) (hac : AscP cs) (hk : FmsIn w (.slice K ks.length kk) ks) (hA : IntsAt w A cs) (hz : A = none → c = 0) (hB : IntsAt w B xs) (hz2 : B = none → e = 0) :
    Calls Try.prog 17 #[.agg #[.int .i64 5, .int .i64 a, .int .i64 b, .slice K ks.length kk], .slice A cs.length c, .slice B xs.length e] w (BoolP (holdB d cs (fmAt ks 0) xs || holdB d cs (fmAt ks 1) xs) w) := by
  have hb0 : Below w.heap.size w (w.alloc (.cells #[.int .i64 5, .int .i64 a, .int .i64 b, .slice K ks.length kk] 34)) := (Below.refl _ _).alloc (Nat.le_refl _) _
  have k0 := heap_alloc_new w (.cells #[.int .i64 5, .int .i64 a, .int .i64 b, .slice K ks.length kk] 34)
  obtain ⟨b1, o1, rfl, hb1, hc1⟩ := (hk.below hb0).get (by omega)
  obtain ⟨B01, e01, d00, d01, d02, d03, hk0⟩ := hc1 0 (by omega)
  rw [Nat.zero_mul, Nat.add_zero] at d00 d01 d02 d03
  obtain ⟨B11, e11, d10, d11, d12, d13, hk1⟩ := hc1 1 (by omega)
  rw [Nat.one_mul] at d10 d11 d12 d13
  have hct := ih (fmAt ks 0) cs xs A B c e _ (w.alloc (.cells #[.int .i64 5, .int .i64 a, .int .i64 b, .slice (some ⟨b1, o1, none⟩) ks.length kk] 34)) hw hcs hac (⟨B01, e01, rfl, hk0⟩ : FmIn _ (.agg #[.int .i64 (fmAt ks 0).op, .int .i64 (fmAt ks 0).fa, .int .i64 (fmAt ks 0).fb, .slice B01 (fmAt ks 0).kids.length e01]) (fmAt ks 0)) (hA.below hb0) hz (hB.below hb0) hz2
  have hc2 := fun W (h : Below (w.alloc (.cells #[.int .i64 5, .int .i64 a, .int .i64 b, .slice (some ⟨b1, o1, none⟩) ks.length kk] 34)).heap.size (w.alloc (.cells #[.int .i64 5, .int .i64 a, .int .i64 b, .slice (some ⟨b1, o1, none⟩) ks.length kk] 34)) W) => ih (fmAt ks 1) cs xs A B c e _ W hw2 hcs hac (⟨B11, e11, rfl, hk1.below h⟩ : FmIn W (.agg #[.int .i64 (fmAt ks 1).op, .int .i64 (fmAt ks 1).fa, .int .i64 (fmAt ks 1).fb, .slice B11 (fmAt ks 1).kids.length e11]) (fmAt ks 1)) ((hA.below hb0).below h) hz ((hB.below hb0).below h) hz2
  rw [hl] at *
  clear hc1 hA hB hk hk0 hk1 ih hw hw2
  generalize holdB d cs (fmAt ks 0) xs = r0 at *
  generalize holdB d cs (fmAt ks 1) xs = r1 at *
  generalize fmAt ks 0 = u0 at *
  generalize fmAt ks 1 = u1 at *
  cases r0 with
  | true =>
    clear hc2
    go_enter Try.func17, Try.ntmps17
    go_wp2_with fail
    refine hct.mono ?_
    rintro e w2 ⟨rfl, hb2⟩
    have hb3 := hb0.trans (hb2.mono hb0.size)
    clear hct d00 d01 d02 d03 d10 d11 d12 d13 k0
    go_wp2
    go_ret
    exact ⟨rfl, hb3⟩
  | false =>
    go_enter Try.func17, Try.ntmps17
    go_wp2_with fail
    refine hct.mono ?_
    rintro e w2 ⟨rfl, hb2⟩
    have hb3 := hb0.trans (hb2.mono hb0.size)
    have hk2 := (hb2.block _ (OrbK.box_lt k0)).trans k0
    obtain ⟨m0, m1, m2, m3⟩ := fmRow4 hk2
    have hx0 := (hb2.cell (p := ⟨b1, o1 + 4, none⟩) hb1).trans d10
    have hx1 := (hb2.cell (p := ⟨b1, o1 + 4 + 1, none⟩) hb1).trans d11
    have hx2 := (hb2.cell (p := ⟨b1, o1 + 4 + 2, none⟩) hb1).trans d12
    have hx3 := (hb2.cell (p := ⟨b1, o1 + 4 + 3, none⟩) hb1).trans d13
    have hc3 := hc2 w2 hb2
    clear d00 d01 d02 d03 d10 d11 d12 d13 hct hc2
    go_wp2_with fail
    refine hc3.mono ?_
    rintro e w4 ⟨rfl, hb4⟩
    have hb5 := hb3.trans (hb4.mono hb3.size)
    clear hc3 hb2 hb3 hb4 hx0 hx1 hx2 hx3 m0 m1 m2 m3 hk2 k0
    go_wp2
    go_ret
    exact ⟨bool_end (by cases r1 <;> rfl), hb5⟩

set_option maxRecDepth 100000 in
set_option maxHeartbeats 8000000 in
theorem mwith6_any (d : Nat) (cs xs : List Int) (A B K : Option Addr) (c e kk : Nat) (ks : List Fm) (w : World) (ih : HoldsM d) (a b : Int) (hl : ks.length = 1) (hw : fwB d ((xs.length : Int) + 1) (fmAt ks 0) = true) (hx4 : xs.length ≤ 4) (hcs : cs.length ≤ 3) (hac : AscP cs) (hk : FmsIn w (.slice K ks.length kk) ks) (hA : IntsAt w A cs) (hz : A = none → c = 0) (hB : IntsAt w B xs) (hz2 : B = none → e = 0) :
    Calls Try.prog 17 #[.agg #[.int .i64 6, .int .i64 a, .int .i64 b, .slice K ks.length kk], .slice A cs.length c, .slice B xs.length e] w (BoolP (((quantL cs xs).any fun a => holdB d cs (fmAt ks 0) (xs ++ [a]) == true)) w) := by
  have hb0 : Below w.heap.size w (w.alloc (.cells #[.int .i64 6, .int .i64 a, .int .i64 b, .slice K ks.length kk] 34)) := (Below.refl _ _).alloc (Nat.le_refl _) _
  have k0 := heap_alloc_new w (.cells #[.int .i64 6, .int .i64 a, .int .i64 b, .slice K ks.length kk] 34)
  obtain ⟨b1, o1, rfl, hb1, hc1⟩ := hk.get (by omega)
  obtain ⟨B01, e01, d00, d01, d02, d03, hk0⟩ := hc1 0 (by omega)
  rw [Nat.zero_mul, Nat.add_zero] at d00 d01 d02 d03
  have hun := l6Union_any A B c e cs xs (w.alloc (.cells #[.int .i64 6, .int .i64 a, .int .i64 b, .slice (some ⟨b1, o1, none⟩) ks.length kk] 34)) (hA.below hb0) hz hac (hB.below hb0) (by omega) (by omega)
  have hil := insAll_len cs xs
  have hq : Hid (((quantL cs xs).any fun a => holdB d cs (fmAt ks 0) (xs ++ [a]) == true) = quantR (((insAll cs xs) ++ [leastF (insAll cs xs)]).any (fun a => holdB d cs (fmAt ks 0) (xs ++ [a]) == true)) true) := Lib.hid (by rw [quant_same]; cases ((insAll cs xs) ++ [leastF (insAll cs xs)]).any (fun a => holdB d cs (fmAt ks 0) (xs ++ [a]) == true) <;> rfl)
  rw [hq.out]
  clear hq
  have hre := fun W (h : Below w.heap.size w W) (y : Int) (A4 : Option Addr) (c4 : Nat) (h4 : IntsAt W A4 (xs ++ [y])) (hz4 : A4 = none → c4 = 0) => ih (fmAt ks 0) cs (xs ++ [y]) A A4 c c4 _ W (by rw [List.length_append]; exact hw) hcs hac (⟨B01, e01, rfl, hk0.below h⟩ : FmIn W (.agg #[.int .i64 (fmAt ks 0).op, .int .i64 (fmAt ks 0).fa, .int .i64 (fmAt ks 0).fb, .slice B01 (fmAt ks 0).kids.length e01]) (fmAt ks 0)) (hA.below h) hz h4 hz4
  have hcp := fun W (h : Below w.heap.size w W) => l1Copy_ints B e xs W (hB.below h) hz2 (by omega)
  obtain ⟨P, hP⟩ : ∃ P : Int → Bool, P = fun a => holdB d cs (fmAt ks 0) (xs ++ [a]) == true := ⟨_, rfl⟩
  have hPe := Lib.hid (fun a => (show P a = (holdB d cs (fmAt ks 0) (xs ++ [a]) == true) from by rw [hP]))
  rw [← hP]
  clear hP
  rw [hl] at *
  clear hc1 hA hB hk hk0 ih hw
  generalize fmAt ks 0 = u at *
  generalize insAll cs xs = X at *
  have HD : ∀ W : World, Below W.heap.size W W.drew := fun W => ⟨rfl, rfl, rfl, Nat.le_refl _, fun _ _ => rfl⟩
  go_enter Try.func17, Try.ntmps17
  go_wp2_with fail
  refine hun.mono ?_
  rintro e w2 ⟨g2, cap2, rfl, ho2, hb2⟩
  have h2 := hb0.trans (hb2.mono hb0.size)
  have hX2 := ints_own ho2
  have h3 := h2.alloc h2.size (.cells #[.int .i64 (leastF X)] 3)
  have ho3 := (own_le ho2 hb0.size).alloc (.cells #[.int .i64 (leastF X)] 3)
  have k2 := (hb2.block _ (OrbK.box_lt k0)).trans k0
  clear hun
  go_wp2_with (first
    | (go_at_call 42; refine (least_spec (some ⟨g2, 0, none⟩) cap2 X w2 hX2 (by omega)).mono ?_; rintro e w5 ⟨rfl, rfl⟩)
    | (at_builtin; refine wpList_append_ints rfl (.tmp 88) (.tmp 91) rfl w.heap.size _ X.length _ rfl ho3 (some ⟨w2.heap.size, 0, none⟩) 1 [leastF X] rfl (one_ints w2 _ _) (fun h => by cases h) ?c3 ?c5 ?_))
  case c3 => simp; omega
  case c5 => exact h3.size
  intro v7 w7 ho7 hg7
  have h7 : Below w.heap.size w w7 := below_own h3 ho3 (Nat.le_refl _) h3.size hg7
  have hQe : Hid (icells X ++ icells [leastF X] = icells (X ++ [leastF X])) := Lib.hid (by simp [icells])
  have hQl : Hid (X.length + 1 = (X ++ [leastF X]).length) := Lib.hid (by simp)
  rw [hQl.out, hQe.out] at ho7
  have hQ9 : (X ++ [leastF X]).length ≤ 9 := by simp; omega
  have hg7b : Below (w.heap.size + 1) (w.alloc (.cells #[.int .i64 6, .int .i64 a, .int .i64 b, .slice (some ⟨b1, o1, none⟩) 1 kk] 34)) w7 := by
    have hz1 : (w.alloc (.cells #[.int .i64 6, .int .i64 a, .int .i64 b, .slice (some ⟨b1, o1, none⟩) 1 kk] 34)).heap.size = w.heap.size + 1 := World.size_alloc _ _
    rw [hz1] at ho2 hb2
    have hb3 := hb2.alloc (by rw [← hz1]; exact hb2.size) (.cells #[.int .i64 (leastF X)] 3)
    exact below_own hb3 (ho2.alloc (.cells #[.int .i64 (leastF X)] 3)) (Nat.le_refl _) (by rw [← hz1]; exact hb3.size) hg7
  have k7 := (hg7b.block w.heap.size (Nat.lt_succ_self _)).trans k0
  generalize hQ : X ++ [leastF X] = Q at *
  obtain ⟨A7, c7, rfl, hA7⟩ := own_intsAt ho7
  have HB : Hid (∀ w' : World, Below w7.heap.size w7 w' → w'.cell? ⟨w.heap.size, 0, none⟩ = some (.int .i64 6) ∧ w'.cell? ⟨w.heap.size, 1, none⟩ = some (.int .i64 a) ∧ w'.cell? ⟨w.heap.size, 2, none⟩ = some (.int .i64 b) ∧ w'.cell? ⟨w.heap.size, 3, none⟩ = some (.slice (some ⟨b1, o1, none⟩) 1 kk) ∧ w'.cell? ⟨b1, o1, none⟩ = some (.int .i64 u.op) ∧ w'.cell? ⟨b1, o1 + 1, none⟩ = some (.int .i64 u.fa) ∧ w'.cell? ⟨b1, o1 + 2, none⟩ = some (.int .i64 u.fb) ∧ w'.cell? ⟨b1, o1 + 3, none⟩ = some (.slice B01 u.kids.length e01)) := Lib.hid (fun w' h => by
    obtain ⟨m0, m1, m2, m3⟩ := fmRow4 ((h.block _ (OrbK.box_lt k7)).trans k7)
    have hc := fun (q : Nat) => (h7.trans (h.mono h7.size)).cell (p := ⟨b1, q, none⟩) hb1
    exact ⟨m0, m1, m2, m3, (hc _).trans d00, (hc _).trans d01, (hc _).trans d02, (hc _).trans d03⟩)
  clear ho2 ho3 ho7 hg7 hg7b h2 h3 hb2 hX2 k0 k2 k7 hb0 d00 d01 d02 d03 hQe hQl hQ hil
  go_wp2
  go_loopw [10, 95] (fun _ i wr => ∃ j : Nat, j ≤ Q.length ∧ i = .int .i64 j ∧ Hid (∀ q, q < j → P (itAt Q q) = false) ∧ Below w.heap.size w wr ∧ Below w7.heap.size w7 wr) (fun _ i _ => Q.length - (intOf i).toNat)
  case atStart => exact ⟨0, Nat.zero_le _, rfl, Lib.hid (fun q hq => absurd hq (by omega)), h7, Below.refl _ _⟩
  case round =>
    obtain ⟨j, hj, rfl, hn, hb, hg⟩ := hrel
    by_cases hlt : j < Q.length
    · obtain ⟨b7, o7, rfl, hb7, hc7⟩ := (hA7.below hg) (by omega)
      have f7 := hc7 j hlt
      have hx := hPe.out (itAt Q j)
      cases hx2 : P (itAt Q j) with
      | true =>
        have hyes := Lib.hid (any_yes hlt hx2)
        rw [hx2] at hx
        generalize hy : itAt Q j = y at *
        have hr : holdB d cs u (xs ++ [y]) = true := by simpa using hx.symm
        have hre1 := fun W h A4 c4 h4 hz4 => hre W h y A4 c4 h4 hz4
        rw [hr] at hre1
        have eL : Hid (xs.length + [y].length = (xs ++ [y]).length) := Lib.hid (by simp)
        have eI : Hid (icells xs ++ icells [y] = icells (xs ++ [y])) := Lib.hid (by simp [icells])
        clear hre hr
        generalize xs ++ [y] = Y at *
        obtain ⟨m0, m1, m2, m3, m4, m5, m6, m7⟩ := HB.out wr.drew (hg.trans ((HD wr).mono hg.size))
        have hA1 := hb.trans ((HD wr).mono hb.size)
        have gA1 := hg.trans ((HD wr).mono hg.size)
        have hB0 := hb.alloc hb.size (.cells #[.int .i64 y] 3)
        have gB0 := hg.alloc hg.size (.cells #[.int .i64 y] 3)
        have hB1 := hB0.trans ((HD _).mono hB0.size)
        have gB1 := gB0.trans ((HD _).mono gB0.size)
        have hoB := (one_ints wr y 3).below (HD _)
        obtain ⟨r0, r1, r2, r3, r4, r5, r6, r7⟩ := HB.out _ gB1
        have hcpA := hcp _ hA1
        have hcpB := hcp _ hB1
        clear hc7 hA7 hPe hn hy hx hx2
        go_wp2
        go_region_held3 (fun w' => w'.cell? ⟨w.heap.size, 0, none⟩ = some (.int .i64 6) ∧ w'.cell? ⟨w.heap.size, 1, none⟩ = some (.int .i64 a) ∧ w'.cell? ⟨w.heap.size, 2, none⟩ = some (.int .i64 b) ∧ w'.cell? ⟨w.heap.size, 3, none⟩ = some (.slice (some ⟨b1, o1, none⟩) 1 kk) ∧ w'.cell? ⟨b1, o1, none⟩ = some (.int .i64 u.op) ∧ w'.cell? ⟨b1, o1 + 1, none⟩ = some (.int .i64 u.fa) ∧ w'.cell? ⟨b1, o1 + 2, none⟩ = some (.int .i64 u.fb) ∧ w'.cell? ⟨b1, o1 + 3, none⟩ = some (.slice B01 u.kids.length e01))
          (first | (with_reducible exact ⟨by assumption, by assumption, by assumption, by assumption, by assumption, by assumption, by assumption, by assumption⟩) | ((try dsimp only); exact ⟨by assumption, by assumption, by assumption, by assumption, by assumption, by assumption, by assumption, by assumption⟩) | go_keep)
          (first
            | (go_at_call 41; (with_reducible refine hcpA.mono ?_); rintro e w4 ⟨v4, rfl, ho4, hb4⟩; have h4 := hA1.trans (hb4.mono hA1.size); have g4 := gA1.trans (hb4.mono gA1.size); have h5 := h4.alloc h4.size (.cells #[.int .i64 y] 3); have g5 := g4.alloc g4.size (.cells #[.int .i64 y] 3); have ho5 := (own_le ho4 hA1.size).alloc (.cells #[.int .i64 y] 3); have ho5b := (own_le ho4 gA1.size).alloc (.cells #[.int .i64 y] 3); have hone := one_ints w4 y 3; obtain ⟨n0, n1, n2, n3, n4, n5, n6, n7⟩ := HB.out w4 g4)
            | (go_at_call 41; (with_reducible refine hcpB.mono ?_); rintro e w4 ⟨v4, rfl, ho4, hb4⟩; have h5 := hB1.trans (hb4.mono hB1.size); have g5 := gB1.trans (hb4.mono gB1.size); have ho5 := own_le ho4 hB1.size; have ho5b := own_le ho4 gB1.size; have hone := hoB.below hb4; obtain ⟨n0, n1, n2, n3, n4, n5, n6, n7⟩ := HB.out w4 g5)
            | (refine step_append_intsM (by rfl) _ _ (by rfl) w.heap.size _ xs.length _ (by rfl) ho5 _ 1 [y] (by rfl) hone (by simp; omega) h5.size ?_; intro v6 w6 ho6 hg6; rw [eL.out, eI.out] at ho6; obtain ⟨A6, c6, rfl, hA6⟩ := own_intsAt ho6; have hz6 := hz_ownH ho6; have h6 := below_own h5 ho5 (Nat.le_refl _) h5.size hg6; have g6 := below_own g5 ho5b (Nat.le_refl _) g5.size hg6; have hrec := hre1 w6 h6 A6 c6 hA6 hz6; obtain ⟨p0, p1, p2, p3, p4, p5, p6, p7⟩ := HB.out w6 g6)
            | (go_at_call 17; (with_reducible refine hrec.mono ?_); rintro e w7 ⟨rfl, hb7⟩; have h7 := h6.trans (hb7.mono h6.size); have g7 := g6.trans (hb7.mono g6.size); obtain ⟨s0, s1, s2, s3, s4, s5, s6, s7⟩ := HB.out w7 g7)
            | fail)
        all_goals (
          clear hcp hcpA hcpB hre1 hrec
          go_wp2
          go_ret
          exact ⟨bool_end (by rw [hyes.out]; rfl), h7⟩)
      | false =>
        have hn2 : Hid (∀ q, q < j + 1 → P (itAt Q q) = false) := Lib.hid (fun q hq => by
          by_cases e : q = j
          · rw [e]; exact hx2
          · exact hn.out q (by omega))
        rw [hx2] at hx
        generalize hy : itAt Q j = y at *
        have hr : holdB d cs u (xs ++ [y]) = false := by simpa using hx.symm
        have hre1 := fun W h A4 c4 h4 hz4 => hre W h y A4 c4 h4 hz4
        rw [hr] at hre1
        have eL : Hid (xs.length + [y].length = (xs ++ [y]).length) := Lib.hid (by simp)
        have eI : Hid (icells xs ++ icells [y] = icells (xs ++ [y])) := Lib.hid (by simp [icells])
        clear hre hr
        generalize xs ++ [y] = Y at *
        obtain ⟨m0, m1, m2, m3, m4, m5, m6, m7⟩ := HB.out wr.drew (hg.trans ((HD wr).mono hg.size))
        have hA1 := hb.trans ((HD wr).mono hb.size)
        have gA1 := hg.trans ((HD wr).mono hg.size)
        have hB0 := hb.alloc hb.size (.cells #[.int .i64 y] 3)
        have gB0 := hg.alloc hg.size (.cells #[.int .i64 y] 3)
        have hB1 := hB0.trans ((HD _).mono hB0.size)
        have gB1 := gB0.trans ((HD _).mono gB0.size)
        have hoB := (one_ints wr y 3).below (HD _)
        obtain ⟨r0, r1, r2, r3, r4, r5, r6, r7⟩ := HB.out _ gB1
        have hcpA := hcp _ hA1
        have hcpB := hcp _ hB1
        clear hc7 hA7 hPe hn hy hx hx2
        go_wp2
        go_region_held3 (fun w' => w'.cell? ⟨w.heap.size, 0, none⟩ = some (.int .i64 6) ∧ w'.cell? ⟨w.heap.size, 1, none⟩ = some (.int .i64 a) ∧ w'.cell? ⟨w.heap.size, 2, none⟩ = some (.int .i64 b) ∧ w'.cell? ⟨w.heap.size, 3, none⟩ = some (.slice (some ⟨b1, o1, none⟩) 1 kk) ∧ w'.cell? ⟨b1, o1, none⟩ = some (.int .i64 u.op) ∧ w'.cell? ⟨b1, o1 + 1, none⟩ = some (.int .i64 u.fa) ∧ w'.cell? ⟨b1, o1 + 2, none⟩ = some (.int .i64 u.fb) ∧ w'.cell? ⟨b1, o1 + 3, none⟩ = some (.slice B01 u.kids.length e01))
          (first | (with_reducible exact ⟨by assumption, by assumption, by assumption, by assumption, by assumption, by assumption, by assumption, by assumption⟩) | ((try dsimp only); exact ⟨by assumption, by assumption, by assumption, by assumption, by assumption, by assumption, by assumption, by assumption⟩) | go_keep)
          (first
            | (go_at_call 41; (with_reducible refine hcpA.mono ?_); rintro e w4 ⟨v4, rfl, ho4, hb4⟩; have h4 := hA1.trans (hb4.mono hA1.size); have g4 := gA1.trans (hb4.mono gA1.size); have h5 := h4.alloc h4.size (.cells #[.int .i64 y] 3); have g5 := g4.alloc g4.size (.cells #[.int .i64 y] 3); have ho5 := (own_le ho4 hA1.size).alloc (.cells #[.int .i64 y] 3); have ho5b := (own_le ho4 gA1.size).alloc (.cells #[.int .i64 y] 3); have hone := one_ints w4 y 3; obtain ⟨n0, n1, n2, n3, n4, n5, n6, n7⟩ := HB.out w4 g4)
            | (go_at_call 41; (with_reducible refine hcpB.mono ?_); rintro e w4 ⟨v4, rfl, ho4, hb4⟩; have h5 := hB1.trans (hb4.mono hB1.size); have g5 := gB1.trans (hb4.mono gB1.size); have ho5 := own_le ho4 hB1.size; have ho5b := own_le ho4 gB1.size; have hone := hoB.below hb4; obtain ⟨n0, n1, n2, n3, n4, n5, n6, n7⟩ := HB.out w4 g5)
            | (refine step_append_intsM (by rfl) _ _ (by rfl) w.heap.size _ xs.length _ (by rfl) ho5 _ 1 [y] (by rfl) hone (by simp; omega) h5.size ?_; intro v6 w6 ho6 hg6; rw [eL.out, eI.out] at ho6; obtain ⟨A6, c6, rfl, hA6⟩ := own_intsAt ho6; have hz6 := hz_ownH ho6; have h6 := below_own h5 ho5 (Nat.le_refl _) h5.size hg6; have g6 := below_own g5 ho5b (Nat.le_refl _) g5.size hg6; have hrec := hre1 w6 h6 A6 c6 hA6 hz6; obtain ⟨p0, p1, p2, p3, p4, p5, p6, p7⟩ := HB.out w6 g6)
            | (go_at_call 17; (with_reducible refine hrec.mono ?_); rintro e w7 ⟨rfl, hb7⟩; have h7 := h6.trans (hb7.mono h6.size); have g7 := g6.trans (hb7.mono g6.size); obtain ⟨s0, s1, s2, s3, s4, s5, s6, s7⟩ := HB.out w7 g7)
            | fail)
        all_goals (
          clear hcp hcpA hcpB hre1 hrec
          go_wp2
          refine ⟨⟨j + 1, by omega, by go_num, hn2, h7, g7⟩, ?_⟩
          simp only [intOf]
          omega)
    · have hno := Lib.hid (any_no (P := P) hn.out (by omega))
      clear hn hA7 hPe hre hcp HB
      go_wp2
      go_ret
      exact ⟨bool_end (by rw [hno.out]; rfl), hb⟩

set_option maxRecDepth 100000 in
set_option maxHeartbeats 8000000 in
theorem mwith7_any (d : Nat) (cs xs : List Int) (A B K : Option Addr) (c e kk : Nat) (ks : List Fm) (w : World) (ih : HoldsM d) (a b : Int) (hl : ks.length = 1) (hw : fwB d ((xs.length : Int) + 1) (fmAt ks 0) = true) (hx4 : xs.length ≤ 4) (hcs : cs.length ≤ 3) (hac : AscP cs) (hk : FmsIn w (.slice K ks.length kk) ks) (hA : IntsAt w A cs) (hz : A = none → c = 0) (hB : IntsAt w B xs) (hz2 : B = none → e = 0) :
    Calls Try.prog 17 #[.agg #[.int .i64 7, .int .i64 a, .int .i64 b, .slice K ks.length kk], .slice A cs.length c, .slice B xs.length e] w (BoolP ((!(quantL cs xs).any fun a => holdB d cs (fmAt ks 0) (xs ++ [a]) == false)) w) := by
  have hb0 : Below w.heap.size w (w.alloc (.cells #[.int .i64 7, .int .i64 a, .int .i64 b, .slice K ks.length kk] 34)) := (Below.refl _ _).alloc (Nat.le_refl _) _
  have k0 := heap_alloc_new w (.cells #[.int .i64 7, .int .i64 a, .int .i64 b, .slice K ks.length kk] 34)
  obtain ⟨b1, o1, rfl, hb1, hc1⟩ := hk.get (by omega)
  obtain ⟨B01, e01, d00, d01, d02, d03, hk0⟩ := hc1 0 (by omega)
  rw [Nat.zero_mul, Nat.add_zero] at d00 d01 d02 d03
  have hun := l6Union_any A B c e cs xs (w.alloc (.cells #[.int .i64 7, .int .i64 a, .int .i64 b, .slice (some ⟨b1, o1, none⟩) ks.length kk] 34)) (hA.below hb0) hz hac (hB.below hb0) (by omega) (by omega)
  have hil := insAll_len cs xs
  have hq : Hid ((!(quantL cs xs).any fun a => holdB d cs (fmAt ks 0) (xs ++ [a]) == false) = quantR (((insAll cs xs) ++ [leastF (insAll cs xs)]).any (fun a => holdB d cs (fmAt ks 0) (xs ++ [a]) == false)) false) := Lib.hid (by rw [quant_same]; cases ((insAll cs xs) ++ [leastF (insAll cs xs)]).any (fun a => holdB d cs (fmAt ks 0) (xs ++ [a]) == false) <;> rfl)
  rw [hq.out]
  clear hq
  have hre := fun W (h : Below w.heap.size w W) (y : Int) (A4 : Option Addr) (c4 : Nat) (h4 : IntsAt W A4 (xs ++ [y])) (hz4 : A4 = none → c4 = 0) => ih (fmAt ks 0) cs (xs ++ [y]) A A4 c c4 _ W (by rw [List.length_append]; exact hw) hcs hac (⟨B01, e01, rfl, hk0.below h⟩ : FmIn W (.agg #[.int .i64 (fmAt ks 0).op, .int .i64 (fmAt ks 0).fa, .int .i64 (fmAt ks 0).fb, .slice B01 (fmAt ks 0).kids.length e01]) (fmAt ks 0)) (hA.below h) hz h4 hz4
  have hcp := fun W (h : Below w.heap.size w W) => l1Copy_ints B e xs W (hB.below h) hz2 (by omega)
  obtain ⟨P, hP⟩ : ∃ P : Int → Bool, P = fun a => holdB d cs (fmAt ks 0) (xs ++ [a]) == false := ⟨_, rfl⟩
  have hPe := Lib.hid (fun a => (show P a = (holdB d cs (fmAt ks 0) (xs ++ [a]) == false) from by rw [hP]))
  rw [← hP]
  clear hP
  rw [hl] at *
  clear hc1 hA hB hk hk0 ih hw
  generalize fmAt ks 0 = u at *
  generalize insAll cs xs = X at *
  have HD : ∀ W : World, Below W.heap.size W W.drew := fun W => ⟨rfl, rfl, rfl, Nat.le_refl _, fun _ _ => rfl⟩
  go_enter Try.func17, Try.ntmps17
  go_wp2_with fail
  refine hun.mono ?_
  rintro e w2 ⟨g2, cap2, rfl, ho2, hb2⟩
  have h2 := hb0.trans (hb2.mono hb0.size)
  have hX2 := ints_own ho2
  have h3 := h2.alloc h2.size (.cells #[.int .i64 (leastF X)] 3)
  have ho3 := (own_le ho2 hb0.size).alloc (.cells #[.int .i64 (leastF X)] 3)
  have k2 := (hb2.block _ (OrbK.box_lt k0)).trans k0
  clear hun
  go_wp2_with (first
    | (go_at_call 42; refine (least_spec (some ⟨g2, 0, none⟩) cap2 X w2 hX2 (by omega)).mono ?_; rintro e w5 ⟨rfl, rfl⟩)
    | (at_builtin; refine wpList_append_ints rfl (.tmp 88) (.tmp 91) rfl w.heap.size _ X.length _ rfl ho3 (some ⟨w2.heap.size, 0, none⟩) 1 [leastF X] rfl (one_ints w2 _ _) (fun h => by cases h) ?c3 ?c5 ?_))
  case c3 => simp; omega
  case c5 => exact h3.size
  intro v7 w7 ho7 hg7
  have h7 : Below w.heap.size w w7 := below_own h3 ho3 (Nat.le_refl _) h3.size hg7
  have hQe : Hid (icells X ++ icells [leastF X] = icells (X ++ [leastF X])) := Lib.hid (by simp [icells])
  have hQl : Hid (X.length + 1 = (X ++ [leastF X]).length) := Lib.hid (by simp)
  rw [hQl.out, hQe.out] at ho7
  have hQ9 : (X ++ [leastF X]).length ≤ 9 := by simp; omega
  have hg7b : Below (w.heap.size + 1) (w.alloc (.cells #[.int .i64 7, .int .i64 a, .int .i64 b, .slice (some ⟨b1, o1, none⟩) 1 kk] 34)) w7 := by
    have hz1 : (w.alloc (.cells #[.int .i64 7, .int .i64 a, .int .i64 b, .slice (some ⟨b1, o1, none⟩) 1 kk] 34)).heap.size = w.heap.size + 1 := World.size_alloc _ _
    rw [hz1] at ho2 hb2
    have hb3 := hb2.alloc (by rw [← hz1]; exact hb2.size) (.cells #[.int .i64 (leastF X)] 3)
    exact below_own hb3 (ho2.alloc (.cells #[.int .i64 (leastF X)] 3)) (Nat.le_refl _) (by rw [← hz1]; exact hb3.size) hg7
  have k7 := (hg7b.block w.heap.size (Nat.lt_succ_self _)).trans k0
  generalize hQ : X ++ [leastF X] = Q at *
  obtain ⟨A7, c7, rfl, hA7⟩ := own_intsAt ho7
  have HB : Hid (∀ w' : World, Below w7.heap.size w7 w' → w'.cell? ⟨w.heap.size, 0, none⟩ = some (.int .i64 7) ∧ w'.cell? ⟨w.heap.size, 1, none⟩ = some (.int .i64 a) ∧ w'.cell? ⟨w.heap.size, 2, none⟩ = some (.int .i64 b) ∧ w'.cell? ⟨w.heap.size, 3, none⟩ = some (.slice (some ⟨b1, o1, none⟩) 1 kk) ∧ w'.cell? ⟨b1, o1, none⟩ = some (.int .i64 u.op) ∧ w'.cell? ⟨b1, o1 + 1, none⟩ = some (.int .i64 u.fa) ∧ w'.cell? ⟨b1, o1 + 2, none⟩ = some (.int .i64 u.fb) ∧ w'.cell? ⟨b1, o1 + 3, none⟩ = some (.slice B01 u.kids.length e01)) := Lib.hid (fun w' h => by
    obtain ⟨m0, m1, m2, m3⟩ := fmRow4 ((h.block _ (OrbK.box_lt k7)).trans k7)
    have hc := fun (q : Nat) => (h7.trans (h.mono h7.size)).cell (p := ⟨b1, q, none⟩) hb1
    exact ⟨m0, m1, m2, m3, (hc _).trans d00, (hc _).trans d01, (hc _).trans d02, (hc _).trans d03⟩)
  clear ho2 ho3 ho7 hg7 hg7b h2 h3 hb2 hX2 k0 k2 k7 hb0 d00 d01 d02 d03 hQe hQl hQ hil
  go_wp2
  go_loopw [10, 95] (fun _ i wr => ∃ j : Nat, j ≤ Q.length ∧ i = .int .i64 j ∧ Hid (∀ q, q < j → P (itAt Q q) = false) ∧ Below w.heap.size w wr ∧ Below w7.heap.size w7 wr) (fun _ i _ => Q.length - (intOf i).toNat)
  case atStart => exact ⟨0, Nat.zero_le _, rfl, Lib.hid (fun q hq => absurd hq (by omega)), h7, Below.refl _ _⟩
  case round =>
    obtain ⟨j, hj, rfl, hn, hb, hg⟩ := hrel
    by_cases hlt : j < Q.length
    · obtain ⟨b7, o7, rfl, hb7, hc7⟩ := (hA7.below hg) (by omega)
      have f7 := hc7 j hlt
      have hx := hPe.out (itAt Q j)
      cases hx2 : P (itAt Q j) with
      | true =>
        have hyes := Lib.hid (any_yes hlt hx2)
        rw [hx2] at hx
        generalize hy : itAt Q j = y at *
        have hr : holdB d cs u (xs ++ [y]) = false := by simpa using hx.symm
        have hre1 := fun W h A4 c4 h4 hz4 => hre W h y A4 c4 h4 hz4
        rw [hr] at hre1
        have eL : Hid (xs.length + [y].length = (xs ++ [y]).length) := Lib.hid (by simp)
        have eI : Hid (icells xs ++ icells [y] = icells (xs ++ [y])) := Lib.hid (by simp [icells])
        clear hre hr
        generalize xs ++ [y] = Y at *
        obtain ⟨m0, m1, m2, m3, m4, m5, m6, m7⟩ := HB.out wr.drew (hg.trans ((HD wr).mono hg.size))
        have hA1 := hb.trans ((HD wr).mono hb.size)
        have gA1 := hg.trans ((HD wr).mono hg.size)
        have hB0 := hb.alloc hb.size (.cells #[.int .i64 y] 3)
        have gB0 := hg.alloc hg.size (.cells #[.int .i64 y] 3)
        have hB1 := hB0.trans ((HD _).mono hB0.size)
        have gB1 := gB0.trans ((HD _).mono gB0.size)
        have hoB := (one_ints wr y 3).below (HD _)
        obtain ⟨r0, r1, r2, r3, r4, r5, r6, r7⟩ := HB.out _ gB1
        have hcpA := hcp _ hA1
        have hcpB := hcp _ hB1
        clear hc7 hA7 hPe hn hy hx hx2
        go_wp2
        go_region_held3 (fun w' => w'.cell? ⟨w.heap.size, 0, none⟩ = some (.int .i64 7) ∧ w'.cell? ⟨w.heap.size, 1, none⟩ = some (.int .i64 a) ∧ w'.cell? ⟨w.heap.size, 2, none⟩ = some (.int .i64 b) ∧ w'.cell? ⟨w.heap.size, 3, none⟩ = some (.slice (some ⟨b1, o1, none⟩) 1 kk) ∧ w'.cell? ⟨b1, o1, none⟩ = some (.int .i64 u.op) ∧ w'.cell? ⟨b1, o1 + 1, none⟩ = some (.int .i64 u.fa) ∧ w'.cell? ⟨b1, o1 + 2, none⟩ = some (.int .i64 u.fb) ∧ w'.cell? ⟨b1, o1 + 3, none⟩ = some (.slice B01 u.kids.length e01))
          (first | (with_reducible exact ⟨by assumption, by assumption, by assumption, by assumption, by assumption, by assumption, by assumption, by assumption⟩) | ((try dsimp only); exact ⟨by assumption, by assumption, by assumption, by assumption, by assumption, by assumption, by assumption, by assumption⟩) | go_keep)
          (first
            | (go_at_call 41; (with_reducible refine hcpA.mono ?_); rintro e w4 ⟨v4, rfl, ho4, hb4⟩; have h4 := hA1.trans (hb4.mono hA1.size); have g4 := gA1.trans (hb4.mono gA1.size); have h5 := h4.alloc h4.size (.cells #[.int .i64 y] 3); have g5 := g4.alloc g4.size (.cells #[.int .i64 y] 3); have ho5 := (own_le ho4 hA1.size).alloc (.cells #[.int .i64 y] 3); have ho5b := (own_le ho4 gA1.size).alloc (.cells #[.int .i64 y] 3); have hone := one_ints w4 y 3; obtain ⟨n0, n1, n2, n3, n4, n5, n6, n7⟩ := HB.out w4 g4)
            | (go_at_call 41; (with_reducible refine hcpB.mono ?_); rintro e w4 ⟨v4, rfl, ho4, hb4⟩; have h5 := hB1.trans (hb4.mono hB1.size); have g5 := gB1.trans (hb4.mono gB1.size); have ho5 := own_le ho4 hB1.size; have ho5b := own_le ho4 gB1.size; have hone := hoB.below hb4; obtain ⟨n0, n1, n2, n3, n4, n5, n6, n7⟩ := HB.out w4 g5)
            | (refine step_append_intsM (by rfl) _ _ (by rfl) w.heap.size _ xs.length _ (by rfl) ho5 _ 1 [y] (by rfl) hone (by simp; omega) h5.size ?_; intro v6 w6 ho6 hg6; rw [eL.out, eI.out] at ho6; obtain ⟨A6, c6, rfl, hA6⟩ := own_intsAt ho6; have hz6 := hz_ownH ho6; have h6 := below_own h5 ho5 (Nat.le_refl _) h5.size hg6; have g6 := below_own g5 ho5b (Nat.le_refl _) g5.size hg6; have hrec := hre1 w6 h6 A6 c6 hA6 hz6; obtain ⟨p0, p1, p2, p3, p4, p5, p6, p7⟩ := HB.out w6 g6)
            | (go_at_call 17; (with_reducible refine hrec.mono ?_); rintro e w7 ⟨rfl, hb7⟩; have h7 := h6.trans (hb7.mono h6.size); have g7 := g6.trans (hb7.mono g6.size); obtain ⟨s0, s1, s2, s3, s4, s5, s6, s7⟩ := HB.out w7 g7)
            | fail)
        all_goals (
          clear hcp hcpA hcpB hre1 hrec
          go_wp2
          go_ret
          exact ⟨bool_end (by rw [hyes.out]; rfl), h7⟩)
      | false =>
        have hn2 : Hid (∀ q, q < j + 1 → P (itAt Q q) = false) := Lib.hid (fun q hq => by
          by_cases e : q = j
          · rw [e]; exact hx2
          · exact hn.out q (by omega))
        rw [hx2] at hx
        generalize hy : itAt Q j = y at *
        have hr : holdB d cs u (xs ++ [y]) = true := by simpa using hx.symm
        have hre1 := fun W h A4 c4 h4 hz4 => hre W h y A4 c4 h4 hz4
        rw [hr] at hre1
        have eL : Hid (xs.length + [y].length = (xs ++ [y]).length) := Lib.hid (by simp)
        have eI : Hid (icells xs ++ icells [y] = icells (xs ++ [y])) := Lib.hid (by simp [icells])
        clear hre hr
        generalize xs ++ [y] = Y at *
        obtain ⟨m0, m1, m2, m3, m4, m5, m6, m7⟩ := HB.out wr.drew (hg.trans ((HD wr).mono hg.size))
        have hA1 := hb.trans ((HD wr).mono hb.size)
        have gA1 := hg.trans ((HD wr).mono hg.size)
        have hB0 := hb.alloc hb.size (.cells #[.int .i64 y] 3)
        have gB0 := hg.alloc hg.size (.cells #[.int .i64 y] 3)
        have hB1 := hB0.trans ((HD _).mono hB0.size)
        have gB1 := gB0.trans ((HD _).mono gB0.size)
        have hoB := (one_ints wr y 3).below (HD _)
        obtain ⟨r0, r1, r2, r3, r4, r5, r6, r7⟩ := HB.out _ gB1
        have hcpA := hcp _ hA1
        have hcpB := hcp _ hB1
        clear hc7 hA7 hPe hn hy hx hx2
        go_wp2
        go_region_held3 (fun w' => w'.cell? ⟨w.heap.size, 0, none⟩ = some (.int .i64 7) ∧ w'.cell? ⟨w.heap.size, 1, none⟩ = some (.int .i64 a) ∧ w'.cell? ⟨w.heap.size, 2, none⟩ = some (.int .i64 b) ∧ w'.cell? ⟨w.heap.size, 3, none⟩ = some (.slice (some ⟨b1, o1, none⟩) 1 kk) ∧ w'.cell? ⟨b1, o1, none⟩ = some (.int .i64 u.op) ∧ w'.cell? ⟨b1, o1 + 1, none⟩ = some (.int .i64 u.fa) ∧ w'.cell? ⟨b1, o1 + 2, none⟩ = some (.int .i64 u.fb) ∧ w'.cell? ⟨b1, o1 + 3, none⟩ = some (.slice B01 u.kids.length e01))
          (first | (with_reducible exact ⟨by assumption, by assumption, by assumption, by assumption, by assumption, by assumption, by assumption, by assumption⟩) | ((try dsimp only); exact ⟨by assumption, by assumption, by assumption, by assumption, by assumption, by assumption, by assumption, by assumption⟩) | go_keep)
          (first
            | (go_at_call 41; (with_reducible refine hcpA.mono ?_); rintro e w4 ⟨v4, rfl, ho4, hb4⟩; have h4 := hA1.trans (hb4.mono hA1.size); have g4 := gA1.trans (hb4.mono gA1.size); have h5 := h4.alloc h4.size (.cells #[.int .i64 y] 3); have g5 := g4.alloc g4.size (.cells #[.int .i64 y] 3); have ho5 := (own_le ho4 hA1.size).alloc (.cells #[.int .i64 y] 3); have ho5b := (own_le ho4 gA1.size).alloc (.cells #[.int .i64 y] 3); have hone := one_ints w4 y 3; obtain ⟨n0, n1, n2, n3, n4, n5, n6, n7⟩ := HB.out w4 g4)
            | (go_at_call 41; (with_reducible refine hcpB.mono ?_); rintro e w4 ⟨v4, rfl, ho4, hb4⟩; have h5 := hB1.trans (hb4.mono hB1.size); have g5 := gB1.trans (hb4.mono gB1.size); have ho5 := own_le ho4 hB1.size; have ho5b := own_le ho4 gB1.size; have hone := hoB.below hb4; obtain ⟨n0, n1, n2, n3, n4, n5, n6, n7⟩ := HB.out w4 g5)
            | (refine step_append_intsM (by rfl) _ _ (by rfl) w.heap.size _ xs.length _ (by rfl) ho5 _ 1 [y] (by rfl) hone (by simp; omega) h5.size ?_; intro v6 w6 ho6 hg6; rw [eL.out, eI.out] at ho6; obtain ⟨A6, c6, rfl, hA6⟩ := own_intsAt ho6; have hz6 := hz_ownH ho6; have h6 := below_own h5 ho5 (Nat.le_refl _) h5.size hg6; have g6 := below_own g5 ho5b (Nat.le_refl _) g5.size hg6; have hrec := hre1 w6 h6 A6 c6 hA6 hz6; obtain ⟨p0, p1, p2, p3, p4, p5, p6, p7⟩ := HB.out w6 g6)
            | (go_at_call 17; (with_reducible refine hrec.mono ?_); rintro e w7 ⟨rfl, hb7⟩; have h7 := h6.trans (hb7.mono h6.size); have g7 := g6.trans (hb7.mono g6.size); obtain ⟨s0, s1, s2, s3, s4, s5, s6, s7⟩ := HB.out w7 g7)
            | fail)
        all_goals (
          clear hcp hcpA hcpB hre1 hrec
          go_wp2
          refine ⟨⟨j + 1, by omega, by go_num, hn2, h7, g7⟩, ?_⟩
          simp only [intOf]
          omega)
    · have hno := Lib.hid (any_no (P := P) hn.out (by omega))
      clear hn hA7 hPe hre hcp HB
      go_wp2
      go_ret
      exact ⟨bool_end (by rw [hno.out]; rfl), hb⟩

theorem mwith_step (d : Nat) (ih : HoldsM d) : HoldsM (d + 1) := by
  intro t cs xs A B c e x w hw hcs hac hx hA hz hB hz2
  obtain ⟨K, kk, rfl, hk⟩ := hx
  obtain ⟨⟨h0, h4⟩, hc⟩ := fw_cases hw
  have hx4 : xs.length ≤ 4 := by omega
  clear hw
  cases t with
  | mk o a b ks =>
    simp only [Fm.op, Fm.fa, Fm.fb, Fm.kids] at *
    rcases hc with ⟨rfl, h1, h2⟩ | ⟨rfl, h1⟩ | ⟨rfl, hl, h1⟩ | ⟨rfl, hl, h1, h2⟩ | ⟨rfl, hl, h1, h2⟩ | ⟨rfl, hl, h1⟩ | ⟨rfl, hl, h1⟩
    · obtain ⟨n, rfl⟩ : ∃ n : Nat, a = n := ⟨a.toNat, by omega⟩
      obtain ⟨m, rfl⟩ : ∃ m : Nat, b = m := ⟨b.toNat, by omega⟩
      rw [show holdB (d + 1) cs (.mk 1 n m ks) xs = decide (itAt xs n = itAt xs m) from by rw [holdB]; rfl]
      exact mwith1_any d cs xs A B K c e kk ks w n m (by omega) (by omega) hB
    · obtain ⟨n, rfl⟩ : ∃ n : Nat, a = n := ⟨a.toNat, by omega⟩
      rw [show holdB (d + 1) cs (.mk 2 n b ks) xs = decide (itAt xs n = b) from by rw [holdB]; rfl]
      exact mwith2_any d cs xs A B K c e kk ks w n b (by omega) hB
    · rw [show holdB (d + 1) cs (.mk 3 a b ks) xs = !holdB d cs (fmAt ks 0) xs from by simp [holdB, Fm.op, Fm.kids]]
      exact mwith3_any d cs xs A B K c e kk ks w ih a b hl h1 hcs hac hk hA hz hB hz2
    · rw [show holdB (d + 1) cs (.mk 4 a b ks) xs = (holdB d cs (fmAt ks 0) xs && holdB d cs (fmAt ks 1) xs) from by simp [holdB, Fm.op, Fm.kids]]
      exact mwith4_any d cs xs A B K c e kk ks w ih a b hl h1 h2 hcs hac hk hA hz hB hz2
    · rw [show holdB (d + 1) cs (.mk 5 a b ks) xs = (holdB d cs (fmAt ks 0) xs || holdB d cs (fmAt ks 1) xs) from by simp [holdB, Fm.op, Fm.kids]]
      exact mwith5_any d cs xs A B K c e kk ks w ih a b hl h1 h2 hcs hac hk hA hz hB hz2
    · rw [show holdB (d + 1) cs (.mk 6 a b ks) xs = ((quantL cs xs).any fun a => holdB d cs (fmAt ks 0) (xs ++ [a]) == true) from by rw [holdB]; rfl]
      exact mwith6_any d cs xs A B K c e kk ks w ih a b hl h1 hx4 hcs hac hk hA hz hB hz2
    · rw [show holdB (d + 1) cs (.mk 7 a b ks) xs = (!(quantL cs xs).any fun a => holdB d cs (fmAt ks 0) (xs ++ [a]) == false) from by rw [holdB]; rfl]
      exact mwith7_any d cs xs A B K c e kk ks w ih a b hl h1 hx4 hcs hac hk hA hz hB hz2
theorem l6Holds_any : ∀ d : Nat, HoldsM d
  | 0 => fun t cs xs A B c e x w hw => by cases hw
  | d + 1 => mwith_step d (l6Holds_any d)
end Go.Proofs.Ythjkogighppeaaa
end

