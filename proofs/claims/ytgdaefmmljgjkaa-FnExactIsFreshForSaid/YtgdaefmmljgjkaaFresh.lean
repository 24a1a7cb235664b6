/-
  Whether an atom is fresh for a ground term: in the program and in the model, as contracts.
-/
import Derived.Test.YtgdaefmmljgjkaaFreeL
import Derived.Test.YtgdaefmmljgjkaaHas
import Derived.Test.YtgdaefmmljgjkaaHolesI
namespace Go.Proofs.Ytgdaefmmljgjkaa
open Go.RowKit Go.Sort
set_option linter.unusedVariables false

set_option maxHeartbeats 800000 in
theorem index_any (A : Option Addr) (c : Nat) (l : List Int) (a : Int) (w : World) (hA : IntsAt w A l) (hl : l.length ≤ 1099511627776) :
    Calls Try.prog 94 #[.slice A l.length c, .int .i64 a] w fun e w' => ∃ r : Int, e = .returned (.int .i64 r) ∧ decide (0 ≤ r) = hasB l a ∧ w = w' := by
  go_enter Try.func94, Try.ntmps94
  go_wp2
  go_loop [8] (fun i => ∃ k : Nat, k ≤ l.length ∧ i = .int .i64 k ∧ Hid (∀ j, j < k → itAt l j ≠ a)) (fun i => l.length - (intOf i).toNat)
  case atStart => exact ⟨0, Nat.zero_le _, rfl, Lib.hid (fun j hj => by omega)⟩
  case round =>
    obtain ⟨k, hk, rfl, hq⟩ := hrel
    by_cases hlt : k < l.length
    · obtain ⟨b1, o1, rfl, hb1, hc1⟩ := hA (by omega)
      have c1 := hc1 k hlt
      clear hc1 hA
      by_cases he : itAt l k = a
      · have hres : Hid (decide (0 ≤ (k : Int)) = hasB l a) := by
          show decide (0 ≤ (k : Int)) = hasB l a
          rw [decide_eq_true (by omega)]
          symm
          unfold hasB
          rw [List.contains_iff_mem, ← he, itAt_get l k hlt]
          exact List.getElem_mem hlt
        have q1 : (a == itAt l k) = true := by simp [he]
        generalize itAt l k = x at c1 q1
        clear hq he
        go_wp2
        go_ret
        exact ⟨k, rfl, hres.out, rfl⟩
      · have q1 : (a == itAt l k) = false := by simp; exact fun e => he e.symm
        have hn : Hid (∀ j, j < k + 1 → itAt l j ≠ a) := by
          intro j hj
          by_cases e : j = k
          · rw [e]; exact he
          · exact hq.out j (by omega)
        generalize itAt l k = x at c1 q1
        clear hq he
        go_wp2
        go_round
        case rel => exact ⟨k + 1, by omega, by go_num, hn⟩
        case measure => simp [intOf]; omega
    · have hres : Hid (decide (0 ≤ (-1 : Int)) = hasB l a) := by
        show decide (0 ≤ (-1 : Int)) = hasB l a
        rw [decide_eq_false (by omega)]
        symm
        unfold hasB
        rw [← Bool.not_eq_true, List.contains_iff_mem]
        intro hmem
        obtain ⟨j, hj, e⟩ := List.getElem_of_mem hmem
        exact hq.out j (by omega) (by rw [itAt_get l j hj]; exact e)
      clear hq hA
      go_wp2
      go_ret
      exact ⟨-1, rfl, hres.out, rfl⟩

theorem contains_any (A : Option Addr) (c : Nat) (l : List Int) (a : Int) (w : World) (hA : IntsAt w A l) (hl : l.length ≤ 1099511627776) :
    Calls Try.prog 74 #[.slice A l.length c, .int .i64 a] w fun e w' => e = .returned (.bool (hasB l a)) ∧ w = w' := by
  have hix := index_any A c l a w hA hl
  go_enter Try.func74, Try.ntmps74
  go_wp2_with fail
  refine hix.mono ?_
  rintro e w' ⟨r, rfl, hr, rfl⟩
  have HR := Lib.hid hr
  clear hr hix
  by_cases h0 : 0 ≤ r
  · have hq : hasB l a = true := by rw [← HR.out]; simp [h0]
    have HQ := Lib.hid hq
    clear hq HR
    go_wp2
    go_ret
    exact ⟨bool_end HQ.out.symm, rfl⟩
  · go_wp2
    go_ret
    exact ⟨bool_end HR.out, rfl⟩

set_option maxRecDepth 100000 in
theorem isFreeIn_any (t : Tm) (q : Nat → Prop) (a : Int) (fv : Value) (w : World) (hf : FIn w q fv t) (hsz : szT t ≤ 1048576) :
    Calls Try.prog 49 #[.int .i64 a, fv] w (BoolPost (hasB (freeT t) a) w) := by
  obtain ⟨fx, rfl⟩ := hf.iface
  have hct := free_any (szT t) t (Nat.le_refl _) hsz q w fx hf
  have hm := askFree t
  have hn := enterFree t
  have hl := freeT_len t
  generalize freeF t = F at hm hn hct
  generalize fty t = T at hm hf
  generalize freeT t = L at hct hl ⊢
  go_enter Try.func49, Try.ntmps49
  go_wp2_with fail
  refine hct.mono ?_
  rintro e w2 ⟨g2, cap2, rfl, ho2, hb2⟩
  have hia : IntsAt w2 (some ⟨g2, 0, none⟩) L := by
    obtain ⟨A, c, e, h⟩ := own_intsAt ho2
    simp only [Value.slice.injEq] at e
    rw [e.1]
    exact h
  have hco := contains_any (some ⟨g2, 0, none⟩) cap2 L a w2 hia (by omega)
  clear hct ho2 hia
  go_wp2_with fail
  refine hco.mono ?_
  rintro e w3 ⟨rfl, rfl⟩
  clear hco
  go_wp2
  go_ret
  exact ⟨rfl, hb2⟩

/-- Fresh for a ground term. -/
def freshB (a : Int) (t : Tm) : Bool := atomB a && (groundB t && !hasB (freeT t) a)
theorem ground_term {t : Tm} (h : groundB t = true) : isTermB t = true := by
  unfold groundB at h
  simp only [Bool.and_eq_true] at h
  exact h.1
theorem fresh_no1 {a : Int} {t : Tm} (h : atomB a = false) : freshB a t = false := by simp [freshB, h]
theorem fresh_no2 {a : Int} {t : Tm} (h : groundB t = false) : freshB a t = false := by simp [freshB, h]
theorem fresh_yes {a : Int} {t : Tm} (h : atomB a = true) (hg : groundB t = true) : freshB a t = !hasB (freeT t) a := by simp [freshB, h, hg]

set_option maxRecDepth 100000 in
set_option maxHeartbeats 2000000 in
theorem freshFor_impl (a : Int) (t : Tm) (x : Value) (w : World) (hx : TmIn w x t) (hf : Fit t) :
    Calls Try.prog 18 #[.int .i64 a, x] w (BoolPost (freshB a t) w) := by
  have hgd := fun W hW => ground_impl t x W hW hf
  have hx' := hx
  obtain ⟨A, c, kv, rfl, hp, hk⟩ := hx
  obtain ⟨B, d, rfl⟩ := hk.form
  have hb0 : Below w.heap.size w (w.alloc (.cells #[.int .i64 t.op, .int .i64 t.num, .slice A t.perm.length c, .slice B t.kids.length d] 32)) := (Below.refl _ _).alloc (Nat.le_refl _) _
  have hg0 := hgd _ (hx'.below hb0)
  have hat := isAtom_any a
  clear hgd hp hk
  by_cases ha : atomB a = true
  · rw [ha] at hat
    by_cases hg : groundB t = true
    · have hr := Lib.hid (fresh_yes ha hg)
      have ht := ground_term hg
      have hfo := formOf_term t ht
      have hif := fun (W : World) (q : Nat → Prop) (y : Value) (hW : FIn W q y t) => isFreeIn_any t q a y W hW (Nat.le_trans (term_size ht) (by decide))
      rw [hg] at hg0
      clear ha hg ht
      go_enter Try.func18, Try.ntmps18
      go_wp2_with fail
      refine (hat _).mono ?_
      rintro e w1 ⟨rfl, rfl⟩
      go_wp2_with fail
      refine hg0.mono ?_
      rintro e w1 ⟨rfl, hb1⟩
      obtain ⟨b0, b1, b2, b3⟩ := box4 hb1
      have hs1 := hb0.trans (hb1.mono hb0.size)
      have hfo1 := hfo w1 _ (hx'.below hs1)
      clear hg0 hb0 hb1 hfo hx' hat
      go_wp2_with fail
      refine hfo1.mono ?_
      rintro e w2 ⟨fv, rfl, hfv, hb2⟩
      have hif2 := hif w2 _ fv hfv
      have hs2 := hs1.trans (hb2.mono hs1.size)
      clear hfo1 hs1 hb2 hif hfv b0 b1 b2 b3
      generalize hasB (freeT t) a = H at hif2 hr
      go_wp2_with fail
      refine hif2.mono ?_
      rintro e w3 ⟨rfl, hb3⟩
      have hpost : BoolPost (freshB a t) w (.returned (.bool (!H))) w3 := ⟨by rw [hr.out], hs2.trans (hb3.mono hs2.size)⟩
      clear hif2 hs2 hb3 hr
      cases H
      · go_wp2
        go_ret
        exact hpost
      · go_wp2
        go_ret
        exact hpost
    · have hg' : groundB t = false := by simpa using hg
      have hr := Lib.hid (fresh_no2 (a := a) hg')
      rw [hg'] at hg0
      clear ha hg hg' hx'
      go_enter Try.func18, Try.ntmps18
      go_wp2_with fail
      refine (hat _).mono ?_
      rintro e w1 ⟨rfl, rfl⟩
      go_wp2_with fail
      refine hg0.mono ?_
      rintro e w1 ⟨rfl, hb1⟩
      have hpost : BoolPost (freshB a t) w (.returned (.bool false)) w1 := ⟨by rw [hr.out], hb0.trans (hb1.mono hb0.size)⟩
      clear hg0 hb0 hb1 hat hr
      go_wp2
      go_ret
      exact hpost
  · have ha' : atomB a = false := by simpa using ha
    have hpost : BoolPost (freshB a t) w (.returned (.bool false)) (w.alloc (.cells #[.int .i64 t.op, .int .i64 t.num, .slice A t.perm.length c, .slice B t.kids.length d] 32)) := ⟨by rw [fresh_no1 ha'], hb0⟩
    rw [ha'] at hat
    clear ha ha' hx' hg0 hb0
    go_enter Try.func18, Try.ntmps18
    go_wp2_with fail
    refine (hat _).mono ?_
    rintro e w1 ⟨rfl, rfl⟩
    clear hat
    go_wp2
    go_ret
    exact hpost

set_option maxRecDepth 100000 in
set_option maxHeartbeats 2000000 in
theorem freshFor_spec (a : Int) (t : Tm) (x : Value) (w : World) (hx : TmIn w x t) (hc : cntT t ≤ 1048576) :
    Calls Try.prog 17 #[.int .i64 a, x] w (BoolPost (freshB a t) w) := by
  have hgd := fun W hW => ground_spec t x W hW hc
  have hx' := hx
  obtain ⟨A, c, kv, rfl, hp, hk⟩ := hx
  obtain ⟨B, d, rfl⟩ := hk.form
  have hb0 : Below w.heap.size w (w.alloc (.cells #[.int .i64 t.op, .int .i64 t.num, .slice A t.perm.length c, .slice B t.kids.length d] 32)) := (Below.refl _ _).alloc (Nat.le_refl _) _
  have hg0 := hgd _ (hx'.below hb0)
  have hat := l1Atom_any a
  clear hgd hp hk
  by_cases ha : atomB a = true
  · rw [ha] at hat
    by_cases hg : groundB t = true
    · have hr := Lib.hid (fresh_yes ha hg)
      have ht := ground_term hg
      have hfr := fun (W : World) (y : Value) (hW : TmIn W y t) => l2Free_all (szT t) t (Nat.le_refl _) (term_size ht) W y hW
      have hl := freeT_len t
      have hl2 := term_size ht
      rw [hg] at hg0
      clear ha hg ht
      go_enter Try.func17, Try.ntmps17
      go_wp2_with fail
      refine (hat _).mono ?_
      rintro e w1 ⟨rfl, rfl⟩
      go_wp2_with fail
      refine hg0.mono ?_
      rintro e w1 ⟨rfl, hb1⟩
      obtain ⟨b0, b1, b2, b3⟩ := box4 hb1
      have hs1 := hb0.trans (hb1.mono hb0.size)
      have hfr1 := hfr w1 _ (hx'.below hs1)
      generalize freeT t = L at hfr1 hl hr
      clear hg0 hb0 hb1 hfr hx' hat
      go_wp2_with fail
      refine hfr1.mono ?_
      rintro e w2 ⟨g2, cap2, rfl, ho2, hb2⟩
      have hia : IntsAt w2 (some ⟨g2, 0, none⟩) L := by
        obtain ⟨A, c, e, h⟩ := own_intsAt ho2
        simp only [Value.slice.injEq] at e
        rw [e.1]
        exact h
      have hco := l1Has_any (some ⟨g2, 0, none⟩) cap2 L a w2 hia (by omega)
      have hs2 := hs1.trans (hb2.mono hs1.size)
      clear hfr1 hs1 hb2 ho2 hia b0 b1 b2 b3
      generalize hasB L a = H at hco hr
      go_wp2_with fail
      refine hco.mono ?_
      rintro e w3 ⟨rfl, rfl⟩
      have hpost : BoolPost (freshB a t) w (.returned (.bool (!H))) w2 := ⟨by rw [hr.out], hs2⟩
      clear hco hs2 hr
      cases H
      · go_wp2
        go_ret
        exact hpost
      · go_wp2
        go_ret
        exact hpost
    · have hg' : groundB t = false := by simpa using hg
      have hr := Lib.hid (fresh_no2 (a := a) hg')
      rw [hg'] at hg0
      clear ha hg hg' hx'
      go_enter Try.func17, Try.ntmps17
      go_wp2_with fail
      refine (hat _).mono ?_
      rintro e w1 ⟨rfl, rfl⟩
      go_wp2_with fail
      refine hg0.mono ?_
      rintro e w1 ⟨rfl, hb1⟩
      have hpost : BoolPost (freshB a t) w (.returned (.bool false)) w1 := ⟨by rw [hr.out], hb0.trans (hb1.mono hb0.size)⟩
      clear hg0 hb0 hb1 hat hr
      go_wp2
      go_ret
      exact hpost
  · have ha' : atomB a = false := by simpa using ha
    have hpost : BoolPost (freshB a t) w (.returned (.bool false)) (w.alloc (.cells #[.int .i64 t.op, .int .i64 t.num, .slice A t.perm.length c, .slice B t.kids.length d] 32)) := ⟨by rw [fresh_no1 ha'], hb0⟩
    rw [ha'] at hat
    clear ha ha' hx' hg0 hb0
    go_enter Try.func17, Try.ntmps17
    go_wp2_with fail
    refine (hat _).mono ?_
    rintro e w1 ⟨rfl, rfl⟩
    clear hat
    go_wp2
    go_ret
    exact hpost
end Go.Proofs.Ytgdaefmmljgjkaa
