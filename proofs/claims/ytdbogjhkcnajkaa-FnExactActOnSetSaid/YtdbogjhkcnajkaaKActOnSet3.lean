/-
  Comparing numbers, atoms, and finding a pair by its first atom, as contracts. Whether moves are in order, as a contract. Whether a list has a number: in the model, as a contract. Constants, tuples and patterns: plain words, no program is walked here. Patterns by themselves, all of them, and their order: plain words, no program is walked here. Patterns as codes of base eight, and tables of them: plain words, no program is walked here. Whether a list of pairs is a permutation, as the program decides it: a contract. Whether a list of pairs is a permutation, as the model decides it: a contract; and that both decide alike.
-/
import Derived.Test.YtdbogjhkcnajkaaKActOnSet2
import Derived.WalkLawsBesides
import Derived.WalkSpells
import Derived.BigQuiet
import Derived.Lib.QuietBelow
section
namespace Go.Proofs.Ytdbogjhkcnajkaa
section
open Go.RowKit Go.Sort

/-- Less, the same, greater. -/
def cmpI (a b : Int) : Int := if a < b then -1 else if b < a then 1 else 0

def atomB (a : Int) : Bool := decide (0 ≤ a ∧ a ≤ 999)

theorem isAtom_any (a : Int) (w : World) :
    Calls Try.prog 153 #[.int .i64 a] w fun e w' => e = .returned (.bool (atomB a)) ∧ w = w' := by
  by_cases h1 : 0 ≤ a
  · by_cases h2 : a ≤ 999
    · go_enter Try.func153, Try.ntmps153
      go_wp2
      go_ret
      exact ⟨bool_end (by simp [atomB, h1, h2]), rfl⟩
    · have k2 : decide (a ≤ 999) = false := by simpa using h2
      have k3 : 999 < a := by omega
      clear h2
      go_enter Try.func153, Try.ntmps153
      go_wp2
      go_ret
      exact ⟨bool_end (by simp [atomB]; omega), rfl⟩
  · have k1 : a < 0 := by omega
    clear h1
    go_enter Try.func153, Try.ntmps153
    go_wp2
    go_ret
    exact ⟨bool_end (by simp [atomB]; omega), rfl⟩

theorem compare_any (a b : Int) (w : World) :
    Calls Try.prog 155 #[.int .i64 a, .int .i64 b] w fun e w' => e = .returned (.int .i64 (cmpI a b)) ∧ w = w' := by
  have na : (a != a) = false := by simp
  have nb : (b != b) = false := by simp
  by_cases h1 : a < b
  · go_enter Try.func155, Try.ntmps155
    go_wp2
    go_ret
    exact ⟨int_end (by simp [cmpI, h1]), rfl⟩
  · by_cases h2 : b < a
    · go_enter Try.func155, Try.ntmps155
      go_wp2
      go_ret
      exact ⟨int_end (by simp [cmpI, h1, h2]), rfl⟩
    · go_enter Try.func155, Try.ntmps155
      go_wp2
      go_ret
      exact ⟨int_end (by unfold cmpI; rw [if_neg (by omega), if_neg (by omega)]), rfl⟩

theorem closure_any (a b t : Int) (w : World) :
    Calls Try.prog 158 #[.agg #[.int .i64 a, .int .i64 b], .int .i64 t] w
      fun e w' => e = .returned (.int .i64 (cmpI a t)) ∧ Below w.heap.size w w' := by
  go_enter Try.func158, Try.ntmps158
  go_wp2_with (go_at_call 155; refine (compare_any _ _ _).mono ?_; rintro e w' ⟨rfl, rfl⟩)
  go_ret
  exact ⟨rfl, (Below.refl _ _).alloc (Nat.le_refl _) _⟩

/-- The first atoms ascend. -/
def Asc (l : List (Int × Int)) : Prop := ∀ i j, i < j → j < l.length → (prAt l i).1 < (prAt l j).1

/-- Place i divides the pairs at t. -/
def Divides (l : List (Int × Int)) (t : Int) (i : Nat) : Prop := i ≤ l.length ∧ (∀ j, j < i → (prAt l j).1 < t) ∧ ∀ j, i ≤ j → j < l.length → t ≤ (prAt l j).1

def foundB (l : List (Int × Int)) (t : Int) (i : Nat) : Bool := decide (i < l.length ∧ (prAt l i).1 = t)

def FindPost (l : List (Int × Int)) (t : Int) (w : World) (e : Ending) (w' : World) : Prop :=
  ∃ i : Nat, e = .returned (.tuple #[.int .i64 i, .bool (foundB l t i)]) ∧ Divides l t i ∧ Below w.heap.size w w'

theorem divides_up {l : List (Int × Int)} {t : Int} {a b m : Nat} (hasc : Asc l) (h : (∀ q, q < a → (prAt l q).1 < t) ∧ ∀ q, b ≤ q → q < l.length → t ≤ (prAt l q).1) (hm : m < l.length) (ht : (prAt l m).1 < t) :
    (∀ q, q < m + 1 → (prAt l q).1 < t) ∧ ∀ q, b ≤ q → q < l.length → t ≤ (prAt l q).1 := by
  refine ⟨fun q hq => ?_, h.2⟩
  by_cases e : q = m
  · rw [e]; exact ht
  · have := hasc q m (by omega) hm; omega

theorem divides_down {l : List (Int × Int)} {t : Int} {a b m : Nat} (hasc : Asc l) (h : (∀ q, q < a → (prAt l q).1 < t) ∧ ∀ q, b ≤ q → q < l.length → t ≤ (prAt l q).1) (ht : ¬ (prAt l m).1 < t) :
    (∀ q, q < a → (prAt l q).1 < t) ∧ ∀ q, m ≤ q → q < l.length → t ≤ (prAt l q).1 := by
  refine ⟨h.1, fun q hq hl => ?_⟩
  by_cases e : q = m
  · rw [e]; omega
  · have := hasc m q (by omega) hl; omega

set_option maxRecDepth 100000 in
set_option maxHeartbeats 1000000 in
theorem search_any (A : Option Addr) (c : Nat) (l : List (Int × Int)) (t : Int) (w : World) (hA : PairsAt w A l) (hl : l.length ≤ 1099511627776) (hasc : Asc l) :
    Calls Try.prog 157 #[.slice A l.length c, .int .i64 t, .func (.func 158) #[] #[]] w (FindPost l t w) := by
  have HA := Lib.hid hasc
  clear hasc
  go_enter Try.func157, Try.ntmps157
  go_wp2
  go_loopw [9, 10, 11] (fun i j h wr => ∃ (a b : Nat), a ≤ b ∧ b ≤ l.length ∧ i = .int .i64 a ∧ j = .int .i64 b ∧ Hid ((∀ q, q < a → (prAt l q).1 < t) ∧ ∀ q, b ≤ q → q < l.length → t ≤ (prAt l q).1) ∧ Below w.heap.size w wr) (fun i j _ _ => (intOf j).toNat - (intOf i).toNat)
  case atStart => exact ⟨0, l.length, Nat.zero_le _, Nat.le_refl _, rfl, rfl, ⟨fun q h => absurd h (by omega), fun q h1 h2 => absurd h1 (by omega)⟩, Below.refl _ _⟩
  case round =>
    obtain ⟨a, b, hab, hbl, rfl, rfl, hq, hb⟩ := hrel
    by_cases hlt : a < b
    · have hm : (a + b) / 2 < l.length := by omega
      obtain ⟨b1, o1, rfl, hb1, hc1⟩ := hA (by omega)
      obtain ⟨c1, c2⟩ := hc1 ((a + b) / 2) hm
      rw [← hb.cell (p := ⟨b1, _, none⟩) hb1] at c1 c2
      clear hc1 hA
      have hcl := closure_any (prAt l ((a + b) / 2)).1 (prAt l ((a + b) / 2)).2 t wr
      by_cases ht : (prAt l ((a + b) / 2)).1 < t
      · have HQ : Hid _ := divides_up HA.out hq.out hm ht
        have k1 : cmpI (prAt l ((a + b) / 2)).1 t = -1 := by simp [cmpI, ht]
        rw [k1] at hcl
        generalize prAt l ((a + b) / 2) = pr at c1 c2 hcl
        clear ht k1 hq
        go_wp2_with (go_at_call 158; refine hcl.mono ?_; rintro e w2 ⟨rfl, hb2⟩; have hb3 := hb.trans (hb2.mono hb.size))
        refine ⟨⟨(a + b) / 2 + 1, b, by omega, hbl, by go_num, rfl, HQ, hb3⟩, ?_⟩
        simp only [intOf]
        omega
      · have HQ : Hid _ := divides_down HA.out hq.out ht
        have k1 : 0 ≤ cmpI (prAt l ((a + b) / 2)).1 t := by unfold cmpI; split; omega; split <;> omega
        generalize prAt l ((a + b) / 2) = pr at c1 c2 hcl k1
        generalize cmpI pr.1 t = z at hcl k1
        clear ht hq
        go_wp2_with (go_at_call 158; refine hcl.mono ?_; rintro e w2 ⟨rfl, hb2⟩; have hb3 := hb.trans (hb2.mono hb.size))
        refine ⟨⟨a, (a + b) / 2, by omega, by omega, rfl, by go_num, HQ, hb3⟩, ?_⟩
        simp only [intOf]
        omega
    · have hba : b ≤ a := by omega
      have hd : Divides l t a := ⟨by omega, hq.out.1, fun q h1 h2 => hq.out.2 q (by omega) h2⟩
      have HD := Lib.hid hd
      clear hd hq
      by_cases hn : a < l.length
      · obtain ⟨b1, o1, rfl, hb1, hc1⟩ := hA (by omega)
        obtain ⟨c1, c2⟩ := hc1 a hn
        rw [← hb.cell (p := ⟨b1, _, none⟩) hb1] at c1 c2
        clear hc1 hA
        have hcl := closure_any (prAt l a).1 (prAt l a).2 t wr
        by_cases he : (prAt l a).1 = t
        · have hf : foundB l t a = true := by simp [foundB, hn, he]
          have k1 : cmpI (prAt l a).1 t = 0 := by simp [cmpI, he]
          have HF := Lib.hid hf
          rw [k1] at hcl
          generalize prAt l a = pr at c1 c2 hcl
          clear he k1 hf
          go_wp2_with (go_at_call 158; refine hcl.mono ?_; rintro e w2 ⟨rfl, hb2⟩; have hb3 := hb.trans (hb2.mono hb.size))
          go_ret2
          exact ⟨a, by rw [HF.out]; rfl, HD.out, hb3⟩
        · have hf : foundB l t a = false := by simp [foundB, he]
          have k1 : (cmpI (prAt l a).1 t == 0) = false := by
            unfold cmpI
            split
            · rfl
            · split
              · rfl
              · omega
          have HF := Lib.hid hf
          generalize prAt l a = pr at c1 c2 hcl k1
          generalize cmpI pr.1 t = z at hcl k1
          clear he hf
          go_wp2_with (go_at_call 158; refine hcl.mono ?_; rintro e w2 ⟨rfl, hb2⟩; have hb3 := hb.trans (hb2.mono hb.size))
          go_ret2
          exact ⟨a, by rw [HF.out]; rfl, HD.out, hb3⟩
      · have hf : foundB l t a = false := by simp [foundB, hn]
        have HF := Lib.hid hf
        clear hf
        go_wp2
        go_ret2
        exact ⟨a, by rw [HF.out]; rfl, HD.out, hb⟩

theorem placeOf_any (A : Option Addr) (c : Nat) (l : List (Int × Int)) (t : Int) (w : World) (hA : PairsAt w A l) (hl : l.length ≤ 1099511627776) (hasc : Asc l) :
    Calls Try.prog 139 #[.slice A l.length c, .int .i64 t] w (FindPost l t w) := by
  have hs := search_any A c l t w hA hl hasc
  clear hasc hA
  go_enter Try.func139, Try.ntmps139
  go_wp2_with fail
  refine hs.mono ?_
  rintro e w1 ⟨i, rfl, hd, hb⟩
  have HD := Lib.hid hd
  clear hs hd
  go_wp2
  go_ret2
  exact ⟨i, rfl, HD.out, hb⟩
end

section
open Go.RowKit Go.Sort

/-- What is asked of the pair at a place. -/
def okAt (l : List (Int × Int)) (i : Nat) : Bool :=
  atomB (prAt l i).1 && (atomB (prAt l i).2 && (decide ((prAt l i).1 ≠ (prAt l i).2) && (decide (i = 0) || decide ((prAt l (i - 1)).1 < (prAt l i).1))))

def orderB (l : List (Int × Int)) : Bool := (List.range l.length).all (okAt l)

theorem orderB_no {l : List (Int × Int)} {i : Nat} (hi : i < l.length) (h : okAt l i = false) : orderB l = false := by
  unfold orderB
  rw [List.all_eq_false]
  exact ⟨i, List.mem_range.2 hi, by simp [h]⟩

theorem orderB_yes {l : List (Int × Int)} (h : ∀ j, j < l.length → okAt l j = true) : orderB l = true := by
  unfold orderB
  rw [List.all_eq_true]
  exact fun x hx => h x (List.mem_range.1 hx)

theorem all_next {p : Nat → Bool} {k : Nat} (h : ∀ j, j < k → p j = true) (hk : p k = true) : ∀ j, j < k + 1 → p j = true := by
  intro j hj
  by_cases e : j = k
  · rw [e]; exact hk
  · exact h j (by omega)

set_option maxRecDepth 100000 in
set_option maxHeartbeats 2000000 in
theorem inOrder_any (A : Option Addr) (c : Nat) (l : List (Int × Int)) (w : World) (hA : PairsAt w A l) (hl : l.length ≤ 1099511627776) :
    Calls Try.prog 138 #[.slice A l.length c] w fun e w' => e = .returned (.bool (orderB l)) ∧ Below w.heap.size w w' := by
  go_enter Try.func138, Try.ntmps138
  go_wp2
  go_loopw [3, 4, 7] (fun _ _ i wr => ∃ k : Nat, k ≤ l.length ∧ i = .int .i64 k ∧ Hid (∀ j, j < k → okAt l j = true) ∧ Below w.heap.size w wr) (fun _ _ i _ => l.length - (intOf i).toNat)
  case atStart => exact ⟨0, Nat.zero_le _, rfl, fun j hj => absurd hj (by omega), Below.refl _ _⟩
  case round =>
    obtain ⟨k, hk, rfl, hq, hb⟩ := hrel
    by_cases hlt : k < l.length
    · obtain ⟨b1, o1, rfl, hb1, hc1⟩ := hA (by omega)
      obtain ⟨c1, c2⟩ := hc1 k hlt
      rw [← hb.cell (p := ⟨b1, _, none⟩) hb1] at c1 c2
      have hbs := hb.size
      by_cases hbad : (atomB (prAt l k).1 && (atomB (prAt l k).2 && decide ((prAt l k).1 ≠ (prAt l k).2))) = false
      · have hn : Hid (orderB l = false) := orderB_no hlt (by
          unfold okAt
          revert hbad
          cases atomB (prAt l k).1 <;> cases atomB (prAt l k).2 <;> cases decide ((prAt l k).1 ≠ (prAt l k).2) <;> simp)
        have hbW : Below w.heap.size w (wr.alloc (.cells #[.int .i64 (prAt l k).1, .int .i64 (prAt l k).2] 94)) := hb.alloc hb.size _
        generalize prAt l k = p1 at c1 c2 hbad hbW
        clear hq hc1 hA
        by_cases ha1 : atomB p1.1 = true
        · by_cases ha2 : atomB p1.2 = true
          · have ha3 : (p1.1 == p1.2) = true := by revert hbad; rw [ha1, ha2]; simp
            clear hbad
            go_wp2_with (go_at_call 153; refine (isAtom_any _ _).mono ?_; rintro e w' ⟨rfl, rfl⟩)
            go_ret
            exact ⟨bool_end hn.out.symm, hbW⟩
          · have ha2' : atomB p1.2 = false := by simpa using ha2
            clear hbad ha2
            go_wp2_with (go_at_call 153; refine (isAtom_any _ _).mono ?_; rintro e w' ⟨rfl, rfl⟩)
            go_ret
            exact ⟨bool_end hn.out.symm, hbW⟩
        · have ha1' : atomB p1.1 = false := by simpa using ha1
          clear hbad ha1
          go_wp2_with (go_at_call 153; refine (isAtom_any _ _).mono ?_; rintro e w' ⟨rfl, rfl⟩)
          go_ret
          exact ⟨bool_end hn.out.symm, hbW⟩
      · have ha1 : atomB (prAt l k).1 = true := by revert hbad; cases atomB (prAt l k).1 <;> simp
        have ha2 : atomB (prAt l k).2 = true := by revert hbad; cases atomB (prAt l k).2 <;> simp
        have ha3 : ((prAt l k).1 == (prAt l k).2) = false := by revert hbad; rw [ha1, ha2]; simp
        clear hbad
        by_cases hz : k = 0
        · subst hz
          have hn : Hid (∀ q, q < 0 + 1 → okAt l q = true) := all_next hq.out (by simp [okAt, ha1, ha2]; simpa using ha3)
          rw [Nat.zero_mul, Nat.add_zero] at c1 c2
          generalize prAt l 0 = p1 at c1 c2 ha1 ha2 ha3
          clear hq hc1 hA
          go_wp2_with (go_at_call 153; refine (isAtom_any _ _).mono ?_; rintro e w' ⟨rfl, rfl⟩)
          have hbW : Below w.heap.size w (wr.alloc (.cells #[.int .i64 p1.1, .int .i64 p1.2] 94)) := hb.alloc hb.size _
          generalize wr.alloc (.cells #[.int .i64 p1.1, .int .i64 p1.2] 94) = W1 at hbW ⊢
          clear c1 c2
          refine wp_region_quiet_below (by kernel_rfl) (by kernel_rfl) ?_
          repeat (any_goals (first | go_big_quiet_step (fail) | quiet_step (fail)))
          refine wpQuiet_nil ?_
          intro _ hw'
          obtain ⟨⟨dq, osq⟩, hw''⟩ := hw'
          subst hw''
          have hb3 := hbW.trans ((below_regrown W1 dq osq).mono hbW.size)
          generalize grow (redrawn W1 dq) osq = w2 at hb3 ⊢
          clear hbW
          go_wp2
          refine ⟨⟨0 + 1, by omega, by go_num, hn, hb3⟩, ?_⟩
          simp only [intOf]
          omega
        · obtain ⟨j, rfl⟩ : ∃ j, k = j + 1 := ⟨k - 1, by omega⟩
          obtain ⟨c3, _⟩ := hc1 j (by omega)
          rw [← hb.cell (p := ⟨b1, _, none⟩) hb1] at c3
          clear hc1 hA hz
          by_cases hp : (prAt l j).1 < (prAt l (j + 1)).1
          · have hn : Hid (∀ q, q < j + 1 + 1 → okAt l q = true) := all_next hq.out (by simp [okAt, ha1, ha2, hp]; simpa using ha3)
            generalize prAt l (j + 1) = p1 at c1 c2 ha1 ha2 ha3 hp
            generalize (prAt l j).1 = p2 at c3 hp
            clear hq
            go_wp2_with (go_at_call 153; refine (isAtom_any _ _).mono ?_; rintro e w' ⟨rfl, rfl⟩)
            have d0 : (wr.alloc (.cells #[.int .i64 p1.1, .int .i64 p1.2] 94)).cell? ⟨wr.heap.size, 0, none⟩ = some (.int .i64 p1.1) := by simp
            have d3 : (wr.alloc (.cells #[.int .i64 p1.1, .int .i64 p1.2] 94)).cell? ⟨b1, o1 + j * 2, none⟩ = some (.int .i64 p2) := by
              rw [World.cell?_alloc_lt _ _ _ (by show b1 < _; omega)]; exact c3
            have hbW : Below w.heap.size w (wr.alloc (.cells #[.int .i64 p1.1, .int .i64 p1.2] 94)) := hb.alloc hb.size _
            generalize wr.alloc (.cells #[.int .i64 p1.1, .int .i64 p1.2] 94) = W1 at d0 d3 hbW ⊢
            have q0 := fun d os => cell_regrown d0 d os
            have q3 := fun d os => cell_regrown d3 d os
            clear c1 c2 c3 d0 d3
            refine wp_region_quiet_below (by kernel_rfl) (by kernel_rfl) ?_
            repeat (any_goals (first | go_big_quiet_step (fail) | quiet_step (fail)))
            refine wpQuiet_nil ?_
            intro _ hw'
            obtain ⟨⟨dq, osq⟩, hw''⟩ := hw'
            subst hw''
            have hb3 := hbW.trans ((below_regrown W1 dq osq).mono hbW.size)
            generalize grow (redrawn W1 dq) osq = w2 at hb3 ⊢
            clear q0 q3 hbW
            go_wp2
            refine ⟨⟨j + 1 + 1, by omega, by go_num, hn, hb3⟩, ?_⟩
            simp only [intOf]
            omega
          · have hn : Hid (orderB l = false) := orderB_no hlt (by simp [okAt, hp])
            generalize prAt l (j + 1) = p1 at c1 c2 ha1 ha2 ha3 hp
            generalize (prAt l j).1 = p2 at c3 hp
            have hp' : p1.1 ≤ p2 := by omega
            clear hq hp
            go_wp2_with (go_at_call 153; refine (isAtom_any _ _).mono ?_; rintro e w' ⟨rfl, rfl⟩)
            have d0 : (wr.alloc (.cells #[.int .i64 p1.1, .int .i64 p1.2] 94)).cell? ⟨wr.heap.size, 0, none⟩ = some (.int .i64 p1.1) := by simp
            have d3 : (wr.alloc (.cells #[.int .i64 p1.1, .int .i64 p1.2] 94)).cell? ⟨b1, o1 + j * 2, none⟩ = some (.int .i64 p2) := by
              rw [World.cell?_alloc_lt _ _ _ (by show b1 < _; omega)]; exact c3
            have hbW : Below w.heap.size w (wr.alloc (.cells #[.int .i64 p1.1, .int .i64 p1.2] 94)) := hb.alloc hb.size _
            generalize wr.alloc (.cells #[.int .i64 p1.1, .int .i64 p1.2] 94) = W1 at d0 d3 hbW ⊢
            have q0 := fun d os => cell_regrown d0 d os
            have q3 := fun d os => cell_regrown d3 d os
            clear c1 c2 c3 d0 d3
            refine wp_region_quiet_below (by kernel_rfl) (by kernel_rfl) ?_
            repeat (any_goals (first | go_big_quiet_step (fail) | quiet_step (fail)))
            refine wpQuiet_nil ?_
            intro _ hw'
            obtain ⟨⟨dq, osq⟩, hw''⟩ := hw'
            subst hw''
            have hb3 := hbW.trans ((below_regrown W1 dq osq).mono hbW.size)
            generalize grow (redrawn W1 dq) osq = w2 at hb3 ⊢
            clear q0 q3 hbW
            go_wp2
            go_ret
            exact ⟨bool_end hn.out.symm, hb3⟩
    · have hn : Hid (orderB l = true) := orderB_yes fun j hj => hq.out j (by omega)
      clear hq
      go_wp2
      go_ret
      exact ⟨bool_end hn.out.symm, hb⟩
end
end Go.Proofs.Ytdbogjhkcnajkaa
end

section
namespace Go.Proofs.Ytdbogjhkcnajkaa
open Go.RowKit Go.Sort

/-- Whether a list has a number. -/
def hasB (l : List Int) (a : Int) : Bool := l.contains a

set_option maxHeartbeats 400000 in
theorem l1Has_any (A : Option Addr) (c : Nat) (l : List Int) (a : Int) (w : World) (hA : IntsAt w A l) (hl : l.length ≤ 1099511627776) :
    Calls Try.prog 137 #[.slice A l.length c, .int .i64 a] w fun e w' => e = .returned (.bool (hasB l a)) ∧ w = w' := by
  go_enter Try.func137, Try.ntmps137
  go_wp2
  go_loop [5] (fun i => ∃ k : Nat, k ≤ l.length ∧ i = .int .i64 k ∧ Hid (∀ j, j < k → itAt l j ≠ a)) (fun i => l.length - (intOf i).toNat)
  case atStart => exact ⟨0, Nat.zero_le _, rfl, fun j hj => absurd hj (by omega)⟩
  case round =>
    obtain ⟨k, hk, rfl, hq⟩ := hrel
    by_cases hlt : k < l.length
    · obtain ⟨b1, o1, rfl, hb1, hc1⟩ := hA (by omega)
      have c1 := hc1 k hlt
      clear hc1 hA
      by_cases he : (itAt l k == a) = true
      · have hres : Hid (hasB l a = true) := by
          show hasB l a = true
          unfold hasB
          rw [List.contains_iff_mem]
          have e : itAt l k = a := by simpa using he
          rw [← e, itAt_get l k hlt]
          exact List.getElem_mem hlt
        generalize itAt l k = x at c1 he
        clear hq
        go_wp2
        go_ret
        exact ⟨bool_end hres.out.symm, rfl⟩
      · have he' : (itAt l k == a) = false := by simpa using he
        have hn : Hid (∀ j, j < k + 1 → itAt l j ≠ a) := by
          intro j hj
          by_cases e : j = k
          · rw [e]; simpa using he'
          · exact hq.out j (by omega)
        generalize itAt l k = x at c1 he he'
        clear hq he
        go_wp2
        go_round
        case rel => exact ⟨k + 1, by omega, by go_num, hn⟩
        case measure => simp [intOf]; omega
    · have hres : Hid (hasB l a = false) := by
        show hasB l a = false
        unfold hasB
        rw [← Bool.not_eq_true, List.contains_iff_mem]
        intro hmem
        obtain ⟨j, hj, e⟩ := List.getElem_of_mem hmem
        exact hq.out j (by omega) (by rw [itAt_get l j hj]; exact e)
      clear hq hA
      go_wp2
      go_ret
      exact ⟨bool_end hres.out.symm, rfl⟩

end Go.Proofs.Ytdbogjhkcnajkaa
end

section
namespace Go.Proofs.Ytdbogjhkcnajkaa
open Go.RowKit
set_option linter.unusedVariables false

/-- Whether all are atoms. -/
def atomsB (l : List Int) : Bool := l.all atomB
/-- Whether each is less than the next one. -/
def ascB (l : List Int) : Bool := (List.range l.length).all fun i => decide (i = 0) || decide (itAt l (i - 1) < itAt l i)
def constB (l : List Int) : Bool := decide (l.length ≤ 3) && (atomsB l && ascB l)
theorem atomsB_no {l : List Int} {k : Nat} (hk : k < l.length) (h : atomB (itAt l k) = false) : atomsB l = false := by
  cases hh : atomsB l with
  | false => rfl
  | true =>
    unfold atomsB at hh
    rw [List.all_eq_true] at hh
    have := hh l[k] (List.getElem_mem hk)
    rw [← itAt_get l k hk, h] at this
    cases this
theorem atomsB_yes {l : List Int} (h : ∀ k, k < l.length → atomB (itAt l k) = true) : atomsB l = true := by
  unfold atomsB
  rw [List.all_eq_true]
  intro a ha
  obtain ⟨k, hk, rfl⟩ := List.getElem_of_mem ha
  rw [← itAt_get l k hk]
  exact h k hk
theorem ascB_no {l : List Int} {k : Nat} (hk : k < l.length) (h0 : 0 < k) (h : ¬ itAt l (k - 1) < itAt l k) : ascB l = false := by
  cases hh : ascB l with
  | false => rfl
  | true =>
    unfold ascB at hh
    rw [List.all_eq_true] at hh
    have := hh k (List.mem_range.2 hk)
    simp only [Bool.or_eq_true, decide_eq_true_eq] at this
    rcases this with h1 | h1
    · omega
    · exact absurd h1 h
theorem ascB_yes {l : List Int} (h : ∀ k, 0 < k → k < l.length → itAt l (k - 1) < itAt l k) : ascB l = true := by
  unfold ascB
  rw [List.all_eq_true]
  intro k hk
  rw [List.mem_range] at hk
  simp only [Bool.or_eq_true, decide_eq_true_eq]
  rcases Nat.eq_zero_or_pos k with h0 | h0
  · exact .inl h0
  · exact .inr (h k h0 hk)
theorem ascB_at {l : List Int} (h : ascB l = true) {k : Nat} (h0 : 0 < k) (hk : k < l.length) : itAt l (k - 1) < itAt l k := by
  unfold ascB at h
  rw [List.all_eq_true] at h
  have := h k (List.mem_range.2 hk)
  simp only [Bool.or_eq_true, decide_eq_true_eq] at this
  rcases this with h1 | h1
  · omega
  · exact h1
theorem asc_lt {l : List Int} (h : ascB l = true) : ∀ (j i : Nat), i < j → j < l.length → itAt l i < itAt l j
  | 0, i, hi, _ => by omega
  | j + 1, i, hi, hj => by
    have h1 := ascB_at h (k := j + 1) (by omega) hj
    rw [Nat.add_sub_cancel] at h1
    rcases Nat.lt_or_ge i j with h2 | h2
    · have := asc_lt h j i h2 (by omega)
      omega
    · have e : i = j := by omega
      rw [e]; exact h1
theorem asc_nodup {l : List Int} (h : ascB l = true) : l.Nodup := by
  rw [List.nodup_iff_pairwise_ne, List.pairwise_iff_getElem]
  intro i j hi hj hij e
  have := asc_lt h j i hij hj
  rw [itAt_get l i hi, itAt_get l j hj, e] at this
  omega
theorem const_nodup {l : List Int} (h : constB l = true) : l.Nodup := by
  unfold constB at h
  simp only [Bool.and_eq_true] at h
  exact asc_nodup h.2.2

/-- One atom more: what has been seen, and the pattern so far. -/
def patStep (s : List Int × List Int) (a : Int) : List Int × List Int := (if hasB s.1 a then s.1 else s.1 ++ [a], s.2 ++ [((s.1.idxOf a : Nat) : Int)])
def patF (cs xs : List Int) : List Int × List Int := xs.foldl patStep (cs, [])
/-- The pattern of a tuple. -/
def patL (cs xs : List Int) : List Int := (patF cs xs).2
def seenL (cs xs : List Int) : List Int := (patF cs xs).1

theorem patF_next {cs xs : List Int} {k : Nat} (h : k < xs.length) : patF cs (xs.take (k + 1)) = patStep (patF cs (xs.take k)) (itAt xs k) := by
  rw [itake_next h]
  unfold patF
  rw [List.foldl_append]
  rfl
theorem patF_len (cs : List Int) : ∀ (xs : List Int) (s : List Int × List Int), (xs.foldl patStep s).2.length = s.2.length + xs.length ∧ (xs.foldl patStep s).1.length ≤ s.1.length + xs.length
  | [], s => by simp
  | a :: r, s => by
    obtain ⟨h1, h2⟩ := patF_len cs r (patStep s a)
    rw [List.foldl_cons, h1]
    refine ⟨by simp [patStep]; omega, ?_⟩
    refine Nat.le_trans h2 ?_
    unfold patStep
    dsimp only
    split <;> simp <;> omega
theorem patL_len (cs xs : List Int) : (patL cs xs).length = xs.length := by
  have := (patF_len cs xs (cs, [])).1
  simpa [patL, patF] using this
theorem seenL_len (cs xs : List Int) : (seenL cs xs).length ≤ cs.length + xs.length := (patF_len cs xs (cs, [])).2
theorem patL_next {cs xs : List Int} {k : Nat} (h : k < xs.length) : patL cs (xs.take (k + 1)) = patL cs (xs.take k) ++ [(((seenL cs (xs.take k)).idxOf (itAt xs k) : Nat) : Int)] := by
  unfold patL seenL
  rw [patF_next h]
  rfl
theorem seenL_in {cs xs : List Int} {k : Nat} (h : k < xs.length) (hs : hasB (seenL cs (xs.take k)) (itAt xs k) = true) : seenL cs (xs.take (k + 1)) = seenL cs (xs.take k) := by
  unfold seenL at hs ⊢
  rw [patF_next h]
  unfold patStep
  simp only [hs, if_true]
theorem seenL_out {cs xs : List Int} {k : Nat} (h : k < xs.length) (hs : hasB (seenL cs (xs.take k)) (itAt xs k) = false) : seenL cs (xs.take (k + 1)) = seenL cs (xs.take k) ++ [itAt xs k] := by
  unfold seenL at hs ⊢
  rw [patF_next h]
  unfold patStep
  simp [hs]
theorem hasB_mem {l : List Int} {a : Int} : hasB l a = true ↔ a ∈ l := by unfold hasB; exact List.contains_iff_mem
theorem hasB_not {l : List Int} {a : Int} : hasB l a = false ↔ a ∉ l := by
  constructor
  · intro h hm; rw [hasB_mem.2 hm] at h; cases h
  · intro h
    cases hh : hasB l a with
    | false => rfl
    | true => exact absurd (hasB_mem.1 hh) h
theorem idx_out {l : List Int} {a : Int} (h : hasB l a = false) : l.idxOf a = l.length := List.idxOf_eq_length (hasB_not.1 h)
theorem idx_in {l : List Int} {a : Int} (h : hasB l a = true) : l.idxOf a < l.length := List.idxOf_lt_length_iff.2 (hasB_mem.1 h)
theorem idx_at {l : List Int} {a : Int} (h : hasB l a = true) : itAt l (l.idxOf a) = a := by
  rw [itAt_get _ _ (idx_in h)]
  exact List.getElem_idxOf (idx_in h)
/-- The first place at which it is. -/
theorem idx_first {l : List Int} {a : Int} {k : Nat} (hk : k < l.length) (e : itAt l k = a) (hn : ∀ j, j < k → itAt l j ≠ a) : l.idxOf a = k ∧ hasB l a = true := by
  have hm : hasB l a = true := by rw [hasB_mem, ← e, itAt_get l k hk]; exact List.getElem_mem hk
  refine ⟨?_, hm⟩
  rcases Nat.lt_trichotomy (l.idxOf a) k with h1 | h1 | h1
  · exact absurd (idx_at hm) (hn _ h1)
  · exact h1
  · exfalso
    have h2 := List.not_of_lt_findIdx (p := fun x => x == a) (xs := l) (i := k) h1
    rw [itAt_get l k hk] at e
    simp [e] at h2
theorem idx_none {l : List Int} {a : Int} (hn : ∀ j, j < l.length → itAt l j ≠ a) : hasB l a = false := by
  rw [hasB_not]
  intro hm
  obtain ⟨k, hk, e⟩ := List.getElem_of_mem hm
  exact hn k hk (by rw [itAt_get l k hk]; exact e)

theorem seen_nodup {cs : List Int} (h : cs.Nodup) (xs : List Int) : (seenL cs xs).Nodup := by
  have : ∀ (ys : List Int) (s : List Int × List Int), s.1.Nodup → (ys.foldl patStep s).1.Nodup := by
    intro ys
    induction ys with
    | nil => intro s hs; exact hs
    | cons a r ih =>
      intro s hs
      rw [List.foldl_cons]
      refine ih _ ?_
      unfold patStep
      dsimp only
      cases ha : hasB s.1 a with
      | true => simpa using hs
      | false =>
        simp only [Bool.false_eq_true, if_false]
        rw [List.nodup_append]
        exact ⟨hs, by simp, fun x hx y hy e => by simp at hy; subst hy; exact hasB_not.1 ha (e ▸ hx)⟩
  exact this xs (cs, []) h

/-- The last place up to a bound at which it is. -/
def lastK (l : List Int) (a : Int) : Nat → Int
  | 0 => -1
  | k + 1 => if itAt l k = a then (k : Int) else lastK l a k
theorem lastK_same (l : List Int) (a : Int) {k : Nat} (e : itAt l k = a) : lastK l a (k + 1) = k := by rw [lastK, if_pos e]
theorem lastK_other (l : List Int) (a : Int) {k : Nat} (e : ¬ itAt l k = a) : lastK l a (k + 1) = lastK l a k := by rw [lastK, if_neg e]
theorem lastK_none {l : List Int} {a : Int} : ∀ {k : Nat}, (∀ j, j < k → itAt l j ≠ a) → lastK l a k = -1
  | 0, _ => rfl
  | k + 1, h => by rw [lastK, if_neg (h k (by omega)), lastK_none fun j hj => h j (by omega)]
theorem lastK_some {l : List Int} {a : Int} {i : Nat} : ∀ {k : Nat}, i < k → itAt l i = a → (∀ j, j < k → j ≠ i → itAt l j ≠ a) → lastK l a k = i
  | 0, h, _, _ => by omega
  | k + 1, h, e, hn => by
    rw [lastK]
    rcases Nat.lt_or_ge i k with h1 | h1
    · rw [if_neg (hn k (by omega) (by omega)), lastK_some h1 e fun j hj hne => hn j (by omega) hne]
    · have : i = k := by omega
      subst this
      rw [if_pos e]
theorem lastK_out {l : List Int} {a : Int} (h : hasB l a = false) : lastK l a l.length = -1 :=
  lastK_none fun j hj e => hasB_not.1 h (by rw [← e, itAt_get l j hj]; exact List.getElem_mem hj)
theorem lastK_in {l : List Int} {a : Int} (hd : l.Nodup) (h : hasB l a = true) : lastK l a l.length = (l.idxOf a : Nat) := by
  refine lastK_some (idx_in h) (idx_at h) fun j hj hne e => hne ?_
  rw [List.nodup_iff_pairwise_ne, List.pairwise_iff_getElem] at hd
  have h1 := idx_at h
  rw [itAt_get _ _ (idx_in h)] at h1
  rw [itAt_get _ _ hj] at e
  rcases Nat.lt_trichotomy j (l.idxOf a) with h2 | h2 | h2
  · exact absurd (e.trans h1.symm) (hd j _ hj (idx_in h) h2)
  · exact h2
  · exact absurd (h1.trans e.symm) (hd _ j (idx_in h) hj h2)
theorem lastK_ge (l : List Int) (a : Int) : ∀ k : Nat, -1 ≤ lastK l a k ∧ lastK l a k < k
  | 0 => by simp [lastK]
  | k + 1 => by
    have := lastK_ge l a k
    rw [lastK]
    split <;> omega
end Go.Proofs.Ytdbogjhkcnajkaa
end

section
namespace Go.Proofs.Ytdbogjhkcnajkaa
open Go.RowKit
set_option linter.unusedVariables false

/-- The number that one more atom gets. -/
def newN (k : Int) (p : List Int) : Int := p.foldl (fun m n => max m (n + 1)) k
theorem newN_next {k : Int} {p : List Int} {i : Nat} (h : i < p.length) : newN k (p.take (i + 1)) = max (newN k (p.take i)) (itAt p i + 1) := by
  rw [itake_next h]
  unfold newN
  rw [List.foldl_append]
  rfl
theorem newN_ge (k : Int) (p : List Int) : k ≤ newN k p := by
  unfold newN
  induction p generalizing k with
  | nil => exact Int.le_refl _
  | cons a r ih => rw [List.foldl_cons]; have := ih (max k (a + 1)); omega
theorem newN_snoc (k : Int) (p : List Int) (n : Int) : newN k (p ++ [n]) = max (newN k p) (n + 1) := by
  unfold newN
  rw [List.foldl_append]
  rfl
theorem newN_bound {k B : Int} : ∀ {p : List Int}, k ≤ B → (∀ i, i < p.length → itAt p i < B) → newN k p ≤ B
  | [], h, _ => h
  | a :: r, h, hp => by
    have h0 := hp 0 (by simp)
    have h1 : itAt (a :: r) 0 = a := rfl
    rw [h1] at h0
    show newN (max k (a + 1)) r ≤ B
    exact newN_bound (by omega) fun i hi => hp (i + 1) (by simpa using hi)

def isPatB (k : Int) (p : List Int) : Bool := (List.range p.length).all fun i => decide (0 ≤ itAt p i) && decide (itAt p i ≤ newN k (p.take i))
theorem isPat_no {k : Int} {p : List Int} {i : Nat} (hi : i < p.length) (h : ¬ (0 ≤ itAt p i ∧ itAt p i ≤ newN k (p.take i))) : isPatB k p = false := by
  unfold isPatB
  rw [List.all_eq_false]
  refine ⟨i, List.mem_range.2 hi, ?_⟩
  simp only [Bool.and_eq_true, decide_eq_true_eq]
  exact h
theorem isPat_yes {k : Int} {p : List Int} (h : ∀ i, i < p.length → 0 ≤ itAt p i ∧ itAt p i ≤ newN k (p.take i)) : isPatB k p = true := by
  unfold isPatB
  rw [List.all_eq_true]
  intro i hi
  simp only [Bool.and_eq_true, decide_eq_true_eq]
  exact h i (List.mem_range.1 hi)
theorem isPat_at {k : Int} {p : List Int} (h : isPatB k p = true) {i : Nat} (hi : i < p.length) : 0 ≤ itAt p i ∧ itAt p i ≤ newN k (p.take i) := by
  unfold isPatB at h
  rw [List.all_eq_true] at h
  have := h i (List.mem_range.2 hi)
  simpa only [Bool.and_eq_true, decide_eq_true_eq] using this
theorem newN_le {k : Int} {p : List Int} : ∀ {i : Nat}, i ≤ p.length → (∀ j, j < i → itAt p j ≤ newN k (p.take j)) → newN k (p.take i) ≤ k + i
  | 0, _, _ => by simp [newN]
  | i + 1, hi, h => by
    rw [newN_next (by omega)]
    have h1 := newN_le (i := i) (by omega) fun j hj => h j (by omega)
    have h2 := h i (by omega)
    omega
theorem newN_pat {k : Int} {p : List Int} (h : isPatB k p = true) : newN k p ≤ k + p.length := by
  have := newN_le (k := k) (p := p) (i := p.length) (Nat.le_refl _) fun j hj => (isPat_at h hj).2
  rwa [List.take_length] at this

theorem itAt_snoc_lt {p : List Int} {n : Int} {i : Nat} (h : i < p.length) : itAt (p ++ [n]) i = itAt p i := by
  rw [itAt_get _ _ (by simp; omega), itAt_get _ _ h, List.getElem_append_left h]
theorem itAt_snoc_eq (p : List Int) (n : Int) : itAt (p ++ [n]) p.length = n := by
  rw [itAt_get _ _ (by simp), List.getElem_append_right (Nat.le_refl _)]
  simp
theorem isPat_snoc {k : Int} {p : List Int} {n : Int} : isPatB k (p ++ [n]) = true ↔ isPatB k p = true ∧ 0 ≤ n ∧ n ≤ newN k p := by
  constructor
  · intro h
    refine ⟨isPat_yes fun i hi => ?_, ?_⟩
    · have h1 := isPat_at h (i := i) (by simp; omega)
      rw [itAt_snoc_lt hi, List.take_append_of_le_length (by omega)] at h1
      exact h1
    · have h1 := isPat_at h (i := p.length) (by simp)
      rw [itAt_snoc_eq, List.take_append_of_le_length (Nat.le_refl _), List.take_length] at h1
      exact h1
  · rintro ⟨h, h0, h1⟩
    refine isPat_yes fun i hi => ?_
    rcases Nat.lt_or_ge i p.length with h2 | h2
    · rw [itAt_snoc_lt h2, List.take_append_of_le_length (by omega)]
      exact isPat_at h h2
    · have e : i = p.length := by simp at hi; omega
      subst e
      rw [itAt_snoc_eq, List.take_append_of_le_length (Nat.le_refl _), List.take_length]
      exact ⟨h0, h1⟩

/-- The patterns that go on from one. -/
def extP (k : Int) (p : List Int) : List (List Int) := (List.range (newN k p + 1).toNat).map fun n : Nat => p ++ [(n : Int)]
/-- All patterns of a width. -/
def allP : Nat → Int → List (List Int)
  | 0, _ => [[]]
  | w + 1, k => (allP w k).flatMap (extP k)

theorem mem_allP {k : Int} (hk : 0 ≤ k) : ∀ {w : Nat} {p : List Int}, p ∈ allP w k ↔ p.length = w ∧ isPatB k p = true
  | 0, p => by
    rw [allP, List.mem_singleton]
    constructor
    · rintro rfl; exact ⟨rfl, rfl⟩
    · rintro ⟨h, _⟩; exact List.eq_nil_of_length_eq_zero h
  | w + 1, p => by
    rw [allP, List.mem_flatMap]
    constructor
    · rintro ⟨q, hq, hp⟩
      obtain ⟨h1, h2⟩ := (mem_allP hk).1 hq
      unfold extP at hp
      rw [List.mem_map] at hp
      obtain ⟨n, hn, rfl⟩ := hp
      rw [List.mem_range] at hn
      refine ⟨by simp [h1], isPat_snoc.2 ⟨h2, by omega, by omega⟩⟩
    · rintro ⟨h1, h2⟩
      have hne : p ≠ [] := fun e => by rw [e] at h1; simp at h1
      have e := List.dropLast_concat_getLast hne
      rw [← e] at h2
      obtain ⟨h3, h4, h5⟩ := isPat_snoc.1 h2
      refine ⟨p.dropLast, (mem_allP hk).2 ⟨by simp [h1], h3⟩, ?_⟩
      unfold extP
      rw [List.mem_map]
      refine ⟨(p.getLast hne).toNat, List.mem_range.2 (by omega), ?_⟩
      rw [show (((p.getLast hne).toNat : Nat) : Int) = p.getLast hne by omega]
      exact e
theorem extP_len (k : Int) (p : List Int) : (extP k p).length = (newN k p + 1).toNat := by simp [extP]
theorem flat_len {α β : Type} {f : α → List β} {B : Nat} : ∀ {l : List α}, (∀ a ∈ l, (f a).length ≤ B) → (l.flatMap f).length ≤ l.length * B
  | [], _ => by simp
  | a :: r, h => by
    rw [List.flatMap_cons, List.length_append, List.length_cons, Nat.succ_mul]
    have h1 := h a List.mem_cons_self
    have h2 := flat_len (l := r) fun b hb => h b (List.mem_cons_of_mem _ hb)
    omega
theorem allP_len {k : Int} (hk : 0 ≤ k) (hk3 : k ≤ 3) : ∀ {w : Nat}, w ≤ 4 → (allP w k).length ≤ 8 ^ w
  | 0, _ => by simp [allP]
  | w + 1, h => by
    rw [allP, Nat.pow_succ]
    have h1 := allP_len hk hk3 (w := w) (by omega)
    have h2 : ((allP w k).flatMap (extP k)).length ≤ (allP w k).length * 8 := flat_len fun p hp => by
      obtain ⟨h3, h4⟩ := (mem_allP hk).1 hp
      have := newN_pat h4
      rw [extP_len]
      omega
    exact Nat.le_trans h2 (Nat.mul_le_mul_right _ h1)
theorem allP_4096 {k : Int} (hk : 0 ≤ k) (hk3 : k ≤ 3) {w : Nat} (hw : w ≤ 4) : (allP w k).length ≤ 4096 := by
  have h1 := allP_len hk hk3 hw
  have h2 : 8 ^ w ≤ 8 ^ 4 := Nat.pow_le_pow_right (by decide) hw
  omega
theorem allP_row {k : Int} (hk : 0 ≤ k) {w : Nat} {i : Nat} (hi : i < (allP w k).length) : (rwAt (allP w k) i).length = w ∧ isPatB k (rwAt (allP w k) i) = true :=
  (mem_allP hk).1 (by rw [rwAt_get _ _ hi]; exact List.getElem_mem hi)
theorem sumR_const {c : Nat} : ∀ {ls : List (List Int)}, (∀ l ∈ ls, l.length ≤ c) → sumR ls ≤ ls.length * c
  | [], _ => by simp [sumR]
  | l :: r, h => by
    rw [sumR, List.length_cons, Nat.succ_mul]
    have h1 := h l List.mem_cons_self
    have h2 := sumR_const (ls := r) fun b hb => h b (List.mem_cons_of_mem _ hb)
    omega
theorem allP_fit {k : Int} (hk : 0 ≤ k) (hk3 : k ≤ 3) {w : Nat} (hw : w ≤ 4) : (allP w k).length + sumR (allP w k) ≤ 1048576 := by
  have h1 := allP_4096 hk hk3 hw
  have h2 := sumR_const (c := 4) (ls := allP w k) fun l hl => by have := ((mem_allP hk).1 hl).1; omega
  omega
theorem flat_next {k : Int} {ls : List (List Int)} {j : Nat} (h : j < ls.length) : (ls.take (j + 1)).flatMap (extP k) = (ls.take j).flatMap (extP k) ++ extP k (rwAt ls j) := by
  rw [rw_take_next h, List.flatMap_append]
  simp
theorem flat_take_len {k : Int} (ls : List (List Int)) (j : Nat) : ((ls.take j).flatMap (extP k)).length ≤ (ls.flatMap (extP k)).length := by
  have h : ls.flatMap (extP k) = (ls.take j).flatMap (extP k) ++ (ls.drop j).flatMap (extP k) := by rw [← List.flatMap_append, List.take_append_drop]
  rw [h, List.length_append]
  omega
/-- The first so many that go on from one. -/
def extTo (p : List Int) (n : Nat) : List (List Int) := (List.range n).map fun i : Nat => p ++ [(i : Int)]
theorem extTo_next (p : List Int) (n : Nat) : extTo p (n + 1) = extTo p n ++ [p ++ [(n : Int)]] := by simp [extTo, List.range_succ]
theorem extTo_all (k : Int) (p : List Int) : extTo p (newN k p + 1).toNat = extP k p := rfl
theorem extTo_len (p : List Int) (n : Nat) : (extTo p n).length = n := by simp [extTo]

/-- Whether one is among several. -/
def thereB (ls : List (List Int)) (p : List Int) : Bool := ls.contains p
theorem there_mem {ls : List (List Int)} {p : List Int} : thereB ls p = true ↔ p ∈ ls := by unfold thereB; exact List.contains_iff_mem
theorem there_no {ls : List (List Int)} {p : List Int} (h : ∀ i, i < ls.length → ¬ rwAt ls i = p) : thereB ls p = false := by
  cases hh : thereB ls p with
  | false => rfl
  | true =>
    obtain ⟨i, hi, e⟩ := List.getElem_of_mem (there_mem.1 hh)
    exact absurd (by rw [rwAt_get _ _ hi]; exact e) (h i hi)
theorem there_yes {ls : List (List Int)} {p : List Int} {i : Nat} (hi : i < ls.length) (e : rwAt ls i = p) : thereB ls p = true := by
  rw [there_mem, ← e, rwAt_get _ _ hi]
  exact List.getElem_mem hi
theorem there_all {w : Nat} {k : Int} (hk : 0 ≤ k) (p : List Int) : thereB (allP w k) p = (decide (p.length = w) && isPatB k p) := by
  rw [Bool.eq_iff_iff, there_mem, mem_allP hk]
  simp

/-- Which list comes first. -/
def lexLt : List Int → List Int → Bool
  | [], [] => false
  | [], _ :: _ => true
  | _ :: _, [] => false
  | x :: a, y :: b => if x = y then lexLt a b else decide (x < y)
theorem lex_step {a b : List Int} {i : Nat} (ha : i < a.length) (hb : i < b.length) (e : itAt a i = itAt b i) : lexLt (a.drop i) (b.drop i) = lexLt (a.drop (i + 1)) (b.drop (i + 1)) := by
  rw [List.drop_eq_getElem_cons ha, List.drop_eq_getElem_cons hb, lexLt, if_pos (by rw [← itAt_get a i ha, ← itAt_get b i hb]; exact e)]
theorem lex_here {a b : List Int} {i : Nat} (ha : i < a.length) (hb : i < b.length) (e : ¬ itAt a i = itAt b i) : lexLt (a.drop i) (b.drop i) = decide (itAt a i < itAt b i) := by
  rw [List.drop_eq_getElem_cons ha, List.drop_eq_getElem_cons hb, lexLt, if_neg (by rw [← itAt_get a i ha, ← itAt_get b i hb]; exact e), itAt_get a i ha, itAt_get b i hb]
theorem lex_end {a b : List Int} {i : Nat} (ha : i ≤ a.length) (hb : i ≤ b.length) (h : i = a.length ∨ i = b.length) : lexLt (a.drop i) (b.drop i) = decide (a.length < b.length) := by
  rcases Nat.lt_or_ge i a.length with h1 | h1
  · have e : i = b.length := by omega
    rw [List.drop_eq_getElem_cons h1, List.drop_of_length_le (by omega : b.length ≤ i), lexLt]
    exact (decide_eq_false (by omega)).symm
  · rw [List.drop_of_length_le h1]
    rcases Nat.lt_or_ge i b.length with h2 | h2
    · rw [List.drop_eq_getElem_cons h2, lexLt]
      exact (decide_eq_true (by omega)).symm
    · rw [List.drop_of_length_le h2, lexLt]
      exact (decide_eq_false (by omega)).symm

/-- Whether rows are patterns of a width, in order. -/
def rowOkB (z k : Int) (m : List (List Int)) (i : Nat) : Bool := (decide (((rwAt m i).length : Int) = z) && isPatB k (rwAt m i)) && (decide (i = 0) || lexLt (rwAt m (i - 1)) (rwAt m i))
def rowsOkB (z k : Int) (m : List (List Int)) : Bool := (List.range m.length).all (rowOkB z k m)
def widB (z : Int) : Bool := decide (0 ≤ z ∧ z ≤ 4)
def orbB (z : Int) (l : List Int) (m : List (List Int)) : Bool := widB z && (constB l && rowsOkB z l.length m)
theorem rowsOk_no {z k : Int} {m : List (List Int)} {i : Nat} (hi : i < m.length) (h : rowOkB z k m i = false) : rowsOkB z k m = false := by
  unfold rowsOkB
  rw [List.all_eq_false]
  exact ⟨i, List.mem_range.2 hi, by simp [h]⟩
theorem rowsOk_yes {z k : Int} {m : List (List Int)} (h : ∀ i, i < m.length → rowOkB z k m i = true) : rowsOkB z k m = true := by
  unfold rowsOkB
  rw [List.all_eq_true]
  exact fun i hi => h i (List.mem_range.1 hi)
theorem rowsOk_at {z k : Int} {m : List (List Int)} (h : rowsOkB z k m = true) {i : Nat} (hi : i < m.length) : ((rwAt m i).length : Int) = z ∧ isPatB k (rwAt m i) = true := by
  unfold rowsOkB at h
  rw [List.all_eq_true] at h
  have := h i (List.mem_range.2 hi)
  unfold rowOkB at this
  simp only [Bool.and_eq_true, decide_eq_true_eq] at this
  exact this.1
theorem const_len {l : List Int} (h : constB l = true) : l.length ≤ 3 := by
  unfold constB at h
  simp only [Bool.and_eq_true, decide_eq_true_eq] at h
  exact h.1
theorem orb_rows {z : Int} {l : List Int} {m : List (List Int)} (h : orbB z l m = true) : widB z = true ∧ rowsOkB z l.length m = true := by
  unfold orbB at h
  simp only [Bool.and_eq_true] at h
  exact ⟨h.1, h.2.2⟩

end Go.Proofs.Ytdbogjhkcnajkaa
end

section
namespace Go.Proofs.Ytdbogjhkcnajkaa
open Go.RowKit
set_option linter.unusedVariables false

/-- The number of which a list's numbers are the digits of base eight. -/
def codeP (p : List Int) : Nat := p.foldl (fun c n => c * 8 + n.toNat) 0
theorem codeP_snoc (p : List Int) (n : Int) : codeP (p ++ [n]) = codeP p * 8 + n.toNat := by unfold codeP; rw [List.foldl_append]; rfl
theorem codeP_next {p : List Int} {i : Nat} (h : i < p.length) : codeP (p.take (i + 1)) = codeP (p.take i) * 8 + (itAt p i).toNat := by rw [itake_next h, codeP_snoc]
theorem codeP_nil : codeP [] = 0 := rfl
def digP (p : List Int) : Prop := ∀ n ∈ p, 0 ≤ n ∧ n < 8
theorem digP_snoc {p : List Int} {n : Int} (h : digP (p ++ [n])) : digP p ∧ 0 ≤ n ∧ n < 8 := ⟨fun x hx => h x (List.mem_append_left _ hx), h n (by simp)⟩
theorem digP_at {p : List Int} (h : digP p) {i : Nat} (hi : i < p.length) : 0 ≤ itAt p i ∧ itAt p i < 8 := h _ (by rw [itAt_get _ _ hi]; exact List.getElem_mem hi)
/-- The digits of a number. -/
def decP : Nat → Nat → List Int
  | 0, _ => []
  | w + 1, c => decP w (c / 8) ++ [((c % 8 : Nat) : Int)]
theorem decP_len : ∀ (w c : Nat), (decP w c).length = w
  | 0, _ => rfl
  | w + 1, c => by rw [decP, List.length_append, decP_len w]; rfl
theorem snoc_of {p : List Int} {w : Nat} (h : p.length = w + 1) : ∃ q n, p = q ++ [n] ∧ q.length = w := by
  have hne : p ≠ [] := fun e => by rw [e] at h; simp at h
  exact ⟨p.dropLast, p.getLast hne, (List.dropLast_concat_getLast hne).symm, by simp [h]⟩
theorem codeP_lt : ∀ {w : Nat} {p : List Int}, p.length = w → digP p → codeP p < 8 ^ w
  | 0, p, h, _ => by rw [List.eq_nil_of_length_eq_zero h, codeP_nil]; decide
  | w + 1, p, h, hd => by
    obtain ⟨q, n, rfl, hq⟩ := snoc_of h
    obtain ⟨h1, h2, h3⟩ := digP_snoc hd
    have := codeP_lt hq h1
    rw [codeP_snoc, Nat.pow_succ]
    omega
theorem decP_code : ∀ {w : Nat} {p : List Int}, p.length = w → digP p → decP w (codeP p) = p
  | 0, p, h, _ => by rw [List.eq_nil_of_length_eq_zero h]; rfl
  | w + 1, p, h, hd => by
    obtain ⟨q, n, rfl, hq⟩ := snoc_of h
    obtain ⟨h1, h2, h3⟩ := digP_snoc hd
    have e1 : (codeP q * 8 + n.toNat) / 8 = codeP q := by omega
    have e2 : (((codeP q * 8 + n.toNat) % 8 : Nat) : Int) = n := by omega
    rw [codeP_snoc, decP, e1, e2, decP_code hq h1]

theorem dig_allP {k : Int} (hk : 0 ≤ k) (hk3 : k ≤ 3) {w : Nat} (hw : w ≤ 4) {p : List Int} (hp : p ∈ allP w k) : p.length = w ∧ digP p := by
  obtain ⟨h1, h2⟩ := (mem_allP hk).1 hp
  refine ⟨h1, fun n hn => ?_⟩
  obtain ⟨i, hi, e⟩ := List.getElem_of_mem hn
  have h3 := isPat_at h2 hi
  have h4 := newN_le (k := k) (p := p) (i := i) (by omega) fun j hj => (isPat_at h2 (by omega)).2
  rw [itAt_get _ _ hi, e] at h3
  omega

theorem codes_asc {k : Int} (hk : 0 ≤ k) (hk3 : k ≤ 3) : ∀ {w : Nat}, w ≤ 4 → (allP w k).Pairwise (fun a b => codeP a < codeP b)
  | 0, _ => by simp [allP]
  | w + 1, hw => by
    have ih := codes_asc hk hk3 (w := w) (by omega)
    rw [allP, List.pairwise_flatMap]
    have hb : ∀ p ∈ allP w k, ∀ x ∈ extP k p, codeP p * 8 ≤ codeP x ∧ codeP x < codeP p * 8 + 8 := by
      intro p hp x hx
      obtain ⟨h1, h2⟩ := (mem_allP hk).1 hp
      have h3 := newN_pat h2
      unfold extP at hx
      rw [List.mem_map] at hx
      obtain ⟨n, hn, rfl⟩ := hx
      rw [List.mem_range] at hn
      rw [codeP_snoc]
      omega
    refine ⟨fun p hp => ?_, ?_⟩
    · unfold extP
      rw [List.pairwise_map]
      refine List.pairwise_lt_range.imp fun {a b} hab => ?_
      rw [codeP_snoc, codeP_snoc]
      omega
    · refine List.Pairwise.imp_of_mem ?_ ih
      intro a b ha hb' hab x hx y hy
      have h1 := hb a ha x hx
      have h2 := hb b hb' y hy
      omega

theorem eq_asc : ∀ {a b : List Nat}, a.Pairwise (· < ·) → b.Pairwise (· < ·) → (∀ x, x ∈ a ↔ x ∈ b) → a = b
  | [], [], _, _, _ => rfl
  | [], y :: b, _, _, h => absurd ((h y).2 (by simp)) (by simp)
  | x :: a, [], _, _, h => absurd ((h x).1 (by simp)) (by simp)
  | x :: a, y :: b, ha, hb, h => by
    rw [List.pairwise_cons] at ha hb
    have hxy : x = y := by
      rcases List.mem_cons.1 ((h x).1 (by simp)) with e | h1
      · exact e
      · rcases List.mem_cons.1 ((h y).2 (by simp)) with e | h2
        · exact e.symm
        · have h3 := ha.1 y h2
          have h4 := hb.1 x h1
          omega
    subst hxy
    rw [eq_asc ha.2 hb.2 fun z => ?_]
    constructor
    · intro hz
      rcases List.mem_cons.1 ((h z).1 (by simp [hz])) with e | h1
      · have := ha.1 z hz; omega
      · exact h1
    · intro hz
      rcases List.mem_cons.1 ((h z).2 (by simp [hz])) with e | h1
      · have := hb.1 z hz; omega
      · exact h1

/-- The patterns of a width that a table has. -/
def patsOf (w : Nat) (f : Nat → Bool) : List (List Int) := ((List.range 4096).filter f).map (decP w)
theorem code_4096 {k : Int} (hk : 0 ≤ k) (hk3 : k ≤ 3) {w : Nat} (hw : w ≤ 4) {p : List Int} (hp : p ∈ allP w k) : codeP p < 4096 := by
  obtain ⟨h1, h2⟩ := dig_allP hk hk3 hw hp
  have h3 := codeP_lt h1 h2
  have h4 : 8 ^ w ≤ 8 ^ 4 := Nat.pow_le_pow_right (by decide) hw
  omega
/-- Only codes of patterns of a width are in a table. -/
def tabOk (w : Nat) (k : Int) (f : Nat → Bool) : Prop := ∀ c, c < 4096 → f c = true → ∃ p ∈ allP w k, codeP p = c
theorem patsOf_eq {k : Int} (hk : 0 ≤ k) (hk3 : k ≤ 3) {w : Nat} (hw : w ≤ 4) {f : Nat → Bool} (hf : tabOk w k f) : patsOf w f = (allP w k).filter fun p => f (codeP p) := by
  have e : (List.range 4096).filter f = ((allP w k).filter fun p => f (codeP p)).map codeP := by
    refine eq_asc (List.pairwise_lt_range.filter _) ?_ fun c => ?_
    · rw [List.pairwise_map]
      exact (codes_asc hk hk3 hw).filter _
    · rw [List.mem_filter, List.mem_range, List.mem_map]
      constructor
      · rintro ⟨h1, h2⟩
        obtain ⟨p, hp, rfl⟩ := hf c h1 h2
        exact ⟨p, List.mem_filter.2 ⟨hp, h2⟩, rfl⟩
      · rintro ⟨p, hp, rfl⟩
        rw [List.mem_filter] at hp
        exact ⟨code_4096 hk hk3 hw hp.1, hp.2⟩
  unfold patsOf
  rw [e, List.map_map]
  refine (List.map_congr_left fun p hp => ?_).trans (List.map_id _)
  obtain ⟨h1, h2⟩ := dig_allP hk hk3 hw (List.mem_filter.1 hp).1
  exact decP_code h1 h2
theorem code_inj {k : Int} (hk : 0 ≤ k) (hk3 : k ≤ 3) {w : Nat} (hw : w ≤ 4) {p q : List Int} (hp : p ∈ allP w k) (hq : q ∈ allP w k) (e : codeP p = codeP q) : p = q := by
  obtain ⟨h1, h2⟩ := dig_allP hk hk3 hw hp
  obtain ⟨h3, h4⟩ := dig_allP hk hk3 hw hq
  rw [← decP_code h1 h2, ← decP_code h3 h4, e]

/-- The table of several patterns. -/
def tabOf (l : List (List Int)) (c : Nat) : Bool := l.any fun p => codeP p == c
theorem tabOf_mem {l : List (List Int)} {c : Nat} : tabOf l c = true ↔ ∃ p ∈ l, codeP p = c := by simp [tabOf]
theorem tabOf_ok {w : Nat} {k : Int} {l : List (List Int)} (h : ∀ p ∈ l, p ∈ allP w k) : tabOk w k (tabOf l) := fun c _ hc => by
  obtain ⟨p, hp, e⟩ := tabOf_mem.1 hc
  exact ⟨p, h p hp, e⟩
theorem tabOf_has {k : Int} (hk : 0 ≤ k) (hk3 : k ≤ 3) {w : Nat} (hw : w ≤ 4) {l : List (List Int)} (h : ∀ p ∈ l, p ∈ allP w k) {p : List Int} (hp : p ∈ allP w k) : tabOf l (codeP p) = thereB l p := by
  rw [Bool.eq_iff_iff, tabOf_mem, there_mem]
  constructor
  · rintro ⟨q, hq, e⟩
    rw [← code_inj hk hk3 hw (h q hq) hp e]
    exact hq
  · exact fun h => ⟨p, h, rfl⟩
/-- All those of a list, in the order of all patterns. -/
def thoseL (w : Nat) (k : Int) (l : List (List Int)) : List (List Int) := (allP w k).filter fun p => thereB l p
theorem patsOf_tabOf {k : Int} (hk : 0 ≤ k) (hk3 : k ≤ 3) {w : Nat} (hw : w ≤ 4) {l : List (List Int)} (h : ∀ p ∈ l, p ∈ allP w k) : patsOf w (tabOf l) = thoseL w k l := by
  rw [patsOf_eq hk hk3 hw (tabOf_ok h)]
  exact List.filter_congr fun p hp => tabOf_has hk hk3 hw h hp
theorem filter_fit {k : Int} (hk : 0 ≤ k) (hk3 : k ≤ 3) {w : Nat} (hw : w ≤ 4) (g : List Int → Bool) : ((allP w k).filter g).length + sumR ((allP w k).filter g) ≤ 32768 := by
  have h1 := List.length_filter_le g (allP w k)
  have h2 := allP_4096 hk hk3 hw
  have h3 := sumR_const (c := 4) (ls := (allP w k).filter g) fun l hl => by have := ((mem_allP hk).1 (List.mem_filter.1 hl).1).1; omega
  omega
/-- A table with a code more. -/
theorem tabOf_next {l : List (List Int)} {i : Nat} (h : i < l.length) (c : Nat) : tabOf (l.take (i + 1)) c = (tabOf (l.take i) c || decide (codeP (rwAt l i) = c)) := by
  rw [rw_take_next h]
  unfold tabOf
  rw [List.any_append, Bool.eq_iff_iff]
  simp
end Go.Proofs.Ytdbogjhkcnajkaa
end

section
namespace Go.Proofs.Ytdbogjhkcnajkaa
open Go.RowKit Go.Sort

def froms (l : List (Int × Int)) : List Int := l.map (·.1)
def tos (l : List (Int × Int)) : List Int := l.map (·.2)

theorem froms_at (l : List (Int × Int)) (i : Nat) (h : i < l.length) : (froms l)[i]? = some (prAt l i).1 := by
  simp [froms, prAt, h]
theorem tos_at (l : List (Int × Int)) (i : Nat) (h : i < l.length) : (tos l)[i]? = some (prAt l i).2 := by
  simp [tos, prAt, h]

theorem mem_froms {l : List (Int × Int)} {t : Int} : t ∈ froms l ↔ ∃ i, i < l.length ∧ (prAt l i).1 = t := by
  constructor
  · intro h
    obtain ⟨i, hi, e⟩ := List.getElem_of_mem h
    have hl : i < l.length := by simpa [froms] using hi
    refine ⟨i, hl, ?_⟩
    have h1 := froms_at l i hl
    rw [List.getElem?_eq_getElem hi, e] at h1
    injection h1 with h1
    exact h1.symm
  · rintro ⟨i, hi, rfl⟩
    exact List.mem_of_getElem? (froms_at l i hi)

theorem okAt_parts {l : List (Int × Int)} {i : Nat} (h : okAt l i = true) :
    (0 ≤ (prAt l i).1 ∧ (prAt l i).1 ≤ 999) ∧ (0 ≤ (prAt l i).2 ∧ (prAt l i).2 ≤ 999) ∧ (prAt l i).1 ≠ (prAt l i).2 ∧ (i = 0 ∨ (prAt l (i - 1)).1 < (prAt l i).1) := by
  simpa [okAt, atomB] using h

theorem order_at {l : List (Int × Int)} (h : orderB l = true) (i : Nat) (hi : i < l.length) : okAt l i = true := by
  unfold orderB at h
  rw [List.all_eq_true] at h
  exact h i (List.mem_range.2 hi)

theorem asc_of_order {l : List (Int × Int)} (h : orderB l = true) : Asc l := by
  intro i j hij hj
  induction j with
  | zero => omega
  | succ j ih =>
    have h1 := (okAt_parts (order_at h (j + 1) hj)).2.2.2
    rcases h1 with h1 | h1
    · omega
    · have e : j + 1 - 1 = j := by omega
      rw [e] at h1
      by_cases hc : i = j
      · rw [hc]; exact h1
      · have := ih (by omega) (by omega); omega

theorem found_iff {l : List (Int × Int)} {t : Int} {i : Nat} (hasc : Asc l) (hd : Divides l t i) : foundB l t i = (froms l).contains t := by
  rw [Bool.eq_iff_iff]
  simp only [foundB, decide_eq_true_eq, List.contains_iff_mem]
  rw [mem_froms]
  constructor
  · rintro ⟨h1, h2⟩
    exact ⟨i, h1, h2⟩
  · rintro ⟨q, hq, e⟩
    have h1 : i ≤ q := by
      rcases Nat.lt_or_ge q i with h | h
      · have := hd.2.1 q h; omega
      · exact h
    have h2 : i < l.length := by omega
    refine ⟨h2, ?_⟩
    have h3 := hd.2.2 i (Nat.le_refl _) h2
    by_cases hc : i = q
    · rw [hc]; exact e
    · have := hasc i q (by omega) hq; omega

/-- Which atoms of the pairs have been given by the first k. -/
def gBit (l : List (Int × Int)) (k q : Nat) : Bool := decide (q < l.length) && ((tos l).take k).contains (prAt l q).1
def gBits (l : List (Int × Int)) (k : Nat) : List Value := (List.range 40).map fun q => .bool (gBit l k q)

theorem gBits_at (l : List (Int × Int)) (k q : Nat) (h : q < 40) : (gBits l k)[q]? = some (.bool (gBit l k q)) := by
  simp [gBits, List.getElem?_map, List.getElem?_range h]

theorem gBits_set {l : List (Int × Int)} {k i : Nat} (hasc : Asc l) (hk : k < l.length) (hi : i < l.length) (e : (prAt l i).1 = (prAt l k).2) :
    (gBits l k).set i (.bool true) = gBits l (k + 1) := by
  have ht : (tos l).take (k + 1) = (tos l).take k ++ [(prAt l k).2] := by
    have hlt : k < (tos l).length := by simpa [tos] using hk
    rw [List.take_succ_eq_append_getElem hlt]
    have h1 := tos_at l k hk
    rw [List.getElem?_eq_getElem hlt] at h1
    injection h1 with h1
    rw [h1]
  apply List.ext_getElem?
  intro q
  by_cases hq : q < 40
  · rw [gBits_at l (k + 1) q hq, List.getElem?_set]
    by_cases hc : i = q
    · subst hc
      rw [if_pos rfl, if_pos (by simpa [gBits] using hq)]
      simp [gBit, hi, ht, e]
    · rw [if_neg hc, gBits_at l k q hq]
      by_cases hql : q < l.length
      · have hne : (prAt l q).1 ≠ (prAt l k).2 := by
          rw [← e]
          intro h
          rcases Nat.lt_or_gt_of_ne hc with h1 | h1
          · have := hasc i q h1 hql; omega
          · have := hasc q i h1 hi; omega
        simp [gBit, ht, hne]
      · simp [gBit, hql]
  · rw [List.getElem?_eq_none (by simp [gBits]; omega), List.getElem?_eq_none (by simp [gBits]; omega)]

theorem gBits_zero (l : List (Int × Int)) : gBits l 0 = List.replicate 40 (.bool false) := by
  apply List.ext_getElem?
  intro q
  by_cases hq : q < 40
  · rw [gBits_at l 0 q hq, List.getElem?_replicate, if_pos hq]
    simp [gBit]
  · rw [List.getElem?_eq_none (by simp [gBits]; omega), List.getElem?_eq_none (by simp; omega)]

def goodAt (l : List (Int × Int)) (k : Nat) : Bool := (froms l).contains (prAt l k).2 && !((tos l).take k).contains (prAt l k).2

/-- Whether a list of pairs is a permutation. -/
def permB (l : List (Int × Int)) : Bool := decide (l.length ≤ 40) && (orderB l && (List.range l.length).all (goodAt l))

theorem permB_no {l : List (Int × Int)} {i : Nat} (hi : i < l.length) (h : goodAt l i = false) : permB l = false := by
  unfold permB
  have : (List.range l.length).all (goodAt l) = false := by
    rw [List.all_eq_false]
    exact ⟨i, List.mem_range.2 hi, by simp [h]⟩
  rw [this]; simp

theorem permB_yes {l : List (Int × Int)} (h0 : l.length ≤ 40) (h1 : orderB l = true) (h : ∀ j, j < l.length → goodAt l j = true) : permB l = true := by
  unfold permB
  have : (List.range l.length).all (goodAt l) = true := by
    rw [List.all_eq_true]
    exact fun x hx => h x (List.mem_range.1 hx)
  rw [this, h1]; simp [h0]

/-- The block of marks after k pairs. -/
def Marks (w : World) (G : Nat) (l : List (Int × Int)) (k : Nat) : Prop := w.heap[G]? = some (.cells (gBits l k).toArray 117 (0, 0))

theorem Marks.lt {w : World} {G : Nat} {l : List (Int × Int)} {k : Nat} (h : Marks w G l k) : G < w.heap.size := (Array.getElem?_eq_some_iff.1 h).1
theorem Marks.cell {w : World} {G : Nat} {l : List (Int × Int)} {k : Nat} (h : Marks w G l k) (q : Nat) (hq : q < 40) : w.cell? ⟨G, q, none⟩ = some (.bool (gBit l k q)) := by
  rw [cell_of_row w G q _ _ _ h]
  simpa using gBits_at l k q hq
theorem Marks.frozen {w : World} {G : Nat} {l : List (Int × Int)} {k : Nat} (h : Marks w G l k) (q : Nat) : w.frozen? ⟨G, q, none⟩ = false := frozen_of_row w G q _ _ h
theorem Marks.below {w w' : World} {G : Nat} {l : List (Int × Int)} {k : Nat} (h : Marks w G l k) (hb : Below w.heap.size w w') : Marks w' G l k := (hb.block G h.lt).trans h
theorem Marks.alloc {w : World} {G : Nat} {l : List (Int × Int)} {k : Nat} (h : Marks w G l k) (o : Obj) : Marks (w.alloc o) G l k := h.below ((Below.refl _ _).alloc (Nat.le_refl _) o)
theorem Marks.set_ {w : World} {G : Nat} {l : List (Int × Int)} {k i : Nat} (h : Marks w G l k) (hasc : Asc l) (hk : k < l.length) (hi : i < l.length) (e : (prAt l i).1 = (prAt l k).2) :
    Marks (w.setCell ⟨G, i, none⟩ (.bool true)) G l (k + 1) := by
  unfold Marks at h ⊢
  rw [heap_setCell_same w G i _ _ _ h, ← gBits_set hasc hk hi e]
  simp

set_option maxRecDepth 100000 in
set_option maxHeartbeats 2000000 in
theorem isPerm_impl (A : Option Addr) (c : Nat) (l : List (Int × Int)) (w : World) (hA : PairsAt w A l) (hl : l.length ≤ 1099511627776) :
    Calls Try.prog 100 #[.slice A l.length c] w fun e w' => e = .returned (.bool (permB l)) ∧ Below w.heap.size w w' := by
  by_cases h40 : l.length ≤ 40
  · have hio := inOrder_any A c l w hA hl
    by_cases ho : orderB l = true
    · rw [ho] at hio
      have hasc := asc_of_order ho
      have HO := Lib.hid ho
      have HA := Lib.hid hasc
      clear ho hasc
      go_enter Try.func100, Try.ntmps100
      go_wp2_with fail
      refine hio.mono ?_
      rintro e w1 ⟨rfl, hb1⟩
      have k40 : decide (40 < (l.length : Int)) = false := by simp; omega
      clear hio
      go_wp2_with fail
      have hm0 : Marks (w1.alloc (.cells (gBits l 0).toArray 117)) w1.heap.size l 0 := heap_alloc_new w1 _
      rw [gBits_zero] at hm0
      have hb2 : Below w.heap.size w (w1.alloc (.cells (List.replicate 40 (Value.bool false)).toArray 117)) := hb1.alloc hb1.size _
      have e2 : w1.alloc (.cells (List.replicate 40 (Value.bool false)).toArray 117) = w1.alloc (.cells #[.bool false, .bool false, .bool false, .bool false, .bool false, .bool false, .bool false, .bool false, .bool false, .bool false, .bool false, .bool false, .bool false, .bool false, .bool false, .bool false, .bool false, .bool false, .bool false, .bool false, .bool false, .bool false, .bool false, .bool false, .bool false, .bool false, .bool false, .bool false, .bool false, .bool false, .bool false, .bool false, .bool false, .bool false, .bool false, .bool false, .bool false, .bool false, .bool false, .bool false] 117) := rfl
      rw [← e2]
      have hG : w.heap.size ≤ w1.heap.size := hb1.size
      generalize w1.alloc (.cells (List.replicate 40 (Value.bool false)).toArray 117) = w2 at hm0 hb2 ⊢
      clear e2 hb1
      generalize w1.heap.size = G at hm0 hG ⊢
      go_loopw [5, 6, 7, 18] (fun _ _ _ i wr => ∃ k : Nat, k ≤ l.length ∧ i = .int .i64 k ∧ Hid (∀ j, j < k → goodAt l j = true) ∧ Marks wr G l k ∧ Below w.heap.size w wr) (fun _ _ _ i _ => l.length - (intOf i).toNat)
      case atStart => exact ⟨0, Nat.zero_le _, rfl, fun j hj => absurd hj (by omega), hm0, hb2⟩
      case round =>
        clear hm0 hb2
        obtain ⟨k, hk, rfl, hq, hm, hb⟩ := hrel
        by_cases hlt : k < l.length
        · have hA1 := hA.below (w' := wr) (hb)
          obtain ⟨b1, o1, rfl, hb1, hc1⟩ := hA (by omega)
          obtain ⟨c1, c2⟩ := hc1 k hlt
          rw [← hb.cell (p := ⟨b1, _, none⟩) hb1] at c1 c2
          clear hc1 hA
          have hpl := fun W (hW : PairsAt W (some ⟨b1, o1, none⟩) l) => placeOf_any (some ⟨b1, o1, none⟩) c l (prAt l k).2 W hW hl HA.out
          have HG : Hid (goodAt l k = ((froms l).contains (prAt l k).2 && !((tos l).take k).contains (prAt l k).2)) := rfl
          generalize hp : prAt l k = p at c1 c2 hpl HG
          have HP := Lib.hid hp
          clear hp
          have hA2 : PairsAt (wr.alloc (.cells #[.int .i64 p.1, .int .i64 p.2] 94)) (some ⟨b1, o1, none⟩) l := hA1.below ((Below.refl _ _).alloc (Nat.le_refl _) _)
          have hm2 := hm.alloc (.cells #[.int .i64 p.1, .int .i64 p.2] 94)
          have hb2 := hb.alloc hb.size (.cells #[.int .i64 p.1, .int .i64 p.2] 94)
          clear hA1 hm
          go_wp2_with fail
          refine (hpl _ hA2).mono ?_
          rintro e w3 ⟨i, he, hd, hb3⟩
          have hfi := found_iff HA.out hd
          have hfp : foundB l p.2 i = true → i < l.length ∧ (prAt l i).1 = p.2 := fun h => by simpa [foundB] using h
          have hm3 := hm2.below hb3
          have hb4 := hb2.trans (hb3.mono hb2.size)
          clear hpl hA2 hm2 hb2 hb3 hd
          by_cases hfb : (froms l).contains p.2 = true
          · rw [hfb] at hfi
            obtain ⟨hi, hie⟩ := hfp hfi
            rw [hfi] at he
            subst he
            have hc := hm3.cell i (by omega)
            have hfz := hm3.frozen i
            have hgb : gBit l k i = ((tos l).take k).contains p.2 := by simp [gBit, hi, hie]
            have hst := hm3.set_ HA.out hlt hi (by rw [HP.out]; exact hie)
            have hst2 : Below w.heap.size w (w3.setCell ⟨G, i, none⟩ (.bool true)) := hb4.setCell hG _
            by_cases hg : ((tos l).take k).contains p.2 = true
            · have hn : Hid (permB l = false) := permB_no hlt (by rw [HG.out, hg]; simp)
              rw [hgb, hg] at hc
              clear hfp hfi hfb hgb hg hst hst2 hie hm3 hq HG
              go_wp2
              go_ret
              exact ⟨bool_end hn.out.symm, hb4⟩
            · have hg' : ((tos l).take k).contains p.2 = false := by simpa using hg
              have hn : Hid (∀ j, j < k + 1 → goodAt l j = true) := all_next hq.out (by rw [HG.out, hg', hfb]; rfl)
              rw [hgb, hg'] at hc
              clear hfp hfi hfb hgb hg hg' hie hm3 hq HG
              have HS := Lib.hid hst
              clear hst
              go_wp2
              refine ⟨⟨k + 1, by omega, by go_num, hn, HS.out, hst2⟩, ?_⟩
              simp only [intOf]
              omega
          · have hfb' : (froms l).contains p.2 = false := by simpa using hfb
            have hn : Hid (permB l = false) := permB_no hlt (by rw [HG.out, hfb']; rfl)
            rw [hfi, hfb'] at he
            subst he
            clear hfp hfi hfb hfb' hm3 hq HG
            go_wp2
            go_ret
            exact ⟨bool_end hn.out.symm, hb4⟩
        · have hn : Hid (permB l = true) := permB_yes h40 HO.out fun j hj => hq.out j (by omega)
          clear hq hm
          go_wp2
          go_ret
          exact ⟨bool_end hn.out.symm, hb⟩
    · have ho' : orderB l = false := by simpa using ho
      rw [ho'] at hio
      have hf : Hid (permB l = false) := by show permB l = false; unfold permB; rw [ho']; simp
      clear ho ho'
      go_enter Try.func100, Try.ntmps100
      go_wp2_with fail
      refine hio.mono ?_
      rintro e w1 ⟨rfl, hb1⟩
      go_wp2
      go_ret
      exact ⟨bool_end hf.out.symm, hb1⟩
  · have hf : Hid (permB l = false) := by show permB l = false; unfold permB; simp [h40]
    have h41 : 40 < l.length := by omega
    clear h40 hA
    go_enter Try.func100, Try.ntmps100
    go_wp2
    go_ret
    exact ⟨bool_end hf.out.symm, Below.refl _ _⟩

end Go.Proofs.Ytdbogjhkcnajkaa
end

section
namespace Go.Proofs.Ytdbogjhkcnajkaa
open Go.RowKit Go.Sort

theorem l1Atom_any (a : Int) (w : World) :
    Calls Try.prog 124 #[.int .i64 a] w fun e w' => e = .returned (.bool (atomB a)) ∧ w = w' := by
  by_cases h1 : 0 ≤ a
  · by_cases h2 : a ≤ 999
    · go_enter Try.func124, Try.ntmps124
      go_wp2
      go_ret
      exact ⟨bool_end (by simp [atomB, h1, h2]), rfl⟩
    · have k2 : decide (a ≤ 999) = false := by simpa using h2
      have k3 : 999 < a := by omega
      clear h2
      go_enter Try.func124, Try.ntmps124
      go_wp2
      go_ret
      exact ⟨bool_end (by simp [atomB]; omega), rfl⟩
  · have k1 : a < 0 := by omega
    clear h1
    go_enter Try.func124, Try.ntmps124
    go_wp2
    go_ret
    exact ⟨bool_end (by simp [atomB]; omega), rfl⟩

theorem l1Atom_below (a : Int) (w : World) :
    Calls Try.prog 124 #[.int .i64 a] w fun e w' => e = .returned (.bool (atomB a)) ∧ Below w.heap.size w w' :=
  (l1Atom_any a w).mono fun _ _ ⟨he, hw⟩ => ⟨he, hw ▸ Below.refl _ _⟩

/-- What the model asks of the pair at a place. -/
def okSAt (l : List (Int × Int)) (i : Nat) : Bool :=
  atomB (prAt l i).1 && (decide ((prAt l i).1 ≠ (prAt l i).2) && (decide (i = 0) || decide ((prAt l (i - 1)).1 < (prAt l i).1)))

def oneAt (l : List (Int × Int)) (i : Nat) : Bool := decide ((tos l).count (prAt l i).1 = 1)

def permSB (l : List (Int × Int)) : Bool := decide (l.length ≤ 40) && ((List.range l.length).all (okSAt l) && (List.range l.length).all (oneAt l))

theorem all_no {p : Nat → Bool} {n i : Nat} (hi : i < n) (h : p i = false) : (List.range n).all p = false := by
  rw [List.all_eq_false]
  exact ⟨i, List.mem_range.2 hi, by simp [h]⟩
theorem all_yes {p : Nat → Bool} {n : Nat} (h : ∀ j, j < n → p j = true) : (List.range n).all p = true := by
  rw [List.all_eq_true]
  exact fun x hx => h x (List.mem_range.1 hx)
theorem all_at {p : Nat → Bool} {n : Nat} (h : (List.range n).all p = true) (i : Nat) (hi : i < n) : p i = true := by
  rw [List.all_eq_true] at h
  exact h i (List.mem_range.2 hi)

theorem permSB_no1 {l : List (Int × Int)} {i : Nat} (hi : i < l.length) (h : okSAt l i = false) : permSB l = false := by
  unfold permSB; rw [all_no hi h]; simp
theorem permSB_no2 {l : List (Int × Int)} {i : Nat} (hi : i < l.length) (h : oneAt l i = false) : permSB l = false := by
  unfold permSB; rw [all_no hi h]; simp

/-- The same length, each element of the one without repetition in the other: the same elements. -/
theorem perm_of_subset : ∀ (xs ys : List Int), xs.Nodup → (∀ a, a ∈ xs → a ∈ ys) → ys.length ≤ xs.length → ys.Perm xs
  | [], ys, _, _, hl => by
    have : ys = [] := List.eq_nil_of_length_eq_zero (by simpa using hl)
    rw [this]
  | x :: r, ys, hn, hs, hl => by
    have hx : x ∈ ys := hs x List.mem_cons_self
    rw [List.nodup_cons] at hn
    have h1 : ys.Perm (x :: ys.erase x) := List.perm_cons_erase hx
    have h2 : (ys.erase x).Perm r := by
      refine perm_of_subset r (ys.erase x) hn.2 (fun a ha => ?_) ?_
      · have hne : a ≠ x := fun e => hn.1 (e ▸ ha)
        exact (List.mem_erase_of_ne hne).2 (hs a (List.mem_cons_of_mem _ ha))
      · rw [List.length_erase_of_mem hx]
        simp only [List.length_cons] at hl
        omega
    exact h1.trans (h2.cons x)

theorem nodup_of_get {l : List Int} (h : ∀ (i j : Nat) (a : Int), i < j → l[i]? = some a → l[j]? = some a → False) : l.Nodup := by
  rw [List.Nodup, List.pairwise_iff_getElem]
  intro i j hi hj hij e
  exact h i j l[i] hij (List.getElem?_eq_getElem hi) (by rw [List.getElem?_eq_getElem hj, e])

theorem asc_of {l : List (Int × Int)} (h : ∀ i, i < l.length → i = 0 ∨ (prAt l (i - 1)).1 < (prAt l i).1) : Asc l := by
  intro i j hij hj
  induction j with
  | zero => omega
  | succ j ih =>
    have h1 := h (j + 1) hj
    rcases h1 with h1 | h1
    · omega
    · have e : j + 1 - 1 = j := by omega
      rw [e] at h1
      by_cases hc : i = j
      · rw [hc]; exact h1
      · have := ih (by omega) (by omega); omega

theorem froms_nodup {l : List (Int × Int)} (h : Asc l) : (froms l).Nodup := by
  refine nodup_of_get fun i j a hij h1 h2 => ?_
  have hj : j < l.length := by
    rcases Nat.lt_or_ge j l.length with h3 | h3
    · exact h3
    · rw [List.getElem?_eq_none (by simpa [froms] using h3)] at h2; cases h2
  rw [froms_at l i (by omega)] at h1
  rw [froms_at l j hj] at h2
  have := h i j hij hj
  simp only [Option.some.injEq] at h1 h2
  omega

theorem mem_take_tos {l : List (Int × Int)} {k : Nat} {a : Int} (hk : k ≤ l.length) (h : a ∈ (tos l).take k) : ∃ j, j < k ∧ (prAt l j).2 = a := by
  obtain ⟨j, hj, e⟩ := List.getElem_of_mem h
  have hjk : j < k := by rw [List.length_take] at hj; omega
  refine ⟨j, hjk, ?_⟩
  have h1 := tos_at l j (by omega)
  have h2 : ((tos l).take k)[j]? = some a := by rw [List.getElem?_eq_getElem hj, e]
  rw [List.getElem?_take, if_pos hjk, h1] at h2
  injection h2

theorem take_tos_mem {l : List (Int × Int)} {j k : Nat} (hk : k ≤ l.length) (hj : j < k) : (prAt l j).2 ∈ (tos l).take k := by
  refine List.mem_of_getElem? (i := j) ?_
  rw [List.getElem?_take, if_pos hj]
  exact tos_at l j (by omega)

theorem okSAt_parts {l : List (Int × Int)} {i : Nat} (h : okSAt l i = true) :
    (0 ≤ (prAt l i).1 ∧ (prAt l i).1 ≤ 999) ∧ (prAt l i).1 ≠ (prAt l i).2 ∧ (i = 0 ∨ (prAt l (i - 1)).1 < (prAt l i).1) := by
  simpa [okSAt, atomB] using h

theorem perm_to (l : List (Int × Int)) (h : permSB l = true) : permB l = true := by
  unfold permSB at h
  simp only [Bool.and_eq_true, decide_eq_true_eq] at h
  obtain ⟨h40, hA, hB⟩ := h
  have hok := all_at hA
  have hone := all_at hB
  have hasc : Asc l := asc_of fun i hi => (okSAt_parts (hok i hi)).2.2
  have hP : (tos l).Perm (froms l) := by
    refine perm_of_subset _ _ (froms_nodup hasc) (fun a ha => ?_) (by simp [tos, froms])
    obtain ⟨i, hi, rfl⟩ := mem_froms.1 ha
    have h1 := hone i hi
    simp only [oneAt, decide_eq_true_eq] at h1
    exact List.count_pos_iff.1 (by omega)
  have hin : ∀ k, k < l.length → (prAt l k).2 ∈ froms l := fun k hk => hP.mem_iff.1 (List.mem_of_getElem? (tos_at l k hk))
  have hnd : (tos l).Nodup := hP.nodup_iff.2 (froms_nodup hasc)
  refine permB_yes h40 (orderB_yes fun j hj => ?_) fun j hj => ?_
  · have h1 := okSAt_parts (hok j hj)
    obtain ⟨q, hq, e⟩ := mem_froms.1 (hin j hj)
    have h2 := okSAt_parts (hok q hq)
    simp only [okAt, atomB, Bool.and_eq_true, decide_eq_true_eq, Bool.or_eq_true]
    rw [← e]
    exact ⟨h1.1, h2.1, by rw [e]; exact h1.2.1, h1.2.2⟩
  · unfold goodAt
    simp only [Bool.and_eq_true, List.contains_iff_mem, Bool.not_eq_true', ← Bool.not_eq_true]
    refine ⟨hin j hj, fun hc => ?_⟩
    obtain ⟨i, hij, e⟩ := mem_take_tos (by omega) hc
    rw [List.Nodup, List.pairwise_iff_getElem] at hnd
    have hli : i < (tos l).length := by simp [tos]; omega
    have hlj : j < (tos l).length := by simp [tos]; omega
    refine hnd i j hli hlj hij ?_
    have h1 := tos_at l i (by omega)
    have h2 := tos_at l j hj
    rw [List.getElem?_eq_getElem hli] at h1
    rw [List.getElem?_eq_getElem hlj] at h2
    injection h1 with h1
    injection h2 with h2
    rw [h1, h2, e]

theorem permB_parts {l : List (Int × Int)} (h : permB l = true) : l.length ≤ 40 ∧ orderB l = true ∧ ∀ j, j < l.length → goodAt l j = true := by
  unfold permB at h
  simp only [Bool.and_eq_true, decide_eq_true_eq] at h
  exact ⟨h.1, h.2.1, all_at h.2.2⟩

/-- What makes a permutation of a list of pairs. -/
theorem perm_tos {l : List (Int × Int)} (h : permB l = true) : (froms l).Perm (tos l) := by
  obtain ⟨h40, hO, hG⟩ := permB_parts h
  refine perm_of_subset _ _ (nodup_of_get fun i j a hij h1 h2 => ?_) (fun a ha => ?_) (by simp [tos, froms])
  · have hj : j < l.length := by
      rcases Nat.lt_or_ge j l.length with h3 | h3
      · exact h3
      · rw [List.getElem?_eq_none (by simpa [tos] using h3)] at h2; cases h2
    rw [tos_at l i (by omega)] at h1
    rw [tos_at l j hj] at h2
    simp only [Option.some.injEq] at h1 h2
    have h3 := hG j hj
    unfold goodAt at h3
    simp only [Bool.and_eq_true, Bool.not_eq_true', ← Bool.not_eq_true, List.contains_iff_mem] at h3
    exact h3.2 (by rw [h2, ← h1]; exact take_tos_mem (by omega) hij)
  · obtain ⟨i, hi, e⟩ := List.getElem_of_mem ha
    have hl : i < l.length := by simpa [tos] using hi
    have h1 := tos_at l i hl
    rw [List.getElem?_eq_getElem hi, e] at h1
    injection h1 with h1
    have h3 := hG i hl
    unfold goodAt at h3
    simp only [Bool.and_eq_true, List.contains_iff_mem] at h3
    rw [h1]
    exact h3.1

theorem perm_of (l : List (Int × Int)) (h : permB l = true) : permSB l = true := by
  obtain ⟨h40, hO, hG⟩ := permB_parts h
  have hP := perm_tos h
  have hasc := asc_of_order hO
  unfold permSB
  simp only [Bool.and_eq_true, decide_eq_true_eq]
  refine ⟨h40, all_yes fun j hj => ?_, all_yes fun j hj => ?_⟩
  · have h1 := okAt_parts (order_at hO j hj)
    simp only [okSAt, atomB, Bool.and_eq_true, decide_eq_true_eq, Bool.or_eq_true]
    exact ⟨h1.1, h1.2.2.1, h1.2.2.2⟩
  · simp only [oneAt, decide_eq_true_eq]
    rw [← hP.count_eq]
    have h1 := List.nodup_iff_count.1 (froms_nodup hasc) (prAt l j).1
    have h2 : 0 < (froms l).count (prAt l j).1 := List.count_pos_iff.2 (mem_froms.2 ⟨j, hj, rfl⟩)
    omega

theorem perm_same (l : List (Int × Int)) : permSB l = permB l := by
  rw [Bool.eq_iff_iff]
  exact ⟨perm_to l, perm_of l⟩

theorem count_next {l : List (Int × Int)} {q : Nat} {a : Int} (hq : q < l.length) :
    ((tos l).take (q + 1)).count a = ((tos l).take q).count a + if (prAt l q).2 = a then 1 else 0 := by
  have hlt : q < (tos l).length := by simpa [tos] using hq
  rw [List.take_succ_eq_append_getElem hlt]
  have h1 := tos_at l q hq
  rw [List.getElem?_eq_getElem hlt] at h1
  injection h1 with h1
  rw [h1, List.count_append]
  simp [List.count_singleton]

set_option maxRecDepth 100000 in
set_option maxHeartbeats 4000000 in
theorem isPerm_spec (A : Option Addr) (c : Nat) (l : List (Int × Int)) (w : World) (hA : PairsAt w A l) (hl : l.length ≤ 1099511627776) :
    Calls Try.prog 95 #[.slice A l.length c] w fun e w' => e = .returned (.bool (permSB l)) ∧ Below w.heap.size w w' := by
  by_cases h40 : l.length ≤ 40
  · go_enter Try.func95, Try.ntmps95
    go_wp2
    go_loopw [3] (fun i wr => ∃ k : Nat, k ≤ l.length ∧ i = .int .i64 k ∧ Hid (∀ j, j < k → okSAt l j = true) ∧ Below w.heap.size w wr) (fun i _ => l.length - (intOf i).toNat)
    case atStart => exact ⟨0, Nat.zero_le _, rfl, fun j hj => absurd hj (by omega), Below.refl _ _⟩
    case round =>
      obtain ⟨k, hk, rfl, hq, hb⟩ := hrel
      by_cases hlt : k < l.length
      · obtain ⟨b1, o1, rfl, hb1, hc1⟩ := hA (by omega)
        obtain ⟨c1, c2⟩ := hc1 k hlt
        rw [← hb.cell (p := ⟨b1, _, none⟩) hb1] at c1 c2
        by_cases ha1 : atomB (prAt l k).1 = true
        · by_cases ha3 : ((prAt l k).1 == (prAt l k).2) = true
          · have hn : Hid (permSB l = false) := permSB_no1 hlt (by simp only [beq_iff_eq] at ha3; simp [okSAt, ha3])
            generalize prAt l k = p1 at c1 c2 ha1 ha3
            have q1 := fun d os => cell_regrown c1 d os
            have q2 := fun d os => cell_regrown c2 d os
            clear hc1 hA hq c1 c2
            go_wp2_with fail
            refine wp_region_quiet_below (by kernel_rfl) (by kernel_rfl) ?_
            repeat (any_goals (first | go_big_quiet_step ((go_at_call 124; exact Calls.regrown_of (l1Atom_below _ _))) | quiet_step ((go_at_call 124; exact Calls.regrown_of (l1Atom_below _ _)))))
            refine wpQuiet_nil ?_
            intro _ hw'
            obtain ⟨⟨dq, osq⟩, hw''⟩ := hw'
            subst hw''
            have hb3 := hb.trans ((below_regrown wr dq osq).mono hb.size)
            generalize grow (redrawn wr dq) osq = w2 at hb3 ⊢
            clear q1 q2 hb
            go_wp2
            go_ret
            exact ⟨bool_end hn.out.symm, hb3⟩
          · have ha4 : ((prAt l k).1 == (prAt l k).2) = false := by simpa using ha3
            clear ha3
            by_cases hz : k = 0
            · subst hz
              have hn : Hid (∀ q, q < 0 + 1 → okSAt l q = true) := all_next hq.out (by simp [okSAt, ha1]; simpa using ha4)
              rw [Nat.zero_mul, Nat.add_zero] at c1 c2
              generalize prAt l 0 = p1 at c1 c2 ha1 ha4
              have q1 := fun d os => cell_regrown c1 d os
              have q2 := fun d os => cell_regrown c2 d os
              clear hc1 hA hq c1 c2
              go_wp2_with fail
              refine wp_region_quiet_below (by kernel_rfl) (by kernel_rfl) ?_
              repeat (any_goals (first | go_big_quiet_step ((go_at_call 124; exact Calls.regrown_of (l1Atom_below _ _))) | quiet_step ((go_at_call 124; exact Calls.regrown_of (l1Atom_below _ _)))))
              refine wpQuiet_nil ?_
              intro _ hw'
              obtain ⟨⟨dq, osq⟩, hw''⟩ := hw'
              subst hw''
              have hb3 := hb.trans ((below_regrown wr dq osq).mono hb.size)
              generalize grow (redrawn wr dq) osq = w2 at hb3 ⊢
              clear q1 q2 hb
              go_wp2
              refine ⟨⟨0 + 1, by omega, by go_num, hn, hb3⟩, ?_⟩
              simp only [intOf]
              omega
            · obtain ⟨j, rfl⟩ : ∃ j, k = j + 1 := ⟨k - 1, by omega⟩
              obtain ⟨c3, _⟩ := hc1 j (by omega)
              rw [← hb.cell (p := ⟨b1, _, none⟩) hb1] at c3
              by_cases hp : (prAt l j).1 < (prAt l (j + 1)).1
              · have hn : Hid (∀ q, q < j + 1 + 1 → okSAt l q = true) := all_next hq.out (by simp [okSAt, ha1, hp]; simpa using ha4)
                generalize prAt l (j + 1) = p1 at c1 c2 ha1 ha4 hp
                generalize (prAt l j).1 = p2 at c3 hp
                have q1 := fun d os => cell_regrown c1 d os
                have q2 := fun d os => cell_regrown c2 d os
                have q3 := fun d os => cell_regrown c3 d os
                clear hc1 hA hq c1 c2 c3 hz
                go_wp2_with fail
                refine wp_region_quiet_below (by kernel_rfl) (by kernel_rfl) ?_
                repeat (any_goals (first | go_big_quiet_step ((go_at_call 124; exact Calls.regrown_of (l1Atom_below _ _))) | quiet_step ((go_at_call 124; exact Calls.regrown_of (l1Atom_below _ _)))))
                refine wpQuiet_nil ?_
                intro _ hw'
                obtain ⟨⟨dq, osq⟩, hw''⟩ := hw'
                subst hw''
                have hb3 := hb.trans ((below_regrown wr dq osq).mono hb.size)
                generalize grow (redrawn wr dq) osq = w2 at hb3 ⊢
                clear q1 q2 q3 hb
                go_wp2
                refine ⟨⟨j + 1 + 1, by omega, by go_num, hn, hb3⟩, ?_⟩
                simp only [intOf]
                omega
              · have hn : Hid (permSB l = false) := permSB_no1 hlt (by simp [okSAt, hp])
                generalize prAt l (j + 1) = p1 at c1 c2 ha1 ha4 hp
                generalize (prAt l j).1 = p2 at c3 hp
                have hp' : p1.1 ≤ p2 := by omega
                have q1 := fun d os => cell_regrown c1 d os
                have q2 := fun d os => cell_regrown c2 d os
                have q3 := fun d os => cell_regrown c3 d os
                clear hc1 hA hq c1 c2 c3 hz hp
                go_wp2_with fail
                refine wp_region_quiet_below (by kernel_rfl) (by kernel_rfl) ?_
                repeat (any_goals (first | go_big_quiet_step ((go_at_call 124; exact Calls.regrown_of (l1Atom_below _ _))) | quiet_step ((go_at_call 124; exact Calls.regrown_of (l1Atom_below _ _)))))
                refine wpQuiet_nil ?_
                intro _ hw'
                obtain ⟨⟨dq, osq⟩, hw''⟩ := hw'
                subst hw''
                have hb3 := hb.trans ((below_regrown wr dq osq).mono hb.size)
                generalize grow (redrawn wr dq) osq = w2 at hb3 ⊢
                clear q1 q2 q3 hb
                go_wp2
                go_ret
                exact ⟨bool_end hn.out.symm, hb3⟩
        · have ha2 : atomB (prAt l k).1 = false := by simpa using ha1
          have hn : Hid (permSB l = false) := permSB_no1 hlt (by simp [okSAt, ha2])
          generalize prAt l k = p1 at c1 c2 ha1 ha2
          have q1 := fun d os => cell_regrown c1 d os
          clear hc1 hA hq c1 c2 ha1
          go_wp2_with fail
          refine wp_region_quiet_below (by kernel_rfl) (by kernel_rfl) ?_
          repeat (any_goals (first | go_big_quiet_step ((go_at_call 124; exact Calls.regrown_of (l1Atom_below _ _))) | quiet_step ((go_at_call 124; exact Calls.regrown_of (l1Atom_below _ _)))))
          refine wpQuiet_nil ?_
          intro _ hw'
          obtain ⟨⟨dq, osq⟩, hw''⟩ := hw'
          subst hw''
          have hb3 := hb.trans ((below_regrown wr dq osq).mono hb.size)
          generalize grow (redrawn wr dq) osq = w2 at hb3 ⊢
          clear q1 hb
          go_wp2
          go_ret
          exact ⟨bool_end hn.out.symm, hb3⟩
      · have hok : Hid (∀ j, j < l.length → okSAt l j = true) := fun j hj => hq.out j (by omega)
        obtain ⟨wo, rfl⟩ : ∃ wo : World, wo = wr := ⟨_, rfl⟩
        clear hq
        go_wp2
        go_loopw [4, 5, 6] (fun i _ _ wr => ∃ k : Nat, k ≤ l.length ∧ i = .int .i64 k ∧ Hid (∀ j, j < k → oneAt l j = true) ∧ Below w.heap.size w wr) (fun i _ _ _ => l.length - (intOf i).toNat)
        case atStart => exact ⟨0, Nat.zero_le _, rfl, fun j hj => absurd hj (by omega), hb⟩
        case round =>
          clear hb
          obtain ⟨k2, hk2, rfl, hq2, hb⟩ := hrel
          by_cases hlt2 : k2 < l.length
          · obtain ⟨b1, o1, rfl, hb1, hc1⟩ := hA (by omega)
            obtain ⟨d1, _⟩ := hc1 k2 hlt2
            have HC := Lib.hid hc1
            have hn1 : Hid (oneAt l k2 = decide ((tos l).count (prAt l k2).1 = 1)) := rfl
            clear hc1 hA
            generalize (prAt l k2).1 = a at d1 hn1
            obtain ⟨wo2, rfl⟩ : ∃ wo : World, wo = wr := ⟨_, rfl⟩
            go_wp2
            go_loopw [5, 6] (fun cn q wr => ∃ q' : Nat, q' ≤ l.length ∧ q = .int .i64 q' ∧ cn = .int .i64 (((tos l).take q').count a : Nat) ∧ Below w.heap.size w wr) (fun _ q _ => l.length - (intOf q).toNat)
            case atStart => exact ⟨0, Nat.zero_le _, rfl, by simp, hb⟩
            case round =>
              obtain ⟨wi, rfl⟩ : ∃ wi : World, wi = wr := ⟨_, rfl⟩
              clear hb
              obtain ⟨q', hq', rfl, rfl, hbi⟩ := hrel
              by_cases hlt3 : q' < l.length
              · obtain ⟨_, e2⟩ := HC.out q' hlt3
                have e1 := d1
                rw [← hbi.cell (p := ⟨b1, _, none⟩) hb1] at e1 e2
                have q1 := fun d os => cell_regrown e1 d os
                have q2 := fun d os => cell_regrown e2 d os
                have hcn := count_next (a := a) hlt3
                have hcle : ((tos l).take q').count a ≤ q' := Nat.le_trans List.count_le_length (by rw [List.length_take]; omega)
                generalize ((tos l).take q').count a = m at hcn hcle ⊢
                by_cases ht : ((prAt l q').2 == a) = true
                · have hcn' : Hid (((tos l).take (q' + 1)).count a = m + 1) := by
                    show ((tos l).take (q' + 1)).count a = m + 1
                    rw [hcn, if_pos (by simpa using ht)]
                  generalize (prAt l q').2 = t at ht q2 e2
                  clear hcn e1 e2
                  go_wp2
                  refine wp_region_quiet_below (by kernel_rfl) (by kernel_rfl) ?_
                  repeat (any_goals (first | go_big_quiet_step (fail) | quiet_step (fail)))
                  refine wpQuiet_nil ?_
                  intro _ hw'
                  obtain ⟨⟨dq, osq⟩, hw''⟩ := hw'
                  subst hw''
                  have hb3 := hbi.trans ((below_regrown wi dq osq).mono hbi.size)
                  generalize grow (redrawn wi dq) osq = w2 at hb3 ⊢
                  clear q1 q2 hbi
                  go_wp2
                  refine ⟨⟨q' + 1, by omega, by go_num, by rw [hcn'.out]; go_num, hb3⟩, ?_⟩
                  simp only [intOf]
                  omega
                · have ht' : ((prAt l q').2 == a) = false := by simpa using ht
                  have hcn' : Hid (((tos l).take (q' + 1)).count a = m) := by
                    show ((tos l).take (q' + 1)).count a = m
                    rw [hcn, if_neg (by simpa using ht)]
                    rfl
                  generalize (prAt l q').2 = t at ht ht' q2 e2
                  clear hcn e1 e2 ht
                  go_wp2
                  refine wp_region_quiet_below (by kernel_rfl) (by kernel_rfl) ?_
                  repeat (any_goals (first | go_big_quiet_step (fail) | quiet_step (fail)))
                  refine wpQuiet_nil ?_
                  intro _ hw'
                  obtain ⟨⟨dq, osq⟩, hw''⟩ := hw'
                  subst hw''
                  have hb3 := hbi.trans ((below_regrown wi dq osq).mono hbi.size)
                  generalize grow (redrawn wi dq) osq = w2 at hb3 ⊢
                  clear q1 q2 hbi
                  go_wp2
                  refine ⟨⟨q' + 1, by omega, by go_num, by rw [hcn'.out], hb3⟩, ?_⟩
                  simp only [intOf]
                  omega
              · have hall : Hid (((tos l).take q').count a = (tos l).count a) := by
                  show ((tos l).take q').count a = (tos l).count a
                  rw [List.take_of_length_le (by simp [tos]; omega)]
                rw [hall.out]
                have hcle : (tos l).count a ≤ l.length := Nat.le_trans List.count_le_length (by simp [tos])
                by_cases h1 : (tos l).count a = 1
                · have hn2 : Hid (∀ j, j < k2 + 1 → oneAt l j = true) := all_next hq2.out (by rw [hn1.out, h1]; rfl)
                  have t1 : (((tos l).count a : Int) != 1) = false := by rw [h1]; rfl
                  generalize (tos l).count a = m at t1 ⊢
                  clear h1 hall hn1 hq2 hcle
                  go_wp2
                  refine ⟨⟨k2 + 1, by omega, by go_num, hn2, hbi⟩, ?_⟩
                  simp only [intOf]
                  omega
                · have hn2 : Hid (permSB l = false) := permSB_no2 hlt2 (by rw [hn1.out]; simpa using h1)
                  have t1 : (((tos l).count a : Int) != 1) = true := by simp; omega
                  generalize (tos l).count a = m at t1 ⊢
                  clear h1 hall hn1 hq2 hcle
                  go_wp2
                  go_ret
                  exact ⟨bool_end hn2.out.symm, hbi⟩
          · have hn2 : Hid (permSB l = true) := by
              show permSB l = true
              unfold permSB
              rw [all_yes hok.out, all_yes fun j hj => hq2.out j (by omega)]
              simp [h40]
            clear hq2
            go_wp2
            go_ret
            exact ⟨bool_end hn2.out.symm, hb⟩
  · have hf : Hid (permSB l = false) := by show permSB l = false; unfold permSB; simp [h40]
    have h41 : 40 < l.length := by omega
    clear h40 hA
    go_enter Try.func95, Try.ntmps95
    go_wp2
    go_ret
    exact ⟨bool_end hf.out.symm, Below.refl _ _⟩

end Go.Proofs.Ytdbogjhkcnajkaa
end

