/-
  Orbit sets in the program: whether they are valid, as contracts. Formulas in the program: whether they are valid, their constants aside, as contracts. HasTuple in the program, as a contract.
-/
import Derived.Test.YthjkogighppeaaaKSetOfFormula8
import Derived.Test.YthjkogighppeaaaKSetOfFormula3
import Derived.Test.YthjkogighppeaaaKSetOfFormula9
import Derived.Test.YthjkogighppeaaaKSetOfFormula6
section
namespace Go.Proofs.Ythjkogighppeaaa
open Go.RowKit Go.Sort
set_option linter.unusedVariables false

theorem isWidth_any (z : Int) (w : World) :
    Calls Try.prog 49 #[.int .i64 z] w fun e w' => e = .returned (.bool (widB z)) ∧ w = w' := by
  by_cases h1 : 0 ≤ z
  · by_cases h2 : z ≤ 4
    · go_enter Try.func49, Try.ntmps49
      go_wp2
      go_ret
      exact ⟨bool_end (by simp [widB, h1, h2]), rfl⟩
    · have h3 : 4 < z := by omega
      clear h2
      go_enter Try.func49, Try.ntmps49
      go_wp2
      go_ret
      exact ⟨bool_end (by simp [widB]; omega), rfl⟩
  · have h3 : z < 0 := by omega
    clear h1
    go_enter Try.func49, Try.ntmps49
    go_wp2
    go_ret
    exact ⟨bool_end (by simp [widB]; omega), rfl⟩

set_option maxRecDepth 100000 in
set_option maxHeartbeats 1000000 in
theorem newNumber_any (A : Option Addr) (c : Nat) (p : List Int) (k : Int) (w : World) (hA : IntsAt w A p) (hl : p.length ≤ 1099511627776) (h0 : 0 ≤ k) (h1 : k ≤ 1000000) (hb : ∀ i, i < p.length → 0 ≤ itAt p i ∧ itAt p i < 1000000) :
    Calls Try.prog 77 #[.slice A p.length c, .int .i64 k] w fun e w' => e = .returned (.int .i64 (newN k p)) ∧ w = w' := by
  go_enter Try.func77, Try.ntmps77
  go_wp2
  go_loop [5, 7, 11] (fun m _ i => ∃ j : Nat, j ≤ p.length ∧ i = .int .i64 j ∧ m = .int .i64 (newN k (p.take j))) (fun _ _ i => p.length - (intOf i).toNat)
  case atStart => exact ⟨0, Nat.zero_le _, rfl, rfl⟩
  case round =>
    obtain ⟨j, hj, rfl, rfl⟩ := hrel
    by_cases hlt : j < p.length
    · obtain ⟨b1, o1, rfl, hb1, hc1⟩ := hA (by omega)
      have c1 := hc1 j hlt
      have hnx := Lib.hid (newN_next (k := k) hlt)
      obtain ⟨hy0, hy⟩ := hb j hlt
      have hg := newN_ge k (p.take j)
      have hB := newN_bound (k := k) (B := 1000000) (p := p.take j) h1 (fun i hi => by
        rw [List.length_take] at hi
        have h5 := (hb i (by omega)).2
        rwa [show itAt (p.take j) i = itAt p i by simp [itAt, show i < j by omega]])
      generalize itAt p j = y at c1 hnx hy hy0
      generalize newN k (p.take j) = m at hnx hg hB
      clear hc1 hA hb
      by_cases hle : m < y + 1
      · have hm : Hid (newN k (p.take (j + 1)) = y + 1) := Lib.hid (by rw [hnx.out]; omega)
        clear hnx
        go_wp2
        go_round
        case rel => exact ⟨j + 1, by omega, by go_num, by rw [hm.out]; try (simp [hle]; done)⟩
        case measure => simp [intOf]; omega
      · have hm : Hid (newN k (p.take (j + 1)) = m) := Lib.hid (by rw [hnx.out]; omega)
        clear hnx
        go_wp2
        go_round
        case rel => exact ⟨j + 1, by omega, by go_num, by rw [hm.out]; try (simp [hle]; done)⟩
        case measure => simp [intOf]; omega
    · have e : j = p.length := by omega
      subst e
      clear hA hb
      go_wp2
      go_ret
      first | exact ⟨rfl, rfl⟩ | exact ⟨by rw [List.take_length], rfl⟩

theorem widB_iff {z : Int} : widB z = true ↔ 0 ≤ z ∧ z ≤ 4 := by simp [widB]
end Go.Proofs.Ythjkogighppeaaa
end

section
namespace Go.Proofs.Ythjkogighppeaaa
open Go.RowKit Go.Sort
set_option linter.unusedVariables false

def placeB (a z : Int) : Bool := decide (0 ≤ a ∧ a < z)
def aloneB (P : Fm → Bool) (n : Int) (t : Fm) : Bool := (decide (t.fa = 0) && decide (t.fb = 0)) && (decide ((t.kids.length : Int) = n) && t.kids.all P)
def leafB (b : Bool) (t : Fm) : Bool := b && decide (t.kids.length = 0)
/-- Whether a formula of at most so great a depth is valid for a width, its constants aside. -/
def fwB : Nat → Int → Fm → Bool
  | 0, _, _ => false
  | d + 1, z, t => widB z && (if t.op = 1 then leafB (placeB t.fa z && placeB t.fb z) t else if t.op = 2 then leafB (placeB t.fa z && atomB t.fb) t else if t.op = 3 then aloneB (fwB d z) 1 t
      else if t.op = 4 then aloneB (fwB d z) 2 t else if t.op = 5 then aloneB (fwB d z) 2 t else if t.op = 6 then aloneB (fwB d (z + 1)) 1 t else if t.op = 7 then aloneB (fwB d (z + 1)) 1 t else false)

theorem isPlace_any (a z : Int) (w : World) :
    Calls Try.prog 61 #[.int .i64 a, .int .i64 z] w fun e w' => e = .returned (.bool (placeB a z)) ∧ w = w' := by
  by_cases h1 : 0 ≤ a
  · by_cases h2 : a < z
    · go_enter Try.func61, Try.ntmps61
      go_wp2
      go_ret
      exact ⟨bool_end (by simp [placeB, h1, h2]), rfl⟩
    · have h3 : z ≤ a := by omega
      have hn : placeB a z = false := by simp [placeB]; omega
      go_enter Try.func61, Try.ntmps61
      go_wp2
      go_ret
      exact ⟨bool_end (by first | rfl | (rw [hn]; first | rfl | (simp; omega))), rfl⟩
  · have h3 : a < 0 := by omega
    have hn : placeB a z = false := by simp [placeB]; omega
    clear h1
    go_enter Try.func61, Try.ntmps61
    go_wp2
    go_ret
    exact ⟨bool_end (by first | rfl | (rw [hn]; first | rfl | (simp; omega))), rfl⟩

theorem allF_no {P : Fm → Bool} {ks : List Fm} {k : Nat} (hk : k < ks.length) (h : P (fmAt ks k) = false) : ks.all P = false := by
  rw [List.all_eq_false]
  exact ⟨fmAt ks k, by rw [fmAt_get ks k hk]; exact List.getElem_mem hk, by simp [h]⟩
theorem allF_yes {P : Fm → Bool} {ks : List Fm} (h : ∀ k, k < ks.length → P (fmAt ks k) = true) : ks.all P = true := by
  rw [List.all_eq_true]
  intro a ha
  obtain ⟨k, hk, rfl⟩ := List.getElem_of_mem ha
  rw [← fmAt_get ks k hk]
  exact h k hk

/-- The contract that is handed down. -/
def WithinC (d : Nat) : Prop := ∀ (D : Int), D = d → ∀ (t : Fm) (z : Int) (x : Value) (w : World), FitFm t → FmIn w x t → Calls Try.prog 44 #[x, .int .i64 z, .int .i64 D] w (BoolP (fwB d z t) w)

set_option maxRecDepth 100000 in
set_option maxHeartbeats 1000000 in
theorem notWithin_any (d : Nat) (hd : d ≤ 6) (ih : WithinC d) (D z : Int) (hD : D = d + 1) (V6 V7 : Nat) (t : Fm) (x : Value) (w : World) (hf : FitFm t) (hx : FmIn w x t) (h6 : w.cell? ⟨V6, 0, none⟩ = some (.int .i64 z)) (h7 : w.cell? ⟨V7, 0, none⟩ = some (.int .i64 D)) :
    Calls Try.prog 74 #[x, .pointer (some ⟨V6, 0, none⟩), .pointer (some ⟨V7, 0, none⟩)] w (BoolP (!fwB d z t) w) := by
  have hX := hx
  obtain ⟨B, e, rfl, hk⟩ := hx
  have hb0 : Below w.heap.size w (w.alloc (.cells #[.int .i64 t.op, .int .i64 t.fa, .int .i64 t.fb, .slice B t.kids.length e] 34)) := (Below.refl _ _).alloc (Nat.le_refl _) _
  have hc := ih (D - 1) (by omega) t z _ _ hf (hX.below hb0)
  have hl6 : V6 < w.heap.size := block_lt_of_cell h6
  have hl7 : V7 < w.heap.size := block_lt_of_cell h7
  have hD1 : 0 ≤ D ∧ D ≤ 7 := by omega
  obtain ⟨hD2, hD3⟩ := hD1
  clear ih hk hX hD
  generalize fwB d z t = r at *
  go_enter Try.func74, Try.ntmps74
  go_wp2_with (go_at_call 44; refine hc.mono ?_; rintro e w2 ⟨rfl, hb2⟩; have hb3 := hb0.trans (hb2.mono hb0.size))
  clear hc hb0 hb2 h6 h7
  go_ret
  exact ⟨rfl, hb3⟩

set_option maxRecDepth 100000 in
set_option maxHeartbeats 2000000 in
theorem indexNotWithin_any (d : Nat) (hd : d ≤ 6) (ih : WithinC d) (D z : Int) (hD : D = d + 1) (V6 V7 : Nat) (A : Option Addr) (c : Nat) (ks : List Fm) (w : World) (hf : FitFms ks) (hll : ks.length ≤ 1048576) (hA : FmsIn w (.slice A ks.length c) ks) (h6 : w.cell? ⟨V6, 0, none⟩ = some (.int .i64 z)) (h7 : w.cell? ⟨V7, 0, none⟩ = some (.int .i64 D)) :
    Calls Try.prog 81 #[.slice A ks.length c, .func (.func 74) #[] #[.pointer (some ⟨V6, 0, none⟩), .pointer (some ⟨V7, 0, none⟩)]] w
      fun e w' => (∃ i : Int, e = .returned (.int .i64 i) ∧ ((0 ≤ i ∧ ks.all (fwB d z) = false) ∨ (i < 0 ∧ ks.all (fwB d z) = true))) ∧ Below w.heap.size w w' := by
  have hl6 : V6 < w.heap.size := block_lt_of_cell h6
  have hl7 : V7 < w.heap.size := block_lt_of_cell h7
  go_enter Try.func81, Try.ntmps81
  go_wp2
  go_loopw [5, 8] (fun _ i wr => ∃ k : Nat, k ≤ ks.length ∧ i = .int .i64 k ∧ Hid (∀ j, j < k → fwB d z (fmAt ks j) = true) ∧ Below w.heap.size w wr) (fun _ i _ => ks.length - (intOf i).toNat)
  case atStart => exact ⟨0, Nat.zero_le _, rfl, Lib.hid (fun j hj => absurd hj (by omega)), Below.refl _ _⟩
  case round =>
    obtain ⟨k, hk, rfl, hn, hb⟩ := hrel
    by_cases hlt : k < ks.length
    · obtain ⟨b1, o1, rfl, hb1, hc1⟩ := (hA.below hb).get (by omega)
      obtain ⟨B1, e1, d0, d1, d2, d3, hk1⟩ := hc1 k hlt
      have g6 := (hb.cell (p := ⟨V6, 0, none⟩) hl6).trans h6
      have g7 := (hb.cell (p := ⟨V7, 0, none⟩) hl7).trans h7
      have hcall := notWithin_any d hd ih D z hD V6 V7 (fmAt ks k) _ wr (fitFms_at hf hlt) ⟨B1, e1, rfl, hk1⟩ g6 g7
      by_cases hx : fwB d z (fmAt ks k) = true
      · have hn2 := Lib.hid (next_all (p := fun j => fwB d z (fmAt ks j)) hn.out hx)
        rw [hx] at hcall
        clear hc1 hA hn hx hk1 h6 h7 g6 g7 ih hf
        generalize fmAt ks k = t at *
        go_wp2_with (go_at_call 74; refine hcall.mono ?_; rintro e w2 ⟨rfl, hb2⟩; have hb3 := hb.trans (hb2.mono hb.size))
        clear hcall d0 d1 d2 d3 hb hb2
        refine ⟨⟨k + 1, by omega, by go_num, hn2, hb3⟩, ?_⟩
        simp only [intOf]
        omega
      · have hx' : fwB d z (fmAt ks k) = false := by simpa using hx
        have hn2 := Lib.hid (allF_no hlt hx')
        rw [hx'] at hcall
        clear hc1 hA hn hx hx' hk1 h6 h7 g6 g7 ih hf
        generalize fmAt ks k = t at *
        go_wp2_with (go_at_call 74; refine hcall.mono ?_; rintro e w2 ⟨rfl, hb2⟩; have hb3 := hb.trans (hb2.mono hb.size))
        clear hcall d0 d1 d2 d3 hb hb2
        go_ret
        exact ⟨⟨_, rfl, Or.inl ⟨by omega, hn2.out⟩⟩, hb3⟩
    · have hn2 := Lib.hid (allF_yes (P := fwB d z) (ks := ks) fun j hj => hn.out j (by omega))
      clear hn hA h6 h7 ih hf
      go_wp2
      go_ret
      exact ⟨⟨_, rfl, Or.inr ⟨by decide, hn2.out⟩⟩, hb⟩

theorem containsNotWithin_any (d : Nat) (hd : d ≤ 6) (ih : WithinC d) (D z : Int) (hD : D = d + 1) (V6 V7 : Nat) (A : Option Addr) (c : Nat) (ks : List Fm) (w : World) (hf : FitFms ks) (hll : ks.length ≤ 1048576) (hA : FmsIn w (.slice A ks.length c) ks) (h6 : w.cell? ⟨V6, 0, none⟩ = some (.int .i64 z)) (h7 : w.cell? ⟨V7, 0, none⟩ = some (.int .i64 D)) :
    Calls Try.prog 73 #[.slice A ks.length c, .func (.func 74) #[] #[.pointer (some ⟨V6, 0, none⟩), .pointer (some ⟨V7, 0, none⟩)]] w (BoolP (!ks.all (fwB d z)) w) := by
  have hi := indexNotWithin_any d hd ih D z hD V6 V7 A c ks w hf hll hA h6 h7
  clear hA hf h6 h7 ih
  generalize ks.all (fwB d z) = r at hi ⊢
  generalize ks.length = n at hi ⊢
  go_enter Try.func73, Try.ntmps73
  go_wp2_with fail
  refine hi.mono ?_
  rintro e w2 ⟨⟨i, rfl, h⟩, hb⟩
  clear hi
  rcases h with ⟨h, rfl⟩ | ⟨h, rfl⟩
  · go_wp2
    go_ret
    exact ⟨rfl, hb⟩
  · have h' : ¬ 0 ≤ i := by omega
    go_wp2
    go_ret
    exact ⟨bool_end (by first | rfl | (simp; omega)), hb⟩

set_option maxRecDepth 100000 in
set_option maxHeartbeats 4000000 in
theorem hasKidsAlone_any (d : Nat) (hd : d ≤ 6) (ih : WithinC d) (D z n : Int) (hD : D = d + 1) (t : Fm) (x : Value) (w : World) (hf : FitFm t) (hx : FmIn w x t) :
    Calls Try.prog 63 #[x, .int .i64 n, .int .i64 z, .int .i64 D] w (BoolP (aloneB (fwB d z) n t) w) := by
  obtain ⟨B, e, rfl, hk⟩ := hx
  have h2 := (fitFm_eq _).1 hf
  have hb0 : Below w.heap.size w (((w.alloc (.cells #[.int .i64 t.op, .int .i64 t.fa, .int .i64 t.fb, .slice B t.kids.length e] 34)).alloc (.cells #[.int .i64 z] 3)).alloc (.cells #[.int .i64 D] 3)) := (((Below.refl _ _).alloc (Nat.le_refl _) _).alloc (by simp) _).alloc (by simp; omega) _
  have c6 : (((w.alloc (.cells #[.int .i64 t.op, .int .i64 t.fa, .int .i64 t.fb, .slice B t.kids.length e] 34)).alloc (.cells #[.int .i64 z] 3)).alloc (.cells #[.int .i64 D] 3)).cell? ⟨w.heap.size + 1, 0, none⟩ = some (.int .i64 z) := by
    have h9 := heap_alloc_new (w.alloc (.cells #[.int .i64 t.op, .int .i64 t.fa, .int .i64 t.fb, .slice B t.kids.length e] 34)) (.cells #[.int .i64 z] 3)
    rw [World.size_alloc] at h9
    rw [cell_of_row _ (w.heap.size + 1) 0 _ _ _ ((Below.heap_alloc _ _ _ (by simp)).trans h9)] <;> rfl
  have c7 : (((w.alloc (.cells #[.int .i64 t.op, .int .i64 t.fa, .int .i64 t.fb, .slice B t.kids.length e] 34)).alloc (.cells #[.int .i64 z] 3)).alloc (.cells #[.int .i64 D] 3)).cell? ⟨w.heap.size + 1 + 1, 0, none⟩ = some (.int .i64 D) := by
    have h9 := heap_alloc_new ((w.alloc (.cells #[.int .i64 t.op, .int .i64 t.fa, .int .i64 t.fb, .slice B t.kids.length e] 34)).alloc (.cells #[.int .i64 z] 3)) (.cells #[.int .i64 D] 3)
    rw [World.size_alloc, World.size_alloc] at h9
    rw [cell_of_row _ (w.heap.size + 1 + 1) 0 _ _ _ h9] <;> rfl
  have hcf := containsNotWithin_any d hd ih D z hD (w.heap.size + 1) (w.heap.size + 1 + 1) B e t.kids _ h2.2 h2.1 (hk.below hb0) c6 c7
  clear ih hk hf h2 c6 c7 hD
  by_cases ha : t.fa = 0
  · have ha1 : (t.fa != 0) = false := by simp [ha]
    by_cases hbb : t.fb = 0
    · have hb1 : (t.fb != 0) = false := by simp [hbb]
      by_cases hl : (t.kids.length : Int) = n
      · have hl1 : ((t.kids.length : Int) != n) = false := by simp [hl]
        have hn : Hid (aloneB (fwB d z) n t = t.kids.all (fwB d z)) := Lib.hid (by simp [aloneB, ha, hbb, hl])
        clear ha hbb hl
        generalize t.kids.all (fwB d z) = r at *
        generalize t.kids.length = kl at *
        generalize t.fa = fa at *
        generalize t.fb = fb at *
        go_enter Try.func63, Try.ntmps63
        go_wp2_with (go_at_call 73; refine hcf.mono ?_; rintro e w2 ⟨rfl, hb2⟩; have hb3 := hb0.trans (hb2.mono hb0.size))
        clear hcf hb0 hb2
        go_ret
        exact ⟨bool_end (by first | exact hn.out.symm | (rw [hn.out]; cases r <;> rfl)), hb3⟩
      · have hl1 : ((t.kids.length : Int) != n) = true := by simp [hl]
        have hn : Hid (aloneB (fwB d z) n t = false) := Lib.hid (by simp [aloneB, hl])
        clear ha hbb hl hcf
        generalize t.kids.length = kl at *
        generalize t.fa = fa at *
        generalize t.fb = fb at *
        go_enter Try.func63, Try.ntmps63
        go_wp2
        go_ret
        exact ⟨bool_end hn.out.symm, hb0⟩
    · have hb1 : (t.fb != 0) = true := by simp [hbb]
      have hn : Hid (aloneB (fwB d z) n t = false) := Lib.hid (by simp [aloneB, hbb])
      clear ha hbb hcf
      generalize t.kids.length = kl at *
      generalize t.fa = fa at *
      generalize t.fb = fb at *
      go_enter Try.func63, Try.ntmps63
      go_wp2
      go_ret
      exact ⟨bool_end hn.out.symm, hb0⟩
  · have ha1 : (t.fa != 0) = true := by simp [ha]
    have hn : Hid (aloneB (fwB d z) n t = false) := Lib.hid (by simp [aloneB, ha])
    clear ha hcf
    generalize t.kids.length = kl at *
    generalize t.fa = fa at *
    generalize t.fb = fb at *
    go_enter Try.func63, Try.ntmps63
    go_wp2
    go_ret
    exact ⟨bool_end hn.out.symm, hb0⟩

theorem fw_no {d : Nat} {z : Int} {t : Fm} (h : widB z = false) : fwB (d + 1) z t = false := by simp [fwB, h]
theorem fw_yes {d : Nat} {z : Int} {o a b : Int} {ks : List Fm} (h : widB z = true) : fwB (d + 1) z (.mk o a b ks) = (if o = 1 then leafB (placeB a z && placeB b z) (.mk o a b ks) else if o = 2 then leafB (placeB a z && atomB b) (.mk o a b ks) else if o = 3 then aloneB (fwB d z) 1 (.mk o a b ks)
      else if o = 4 then aloneB (fwB d z) 2 (.mk o a b ks) else if o = 5 then aloneB (fwB d z) 2 (.mk o a b ks) else if o = 6 then aloneB (fwB d (z + 1)) 1 (.mk o a b ks) else if o = 7 then aloneB (fwB d (z + 1)) 1 (.mk o a b ks) else false) := by
  rw [fwB, h]; rfl

set_option maxRecDepth 100000 in
set_option maxHeartbeats 16000000 in
theorem within_step (d : Nat) (hd : d + 1 ≤ 6) (ih : WithinC d) : WithinC (d + 1) := by
  intro D hD t z x w hf hx
  have hX := hx
  obtain ⟨B, e, rfl, hk⟩ := hx
  have hb0 : Below w.heap.size w (w.alloc (.cells #[.int .i64 t.op, .int .i64 t.fa, .int .i64 t.fb, .slice B t.kids.length e] 34)) := (Below.refl _ _).alloc (Nat.le_refl _) _
  have hwi := isWidth_any z (w.alloc (.cells #[.int .i64 t.op, .int .i64 t.fa, .int .i64 t.fb, .slice B t.kids.length e] 34))
  have hD0 : (D == 0) = false := by simp [hD]; omega
  cases hw : widB z with
  | false =>
    rw [hw] at hwi
    rw [fw_no hw]
    clear ih hf hX hk hD
    go_enter Try.func44, Try.ntmps44
    go_wp2_with (go_at_call 49; refine hwi.mono ?_; rintro e w2 ⟨rfl, rfl⟩)
    go_ret
    exact ⟨rfl, hb0⟩
  | true =>
    rw [hw] at hwi
    have hz4 := widB_iff.1 hw
    obtain ⟨hz0, hz1⟩ := hz4
    have hka := fun (z' n : Int) => hasKidsAlone_any d (by omega) ih D z' n (by omega) t _ _ hf (hX.below hb0)
    have hpa := fun (a z' : Int) W => isPlace_any a z' W
    have hat := fun (a : Int) W => isAtom_any a W
    have hdep : D ≤ 6 := by omega
    cases t with
    | mk o a b ks =>
    simp only [Fm.op, Fm.fa, Fm.fb, Fm.kids] at hka hb0 hwi ⊢
    rw [fw_yes hw]
    clear ih hf hX hk hD hw
    by_cases h1 : o = 1
    · subst h1
      rw [if_pos rfl]
      have hn : Hid (leafB (placeB a z && placeB b z) (.mk 1 a b ks) = ((placeB a z && placeB b z) && decide (ks.length = 0))) := Lib.hid rfl
      rw [hn.out]
      have hpa1 := fun W => hpa a z W
      have hpa2 := fun W => hpa b z W
      clear hka hat hpa hn
      generalize placeB a z = p1 at *
      generalize placeB b z = p2 at *
      cases p1 with
      | false =>
        go_enter Try.func44, Try.ntmps44
        go_wp2_with (first
          | (go_at_call 49; refine hwi.mono ?_; rintro e w2 ⟨rfl, rfl⟩)
          | (go_at_call 61; refine (hpa1 _).mono ?_; rintro e w2 ⟨rfl, rfl⟩))
        go_ret
        exact ⟨rfl, hb0⟩
      | true =>
        cases p2 with
        | false =>
          go_enter Try.func44, Try.ntmps44
          go_wp2_with (first
            | (go_at_call 49; refine hwi.mono ?_; rintro e w2 ⟨rfl, rfl⟩)
            | (go_at_call_of 61 a; refine (hpa1 _).mono ?_; rintro e w2 ⟨rfl, rfl⟩)
            | (go_at_call_of 61 b; refine (hpa2 _).mono ?_; rintro e w2 ⟨rfl, rfl⟩))
          go_ret
          exact ⟨rfl, hb0⟩
        | true =>
          go_enter Try.func44, Try.ntmps44
          go_wp2_with (first
            | (go_at_call 49; refine hwi.mono ?_; rintro e w2 ⟨rfl, rfl⟩)
            | (go_at_call_of 61 a; refine (hpa1 _).mono ?_; rintro e w2 ⟨rfl, rfl⟩)
            | (go_at_call_of 61 b; refine (hpa2 _).mono ?_; rintro e w2 ⟨rfl, rfl⟩))
          go_ret
          exact ⟨bool_end (by first | rfl | (rw [Bool.eq_iff_iff]; simp) | (simp; omega)), hb0⟩
    · have e1 : (o == 1) = false := by simp [h1]
      rw [if_neg h1]
      by_cases h2 : o = 2
      · subst h2
        rw [if_pos rfl]
        have hn : Hid (leafB (placeB a z && atomB b) (.mk 2 a b ks) = ((placeB a z && atomB b) && decide (ks.length = 0))) := Lib.hid rfl
        rw [hn.out]
        have hpa1 := fun W => hpa a z W
        have hat1 := fun W => hat b W
        clear hka hat hpa hn h1 e1
        generalize placeB a z = p1 at *
        generalize atomB b = p2 at *
        cases p1 with
        | false =>
          go_enter Try.func44, Try.ntmps44
          go_wp2_with (first
            | (go_at_call 49; refine hwi.mono ?_; rintro e w2 ⟨rfl, rfl⟩)
            | (go_at_call 61; refine (hpa1 _).mono ?_; rintro e w2 ⟨rfl, rfl⟩))
          go_ret
          exact ⟨rfl, hb0⟩
        | true =>
          cases p2 with
          | false =>
            go_enter Try.func44, Try.ntmps44
            go_wp2_with (first
              | (go_at_call 49; refine hwi.mono ?_; rintro e w2 ⟨rfl, rfl⟩)
              | (go_at_call 61; refine (hpa1 _).mono ?_; rintro e w2 ⟨rfl, rfl⟩)
              | (go_at_call 62; refine (hat1 _).mono ?_; rintro e w2 ⟨rfl, rfl⟩))
            go_ret
            exact ⟨rfl, hb0⟩
          | true =>
            go_enter Try.func44, Try.ntmps44
            go_wp2_with (first
              | (go_at_call 49; refine hwi.mono ?_; rintro e w2 ⟨rfl, rfl⟩)
              | (go_at_call 61; refine (hpa1 _).mono ?_; rintro e w2 ⟨rfl, rfl⟩)
              | (go_at_call 62; refine (hat1 _).mono ?_; rintro e w2 ⟨rfl, rfl⟩))
            go_ret
            exact ⟨bool_end (by first | rfl | (rw [Bool.eq_iff_iff]; simp) | (simp; omega)), hb0⟩
      · have e2 : (o == 2) = false := by simp [h2]
        rw [if_neg h2]
        clear hpa hat
        by_cases h3 : o = 3
        · subst h3
          rw [if_pos rfl]
          have hk1 := hka z 1
          clear hka h1 h2 e1 e2
          generalize aloneB (fwB d z) 1 (.mk 3 a b ks) = r at *
          go_enter Try.func44, Try.ntmps44
          go_wp2_with (first
            | (go_at_call 49; refine hwi.mono ?_; rintro e w2 ⟨rfl, rfl⟩)
            | (go_at_call 63; refine hk1.mono ?_; rintro e w2 ⟨rfl, hb2⟩; have hb3 := hb0.trans (hb2.mono hb0.size)))
          clear hk1 hb2 hb0
          go_ret
          exact ⟨rfl, hb3⟩
        · have e3 : (o == 3) = false := by simp [h3]
          rw [if_neg h3]
          by_cases h4 : o = 4
          · subst h4
            rw [if_pos rfl]
            have hk1 := hka z 2
            clear hka h1 h2 e1 e2 h3 e3
            generalize aloneB (fwB d z) 2 (.mk 4 a b ks) = r at *
            go_enter Try.func44, Try.ntmps44
            go_wp2_with (first
              | (go_at_call 49; refine hwi.mono ?_; rintro e w2 ⟨rfl, rfl⟩)
              | (go_at_call 63; refine hk1.mono ?_; rintro e w2 ⟨rfl, hb2⟩; have hb3 := hb0.trans (hb2.mono hb0.size)))
            clear hk1 hb2 hb0
            go_ret
            exact ⟨rfl, hb3⟩
          · have e4 : (o == 4) = false := by simp [h4]
            rw [if_neg h4]
            by_cases h5 : o = 5
            · subst h5
              rw [if_pos rfl]
              have hk1 := hka z 2
              clear hka h1 h2 e1 e2 h3 e3 h4 e4
              generalize aloneB (fwB d z) 2 (.mk 5 a b ks) = r at *
              go_enter Try.func44, Try.ntmps44
              go_wp2_with (first
                | (go_at_call 49; refine hwi.mono ?_; rintro e w2 ⟨rfl, rfl⟩)
                | (go_at_call 63; refine hk1.mono ?_; rintro e w2 ⟨rfl, hb2⟩; have hb3 := hb0.trans (hb2.mono hb0.size)))
              clear hk1 hb2 hb0
              go_ret
              exact ⟨rfl, hb3⟩
            · have e5 : (o == 5) = false := by simp [h5]
              rw [if_neg h5]
              by_cases h6 : o = 6
              · subst h6
                rw [if_pos rfl]
                have hk1 := hka (z + 1) 1
                clear hka h1 h2 e1 e2 h3 e3 h4 e4 h5 e5
                generalize aloneB (fwB d (z + 1)) 1 (.mk 6 a b ks) = r at *
                go_enter Try.func44, Try.ntmps44
                go_wp2_with (first
                  | (go_at_call 49; refine hwi.mono ?_; rintro e w2 ⟨rfl, rfl⟩)
                  | (go_at_call 63; refine hk1.mono ?_; rintro e w2 ⟨rfl, hb2⟩; have hb3 := hb0.trans (hb2.mono hb0.size)))
                clear hk1 hb2 hb0
                go_ret
                exact ⟨rfl, hb3⟩
              · have e6 : (o == 6) = false := by simp [h6]
                rw [if_neg h6]
                by_cases h7 : o = 7
                · subst h7
                  rw [if_pos rfl]
                  have hk1 := hka (z + 1) 1
                  clear hka h1 h2 e1 e2 h3 e3 h4 e4 h5 e5 h6 e6
                  generalize aloneB (fwB d (z + 1)) 1 (.mk 7 a b ks) = r at *
                  go_enter Try.func44, Try.ntmps44
                  go_wp2_with (first
                    | (go_at_call 49; refine hwi.mono ?_; rintro e w2 ⟨rfl, rfl⟩)
                    | (go_at_call 63; refine hk1.mono ?_; rintro e w2 ⟨rfl, hb2⟩; have hb3 := hb0.trans (hb2.mono hb0.size)))
                  clear hk1 hb2 hb0
                  go_ret
                  exact ⟨rfl, hb3⟩
                · have e7 : (o == 7) = false := by simp [h7]
                  rw [if_neg h7]
                  clear hka h1 h2 h3 h4 h5 h6 h7
                  go_enter Try.func44, Try.ntmps44
                  go_wp2_with (go_at_call 49; refine hwi.mono ?_; rintro e w2 ⟨rfl, rfl⟩)
                  go_ret
                  exact ⟨rfl, hb0⟩

set_option maxRecDepth 100000 in
theorem within_zero : WithinC 0 := by
  intro D hD t z x w hf hx
  obtain ⟨B, e, rfl, hk⟩ := hx
  have hb0 : Below w.heap.size w (w.alloc (.cells #[.int .i64 t.op, .int .i64 t.fa, .int .i64 t.fb, .slice B t.kids.length e] 34)) := (Below.refl _ _).alloc (Nat.le_refl _) _
  have hwi := isWidth_any z (w.alloc (.cells #[.int .i64 t.op, .int .i64 t.fa, .int .i64 t.fb, .slice B t.kids.length e] 34))
  have hD0 : (D == 0) = true := by simp [hD]
  rw [show fwB 0 z t = false from rfl]
  clear hf hk hD
  generalize widB z = r at hwi
  cases r with
  | false =>
    go_enter Try.func44, Try.ntmps44
    go_wp2_with (go_at_call 49; refine hwi.mono ?_; rintro e w2 ⟨rfl, rfl⟩)
    go_ret
    exact ⟨rfl, hb0⟩
  | true =>
    go_enter Try.func44, Try.ntmps44
    go_wp2_with (go_at_call 49; refine hwi.mono ?_; rintro e w2 ⟨rfl, rfl⟩)
    go_ret
    exact ⟨rfl, hb0⟩
theorem within_any : ∀ d : Nat, d ≤ 6 → WithinC d
  | 0, _ => within_zero
  | d + 1, h => within_step d h (within_any d (by omega))
end Go.Proofs.Ythjkogighppeaaa
end

section
namespace Go.Proofs.Ythjkogighppeaaa
open Go.RowKit Go.Sort
set_option linter.unusedVariables false

end Go.Proofs.Ythjkogighppeaaa
end

