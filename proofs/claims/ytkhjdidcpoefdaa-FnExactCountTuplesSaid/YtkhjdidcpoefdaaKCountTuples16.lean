/-
  CountTuples of both sides, as contracts.
-/
import Derived.Test.YtkhjdidcpoefdaaKCountTuples15
import Derived.Test.YtkhjdidcpoefdaaKCountTuples12
namespace Go.Proofs.Ytkhjdidcpoefdaa
open Go.RowKit Go.Sort
set_option linter.unusedVariables false

/-- In how many ways so many different other atoms are taken. -/
def prodN (n k : Int) : Nat → Int
  | 0 => 1
  | j + 1 => prodN n k j * (n - (k + j))
theorem prodN_zero {n k : Int} : ∀ {j : Nat}, n - k < j → k ≤ n → prodN n k j = 0
  | 0, h, h0 => by omega
  | j + 1, h, h0 => by
    rw [prodN]
    by_cases e : n - k < j
    · rw [prodN_zero e h0, Int.zero_mul]
    · rw [show n - (k + (j : Int)) = 0 by omega, Int.mul_zero]
theorem prodN_bound {n k : Int} (h0 : 0 ≤ k) (h : k ≤ n) (h1 : n ≤ 1000) : ∀ j : Nat, 0 ≤ prodN n k j ∧ prodN n k j ≤ 1000 ^ j
  | 0 => by simp [prodN]
  | j + 1 => by
    obtain ⟨g0, g1⟩ := prodN_bound h0 h h1 j
    rw [prodN]
    by_cases e : n - k < j
    · rw [prodN_zero e h, Int.zero_mul]
      exact ⟨Int.le_refl _, Int.le_of_lt (Int.pow_pos (by decide))⟩
    · have e1 : 0 ≤ n - (k + (j : Int)) := by omega
      have e2 : n - (k + (j : Int)) ≤ 1000 := by omega
      refine ⟨Int.mul_nonneg g0 e1, ?_⟩
      rw [Int.pow_succ]
      exact Int.mul_le_mul g1 e2 e1 (Int.le_of_lt (Int.pow_pos (by decide)))
theorem prodN_small {n k : Int} (h0 : 0 ≤ k) (h : k ≤ n) (h1 : n ≤ 1000) {j : Nat} (hj : j ≤ 4) : 0 ≤ prodN n k j ∧ prodN n k j ≤ 1000000000000 := by
  obtain ⟨g0, g1⟩ := prodN_bound h0 h h1 j
  refine ⟨g0, Int.le_trans g1 ?_⟩
  rcases j with _ | _ | _ | _ | _ | j
  · decide
  · decide
  · decide
  · decide
  · decide
  · omega
/-- The ways of a pattern. -/
def waysP (n k : Int) (p : List Int) : Int := prodN n k (newN k p - k).toNat
theorem waysP_small {n k : Int} (h0 : 0 ≤ k) (h : k ≤ n) (h1 : n ≤ 1000) {p : List Int} (hp : isPatB k p = true) (hl : p.length ≤ 4) : 0 ≤ waysP n k p ∧ waysP n k p ≤ 1000000000000 := by
  have := newN_pat hp
  exact prodN_small h0 h h1 (by omega)
theorem waysP_new {n k : Int} {p : List Int} {i : Nat} (hi : i < p.length) (e : itAt p i = newN k (p.take i)) : newN k (p.take (i + 1)) = newN k (p.take i) + 1 ∧ waysP n k (p.take (i + 1)) = waysP n k (p.take i) * (n - newN k (p.take i)) := by
  have h1 := newN_ge k (p.take i)
  have h2 : newN k (p.take (i + 1)) = newN k (p.take i) + 1 := by rw [newN_next hi]; omega
  refine ⟨h2, ?_⟩
  unfold waysP
  rw [h2, show (newN k (p.take i) + 1 - k).toNat = (newN k (p.take i) - k).toNat + 1 by omega, prodN]
  congr 2
  omega
theorem waysP_old {n k : Int} {p : List Int} {i : Nat} (hi : i < p.length) (h : itAt p i ≤ newN k (p.take i)) (e : ¬ itAt p i = newN k (p.take i)) : newN k (p.take (i + 1)) = newN k (p.take i) ∧ waysP n k (p.take (i + 1)) = waysP n k (p.take i) := by
  have h2 : newN k (p.take (i + 1)) = newN k (p.take i) := by rw [newN_next hi]; omega
  exact ⟨h2, by unfold waysP; rw [h2]⟩

def cntC (n k : Int) : List (List Int) → Int
  | [] => 0
  | p :: r => waysP n k p + cntC n k r
theorem cntC_append (n k : Int) : ∀ a b : List (List Int), cntC n k (a ++ b) = cntC n k a + cntC n k b
  | [], b => by simp [cntC]
  | p :: r, b => by rw [List.cons_append, cntC, cntC, cntC_append n k r b]; omega
theorem cntC_next {n k : Int} {m : List (List Int)} {j : Nat} (h : j < m.length) : cntC n k (m.take (j + 1)) = cntC n k (m.take j) + waysP n k (rwAt m j) := by
  rw [rw_take_next h, cntC_append]
  simp [cntC]
theorem cntC_bound {n k : Int} {m : List (List Int)} (hw : ∀ j, j < m.length → 0 ≤ waysP n k (rwAt m j) ∧ waysP n k (rwAt m j) ≤ 1000000000000) : ∀ {j : Nat}, j ≤ m.length → 0 ≤ cntC n k (m.take j) ∧ cntC n k (m.take j) ≤ (j : Int) * 1000000000000
  | 0, _ => by simp [cntC]
  | j + 1, h => by
    obtain ⟨g0, g1⟩ := cntC_bound hw (j := j) (by omega)
    obtain ⟨e0, e1⟩ := hw j (by omega)
    rw [cntC_next (by omega)]
    constructor <;> omega
def cntOk (z : Int) (l : List Int) (m : List (List Int)) (n : Int) : Bool := orbB z l m && decide ((l.length : Int) ≤ n ∧ n ≤ 1000)
def cntR (z : Int) (l : List Int) (m : List (List Int)) (n : Int) : Int := if cntOk z l m n then cntC n l.length m else -1
theorem cntR_no {z : Int} {l : List Int} {m : List (List Int)} {n : Int} (h : cntOk z l m n = false) : cntR z l m n = -1 := by simp [cntR, h]
theorem cntR_yes {z : Int} {l : List Int} {m : List (List Int)} {n : Int} (h : cntOk z l m n = true) : cntR z l m n = cntC n l.length m := by simp [cntR, h]
def IntP (r : Int) (w : World) (e : Ending) (w' : World) : Prop := e = .returned (.int .i64 r) ∧ Below w.heap.size w w'
theorem prodN_small5 {n k : Int} (h0 : 0 ≤ k) (h : k ≤ n) (h1 : n ≤ 1000) {j : Nat} (hj : j ≤ 5) : 0 ≤ prodN n k j ∧ prodN n k j ≤ 1000000000000000 := by
  obtain ⟨g0, g1⟩ := prodN_bound h0 h h1 j
  refine ⟨g0, Int.le_trans g1 ?_⟩
  rcases j with _ | _ | _ | _ | _ | _ | j
  · decide
  · decide
  · decide
  · decide
  · decide
  · decide
  · omega
set_option maxRecDepth 100000 in
set_option maxHeartbeats 2000000 in
theorem countWith_any (A : Option Addr) (c : Nat) (p : List Int) (k n : Int) (w : World) (hA : IntsAt w A p) (hp : isPatB k p = true) (hl : p.length ≤ 5) (h0 : 0 ≤ k) (hk : k ≤ 1000) (h : k ≤ n) (h1 : n ≤ 1000) :
    Calls Try.prog 76 #[.slice A p.length c, .int .i64 k, .int .i64 n] w fun e w' => e = .returned (.int .i64 (waysP n k p)) ∧ w = w' := by
  have hnn := newNumber_any A c p k w hA (by omega) (by omega) (by omega) (fun i hi => by
    have h1 := isPat_at hp hi
    have h2 := newN_le (k := k) (p := p) (i := i) (by omega) (fun q hq => (isPat_at hp (by omega)).2)
    omega)
  have hnb := newN_pat hp
  have hng := newN_ge k p
  have hwd : Hid (waysP n k p = prodN n k (newN k p - k).toNat) := Lib.hid rfl
  clear hA hp
  generalize waysP n k p = wy at hwd ⊢
  generalize newN k p = mm at hnn hnb hng hwd
  generalize p.length = rl at *
  go_enter Try.func76, Try.ntmps76
  go_wp2
  go_loop [7, 8] (fun y u => ∃ q : Nat, (q : Int) ≤ mm - k ∧ u = .int .i64 (k + q) ∧ y = .int .i64 (prodN n k q)) (fun _ u => (mm - intOf u).toNat)
  case atStart => exact ⟨0, by omega, by simp, rfl⟩
  case round =>
    obtain ⟨q, hq, rfl, rfl⟩ := hrel
    by_cases hlq : k + (q : Int) < mm
    · have hs1 := prodN_small5 (n := n) (k := k) (by omega) (by omega) (by omega) (show q ≤ 5 by omega)
      have hs2 := prodN_small5 (n := n) (k := k) (by omega) (by omega) (by omega) (show q + 1 ≤ 5 by omega)
      have hpn : Hid (prodN n k (q + 1) = prodN n k q * (n - (k + q))) := Lib.hid rfl
      have hs3 : 0 ≤ prodN n k q * (n - (k + q)) ∧ prodN n k q * (n - (k + q)) ≤ 1000000000000000 := by rw [← hpn.out]; exact hs2
      have hpn2 : Hid (∀ v : Int, v = prodN n k q * (n - (k + q)) → v = prodN n k (q + 1)) := Lib.hid fun v h => by rw [h]; rfl
      clear hpn hs2 hwd
      generalize prodN n k q = p1 at hs1 hs3 hpn2 ⊢
      go_wp2_with (go_at_call 101; refine hnn.mono ?_; rintro e w3 ⟨rfl, rfl⟩)
      go_round
      case rel => exact ⟨q + 1, by omega, by go_num, by rw [hpn2.out _ rfl]⟩
      case measure => simp [intOf]; omega
    · have e : (q : Int) = mm - k := by omega
      have hwq : Hid (prodN n k q = wy) := Lib.hid (by rw [hwd.out, ← e]; simp)
      rw [hwq.out]
      clear hwd
      go_wp2_with (go_at_call 101; refine hnn.mono ?_; rintro e w3 ⟨rfl, rfl⟩)
      go_ret
      exact ⟨rfl, rfl⟩
set_option maxRecDepth 100000 in
set_option maxHeartbeats 8000000 in
theorem countTuples_impl (z : Int) (l : List Int) (m : List (List Int)) (n : Int) (hf : FitO l m) (x : Value) (w : World) (hx : OrbIx w x z l m) :
    Calls Try.prog 39 #[x, .int .i64 n] w (IntP (cntR z l m n) w) := by
  have hX := hx
  obtain ⟨hll, hml, hrl⟩ := id hf
  obtain ⟨A, c, B, d, rfl, hl, hmr, hm⟩ := hx
  have hb0 : Below w.heap.size w (w.alloc (.cells #[.int .i64 z, .slice A l.length c, .slice B m.length d] 54)) := (Below.refl _ _).alloc (Nat.le_refl _) _
  have k0 := heap_alloc_new w (.cells #[.int .i64 z, .slice A l.length c, .slice B m.length d] 54)
  obtain ⟨m0, m1, m2⟩ := OrbK.row3 k0
  have hio := isOrbitSet_impl z l m hf _ _ (hX.below hb0)
  have HB0 := Lib.hid hb0
  have HK0 := Lib.hid k0
  cases ho : orbB z l m with
  | false =>
    have hn := Lib.hid (cntR_no (z := z) (l := l) (m := m) (n := n) (by simp [cntOk, ho]))
    rw [ho] at hio
    rw [hn.out]
    clear hl hmr hm k0 hX hrl
    generalize l.length = ll at *
    go_enter Try.func39, Try.ntmps39
    go_wp2_with (go_at_call 81; refine hio.mono ?_; rintro e w2 ⟨rfl, hb2⟩; have hb3 := HB0.out.trans (hb2.mono HB0.out.size))
    clear hio hb2 m0 m1 m2 hb0
    go_ret
    exact ⟨rfl, hb3⟩
  | true =>
    rw [ho] at hio
    by_cases hn1 : n < (l.length : Int)
    · have hn := Lib.hid (cntR_no (z := z) (l := l) (m := m) (n := n) (by simp [cntOk]; omega))
      rw [hn.out]
      clear hl hmr hm k0 hX hrl ho
      generalize l.length = ll at *
      go_enter Try.func39, Try.ntmps39
      go_wp2_with (go_at_call 81; refine hio.mono ?_; rintro e w2 ⟨rfl, hb2⟩; have hb3 := HB0.out.trans (hb2.mono HB0.out.size))
      clear hio hb2 m0 m1 m2 hb0
      go_ret
      exact ⟨rfl, hb3⟩
    · by_cases hn2 : 1000 < n
      · have hn := Lib.hid (cntR_no (z := z) (l := l) (m := m) (n := n) (by simp [cntOk]; omega))
        rw [hn.out]
        clear hl hmr hm k0 hX hrl ho
        generalize l.length = ll at *
        go_enter Try.func39, Try.ntmps39
        go_wp2_with (go_at_call 81; refine hio.mono ?_; rintro e w2 ⟨rfl, hb2⟩; have hb3 := HB0.out.trans (hb2.mono HB0.out.size))
        clear hio hb2 m0 m1 m2 hb0
        go_ret
        exact ⟨rfl, hb3⟩
      · have hn := Lib.hid (cntR_yes (z := z) (l := l) (m := m) (n := n) (by simp [cntOk, ho]; omega))
        rw [hn.out]
        have hk3 := const_len (orb_const ho)
        obtain ⟨hwz, hro⟩ := orb_rows ho
        have hz4 := widB_iff.1 hwz
        have HRO := Lib.hid (fun i (hi : i < m.length) => rowsOk_at hro hi)
        have HWS := Lib.hid (fun i (hi : i < m.length) => waysP_small (n := n) (k := (l.length : Int)) (by omega) (by omega) (by omega) (rowsOk_at hro hi).2 (by have := (rowsOk_at hro hi).1; omega))
        have HCB := Lib.hid (fun j (hj : j ≤ m.length) => cntC_bound (n := n) (k := (l.length : Int)) HWS.out hj)
        clear hl k0 hX ho hro hwz hn hmr hrl
        generalize l.length = ll at *
        go_enter Try.func39, Try.ntmps39
        go_wp2_with (go_at_call 81; refine hio.mono ?_; rintro e w2 ⟨rfl, hb2⟩; have hb3 := HB0.out.trans (hb2.mono HB0.out.size); have k2 := (hb2.block _ (OrbK.box_lt HK0.out)).trans HK0.out; clear m0 m1 m2; obtain ⟨m0, m1, m2⟩ := OrbK.row3 k2)
        have hm2 := hm.below hb3
        clear hio hb2 hb0 hm HK0 HB0 k2
        go_loop [6, 8, 27] (fun s _ i => ∃ j : Nat, j ≤ m.length ∧ i = .int .i64 j ∧ s = .int .i64 (cntC n ll (m.take j))) (fun _ _ i => m.length - (intOf i).toNat)
        case atStart => exact ⟨0, Nat.zero_le _, rfl, rfl⟩
        case round =>
          obtain ⟨j, hj, rfl, rfl⟩ := hrel
          by_cases hlt : j < m.length
          · obtain ⟨b1, o1, rfl, hb1, hc1⟩ := hm2 (by omega)
            obtain ⟨A1, c1, d1, hA1, _⟩ := hc1 j hlt
            obtain ⟨hpl, hpp⟩ := HRO.out j hlt
            have hpl4 : (rwAt m j).length ≤ 4 := by omega
            have hcw := countWith_any A1 c1 (rwAt m j) ll n w2 hA1 hpp (by omega) (by omega) (by omega) (by omega) (by omega)
            have hws := HWS.out j hlt
            have hcb := HCB.out j (by omega)
            have hcn := Lib.hid (cntC_next (n := n) (k := (ll : Int)) hlt)
            clear hc1 hA1 hm2 hpl hpp
            generalize cntC n ll (m.take j) = s0 at hcb hcn
            generalize waysP n ll (rwAt m j) = wy at hws hcn hcw
            generalize (rwAt m j).length = rl at *
            go_wp2_with (go_at_call 76; refine hcw.mono ?_; rintro e w3 ⟨rfl, rfl⟩)
            go_round
            case rel => exact ⟨j + 1, by omega, by go_num, by rw [hcn.out]⟩
            case measure => simp [intOf]; omega
          · have e : j = m.length := by omega
            subst e
            clear hm2 HRO HWS HCB
            go_wp2
            go_ret
            first | exact ⟨rfl, hb3⟩ | exact ⟨by rw [List.take_length], hb3⟩

set_option maxRecDepth 100000 in
set_option maxHeartbeats 8000000 in
theorem countTuples_spec (z : Int) (l : List Int) (m : List (List Int)) (n : Int) (hf : FitO l m) (x : Value) (w : World) (hx : OrbIx w x z l m) :
    Calls Try.prog 37 #[x, .int .i64 n] w (IntP (cntR z l m n) w) := by
  have hX := hx
  obtain ⟨hll, hml, hrl⟩ := id hf
  obtain ⟨A, c, B, d, rfl, hl, hmr, hm⟩ := hx
  have hb0 : Below w.heap.size w (w.alloc (.cells #[.int .i64 z, .slice A l.length c, .slice B m.length d] 54)) := (Below.refl _ _).alloc (Nat.le_refl _) _
  have k0 := heap_alloc_new w (.cells #[.int .i64 z, .slice A l.length c, .slice B m.length d] 54)
  obtain ⟨m0, m1, m2⟩ := OrbK.row3 k0
  have hio := isOrbitSet_spec z l m hf _ _ (hX.below hb0)
  have HB0 := Lib.hid hb0
  have HK0 := Lib.hid k0
  cases ho : orbB z l m with
  | false =>
    have hn := Lib.hid (cntR_no (z := z) (l := l) (m := m) (n := n) (by simp [cntOk, ho]))
    rw [ho] at hio
    rw [hn.out]
    clear hl hmr hm k0 hX hrl
    generalize l.length = ll at *
    go_enter Try.func37, Try.ntmps37
    go_wp2_with (go_at_call 79; refine hio.mono ?_; rintro e w2 ⟨rfl, hb2⟩; have hb3 := HB0.out.trans (hb2.mono HB0.out.size))
    clear hio hb2 m0 m1 m2 hb0
    go_ret
    exact ⟨rfl, hb3⟩
  | true =>
    rw [ho] at hio
    by_cases hn1 : n < (l.length : Int)
    · have hn := Lib.hid (cntR_no (z := z) (l := l) (m := m) (n := n) (by simp [cntOk]; omega))
      rw [hn.out]
      clear hl hmr hm k0 hX hrl ho
      generalize l.length = ll at *
      go_enter Try.func37, Try.ntmps37
      go_wp2_with (go_at_call 79; refine hio.mono ?_; rintro e w2 ⟨rfl, hb2⟩; have hb3 := HB0.out.trans (hb2.mono HB0.out.size))
      clear hio hb2 m0 m1 m2 hb0
      go_ret
      exact ⟨rfl, hb3⟩
    · by_cases hn2 : 1000 < n
      · have hn := Lib.hid (cntR_no (z := z) (l := l) (m := m) (n := n) (by simp [cntOk]; omega))
        rw [hn.out]
        clear hl hmr hm k0 hX hrl ho
        generalize l.length = ll at *
        go_enter Try.func37, Try.ntmps37
        go_wp2_with (go_at_call 79; refine hio.mono ?_; rintro e w2 ⟨rfl, hb2⟩; have hb3 := HB0.out.trans (hb2.mono HB0.out.size))
        clear hio hb2 m0 m1 m2 hb0
        go_ret
        exact ⟨rfl, hb3⟩
      · have hn := Lib.hid (cntR_yes (z := z) (l := l) (m := m) (n := n) (by simp [cntOk, ho]; omega))
        rw [hn.out]
        have hk3 := const_len (orb_const ho)
        obtain ⟨hwz, hro⟩ := orb_rows ho
        have hz4 := widB_iff.1 hwz
        have HRO := Lib.hid (fun i (hi : i < m.length) => rowsOk_at hro hi)
        have HWS := Lib.hid (fun i (hi : i < m.length) => waysP_small (n := n) (k := (l.length : Int)) (by omega) (by omega) (by omega) (rowsOk_at hro hi).2 (by have := (rowsOk_at hro hi).1; omega))
        have HCB := Lib.hid (fun j (hj : j ≤ m.length) => cntC_bound (n := n) (k := (l.length : Int)) HWS.out hj)
        clear hl k0 hX ho hro hwz hn hmr hrl
        generalize l.length = ll at *
        go_enter Try.func37, Try.ntmps37
        go_wp2_with (go_at_call 79; refine hio.mono ?_; rintro e w2 ⟨rfl, hb2⟩; have hb3 := HB0.out.trans (hb2.mono HB0.out.size); have k2 := (hb2.block _ (OrbK.box_lt HK0.out)).trans HK0.out; clear m0 m1 m2; obtain ⟨m0, m1, m2⟩ := OrbK.row3 k2)
        have hm2 := hm.below hb3
        clear hio hb2 hb0 hm HK0 HB0 k2
        have hm2' := hm2
        go_loop [6, 8, 9, 10, 12, 31] (fun s _ _ _ _ i => ∃ j : Nat, j ≤ m.length ∧ i = .int .i64 j ∧ s = .int .i64 (cntC n ll (m.take j))) (fun _ _ _ _ _ i => m.length - (intOf i).toNat)
        case atStart => exact ⟨0, Nat.zero_le _, rfl, rfl⟩
        case round =>
          clear hm2'
          obtain ⟨j, hj, rfl, rfl⟩ := hrel
          by_cases hlt : j < m.length
          · obtain ⟨b1, o1, rfl, hb1, hc1⟩ := hm2 (by omega)
            obtain ⟨A1, c1, d1, hA1, _⟩ := hc1 j hlt
            obtain ⟨hpl, hpp⟩ := HRO.out j hlt
            have hpl4 : (rwAt m j).length ≤ 4 := by omega
            have HNL := Lib.hid (fun i (hi : i ≤ (rwAt m j).length) => newN_le (k := (ll : Int)) (p := rwAt m j) hi (fun q hq => (isPat_at hpp (by omega)).2))
            have HNG := Lib.hid (fun i => newN_ge (ll : Int) ((rwAt m j).take i))
            have HPA := Lib.hid (fun i (hi : i < (rwAt m j).length) => isPat_at hpp hi)
            have HWN := Lib.hid (fun i (hi : i < (rwAt m j).length) e => waysP_new (n := n) (k := (ll : Int)) hi e)
            have HWO := Lib.hid (fun i (hi : i < (rwAt m j).length) h e => waysP_old (n := n) (k := (ll : Int)) hi h e)
            have HWB := Lib.hid (fun i (hi : i ≤ (rwAt m j).length) => (show 0 ≤ waysP n ll ((rwAt m j).take i) ∧ waysP n ll ((rwAt m j).take i) ≤ 1000000000000 from prodN_small (by omega) (by omega) (by omega) (by have := HNL.out i hi; omega)))
            have HTL : Hid (waysP n ll ((rwAt m j).take (rwAt m j).length) = waysP n ll (rwAt m j)) := Lib.hid (by rw [List.take_length])
            have hws := HWS.out j hlt
            have hcb := HCB.out j (by omega)
            have hcn := Lib.hid (cntC_next (n := n) (k := (ll : Int)) hlt)
            clear hc1 hm2 hpl hpp
            generalize cntC n ll (m.take j) = s0 at hcb hcn
            generalize rwAt m j = p at *
            go_wp2
            go_loop [9, 10, 12, 38] (fun mo y _ i => ∃ q : Nat, q ≤ p.length ∧ i = .int .i64 q ∧ mo = .int .i64 (newN ll (p.take q)) ∧ y = .int .i64 (waysP n ll (p.take q))) (fun _ _ _ i => p.length - (intOf i).toNat)
            case atStart => exact ⟨0, Nat.zero_le _, rfl, rfl, by simp [waysP, newN, prodN]⟩
            case round =>
              obtain ⟨q, hq, rfl, rfl, rfl⟩ := hrel
              by_cases hlq : q < p.length
              · obtain ⟨b2, o2, rfl, hb2, hc2⟩ := hA1 (by omega)
                have c2 := hc2 q hlq
                have hpa := HPA.out q hlq
                have hnl := HNL.out q (by omega)
                have hng := HNG.out q
                have hwb := HWB.out q (by omega)
                have hwb2 := HWB.out (q + 1) (by omega)
                have hwn := Lib.hid (HWN.out q hlq)
                have hwo := Lib.hid (HWO.out q hlq hpa.2)
                generalize itAt p q = y at c2 hpa hwn hwo
                generalize newN ll (p.take q) = mm at hpa hnl hng hwn hwo ⊢
                generalize waysP n ll (p.take q) = wy at hwb hwn hwo ⊢
                clear hc2 hA1 HNL HNG HPA HWN HWO HWB HTL hcn hcb
                by_cases he : y = mm
                · obtain ⟨e1, e2⟩ := hwn.out he
                  have he' : (y == mm) = true := by simp [he]
                  have HE1 := Lib.hid e1
                  have HE2 := Lib.hid e2
                  rw [e2] at hwb2
                  clear hwn hwo he e1 e2
                  go_wp2
                  go_round
                  case rel => exact ⟨q + 1, by omega, by go_num, by rw [HE1.out], by rw [HE2.out]⟩
                  case measure => simp [intOf]; omega
                · obtain ⟨e1, e2⟩ := hwo.out he
                  have he' : (y == mm) = false := by simp [he]
                  have HE1 := Lib.hid e1
                  have HE2 := Lib.hid e2
                  clear hwn hwo he e1 e2 hwb2
                  go_wp2
                  go_round
                  case rel => exact ⟨q + 1, by omega, by go_num, by rw [HE1.out], by rw [HE2.out]⟩
                  case measure => simp [intOf]; omega
              · have e : q = p.length := by omega
                subst e
                rw [HTL.out]
                generalize waysP n ll p = wy at *
                clear HNL HNG HPA HWN HWO HWB HTL hA1
                go_wp2
                go_round
                case rel => exact ⟨j + 1, by omega, by go_num, by rw [hcn.out]⟩
                case measure => simp [intOf]; omega
          · have e : j = m.length := by omega
            subst e
            clear hm2 HRO HWS HCB
            go_wp2
            go_ret
            first | exact ⟨rfl, hb3⟩ | exact ⟨by rw [List.take_length], hb3⟩
end Go.Proofs.Ytkhjdidcpoefdaa
