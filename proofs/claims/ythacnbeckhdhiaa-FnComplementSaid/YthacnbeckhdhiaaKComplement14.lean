/-
  A row of numbers is put behind rows of the call's own: as a law for the walk; all patterns, in plain words. All patterns, what is among them, and valid orbit sets: in the model, as contracts. Orbit sets in the model: whether they are valid, as contracts. CountTuples of both sides, as contracts.
-/
import Derived.Test.YthacnbeckhdhiaaKComplement6
import Derived.Test.YthacnbeckhdhiaaKComplement13
import Derived.Deep.AppendLies
import Derived.Test.YthacnbeckhdhiaaKComplement12
import Derived.Test.YthacnbeckhdhiaaKComplement2
section
namespace Go.Proofs.Ythacnbeckhdhiaa
open Go.RowKit Go.Sort
set_option linter.unusedVariables false

theorem own_split {w : World} {T : List Nat} {v : Value} {ls : List (List Int)} (h : Own w T v (rowsMem ls)) :
    ∃ xs S, w.ownsRow 0 30 1 v ls.length xs ∧ OwnL w S xs (encR ls) ∧ T = v.ownBlock.toList ++ S ∧ (∀ k, v.ownBlock = some k → k ∉ S) := by
  unfold rowsMem at h
  generalize hm : encR ls = ms at h
  cases h with
  | nil =>
    have hl := encR_len ls
    rw [hm] at hl
    have h0 : ls.length = 0 := by simpa using hl.symm
    rw [h0]
    exact ⟨[], [], World.ownsRow_nil w _ _ _, .nil, rfl, fun k h => by cases h⟩
  | row hl ho hL hg =>
    subst hm
    rw [encR_len] at hl
    rename_i g n cap xs S'
    have en : n = ls.length := by omega
    subst en
    exact ⟨xs, S', ho, hL, rfl, fun k h => by simp [Value.ownBlock] at h; exact h ▸ hg⟩

theorem own_intSlice {w : World} {R : List Nat} {u : Value} {l : List Int} (h : Own w R u (intMem l)) : ∃ A c, u = .slice A l.length c ∧ ConstAtR w A c l := by
  obtain ⟨A, c, rfl, hA⟩ := at_intRow h.at_
  exact ⟨A, c, rfl, hA, fun e => by subst e; exact own_nilcap h⟩

set_option maxRecDepth 100000 in
/-- rows = append(rows, row) -/
theorem wpList_append_rows {w : World} {ops : Array Oper} {rest : List Oper} {o : Oper} {a : Act} {Q : Exit → Act → World → Prop} (hgd : o.guard = none) (s x : Operand)
    (ho : o.op = .call { callee := .builtin .append, args := #[s, x], argTypes := #[47, 47] })
    (v : Value) (T : List Nat) (ls : List (List Int)) (hs : a.eval s = v) (hown : Own w T v (rowsMem ls))
    (ad : Addr) (u : Value) (l : List Int) (R : List Nat) (hx : a.eval x = .slice (some ad) 1 1) (hcell : ∀ j y, [u][j]? = some y → w.cell? (ad.add j) = some y) (hR : Own w R u (intMem l)) (hd : ∀ b ∈ T, b ∉ R) (hn : ls.length + 1 ≤ 16777216)
    (h : ∀ g cap T' w', Own w' T' (.slice (some ⟨g, 0, none⟩) (ls.length + 1) cap) (rowsMem (ls ++ [l])) → (∀ b ∈ T', b ∈ T ∨ b ∈ R ∨ b = w.heap.size) → Only T w w' → wpList Try.prog ops Q rest (a.put o.dst (.slice (some ⟨g, 0, none⟩) (ls.length + 1) cap)) w') : wpList Try.prog ops Q (o :: rest) a w := by
  obtain ⟨i0, hi0, hz0, hz1, hz2⟩ := info_parts rows_info
  obtain ⟨xs, S, hrow, hL, rfl, hnS⟩ := own_split hown
  have hone : ∀ y ∈ [u], y.oneCell' = true := by
    obtain ⟨A, c, rfl, _⟩ := own_intSlice hR
    intro y hy
    simp at hy
    subst hy
    rfl
  refine wpList_append_lies _ hgd s x 47 ho 0 30 i0 (.slice none 0 0) 1 24 Try.underlying47 hi0 hz0 hz1 hz2 rfl (by decide) v ls.length xs hs hrow ad 1 1 [u] hx rfl hcell hone (by decide) (by unfold maxLen; omega) (by omega) (Nat.zero_le _) _ rfl fun g cap w' h1 h2 h3 h4 => ?_
  have hL2 := hL.alike (w' := w') (fun b hb => h2.block b (hL.lt b hb) (fun e => hnS b e.symm hb))
  have hR2 := hR.alike (w' := w') (fun b hb => h2.block b (hR.lt b hb) (fun e => hd b (by rw [← e]; simp) hb))
  have hdis : ∀ b ∈ S, b ∉ R ++ [] := fun b hb hr => hd b (List.mem_append_right _ hb) (by simpa using hr)
  have hL3 := hL2.append (OwnL.cons hR2 .nil (fun b _ hb => by simp at hb)) hdis
  have hgn : g ∉ S ++ (R ++ []) := by
    intro hm
    rw [List.append_nil] at hm
    rcases h3 with h3 | h3
    · rcases List.mem_append.1 hm with h5 | h5
      · exact hnS g h3 h5
      · exact hd g (by rw [h3]; simp) h5
    · rcases List.mem_append.1 hm with h5 | h5
      · have := hL.lt g h5; omega
      · have := hR.lt g h5; omega
  refine h g cap (g :: (S ++ (R ++ []))) w' (.row (by rw [encR_len, List.length_append]; simp) h1 (by rw [encR_append]; exact hL3) hgn) (fun b hb => ?_) (Only.of_grown h2 (fun k e => by rw [e]; simp))
  rcases List.mem_cons.1 hb with h5 | h5
  · subst h5
    rcases h3 with h3 | h3
    · exact .inl (by rw [h3]; simp)
    · exact .inr (.inr h3)
  · rw [List.append_nil] at h5
    rcases List.mem_append.1 h5 with h6 | h6
    · exact .inl (List.mem_append_right _ h6)
    · exact .inr (.inl h6)

/-- The row at a place of rows of the call's own. -/
theorem own_rowAt {w : World} {T : List Nat} {A : Option Addr} {n c : Nat} {ls : List (List Int)} (h : Own w T (.slice A n c) (rowsMem ls)) {i : Nat} (hi : i < ls.length) :
    ∃ b off A1 c1 T', A = some ⟨b, off, none⟩ ∧ b < w.heap.size ∧ w.cell? ⟨b, off + i, none⟩ = some (.slice A1 (rwAt ls i).length c1) ∧ ConstAtR w A1 c1 (rwAt ls i) ∧ Own w T' (.slice A1 (rwAt ls i).length c1) (intMem (rwAt ls i)) ∧ ∀ b ∈ T', b ∈ T := by
  obtain ⟨xs, S, hrow, hL, rfl, _⟩ := own_split h
  obtain ⟨u, T', hu, ho, hsub, _⟩ := hL.focus i _ (encR_at hi)
  obtain ⟨A1, c1, rfl, hA⟩ := own_intSlice ho
  rcases hrow.2 with ⟨_, h0⟩ | ⟨g, cap, cur, e, hrest⟩
  · omega
  · injection e with e1 e2 e3
    subst e1; subst e2; subst e3
    refine ⟨g, 0, A1, c1, T', rfl, (hrow.lt g rfl).2, ?_, hA, ho, fun b hb => List.mem_append_right _ (hsub b hb)⟩
    rw [Nat.zero_add]
    exact (hrow.cellAt i (by omega)).trans hu
end Go.Proofs.Ythacnbeckhdhiaa
end

section
namespace Go.Proofs.Ythacnbeckhdhiaa
open Go.RowKit Go.Sort
set_option linter.unusedVariables false

end Go.Proofs.Ythacnbeckhdhiaa
end

section
namespace Go.Proofs.Ythacnbeckhdhiaa
open Go.RowKit Go.Sort
set_option linter.unusedVariables false

end Go.Proofs.Ythacnbeckhdhiaa
end

section
namespace Go.Proofs.Ythacnbeckhdhiaa
open Go.RowKit Go.Sort
set_option linter.unusedVariables false

/-- In how many ways so many different other atoms are taken. -/
def prodN (n k : Int) : Nat → Int
  | 0 => 1
  | j + 1 => prodN n k j * (n - (k + j))
theorem prodN_zero {n k : Int} : ∀ {j : Nat}, n - k < j → k ≤ n → prodN n k j = 0
  | 0, h, h0 => by omega
  | j + 1, h, h0 => by
    rw [prodN]
    by_cases e : n - k < j
    · rw [prodN_zero e h0, Int.zero_mul]
    · rw [show n - (k + (j : Int)) = 0 by omega, Int.mul_zero]
theorem prodN_bound {n k : Int} (h0 : 0 ≤ k) (h : k ≤ n) (h1 : n ≤ 1000) : ∀ j : Nat, 0 ≤ prodN n k j ∧ prodN n k j ≤ 1000 ^ j
  | 0 => by simp [prodN]
  | j + 1 => by
    obtain ⟨g0, g1⟩ := prodN_bound h0 h h1 j
    rw [prodN]
    by_cases e : n - k < j
    · rw [prodN_zero e h, Int.zero_mul]
      exact ⟨Int.le_refl _, Int.le_of_lt (Int.pow_pos (by decide))⟩
    · have e1 : 0 ≤ n - (k + (j : Int)) := by omega
      have e2 : n - (k + (j : Int)) ≤ 1000 := by omega
      refine ⟨Int.mul_nonneg g0 e1, ?_⟩
      rw [Int.pow_succ]
      exact Int.mul_le_mul g1 e2 e1 (Int.le_of_lt (Int.pow_pos (by decide)))
/-- The ways of a pattern. -/
def waysP (n k : Int) (p : List Int) : Int := prodN n k (newN k p - k).toNat
theorem prodN_small5 {n k : Int} (h0 : 0 ≤ k) (h : k ≤ n) (h1 : n ≤ 1000) {j : Nat} (hj : j ≤ 5) : 0 ≤ prodN n k j ∧ prodN n k j ≤ 1000000000000000 := by
  obtain ⟨g0, g1⟩ := prodN_bound h0 h h1 j
  refine ⟨g0, Int.le_trans g1 ?_⟩
  rcases j with _ | _ | _ | _ | _ | _ | j
  · decide
  · decide
  · decide
  · decide
  · decide
  · decide
  · omega
set_option maxRecDepth 100000 in
set_option maxHeartbeats 2000000 in
theorem countWith_any (A : Option Addr) (c : Nat) (p : List Int) (k n : Int) (w : World) (hA : IntsAt w A p) (hp : isPatB k p = true) (hl : p.length ≤ 5) (h0 : 0 ≤ k) (hk : k ≤ 1000) (h : k ≤ n) (h1 : n ≤ 1000) :
    Calls Try.prog 21 #[.slice A p.length c, .int .i64 k, .int .i64 n] w fun e w' => e = .returned (.int .i64 (waysP n k p)) ∧ w = w' := by
  have hnn := newNumber_any A c p k w hA (by omega) (by omega) (by omega) (fun i hi => by
    have h1 := isPat_at hp hi
    have h2 := newN_le (k := k) (p := p) (i := i) (by omega) (fun q hq => (isPat_at hp (by omega)).2)
    omega)
  have hnb := newN_pat hp
  have hng := newN_ge k p
  have hwd : Hid (waysP n k p = prodN n k (newN k p - k).toNat) := Lib.hid rfl
  clear hA hp
  generalize waysP n k p = wy at hwd ⊢
  generalize newN k p = mm at hnn hnb hng hwd
  generalize p.length = rl at *
  go_enter Try.func21, Try.ntmps21
  go_wp2
  go_loop [7, 8] (fun y u => ∃ q : Nat, (q : Int) ≤ mm - k ∧ u = .int .i64 (k + q) ∧ y = .int .i64 (prodN n k q)) (fun _ u => (mm - intOf u).toNat)
  case atStart => exact ⟨0, by omega, by simp, rfl⟩
  case round =>
    obtain ⟨q, hq, rfl, rfl⟩ := hrel
    by_cases hlq : k + (q : Int) < mm
    · have hs1 := prodN_small5 (n := n) (k := k) (by omega) (by omega) (by omega) (show q ≤ 5 by omega)
      have hs2 := prodN_small5 (n := n) (k := k) (by omega) (by omega) (by omega) (show q + 1 ≤ 5 by omega)
      have hpn : Hid (prodN n k (q + 1) = prodN n k q * (n - (k + q))) := Lib.hid rfl
      have hs3 : 0 ≤ prodN n k q * (n - (k + q)) ∧ prodN n k q * (n - (k + q)) ≤ 1000000000000000 := by rw [← hpn.out]; exact hs2
      have hpn2 : Hid (∀ v : Int, v = prodN n k q * (n - (k + q)) → v = prodN n k (q + 1)) := Lib.hid fun v h => by rw [h]; rfl
      clear hpn hs2 hwd
      generalize prodN n k q = p1 at hs1 hs3 hpn2 ⊢
      go_wp2_with (go_at_call 29; refine hnn.mono ?_; rintro e w3 ⟨rfl, rfl⟩)
      go_round
      case rel => exact ⟨q + 1, by omega, by go_num, by rw [hpn2.out _ rfl]⟩
      case measure => simp [intOf]; omega
    · have e : (q : Int) = mm - k := by omega
      have hwq : Hid (prodN n k q = wy) := Lib.hid (by rw [hwd.out, ← e]; simp)
      rw [hwq.out]
      clear hwd
      go_wp2_with (go_at_call 29; refine hnn.mono ?_; rintro e w3 ⟨rfl, rfl⟩)
      go_ret
      exact ⟨rfl, rfl⟩
end Go.Proofs.Ythacnbeckhdhiaa
end

