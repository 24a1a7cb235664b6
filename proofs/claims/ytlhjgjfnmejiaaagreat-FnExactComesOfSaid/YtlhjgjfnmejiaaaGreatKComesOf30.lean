/-
  What a key of a set of elements is: the key's reading, turned round. maps.Keys over a set of elements: its iterator stops as it should, for every loop body. maps.Keys over a set of elements: its iterator stops as it should, for every loop body.
-/
import Derived.Test.YtlhjgjfnmejiaaaGreatKComesOf28
import Derived.ChangeKeysEq
import Derived.RangeFuncSeq
import Derived.RangeFuncStops
import Derived.Sort.MapsRangeIn
import Derived.WalkKit
import Derived.OwnWalkIn
import Derived.TacticsInMore
import Derived.RegionIn
import Derived.LoopNIn
import Derived.LoopIn
namespace Go.Proofs.YtlhjgjfnmejiaaaGreat
section
open Go.RowKit Go.Sort Go.ChangeShapes Go.WideShapes Go.WideMaps Go.Maps
set_option linter.unusedVariables false

theorem intC1 : Tryz.prog.cellsOf 3 = 1 := by kernel_rfl

set_option maxRecDepth 100000 in
theorem keyF_inv (w : World) {key : Value} {kl : Lit} (h : keyOf Tryz.prog 119 key = some kl) : ∃ x, okF x ∧ key = frV x ∧ kl = keyF x := by
  have h0 := h
  unfold keyOf at h
  rw [Tryz.underlying119] at h
  simp only at h
  split at h
  case isFalse => cases h
  rename_i hc
  rw [Bool.and_eq_true] at hc
  obtain ⟨_, hf⟩ := hc
  cases key with
  | agg cs =>
    simp [Value.formed, Tryz.underlying119, frCells2] at hf
    obtain ⟨ls, hls, _⟩ := Option.map_eq_some_iff.1 h
    obtain ⟨l⟩ := cs
    simp at hf
    match l, hf with
    | [c0, c1], _ =>
      unfold Program.keyLits at hls
      rw [Tryz.underlying119] at hls
      clear h
      generalize Tryz.prog.types.size = d at hls
      simp [Value.cells, frCells2, intC1, List.mapM_cons, List.mapM_nil] at hls
      cases ha : Tryz.prog.keyLits d 3 [c0] with
      | none => simp [ha] at hls
      | some a =>
        cases hb : Tryz.prog.keyLits d 3 [c1] with
        | none => simp [ha, hb] at hls
        | some b =>
          obtain ⟨n0, e0, ea⟩ := keyLits_int' Tryz.underlying3 ha
          obtain ⟨n1, e1, eb⟩ := keyLits_int' Tryz.underlying3 hb
          have w0 := keyLits_wf ha (.int .i64 n0) (by rw [ea]; simp)
          have w1 := keyLits_wf hb (.int .i64 n1) (by rw [eb]; simp)
          injection e0 with e0
          injection e1 with e1
          subst e0 e1
          have hk : okF (n0, n1) := ⟨w0, w1⟩
          refine ⟨(n0, n1), hk, rfl, ?_⟩
          have h2 := keyF_of w hk
          rw [show Value.agg { toList := [.int .i64 n0, .int .i64 n1] } = frV (n0, n1) from rfl, h2] at h0
          injection h0 with h0
          exact h0.symm
  | _ => simp [Value.formed, Tryz.underlying119] at hf
end

section
open Go.RowKit Go.Sort Go.Maps
set_option linter.unusedVariables false

/-- The elements that have come: each once, exactly those whose keys are no longer left. -/
def CameF (D0 : DataW Unit) (left : Lit → Bool) (ss : List (Int × Int)) : Prop :=
  ss.Nodup ∧ (∀ x ∈ ss, okF x) ∧ ∀ x, okF x → (x ∈ ss ↔ (has D0 (keyF x) = true ∧ left (keyF x) = false))

theorem CameF.start (D0 : DataW Unit) : CameF D0 (has D0) [] := ⟨List.nodup_nil, by simp, fun x _ => by cases has D0 (keyF x) <;> simp⟩

theorem CameF.step {D0 : DataW Unit} {left : Lit → Bool} {ss : List (Int × Int)} (w : World) (h : CameF D0 left ss) {x : Int × Int} {y : DataW Unit} (hok : okF x) (hlk : left (keyF x) = true) (hat : ∀ zd, D0.atKey (keyF x) zd = y) :
    CameF D0 (fun z => left z && !z.sameKey (keyF x)) (ss ++ [x]) := by
  have hhas : has D0 (keyF x) = true := has_true_of_atKey hat
  have hnew : x ∉ ss := fun hx => by have := ((h.2.2 x hok).1 hx).2; rw [hlk] at this; cases this
  refine ⟨List.nodup_append.2 ⟨h.1, by simp, fun a ha b hb => by simp at hb; subst hb; exact fun e => hnew (e ▸ ha)⟩, ?_, fun z hz => ?_⟩
  · intro z hz
    rcases List.mem_append.1 hz with h1 | h1
    · exact h.2.1 z h1
    · simp at h1; subst h1; exact hok
  · by_cases hy : z = x
    · subst hy
      simp [hhas, WideAt.sameKey_self (frKeyed.key (keyF_of w hok))]
    · have hne : (keyF z).sameKey (keyF x) = false := sameKey_ne (fun e => hy (keyF_inj w hz hok e))
      simp [h.2.2 z hz, hy, hne]
end

section
open Go.RowKit Go.Sort Go.Maps
set_option linter.unusedVariables false

abbrev FrK := { x : Int × Int // okF x }

theorem frV_inj {x y : Int × Int} (h : frV x = frV y) : x = y := by
  obtain ⟨a, b⟩ := x
  obtain ⟨c, d⟩ := y
  simpa [frV] using h

set_option maxRecDepth 100000 in
set_option maxHeartbeats 1000000 in
theorem keysF_in (F : Fence) (n : Nat) (h10 : F.fn 168) (hro : F.round = none) (hn : 1 ≤ n) (l Bm b nn : Nat) (D0 : DataW Unit) (J Jx : List FrK → World → Prop)
    (hY : ∀ (pre : List FrK) (x : FrK) W, J pre W → pre.length < Maps.size D0 → YieldAt F (n - 1) Tryz.prog l #[frV x.1] W fun e W' =>
      (e = .returned (.bool true) ∧ J (pre ++ [x]) W' ∧ KeepsWalks W W') ∨ (e = .returned (.bool false) ∧ Jx (pre ++ [x]) W'))
    (W : World) (hJ : AbidesFrom W.heap.size J) (hm : W.cell? ⟨Bm, 0, none⟩ = some (.map (some b))) (hown : W.ownsMap Tryz.prog 119 (plainElem Tryz.prog 4) b nn D0) (h0 : J [] W) :
    CallsIn F n Tryz.prog 168 #[.func (.yield l) #[] #[], .pointer (some ⟨Bm, 0, none⟩)] W fun e W' => (∃ v, e = .returned v) ∧
      ((∃ (ss : List FrK) (left : Lit → Bool), CameF D0 left (ss.map (·.1)) ∧ (∀ kl, left kl = false) ∧ J ss W') ∨ (∃ pre : List FrK, Jx pre W')) := by
  refine callsIn_of_wp Tryz.func168 rfl h10 ?_ hro
  simp only [Tryz.ntmps168, List.size_toArray, List.length_cons, List.length_nil, Nat.reduceAdd, Nat.reduceSub, Array.replicate_succ, Array.replicate_zero, List.push_toArray, List.append_toArray, List.nil_append, List.cons_append]
  gi_wp2_with (first
    | (gi_at_range; refine wpListIn_range_own _ rfl _ 131 rfl 119 4 frKeyed Tryz.underlying131 _ b nn _ rfl hown ?_; intro w0 hrg0 hg0 hs0)
    | gi_in)
  go_frame
  gi_loopw [3] (fun _ wr => ∃ (left : Lit → Bool) (cnt : Nat) (ss : List FrK), wr.ranges Tryz.prog 119 (plainElem Tryz.prog 4) b W.heap.size nn D0 left cnt ∧ ss.length + cnt ≤ Maps.size D0 ∧ CameF D0 left (ss.map (·.1)) ∧ J ss wr)
    (fun _ wr => wr.rangeLeft b W.heap.size)
  case atStart =>
    exact ⟨_, _, [], hrg0, by simp, CameF.start D0, hJ [] W w0 none h0 hg0 (fun r e => by cases e)⟩
  case round =>
    obtain ⟨left, cnt, ss, hrg, hcs, hC, hJs⟩ := hrel
    gi_wp2_with (first
      | (gi_at_next; refine wpListIn_next_ranges _ rfl _ rfl 119 frKeyed (plainElem Tryz.prog 4) frV id (fun key kl hk => by obtain ⟨x, _, hx, _⟩ := keyF_inv W hk; exact ⟨x, hx⟩) (fun v _ _ => ⟨v, rfl⟩) b W.heap.size nn _ _ _ rfl hrg ?_ ?_)
      | gi_in)
    · intro hc0 hl0
      gi_wp2
      go_end0
      exact ⟨⟨_, rfl⟩, .inl ⟨ss, left, hC, hl0, hJs⟩⟩
    · intro x0 x1 c kl yd yp w2 cnt2 hkey hlk hv hat hrg2 hlt hg2 hs2 hen
      obtain ⟨x', hok, ex, rfl⟩ := keyF_inv W hkey
      obtain rfl : (x0, x1) = x' := frV_inj ex
      have hJ2 : J ss w2 := hJ ss wr w2 (some W.heap.size) hJs hg2 (fun r e => by cases e; exact ⟨Nat.le_refl _, hrg.iter_walk⟩)
      have hJa : J ss (w2.alloc (.cells #[.int .i64 x0, .int .i64 x1] 119)) := hJ ss w2 _ none hJ2 (World.grownBy_alloc _ _ _) (fun r e => by cases e)
      have hrga := hrg2.alloc (.cells #[.int .i64 x0, .int .i64 x1] 119)
      obtain ⟨fn, tmps, assign, body, hy, hR⟩ := hY ss ⟨(x0, x1), hok⟩ _ hJa (by omega)
      have hC2 := hC.step W hok hlk hat
      simp only [frV] at hen hR hy
      clear hs2 hkey ex hJ2
      gi_wp2
      refine hR.mono ?_
      rintro e W3 (⟨rfl, hJ3, hk3⟩ | ⟨rfl, hJx3⟩)
      · gi_wp2
        have hrg3 := hrga.of_walks hk3
        go_roundw
        case rel => exact ⟨_, cnt2, ss ++ [⟨(x0, x1), hok⟩], hrg3, by simp; omega, by simpa using hC2, hJ3⟩
        case measure => rw [hrg3.left_eq, hrg.left_eq]; exact hlt
      · gi_wp2
        refine bodyPost_ret (results_none rfl _ _ _) rfl ?_
        exact ⟨⟨_, rfl⟩, .inr ⟨_, hJx3⟩⟩

/-- maps.Keys over a set of elements hands back an iterator that stops as it should. -/
theorem keysF_stops (F : Fence) (n : Nat) (h10 : F.fn 168) (hro : F.round = none) (hn : 1 ≤ n) (Bm b nn : Nat) (D0 : DataW Unit) (w : World) (hBm : Bm < w.heap.size)
    (hm : w.cell? ⟨Bm, 0, none⟩ = some (.map (some b))) (hown : w.ownsMap Tryz.prog 119 (plainElem Tryz.prog 4) b nn D0) :
    SeqStops F n Tryz.prog 168 #[.pointer (some ⟨Bm, 0, none⟩)] (fun x : FrK => frV x.1) (fun ss => ∃ left : Lit → Bool, CameF D0 left (ss.map (·.1)) ∧ ∀ kl, left kl = false) (fun _ => True) (Maps.size D0) w := fun l J Jx W hW hJ _ hY h0 => by
  have hown' : W.ownsMap Tryz.prog 119 (plainElem Tryz.prog 4) b nn D0 := by
    have hbl := hown.lt
    obtain ⟨es, clock, hb, Ft, hs, hD⟩ := hown
    exact ⟨es, clock, (hW.block b hbl).trans hb, Ft, hs, hD⟩
  refine (keysF_in F n h10 hro hn l Bm b nn D0 J Jx hY W hJ ((hW.cell (p := ⟨Bm, 0, none⟩) hBm).trans hm) hown' h0).mono ?_
  rintro e W' ⟨hv, h⟩
  refine ⟨hv, ?_⟩
  rcases h with ⟨ss, left, h1, h2, h3⟩ | ⟨pre, h3⟩
  · exact .inl ⟨ss, ⟨left, h1, h2⟩, h3⟩
  · exact .inr ⟨pre, trivial, h3⟩
end
end Go.Proofs.YtlhjgjfnmejiaaaGreat
