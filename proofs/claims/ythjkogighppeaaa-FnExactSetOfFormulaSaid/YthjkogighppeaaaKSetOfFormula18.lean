/-
  Codes of patterns in the program: codeOf, slices.Backward at numbers, decoded, as contracts. decoded in the program, as a contract.
-/
import Derived.Test.YthjkogighppeaaaKSetOfFormula3
import Derived.Test.YthjkogighppeaaaKSetOfFormula9
import Derived.RangeFuncNested
import Derived.RangeFuncBound
import Derived.RangeFuncCalls
import Derived.RangeFuncLeaves
import Derived.RangeFuncBox
import Derived.Maps.AppendAt
import Derived.Shelf.Abstract
import Derived.Shelf.RegionOpen
import Derived.OwnWalkIn
import Derived.TacticsInMore
import Derived.LoopNIn
import Derived.LoopIn
section
namespace Go.Proofs.Ythjkogighppeaaa
open Go.RowKit Go.Sort Go.Shelf
attribute [local go_sem] Oper.semAt_some
set_option linter.unusedVariables false

theorem codeP_small {p : List Int} (hd : digP p) (hl : p.length ≤ 4) (k : Nat) : codeP (p.take k) < 4096 := by
  have h1 := codeP_lt (w := (p.take k).length) rfl fun n hn => hd n (List.mem_of_mem_take hn)
  have h2 : (p.take k).length ≤ 4 := by rw [List.length_take]; omega
  have h3 : 8 ^ (p.take k).length ≤ 8 ^ 4 := Nat.pow_le_pow_right (by decide) h2
  omega

set_option maxRecDepth 100000 in
set_option maxHeartbeats 1000000 in
theorem codeOf_any (A : Option Addr) (c : Nat) (p : List Int) (w : World) (hA : IntsAt w A p) (hl : p.length ≤ 4) (hd : digP p) :
    Calls Try.prog 54 #[.slice A p.length c] w fun e w' => e = .returned (.int .i64 (codeP p)) ∧ w = w' := by
  have HD := Lib.hid hd
  have HS := Lib.hid (fun k => codeP_small hd hl k)
  clear hd
  go_enter Try.func54, Try.ntmps54
  go_wp2
  go_loop [3, 5, 8] (fun cd _ i => ∃ k : Nat, k ≤ p.length ∧ i = .int .i64 k ∧ cd = .int .i64 (codeP (p.take k))) (fun _ _ i => p.length - (intOf i).toNat)
  case atStart => exact ⟨0, Nat.zero_le _, rfl, rfl⟩
  case round =>
    obtain ⟨k, hk, rfl, rfl⟩ := hrel
    by_cases hlt : k < p.length
    · obtain ⟨b1, o1, rfl, hb1, hc1⟩ := hA (by omega)
      have c1 := hc1 k hlt
      obtain ⟨h0, h8⟩ := digP_at HD.out hlt
      have hs := HS.out k
      have hn : Hid (((codeP (p.take (k + 1)) : Nat) : Int) = (codeP (p.take k) : Int) * 8 + itAt p k) := Lib.hid (by rw [codeP_next hlt]; omega)
      generalize itAt p k = x at c1 h0 h8 hn
      generalize codeP (p.take k) = m at hs hn
      clear hc1 hA
      go_wp2
      go_round
      case rel => exact ⟨k + 1, by omega, by go_num, by rw [hn.out]⟩
      case measure => simp [intOf]; omega
    · have e : k = p.length := by omega
      subst e
      rw [List.take_length]
      clear hA HD HS
      go_wp2
      go_ret
      exact ⟨rfl, rfl⟩

/-! ### slices.Backward: from the last place to the first -/

/-- The first k places from the last one on. -/
def dnL (n k : Nat) : List Nat := (List.range k).map fun j => n - 1 - j
theorem dnL_next (n k : Nat) : dnL n (k + 1) = dnL n k ++ [n - 1 - k] := by simp [dnL, List.range_succ]
/-- What a round leaves: the slice's header, and that numbers are at its places. -/
def BackK (Bs b n : Nat) (W W' : World) : Prop :=
  (∀ v, W.cell? ⟨Bs, 0, none⟩ = some v → W'.cell? ⟨Bs, 0, none⟩ = some v) ∧ ∀ j, j < n → (∃ z : Int, W.cell? ⟨b, j, none⟩ = some (.int .i64 z)) → ∃ z : Int, W'.cell? ⟨b, j, none⟩ = some (.int .i64 z)
theorem backK_refl (Bs b n : Nat) (W : World) : BackK Bs b n W W := ⟨fun _ h => h, fun _ _ h => h⟩
theorem backK_t {Bs b n : Nat} {A B C : World} (h : BackK Bs b n A B) (k : BackK Bs b n B C) : BackK Bs b n A C := ⟨fun v e => k.1 v (h.1 v e), fun j hj e => k.2 j hj (h.2 j hj e)⟩
theorem cell_putObj {W : World} {l : Nat} {o o' : Obj} (h : W.heap[l]? = some o) (hc : o.isCells = false) {a : Addr} {v : Value} (hv : W.cell? a = some v) : (W.putObj l o').cell? a = some v := by
  have hne : a.block ≠ l := by
    intro e
    unfold World.cell? at hv
    rw [e, h] at hv
    cases o <;> simp [Obj.isCells] at hc hv
  have hb : (W.putObj l o').heap[a.block]? = W.heap[a.block]? := (grownBy_putObj' W l o').block a.block (by have := block_lt_of_cell hv; omega) (fun e => hne (by cases e; rfl))
  unfold World.cell? at hv ⊢
  rw [hb]
  exact hv
theorem backK_b {Bs b n : Nat} {w : World} (W : World) (l : Nat) (o o' : Obj) (_ : w.heap.size ≤ l) (h : W.heap[l]? = some o) (hc : o.isCells = false) (_ : o.isWalk = false) : BackK Bs b n W (W.putObj l o') :=
  ⟨fun v e => cell_putObj h hc e, fun j _ ⟨z, e⟩ => ⟨z, cell_putObj h hc e⟩⟩

abbrev PlaceV (n : Nat) := { x : Nat × Int // x.1 < n }
set_option maxRecDepth 100000 in
set_option maxHeartbeats 2000000 in
theorem back1_in (F : Fence) (n : Nat) (hf : F.fn 93) (hro : F.round = none) (hn : 1 ≤ n) (l Bs b len cap : Nat) (hlen : len ≤ 1099511627776) (J Jx : List (PlaceV len) → World → Prop)
    (hY : ∀ pre x W, J pre W → pre.length < len → YieldAt F (n - 1) Try.prog l #[.int .i64 (x.1.1 : Int), .int .i64 x.1.2] W fun e W' =>
      (e = .returned (.bool true) ∧ J (pre ++ [x]) W' ∧ BackK Bs b len W W') ∨ (e = .returned (.bool false) ∧ Jx (pre ++ [x]) W'))
    (W : World) (hBs : W.cell? ⟨Bs, 0, none⟩ = some (.slice (some ⟨b, 0, none⟩) len cap)) (hc : ∀ j, j < len → ∃ z : Int, W.cell? ⟨b, j, none⟩ = some (.int .i64 z)) (h0 : J [] W) :
    CallsIn F n Try.prog 93 #[.func (.yield l) #[] #[], .pointer (some ⟨Bs, 0, none⟩)] W fun e W' => (∃ v, e = .returned v) ∧
      ((∃ ys : List (PlaceV len), ys.map (·.1.1) = dnL len len ∧ J ys W') ∨ (∃ pre, True ∧ Jx pre W')) := by
  refine callsIn_of_wp Try.func93 rfl hf ?_ hro
  simp only [Try.ntmps93, List.size_toArray, List.length_cons, List.length_nil, Nat.reduceAdd, Nat.reduceSub, Array.replicate_succ, Array.replicate_zero, List.push_toArray, List.append_toArray, List.nil_append, List.cons_append]
  gi_wp2
  gi_loopw [3] (fun i wr => ∃ (k : Nat) (z : Int) (pre : List (PlaceV len)), k ≤ len ∧ i = .int .i64 z ∧ z = (len : Int) - 1 - k ∧ pre.map (·.1.1) = dnL len k ∧ J pre wr ∧ BackK Bs b len W wr) (fun i _ => (intOf i + 1).toNat)
  case atStart => exact ⟨0, _, [], Nat.zero_le _, rfl, by omega, rfl, h0, backK_refl _ _ _ _⟩
  case round =>
    obtain ⟨k, z, pre, hk, rfl, hz, hpre, hJ, hK⟩ := hrel
    have hpl : pre.length = k := by have := congrArg List.length hpre; simpa [dnL] using this
    have hBs2 := hK.1 _ hBs
    by_cases hlt : k < len
    · obtain ⟨q, hq⟩ : ∃ q : Nat, q = len - 1 - k := ⟨_, rfl⟩
      have hql : q < len := by omega
      obtain ⟨v, hv⟩ := hK.2 q hql (hc q hql)
      obtain ⟨fn, tmps, assign, body, hy, hR⟩ := hY pre ⟨(q, v), hql⟩ wr hJ (by omega)
      dsimp only at hy hR
      have hnx : (pre ++ [(⟨(q, v), hql⟩ : PlaceV len)]).map (·.1.1) = dnL len (k + 1) := by rw [dnL_next, List.map_append, hpre, ← hq]; rfl
      have hzq : z = (q : Int) := by omega
      have HNX := Lib.hid hnx
      have HKK := Lib.hid hK
      have HQ := Lib.hid (show q + 1 + k = len by omega)
      clear hnx hz hpre hJ hK hpl hc hq
      subst hzq
      gi_wp2
      refine hR.mono ?_
      rintro e W3 (⟨rfl, hJ3, hk3⟩ | ⟨rfl, hJx3⟩)
      · gi_wp2
        go_roundw
        case rel => exact ⟨k + 1, _, _, by omega, rfl, by have := HQ.out; omega, HNX.out, hJ3, backK_t HKK.out hk3⟩
        case measure => first | (simp [intOf]; done) | (simp [intOf]; omega)
      · gi_wp2
        refine bodyPost_ret (results_none rfl _ _ _) rfl ?_
        exact ⟨⟨_, rfl⟩, .inr ⟨_, trivial, hJx3⟩⟩
    · have e : k = len := by omega
      subst e
      have hz1 : z = -1 := by omega
      have HP := Lib.hid hpre
      clear hz hpre hpl hc hK
      subst hz1
      gi_wp2
      go_end0
      exact ⟨⟨_, rfl⟩, .inl ⟨_, HP.out, hJ⟩⟩

theorem back_any (A : Option Addr) (n c : Nat) (w : World) : Calls Try.prog 78 #[.slice A n c] w
    fun e w' => e = .returned (.func (.func 93) #[] #[.pointer (some ⟨w.heap.size, 0, none⟩)]) ∧ w' = w.alloc (.cells #[.slice A n c] 26) := by
  go_enter Try.func78, Try.ntmps78
  go_wp2
  go_ret
  exact ⟨rfl, rfl⟩

/-- What slices.Backward gives: each place once, from the last one on. -/
theorem back_stops (F : Fence) (n : Nat) (hf : F.fn 93) (hro : F.round = none) (hn : 1 ≤ n) (Bs b len cap : Nat) (hlen : len ≤ 1099511627776) (w : World) (hBl : Bs < w.heap.size) (hb : b < w.heap.size)
    (hBs : w.cell? ⟨Bs, 0, none⟩ = some (.slice (some ⟨b, 0, none⟩) len cap)) (hc : ∀ j, j < len → ∃ z : Int, w.cell? ⟨b, j, none⟩ = some (.int .i64 z)) :
    SeqStopsK F n Try.prog 93 #[.pointer (some ⟨Bs, 0, none⟩)] (fun x : PlaceV len => #[.int .i64 (x.1.1 : Int), .int .i64 x.1.2]) (BackK Bs b len) (fun ys => ys.map (·.1.1) = dnL len len) (fun _ => True) len w :=
  fun l J Jx W hW _ _ hY h0 => back1_in F n hf hro hn l Bs b len cap hlen J Jx hY W ((hW.cell (p := ⟨Bs, 0, none⟩) hBl).trans hBs) (fun j hj => by obtain ⟨z, hz⟩ := hc j hj; exact ⟨z, (hW.cell (p := ⟨b, j, none⟩) hb).trans hz⟩) h0
end Go.Proofs.Ythjkogighppeaaa
end

section
namespace Go.Proofs.Ythjkogighppeaaa
open Go.RowKit Go.Sort Go.Shelf
attribute [local go_sem] Oper.semAt_some
set_option linter.unusedVariables false

theorem decP_cons : ∀ (k c : Nat), decP (k + 1) c = (((c / 8 ^ k) % 8 : Nat) : Int) :: decP k c
  | 0, c => by simp [decP]
  | k + 1, c => by
    rw [decP, decP_cons k (c / 8), Nat.div_div_eq_div_mul, show 8 * 8 ^ k = 8 ^ (k + 1) by rw [Nat.pow_succ]; omega]
    rfl
/-- What has been filled in, and what is left of the code. -/
def fillS (n c : Nat) (pre : List (PlaceV n)) : List Int × Nat := pre.foldl (fun s x => (s.1.set x.1.1 ((s.2 % 8 : Nat) : Int), s.2 / 8)) (List.replicate n 0, c)
theorem fillS_snoc (n c : Nat) (pre : List (PlaceV n)) (x : PlaceV n) : fillS n c (pre ++ [x]) = ((fillS n c pre).1.set x.1.1 (((fillS n c pre).2 % 8 : Nat) : Int), (fillS n c pre).2 / 8) := by
  unfold fillS
  rw [List.foldl_append]
  rfl
theorem fillS_len (n c : Nat) (pre : List (PlaceV n)) : (fillS n c pre).1.length = n := by
  unfold fillS
  suffices h : ∀ (l : List (PlaceV n)) (s : List Int × Nat), s.1.length = n → (l.foldl (fun s x => (s.1.set x.1.1 ((s.2 % 8 : Nat) : Int), s.2 / 8)) s).1.length = n from h pre _ (by simp)
  intro l
  induction l with
  | nil => intro s hs; exact hs
  | cons x r ih => intro s hs; exact ih _ (by simpa using hs)
theorem fillS_le (n c : Nat) (pre : List (PlaceV n)) : (fillS n c pre).2 ≤ c := by
  unfold fillS
  suffices h : ∀ (l : List (PlaceV n)) (s : List Int × Nat), s.2 ≤ c → (l.foldl (fun s x => (s.1.set x.1.1 ((s.2 % 8 : Nat) : Int), s.2 / 8)) s).2 ≤ c from h pre _ (Nat.le_refl _)
  intro l
  induction l with
  | nil => intro s hs; exact hs
  | cons x r ih => intro s hs; exact ih _ (Nat.le_trans (Nat.div_le_self _ _) hs)
theorem fillS_dn (n c : Nat) : ∀ (k : Nat) (pre : List (PlaceV n)), k ≤ n → pre.map (·.1.1) = dnL n k → fillS n c pre = (List.replicate (n - k) 0 ++ decP k c, c / 8 ^ k)
  | 0, pre, _, h => by
    have : pre = [] := by simpa [dnL] using h
    subst this
    simp [fillS, decP]
  | k + 1, pre, hk, h => by
    rw [dnL_next, List.map_eq_append_iff] at h
    obtain ⟨p1, p2, rfl, h1, h2⟩ := h
    obtain ⟨x, rfl⟩ : ∃ x, p2 = [x] := by
      cases p2 with
      | nil => simp at h2
      | cons x r => cases r with
        | nil => exact ⟨x, rfl⟩
        | cons y r => simp at h2
    have hx : x.1.1 = n - 1 - k := by simpa using h2
    rw [fillS_snoc, fillS_dn n c k p1 (by omega) h1, hx]
    obtain ⟨m, hm⟩ : ∃ m, n - k = m + 1 := ⟨n - k - 1, by omega⟩
    have e1 : n - 1 - k = m := by omega
    have e2 : n - (k + 1) = m := by omega
    rw [hm, e1, e2, decP_cons, Nat.div_div_eq_div_mul, ← Nat.pow_succ]
    congr 1
    rw [show List.replicate (m + 1) (0 : Int) = List.replicate m 0 ++ [0] from List.replicate_succ', List.append_assoc, List.set_append_right _ _ (by simp)]
    simp

theorem blk_own (B : Nat) (cs : Array Value) (T : TypeId) : _root_.Go.Own (fun (_ : Unit) W => W.heap[B]? = some (.cells cs T (0, 0))) := fun _ X Y row hs hg hrow => by
  refine (hg.block B (Array.getElem?_eq_some_iff.1 hs).1 (fun e => ?_)).trans hs
  obtain ⟨o, ho, hc⟩ := hrow B e.symm
  rw [hs] at ho; cases ho; cases hc

/-- What lies in memory between two rounds. -/
def FillAt (s n c : Nat) (pre : List (PlaceV n)) (W : World) : Prop :=
  W.heap[s]? = some (.cells #[.int .i64 (fillS n c pre).2] 3 (0, 0)) ∧ W.heap[s + 1]? = some (.cells (icells (fillS n c pre).1).toArray 3 (0, 0)) ∧ W.heap[s + 1 + 1]? = some (.cells #[.slice (some ⟨s + 1, 0, none⟩) n n] 26 (0, 0))
theorem fillAt_own (s n c : Nat) : _root_.Go.Own (FillAt s n c) := fun pre X Y row hs hg hrow =>
  ⟨blk_own _ _ _ () X Y row hs.1 hg hrow, blk_own _ _ _ () X Y row hs.2.1 hg hrow, blk_own _ _ _ () X Y row hs.2.2 hg hrow⟩

theorem fill_cell {s n c : Nat} {pre : List (PlaceV n)} {W : World} (h : FillAt s n c pre W) (j : Nat) (hj : j < n) : W.cell? ⟨s + 1, j, none⟩ = some (.int .i64 (itAt (fillS n c pre).1 j)) := by
  rw [cell_of_row _ _ _ _ _ _ h.2.1]
  simpa using icells_at (fillS n c pre).1 j (by rw [fillS_len]; exact hj)
theorem icells_set (l : List Int) (i : Nat) (x : Int) : icells (l.set i x) = (icells l).set i (.int .i64 x) := by unfold icells; rw [List.map_set]
theorem fill_next {s n c : Nat} {pre : List (PlaceV n)} {x : PlaceV n} {W : World} (h : FillAt s n c pre W) :
    FillAt s n c (pre ++ [x]) ((W.setCell ⟨s + 1, x.1.1, none⟩ (.int .i64 (((fillS n c pre).2 : Int) % 8))).setCell ⟨s, 0, none⟩ (.int .i64 (((fillS n c pre).2 : Int) / 8))) := by
  obtain ⟨g0, g1, g2⟩ := h
  have e1 := heap_setCell_same W (s + 1) x.1.1 _ _ (.int .i64 (((fillS n c pre).2 : Int) % 8)) g1
  have e0 := (heap_setCell_other W ⟨s + 1, x.1.1, none⟩ s (.int .i64 (((fillS n c pre).2 : Int) % 8)) (by simp)).trans g0
  have e2 := (heap_setCell_other W ⟨s + 1, x.1.1, none⟩ (s + 1 + 1) (.int .i64 (((fillS n c pre).2 : Int) % 8)) (by simp)).trans g2
  refine ⟨?_, ?_, ?_⟩
  · rw [heap_setCell_same _ s 0 _ _ _ e0, fillS_snoc]
    simp
  · rw [heap_setCell_other _ _ _ _ (by simp), e1, fillS_snoc, icells_set]
    simp
  · rw [heap_setCell_other _ _ _ _ (by simp; omega), e2]
theorem fill_keeps {s n c Bs : Nat} {pre : List (PlaceV n)} {x : PlaceV n} {W : World} (h : FillAt s n c pre W) (hB : s + 1 < Bs) {a b : Int} :
    BackK Bs (s + 1) n W ((W.setCell ⟨s + 1, x.1.1, none⟩ (.int .i64 a)).setCell ⟨s, 0, none⟩ (.int .i64 b)) := by
  refine ⟨fun v hv => ?_, fun j hj hz => ?_⟩
  · unfold World.cell? at hv ⊢
    simp only at hv ⊢
    rw [heap_setCell_other _ _ _ _ (by simp; omega), heap_setCell_other _ _ _ _ (by simp; omega)]
    exact hv
  · have e1 := heap_setCell_same W (s + 1) x.1.1 _ _ (.int .i64 a) h.2.1
    have e2 := (heap_setCell_other (W.setCell ⟨s + 1, x.1.1, none⟩ (.int .i64 a)) ⟨s, 0, none⟩ (s + 1) (.int .i64 b) (by simp)).trans e1
    rw [cell_of_row _ _ _ _ _ _ e2]
    have hs : (icells ((fillS n c pre).1.set x.1.1 a))[j]? = some (.int .i64 (itAt ((fillS n c pre).1.set x.1.1 a) j)) := icells_at _ _ (by rw [List.length_set, fillS_len]; exact hj)
    rw [icells_set] at hs
    exact ⟨_, by simpa using hs⟩
theorem fill_done {n c : Nat} {ys : List (PlaceV n)} {w W : World} (h : fillS n c ys = (List.replicate (n - n) 0 ++ decP n c, c / 8 ^ n)) (g1 : W.heap[w.heap.size + 1]? = some (.cells (icells (fillS n c ys).1).toArray 3 (0, 0))) (hb : Below w.heap.size w W) (hn : n ≤ 4) :
    W.ownsRow w.heap.size 3 1 (.slice (some ⟨w.heap.size + 1, 0, none⟩) n n) (decP n c).length (icells (decP n c)) := by
  rw [h] at g1
  simp only [Nat.sub_self, List.replicate_zero, List.nil_append] at g1
  have hl := decP_len n c
  refine ⟨by rw [icells_len, Nat.mul_one], .inr ⟨w.heap.size + 1, n, _, by rw [hl], by omega, g1, by omega, by unfold maxLen; omega, ?_, ?_⟩⟩
  · simp [icells_len, hl]
  · rw [hl, Nat.mul_one]
    show (icells (decP n c)).take n = _
    rw [List.take_of_length_le (by rw [icells_len, hl]; exact Nat.le_refl _)]

theorem makeI0 (w : World) : (Instr.makeSlice 26 (.int .i64 0) (.int .i64 0)).run Try.prog w = .ok (.slice (some ⟨w.heap.size, 0, none⟩) 0 0) (w.alloc (.cells #[] 3)) := by kernel_rfl
theorem makeI1 (w : World) : (Instr.makeSlice 26 (.int .i64 1) (.int .i64 1)).run Try.prog w = .ok (.slice (some ⟨w.heap.size, 0, none⟩) 1 1) (w.alloc (.cells #[.int .i64 0] 3)) := by kernel_rfl
theorem makeI2 (w : World) : (Instr.makeSlice 26 (.int .i64 2) (.int .i64 2)).run Try.prog w = .ok (.slice (some ⟨w.heap.size, 0, none⟩) 2 2) (w.alloc (.cells #[.int .i64 0, .int .i64 0] 3)) := by kernel_rfl
theorem makeI3 (w : World) : (Instr.makeSlice 26 (.int .i64 3) (.int .i64 3)).run Try.prog w = .ok (.slice (some ⟨w.heap.size, 0, none⟩) 3 3) (w.alloc (.cells #[.int .i64 0, .int .i64 0, .int .i64 0] 3)) := by kernel_rfl
theorem makeI4 (w : World) : (Instr.makeSlice 26 (.int .i64 4) (.int .i64 4)).run Try.prog w = .ok (.slice (some ⟨w.heap.size, 0, none⟩) 4 4) (w.alloc (.cells #[.int .i64 0, .int .i64 0, .int .i64 0, .int .i64 0] 3)) := by kernel_rfl
theorem makeInts (n : Nat) (hn : n ≤ 4) (w : World) : (Instr.makeSlice 26 (.int .i64 (n : Int)) (.int .i64 (n : Int))).run Try.prog w = .ok (.slice (some ⟨w.heap.size, 0, none⟩) n n) (w.alloc (.cells (icells (List.replicate n 0)).toArray 3)) := by
  have h : n = 0 ∨ n = 1 ∨ n = 2 ∨ n = 3 ∨ n = 4 := by omega
  rcases h with rfl | rfl | rfl | rfl | rfl
  · exact makeI0 w
  · exact makeI1 w
  · exact makeI2 w
  · exact makeI3 w
  · exact makeI4 w

set_option maxRecDepth 100000 in
set_option maxHeartbeats 2000000 in
theorem decoded_in (c n : Nat) (hn : n ≤ 4) (hc : c ≤ 1099511627776) (w : World) :
    CallsIn Fence.wide 8 Try.prog 68 #[.int .i64 (c : Int), .int .i64 (n : Int)] w (NewInts (decP n c) w) := by
  have hmk := makeInts n hn
  refine callsIn_of_wp_marks Try.func68 rfl trivial ?_ rfl
  simp only [Try.ntmps68, List.size_toArray, List.length_cons, List.length_nil, Nat.reduceAdd, Nat.reduceSub, Array.replicate_succ, Array.replicate_zero, List.push_toArray, List.append_toArray, List.nil_append, List.cons_append]
  gi_wp2_with (refine ⟨trivial, ?_⟩; gi_at_call 78; refine (callsIn_wide.2 (back_any _ _ _ _)).mono ?_; rintro e w' ⟨rfl, rfl⟩)
  have hB : Below w.heap.size w ((((w.alloc (.cells #[.int .i64 (c : Int)] 3)).alloc (.cells (icells (List.replicate n 0)).toArray 3)).alloc (.cells #[.slice (some ⟨w.heap.size + 1, 0, none⟩) n n] 26)).alloc (.cells #[.slice (some ⟨w.heap.size + 1, 0, none⟩) n n] 26)) := ((((Below.refl _ _).alloc (Nat.le_refl _) _).alloc (by first | (simp; done) | omega) _).alloc (by first | (simp; done) | (simp; omega) | omega) _).alloc (by first | (simp; done) | (simp; omega) | omega) _
  have hF : FillAt w.heap.size n c [] ((((w.alloc (.cells #[.int .i64 (c : Int)] 3)).alloc (.cells (icells (List.replicate n 0)).toArray 3)).alloc (.cells #[.slice (some ⟨w.heap.size + 1, 0, none⟩) n n] 26)).alloc (.cells #[.slice (some ⟨w.heap.size + 1, 0, none⟩) n n] 26)) := by
    refine ⟨?_, ?_, ?_⟩
    · exact (Below.heap_alloc _ _ _ (by first | (simp; done) | (simp; omega) | omega)).trans ((Below.heap_alloc _ _ _ (by first | (simp; done) | (simp; omega) | omega)).trans ((Below.heap_alloc _ _ _ (by first | (simp; done) | omega)).trans (heap_alloc_new w _)))
    · have h := heap_alloc_new (w.alloc (.cells #[.int .i64 (c : Int)] 3)) (.cells (icells (List.replicate n 0)).toArray 3)
      rw [World.size_alloc] at h
      exact (Below.heap_alloc _ _ _ (by first | (simp; done) | (simp; omega) | omega)).trans ((Below.heap_alloc _ _ _ (by first | (simp; done) | omega)).trans h)
    · have h := heap_alloc_new ((w.alloc (.cells #[.int .i64 (c : Int)] 3)).alloc (.cells (icells (List.replicate n 0)).toArray 3)) (.cells #[.slice (some ⟨w.heap.size + 1, 0, none⟩) n n] 26)
      rw [World.size_alloc, World.size_alloc] at h
      exact (Below.heap_alloc _ _ _ (by first | (simp; done) | omega)).trans h
  have hH : ((((w.alloc (.cells #[.int .i64 (c : Int)] 3)).alloc (.cells (icells (List.replicate n 0)).toArray 3)).alloc (.cells #[.slice (some ⟨w.heap.size + 1, 0, none⟩) n n] 26)).alloc (.cells #[.slice (some ⟨w.heap.size + 1, 0, none⟩) n n] 26)).cell? ⟨w.heap.size + 1 + 1 + 1, 0, none⟩ = some (.slice (some ⟨w.heap.size + 1, 0, none⟩) n n) := by
    have h := heap_alloc_new (((w.alloc (.cells #[.int .i64 (c : Int)] 3)).alloc (.cells (icells (List.replicate n 0)).toArray 3)).alloc (.cells #[.slice (some ⟨w.heap.size + 1, 0, none⟩) n n] 26)) (.cells #[.slice (some ⟨w.heap.size + 1, 0, none⟩) n n] 26)
    rw [World.size_alloc, World.size_alloc, World.size_alloc] at h
    rw [cell_of_row _ _ 0 _ _ _ h]
    rfl
  have hsz : ((((w.alloc (.cells #[.int .i64 (c : Int)] 3)).alloc (.cells (icells (List.replicate n 0)).toArray 3)).alloc (.cells #[.slice (some ⟨w.heap.size + 1, 0, none⟩) n n] 26)).alloc (.cells #[.slice (some ⟨w.heap.size + 1, 0, none⟩) n n] 26)).heap.size = w.heap.size + 4 := by simp
  generalize (((w.alloc (.cells #[.int .i64 (c : Int)] 3)).alloc (.cells (icells (List.replicate n 0)).toArray 3)).alloc (.cells #[.slice (some ⟨w.heap.size + 1, 0, none⟩) n n] 26)).alloc (.cells #[.slice (some ⟨w.heap.size + 1, 0, none⟩) n n] 26) = W0 at hB hF hH hsz ⊢
  refine wpIn_rangeFunc_ownH rfl (by omega) (gf := 93) (lb := #[.pointer (some ⟨w.heap.size + 1 + 1 + 1, 0, none⟩)]) rfl trivial (enters_of Try.func93 (by kernel_rfl) rfl)
    (back_stops Fence.wide (8 - 1) trivial rfl (by omega) (w.heap.size + 1 + 1 + 1) (w.heap.size + 1) n n (by omega) W0 (by omega) (by omega) hH (fun j hj => ⟨_, fill_cell hF j hj⟩)) backK_t backK_b (Below.refl _ _) (fun _ => rfl)
    (fun pre W => FillAt w.heap.size n c pre W ∧ Below w.heap.size w W)
    (fun _ _ _ => False)
    (OwnFrom.and (_root_.Go.Own.from (fillAt_own w.heap.size n c) _) (ownFrom_below (Nat.le_refl _) (by omega)))
    (fun _ _ _ _ _ hs _ _ => hs)
    ⟨hF, hB⟩
    (fun x a' _ => a' = { tmps := #[.int .i64 (c : Int), .int .i64 (n : Int), .pointer (some ⟨w.heap.size, 0, none⟩), undef, .slice none 0 0, .pointer (some ⟨w.heap.size + 1 + 1, 0, none⟩), .int .i64 (x.1.1 : Int), .int .i64 (n : Int), .slice (some ⟨w.heap.size + 1, 0, none⟩) n n, .slice (some ⟨w.heap.size + 1, 0, none⟩) n n, .func (.func 93) #[] #[.pointer (some ⟨w.heap.size + 1 + 1 + 1, 0, none⟩)], .int .i64 (x.1.1 : Int), .int .i64 x.1.2, undef, undef, undef, undef, undef, undef, undef, undef], defers := [] })
    (fun x a' _ X Y row hs hg hr => hs)
    ?assign ?body ?done ?stop
  case assign =>
    rintro l pre x W K hi hK
    gi_wp2
    exact hK _ _ (KeepsFrom.refl _ _) (backK_refl _ _ _ _) hi rfl
  case body =>
    rintro l pre x a' W hl ⟨r, hr⟩ ⟨hfi, hBW⟩ rfl hlt
    obtain ⟨g0, g1, g2⟩ := hfi
    have hq := fillS_le n c pre
    have hxl := x.2
    have c0 : W.cell? ⟨w.heap.size, 0, none⟩ = some (.int .i64 ((fillS n c pre).2 : Int)) := (cell_of_row _ _ 0 _ _ _ g0).trans rfl
    have c2 : W.cell? ⟨w.heap.size + 1 + 1, 0, none⟩ = some (.slice (some ⟨w.heap.size + 1, 0, none⟩) n n) := (cell_of_row _ _ 0 _ _ _ g2).trans rfl
    have c1 := fill_cell ⟨g0, g1, g2⟩ x.1.1 hxl
    have f0 := frozen_of_row _ _ 0 _ _ g0
    have f1 := frozen_of_row _ _ x.1.1 _ _ g1
    have HN := Lib.hid (fill_next (x := x) ⟨g0, g1, g2⟩)
    have HK := Lib.hid (fun (a b : Int) => fill_keeps (Bs := w.heap.size + 1 + 1 + 1) (x := x) (a := a) (b := b) ⟨g0, g1, g2⟩ (by omega))
    have HB := Lib.hid (fun (a b : Value) => (hBW.setCell (p := ⟨w.heap.size + 1, x.1.1, none⟩) (by omega : w.heap.size ≤ w.heap.size + 1) a).setCell (p := ⟨w.heap.size, 0, none⟩) (Nat.le_refl _) b)
    generalize (fillS n c pre).2 = q at *
    generalize hxx : x.1.1 = m at *
    clear g0 g1 g2 hr hl hB hF hH hBW
    gi_wp2
    exact ⟨((KeepsOthers.setCell _ _ _).trans (KeepsOthers.setCell _ _ _)).from _, HK.out _ _, HN.out, HB.out _ _⟩
  case done =>
    rintro D ys W hD hS ⟨hfi, hBW⟩ hK
    have hfd := fillS_dn n c n ys (Nat.le_refl _) hS
    obtain ⟨g0, g1, g2⟩ := hfi
    have c2 : W.cell? ⟨w.heap.size + 1 + 1, 0, none⟩ = some (.slice (some ⟨w.heap.size + 1, 0, none⟩) n n) := (cell_of_row _ _ 0 _ _ _ g2).trans rfl
    have hpost := fill_done hfd g1 hBW hn
    have HP := Lib.hid hpost
    clear g0 g1 g2 hfd hS hB hF hH hpost
    gi_wp2
    refine ⟨by simp, .inl ⟨_, _, rfl, run_takeDeferred hK, ?_⟩⟩
    exact ⟨_, results_tmp rfl _ _ _, _, rfl, ownsRow_putObj HP.out _ hK rfl, hBW.trans (belowK_b (w := w) (Nat.le_refl _) W D _ _ (by omega) hK rfl rfl)⟩
  case stop =>
    rintro D c pre W _ _ h _
    exact h.elim

theorem decoded_any (c n : Nat) (hn : n ≤ 4) (hc : c ≤ 1099511627776) (w : World) :
    Calls Try.prog 68 #[.int .i64 (c : Int), .int .i64 (n : Int)] w (NewInts (decP n c) w) := (callsIn_wide (n := 8)).1 (decoded_in c n hn hc w)
end Go.Proofs.Ythjkogighppeaaa
end

