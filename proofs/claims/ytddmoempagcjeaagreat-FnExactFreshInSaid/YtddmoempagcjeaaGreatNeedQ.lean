/-
  slices.AppendSeq over an iterator of elements of contexts: the elements that come, in the order in which they come.
-/
import Derived.Test.YtddmoempagcjeaaGreatNeedS
import Derived.Test.YtddmoempagcjeaaGreatSortK
import Derived.RangeFuncNested
import Derived.RangeFuncBound
import Derived.RangeFuncCalls
import Derived.RangeFuncLeaves
import Derived.RangeFuncBox
import Derived.Maps.AppendAt
import Derived.Shelf.Abstract
import Derived.Shelf.RegionOpen
import Derived.LoopNIn
namespace Go.Proofs.YtddmoempagcjeaaGreat
open Go.RowKit Go.Shelf Go.Maps Go.Sort
attribute [local go_sem] Oper.semAt_some
set_option linter.unusedVariables false

/-- Block B holds an element. -/
def BoxF (W : World) (B : Nat) (x : FrK) : Prop := W.heap[B]? = some (.cells #[.int .i64 x.1.1, .int .i64 x.1.2] 55 (0, 0))
theorem BoxF.c0 {W : World} {B : Nat} {x : FrK} (h : BoxF W B x) : W.cell? ⟨B, 0, none⟩ = some (.int .i64 x.1.1) := by simp [World.cell?, show W.heap[B]? = _ from h]
theorem BoxF.c1 {W : World} {B : Nat} {x : FrK} (h : BoxF W B x) : W.cell? ⟨B, 1, none⟩ = some (.int .i64 x.1.2) := by simp [World.cell?, show W.heap[B]? = _ from h]
theorem BoxF.own (B : Nat) (x : FrK) : Own (fun (_ : Unit) W => BoxF W B x) := fun _ X Y row hs hg hrow => by
  refine (hg.block B (Array.getElem?_eq_some_iff.1 hs).1 (fun e => ?_)).trans hs
  obtain ⟨o, ho, hc⟩ := hrow B e.symm
  rw [show X.heap[B]? = _ from hs] at ho; cases ho; cases hc

def FormF (pre : List FrK) (v : Value) : Prop := ∃ g cap, v = .slice (some ⟨g, 0, none⟩) pre.length cap

theorem cellsOf_snoc (pre : List FrK) (x : FrK) : cellsOf ((pre ++ [x]).map (·.1)) = cellsOf (pre.map (·.1)) ++ [.int .i64 x.1.1, .int .i64 x.1.2] := by
  rw [List.map_append, cellsOf_append]; rfl

set_option maxRecDepth 100000 in
set_option maxHeartbeats 4000000 in
/-- **slices.AppendSeq(l, seq)**: what comes, behind what l held (nothing). -/
theorem appendF_in (F : Fence) (n : Nat) (h3 : F.fn 80) (hro : F.round = none) (hn : 3 ≤ n) (base g : Nat) (lb : Array Value) (gf : Nat) (hFg : F.fn gf) (eg : ∀ args w, (callFunc gf args).run Tryz.prog w = .ok (.enter gf args) w)
    (S : List FrK → Prop) (N : Nat) (hN : N ≤ 1048576) (w : World) (hbase : base ≤ w.heap.size)
    (hseq : SeqStops F (n - 1) Tryz.prog gf lb (fun x : FrK => frV x.1) S (fun _ => True) N w)
    (ho : w.ownsRow base 55 2 (.slice (some ⟨g, 0, none⟩) 0 0) 0 []) :
    CallsIn F n Tryz.prog 80 #[.slice (some ⟨g, 0, none⟩) 0 0, .func (.func gf) #[] lb] w
      fun e W' => ∃ gg cap ss, e = .returned (.slice (some ⟨gg, 0, none⟩) ss.length cap) ∧ S ss ∧ W'.ownsRow base 55 2 (.slice (some ⟨gg, 0, none⟩) ss.length cap) ss.length (cellsOf (ss.map (·.1))) ∧ Below base w W' := by
  have h1 : 1 ≤ n := by omega
  obtain ⟨i0, hi, hz0, hz1, hz2⟩ := info_parts fresh_info
  refine callsIn_of_wp_marks Tryz.func80 rfl h3 ?_ hro
  simp only [Tryz.ntmps80, List.size_toArray, List.length_cons, List.length_nil, Nat.reduceAdd, Nat.reduceSub, Array.replicate_succ, Array.replicate_zero, List.push_toArray, List.append_toArray, List.nil_append, List.cons_append]
  gi_wp2
  have bS := Boxed.new w 30 (.slice (some ⟨g, 0, none⟩) 0 0)
  have hB0 : Below base w (w.alloc (.cells #[.slice (some ⟨g, 0, none⟩) 0 0] 30)) := (Below.refl _ w).alloc hbase _
  have hBw : Below w.heap.size w (w.alloc (.cells #[.slice (some ⟨g, 0, none⟩) 0 0] 30)) := (Below.refl _ w).alloc (Nat.le_refl _) _
  have ho0 := ho.alloc (.cells #[.slice (some ⟨g, 0, none⟩) 0 0] 30)
  have hsz : (w.alloc (.cells #[.slice (some ⟨g, 0, none⟩) 0 0] 30)).heap.size = w.heap.size + 1 := by simp
  generalize w.alloc (.cells #[.slice (some ⟨g, 0, none⟩) 0 0] 30) = W0 at bS hB0 hBw ho0 hsz ⊢
  refine wpIn_rangeFunc_ownH hro h1 (gf := gf) (lb := lb) rfl hFg eg (hseq.later hBw) walksK_t walksK_b (Below.refl _ _) (fun _ => rfl)
    (fun pre W => (∃ v, Boxed W w.heap.size 30 v ∧ W.ownsRow base 55 2 v pre.length (cellsOf (pre.map (·.1))) ∧ FormF pre v) ∧ Below base w W)
    (fun _ _ _ => False)
    (OwnFrom.and (Own.from (holdsRow_own base w.heap.size 30 55 2 (fun pre : List FrK => pre.length) (fun pre => cellsOf (pre.map (·.1))) FormF) _) (ownFrom_below hbase (by omega)))
    (fun _ _ _ _ _ hs _ _ => hs)
    ⟨⟨_, bS, ho0, ⟨g, 0, rfl⟩⟩, hB0⟩
    (fun x a' W => ∃ Bx, w.heap.size < Bx ∧ BoxF W Bx x ∧ a' = { tmps := #[.slice (some ⟨g, 0, none⟩) 0 0, .func (.func gf) #[] lb, .pointer (some ⟨w.heap.size, 0, none⟩), undef, .slice none 0 0, .pointer (some ⟨Bx, 0, none⟩), .func (.func gf) #[] lb, frV x.1, undef, undef, undef, undef, undef], defers := [] })
    (fun x a' _ X Y row hs hg hr => by obtain ⟨Bx, h1, h2, h3⟩ := hs; exact ⟨Bx, h1, BoxF.own Bx x () X Y row h2 hg (fun r e => (hr r e).2), h3⟩)
    ?assign ?body ?done ?stop
  case assign =>
    rintro l pre x W K ⟨⟨v, hv, hrow, hf⟩, hB⟩ hK
    unfold frV at hK ⊢
    gi_wp2
    exact hK _ _ ((KeepsOthers.alloc _ _).from _) ((KeepsOthers.alloc _ _).walks) ⟨⟨v, hv.alloc _, hrow.alloc _, hf⟩, hB.alloc (Nat.le_trans hbase hB.size) _⟩ ⟨W.heap.size, hv.lt, World.alloc_heap_new W _, rfl⟩
  case body =>
    rintro l pre x a' W hl ⟨r, hr⟩ ⟨⟨v, hv, hrow, _⟩, hB⟩ ⟨Bx, hBx, bX, rfl⟩ hlt
    have hc := hv.cell
    have x0 := bX.c0
    have x1 := bX.c1
    have hbW : base ≤ W.heap.size := Nat.le_trans hbase hB.size
    have hd0 : (W.alloc (.cells #[.int .i64 x.1.1, .int .i64 x.1.2] 55)).cell? ⟨W.heap.size, 0, none⟩ = some (.int .i64 x.1.1) := by simp
    have hd1 : (W.alloc (.cells #[.int .i64 x.1.1, .int .i64 x.1.2] 55)).cell? ⟨W.heap.size, 1, none⟩ = some (.int .i64 x.1.2) := by simp
    have HC := Lib.hid (pair_cells hd0 hd1)
    have hsn := Lib.hid (cellsOf_snoc pre x)
    have hln : Hid ((pre ++ [x]).length = pre.length + 1) := by show (pre ++ [x]).length = pre.length + 1; simp
    clear hd0 hd1 hr bX hl bS hB0 hBw ho0 ho
    unfold frV
    gi_wp2_with (gi_at_builtin; refine wpListIn_append_own _ rfl _ _ 30 rfl base 55 i0 _ 2 16 Tryz.underlying30 hi hz0 hz1 hz2 rfl (by decide) _ _ _ rfl (hrow.alloc _) ⟨W.heap.size, 0, none⟩ 1 1 [.int .i64 x.1.1, .int .i64 x.1.2] rfl rfl HC.out (pair_one _ _) (by unfold maxLen; omega) (by omega) (by simp; omega) ?_; intro v' w1 hown' hgrow _; obtain ⟨g', cap', rfl⟩ := ownsRow_succ hown'; obtain ⟨hv1, hv2, hr2, hk2, hb2⟩ := hv.appended (by decide) hrow hbW hbase hown' hgrow; have hc1 := hv1.cell; have hf1 := hv1.frozen)
    exact ⟨hk2.from _, hk2.walks, ⟨_, hv2, by rw [hsn.out, hln.out]; exact hr2, ⟨_, _, by rw [hln.out]⟩⟩, hB.trans hb2⟩
  case done =>
    rintro D ys W hD hS ⟨⟨v, hv, hrow, ⟨gg, cap, rfl⟩⟩, hB⟩ hK
    have hc := hv.cell
    gi_wp2
    refine ⟨by simp, .inl ⟨_, _, rfl, run_takeDeferred hK, ?_⟩⟩
    exact ⟨_, results_tmp rfl _ _ _, gg, cap, ys, rfl, hS, ownsRow_putObj hrow _ hK rfl, hB.trans (belowK_b (w := w) hbase W D _ _ (by omega) hK rfl rfl)⟩
  case stop =>
    rintro D c pre W _ _ h _
    exact h.elim

end Go.Proofs.YtddmoempagcjeaaGreat
