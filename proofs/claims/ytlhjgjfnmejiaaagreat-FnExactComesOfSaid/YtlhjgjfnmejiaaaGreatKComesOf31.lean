/-
  slices.AppendSeq over an iterator of elements of contexts: the elements that come, in the order in which they come. A set of elements told in order: needs.context as a contract.
-/
import Derived.Test.YtlhjgjfnmejiaaaGreatKComesOf30
import Derived.Test.YtlhjgjfnmejiaaaGreatKComesOf14
import Derived.RangeFuncNested
import Derived.RangeFuncBound
import Derived.RangeFuncCalls
import Derived.RangeFuncLeaves
import Derived.RangeFuncBox
import Derived.Maps.AppendAt
import Derived.Shelf.Abstract
import Derived.Shelf.RegionOpen
import Derived.LoopNIn
import Derived.Test.YtlhjgjfnmejiaaaGreatKComesOf3
section
namespace Go.Proofs.YtlhjgjfnmejiaaaGreat
open Go.RowKit Go.Shelf Go.Maps Go.Sort
attribute [local go_sem] Oper.semAt_some
set_option linter.unusedVariables false

/-- Block B holds an element. -/
def BoxF (W : World) (B : Nat) (x : FrK) : Prop := W.heap[B]? = some (.cells #[.int .i64 x.1.1, .int .i64 x.1.2] 119 (0, 0))
theorem BoxF.c0 {W : World} {B : Nat} {x : FrK} (h : BoxF W B x) : W.cell? ⟨B, 0, none⟩ = some (.int .i64 x.1.1) := by simp [World.cell?, show W.heap[B]? = _ from h]
theorem BoxF.c1 {W : World} {B : Nat} {x : FrK} (h : BoxF W B x) : W.cell? ⟨B, 1, none⟩ = some (.int .i64 x.1.2) := by simp [World.cell?, show W.heap[B]? = _ from h]
theorem BoxF.own (B : Nat) (x : FrK) : _root_.Go.Own (fun (_ : Unit) W => BoxF W B x) := fun _ X Y row hs hg hrow => by
  refine (hg.block B (Array.getElem?_eq_some_iff.1 hs).1 (fun e => ?_)).trans hs
  obtain ⟨o, ho, hc⟩ := hrow B e.symm
  rw [show X.heap[B]? = _ from hs] at ho; cases ho; cases hc

def FormF (pre : List FrK) (v : Value) : Prop := ∃ g cap, v = .slice (some ⟨g, 0, none⟩) pre.length cap

theorem cellsOf_snoc (pre : List FrK) (x : FrK) : cellsOf ((pre ++ [x]).map (·.1)) = cellsOf (pre.map (·.1)) ++ [.int .i64 x.1.1, .int .i64 x.1.2] := by
  rw [List.map_append, cellsOf_append]; rfl

set_option maxRecDepth 100000 in
set_option maxHeartbeats 4000000 in
/-- **slices.AppendSeq(l, seq)**: what comes, behind what l held (nothing). -/
theorem appendF_in (F : Fence) (n : Nat) (h3 : F.fn 139) (hro : F.round = none) (hn : 3 ≤ n) (base g : Nat) (lb : Array Value) (gf : Nat) (hFg : F.fn gf) (eg : ∀ args w, (callFunc gf args).run Tryz.prog w = .ok (.enter gf args) w)
    (S : List FrK → Prop) (N : Nat) (hN : N ≤ 1048576) (w : World) (hbase : base ≤ w.heap.size)
    (hseq : SeqStops F (n - 1) Tryz.prog gf lb (fun x : FrK => frV x.1) S (fun _ => True) N w)
    (ho : w.ownsRow base 119 2 (.slice (some ⟨g, 0, none⟩) 0 0) 0 []) :
    CallsIn F n Tryz.prog 139 #[.slice (some ⟨g, 0, none⟩) 0 0, .func (.func gf) #[] lb] w
      fun e W' => ∃ gg cap ss, e = .returned (.slice (some ⟨gg, 0, none⟩) ss.length cap) ∧ S ss ∧ W'.ownsRow base 119 2 (.slice (some ⟨gg, 0, none⟩) ss.length cap) ss.length (cellsOf (ss.map (·.1))) ∧ Below base w W' := by
  have h1 : 1 ≤ n := by omega
  obtain ⟨i0, hi, hz0, hz1, hz2⟩ := info_parts fresh_info
  refine callsIn_of_wp_marks Tryz.func139 rfl h3 ?_ hro
  simp only [Tryz.ntmps139, List.size_toArray, List.length_cons, List.length_nil, Nat.reduceAdd, Nat.reduceSub, Array.replicate_succ, Array.replicate_zero, List.push_toArray, List.append_toArray, List.nil_append, List.cons_append]
  gi_wp2
  have bS := Boxed.new w 30 (.slice (some ⟨g, 0, none⟩) 0 0)
  have hB0 : Below base w (w.alloc (.cells #[.slice (some ⟨g, 0, none⟩) 0 0] 30)) := (Below.refl _ w).alloc hbase _
  have hBw : Below w.heap.size w (w.alloc (.cells #[.slice (some ⟨g, 0, none⟩) 0 0] 30)) := (Below.refl _ w).alloc (Nat.le_refl _) _
  have ho0 := ho.alloc (.cells #[.slice (some ⟨g, 0, none⟩) 0 0] 30)
  have hsz : (w.alloc (.cells #[.slice (some ⟨g, 0, none⟩) 0 0] 30)).heap.size = w.heap.size + 1 := by simp
  generalize w.alloc (.cells #[.slice (some ⟨g, 0, none⟩) 0 0] 30) = W0 at bS hB0 hBw ho0 hsz ⊢
  refine wpIn_rangeFunc_ownH hro h1 (gf := gf) (lb := lb) rfl hFg eg (hseq.later hBw) walksK_t walksK_b (Below.refl _ _) (fun _ => rfl)
    (fun pre W => (∃ v, Boxed W w.heap.size 30 v ∧ W.ownsRow base 119 2 v pre.length (cellsOf (pre.map (·.1))) ∧ FormF pre v) ∧ Below base w W)
    (fun _ _ _ => False)
    (OwnFrom.and (_root_.Go.Own.from (holdsRow_own base w.heap.size 30 119 2 (fun pre : List FrK => pre.length) (fun pre => cellsOf (pre.map (·.1))) FormF) _) (ownFrom_below hbase (by omega)))
    (fun _ _ _ _ _ hs _ _ => hs)
    ⟨⟨_, bS, ho0, ⟨g, 0, rfl⟩⟩, hB0⟩
    (fun x a' W => ∃ Bx, w.heap.size < Bx ∧ BoxF W Bx x ∧ a' = { tmps := #[.slice (some ⟨g, 0, none⟩) 0 0, .func (.func gf) #[] lb, .pointer (some ⟨w.heap.size, 0, none⟩), undef, .slice none 0 0, .pointer (some ⟨Bx, 0, none⟩), .func (.func gf) #[] lb, frV x.1, undef, undef, undef, undef, undef], defers := [] })
    (fun x a' _ X Y row hs hg hr => by obtain ⟨Bx, h1, h2, h3⟩ := hs; exact ⟨Bx, h1, BoxF.own Bx x () X Y row h2 hg (fun r e => (hr r e).2), h3⟩)
    ?assign ?body ?done ?stop
  case assign =>
    rintro l pre x W K ⟨⟨v, hv, hrow, hf⟩, hB⟩ hK
    unfold frV at hK ⊢
    gi_wp2
    exact hK _ _ ((KeepsOthers.alloc _ _).from _) ((KeepsOthers.alloc _ _).walks) ⟨⟨v, hv.alloc _, hrow.alloc _, hf⟩, hB.alloc (Nat.le_trans hbase hB.size) _⟩ ⟨W.heap.size, hv.lt, World.alloc_heap_new W _, rfl⟩
  case body =>
    rintro l pre x a' W hl ⟨r, hr⟩ ⟨⟨v, hv, hrow, _⟩, hB⟩ ⟨Bx, hBx, bX, rfl⟩ hlt
    have hc := hv.cell
    have x0 := bX.c0
    have x1 := bX.c1
    have hbW : base ≤ W.heap.size := Nat.le_trans hbase hB.size
    have hd0 : (W.alloc (.cells #[.int .i64 x.1.1, .int .i64 x.1.2] 119)).cell? ⟨W.heap.size, 0, none⟩ = some (.int .i64 x.1.1) := by simp
    have hd1 : (W.alloc (.cells #[.int .i64 x.1.1, .int .i64 x.1.2] 119)).cell? ⟨W.heap.size, 1, none⟩ = some (.int .i64 x.1.2) := by simp
    have HC := Lib.hid (pair_cells hd0 hd1)
    have hsn := Lib.hid (cellsOf_snoc pre x)
    have hln : Hid ((pre ++ [x]).length = pre.length + 1) := by show (pre ++ [x]).length = pre.length + 1; simp
    clear hd0 hd1 hr bX hl bS hB0 hBw ho0 ho
    unfold frV
    gi_wp2_with (gi_at_builtin; refine wpListIn_append_own _ rfl _ _ 30 rfl base 119 i0 _ 2 16 Tryz.underlying30 hi hz0 hz1 hz2 rfl (by decide) _ _ _ rfl (hrow.alloc _) ⟨W.heap.size, 0, none⟩ 1 1 [.int .i64 x.1.1, .int .i64 x.1.2] rfl rfl HC.out (pair_one _ _) (by unfold maxLen; omega) (by omega) (by simp; omega) ?_; intro v' w1 hown' hgrow _; obtain ⟨g', cap', rfl⟩ := ownsRow_succ hown'; obtain ⟨hv1, hv2, hr2, hk2, hb2⟩ := hv.appended (by decide) hrow hbW hbase hown' hgrow; have hc1 := hv1.cell; have hf1 := hv1.frozen)
    exact ⟨hk2.from _, hk2.walks, ⟨_, hv2, by rw [hsn.out, hln.out]; exact hr2, ⟨_, _, by rw [hln.out]⟩⟩, hB.trans hb2⟩
  case done =>
    rintro D ys W hD hS ⟨⟨v, hv, hrow, ⟨gg, cap, rfl⟩⟩, hB⟩ hK
    have hc := hv.cell
    gi_wp2
    refine ⟨by simp, .inl ⟨_, _, rfl, run_takeDeferred hK, ?_⟩⟩
    exact ⟨_, results_tmp rfl _ _ _, gg, cap, ys, rfl, hS, ownsRow_putObj hrow _ hK rfl, hB.trans (belowK_b (w := w) hbase W D _ _ (by omega) hK rfl rfl)⟩
  case stop =>
    rintro D c pre W _ _ h _
    exact h.elim

end Go.Proofs.YtlhjgjfnmejiaaaGreat
end

section
namespace Go.Proofs.YtlhjgjfnmejiaaaGreat
open Go.RowKit Go.Sort Go.Lib Go.Shelf Go.Maps
set_option linter.unusedVariables false

theorem ltF_less (x y : Int × Int) : ltOf cmpF x y = lessB x y := by
  rw [Bool.eq_iff_iff, cmpF_less]
  simp [ltOf]

theorem swoF : SWO (ltOf cmpF) where
  irrefl x := by rw [ltF_less]; exact lessB_irrefl x
  trans x y z h1 h2 := by rw [ltF_less] at *; exact lessB_trans h1 h2
  ntrans x y z h1 h2 := by rw [ltF_less] at *; simp [lessB] at *; omega

theorem totF (x y : Int × Int) (h1 : ltOf cmpF x y = false) (h2 : ltOf cmpF y x = false) : x = y := by
  rw [ltF_less] at *
  refine Decidable.byContradiction fun hne => ?_
  rw [lessB_other h1 hne] at h2
  cases h2

/-- Elements that come once each, sorted, are told by what they are. -/
theorem sorted_set {ss S : List (Int × Int)} (hn : ss.Nodup) (hm : ∀ x, x ∈ ss ↔ x ∈ S) : ss.mergeSort (fun x y => !(ltOf cmpF) y x) = sortF S := by
  generalize hZ : ss.mergeSort (fun x y => !(ltOf cmpF) y x) = Z
  have hp : Z.Perm ss := by rw [← hZ]; exact List.mergeSort_perm _ _
  have hsort : Z.Pairwise fun x y => (!(ltOf cmpF) y x) = true := by
    rw [← hZ]
    refine List.pairwise_mergeSort (fun a b c h1 h2 => ?_) (fun a b => ?_) _
    · rw [ltF_less] at *; simp [lessB] at *; omega
    · rw [ltF_less, ltF_less]; simp [lessB]; omega
  have hnd : Z.Nodup := hp.nodup_iff.2 hn
  refine ascF_same ?_ (sortF_asc S) fun z => ?_
  · unfold AscF
    refine (hsort.and hnd).imp ?_
    rintro a b ⟨h1, h2⟩
    rw [ltF_less] at h1
    exact lessB_other (by simpa using h1) (fun e => h2 e.symm)
  · rw [hp.mem_iff, hm, mem_sortF]

theorem cmpLaysF (blk off size : Nat) (w : World) : CmpLays Tryz.prog 135 #[] encP 2 cmpF blk off size w :=
  fun _ _ _ _ x y => compareFresh_any x y _

/-- A slice of elements of the call's own is sorted in place. -/
theorem sortFreshs_any (base g cap : Nat) (Z : List (Int × Int)) (w : World) (ho : w.ownsRow base 119 2 (.slice (some ⟨g, 0, none⟩) Z.length cap) Z.length (cellsOf Z)) (hz : Z.length ≤ 2097152) :
    Calls Tryz.prog 141 #[.slice (some ⟨g, 0, none⟩) Z.length cap, .func (.func 135) #[] #[]] w fun e w' => e = .returned (.tuple #[]) ∧
      w'.ownsRow base 119 2 (.slice (some ⟨g, 0, none⟩) Z.length cap) Z.length (cellsOf (Z.mergeSort fun x y => !(ltOf cmpF) y x)) ∧ w.grownBy w' (some g) := by
  have eg : ∀ args w, (callFunc 135 args).run Tryz.prog w = .ok (.enter 135 args) w := enters_of Tryz.func135 (by kernel_rfl) rfl
  have hcon := AnyQ.slices_SortFunc_total Tryz.sortFreshs 2 Tryz.isAgg119 Tryz.sizeOf119 encP (fun _ => rfl) (fun x v hv => by simp [encP] at hv; rcases hv with rfl | rfl <;> rfl) cmpF swoF 135 #[] g 0 cap Z.toArray w eg (cmpLaysF g 0 _ w) (holdsK_of_own ho) (ho.lt g rfl).2 (by simp; omega) totF
  refine Calls.mono hcon ?_
  rintro e w' ⟨rfl, n, os, rfl⟩
  refine ⟨rfl, ?_, ?_⟩
  · refine own_below (w := putRowK encP 2 (Sort.ahead w n) g 0 _) ?_ (below_grow _ os)
    unfold putRowK
    rw [flatP]
    refine own_putRow_id ho ?_
    rw [cellsOf_len, List.length_mergeSort]
  · refine grownBy_trans ?_ (grown_of_below (below_grow _ os) (some g))
    unfold putRowK
    exact grown_putRow_id

/-- maps.Keys of a set: a function value over one new block. -/
theorem keysF_any (b : Nat) (w : World) : Calls Tryz.prog 140 #[.map (some b)] w
    fun e w' => e = .returned (.func (.func 168) #[] #[.pointer (some ⟨w.heap.size, 0, none⟩)]) ∧ w' = w.alloc (.cells #[.map (some b)] 131) := by
  go_enter Tryz.func140, Tryz.ntmps140
  go_wp2
  go_ret
  exact ⟨rfl, rfl⟩

/-- **slices.AppendSeq(l, maps.Keys(n))**, l being new and empty: the elements of the set, each once. -/
theorem appendKeys_any (base g b nn B : Nat) (S : List (Int × Int)) (w : World) (hB : w.cell? ⟨B, 0, none⟩ = some (.map (some b))) (hs : SetAt w b nn S) (hS : ∀ x ∈ S, okF x) (hN : (sortF S).length ≤ 1048576) (hbase : base ≤ w.heap.size)
    (ho : w.ownsRow base 119 2 (.slice (some ⟨g, 0, none⟩) 0 0) 0 []) :
    Calls Tryz.prog 139 #[.slice (some ⟨g, 0, none⟩) 0 0, .func (.func 168) #[] #[.pointer (some ⟨B, 0, none⟩)]] w
      fun e W' => ∃ gg cap ss, e = .returned (.slice (some ⟨gg, 0, none⟩) ss.length cap) ∧ ss.Nodup ∧ (∀ x, x ∈ ss ↔ x ∈ S) ∧ W'.ownsRow base 119 2 (.slice (some ⟨gg, 0, none⟩) ss.length cap) ss.length (cellsOf ss) ∧ Below base w W' := by
  obtain ⟨D, hown, _, hhas, hsize⟩ := hs
  have hBl : B < w.heap.size := block_lt_of_cell hB
  refine (callsIn_wide (n := 8)).1 ?_
  refine (appendF_in Fence.wide 8 trivial rfl (by omega) base g #[.pointer (some ⟨B, 0, none⟩)] _ trivial (enters_of Tryz.func168 (by kernel_rfl) rfl) _ (Maps.size D) (by omega) w hbase
    (keysF_stops Fence.wide 7 trivial rfl (by omega) B b nn D w hBl hB hown) ho).mono ?_
  rintro e W' ⟨gg, cap, ss, rfl, ⟨left, hC, hl⟩, ho', hb'⟩
  refine ⟨gg, cap, ss.map (·.1), by rw [List.length_map], hC.1, fun x => ?_, by rw [List.length_map]; exact ho', hb'⟩
  constructor
  · intro hx
    have hok := hC.2.1 x hx
    have h1 := ((hC.2.2 x hok).1 hx).1
    rw [hhas x hok] at h1
    exact hasF_iff.1 h1
  · intro hx
    have hok := hS x hx
    exact (hC.2.2 x hok).2 ⟨by rw [hhas x hok]; exact hasF_iff.2 hx, hl _⟩

def fewB (S : List (Int × Int)) : Bool := decide ((sortF S).length ≤ 40)
def ctxOf (S : List (Int × Int)) : List (Int × Int) := if fewB S then sortF S else []
/-- A new slice of elements, and a bool. -/
def NewFreshsB (l : List (Int × Int)) (b : Bool) (w : World) (e : Ending) (w' : World) : Prop :=
  ∃ v, e = .returned (.tuple #[v, .bool b]) ∧ w'.ownsRow w.heap.size 119 2 v l.length (cellsOf l) ∧ Below w.heap.size w w'

theorem newFreshsB_later {l : List (Int × Int)} {b : Bool} {w w1 w2 : World} {v : Value} (ho : w2.ownsRow w1.heap.size 119 2 v l.length (cellsOf l)) (hb2 : Below w1.heap.size w1 w2) (hb : Below w.heap.size w w1) : NewFreshsB l b w (.returned (.tuple #[v, .bool b])) w2 :=
  ⟨v, rfl, own_le ho hb.size, hb.trans (hb2.mono hb.size)⟩
theorem newFreshsB_empty {b : Bool} {w w1 : World} (hb : Below w.heap.size w w1) : NewFreshsB [] b w (.returned (.tuple #[.slice (some ⟨w1.heap.size, 0, none⟩) 0 0, .bool b])) (w1.alloc (.cells #[] 119)) :=
  ⟨_, rfl, own_le (World.ownsRow_lit w1 #[] 0 (Nat.le_refl _) (by decide) rfl) hb.size, hb.alloc hb.size _⟩

set_option maxRecDepth 100000 in
set_option maxHeartbeats 2000000 in
/-- **needs.context**: the elements in order, unless they are too many. -/
theorem context_any (b nn : Nat) (S : List (Int × Int)) (w : World) (hs : SetAt w b nn S) (hS : ∀ x ∈ S, okF x) (hlen : S.length ≤ 1048576) :
    Calls Tryz.prog 95 #[.map (some b)] w (NewFreshsB (ctxOf S) (fewB S) w) := by
  have hle := sortF_len_le S
  have hb0 : Below w.heap.size w (w.alloc (.cells #[] 119)) := (Below.refl _ w).alloc (Nat.le_refl _) _
  have ho0 : (w.alloc (.cells #[] 119)).ownsRow w.heap.size 119 2 (.slice (some ⟨w.heap.size, 0, none⟩) 0 0) 0 [] := World.ownsRow_lit w #[] 0 (Nat.le_refl _) (by decide) rfl
  by_cases h40 : (sortF S).length ≤ 40
  · have HF : Hid (fewB S = true) := by show fewB S = true; simp [fewB, h40]
    have HC : Hid (ctxOf S = sortF S) := by show ctxOf S = sortF S; simp [ctxOf, HF.out]
    rw [HF.out, HC.out]
    have hb1' : Below w.heap.size (w.alloc (.cells #[] 119)) ((w.alloc (.cells #[] 119)).alloc (.cells #[.map (some b)] 131)) := (Below.refl _ _).alloc (by simp) _
    have hk := appendKeys_any w.heap.size w.heap.size b nn (w.heap.size + 1) S ((w.alloc (.cells #[] 119)).alloc (.cells #[.map (some b)] 131)) (by simp) ((hs.alloc _).alloc _) hS (by omega) (by simp; omega) (ho0.alloc _)
    have hsa := hs.alloc (.cells #[] 119)
    have hso : Hid (∀ ss : List (Int × Int), ss.Nodup → (∀ x, x ∈ ss ↔ x ∈ S) → ss.mergeSort (fun x y => !(ltOf cmpF) y x) = sortF S) := fun ss h1 h2 => sorted_set h1 h2
    generalize hR : (sortF S).length = r at h40 hle
    have HR := Lib.hid hR
    clear hR hs HF HC
    go_enter Tryz.func95, Tryz.ntmps95
    go_wp2_with (first
      | (at_len; refine wpList_len_set _ rfl _ 131 rfl Tryz.underlying131 b nn S rfl hsa r HR.out ?_)
      | (go_at_call 140; refine (keysF_any b _).mono ?_; rintro e w' ⟨rfl, rfl⟩)
      | (go_at_call 139; refine hk.mono ?_))
    rintro e w3 ⟨gg, cap, ss, rfl, hn, hm, ho3, hb3⟩
    have hso' := Lib.hid (hso.out ss hn hm)
    have hlen3 : ss.length ≤ 2097152 := by
      have h1 : (ss.mergeSort (fun x y => !(ltOf cmpF) y x)).length = ss.length := List.length_mergeSort ss
      rw [hso'.out, HR.out] at h1
      omega
    have hsrt := sortFreshs_any w.heap.size gg cap ss w3 ho3 hlen3
    rw [hso'.out] at hsrt
    have hgb := (ho3.lt gg rfl).1
    have hl : Hid ((sortF S).length = ss.length) := by
      show (sortF S).length = ss.length
      rw [← hso'.out, List.length_mergeSort]
    clear hso hso' hn hm ho3 hk hsa ho0 HR
    go_wp2_with fail
    refine hsrt.mono ?_
    rintro e w5 ⟨rfl, ho5, hg5⟩
    have hb5 := hb3.grown hg5 (Nat.le_trans hb0.size (Nat.le_trans (by simp) hb3.size)) (fun k hk => by injection hk with hk; omega)
    have hb6 := hb0.trans (hb1'.trans hb5)
    have hpost : NewFreshsB (sortF S) true w (.returned (.tuple #[.slice (some ⟨gg, 0, none⟩) ss.length cap, .bool true])) w5 := ⟨_, rfl, by rw [hl.out]; exact ho5, hb6⟩
    clear hsrt ho5 hg5 hl hb5 hb6
    go_wp2
    go_ret2
    exact hpost
  · have HF : Hid (fewB S = false) := by show fewB S = false; simp [fewB]; omega
    have HC : Hid (ctxOf S = []) := by show ctxOf S = []; simp [ctxOf, HF.out]
    rw [HF.out, HC.out]
    have hsa := hs.alloc (.cells #[] 119)
    generalize hR : (sortF S).length = r at h40 hle
    have HR := Lib.hid hR
    have h40' : 40 < (r : Int) := by omega
    have hpost : NewFreshsB [] false w (.returned (.tuple #[.slice (some ⟨w.heap.size, 0, none⟩) 0 0, .bool false])) (w.alloc (.cells #[] 119)) := newFreshsB_empty (Below.refl _ _)
    clear hR hs HF HC h40 ho0 hb0
    go_enter Tryz.func95, Tryz.ntmps95
    go_wp2_with (at_len; refine wpList_len_set _ rfl _ 131 rfl Tryz.underlying131 b nn S rfl hsa r HR.out ?_)
    go_ret2
    exact hpost

end Go.Proofs.YtlhjgjfnmejiaaaGreat
end

