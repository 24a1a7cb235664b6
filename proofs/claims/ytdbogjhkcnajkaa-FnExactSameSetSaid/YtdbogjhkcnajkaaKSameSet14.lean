/-
  Tables of codes in the program: codesOf and what a table's value is, as contracts. Two tables compared.
-/
import Derived.Test.YtdbogjhkcnajkaaKSameSet7
import Derived.Test.YtdbogjhkcnajkaaKSameSet13
import Derived.Laws.Rows
import Derived.Laws.Tables
import Derived.Laws.StructEq
section
namespace Go.Proofs.Ytdbogjhkcnajkaa
open Go.RowKit Go.Sort
set_option linter.unusedVariables false

/-- The cells of a table. -/
def tabV (f : Nat → Bool) : Array Value := ((List.range 4096).map fun i => .bool (f i)).toArray
theorem tabV_size (f : Nat → Bool) : (tabV f).size = 4096 := by simp [tabV]
theorem tabV_at (f : Nat → Bool) {i : Nat} (h : i < 4096) : (tabV f)[i]? = some (.bool (f i)) := by simp [tabV, h]
theorem tabV_one (f : Nat → Bool) : (tabV f).all (·.oneCell') = true := by
  rw [Array.all_eq_true_iff_forall_mem]
  intro v hv
  simp [tabV] at hv
  obtain ⟨i, _, rfl⟩ := hv
  rfl
theorem tabV_set (f : Nat → Bool) {m : Nat} (h : m < 4096) (b : Bool) : (tabV f).setIfInBounds m (.bool b) = tabV (fun i => if i = m then b else f i) := by
  apply Array.ext_getElem?
  intro i
  by_cases hi : i < 4096
  · rw [tabV_at _ hi, Array.getElem?_setIfInBounds]
    by_cases e : m = i
    · subst e
      simp [tabV_size, h]
    · rw [if_neg e, tabV_at _ hi, if_neg (fun h => e h.symm)]
  · rw [Array.getElem?_eq_none (by rw [Array.size_setIfInBounds, tabV_size]; omega), Array.getElem?_eq_none (by rw [tabV_size]; omega)]
theorem tabV_ext {f g : Nat → Bool} (h : ∀ i, i < 4096 → f i = g i) : tabV f = tabV g := by
  apply Array.ext_getElem?
  intro i
  by_cases hi : i < 4096
  · rw [tabV_at _ hi, tabV_at _ hi, h i hi]
  · rw [Array.getElem?_eq_none (by rw [tabV_size]; omega), Array.getElem?_eq_none (by rw [tabV_size]; omega)]
theorem tab_info : (Try.prog.info? 72).map (·.size) = some 4096 := by kernel_rfl
theorem map_range_const (n : Nat) (v : Value) : (List.range n).map (fun _ => v) = List.replicate n v := by
  apply List.ext_getElem?
  intro i
  by_cases hi : i < n
  · simp [hi]
  · rw [List.getElem?_eq_none (by simp; omega), List.getElem?_eq_none (by simp; omega)]
theorem tab_zero : Try.zeroCells72 = tabV (fun _ => false) := by
  have h : Try.zeroCells72 = (List.replicate 4096 (Value.bool false)).toArray := by kernel_rfl
  rw [h]
  unfold tabV
  rw [map_range_const]

/-- A block that is a table. -/
def TabAt (w : World) (G : Nat) (f : Nat → Bool) : Prop := w.heap[G]? = some (.cells (tabV f) 72 (0, 0))
theorem TabAt.lt {w : World} {G : Nat} {f : Nat → Bool} (h : TabAt w G f) : G < w.heap.size := (Array.getElem?_eq_some_iff.1 h).1
theorem TabAt.cell {w : World} {G : Nat} {f : Nat → Bool} (h : TabAt w G f) {i : Nat} (hi : i < 4096) : w.cell? ⟨G, i, none⟩ = some (.bool (f i)) := by rw [cell_of_row w G i _ _ _ h, tabV_at f hi]
theorem TabAt.frozen {w : World} {G : Nat} {f : Nat → Bool} (h : TabAt w G f) (i : Nat) : w.frozen? ⟨G, i, none⟩ = false := frozen_of_row w G i _ _ h
theorem TabAt.set_ {w : World} {G : Nat} {f : Nat → Bool} (h : TabAt w G f) {m : Nat} (hm : m < 4096) (b : Bool) : TabAt (w.setCell ⟨G, m, none⟩ (.bool b)) G (fun i => if i = m then b else f i) := by
  unfold TabAt at h ⊢
  have e := heap_setCell_same w G m _ _ (.bool b) h
  rw [tabV_set f hm] at e
  exact e
theorem TabAt.below {w w' : World} {G : Nat} {f : Nat → Bool} (h : TabAt w G f) (hb : Below w.heap.size w w') : TabAt w' G f := (hb.block G h.lt).trans h
theorem TabAt.ext {w : World} {G : Nat} {f g : Nat → Bool} (h : TabAt w G f) (e : ∀ i, i < 4096 → f i = g i) : TabAt w G g := by unfold TabAt at *; rw [h, tabV_ext e]
theorem TabAt.only {w w' : World} {G : Nat} {f : Nat → Bool} {S : List Nat} (h : TabAt w G f) (hon : Only S w w') (hn : G ∉ S) : TabAt w' G f := (hon.block G h.lt hn).trans h
/-- A table as an answer. -/
def TabP (f : Nat → Bool) (w : World) (e : Ending) (w' : World) : Prop := e = .returned (.agg (tabV f)) ∧ Below w.heap.size w w'

theorem setRow_below {B : Nat} {a w : World} {g : Nat} (h : Below B a w) (hg : B ≤ g) (cs : Array Value) : Below B a (w.setRow g cs) := by
  refine ⟨h.os, h.tape, h.output, by simpa [World.setRow] using h.size, fun k hk => ?_⟩
  have h1 := h.block k hk
  rw [← h1]
  unfold World.setRow
  simp only [Array.getElem?_modify]
  rw [if_neg (by omega)]
theorem setRow_same {w : World} {g : Nat} {old cs : Array Value} {t : TypeId} (h : w.heap[g]? = some (.cells old t (0, 0))) : (w.setRow g cs).heap[g]? = some (.cells cs t (0, 0)) := setRow_heap w g old cs t (0, 0) h

theorem tabOf_take {m : List (List Int)} {k : Nat} (h : k < m.length) (i : Nat) : (if i = codeP (rwAt m k) then true else tabOf (m.take k) i) = tabOf (m.take (k + 1)) i := by
  rw [tabOf_next h]
  by_cases e : i = codeP (rwAt m k)
  · subst e; simp
  · rw [if_neg e]
    have : ¬ codeP (rwAt m k) = i := fun h => e h.symm
    simp [this]

set_option maxRecDepth 100000 in
set_option maxHeartbeats 2000000 in
theorem codesOf_any (A : Option Addr) (d : Nat) (m : List (List Int)) (w : World) (hA : RowsIn w (.slice A m.length d) m) (hl : m.length ≤ 1099511627776) (hm : ∀ i, i < m.length → (rwAt m i).length ≤ 4 ∧ digP (rwAt m i)) :
    Calls Try.prog 93 #[.slice A m.length d] w (TabP (tabOf m) w) := by
  have hr0 : TabAt (w.alloc (.cells Try.zeroCells72 72)) w.heap.size (fun _ => false) := by
    rw [tab_zero]; exact heap_alloc_new w _
  have hb0 : Below w.heap.size w (w.alloc (.cells Try.zeroCells72 72)) := (Below.refl _ _).alloc (Nat.le_refl _) _
  have ht0 : TabAt ((w.alloc (.cells Try.zeroCells72 72)).alloc (.cells Try.zeroCells72 72)) (w.heap.size + 1) (tabOf (m.take 0)) := by
    have h := heap_alloc_new (w.alloc (.cells Try.zeroCells72 72)) (.cells Try.zeroCells72 72)
    rw [World.size_alloc] at h
    unfold TabAt
    rw [h, tab_zero]
    rfl
  have hr1 := hr0.below ((Below.refl _ (w.alloc (.cells Try.zeroCells72 72))).alloc (Nat.le_refl _) (.cells Try.zeroCells72 72))
  have hb1 : Below w.heap.size w ((w.alloc (.cells Try.zeroCells72 72)).alloc (.cells Try.zeroCells72 72)) := hb0.alloc (by simp) _
  have HA := Lib.hid hA
  have HM := Lib.hid hm
  clear hr0 hb0 hA hm
  go_enter Try.func93, Try.ntmps93
  go_wp2_with fail
  generalize (w.alloc (.cells Try.zeroCells72 72)).alloc (.cells Try.zeroCells72 72) = w1 at ht0 hr1 hb1 ⊢
  have H0 := Lib.hid ht0
  have H1 := Lib.hid hr1
  clear ht0 hr1
  go_loopw [5, 8] (fun _ i wr => ∃ k : Nat, k ≤ m.length ∧ i = .int .i64 k ∧ Hid (TabAt wr (w.heap.size + 1) (tabOf (m.take k))) ∧ Hid (TabAt wr w.heap.size (fun _ => false)) ∧ Below w.heap.size w wr) (fun _ i _ => m.length - (intOf i).toNat)
  case atStart => exact ⟨0, Nat.zero_le _, rfl, H0, H1, hb1⟩
  case round =>
    clear H0 H1 hb1
    obtain ⟨k, hk, rfl, ht, hr, hb⟩ := hrel
    by_cases hlt : k < m.length
    · obtain ⟨b1, o1, rfl, hb1, hc1⟩ := (HA.out.below hb).get (by omega)
      obtain ⟨A1, c1, e1, hA1⟩ := hc1 k hlt
      obtain ⟨h4, hd⟩ := HM.out k hlt
      have hco := codeOf_any A1 c1 (rwAt m k) wr hA1 h4 hd
      have hs : codeP (rwAt m k) < 4096 := by have := codeP_small hd h4 (rwAt m k).length; rwa [List.take_length] at this
      have hst := ht.out.set_ hs true
      have hst2 : Hid (TabAt (wr.setCell ⟨w.heap.size + 1, codeP (rwAt m k), none⟩ (.bool true)) (w.heap.size + 1) (tabOf (m.take (k + 1)))) := Lib.hid (hst.ext fun i _ => tabOf_take hlt i)
      have hcl := ht.out.cell hs
      have hfz := ht.out.frozen (codeP (rwAt m k))
      have hr2 : Hid (TabAt (wr.setCell ⟨w.heap.size + 1, codeP (rwAt m k), none⟩ (.bool true)) w.heap.size (fun _ => false)) := Lib.hid (hr.out.only ((Only.refl _ _).set (S := [w.heap.size + 1]) ⟨w.heap.size + 1, codeP (rwAt m k), none⟩ _ (by simp)) (by simp))
      have hb2 : Below w.heap.size w (wr.setCell ⟨w.heap.size + 1, codeP (rwAt m k), none⟩ (.bool true)) := hb.setCell (by simp) _
      generalize tabOf (m.take k) (codeP (rwAt m k)) = bb at hcl
      generalize codeP (rwAt m k) = x at hco hs hst2 hcl hfz hr2 hb2
      generalize rwAt m k = p at e1 hco
      clear hst hc1 hA1 h4 hd ht hr hb
      go_wp2_with (go_at_call 86; refine hco.mono ?_; rintro e w3 ⟨rfl, rfl⟩)
      clear hco e1 hcl hfz
      refine ⟨⟨k + 1, by omega, by go_num, hst2, hr2, hb2⟩, ?_⟩
      simp only [intOf]
      omega
    · have e : k = m.length := by omega
      subst e
      rw [List.take_length] at ht
      have hu := Try.underlying72
      have hi : (Try.prog.info? 72).map (·.size) = some (tabV (tabOf m)).size := by rw [tabV_size]; exact tab_info
      have ht' := ht.out
      have hr' := hr.out
      unfold TabAt at ht' hr'
      have HI := Lib.hid hi
      have HT := Lib.hid ht'
      have HR := Lib.hid hr'
      have hres := Lib.hid (setRow_same (cs := tabV (tabOf m)) hr')
      have hbF := setRow_below hb (Nat.le_refl _) (tabV (tabOf m))
      have HO := Lib.hid (tabV_one (tabOf m))
      have HSZ := Lib.hid (show (tabV fun _ => false).size = (tabV (tabOf m)).size by rw [tabV_size, tabV_size])
      clear hi ht hr ht' hr' hb hk hlt
      generalize hcs : tabV (tabOf m) = cs at *
      have HCS := Lib.hid hcs
      clear hcs
      go_wp2_with (first
        | (refine wpList_load_row rfl 72 (.tmp 3) rfl (w.heap.size + 1) rfl _ cs _ _ HT.out hu rfl HI.out ?_)
        | (refine wpList_store_row rfl 72 (.tmp 2) (.tmp 16) rfl w.heap.size cs rfl rfl _ _ HR.out HI.out HSZ.out HO.out ?_))
      exact bodyPost_ret (v := .agg cs) (results_cell_row rfl _ _ _ _ _ _ _ rfl hres.out hu rfl HI.out) rfl ⟨by rw [HCS.out], hbF⟩
end Go.Proofs.Ytdbogjhkcnajkaa
end

section
namespace Go.Proofs.Ytdbogjhkcnajkaa
open Go.RowKit
set_option linter.unusedVariables false

def eqTab (f g : Nat → Bool) : Bool := (List.range 4096).all fun i => f i == g i
theorem eqTab_iff {f g : Nat → Bool} : eqTab f g = true ↔ ∀ i, i < 4096 → f i = g i := by
  unfold eqTab
  rw [List.all_eq_true]
  constructor
  · intro h i hi
    simpa using h i (List.mem_range.2 hi)
  · intro h i hi
    simpa using h i (List.mem_range.1 hi)
theorem under_bool : Try.prog.underlying 4 = some .bool := by kernel_rfl
theorem run_part_tab (f : Nat → Bool) (i : Nat) (hi : i < 4096) (w : World) : (part 4 (tabV f) (i * 1)).run Try.prog w = .ok (.bool (f i)) w := by
  have h := tabV_at f hi
  unfold part isAgg
  rw [Nat.mul_one]
  simp [run_underlying under_bool, h]
theorem run_size_bool (w : World) : (sizeOf 4).run Try.prog w = .ok 1 w := by kernel_rfl

set_option maxRecDepth 100000 in
theorem run_eql_tab (f g : Nat → Bool) (w : World) : (binOp .eql 72 (.agg (tabV f)) (.agg (tabV g))).run Try.prog w = .ok (.bool (eqTab f g)) w := by
  have hu := Try.underlying72
  rw [run_eql_struct]
  have h : (Op.equalIn 10000 72 (.agg (tabV f)) (.agg (tabV g))).run Try.prog w = .ok (eqTab f g) w := by
    show (Op.equalIn (9998 + 1 + 1) 72 (.agg (tabV f)) (.agg (tabV g))).run Try.prog w = .ok (eqTab f g) w
    rw [Op.equalIn]
    simp only [Sem.run_bind, run_underlying hu, Result.andThen_ok, run_size_bool]
    have key : ∀ (l : List Nat), (∀ i ∈ l, i < 4096) → (Sem.run Try.prog (forIn l ((none : Option Bool), ()) fun i __s => do
            let a ← part 4 (tabV f) (i * 1)
            let b ← part 4 (tabV g) (i * 1)
            let r ← Op.equalIn (9998 + 1) 4 a b
            if (!r) = true then pure (ForInStep.done (some false, ())) else pure (ForInStep.yield (none, ()))) w) = .ok (if l.all (fun i => f i == g i) then (none, ()) else (some false, ())) w := by
      intro l
      induction l with
      | nil => intro _; simp
      | cons i r ih =>
        intro hl
        have hi := hl i (by simp)
        have hr := ih fun j hj => hl j (by simp [hj])
        simp only [List.forIn_cons, Sem.run_bind, run_part_tab f i hi, run_part_tab g i hi, Result.andThen_ok, run_equalIn_bool' w 9998 4 (f i) (g i) under_bool]
        cases he : (f i == g i) with
        | false => simp [he]
        | true =>
          simp only [Bool.not_true, Bool.false_eq_true, if_false, Sem.run_pure, Result.andThen_ok, List.all_cons, he, Bool.true_and]
          exact hr
    rw [Std.Legacy.Range.forIn_eq_forIn_range']
    simp only [Std.Legacy.Range.size]
    rw [key _ (fun i hi => by simp at hi; omega)]
    have e : (List.range' 0 ((4096 - 0 + 1 - 1) / 1) 1).all (fun i => f i == g i) = eqTab f g := by
      unfold eqTab
      rw [List.range_eq_range']
    rw [e]
    cases eqTab f g <;> simp
  rw [h]
  rfl
end Go.Proofs.Ytdbogjhkcnajkaa
end

