/-
  Tables of codes in the program: codesOf and what a table's value is, as contracts. Tables of codes in the program: the patterns of a table, tables with one place more, all patterns, as contracts. All patterns in the program and in the model: allCodes, PatternsOf, as contracts. An orbit set of a table, and of tuples: setOfCodes, setOfTuples in the program, as contracts. The orbit set of tuples: setOfTuples in the program, as a contract. SetOf in the program and in the model, as contracts. The complement of an orbit set: plain words, no program is walked here. Tuples that a list of constants cannot tell apart have the same pattern, and only these: plain words, no program is walked here. PatternsOf in the program and in the model, as contracts. An orbit set told by more constants: plain words, no program is walked here.
-/
import Derived.Test.YthjkogighppeaaaKSetOfFormula18
import Derived.Test.YthjkogighppeaaaKSetOfFormula12
import Derived.Laws.Rows
import Derived.Laws.Tables
import Derived.Test.YthjkogighppeaaaKSetOfFormula10
import Derived.Test.YthjkogighppeaaaKSetOfFormula8
import Derived.Deep.RegionHeld3
import Derived.Deep.DrawnRows
import Derived.Deep.MidRow
import Derived.Test.YthjkogighppeaaaKSetOfFormula3
import Derived.Test.YthjkogighppeaaaKSetOfFormula11
section
namespace Go.Proofs.Ythjkogighppeaaa
open Go.RowKit Go.Sort
set_option linter.unusedVariables false

/-- The cells of a table. -/
def tabV (f : Nat → Bool) : Array Value := ((List.range 4096).map fun i => .bool (f i)).toArray
theorem tabV_size (f : Nat → Bool) : (tabV f).size = 4096 := by simp [tabV]
theorem tabV_at (f : Nat → Bool) {i : Nat} (h : i < 4096) : (tabV f)[i]? = some (.bool (f i)) := by simp [tabV, h]
theorem tabV_one (f : Nat → Bool) : (tabV f).all (·.oneCell') = true := by
  rw [Array.all_eq_true_iff_forall_mem]
  intro v hv
  simp [tabV] at hv
  obtain ⟨i, _, rfl⟩ := hv
  rfl
theorem tabV_set (f : Nat → Bool) {m : Nat} (h : m < 4096) (b : Bool) : (tabV f).setIfInBounds m (.bool b) = tabV (fun i => if i = m then b else f i) := by
  apply Array.ext_getElem?
  intro i
  by_cases hi : i < 4096
  · rw [tabV_at _ hi, Array.getElem?_setIfInBounds]
    by_cases e : m = i
    · subst e
      simp [tabV_size, h]
    · rw [if_neg e, tabV_at _ hi, if_neg (fun h => e h.symm)]
  · rw [Array.getElem?_eq_none (by rw [Array.size_setIfInBounds, tabV_size]; omega), Array.getElem?_eq_none (by rw [tabV_size]; omega)]
theorem tabV_ext {f g : Nat → Bool} (h : ∀ i, i < 4096 → f i = g i) : tabV f = tabV g := by
  apply Array.ext_getElem?
  intro i
  by_cases hi : i < 4096
  · rw [tabV_at _ hi, tabV_at _ hi, h i hi]
  · rw [Array.getElem?_eq_none (by rw [tabV_size]; omega), Array.getElem?_eq_none (by rw [tabV_size]; omega)]
theorem tab_info : (Try.prog.info? 68).map (·.size) = some 4096 := by kernel_rfl
theorem map_range_const (n : Nat) (v : Value) : (List.range n).map (fun _ => v) = List.replicate n v := by
  apply List.ext_getElem?
  intro i
  by_cases hi : i < n
  · simp [hi]
  · rw [List.getElem?_eq_none (by simp; omega), List.getElem?_eq_none (by simp; omega)]
theorem tab_zero : Try.zeroCells68 = tabV (fun _ => false) := by
  have h : Try.zeroCells68 = (List.replicate 4096 (Value.bool false)).toArray := by kernel_rfl
  rw [h]
  unfold tabV
  rw [map_range_const]

/-- A block that is a table. -/
def TabAt (w : World) (G : Nat) (f : Nat → Bool) : Prop := w.heap[G]? = some (.cells (tabV f) 68 (0, 0))
theorem TabAt.lt {w : World} {G : Nat} {f : Nat → Bool} (h : TabAt w G f) : G < w.heap.size := (Array.getElem?_eq_some_iff.1 h).1
theorem TabAt.cell {w : World} {G : Nat} {f : Nat → Bool} (h : TabAt w G f) {i : Nat} (hi : i < 4096) : w.cell? ⟨G, i, none⟩ = some (.bool (f i)) := by rw [cell_of_row w G i _ _ _ h, tabV_at f hi]
theorem TabAt.frozen {w : World} {G : Nat} {f : Nat → Bool} (h : TabAt w G f) (i : Nat) : w.frozen? ⟨G, i, none⟩ = false := frozen_of_row w G i _ _ h
theorem TabAt.set_ {w : World} {G : Nat} {f : Nat → Bool} (h : TabAt w G f) {m : Nat} (hm : m < 4096) (b : Bool) : TabAt (w.setCell ⟨G, m, none⟩ (.bool b)) G (fun i => if i = m then b else f i) := by
  unfold TabAt at h ⊢
  have e := heap_setCell_same w G m _ _ (.bool b) h
  rw [tabV_set f hm] at e
  exact e
theorem TabAt.below {w w' : World} {G : Nat} {f : Nat → Bool} (h : TabAt w G f) (hb : Below w.heap.size w w') : TabAt w' G f := (hb.block G h.lt).trans h
theorem TabAt.ext {w : World} {G : Nat} {f g : Nat → Bool} (h : TabAt w G f) (e : ∀ i, i < 4096 → f i = g i) : TabAt w G g := by unfold TabAt at *; rw [h, tabV_ext e]
theorem TabAt.only {w w' : World} {G : Nat} {f : Nat → Bool} {S : List Nat} (h : TabAt w G f) (hon : Only S w w') (hn : G ∉ S) : TabAt w' G f := (hon.block G h.lt hn).trans h
/-- A table as an answer. -/
def TabP (f : Nat → Bool) (w : World) (e : Ending) (w' : World) : Prop := e = .returned (.agg (tabV f)) ∧ Below w.heap.size w w'

theorem setRow_below {B : Nat} {a w : World} {g : Nat} (h : Below B a w) (hg : B ≤ g) (cs : Array Value) : Below B a (w.setRow g cs) := by
  refine ⟨h.os, h.tape, h.output, by simpa [World.setRow] using h.size, fun k hk => ?_⟩
  have h1 := h.block k hk
  rw [← h1]
  unfold World.setRow
  simp only [Array.getElem?_modify]
  rw [if_neg (by omega)]
theorem setRow_same {w : World} {g : Nat} {old cs : Array Value} {t : TypeId} (h : w.heap[g]? = some (.cells old t (0, 0))) : (w.setRow g cs).heap[g]? = some (.cells cs t (0, 0)) := setRow_heap w g old cs t (0, 0) h

theorem tabOf_take {m : List (List Int)} {k : Nat} (h : k < m.length) (i : Nat) : (if i = codeP (rwAt m k) then true else tabOf (m.take k) i) = tabOf (m.take (k + 1)) i := by
  rw [tabOf_next h]
  by_cases e : i = codeP (rwAt m k)
  · subst e; simp
  · rw [if_neg e]
    have : ¬ codeP (rwAt m k) = i := fun h => e h.symm
    simp [this]

set_option maxRecDepth 100000 in
set_option maxHeartbeats 2000000 in
theorem codesOf_any (A : Option Addr) (d : Nat) (m : List (List Int)) (w : World) (hA : RowsIn w (.slice A m.length d) m) (hl : m.length ≤ 1099511627776) (hm : ∀ i, i < m.length → (rwAt m i).length ≤ 4 ∧ digP (rwAt m i)) :
    Calls Try.prog 66 #[.slice A m.length d] w (TabP (tabOf m) w) := by
  have hr0 : TabAt (w.alloc (.cells Try.zeroCells68 68)) w.heap.size (fun _ => false) := by
    rw [tab_zero]; exact heap_alloc_new w _
  have hb0 : Below w.heap.size w (w.alloc (.cells Try.zeroCells68 68)) := (Below.refl _ _).alloc (Nat.le_refl _) _
  have ht0 : TabAt ((w.alloc (.cells Try.zeroCells68 68)).alloc (.cells Try.zeroCells68 68)) (w.heap.size + 1) (tabOf (m.take 0)) := by
    have h := heap_alloc_new (w.alloc (.cells Try.zeroCells68 68)) (.cells Try.zeroCells68 68)
    rw [World.size_alloc] at h
    unfold TabAt
    rw [h, tab_zero]
    rfl
  have hr1 := hr0.below ((Below.refl _ (w.alloc (.cells Try.zeroCells68 68))).alloc (Nat.le_refl _) (.cells Try.zeroCells68 68))
  have hb1 : Below w.heap.size w ((w.alloc (.cells Try.zeroCells68 68)).alloc (.cells Try.zeroCells68 68)) := hb0.alloc (by simp) _
  have HA := Lib.hid hA
  have HM := Lib.hid hm
  clear hr0 hb0 hA hm
  go_enter Try.func66, Try.ntmps66
  go_wp2_with fail
  generalize (w.alloc (.cells Try.zeroCells68 68)).alloc (.cells Try.zeroCells68 68) = w1 at ht0 hr1 hb1 ⊢
  have H0 := Lib.hid ht0
  have H1 := Lib.hid hr1
  clear ht0 hr1
  go_loopw [5, 8] (fun _ i wr => ∃ k : Nat, k ≤ m.length ∧ i = .int .i64 k ∧ Hid (TabAt wr (w.heap.size + 1) (tabOf (m.take k))) ∧ Hid (TabAt wr w.heap.size (fun _ => false)) ∧ Below w.heap.size w wr) (fun _ i _ => m.length - (intOf i).toNat)
  case atStart => exact ⟨0, Nat.zero_le _, rfl, H0, H1, hb1⟩
  case round =>
    clear H0 H1 hb1
    obtain ⟨k, hk, rfl, ht, hr, hb⟩ := hrel
    by_cases hlt : k < m.length
    · obtain ⟨b1, o1, rfl, hb1, hc1⟩ := (HA.out.below hb).get (by omega)
      obtain ⟨A1, c1, e1, hA1⟩ := hc1 k hlt
      obtain ⟨h4, hd⟩ := HM.out k hlt
      have hco := codeOf_any A1 c1 (rwAt m k) wr hA1 h4 hd
      have hs : codeP (rwAt m k) < 4096 := by have := codeP_small hd h4 (rwAt m k).length; rwa [List.take_length] at this
      have hst := ht.out.set_ hs true
      have hst2 : Hid (TabAt (wr.setCell ⟨w.heap.size + 1, codeP (rwAt m k), none⟩ (.bool true)) (w.heap.size + 1) (tabOf (m.take (k + 1)))) := Lib.hid (hst.ext fun i _ => tabOf_take hlt i)
      have hcl := ht.out.cell hs
      have hfz := ht.out.frozen (codeP (rwAt m k))
      have hr2 : Hid (TabAt (wr.setCell ⟨w.heap.size + 1, codeP (rwAt m k), none⟩ (.bool true)) w.heap.size (fun _ => false)) := Lib.hid (hr.out.only ((Only.refl _ _).set (S := [w.heap.size + 1]) ⟨w.heap.size + 1, codeP (rwAt m k), none⟩ _ (by simp)) (by simp))
      have hb2 : Below w.heap.size w (wr.setCell ⟨w.heap.size + 1, codeP (rwAt m k), none⟩ (.bool true)) := hb.setCell (by simp) _
      generalize tabOf (m.take k) (codeP (rwAt m k)) = bb at hcl
      generalize codeP (rwAt m k) = x at hco hs hst2 hcl hfz hr2 hb2
      generalize rwAt m k = p at e1 hco
      clear hst hc1 hA1 h4 hd ht hr hb
      go_wp2_with (go_at_call 54; refine hco.mono ?_; rintro e w3 ⟨rfl, rfl⟩)
      clear hco e1 hcl hfz
      refine ⟨⟨k + 1, by omega, by go_num, hst2, hr2, hb2⟩, ?_⟩
      simp only [intOf]
      omega
    · have e : k = m.length := by omega
      subst e
      rw [List.take_length] at ht
      have hu := Try.underlying68
      have hi : (Try.prog.info? 68).map (·.size) = some (tabV (tabOf m)).size := by rw [tabV_size]; exact tab_info
      have ht' := ht.out
      have hr' := hr.out
      unfold TabAt at ht' hr'
      have HI := Lib.hid hi
      have HT := Lib.hid ht'
      have HR := Lib.hid hr'
      have hres := Lib.hid (setRow_same (cs := tabV (tabOf m)) hr')
      have hbF := setRow_below hb (Nat.le_refl _) (tabV (tabOf m))
      have HO := Lib.hid (tabV_one (tabOf m))
      have HSZ := Lib.hid (show (tabV fun _ => false).size = (tabV (tabOf m)).size by rw [tabV_size, tabV_size])
      clear hi ht hr ht' hr' hb hk hlt
      generalize hcs : tabV (tabOf m) = cs at *
      have HCS := Lib.hid hcs
      clear hcs
      go_wp2_with (first
        | (refine wpList_load_row rfl 68 (.tmp 3) rfl (w.heap.size + 1) rfl _ cs _ _ HT.out hu rfl HI.out ?_)
        | (refine wpList_store_row rfl 68 (.tmp 2) (.tmp 16) rfl w.heap.size cs rfl rfl _ _ HR.out HI.out HSZ.out HO.out ?_))
      exact bodyPost_ret (v := .agg cs) (results_cell_row rfl _ _ _ _ _ _ _ rfl hres.out hu rfl HI.out) rfl ⟨by rw [HCS.out], hbF⟩
end Go.Proofs.Ythjkogighppeaaa
end

section
namespace Go.Proofs.Ythjkogighppeaaa
open Go.RowKit Go.Sort
set_option linter.unusedVariables false

theorem run_index_tab (f : Nat → Bool) (k : Nat) (hk : k < 4096) (w : World) : (Instr.index 68 (.agg (tabV f)) (.int .i64 (k : Int))).run Try.prog w = .ok (.bool (f k)) w := by
  have h1 : (0 : Int) ≤ (k : Int) ∧ (k : Int) < 4096 := by omega
  have h2 := tabV_at f hk
  generalize tabV f = cs at *
  simp [Instr.index, run_underlying Try.underlying68, asIntOf, h1, go_sem]
  rw [if_pos hk, h2]
  rfl

/-- The first k numbers that a table has, as patterns. -/
def patsK (n : Nat) (f : Nat → Bool) (k : Nat) : List (List Int) := ((List.range k).filter f).map (decP n)
theorem patsK_yes {n : Nat} {f : Nat → Bool} {k : Nat} (h : f k = true) : patsK n f (k + 1) = patsK n f k ++ [decP n k] := by
  unfold patsK
  rw [List.range_succ, List.filter_append, List.map_append]
  simp [h]
theorem patsK_no {n : Nat} {f : Nat → Bool} {k : Nat} (h : f k = false) : patsK n f (k + 1) = patsK n f k := by
  unfold patsK
  rw [List.range_succ, List.filter_append, List.map_append]
  simp [h]
theorem patsK_len (n : Nat) (f : Nat → Bool) (k : Nat) : (patsK n f k).length ≤ k := by
  unfold patsK
  rw [List.length_map]
  have := List.length_filter_le f (List.range k)
  rw [List.length_range] at this
  exact this

set_option maxRecDepth 100000 in
set_option maxHeartbeats 4000000 in
theorem patterns_any (f : Nat → Bool) (n : Nat) (hn : n ≤ 4) (w : World) :
    Calls Try.prog 51 #[.agg (tabV f), .int .i64 (n : Int)] w (RowsOut (patsOf n f) w) := by
  have hb1 : Below w.heap.size w ((w.alloc (.cells (tabV f) 68)).alloc (.cells #[] 26)) := ((Below.refl _ _).alloc (Nat.le_refl _) _).alloc (by simp) _
  have ht0 : (w.alloc (.cells (tabV f) 68)).heap[w.heap.size]? = some (.cells (tabV f) 68 (0, 0)) := heap_alloc_new w _
  have ht1 := (Below.heap_alloc (w.alloc (.cells (tabV f) 68)) (.cells #[] 26) w.heap.size (by simp)).trans ht0
  have ho1 := own_lit0 (w.alloc (.cells (tabV f) 68))
  have hi : (Try.prog.info? 68).map (·.size) = some (tabV f).size := by rw [tabV_size]; exact tab_info
  have HX := Lib.hid (run_index_tab f)
  have HI := Lib.hid hi
  have HT := Lib.hid ht1
  have HO := Lib.hid ho1
  have HPE : Hid (patsOf n f = patsK n f 4096) := Lib.hid rfl
  clear ht0 ht1 ho1 hi
  generalize tabV f = cs at *
  go_enter Try.func51, Try.ntmps51
  go_wp2_with (refine wpList_load_row rfl 68 (.tmp 2) rfl w.heap.size rfl _ cs _ _ HT.out Try.underlying68 rfl HI.out ?_)
  go_loopw [5, 6, 7, 10] (fun v5 _ _ i wr => ∃ (k : Nat) (U : List Nat), k ≤ 4096 ∧ i = .int .i64 k ∧ Hid (Own wr U v5 (rowsMem (patsK n f k))) ∧ Hid (∀ b ∈ U, w.heap.size ≤ b) ∧ Below w.heap.size w wr) (fun _ _ _ i _ => 4096 - (intOf i).toNat)
  case atStart => exact ⟨0, [w.heap.size + 1], by omega, rfl, Lib.hid (by have h := HO.out; rw [World.size_alloc] at h; exact h), Lib.hid (fun b hb => by simp at hb; omega), hb1⟩
  case round =>
    clear HO HT HI
    obtain ⟨k, U, hk, rfl, hU, hUb, hb⟩ := hrel
    by_cases hlt : k < 4096
    · have hlti : (k : Int) < 4096 := by omega
      have hix := HX.out k hlt
      have hpl := patsK_len n f k
      have hfy := Lib.hid (fun h => patsK_yes (n := n) (f := f) (k := k) h)
      have hfn := Lib.hid (fun h => patsK_no (n := n) (f := f) (k := k) h)
      have hdc := decoded_any k n hn (by omega) wr
      generalize patsK n f k = Q at hU hpl hfy hfn
      cases hfk : f k with
      | true =>
        rw [hfk] at hix
        have HNX := Lib.hid (hfy.out hfk)
        clear hfy hfn hfk
        go_wp2_with fail
        refine hdc.mono ?_
        rintro e w5 ⟨v5, rfl, ho5, hb5⟩
        clear hdc hix
        obtain ⟨R, hR, hRb, hRe⟩ := own_intRow ho5
        obtain ⟨A5, c5, rfl, _⟩ := own_intSlice hR
        have hbx : Below w5.heap.size w5 (w5.alloc (.cells #[.slice A5 (decP n k).length c5] 26)) := (Below.refl _ _).alloc (Nat.le_refl _) _
        have hb56 := hb5.trans (hbx.mono hb5.size)
        have hU6 := hU.out.keep hb56
        have hR6 := hR.keep hbx
        have hcell : (w5.alloc (.cells #[.slice A5 (decP n k).length c5] 26)).cell? ⟨w5.heap.size, 0, none⟩ = some (.slice A5 (decP n k).length c5) := by simp
        have HC := Lib.hid (one_cell hcell)
        have hbw6 := hb.trans (hb56.mono hb.size)
        have hs5 := hb5.size
        have hsw := hb.size
        have hUl : ∀ b ∈ U, b < wr.heap.size := fun b h => hU.out.lt b h
        have hdis : ∀ b ∈ U, b ∉ R := fun b h1 h2 => by have := hUl b h1; have := hRb b h2; omega
        have hdl : Q.length + 1 ≤ 16777216 := by omega
        have HDI := Lib.hid hdis
        have HR6 := Lib.hid hR6
        have HRB := Lib.hid hRb
        have HBW := Lib.hid hbw6
        clear hRe hRb hR hbx hb56 hcell hdis hR6 hbw6 hUl hU hb ho5
        go_wp2_with (at_builtin; refine wpList_append_rows rfl (.tmp 15) (.tmp 19) rfl _ U Q rfl hU6 ⟨w5.heap.size, 0, none⟩ _ (decP n k) R rfl HC.out HR6.out HDI.out hdl ?_)
        intro g2 cap2 U3 w7 hU7 hU3 hon
        have hb7 := Only.below HBW.out hon HBW.out.size (fun b h => hUb.out b h)
        have hU3b : ∀ b ∈ U3, w.heap.size ≤ b := fun b h => by
          rcases hU3 b h with h1 | h1 | h1
          · exact hUb.out b h1
          · have := HRB.out b h1; omega
          · have h2 : w5.heap.size ≤ b := by first | omega | (rw [World.size_alloc] at h1; omega)
            omega
        rw [← HNX.out] at hU7
        have U7 := Lib.hid hU7
        have B7 := Lib.hid hU3b
        clear hU7 hU3b hU3 hon HBW HRB HR6 HDI HC HNX hU6 hb5
        go_wp2
        refine ⟨⟨k + 1, U3, by omega, by go_num, U7, B7, hb7⟩, ?_⟩
        simp only [intOf]
        omega
      | false =>
        rw [hfk] at hix
        have HNX := Lib.hid (hfn.out hfk)
        rw [← HNX.out] at hU
        clear hfy hfn hfk HNX hdc
        go_wp2
        refine ⟨⟨k + 1, U, by omega, by go_num, hU, hUb, hb⟩, ?_⟩
        simp only [intOf]
        omega
    · have e : k = 4096 := by omega
      subst e
      have hge : ¬ ((4096 : Nat) : Int) < 4096 := by omega
      have hpost : RowsOut (patsOf n f) w (.returned u5) wr := by rw [HPE.out]; exact ⟨_, U, rfl, hU.out, hUb.out, hb⟩
      clear hU hUb hb HPE
      go_wp2
      go_ret
      exact hpost

/-- A table with one place more behind each of its patterns. -/
def widF (n : Nat) (k : Int) (f : Nat → Bool) (c : Nat) : Bool := f (c / 8) && decide (((c % 8 : Nat) : Int) ≤ newN k (decP n (c / 8)))
/-- The same while the first j numbers have been seen. -/
def widT (n : Nat) (k : Int) (f : Nat → Bool) (j c : Nat) : Bool := widF n k f c && decide (c / 8 < j)
def widI (n : Nat) (k : Int) (f : Nat → Bool) (j m c : Nat) : Bool := widT n k f j c || (decide (c / 8 = j) && decide (c % 8 < m))
theorem widT_zero (n : Nat) (k : Int) (f : Nat → Bool) (c : Nat) : widT n k f 0 c = false := by simp [widT]
theorem widT_all (n : Nat) (k : Int) (f : Nat → Bool) {c : Nat} (h : c < 4096) : widT n k f 4096 c = widF n k f c := by
  have : c / 8 < 4096 := by omega
  simp [widT, this]
theorem widT_skip {n : Nat} {k : Int} {f : Nat → Bool} {j : Nat} (h : f j = false) (c : Nat) : widT n k f j c = widT n k f (j + 1) c := by
  unfold widT widF
  by_cases e : c / 8 = j
  · rw [e, h]; simp
  · rw [show decide (c / 8 < j) = decide (c / 8 < j + 1) from decide_eq_decide.2 (by omega)]
theorem widI_zero (n : Nat) (k : Int) (f : Nat → Bool) (j c : Nat) : widI n k f j 0 c = widT n k f j c := by simp [widI]
theorem widI_set {n : Nat} {k : Int} {f : Nat → Bool} {j m : Nat} (hm : m < 8) (c : Nat) : (if c = j * 8 + m then true else widI n k f j m c) = widI n k f j (m + 1) c := by
  unfold widI
  by_cases e : c = j * 8 + m
  · rw [if_pos e]
    have h1 : c / 8 = j := by omega
    have h2 : c % 8 < m + 1 := by omega
    simp [h1, h2]
  · rw [if_neg e]
    congr 1
    by_cases h : c / 8 = j
    · rw [show decide (c % 8 < m) = decide (c % 8 < m + 1) from decide_eq_decide.2 (by omega)]
    · simp [h]
theorem widI_all {n : Nat} {k : Int} {f : Nat → Bool} {j : Nat} (h : f j = true) {m : Nat} (hm : (m : Int) = newN k (decP n j) + 1) (c : Nat) : widI n k f j m c = widT n k f (j + 1) c := by
  unfold widI widT
  by_cases e : c / 8 = j
  · have e1 : widF n k f c = decide (c % 8 < m) := by
      unfold widF
      rw [e, h, Bool.true_and]
      exact decide_eq_decide.2 (by omega)
    rw [e1, e]
    simp
  · rw [show decide (c / 8 < j) = decide (c / 8 < j + 1) from decide_eq_decide.2 (by omega)]
    simp [e]

theorem tabOk_dec {n : Nat} {k : Int} (hk : 0 ≤ k) (hk3 : k ≤ 3) (hn : n ≤ 4) {f : Nat → Bool} (hf : tabOk n k f) {c : Nat} (hc : c < 4096) (h : f c = true) : decP n c ∈ allP n k ∧ c < 8 ^ n := by
  obtain ⟨p, hp, rfl⟩ := hf c hc h
  obtain ⟨h1, h2⟩ := dig_allP hk hk3 hn hp
  rw [decP_code h1 h2]
  exact ⟨hp, codeP_lt h1 h2⟩

/-- The patterns of a table with one place more. -/
theorem wid_tab {n : Nat} {k : Int} (hk : 0 ≤ k) (hk3 : k ≤ 3) (hn : n ≤ 3) {L : List (List Int)} (hL : ∀ p ∈ L, p ∈ allP n k) (c : Nat) : widF n k (tabOf L) c = tabOf (L.flatMap (extP k)) c := by
  rw [Bool.eq_iff_iff]
  unfold widF
  rw [Bool.and_eq_true, decide_eq_true_eq, tabOf_mem, tabOf_mem]
  constructor
  · rintro ⟨⟨p, hp, e⟩, h⟩
    obtain ⟨h1, h2⟩ := dig_allP hk hk3 (by omega) (hL p hp)
    rw [← e, decP_code h1 h2] at h
    refine ⟨p ++ [((c % 8 : Nat) : Int)], List.mem_flatMap.2 ⟨p, hp, ?_⟩, ?_⟩
    · unfold extP
      rw [List.mem_map]
      exact ⟨c % 8, List.mem_range.2 (by omega), rfl⟩
    · rw [codeP_snoc]
      omega
  · rintro ⟨q, hq, e⟩
    obtain ⟨p, hp, hx⟩ := List.mem_flatMap.1 hq
    obtain ⟨h1, h2⟩ := dig_allP hk hk3 (by omega) (hL p hp)
    have h3 := newN_pat ((mem_allP hk).1 (hL p hp)).2
    unfold extP at hx
    rw [List.mem_map] at hx
    obtain ⟨m, hm, rfl⟩ := hx
    rw [List.mem_range] at hm
    rw [codeP_snoc] at e
    have e1 : c / 8 = codeP p := by omega
    have e2 : c % 8 = m := by omega
    refine ⟨⟨p, hp, e1.symm⟩, ?_⟩
    rw [e1, decP_code h1 h2, e2]
    omega
set_option maxRecDepth 100000 in
set_option maxHeartbeats 4000000 in
theorem widened_any (f : Nat → Bool) (n k : Nat) (hn : n ≤ 3) (hk : k ≤ 3) (hf : tabOk n k f) (w : World) :
    Calls Try.prog 67 #[.agg (tabV f), .int .i64 (n : Int), .int .i64 (k : Int)] w (TabP (widF n k f) w) := by
  have hb1 : Below w.heap.size w (((w.alloc (.cells (tabV f) 68)).alloc (.cells Try.zeroCells68 68)).alloc (.cells Try.zeroCells68 68)) := (((Below.refl _ _).alloc (Nat.le_refl _) _).alloc (by simp) _).alloc (by simp; omega) _
  have ht0 : TabAt (((w.alloc (.cells (tabV f) 68)).alloc (.cells Try.zeroCells68 68)).alloc (.cells Try.zeroCells68 68)) w.heap.size f :=
    (Below.heap_alloc _ _ _ (by simp; omega)).trans ((Below.heap_alloc _ _ _ (by simp)).trans (heap_alloc_new w _))
  have hr0 : TabAt (((w.alloc (.cells (tabV f) 68)).alloc (.cells Try.zeroCells68 68)).alloc (.cells Try.zeroCells68 68)) (w.heap.size + 1) (fun _ => false) := by
    have h := heap_alloc_new (w.alloc (.cells (tabV f) 68)) (.cells Try.zeroCells68 68)
    rw [World.size_alloc, tab_zero] at h
    rw [tab_zero]
    exact (Below.heap_alloc _ _ _ (by simp)).trans h
  have hx0 : TabAt (((w.alloc (.cells (tabV f) 68)).alloc (.cells Try.zeroCells68 68)).alloc (.cells Try.zeroCells68 68)) (w.heap.size + 1 + 1) (widT n k f 0) := by
    have h := heap_alloc_new ((w.alloc (.cells (tabV f) 68)).alloc (.cells Try.zeroCells68 68)) (.cells Try.zeroCells68 68)
    rw [World.size_alloc, World.size_alloc, tab_zero] at h
    rw [tab_zero]
    exact TabAt.ext h fun i _ => (widT_zero n k f i).symm
  have hi : (Try.prog.info? 68).map (·.size) = some (tabV f).size := by rw [tabV_size]; exact tab_info
  have HX := Lib.hid (run_index_tab f)
  have HI := Lib.hid hi
  have HF := Lib.hid hf
  have HT := Lib.hid ht0
  have HR := Lib.hid hr0
  have HW := Lib.hid hx0
  clear ht0 hr0 hx0 hi hf
  unfold TabAt at HT
  generalize tabV f = cs at *
  go_enter Try.func67, Try.ntmps67
  go_wp2_with (refine wpList_load_row rfl 68 (.tmp 3) rfl w.heap.size rfl _ cs _ _ HT.out Try.underlying68 rfl HI.out ?_)
  generalize ((w.alloc (.cells cs 68)).alloc (.cells Try.zeroCells68 68)).alloc (.cells Try.zeroCells68 68) = w1 at HR HW hb1 ⊢
  clear HT HI
  go_loopw [8, 9, 10, 12] (fun _ _ _ i wr => ∃ (j : Nat), j ≤ 4096 ∧ i = .int .i64 j ∧ Hid (TabAt wr (w.heap.size + 1 + 1) (widT n k f j)) ∧ Hid (TabAt wr (w.heap.size + 1) (fun _ => false)) ∧ Below w.heap.size w wr) (fun _ _ _ i _ => 4096 - (intOf i).toNat)
  case atStart => exact ⟨0, by omega, rfl, HW, HR, hb1⟩
  case round =>
    clear HW HR hb1
    obtain ⟨j, hj, rfl, hT, hR, hb⟩ := hrel
    by_cases hlt : j < 4096
    · have hlti : (j : Int) < 4096 := by omega
      have hix := HX.out j hlt
      have hdc := decoded_any j n (by omega) (by omega) wr
      cases hfk : f j with
      | true =>
        rw [hfk] at hix
        obtain ⟨hmem, hj8⟩ := tabOk_dec (k := (k : Int)) (by omega) (by omega) (by omega) HF.out hlt hfk
        have hj512 : j < 512 := Nat.lt_of_lt_of_le hj8 (Nat.pow_le_pow_right (by decide) hn)
        obtain ⟨hpl, hpd⟩ := dig_allP (k := (k : Int)) (by omega) (by omega) (by omega) hmem
        have hnp := newN_pat ((mem_allP (k := (k : Int)) (by omega)).1 hmem).2
        have hng := newN_ge (k : Int) (decP n j)
        have HPD := Lib.hid hpd
        have hn6 : newN k (decP n j) ≤ 6 := by omega
        obtain ⟨M, hM⟩ : ∃ M : Nat, (M : Int) = newN k (decP n j) + 1 := ⟨(newN k (decP n j) + 1).toNat, by omega⟩
        have HEND := Lib.hid (fun c => widI_all (n := n) hfk hM c)
        have HM := Lib.hid hM
        have hM7 : M ≤ 7 := by omega
        have hl5 : (decP n j).length ≤ 1099511627776 := by omega
        have HZ := Lib.hid (hT.out.ext fun i _ => (widI_zero n k f j i).symm)
        clear hfk hmem hj8 hpl hpd hnp hT hng hn6 hM
        generalize hp : decP n j = p at *
        clear hp
        go_wp2_with fail
        refine hdc.mono ?_
        rintro e w5 ⟨v5, rfl, ho5, hb5⟩
        obtain ⟨A5, c5, rfl, hA5⟩ := own_intsAt ho5
        have hnn := newNumber_any A5 c5 p k w5 hA5 hl5 (by omega) (by omega) (fun i hi => by have := digP_at HPD.out hi; omega)
        have HZ5 := Lib.hid (HZ.out.below hb5)
        have HR5 := Lib.hid (hR.out.below hb5)
        have hb6 := hb.trans (hb5.mono hb.size)
        clear hdc hix ho5 hb5 hA5 HZ hR hb
        go_wp2_with fail
        refine hnn.mono ?_
        rintro e w6 ⟨rfl, rfl⟩
        have HMM : Hid (newN k p + 1 = (M : Int)) := Lib.hid HM.out.symm
        clear hnn HM
        generalize newN k p = mm at *
        have hmm1 : -1 ≤ mm ∧ mm ≤ 6 := by have := HMM.out; omega
        go_wp2
        go_loopw [10, 24] (fun _ i wr => ∃ (m : Nat), (m : Int) ≤ mm + 1 ∧ m ≤ M ∧ i = .int .i64 m ∧ Hid (TabAt wr (w.heap.size + 1 + 1) (widI n k f j m)) ∧ Hid (TabAt wr (w.heap.size + 1) (fun _ => false)) ∧ Below w.heap.size w wr) (fun _ i _ => M - (intOf i).toNat)
        case atStart => exact ⟨0, by omega, by omega, rfl, HZ5, HR5, hb6⟩
        case round =>
          clear HZ5 HR5 hb6
          obtain ⟨m, hm, hmM, rfl, hT, hR, hb⟩ := hrel
          by_cases hlm : (m : Int) < mm + 1
          · have hm8 : m < 8 := by omega
            have hmlt : m < M := by have := HMM.out; omega
            have hx : j * 8 + m < 4096 := by omega
            have hst := hT.out.set_ hx true
            have hst2 : Hid (TabAt (wr.setCell ⟨w.heap.size + 1 + 1, j * 8 + m, none⟩ (.bool true)) (w.heap.size + 1 + 1) (widI n k f j (m + 1))) := Lib.hid (hst.ext fun i _ => widI_set hm8 i)
            have hcl := hT.out.cell hx
            have hfz := hT.out.frozen (j * 8 + m)
            have hr2 : Hid (TabAt (wr.setCell ⟨w.heap.size + 1 + 1, j * 8 + m, none⟩ (.bool true)) (w.heap.size + 1) (fun _ => false)) := Lib.hid (hR.out.only ((Only.refl _ _).set (S := [w.heap.size + 1 + 1]) ⟨w.heap.size + 1 + 1, j * 8 + m, none⟩ _ (by simp)) (by simp))
            have hb2 : Below w.heap.size w (wr.setCell ⟨w.heap.size + 1 + 1, j * 8 + m, none⟩ (.bool true)) := hb.setCell (by simp; omega) _
            generalize widI n k f j m (j * 8 + m) = bb at hcl
            obtain ⟨x, hxe⟩ : ∃ x : Nat, x = j * 8 + m := ⟨_, rfl⟩
            rw [← hxe] at hst2 hcl hfz hr2 hb2 hx
            have hxi : (j : Int) * 8 + (m : Int) = (x : Int) := by omega
            clear hst hT hR hb
            have HXE := Lib.hid hxe
            clear hxe
            go_wp2
            refine ⟨⟨m + 1, by omega, by omega, by go_num, hst2, hr2, hb2⟩, ?_⟩
            simp only [intOf]
            omega
          · have e : m = M := by have := HMM.out; omega
            subst e
            have HT2 := Lib.hid (hT.out.ext fun i _ => HEND.out i)
            clear hT HEND
            go_wp2
            refine ⟨⟨j + 1, by omega, by go_num, HT2, hR, hb⟩, ?_⟩
            simp only [intOf]
            omega
      | false =>
        rw [hfk] at hix
        have HT2 := Lib.hid (hT.out.ext fun i _ => widT_skip hfk i)
        clear hfk hdc hT
        go_wp2
        refine ⟨⟨j + 1, by omega, by go_num, HT2, hR, hb⟩, ?_⟩
        simp only [intOf]
        omega
    · have e : j = 4096 := by omega
      subst e
      have hge : ¬ ((4096 : Nat) : Int) < 4096 := by omega
      have ht' := hT.out.ext fun i hi => widT_all n k f hi
      have hr' := hR.out
      unfold TabAt at ht' hr'
      have HI : Hid ((Try.prog.info? 68).map (·.size) = some (tabV (widF n k f)).size) := Lib.hid (by rw [tabV_size]; exact tab_info)
      have HT := Lib.hid ht'
      have HR := Lib.hid hr'
      have hres := Lib.hid (setRow_same (cs := tabV (widF n k f)) hr')
      have hbF := setRow_below hb (show w.heap.size ≤ w.heap.size + 1 by omega) (tabV (widF n k f))
      have HO := Lib.hid (tabV_one (widF n k f))
      have HSZ := Lib.hid (show (tabV fun _ => false).size = (tabV (widF n k f)).size by rw [tabV_size, tabV_size])
      clear ht' hr' hT hR hb
      generalize hds : tabV (widF n k f) = ds at *
      have HDS := Lib.hid hds
      clear hds
      go_wp2_with (first
        | (refine wpList_load_row rfl 68 (.tmp 7) rfl (w.heap.size + 1 + 1) rfl _ ds _ _ HT.out Try.underlying68 rfl HI.out ?_)
        | (refine wpList_store_row rfl 68 (.tmp 6) (.tmp 34) rfl (w.heap.size + 1) ds rfl rfl _ _ HR.out HI.out HSZ.out HO.out ?_))
      exact bodyPost_ret (v := .agg ds) (results_cell_row rfl _ _ _ _ _ _ _ rfl hres.out Try.underlying68 rfl HI.out) rfl ⟨by rw [HDS.out], hbF⟩
end Go.Proofs.Ythjkogighppeaaa
end

section
namespace Go.Proofs.Ythjkogighppeaaa
open Go.RowKit Go.Sort
set_option linter.unusedVariables false

theorem one_dig : ∀ i, i < ([[]] : List (List Int)).length → (rwAt [[]] i).length ≤ 4 ∧ digP (rwAt [[]] i) := by
  intro i hi
  have h : i = 0 := by simpa using hi
  subst h
  exact ⟨by decide, fun n h => by simp [rwAt] at h⟩
theorem all_mem {n : Nat} {k : Int} : ∀ p ∈ allP n k, p ∈ allP n k := fun _ h => h

set_option maxRecDepth 100000 in
set_option maxHeartbeats 4000000 in
theorem allCodes_any (n k : Nat) (hn : n ≤ 4) (hk : k ≤ 3) (w : World) :
    Calls Try.prog 50 #[.int .i64 (n : Int), .int .i64 (k : Int)] w (TabP (tabOf (allP n k)) w) := by
  have hr0 : TabAt (w.alloc (.cells Try.zeroCells68 68)) w.heap.size (fun _ => false) := by
    rw [tab_zero]; exact heap_alloc_new w _
  have hb0 : Below w.heap.size w (w.alloc (.cells Try.zeroCells68 68)) := (Below.refl _ _).alloc (Nat.le_refl _) _
  have hb2 : Below (w.alloc (.cells Try.zeroCells68 68)).heap.size (w.alloc (.cells Try.zeroCells68 68)) (((w.alloc (.cells Try.zeroCells68 68)).alloc (.cells #[] 3)).alloc (.cells #[.slice (some ⟨w.heap.size + 1, 0, none⟩) 0 0] 26)) := ((Below.refl _ _).alloc (Nat.le_refl _) _).alloc (by simp) _
  have hrow : RowsIn (((w.alloc (.cells Try.zeroCells68 68)).alloc (.cells #[] 3)).alloc (.cells #[.slice (some ⟨w.heap.size + 1, 0, none⟩) 0 0] 26)) (.slice (some ⟨w.heap.size + 1 + 1, 0, none⟩) 1 1) [[]] := by
    have h := own_one (w.alloc (.cells Try.zeroCells68 68))
    rw [World.size_alloc] at h
    exact h.at_
  have hco := codesOf_any (some ⟨w.heap.size + 1 + 1, 0, none⟩) 1 [[]] _ hrow (by decide) one_dig
  have HR0 := Lib.hid (hr0.below hb2)
  have HB0 := Lib.hid (hb0.trans (hb2.mono hb0.size))
  clear hr0 hb0 hb2 hrow
  have HSZ : Hid ((((w.alloc (.cells Try.zeroCells68 68)).alloc (.cells #[] 3)).alloc (.cells #[.slice (some ⟨w.heap.size + 1, 0, none⟩) 0 0] 26)).heap.size = w.heap.size + 3) := Lib.hid (by simp)
  go_enter Try.func50, Try.ntmps50
  go_wp2_with fail
  refine hco.mono ?_
  rintro e w2 ⟨rfl, hb2⟩
  have hr2 := HR0.out.below hb2
  have hbw2 := HB0.out.trans (hb2.mono HB0.out.size)
  have hs2 : w.heap.size + 3 ≤ w2.heap.size := by have := hb2.size; rw [HSZ.out] at this; exact this
  have hbx : Below w2.heap.size w2 (w2.alloc (.cells Try.zeroCells68 68)) := (Below.refl _ _).alloc (Nat.le_refl _) _
  have hz3 : (w2.alloc (.cells Try.zeroCells68 68)).heap[w2.heap.size]? = some (.cells (tabV fun _ => false) 68 (0, 0)) := by rw [tab_zero]; exact heap_alloc_new w2 _
  have hr3 := hr2.below hbx
  have hr4 : TabAt ((w2.alloc (.cells Try.zeroCells68 68)).setRow w2.heap.size (tabV (tabOf [[]]))) w.heap.size (fun _ => false) :=
    ((setRow_below (Below.refl (w.heap.size + 1) _) (show w.heap.size + 1 ≤ w2.heap.size by omega) _).block w.heap.size (by omega)).trans hr3
  have ht4 : TabAt ((w2.alloc (.cells Try.zeroCells68 68)).setRow w2.heap.size (tabV (tabOf [[]]))) w2.heap.size (tabOf (allP 0 k)) := setRow_same hz3
  have hbw4 : Below w.heap.size w ((w2.alloc (.cells Try.zeroCells68 68)).setRow w2.heap.size (tabV (tabOf [[]]))) := setRow_below (hbw2.trans (hbx.mono hbw2.size)) (by omega) _
  have HI : Hid ((Try.prog.info? 68).map (·.size) = some (tabV (tabOf [[]])).size) := Lib.hid (by rw [tabV_size]; exact tab_info)
  have HO := Lib.hid (tabV_one (tabOf [[]]))
  have HSZ2 := Lib.hid (show (tabV fun _ => false).size = (tabV (tabOf [[]])).size by rw [tabV_size, tabV_size])
  have HZ3 := Lib.hid hz3
  have HR4 := Lib.hid hr4
  have HT4 := Lib.hid ht4
  have HBW := Lib.hid hbw4
  clear hco hr2 hbw2 hbx hz3 hr3 hr4 ht4 hbw4 HR0 HB0 HSZ hb2
  generalize tabV (tabOf [[]]) = c0 at *
  go_wp2_with (refine wpList_store_row rfl 68 (.tmp 5) (.tmp 9) rfl w2.heap.size c0 rfl rfl _ _ HZ3.out HI.out HSZ2.out HO.out ?_)
  generalize (w2.alloc (.cells Try.zeroCells68 68)).setRow w2.heap.size c0 = w4 at HR4 HT4 HBW ⊢
  clear HZ3 HI HSZ2 HO
  go_loopw [6, 11] (fun _ i wr => ∃ (j : Nat), j ≤ n ∧ i = .int .i64 j ∧ Hid (TabAt wr w2.heap.size (tabOf (allP j k))) ∧ Hid (TabAt wr w.heap.size (fun _ => false)) ∧ Hid (Below w.heap.size w wr)) (fun _ i _ => n - (intOf i).toNat)
  case atStart => exact ⟨0, by omega, rfl, HT4, HR4, HBW⟩
  case round =>
    clear HT4 HR4 HBW
    obtain ⟨j, hj, rfl, hT, hR, hb⟩ := hrel
    by_cases hlt : j < n
    · have hwd := widened_any (tabOf (allP j k)) j k (by omega) hk (tabOf_ok all_mem) wr
      have hT' := hT.out
      unfold TabAt at hT'
      have HT := Lib.hid hT'
      have HI : Hid ((Try.prog.info? 68).map (·.size) = some (tabV (tabOf (allP j k))).size) := Lib.hid (by rw [tabV_size]; exact tab_info)
      have HNX := Lib.hid (fun c (hc : c < 4096) => wid_tab (k := (k : Int)) (by omega) (by omega) (show j ≤ 3 by omega) all_mem c)
      clear hT hT'
      have HTV : Hid (tabV (widF j k (tabOf (allP j k))) = tabV (tabOf (allP (j + 1) k))) := Lib.hid (tabV_ext fun i hi => HNX.out i hi)
      unfold TabP at hwd
      rw [HTV.out] at hwd
      have HSZ2 := Lib.hid (show (tabV (tabOf (allP j k))).size = (tabV (tabOf (allP (j + 1) k))).size by rw [tabV_size, tabV_size])
      have HI2 : Hid ((Try.prog.info? 68).map (·.size) = some (tabV (tabOf (allP (j + 1) k))).size) := Lib.hid (by rw [tabV_size]; exact tab_info)
      have HO := Lib.hid (tabV_one (tabOf (allP (j + 1) k)))
      have HFIN := Lib.hid (fun (W : World) (old : Array Value) (h : W.heap[w2.heap.size]? = some (.cells old 68 (0, 0))) => show TabAt (W.setRow w2.heap.size (tabV (tabOf (allP (j + 1) k)))) w2.heap.size (tabOf (allP (j + 1) k)) from setRow_same h)
      clear HTV HNX
      generalize tabV (tabOf (allP j k)) = c1 at *
      generalize tabV (tabOf (allP (j + 1) k)) = c2 at *
      go_wp2_with (refine wpList_load_row rfl 68 (.tmp 5) rfl w2.heap.size rfl _ c1 _ _ HT.out Try.underlying68 rfl HI.out ?_)
      refine hwd.mono ?_
      rintro e w5 ⟨rfl, hb5⟩
      have ht5 := (hb5.block w2.heap.size (OrbK.box_lt HT.out)).trans HT.out
      have hr5 := hR.out.below hb5
      have hb6 := hb.out.trans (hb5.mono hb.out.size)
      have HT5 := Lib.hid ht5
      have HT6 := Lib.hid (HFIN.out w5 _ ht5)
      have HR6 : Hid (TabAt (w5.setRow w2.heap.size c2) w.heap.size (fun _ => false)) := Lib.hid (((setRow_below (Below.refl (w.heap.size + 1) w5) (show w.heap.size + 1 ≤ w2.heap.size by omega) _).block w.heap.size (by omega)).trans hr5)
      have HB6 := Lib.hid (setRow_below hb6 (show w.heap.size ≤ w2.heap.size by omega) c2)
      clear hwd HT hR hb hb5 ht5 hr5 hb6 HI HFIN
      go_wp2_with (refine wpList_store_row rfl 68 (.tmp 5) (.tmp 17) rfl w2.heap.size c2 rfl rfl _ _ HT5.out HI2.out HSZ2.out HO.out ?_)
      refine ⟨⟨j + 1, by omega, by go_num, HT6, HR6, HB6⟩, ?_⟩
      simp only [intOf]
      omega
    · have e : j = n := by omega
      subst e
      have ht' := hT.out
      have hr' := hR.out
      unfold TabAt at ht' hr'
      have HI : Hid ((Try.prog.info? 68).map (·.size) = some (tabV (tabOf (allP j k))).size) := Lib.hid (by rw [tabV_size]; exact tab_info)
      have HT := Lib.hid ht'
      have HR := Lib.hid hr'
      have hres := Lib.hid (setRow_same (cs := tabV (tabOf (allP j k))) hr')
      have hbF := setRow_below hb.out (Nat.le_refl _) (tabV (tabOf (allP j k)))
      have HO := Lib.hid (tabV_one (tabOf (allP j k)))
      have HSZ := Lib.hid (show (tabV fun _ => false).size = (tabV (tabOf (allP j k))).size by rw [tabV_size, tabV_size])
      clear ht' hr' hT hR hb
      generalize hds : tabV (tabOf (allP j k)) = ds at *
      have HDS := Lib.hid hds
      clear hds
      go_wp2_with (first
        | (refine wpList_load_row rfl 68 (.tmp 5) rfl w2.heap.size rfl _ ds _ _ HT.out Try.underlying68 rfl HI.out ?_)
        | (refine wpList_store_row rfl 68 (.tmp 4) (.tmp 19) rfl w.heap.size ds rfl rfl _ _ HR.out HI.out HSZ.out HO.out ?_))
      exact bodyPost_ret (v := .agg ds) (results_cell_row rfl _ _ _ _ _ _ _ rfl hres.out Try.underlying68 rfl HI.out) rfl ⟨by rw [HDS.out], hbF⟩
end Go.Proofs.Ythjkogighppeaaa
end

section
namespace Go.Proofs.Ythjkogighppeaaa
open Go.RowKit Go.Sort
set_option linter.unusedVariables false

/-- The cells of a table, as a list. -/
def tabL (f : Nat → Bool) : List Value := (List.range 4096).map fun i => .bool (f i)
theorem tabV_L (f : Nat → Bool) : tabV f = (tabL f).toArray := rfl
theorem tabL_len (f : Nat → Bool) : (tabL f).length = 4096 := by simp [tabL]
theorem tabL_one (f : Nat → Bool) : ∀ v ∈ tabL f, v.oneCell' = true := by
  intro v hv
  simp [tabL] at hv
  obtain ⟨i, _, rfl⟩ := hv
  rfl
theorem range_of {w : World} {g : Nat} {L : List Value} {t : TypeId} (h : w.heap[g]? = some (.cells L.toArray t (0, 0))) : w.rangeAt g 0 L := fun j v hv => by
  rw [cell_of_row w g _ _ _ _ h, Nat.zero_add]
  simpa using hv

theorem orb_done {w wr : World} {r : Nat} {n : Int} {cs : List Int} {R : List (List Int)} {A1 A2 : Option Addr} {c1 c2 : Nat} {S1 U : List Nat} (hK : Own wr S1 (.slice A1 cs.length c1) (intMem cs)) (hU : Own wr U (.slice A2 R.length c2) (rowsMem R))
    (hd : ∀ b ∈ S1, b ∉ U) (hb : Below w.heap.size w wr) (hr : w.heap.size ≤ r) (hS : ∀ b ∈ S1, w.heap.size ≤ b ∧ b ≠ r) (hUb : ∀ b ∈ U, w.heap.size ≤ b ∧ b ≠ r) :
    OrbOut n cs R w (.returned (.agg #[.int .i64 n, .slice A1 cs.length c1, .slice A2 R.length c2])) (((wr.setCell ⟨r, 0, none⟩ (.int .i64 n)).setCell ⟨r, 1, none⟩ (.slice A1 cs.length c1)).setCell ⟨r, 2, none⟩ (.slice A2 R.length c2)) := by
  have hL := orb_ownL (z := n) hK hU hd
  have hLb : ∀ b ∈ S1 ++ (U ++ []), w.heap.size ≤ b ∧ b ≠ r := fun b hb => by
    rw [List.append_nil] at hb
    rcases List.mem_append.1 hb with h | h
    · exact hS b h
    · exact hUb b h
  have onF : Only [r] wr (((wr.setCell ⟨r, 0, none⟩ (.int .i64 n)).setCell ⟨r, 1, none⟩ (.slice A1 cs.length c1)).setCell ⟨r, 2, none⟩ (.slice A2 R.length c2)) := (((Only.refl _ _).set ⟨r, 0, none⟩ _ (by simp)).set ⟨r, 1, none⟩ _ (by simp)).set ⟨r, 2, none⟩ _ (by simp)
  have hbF : Below w.heap.size w (((wr.setCell ⟨r, 0, none⟩ (.int .i64 n)).setCell ⟨r, 1, none⟩ (.slice A1 cs.length c1)).setCell ⟨r, 2, none⟩ (.slice A2 R.length c2)) := ((hb.setCell (p := ⟨r, 0, none⟩) hr _).setCell (p := ⟨r, 1, none⟩) hr _).setCell (p := ⟨r, 2, none⟩) hr _
  exact ⟨A1, c1, A2, c2, _, rfl, hL.alike fun bb hbb => onF.block bb (hL.lt bb hbb) (by have := (hLb bb hbb).2; simpa using this), fun b hb => (hLb b hb).1, hbF⟩

theorem range_set3 {w : World} {g r : Nat} {L : List Value} (h : w.rangeAt g 0 L) (hne : g ≠ r) (a b c : Value) : (((w.setCell ⟨r, 0, none⟩ a).setCell ⟨r, 1, none⟩ b).setCell ⟨r, 2, none⟩ c).rangeAt g 0 L := fun j v hv => by
  have h1 := h j v hv
  unfold World.cell? at h1 ⊢
  simp only at h1 ⊢
  rw [heap_setCell_other _ _ _ _ (by simpa using hne), heap_setCell_other _ _ _ _ (by simpa using hne), heap_setCell_other _ _ _ _ (by simpa using hne)]
  exact h1
theorem z3At {w : World} {r : Nat} {a b c : Value} {T : TypeId} (h : w.heap[r]? = some (.cells #[a, b, c] T (0, 0))) : w.frozen? ⟨r, 0, none⟩ = false ∧ w.frozen? ⟨r, 1, none⟩ = false ∧ w.frozen? ⟨r, 2, none⟩ = false := ⟨frozen_of_row _ _ 0 _ _ h, frozen_of_row _ _ 1 _ _ h, frozen_of_row _ _ 2 _ _ h⟩

set_option maxRecDepth 100000 in
set_option maxHeartbeats 4000000 in
theorem setOfCodes_any (f : Nat → Bool) (n : Nat) (hn : n ≤ 4) (cs : List Int) (hcs : cs.length ≤ 1000) (A : Option Addr) (c : Nat) (w : World) (hA : IntsAt w A cs) :
    Calls Try.prog 56 #[.slice A cs.length c, .int .i64 (n : Int), .agg (tabV f)] w (OrbOut n cs (patsOf n f) w) := by
  have hi : (Try.prog.info? 68).map (·.size) = some (tabL f).length := by rw [tabL_len]; exact tab_info
  have hone := tabL_one f
  have hlen := tabL_len f
  have hpa := fun W => patterns_any f n hn W
  rw [tabV_L] at hpa ⊢
  generalize patsOf n f = R at *
  generalize tabL f = L at *
  have hbw : Below w.heap.size w (((w.alloc (.cells L.toArray 68)).alloc (.cells #[.int .i64 0, .slice none 0 0, .slice none 0 0] 29)).drew) := (((Below.refl _ _).alloc (Nat.le_refl _) _).alloc (by simp) _).trans ⟨rfl, rfl, rfl, Nat.le_refl _, fun _ _ => rfl⟩
  have hT : (((w.alloc (.cells L.toArray 68)).alloc (.cells #[.int .i64 0, .slice none 0 0, .slice none 0 0] 29)).drew).heap[w.heap.size]? = some (.cells L.toArray 68 (0, 0)) := (Below.heap_alloc _ _ _ (by simp)).trans (heap_alloc_new w _)
  have hR : (((w.alloc (.cells L.toArray 68)).alloc (.cells #[.int .i64 0, .slice none 0 0, .slice none 0 0] 29)).drew).heap[w.heap.size + 1]? = some (.cells #[.int .i64 0, .slice none 0 0, .slice none 0 0] 29 (0, 0)) := by
    have h := heap_alloc_new (w.alloc (.cells L.toArray 68)) (.cells #[.int .i64 0, .slice none 0 0, .slice none 0 0] 29)
    rw [World.size_alloc] at h
    exact h
  have hsz : (((w.alloc (.cells L.toArray 68)).alloc (.cells #[.int .i64 0, .slice none 0 0, .slice none 0 0] 29)).drew).heap.size = w.heap.size + 2 := by simp
  have hcl := clone_any A c cs (((w.alloc (.cells L.toArray 68)).alloc (.cells #[.int .i64 0, .slice none 0 0, .slice none 0 0] 29)).drew) (hA.below hbw) (by omega)
  have hrg := range_of hT
  have hu := Try.underlying68
  have HBW := Lib.hid hbw
  have HT := Lib.hid hT
  have HR := Lib.hid hR
  have HSZ := Lib.hid hsz
  have HPA := Lib.hid hpa
  clear hA hbw hT hR hsz hpa
  go_enter Try.func56, Try.ntmps56
  go_wp2
  go_region_held3 (fun w' => w'.rangeAt w.heap.size 0 L)
    (with_reducible assumption)
    (first
      | (go_at_call 46; refine hcl.mono ?_; rintro e w4 ⟨v4, rfl, ho4, hb4⟩; have hT4 := (hb4.block w.heap.size (by rw [HSZ.out]; omega)).trans HT.out; have hR4 := (hb4.block (w.heap.size + 1) (by rw [HSZ.out]; omega)).trans HR.out; have hrg4 := range_of hT4; have hpa4 := HPA.out w4)
      | (go_at_call 51; refine hpa4.mono ?_; rintro e w5 ⟨v5, S5, rfl, hO5, hS5, hb5⟩; have hT5 := (hb5.block w.heap.size (OrbK.box_lt hT4)).trans hT4; have hR5 := (hb5.block (w.heap.size + 1) (OrbK.box_lt hR4)).trans hR4; have hrg5 := range_of hT5; obtain ⟨S4, hO4, hS4, _⟩ := own_intRow ho4; obtain ⟨A4, c4, rfl, _⟩ := own_intSlice hO4; obtain ⟨A5, c5, rfl⟩ := RowsIn.form (ls := R) hO5.at_; obtain ⟨x0, x1, x2⟩ := OrbK.row3 hR5; obtain ⟨y0, y1, y2⟩ := z3At hR5; have hrg6 := range_set3 hrg5 (show w.heap.size ≠ w.heap.size + 1 by omega) (.int .i64 (n : Int)) (.slice A4 cs.length c4) (.slice A5 R.length c5))
      | fail)
  rw [HSZ.out] at hS4
  have hbw4 := HBW.out.trans (hb4.mono HBW.out.size)
  have hz4 : w.heap.size + 2 ≤ w4.heap.size := by have := hb4.size; rw [HSZ.out] at this; exact this
  have hlt4 : ∀ b ∈ S4, b < w4.heap.size := fun b hb => hO4.lt b hb
  have hpost := orb_done (n := (n : Int)) (r := w.heap.size + 1) (hO4.keep hb5) hO5 (fun b h1 h2 => by have h3 := hlt4 b h1; have h4 := hS5 b h2; omega) (hbw4.trans (hb5.mono hbw4.size)) (by omega) (fun b h => by have := hS4 b h; omega) (fun b h => by have := hS5 b h; omega)
  clear hcl hpa4 hO4 hO5 hS4 hS5 hb4 hb5 hlt4 hbw4 HBW HT HR HSZ HPA hT4 hR4 hT5 hR5 hrg hrg4 hrg5 hrg6 ho4 hu hi hone hlen
  go_wp2
  exact bodyPost_ret (v := .agg #[.int .i64 (n : Int), .slice A4 cs.length c4, .slice A5 R.length c5]) (by simp [results, Try.results56, go_sem, x0, x1, x2]) rfl hpost
end Go.Proofs.Ythjkogighppeaaa
end

section
namespace Go.Proofs.Ythjkogighppeaaa
open Go.RowKit Go.Sort
set_option linter.unusedVariables false

theorem orb_pass {w wr : World} {r : Nat} {n : Int} {cs : List Int} {R : List (List Int)} {A1 A2 : Option Addr} {c1 c2 : Nat} {S : List Nat} (hL : OwnL wr S [.int .i64 n, .slice A1 cs.length c1, .slice A2 R.length c2] (encO n cs R))
    (hb : Below w.heap.size w wr) (hr : w.heap.size ≤ r) (hS : ∀ b ∈ S, w.heap.size ≤ b ∧ b ≠ r) :
    OrbOut n cs R w (.returned (.agg #[.int .i64 n, .slice A1 cs.length c1, .slice A2 R.length c2])) (((wr.setCell ⟨r, 0, none⟩ (.int .i64 n)).setCell ⟨r, 1, none⟩ (.slice A1 cs.length c1)).setCell ⟨r, 2, none⟩ (.slice A2 R.length c2)) := by
  have onF : Only [r] wr (((wr.setCell ⟨r, 0, none⟩ (.int .i64 n)).setCell ⟨r, 1, none⟩ (.slice A1 cs.length c1)).setCell ⟨r, 2, none⟩ (.slice A2 R.length c2)) := (((Only.refl _ _).set ⟨r, 0, none⟩ _ (by simp)).set ⟨r, 1, none⟩ _ (by simp)).set ⟨r, 2, none⟩ _ (by simp)
  have hbF : Below w.heap.size w (((wr.setCell ⟨r, 0, none⟩ (.int .i64 n)).setCell ⟨r, 1, none⟩ (.slice A1 cs.length c1)).setCell ⟨r, 2, none⟩ (.slice A2 R.length c2)) := ((hb.setCell (p := ⟨r, 0, none⟩) hr _).setCell (p := ⟨r, 1, none⟩) hr _).setCell (p := ⟨r, 2, none⟩) hr _
  exact ⟨A1, c1, A2, c2, _, rfl, hL.alike fun bb hbb => onF.block bb (hL.lt bb hbb) (by have := (hS bb hbb).2; simpa using this), fun b hb => (hS b hb).1, hbF⟩

set_option maxRecDepth 100000 in
set_option maxHeartbeats 4000000 in
theorem setOfTuples_any (n : Nat) (hn : n ≤ 4) (cs : List Int) (hcs : cs.length ≤ 3) (ts : List (List Int)) (htl : ts.length ≤ 2097152) (htn : ∀ i, i < ts.length → (rwAt ts i).length = n) (A B : Option Addr) (c d : Nat) (w : World) (hA : IntsAt w A cs) (hB : RowsIn w (.slice B ts.length d) ts) :
    Calls Try.prog 28 #[.slice A cs.length c, .int .i64 (n : Int), .slice B ts.length d] w (OrbOut n cs (thoseL n cs.length (patsL cs ts)) w) := by
  have hr0 := heap_alloc_new w (.cells #[.int .i64 0, .slice none 0 0, .slice none 0 0] 29)
  have hb0 : Below w.heap.size w (w.alloc (.cells #[.int .i64 0, .slice none 0 0, .slice none 0 0] 29)) := (Below.refl _ _).alloc (Nat.le_refl _) _
  have hbx : Below (w.alloc (.cells #[.int .i64 0, .slice none 0 0, .slice none 0 0] 29)).heap.size (w.alloc (.cells #[.int .i64 0, .slice none 0 0, .slice none 0 0] 29)) ((w.alloc (.cells #[.int .i64 0, .slice none 0 0, .slice none 0 0] 29)).alloc (.cells Try.zeroCells68 68)) := (Below.refl _ _).alloc (Nat.le_refl _) _
  have hr1 := (hbx.block w.heap.size (by simp)).trans hr0
  have hb1 := hb0.trans (hbx.mono hb0.size)
  have ht0 : TabAt ((w.alloc (.cells #[.int .i64 0, .slice none 0 0, .slice none 0 0] 29)).alloc (.cells Try.zeroCells68 68)) (w.heap.size + 1) (tabOf ((patsL cs ts).take 0)) := by
    have h := heap_alloc_new (w.alloc (.cells #[.int .i64 0, .slice none 0 0, .slice none 0 0] 29)) (.cells Try.zeroCells68 68)
    rw [World.size_alloc] at h
    unfold TabAt
    rw [h, tab_zero]
    rfl
  have HA := Lib.hid hA
  have HB := Lib.hid hB
  have HTN := Lib.hid htn
  have H1 := Lib.hid hr1
  have H0 := Lib.hid ht0
  clear hA hB htn hr0 hb0 hbx hr1 ht0
  go_enter Try.func28, Try.ntmps28
  go_wp2_with fail
  generalize (w.alloc (.cells #[.int .i64 0, .slice none 0 0, .slice none 0 0] 29)).alloc (.cells Try.zeroCells68 68) = w1 at H0 H1 hb1 ⊢
  go_loopw [9, 12] (fun _ i wr => ∃ k : Nat, k ≤ ts.length ∧ i = .int .i64 k ∧ Hid (TabAt wr (w.heap.size + 1) (tabOf ((patsL cs ts).take k))) ∧ Hid (wr.heap[w.heap.size]? = some (.cells #[.int .i64 0, .slice none 0 0, .slice none 0 0] 29 (0, 0))) ∧ Below w.heap.size w wr) (fun _ i _ => ts.length - (intOf i).toNat)
  case atStart => exact ⟨0, Nat.zero_le _, rfl, H0, H1, hb1⟩
  case round =>
    clear H0 H1 hb1
    obtain ⟨k, hk, rfl, ht, hr, hb⟩ := hrel
    by_cases hlt : k < ts.length
    · obtain ⟨b1, o1, rfl, hb1, hc1⟩ := (HB.out.below hb).get (by omega)
      obtain ⟨A1, c1, e1, hA1⟩ := hc1 k hlt
      have htk := HTN.out k hlt
      have hpi := patternIn_any A A1 c c1 cs (rwAt ts k) wr (HA.out.below hb) hA1 (by omega) (by omega)
      have hpm := patL_mem (cs := cs) htk
      obtain ⟨hpl, hpd⟩ := dig_allP (k := (cs.length : Int)) (by omega) (by omega) hn hpm
      have hs := code_4096 (k := (cs.length : Int)) (by omega) (by omega) hn hpm
      have hco := fun (A' : Option Addr) (c' : Nat) (W : World) (h : IntsAt W A' (patL cs (rwAt ts k))) => codeOf_any A' c' (patL cs (rwAt ts k)) W h (by omega) hpd
      have hstep := Lib.hid (fun i => tabOf_take (m := patsL cs ts) (k := k) (by rw [patsL_len]; exact hlt) i)
      rw [patsL_at hlt] at hstep
      have HCO := Lib.hid hco
      have hpl4 : (patL cs (rwAt ts k)).length ≤ 4 := by omega
      have hrl4 : (rwAt ts k).length ≤ 4 := by omega
      clear htk hpm hpl hpd hco hc1 hA1
      generalize patL cs (rwAt ts k) = p at *
      generalize rwAt ts k = t at *
      go_wp2_with fail
      refine hpi.mono ?_
      rintro e w3 ⟨v3, rfl, ho3, hb3⟩
      obtain ⟨A3, c3, rfl, hA3⟩ := own_intsAt ho3
      have hco3 := HCO.out A3 c3 w3 hA3
      have ht3 := ht.out.below hb3
      have hr3 := (hb3.block w.heap.size (OrbK.box_lt hr.out)).trans hr.out
      have hb4 := hb.trans (hb3.mono hb.size)
      have hst := ht3.set_ hs true
      have hst2 : Hid (TabAt (w3.setCell ⟨w.heap.size + 1, codeP p, none⟩ (.bool true)) (w.heap.size + 1) (tabOf ((patsL cs ts).take (k + 1)))) := Lib.hid (hst.ext fun i _ => hstep.out i)
      have hcl := ht3.cell hs
      have hfz := ht3.frozen (codeP p)
      have hr2 : Hid ((w3.setCell ⟨w.heap.size + 1, codeP p, none⟩ (.bool true)).heap[w.heap.size]? = some (.cells #[.int .i64 0, .slice none 0 0, .slice none 0 0] 29 (0, 0))) := Lib.hid ((heap_setCell_other _ _ _ _ (by simp)).trans hr3)
      have hb5 : Below w.heap.size w (w3.setCell ⟨w.heap.size + 1, codeP p, none⟩ (.bool true)) := hb4.setCell (by simp) _
      generalize tabOf ((patsL cs ts).take k) (codeP p) = bb at hcl
      generalize codeP p = x at hco3 hs hst2 hcl hfz hr2 hb5
      clear hst ht hr hb hpi HCO hA3 ho3 hb3 ht3 hr3 hb4 hstep e1
      go_wp2_with (go_at_call 54; refine hco3.mono ?_; rintro e w4 ⟨rfl, rfl⟩)
      clear hco3 hcl hfz
      refine ⟨⟨k + 1, by omega, by go_num, hst2, hr2, hb5⟩, ?_⟩
      simp only [intOf]
      omega
    · have e : k = ts.length := by omega
      subst e
      have ht' := ht.out
      rw [← patsL_len cs ts, List.take_length] at ht'
      have hso := setOfCodes_any (tabOf (patsL cs ts)) n hn cs (by omega) A c wr (HA.out.below hb)
      rw [patsOf_tabOf (k := (cs.length : Int)) (by omega) (by omega) hn (patsL_mem HTN.out)] at hso
      unfold TabAt at ht'
      have HI : Hid ((Try.prog.info? 68).map (·.size) = some (tabV (tabOf (patsL cs ts))).size) := Lib.hid (by rw [tabV_size]; exact tab_info)
      have HT := Lib.hid ht'
      clear ht' ht HTN
      generalize tabV (tabOf (patsL cs ts)) = ds at *
      generalize thoseL n cs.length (patsL cs ts) = R at *
      go_wp2_with (first
        | (refine wpList_load_row rfl 68 (.tmp 7) rfl (w.heap.size + 1) rfl _ ds _ _ HT.out Try.underlying68 rfl HI.out ?_)
        | (go_at_call 56; refine hso.mono ?_; rintro e w5 ⟨A4, c4, A5, c5, S5, rfl, hL5, hS5, hb5⟩; have hr5 := (hb5.block w.heap.size (OrbK.box_lt hr.out)).trans hr.out; obtain ⟨x0, x1, x2⟩ := OrbK.row3 hr5; obtain ⟨y0, y1, y2⟩ := z3At hr5))
      have hpost := orb_pass (r := w.heap.size) hL5 (hb.trans (hb5.mono hb.size)) (Nat.le_refl _) (fun b h => by have h1 := hS5 b h; have h2 := OrbK.box_lt hr.out; omega)
      clear hso hL5 hS5 hb5 hr5 hb HT HI hr
      go_wp2
      exact bodyPost_ret (v := .agg #[.int .i64 (n : Int), .slice A4 cs.length c4, .slice A5 R.length c5]) (by simp [results, Try.results28, go_sem, x0, x1, x2]) rfl hpost
end Go.Proofs.Ythjkogighppeaaa
end

section
namespace Go.Proofs.Ythjkogighppeaaa
open Go.RowKit Go.Sort
set_option linter.unusedVariables false

/-- An orbit set and a bool. -/
def OrbBOut (z : Int) (l : List Int) (m : List (List Int)) (b : Bool) (w : World) (e : Ending) (w' : World) : Prop :=
  ∃ A1 c1 A2 c2 S, e = .returned (.tuple #[.agg #[.int .i64 z, .slice A1 l.length c1, .slice A2 m.length c2], .bool b]) ∧
    OwnL w' S [.int .i64 z, .slice A1 l.length c1, .slice A2 m.length c2] (encO z l m) ∧ (∀ b ∈ S, w.heap.size ≤ b) ∧ Below w.heap.size w w'
theorem orbB_of {z : Int} {l : List Int} {m : List (List Int)} {w w' : World} {A1 A2 : Option Addr} {c1 c2 : Nat} (b : Bool) (h : OrbOut z l m w (.returned (.agg #[.int .i64 z, .slice A1 l.length c1, .slice A2 m.length c2])) w') :
    OrbBOut z l m b w (.returned (.tuple #[.agg #[.int .i64 z, .slice A1 l.length c1, .slice A2 m.length c2], .bool b])) w' := by
  obtain ⟨A1', c1', A2', c2', S, e, hL, hS, hb⟩ := h
  injection e with e
  injection e with e
  simp only [Array.mk.injEq, List.cons.injEq, Value.slice.injEq, and_true, true_and] at e
  obtain ⟨⟨rfl, rfl⟩, rfl, rfl⟩ := e
  exact ⟨A1, c1, A2, c2, S, rfl, hL, hS, hb⟩
theorem orbB_zero {w w' : World} (hb : Below w.heap.size w w') : OrbBOut 0 [] [] false w (.returned (.tuple #[.agg #[.int .i64 0, .slice none 0 0, .slice none 0 0], .bool false])) w' := by
  have h1 : Own w' [] (.slice none 0 0) (intMem []) := .nil _ _
  have h2 : Own w' [] (.slice none 0 0) (rowsMem []) := .nil _ _
  exact ⟨none, 0, none, 0, _, rfl, orb_ownL (z := 0) (l := []) (m := []) h1 h2 (fun b hb => by simp at hb), fun b hb => by simp at hb, hb⟩
def ozR (b : Bool) (z : Int) : Int := if b then z else 0
def olR (b : Bool) (l : List Int) : List Int := if b then l else []
def omR (b : Bool) (m : List (List Int)) : List (List Int) := if b then m else []

end Go.Proofs.Ythjkogighppeaaa
end

section
namespace Go.Proofs.Ythjkogighppeaaa
open Go.RowKit
set_option linter.unusedVariables false

/-- What is kept of all patterns is told by itself. -/
theorem thoseL_filter (n : Nat) (k : Int) (f : List Int → Bool) : thoseL n k ((allP n k).filter f) = (allP n k).filter f := by
  unfold thoseL
  refine List.filter_congr fun p hp => ?_
  rw [Bool.eq_iff_iff, there_mem, List.mem_filter]
  exact ⟨fun h => h.2, fun h => ⟨hp, h⟩⟩
end Go.Proofs.Ythjkogighppeaaa
end

section
namespace Go.Proofs.Ythjkogighppeaaa
open Go.RowKit
set_option linter.unusedVariables false

theorem itAt_take {xs : List Int} {i k : Nat} (h : i < k) : itAt (xs.take k) i = itAt xs i := by
  unfold itAt
  rw [List.getD_eq_getElem?_getD, List.getD_eq_getElem?_getD, List.getElem?_take, if_pos h]
theorem idx_append {s r : List Int} {a : Int} (h : a ∈ s) : (s ++ r).idxOf a = s.idxOf a := by
  rw [List.idxOf_append, if_pos h]
theorem idx_snoc_new {s : List Int} {a : Int} (h : a ∉ s) : (s ++ [a]).idxOf a = s.length := by
  rw [List.idxOf_append, if_neg h]
  simp
theorem idx_eq {s : List Int} {a b : Int} (ha : a ∈ s) (hb : b ∈ s) (e : s.idxOf a = s.idxOf b) : a = b := by
  have h1 := idx_at (hasB_mem.2 ha)
  have h2 := idx_at (hasB_mem.2 hb)
  rw [← h1, ← h2, e]
/-- What stands in the pattern so far, and what has been seen so far. -/
theorem pat_seen (cs xs : List Int) : ∀ k, k ≤ xs.length → (∃ r, seenL cs (xs.take k) = cs ++ r) ∧ (∀ a, a ∈ seenL cs (xs.take k) ↔ a ∈ cs ∨ ∃ j, j < k ∧ itAt xs j = a) ∧
    ∀ i, i < k → itAt (patL cs (xs.take k)) i = ((seenL cs (xs.take k)).idxOf (itAt xs i) : Nat)
  | 0, _ => by
    refine ⟨⟨[], by simp [seenL, patF]⟩, fun a => ?_, fun i hi => by omega⟩
    simp [seenL, patF]
  | k + 1, hk => by
    obtain ⟨⟨r, h1⟩, h2, h3⟩ := pat_seen cs xs k (by omega)
    have hl : (patL cs (xs.take k)).length = k := by rw [patL_len, List.length_take]; omega
    have hin : ∀ i, i < k → itAt xs i ∈ seenL cs (xs.take k) := fun i hi => (h2 _).2 (.inr ⟨i, hi, rfl⟩)
    rw [patL_next (by omega)]
    cases hs : hasB (seenL cs (xs.take k)) (itAt xs k) with
    | true =>
      rw [seenL_in (by omega) hs]
      refine ⟨⟨r, h1⟩, fun a => ?_, fun i hi => ?_⟩
      · rw [h2]
        constructor
        · rintro (h | ⟨j, hj, e⟩)
          · exact .inl h
          · exact .inr ⟨j, by omega, e⟩
        · rintro (h | ⟨j, hj, e⟩)
          · exact .inl h
          · by_cases hjk : j = k
            · subst hjk
              have := (h2 _).1 (hasB_mem.1 hs)
              rw [e] at this
              exact this
            · exact .inr ⟨j, by omega, e⟩
      · by_cases hik : i = k
        · subst hik
          conv => lhs; arg 2; rw [← hl]
          rw [itAt_snoc_eq]
        · rw [itAt_snoc_lt (by omega), h3 i (by omega)]
    | false =>
      rw [seenL_out (by omega) hs]
      have hn := hasB_not.1 hs
      refine ⟨⟨r ++ [itAt xs k], by rw [h1, List.append_assoc]⟩, fun a => ?_, fun i hi => ?_⟩
      · rw [List.mem_append, h2, List.mem_singleton]
        constructor
        · rintro ((h | ⟨j, hj, e⟩) | h)
          · exact .inl h
          · exact .inr ⟨j, by omega, e⟩
          · exact .inr ⟨k, by omega, h.symm⟩
        · rintro (h | ⟨j, hj, e⟩)
          · exact .inl (.inl h)
          · by_cases hjk : j = k
            · subst hjk; exact .inr e.symm
            · exact .inl (.inr ⟨j, by omega, e⟩)
      · by_cases hik : i = k
        · subst hik
          conv => lhs; arg 2; rw [← hl]
          rw [itAt_snoc_eq, idx_snoc_new hn, idx_out hs]
        · rw [itAt_snoc_lt (by omega), h3 i (by omega), idx_append (hin i (by omega))]

/-- No constant, and no other place, tells two tuples apart. -/
def Sim (cs t u : List Int) : Prop := t.length = u.length ∧ (∀ i j, i < t.length → j < t.length → (itAt t i = itAt t j ↔ itAt u i = itAt u j)) ∧ ∀ i, i < t.length → ∀ c ∈ cs, (itAt t i = c ↔ itAt u i = c)
theorem Sim.refl (cs t : List Int) : Sim cs t t := ⟨rfl, fun _ _ _ _ => Iff.rfl, fun _ _ _ _ => Iff.rfl⟩
theorem Sim.symm {cs t u : List Int} (h : Sim cs t u) : Sim cs u t := ⟨h.1.symm, fun i j hi hj => (h.2.1 i j (by have := h.1; omega) (by have := h.1; omega)).symm, fun i hi c hc => (h.2.2 i (by have := h.1; omega) c hc).symm⟩
theorem Sim.trans {cs t u v : List Int} (h : Sim cs t u) (k : Sim cs u v) : Sim cs t v := ⟨h.1.trans k.1, fun i j hi hj => (h.2.1 i j hi hj).trans (k.2.1 i j (by have := h.1; omega) (by have := h.1; omega)), fun i hi c hc => (h.2.2 i hi c hc).trans (k.2.2 i (by have := h.1; omega) c hc)⟩
theorem Sim.mono {cs ds t u : List Int} (h : Sim cs t u) (hd : ∀ c ∈ ds, c ∈ cs) : Sim ds t u := ⟨h.1, h.2.1, fun i hi c hc => h.2.2 i hi c (hd c hc)⟩

theorem sim_of_pat {cs t u : List Int} (h : patL cs t = patL cs u) : Sim cs t u := by
  have hl : t.length = u.length := by rw [← patL_len cs t, h, patL_len]
  obtain ⟨⟨r1, e1⟩, m1, p1⟩ := pat_seen cs t t.length (Nat.le_refl _)
  obtain ⟨⟨r2, e2⟩, m2, p2⟩ := pat_seen cs u u.length (Nat.le_refl _)
  rw [List.take_length] at e1 m1 p1 e2 m2 p2
  have i1 : ∀ i, i < t.length → itAt t i ∈ seenL cs t := fun i hi => (m1 _).2 (.inr ⟨i, hi, rfl⟩)
  have i2 : ∀ i, i < t.length → itAt u i ∈ seenL cs u := fun i hi => (m2 _).2 (.inr ⟨i, by omega, rfl⟩)
  have hp : ∀ i, i < t.length → (seenL cs t).idxOf (itAt t i) = (seenL cs u).idxOf (itAt u i) := fun i hi => by
    have h1 := p1 i hi
    have h2 := p2 i (by omega)
    rw [h] at h1
    rw [h1] at h2
    omega
  refine ⟨hl, fun i j hi hj => ⟨fun e => ?_, fun e => ?_⟩, fun i hi c hc => ?_⟩
  · refine idx_eq (i2 i hi) (i2 j hj) ?_
    rw [← hp i hi, ← hp j hj, e]
  · refine idx_eq (i1 i hi) (i1 j hj) ?_
    rw [hp i hi, hp j hj, e]
  · have c1 : c ∈ seenL cs t := (m1 c).2 (.inl hc)
    have c2 : c ∈ seenL cs u := (m2 c).2 (.inl hc)
    have x1 : (seenL cs t).idxOf c = cs.idxOf c := by rw [e1, idx_append hc]
    have x2 : (seenL cs u).idxOf c = cs.idxOf c := by rw [e2, idx_append hc]
    constructor
    · intro e
      refine idx_eq (i2 i hi) c2 ?_
      rw [← hp i hi, x2, ← x1, e]
    · intro e
      refine idx_eq (i1 i hi) c1 ?_
      rw [hp i hi, x1, ← x2, e]

theorem nodup_inj {V : List Int} (hV : V.Nodup) {i j : Nat} (hi : i < V.length) (hj : j < V.length) (e : itAt V i = itAt V j) : i = j := by
  rw [itAt_get _ _ hi, itAt_get _ _ hj] at e
  rcases Nat.lt_trichotomy i j with h | h | h
  · exact absurd e (List.pairwise_iff_getElem.1 hV i j hi hj h)
  · exact h
  · exact absurd e.symm (List.pairwise_iff_getElem.1 hV j i hj hi h)
/-- A list of different values: the example of a pattern has it. -/
theorem pat_ex_to {cs V p : List Int} (hV : V.Nodup) (hc : V.take cs.length = cs) (hp : isPatB cs.length p = true) (hl : cs.length + p.length ≤ V.length) : ∀ k, k ≤ p.length → patL cs (exL V (p.take k)) = p.take k ∧ seenL cs (exL V (p.take k)) = V.take (newN cs.length (p.take k)).toNat
  | 0, _ => by
    refine ⟨rfl, ?_⟩
    show cs = V.take ((cs.length : Int)).toNat
    rw [Int.toNat_natCast, hc]
  | k + 1, hk => by
    obtain ⟨h1, h2⟩ := pat_ex_to hV hc hp hl k (by omega)
    obtain ⟨h3, h4⟩ := isPat_at hp (i := k) (by omega)
    have h5 := newN_le (k := (cs.length : Int)) (p := p) (i := k) (by omega) (fun q hq => (isPat_at hp (by omega)).2)
    have h6 := newN_ge (cs.length : Int) (p.take k)
    have e0 : (exL V (p.take k)).length = k := by rw [exL_len, List.length_take]; omega
    have hE := exL_next (V := V) (p := p) (i := k) (by omega)
    have hP := itake_next (xs := p) (k := k) (by omega)
    have hN := newN_snoc (cs.length : Int) (p.take k) (itAt p k)
    generalize hEE : exL V (p.take (k + 1)) = E at hE ⊢
    have hel : E.length = k + 1 := by rw [hE, List.length_append, e0]; rfl
    have ht : E.take k = exL V (p.take k) := by rw [hE, List.take_append_of_le_length (by omega), List.take_of_length_le (by omega)]
    have hat : itAt E k = itAt V (itAt p k).toNat := by
      rw [hE]
      conv => lhs; arg 2; rw [← e0]
      rw [itAt_snoc_eq]
    have hful : E.take (k + 1) = E := List.take_of_length_le (by omega)
    have hpn := patL_next (cs := cs) (xs := E) (k := k) (by omega)
    rw [hful, ht, hat, h1, h2] at hpn
    rw [hpn, hP, hN]
    have hx : (itAt p k).toNat < V.length := by omega
    by_cases hlt : itAt p k < newN cs.length (p.take k)
    · have hid : (V.take (newN cs.length (p.take k)).toNat).idxOf (itAt V (itAt p k).toNat) = (itAt p k).toNat := by
        refine (idx_first (k := (itAt p k).toNat) (by rw [List.length_take]; omega) (by rw [itAt_take (by omega)]) fun j hj e => ?_).1
        rw [itAt_take (by omega)] at e
        have := nodup_inj hV (by omega) hx e
        omega
      have hmm : hasB (seenL cs (E.take k)) (itAt E k) = true := by
        rw [ht, hat, h2, hasB_mem, List.mem_iff_getElem]
        exact ⟨(itAt p k).toNat, by rw [List.length_take]; omega, by rw [List.getElem_take, itAt_get _ _ hx]⟩
      have hsn := seenL_in (cs := cs) (xs := E) (k := k) (by omega) hmm
      rw [hful, ht, h2] at hsn
      rw [hid, hsn]
      refine ⟨by rw [Int.toNat_of_nonneg h3], ?_⟩
      congr 2
      omega
    · have he : itAt p k = newN cs.length (p.take k) := by omega
      have hnm : itAt V (itAt p k).toNat ∉ V.take (newN cs.length (p.take k)).toNat := by
        rw [List.mem_iff_getElem]
        rintro ⟨j, hj, e⟩
        rw [List.length_take] at hj
        rw [List.getElem_take, ← itAt_get _ _ (by omega)] at e
        have := nodup_inj hV (by omega) hx e
        omega
      have hmm : hasB (seenL cs (E.take k)) (itAt E k) = false := by
        rw [ht, hat, h2, hasB_not]; exact hnm
      have hsn := seenL_out (cs := cs) (xs := E) (k := k) (by omega) hmm
      rw [hful, ht, hat, h2] at hsn
      rw [hsn, idx_out (hasB_not.2 hnm), List.length_take]
      refine ⟨by congr 2; omega, ?_⟩
      rw [show (max (newN (cs.length : Int) (p.take k)) (itAt p k + 1)).toNat = (newN (cs.length : Int) (p.take k)).toNat + 1 by omega, List.take_add_one]
      congr 1
      rw [he, itAt_get _ _ (by omega), List.getElem?_eq_getElem (by omega)]
      rfl
theorem pat_ex {cs V p : List Int} (hV : V.Nodup) (hc : V.take cs.length = cs) (hp : isPatB cs.length p = true) (hl : cs.length + p.length ≤ V.length) : patL cs (exL V p) = p := by
  have h := (pat_ex_to hV hc hp hl p.length (Nat.le_refl _)).1
  rwa [List.take_length] at h
theorem leastF_new {l : List Int} (h : l.length < 1000) : leastF l ∉ l := by
  rcases leastF_cases l with ⟨_, h2⟩ | ⟨a, _, h2, h3, _⟩
  · exfalso
    have hs : (List.range 1000).map (fun n : Nat => (n : Int)) ⊆ l := by
      intro x hx
      obtain ⟨n, hn, rfl⟩ := List.mem_map.1 hx
      exact hasB_mem.1 (h2 n (List.mem_range.1 hn))
    have hn : ((List.range 1000).map (fun n : Nat => (n : Int))).Nodup := List.Pairwise.map _ (fun a b (e : a ≠ b) => by intro h9; exact e (by omega)) List.nodup_range
    have := long_of _ _ hn (fun a ha => hs ha)
    simp at this
    omega
  · rw [h2]; exact hasB_not.1 h3
theorem numL_nodup {cs : List Int} (h : cs.Nodup) : ∀ j, cs.length + j ≤ 1000 → (numL cs j).Nodup
  | 0, _ => h
  | j + 1, hl => by
    have h1 := leastF_new (l := numL cs j) (by rw [numL_len]; omega)
    rw [numL, List.nodup_append]
    exact ⟨numL_nodup h j (by omega), by simp, fun a ha b hb e => by simp at hb; exact h1 (by rw [← hb, ← e]; exact ha)⟩
theorem numL_take (cs : List Int) : ∀ j, (numL cs j).take cs.length = cs
  | 0 => List.take_length
  | j + 1 => by rw [numL, List.take_append_of_le_length (by rw [numL_len]; omega), numL_take cs j]
/-- The example of a pattern has it. -/
theorem pat_exL {cs p : List Int} {n : Nat} (hc : cs.Nodup) (h3 : cs.length ≤ 3) (hn : n ≤ 4) (hp : p ∈ allP n cs.length) : patL cs (exL (numL cs 4) p) = p := by
  obtain ⟨h1, h2⟩ := (mem_allP (by omega)).1 hp
  exact pat_ex (numL_nodup hc 4 (by omega)) (numL_take cs 4) h2 (by rw [numL_len]; omega)
theorem Sim.ex {cs t : List Int} (hc : cs.Nodup) (h3 : cs.length ≤ 3) (hn : t.length ≤ 4) : Sim cs (exL (numL cs 4) (patL cs t)) t := sim_of_pat (pat_exL hc h3 hn (patL_mem rfl))
end Go.Proofs.Ythjkogighppeaaa
end

section
namespace Go.Proofs.Ythjkogighppeaaa
open Go.RowKit Go.Sort
set_option linter.unusedVariables false

def kB (k : Int) : Bool := decide (0 ≤ k ∧ k ≤ 3)
/-- The patterns of a width for k constants. -/
def patsR (z k : Int) : List (List Int) := if widB z && kB k then allP z.toNat k else []
theorem patsR_no1 {z k : Int} (h : widB z = false) : patsR z k = [] := by simp [patsR, h]
theorem patsR_no2 {z k : Int} (h : kB k = false) : patsR z k = [] := by simp [patsR, h]
theorem patsR_yes {z k : Int} (h : widB z = true) (h2 : kB k = true) : patsR z k = allP z.toNat k := by simp [patsR, h, h2]
theorem thoseL_all (n : Nat) (k : Int) : thoseL n k (allP n k) = allP n k := by
  unfold thoseL
  rw [List.filter_eq_self]
  exact fun p hp => there_mem.2 hp
theorem rowsOut_nil (w : World) : RowsOut [] w (.returned (.slice (some ⟨w.heap.size, 0, none⟩) 0 0)) (w.alloc (.cells #[] 26)) :=
  ⟨_, _, rfl, own_lit0 w, fun b h => by simp at h; omega, (Below.refl _ _).alloc (Nat.le_refl _) _⟩

set_option maxRecDepth 100000 in
set_option maxHeartbeats 2000000 in
theorem patternsOf_impl (z k : Int) (w : World) : Calls Try.prog 24 #[.int .i64 z, .int .i64 k] w (RowsOut (patsR z k) w) := by
  have hwi := isWidth_any z w
  cases hw : widB z with
  | false =>
    rw [hw] at hwi
    have hpost := rowsOut_nil w
    rw [patsR_no1 hw]
    clear hw
    go_enter Try.func24, Try.ntmps24
    go_wp2_with (go_at_call 49; refine hwi.mono ?_; rintro e w2 ⟨rfl, rfl⟩)
    go_ret
    exact hpost
  | true =>
    rw [hw] at hwi
    by_cases h0 : k < 0
    · have hk : kB k = false := by simp [kB]; omega
      have hpost := rowsOut_nil w
      rw [patsR_no2 hk]
      clear hw hk
      go_enter Try.func24, Try.ntmps24
      go_wp2_with (go_at_call 49; refine hwi.mono ?_; rintro e w2 ⟨rfl, rfl⟩)
      go_ret
      exact hpost
    · by_cases h3 : 3 < k
      · have hk : kB k = false := by simp [kB]; omega
        have hpost := rowsOut_nil w
        rw [patsR_no2 hk]
        clear hw hk
        go_enter Try.func24, Try.ntmps24
        go_wp2_with (go_at_call 49; refine hwi.mono ?_; rintro e w2 ⟨rfl, rfl⟩)
        go_ret
        exact hpost
      · have hk : kB k = true := by simp [kB]; omega
        have hz : 0 ≤ z ∧ z ≤ 4 := by simpa [widB] using hw
        rw [patsR_yes hw hk]
        obtain ⟨n, rfl⟩ : ∃ n : Nat, z = n := ⟨z.toNat, by omega⟩
        obtain ⟨q, rfl⟩ : ∃ q : Nat, k = q := ⟨k.toNat, by omega⟩
        have hac := allCodes_any n q (by omega) (by omega) w
        have hpa := fun W => patterns_any (tabOf (allP n q)) n (by omega) W
        have hE : patsOf n (tabOf (allP n q)) = allP n q := by rw [patsOf_tabOf (k := (q : Int)) (by omega) (by omega) (by omega) all_mem, thoseL_all]
        rw [hE] at hpa
        have hE2 : ((n : Int).toNat) = n := by omega
        rw [hE2]
        clear hw hk hz hE hE2
        generalize allP n q = P at *
        generalize tabOf P = f at *
        unfold TabP at hac
        generalize tabV f = cs at *
        go_enter Try.func24, Try.ntmps24
        go_wp2_with (first
          | (go_at_call 49; refine hwi.mono ?_; rintro e w2 ⟨rfl, rfl⟩)
          | (go_at_call 50; refine hac.mono ?_; rintro e w3 ⟨rfl, hb3⟩)
          | (go_at_call 51; refine (hpa _).mono ?_; rintro e w4 ⟨v4, S4, rfl, hO4, hS4, hb4⟩))
        have hpost : RowsOut P w (.returned v4) w4 := ⟨v4, S4, rfl, hO4, fun b hb => Nat.le_trans hb3.size (hS4 b hb), hb3.trans (hb4.mono hb3.size)⟩
        clear hac hpa hO4 hS4 hb4 hb3 hwi
        go_ret
        exact hpost

end Go.Proofs.Ythjkogighppeaaa
end

section
namespace Go.Proofs.Ythjkogighppeaaa
open Go.RowKit
set_option linter.unusedVariables false

theorem ex_at {cs : List Int} {P : List (List Int)} {i : Nat} (hi : i < P.length) : rwAt (exsL cs P) i = exL (numL cs 4) (rwAt P i) := by
  rw [rwAt_get _ _ (by rw [exsL_len]; exact hi), rwAt_get _ _ hi]
  simp [exsL]
end Go.Proofs.Ythjkogighppeaaa
end

