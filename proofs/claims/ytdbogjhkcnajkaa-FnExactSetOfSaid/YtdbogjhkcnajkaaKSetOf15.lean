/-
  Tables of codes in the program: the patterns of a table, tables with one place more, all patterns, as contracts. All patterns in the program and in the model: allCodes, PatternsOf, as contracts. An orbit set of a table, and of tuples: setOfCodes, setOfTuples in the program, as contracts. The orbit set of tuples: setOfTuples in the program, as a contract. SetOf in the program and in the model, as contracts.
-/
import Derived.Test.YtdbogjhkcnajkaaKSetOf12
import Derived.Test.YtdbogjhkcnajkaaKSetOf13
import Derived.Test.YtdbogjhkcnajkaaKSetOf14
import Derived.Test.YtdbogjhkcnajkaaKSetOf9
import Derived.Deep.RegionHeld3
import Derived.Deep.DrawnRows
import Derived.Deep.MidRow
import Derived.Test.YtdbogjhkcnajkaaKSetOf2
import Derived.Test.YtdbogjhkcnajkaaKSetOf10
section
namespace Go.Proofs.Ytdbogjhkcnajkaa
open Go.RowKit Go.Sort
set_option linter.unusedVariables false

theorem run_index_tab (f : Nat → Bool) (k : Nat) (hk : k < 4096) (w : World) : (Instr.index 72 (.agg (tabV f)) (.int .i64 (k : Int))).run Try.prog w = .ok (.bool (f k)) w := by
  have h1 : (0 : Int) ≤ (k : Int) ∧ (k : Int) < 4096 := by omega
  have h2 := tabV_at f hk
  generalize tabV f = cs at *
  simp [Instr.index, run_underlying Try.underlying72, asIntOf, h1, go_sem]
  rw [if_pos hk, h2]
  rfl

/-- The first k numbers that a table has, as patterns. -/
def patsK (n : Nat) (f : Nat → Bool) (k : Nat) : List (List Int) := ((List.range k).filter f).map (decP n)
theorem patsK_yes {n : Nat} {f : Nat → Bool} {k : Nat} (h : f k = true) : patsK n f (k + 1) = patsK n f k ++ [decP n k] := by
  unfold patsK
  rw [List.range_succ, List.filter_append, List.map_append]
  simp [h]
theorem patsK_no {n : Nat} {f : Nat → Bool} {k : Nat} (h : f k = false) : patsK n f (k + 1) = patsK n f k := by
  unfold patsK
  rw [List.range_succ, List.filter_append, List.map_append]
  simp [h]
theorem patsK_len (n : Nat) (f : Nat → Bool) (k : Nat) : (patsK n f k).length ≤ k := by
  unfold patsK
  rw [List.length_map]
  have := List.length_filter_le f (List.range k)
  rw [List.length_range] at this
  exact this

set_option maxRecDepth 100000 in
set_option maxHeartbeats 4000000 in
theorem patterns_any (f : Nat → Bool) (n : Nat) (hn : n ≤ 4) (w : World) :
    Calls Try.prog 64 #[.agg (tabV f), .int .i64 (n : Int)] w (RowsOut (patsOf n f) w) := by
  have hb1 : Below w.heap.size w ((w.alloc (.cells (tabV f) 72)).alloc (.cells #[] 27)) := ((Below.refl _ _).alloc (Nat.le_refl _) _).alloc (by simp) _
  have ht0 : (w.alloc (.cells (tabV f) 72)).heap[w.heap.size]? = some (.cells (tabV f) 72 (0, 0)) := heap_alloc_new w _
  have ht1 := (Below.heap_alloc (w.alloc (.cells (tabV f) 72)) (.cells #[] 27) w.heap.size (by simp)).trans ht0
  have ho1 := own_lit0 (w.alloc (.cells (tabV f) 72))
  have hi : (Try.prog.info? 72).map (·.size) = some (tabV f).size := by rw [tabV_size]; exact tab_info
  have HX := Lib.hid (run_index_tab f)
  have HI := Lib.hid hi
  have HT := Lib.hid ht1
  have HO := Lib.hid ho1
  have HPE : Hid (patsOf n f = patsK n f 4096) := Lib.hid rfl
  clear ht0 ht1 ho1 hi
  generalize tabV f = cs at *
  go_enter Try.func64, Try.ntmps64
  go_wp2_with (refine wpList_load_row rfl 72 (.tmp 2) rfl w.heap.size rfl _ cs _ _ HT.out Try.underlying72 rfl HI.out ?_)
  go_loopw [5, 6, 7, 10] (fun v5 _ _ i wr => ∃ (k : Nat) (U : List Nat), k ≤ 4096 ∧ i = .int .i64 k ∧ Hid (Own wr U v5 (rowsMem (patsK n f k))) ∧ Hid (∀ b ∈ U, w.heap.size ≤ b) ∧ Below w.heap.size w wr) (fun _ _ _ i _ => 4096 - (intOf i).toNat)
  case atStart => exact ⟨0, [w.heap.size + 1], by omega, rfl, Lib.hid (by have h := HO.out; rw [World.size_alloc] at h; exact h), Lib.hid (fun b hb => by simp at hb; omega), hb1⟩
  case round =>
    clear HO HT HI
    obtain ⟨k, U, hk, rfl, hU, hUb, hb⟩ := hrel
    by_cases hlt : k < 4096
    · have hlti : (k : Int) < 4096 := by omega
      have hix := HX.out k hlt
      have hpl := patsK_len n f k
      have hfy := Lib.hid (fun h => patsK_yes (n := n) (f := f) (k := k) h)
      have hfn := Lib.hid (fun h => patsK_no (n := n) (f := f) (k := k) h)
      have hdc := decoded_any k n hn (by omega) wr
      generalize patsK n f k = Q at hU hpl hfy hfn
      cases hfk : f k with
      | true =>
        rw [hfk] at hix
        have HNX := Lib.hid (hfy.out hfk)
        clear hfy hfn hfk
        go_wp2_with fail
        refine hdc.mono ?_
        rintro e w5 ⟨v5, rfl, ho5, hb5⟩
        clear hdc hix
        obtain ⟨R, hR, hRb, hRe⟩ := own_intRow ho5
        obtain ⟨A5, c5, rfl, _⟩ := own_intSlice hR
        have hbx : Below w5.heap.size w5 (w5.alloc (.cells #[.slice A5 (decP n k).length c5] 27)) := (Below.refl _ _).alloc (Nat.le_refl _) _
        have hb56 := hb5.trans (hbx.mono hb5.size)
        have hU6 := hU.out.keep hb56
        have hR6 := hR.keep hbx
        have hcell : (w5.alloc (.cells #[.slice A5 (decP n k).length c5] 27)).cell? ⟨w5.heap.size, 0, none⟩ = some (.slice A5 (decP n k).length c5) := by simp
        have HC := Lib.hid (one_cell hcell)
        have hbw6 := hb.trans (hb56.mono hb.size)
        have hs5 := hb5.size
        have hsw := hb.size
        have hUl : ∀ b ∈ U, b < wr.heap.size := fun b h => hU.out.lt b h
        have hdis : ∀ b ∈ U, b ∉ R := fun b h1 h2 => by have := hUl b h1; have := hRb b h2; omega
        have hdl : Q.length + 1 ≤ 16777216 := by omega
        have HDI := Lib.hid hdis
        have HR6 := Lib.hid hR6
        have HRB := Lib.hid hRb
        have HBW := Lib.hid hbw6
        clear hRe hRb hR hbx hb56 hcell hdis hR6 hbw6 hUl hU hb ho5
        go_wp2_with (at_builtin; refine wpList_append_rows rfl (.tmp 15) (.tmp 19) rfl _ U Q rfl hU6 ⟨w5.heap.size, 0, none⟩ _ (decP n k) R rfl HC.out HR6.out HDI.out hdl ?_)
        intro g2 cap2 U3 w7 hU7 hU3 hon
        have hb7 := Only.below HBW.out hon HBW.out.size (fun b h => hUb.out b h)
        have hU3b : ∀ b ∈ U3, w.heap.size ≤ b := fun b h => by
          rcases hU3 b h with h1 | h1 | h1
          · exact hUb.out b h1
          · have := HRB.out b h1; omega
          · have h2 : w5.heap.size ≤ b := by first | omega | (rw [World.size_alloc] at h1; omega)
            omega
        rw [← HNX.out] at hU7
        have U7 := Lib.hid hU7
        have B7 := Lib.hid hU3b
        clear hU7 hU3b hU3 hon HBW HRB HR6 HDI HC HNX hU6 hb5
        go_wp2
        refine ⟨⟨k + 1, U3, by omega, by go_num, U7, B7, hb7⟩, ?_⟩
        simp only [intOf]
        omega
      | false =>
        rw [hfk] at hix
        have HNX := Lib.hid (hfn.out hfk)
        rw [← HNX.out] at hU
        clear hfy hfn hfk HNX hdc
        go_wp2
        refine ⟨⟨k + 1, U, by omega, by go_num, hU, hUb, hb⟩, ?_⟩
        simp only [intOf]
        omega
    · have e : k = 4096 := by omega
      subst e
      have hge : ¬ ((4096 : Nat) : Int) < 4096 := by omega
      have hpost : RowsOut (patsOf n f) w (.returned u5) wr := by rw [HPE.out]; exact ⟨_, U, rfl, hU.out, hUb.out, hb⟩
      clear hU hUb hb HPE
      go_wp2
      go_ret
      exact hpost

end Go.Proofs.Ytdbogjhkcnajkaa
end

section
namespace Go.Proofs.Ytdbogjhkcnajkaa
open Go.RowKit Go.Sort
set_option linter.unusedVariables false

end Go.Proofs.Ytdbogjhkcnajkaa
end

section
namespace Go.Proofs.Ytdbogjhkcnajkaa
open Go.RowKit Go.Sort
set_option linter.unusedVariables false

/-- The cells of a table, as a list. -/
def tabL (f : Nat → Bool) : List Value := (List.range 4096).map fun i => .bool (f i)
theorem tabV_L (f : Nat → Bool) : tabV f = (tabL f).toArray := rfl
theorem tabL_len (f : Nat → Bool) : (tabL f).length = 4096 := by simp [tabL]
theorem tabL_one (f : Nat → Bool) : ∀ v ∈ tabL f, v.oneCell' = true := by
  intro v hv
  simp [tabL] at hv
  obtain ⟨i, _, rfl⟩ := hv
  rfl
theorem range_of {w : World} {g : Nat} {L : List Value} {t : TypeId} (h : w.heap[g]? = some (.cells L.toArray t (0, 0))) : w.rangeAt g 0 L := fun j v hv => by
  rw [cell_of_row w g _ _ _ _ h, Nat.zero_add]
  simpa using hv

theorem orb_done {w wr : World} {r : Nat} {n : Int} {cs : List Int} {R : List (List Int)} {A1 A2 : Option Addr} {c1 c2 : Nat} {S1 U : List Nat} (hK : Own wr S1 (.slice A1 cs.length c1) (intMem cs)) (hU : Own wr U (.slice A2 R.length c2) (rowsMem R))
    (hd : ∀ b ∈ S1, b ∉ U) (hb : Below w.heap.size w wr) (hr : w.heap.size ≤ r) (hS : ∀ b ∈ S1, w.heap.size ≤ b ∧ b ≠ r) (hUb : ∀ b ∈ U, w.heap.size ≤ b ∧ b ≠ r) :
    OrbOut n cs R w (.returned (.agg #[.int .i64 n, .slice A1 cs.length c1, .slice A2 R.length c2])) (((wr.setCell ⟨r, 0, none⟩ (.int .i64 n)).setCell ⟨r, 1, none⟩ (.slice A1 cs.length c1)).setCell ⟨r, 2, none⟩ (.slice A2 R.length c2)) := by
  have hL := orb_ownL (z := n) hK hU hd
  have hLb : ∀ b ∈ S1 ++ (U ++ []), w.heap.size ≤ b ∧ b ≠ r := fun b hb => by
    rw [List.append_nil] at hb
    rcases List.mem_append.1 hb with h | h
    · exact hS b h
    · exact hUb b h
  have onF : Only [r] wr (((wr.setCell ⟨r, 0, none⟩ (.int .i64 n)).setCell ⟨r, 1, none⟩ (.slice A1 cs.length c1)).setCell ⟨r, 2, none⟩ (.slice A2 R.length c2)) := (((Only.refl _ _).set ⟨r, 0, none⟩ _ (by simp)).set ⟨r, 1, none⟩ _ (by simp)).set ⟨r, 2, none⟩ _ (by simp)
  have hbF : Below w.heap.size w (((wr.setCell ⟨r, 0, none⟩ (.int .i64 n)).setCell ⟨r, 1, none⟩ (.slice A1 cs.length c1)).setCell ⟨r, 2, none⟩ (.slice A2 R.length c2)) := ((hb.setCell (p := ⟨r, 0, none⟩) hr _).setCell (p := ⟨r, 1, none⟩) hr _).setCell (p := ⟨r, 2, none⟩) hr _
  exact ⟨A1, c1, A2, c2, _, rfl, hL.alike fun bb hbb => onF.block bb (hL.lt bb hbb) (by have := (hLb bb hbb).2; simpa using this), fun b hb => (hLb b hb).1, hbF⟩

theorem range_set3 {w : World} {g r : Nat} {L : List Value} (h : w.rangeAt g 0 L) (hne : g ≠ r) (a b c : Value) : (((w.setCell ⟨r, 0, none⟩ a).setCell ⟨r, 1, none⟩ b).setCell ⟨r, 2, none⟩ c).rangeAt g 0 L := fun j v hv => by
  have h1 := h j v hv
  unfold World.cell? at h1 ⊢
  simp only at h1 ⊢
  rw [heap_setCell_other _ _ _ _ (by simpa using hne), heap_setCell_other _ _ _ _ (by simpa using hne), heap_setCell_other _ _ _ _ (by simpa using hne)]
  exact h1
theorem z3At {w : World} {r : Nat} {a b c : Value} {T : TypeId} (h : w.heap[r]? = some (.cells #[a, b, c] T (0, 0))) : w.frozen? ⟨r, 0, none⟩ = false ∧ w.frozen? ⟨r, 1, none⟩ = false ∧ w.frozen? ⟨r, 2, none⟩ = false := ⟨frozen_of_row _ _ 0 _ _ h, frozen_of_row _ _ 1 _ _ h, frozen_of_row _ _ 2 _ _ h⟩

set_option maxRecDepth 100000 in
set_option maxHeartbeats 4000000 in
theorem setOfCodes_any (f : Nat → Bool) (n : Nat) (hn : n ≤ 4) (cs : List Int) (hcs : cs.length ≤ 1000) (A : Option Addr) (c : Nat) (w : World) (hA : IntsAt w A cs) :
    Calls Try.prog 79 #[.slice A cs.length c, .int .i64 (n : Int), .agg (tabV f)] w (OrbOut n cs (patsOf n f) w) := by
  have hi : (Try.prog.info? 72).map (·.size) = some (tabL f).length := by rw [tabL_len]; exact tab_info
  have hone := tabL_one f
  have hlen := tabL_len f
  have hpa := fun W => patterns_any f n hn W
  rw [tabV_L] at hpa ⊢
  generalize patsOf n f = R at *
  generalize tabL f = L at *
  have hbw : Below w.heap.size w (((w.alloc (.cells L.toArray 72)).alloc (.cells #[.int .i64 0, .slice none 0 0, .slice none 0 0] 29)).drew) := (((Below.refl _ _).alloc (Nat.le_refl _) _).alloc (by simp) _).trans ⟨rfl, rfl, rfl, Nat.le_refl _, fun _ _ => rfl⟩
  have hT : (((w.alloc (.cells L.toArray 72)).alloc (.cells #[.int .i64 0, .slice none 0 0, .slice none 0 0] 29)).drew).heap[w.heap.size]? = some (.cells L.toArray 72 (0, 0)) := (Below.heap_alloc _ _ _ (by simp)).trans (heap_alloc_new w _)
  have hR : (((w.alloc (.cells L.toArray 72)).alloc (.cells #[.int .i64 0, .slice none 0 0, .slice none 0 0] 29)).drew).heap[w.heap.size + 1]? = some (.cells #[.int .i64 0, .slice none 0 0, .slice none 0 0] 29 (0, 0)) := by
    have h := heap_alloc_new (w.alloc (.cells L.toArray 72)) (.cells #[.int .i64 0, .slice none 0 0, .slice none 0 0] 29)
    rw [World.size_alloc] at h
    exact h
  have hsz : (((w.alloc (.cells L.toArray 72)).alloc (.cells #[.int .i64 0, .slice none 0 0, .slice none 0 0] 29)).drew).heap.size = w.heap.size + 2 := by simp
  have hcl := clone_any A c cs (((w.alloc (.cells L.toArray 72)).alloc (.cells #[.int .i64 0, .slice none 0 0, .slice none 0 0] 29)).drew) (hA.below hbw) (by omega)
  have hrg := range_of hT
  have hu := Try.underlying72
  have HBW := Lib.hid hbw
  have HT := Lib.hid hT
  have HR := Lib.hid hR
  have HSZ := Lib.hid hsz
  have HPA := Lib.hid hpa
  clear hA hbw hT hR hsz hpa
  go_enter Try.func79, Try.ntmps79
  go_wp2
  go_region_held3 (fun w' => w'.rangeAt w.heap.size 0 L)
    (with_reducible assumption)
    (first
      | (go_at_call 132; refine hcl.mono ?_; rintro e w4 ⟨v4, rfl, ho4, hb4⟩; have hT4 := (hb4.block w.heap.size (by rw [HSZ.out]; omega)).trans HT.out; have hR4 := (hb4.block (w.heap.size + 1) (by rw [HSZ.out]; omega)).trans HR.out; have hrg4 := range_of hT4; have hpa4 := HPA.out w4)
      | (go_at_call 64; refine hpa4.mono ?_; rintro e w5 ⟨v5, S5, rfl, hO5, hS5, hb5⟩; have hT5 := (hb5.block w.heap.size (OrbK.box_lt hT4)).trans hT4; have hR5 := (hb5.block (w.heap.size + 1) (OrbK.box_lt hR4)).trans hR4; have hrg5 := range_of hT5; obtain ⟨S4, hO4, hS4, _⟩ := own_intRow ho4; obtain ⟨A4, c4, rfl, _⟩ := own_intSlice hO4; obtain ⟨A5, c5, rfl⟩ := RowsIn.form (ls := R) hO5.at_; obtain ⟨x0, x1, x2⟩ := OrbK.row3 hR5; obtain ⟨y0, y1, y2⟩ := z3At hR5; have hrg6 := range_set3 hrg5 (show w.heap.size ≠ w.heap.size + 1 by omega) (.int .i64 (n : Int)) (.slice A4 cs.length c4) (.slice A5 R.length c5))
      | fail)
  rw [HSZ.out] at hS4
  have hbw4 := HBW.out.trans (hb4.mono HBW.out.size)
  have hz4 : w.heap.size + 2 ≤ w4.heap.size := by have := hb4.size; rw [HSZ.out] at this; exact this
  have hlt4 : ∀ b ∈ S4, b < w4.heap.size := fun b hb => hO4.lt b hb
  have hpost := orb_done (n := (n : Int)) (r := w.heap.size + 1) (hO4.keep hb5) hO5 (fun b h1 h2 => by have h3 := hlt4 b h1; have h4 := hS5 b h2; omega) (hbw4.trans (hb5.mono hbw4.size)) (by omega) (fun b h => by have := hS4 b h; omega) (fun b h => by have := hS5 b h; omega)
  clear hcl hpa4 hO4 hO5 hS4 hS5 hb4 hb5 hlt4 hbw4 HBW HT HR HSZ HPA hT4 hR4 hT5 hR5 hrg hrg4 hrg5 hrg6 ho4 hu hi hone hlen
  go_wp2
  exact bodyPost_ret (v := .agg #[.int .i64 (n : Int), .slice A4 cs.length c4, .slice A5 R.length c5]) (by simp [results, Try.results79, go_sem, x0, x1, x2]) rfl hpost
end Go.Proofs.Ytdbogjhkcnajkaa
end

section
namespace Go.Proofs.Ytdbogjhkcnajkaa
open Go.RowKit Go.Sort
set_option linter.unusedVariables false

theorem orb_pass {w wr : World} {r : Nat} {n : Int} {cs : List Int} {R : List (List Int)} {A1 A2 : Option Addr} {c1 c2 : Nat} {S : List Nat} (hL : OwnL wr S [.int .i64 n, .slice A1 cs.length c1, .slice A2 R.length c2] (encO n cs R))
    (hb : Below w.heap.size w wr) (hr : w.heap.size ≤ r) (hS : ∀ b ∈ S, w.heap.size ≤ b ∧ b ≠ r) :
    OrbOut n cs R w (.returned (.agg #[.int .i64 n, .slice A1 cs.length c1, .slice A2 R.length c2])) (((wr.setCell ⟨r, 0, none⟩ (.int .i64 n)).setCell ⟨r, 1, none⟩ (.slice A1 cs.length c1)).setCell ⟨r, 2, none⟩ (.slice A2 R.length c2)) := by
  have onF : Only [r] wr (((wr.setCell ⟨r, 0, none⟩ (.int .i64 n)).setCell ⟨r, 1, none⟩ (.slice A1 cs.length c1)).setCell ⟨r, 2, none⟩ (.slice A2 R.length c2)) := (((Only.refl _ _).set ⟨r, 0, none⟩ _ (by simp)).set ⟨r, 1, none⟩ _ (by simp)).set ⟨r, 2, none⟩ _ (by simp)
  have hbF : Below w.heap.size w (((wr.setCell ⟨r, 0, none⟩ (.int .i64 n)).setCell ⟨r, 1, none⟩ (.slice A1 cs.length c1)).setCell ⟨r, 2, none⟩ (.slice A2 R.length c2)) := ((hb.setCell (p := ⟨r, 0, none⟩) hr _).setCell (p := ⟨r, 1, none⟩) hr _).setCell (p := ⟨r, 2, none⟩) hr _
  exact ⟨A1, c1, A2, c2, _, rfl, hL.alike fun bb hbb => onF.block bb (hL.lt bb hbb) (by have := (hS bb hbb).2; simpa using this), fun b hb => (hS b hb).1, hbF⟩

set_option maxRecDepth 100000 in
set_option maxHeartbeats 4000000 in
theorem setOfTuples_any (n : Nat) (hn : n ≤ 4) (cs : List Int) (hcs : cs.length ≤ 3) (ts : List (List Int)) (htl : ts.length ≤ 2097152) (htn : ∀ i, i < ts.length → (rwAt ts i).length = n) (A B : Option Addr) (c d : Nat) (w : World) (hA : IntsAt w A cs) (hB : RowsIn w (.slice B ts.length d) ts) :
    Calls Try.prog 73 #[.slice A cs.length c, .int .i64 (n : Int), .slice B ts.length d] w (OrbOut n cs (thoseL n cs.length (patsL cs ts)) w) := by
  have hr0 := heap_alloc_new w (.cells #[.int .i64 0, .slice none 0 0, .slice none 0 0] 29)
  have hb0 : Below w.heap.size w (w.alloc (.cells #[.int .i64 0, .slice none 0 0, .slice none 0 0] 29)) := (Below.refl _ _).alloc (Nat.le_refl _) _
  have hbx : Below (w.alloc (.cells #[.int .i64 0, .slice none 0 0, .slice none 0 0] 29)).heap.size (w.alloc (.cells #[.int .i64 0, .slice none 0 0, .slice none 0 0] 29)) ((w.alloc (.cells #[.int .i64 0, .slice none 0 0, .slice none 0 0] 29)).alloc (.cells Try.zeroCells72 72)) := (Below.refl _ _).alloc (Nat.le_refl _) _
  have hr1 := (hbx.block w.heap.size (by simp)).trans hr0
  have hb1 := hb0.trans (hbx.mono hb0.size)
  have ht0 : TabAt ((w.alloc (.cells #[.int .i64 0, .slice none 0 0, .slice none 0 0] 29)).alloc (.cells Try.zeroCells72 72)) (w.heap.size + 1) (tabOf ((patsL cs ts).take 0)) := by
    have h := heap_alloc_new (w.alloc (.cells #[.int .i64 0, .slice none 0 0, .slice none 0 0] 29)) (.cells Try.zeroCells72 72)
    rw [World.size_alloc] at h
    unfold TabAt
    rw [h, tab_zero]
    rfl
  have HA := Lib.hid hA
  have HB := Lib.hid hB
  have HTN := Lib.hid htn
  have H1 := Lib.hid hr1
  have H0 := Lib.hid ht0
  clear hA hB htn hr0 hb0 hbx hr1 ht0
  go_enter Try.func73, Try.ntmps73
  go_wp2_with fail
  generalize (w.alloc (.cells #[.int .i64 0, .slice none 0 0, .slice none 0 0] 29)).alloc (.cells Try.zeroCells72 72) = w1 at H0 H1 hb1 ⊢
  go_loopw [9, 12] (fun _ i wr => ∃ k : Nat, k ≤ ts.length ∧ i = .int .i64 k ∧ Hid (TabAt wr (w.heap.size + 1) (tabOf ((patsL cs ts).take k))) ∧ Hid (wr.heap[w.heap.size]? = some (.cells #[.int .i64 0, .slice none 0 0, .slice none 0 0] 29 (0, 0))) ∧ Below w.heap.size w wr) (fun _ i _ => ts.length - (intOf i).toNat)
  case atStart => exact ⟨0, Nat.zero_le _, rfl, H0, H1, hb1⟩
  case round =>
    clear H0 H1 hb1
    obtain ⟨k, hk, rfl, ht, hr, hb⟩ := hrel
    by_cases hlt : k < ts.length
    · obtain ⟨b1, o1, rfl, hb1, hc1⟩ := (HB.out.below hb).get (by omega)
      obtain ⟨A1, c1, e1, hA1⟩ := hc1 k hlt
      have htk := HTN.out k hlt
      have hpi := patternIn_any A A1 c c1 cs (rwAt ts k) wr (HA.out.below hb) hA1 (by omega) (by omega)
      have hpm := patL_mem (cs := cs) htk
      obtain ⟨hpl, hpd⟩ := dig_allP (k := (cs.length : Int)) (by omega) (by omega) hn hpm
      have hs := code_4096 (k := (cs.length : Int)) (by omega) (by omega) hn hpm
      have hco := fun (A' : Option Addr) (c' : Nat) (W : World) (h : IntsAt W A' (patL cs (rwAt ts k))) => codeOf_any A' c' (patL cs (rwAt ts k)) W h (by omega) hpd
      have hstep := Lib.hid (fun i => tabOf_take (m := patsL cs ts) (k := k) (by rw [patsL_len]; exact hlt) i)
      rw [patsL_at hlt] at hstep
      have HCO := Lib.hid hco
      have hpl4 : (patL cs (rwAt ts k)).length ≤ 4 := by omega
      have hrl4 : (rwAt ts k).length ≤ 4 := by omega
      clear htk hpm hpl hpd hco hc1 hA1
      generalize patL cs (rwAt ts k) = p at *
      generalize rwAt ts k = t at *
      go_wp2_with fail
      refine hpi.mono ?_
      rintro e w3 ⟨v3, rfl, ho3, hb3⟩
      obtain ⟨A3, c3, rfl, hA3⟩ := own_intsAt ho3
      have hco3 := HCO.out A3 c3 w3 hA3
      have ht3 := ht.out.below hb3
      have hr3 := (hb3.block w.heap.size (OrbK.box_lt hr.out)).trans hr.out
      have hb4 := hb.trans (hb3.mono hb.size)
      have hst := ht3.set_ hs true
      have hst2 : Hid (TabAt (w3.setCell ⟨w.heap.size + 1, codeP p, none⟩ (.bool true)) (w.heap.size + 1) (tabOf ((patsL cs ts).take (k + 1)))) := Lib.hid (hst.ext fun i _ => hstep.out i)
      have hcl := ht3.cell hs
      have hfz := ht3.frozen (codeP p)
      have hr2 : Hid ((w3.setCell ⟨w.heap.size + 1, codeP p, none⟩ (.bool true)).heap[w.heap.size]? = some (.cells #[.int .i64 0, .slice none 0 0, .slice none 0 0] 29 (0, 0))) := Lib.hid ((heap_setCell_other _ _ _ _ (by simp)).trans hr3)
      have hb5 : Below w.heap.size w (w3.setCell ⟨w.heap.size + 1, codeP p, none⟩ (.bool true)) := hb4.setCell (by simp) _
      generalize tabOf ((patsL cs ts).take k) (codeP p) = bb at hcl
      generalize codeP p = x at hco3 hs hst2 hcl hfz hr2 hb5
      clear hst ht hr hb hpi HCO hA3 ho3 hb3 ht3 hr3 hb4 hstep e1
      go_wp2_with (go_at_call 86; refine hco3.mono ?_; rintro e w4 ⟨rfl, rfl⟩)
      clear hco3 hcl hfz
      refine ⟨⟨k + 1, by omega, by go_num, hst2, hr2, hb5⟩, ?_⟩
      simp only [intOf]
      omega
    · have e : k = ts.length := by omega
      subst e
      have ht' := ht.out
      rw [← patsL_len cs ts, List.take_length] at ht'
      have hso := setOfCodes_any (tabOf (patsL cs ts)) n hn cs (by omega) A c wr (HA.out.below hb)
      rw [patsOf_tabOf (k := (cs.length : Int)) (by omega) (by omega) hn (patsL_mem HTN.out)] at hso
      unfold TabAt at ht'
      have HI : Hid ((Try.prog.info? 72).map (·.size) = some (tabV (tabOf (patsL cs ts))).size) := Lib.hid (by rw [tabV_size]; exact tab_info)
      have HT := Lib.hid ht'
      clear ht' ht HTN
      generalize tabV (tabOf (patsL cs ts)) = ds at *
      generalize thoseL n cs.length (patsL cs ts) = R at *
      go_wp2_with (first
        | (refine wpList_load_row rfl 72 (.tmp 7) rfl (w.heap.size + 1) rfl _ ds _ _ HT.out Try.underlying72 rfl HI.out ?_)
        | (go_at_call 79; refine hso.mono ?_; rintro e w5 ⟨A4, c4, A5, c5, S5, rfl, hL5, hS5, hb5⟩; have hr5 := (hb5.block w.heap.size (OrbK.box_lt hr.out)).trans hr.out; obtain ⟨x0, x1, x2⟩ := OrbK.row3 hr5; obtain ⟨y0, y1, y2⟩ := z3At hr5))
      have hpost := orb_pass (r := w.heap.size) hL5 (hb.trans (hb5.mono hb.size)) (Nat.le_refl _) (fun b h => by have h1 := hS5 b h; have h2 := OrbK.box_lt hr.out; omega)
      clear hso hL5 hS5 hb5 hr5 hb HT HI hr
      go_wp2
      exact bodyPost_ret (v := .agg #[.int .i64 (n : Int), .slice A4 cs.length c4, .slice A5 R.length c5]) (by simp [results, Try.results73, go_sem, x0, x1, x2]) rfl hpost
end Go.Proofs.Ytdbogjhkcnajkaa
end

section
namespace Go.Proofs.Ytdbogjhkcnajkaa
open Go.RowKit Go.Sort
set_option linter.unusedVariables false

/-- An orbit set and a bool. -/
def OrbBOut (z : Int) (l : List Int) (m : List (List Int)) (b : Bool) (w : World) (e : Ending) (w' : World) : Prop :=
  ∃ A1 c1 A2 c2 S, e = .returned (.tuple #[.agg #[.int .i64 z, .slice A1 l.length c1, .slice A2 m.length c2], .bool b]) ∧
    OwnL w' S [.int .i64 z, .slice A1 l.length c1, .slice A2 m.length c2] (encO z l m) ∧ (∀ b ∈ S, w.heap.size ≤ b) ∧ Below w.heap.size w w'
theorem orbB_of {z : Int} {l : List Int} {m : List (List Int)} {w w' : World} {A1 A2 : Option Addr} {c1 c2 : Nat} (b : Bool) (h : OrbOut z l m w (.returned (.agg #[.int .i64 z, .slice A1 l.length c1, .slice A2 m.length c2])) w') :
    OrbBOut z l m b w (.returned (.tuple #[.agg #[.int .i64 z, .slice A1 l.length c1, .slice A2 m.length c2], .bool b])) w' := by
  obtain ⟨A1', c1', A2', c2', S, e, hL, hS, hb⟩ := h
  injection e with e
  injection e with e
  simp only [Array.mk.injEq, List.cons.injEq, Value.slice.injEq, and_true, true_and] at e
  obtain ⟨⟨rfl, rfl⟩, rfl, rfl⟩ := e
  exact ⟨A1, c1, A2, c2, S, rfl, hL, hS, hb⟩
theorem orbB_zero {w w' : World} (hb : Below w.heap.size w w') : OrbBOut 0 [] [] false w (.returned (.tuple #[.agg #[.int .i64 0, .slice none 0 0, .slice none 0 0], .bool false])) w' := by
  have h1 : Own w' [] (.slice none 0 0) (intMem []) := .nil _ _
  have h2 : Own w' [] (.slice none 0 0) (rowsMem []) := .nil _ _
  exact ⟨none, 0, none, 0, _, rfl, orb_ownL (z := 0) (l := []) (m := []) h1 h2 (fun b hb => by simp at hb), fun b hb => by simp at hb, hb⟩
def ozR (b : Bool) (z : Int) : Int := if b then z else 0
def olR (b : Bool) (l : List Int) : List Int := if b then l else []
def omR (b : Bool) (m : List (List Int)) : List (List Int) := if b then m else []

/-- A tuple of a width. -/
def okT (z : Int) (t : List Int) : Bool := tupB t && decide ((t.length : Int) = z)
def setOk (cs : List Int) (z : Int) (ts : List (List Int)) : Bool := (constB cs && widB z) && ts.all (okT z)
def setM (cs : List Int) (z : Int) (ts : List (List Int)) : List (List Int) := thoseL z.toNat cs.length (patsL cs ts)
theorem tup_next {ts : List (List Int)} {f : List Int → Bool} {k : Nat} (h : k < ts.length) : (ts.take (k + 1)).all f = ((ts.take k).all f && f (rwAt ts k)) := by
  rw [rw_take_next h, List.all_append]
  simp
theorem tup_at {ts : List (List Int)} {f : List Int → Bool} (h : ts.all f = true) {i : Nat} (hi : i < ts.length) : f (rwAt ts i) = true := by
  rw [List.all_eq_true] at h
  exact h _ (by rw [rwAt_get _ _ hi]; exact List.getElem_mem hi)
theorem tup_no {ts : List (List Int)} {f : List Int → Bool} {i : Nat} (hi : i < ts.length) (h : f (rwAt ts i) = false) : ts.all f = false := by
  cases hh : ts.all f with
  | false => rfl
  | true => rw [tup_at hh hi] at h; cases h
theorem okT_tup {z : Int} {t : List Int} (h : okT z t = true) : t.length ≤ 4 ∧ (t.length : Int) = z := by
  unfold okT tupB at h
  simp only [Bool.and_eq_true, decide_eq_true_eq] at h
  exact ⟨h.1.1, h.2⟩
/-- The patterns of tuples, for whatever constants. -/
def patsG (cs : List Int) (ts : List (List Int)) : List (List Int) := ts.map (patG cs)
theorem patsG_len (cs : List Int) (ts : List (List Int)) : (patsG cs ts).length = ts.length := by simp [patsG]
theorem patsG_next {cs : List Int} {ts : List (List Int)} {k : Nat} (h : k < ts.length) : (patsG cs ts).take (k + 1) = (patsG cs ts).take k ++ [patG cs (rwAt ts k)] := by
  rw [rw_take_next (by rw [patsG_len]; exact h)]
  congr 2
  rw [rwAt_get _ _ (by rw [patsG_len]; exact h), rwAt_get _ _ h]
  simp [patsG]
theorem patsG_same {cs : List Int} (hd : cs.Nodup) (ts : List (List Int)) : patsG cs ts = patsL cs ts := List.map_congr_left fun t _ => patG_same hd t
theorem patsG_fit (cs : List Int) {ts : List (List Int)} (hf : FitR ts) : FitR (patsG cs ts) := by
  refine ⟨by rw [patsG_len]; exact hf.1, fun i hi => ?_⟩
  rw [patsG_len] at hi
  rw [rwAt_get _ _ (by rw [patsG_len]; exact hi)]
  simp only [patsG, List.getElem_map, patG_len]
  have := hf.2 i hi
  rwa [rwAt_get _ _ hi] at this

set_option maxRecDepth 100000 in
set_option maxHeartbeats 8000000 in
theorem setOf_impl (cs : List Int) (z : Int) (ts : List (List Int)) (hcl : cs.length ≤ 1048576) (hf : FitR ts) (A B : Option Addr) (c d : Nat) (w : World) (hA : IntsAt w A cs) (hB : RowsIn w (.slice B ts.length d) ts) :
    Calls Try.prog 24 #[.slice A cs.length c, .int .i64 z, .slice B ts.length d] w (OrbBOut (ozR (setOk cs z ts) z) (olR (setOk cs z ts) cs) (omR (setOk cs z ts) (setM cs z ts)) (setOk cs z ts) w) := by
  have hr0 := heap_alloc_new w (.cells #[.int .i64 0, .slice none 0 0, .slice none 0 0] 29)
  have hb0 : Below w.heap.size w (w.alloc (.cells #[.int .i64 0, .slice none 0 0, .slice none 0 0] 29)) := (Below.refl _ _).alloc (Nat.le_refl _) _
  have hco := areConstants_any A c cs _ (hA.below hb0) (by omega)
  have hwi := fun W => isWidth_any z W
  have HR0 := Lib.hid hr0
  have HB0 := Lib.hid hb0
  cases hc : constB cs with
  | false =>
    have hk : setOk cs z ts = false := by simp [setOk, hc]
    rw [hc] at hco
    rw [hk]
    clear hk hc hA hB hr0 hb0
    go_enter Try.func24, Try.ntmps24
    go_wp2_with (go_at_call 71; refine hco.mono ?_; rintro e w2 ⟨rfl, hb2⟩; have hr2 := (hb2.block w.heap.size (OrbK.box_lt HR0.out)).trans HR0.out; obtain ⟨x0, x1, x2⟩ := OrbK.row3 hr2; obtain ⟨y0, y1, y2⟩ := z3At hr2)
    have hbz := HB0.out.trans (hb2.mono HB0.out.size)
    clear hco hb2 hr2 HR0 HB0
    have hpost := orbB_zero (((hbz.setCell (p := ⟨w.heap.size, 0, none⟩) (Nat.le_refl _) (.int .i64 0)).setCell (p := ⟨w.heap.size, 1, none⟩) (Nat.le_refl _) (.slice none 0 0)).setCell (p := ⟨w.heap.size, 2, none⟩) (Nat.le_refl _) (.slice none 0 0))
    go_wp2
    exact bodyPost_ret (v := .tuple #[.agg #[.int .i64 0, .slice none 0 0, .slice none 0 0], .bool false]) (by simp [results, Try.results24, go_sem, x0, x1, x2]) rfl hpost
  | true =>
    rw [hc] at hco
    cases hw : widB z with
    | false =>
      have hk : setOk cs z ts = false := by simp [setOk, hw]
      rw [hw] at hwi
      rw [hk]
      clear hk hc hw hA hB hr0 hb0
      go_enter Try.func24, Try.ntmps24
      go_wp2_with (first
        | (go_at_call 71; refine hco.mono ?_; rintro e w2 ⟨rfl, hb2⟩; have hr2 := (hb2.block w.heap.size (OrbK.box_lt HR0.out)).trans HR0.out; obtain ⟨x0, x1, x2⟩ := OrbK.row3 hr2; obtain ⟨y0, y1, y2⟩ := z3At hr2)
        | (go_at_call 62; refine (hwi _).mono ?_; rintro e w3 ⟨rfl, rfl⟩))
      have hbz := HB0.out.trans (hb2.mono HB0.out.size)
      clear hco hb2 hr2 HR0 HB0 hwi
      have hpost := orbB_zero (((hbz.setCell (p := ⟨w.heap.size, 0, none⟩) (Nat.le_refl _) (.int .i64 0)).setCell (p := ⟨w.heap.size, 1, none⟩) (Nat.le_refl _) (.slice none 0 0)).setCell (p := ⟨w.heap.size, 2, none⟩) (Nat.le_refl _) (.slice none 0 0))
      go_wp2
      exact bodyPost_ret (v := .tuple #[.agg #[.int .i64 0, .slice none 0 0, .slice none 0 0], .bool false]) (by simp [results, Try.results24, go_sem, x0, x1, x2]) rfl hpost
    | true =>
      rw [hw] at hwi
      have hz : 0 ≤ z ∧ z ≤ 4 := by simpa [widB] using hw
      obtain ⟨n, rfl⟩ : ∃ n : Nat, z = n := ⟨z.toNat, by omega⟩
      have hn4 : n ≤ 4 := by omega
      have HOK : Hid (setOk cs n ts = ts.all (okT n)) := Lib.hid (by simp [setOk, hc, hw])
      have hcs := const_len hc
      have HM : Hid (setM cs n ts = thoseL n cs.length (patsL cs ts)) := Lib.hid (by unfold setM; rw [show ((n : Int).toNat) = n by omega])
      have HA := Lib.hid hA
      have HB := Lib.hid hB
      have htl := hf.1
      clear hc hw hA hB hr0 hb0 hz
      go_enter Try.func24, Try.ntmps24
      go_wp2_with (first
        | (go_at_call 71; refine hco.mono ?_; rintro e w2 ⟨rfl, hb2⟩; have hr2 := Lib.hid ((hb2.block w.heap.size (OrbK.box_lt HR0.out)).trans HR0.out))
        | (go_at_call 62; refine (hwi _).mono ?_; rintro e w3 ⟨rfl, rfl⟩))
      have hbz := HB0.out.trans (hb2.mono HB0.out.size)
      clear hco hb2 HR0 HB0 hwi
      go_loopw [9, 21] (fun _ i wr => ∃ k : Nat, k ≤ ts.length ∧ i = .int .i64 k ∧ Hid (∀ j, j < k → okT n (rwAt ts j) = true) ∧ Hid (wr.heap[w.heap.size]? = some (.cells #[.int .i64 0, .slice none 0 0, .slice none 0 0] 29 (0, 0))) ∧ Below w.heap.size w wr) (fun _ i _ => ts.length - (intOf i).toNat)
      case atStart => exact ⟨0, Nat.zero_le _, rfl, Lib.hid (fun j h => absurd h (by omega)), hr2, hbz⟩
      case round =>
        clear hr2 hbz
        obtain ⟨k, hk, rfl, hall, hr, hb⟩ := hrel
        by_cases hlt : k < ts.length
        · obtain ⟨b1, o1, rfl, hb1, hc1⟩ := (HB.out.below hb).get (by omega)
          obtain ⟨A1, c1, e1, hA1⟩ := hc1 k hlt
          have htl2 := hf.2 k hlt
          have htu := isTuple_any A1 c1 (rwAt ts k) wr hA1 (by omega)
          have HBAD := Lib.hid (fun h => tup_no (ts := ts) (f := okT n) hlt h)
          have HNEX : Hid (okT n (rwAt ts k) = true → ∀ j, j < k + 1 → okT n (rwAt ts j) = true) := Lib.hid (fun h j hj => by
            by_cases e : j = k
            · rw [e]; exact h
            · exact hall.out j (by omega))
          obtain ⟨x0, x1, x2⟩ := OrbK.row3 hr.out
          obtain ⟨y0, y1, y2⟩ := z3At hr.out
          have HOT : Hid (okT n (rwAt ts k) = (tupB (rwAt ts k) && decide (((rwAt ts k).length : Int) = n))) := Lib.hid rfl
          clear hc1 hA1 hall
          generalize rwAt ts k = t at *
          by_cases hlen : t.length = n
          · have hne : ((t.length : Int) != (n : Int)) = false := by simp [hlen]
            cases htt : tupB t with
            | true =>
              rw [htt] at htu
              have HN := Lib.hid (HNEX.out (by rw [HOT.out, htt, hlen]; simp))
              clear HBAD HNEX HOT htt hlen
              go_wp2_with (go_at_call 72; refine htu.mono ?_; rintro e w4 ⟨rfl, hb4⟩)
              have hr4 := Lib.hid ((hb4.block w.heap.size (OrbK.box_lt hr.out)).trans hr.out)
              have hb5 := hb.trans (hb4.mono hb.size)
              clear htu hr hb hb4 e1 hne x0 x1 x2 y0 y1 y2
              refine ⟨⟨k + 1, by omega, by go_num, HN, hr4, hb5⟩, ?_⟩
              simp only [intOf]
              omega
            | false =>
              rw [htt] at htu
              have hkk : Hid (setOk cs n ts = false) := Lib.hid (by rw [HOK.out]; exact HBAD.out (by rw [HOT.out, htt]; simp))
              clear HBAD HNEX HOT htt hlen x0 x1 x2 y0 y1 y2
              go_wp2_with (go_at_call 72; refine htu.mono ?_; rintro e w4 ⟨rfl, hb4⟩; have hr4 := (hb4.block w.heap.size (OrbK.box_lt hr.out)).trans hr.out; obtain ⟨x0, x1, x2⟩ := OrbK.row3 hr4; obtain ⟨y0, y1, y2⟩ := z3At hr4)
              have hbz := hb.trans (hb4.mono hb.size)
              clear htu hr hb hb4 hr4 e1 hne
              have hpost := orbB_zero (((hbz.setCell (p := ⟨w.heap.size, 0, none⟩) (Nat.le_refl _) (.int .i64 0)).setCell (p := ⟨w.heap.size, 1, none⟩) (Nat.le_refl _) (.slice none 0 0)).setCell (p := ⟨w.heap.size, 2, none⟩) (Nat.le_refl _) (.slice none 0 0))
              go_wp2
              exact bodyPost_ret (v := .tuple #[.agg #[.int .i64 0, .slice none 0 0, .slice none 0 0], .bool false]) (by simp [results, Try.results24, go_sem, x0, x1, x2]) rfl (by rw [hkk.out]; exact hpost)
          · have hne : ((t.length : Int) != (n : Int)) = true := by simp; omega
            have hkk : Hid (setOk cs n ts = false) := Lib.hid (by rw [HOK.out]; exact HBAD.out (by rw [HOT.out]; simp; omega))
            clear HBAD HNEX HOT hlen htu hr
            have hpost := orbB_zero (((hb.setCell (p := ⟨w.heap.size, 0, none⟩) (Nat.le_refl _) (.int .i64 0)).setCell (p := ⟨w.heap.size, 1, none⟩) (Nat.le_refl _) (.slice none 0 0)).setCell (p := ⟨w.heap.size, 2, none⟩) (Nat.le_refl _) (.slice none 0 0))
            go_wp2
            exact bodyPost_ret (v := .tuple #[.agg #[.int .i64 0, .slice none 0 0, .slice none 0 0], .bool false]) (by simp [results, Try.results24, go_sem, x0, x1, x2]) rfl (by rw [hkk.out]; exact hpost)
        · have e : k = ts.length := by omega
          subst e
          have hal : ts.all (okT n) = true := by
            rw [List.all_eq_true]
            intro t ht
            obtain ⟨i, hi, e⟩ := List.getElem_of_mem ht
            have := hall.out i hi
            rwa [rwAt_get _ _ hi, e] at this
          have hkk : Hid (setOk cs n ts = true) := Lib.hid (by rw [HOK.out, hal])
          have hso := setOfTuples_any n hn4 cs hcs ts htl (fun i hi => by have := (okT_tup (tup_at hal hi)).2; omega) A B c d wr (HA.out.below hb) (HB.out.below hb)
          rw [← HM.out] at hso
          clear hal hall HM
          generalize setM cs n ts = R at *
          go_wp2_with (go_at_call 73; refine hso.mono ?_; rintro e w5 ⟨A4, c4, A5, c5, S5, rfl, hL5, hS5, hb5⟩; have hr5 := (hb5.block w.heap.size (OrbK.box_lt hr.out)).trans hr.out; obtain ⟨x0, x1, x2⟩ := OrbK.row3 hr5; obtain ⟨y0, y1, y2⟩ := z3At hr5)
          have hpost := orbB_of true (orb_pass (r := w.heap.size) hL5 (hb.trans (hb5.mono hb.size)) (Nat.le_refl _) (fun b h => by have h1 := hS5 b h; have h2 := OrbK.box_lt hr.out; omega))
          clear hso hL5 hS5 hb5 hr5 hb hr
          go_wp2
          exact bodyPost_ret (v := .tuple #[.agg #[.int .i64 (n : Int), .slice A4 cs.length c4, .slice A5 R.length c5], .bool true]) (by simp [results, Try.results24, go_sem, x0, x1, x2]) rfl (by rw [hkk.out]; exact hpost)
end Go.Proofs.Ytdbogjhkcnajkaa
end

