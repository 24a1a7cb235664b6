/-
  Tables of codes in the program: the patterns of a table, tables with one place more, all patterns, as contracts. All patterns in the program and in the model: allCodes, PatternsOf, as contracts. An orbit set of a table, and of tuples: setOfCodes, setOfTuples in the program, as contracts. The orbit set of tuples: setOfTuples in the program, as a contract. SetOf in the program and in the model, as contracts. The complement of an orbit set: plain words, no program is walked here. An orbit set told by places: plain words, no program is walked here. An orbit set told by more constants: plain words, no program is walked here. PlacesOfSet of the program, as a contract. PlacesOfSet of the model, as a contract.
-/
import Derived.Test.YtdbogjhkcnajkaaKPlacesOfSet12
import Derived.Test.YtdbogjhkcnajkaaKPlacesOfSet13
import Derived.Test.YtdbogjhkcnajkaaKPlacesOfSet14
import Derived.Test.YtdbogjhkcnajkaaKPlacesOfSet9
import Derived.Deep.RegionHeld3
import Derived.Deep.DrawnRows
import Derived.Deep.MidRow
import Derived.Test.YtdbogjhkcnajkaaKPlacesOfSet2
import Derived.Test.YtdbogjhkcnajkaaKPlacesOfSet15
import Derived.Test.YtdbogjhkcnajkaaKPlacesOfSet10
import Derived.Test.YtdbogjhkcnajkaaKPlacesOfSet11
section
namespace Go.Proofs.Ytdbogjhkcnajkaa
open Go.RowKit Go.Sort
set_option linter.unusedVariables false

theorem run_index_tab (f : Nat → Bool) (k : Nat) (hk : k < 4096) (w : World) : (Instr.index 72 (.agg (tabV f)) (.int .i64 (k : Int))).run Try.prog w = .ok (.bool (f k)) w := by
  have h1 : (0 : Int) ≤ (k : Int) ∧ (k : Int) < 4096 := by omega
  have h2 := tabV_at f hk
  generalize tabV f = cs at *
  simp [Instr.index, run_underlying Try.underlying72, asIntOf, h1, go_sem]
  rw [if_pos hk, h2]
  rfl

/-- The first k numbers that a table has, as patterns. -/
def patsK (n : Nat) (f : Nat → Bool) (k : Nat) : List (List Int) := ((List.range k).filter f).map (decP n)
theorem patsK_yes {n : Nat} {f : Nat → Bool} {k : Nat} (h : f k = true) : patsK n f (k + 1) = patsK n f k ++ [decP n k] := by
  unfold patsK
  rw [List.range_succ, List.filter_append, List.map_append]
  simp [h]
theorem patsK_no {n : Nat} {f : Nat → Bool} {k : Nat} (h : f k = false) : patsK n f (k + 1) = patsK n f k := by
  unfold patsK
  rw [List.range_succ, List.filter_append, List.map_append]
  simp [h]
theorem patsK_len (n : Nat) (f : Nat → Bool) (k : Nat) : (patsK n f k).length ≤ k := by
  unfold patsK
  rw [List.length_map]
  have := List.length_filter_le f (List.range k)
  rw [List.length_range] at this
  exact this

set_option maxRecDepth 100000 in
set_option maxHeartbeats 4000000 in
theorem patterns_any (f : Nat → Bool) (n : Nat) (hn : n ≤ 4) (w : World) :
    Calls Try.prog 64 #[.agg (tabV f), .int .i64 (n : Int)] w (RowsOut (patsOf n f) w) := by
  have hb1 : Below w.heap.size w ((w.alloc (.cells (tabV f) 72)).alloc (.cells #[] 27)) := ((Below.refl _ _).alloc (Nat.le_refl _) _).alloc (by simp) _
  have ht0 : (w.alloc (.cells (tabV f) 72)).heap[w.heap.size]? = some (.cells (tabV f) 72 (0, 0)) := heap_alloc_new w _
  have ht1 := (Below.heap_alloc (w.alloc (.cells (tabV f) 72)) (.cells #[] 27) w.heap.size (by simp)).trans ht0
  have ho1 := own_lit0 (w.alloc (.cells (tabV f) 72))
  have hi : (Try.prog.info? 72).map (·.size) = some (tabV f).size := by rw [tabV_size]; exact tab_info
  have HX := Lib.hid (run_index_tab f)
  have HI := Lib.hid hi
  have HT := Lib.hid ht1
  have HO := Lib.hid ho1
  have HPE : Hid (patsOf n f = patsK n f 4096) := Lib.hid rfl
  clear ht0 ht1 ho1 hi
  generalize tabV f = cs at *
  go_enter Try.func64, Try.ntmps64
  go_wp2_with (refine wpList_load_row rfl 72 (.tmp 2) rfl w.heap.size rfl _ cs _ _ HT.out Try.underlying72 rfl HI.out ?_)
  go_loopw [5, 6, 7, 10] (fun v5 _ _ i wr => ∃ (k : Nat) (U : List Nat), k ≤ 4096 ∧ i = .int .i64 k ∧ Hid (Own wr U v5 (rowsMem (patsK n f k))) ∧ Hid (∀ b ∈ U, w.heap.size ≤ b) ∧ Below w.heap.size w wr) (fun _ _ _ i _ => 4096 - (intOf i).toNat)
  case atStart => exact ⟨0, [w.heap.size + 1], by omega, rfl, Lib.hid (by have h := HO.out; rw [World.size_alloc] at h; exact h), Lib.hid (fun b hb => by simp at hb; omega), hb1⟩
  case round =>
    clear HO HT HI
    obtain ⟨k, U, hk, rfl, hU, hUb, hb⟩ := hrel
    by_cases hlt : k < 4096
    · have hlti : (k : Int) < 4096 := by omega
      have hix := HX.out k hlt
      have hpl := patsK_len n f k
      have hfy := Lib.hid (fun h => patsK_yes (n := n) (f := f) (k := k) h)
      have hfn := Lib.hid (fun h => patsK_no (n := n) (f := f) (k := k) h)
      have hdc := decoded_any k n hn (by omega) wr
      generalize patsK n f k = Q at hU hpl hfy hfn
      cases hfk : f k with
      | true =>
        rw [hfk] at hix
        have HNX := Lib.hid (hfy.out hfk)
        clear hfy hfn hfk
        go_wp2_with fail
        refine hdc.mono ?_
        rintro e w5 ⟨v5, rfl, ho5, hb5⟩
        clear hdc hix
        obtain ⟨R, hR, hRb, hRe⟩ := own_intRow ho5
        obtain ⟨A5, c5, rfl, _⟩ := own_intSlice hR
        have hbx : Below w5.heap.size w5 (w5.alloc (.cells #[.slice A5 (decP n k).length c5] 27)) := (Below.refl _ _).alloc (Nat.le_refl _) _
        have hb56 := hb5.trans (hbx.mono hb5.size)
        have hU6 := hU.out.keep hb56
        have hR6 := hR.keep hbx
        have hcell : (w5.alloc (.cells #[.slice A5 (decP n k).length c5] 27)).cell? ⟨w5.heap.size, 0, none⟩ = some (.slice A5 (decP n k).length c5) := by simp
        have HC := Lib.hid (one_cell hcell)
        have hbw6 := hb.trans (hb56.mono hb.size)
        have hs5 := hb5.size
        have hsw := hb.size
        have hUl : ∀ b ∈ U, b < wr.heap.size := fun b h => hU.out.lt b h
        have hdis : ∀ b ∈ U, b ∉ R := fun b h1 h2 => by have := hUl b h1; have := hRb b h2; omega
        have hdl : Q.length + 1 ≤ 16777216 := by omega
        have HDI := Lib.hid hdis
        have HR6 := Lib.hid hR6
        have HRB := Lib.hid hRb
        have HBW := Lib.hid hbw6
        clear hRe hRb hR hbx hb56 hcell hdis hR6 hbw6 hUl hU hb ho5
        go_wp2_with (at_builtin; refine wpList_append_rows rfl (.tmp 15) (.tmp 19) rfl _ U Q rfl hU6 ⟨w5.heap.size, 0, none⟩ _ (decP n k) R rfl HC.out HR6.out HDI.out hdl ?_)
        intro g2 cap2 U3 w7 hU7 hU3 hon
        have hb7 := Only.below HBW.out hon HBW.out.size (fun b h => hUb.out b h)
        have hU3b : ∀ b ∈ U3, w.heap.size ≤ b := fun b h => by
          rcases hU3 b h with h1 | h1 | h1
          · exact hUb.out b h1
          · have := HRB.out b h1; omega
          · have h2 : w5.heap.size ≤ b := by first | omega | (rw [World.size_alloc] at h1; omega)
            omega
        rw [← HNX.out] at hU7
        have U7 := Lib.hid hU7
        have B7 := Lib.hid hU3b
        clear hU7 hU3b hU3 hon HBW HRB HR6 HDI HC HNX hU6 hb5
        go_wp2
        refine ⟨⟨k + 1, U3, by omega, by go_num, U7, B7, hb7⟩, ?_⟩
        simp only [intOf]
        omega
      | false =>
        rw [hfk] at hix
        have HNX := Lib.hid (hfn.out hfk)
        rw [← HNX.out] at hU
        clear hfy hfn hfk HNX hdc
        go_wp2
        refine ⟨⟨k + 1, U, by omega, by go_num, hU, hUb, hb⟩, ?_⟩
        simp only [intOf]
        omega
    · have e : k = 4096 := by omega
      subst e
      have hge : ¬ ((4096 : Nat) : Int) < 4096 := by omega
      have hpost : RowsOut (patsOf n f) w (.returned u5) wr := by rw [HPE.out]; exact ⟨_, U, rfl, hU.out, hUb.out, hb⟩
      clear hU hUb hb HPE
      go_wp2
      go_ret
      exact hpost

end Go.Proofs.Ytdbogjhkcnajkaa
end

section
namespace Go.Proofs.Ytdbogjhkcnajkaa
open Go.RowKit Go.Sort
set_option linter.unusedVariables false

end Go.Proofs.Ytdbogjhkcnajkaa
end

section
namespace Go.Proofs.Ytdbogjhkcnajkaa
open Go.RowKit Go.Sort
set_option linter.unusedVariables false

/-- The cells of a table, as a list. -/
def tabL (f : Nat → Bool) : List Value := (List.range 4096).map fun i => .bool (f i)
theorem tabV_L (f : Nat → Bool) : tabV f = (tabL f).toArray := rfl
theorem tabL_len (f : Nat → Bool) : (tabL f).length = 4096 := by simp [tabL]
theorem tabL_one (f : Nat → Bool) : ∀ v ∈ tabL f, v.oneCell' = true := by
  intro v hv
  simp [tabL] at hv
  obtain ⟨i, _, rfl⟩ := hv
  rfl
theorem range_of {w : World} {g : Nat} {L : List Value} {t : TypeId} (h : w.heap[g]? = some (.cells L.toArray t (0, 0))) : w.rangeAt g 0 L := fun j v hv => by
  rw [cell_of_row w g _ _ _ _ h, Nat.zero_add]
  simpa using hv

theorem orb_done {w wr : World} {r : Nat} {n : Int} {cs : List Int} {R : List (List Int)} {A1 A2 : Option Addr} {c1 c2 : Nat} {S1 U : List Nat} (hK : Own wr S1 (.slice A1 cs.length c1) (intMem cs)) (hU : Own wr U (.slice A2 R.length c2) (rowsMem R))
    (hd : ∀ b ∈ S1, b ∉ U) (hb : Below w.heap.size w wr) (hr : w.heap.size ≤ r) (hS : ∀ b ∈ S1, w.heap.size ≤ b ∧ b ≠ r) (hUb : ∀ b ∈ U, w.heap.size ≤ b ∧ b ≠ r) :
    OrbOut n cs R w (.returned (.agg #[.int .i64 n, .slice A1 cs.length c1, .slice A2 R.length c2])) (((wr.setCell ⟨r, 0, none⟩ (.int .i64 n)).setCell ⟨r, 1, none⟩ (.slice A1 cs.length c1)).setCell ⟨r, 2, none⟩ (.slice A2 R.length c2)) := by
  have hL := orb_ownL (z := n) hK hU hd
  have hLb : ∀ b ∈ S1 ++ (U ++ []), w.heap.size ≤ b ∧ b ≠ r := fun b hb => by
    rw [List.append_nil] at hb
    rcases List.mem_append.1 hb with h | h
    · exact hS b h
    · exact hUb b h
  have onF : Only [r] wr (((wr.setCell ⟨r, 0, none⟩ (.int .i64 n)).setCell ⟨r, 1, none⟩ (.slice A1 cs.length c1)).setCell ⟨r, 2, none⟩ (.slice A2 R.length c2)) := (((Only.refl _ _).set ⟨r, 0, none⟩ _ (by simp)).set ⟨r, 1, none⟩ _ (by simp)).set ⟨r, 2, none⟩ _ (by simp)
  have hbF : Below w.heap.size w (((wr.setCell ⟨r, 0, none⟩ (.int .i64 n)).setCell ⟨r, 1, none⟩ (.slice A1 cs.length c1)).setCell ⟨r, 2, none⟩ (.slice A2 R.length c2)) := ((hb.setCell (p := ⟨r, 0, none⟩) hr _).setCell (p := ⟨r, 1, none⟩) hr _).setCell (p := ⟨r, 2, none⟩) hr _
  exact ⟨A1, c1, A2, c2, _, rfl, hL.alike fun bb hbb => onF.block bb (hL.lt bb hbb) (by have := (hLb bb hbb).2; simpa using this), fun b hb => (hLb b hb).1, hbF⟩

theorem range_set3 {w : World} {g r : Nat} {L : List Value} (h : w.rangeAt g 0 L) (hne : g ≠ r) (a b c : Value) : (((w.setCell ⟨r, 0, none⟩ a).setCell ⟨r, 1, none⟩ b).setCell ⟨r, 2, none⟩ c).rangeAt g 0 L := fun j v hv => by
  have h1 := h j v hv
  unfold World.cell? at h1 ⊢
  simp only at h1 ⊢
  rw [heap_setCell_other _ _ _ _ (by simpa using hne), heap_setCell_other _ _ _ _ (by simpa using hne), heap_setCell_other _ _ _ _ (by simpa using hne)]
  exact h1
theorem z3At {w : World} {r : Nat} {a b c : Value} {T : TypeId} (h : w.heap[r]? = some (.cells #[a, b, c] T (0, 0))) : w.frozen? ⟨r, 0, none⟩ = false ∧ w.frozen? ⟨r, 1, none⟩ = false ∧ w.frozen? ⟨r, 2, none⟩ = false := ⟨frozen_of_row _ _ 0 _ _ h, frozen_of_row _ _ 1 _ _ h, frozen_of_row _ _ 2 _ _ h⟩

set_option maxRecDepth 100000 in
set_option maxHeartbeats 4000000 in
theorem setOfCodes_any (f : Nat → Bool) (n : Nat) (hn : n ≤ 4) (cs : List Int) (hcs : cs.length ≤ 1000) (A : Option Addr) (c : Nat) (w : World) (hA : IntsAt w A cs) :
    Calls Try.prog 79 #[.slice A cs.length c, .int .i64 (n : Int), .agg (tabV f)] w (OrbOut n cs (patsOf n f) w) := by
  have hi : (Try.prog.info? 72).map (·.size) = some (tabL f).length := by rw [tabL_len]; exact tab_info
  have hone := tabL_one f
  have hlen := tabL_len f
  have hpa := fun W => patterns_any f n hn W
  rw [tabV_L] at hpa ⊢
  generalize patsOf n f = R at *
  generalize tabL f = L at *
  have hbw : Below w.heap.size w (((w.alloc (.cells L.toArray 72)).alloc (.cells #[.int .i64 0, .slice none 0 0, .slice none 0 0] 29)).drew) := (((Below.refl _ _).alloc (Nat.le_refl _) _).alloc (by simp) _).trans ⟨rfl, rfl, rfl, Nat.le_refl _, fun _ _ => rfl⟩
  have hT : (((w.alloc (.cells L.toArray 72)).alloc (.cells #[.int .i64 0, .slice none 0 0, .slice none 0 0] 29)).drew).heap[w.heap.size]? = some (.cells L.toArray 72 (0, 0)) := (Below.heap_alloc _ _ _ (by simp)).trans (heap_alloc_new w _)
  have hR : (((w.alloc (.cells L.toArray 72)).alloc (.cells #[.int .i64 0, .slice none 0 0, .slice none 0 0] 29)).drew).heap[w.heap.size + 1]? = some (.cells #[.int .i64 0, .slice none 0 0, .slice none 0 0] 29 (0, 0)) := by
    have h := heap_alloc_new (w.alloc (.cells L.toArray 72)) (.cells #[.int .i64 0, .slice none 0 0, .slice none 0 0] 29)
    rw [World.size_alloc] at h
    exact h
  have hsz : (((w.alloc (.cells L.toArray 72)).alloc (.cells #[.int .i64 0, .slice none 0 0, .slice none 0 0] 29)).drew).heap.size = w.heap.size + 2 := by simp
  have hcl := clone_any A c cs (((w.alloc (.cells L.toArray 72)).alloc (.cells #[.int .i64 0, .slice none 0 0, .slice none 0 0] 29)).drew) (hA.below hbw) (by omega)
  have hrg := range_of hT
  have hu := Try.underlying72
  have HBW := Lib.hid hbw
  have HT := Lib.hid hT
  have HR := Lib.hid hR
  have HSZ := Lib.hid hsz
  have HPA := Lib.hid hpa
  clear hA hbw hT hR hsz hpa
  go_enter Try.func79, Try.ntmps79
  go_wp2
  go_region_held3 (fun w' => w'.rangeAt w.heap.size 0 L)
    (with_reducible assumption)
    (first
      | (go_at_call 132; refine hcl.mono ?_; rintro e w4 ⟨v4, rfl, ho4, hb4⟩; have hT4 := (hb4.block w.heap.size (by rw [HSZ.out]; omega)).trans HT.out; have hR4 := (hb4.block (w.heap.size + 1) (by rw [HSZ.out]; omega)).trans HR.out; have hrg4 := range_of hT4; have hpa4 := HPA.out w4)
      | (go_at_call 64; refine hpa4.mono ?_; rintro e w5 ⟨v5, S5, rfl, hO5, hS5, hb5⟩; have hT5 := (hb5.block w.heap.size (OrbK.box_lt hT4)).trans hT4; have hR5 := (hb5.block (w.heap.size + 1) (OrbK.box_lt hR4)).trans hR4; have hrg5 := range_of hT5; obtain ⟨S4, hO4, hS4, _⟩ := own_intRow ho4; obtain ⟨A4, c4, rfl, _⟩ := own_intSlice hO4; obtain ⟨A5, c5, rfl⟩ := RowsIn.form (ls := R) hO5.at_; obtain ⟨x0, x1, x2⟩ := OrbK.row3 hR5; obtain ⟨y0, y1, y2⟩ := z3At hR5; have hrg6 := range_set3 hrg5 (show w.heap.size ≠ w.heap.size + 1 by omega) (.int .i64 (n : Int)) (.slice A4 cs.length c4) (.slice A5 R.length c5))
      | fail)
  rw [HSZ.out] at hS4
  have hbw4 := HBW.out.trans (hb4.mono HBW.out.size)
  have hz4 : w.heap.size + 2 ≤ w4.heap.size := by have := hb4.size; rw [HSZ.out] at this; exact this
  have hlt4 : ∀ b ∈ S4, b < w4.heap.size := fun b hb => hO4.lt b hb
  have hpost := orb_done (n := (n : Int)) (r := w.heap.size + 1) (hO4.keep hb5) hO5 (fun b h1 h2 => by have h3 := hlt4 b h1; have h4 := hS5 b h2; omega) (hbw4.trans (hb5.mono hbw4.size)) (by omega) (fun b h => by have := hS4 b h; omega) (fun b h => by have := hS5 b h; omega)
  clear hcl hpa4 hO4 hO5 hS4 hS5 hb4 hb5 hlt4 hbw4 HBW HT HR HSZ HPA hT4 hR4 hT5 hR5 hrg hrg4 hrg5 hrg6 ho4 hu hi hone hlen
  go_wp2
  exact bodyPost_ret (v := .agg #[.int .i64 (n : Int), .slice A4 cs.length c4, .slice A5 R.length c5]) (by simp [results, Try.results79, go_sem, x0, x1, x2]) rfl hpost
end Go.Proofs.Ytdbogjhkcnajkaa
end

section
namespace Go.Proofs.Ytdbogjhkcnajkaa
open Go.RowKit Go.Sort
set_option linter.unusedVariables false

theorem orb_pass {w wr : World} {r : Nat} {n : Int} {cs : List Int} {R : List (List Int)} {A1 A2 : Option Addr} {c1 c2 : Nat} {S : List Nat} (hL : OwnL wr S [.int .i64 n, .slice A1 cs.length c1, .slice A2 R.length c2] (encO n cs R))
    (hb : Below w.heap.size w wr) (hr : w.heap.size ≤ r) (hS : ∀ b ∈ S, w.heap.size ≤ b ∧ b ≠ r) :
    OrbOut n cs R w (.returned (.agg #[.int .i64 n, .slice A1 cs.length c1, .slice A2 R.length c2])) (((wr.setCell ⟨r, 0, none⟩ (.int .i64 n)).setCell ⟨r, 1, none⟩ (.slice A1 cs.length c1)).setCell ⟨r, 2, none⟩ (.slice A2 R.length c2)) := by
  have onF : Only [r] wr (((wr.setCell ⟨r, 0, none⟩ (.int .i64 n)).setCell ⟨r, 1, none⟩ (.slice A1 cs.length c1)).setCell ⟨r, 2, none⟩ (.slice A2 R.length c2)) := (((Only.refl _ _).set ⟨r, 0, none⟩ _ (by simp)).set ⟨r, 1, none⟩ _ (by simp)).set ⟨r, 2, none⟩ _ (by simp)
  have hbF : Below w.heap.size w (((wr.setCell ⟨r, 0, none⟩ (.int .i64 n)).setCell ⟨r, 1, none⟩ (.slice A1 cs.length c1)).setCell ⟨r, 2, none⟩ (.slice A2 R.length c2)) := ((hb.setCell (p := ⟨r, 0, none⟩) hr _).setCell (p := ⟨r, 1, none⟩) hr _).setCell (p := ⟨r, 2, none⟩) hr _
  exact ⟨A1, c1, A2, c2, _, rfl, hL.alike fun bb hbb => onF.block bb (hL.lt bb hbb) (by have := (hS bb hbb).2; simpa using this), fun b hb => (hS b hb).1, hbF⟩

set_option maxRecDepth 100000 in
set_option maxHeartbeats 4000000 in
theorem setOfTuples_any (n : Nat) (hn : n ≤ 4) (cs : List Int) (hcs : cs.length ≤ 3) (ts : List (List Int)) (htl : ts.length ≤ 2097152) (htn : ∀ i, i < ts.length → (rwAt ts i).length = n) (A B : Option Addr) (c d : Nat) (w : World) (hA : IntsAt w A cs) (hB : RowsIn w (.slice B ts.length d) ts) :
    Calls Try.prog 73 #[.slice A cs.length c, .int .i64 (n : Int), .slice B ts.length d] w (OrbOut n cs (thoseL n cs.length (patsL cs ts)) w) := by
  have hr0 := heap_alloc_new w (.cells #[.int .i64 0, .slice none 0 0, .slice none 0 0] 29)
  have hb0 : Below w.heap.size w (w.alloc (.cells #[.int .i64 0, .slice none 0 0, .slice none 0 0] 29)) := (Below.refl _ _).alloc (Nat.le_refl _) _
  have hbx : Below (w.alloc (.cells #[.int .i64 0, .slice none 0 0, .slice none 0 0] 29)).heap.size (w.alloc (.cells #[.int .i64 0, .slice none 0 0, .slice none 0 0] 29)) ((w.alloc (.cells #[.int .i64 0, .slice none 0 0, .slice none 0 0] 29)).alloc (.cells Try.zeroCells72 72)) := (Below.refl _ _).alloc (Nat.le_refl _) _
  have hr1 := (hbx.block w.heap.size (by simp)).trans hr0
  have hb1 := hb0.trans (hbx.mono hb0.size)
  have ht0 : TabAt ((w.alloc (.cells #[.int .i64 0, .slice none 0 0, .slice none 0 0] 29)).alloc (.cells Try.zeroCells72 72)) (w.heap.size + 1) (tabOf ((patsL cs ts).take 0)) := by
    have h := heap_alloc_new (w.alloc (.cells #[.int .i64 0, .slice none 0 0, .slice none 0 0] 29)) (.cells Try.zeroCells72 72)
    rw [World.size_alloc] at h
    unfold TabAt
    rw [h, tab_zero]
    rfl
  have HA := Lib.hid hA
  have HB := Lib.hid hB
  have HTN := Lib.hid htn
  have H1 := Lib.hid hr1
  have H0 := Lib.hid ht0
  clear hA hB htn hr0 hb0 hbx hr1 ht0
  go_enter Try.func73, Try.ntmps73
  go_wp2_with fail
  generalize (w.alloc (.cells #[.int .i64 0, .slice none 0 0, .slice none 0 0] 29)).alloc (.cells Try.zeroCells72 72) = w1 at H0 H1 hb1 ⊢
  go_loopw [9, 12] (fun _ i wr => ∃ k : Nat, k ≤ ts.length ∧ i = .int .i64 k ∧ Hid (TabAt wr (w.heap.size + 1) (tabOf ((patsL cs ts).take k))) ∧ Hid (wr.heap[w.heap.size]? = some (.cells #[.int .i64 0, .slice none 0 0, .slice none 0 0] 29 (0, 0))) ∧ Below w.heap.size w wr) (fun _ i _ => ts.length - (intOf i).toNat)
  case atStart => exact ⟨0, Nat.zero_le _, rfl, H0, H1, hb1⟩
  case round =>
    clear H0 H1 hb1
    obtain ⟨k, hk, rfl, ht, hr, hb⟩ := hrel
    by_cases hlt : k < ts.length
    · obtain ⟨b1, o1, rfl, hb1, hc1⟩ := (HB.out.below hb).get (by omega)
      obtain ⟨A1, c1, e1, hA1⟩ := hc1 k hlt
      have htk := HTN.out k hlt
      have hpi := patternIn_any A A1 c c1 cs (rwAt ts k) wr (HA.out.below hb) hA1 (by omega) (by omega)
      have hpm := patL_mem (cs := cs) htk
      obtain ⟨hpl, hpd⟩ := dig_allP (k := (cs.length : Int)) (by omega) (by omega) hn hpm
      have hs := code_4096 (k := (cs.length : Int)) (by omega) (by omega) hn hpm
      have hco := fun (A' : Option Addr) (c' : Nat) (W : World) (h : IntsAt W A' (patL cs (rwAt ts k))) => codeOf_any A' c' (patL cs (rwAt ts k)) W h (by omega) hpd
      have hstep := Lib.hid (fun i => tabOf_take (m := patsL cs ts) (k := k) (by rw [patsL_len]; exact hlt) i)
      rw [patsL_at hlt] at hstep
      have HCO := Lib.hid hco
      have hpl4 : (patL cs (rwAt ts k)).length ≤ 4 := by omega
      have hrl4 : (rwAt ts k).length ≤ 4 := by omega
      clear htk hpm hpl hpd hco hc1 hA1
      generalize patL cs (rwAt ts k) = p at *
      generalize rwAt ts k = t at *
      go_wp2_with fail
      refine hpi.mono ?_
      rintro e w3 ⟨v3, rfl, ho3, hb3⟩
      obtain ⟨A3, c3, rfl, hA3⟩ := own_intsAt ho3
      have hco3 := HCO.out A3 c3 w3 hA3
      have ht3 := ht.out.below hb3
      have hr3 := (hb3.block w.heap.size (OrbK.box_lt hr.out)).trans hr.out
      have hb4 := hb.trans (hb3.mono hb.size)
      have hst := ht3.set_ hs true
      have hst2 : Hid (TabAt (w3.setCell ⟨w.heap.size + 1, codeP p, none⟩ (.bool true)) (w.heap.size + 1) (tabOf ((patsL cs ts).take (k + 1)))) := Lib.hid (hst.ext fun i _ => hstep.out i)
      have hcl := ht3.cell hs
      have hfz := ht3.frozen (codeP p)
      have hr2 : Hid ((w3.setCell ⟨w.heap.size + 1, codeP p, none⟩ (.bool true)).heap[w.heap.size]? = some (.cells #[.int .i64 0, .slice none 0 0, .slice none 0 0] 29 (0, 0))) := Lib.hid ((heap_setCell_other _ _ _ _ (by simp)).trans hr3)
      have hb5 : Below w.heap.size w (w3.setCell ⟨w.heap.size + 1, codeP p, none⟩ (.bool true)) := hb4.setCell (by simp) _
      generalize tabOf ((patsL cs ts).take k) (codeP p) = bb at hcl
      generalize codeP p = x at hco3 hs hst2 hcl hfz hr2 hb5
      clear hst ht hr hb hpi HCO hA3 ho3 hb3 ht3 hr3 hb4 hstep e1
      go_wp2_with (go_at_call 86; refine hco3.mono ?_; rintro e w4 ⟨rfl, rfl⟩)
      clear hco3 hcl hfz
      refine ⟨⟨k + 1, by omega, by go_num, hst2, hr2, hb5⟩, ?_⟩
      simp only [intOf]
      omega
    · have e : k = ts.length := by omega
      subst e
      have ht' := ht.out
      rw [← patsL_len cs ts, List.take_length] at ht'
      have hso := setOfCodes_any (tabOf (patsL cs ts)) n hn cs (by omega) A c wr (HA.out.below hb)
      rw [patsOf_tabOf (k := (cs.length : Int)) (by omega) (by omega) hn (patsL_mem HTN.out)] at hso
      unfold TabAt at ht'
      have HI : Hid ((Try.prog.info? 72).map (·.size) = some (tabV (tabOf (patsL cs ts))).size) := Lib.hid (by rw [tabV_size]; exact tab_info)
      have HT := Lib.hid ht'
      clear ht' ht HTN
      generalize tabV (tabOf (patsL cs ts)) = ds at *
      generalize thoseL n cs.length (patsL cs ts) = R at *
      go_wp2_with (first
        | (refine wpList_load_row rfl 72 (.tmp 7) rfl (w.heap.size + 1) rfl _ ds _ _ HT.out Try.underlying72 rfl HI.out ?_)
        | (go_at_call 79; refine hso.mono ?_; rintro e w5 ⟨A4, c4, A5, c5, S5, rfl, hL5, hS5, hb5⟩; have hr5 := (hb5.block w.heap.size (OrbK.box_lt hr.out)).trans hr.out; obtain ⟨x0, x1, x2⟩ := OrbK.row3 hr5; obtain ⟨y0, y1, y2⟩ := z3At hr5))
      have hpost := orb_pass (r := w.heap.size) hL5 (hb.trans (hb5.mono hb.size)) (Nat.le_refl _) (fun b h => by have h1 := hS5 b h; have h2 := OrbK.box_lt hr.out; omega)
      clear hso hL5 hS5 hb5 hr5 hb HT HI hr
      go_wp2
      exact bodyPost_ret (v := .agg #[.int .i64 (n : Int), .slice A4 cs.length c4, .slice A5 R.length c5]) (by simp [results, Try.results73, go_sem, x0, x1, x2]) rfl hpost
end Go.Proofs.Ytdbogjhkcnajkaa
end

section
namespace Go.Proofs.Ytdbogjhkcnajkaa
open Go.RowKit Go.Sort
set_option linter.unusedVariables false

/-- An orbit set and a bool. -/
def OrbBOut (z : Int) (l : List Int) (m : List (List Int)) (b : Bool) (w : World) (e : Ending) (w' : World) : Prop :=
  ∃ A1 c1 A2 c2 S, e = .returned (.tuple #[.agg #[.int .i64 z, .slice A1 l.length c1, .slice A2 m.length c2], .bool b]) ∧
    OwnL w' S [.int .i64 z, .slice A1 l.length c1, .slice A2 m.length c2] (encO z l m) ∧ (∀ b ∈ S, w.heap.size ≤ b) ∧ Below w.heap.size w w'
theorem orbB_of {z : Int} {l : List Int} {m : List (List Int)} {w w' : World} {A1 A2 : Option Addr} {c1 c2 : Nat} (b : Bool) (h : OrbOut z l m w (.returned (.agg #[.int .i64 z, .slice A1 l.length c1, .slice A2 m.length c2])) w') :
    OrbBOut z l m b w (.returned (.tuple #[.agg #[.int .i64 z, .slice A1 l.length c1, .slice A2 m.length c2], .bool b])) w' := by
  obtain ⟨A1', c1', A2', c2', S, e, hL, hS, hb⟩ := h
  injection e with e
  injection e with e
  simp only [Array.mk.injEq, List.cons.injEq, Value.slice.injEq, and_true, true_and] at e
  obtain ⟨⟨rfl, rfl⟩, rfl, rfl⟩ := e
  exact ⟨A1, c1, A2, c2, S, rfl, hL, hS, hb⟩
theorem orbB_zero {w w' : World} (hb : Below w.heap.size w w') : OrbBOut 0 [] [] false w (.returned (.tuple #[.agg #[.int .i64 0, .slice none 0 0, .slice none 0 0], .bool false])) w' := by
  have h1 : Own w' [] (.slice none 0 0) (intMem []) := .nil _ _
  have h2 : Own w' [] (.slice none 0 0) (rowsMem []) := .nil _ _
  exact ⟨none, 0, none, 0, _, rfl, orb_ownL (z := 0) (l := []) (m := []) h1 h2 (fun b hb => by simp at hb), fun b hb => by simp at hb, hb⟩
def ozR (b : Bool) (z : Int) : Int := if b then z else 0
def olR (b : Bool) (l : List Int) : List Int := if b then l else []
def omR (b : Bool) (m : List (List Int)) : List (List Int) := if b then m else []

end Go.Proofs.Ytdbogjhkcnajkaa
end

section
namespace Go.Proofs.Ytdbogjhkcnajkaa
open Go.RowKit
set_option linter.unusedVariables false

end Go.Proofs.Ytdbogjhkcnajkaa
end

section
namespace Go.Proofs.Ytdbogjhkcnajkaa
open Go.RowKit
set_option linter.unusedVariables false

/-- The tuples of the places of examples. -/
def plcT (l : List Int) (m : List (List Int)) (ps : List Int) : List (List Int) := (exsL l m).map fun e => exL e ps
def plcN (l : List Int) (m : List (List Int)) (ps : List Int) : List (List Int) := patsL l (plcT l m ps)
def plcM (l : List Int) (m : List (List Int)) (ps : List Int) : List (List Int) := thoseL ps.length l.length (plcN l m ps)
def placesB (z : Int) (ps : List Int) : Bool := ps.all fun i => decide (0 ≤ i ∧ i < z)
def plcOk (z : Int) (l : List Int) (m : List (List Int)) (ps : List Int) : Bool := orbB z l m && (decide (ps.length ≤ 4) && placesB z ps)
theorem placesB_at {z : Int} {ps : List Int} (h : placesB z ps = true) {i : Nat} (hi : i < ps.length) : 0 ≤ itAt ps i ∧ itAt ps i < z := by
  unfold placesB at h
  have h1 := List.all_eq_true.1 h (itAt ps i) (by rw [itAt_get _ _ hi]; exact List.getElem_mem hi)
  simpa using h1
theorem placesB_no {z : Int} {ps : List Int} {i : Nat} (hi : i < ps.length) (h : ¬ (0 ≤ itAt ps i ∧ itAt ps i < z)) : placesB z ps = false := by
  rw [Bool.eq_false_iff]
  exact fun h1 => h (placesB_at h1 hi)
theorem placesB_yes {z : Int} {ps : List Int} (h : ∀ i, i < ps.length → 0 ≤ itAt ps i ∧ itAt ps i < z) : placesB z ps = true := by
  unfold placesB
  rw [List.all_eq_true]
  intro x hx
  obtain ⟨n, hn, rfl⟩ := List.getElem_of_mem hx
  have := h n hn
  rw [itAt_get ps n hn] at this
  simpa using this
theorem plcT_len (l : List Int) (m : List (List Int)) (ps : List Int) : (plcT l m ps).length = m.length := by simp [plcT, exsL]
theorem plcT_at {l : List Int} {m : List (List Int)} {ps : List Int} {i : Nat} (h : i < m.length) : rwAt (plcT l m ps) i = exL (exL (numL l 4) (rwAt m i)) ps := by
  rw [rwAt_get _ _ (by rw [plcT_len]; exact h), rwAt_get _ _ h]
  simp [plcT, exsL]
theorem plcT_row {l : List Int} {m : List (List Int)} {ps : List Int} {i : Nat} (h : i < (plcT l m ps).length) : (rwAt (plcT l m ps) i).length = ps.length := by
  rw [plcT_len] at h
  rw [plcT_at h, exL_len]
theorem plcT_next {l : List Int} {m : List (List Int)} {ps : List Int} {i : Nat} (h : i < m.length) : plcT l (m.take (i + 1)) ps = plcT l (m.take i) ps ++ [exL (exL (numL l 4) (rwAt m i)) ps] := by
  rw [rw_take_next h]
  simp [plcT, exsL]
theorem plcN_next {l : List Int} {m : List (List Int)} {ps : List Int} {i : Nat} (h : i < m.length) : plcN l (m.take (i + 1)) ps = plcN l (m.take i) ps ++ [patL l (exL (exL (numL l 4) (rwAt m i)) ps)] := by
  unfold plcN
  rw [plcT_next h]
  simp [patsL]
theorem plcN_len (l : List Int) (m : List (List Int)) (ps : List Int) : (plcN l m ps).length = m.length := by unfold plcN; rw [patsL_len, plcT_len]
theorem plcN_row {l : List Int} {m : List (List Int)} {ps : List Int} {i : Nat} (h : i < (plcN l m ps).length) : (rwAt (plcN l m ps) i).length = ps.length := by
  unfold plcN at h ⊢
  rw [patsL_len] at h
  rw [patsL_at h, patL_len, plcT_row h]
theorem plcLen (z : Int) (l : List Int) (m : List (List Int)) (ps : List Int) : (olR (plcOk z l m ps) l).length ≤ 3 ∧ (omR (plcOk z l m ps) (plcM l m ps)).length + sumR (omR (plcOk z l m ps) (plcM l m ps)) ≤ 32768 := by
  cases h : plcOk z l m ps with
  | false => simp [olR, omR, sumR]
  | true =>
    simp only [plcOk, Bool.and_eq_true] at h
    have h4 := const_len (orb_const h.1)
    have h5 : ps.length ≤ 4 := by simpa using h.2.1
    exact ⟨h4, filter_fit (by omega) (by omega) h5 _⟩
theorem plcFit (z : Int) (l : List Int) (m : List (List Int)) (ps : List Int) : FitO (olR (plcOk z l m ps) l) (omR (plcOk z l m ps) (plcM l m ps)) :=
  ⟨by have := plcLen z l m ps; omega, fitR_of (by have := plcLen z l m ps; omega)⟩
theorem plcSum (z : Int) (l : List Int) (m : List (List Int)) (ps : List Int) : (olR (plcOk z l m ps) l).length + sumR (omR (plcOk z l m ps) (plcM l m ps)) ≤ 8388608 := by have := plcLen z l m ps; omega
end Go.Proofs.Ytdbogjhkcnajkaa
end

section
namespace Go.Proofs.Ytdbogjhkcnajkaa
open Go.RowKit
set_option linter.unusedVariables false

theorem ex_at {cs : List Int} {P : List (List Int)} {i : Nat} (hi : i < P.length) : rwAt (exsL cs P) i = exL (numL cs 4) (rwAt P i) := by
  rw [rwAt_get _ _ (by rw [exsL_len]; exact hi), rwAt_get _ _ hi]
  simp [exsL]
end Go.Proofs.Ytdbogjhkcnajkaa
end

section
namespace Go.Proofs.Ytdbogjhkcnajkaa
open Go.RowKit Go.Sort
set_option linter.unusedVariables false

theorem notPlace_any (V : Nat) (a z : Int) (w : World) (hV : w.cell? ⟨V, 0, none⟩ = some (.int .i64 z)) :
    Calls Try.prog 89 #[.int .i64 a, .pointer (some ⟨V, 0, none⟩)] w fun e w' => e = .returned (.bool (!placeB a z)) ∧ w = w' := by
  have hc := isPlace_any a z w
  generalize placeB a z = r at hc ⊢
  go_enter Try.func89, Try.ntmps89
  go_wp2_with fail
  refine hc.mono ?_
  rintro e w2 ⟨rfl, rfl⟩
  clear hc
  go_wp2
  go_ret
  exact ⟨rfl, rfl⟩
theorem place_iff {a z : Int} : placeB a z = true ↔ 0 ≤ a ∧ a < z := by simp [placeB]

set_option maxRecDepth 100000 in
set_option maxHeartbeats 2000000 in
theorem indexNotPlace_any (A : Option Addr) (c : Nat) (p : List Int) (V : Nat) (z : Int) (w : World) (hV : w.cell? ⟨V, 0, none⟩ = some (.int .i64 z)) (hA : IntsAt w A p) (hp : p.length ≤ 1099511627776) :
    Calls Try.prog 135 #[.slice A p.length c, .func (.func 89) #[] #[.pointer (some ⟨V, 0, none⟩)]] w
      fun e w' => (∃ i : Int, e = .returned (.int .i64 i) ∧ ((0 ≤ i ∧ placesB z p = false) ∨ (i < 0 ∧ placesB z p = true))) ∧ w = w' := by
  go_enter Try.func135, Try.ntmps135
  go_wp2
  go_loopw [5, 8] (fun _ i wr => ∃ k : Nat, k ≤ p.length ∧ i = .int .i64 k ∧ Hid (∀ j, j < k → placeB (itAt p j) z = true) ∧ w = wr) (fun _ i _ => p.length - (intOf i).toNat)
  case atStart => exact ⟨0, Nat.zero_le _, rfl, Lib.hid (fun j hj => absurd hj (by omega)), rfl⟩
  case round =>
    obtain ⟨k, hk, rfl, hn, rfl⟩ := hrel
    by_cases hlt : k < p.length
    · obtain ⟨b1, o1, rfl, hb1, hc1⟩ := hA (by omega)
      have c1 := hc1 k hlt
      have hcall := notPlace_any V (itAt p k) z w hV
      by_cases hx : placeB (itAt p k) z = true
      · rw [hx] at hcall
        have hn2 := Lib.hid (next_all (p := fun j => placeB (itAt p j) z) hn.out hx)
        clear hc1 hA hn hx hV
        generalize itAt p k = p1 at c1 hcall
        go_wp2_with (go_at_call 89; refine hcall.mono ?_; rintro e w2 ⟨rfl, rfl⟩)
        clear hcall c1
        refine ⟨⟨k + 1, by omega, by go_num, hn2, by first | rfl | trivial⟩, ?_⟩
        simp only [intOf]
        omega
      · have hx' : placeB (itAt p k) z = false := by simpa using hx
        rw [hx'] at hcall
        have hn2 := Lib.hid (placesB_no (z := z) hlt (fun h => hx (place_iff.2 h)))
        clear hc1 hA hn hx hx' hV
        generalize itAt p k = p1 at c1 hcall
        go_wp2_with (go_at_call 89; refine hcall.mono ?_; rintro e w2 ⟨rfl, rfl⟩)
        clear hcall c1
        go_ret
        exact ⟨⟨_, rfl, Or.inl ⟨by omega, hn2.out⟩⟩, rfl⟩
    · have hn2 := Lib.hid (placesB_yes (z := z) (ps := p) fun j hj => place_iff.1 (hn.out j (by omega)))
      clear hn hA hV
      go_wp2
      go_ret
      exact ⟨⟨_, rfl, Or.inr ⟨by decide, hn2.out⟩⟩, rfl⟩

theorem containsNotPlace_any (A : Option Addr) (c : Nat) (p : List Int) (V : Nat) (z : Int) (w : World) (hV : w.cell? ⟨V, 0, none⟩ = some (.int .i64 z)) (hA : IntsAt w A p) (hp : p.length ≤ 1099511627776) :
    Calls Try.prog 88 #[.slice A p.length c, .func (.func 89) #[] #[.pointer (some ⟨V, 0, none⟩)]] w
      fun e w' => e = .returned (.bool (!placesB z p)) ∧ w = w' := by
  have hi := indexNotPlace_any A c p V z w hV hA hp
  clear hA hV
  generalize placesB z p = r at hi ⊢
  go_enter Try.func88, Try.ntmps88
  go_wp2_with fail
  refine hi.mono ?_
  rintro e w2 ⟨⟨i, rfl, h⟩, rfl⟩
  clear hi
  rcases h with ⟨h, rfl⟩ | ⟨h, rfl⟩
  · go_wp2
    go_ret
    exact ⟨rfl, rfl⟩
  · have h' : ¬ 0 ≤ i := by omega
    go_wp2
    go_ret
    exact ⟨bool_end (by first | rfl | (simp; omega)), rfl⟩

set_option maxRecDepth 100000 in
set_option maxHeartbeats 8000000 in
theorem placesOfSet_impl (z : Int) (l : List Int) (m : List (List Int)) (hf : FitO l m) (ps : List Int) (hpl : ps.length ≤ 1048576) (x : Value) (C : Option Addr) (e0 : Nat) (w : World) (hx : OrbIx w x z l m) (hC : IntsAt w C ps) :
    Calls Try.prog 41 #[x, .slice C ps.length e0] w (OrbBOut (ozR (plcOk z l m ps) ps.length) (olR (plcOk z l m ps) l) (omR (plcOk z l m ps) (plcM l m ps)) (plcOk z l m ps) w) := by
  have hX := hx
  obtain ⟨A, c, B, d, rfl, hl, hmr, hm⟩ := hx
  have hb0 : Below w.heap.size w ((w.alloc (.cells #[.int .i64 z, .slice A l.length c, .slice B m.length d] 29)).alloc (.cells #[.int .i64 0, .slice none 0 0, .slice none 0 0] 29)) := ((Below.refl _ _).alloc (Nat.le_refl _) _).alloc (by simp) _
  have k0 : ((w.alloc (.cells #[.int .i64 z, .slice A l.length c, .slice B m.length d] 29)).alloc (.cells #[.int .i64 0, .slice none 0 0, .slice none 0 0] 29)).heap[w.heap.size]? = some (.cells #[.int .i64 z, .slice A l.length c, .slice B m.length d] 29 (0, 0)) := (Below.heap_alloc _ _ _ (by simp)).trans (heap_alloc_new w _)
  have k1 : ((w.alloc (.cells #[.int .i64 z, .slice A l.length c, .slice B m.length d] 29)).alloc (.cells #[.int .i64 0, .slice none 0 0, .slice none 0 0] 29)).heap[w.heap.size + 1]? = some (.cells #[.int .i64 0, .slice none 0 0, .slice none 0 0] 29 (0, 0)) := by
    have h := heap_alloc_new (w.alloc (.cells #[.int .i64 z, .slice A l.length c, .slice B m.length d] 29)) (.cells #[.int .i64 0, .slice none 0 0, .slice none 0 0] 29)
    rw [World.size_alloc] at h
    exact h
  obtain ⟨b0, b1, b2⟩ := OrbK.row3 k0
  have hio := isOrbitSet_impl z l m hf _ _ (hX.below hb0)
  have HX := Lib.hid hX
  have HB0 := Lib.hid hb0
  have HK0 := Lib.hid k0
  have HK1 := Lib.hid k1
  have HC := Lib.hid hC
  have HL := Lib.hid hl
  clear hl hmr hm k0 k1 hX hb0 hC
  cases ho : orbB z l m with
  | false =>
    rw [ho] at hio
    have hkk : plcOk z l m ps = false := by simp [plcOk, ho]
    clear ho
    go_enter Try.func41, Try.ntmps41
    go_wp2_with (first
      | (go_at_call 77; (with_reducible refine hio.mono ?_); rintro e w2 ⟨rfl, hb2⟩; have hbz2 := HB0.out.trans (hb2.mono HB0.out.size); have k2 := (hb2.block _ (OrbK.box_lt HK0.out)).trans HK0.out; clear b0 b1 b2; obtain ⟨b0, b1, b2⟩ := OrbK.row3 k2; have hr2 := (hb2.block _ (OrbK.box_lt HK1.out)).trans HK1.out; obtain ⟨x0, x1, x2⟩ := OrbK.row3 hr2; obtain ⟨y0, y1, y2⟩ := z3At hr2))
    have hbz := hbz2
    clear hio hb2 b0 b1 b2 k2 hr2 HB0 HK0 HK1
    have hpost := orbB_zero (((hbz.setCell (p := ⟨w.heap.size + 1, 0, none⟩) (Nat.le_succ _) (.int .i64 0)).setCell (p := ⟨w.heap.size + 1, 1, none⟩) (Nat.le_succ _) (.slice none 0 0)).setCell (p := ⟨w.heap.size + 1, 2, none⟩) (Nat.le_succ _) (.slice none 0 0))
    go_wp2
    exact bodyPost_ret (v := .tuple #[.agg #[.int .i64 0, .slice none 0 0, .slice none 0 0], .bool false]) (by simp [results, Try.results41, go_sem, x0, x1, x2]) rfl (by rw [hkk]; exact hpost)
  | true =>
    rw [ho] at hio
    by_cases h4 : ps.length ≤ 4
    · have h4i : ¬ (4 : Int) < (ps.length : Int) := by omega
      have hcc := fun (W : World) (h : Below w.heap.size w W) (hV : W.cell? ⟨w.heap.size, 0, none⟩ = some (.int .i64 z)) => containsNotPlace_any C e0 ps w.heap.size z W hV (HC.out.below h) (by omega)
      cases hpb : placesB z ps with
      | false =>
        simp only [hpb, Bool.not_false] at hcc
        have hkk : plcOk z l m ps = false := by simp [plcOk, hpb]
        clear ho hpb
        go_enter Try.func41, Try.ntmps41
        go_wp2_with (first
          | (go_at_call 77; (with_reducible refine hio.mono ?_); rintro e w2 ⟨rfl, hb2⟩; have hbz2 := HB0.out.trans (hb2.mono HB0.out.size); have k2 := (hb2.block _ (OrbK.box_lt HK0.out)).trans HK0.out; clear b0 b1 b2; obtain ⟨b0, b1, b2⟩ := OrbK.row3 k2; have hr2 := (hb2.block _ (OrbK.box_lt HK1.out)).trans HK1.out; obtain ⟨x0, x1, x2⟩ := OrbK.row3 hr2; obtain ⟨y0, y1, y2⟩ := z3At hr2; have hcq := hcc w2 hbz2 b0)
          | (go_at_call 88; (with_reducible refine hcq.mono ?_); rintro e w3 ⟨rfl, rfl⟩; skip))
        have hbz := hbz2
        clear hio hcc hcq hb2 b0 b1 b2 k2 hr2 HB0 HK0 HK1
        have hpost := orbB_zero (((hbz.setCell (p := ⟨w.heap.size + 1, 0, none⟩) (Nat.le_succ _) (.int .i64 0)).setCell (p := ⟨w.heap.size + 1, 1, none⟩) (Nat.le_succ _) (.slice none 0 0)).setCell (p := ⟨w.heap.size + 1, 2, none⟩) (Nat.le_succ _) (.slice none 0 0))
        go_wp2
        exact bodyPost_ret (v := .tuple #[.agg #[.int .i64 0, .slice none 0 0, .slice none 0 0], .bool false]) (by simp [results, Try.results41, go_sem, x0, x1, x2]) rfl (by rw [hkk]; exact hpost)
      | true =>
        have hkk : plcOk z l m ps = true := by simp [plcOk, ho, h4, hpb]
        simp only [hpb, Bool.not_true] at hcc
        obtain ⟨hwz, hro⟩ := orb_rows ho
        have hz4 := widB_iff.1 hwz
        have hk3 := const_len (orb_const ho)
        have HRW : Hid (∀ i, i < m.length → (exL (numL l 4) (rwAt m i)).length ≤ 4 ∧ ∀ q, q < ps.length → 0 ≤ itAt ps q ∧ (itAt ps q).toNat < (exL (numL l 4) (rwAt m i)).length) := Lib.hid (fun i hi => by
          have h1 := (rowsOk_at hro hi).1
          rw [exL_len]
          refine ⟨by omega, fun q hq => ?_⟩
          have h2 := placesB_at hpb hq
          omega)
        have hml := hf.2.1
        have hex := fun (W : World) (h : Below w.heap.size w W) => examplesOf_impl z l m hf _ W (HX.out.below h)
        rw [exsR_yes ho] at hex
        have hso := fun (W : World) (h : Below w.heap.size w W) (B9 : Option Addr) (d9 : Nat) (hB : RowsIn W (.slice B9 (plcT l m ps).length d9) (plcT l m ps)) => setOfTuples_any ps.length h4 l hk3 (plcT l m ps) (by rw [plcT_len]; omega) (fun i hi => plcT_row hi) A B9 c d9 W (HL.out.1.below h) hB
        rw [show thoseL ps.length l.length (patsL l (plcT l m ps)) = plcM l m ps from rfl] at hso
        have HNX := Lib.hid (fun i (hi : i < m.length) => plcT_next (l := l) (ps := ps) hi)
        have HTL := Lib.hid (fun i (hi : i ≤ m.length) => show (plcT l (m.take i) ps).length = i by rw [plcT_len, List.length_take]; omega)
        have HT0 : Hid (plcT l (m.take 0) ps = []) := Lib.hid (by simp [plcT, exsL])
        have HTE : Hid (plcT l (m.take m.length) ps = plcT l m ps) := Lib.hid (by rw [List.take_length])
        have HEA := Lib.hid (fun i (hi : i < m.length) => ex_at (cs := l) hi)
        have HEL := Lib.hid (exsL_len l m)
        have HKK := Lib.hid hkk
        clear ho hpb hwz hro hz4 hkk
        generalize plcM l m ps = R at *
        generalize exsL l m = E at *
        go_enter Try.func41, Try.ntmps41
        go_wp2_with (first
          | (go_at_call 77; (with_reducible refine hio.mono ?_); rintro e w2 ⟨rfl, hb2⟩; have hbz2 := HB0.out.trans (hb2.mono HB0.out.size); have k2 := (hb2.block _ (OrbK.box_lt HK0.out)).trans HK0.out; clear b0 b1 b2; obtain ⟨b0, b1, b2⟩ := OrbK.row3 k2; have hcq := hcc w2 hbz2 b0)
          | (go_at_call 88; (with_reducible refine hcq.mono ?_); rintro e w3 ⟨rfl, rfl⟩; have k3 := (Below.heap_alloc w2 (.cells #[] 27) _ (OrbK.box_lt k2)).trans k2; clear b0 b1 b2; obtain ⟨b0, b1, b2⟩ := OrbK.row3 k3; have hbL : Below w2.heap.size w2 (w2.alloc (.cells #[] 27)) := (Below.refl _ _).alloc (Nat.le_refl _) _; have hxq := hex _ (hbz2.trans (hbL.mono hbz2.size)))
          | (go_at_call 91; (with_reducible refine hxq.mono ?_); rintro e w8 ⟨v8, SE, rfl, hSE, hSEb, hb8⟩; obtain ⟨BE, dE, hBE⟩ := RowsIn.form (ls := E) hSE.at_; subst hBE))
        clear b0 b1 b2 k3 hxq hex hio hcc hcq
        have KA := Lib.hid k2
        have KR := Lib.hid ((hb2.block _ (OrbK.box_lt HK1.out)).trans HK1.out)
        have HBW := Lib.hid hbz2
        have hsL : (w2.alloc (.cells #[] 27)).heap.size = w2.heap.size + 1 := by simp
        rw [hsL] at hSEb
        have O8 := Lib.hid ((own_lit0 w2).keep hb8)
        have HB8 := Lib.hid (hbL.trans (hb8.mono hbL.size))
        have ES := Lib.hid hSE
        have HSE : Hid (∀ b ∈ SE, w2.heap.size + 1 ≤ b ∧ b < w8.heap.size) := Lib.hid (fun b hb => ⟨hSEb b hb, hSE.lt b hb⟩)
        have hs8 : w2.heap.size + 1 ≤ w8.heap.size := by have := hb8.size; omega
        clear hb2 k2 hbz2 HB0 HK0 HK1 hSE hSEb hbL hsL hb8
        rw [HEL.out]
        go_wp2
        go_loopw [6, 8, 26] (fun v6 _ i wr => ∃ (j : Nat) (U : List Nat), j ≤ m.length ∧ i = .int .i64 j ∧ Hid (Own wr U v6 (rowsMem (plcT l (m.take j) ps))) ∧ Hid (Own wr SE (.slice BE E.length dE) (rowsMem E)) ∧ Hid (∀ b ∈ U, w2.heap.size ≤ b ∧ b ∉ SE) ∧ Below w2.heap.size w2 wr ∧ w8.heap.size ≤ wr.heap.size) (fun _ _ i _ => m.length - (intOf i).toNat)
        case atStart => exact ⟨0, _, Nat.zero_le _, rfl, by rw [HT0.out]; exact O8, ES, Lib.hid (fun b hb => by
          have e : b = w2.heap.size := by simpa using hb
          subst e
          exact ⟨Nat.le_refl _, fun h => by have := (HSE.out _ h).1; omega⟩), HB8.out, Nat.le_refl _⟩
        case round =>
          clear O8 ES HB8
          obtain ⟨j, U, hj, rfl, hU, hE, hUb, hb, hsw⟩ := hrel
          by_cases hlt : j < m.length
          · have hRE := hE.out.at_
            obtain ⟨b1, o1, rfl, hb1, hc1⟩ := RowsIn.get hRE (by rw [HEL.out]; omega)
            obtain ⟨A1, c1, d1, hA1⟩ := hc1 j (by rw [HEL.out]; exact hlt)
            rw [HEA.out j hlt] at d1 hA1
            obtain ⟨hv4, hpi⟩ := HRW.out j hlt
            have hcw := HC.out.below (HBW.out.trans (hb.mono HBW.out.size))
            have hta := takenAt_any A1 C c1 e0 (exL (numL l 4) (rwAt m j)) ps wr hA1 hcw (by omega) (by omega) hpi
            have hnx := Lib.hid (HNX.out j hlt)
            have htl := HTL.out j (by omega)
            have hxl := Lib.hid (exL_len (exL (numL l 4) (rwAt m j)) ps)
            clear hc1 hA1 hRE hcw hpi
            generalize exL (exL (numL l 4) (rwAt m j)) ps = X at hta hnx hxl
            generalize (exL (numL l 4) (rwAt m j)).length = vl at d1 hta hv4
            generalize plcT l (m.take j) ps = D at hU hnx htl
            go_wp2_with fail
            (with_reducible refine hta.mono ?_)
            rintro e w3 ⟨v3, rfl, ho3, hb3⟩
            obtain ⟨T, hT, hTb, hTe⟩ := own_intRow ho3
            obtain ⟨A9, c9, rfl, _⟩ := own_intSlice hT
            clear hTe
            have hbx : Below w3.heap.size w3 (w3.alloc (.cells #[.slice A9 X.length c9] 27)) := (Below.refl _ _).alloc (Nat.le_refl _) _
            have hb4 := hb3.trans (hbx.mono hb3.size)
            have hT4 := Lib.hid (hT.keep hbx)
            have hU4 := hU.out.keep hb4
            have HE4 := Lib.hid (hE.out.keep hb4)
            have HB4 := Lib.hid (hb.trans (hb4.mono hb.size))
            have hcell : (w3.alloc (.cells #[.slice A9 X.length c9] 27)).cell? ⟨w3.heap.size, 0, none⟩ = some (.slice A9 X.length c9) := by simp
            have HCL := Lib.hid (one_cell hcell)
            have HUl : Hid (∀ b ∈ U, b < wr.heap.size) := Lib.hid (fun b h => hU.out.lt b h)
            have HDT : Hid (∀ b ∈ U, b ∉ T) := Lib.hid (fun b h1 h2 => by have := HUl.out b h1; have := hTb b h2; omega)
            have HTb := Lib.hid hTb
            have hs3 := hb3.size
            have hdl : D.length + 1 ≤ 16777216 := by omega
            clear hcell hbx hT ho3 hU hE hb hb3 hb4 hta d1 hTb
            go_wp2_with (at_builtin; refine wpList_append_rows rfl (.tmp 30) (.tmp 34) rfl _ U D rfl hU4 ⟨w3.heap.size, 0, none⟩ _ X T rfl HCL.out hT4.out HDT.out hdl ?_)
            intro g2 cap2 U3 w7 hU7 hU3 hon
            have hs7 : w3.heap.size + 1 ≤ w7.heap.size := by have := hon.size; rw [World.size_alloc] at this; exact this
            have E7 := Lib.hid (HE4.out.alike (w' := w7) fun b hbb => hon.block b (HE4.out.lt b hbb) (fun h => (hUb.out b h).2 hbb))
            have hb7 := Only.below HB4.out hon HB4.out.size (fun b h => (hUb.out b h).1)
            have B7 : Hid (∀ b ∈ U3, w2.heap.size ≤ b ∧ b ∉ SE) := Lib.hid (fun b h => by
              rcases hU3 b h with h1 | h1 | h1
              · exact hUb.out b h1
              · have h2 := HTb.out b h1
                exact ⟨by omega, fun h3 => by have := (HSE.out b h3).2; omega⟩
              · (try rw [World.size_alloc] at h1)
                exact ⟨by omega, fun h3 => by have := (HSE.out b h3).2; omega⟩)
            rw [← hnx.out] at hU7
            have U7 := Lib.hid hU7
            clear hU7 hU3 hon HB4 HE4 hT4 HCL HDT HUl HTb hnx hxl hU4 htl hUb
            go_wp2
            refine ⟨⟨j + 1, U3, by omega, by go_num, U7, E7, B7, hb7, by omega⟩, ?_⟩
            simp only [intOf]
            omega
          · have e : j = m.length := by omega
            subst e
            rw [HTE.out] at hU
            have hU' := hU.out.at_
            have hbW := HBW.out.trans (hb.mono HBW.out.size)
            have hr := (hb.block _ (OrbK.box_lt KA.out)).trans KA.out
            have hq := (hb.block _ (OrbK.box_lt KR.out)).trans KR.out
            obtain ⟨B9, d9, hB9⟩ := RowsIn.form (ls := plcT l m ps) hU'
            subst hB9
            have hsq := hso wr hbW B9 d9 hU'
            obtain ⟨b0, b1, b2⟩ := OrbK.row3 hr
            clear hU hU' hUb hE hb hso HNX HTL HT0 HTE HEA HEL HRW
            go_wp2_with (go_at_call 73; (with_reducible refine hsq.mono ?_); rintro e w9 ⟨A4, c4, A7, c7, S9, rfl, hL9, hS9, hb9⟩; have hr9 := (hb9.block _ (OrbK.box_lt hq)).trans hq; obtain ⟨x0, x1, x2⟩ := OrbK.row3 hr9; obtain ⟨y0, y1, y2⟩ := z3At hr9)
            have hpost := orbB_of true (orb_pass (r := w.heap.size + 1) hL9 (hbW.trans (hb9.mono hbW.size)) (Nat.le_succ _) (fun b h => by have h1 := hS9 b h; have h2 := OrbK.box_lt hq; have h3 := hbW.size; omega))
            clear hsq hL9 hS9 hb9 hr9 hbW hr hq b0 b1 b2
            go_wp2
            exact bodyPost_ret (v := .tuple #[.agg #[.int .i64 (ps.length : Int), .slice A4 l.length c4, .slice A7 R.length c7], .bool true]) (by simp [results, Try.results41, go_sem, x0, x1, x2]) rfl (by rw [HKK.out]; exact hpost)
    · have h4i : (4 : Int) < (ps.length : Int) := by omega
      have hkk : plcOk z l m ps = false := by simp [plcOk, h4]
      clear ho
      go_enter Try.func41, Try.ntmps41
      go_wp2_with (first
        | (go_at_call 77; (with_reducible refine hio.mono ?_); rintro e w2 ⟨rfl, hb2⟩; have hbz2 := HB0.out.trans (hb2.mono HB0.out.size); have k2 := (hb2.block _ (OrbK.box_lt HK0.out)).trans HK0.out; clear b0 b1 b2; obtain ⟨b0, b1, b2⟩ := OrbK.row3 k2; have hr2 := (hb2.block _ (OrbK.box_lt HK1.out)).trans HK1.out; obtain ⟨x0, x1, x2⟩ := OrbK.row3 hr2; obtain ⟨y0, y1, y2⟩ := z3At hr2))
      have hbz := hbz2
      clear hio hb2 b0 b1 b2 k2 hr2 HB0 HK0 HK1
      have hpost := orbB_zero (((hbz.setCell (p := ⟨w.heap.size + 1, 0, none⟩) (Nat.le_succ _) (.int .i64 0)).setCell (p := ⟨w.heap.size + 1, 1, none⟩) (Nat.le_succ _) (.slice none 0 0)).setCell (p := ⟨w.heap.size + 1, 2, none⟩) (Nat.le_succ _) (.slice none 0 0))
      go_wp2
      exact bodyPost_ret (v := .tuple #[.agg #[.int .i64 0, .slice none 0 0, .slice none 0 0], .bool false]) (by simp [results, Try.results41, go_sem, x0, x1, x2]) rfl (by rw [hkk]; exact hpost)
end Go.Proofs.Ytdbogjhkcnajkaa
end

section
namespace Go.Proofs.Ytdbogjhkcnajkaa
open Go.RowKit Go.Sort
set_option linter.unusedVariables false

theorem placesB_next {z : Int} {ps : List Int} {k : Nat} (h : k < ps.length) : placesB z (ps.take (k + 1)) = (placesB z (ps.take k) && placeB (itAt ps k) z) := by
  rw [itake_next h]
  unfold placesB placeB
  rw [List.all_append]
  simp

set_option maxRecDepth 100000 in
set_option maxHeartbeats 8000000 in
theorem placesOfSet_spec (z : Int) (l : List Int) (m : List (List Int)) (hf : FitO l m) (ps : List Int) (hpl : ps.length ≤ 1048576) (x : Value) (C : Option Addr) (e0 : Nat) (w : World) (hx : OrbIx w x z l m) (hC : IntsAt w C ps) :
    Calls Try.prog 40 #[x, .slice C ps.length e0] w (OrbBOut (ozR (plcOk z l m ps) ps.length) (olR (plcOk z l m ps) l) (omR (plcOk z l m ps) (plcM l m ps)) (plcOk z l m ps) w) := by
  obtain ⟨i0, hi0, hz0, hz1, hz2⟩ := info_parts int_infoM
  have HSZ := Lib.hid hz2
  clear hz2
  have hX := hx
  obtain ⟨A, c, B, d, rfl, hl, hmr, hm⟩ := hx
  have hb0 : Below w.heap.size w ((w.alloc (.cells #[.int .i64 z, .slice A l.length c, .slice B m.length d] 29)).alloc (.cells #[.int .i64 0, .slice none 0 0, .slice none 0 0] 29)) := ((Below.refl _ _).alloc (Nat.le_refl _) _).alloc (by simp) _
  have k0 : ((w.alloc (.cells #[.int .i64 z, .slice A l.length c, .slice B m.length d] 29)).alloc (.cells #[.int .i64 0, .slice none 0 0, .slice none 0 0] 29)).heap[w.heap.size]? = some (.cells #[.int .i64 z, .slice A l.length c, .slice B m.length d] 29 (0, 0)) := (Below.heap_alloc _ _ _ (by simp)).trans (heap_alloc_new w _)
  have k1 : ((w.alloc (.cells #[.int .i64 z, .slice A l.length c, .slice B m.length d] 29)).alloc (.cells #[.int .i64 0, .slice none 0 0, .slice none 0 0] 29)).heap[w.heap.size + 1]? = some (.cells #[.int .i64 0, .slice none 0 0, .slice none 0 0] 29 (0, 0)) := by
    have h := heap_alloc_new (w.alloc (.cells #[.int .i64 z, .slice A l.length c, .slice B m.length d] 29)) (.cells #[.int .i64 0, .slice none 0 0, .slice none 0 0] 29)
    rw [World.size_alloc] at h
    exact h
  obtain ⟨b0, b1, b2⟩ := OrbK.row3 k0
  have hio := isOrbitSet_spec z l m hf _ _ (hX.below hb0)
  have HB0 := Lib.hid hb0
  have HK0 := Lib.hid k0
  have HK1 := Lib.hid k1
  have HC := Lib.hid hC
  have HL := Lib.hid hl
  have HM := Lib.hid hmr
  clear hl hmr hm k0 k1 hX hb0 hC
  cases ho : orbB z l m with
  | false =>
    rw [ho] at hio
    have hkk : plcOk z l m ps = false := by simp [plcOk, ho]
    clear ho
    go_enter Try.func40, Try.ntmps40
    go_wp2_with (go_at_call 74; (with_reducible refine hio.mono ?_); rintro e w2 ⟨rfl, hb2⟩)
    have hbz2 := HB0.out.trans (hb2.mono HB0.out.size)
    have KA := Lib.hid ((hb2.block _ (OrbK.box_lt HK0.out)).trans HK0.out)
    have KR := Lib.hid ((hb2.block _ (OrbK.box_lt HK1.out)).trans HK1.out)
    have HBW := Lib.hid hbz2
    have hcw := HC.out.below hbz2
    clear hio hb2 b0 b1 b2 HB0 HK0 HK1
    go_loopw [6, 8, 25] (fun v6 _ i wr => ∃ k : Nat, k ≤ ps.length ∧ i = .int .i64 k ∧ v6 = .bool false ∧ w2 = wr) (fun _ _ i _ => ps.length - (intOf i).toNat)
    case atStart => exact ⟨0, Nat.zero_le _, rfl, rfl, rfl⟩
    case round =>
      obtain ⟨k, hk, rfl, rfl, rfl⟩ := hrel
      by_cases hlt : k < ps.length
      · obtain ⟨b1, o1, rfl, hb1, hc1⟩ := hcw (by omega)
        have c1 := hc1 k hlt
        generalize itAt ps k = a at c1
        clear hc1 hcw
        go_wp2
        refine ⟨⟨k + 1, by omega, by go_num, by first | rfl | trivial, by first | rfl | trivial⟩, ?_⟩
        simp only [intOf]
        omega
      · clear hcw
        have hr2 := KR.out
        obtain ⟨x0, x1, x2⟩ := OrbK.row3 hr2
        obtain ⟨y0, y1, y2⟩ := z3At hr2
        have hbz := HBW.out
        have hpost := orbB_zero (((hbz.setCell (p := ⟨w.heap.size + 1, 0, none⟩) (Nat.le_succ _) (.int .i64 0)).setCell (p := ⟨w.heap.size + 1, 1, none⟩) (Nat.le_succ _) (.slice none 0 0)).setCell (p := ⟨w.heap.size + 1, 2, none⟩) (Nat.le_succ _) (.slice none 0 0))
        clear hr2 hbz
        go_wp2
        exact bodyPost_ret (v := .tuple #[.agg #[.int .i64 0, .slice none 0 0, .slice none 0 0], .bool false]) (by simp [results, Try.results40, go_sem, x0, x1, x2]) rfl (by rw [hkk]; exact hpost)
  | true =>
    rw [ho] at hio
    by_cases h4 : ps.length ≤ 4
    · have h4i : (ps.length : Int) ≤ (4 : Int) := by omega
      have h4d : decide ((ps.length : Int) ≤ 4) = true := by simp; omega
      go_enter Try.func40, Try.ntmps40
      go_wp2_with (go_at_call 74; (with_reducible refine hio.mono ?_); rintro e w2 ⟨rfl, hb2⟩)
      have hbz2 := HB0.out.trans (hb2.mono HB0.out.size)
      have KA := Lib.hid ((hb2.block _ (OrbK.box_lt HK0.out)).trans HK0.out)
      have KR := Lib.hid ((hb2.block _ (OrbK.box_lt HK1.out)).trans HK1.out)
      have HBW := Lib.hid hbz2
      have hcw := HC.out.below hbz2
      clear hio hb2 b0 b1 b2 HB0 HK0 HK1
      go_loopw [6, 8, 25] (fun v6 _ i wr => ∃ k : Nat, k ≤ ps.length ∧ i = .int .i64 k ∧ v6 = .bool (placesB z (ps.take k)) ∧ w2 = wr) (fun _ _ i _ => ps.length - (intOf i).toNat)
      case atStart => exact ⟨0, Nat.zero_le _, rfl, rfl, rfl⟩
      case round =>
        obtain ⟨k, hk, rfl, rfl, rfl⟩ := hrel
        by_cases hlt : k < ps.length
        · obtain ⟨b1, o1, rfl, hb1, hc1⟩ := hcw (by omega)
          have c1 := hc1 k hlt
          have hst := Lib.hid (placesB_next (z := z) hlt)
          obtain ⟨q0, q1, q2⟩ := OrbK.row3 KA.out
          generalize hpk : placesB z (ps.take k) = g at hst ⊢
          generalize itAt ps k = a at c1 hst
          clear hc1 hcw hpk
          cases g with
          | false =>
            have hn := Lib.hid (hst.out.trans (show (false && placeB a z) = false from rfl))
            clear hst
            go_wp2
            refine ⟨⟨k + 1, by omega, by go_num, by rw [hn.out], by first | rfl | trivial⟩, ?_⟩
            simp only [intOf]
            omega
          | true =>
            by_cases h0 : 0 ≤ a
            · by_cases h1 : a < z
              · have hn := Lib.hid (hst.out.trans (show (true && placeB a z) = true by simp [placeB, h0, h1]))
                clear hst
                have hd0 : decide (0 ≤ a) = true := by simp [h0]
                have hd1 : decide (a < z) = true := by simp [h1]
                go_wp2
                refine ⟨⟨k + 1, by omega, by go_num, by rw [hn.out] <;> simp [h0, h1], by first | rfl | trivial⟩, ?_⟩
                simp only [intOf]
                omega
              · have hn := Lib.hid (hst.out.trans (show (true && placeB a z) = false by simp [placeB, h0, h1]))
                clear hst
                have hd0 : decide (0 ≤ a) = true := by simp [h0]
                have hd1 : decide (a < z) = false := by simp [h1]
                go_wp2
                refine ⟨⟨k + 1, by omega, by go_num, by rw [hn.out] <;> simp [h0, h1], by first | rfl | trivial⟩, ?_⟩
                simp only [intOf]
                omega
            · have hn := Lib.hid (hst.out.trans (show (true && placeB a z) = false by simp [placeB, h0]))
              clear hst
              have hd0 : decide (0 ≤ a) = false := by simp [h0]
              go_wp2
              refine ⟨⟨k + 1, by omega, by go_num, by rw [hn.out] <;> simp [h0], by first | rfl | trivial⟩, ?_⟩
              simp only [intOf]
              omega
        · have e : k = ps.length := by omega
          subst e
          rw [List.take_length]
          cases hpb : placesB z ps with
          | false =>
            have hkk : plcOk z l m ps = false := by simp [plcOk, hpb]
            clear hcw hpb
            have hr2 := KR.out
            obtain ⟨x0, x1, x2⟩ := OrbK.row3 hr2
            obtain ⟨y0, y1, y2⟩ := z3At hr2
            have hbz := HBW.out
            have hpost := orbB_zero (((hbz.setCell (p := ⟨w.heap.size + 1, 0, none⟩) (Nat.le_succ _) (.int .i64 0)).setCell (p := ⟨w.heap.size + 1, 1, none⟩) (Nat.le_succ _) (.slice none 0 0)).setCell (p := ⟨w.heap.size + 1, 2, none⟩) (Nat.le_succ _) (.slice none 0 0))
            clear hr2 hbz
            go_wp2
            exact bodyPost_ret (v := .tuple #[.agg #[.int .i64 0, .slice none 0 0, .slice none 0 0], .bool false]) (by simp [results, Try.results40, go_sem, x0, x1, x2]) rfl (by rw [hkk]; exact hpost)
          | true =>
            have hkk : plcOk z l m ps = true := by simp [plcOk, ho, h4, hpb]
            obtain ⟨hwz, hro⟩ := orb_rows ho
            have hz4 := widB_iff.1 hwz
            have hk3 := const_len (orb_const ho)
            have HND := Lib.hid (const_nodup (orb_const ho))
            have HRW : Hid (∀ i, i < m.length → (rwAt m i).length ≤ 4 ∧ isPatB l.length (rwAt m i) = true ∧ ∀ q, q < ps.length → 0 ≤ itAt ps q ∧ (itAt ps q).toNat < (exL (numL l 4) (rwAt m i)).length) := Lib.hid (fun i hi => by
              have h1 := rowsOk_at hro hi
              rw [exL_len]
              refine ⟨by omega, h1.2, fun q hq => ?_⟩
              have h2 := placesB_at hpb hq
              omega)
            have hml := hf.2.1
            have hso := fun (W : World) (h : Below w.heap.size w W) (B9 : Option Addr) (d9 : Nat) (hB : RowsIn W (.slice B9 (plcN l m ps).length d9) (plcN l m ps)) => l6Those_any ps.length h4 l hk3 (plcN l m ps) ⟨by rw [plcN_len]; omega, fun i hi => by rw [plcN_row hi]; omega⟩ A B9 c d9 W (HL.out.below h) hB
            rw [show thoseL ps.length l.length (plcN l m ps) = plcM l m ps from rfl] at hso
            have HNX := Lib.hid (fun i (hi : i < m.length) => plcN_next (l := l) (ps := ps) hi)
            have HTL := Lib.hid (fun i (hi : i ≤ m.length) => show (plcN l (m.take i) ps).length = i by rw [plcN_len, List.length_take]; omega)
            have HT0 : Hid (plcN l (m.take 0) ps = []) := Lib.hid (by simp [plcN, plcT, exsL, patsL])
            have HTE : Hid (plcN l (m.take m.length) ps = plcN l m ps) := Lib.hid (by rw [List.take_length])
            clear ho hpb hwz hro hz4
            generalize plcM l m ps = R at *
            have hr := KA.out
            obtain ⟨b0, b1, b2⟩ := OrbK.row3 hr
            have hbL : Below w2.heap.size w2 (w2.alloc (.cells #[] 27)) := (Below.refl _ _).alloc (Nat.le_refl _) _
            have k3 := (hbL.block _ (OrbK.box_lt hr)).trans hr
            obtain ⟨n0, n1, n2⟩ := OrbK.row3 k3
            have O8 := Lib.hid (own_lit0 w2)
            have HB8 := Lib.hid hbL
            clear hr hbL k3 hcw
            go_wp2
            clear b0 b1 b2 n0 n1 n2
            go_loopw [9, 11, 12, 13, 15, 48] (fun v9 _ _ _ _ i wr => ∃ (j : Nat) (U : List Nat), j ≤ m.length ∧ i = .int .i64 j ∧ Hid (Own wr U v9 (rowsMem (plcN l (m.take j) ps))) ∧ Hid (∀ b ∈ U, w2.heap.size ≤ b) ∧ Below w2.heap.size w2 wr) (fun _ _ _ _ _ i _ => m.length - (intOf i).toNat)
            case atStart => exact ⟨0, _, Nat.zero_le _, rfl, by rw [HT0.out]; exact O8, Lib.hid (fun b hb => by
              have e : b = w2.heap.size := by simpa using hb
              rw [e]; exact Nat.le_refl _), HB8.out⟩
            case round =>
              clear O8 HB8
              obtain ⟨j, U, hj, rfl, hU, hUb, hb⟩ := hrel
              have hbW := HBW.out.trans (hb.mono HBW.out.size)
              by_cases hlt : j < m.length
              · obtain ⟨wo, rfl⟩ : ∃ x : World, x = wr := ⟨_, rfl⟩
                obtain ⟨b1, o1, rfl, hb1, hc1⟩ := RowsIn.get (HM.out.below hbW) (by omega)
                obtain ⟨A1, c1, d1, hA1⟩ := hc1 j hlt
                obtain ⟨hv4, hpt, hpi⟩ := HRW.out j hlt
                have hex := l6Example_any A A1 c c1 l (rwAt m j) wo (HL.out.1.below hbW) HL.out.2 hA1 (by omega) (by omega) (fun i hi => by
                  have h1 := pat_places (k := l.length) hpt (V := numL l (rwAt m j).length) (by rw [numL_len]; omega) i hi
                  rw [numL_len] at h1
                  exact h1)
                rw [exL_same hpt (by omega)] at hex
                have hnx := Lib.hid (HNX.out j hlt)
                have htl := HTL.out j (by omega)
                have hXl := exL_len (numL l 4) (rwAt m j)
                have hr := (hb.block _ (OrbK.box_lt KA.out)).trans KA.out
                obtain ⟨q0, q1, q2⟩ := OrbK.row3 hr
                clear hc1 hA1 hpt
                generalize exL (numL l 4) (rwAt m j) = X at hex hnx hpi hXl
                have hX4 : X.length ≤ 4 := by omega
                clear hXl
                generalize (rwAt m j).length = pl at *
                generalize plcN l (m.take j) ps = D at hU hnx htl
                go_wp2_with fail
                (with_reducible refine hex.mono ?_)
                rintro e w3 ⟨v3, rfl, ho3, hb3⟩
                obtain ⟨A3, c3, rfl, hA3⟩ := own_intsAt ho3
                have HA3 := Lib.hid hA3
                have HPI := Lib.hid hpi
                have HB3 := Lib.hid hb3
                have HC3 := Lib.hid (HC.out.below (hbW.trans (hb3.mono hbW.size)))
                have hLI : Below w3.heap.size w3 (w3.alloc (.cells #[] 3)) := (Below.refl _ _).alloc (Nat.le_refl _) _
                have hs3 := hb3.size
                clear hex hA3 hpi ho3 q0 q1 q2 d1 hb3
                go_wp2
                go_loopw [13, 15, 59] (fun v _ i wr => ∃ k : Nat, k ≤ ps.length ∧ i = .int .i64 k ∧ wr.ownsRow w3.heap.size 3 1 v k (icells (exL X (ps.take k))) ∧ Below w3.heap.size w3 wr) (fun _ _ i _ => ps.length - (intOf i).toNat)
                case atStart => exact ⟨0, Nat.zero_le _, rfl, World.ownsRow_lit w3 #[] 0 (Nat.le_refl _) (by decide) rfl, hLI⟩
                case round =>
                  clear hLI
                  obtain ⟨k, hk, rfl, ho, hbi⟩ := hrel
                  by_cases hlk : k < ps.length
                  · obtain ⟨h0, h1⟩ := HPI.out k hlk
                    obtain ⟨b4, o4, rfl, hb4, hc4⟩ := HC3.out (by omega)
                    obtain ⟨b5, o5, rfl, hb5, hc5⟩ := HA3.out (by omega)
                    have c4 := hc4 k hlk
                    rw [← hbi.cell (p := ⟨b4, _, none⟩) hb4] at c4
                    have hnext := Lib.hid (exL_next (V := X) hlk)
                    obtain ⟨q, hq⟩ : ∃ q : Nat, itAt ps k = q := ⟨(itAt ps k).toNat, by omega⟩
                    rw [hq] at c4 h1 hnext
                    rw [Int.toNat_natCast] at h1 hnext
                    have c5 := hc5 q h1
                    rw [← hbi.cell (p := ⟨b5, _, none⟩) hb5] at c5
                    have hni : (q : Int) < (X.length : Int) := by omega
                    have hn0 : (0 : Int) ≤ (q : Int) := by omega
                    clear hc4 hc5 hq h0 h1
                    generalize itAt X q = a at c5 hnext
                    have ho1 := ho.alloc (.cells #[.int .i64 a] 3)
                    have hb6 := hbi.alloc hbi.size (.cells #[.int .i64 a] 3)
                    have hsz : w3.heap.size ≤ wr.heap.size := hbi.size
                    have hcell : (wr.alloc (.cells #[.int .i64 a] 3)).cell? ⟨wr.heap.size, 0, none⟩ = some (.int .i64 a) := by simp
                    have HCL := Lib.hid (one_cell hcell)
                    clear hcell ho hbi
                    go_wp2_with (at_builtin; refine wpList_append_own _ rfl (.tmp 63) (.tmp 68) 27 rfl w3.heap.size 3 i0 (.int .i64 0) 1 8 Try.underlying27 hi0 hz0 hz1 HSZ.out rfl (by decide) _ k _ rfl ho1 ⟨wr.heap.size, 0, none⟩ 1 1 [.int .i64 a] rfl rfl HCL.out (int_one _) ?c3 ?c4 ?c5 ?_)
                    case c3 => unfold maxLen; omega
                    case c4 => omega
                    case c5 => simp; omega
                    intro v2 w5 ho5 hg _
                    have ho6 : w5.ownsRow w3.heap.size 3 1 v2 (k + 1) (icells (exL X (ps.take (k + 1)))) := by
                      rw [hnext.out, icells_append]
                      exact ho5
                    have hb7 : Below w3.heap.size w3 w5 := below_own hb6 ho1 (Nat.le_refl _) (by simp; omega) hg
                    clear ho5 hg ho1 hb6 hnext HCL c4 c5
                    go_wp2
                    refine ⟨⟨k + 1, by omega, by go_num, ho6, hb7⟩, ?_⟩
                    simp only [intOf]
                    omega
                  · have e : k = ps.length := by omega
                    subst e
                    rw [List.take_length] at ho
                    have hel := exL_len X ps
                    rw [← hel] at ho
                    obtain ⟨A6, c6, rfl, hA6⟩ := own_intsAt ho
                    rw [hel]
                    have hb36 := HB3.out.trans (hbi.mono HB3.out.size)
                    have hbW6 := hbW.trans (hb36.mono hbW.size)
                    have hpat := l6Pattern_any A A6 c c6 l (exL X ps) wr (HL.out.1.below hbW6) HL.out.2 HND.out hA6 (by omega) (by rw [hel]; omega)
                    rw [hel] at hpat
                    have k6 := ((hb.trans (hb36.mono hb.size)).block _ (OrbK.box_lt KA.out)).trans KA.out
                    obtain ⟨q0, q1, q2⟩ := OrbK.row3 k6
                    clear hA6 hel ho
                    generalize patL l (exL X ps) = Y at hpat hnx
                    go_wp2_with fail
                    (with_reducible refine hpat.mono ?_)
                    rintro e w7 ⟨v7, rfl, ho7, hb7⟩
                    obtain ⟨T, hT, hTb, hTe⟩ := own_intRow ho7
                    obtain ⟨A9, c9, rfl, _⟩ := own_intSlice hT
                    clear hTe
                    have hbx : Below w7.heap.size w7 (w7.alloc (.cells #[.slice A9 Y.length c9] 27)) := (Below.refl _ _).alloc (Nat.le_refl _) _
                    have hb37 := hb36.trans (hb7.mono hb36.size)
                    have hb38 := hb37.trans (hbx.mono hb37.size)
                    have hT4 := Lib.hid (hT.keep hbx)
                    have hU4 := hU.out.keep hb38
                    have HB4 := Lib.hid (hb.trans (hb38.mono hb.size))
                    have hcell : (w7.alloc (.cells #[.slice A9 Y.length c9] 27)).cell? ⟨w7.heap.size, 0, none⟩ = some (.slice A9 Y.length c9) := by simp
                    have HCL := Lib.hid (one_cell hcell)
                    have HUl : Hid (∀ b ∈ U, b < wo.heap.size) := Lib.hid (fun b h => hU.out.lt b h)
                    have hs36 := hb36.size
                    have hs7 := hb7.size
                    have hs0 := hb.size
                    have HDT : Hid (∀ b ∈ U, b ∉ T) := Lib.hid (fun b h1 h2 => by have := HUl.out b h1; have := hTb b h2; omega)
                    have HTb := Lib.hid hTb
                    have hdl : D.length + 1 ≤ 16777216 := by omega
                    clear hcell hbx hT ho7 hU hb hb7 hb37 hb38 hb36 hbW hbW6 hpat hTb k6 q0 q1 q2 hbi HB3 HA3 HPI HC3
                    go_wp2_with (at_builtin; refine wpList_append_rows rfl (.tmp 71) (.tmp 76) rfl _ U D rfl hU4 ⟨w7.heap.size, 0, none⟩ _ Y T rfl HCL.out hT4.out HDT.out hdl ?_)
                    intro g2 cap2 U3 w10 hU7 hU3 hon
                    have hb10 := Only.below HB4.out hon HB4.out.size (fun b h => hUb.out b h)
                    have B7 : Hid (∀ b ∈ U3, w2.heap.size ≤ b) := Lib.hid (fun b h => by
                      rcases hU3 b h with h1 | h1 | h1
                      · exact hUb.out b h1
                      · have h2 := HTb.out b h1
                        omega
                      · (try rw [World.size_alloc] at h1)
                        omega)
                    rw [← hnx.out] at hU7
                    have U7 := Lib.hid hU7
                    clear hU7 hU3 hon HB4 hT4 HCL HDT HUl HTb hnx hU4 htl hUb
                    go_wp2
                    refine ⟨⟨j + 1, U3, by omega, by go_num, U7, B7, hb10⟩, ?_⟩
                    simp only [intOf]
                    omega
              · have e : j = m.length := by omega
                subst e
                rw [HTE.out] at hU
                have hU' := hU.out.at_
                have hr := (hb.block _ (OrbK.box_lt KA.out)).trans KA.out
                have hq := (hb.block _ (OrbK.box_lt KR.out)).trans KR.out
                obtain ⟨B9, d9, hB9⟩ := RowsIn.form (ls := plcN l m ps) hU'
                subst hB9
                have hsq := hso wr hbW B9 d9 hU'
                obtain ⟨b0, b1, b2⟩ := OrbK.row3 hr
                clear hU hU' hUb hb hso HNX HTL HT0 HTE HRW
                go_wp2_with (go_at_call 70; (with_reducible refine hsq.mono ?_); rintro e w9 ⟨A4, c4, A7, c7, S9, rfl, hL9, hS9, hb9⟩; have hr9 := (hb9.block _ (OrbK.box_lt hq)).trans hq; obtain ⟨x0, x1, x2⟩ := OrbK.row3 hr9; obtain ⟨y0, y1, y2⟩ := z3At hr9)
                have hpost := orbB_of true (orb_pass (r := w.heap.size + 1) hL9 (hbW.trans (hb9.mono hbW.size)) (Nat.le_succ _) (fun b h => by have h1 := hS9 b h; have h2 := OrbK.box_lt hq; have h3 := hbW.size; omega))
                clear hsq hL9 hS9 hb9 hr9 hbW hr hq b0 b1 b2
                go_wp2
                exact bodyPost_ret (v := .tuple #[.agg #[.int .i64 (ps.length : Int), .slice A4 l.length c4, .slice A7 R.length c7], .bool true]) (by simp [results, Try.results40, go_sem, x0, x1, x2]) rfl (by rw [hkk]; exact hpost)
    · have h4i : ¬ (ps.length : Int) ≤ (4 : Int) := by omega
      have h4d : decide ((ps.length : Int) ≤ 4) = false := by simp; omega
      have hkk : plcOk z l m ps = false := by simp [plcOk, h4]
      clear ho
      go_enter Try.func40, Try.ntmps40
      go_wp2_with (go_at_call 74; (with_reducible refine hio.mono ?_); rintro e w2 ⟨rfl, hb2⟩)
      have hbz2 := HB0.out.trans (hb2.mono HB0.out.size)
      have KA := Lib.hid ((hb2.block _ (OrbK.box_lt HK0.out)).trans HK0.out)
      have KR := Lib.hid ((hb2.block _ (OrbK.box_lt HK1.out)).trans HK1.out)
      have HBW := Lib.hid hbz2
      have hcw := HC.out.below hbz2
      clear hio hb2 b0 b1 b2 HB0 HK0 HK1
      go_loopw [6, 8, 25] (fun v6 _ i wr => ∃ k : Nat, k ≤ ps.length ∧ i = .int .i64 k ∧ v6 = .bool false ∧ w2 = wr) (fun _ _ i _ => ps.length - (intOf i).toNat)
      case atStart => exact ⟨0, Nat.zero_le _, rfl, rfl, rfl⟩
      case round =>
        obtain ⟨k, hk, rfl, rfl, rfl⟩ := hrel
        by_cases hlt : k < ps.length
        · obtain ⟨b1, o1, rfl, hb1, hc1⟩ := hcw (by omega)
          have c1 := hc1 k hlt
          generalize itAt ps k = a at c1
          clear hc1 hcw
          go_wp2
          refine ⟨⟨k + 1, by omega, by go_num, by first | rfl | trivial, by first | rfl | trivial⟩, ?_⟩
          simp only [intOf]
          omega
        · clear hcw
          have hr2 := KR.out
          obtain ⟨x0, x1, x2⟩ := OrbK.row3 hr2
          obtain ⟨y0, y1, y2⟩ := z3At hr2
          have hbz := HBW.out
          have hpost := orbB_zero (((hbz.setCell (p := ⟨w.heap.size + 1, 0, none⟩) (Nat.le_succ _) (.int .i64 0)).setCell (p := ⟨w.heap.size + 1, 1, none⟩) (Nat.le_succ _) (.slice none 0 0)).setCell (p := ⟨w.heap.size + 1, 2, none⟩) (Nat.le_succ _) (.slice none 0 0))
          clear hr2 hbz
          go_wp2
          exact bodyPost_ret (v := .tuple #[.agg #[.int .i64 0, .slice none 0 0, .slice none 0 0], .bool false]) (by simp [results, Try.results40, go_sem, x0, x1, x2]) rfl (by rw [hkk]; exact hpost)
end Go.Proofs.Ytdbogjhkcnajkaa
end

