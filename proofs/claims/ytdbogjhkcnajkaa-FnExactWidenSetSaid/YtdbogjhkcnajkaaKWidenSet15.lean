/-
  Tables of codes in the program: the patterns of a table, tables with one place more, all patterns, as contracts. All patterns in the program and in the model: allCodes, PatternsOf, as contracts. An orbit set of a table, and of tuples: setOfCodes, setOfTuples in the program, as contracts. The orbit set of tuples: setOfTuples in the program, as a contract. SetOf in the program and in the model, as contracts. The complement of an orbit set: plain words, no program is walked here. An orbit set that is widened: plain words, no program is walked here. WidenSet of the model, as a contract.
-/
import Derived.Test.YtdbogjhkcnajkaaKWidenSet12
import Derived.Test.YtdbogjhkcnajkaaKWidenSet13
import Derived.Test.YtdbogjhkcnajkaaKWidenSet14
import Derived.Test.YtdbogjhkcnajkaaKWidenSet9
import Derived.Deep.RegionHeld3
import Derived.Deep.DrawnRows
import Derived.Deep.MidRow
import Derived.Test.YtdbogjhkcnajkaaKWidenSet2
import Derived.Test.YtdbogjhkcnajkaaKWidenSet10
import Derived.Test.YtdbogjhkcnajkaaKWidenSet11
section
namespace Go.Proofs.Ytdbogjhkcnajkaa
open Go.RowKit Go.Sort
set_option linter.unusedVariables false

theorem run_index_tab (f : Nat → Bool) (k : Nat) (hk : k < 4096) (w : World) : (Instr.index 72 (.agg (tabV f)) (.int .i64 (k : Int))).run Try.prog w = .ok (.bool (f k)) w := by
  have h1 : (0 : Int) ≤ (k : Int) ∧ (k : Int) < 4096 := by omega
  have h2 := tabV_at f hk
  generalize tabV f = cs at *
  simp [Instr.index, run_underlying Try.underlying72, asIntOf, h1, go_sem]
  rw [if_pos hk, h2]
  rfl

/-- The first k numbers that a table has, as patterns. -/
def patsK (n : Nat) (f : Nat → Bool) (k : Nat) : List (List Int) := ((List.range k).filter f).map (decP n)
theorem patsK_yes {n : Nat} {f : Nat → Bool} {k : Nat} (h : f k = true) : patsK n f (k + 1) = patsK n f k ++ [decP n k] := by
  unfold patsK
  rw [List.range_succ, List.filter_append, List.map_append]
  simp [h]
theorem patsK_no {n : Nat} {f : Nat → Bool} {k : Nat} (h : f k = false) : patsK n f (k + 1) = patsK n f k := by
  unfold patsK
  rw [List.range_succ, List.filter_append, List.map_append]
  simp [h]
theorem patsK_len (n : Nat) (f : Nat → Bool) (k : Nat) : (patsK n f k).length ≤ k := by
  unfold patsK
  rw [List.length_map]
  have := List.length_filter_le f (List.range k)
  rw [List.length_range] at this
  exact this

set_option maxRecDepth 100000 in
set_option maxHeartbeats 4000000 in
theorem patterns_any (f : Nat → Bool) (n : Nat) (hn : n ≤ 4) (w : World) :
    Calls Try.prog 64 #[.agg (tabV f), .int .i64 (n : Int)] w (RowsOut (patsOf n f) w) := by
  have hb1 : Below w.heap.size w ((w.alloc (.cells (tabV f) 72)).alloc (.cells #[] 27)) := ((Below.refl _ _).alloc (Nat.le_refl _) _).alloc (by simp) _
  have ht0 : (w.alloc (.cells (tabV f) 72)).heap[w.heap.size]? = some (.cells (tabV f) 72 (0, 0)) := heap_alloc_new w _
  have ht1 := (Below.heap_alloc (w.alloc (.cells (tabV f) 72)) (.cells #[] 27) w.heap.size (by simp)).trans ht0
  have ho1 := own_lit0 (w.alloc (.cells (tabV f) 72))
  have hi : (Try.prog.info? 72).map (·.size) = some (tabV f).size := by rw [tabV_size]; exact tab_info
  have HX := Lib.hid (run_index_tab f)
  have HI := Lib.hid hi
  have HT := Lib.hid ht1
  have HO := Lib.hid ho1
  have HPE : Hid (patsOf n f = patsK n f 4096) := Lib.hid rfl
  clear ht0 ht1 ho1 hi
  generalize tabV f = cs at *
  go_enter Try.func64, Try.ntmps64
  go_wp2_with (refine wpList_load_row rfl 72 (.tmp 2) rfl w.heap.size rfl _ cs _ _ HT.out Try.underlying72 rfl HI.out ?_)
  go_loopw [5, 6, 7, 10] (fun v5 _ _ i wr => ∃ (k : Nat) (U : List Nat), k ≤ 4096 ∧ i = .int .i64 k ∧ Hid (Own wr U v5 (rowsMem (patsK n f k))) ∧ Hid (∀ b ∈ U, w.heap.size ≤ b) ∧ Below w.heap.size w wr) (fun _ _ _ i _ => 4096 - (intOf i).toNat)
  case atStart => exact ⟨0, [w.heap.size + 1], by omega, rfl, Lib.hid (by have h := HO.out; rw [World.size_alloc] at h; exact h), Lib.hid (fun b hb => by simp at hb; omega), hb1⟩
  case round =>
    clear HO HT HI
    obtain ⟨k, U, hk, rfl, hU, hUb, hb⟩ := hrel
    by_cases hlt : k < 4096
    · have hlti : (k : Int) < 4096 := by omega
      have hix := HX.out k hlt
      have hpl := patsK_len n f k
      have hfy := Lib.hid (fun h => patsK_yes (n := n) (f := f) (k := k) h)
      have hfn := Lib.hid (fun h => patsK_no (n := n) (f := f) (k := k) h)
      have hdc := decoded_any k n hn (by omega) wr
      generalize patsK n f k = Q at hU hpl hfy hfn
      cases hfk : f k with
      | true =>
        rw [hfk] at hix
        have HNX := Lib.hid (hfy.out hfk)
        clear hfy hfn hfk
        go_wp2_with fail
        refine hdc.mono ?_
        rintro e w5 ⟨v5, rfl, ho5, hb5⟩
        clear hdc hix
        obtain ⟨R, hR, hRb, hRe⟩ := own_intRow ho5
        obtain ⟨A5, c5, rfl, _⟩ := own_intSlice hR
        have hbx : Below w5.heap.size w5 (w5.alloc (.cells #[.slice A5 (decP n k).length c5] 27)) := (Below.refl _ _).alloc (Nat.le_refl _) _
        have hb56 := hb5.trans (hbx.mono hb5.size)
        have hU6 := hU.out.keep hb56
        have hR6 := hR.keep hbx
        have hcell : (w5.alloc (.cells #[.slice A5 (decP n k).length c5] 27)).cell? ⟨w5.heap.size, 0, none⟩ = some (.slice A5 (decP n k).length c5) := by simp
        have HC := Lib.hid (one_cell hcell)
        have hbw6 := hb.trans (hb56.mono hb.size)
        have hs5 := hb5.size
        have hsw := hb.size
        have hUl : ∀ b ∈ U, b < wr.heap.size := fun b h => hU.out.lt b h
        have hdis : ∀ b ∈ U, b ∉ R := fun b h1 h2 => by have := hUl b h1; have := hRb b h2; omega
        have hdl : Q.length + 1 ≤ 16777216 := by omega
        have HDI := Lib.hid hdis
        have HR6 := Lib.hid hR6
        have HRB := Lib.hid hRb
        have HBW := Lib.hid hbw6
        clear hRe hRb hR hbx hb56 hcell hdis hR6 hbw6 hUl hU hb ho5
        go_wp2_with (at_builtin; refine wpList_append_rows rfl (.tmp 15) (.tmp 19) rfl _ U Q rfl hU6 ⟨w5.heap.size, 0, none⟩ _ (decP n k) R rfl HC.out HR6.out HDI.out hdl ?_)
        intro g2 cap2 U3 w7 hU7 hU3 hon
        have hb7 := Only.below HBW.out hon HBW.out.size (fun b h => hUb.out b h)
        have hU3b : ∀ b ∈ U3, w.heap.size ≤ b := fun b h => by
          rcases hU3 b h with h1 | h1 | h1
          · exact hUb.out b h1
          · have := HRB.out b h1; omega
          · have h2 : w5.heap.size ≤ b := by first | omega | (rw [World.size_alloc] at h1; omega)
            omega
        rw [← HNX.out] at hU7
        have U7 := Lib.hid hU7
        have B7 := Lib.hid hU3b
        clear hU7 hU3b hU3 hon HBW HRB HR6 HDI HC HNX hU6 hb5
        go_wp2
        refine ⟨⟨k + 1, U3, by omega, by go_num, U7, B7, hb7⟩, ?_⟩
        simp only [intOf]
        omega
      | false =>
        rw [hfk] at hix
        have HNX := Lib.hid (hfn.out hfk)
        rw [← HNX.out] at hU
        clear hfy hfn hfk HNX hdc
        go_wp2
        refine ⟨⟨k + 1, U, by omega, by go_num, hU, hUb, hb⟩, ?_⟩
        simp only [intOf]
        omega
    · have e : k = 4096 := by omega
      subst e
      have hge : ¬ ((4096 : Nat) : Int) < 4096 := by omega
      have hpost : RowsOut (patsOf n f) w (.returned u5) wr := by rw [HPE.out]; exact ⟨_, U, rfl, hU.out, hUb.out, hb⟩
      clear hU hUb hb HPE
      go_wp2
      go_ret
      exact hpost

/-- A table with one place more behind each of its patterns. -/
def widF (n : Nat) (k : Int) (f : Nat → Bool) (c : Nat) : Bool := f (c / 8) && decide (((c % 8 : Nat) : Int) ≤ newN k (decP n (c / 8)))
/-- The same while the first j numbers have been seen. -/
def widT (n : Nat) (k : Int) (f : Nat → Bool) (j c : Nat) : Bool := widF n k f c && decide (c / 8 < j)
def widI (n : Nat) (k : Int) (f : Nat → Bool) (j m c : Nat) : Bool := widT n k f j c || (decide (c / 8 = j) && decide (c % 8 < m))
theorem widT_zero (n : Nat) (k : Int) (f : Nat → Bool) (c : Nat) : widT n k f 0 c = false := by simp [widT]
theorem widT_all (n : Nat) (k : Int) (f : Nat → Bool) {c : Nat} (h : c < 4096) : widT n k f 4096 c = widF n k f c := by
  have : c / 8 < 4096 := by omega
  simp [widT, this]
theorem widT_skip {n : Nat} {k : Int} {f : Nat → Bool} {j : Nat} (h : f j = false) (c : Nat) : widT n k f j c = widT n k f (j + 1) c := by
  unfold widT widF
  by_cases e : c / 8 = j
  · rw [e, h]; simp
  · rw [show decide (c / 8 < j) = decide (c / 8 < j + 1) from decide_eq_decide.2 (by omega)]
theorem widI_zero (n : Nat) (k : Int) (f : Nat → Bool) (j c : Nat) : widI n k f j 0 c = widT n k f j c := by simp [widI]
theorem widI_set {n : Nat} {k : Int} {f : Nat → Bool} {j m : Nat} (hm : m < 8) (c : Nat) : (if c = j * 8 + m then true else widI n k f j m c) = widI n k f j (m + 1) c := by
  unfold widI
  by_cases e : c = j * 8 + m
  · rw [if_pos e]
    have h1 : c / 8 = j := by omega
    have h2 : c % 8 < m + 1 := by omega
    simp [h1, h2]
  · rw [if_neg e]
    congr 1
    by_cases h : c / 8 = j
    · rw [show decide (c % 8 < m) = decide (c % 8 < m + 1) from decide_eq_decide.2 (by omega)]
    · simp [h]
theorem widI_all {n : Nat} {k : Int} {f : Nat → Bool} {j : Nat} (h : f j = true) {m : Nat} (hm : (m : Int) = newN k (decP n j) + 1) (c : Nat) : widI n k f j m c = widT n k f (j + 1) c := by
  unfold widI widT
  by_cases e : c / 8 = j
  · have e1 : widF n k f c = decide (c % 8 < m) := by
      unfold widF
      rw [e, h, Bool.true_and]
      exact decide_eq_decide.2 (by omega)
    rw [e1, e]
    simp
  · rw [show decide (c / 8 < j) = decide (c / 8 < j + 1) from decide_eq_decide.2 (by omega)]
    simp [e]

theorem tabOk_dec {n : Nat} {k : Int} (hk : 0 ≤ k) (hk3 : k ≤ 3) (hn : n ≤ 4) {f : Nat → Bool} (hf : tabOk n k f) {c : Nat} (hc : c < 4096) (h : f c = true) : decP n c ∈ allP n k ∧ c < 8 ^ n := by
  obtain ⟨p, hp, rfl⟩ := hf c hc h
  obtain ⟨h1, h2⟩ := dig_allP hk hk3 hn hp
  rw [decP_code h1 h2]
  exact ⟨hp, codeP_lt h1 h2⟩

/-- The patterns of a table with one place more. -/
theorem wid_tab {n : Nat} {k : Int} (hk : 0 ≤ k) (hk3 : k ≤ 3) (hn : n ≤ 3) {L : List (List Int)} (hL : ∀ p ∈ L, p ∈ allP n k) (c : Nat) : widF n k (tabOf L) c = tabOf (L.flatMap (extP k)) c := by
  rw [Bool.eq_iff_iff]
  unfold widF
  rw [Bool.and_eq_true, decide_eq_true_eq, tabOf_mem, tabOf_mem]
  constructor
  · rintro ⟨⟨p, hp, e⟩, h⟩
    obtain ⟨h1, h2⟩ := dig_allP hk hk3 (by omega) (hL p hp)
    rw [← e, decP_code h1 h2] at h
    refine ⟨p ++ [((c % 8 : Nat) : Int)], List.mem_flatMap.2 ⟨p, hp, ?_⟩, ?_⟩
    · unfold extP
      rw [List.mem_map]
      exact ⟨c % 8, List.mem_range.2 (by omega), rfl⟩
    · rw [codeP_snoc]
      omega
  · rintro ⟨q, hq, e⟩
    obtain ⟨p, hp, hx⟩ := List.mem_flatMap.1 hq
    obtain ⟨h1, h2⟩ := dig_allP hk hk3 (by omega) (hL p hp)
    have h3 := newN_pat ((mem_allP hk).1 (hL p hp)).2
    unfold extP at hx
    rw [List.mem_map] at hx
    obtain ⟨m, hm, rfl⟩ := hx
    rw [List.mem_range] at hm
    rw [codeP_snoc] at e
    have e1 : c / 8 = codeP p := by omega
    have e2 : c % 8 = m := by omega
    refine ⟨⟨p, hp, e1.symm⟩, ?_⟩
    rw [e1, decP_code h1 h2, e2]
    omega
theorem flat_sub {n : Nat} {k : Int} {L : List (List Int)} (hL : ∀ p ∈ L, p ∈ allP n k) : ∀ q ∈ L.flatMap (extP k), q ∈ allP (n + 1) k := by
  intro q hq
  obtain ⟨p, hp, hx⟩ := List.mem_flatMap.1 hq
  exact List.mem_flatMap.2 ⟨p, hL p hp, hx⟩

set_option maxRecDepth 100000 in
set_option maxHeartbeats 4000000 in
theorem widened_any (f : Nat → Bool) (n k : Nat) (hn : n ≤ 3) (hk : k ≤ 3) (hf : tabOk n k f) (w : World) :
    Calls Try.prog 94 #[.agg (tabV f), .int .i64 (n : Int), .int .i64 (k : Int)] w (TabP (widF n k f) w) := by
  have hb1 : Below w.heap.size w (((w.alloc (.cells (tabV f) 72)).alloc (.cells Try.zeroCells72 72)).alloc (.cells Try.zeroCells72 72)) := (((Below.refl _ _).alloc (Nat.le_refl _) _).alloc (by simp) _).alloc (by simp; omega) _
  have ht0 : TabAt (((w.alloc (.cells (tabV f) 72)).alloc (.cells Try.zeroCells72 72)).alloc (.cells Try.zeroCells72 72)) w.heap.size f :=
    (Below.heap_alloc _ _ _ (by simp; omega)).trans ((Below.heap_alloc _ _ _ (by simp)).trans (heap_alloc_new w _))
  have hr0 : TabAt (((w.alloc (.cells (tabV f) 72)).alloc (.cells Try.zeroCells72 72)).alloc (.cells Try.zeroCells72 72)) (w.heap.size + 1) (fun _ => false) := by
    have h := heap_alloc_new (w.alloc (.cells (tabV f) 72)) (.cells Try.zeroCells72 72)
    rw [World.size_alloc, tab_zero] at h
    rw [tab_zero]
    exact (Below.heap_alloc _ _ _ (by simp)).trans h
  have hx0 : TabAt (((w.alloc (.cells (tabV f) 72)).alloc (.cells Try.zeroCells72 72)).alloc (.cells Try.zeroCells72 72)) (w.heap.size + 1 + 1) (widT n k f 0) := by
    have h := heap_alloc_new ((w.alloc (.cells (tabV f) 72)).alloc (.cells Try.zeroCells72 72)) (.cells Try.zeroCells72 72)
    rw [World.size_alloc, World.size_alloc, tab_zero] at h
    rw [tab_zero]
    exact TabAt.ext h fun i _ => (widT_zero n k f i).symm
  have hi : (Try.prog.info? 72).map (·.size) = some (tabV f).size := by rw [tabV_size]; exact tab_info
  have HX := Lib.hid (run_index_tab f)
  have HI := Lib.hid hi
  have HF := Lib.hid hf
  have HT := Lib.hid ht0
  have HR := Lib.hid hr0
  have HW := Lib.hid hx0
  clear ht0 hr0 hx0 hi hf
  unfold TabAt at HT
  generalize tabV f = cs at *
  go_enter Try.func94, Try.ntmps94
  go_wp2_with (refine wpList_load_row rfl 72 (.tmp 3) rfl w.heap.size rfl _ cs _ _ HT.out Try.underlying72 rfl HI.out ?_)
  generalize ((w.alloc (.cells cs 72)).alloc (.cells Try.zeroCells72 72)).alloc (.cells Try.zeroCells72 72) = w1 at HR HW hb1 ⊢
  clear HT HI
  go_loopw [8, 9, 10, 12] (fun _ _ _ i wr => ∃ (j : Nat), j ≤ 4096 ∧ i = .int .i64 j ∧ Hid (TabAt wr (w.heap.size + 1 + 1) (widT n k f j)) ∧ Hid (TabAt wr (w.heap.size + 1) (fun _ => false)) ∧ Below w.heap.size w wr) (fun _ _ _ i _ => 4096 - (intOf i).toNat)
  case atStart => exact ⟨0, by omega, rfl, HW, HR, hb1⟩
  case round =>
    clear HW HR hb1
    obtain ⟨j, hj, rfl, hT, hR, hb⟩ := hrel
    by_cases hlt : j < 4096
    · have hlti : (j : Int) < 4096 := by omega
      have hix := HX.out j hlt
      have hdc := decoded_any j n (by omega) (by omega) wr
      cases hfk : f j with
      | true =>
        rw [hfk] at hix
        obtain ⟨hmem, hj8⟩ := tabOk_dec (k := (k : Int)) (by omega) (by omega) (by omega) HF.out hlt hfk
        have hj512 : j < 512 := Nat.lt_of_lt_of_le hj8 (Nat.pow_le_pow_right (by decide) hn)
        obtain ⟨hpl, hpd⟩ := dig_allP (k := (k : Int)) (by omega) (by omega) (by omega) hmem
        have hnp := newN_pat ((mem_allP (k := (k : Int)) (by omega)).1 hmem).2
        have hng := newN_ge (k : Int) (decP n j)
        have HPD := Lib.hid hpd
        have hn6 : newN k (decP n j) ≤ 6 := by omega
        obtain ⟨M, hM⟩ : ∃ M : Nat, (M : Int) = newN k (decP n j) + 1 := ⟨(newN k (decP n j) + 1).toNat, by omega⟩
        have HEND := Lib.hid (fun c => widI_all (n := n) hfk hM c)
        have HM := Lib.hid hM
        have hM7 : M ≤ 7 := by omega
        have hl5 : (decP n j).length ≤ 1099511627776 := by omega
        have HZ := Lib.hid (hT.out.ext fun i _ => (widI_zero n k f j i).symm)
        clear hfk hmem hj8 hpl hpd hnp hT hng hn6 hM
        generalize hp : decP n j = p at *
        clear hp
        go_wp2_with fail
        refine hdc.mono ?_
        rintro e w5 ⟨v5, rfl, ho5, hb5⟩
        obtain ⟨A5, c5, rfl, hA5⟩ := own_intsAt ho5
        have hnn := newNumber_any A5 c5 p k w5 hA5 hl5 (by omega) (by omega) (fun i hi => by have := digP_at HPD.out hi; omega)
        have HZ5 := Lib.hid (HZ.out.below hb5)
        have HR5 := Lib.hid (hR.out.below hb5)
        have hb6 := hb.trans (hb5.mono hb.size)
        clear hdc hix ho5 hb5 hA5 HZ hR hb
        go_wp2_with fail
        refine hnn.mono ?_
        rintro e w6 ⟨rfl, rfl⟩
        have HMM : Hid (newN k p + 1 = (M : Int)) := Lib.hid HM.out.symm
        clear hnn HM
        generalize newN k p = mm at *
        have hmm1 : -1 ≤ mm ∧ mm ≤ 6 := by have := HMM.out; omega
        go_wp2
        go_loopw [10, 24] (fun _ i wr => ∃ (m : Nat), (m : Int) ≤ mm + 1 ∧ m ≤ M ∧ i = .int .i64 m ∧ Hid (TabAt wr (w.heap.size + 1 + 1) (widI n k f j m)) ∧ Hid (TabAt wr (w.heap.size + 1) (fun _ => false)) ∧ Below w.heap.size w wr) (fun _ i _ => M - (intOf i).toNat)
        case atStart => exact ⟨0, by omega, by omega, rfl, HZ5, HR5, hb6⟩
        case round =>
          clear HZ5 HR5 hb6
          obtain ⟨m, hm, hmM, rfl, hT, hR, hb⟩ := hrel
          by_cases hlm : (m : Int) < mm + 1
          · have hm8 : m < 8 := by omega
            have hmlt : m < M := by have := HMM.out; omega
            have hx : j * 8 + m < 4096 := by omega
            have hst := hT.out.set_ hx true
            have hst2 : Hid (TabAt (wr.setCell ⟨w.heap.size + 1 + 1, j * 8 + m, none⟩ (.bool true)) (w.heap.size + 1 + 1) (widI n k f j (m + 1))) := Lib.hid (hst.ext fun i _ => widI_set hm8 i)
            have hcl := hT.out.cell hx
            have hfz := hT.out.frozen (j * 8 + m)
            have hr2 : Hid (TabAt (wr.setCell ⟨w.heap.size + 1 + 1, j * 8 + m, none⟩ (.bool true)) (w.heap.size + 1) (fun _ => false)) := Lib.hid (hR.out.only ((Only.refl _ _).set (S := [w.heap.size + 1 + 1]) ⟨w.heap.size + 1 + 1, j * 8 + m, none⟩ _ (by simp)) (by simp))
            have hb2 : Below w.heap.size w (wr.setCell ⟨w.heap.size + 1 + 1, j * 8 + m, none⟩ (.bool true)) := hb.setCell (by simp; omega) _
            generalize widI n k f j m (j * 8 + m) = bb at hcl
            obtain ⟨x, hxe⟩ : ∃ x : Nat, x = j * 8 + m := ⟨_, rfl⟩
            rw [← hxe] at hst2 hcl hfz hr2 hb2 hx
            have hxi : (j : Int) * 8 + (m : Int) = (x : Int) := by omega
            clear hst hT hR hb
            have HXE := Lib.hid hxe
            clear hxe
            go_wp2
            refine ⟨⟨m + 1, by omega, by omega, by go_num, hst2, hr2, hb2⟩, ?_⟩
            simp only [intOf]
            omega
          · have e : m = M := by have := HMM.out; omega
            subst e
            have HT2 := Lib.hid (hT.out.ext fun i _ => HEND.out i)
            clear hT HEND
            go_wp2
            refine ⟨⟨j + 1, by omega, by go_num, HT2, hR, hb⟩, ?_⟩
            simp only [intOf]
            omega
      | false =>
        rw [hfk] at hix
        have HT2 := Lib.hid (hT.out.ext fun i _ => widT_skip hfk i)
        clear hfk hdc hT
        go_wp2
        refine ⟨⟨j + 1, by omega, by go_num, HT2, hR, hb⟩, ?_⟩
        simp only [intOf]
        omega
    · have e : j = 4096 := by omega
      subst e
      have hge : ¬ ((4096 : Nat) : Int) < 4096 := by omega
      have ht' := hT.out.ext fun i hi => widT_all n k f hi
      have hr' := hR.out
      unfold TabAt at ht' hr'
      have HI : Hid ((Try.prog.info? 72).map (·.size) = some (tabV (widF n k f)).size) := Lib.hid (by rw [tabV_size]; exact tab_info)
      have HT := Lib.hid ht'
      have HR := Lib.hid hr'
      have hres := Lib.hid (setRow_same (cs := tabV (widF n k f)) hr')
      have hbF := setRow_below hb (show w.heap.size ≤ w.heap.size + 1 by omega) (tabV (widF n k f))
      have HO := Lib.hid (tabV_one (widF n k f))
      have HSZ := Lib.hid (show (tabV fun _ => false).size = (tabV (widF n k f)).size by rw [tabV_size, tabV_size])
      clear ht' hr' hT hR hb
      generalize hds : tabV (widF n k f) = ds at *
      have HDS := Lib.hid hds
      clear hds
      go_wp2_with (first
        | (refine wpList_load_row rfl 72 (.tmp 7) rfl (w.heap.size + 1 + 1) rfl _ ds _ _ HT.out Try.underlying72 rfl HI.out ?_)
        | (refine wpList_store_row rfl 72 (.tmp 6) (.tmp 34) rfl (w.heap.size + 1) ds rfl rfl _ _ HR.out HI.out HSZ.out HO.out ?_))
      exact bodyPost_ret (v := .agg ds) (results_cell_row rfl _ _ _ _ _ _ _ rfl hres.out Try.underlying72 rfl HI.out) rfl ⟨by rw [HDS.out], hbF⟩
end Go.Proofs.Ytdbogjhkcnajkaa
end

section
namespace Go.Proofs.Ytdbogjhkcnajkaa
open Go.RowKit Go.Sort
set_option linter.unusedVariables false

end Go.Proofs.Ytdbogjhkcnajkaa
end

section
namespace Go.Proofs.Ytdbogjhkcnajkaa
open Go.RowKit Go.Sort
set_option linter.unusedVariables false

/-- The cells of a table, as a list. -/
def tabL (f : Nat → Bool) : List Value := (List.range 4096).map fun i => .bool (f i)
theorem tabV_L (f : Nat → Bool) : tabV f = (tabL f).toArray := rfl
theorem tabL_len (f : Nat → Bool) : (tabL f).length = 4096 := by simp [tabL]
theorem tabL_one (f : Nat → Bool) : ∀ v ∈ tabL f, v.oneCell' = true := by
  intro v hv
  simp [tabL] at hv
  obtain ⟨i, _, rfl⟩ := hv
  rfl
theorem range_of {w : World} {g : Nat} {L : List Value} {t : TypeId} (h : w.heap[g]? = some (.cells L.toArray t (0, 0))) : w.rangeAt g 0 L := fun j v hv => by
  rw [cell_of_row w g _ _ _ _ h, Nat.zero_add]
  simpa using hv

theorem orb_done {w wr : World} {r : Nat} {n : Int} {cs : List Int} {R : List (List Int)} {A1 A2 : Option Addr} {c1 c2 : Nat} {S1 U : List Nat} (hK : Own wr S1 (.slice A1 cs.length c1) (intMem cs)) (hU : Own wr U (.slice A2 R.length c2) (rowsMem R))
    (hd : ∀ b ∈ S1, b ∉ U) (hb : Below w.heap.size w wr) (hr : w.heap.size ≤ r) (hS : ∀ b ∈ S1, w.heap.size ≤ b ∧ b ≠ r) (hUb : ∀ b ∈ U, w.heap.size ≤ b ∧ b ≠ r) :
    OrbOut n cs R w (.returned (.agg #[.int .i64 n, .slice A1 cs.length c1, .slice A2 R.length c2])) (((wr.setCell ⟨r, 0, none⟩ (.int .i64 n)).setCell ⟨r, 1, none⟩ (.slice A1 cs.length c1)).setCell ⟨r, 2, none⟩ (.slice A2 R.length c2)) := by
  have hL := orb_ownL (z := n) hK hU hd
  have hLb : ∀ b ∈ S1 ++ (U ++ []), w.heap.size ≤ b ∧ b ≠ r := fun b hb => by
    rw [List.append_nil] at hb
    rcases List.mem_append.1 hb with h | h
    · exact hS b h
    · exact hUb b h
  have onF : Only [r] wr (((wr.setCell ⟨r, 0, none⟩ (.int .i64 n)).setCell ⟨r, 1, none⟩ (.slice A1 cs.length c1)).setCell ⟨r, 2, none⟩ (.slice A2 R.length c2)) := (((Only.refl _ _).set ⟨r, 0, none⟩ _ (by simp)).set ⟨r, 1, none⟩ _ (by simp)).set ⟨r, 2, none⟩ _ (by simp)
  have hbF : Below w.heap.size w (((wr.setCell ⟨r, 0, none⟩ (.int .i64 n)).setCell ⟨r, 1, none⟩ (.slice A1 cs.length c1)).setCell ⟨r, 2, none⟩ (.slice A2 R.length c2)) := ((hb.setCell (p := ⟨r, 0, none⟩) hr _).setCell (p := ⟨r, 1, none⟩) hr _).setCell (p := ⟨r, 2, none⟩) hr _
  exact ⟨A1, c1, A2, c2, _, rfl, hL.alike fun bb hbb => onF.block bb (hL.lt bb hbb) (by have := (hLb bb hbb).2; simpa using this), fun b hb => (hLb b hb).1, hbF⟩

theorem range_set3 {w : World} {g r : Nat} {L : List Value} (h : w.rangeAt g 0 L) (hne : g ≠ r) (a b c : Value) : (((w.setCell ⟨r, 0, none⟩ a).setCell ⟨r, 1, none⟩ b).setCell ⟨r, 2, none⟩ c).rangeAt g 0 L := fun j v hv => by
  have h1 := h j v hv
  unfold World.cell? at h1 ⊢
  simp only at h1 ⊢
  rw [heap_setCell_other _ _ _ _ (by simpa using hne), heap_setCell_other _ _ _ _ (by simpa using hne), heap_setCell_other _ _ _ _ (by simpa using hne)]
  exact h1
theorem z3At {w : World} {r : Nat} {a b c : Value} {T : TypeId} (h : w.heap[r]? = some (.cells #[a, b, c] T (0, 0))) : w.frozen? ⟨r, 0, none⟩ = false ∧ w.frozen? ⟨r, 1, none⟩ = false ∧ w.frozen? ⟨r, 2, none⟩ = false := ⟨frozen_of_row _ _ 0 _ _ h, frozen_of_row _ _ 1 _ _ h, frozen_of_row _ _ 2 _ _ h⟩

set_option maxRecDepth 100000 in
set_option maxHeartbeats 4000000 in
theorem setOfCodes_any (f : Nat → Bool) (n : Nat) (hn : n ≤ 4) (cs : List Int) (hcs : cs.length ≤ 1000) (A : Option Addr) (c : Nat) (w : World) (hA : IntsAt w A cs) :
    Calls Try.prog 79 #[.slice A cs.length c, .int .i64 (n : Int), .agg (tabV f)] w (OrbOut n cs (patsOf n f) w) := by
  have hi : (Try.prog.info? 72).map (·.size) = some (tabL f).length := by rw [tabL_len]; exact tab_info
  have hone := tabL_one f
  have hlen := tabL_len f
  have hpa := fun W => patterns_any f n hn W
  rw [tabV_L] at hpa ⊢
  generalize patsOf n f = R at *
  generalize tabL f = L at *
  have hbw : Below w.heap.size w (((w.alloc (.cells L.toArray 72)).alloc (.cells #[.int .i64 0, .slice none 0 0, .slice none 0 0] 29)).drew) := (((Below.refl _ _).alloc (Nat.le_refl _) _).alloc (by simp) _).trans ⟨rfl, rfl, rfl, Nat.le_refl _, fun _ _ => rfl⟩
  have hT : (((w.alloc (.cells L.toArray 72)).alloc (.cells #[.int .i64 0, .slice none 0 0, .slice none 0 0] 29)).drew).heap[w.heap.size]? = some (.cells L.toArray 72 (0, 0)) := (Below.heap_alloc _ _ _ (by simp)).trans (heap_alloc_new w _)
  have hR : (((w.alloc (.cells L.toArray 72)).alloc (.cells #[.int .i64 0, .slice none 0 0, .slice none 0 0] 29)).drew).heap[w.heap.size + 1]? = some (.cells #[.int .i64 0, .slice none 0 0, .slice none 0 0] 29 (0, 0)) := by
    have h := heap_alloc_new (w.alloc (.cells L.toArray 72)) (.cells #[.int .i64 0, .slice none 0 0, .slice none 0 0] 29)
    rw [World.size_alloc] at h
    exact h
  have hsz : (((w.alloc (.cells L.toArray 72)).alloc (.cells #[.int .i64 0, .slice none 0 0, .slice none 0 0] 29)).drew).heap.size = w.heap.size + 2 := by simp
  have hcl := clone_any A c cs (((w.alloc (.cells L.toArray 72)).alloc (.cells #[.int .i64 0, .slice none 0 0, .slice none 0 0] 29)).drew) (hA.below hbw) (by omega)
  have hrg := range_of hT
  have hu := Try.underlying72
  have HBW := Lib.hid hbw
  have HT := Lib.hid hT
  have HR := Lib.hid hR
  have HSZ := Lib.hid hsz
  have HPA := Lib.hid hpa
  clear hA hbw hT hR hsz hpa
  go_enter Try.func79, Try.ntmps79
  go_wp2
  go_region_held3 (fun w' => w'.rangeAt w.heap.size 0 L)
    (with_reducible assumption)
    (first
      | (go_at_call 132; refine hcl.mono ?_; rintro e w4 ⟨v4, rfl, ho4, hb4⟩; have hT4 := (hb4.block w.heap.size (by rw [HSZ.out]; omega)).trans HT.out; have hR4 := (hb4.block (w.heap.size + 1) (by rw [HSZ.out]; omega)).trans HR.out; have hrg4 := range_of hT4; have hpa4 := HPA.out w4)
      | (go_at_call 64; refine hpa4.mono ?_; rintro e w5 ⟨v5, S5, rfl, hO5, hS5, hb5⟩; have hT5 := (hb5.block w.heap.size (OrbK.box_lt hT4)).trans hT4; have hR5 := (hb5.block (w.heap.size + 1) (OrbK.box_lt hR4)).trans hR4; have hrg5 := range_of hT5; obtain ⟨S4, hO4, hS4, _⟩ := own_intRow ho4; obtain ⟨A4, c4, rfl, _⟩ := own_intSlice hO4; obtain ⟨A5, c5, rfl⟩ := RowsIn.form (ls := R) hO5.at_; obtain ⟨x0, x1, x2⟩ := OrbK.row3 hR5; obtain ⟨y0, y1, y2⟩ := z3At hR5; have hrg6 := range_set3 hrg5 (show w.heap.size ≠ w.heap.size + 1 by omega) (.int .i64 (n : Int)) (.slice A4 cs.length c4) (.slice A5 R.length c5))
      | fail)
  rw [HSZ.out] at hS4
  have hbw4 := HBW.out.trans (hb4.mono HBW.out.size)
  have hz4 : w.heap.size + 2 ≤ w4.heap.size := by have := hb4.size; rw [HSZ.out] at this; exact this
  have hlt4 : ∀ b ∈ S4, b < w4.heap.size := fun b hb => hO4.lt b hb
  have hpost := orb_done (n := (n : Int)) (r := w.heap.size + 1) (hO4.keep hb5) hO5 (fun b h1 h2 => by have h3 := hlt4 b h1; have h4 := hS5 b h2; omega) (hbw4.trans (hb5.mono hbw4.size)) (by omega) (fun b h => by have := hS4 b h; omega) (fun b h => by have := hS5 b h; omega)
  clear hcl hpa4 hO4 hO5 hS4 hS5 hb4 hb5 hlt4 hbw4 HBW HT HR HSZ HPA hT4 hR4 hT5 hR5 hrg hrg4 hrg5 hrg6 ho4 hu hi hone hlen
  go_wp2
  exact bodyPost_ret (v := .agg #[.int .i64 (n : Int), .slice A4 cs.length c4, .slice A5 R.length c5]) (by simp [results, Try.results79, go_sem, x0, x1, x2]) rfl hpost
end Go.Proofs.Ytdbogjhkcnajkaa
end

section
namespace Go.Proofs.Ytdbogjhkcnajkaa
open Go.RowKit Go.Sort
set_option linter.unusedVariables false

theorem orb_pass {w wr : World} {r : Nat} {n : Int} {cs : List Int} {R : List (List Int)} {A1 A2 : Option Addr} {c1 c2 : Nat} {S : List Nat} (hL : OwnL wr S [.int .i64 n, .slice A1 cs.length c1, .slice A2 R.length c2] (encO n cs R))
    (hb : Below w.heap.size w wr) (hr : w.heap.size ≤ r) (hS : ∀ b ∈ S, w.heap.size ≤ b ∧ b ≠ r) :
    OrbOut n cs R w (.returned (.agg #[.int .i64 n, .slice A1 cs.length c1, .slice A2 R.length c2])) (((wr.setCell ⟨r, 0, none⟩ (.int .i64 n)).setCell ⟨r, 1, none⟩ (.slice A1 cs.length c1)).setCell ⟨r, 2, none⟩ (.slice A2 R.length c2)) := by
  have onF : Only [r] wr (((wr.setCell ⟨r, 0, none⟩ (.int .i64 n)).setCell ⟨r, 1, none⟩ (.slice A1 cs.length c1)).setCell ⟨r, 2, none⟩ (.slice A2 R.length c2)) := (((Only.refl _ _).set ⟨r, 0, none⟩ _ (by simp)).set ⟨r, 1, none⟩ _ (by simp)).set ⟨r, 2, none⟩ _ (by simp)
  have hbF : Below w.heap.size w (((wr.setCell ⟨r, 0, none⟩ (.int .i64 n)).setCell ⟨r, 1, none⟩ (.slice A1 cs.length c1)).setCell ⟨r, 2, none⟩ (.slice A2 R.length c2)) := ((hb.setCell (p := ⟨r, 0, none⟩) hr _).setCell (p := ⟨r, 1, none⟩) hr _).setCell (p := ⟨r, 2, none⟩) hr _
  exact ⟨A1, c1, A2, c2, _, rfl, hL.alike fun bb hbb => onF.block bb (hL.lt bb hbb) (by have := (hS bb hbb).2; simpa using this), fun b hb => (hS b hb).1, hbF⟩

end Go.Proofs.Ytdbogjhkcnajkaa
end

section
namespace Go.Proofs.Ytdbogjhkcnajkaa
open Go.RowKit Go.Sort
set_option linter.unusedVariables false

/-- An orbit set and a bool. -/
def OrbBOut (z : Int) (l : List Int) (m : List (List Int)) (b : Bool) (w : World) (e : Ending) (w' : World) : Prop :=
  ∃ A1 c1 A2 c2 S, e = .returned (.tuple #[.agg #[.int .i64 z, .slice A1 l.length c1, .slice A2 m.length c2], .bool b]) ∧
    OwnL w' S [.int .i64 z, .slice A1 l.length c1, .slice A2 m.length c2] (encO z l m) ∧ (∀ b ∈ S, w.heap.size ≤ b) ∧ Below w.heap.size w w'
theorem orbB_of {z : Int} {l : List Int} {m : List (List Int)} {w w' : World} {A1 A2 : Option Addr} {c1 c2 : Nat} (b : Bool) (h : OrbOut z l m w (.returned (.agg #[.int .i64 z, .slice A1 l.length c1, .slice A2 m.length c2])) w') :
    OrbBOut z l m b w (.returned (.tuple #[.agg #[.int .i64 z, .slice A1 l.length c1, .slice A2 m.length c2], .bool b])) w' := by
  obtain ⟨A1', c1', A2', c2', S, e, hL, hS, hb⟩ := h
  injection e with e
  injection e with e
  simp only [Array.mk.injEq, List.cons.injEq, Value.slice.injEq, and_true, true_and] at e
  obtain ⟨⟨rfl, rfl⟩, rfl, rfl⟩ := e
  exact ⟨A1, c1, A2, c2, S, rfl, hL, hS, hb⟩
theorem orbB_zero {w w' : World} (hb : Below w.heap.size w w') : OrbBOut 0 [] [] false w (.returned (.tuple #[.agg #[.int .i64 0, .slice none 0 0, .slice none 0 0], .bool false])) w' := by
  have h1 : Own w' [] (.slice none 0 0) (intMem []) := .nil _ _
  have h2 : Own w' [] (.slice none 0 0) (rowsMem []) := .nil _ _
  exact ⟨none, 0, none, 0, _, rfl, orb_ownL (z := 0) (l := []) (m := []) h1 h2 (fun b hb => by simp at hb), fun b hb => by simp at hb, hb⟩
def ozR (b : Bool) (z : Int) : Int := if b then z else 0
def olR (b : Bool) (l : List Int) : List Int := if b then l else []
def omR (b : Bool) (m : List (List Int)) : List (List Int) := if b then m else []

end Go.Proofs.Ytdbogjhkcnajkaa
end

section
namespace Go.Proofs.Ytdbogjhkcnajkaa
open Go.RowKit
set_option linter.unusedVariables false

theorem orb_mem {n : Nat} {l : List Int} {m : List (List Int)} (h : orbB n l m = true) : ∀ p ∈ m, p ∈ allP n l.length := by
  intro p hp
  obtain ⟨i, hi, e⟩ := List.getElem_of_mem hp
  have h1 := rowsOk_at (orb_rows h).2 hi
  rw [rwAt_get _ _ hi, e] at h1
  exact (mem_allP (by omega)).2 ⟨by omega, h1.2⟩
/-- What is kept of all patterns is told by itself. -/
theorem thoseL_filter (n : Nat) (k : Int) (f : List Int → Bool) : thoseL n k ((allP n k).filter f) = (allP n k).filter f := by
  unfold thoseL
  refine List.filter_congr fun p hp => ?_
  rw [Bool.eq_iff_iff, there_mem, List.mem_filter]
  exact ⟨fun h => h.2, fun h => ⟨hp, h⟩⟩
theorem filter_fitR {n : Nat} {k : Int} (hk : 0 ≤ k) (hk3 : k ≤ 3) (hn : n ≤ 4) (f : List Int → Bool) : FitR ((allP n k).filter f) := fitR_of (by have := filter_fit hk hk3 hn f; omega)
end Go.Proofs.Ytdbogjhkcnajkaa
end

section
namespace Go.Proofs.Ytdbogjhkcnajkaa
open Go.RowKit
set_option linter.unusedVariables false

def widG (n : Nat) (m : List (List Int)) (p : List Int) : Bool := thereB m (p.take n)
def widL (n : Nat) (k : Int) (m : List (List Int)) : List (List Int) := (allP (n + 1) k).filter (widG n m)
theorem wid_there {n : Nat} {k : Int} (hk : 0 ≤ k) {m : List (List Int)} (hm : ∀ p ∈ m, p ∈ allP n k) {p : List Int} (hp : p ∈ allP (n + 1) k) : thereB (m.flatMap (extP k)) p = widG n m p := by
  obtain ⟨h1, h2⟩ := (mem_allP hk).1 hp
  obtain ⟨q, x, rfl, hq⟩ := snoc_of h1
  obtain ⟨h3, h4, h5⟩ := isPat_snoc.1 h2
  unfold widG
  rw [List.take_append_of_le_length (by omega), List.take_of_length_le (by omega), Bool.eq_iff_iff, there_mem, there_mem, List.mem_flatMap]
  constructor
  · rintro ⟨a, ha, hx⟩
    unfold extP at hx
    obtain ⟨i, hi, e⟩ := List.mem_map.1 hx
    have hal := ((mem_allP hk).1 (hm a ha)).1
    have := (List.append_inj e (by omega)).1
    rwa [← this]
  · intro hq'
    refine ⟨q, hq', ?_⟩
    unfold extP
    exact List.mem_map.2 ⟨x.toNat, List.mem_range.2 (by omega), by rw [show ((x.toNat : Nat) : Int) = x by omega]⟩
theorem wid_pats {n : Nat} {k : Int} (hk : 0 ≤ k) (hk3 : k ≤ 3) (hn : n ≤ 3) {m : List (List Int)} (hm : ∀ p ∈ m, p ∈ allP n k) : patsOf (n + 1) (widF n k (tabOf m)) = widL n k m := by
  rw [show widF n k (tabOf m) = tabOf (m.flatMap (extP k)) from funext fun c => wid_tab hk hk3 hn hm c, patsOf_tabOf hk hk3 (by omega) (flat_sub hm)]
  unfold thoseL widL
  exact List.filter_congr fun p hp => wid_there hk hm hp
def widOk (z : Int) (l : List Int) (m : List (List Int)) : Bool := orbB z l m && !(z == 4)
def widM (z : Int) (l : List Int) (m : List (List Int)) : List (List Int) := widL z.toNat l.length m
theorem widLen (z : Int) (l : List Int) (m : List (List Int)) : (olR (widOk z l m) l).length ≤ 3 ∧ (omR (widOk z l m) (widM z l m)).length + sumR (omR (widOk z l m) (widM z l m)) ≤ 32768 := by
  cases h : widOk z l m with
  | false => simp [olR, omR, sumR]
  | true =>
    simp only [widOk, Bool.and_eq_true] at h
    have h1 := (orb_rows h.1).1
    have h2 : 0 ≤ z ∧ z ≤ 4 := by simpa [widB] using h1
    have h4 := const_len (orb_const h.1)
    have h5 : z ≠ 4 := by simpa using h.2
    exact ⟨h4, filter_fit (by omega) (by omega) (by omega) _⟩
theorem widFit (z : Int) (l : List Int) (m : List (List Int)) : FitO (olR (widOk z l m) l) (omR (widOk z l m) (widM z l m)) :=
  ⟨by have := widLen z l m; omega, fitR_of (by have := widLen z l m; omega)⟩
theorem widSum (z : Int) (l : List Int) (m : List (List Int)) : (olR (widOk z l m) l).length + sumR (omR (widOk z l m) (widM z l m)) ≤ 8388608 := by have := widLen z l m; omega
end Go.Proofs.Ytdbogjhkcnajkaa
end

section
namespace Go.Proofs.Ytdbogjhkcnajkaa
open Go.RowKit Go.Sort
set_option linter.unusedVariables false

theorem own_cap {w : World} {T : List Nat} {A : Option Addr} {c : Nat} {l : List Int} (h : Own w T (.slice A l.length c) (intMem l)) : l.length ≤ c := by
  rcases (cellRow_own (icells_len _) h).1.2 with ⟨e, h0⟩ | ⟨g2, cap2, cur, e, _, _, hn, _⟩
  · omega
  · injection e with _ _ e3
    omega

set_option maxRecDepth 100000 in
set_option maxHeartbeats 8000000 in
theorem widenSet_spec (z : Int) (l : List Int) (m : List (List Int)) (hf : FitO l m) (x : Value) (w : World) (hx : OrbIx w x z l m) :
    Calls Try.prog 42 #[x] w (OrbBOut (ozR (widOk z l m) (z + 1)) (olR (widOk z l m) l) (omR (widOk z l m) (widM z l m)) (widOk z l m) w) := by
  have hX := hx
  obtain ⟨A, c, B, d, rfl, hl, hmr, hm⟩ := hx
  have hb0 : Below w.heap.size w ((w.alloc (.cells #[.int .i64 z, .slice A l.length c, .slice B m.length d] 29)).alloc (.cells #[.int .i64 0, .slice none 0 0, .slice none 0 0] 29)) := ((Below.refl _ _).alloc (Nat.le_refl _) _).alloc (by simp) _
  have k0 : ((w.alloc (.cells #[.int .i64 z, .slice A l.length c, .slice B m.length d] 29)).alloc (.cells #[.int .i64 0, .slice none 0 0, .slice none 0 0] 29)).heap[w.heap.size]? = some (.cells #[.int .i64 z, .slice A l.length c, .slice B m.length d] 29 (0, 0)) := (Below.heap_alloc _ _ _ (by simp)).trans (heap_alloc_new w _)
  have k1 : ((w.alloc (.cells #[.int .i64 z, .slice A l.length c, .slice B m.length d] 29)).alloc (.cells #[.int .i64 0, .slice none 0 0, .slice none 0 0] 29)).heap[w.heap.size + 1]? = some (.cells #[.int .i64 0, .slice none 0 0, .slice none 0 0] 29 (0, 0)) := by
    have h := heap_alloc_new (w.alloc (.cells #[.int .i64 z, .slice A l.length c, .slice B m.length d] 29)) (.cells #[.int .i64 0, .slice none 0 0, .slice none 0 0] 29)
    rw [World.size_alloc] at h
    exact h
  obtain ⟨b0, b1, b2⟩ := OrbK.row3 k0
  have hio := isOrbitSet_spec z l m hf _ _ (hX.below hb0)
  have HB0 := Lib.hid hb0
  have HK0 := Lib.hid k0
  have HK1 := Lib.hid k1
  cases ho : orbB z l m with
  | false =>
    rw [ho] at hio
    have hkk : widOk z l m = false := by simp [widOk, ho]
    clear hl hmr hm k0 k1 hX ho hb0
    go_enter Try.func42, Try.ntmps42
    go_wp2_with (go_at_call 74; (with_reducible refine hio.mono ?_); rintro e w2 ⟨rfl, hb2⟩; have k2 := (hb2.block _ (OrbK.box_lt HK0.out)).trans HK0.out; clear b0 b1 b2; obtain ⟨b0, b1, b2⟩ := OrbK.row3 k2; have hr2 := (hb2.block _ (OrbK.box_lt HK1.out)).trans HK1.out; obtain ⟨x0, x1, x2⟩ := OrbK.row3 hr2; obtain ⟨y0, y1, y2⟩ := z3At hr2)
    have hbz := HB0.out.trans (hb2.mono HB0.out.size)
    clear hio hb2 b0 b1 b2 k2 hr2 HB0 HK0 HK1
    have hpost := orbB_zero (((hbz.setCell (p := ⟨w.heap.size + 1, 0, none⟩) (Nat.le_succ _) (.int .i64 0)).setCell (p := ⟨w.heap.size + 1, 1, none⟩) (Nat.le_succ _) (.slice none 0 0)).setCell (p := ⟨w.heap.size + 1, 2, none⟩) (Nat.le_succ _) (.slice none 0 0))
    go_wp2
    exact bodyPost_ret (v := .tuple #[.agg #[.int .i64 0, .slice none 0 0, .slice none 0 0], .bool false]) (by simp [results, Try.results42, go_sem, x0, x1, x2]) rfl (by rw [hkk]; exact hpost)
  | true =>
    rw [ho] at hio
    by_cases hz : z = 4
    · subst hz
      have hkk : widOk 4 l m = false := by simp [widOk]
      clear hl hmr hm k0 k1 hX ho hb0
      go_enter Try.func42, Try.ntmps42
      go_wp2_with (go_at_call 74; (with_reducible refine hio.mono ?_); rintro e w2 ⟨rfl, hb2⟩; have k2 := (hb2.block _ (OrbK.box_lt HK0.out)).trans HK0.out; clear b0 b1 b2; obtain ⟨b0, b1, b2⟩ := OrbK.row3 k2; have hr2 := (hb2.block _ (OrbK.box_lt HK1.out)).trans HK1.out; obtain ⟨x0, x1, x2⟩ := OrbK.row3 hr2; obtain ⟨y0, y1, y2⟩ := z3At hr2)
      have hbz := HB0.out.trans (hb2.mono HB0.out.size)
      clear hio hb2 b0 b1 b2 k2 hr2 HB0 HK0 HK1
      have hpost := orbB_zero (((hbz.setCell (p := ⟨w.heap.size + 1, 0, none⟩) (Nat.le_succ _) (.int .i64 0)).setCell (p := ⟨w.heap.size + 1, 1, none⟩) (Nat.le_succ _) (.slice none 0 0)).setCell (p := ⟨w.heap.size + 1, 2, none⟩) (Nat.le_succ _) (.slice none 0 0))
      go_wp2
      exact bodyPost_ret (v := .tuple #[.agg #[.int .i64 0, .slice none 0 0, .slice none 0 0], .bool false]) (by simp [results, Try.results42, go_sem, x0, x1, x2]) rfl (by rw [hkk]; exact hpost)
    · have hzb : (z == 4) = false := by simpa using hz
      have hkk : widOk z l m = true := by simp [widOk, ho, hzb]
      obtain ⟨hwz, hro⟩ := orb_rows ho
      have hz4 := widB_iff.1 hwz
      have hk3 := const_len (orb_const ho)
      obtain ⟨n, rfl⟩ : ∃ n : Nat, z = n := ⟨z.toNat, by omega⟩
      have hn3 : n ≤ 3 := by omega
      have hfm := hf.2
      have HEM : Hid (widM n l m = (allP (n + 1) l.length).filter (widG n m)) := Lib.hid (by unfold widM widL; rw [show ((n : Int).toNat) = n by omega])
      have HPL := Lib.hid (allP_pos (k := (l.length : Int)) (by omega) (n + 1))
      have HPM := Lib.hid (allP_4096 (k := (l.length : Int)) (by omega) (by omega) (show n + 1 ≤ 4 by omega))
      have HRW := Lib.hid (fun i (hi : i < (allP (n + 1) l.length).length) => (allP_row (k := (l.length : Int)) (by omega) hi).1)
      have HTH := Lib.hid (thoseL_filter (n + 1) l.length (widG n m))
      have HFF := Lib.hid (filter_fitR (k := (l.length : Int)) (by omega) (by omega) (show n + 1 ≤ 4 by omega) (widG n m))
      have hal := fun W => l6All_any l.length hk3 (n + 1) (by omega) ((n : Int) + 1) (by omega) W
      have hthose := fun (W : World) (L : List (List Int)) (h : FitR L) (hA : ConstAt W A c l) (B9 : Option Addr) (d9 : Nat) (hB : RowsIn W (.slice B9 L.length d9) L) => l6Those_any (n + 1) (by omega) l hk3 L h A B9 c d9 W hA hB
      rw [show (((n + 1 : Nat) : Int)) = (n : Int) + 1 by omega] at hthose
      have HL := Lib.hid hl
      have HMR := Lib.hid hmr
      have HKK := Lib.hid hkk
      clear hl hmr hm k0 k1 hX ho hb0 hro hwz hz4 hkk
      generalize thoseL (n + 1) l.length = TH at hthose HTH
      generalize allP (n + 1) l.length = P at *
      go_enter Try.func42, Try.ntmps42
      go_wp2_with (first
        | (go_at_call 74; (with_reducible refine hio.mono ?_); rintro e w2 ⟨rfl, hb2⟩; have k2 := (hb2.block _ (OrbK.box_lt HK0.out)).trans HK0.out; clear b0 b1 b2; have k2' := ((Below.heap_alloc w2 (.cells #[] 27) _ (OrbK.box_lt k2)).trans k2); obtain ⟨b0, b1, b2⟩ := OrbK.row3 k2'; obtain ⟨a0, a1, a2⟩ := OrbK.row3 k2)
        | (go_at_call 61; (with_reducible refine (hal _).mono ?_); rintro e w8 ⟨v8, S8, rfl, hS8, hS8b, hb8⟩; obtain ⟨g, off, cg, u, T, rfl, hleft, hTS, hgS⟩ := left_of hS8 HPL.out))
      clear b0 b1 b2 a0 a1 a2 k2' hio hal
      have hbz2 := HB0.out.trans (hb2.mono HB0.out.size)
      have KA := Lib.hid k2
      have KR := Lib.hid ((hb2.block _ (OrbK.box_lt HK1.out)).trans HK1.out)
      have HBW := Lib.hid hbz2
      have HLA := Lib.hid (HL.out.below hbz2)
      have HMA := Lib.hid (HMR.out.below hbz2)
      clear hb2 k2 hbz2 HB0 HK0 HK1 HL HMR
      have hbL : Below w2.heap.size w2 (w2.alloc (.cells #[] 27)) := (Below.refl _ _).alloc (Nat.le_refl _) _
      have hsL : (w2.alloc (.cells #[] 27)).heap.size = w2.heap.size + 1 := by simp
      rw [hsL] at hS8b
      have hg0 := hS8b g hgS
      have O8 := Lib.hid ((own_lit0 w2).keep hb8)
      have HB8 := Lib.hid (hbL.trans (hb8.mono hbL.size))
      have HTB : Hid (∀ j, ∀ b ∈ T j, w2.heap.size + 1 ≤ b ∧ b < w8.heap.size) := Lib.hid (fun j b hb => ⟨hS8b b (hTS j b hb), hS8.lt b (hTS j b hb)⟩)
      have HLT := Lib.hid hleft
      have HS8 : Hid (w2.heap.size ≤ w8.heap.size) := Lib.hid (by have := hb8.size; omega)
      clear hS8 hS8b hTS hgS hleft hbL hsL hb8
      go_wp2
      go_loopw [4, 6, 25] (fun v4 _ i wr => ∃ (j : Nat) (U2 : List Nat), j ≤ P.length ∧ i = .int .i64 j ∧ Hid (Own wr U2 v4 (rowsMem ((P.take j).filter (widG n m)))) ∧ Hid (Left wr P g off u T j) ∧ Hid (∀ b ∈ U2, w2.heap.size ≤ b ∧ b ≠ g ∧ ∀ q, j ≤ q → b ∉ T q) ∧ Below w2.heap.size w2 wr ∧ w8.heap.size ≤ wr.heap.size) (fun _ _ i _ => P.length - (intOf i).toNat)
      case atStart => exact ⟨0, _, Nat.zero_le _, rfl, O8, HLT, Lib.hid (fun b hb => by
        have e : b = w2.heap.size := by simpa using hb
        subst e
        exact ⟨Nat.le_refl _, by omega, fun q _ hq => by have := (HTB.out q _ hq).1; omega⟩), HB8.out, Nat.le_refl _⟩
      case round =>
        clear O8 HLT HB8
        obtain ⟨j, U2, hj, rfl, hU, hLf, hUb, hb, hsw⟩ := hrel
        have hPb : P.length ≤ 4096 := HPM.out
        by_cases hlt : j < P.length
        · obtain ⟨A3, c3, hu3, hA3, hc3, hO3⟩ := hLf.out.row hlt
          have hpl := HRW.out j hlt
          obtain ⟨b3, o3, rfl, hb3⟩ := hA3.1 (by omega)
          have hcap := own_cap hO3
          have hrl : (rwAt P j).length ≤ 4 := by omega
          have hrn : n ≤ (rwAt P j).length := by omega
          have hcn : n ≤ c3 := by omega
          have hfy := Lib.hid (fun h => filter_yes (f := widG n m) hlt h)
          have hfn := Lib.hid (fun h => filter_no (f := widG n m) hlt h)
          have hfl := filter_take_le P (widG n m) j
          have hdw : Below wr.heap.size wr wr.drew := ⟨rfl, rfl, rfl, Nat.le_refl _, fun _ _ => rfl⟩
          have hth := l6There_any B (some ⟨b3, o3, none⟩) d c3 m ((rwAt P j).take n) wr.drew (HMA.out.below (hb.trans (hdw.mono hb.size))) ((hA3.1.take n).below hdw) hfm (by rw [List.length_take]; omega)
          rw [show ((rwAt P j).take n).length = n by rw [List.length_take]; omega, show thereB m ((rwAt P j).take n) = widG n m (rwAt P j) from rfl] at hth
          have ka := (hb.block _ (OrbK.box_lt KA.out)).trans KA.out
          have HS : Hid (∀ W : World, Below wr.heap.size wr W → W.cell? ⟨w.heap.size, 0, none⟩ = some (.int .i64 (n : Int)) ∧ W.cell? ⟨w.heap.size, 2, none⟩ = some (.slice B m.length d)) :=
            Lib.hid (fun W h => by
              obtain ⟨q0, _, q2⟩ := OrbK.row3 ((h.block _ (OrbK.box_lt ka)).trans ka)
              exact ⟨q0, q2⟩)
          have HO3 := Lib.hid hO3
          have HDT := Lib.hid (fun b (h1 : b ∈ U2) => (hUb.out b h1).2.2 j (Nat.le_refl _))
          have HDJ := Lib.hid (fun q (h : j + 1 ≤ q) b (h1 : b ∈ T j) => hLf.out.dis j q (by omega) b h1)
          have HGJ := Lib.hid (hLf.out.hd j)
          have HTJ := Lib.hid (HTB.out j)
          have hgl := hLf.out.lt
          have hn0 : (0 : Int) ≤ (n : Int) := by omega
          have hn1 : (n : Int) ≤ (c3 : Int) := by omega
          clear hA3 hu3 hO3 ka hpl hb3 hcap
          generalize hFF : (P.take j).filter (widG n m) = FF at hU hfy hfn hfl
          generalize hpp : rwAt P j = p at hrl hrn hfy hfn hth hc3 HO3 ⊢
          clear hFF hpp
          cases hin : widG n m p with
          | true =>
            rw [hin] at hth
            have HNX := Lib.hid (hfy.out hin)
            clear hfy hfn
            obtain ⟨f0, f2⟩ := HS.out wr.drew hdw
            go_wp2
            go_region_held3 (fun w' => w'.cell? ⟨w.heap.size, 0, none⟩ = some (.int .i64 (n : Int)) ∧ w'.cell? ⟨w.heap.size, 2, none⟩ = some (.slice B m.length d))
              (with_reducible exact ⟨by assumption, by assumption⟩)
              (first
              | (go_at_call 85; (with_reducible refine hth.mono ?_); rintro e w5 ⟨rfl, hbb⟩; have hb5 := hdw.trans (hbb.mono hdw.size); obtain ⟨f5, f6⟩ := HS.out w5 hb5)
              | fail)
            clear f0 f2 f5 f6 hth hbb HS
            have hbx : Below w5.heap.size w5 (w5.alloc (.cells #[.slice (some ⟨b3, o3, none⟩) p.length c3] 27)) := (Below.refl _ _).alloc (Nat.le_refl _) _
            have hb56 := hb5.trans (hbx.mono hb5.size)
            have hU6 := hU.out.keep hb56
            have HO6 := Lib.hid (HO3.out.keep hb56)
            have hcell : (w5.alloc (.cells #[.slice (some ⟨b3, o3, none⟩) p.length c3] 27)).cell? ⟨w5.heap.size, 0, none⟩ = some (.slice (some ⟨b3, o3, none⟩) p.length c3) := by simp
            have HC := Lib.hid (one_cell hcell)
            have HLF := Lib.hid (hLf.out.below hb56)
            have HB6 := Lib.hid (hb.trans (hb56.mono hb.size))
            have hs5 := hb5.size
            have hdl : FF.length + 1 ≤ 16777216 := by omega
            clear hc3 hcell hbx hb56 hb5 hU hLf HO3 hb hdw
            go_wp2_with (at_builtin; refine wpList_append_rows rfl (.tmp 36) (.tmp 38) rfl _ U2 FF rfl hU6 ⟨w5.heap.size, 0, none⟩ _ p (T j) rfl HC.out HO6.out HDT.out hdl ?_)
            intro g2 cap2 U3 w7 hU7 hU3 hon
            have hs7 : w5.heap.size + 1 ≤ w7.heap.size := by have := hon.size; rw [World.size_alloc] at this; exact this
            have L7 := Lib.hid (HLF.out.next.only hon (fun h => (hUb.out _ h).2.1 rfl) (fun q hq _ b h1 h2 => (hUb.out b h2).2.2 q (by omega) h1))
            have hb7 := Only.below HB6.out hon HB6.out.size (fun b h => by have := (hUb.out _ h).1; omega)
            have B7 : Hid (∀ b ∈ U3, w2.heap.size ≤ b ∧ b ≠ g ∧ ∀ q, j + 1 ≤ q → b ∉ T q) := Lib.hid (fun b h => by
              rcases hU3 b h with h1 | h1 | h1
              · exact ⟨(hUb.out b h1).1, (hUb.out b h1).2.1, fun q hq => (hUb.out b h1).2.2 q (by omega)⟩
              · exact ⟨by have := (HTJ.out b h1).1; omega, fun e => HGJ.out (e ▸ h1), fun q hq => HDJ.out q hq b h1⟩
              · (try rw [World.size_alloc] at h1)
                have h8 := HS8.out
                exact ⟨by omega, by omega, fun q _ hq => by have := (HTB.out q b hq).2; omega⟩)
            rw [← HNX.out] at hU7
            have U7 := Lib.hid hU7
            clear hU7 hU3 hon HB6 HLF HO6 HC hUb HNX hU6
            go_wp2
            refine ⟨⟨j + 1, U3, by omega, by go_num, U7, L7, B7, hb7, by omega⟩, ?_⟩
            simp only [intOf]
            omega
          | false =>
            rw [hin] at hth
            have HNX := Lib.hid (hfn.out hin)
            clear hfy hfn
            obtain ⟨f0, f2⟩ := HS.out wr.drew hdw
            go_wp2
            go_region_held3 (fun w' => w'.cell? ⟨w.heap.size, 0, none⟩ = some (.int .i64 (n : Int)) ∧ w'.cell? ⟨w.heap.size, 2, none⟩ = some (.slice B m.length d))
              (with_reducible exact ⟨by assumption, by assumption⟩)
              (first
              | (go_at_call 85; (with_reducible refine hth.mono ?_); rintro e w5 ⟨rfl, hbb⟩; have hb5 := hdw.trans (hbb.mono hdw.size); obtain ⟨f5, f6⟩ := HS.out w5 hb5)
              | fail)
            clear f0 f2 f5 f6 hth hbb HS
            have U5 := hU.out.keep hb5
            rw [← HNX.out] at U5
            have U6 := Lib.hid U5
            have L5 := Lib.hid ((hLf.out.below hb5).next)
            have B5' : Hid (∀ b ∈ U2, w2.heap.size ≤ b ∧ b ≠ g ∧ ∀ q, j + 1 ≤ q → b ∉ T q) := Lib.hid (fun b h1 => ⟨(hUb.out b h1).1, (hUb.out b h1).2.1, fun q hq => (hUb.out b h1).2.2 q (by omega)⟩)
            have hb7 := hb.trans (hb5.mono hb.size)
            have hs7 : w8.heap.size ≤ w5.heap.size := Nat.le_trans hsw hb5.size
            clear hc3 hb5 hU hLf hUb HNX HO3 hb hsw U5 hdw
            go_wp2
            refine ⟨⟨j + 1, U2, by omega, by go_num, U6, L5, B5', hb7, hs7⟩, ?_⟩
            simp only [intOf]
            omega
        · have e : j = P.length := by omega
          subst e
          rw [List.take_length] at hU
          have hth := HTH.out
          have hff := HFF.out
          rw [← HEM.out] at hU hth hff
          generalize widM n l m = R at *
          have hU' := hU.out.at_
          obtain ⟨B9, d9, hB9⟩ := RowsIn.form (ls := R) hU'
          subst hB9
          have hso := hthose wr R hff (HLA.out.below hb) B9 d9 hU'
          rw [hth] at hso
          have hr := (hb.block _ (OrbK.box_lt KA.out)).trans KA.out
          have hq := (hb.block _ (OrbK.box_lt KR.out)).trans KR.out
          obtain ⟨b0, b1, b2⟩ := OrbK.row3 hr
          clear hU hU' hff hth HTH HFF hthose HPL HPM HRW HTB hUb hLf
          go_wp2_with (go_at_call 70; (with_reducible refine hso.mono ?_); rintro e w9 ⟨A4, c4, A7, c7, S9, rfl, hL9, hS9, hb9⟩; have hr9 := (hb9.block _ (OrbK.box_lt hq)).trans hq; obtain ⟨x0, x1, x2⟩ := OrbK.row3 hr9; obtain ⟨y0, y1, y2⟩ := z3At hr9)
          have hbF := HBW.out.trans ((hb.trans (hb9.mono hb.size)).mono HBW.out.size)
          have hpost := orbB_of true (orb_pass (r := w.heap.size + 1) hL9 hbF (Nat.le_succ _) (fun b h => by have h1 := hS9 b h; have h2 := OrbK.box_lt hq; omega))
          clear hso hL9 hS9 hb9 hr9 hb hr hq b0 b1 b2
          go_wp2
          exact bodyPost_ret (v := .tuple #[.agg #[.int .i64 ((n : Int) + 1), .slice A4 l.length c4, .slice A7 R.length c7], .bool true]) (by simp [results, Try.results42, go_sem, x0, x1, x2]) rfl (by rw [HKK.out]; exact hpost)
end Go.Proofs.Ytdbogjhkcnajkaa
end

