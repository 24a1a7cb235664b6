/-
  Tables of codes in the program: the patterns of a table, tables with one place more, all patterns, as contracts.
-/
import Derived.Test.YtdbogjhkcnajkaaKPatternsOf13
import Derived.Test.YtdbogjhkcnajkaaKPatternsOf14
import Derived.Test.YtdbogjhkcnajkaaKPatternsOf15
namespace Go.Proofs.Ytdbogjhkcnajkaa
open Go.RowKit Go.Sort
set_option linter.unusedVariables false

theorem run_index_tab (f : Nat → Bool) (k : Nat) (hk : k < 4096) (w : World) : (Instr.index 72 (.agg (tabV f)) (.int .i64 (k : Int))).run Try.prog w = .ok (.bool (f k)) w := by
  have h1 : (0 : Int) ≤ (k : Int) ∧ (k : Int) < 4096 := by omega
  have h2 := tabV_at f hk
  generalize tabV f = cs at *
  simp [Instr.index, run_underlying Try.underlying72, asIntOf, h1, go_sem]
  rw [if_pos hk, h2]
  rfl

/-- The first k numbers that a table has, as patterns. -/
def patsK (n : Nat) (f : Nat → Bool) (k : Nat) : List (List Int) := ((List.range k).filter f).map (decP n)
theorem patsK_yes {n : Nat} {f : Nat → Bool} {k : Nat} (h : f k = true) : patsK n f (k + 1) = patsK n f k ++ [decP n k] := by
  unfold patsK
  rw [List.range_succ, List.filter_append, List.map_append]
  simp [h]
theorem patsK_no {n : Nat} {f : Nat → Bool} {k : Nat} (h : f k = false) : patsK n f (k + 1) = patsK n f k := by
  unfold patsK
  rw [List.range_succ, List.filter_append, List.map_append]
  simp [h]
theorem patsK_len (n : Nat) (f : Nat → Bool) (k : Nat) : (patsK n f k).length ≤ k := by
  unfold patsK
  rw [List.length_map]
  have := List.length_filter_le f (List.range k)
  rw [List.length_range] at this
  exact this

set_option maxRecDepth 100000 in
set_option maxHeartbeats 4000000 in
theorem patterns_any (f : Nat → Bool) (n : Nat) (hn : n ≤ 4) (w : World) :
    Calls Try.prog 64 #[.agg (tabV f), .int .i64 (n : Int)] w (RowsOut (patsOf n f) w) := by
  have hb1 : Below w.heap.size w ((w.alloc (.cells (tabV f) 72)).alloc (.cells #[] 27)) := ((Below.refl _ _).alloc (Nat.le_refl _) _).alloc (by simp) _
  have ht0 : (w.alloc (.cells (tabV f) 72)).heap[w.heap.size]? = some (.cells (tabV f) 72 (0, 0)) := heap_alloc_new w _
  have ht1 := (Below.heap_alloc (w.alloc (.cells (tabV f) 72)) (.cells #[] 27) w.heap.size (by simp)).trans ht0
  have ho1 := own_lit0 (w.alloc (.cells (tabV f) 72))
  have hi : (Try.prog.info? 72).map (·.size) = some (tabV f).size := by rw [tabV_size]; exact tab_info
  have HX := Lib.hid (run_index_tab f)
  have HI := Lib.hid hi
  have HT := Lib.hid ht1
  have HO := Lib.hid ho1
  have HPE : Hid (patsOf n f = patsK n f 4096) := Lib.hid rfl
  clear ht0 ht1 ho1 hi
  generalize tabV f = cs at *
  go_enter Try.func64, Try.ntmps64
  go_wp2_with (refine wpList_load_row rfl 72 (.tmp 2) rfl w.heap.size rfl _ cs _ _ HT.out Try.underlying72 rfl HI.out ?_)
  go_loopw [5, 6, 7, 10] (fun v5 _ _ i wr => ∃ (k : Nat) (U : List Nat), k ≤ 4096 ∧ i = .int .i64 k ∧ Hid (Own wr U v5 (rowsMem (patsK n f k))) ∧ Hid (∀ b ∈ U, w.heap.size ≤ b) ∧ Below w.heap.size w wr) (fun _ _ _ i _ => 4096 - (intOf i).toNat)
  case atStart => exact ⟨0, [w.heap.size + 1], by omega, rfl, Lib.hid (by have h := HO.out; rw [World.size_alloc] at h; exact h), Lib.hid (fun b hb => by simp at hb; omega), hb1⟩
  case round =>
    clear HO HT HI
    obtain ⟨k, U, hk, rfl, hU, hUb, hb⟩ := hrel
    by_cases hlt : k < 4096
    · have hlti : (k : Int) < 4096 := by omega
      have hix := HX.out k hlt
      have hpl := patsK_len n f k
      have hfy := Lib.hid (fun h => patsK_yes (n := n) (f := f) (k := k) h)
      have hfn := Lib.hid (fun h => patsK_no (n := n) (f := f) (k := k) h)
      have hdc := decoded_any k n hn (by omega) wr
      generalize patsK n f k = Q at hU hpl hfy hfn
      cases hfk : f k with
      | true =>
        rw [hfk] at hix
        have HNX := Lib.hid (hfy.out hfk)
        clear hfy hfn hfk
        go_wp2_with fail
        refine hdc.mono ?_
        rintro e w5 ⟨v5, rfl, ho5, hb5⟩
        clear hdc hix
        obtain ⟨R, hR, hRb, hRe⟩ := own_intRow ho5
        obtain ⟨A5, c5, rfl, _⟩ := own_intSlice hR
        have hbx : Below w5.heap.size w5 (w5.alloc (.cells #[.slice A5 (decP n k).length c5] 27)) := (Below.refl _ _).alloc (Nat.le_refl _) _
        have hb56 := hb5.trans (hbx.mono hb5.size)
        have hU6 := hU.out.keep hb56
        have hR6 := hR.keep hbx
        have hcell : (w5.alloc (.cells #[.slice A5 (decP n k).length c5] 27)).cell? ⟨w5.heap.size, 0, none⟩ = some (.slice A5 (decP n k).length c5) := by simp
        have HC := Lib.hid (one_cell hcell)
        have hbw6 := hb.trans (hb56.mono hb.size)
        have hs5 := hb5.size
        have hsw := hb.size
        have hUl : ∀ b ∈ U, b < wr.heap.size := fun b h => hU.out.lt b h
        have hdis : ∀ b ∈ U, b ∉ R := fun b h1 h2 => by have := hUl b h1; have := hRb b h2; omega
        have hdl : Q.length + 1 ≤ 16777216 := by omega
        have HDI := Lib.hid hdis
        have HR6 := Lib.hid hR6
        have HRB := Lib.hid hRb
        have HBW := Lib.hid hbw6
        clear hRe hRb hR hbx hb56 hcell hdis hR6 hbw6 hUl hU hb ho5
        go_wp2_with (at_builtin; refine wpList_append_rows rfl (.tmp 15) (.tmp 19) rfl _ U Q rfl hU6 ⟨w5.heap.size, 0, none⟩ _ (decP n k) R rfl HC.out HR6.out HDI.out hdl ?_)
        intro g2 cap2 U3 w7 hU7 hU3 hon
        have hb7 := Only.below HBW.out hon HBW.out.size (fun b h => hUb.out b h)
        have hU3b : ∀ b ∈ U3, w.heap.size ≤ b := fun b h => by
          rcases hU3 b h with h1 | h1 | h1
          · exact hUb.out b h1
          · have := HRB.out b h1; omega
          · have h2 : w5.heap.size ≤ b := by first | omega | (rw [World.size_alloc] at h1; omega)
            omega
        rw [← HNX.out] at hU7
        have U7 := Lib.hid hU7
        have B7 := Lib.hid hU3b
        clear hU7 hU3b hU3 hon HBW HRB HR6 HDI HC HNX hU6 hb5
        go_wp2
        refine ⟨⟨k + 1, U3, by omega, by go_num, U7, B7, hb7⟩, ?_⟩
        simp only [intOf]
        omega
      | false =>
        rw [hfk] at hix
        have HNX := Lib.hid (hfn.out hfk)
        rw [← HNX.out] at hU
        clear hfy hfn hfk HNX hdc
        go_wp2
        refine ⟨⟨k + 1, U, by omega, by go_num, hU, hUb, hb⟩, ?_⟩
        simp only [intOf]
        omega
    · have e : k = 4096 := by omega
      subst e
      have hge : ¬ ((4096 : Nat) : Int) < 4096 := by omega
      have hpost : RowsOut (patsOf n f) w (.returned u5) wr := by rw [HPE.out]; exact ⟨_, U, rfl, hU.out, hUb.out, hb⟩
      clear hU hUb hb HPE
      go_wp2
      go_ret
      exact hpost

/-- A table with one place more behind each of its patterns. -/
def widF (n : Nat) (k : Int) (f : Nat → Bool) (c : Nat) : Bool := f (c / 8) && decide (((c % 8 : Nat) : Int) ≤ newN k (decP n (c / 8)))
/-- The same while the first j numbers have been seen. -/
def widT (n : Nat) (k : Int) (f : Nat → Bool) (j c : Nat) : Bool := widF n k f c && decide (c / 8 < j)
def widI (n : Nat) (k : Int) (f : Nat → Bool) (j m c : Nat) : Bool := widT n k f j c || (decide (c / 8 = j) && decide (c % 8 < m))
theorem widT_zero (n : Nat) (k : Int) (f : Nat → Bool) (c : Nat) : widT n k f 0 c = false := by simp [widT]
theorem widT_all (n : Nat) (k : Int) (f : Nat → Bool) {c : Nat} (h : c < 4096) : widT n k f 4096 c = widF n k f c := by
  have : c / 8 < 4096 := by omega
  simp [widT, this]
theorem widT_skip {n : Nat} {k : Int} {f : Nat → Bool} {j : Nat} (h : f j = false) (c : Nat) : widT n k f j c = widT n k f (j + 1) c := by
  unfold widT widF
  by_cases e : c / 8 = j
  · rw [e, h]; simp
  · rw [show decide (c / 8 < j) = decide (c / 8 < j + 1) from decide_eq_decide.2 (by omega)]
theorem widI_zero (n : Nat) (k : Int) (f : Nat → Bool) (j c : Nat) : widI n k f j 0 c = widT n k f j c := by simp [widI]
theorem widI_set {n : Nat} {k : Int} {f : Nat → Bool} {j m : Nat} (hm : m < 8) (c : Nat) : (if c = j * 8 + m then true else widI n k f j m c) = widI n k f j (m + 1) c := by
  unfold widI
  by_cases e : c = j * 8 + m
  · rw [if_pos e]
    have h1 : c / 8 = j := by omega
    have h2 : c % 8 < m + 1 := by omega
    simp [h1, h2]
  · rw [if_neg e]
    congr 1
    by_cases h : c / 8 = j
    · rw [show decide (c % 8 < m) = decide (c % 8 < m + 1) from decide_eq_decide.2 (by omega)]
    · simp [h]
theorem widI_all {n : Nat} {k : Int} {f : Nat → Bool} {j : Nat} (h : f j = true) {m : Nat} (hm : (m : Int) = newN k (decP n j) + 1) (c : Nat) : widI n k f j m c = widT n k f (j + 1) c := by
  unfold widI widT
  by_cases e : c / 8 = j
  · have e1 : widF n k f c = decide (c % 8 < m) := by
      unfold widF
      rw [e, h, Bool.true_and]
      exact decide_eq_decide.2 (by omega)
    rw [e1, e]
    simp
  · rw [show decide (c / 8 < j) = decide (c / 8 < j + 1) from decide_eq_decide.2 (by omega)]
    simp [e]

theorem tabOk_dec {n : Nat} {k : Int} (hk : 0 ≤ k) (hk3 : k ≤ 3) (hn : n ≤ 4) {f : Nat → Bool} (hf : tabOk n k f) {c : Nat} (hc : c < 4096) (h : f c = true) : decP n c ∈ allP n k ∧ c < 8 ^ n := by
  obtain ⟨p, hp, rfl⟩ := hf c hc h
  obtain ⟨h1, h2⟩ := dig_allP hk hk3 hn hp
  rw [decP_code h1 h2]
  exact ⟨hp, codeP_lt h1 h2⟩

/-- The patterns of a table with one place more. -/
theorem wid_tab {n : Nat} {k : Int} (hk : 0 ≤ k) (hk3 : k ≤ 3) (hn : n ≤ 3) {L : List (List Int)} (hL : ∀ p ∈ L, p ∈ allP n k) (c : Nat) : widF n k (tabOf L) c = tabOf (L.flatMap (extP k)) c := by
  rw [Bool.eq_iff_iff]
  unfold widF
  rw [Bool.and_eq_true, decide_eq_true_eq, tabOf_mem, tabOf_mem]
  constructor
  · rintro ⟨⟨p, hp, e⟩, h⟩
    obtain ⟨h1, h2⟩ := dig_allP hk hk3 (by omega) (hL p hp)
    rw [← e, decP_code h1 h2] at h
    refine ⟨p ++ [((c % 8 : Nat) : Int)], List.mem_flatMap.2 ⟨p, hp, ?_⟩, ?_⟩
    · unfold extP
      rw [List.mem_map]
      exact ⟨c % 8, List.mem_range.2 (by omega), rfl⟩
    · rw [codeP_snoc]
      omega
  · rintro ⟨q, hq, e⟩
    obtain ⟨p, hp, hx⟩ := List.mem_flatMap.1 hq
    obtain ⟨h1, h2⟩ := dig_allP hk hk3 (by omega) (hL p hp)
    have h3 := newN_pat ((mem_allP hk).1 (hL p hp)).2
    unfold extP at hx
    rw [List.mem_map] at hx
    obtain ⟨m, hm, rfl⟩ := hx
    rw [List.mem_range] at hm
    rw [codeP_snoc] at e
    have e1 : c / 8 = codeP p := by omega
    have e2 : c % 8 = m := by omega
    refine ⟨⟨p, hp, e1.symm⟩, ?_⟩
    rw [e1, decP_code h1 h2, e2]
    omega
set_option maxRecDepth 100000 in
set_option maxHeartbeats 4000000 in
theorem widened_any (f : Nat → Bool) (n k : Nat) (hn : n ≤ 3) (hk : k ≤ 3) (hf : tabOk n k f) (w : World) :
    Calls Try.prog 94 #[.agg (tabV f), .int .i64 (n : Int), .int .i64 (k : Int)] w (TabP (widF n k f) w) := by
  have hb1 : Below w.heap.size w (((w.alloc (.cells (tabV f) 72)).alloc (.cells Try.zeroCells72 72)).alloc (.cells Try.zeroCells72 72)) := (((Below.refl _ _).alloc (Nat.le_refl _) _).alloc (by simp) _).alloc (by simp; omega) _
  have ht0 : TabAt (((w.alloc (.cells (tabV f) 72)).alloc (.cells Try.zeroCells72 72)).alloc (.cells Try.zeroCells72 72)) w.heap.size f :=
    (Below.heap_alloc _ _ _ (by simp; omega)).trans ((Below.heap_alloc _ _ _ (by simp)).trans (heap_alloc_new w _))
  have hr0 : TabAt (((w.alloc (.cells (tabV f) 72)).alloc (.cells Try.zeroCells72 72)).alloc (.cells Try.zeroCells72 72)) (w.heap.size + 1) (fun _ => false) := by
    have h := heap_alloc_new (w.alloc (.cells (tabV f) 72)) (.cells Try.zeroCells72 72)
    rw [World.size_alloc, tab_zero] at h
    rw [tab_zero]
    exact (Below.heap_alloc _ _ _ (by simp)).trans h
  have hx0 : TabAt (((w.alloc (.cells (tabV f) 72)).alloc (.cells Try.zeroCells72 72)).alloc (.cells Try.zeroCells72 72)) (w.heap.size + 1 + 1) (widT n k f 0) := by
    have h := heap_alloc_new ((w.alloc (.cells (tabV f) 72)).alloc (.cells Try.zeroCells72 72)) (.cells Try.zeroCells72 72)
    rw [World.size_alloc, World.size_alloc, tab_zero] at h
    rw [tab_zero]
    exact TabAt.ext h fun i _ => (widT_zero n k f i).symm
  have hi : (Try.prog.info? 72).map (·.size) = some (tabV f).size := by rw [tabV_size]; exact tab_info
  have HX := Lib.hid (run_index_tab f)
  have HI := Lib.hid hi
  have HF := Lib.hid hf
  have HT := Lib.hid ht0
  have HR := Lib.hid hr0
  have HW := Lib.hid hx0
  clear ht0 hr0 hx0 hi hf
  unfold TabAt at HT
  generalize tabV f = cs at *
  go_enter Try.func94, Try.ntmps94
  go_wp2_with (refine wpList_load_row rfl 72 (.tmp 3) rfl w.heap.size rfl _ cs _ _ HT.out Try.underlying72 rfl HI.out ?_)
  generalize ((w.alloc (.cells cs 72)).alloc (.cells Try.zeroCells72 72)).alloc (.cells Try.zeroCells72 72) = w1 at HR HW hb1 ⊢
  clear HT HI
  go_loopw [8, 9, 10, 12] (fun _ _ _ i wr => ∃ (j : Nat), j ≤ 4096 ∧ i = .int .i64 j ∧ Hid (TabAt wr (w.heap.size + 1 + 1) (widT n k f j)) ∧ Hid (TabAt wr (w.heap.size + 1) (fun _ => false)) ∧ Below w.heap.size w wr) (fun _ _ _ i _ => 4096 - (intOf i).toNat)
  case atStart => exact ⟨0, by omega, rfl, HW, HR, hb1⟩
  case round =>
    clear HW HR hb1
    obtain ⟨j, hj, rfl, hT, hR, hb⟩ := hrel
    by_cases hlt : j < 4096
    · have hlti : (j : Int) < 4096 := by omega
      have hix := HX.out j hlt
      have hdc := decoded_any j n (by omega) (by omega) wr
      cases hfk : f j with
      | true =>
        rw [hfk] at hix
        obtain ⟨hmem, hj8⟩ := tabOk_dec (k := (k : Int)) (by omega) (by omega) (by omega) HF.out hlt hfk
        have hj512 : j < 512 := Nat.lt_of_lt_of_le hj8 (Nat.pow_le_pow_right (by decide) hn)
        obtain ⟨hpl, hpd⟩ := dig_allP (k := (k : Int)) (by omega) (by omega) (by omega) hmem
        have hnp := newN_pat ((mem_allP (k := (k : Int)) (by omega)).1 hmem).2
        have hng := newN_ge (k : Int) (decP n j)
        have HPD := Lib.hid hpd
        have hn6 : newN k (decP n j) ≤ 6 := by omega
        obtain ⟨M, hM⟩ : ∃ M : Nat, (M : Int) = newN k (decP n j) + 1 := ⟨(newN k (decP n j) + 1).toNat, by omega⟩
        have HEND := Lib.hid (fun c => widI_all (n := n) hfk hM c)
        have HM := Lib.hid hM
        have hM7 : M ≤ 7 := by omega
        have hl5 : (decP n j).length ≤ 1099511627776 := by omega
        have HZ := Lib.hid (hT.out.ext fun i _ => (widI_zero n k f j i).symm)
        clear hfk hmem hj8 hpl hpd hnp hT hng hn6 hM
        generalize hp : decP n j = p at *
        clear hp
        go_wp2_with fail
        refine hdc.mono ?_
        rintro e w5 ⟨v5, rfl, ho5, hb5⟩
        obtain ⟨A5, c5, rfl, hA5⟩ := own_intsAt ho5
        have hnn := newNumber_any A5 c5 p k w5 hA5 hl5 (by omega) (by omega) (fun i hi => by have := digP_at HPD.out hi; omega)
        have HZ5 := Lib.hid (HZ.out.below hb5)
        have HR5 := Lib.hid (hR.out.below hb5)
        have hb6 := hb.trans (hb5.mono hb.size)
        clear hdc hix ho5 hb5 hA5 HZ hR hb
        go_wp2_with fail
        refine hnn.mono ?_
        rintro e w6 ⟨rfl, rfl⟩
        have HMM : Hid (newN k p + 1 = (M : Int)) := Lib.hid HM.out.symm
        clear hnn HM
        generalize newN k p = mm at *
        have hmm1 : -1 ≤ mm ∧ mm ≤ 6 := by have := HMM.out; omega
        go_wp2
        go_loopw [10, 24] (fun _ i wr => ∃ (m : Nat), (m : Int) ≤ mm + 1 ∧ m ≤ M ∧ i = .int .i64 m ∧ Hid (TabAt wr (w.heap.size + 1 + 1) (widI n k f j m)) ∧ Hid (TabAt wr (w.heap.size + 1) (fun _ => false)) ∧ Below w.heap.size w wr) (fun _ i _ => M - (intOf i).toNat)
        case atStart => exact ⟨0, by omega, by omega, rfl, HZ5, HR5, hb6⟩
        case round =>
          clear HZ5 HR5 hb6
          obtain ⟨m, hm, hmM, rfl, hT, hR, hb⟩ := hrel
          by_cases hlm : (m : Int) < mm + 1
          · have hm8 : m < 8 := by omega
            have hmlt : m < M := by have := HMM.out; omega
            have hx : j * 8 + m < 4096 := by omega
            have hst := hT.out.set_ hx true
            have hst2 : Hid (TabAt (wr.setCell ⟨w.heap.size + 1 + 1, j * 8 + m, none⟩ (.bool true)) (w.heap.size + 1 + 1) (widI n k f j (m + 1))) := Lib.hid (hst.ext fun i _ => widI_set hm8 i)
            have hcl := hT.out.cell hx
            have hfz := hT.out.frozen (j * 8 + m)
            have hr2 : Hid (TabAt (wr.setCell ⟨w.heap.size + 1 + 1, j * 8 + m, none⟩ (.bool true)) (w.heap.size + 1) (fun _ => false)) := Lib.hid (hR.out.only ((Only.refl _ _).set (S := [w.heap.size + 1 + 1]) ⟨w.heap.size + 1 + 1, j * 8 + m, none⟩ _ (by simp)) (by simp))
            have hb2 : Below w.heap.size w (wr.setCell ⟨w.heap.size + 1 + 1, j * 8 + m, none⟩ (.bool true)) := hb.setCell (by simp; omega) _
            generalize widI n k f j m (j * 8 + m) = bb at hcl
            obtain ⟨x, hxe⟩ : ∃ x : Nat, x = j * 8 + m := ⟨_, rfl⟩
            rw [← hxe] at hst2 hcl hfz hr2 hb2 hx
            have hxi : (j : Int) * 8 + (m : Int) = (x : Int) := by omega
            clear hst hT hR hb
            have HXE := Lib.hid hxe
            clear hxe
            go_wp2
            refine ⟨⟨m + 1, by omega, by omega, by go_num, hst2, hr2, hb2⟩, ?_⟩
            simp only [intOf]
            omega
          · have e : m = M := by have := HMM.out; omega
            subst e
            have HT2 := Lib.hid (hT.out.ext fun i _ => HEND.out i)
            clear hT HEND
            go_wp2
            refine ⟨⟨j + 1, by omega, by go_num, HT2, hR, hb⟩, ?_⟩
            simp only [intOf]
            omega
      | false =>
        rw [hfk] at hix
        have HT2 := Lib.hid (hT.out.ext fun i _ => widT_skip hfk i)
        clear hfk hdc hT
        go_wp2
        refine ⟨⟨j + 1, by omega, by go_num, HT2, hR, hb⟩, ?_⟩
        simp only [intOf]
        omega
    · have e : j = 4096 := by omega
      subst e
      have hge : ¬ ((4096 : Nat) : Int) < 4096 := by omega
      have ht' := hT.out.ext fun i hi => widT_all n k f hi
      have hr' := hR.out
      unfold TabAt at ht' hr'
      have HI : Hid ((Try.prog.info? 72).map (·.size) = some (tabV (widF n k f)).size) := Lib.hid (by rw [tabV_size]; exact tab_info)
      have HT := Lib.hid ht'
      have HR := Lib.hid hr'
      have hres := Lib.hid (setRow_same (cs := tabV (widF n k f)) hr')
      have hbF := setRow_below hb (show w.heap.size ≤ w.heap.size + 1 by omega) (tabV (widF n k f))
      have HO := Lib.hid (tabV_one (widF n k f))
      have HSZ := Lib.hid (show (tabV fun _ => false).size = (tabV (widF n k f)).size by rw [tabV_size, tabV_size])
      clear ht' hr' hT hR hb
      generalize hds : tabV (widF n k f) = ds at *
      have HDS := Lib.hid hds
      clear hds
      go_wp2_with (first
        | (refine wpList_load_row rfl 72 (.tmp 7) rfl (w.heap.size + 1 + 1) rfl _ ds _ _ HT.out Try.underlying72 rfl HI.out ?_)
        | (refine wpList_store_row rfl 72 (.tmp 6) (.tmp 34) rfl (w.heap.size + 1) ds rfl rfl _ _ HR.out HI.out HSZ.out HO.out ?_))
      exact bodyPost_ret (v := .agg ds) (results_cell_row rfl _ _ _ _ _ _ _ rfl hres.out Try.underlying72 rfl HI.out) rfl ⟨by rw [HDS.out], hbF⟩
end Go.Proofs.Ytdbogjhkcnajkaa
