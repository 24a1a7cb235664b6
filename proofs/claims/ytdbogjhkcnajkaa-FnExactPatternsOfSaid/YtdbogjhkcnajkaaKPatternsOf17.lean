/-
  All patterns in the program and in the model: allCodes, PatternsOf, as contracts. PatternsOf in the program and in the model, as contracts.
-/
import Derived.Test.YtdbogjhkcnajkaaKPatternsOf16
import Derived.Test.YtdbogjhkcnajkaaKPatternsOf15
section
namespace Go.Proofs.Ytdbogjhkcnajkaa
open Go.RowKit Go.Sort
set_option linter.unusedVariables false

theorem one_dig : ∀ i, i < ([[]] : List (List Int)).length → (rwAt [[]] i).length ≤ 4 ∧ digP (rwAt [[]] i) := by
  intro i hi
  have h : i = 0 := by simpa using hi
  subst h
  exact ⟨by decide, fun n h => by simp [rwAt] at h⟩
theorem all_mem {n : Nat} {k : Int} : ∀ p ∈ allP n k, p ∈ allP n k := fun _ h => h

set_option maxRecDepth 100000 in
set_option maxHeartbeats 4000000 in
theorem allCodes_any (n k : Nat) (hn : n ≤ 4) (hk : k ≤ 3) (w : World) :
    Calls Try.prog 63 #[.int .i64 (n : Int), .int .i64 (k : Int)] w (TabP (tabOf (allP n k)) w) := by
  have hr0 : TabAt (w.alloc (.cells Try.zeroCells72 72)) w.heap.size (fun _ => false) := by
    rw [tab_zero]; exact heap_alloc_new w _
  have hb0 : Below w.heap.size w (w.alloc (.cells Try.zeroCells72 72)) := (Below.refl _ _).alloc (Nat.le_refl _) _
  have hb2 : Below (w.alloc (.cells Try.zeroCells72 72)).heap.size (w.alloc (.cells Try.zeroCells72 72)) (((w.alloc (.cells Try.zeroCells72 72)).alloc (.cells #[] 3)).alloc (.cells #[.slice (some ⟨w.heap.size + 1, 0, none⟩) 0 0] 27)) := ((Below.refl _ _).alloc (Nat.le_refl _) _).alloc (by simp) _
  have hrow : RowsIn (((w.alloc (.cells Try.zeroCells72 72)).alloc (.cells #[] 3)).alloc (.cells #[.slice (some ⟨w.heap.size + 1, 0, none⟩) 0 0] 27)) (.slice (some ⟨w.heap.size + 1 + 1, 0, none⟩) 1 1) [[]] := by
    have h := own_one (w.alloc (.cells Try.zeroCells72 72))
    rw [World.size_alloc] at h
    exact h.at_
  have hco := codesOf_any (some ⟨w.heap.size + 1 + 1, 0, none⟩) 1 [[]] _ hrow (by decide) one_dig
  have HR0 := Lib.hid (hr0.below hb2)
  have HB0 := Lib.hid (hb0.trans (hb2.mono hb0.size))
  clear hr0 hb0 hb2 hrow
  have HSZ : Hid ((((w.alloc (.cells Try.zeroCells72 72)).alloc (.cells #[] 3)).alloc (.cells #[.slice (some ⟨w.heap.size + 1, 0, none⟩) 0 0] 27)).heap.size = w.heap.size + 3) := Lib.hid (by simp)
  go_enter Try.func63, Try.ntmps63
  go_wp2_with fail
  refine hco.mono ?_
  rintro e w2 ⟨rfl, hb2⟩
  have hr2 := HR0.out.below hb2
  have hbw2 := HB0.out.trans (hb2.mono HB0.out.size)
  have hs2 : w.heap.size + 3 ≤ w2.heap.size := by have := hb2.size; rw [HSZ.out] at this; exact this
  have hbx : Below w2.heap.size w2 (w2.alloc (.cells Try.zeroCells72 72)) := (Below.refl _ _).alloc (Nat.le_refl _) _
  have hz3 : (w2.alloc (.cells Try.zeroCells72 72)).heap[w2.heap.size]? = some (.cells (tabV fun _ => false) 72 (0, 0)) := by rw [tab_zero]; exact heap_alloc_new w2 _
  have hr3 := hr2.below hbx
  have hr4 : TabAt ((w2.alloc (.cells Try.zeroCells72 72)).setRow w2.heap.size (tabV (tabOf [[]]))) w.heap.size (fun _ => false) :=
    ((setRow_below (Below.refl (w.heap.size + 1) _) (show w.heap.size + 1 ≤ w2.heap.size by omega) _).block w.heap.size (by omega)).trans hr3
  have ht4 : TabAt ((w2.alloc (.cells Try.zeroCells72 72)).setRow w2.heap.size (tabV (tabOf [[]]))) w2.heap.size (tabOf (allP 0 k)) := setRow_same hz3
  have hbw4 : Below w.heap.size w ((w2.alloc (.cells Try.zeroCells72 72)).setRow w2.heap.size (tabV (tabOf [[]]))) := setRow_below (hbw2.trans (hbx.mono hbw2.size)) (by omega) _
  have HI : Hid ((Try.prog.info? 72).map (·.size) = some (tabV (tabOf [[]])).size) := Lib.hid (by rw [tabV_size]; exact tab_info)
  have HO := Lib.hid (tabV_one (tabOf [[]]))
  have HSZ2 := Lib.hid (show (tabV fun _ => false).size = (tabV (tabOf [[]])).size by rw [tabV_size, tabV_size])
  have HZ3 := Lib.hid hz3
  have HR4 := Lib.hid hr4
  have HT4 := Lib.hid ht4
  have HBW := Lib.hid hbw4
  clear hco hr2 hbw2 hbx hz3 hr3 hr4 ht4 hbw4 HR0 HB0 HSZ hb2
  generalize tabV (tabOf [[]]) = c0 at *
  go_wp2_with (refine wpList_store_row rfl 72 (.tmp 5) (.tmp 9) rfl w2.heap.size c0 rfl rfl _ _ HZ3.out HI.out HSZ2.out HO.out ?_)
  generalize (w2.alloc (.cells Try.zeroCells72 72)).setRow w2.heap.size c0 = w4 at HR4 HT4 HBW ⊢
  clear HZ3 HI HSZ2 HO
  go_loopw [6, 11] (fun _ i wr => ∃ (j : Nat), j ≤ n ∧ i = .int .i64 j ∧ Hid (TabAt wr w2.heap.size (tabOf (allP j k))) ∧ Hid (TabAt wr w.heap.size (fun _ => false)) ∧ Hid (Below w.heap.size w wr)) (fun _ i _ => n - (intOf i).toNat)
  case atStart => exact ⟨0, by omega, rfl, HT4, HR4, HBW⟩
  case round =>
    clear HT4 HR4 HBW
    obtain ⟨j, hj, rfl, hT, hR, hb⟩ := hrel
    by_cases hlt : j < n
    · have hwd := widened_any (tabOf (allP j k)) j k (by omega) hk (tabOf_ok all_mem) wr
      have hT' := hT.out
      unfold TabAt at hT'
      have HT := Lib.hid hT'
      have HI : Hid ((Try.prog.info? 72).map (·.size) = some (tabV (tabOf (allP j k))).size) := Lib.hid (by rw [tabV_size]; exact tab_info)
      have HNX := Lib.hid (fun c (hc : c < 4096) => wid_tab (k := (k : Int)) (by omega) (by omega) (show j ≤ 3 by omega) all_mem c)
      clear hT hT'
      have HTV : Hid (tabV (widF j k (tabOf (allP j k))) = tabV (tabOf (allP (j + 1) k))) := Lib.hid (tabV_ext fun i hi => HNX.out i hi)
      unfold TabP at hwd
      rw [HTV.out] at hwd
      have HSZ2 := Lib.hid (show (tabV (tabOf (allP j k))).size = (tabV (tabOf (allP (j + 1) k))).size by rw [tabV_size, tabV_size])
      have HI2 : Hid ((Try.prog.info? 72).map (·.size) = some (tabV (tabOf (allP (j + 1) k))).size) := Lib.hid (by rw [tabV_size]; exact tab_info)
      have HO := Lib.hid (tabV_one (tabOf (allP (j + 1) k)))
      have HFIN := Lib.hid (fun (W : World) (old : Array Value) (h : W.heap[w2.heap.size]? = some (.cells old 72 (0, 0))) => show TabAt (W.setRow w2.heap.size (tabV (tabOf (allP (j + 1) k)))) w2.heap.size (tabOf (allP (j + 1) k)) from setRow_same h)
      clear HTV HNX
      generalize tabV (tabOf (allP j k)) = c1 at *
      generalize tabV (tabOf (allP (j + 1) k)) = c2 at *
      go_wp2_with (refine wpList_load_row rfl 72 (.tmp 5) rfl w2.heap.size rfl _ c1 _ _ HT.out Try.underlying72 rfl HI.out ?_)
      refine hwd.mono ?_
      rintro e w5 ⟨rfl, hb5⟩
      have ht5 := (hb5.block w2.heap.size (OrbK.box_lt HT.out)).trans HT.out
      have hr5 := hR.out.below hb5
      have hb6 := hb.out.trans (hb5.mono hb.out.size)
      have HT5 := Lib.hid ht5
      have HT6 := Lib.hid (HFIN.out w5 _ ht5)
      have HR6 : Hid (TabAt (w5.setRow w2.heap.size c2) w.heap.size (fun _ => false)) := Lib.hid (((setRow_below (Below.refl (w.heap.size + 1) w5) (show w.heap.size + 1 ≤ w2.heap.size by omega) _).block w.heap.size (by omega)).trans hr5)
      have HB6 := Lib.hid (setRow_below hb6 (show w.heap.size ≤ w2.heap.size by omega) c2)
      clear hwd HT hR hb hb5 ht5 hr5 hb6 HI HFIN
      go_wp2_with (refine wpList_store_row rfl 72 (.tmp 5) (.tmp 17) rfl w2.heap.size c2 rfl rfl _ _ HT5.out HI2.out HSZ2.out HO.out ?_)
      refine ⟨⟨j + 1, by omega, by go_num, HT6, HR6, HB6⟩, ?_⟩
      simp only [intOf]
      omega
    · have e : j = n := by omega
      subst e
      have ht' := hT.out
      have hr' := hR.out
      unfold TabAt at ht' hr'
      have HI : Hid ((Try.prog.info? 72).map (·.size) = some (tabV (tabOf (allP j k))).size) := Lib.hid (by rw [tabV_size]; exact tab_info)
      have HT := Lib.hid ht'
      have HR := Lib.hid hr'
      have hres := Lib.hid (setRow_same (cs := tabV (tabOf (allP j k))) hr')
      have hbF := setRow_below hb.out (Nat.le_refl _) (tabV (tabOf (allP j k)))
      have HO := Lib.hid (tabV_one (tabOf (allP j k)))
      have HSZ := Lib.hid (show (tabV fun _ => false).size = (tabV (tabOf (allP j k))).size by rw [tabV_size, tabV_size])
      clear ht' hr' hT hR hb
      generalize hds : tabV (tabOf (allP j k)) = ds at *
      have HDS := Lib.hid hds
      clear hds
      go_wp2_with (first
        | (refine wpList_load_row rfl 72 (.tmp 5) rfl w2.heap.size rfl _ ds _ _ HT.out Try.underlying72 rfl HI.out ?_)
        | (refine wpList_store_row rfl 72 (.tmp 4) (.tmp 19) rfl w.heap.size ds rfl rfl _ _ HR.out HI.out HSZ.out HO.out ?_))
      exact bodyPost_ret (v := .agg ds) (results_cell_row rfl _ _ _ _ _ _ _ rfl hres.out Try.underlying72 rfl HI.out) rfl ⟨by rw [HDS.out], hbF⟩
end Go.Proofs.Ytdbogjhkcnajkaa
end

section
namespace Go.Proofs.Ytdbogjhkcnajkaa
open Go.RowKit Go.Sort
set_option linter.unusedVariables false

def kB (k : Int) : Bool := decide (0 ≤ k ∧ k ≤ 3)
/-- The patterns of a width for k constants. -/
def patsR (z k : Int) : List (List Int) := if widB z && kB k then allP z.toNat k else []
theorem patsR_no1 {z k : Int} (h : widB z = false) : patsR z k = [] := by simp [patsR, h]
theorem patsR_no2 {z k : Int} (h : kB k = false) : patsR z k = [] := by simp [patsR, h]
theorem patsR_yes {z k : Int} (h : widB z = true) (h2 : kB k = true) : patsR z k = allP z.toNat k := by simp [patsR, h, h2]
theorem thoseL_all (n : Nat) (k : Int) : thoseL n k (allP n k) = allP n k := by
  unfold thoseL
  rw [List.filter_eq_self]
  exact fun p hp => there_mem.2 hp
theorem patsR_len (z k : Int) : (patsR z k).length + sumR (patsR z k) ≤ 1048576 := by
  unfold patsR
  split
  · rename_i h
    simp only [Bool.and_eq_true, widB, kB, decide_eq_true_eq] at h
    exact allP_fit (by omega) (by omega) (by omega)
  · simp [sumR]
theorem patsR_fit (z k : Int) : FitR (patsR z k) := fitR_of (by have := patsR_len z k; omega)
theorem patsR_sum (z k : Int) : sumR (patsR z k) ≤ 2097152 := by have := patsR_len z k; omega

theorem rowsOut_nil (w : World) : RowsOut [] w (.returned (.slice (some ⟨w.heap.size, 0, none⟩) 0 0)) (w.alloc (.cells #[] 27)) :=
  ⟨_, _, rfl, own_lit0 w, fun b h => by simp at h; omega, (Below.refl _ _).alloc (Nat.le_refl _) _⟩

set_option maxRecDepth 100000 in
set_option maxHeartbeats 2000000 in
theorem patternsOf_impl (z k : Int) (w : World) : Calls Try.prog 16 #[.int .i64 z, .int .i64 k] w (RowsOut (patsR z k) w) := by
  have hwi := isWidth_any z w
  cases hw : widB z with
  | false =>
    rw [hw] at hwi
    have hpost := rowsOut_nil w
    rw [patsR_no1 hw]
    clear hw
    go_enter Try.func16, Try.ntmps16
    go_wp2_with (go_at_call 62; refine hwi.mono ?_; rintro e w2 ⟨rfl, rfl⟩)
    go_ret
    exact hpost
  | true =>
    rw [hw] at hwi
    by_cases h0 : k < 0
    · have hk : kB k = false := by simp [kB]; omega
      have hpost := rowsOut_nil w
      rw [patsR_no2 hk]
      clear hw hk
      go_enter Try.func16, Try.ntmps16
      go_wp2_with (go_at_call 62; refine hwi.mono ?_; rintro e w2 ⟨rfl, rfl⟩)
      go_ret
      exact hpost
    · by_cases h3 : 3 < k
      · have hk : kB k = false := by simp [kB]; omega
        have hpost := rowsOut_nil w
        rw [patsR_no2 hk]
        clear hw hk
        go_enter Try.func16, Try.ntmps16
        go_wp2_with (go_at_call 62; refine hwi.mono ?_; rintro e w2 ⟨rfl, rfl⟩)
        go_ret
        exact hpost
      · have hk : kB k = true := by simp [kB]; omega
        have hz : 0 ≤ z ∧ z ≤ 4 := by simpa [widB] using hw
        rw [patsR_yes hw hk]
        obtain ⟨n, rfl⟩ : ∃ n : Nat, z = n := ⟨z.toNat, by omega⟩
        obtain ⟨q, rfl⟩ : ∃ q : Nat, k = q := ⟨k.toNat, by omega⟩
        have hac := allCodes_any n q (by omega) (by omega) w
        have hpa := fun W => patterns_any (tabOf (allP n q)) n (by omega) W
        have hE : patsOf n (tabOf (allP n q)) = allP n q := by rw [patsOf_tabOf (k := (q : Int)) (by omega) (by omega) (by omega) all_mem, thoseL_all]
        rw [hE] at hpa
        have hE2 : ((n : Int).toNat) = n := by omega
        rw [hE2]
        clear hw hk hz hE hE2
        generalize allP n q = P at *
        generalize tabOf P = f at *
        unfold TabP at hac
        generalize tabV f = cs at *
        go_enter Try.func16, Try.ntmps16
        go_wp2_with (first
          | (go_at_call 62; refine hwi.mono ?_; rintro e w2 ⟨rfl, rfl⟩)
          | (go_at_call 63; refine hac.mono ?_; rintro e w3 ⟨rfl, hb3⟩)
          | (go_at_call 64; refine (hpa _).mono ?_; rintro e w4 ⟨v4, S4, rfl, hO4, hS4, hb4⟩))
        have hpost : RowsOut P w (.returned v4) w4 := ⟨v4, S4, rfl, hO4, fun b hb => Nat.le_trans hb3.size (hS4 b hb), hb3.trans (hb4.mono hb3.size)⟩
        clear hac hpa hO4 hS4 hb4 hb3 hwi
        go_ret
        exact hpost

set_option maxRecDepth 100000 in
set_option maxHeartbeats 2000000 in
theorem patternsOf_spec (z k : Int) (w : World) : Calls Try.prog 15 #[.int .i64 z, .int .i64 k] w (RowsOut (patsR z k) w) := by
  have hwi := fun W => l1In_any z 0 4 W
  have hwe : decide ((0 : Int) ≤ z ∧ z ≤ 4) = widB z := rfl
  have hki := fun W => l1In_any k 0 3 W
  have hke : decide ((0 : Int) ≤ k ∧ k ≤ 3) = kB k := rfl
  rw [hwe] at hwi
  rw [hke] at hki
  cases hw : widB z with
  | false =>
    rw [hw] at hwi
    have hpost := rowsOut_nil w
    rw [patsR_no1 hw]
    clear hw hwe hke hki
    go_enter Try.func15, Try.ntmps15
    go_wp2_with (go_at_call 60; refine (hwi _).mono ?_; rintro e w2 ⟨rfl, rfl⟩)
    go_ret
    exact hpost
  | true =>
    rw [hw] at hwi
    cases hk : kB k with
    | false =>
      rw [hk] at hki
      have hpost := rowsOut_nil w
      rw [patsR_no2 hk]
      clear hw hk hwe hke
      go_enter Try.func15, Try.ntmps15
      go_wp2_with (first
        | (go_at_call 60; (with_reducible refine (hwi _).mono ?_); rintro e w2 ⟨rfl, rfl⟩)
        | (go_at_call 60; (with_reducible refine (hki _).mono ?_); rintro e w2 ⟨rfl, rfl⟩))
      go_ret
      exact hpost
    | true =>
      rw [hk] at hki
      have hz : 0 ≤ z ∧ z ≤ 4 := by simpa [widB] using hw
      have hk3 : 0 ≤ k ∧ k ≤ 3 := by simpa [kB] using hk
      rw [patsR_yes hw hk]
      obtain ⟨n, rfl⟩ : ∃ n : Nat, z = n := ⟨z.toNat, by omega⟩
      obtain ⟨q, rfl⟩ : ∃ q : Nat, k = q := ⟨k.toNat, by omega⟩
      have hal := l6All_any q (by omega) n (by omega) n rfl w
      have hE2 : ((n : Int).toNat) = n := by omega
      rw [hE2]
      clear hw hk hwe hke hz hk3 hE2
      generalize allP n q = P at *
      go_enter Try.func15, Try.ntmps15
      go_wp2_with (first
        | (go_at_call 60; (with_reducible refine (hwi _).mono ?_); rintro e w2 ⟨rfl, rfl⟩)
        | (go_at_call 60; (with_reducible refine (hki _).mono ?_); rintro e w2 ⟨rfl, rfl⟩)
        | (go_at_call 61; refine hal.mono ?_; rintro e w4 ⟨v4, S4, rfl, hO4, hS4, hb4⟩))
      have hpost : RowsOut P w (.returned v4) w4 := ⟨v4, S4, rfl, hO4, hS4, hb4⟩
      clear hal hwi hki hO4 hS4 hb4
      go_ret
      exact hpost
end Go.Proofs.Ytdbogjhkcnajkaa
end

