/-
  SetOf in the model, as a contract. The sizes of an orbit set that SetOf gives, and SetOf at a value that is a list of rows.
-/
import Derived.Test.YtdbogjhkcnajkaaKSetOf15
section
namespace Go.Proofs.Ytdbogjhkcnajkaa
open Go.RowKit Go.Sort
set_option linter.unusedVariables false

set_option maxRecDepth 100000 in
set_option maxHeartbeats 16000000 in
theorem setOf_spec (cs : List Int) (z : Int) (ts : List (List Int)) (hcl : cs.length ≤ 1048576) (hf : FitR ts) (htn : ts.length ≤ 1048576) (hts : ∀ i, i < ts.length → (rwAt ts i).length ≤ 1048576) (A B : Option Addr) (c d : Nat) (w : World) (hA : ConstAt w A c cs) (hB : RowsIn w (.slice B ts.length d) ts) :
    Calls Try.prog 21 #[.slice A cs.length c, .int .i64 z, .slice B ts.length d] w (OrbBOut (ozR (setOk cs z ts) z) (olR (setOk cs z ts) cs) (omR (setOk cs z ts) (setM cs z ts)) (setOk cs z ts) w) := by
  have hr0 := heap_alloc_new w (.cells #[.int .i64 0, .slice none 0 0, .slice none 0 0] 29)
  have hb0 : Below w.heap.size w (w.alloc (.cells #[.int .i64 0, .slice none 0 0, .slice none 0 0] 29)) := (Below.refl _ _).alloc (Nat.le_refl _) _
  have hco := l6Constants_any A c cs _ (hA.1.below hb0) (by omega)
  have hwi := fun W => l1In_any z 0 4 W
  have hwe : decide ((0 : Int) ≤ z ∧ z ≤ 4) = widB z := rfl
  rw [hwe] at hwi
  have HR0 := Lib.hid hr0
  have HB0 := Lib.hid hb0
  have HA := Lib.hid hA
  have HB := Lib.hid hB
  have HTS := Lib.hid hts
  have HOK : Hid (setOk cs z ts = ((constB cs && widB z) && ts.all (okT z))) := Lib.hid rfl
  have HPG := Lib.hid (fun (h : constB cs = true) => patsG_same (const_nodup h) ts)
  have HCL := Lib.hid (fun (h : constB cs = true) => const_len h)
  have HWD := Lib.hid (fun (h : widB z = true) => (show 0 ≤ z ∧ z ≤ 4 by simpa [widB] using h))
  have HGF := Lib.hid (patsG_fit cs hf)
  obtain ⟨G, hG⟩ : ∃ G : Bool, G = (constB cs && widB z) := ⟨_, rfl⟩
  have HG1 := Lib.hid hG
  clear hG hwe hA hB hr0 hb0 hts
  go_enter Try.func21, Try.ntmps21
  cases hc : constB cs <;> cases hw : widB z
  all_goals
    rw [hc] at hco
    rw [hw] at hwi
    have HC3 := Lib.hid hc
    have HW3 := Lib.hid hw
    clear hc hw
    go_wp2_with (first
      | (go_at_call 67; refine hco.mono ?_; rintro e w2 ⟨rfl, hb2⟩)
      | (go_at_call 60; refine (hwi _).mono ?_; rintro e w9 ⟨rfl, rfl⟩))
    have hbx : Below w2.heap.size w2 (w2.alloc (.cells #[] 27)) := (Below.refl _ _).alloc (Nat.le_refl _) _
    have hr2 := Lib.hid ((hb2.block w.heap.size (OrbK.box_lt HR0.out)).trans HR0.out)
    have hr3 := Lib.hid ((hbx.block w.heap.size (OrbK.box_lt hr2.out)).trans hr2.out)
    have hb3 := HB0.out.trans ((hb2.trans (hbx.mono hb2.size)).mono HB0.out.size)
    have ho3 := Lib.hid (own_lit0 w2)
    have hlt0 : w.heap.size < w2.heap.size := by have h := OrbK.box_lt hr2.out; exact h
    clear hco hwi hb2 hbx hr2 HR0 HB0
    go_loopw [8, 9, 11, 21] (fun v8 v9 _ i wr => ∃ (k : Nat) (U : List Nat), k ≤ ts.length ∧ i = .int .i64 k ∧ v8 = .bool (G && (ts.take k).all (okT z)) ∧ Hid (Own wr U v9 (rowsMem ((patsG cs ts).take k))) ∧ Hid (∀ b ∈ U, w.heap.size < b) ∧ Hid (wr.heap[w.heap.size]? = some (.cells #[.int .i64 0, .slice none 0 0, .slice none 0 0] 29 (0, 0))) ∧ Below w.heap.size w wr) (fun _ _ _ i _ => ts.length - (intOf i).toNat)
    case atStart => exact ⟨0, _, Nat.zero_le _, rfl, by rw [HG1.out, HC3.out, HW3.out]; rfl, ho3, Lib.hid (fun b hb => by simp at hb; omega), hr3, hb3⟩
    case round =>
      clear hr3 hb3 ho3
      obtain ⟨k, U, hk, rfl, rfl, hU, hUb, hr, hb⟩ := hrel
      by_cases hlt : k < ts.length
      · obtain ⟨b1, o1, rfl, hb1, hc1⟩ := (HB.out.below hb).get (by omega)
        obtain ⟨A1, c1, e1, hA1⟩ := hc1 k hlt
        have htl2 := HTS.out k hlt
        have htu := l6Tuple_any A1 c1 (rwAt ts k) wr hA1 (by omega)
        have HP := Lib.hid (fun (W : World) (h : Below wr.heap.size wr W) => l6Pattern_all A A1 c c1 cs (rwAt ts k) W ((HA.out.below hb).below h).1 HA.out.2 (hA1.below h) hcl htl2)
        have HNP := Lib.hid (patsG_next (cs := cs) hlt)
        have HN9 := Lib.hid (show (G && (ts.take (k + 1)).all (okT z)) = ((G && (ts.take k).all (okT z)) && okT z (rwAt ts k)) by rw [tup_next hlt, Bool.and_assoc])
        have HOT : Hid (okT z (rwAt ts k) = (tupB (rwAt ts k) && decide (((rwAt ts k).length : Int) = z))) := Lib.hid rfl
        have hlt0 : w.heap.size < wr.heap.size := OrbK.box_lt hr.out
        clear hc1 hA1
        generalize rwAt ts k = t at *
        generalize hgk : (G && (ts.take k).all (okT z)) = gk at *
        clear hgk
        cases gk with
        | false =>
          have HN8 : Hid ((G && (ts.take (k + 1)).all (okT z)) = false) := Lib.hid (by rw [HN9.out]; rfl)
          have hb5 : Below wr.heap.size wr wr := Below.refl _ _
          have hpt := HP.out _ hb5
          clear HN9 HOT htu
          go_wp2_with fail
          refine hpt.mono ?_
          rintro e w6 ⟨v6, rfl, ho6, hb6⟩
          obtain ⟨R6, hR6, hRb, hRe⟩ := own_intRow ho6
          obtain ⟨A6, c6, rfl, _⟩ := own_intSlice hR6
          have hbx : Below w6.heap.size w6 (w6.alloc (.cells #[.slice A6 (patG cs t).length c6] 27)) := (Below.refl _ _).alloc (Nat.le_refl _) _
          have hb67 := hb5.trans ((hb6.trans (hbx.mono hb6.size)).mono hb5.size)
          have hU7 := hU.out.keep hb67
          have hR7 := hR6.keep hbx
          have hcell : (w6.alloc (.cells #[.slice A6 (patG cs t).length c6] 27)).cell? ⟨w6.heap.size, 0, none⟩ = some (.slice A6 (patG cs t).length c6) := by simp
          have HC := Lib.hid (one_cell hcell)
          have HBW := Lib.hid (hb.trans (hb67.mono hb.size))
          have HBX := Lib.hid ((hb67.block w.heap.size (OrbK.box_lt hr.out)).trans hr.out)
          have hs5 := hb5.size
          have hs6 := hb6.size
          have hsw := hb.size
          have HDI : Hid (∀ b ∈ U, b ∉ R6) := Lib.hid (fun b h1 h2 => by have h3 := hU.out.lt b h1; have h4 := hRb b h2; omega)
          have hdl : ((patsG cs ts).take k).length + 1 ≤ 16777216 := by rw [List.length_take]; omega
          have HRB := Lib.hid hRb
          have HR7 := Lib.hid hR7
          generalize (patsG cs ts).take k = Q at hU7 hdl HNP
          generalize patG cs t = p at *
          clear hpt hRe hRb hR6 hbx hb67 hcell hR7 ho6 hr hU hb HP hb6
          go_wp2_with (at_builtin; refine wpList_append_rows rfl (.tmp 36) (.tmp 40) rfl _ U Q rfl hU7 ⟨w6.heap.size, 0, none⟩ _ p R6 rfl HC.out HR7.out HDI.out hdl ?_)
          intro g2 cap2 U3 w8 hU8 hU3 hon
          have hb8 := Only.below HBW.out hon HBW.out.size (fun b h => Nat.le_of_lt (hUb.out b h))
          have hr8 := Lib.hid ((hon.block w.heap.size (OrbK.box_lt HBX.out) (fun h => by have := hUb.out _ h; omega)).trans HBX.out)
          have hU3b : Hid (∀ b ∈ U3, w.heap.size < b) := Lib.hid (fun b h => by
            rcases hU3 b h with h1 | h1 | h1
            · exact hUb.out b h1
            · have := HRB.out b h1; have := hlt0; omega
            · have h2 : w6.heap.size ≤ b := by first | omega | (rw [World.size_alloc] at h1; omega)
              have := hlt0
              omega)
          rw [← HNP.out] at hU8
          have U8 := Lib.hid hU8
          clear hU8 hU3 hon HBW HBX HRB HR7 HDI HC HNP hU7 hb5
          go_wp2
          refine ⟨⟨k + 1, U3, by omega, by go_num, by rw [HN8.out], U8, hU3b, hr8, hb8⟩, ?_⟩
          simp only [intOf]
          omega
        | true =>
          cases htt : tupB t with
          | false =>
            have HN8 : Hid ((G && (ts.take (k + 1)).all (okT z)) = false) := Lib.hid (by rw [HN9.out, HOT.out, htt]; rfl)
            rw [htt] at htu
            clear HN9 HOT htt
            go_wp2_with (go_at_call 68; refine htu.mono ?_; rintro e w5 ⟨rfl, hb5⟩)
            have hpt := HP.out _ hb5
            clear htu e1
            refine hpt.mono ?_
            rintro e w6 ⟨v6, rfl, ho6, hb6⟩
            obtain ⟨R6, hR6, hRb, hRe⟩ := own_intRow ho6
            obtain ⟨A6, c6, rfl, _⟩ := own_intSlice hR6
            have hbx : Below w6.heap.size w6 (w6.alloc (.cells #[.slice A6 (patG cs t).length c6] 27)) := (Below.refl _ _).alloc (Nat.le_refl _) _
            have hb67 := hb5.trans ((hb6.trans (hbx.mono hb6.size)).mono hb5.size)
            have hU7 := hU.out.keep hb67
            have hR7 := hR6.keep hbx
            have hcell : (w6.alloc (.cells #[.slice A6 (patG cs t).length c6] 27)).cell? ⟨w6.heap.size, 0, none⟩ = some (.slice A6 (patG cs t).length c6) := by simp
            have HC := Lib.hid (one_cell hcell)
            have HBW := Lib.hid (hb.trans (hb67.mono hb.size))
            have HBX := Lib.hid ((hb67.block w.heap.size (OrbK.box_lt hr.out)).trans hr.out)
            have hs5 := hb5.size
            have hs6 := hb6.size
            have hsw := hb.size
            have HDI : Hid (∀ b ∈ U, b ∉ R6) := Lib.hid (fun b h1 h2 => by have h3 := hU.out.lt b h1; have h4 := hRb b h2; omega)
            have hdl : ((patsG cs ts).take k).length + 1 ≤ 16777216 := by rw [List.length_take]; omega
            have HRB := Lib.hid hRb
            have HR7 := Lib.hid hR7
            generalize (patsG cs ts).take k = Q at hU7 hdl HNP
            generalize patG cs t = p at *
            clear hpt hRe hRb hR6 hbx hb67 hcell hR7 ho6 hr hU hb HP hb6
            go_wp2_with (at_builtin; refine wpList_append_rows rfl (.tmp 36) (.tmp 40) rfl _ U Q rfl hU7 ⟨w6.heap.size, 0, none⟩ _ p R6 rfl HC.out HR7.out HDI.out hdl ?_)
            intro g2 cap2 U3 w8 hU8 hU3 hon
            have hb8 := Only.below HBW.out hon HBW.out.size (fun b h => Nat.le_of_lt (hUb.out b h))
            have hr8 := Lib.hid ((hon.block w.heap.size (OrbK.box_lt HBX.out) (fun h => by have := hUb.out _ h; omega)).trans HBX.out)
            have hU3b : Hid (∀ b ∈ U3, w.heap.size < b) := Lib.hid (fun b h => by
              rcases hU3 b h with h1 | h1 | h1
              · exact hUb.out b h1
              · have := HRB.out b h1; have := hlt0; omega
              · have h2 : w6.heap.size ≤ b := by first | omega | (rw [World.size_alloc] at h1; omega)
                have := hlt0
                omega)
            rw [← HNP.out] at hU8
            have U8 := Lib.hid hU8
            clear hU8 hU3 hon HBW HBX HRB HR7 HDI HC HNP hU7 hb5
            go_wp2
            refine ⟨⟨k + 1, U3, by omega, by go_num, by rw [HN8.out], U8, hU3b, hr8, hb8⟩, ?_⟩
            simp only [intOf]
            omega
          | true =>
            rw [htt] at htu
            by_cases hlen : (t.length : Int) = z
            · have HN8 : Hid ((G && (ts.take (k + 1)).all (okT z)) = true) := Lib.hid (by rw [HN9.out, HOT.out, htt, hlen]; simp)
              have hle : ((t.length : Int) == z) = true := by simp [hlen]
              clear HN9 HOT htt hlen
              go_wp2_with (go_at_call 68; refine htu.mono ?_; rintro e w5 ⟨rfl, hb5⟩)
              have hpt := HP.out _ hb5
              clear htu e1 hle
              refine hpt.mono ?_
              rintro e w6 ⟨v6, rfl, ho6, hb6⟩
              obtain ⟨R6, hR6, hRb, hRe⟩ := own_intRow ho6
              obtain ⟨A6, c6, rfl, _⟩ := own_intSlice hR6
              have hbx : Below w6.heap.size w6 (w6.alloc (.cells #[.slice A6 (patG cs t).length c6] 27)) := (Below.refl _ _).alloc (Nat.le_refl _) _
              have hb67 := hb5.trans ((hb6.trans (hbx.mono hb6.size)).mono hb5.size)
              have hU7 := hU.out.keep hb67
              have hR7 := hR6.keep hbx
              have hcell : (w6.alloc (.cells #[.slice A6 (patG cs t).length c6] 27)).cell? ⟨w6.heap.size, 0, none⟩ = some (.slice A6 (patG cs t).length c6) := by simp
              have HC := Lib.hid (one_cell hcell)
              have HBW := Lib.hid (hb.trans (hb67.mono hb.size))
              have HBX := Lib.hid ((hb67.block w.heap.size (OrbK.box_lt hr.out)).trans hr.out)
              have hs5 := hb5.size
              have hs6 := hb6.size
              have hsw := hb.size
              have HDI : Hid (∀ b ∈ U, b ∉ R6) := Lib.hid (fun b h1 h2 => by have h3 := hU.out.lt b h1; have h4 := hRb b h2; omega)
              have hdl : ((patsG cs ts).take k).length + 1 ≤ 16777216 := by rw [List.length_take]; omega
              have HRB := Lib.hid hRb
              have HR7 := Lib.hid hR7
              generalize (patsG cs ts).take k = Q at hU7 hdl HNP
              generalize patG cs t = p at *
              clear hpt hRe hRb hR6 hbx hb67 hcell hR7 ho6 hr hU hb HP hb6
              go_wp2_with (at_builtin; refine wpList_append_rows rfl (.tmp 36) (.tmp 40) rfl _ U Q rfl hU7 ⟨w6.heap.size, 0, none⟩ _ p R6 rfl HC.out HR7.out HDI.out hdl ?_)
              intro g2 cap2 U3 w8 hU8 hU3 hon
              have hb8 := Only.below HBW.out hon HBW.out.size (fun b h => Nat.le_of_lt (hUb.out b h))
              have hr8 := Lib.hid ((hon.block w.heap.size (OrbK.box_lt HBX.out) (fun h => by have := hUb.out _ h; omega)).trans HBX.out)
              have hU3b : Hid (∀ b ∈ U3, w.heap.size < b) := Lib.hid (fun b h => by
                rcases hU3 b h with h1 | h1 | h1
                · exact hUb.out b h1
                · have := HRB.out b h1; have := hlt0; omega
                · have h2 : w6.heap.size ≤ b := by first | omega | (rw [World.size_alloc] at h1; omega)
                  have := hlt0
                  omega)
              rw [← HNP.out] at hU8
              have U8 := Lib.hid hU8
              clear hU8 hU3 hon HBW HBX HRB HR7 HDI HC HNP hU7 hb5
              go_wp2
              refine ⟨⟨k + 1, U3, by omega, by go_num, by rw [HN8.out], U8, hU3b, hr8, hb8⟩, ?_⟩
              simp only [intOf]
              omega
            · have HN8 : Hid ((G && (ts.take (k + 1)).all (okT z)) = false) := Lib.hid (by rw [HN9.out, HOT.out, htt]; simp [hlen])
              have hle : ((t.length : Int) == z) = false := by simp [hlen]
              clear HN9 HOT htt hlen
              go_wp2_with (go_at_call 68; refine htu.mono ?_; rintro e w5 ⟨rfl, hb5⟩)
              have hpt := HP.out _ hb5
              clear htu e1 hle
              refine hpt.mono ?_
              rintro e w6 ⟨v6, rfl, ho6, hb6⟩
              obtain ⟨R6, hR6, hRb, hRe⟩ := own_intRow ho6
              obtain ⟨A6, c6, rfl, _⟩ := own_intSlice hR6
              have hbx : Below w6.heap.size w6 (w6.alloc (.cells #[.slice A6 (patG cs t).length c6] 27)) := (Below.refl _ _).alloc (Nat.le_refl _) _
              have hb67 := hb5.trans ((hb6.trans (hbx.mono hb6.size)).mono hb5.size)
              have hU7 := hU.out.keep hb67
              have hR7 := hR6.keep hbx
              have hcell : (w6.alloc (.cells #[.slice A6 (patG cs t).length c6] 27)).cell? ⟨w6.heap.size, 0, none⟩ = some (.slice A6 (patG cs t).length c6) := by simp
              have HC := Lib.hid (one_cell hcell)
              have HBW := Lib.hid (hb.trans (hb67.mono hb.size))
              have HBX := Lib.hid ((hb67.block w.heap.size (OrbK.box_lt hr.out)).trans hr.out)
              have hs5 := hb5.size
              have hs6 := hb6.size
              have hsw := hb.size
              have HDI : Hid (∀ b ∈ U, b ∉ R6) := Lib.hid (fun b h1 h2 => by have h3 := hU.out.lt b h1; have h4 := hRb b h2; omega)
              have hdl : ((patsG cs ts).take k).length + 1 ≤ 16777216 := by rw [List.length_take]; omega
              have HRB := Lib.hid hRb
              have HR7 := Lib.hid hR7
              generalize (patsG cs ts).take k = Q at hU7 hdl HNP
              generalize patG cs t = p at *
              clear hpt hRe hRb hR6 hbx hb67 hcell hR7 ho6 hr hU hb HP hb6
              go_wp2_with (at_builtin; refine wpList_append_rows rfl (.tmp 36) (.tmp 40) rfl _ U Q rfl hU7 ⟨w6.heap.size, 0, none⟩ _ p R6 rfl HC.out HR7.out HDI.out hdl ?_)
              intro g2 cap2 U3 w8 hU8 hU3 hon
              have hb8 := Only.below HBW.out hon HBW.out.size (fun b h => Nat.le_of_lt (hUb.out b h))
              have hr8 := Lib.hid ((hon.block w.heap.size (OrbK.box_lt HBX.out) (fun h => by have := hUb.out _ h; omega)).trans HBX.out)
              have hU3b : Hid (∀ b ∈ U3, w.heap.size < b) := Lib.hid (fun b h => by
                rcases hU3 b h with h1 | h1 | h1
                · exact hUb.out b h1
                · have := HRB.out b h1; have := hlt0; omega
                · have h2 : w6.heap.size ≤ b := by first | omega | (rw [World.size_alloc] at h1; omega)
                  have := hlt0
                  omega)
              rw [← HNP.out] at hU8
              have U8 := Lib.hid hU8
              clear hU8 hU3 hon HBW HBX HRB HR7 HDI HC HNP hU7 hb5
              go_wp2
              refine ⟨⟨k + 1, U3, by omega, by go_num, by rw [HN8.out], U8, hU3b, hr8, hb8⟩, ?_⟩
              simp only [intOf]
              omega
      · have e : k = ts.length := by omega
        subst e
        have HKK : Hid (setOk cs z ts = (G && ts.all (okT z))) := Lib.hid (by rw [HOK.out, HG1.out])
        rw [List.take_length]
        cases hga : (G && ts.all (okT z)) with
        | false =>
          have hkk : Hid (setOk cs z ts = false) := Lib.hid (by rw [HKK.out, hga])
          obtain ⟨x0, x1, x2⟩ := OrbK.row3 hr.out
          obtain ⟨y0, y1, y2⟩ := z3At hr.out
          clear hga hU hr HKK
          have hpost := orbB_zero (((hb.setCell (p := ⟨w.heap.size, 0, none⟩) (Nat.le_refl _) (.int .i64 0)).setCell (p := ⟨w.heap.size, 1, none⟩) (Nat.le_refl _) (.slice none 0 0)).setCell (p := ⟨w.heap.size, 2, none⟩) (Nat.le_refl _) (.slice none 0 0))
          go_wp2
          exact bodyPost_ret (v := .tuple #[.agg #[.int .i64 0, .slice none 0 0, .slice none 0 0], .bool false]) (by simp [results, Try.results21, go_sem, x0, x1, x2]) rfl (by rw [hkk.out]; exact hpost)
        | true =>
          have hkk : Hid (setOk cs z ts = true) := Lib.hid (by rw [HKK.out, hga])
          have hGt : G = true := by cases hG9 : G with
            | true => rfl
            | false => rw [hG9] at hga; cases hga
          have hcw : constB cs = true ∧ widB z = true := by
            have h := HG1.out
            rw [hGt] at h
            simpa using h.symm
          have hz := HWD.out hcw.2
          have hcs := HCL.out hcw.1
          obtain ⟨n, hn⟩ : ∃ n : Nat, z = n := ⟨z.toNat, by omega⟩
          have hU' := hU.out
          rw [← patsG_len cs ts, List.take_length, HPG.out hcw.1] at hU'
          have hgf := HGF.out
          rw [HPG.out hcw.1] at hgf
          have HM : Hid (setM cs z ts = thoseL n cs.length (patsL cs ts)) := Lib.hid (by unfold setM; rw [hn, show ((n : Int).toNat) = n by omega])
          generalize patsL cs ts = L at *
          obtain ⟨B9, d9, hB9⟩ := RowsIn.form (ls := L) hU'.at_
          subst hB9
          have hth := l6Those_any n (by omega) cs hcs L hgf A B9 c d9 wr (HA.out.below hb) hU'.at_
          rw [← HM.out, ← hn] at hth
          clear hga hU hU' hGt hcw HKK HM hn hgf
          generalize setM cs z ts = R at *
          go_wp2_with (go_at_call 70; refine hth.mono ?_; rintro e w5 ⟨A4, c4, A5, c5, S5, rfl, hL5, hS5, hb5⟩; have hr5 := (hb5.block w.heap.size (OrbK.box_lt hr.out)).trans hr.out; obtain ⟨x0, x1, x2⟩ := OrbK.row3 hr5; obtain ⟨y0, y1, y2⟩ := z3At hr5)
          have hpost := orbB_of true (orb_pass (r := w.heap.size) hL5 (hb.trans (hb5.mono hb.size)) (Nat.le_refl _) (fun b h => by have h1 := hS5 b h; have h2 := OrbK.box_lt hr.out; omega))
          clear hth hL5 hS5 hb5 hr5 hb hr
          go_wp2
          exact bodyPost_ret (v := .tuple #[.agg #[.int .i64 z, .slice A4 cs.length c4, .slice A5 R.length c5], .bool true]) (by simp [results, Try.results21, go_sem, x0, x1, x2]) rfl (by rw [hkk.out]; exact hpost)
end Go.Proofs.Ytdbogjhkcnajkaa
end

section
namespace Go.Proofs.Ytdbogjhkcnajkaa
open Go.RowKit Go.Sort
set_option linter.unusedVariables false

theorem sumR_filter (f : List Int → Bool) : ∀ ls : List (List Int), sumR (ls.filter f) ≤ sumR ls
  | [] => Nat.le_refl _
  | l :: r => by
    have h := sumR_filter f r
    cases hl : f l with
    | true => rw [List.filter_cons_of_pos hl, sumR, sumR]; omega
    | false => rw [List.filter_cons_of_neg (by simp [hl]), sumR]; omega
theorem thoseL_len {n : Nat} {k : Int} (hk : 0 ≤ k) (hk3 : k ≤ 3) (hn : n ≤ 4) (l : List (List Int)) : (thoseL n k l).length + sumR (thoseL n k l) ≤ 1048576 := by
  have h1 := allP_fit hk hk3 hn
  have h2 := List.length_filter_le (fun p => thereB l p) (allP n k)
  have h3 := sumR_filter (fun p => thereB l p) (allP n k)
  unfold thoseL
  omega
theorem setLen (cs : List Int) (z : Int) (ts : List (List Int)) : (olR (setOk cs z ts) cs).length ≤ 3 ∧ (omR (setOk cs z ts) (setM cs z ts)).length + sumR (omR (setOk cs z ts) (setM cs z ts)) ≤ 1048576 := by
  cases h : setOk cs z ts with
  | false => simp [olR, omR, sumR]
  | true =>
    simp only [setOk, Bool.and_eq_true] at h
    have h1 := const_len h.1.1
    have h2 : 0 ≤ z ∧ z ≤ 4 := by simpa [widB] using h.1.2
    exact ⟨h1, thoseL_len (by omega) (by omega) (by omega) _⟩
theorem setFit (cs : List Int) (z : Int) (ts : List (List Int)) : FitO (olR (setOk cs z ts) cs) (omR (setOk cs z ts) (setM cs z ts)) :=
  ⟨by have := setLen cs z ts; omega, fitR_of (by have := setLen cs z ts; omega)⟩
theorem setSum (cs : List Int) (z : Int) (ts : List (List Int)) : (olR (setOk cs z ts) cs).length + sumR (omR (setOk cs z ts) (setM cs z ts)) ≤ 8388608 := by have := setLen cs z ts; omega

theorem setOf_specV (cs : List Int) (z : Int) (ts : List (List Int)) (A : Option Addr) (c : Nat) (x : Value) (w : World) (hcl : cs.length ≤ 1048576) (hf : FitR ts) (htn : ts.length ≤ 1048576) (hts : ∀ i, i < ts.length → (rwAt ts i).length ≤ 1048576) (hA : IntsAt w A cs) (hz : A = none → c = 0) (hB : RowsIn w x ts) :
    Calls Try.prog 21 #[.slice A cs.length c, .int .i64 z, x] w (OrbBOut (ozR (setOk cs z ts) z) (olR (setOk cs z ts) cs) (omR (setOk cs z ts) (setM cs z ts)) (setOk cs z ts) w) := by
  obtain ⟨B, d, rfl⟩ := hB.form
  exact setOf_spec cs z ts hcl hf htn hts A B c d w ⟨hA, hz⟩ hB
theorem setOf_implV (cs : List Int) (z : Int) (ts : List (List Int)) (A : Option Addr) (c : Nat) (x : Value) (w : World) (hcl : cs.length ≤ 1048576) (hf : FitR ts) (hA : IntsAt w A cs) (hB : RowsIn w x ts) :
    Calls Try.prog 24 #[.slice A cs.length c, .int .i64 z, x] w (OrbBOut (ozR (setOk cs z ts) z) (olR (setOk cs z ts) cs) (omR (setOk cs z ts) (setM cs z ts)) (setOk cs z ts) w) := by
  obtain ⟨B, d, rfl⟩ := hB.form
  exact setOf_impl cs z ts hcl hf A B c d w hA hB
end Go.Proofs.Ytdbogjhkcnajkaa
end

