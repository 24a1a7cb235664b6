/-
  All atoms of a term in the program, as a contract.
-/
import Derived.Test.YtgbladfalicplaaAtT
import Derived.Test.YtgbladfalicplaaHolesI
import Derived.Test.YtgbladfalicplaaSorted
import Derived.Test.YtgbladfalicplaaTmVal
namespace Go.Proofs.Ytgbladfalicplaa
open Go.RowKit Go.Sort

theorem atomsIn_bound {F : List Tm} (h : ∀ y, y ∈ F → y.perm.length ≤ 1048576) (k : Nat) (h60 : F.length ≤ 60) : (atomsIn (F.take k)).length ≤ 62914620 := by
  have h1 := atomsIn_len (F.take k) (fun y hy => h y (List.mem_of_mem_take hy))
  have h2 : (F.take k).length ≤ 60 := by rw [List.length_take]; omega
  have h3 := Nat.mul_le_mul_right (1 + 1048576) h2
  omega
theorem only_own {n : Nat} {a wr w2 : World} {e e' : TypeId} {size m : Nat} {v : Value} {xs : List Value} {cs : Array Value} {z : Nat × Nat} (hon : Only [n + 1] a wr) (hn : a.heap[n]? = some (.cells cs e' z)) (ha : a.heap.size = n + 2) (ho : wr.ownsRow n e size v m xs) (hne : e ≠ e') (hg : wr.grownBy w2 v.ownBlock) : Only [n + 1] a w2 := by
  refine ⟨hg.os.trans hon.os, hg.tape.trans hon.tape, hg.output.trans hon.output, Nat.le_trans hon.size hg.size, fun k hk hm => ?_⟩
  refine (hg.block k (Nat.lt_of_lt_of_le hk hon.size) ?_).trans (hon.block k hk hm)
  intro e0
  have h1 := (ho.lt k e0.symm).1
  have hk2 : n = k := by simp at hm; omega
  subst hk2
  rcases ho.2 with ⟨rfl, _⟩ | ⟨g, cap, cur, rfl, _, hc, _⟩
  · simp [Value.ownBlock] at e0
  · simp only [Value.ownBlock, Option.some.injEq] at e0
    subst e0
    rw [hon.block _ hk hm, hn] at hc
    simp only [Option.some.injEq, Obj.cells.injEq] at hc
    exact hne hc.2.1.symm
theorem pairs_only {n : Nat} {a wr : World} {A : Option Addr} {l : List (Int × Int)} {e : TypeId} {z : Nat × Nat} (h : PairsAt a A l) (hon : Only [n + 1] a wr) (he : a.heap[n + 1]? = some (.cells #[] e z)) : PairsAt wr A l := by
  intro hl
  obtain ⟨b, off, rfl, hb, hc⟩ := h hl
  have hbn : b ≠ n + 1 := by
    rintro rfl
    have h1 := (hc 0 hl).1
    rw [cell_of_row a (n + 1) _ _ _ _ he] at h1
    simp at h1
  have hh := hon.block b hb (by simpa using hbn)
  exact ⟨b, off, rfl, Nat.lt_of_lt_of_le hb hon.size, fun i hi => ⟨(World.cell?_of_block (w := a) (a := ⟨b, off + i * 2, none⟩) hh).trans (hc i hi).1, (World.cell?_of_block (w := a) (a := ⟨b, off + i * 2 + 1, none⟩) hh).trans (hc i hi).2⟩⟩
theorem tm_mem {F : List Tm} {k : Nat} (h : k < F.length) : tmAt F k ∈ F := by rw [tmAt_get F k h]; exact List.getElem_mem h

set_option maxRecDepth 100000 in
set_option maxHeartbeats 4000000 in
theorem atoms_impl (t : Tm) (x : Value) (w : World) (hx : TmIn w x t) (hcc : cntT t ≤ 1048576) :
    Calls Try.prog 37 #[x] w (InsPost w.heap.size (atomsT t) w) := by
  obtain ⟨i0, hi0, hz0, hz1, hz2⟩ := info_parts int_infoH
  have HS := Lib.hid hz2
  clear hz2
  have hwi := fun W hW => found_any t x W hW (fit_of t hcc)
  obtain ⟨A, c, kv, rfl, hp, hk⟩ := hx
  obtain ⟨B, d, rfl⟩ := hk.form
  have hb0 : Below w.heap.size w ((w.alloc (.cells #[.int .i64 t.op, .int .i64 t.num, .slice A t.perm.length c, .slice B t.kids.length d] 31)).alloc (.cells #[] 3)) := ((Below.refl _ _).alloc (Nat.le_refl _) _).alloc (by simp) _
  have hw0 := hwi _ ⟨A, c, _, rfl, hp.below hb0, hk.below hb0⟩
  have ho0 : ((w.alloc (.cells #[.int .i64 t.op, .int .i64 t.num, .slice A t.perm.length c, .slice B t.kids.length d] 31)).alloc (.cells #[] 3)).ownsRow w.heap.size 3 1 (.slice (some ⟨w.heap.size + 1, 0, none⟩) 0 0) 0 [] := by
    have h9 := World.ownsRow_lit (base := (w.alloc (.cells #[.int .i64 t.op, .int .i64 t.num, .slice A t.perm.length c, .slice B t.kids.length d] 31)).heap.size) (e := 3) (size := 1) (w.alloc (.cells #[.int .i64 t.op, .int .i64 t.num, .slice A t.perm.length c, .slice B t.kids.length d] 31)) #[] 0 (Nat.le_refl _) (by decide) rfl
    rw [World.size_alloc] at h9
    exact own_le h9 (by omega)
  clear hwi
  go_enter Try.func37, Try.ntmps37
  go_wp2_with fail
  refine hw0.mono ?_
  rintro e w1 ⟨hb1, F, FA, fc, fb, xs, rfl, h60, hmem, hoF, hL⟩
  have hs1 := hb0.trans (hb1.mono hb0.size)
  have ho1 := own_below ho0 hb1
  have hoF1 := own_le hoF (show w.heap.size ≤ _ by simp; omega)
  have hat : Hid (insAll [] (atomsIn F) = atomsT t) := atomsT_same hmem
  have hon1 : Only [w.heap.size + 1] ((w.alloc (.cells #[.int .i64 t.op, .int .i64 t.num, .slice A t.perm.length c, .slice B t.kids.length d] 31)).alloc (.cells #[] 3)) w1 := only_of_below hb1
  have HSZ : Hid (((w.alloc (.cells #[.int .i64 t.op, .int .i64 t.num, .slice A t.perm.length c, .slice B t.kids.length d] 31)).alloc (.cells #[] 3)).heap.size = w.heap.size + 2) := by show ((w.alloc (.cells #[.int .i64 t.op, .int .i64 t.num, .slice A t.perm.length c, .slice B t.kids.length d] 31)).alloc (.cells #[] 3)).heap.size = w.heap.size + 2; simp
  have HBX := Lib.hid ((((Below.refl (w.alloc (.cells #[.int .i64 t.op, .int .i64 t.num, .slice A t.perm.length c, .slice B t.kids.length d] 31)).heap.size (w.alloc (.cells #[.int .i64 t.op, .int .i64 t.num, .slice A t.perm.length c, .slice B t.kids.length d] 31))).alloc (Nat.le_refl _) (.cells #[] 3)).block w.heap.size (by simp)).trans (heap_alloc_new w _))
  have HE : Hid (((w.alloc (.cells #[.int .i64 t.op, .int .i64 t.num, .slice A t.perm.length c, .slice B t.kids.length d] 31)).alloc (.cells #[] 3)).heap[w.heap.size + 1]? = some (.cells #[] 3)) := by
    have h9 := heap_alloc_new (w.alloc (.cells #[.int .i64 t.op, .int .i64 t.num, .slice A t.perm.length c, .slice B t.kids.length d] 31)) (.cells #[] 3)
    rw [World.size_alloc] at h9
    exact h9
  have HP : Hid (∀ y, y ∈ F → y.perm.length ≤ 1048576) := Lib.hid (fun y hy => Nat.le_trans (node_perm t y ((hmem y).1 hy).2) hcc)
  clear hw0 hb0 hb1 ho0 hoF hmem hp hk
  go_wp2
  go_loopw [3, 16] (fun v i wr => ∃ k g cap : Nat, k ≤ F.length ∧ i = .int .i64 k ∧ v = .slice (some ⟨g, 0, none⟩) (atomsIn (F.take k)).length cap ∧
    wr.ownsRow w.heap.size 3 1 v (atomsIn (F.take k)).length (icells (atomsIn (F.take k))) ∧ wr.ownsRow w.heap.size 31 4 (.slice FA F.length fc) F.length xs ∧ Below w.heap.size w wr ∧ Only [w.heap.size + 1] ((w.alloc (.cells #[.int .i64 t.op, .int .i64 t.num, .slice A t.perm.length c, .slice B t.kids.length d] 31)).alloc (.cells #[] 3)) wr) (fun _ i _ => F.length - (intOf i).toNat)
  case atStart => exact ⟨0, w.heap.size + 1, 0, Nat.zero_le _, rfl, rfl, ho1, hoF1, hs1, hon1⟩
  case round =>
    clear ho1 hoF1 hs1 hon1
    obtain ⟨k, g, cap, hk, rfl, rfl, ho, hoF, hb, hon⟩ := hrel
    have hg := own_at_least ho
    have htl := atomsIn_bound HP.out k h60
    by_cases hlt : k < F.length
    · obtain ⟨A1, c1, B1, d1, e0, e1, e2, e3, hpa0, _⟩ := hL.term hlt
      have hpa := pairs_only hpa0 hon HE.out
      have hxl := hoF.1
      obtain ⟨gF, fcap, hfv⟩ := own_row_form hoF (by omega)
      simp only [Value.slice.injEq] at hfv
      obtain ⟨rfl, _, rfl⟩ := hfv
      have g0 := (hoF.cellAt (k * 4) (by omega)).trans e0
      have g1 := (hoF.cellAt (k * 4 + 1) (by omega)).trans e1
      have g2 := (hoF.cellAt (k * 4 + 2) (by omega)).trans e2
      have g3 := (hoF.cellAt (k * 4 + 3) (by omega)).trans e3
      have hnx : ∀ {E : List Int}, atIn (tmAt F k) = E → Hid (atomsIn (F.take (k + 1)) = atomsIn (F.take k) ++ E) := fun h => Lib.hid (h ▸ atomsIn_next hlt)
      have hpl := HP.out _ (tm_mem hlt)
      generalize tmAt F k = u at g0 g1 g2 g3 hnx hpl hpa
      generalize atomsIn (F.take k) = X at ho hnx htl ⊢
      have hb2 := hb.alloc hb.size (.cells #[.int .i64 u.op, .int .i64 u.num, .slice A1 u.perm.length c1, .slice B1 u.kids.length d1] 31)
      have ho2 := ho.alloc (.cells #[.int .i64 u.op, .int .i64 u.num, .slice A1 u.perm.length c1, .slice B1 u.kids.length d1] 31)
      have hoF2 := hoF.alloc (.cells #[.int .i64 u.op, .int .i64 u.num, .slice A1 u.perm.length c1, .slice B1 u.kids.length d1] 31)
      have hsz := hb.size
      have hon2 := hon.trans (only_of_below (S := [w.heap.size + 1]) ((Below.refl wr.heap.size wr).alloc (Nat.le_refl _) (.cells #[.int .i64 u.op, .int .i64 u.num, .slice A1 u.perm.length c1, .slice B1 u.kids.length d1] 31)))
      clear hon
      by_cases hop1 : u.op = 1
      · have hnext := hnx (by rw [atIn, if_pos (.inl hop1)])
        clear hnx e0 e1 e2 e3 hpa
        generalize u.op = o at g0 hop1 hb2 ho2 hoF2 hon2
        subst hop1
        have ho3 := ho2.alloc (.cells #[.int .i64 u.num] 3)
        have hoF3 := hoF2.alloc (.cells #[.int .i64 u.num] 3)
        have hb3 := hb2.alloc (Nat.le_trans hb.size (by simp)) (.cells #[.int .i64 u.num] 3)
        have hon3 := hon2.trans (only_of_below (S := [w.heap.size + 1]) ((Below.refl (wr.alloc (.cells #[.int .i64 1, .int .i64 u.num, .slice A1 u.perm.length c1, .slice B1 u.kids.length d1] 31)).heap.size (wr.alloc (.cells #[.int .i64 1, .int .i64 u.num, .slice A1 u.perm.length c1, .slice B1 u.kids.length d1] 31))).alloc (Nat.le_refl _) (.cells #[.int .i64 u.num] 3)))
        have hcell : ((wr.alloc (.cells #[.int .i64 1, .int .i64 u.num, .slice A1 u.perm.length c1, .slice B1 u.kids.length d1] 31)).alloc (.cells #[.int .i64 u.num] 3)).cell? ⟨wr.heap.size + 1, 0, none⟩ = some (.int .i64 u.num) := by simp
        have HC := Lib.hid (one_cell hcell)
        clear hcell ho ho2 hoF hoF2 hb hb2 hxl hon2
        go_wp2_with (at_builtin; refine wpList_append_own _ rfl (.tmp 25) (.tmp 28) 45 rfl w.heap.size 3 i0 (.int .i64 0) 1 8 Try.underlying45 hi0 hz0 hz1 HS.out rfl (by decide) _ X.length _ rfl ho3 ⟨wr.heap.size + 1, 0, none⟩ 1 1 [.int .i64 u.num] rfl rfl HC.out (int_one _) ?c3 ?c4 ?c5 ?_)
        case c3 => unfold maxLen; omega
        case c4 => omega
        case c5 => simp; omega
        intro v2 w2 ho4 hg4 _
        have hoF4 := own_other hoF3 ho3 (by decide) hg4
        have hb4 : Below w.heap.size w w2 := below_own hb3 ho3 (Nat.le_refl _) (by simp; omega) hg4
        have hon4 := only_own hon3 HBX.out HSZ.out ho3 (by decide) hg4
        obtain ⟨g6, cap6, rfl⟩ := own_row_form ho4 (by omega)
        have ho5 : w2.ownsRow w.heap.size 3 1 (.slice (some ⟨g6, 0, none⟩) (X.length + 1) cap6) (X ++ [u.num]).length (icells (X ++ [u.num])) := by
          rw [icells_append, List.length_append]
          exact ho4
        have hlen : Hid (X.length + 1 = (X ++ [u.num]).length) := by show X.length + 1 = (X ++ [u.num]).length; simp
        rw [hlen.out] at ho5 ⊢
        rw [← hnext.out] at ho5 ⊢
        clear ho3 ho4 hg4 hoF3 hb3 HC hnext hlen g0 g1 g2 g3 hon3
        go_wp2
        refine ⟨⟨k + 1, g6, cap6, by omega, by go_num, rfl, ho5, hoF4, hb4, hon4⟩, ?_⟩
        simp only [intOf]
        omega
      · by_cases hop3 : u.op = 3
        · have hnext := hnx (by rw [atIn, if_pos (.inr hop3)])
          clear hop1 hnx e0 e1 e2 e3 hpa
          generalize u.op = o at g0 hop3 hb2 ho2 hoF2 hon2
          subst hop3
          have ho3 := ho2.alloc (.cells #[.int .i64 u.num] 3)
          have hoF3 := hoF2.alloc (.cells #[.int .i64 u.num] 3)
          have hb3 := hb2.alloc (Nat.le_trans hb.size (by simp)) (.cells #[.int .i64 u.num] 3)
          have hon3 := hon2.trans (only_of_below (S := [w.heap.size + 1]) ((Below.refl (wr.alloc (.cells #[.int .i64 3, .int .i64 u.num, .slice A1 u.perm.length c1, .slice B1 u.kids.length d1] 31)).heap.size (wr.alloc (.cells #[.int .i64 3, .int .i64 u.num, .slice A1 u.perm.length c1, .slice B1 u.kids.length d1] 31))).alloc (Nat.le_refl _) (.cells #[.int .i64 u.num] 3)))
          have hcell : ((wr.alloc (.cells #[.int .i64 3, .int .i64 u.num, .slice A1 u.perm.length c1, .slice B1 u.kids.length d1] 31)).alloc (.cells #[.int .i64 u.num] 3)).cell? ⟨wr.heap.size + 1, 0, none⟩ = some (.int .i64 u.num) := by simp
          have HC := Lib.hid (one_cell hcell)
          clear hcell ho ho2 hoF hoF2 hb hb2 hxl hon2
          go_wp2_with (at_builtin; refine wpList_append_own _ rfl (.tmp 25) (.tmp 28) 45 rfl w.heap.size 3 i0 (.int .i64 0) 1 8 Try.underlying45 hi0 hz0 hz1 HS.out rfl (by decide) _ X.length _ rfl ho3 ⟨wr.heap.size + 1, 0, none⟩ 1 1 [.int .i64 u.num] rfl rfl HC.out (int_one _) ?c3 ?c4 ?c5 ?_)
          case c3 => unfold maxLen; omega
          case c4 => omega
          case c5 => simp; omega
          intro v2 w2 ho4 hg4 _
          have hoF4 := own_other hoF3 ho3 (by decide) hg4
          have hb4 : Below w.heap.size w w2 := below_own hb3 ho3 (Nat.le_refl _) (by simp; omega) hg4
          have hon4 := only_own hon3 HBX.out HSZ.out ho3 (by decide) hg4
          obtain ⟨g6, cap6, rfl⟩ := own_row_form ho4 (by omega)
          have ho5 : w2.ownsRow w.heap.size 3 1 (.slice (some ⟨g6, 0, none⟩) (X.length + 1) cap6) (X ++ [u.num]).length (icells (X ++ [u.num])) := by
            rw [icells_append, List.length_append]
            exact ho4
          have hlen : Hid (X.length + 1 = (X ++ [u.num]).length) := by show X.length + 1 = (X ++ [u.num]).length; simp
          rw [hlen.out] at ho5 ⊢
          rw [← hnext.out] at ho5 ⊢
          clear ho3 ho4 hg4 hoF3 hb3 HC hnext hlen g0 g1 g2 g3 hon3
          go_wp2
          refine ⟨⟨k + 1, g6, cap6, by omega, by go_num, rfl, ho5, hoF4, hb4, hon4⟩, ?_⟩
          simp only [intOf]
          omega
        · by_cases hop4 : u.op = 4
          · have hnext := hnx (by rw [atIn, if_neg (by omega), if_pos hop4])
            clear hop1 hop3 hnx e0 e1 e2 e3
            generalize u.op = o at g0 hop4 hb2 ho2 hoF2 hon2
            subst hop4
            have hbx : Below wr.heap.size wr (wr.alloc (.cells #[.int .i64 4, .int .i64 u.num, .slice A1 u.perm.length c1, .slice B1 u.kids.length d1] 31)) := (Below.refl _ _).alloc (Nat.le_refl _) _
            have hmi := movedInS_any A1 c1 u.perm (wr.alloc (.cells #[.int .i64 4, .int .i64 u.num, .slice A1 u.perm.length c1, .slice B1 u.kids.length d1] 31)) (hpa.below (hbx)) (by omega)
            have hfl : (froms u.perm).length ≤ 1048576 := by rw [froms_len]; exact hpl
            generalize froms u.perm = Y at hnext hmi hfl
            clear hpa ho hoF hb hxl hbx
            go_wp2_with fail
            refine hmi.mono ?_
            rintro e w2 ⟨g2', cap2, rfl, ho7, hb7⟩
            have ho3 := own_below ho2 hb7
            have hoF3 := own_below hoF2 hb7
            have hb3 := hb2.trans (hb7.mono hb2.size)
            have hon3 := hon2.trans (only_of_below (S := [w.heap.size + 1]) hb7)
            have hia : IntsAt w2 (some ⟨g2', 0, none⟩) Y := by
              obtain ⟨A, c, e, h⟩ := own_intsAt ho7
              simp only [Value.slice.injEq] at e
              rw [e.1]
              exact h
            have HN := Lib.hid (ints_news hia)
            have HL := Lib.hid (show (icells Y).length = Y.length * 1 by rw [icells_len, Nat.mul_one])
            clear hmi ho2 hoF2 hb2 hb7 ho7 hia hon2
            go_wp2_with (at_builtin; refine wpList_append_own _ rfl (.tmp 32) (.tmp 35) 45 rfl w.heap.size 3 i0 (.int .i64 0) 1 8 Try.underlying45 hi0 hz0 hz1 HS.out rfl (by decide) _ X.length _ rfl ho3 ⟨g2', 0, none⟩ Y.length cap2 (icells Y) rfl HL.out HN.out (icells_one _) ?c3 ?c4 ?c5 ?_)
            case c3 => unfold maxLen; omega
            case c4 => omega
            case c5 => exact hb3.size
            intro v4 w4 ho4 hg4 hnil
            have hoF4 := own_other hoF3 ho3 (by decide) hg4
            have hb4 : Below w.heap.size w w4 := below_own hb3 ho3 (Nat.le_refl _) hb3.size hg4
            have hon4 := only_own hon3 HBX.out HSZ.out ho3 (by decide) hg4
            have hform : ∃ g6 cap6, v4 = .slice (some ⟨g6, 0, none⟩) (X.length + Y.length) cap6 := by
              rcases ho4.2 with ⟨h0, _⟩ | ⟨g6, cap6, cur, h0, _⟩
              · exact absurd h0 hnil
              · exact ⟨g6, cap6, h0⟩
            obtain ⟨g6, cap6, rfl⟩ := hform
            have ho5 : w4.ownsRow w.heap.size 3 1 (.slice (some ⟨g6, 0, none⟩) (X.length + Y.length) cap6) (X ++ Y).length (icells (X ++ Y)) := by
              rw [icells_append, List.length_append]
              exact ho4
            have hlen : Hid (X.length + Y.length = (X ++ Y).length) := by show X.length + Y.length = (X ++ Y).length; simp
            rw [hlen.out] at ho5 ⊢
            rw [← hnext.out] at ho5 ⊢
            clear ho3 ho4 hg4 hoF3 hb3 HN HL hnext hlen g0 g1 g2 g3 hnil hon3
            go_wp2
            refine ⟨⟨k + 1, g6, cap6, by omega, by go_num, rfl, ho5, hoF4, hb4, hon4⟩, ?_⟩
            simp only [intOf]
            omega
          · have hnext := hnx (by rw [atIn, if_neg (by omega), if_neg hop4])
            rw [List.append_nil] at hnext
            have k1 : (u.op == 1) = false := by simp [hop1]
            have k3 : (u.op == 3) = false := by simp [hop3]
            have k4 : (u.op == 4) = false := by simp [hop4]
            rw [← hnext.out] at ho2 ⊢
            clear ho hoF hb hnx e0 e1 e2 e3 hxl hnext hpa
            go_wp2
            refine ⟨⟨k + 1, g, cap, by omega, by go_num, rfl, ho2, hoF2, hb2, hon2⟩, ?_⟩
            simp only [intOf]
            omega
    · have e : F.take k = F := List.take_of_length_le (by omega)
      rw [e] at ho htl ⊢
      generalize atomsIn F = Z at ho hat htl ⊢
      have hasc := ascending_any w.heap.size g cap Z wr ho (by omega)
      clear hL hoF ho e
      go_wp2_with fail
      refine hasc.mono ?_
      rintro e w5 ⟨rfl, ho6, hg6⟩
      rw [hat.out] at ho6 ⊢
      have hpost : InsPost w.heap.size (atomsT t) w (.returned (.slice (some ⟨g, 0, none⟩) (atomsT t).length cap)) w5 := ⟨g, cap, rfl, ho6, hb.grown hg6 hb.size (fun k hk => by injection hk with hk; omega)⟩
      clear hasc ho6 hg6 hb
      go_wp2
      go_ret
      exact hpost

end Go.Proofs.Ytgbladfalicplaa
