/-
  Numbers sorted, each once, in the program, as a contract. The atoms that two lists of pairs move: in the program, as contracts. The atoms to which two permutations give different ones: plain words and small contracts. First one list of pairs, then another: in the model and in the program, as contracts. First one list of pairs, then another: in the program, as a contract. The holes of a term, and whether it is ground: in the program, as contracts.
-/
import Derived.Test.YtnomidnjglbedaaKAreRules11
import Derived.Test.YtnomidnjglbedaaKAreRules5
import Derived.Test.YtnomidnjglbedaaKAreRules1
import Derived.Lib.OwnBridge
import Derived.Maps.AppendAt
import Derived.Deep.RegionWith
import Derived.Test.YtnomidnjglbedaaKAreRules9
section
namespace Go.Proofs.Ytnomidnjglbedaa
section
open Go.RowKit Go.Sort

theorem compact_mem (zs : List Int) (x : Int) : x ∈ Lib.compact zs ↔ x ∈ zs := by
  unfold Lib.compact Lib.compactUpTo
  simp only [List.mem_map, List.mem_filter, List.mem_range]
  constructor
  · rintro ⟨j, ⟨hj, _⟩, rfl⟩
    have e : zs.toArray[j]! = zs[j] := by simp [hj]
    rw [e]
    exact List.getElem_mem hj
  · intro hx
    have hex : ∃ j, j < zs.length ∧ zs.toArray[j]! = x := by
      obtain ⟨j, hj, e⟩ := List.getElem_of_mem hx
      exact ⟨j, hj, by simp [hj, e]⟩
    obtain ⟨j, hj⟩ := hex
    induction j with
    | zero => exact ⟨0, ⟨hj.1, by simp [Lib.keeps]⟩, hj.2⟩
    | succ j ih =>
      by_cases h : zs.toArray[j]! = x
      · exact ih ⟨by omega, h⟩
      · refine ⟨j + 1, ⟨hj.1, Lib.keeps_pos ?_⟩, hj.2⟩
        rw [hj.2]
        exact fun e => h e.symm

theorem compact_asc (zs : List Int) (h : zs.Pairwise (· ≤ ·)) : AscP (Lib.compact zs) := by
  unfold AscP Lib.compact Lib.compactUpTo
  rw [List.pairwise_map]
  have hr : (List.range zs.length).Pairwise (· < ·) := List.pairwise_lt_range
  refine List.Pairwise.imp_of_mem ?_ (hr.filter _)
  intro i j hi hj hij
  simp only [List.mem_filter, List.mem_range] at hi hj
  rw [List.pairwise_iff_getElem] at h
  have e : ∀ k, (hk : k < zs.length) → zs.toArray[k]! = zs[k] := fun k hk => by simp [hk]
  have h1 : zs.toArray[j]! ≠ zs.toArray[j - 1]! := by
    intro he
    have := Lib.keeps_neg (d := zs.toArray) (m := j) (by omega) he
    rw [this] at hj
    exact absurd hj.2 (by simp)
  have h2 : zs[j - 1]'(by omega) ≤ zs[j]'hj.1 := h (j - 1) j (by omega) hj.1 (by omega)
  have h3 : zs[i]'hi.1 ≤ zs[j - 1]'(by omega) := by
    by_cases hc : i = j - 1
    · simp [hc]
    · exact h i (j - 1) hi.1 (by omega) (by omega)
  rw [e j hj.1, e (j - 1) (by omega)] at h1
  rw [e i hi.1, e j hj.1]
  omega

theorem sorted_ins (l : List Int) : Lib.compact (l.mergeSort fun x y => decide (x ≤ y)) = insAll [] l := by
  refine asc_same _ _ (compact_asc _ ?_) (asc_insAll _ _ List.Pairwise.nil) fun a => ?_
  · have := List.pairwise_mergeSort (le := fun x y : Int => decide (x ≤ y)) (fun a b c h1 h2 => by simp at *; omega) (fun a b => by simp; omega) l
    exact this.imp fun h => by simpa using h
  · rw [compact_mem, List.mem_mergeSort, mem_insAll]
    simp

/-- A slice of the call's own, which is not nil, is sorted in place; each number is left in once. -/
def AscPost (base g cap : Nat) (l : List Int) (w : World) (e : Ending) (w' : World) : Prop :=
  e = .returned (.slice (some ⟨g, 0, none⟩) (insAll [] l).length cap) ∧ w'.ownsRow base 3 1 (.slice (some ⟨g, 0, none⟩) (insAll [] l).length cap) (insAll [] l).length (icells (insAll [] l)) ∧ w.grownBy w' (some g)

theorem grown_putRow {w : World} {q g : Nat} {d : Array Int} : w.grownBy (putRow (Value.int .i64) (Sort.ahead w q) g 0 d) (some g) :=
  ⟨rfl, rfl, rfl, by simp [putRow, mapBlock, Sort.ahead], fun k hk hr => by
    have hne : g ≠ k := fun e => hr (by rw [e])
    simp [putRow, mapBlock, Sort.ahead, Array.getElem?_modify, hne]⟩

set_option maxRecDepth 100000 in
set_option maxHeartbeats 2000000 in
theorem ascending_any (base g cap : Nat) (Z : List Int) (w : World) (ho5' : w.ownsRow base 3 1 (.slice (some ⟨g, 0, none⟩) Z.length cap) Z.length (icells Z)) (hzl : Z.length ≤ 1099511627776) :
    Calls Try.prog 75 #[.slice (some ⟨g, 0, none⟩) Z.length cap] w (AscPost base g cap Z w) := by
  have ho5 : w.ownsRow base 3 1 (.slice (some ⟨g, 0, none⟩) Z.length cap) Z.length (Z.map (Value.int .i64)) := ho5'
  obtain ⟨g', cap', e0, hbg, hgs, hnc, _, _, hH⟩ := Lib.holds_of_ownsRow ho5 (by simp)
  simp only [Value.slice.injEq, Option.some.injEq, Addr.mk.injEq] at e0
  obtain ⟨⟨rfl, _⟩, _, rfl⟩ := e0
  have hat : Hid (Lib.compact (Z.mergeSort fun x y => decide (x ≤ y)) = insAll [] Z) := sorted_ins Z
  have hsort := Try.slices_Sort_int g 0 cap Z w hH hgs (by omega)
  have hyl : (Z.mergeSort fun x y => decide (x ≤ y)).length = Z.length := List.length_mergeSort _
  clear hH ho5'
  go_enter Try.func75, Try.ntmps75
  go_wp2_with fail
  refine hsort.mono ?_
  rintro e w5 ⟨rfl, n5, os5, rfl⟩
  have ho6 := Lib.ownsRow_putRow (q := n5) (k := Z.length) ho5 hyl (Nat.le_refl _)
  have hb6 : w.grownBy (putRow (Value.int .i64) (Sort.ahead w n5) g 0 (Z.mergeSort fun x y => decide (x ≤ y)).toArray) (some g) := grown_putRow
  rw [List.take_of_length_le (by omega)] at ho6
  generalize (Z.mergeSort fun x y => decide (x ≤ y)) = Y at ho6 hb6 hat hyl ⊢
  have hb7 := grownBy_trans hb6 (grown_of_below (below_grow _ os5) (some g))
  have ho7 := own_below ho6 (below_grow _ os5)
  generalize grow (putRow (Value.int .i64) (Sort.ahead w n5) g 0 Y.toArray) os5 = w6 at hb7 ho7 ⊢
  clear hsort ho5 ho6 hb6
  rw [← hyl] at ho7 hnc ⊢
  have hH6 : Holds (Value.int .i64) w6 g 0 Y.toArray := by
    obtain ⟨g', cap', e, _, _, _, _, _, h⟩ := Lib.holds_of_ownsRow ho7 (by simp)
    simp only [Value.slice.injEq, Option.some.injEq, Addr.mk.injEq] at e
    rw [e.1.1]
    exact h
  have hcomp := Try.slices_Compact_int g 0 cap Y w6 hH6 (by omega) hnc
  have hcle := Lib.compact_length_le Y
  have ho8 := fun q7 => Lib.ownsRow_putRow (q := q7) (k := (Lib.compact Y).length) (ys := Lib.compact Y ++ List.replicate (Y.length - (Lib.compact Y).length) 0) ho7 (by rw [List.length_append, List.length_replicate]; omega) hcle
  have hb8 := fun q7 => grownBy_trans hb7 (grown_putRow (w := w6) (q := q7) (g := g) (d := (Lib.compact Y ++ List.replicate (Y.length - (Lib.compact Y).length) 0).toArray))
  rw [List.take_left] at ho8
  rw [hat.out] at hcomp ho8 hb8
  have HO := Lib.hid ho8
  have HB := Lib.hid hb8
  clear hyl hcle ho7 hb7 hH6 ho8 hb8 hzl hnc
  go_wp2_with fail
  refine hcomp.mono ?_
  rintro e w7 ⟨rfl, q7, rfl⟩
  have hpost : AscPost base g cap Z w (.returned (.slice (some ⟨g, 0, none⟩) (insAll [] Z).length cap)) _ := ⟨rfl, HO.out q7, HB.out q7⟩
  clear hcomp HO HB
  go_wp2
  go_ret
  exact hpost
end

section
open Go.RowKit Go.Sort

end
end Go.Proofs.Ytnomidnjglbedaa
end

section
namespace Go.Proofs.Ytnomidnjglbedaa
open Go.RowKit Go.Sort

end Go.Proofs.Ytnomidnjglbedaa
end

section
namespace Go.Proofs.Ytnomidnjglbedaa
open Go.RowKit Go.Sort

end Go.Proofs.Ytnomidnjglbedaa
end

section
namespace Go.Proofs.Ytnomidnjglbedaa
open Go.RowKit Go.Sort

end Go.Proofs.Ytnomidnjglbedaa
end

section
namespace Go.Proofs.Ytnomidnjglbedaa
open Go.RowKit Go.Sort

/-- A row stays as it is while a row of other elements is written. -/
theorem own_other {w w' : World} {base base' : Nat} {e e' : TypeId} {size size' n n' : Nat} {v v' : Value} {xs xs' : List Value} (h : w.ownsRow base e size v n xs) (h' : w.ownsRow base' e' size' v' n' xs') (hne : e ≠ e') (hg : w.grownBy w' v'.ownBlock) : w'.ownsRow base e size v n xs := by
  refine h.kept hg ?_
  rcases h.2 with ⟨rfl, _⟩ | ⟨g, cap, cur, rfl, _, hc, _⟩
  · exact .inl rfl
  · right
    rcases h'.2 with ⟨rfl, _⟩ | ⟨g', cap', cur', rfl, _, hc', _⟩
    · simp [Value.ownBlock]
    · intro e0
      simp only [Value.ownBlock, Option.some.injEq] at e0
      subst e0
      rw [hc] at hc'
      simp only [Option.some.injEq, Obj.cells.injEq] at hc'
      exact hne hc'.2.1

theorem own_at_least {w : World} {base g n cap : Nat} {e : TypeId} {size : Nat} {xs : List Value} (h : w.ownsRow base e size (.slice (some ⟨g, 0, none⟩) n cap) n xs) : base ≤ g := (h.lt g rfl).1

/-- The terms within a term, or none where it is no term. -/
def FoundPost (t : Tm) (w : World) (e : Ending) (w' : World) : Prop :=
  Below w.heap.size w w' ∧ ∃ (F : List Tm) (A : Option Addr) (cap : Nat) (b : Bool) (xs : List Value), e = .returned (.tuple #[.slice A F.length cap, .bool b]) ∧ F.length ≤ 60 ∧ (∀ y, y ∈ F ↔ isTermB t = true ∧ y ∈ nodesT t) ∧
    w'.ownsRow w.heap.size 31 4 (.slice A F.length cap) F.length xs ∧ AtL w xs (encTs F)

theorem found_any (t : Tm) (x : Value) (w : World) (hx : TmIn w x t) (hf : Fit t) :
    Calls Try.prog 70 #[x] w (FoundPost t w) := by
  refine (within_any t x w hx hf).mono ?_
  rintro e w' ⟨hb, ⟨hno, rfl⟩ | ⟨hyes, F, g, cap, xs, rfl, hlen, hmem, ho, hL⟩⟩
  · refine ⟨hb, [], none, 0, false, [], rfl, by simp, fun y => by simp [hno], World.ownsRow_nil _ _ _ _, ?_⟩
    rw [encTs]
    exact AtL.nil
  · have h60 : szT t ≤ 60 := by
      rw [isTermB, Bool.and_eq_true, decide_eq_true_eq] at hyes
      exact hyes.2
    exact ⟨hb, F, _, cap, true, xs, rfl, by omega, fun y => by simp [hyes, hmem], ho, hL⟩

theorem int_infoH : (Try.prog.info? 3).map (fun i => (i.zero, i.size, i.bytes)) = some (some (.int .i64 0), 1, 8) := by kernel_rfl

set_option maxRecDepth 100000 in
set_option maxHeartbeats 4000000 in
theorem holes_impl (t : Tm) (x : Value) (w : World) (hx : TmIn w x t) (hf : Fit t) :
    Calls Try.prog 29 #[x] w (InsPost w.heap.size (holesL t) w) := by
  obtain ⟨i0, hi0, hz0, hz1, hz2⟩ := info_parts int_infoH
  have HS := Lib.hid hz2
  clear hz2
  have hwi := fun W hW => found_any t x W hW hf
  obtain ⟨A, c, kv, rfl, hp, hk⟩ := hx
  obtain ⟨B, d, rfl⟩ := hk.form
  have hb0 : Below w.heap.size w ((w.alloc (.cells #[.int .i64 t.op, .int .i64 t.num, .slice A t.perm.length c, .slice B t.kids.length d] 31)).alloc (.cells #[] 3)) := ((Below.refl _ _).alloc (Nat.le_refl _) _).alloc (by simp) _
  have hw0 := hwi _ ⟨A, c, _, rfl, hp.below hb0, hk.below hb0⟩
  have ho0 : ((w.alloc (.cells #[.int .i64 t.op, .int .i64 t.num, .slice A t.perm.length c, .slice B t.kids.length d] 31)).alloc (.cells #[] 3)).ownsRow w.heap.size 3 1 (.slice (some ⟨w.heap.size + 1, 0, none⟩) 0 0) 0 [] := by
    have h9 := World.ownsRow_lit (base := (w.alloc (.cells #[.int .i64 t.op, .int .i64 t.num, .slice A t.perm.length c, .slice B t.kids.length d] 31)).heap.size) (e := 3) (size := 1) (w.alloc (.cells #[.int .i64 t.op, .int .i64 t.num, .slice A t.perm.length c, .slice B t.kids.length d] 31)) #[] 0 (Nat.le_refl _) (by decide) rfl
    rw [World.size_alloc] at h9
    exact own_le h9 (by omega)
  clear hwi
  go_enter Try.func29, Try.ntmps29
  go_wp2_with fail
  refine hw0.mono ?_
  rintro e w1 ⟨hb1, F, FA, fc, fb, xs, rfl, h60, hmem, hoF, hL⟩
  have hs1 := hb0.trans (hb1.mono hb0.size)
  have ho1 := own_below ho0 hb1
  have hoF1 := own_le hoF (show w.heap.size ≤ _ by simp; omega)
  have hat : Hid (insAll [] (holesIn F) = holesL t) := holesL_same hmem
  clear hw0 hb0 hb1 ho0 hoF hmem hp hk
  go_wp2
  go_loopw [3, 16] (fun v i wr => ∃ k g cap : Nat, k ≤ F.length ∧ i = .int .i64 k ∧ v = .slice (some ⟨g, 0, none⟩) (holesIn (F.take k)).length cap ∧
    wr.ownsRow w.heap.size 3 1 v (holesIn (F.take k)).length (icells (holesIn (F.take k))) ∧ wr.ownsRow w.heap.size 31 4 (.slice FA F.length fc) F.length xs ∧ Below w.heap.size w wr) (fun _ i _ => F.length - (intOf i).toNat)
  case atStart => exact ⟨0, w.heap.size + 1, 0, Nat.zero_le _, rfl, rfl, ho1, hoF1, hs1⟩
  case round =>
    clear ho1 hoF1 hs1
    obtain ⟨k, g, cap, hk, rfl, rfl, ho, hoF, hb⟩ := hrel
    have hg := own_at_least ho
    have htl := holesIn_take F k
    by_cases hlt : k < F.length
    · obtain ⟨A1, c1, B1, d1, e0, e1, e2, e3, _, _⟩ := hL.term hlt
      have hxl := hoF.1
      obtain ⟨gF, fcap, hfv⟩ := own_row_form hoF (by omega)
      simp only [Value.slice.injEq] at hfv
      obtain ⟨rfl, _, rfl⟩ := hfv
      have g0 := (hoF.cellAt (k * 4) (by omega)).trans e0
      have g1 := (hoF.cellAt (k * 4 + 1) (by omega)).trans e1
      have g2 := (hoF.cellAt (k * 4 + 2) (by omega)).trans e2
      have g3 := (hoF.cellAt (k * 4 + 3) (by omega)).trans e3
      have hyes := fun h => Lib.hid (holesIn_yes hlt h)
      have hno := fun h => Lib.hid (holesIn_no hlt h)
      generalize tmAt F k = u at g0 g1 g2 g3 hyes hno
      generalize holesIn (F.take k) = X at ho hyes hno htl ⊢
      have hb2 := hb.alloc hb.size (.cells #[.int .i64 u.op, .int .i64 u.num, .slice A1 u.perm.length c1, .slice B1 u.kids.length d1] 31)
      have ho2 := ho.alloc (.cells #[.int .i64 u.op, .int .i64 u.num, .slice A1 u.perm.length c1, .slice B1 u.kids.length d1] 31)
      have hoF2 := hoF.alloc (.cells #[.int .i64 u.op, .int .i64 u.num, .slice A1 u.perm.length c1, .slice B1 u.kids.length d1] 31)
      have hsz := hb.size
      by_cases h4 : u.op = 4
      · have hnext := hyes h4
        clear hyes hno e0 e1 e2 e3
        generalize u.op = o at g0 h4 hb2 ho2 hoF2
        subst h4
        have ho3 := ho2.alloc (.cells #[.int .i64 u.num] 3)
        have hoF3 := hoF2.alloc (.cells #[.int .i64 u.num] 3)
        have hb3 := hb2.alloc (Nat.le_trans hb.size (by simp)) (.cells #[.int .i64 u.num] 3)
        have hcell : ((wr.alloc (.cells #[.int .i64 4, .int .i64 u.num, .slice A1 u.perm.length c1, .slice B1 u.kids.length d1] 31)).alloc (.cells #[.int .i64 u.num] 3)).cell? ⟨wr.heap.size + 1, 0, none⟩ = some (.int .i64 u.num) := by simp
        have HC := Lib.hid (one_cell hcell)
        clear hcell ho ho2 hoF hoF2 hb hb2 hxl
        go_wp2_with (at_builtin; refine wpList_append_own _ rfl (.tmp 23) (.tmp 26) 36 rfl w.heap.size 3 i0 (.int .i64 0) 1 8 Try.underlying36 hi0 hz0 hz1 HS.out rfl (by decide) _ X.length _ rfl ho3 ⟨wr.heap.size + 1, 0, none⟩ 1 1 [.int .i64 u.num] rfl rfl HC.out (int_one _) ?c3 ?c4 ?c5 ?_)
        case c3 => unfold maxLen; omega
        case c4 => omega
        case c5 => simp; omega
        intro v2 w2 ho4 hg4 _
        have hoF4 := own_other hoF3 ho3 (by decide) hg4
        have hb4 : Below w.heap.size w w2 := below_own hb3 ho3 (Nat.le_refl _) (by simp; omega) hg4
        obtain ⟨g6, cap6, rfl⟩ := own_row_form ho4 (by omega)
        have ho5 : w2.ownsRow w.heap.size 3 1 (.slice (some ⟨g6, 0, none⟩) (X.length + 1) cap6) (X ++ [u.num]).length (icells (X ++ [u.num])) := by
          rw [icells_append, List.length_append]
          exact ho4
        have hlen : Hid (X.length + 1 = (X ++ [u.num]).length) := by show X.length + 1 = (X ++ [u.num]).length; simp
        rw [hlen.out] at ho5 ⊢
        rw [← hnext.out] at ho5 ⊢
        clear ho3 ho4 hg4 hoF3 hb3 HC hnext hlen g0 g1 g2 g3
        go_wp2
        refine ⟨⟨k + 1, g6, cap6, by omega, by go_num, rfl, ho5, hoF4, hb4⟩, ?_⟩
        simp only [intOf]
        omega
      · have hnext := hno h4
        have h4' : (u.op == 4) = false := by simp [h4]
        rw [← hnext.out] at ho2 ⊢
        clear ho hoF hb hyes hno e0 e1 e2 e3 hxl hnext
        go_wp2
        refine ⟨⟨k + 1, g, cap, by omega, by go_num, rfl, ho2, hoF2, hb2⟩, ?_⟩
        simp only [intOf]
        omega
    · have e : F.take k = F := List.take_of_length_le (by omega)
      rw [e] at ho htl ⊢
      generalize holesIn F = Z at ho hat htl ⊢
      have hasc := ascending_any w.heap.size g cap Z wr ho (by omega)
      clear hL hoF ho e
      go_wp2_with fail
      refine hasc.mono ?_
      rintro e w5 ⟨rfl, ho6, hg6⟩
      rw [hat.out] at ho6 ⊢
      have hpost : InsPost w.heap.size (holesL t) w (.returned (.slice (some ⟨g, 0, none⟩) (holesL t).length cap)) w5 := ⟨g, cap, rfl, ho6, hb.grown hg6 hb.size (fun k hk => by injection hk with hk; omega)⟩
      clear hasc ho6 hg6 hb
      go_wp2
      go_ret
      exact hpost

end Go.Proofs.Ytnomidnjglbedaa
end

