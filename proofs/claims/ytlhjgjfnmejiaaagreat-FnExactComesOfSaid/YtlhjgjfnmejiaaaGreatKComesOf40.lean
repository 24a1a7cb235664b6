/-
  A substitution done on a term, in the model, as contracts. ApplySubstitution of the model, as a contract.
-/
import Derived.Test.YtlhjgjfnmejiaaaGreatKComesOf27
import Derived.Test.YtlhjgjfnmejiaaaGreatKComesOf39
import Derived.Test.YtlhjgjfnmejiaaaGreatKComesOf18
section
namespace Go.Proofs.YtlhjgjfnmejiaaaGreat
open Go.RowKit Go.Sort
set_option linter.unusedVariables false

/-- The place of the binding of a hole. -/
def findI : List RBinding → Int → Int
  | [], _ => -1
  | r :: rs, h => if r.f0 = h then 0 else if findI rs h < 0 then -1 else findI rs h + 1
theorem findI_at : ∀ {rs : List RBinding} {h : Int} {i : Nat}, i < rs.length → (∀ j, j < i → ¬ (atRBinding rs j).f0 = h) → (atRBinding rs i).f0 = h → findI rs h = (i : Int)
  | [], h, i, hi, _, _ => by simp at hi
  | r :: rs, h, 0, _, _, e => by rw [atRBinding_zero] at e; rw [findI, if_pos e]; rfl
  | r :: rs, h, i + 1, hi, hn, e => by
    have h0 := hn 0 (by omega)
    rw [atRBinding_zero] at h0
    rw [atRBinding_succ] at e
    rw [findI, if_neg h0, findI_at (i := i) (by simpa using hi) (fun j hj => by have := hn (j + 1) (by omega); rwa [atRBinding_succ] at this) e, if_neg (by omega)]
    omega
theorem findI_none : ∀ {rs : List RBinding} {h : Int}, (∀ j, j < rs.length → ¬ (atRBinding rs j).f0 = h) → findI rs h = -1
  | [], h, _ => rfl
  | r :: rs, h, hn => by
    have h0 := hn 0 (by simp)
    rw [atRBinding_zero] at h0
    rw [findI, if_neg h0, findI_none fun j hj => by have := hn (j + 1) (by simpa using hj); rwa [atRBinding_succ] at this, if_pos (by omega)]
/-- Either the hole is bound, at a place, or it is not. -/
theorem find_cases (rs : List RBinding) (h : Int) : (∃ i, i < rs.length ∧ findI rs h = (i : Int) ∧ findB rs h = some (atRBinding rs i).f1) ∨ (findI rs h = -1 ∧ findB rs h = none) := by
  cases hf : findB rs h with
  | none =>
    refine .inr ⟨findI_none fun j hj e => ?_, rfl⟩
    have : ∀ {rs : List RBinding} {j : Nat}, j < rs.length → (atRBinding rs j).f0 = h → findB rs h ≠ none := by
      intro rs
      induction rs with
      | nil => intro j hj; simp at hj
      | cons r rs ih =>
        intro j hj e
        rw [findB]
        split
        · simp
        · rename_i h0
          cases j with
          | zero => exact absurd e h0
          | succ j => rw [atRBinding_succ] at e; exact ih (by simpa using hj) e
    exact this hj e hf
  | some u =>
    refine .inl ?_
    have : ∀ {rs : List RBinding} {u : Tm}, findB rs h = some u → ∃ i, i < rs.length ∧ findI rs h = (i : Int) ∧ some u = some (atRBinding rs i).f1 := by
      intro rs
      induction rs with
      | nil => intro u e; cases e
      | cons r rs ih =>
        intro u e
        rw [findB] at e
        split at e
        · rename_i h0
          exact ⟨0, by simp, by rw [findI, if_pos h0]; rfl, by rw [atRBinding_zero]; exact e.symm⟩
        · rename_i h0
          obtain ⟨i, hi, h1, h2⟩ := ih e
          exact ⟨i + 1, by simpa using hi, by rw [findI, if_neg h0, h1, if_neg (by omega)]; omega, by rw [atRBinding_succ]; exact h2⟩
    exact this hf

set_option maxRecDepth 100000 in
set_option maxHeartbeats 2000000 in
theorem l3Find_any (rs : List RBinding) (h : Int) (x : Value) (w : World) (hx : RBindingsIn w x rs) (hl : rs.length ≤ 1048576) :
    Calls Tryz.prog 84 #[x, .int .i64 h] w (IntPost (findI rs h) w) := by
  obtain ⟨C, cc, rfl, hg⟩ := hx
  go_enter Tryz.func84, Tryz.ntmps84
  go_wp2
  go_loopw [9] (fun i wr => ∃ k : Nat, k ≤ rs.length ∧ i = .int .i64 k ∧ Hid (∀ j, j < k → ¬ (atRBinding rs j).f0 = h) ∧ Below w.heap.size w wr) (fun i _ => rs.length - (intOf i).toNat)
  case atStart => exact ⟨0, Nat.zero_le _, rfl, fun j hj => absurd hj (by omega), Below.refl _ _⟩
  case round =>
    obtain ⟨k, hk, rfl, hq, hb⟩ := hrel
    by_cases hlt : k < rs.length
    · obtain ⟨b1, o1, rfl, hb1, hget⟩ := hg (by omega)
      obtain ⟨A1, c1, B1, d1, e0, e1, e2, e3, e4, ht⟩ := (hget k hlt).below hb1 hb
      have hbW := hb.alloc hb.size (.cells #[.int .i64 (atRBinding rs k).f0, .int .i64 (atRBinding rs k).f1.op, .int .i64 (atRBinding rs k).f1.num, .slice A1 (atRBinding rs k).f1.perm.length c1, .slice B1 (atRBinding rs k).f1.kids.length d1] 78)
      by_cases hf : (atRBinding rs k).f0 = h
      · have hn : Hid (findI rs h = (k : Int)) := Lib.hid (findI_at hlt hq hf)
        have heq : ((atRBinding rs k).f0 == h) = true := by simp [hf]
        clear hf hget hg hq ht hb
        generalize atRBinding rs k = r at e0 e1 e2 e3 e4 hbW heq
        go_wp2
        go_ret
        exact ⟨by rw [hn.out]; (try rfl), hbW⟩
      · have hq2 : Hid (∀ j, j < k + 1 → ¬ (atRBinding rs j).f0 = h) := Lib.hid (fun j hj => by
          by_cases e : j = k
          · rw [e]; exact hf
          · exact hq j (by omega))
        have heq : ((atRBinding rs k).f0 == h) = false := by simp [hf]
        clear hf hget hg hq ht hb
        generalize atRBinding rs k = r at e0 e1 e2 e3 e4 hbW heq
        go_wp2
        refine ⟨⟨k + 1, by omega, by go_num, hq2, hbW⟩, ?_⟩
        simp only [intOf]
        omega
    · have hn : Hid (findI rs h = -1) := Lib.hid (findI_none fun j hj => hq j (by omega))
      clear hg hq
      go_wp2
      go_ret
      exact ⟨by rw [hn.out]; (try rfl), hb⟩

set_option maxRecDepth 100000 in
set_option maxHeartbeats 4000000 in
theorem l3Do_kids (l : List RBinding) (lv : Value) (t : Tm) (x : Value) (w : World) (hlv : RBindingsIn w lv l) (hll : l.length ≤ 1048576) (hx : TmIn w x t) (h4 : t.op = 4 → findB l t.num = none) (hl : t.perm.length ≤ 1048576) (hkl : t.kids.length ≤ 1048576)
    (ih : ∀ i, i < t.kids.length → ∀ (w' : World) (y : Value), Below w.heap.size w w' → TmIn w' y (tmAt t.kids i) → Calls Tryz.prog 38 #[lv, y] w' (TmOut (doT l (tmAt t.kids i)) w')) :
    Calls Tryz.prog 38 #[lv, x] w (TmOut (doT l t) w) := by
  have hcan : doT l t = .mk t.op t.num t.perm (t.kids.map (doT l)) := doT_kids h4
  obtain ⟨i0, hi0, hz0, hz1, hz2⟩ := info_parts term_infoR
  have HS := Lib.hid hz2
  clear hz2
  have hx' := hx
  obtain ⟨A, c, kv, rfl, hp, hk⟩ := hx
  obtain ⟨B, d, rfl⟩ := hk.form
  have hb0 : Below w.heap.size w ((w.alloc (.cells #[.int .i64 t.op, .int .i64 t.num, .slice A t.perm.length c, .slice B t.kids.length d] 46)).alloc (.cells #[.int .i64 0, .int .i64 0, .slice none 0 0, .slice none 0 0] 46)) := ((Below.refl _ _).alloc (Nat.le_refl _) _).alloc (by simp) _
  have hfi := l3Find_any l t.num lv _ (hlv.below hb0) hll
  have hcond : Hid (decide (t.op = 4) = false ∨ (decide (t.op = 4) = true ∧ findI l t.num = -1)) := by
    by_cases e : t.op = 4
    · rcases find_cases l t.num with ⟨i, _, _, h⟩ | ⟨h, _⟩
      · rw [h4 e] at h; cases h
      · exact Lib.hid (.inr ⟨by simp [e], h⟩)
    · exact Lib.hid (.inl (by simp [e]))
  obtain ⟨CL, dl, rfl, hgl⟩ := hlv
  clear hgl
  generalize hFI : findI l t.num = fi at *
  have hq4 : (t.op == 4) = decide (t.op = 4) := by by_cases e : t.op = 4 <;> simp [e]
  generalize hQ4 : decide (t.op = 4) = o4 at *
  clear hFI hQ4 h4
  go_enter Tryz.func38, Tryz.ntmps38
  go_wp2_with fail
  refine hfi.mono ?_
  rintro e w1 ⟨rfl, hb1⟩
  have hbw1 := hb0.trans (hb1.mono hb0.size)
  obtain ⟨m0, m1, m2, m3⟩ := BoxR.row4 (box_row hb1).2
  have hs1 : w.heap.size + 2 ≤ w1.heap.size := by have h := hb1.size; rw [World.size_alloc, World.size_alloc] at h; exact h
  have hs2 : w.heap.size < w1.heap.size := by omega
  clear hfi
  rcases hcond.out with e4 | ⟨e4, efi⟩
  all_goals
    subst e4
    (try subst efi)
    clear hcond
    go_wp2
    go_loopw [6, 32] (fun v i wr => ∃ k : Nat, k ≤ t.kids.length ∧ i = .int .i64 k ∧ TRow wr (w.heap.size + 2) v k ((t.kids.take k).map (doT l)) ∧ Below ((w.alloc (.cells #[.int .i64 t.op, .int .i64 t.num, .slice A t.perm.length c, .slice B t.kids.length d] 46)).alloc (.cells #[.int .i64 0, .int .i64 0, .slice none 0 0, .slice none 0 0] 46)).heap.size ((w.alloc (.cells #[.int .i64 t.op, .int .i64 t.num, .slice A t.perm.length c, .slice B t.kids.length d] 46)).alloc (.cells #[.int .i64 0, .int .i64 0, .slice none 0 0, .slice none 0 0] 46)) wr) (fun _ i _ => t.kids.length - (intOf i).toNat)
    case atStart =>
      refine ⟨0, Nat.zero_le _, rfl, ⟨w1.heap.size, 0, [], [], rfl, ?_, .nil, by simp, by simp⟩, hb1.alloc hb1.size _⟩
      have h9 := World.ownsRow_lit (base := w1.heap.size) (e := 46) (size := 4) w1 #[] 0 (Nat.le_refl _) (by decide) rfl
      exact own_le h9 hs1
    case round =>
      clear hs1 hs2 hbw1 hb1 m0 m1 m2 m3
      obtain ⟨k, hk', rfl, ⟨g, cap, ys, S, rfl, ho, hys, hgS, hSB⟩, hbw⟩ := hrel
      have hb := hb0.trans (hbw.mono hb0.size)
      by_cases hlt : k < t.kids.length
      · obtain ⟨b, off, A1, c1, B1, e1, rfl, hbl, d0, d1, d2, d3, hy⟩ := kid_cells hk hlt
        rw [← hb.cell (p := ⟨b, _, none⟩) hbl] at d0 d1 d2 d3
        obtain ⟨hres, hbox⟩ := box_row hbw
        have hbx : Below wr.heap.size wr (wr.alloc (.cells #[.int .i64 (tmAt t.kids k).op, .int .i64 (tmAt t.kids k).num, .slice A1 (tmAt t.kids k).perm.length c1, .slice B1 (tmAt t.kids k).kids.length e1] 46)) := (Below.refl _ _).alloc (Nat.le_refl _) _
        have hlb : w.heap.size < wr.heap.size := (Array.getElem?_eq_some_iff.1 hbox).1
        obtain ⟨b0, b1, b2, b3⟩ := BoxR.row4 ((hbx.block w.heap.size hlb).trans hbox)
        have hbz := hb.trans (hbx.mono hb.size)
        have hct := ih k hlt _ _ hbz (hy.below hbz)
        have hnx := Lib.hid (map_take_nextT (f := doT l) hlt)
        have hox := own_below ho hbx
        have hysx := hys.alike (w' := wr.alloc (.cells #[.int .i64 (tmAt t.kids k).op, .int .i64 (tmAt t.kids k).num, .slice A1 (tmAt t.kids k).perm.length c1, .slice B1 (tmAt t.kids k).kids.length e1] 46)) (fun b hb => hbx.block b (hys.lt b hb))
        have hbr := hbw.trans (hbx.mono hbw.size)
        generalize doT l (tmAt t.kids k) = r at hct hnx
        generalize tmAt t.kids k = u at d0 d1 d2 d3 b0 b1 b2 b3 hct hbx hox hbr hysx ⊢
        clear hy hbl hb hbz hbw ih hk ho hys hp hx' hres hbox hcan hlb
        go_wp2_with fail
        refine hct.mono ?_
        rintro e w2 ⟨A3, c3, A4, c4, T1, rfl, hT1, hTC, hb2⟩
        have hb3 : Below w2.heap.size w2 (w2.alloc (.cells #[.int .i64 r.op, .int .i64 r.num, .slice A3 r.perm.length c3, .slice A4 r.kids.length c4] 46)) := (Below.refl _ _).alloc (Nat.le_refl _) _
        have hb13 := hb2.trans (hb3.mono hb2.size)
        have ho3 := own_below (own_below hox hb2) hb3
        have hbr3 := (hbr.trans (hb2.mono hbr.size)).trans (hb3.mono (Nat.le_trans hbr.size hb2.size))
        obtain ⟨e0, e1', e2, e3⟩ := box4 (Below.refl _ (w2.alloc (.cells #[.int .i64 r.op, .int .i64 r.num, .slice A3 r.perm.length c3, .slice A4 r.kids.length c4] 46)))
        have HC := Lib.hid (four_cells e0 e1' e2 e3)
        have HF1 := Lib.hid (four_one r.op r.num A3 A4 r.perm.length c3 r.kids.length c4)
        have hsz3 := hbr3.size
        have HR : Hid (∀ g1 cap1 w4, w4.ownsRow (w.heap.size + 2) 46 4 (.slice (some ⟨g1, 0, none⟩) (k + 1) cap1) (k + 1) (ys ++ [.int .i64 r.op, .int .i64 r.num, .slice A3 r.perm.length c3, .slice A4 r.kids.length c4]) → (w2.alloc (.cells #[.int .i64 r.op, .int .i64 r.num, .slice A3 r.perm.length c3, .slice A4 r.kids.length c4] 46)).grownBy w4 (some g) → (some g = some g1 ∨ g1 = (w2.alloc (.cells #[.int .i64 r.op, .int .i64 r.num, .slice A3 r.perm.length c3, .slice A4 r.kids.length c4] 46)).heap.size) → TRow w4 (w.heap.size + 2) (.slice (some ⟨g1, 0, none⟩) (k + 1) cap1) (k + 1) ((t.kids.take k).map (doT l) ++ [r])) :=
          Lib.hid (fun g1 cap1 w4 h1 h2 h3 => trow_next (Nat.le_refl _) hox hysx hgS hSB hb13 hT1 hTC hb3 h1 h2 h3)
        have hsz4 : w.heap.size + 2 ≤ (w2.alloc (.cells #[.int .i64 r.op, .int .i64 r.num, .slice A3 r.perm.length c3, .slice A4 r.kids.length c4] 46)).heap.size := by
          have := hb13.size; have := (hox.lt g rfl).2; have := (hox.lt g rfl).1; omega
        clear e0 e1' e2 e3 hox hysx hgS hSB hb2 hb3 hb13 hT1 hTC hct hbr hbx d0 d1 d2 d3 b0 b1 b2 b3
        generalize hH : (w2.alloc (.cells #[.int .i64 r.op, .int .i64 r.num, .slice A3 r.perm.length c3, .slice A4 r.kids.length c4] 46)).heap.size = H at hsz4
        have HH := Lib.hid hH
        clear hH
        go_wp2_with (at_builtin; refine wpList_append_lies _ rfl (.tmp 36) (.tmp 40) 44 rfl (w.heap.size + 2) 46 i0 (.agg #[.int .i64 0, .int .i64 0, .slice none 0 0, .slice none 0 0]) 4 64 Tryz.underlying44 hi0 hz0 hz1 HS.out rfl (by decide) _ k _ rfl ho3 ⟨w2.heap.size, 0, none⟩ 1 1 [.int .i64 r.op, .int .i64 r.num, .slice A3 r.perm.length c3, .slice A4 r.kids.length c4] rfl rfl HC.out HF1.out (by decide) ?c3 ?c4 ?c5 H HH.out ?_)
        case c3 => unfold maxLen; omega
        case c4 => omega
        case c5 => rw [HH.out]; exact hsz4
        intro g1 cap1 w4 ho4 hg4 hcase _
        rw [← HH.out] at hcase
        have hrow := HR.out g1 cap1 w4 ho4 hg4 hcase
        rw [← hnx.out] at hrow
        have hb4 := below_own hbr3 ho3 (by rw [World.size_alloc, World.size_alloc]; omega) hsz3 hg4
        clear ho4 hg4 hcase HR ho3 hbr3 HC HF1 hsz3 hsz4 HH hnx
        go_wp2
        refine ⟨⟨k + 1, by omega, by go_num, hrow, hb4⟩, ?_⟩
        simp only [intOf]
        omega
      · clear hx'
        have e : k = (t.kids.map (doT l)).length := by rw [List.length_map]; omega
        rw [List.take_of_length_le (show t.kids.length ≤ k by omega)] at hys
        subst e
        obtain ⟨hres, hbox⟩ := box_row hbw
        have b0 : wr.cell? ⟨w.heap.size, 0, none⟩ = some (.int .i64 t.op) := by rw [cell_of_row _ w.heap.size 0 _ _ _ hbox]; rfl
        have b1 : wr.cell? ⟨w.heap.size, 1, none⟩ = some (.int .i64 t.num) := by rw [cell_of_row _ w.heap.size 1 _ _ _ hbox]; rfl
        have b2 : wr.cell? ⟨w.heap.size, 2, none⟩ = some (.slice A t.perm.length c) := by rw [cell_of_row _ w.heap.size 2 _ _ _ hbox]; rfl
        have b3 : wr.cell? ⟨w.heap.size, 3, none⟩ = some (.slice B t.kids.length d) := by rw [cell_of_row _ w.heap.size 3 _ _ _ hbox]; rfl
        have HT := Lib.hid hcan
        generalize hK : t.kids.map (doT l) = K at *
        clear hk' hK
        have hwi := l2With_any t t.num A B c d (some ⟨g, 0, none⟩) K.length cap wr (hp.below hb) hl
        go_wp2_with fail
        refine hwi.mono ?_
        rintro e w5 ⟨A1, c1, S1, rfl, hS1, hS1b, hb5⟩
        have hsr := hbw.size
        rw [World.size_alloc, World.size_alloc] at hsr
        have hres6 := (hb5.block (w.heap.size + 1) (by omega)).trans hres
        have ho5 := own_below ho hb5
        have hys5 := hys.alike (w' := w5) (fun b hb => hb5.block b (hys.lt b hb))
        have hbz5 := hb.trans (hb5.mono hb.size)
        have hSg : ∀ b ∈ S1, b ∉ g :: S := fun b h1 h2 => by
          have h3 := hS1b b h1
          rcases List.mem_cons.1 h2 with h4 | h4
          · have := (ho.lt g rfl).2; omega
          · have := hys.lt b h4; omega
        have hpost := act_done (w := w) (w5 := w5) (R := w.heap.size + 1) HT.out hS1 (fun b hb => by have := hS1b b hb; omega) ho5 hys5 hgS (fun b hb => by have := hSB b hb; omega) hSg (by omega) hbz5
        have r0 : w5.cell? ⟨w.heap.size + 1, 0, none⟩ = some (.int .i64 0) := by rw [cell_of_row _ (w.heap.size + 1) 0 _ _ _ hres6]; rfl
        have r1 : w5.cell? ⟨w.heap.size + 1, 1, none⟩ = some (.int .i64 0) := by rw [cell_of_row _ (w.heap.size + 1) 1 _ _ _ hres6]; rfl
        have r2 : w5.cell? ⟨w.heap.size + 1, 2, none⟩ = some (.slice none 0 0) := by rw [cell_of_row _ (w.heap.size + 1) 2 _ _ _ hres6]; rfl
        have r3 : w5.cell? ⟨w.heap.size + 1, 3, none⟩ = some (.slice none 0 0) := by rw [cell_of_row _ (w.heap.size + 1) 3 _ _ _ hres6]; rfl
        have z0 : w5.frozen? ⟨w.heap.size + 1, 0, none⟩ = false := frozen_of_row _ (w.heap.size + 1) 0 _ _ hres6
        have z1 : w5.frozen? ⟨w.heap.size + 1, 1, none⟩ = false := frozen_of_row _ (w.heap.size + 1) 1 _ _ hres6
        have z2 : w5.frozen? ⟨w.heap.size + 1, 2, none⟩ = false := frozen_of_row _ (w.heap.size + 1) 2 _ _ hres6
        have z3 : w5.frozen? ⟨w.heap.size + 1, 3, none⟩ = false := frozen_of_row _ (w.heap.size + 1) 3 _ _ hres6
        clear ho5 hys5 hbz5 hwi hS1 hS1b hb5 hsr hres6 hSg hbox hres ho hys hgS hSB hbw hb hp ih hk HT hb0 hcan
        go_wp2
        exact bodyPost_ret (v := .agg #[.int .i64 t.op, .int .i64 t.num, .slice A1 t.perm.length c1, .slice (some ⟨g, 0, none⟩) K.length cap]) (by simp [results, Tryz.results38, go_sem, r0, r1, r2, r3]) rfl hpost

set_option maxRecDepth 100000 in
set_option maxHeartbeats 4000000 in
theorem l3Do_hole (l : List RBinding) (lv : Value) (t : Tm) (x : Value) (w : World) (hlv : RBindingsIn w lv l) (hll : l.length ≤ 1048576) (hx : TmIn w x t) (h4 : t.op = 4) (i : Nat) (hi : i < l.length) (hfi : findI l t.num = (i : Int)) (hfb : findB l t.num = some (atRBinding l i).f1) (hl : t.perm.length ≤ 1048576)
    (hsz : szT (atRBinding l i).f1 ≤ 1048576) (hP : OkP 1048576 (atRBinding l i).f1) :
    Calls Tryz.prog 38 #[lv, x] w (TmOut (doT l t) w) := by
  have hcan : doT l t = actT t.perm (atRBinding l i).f1 := doT_hole h4 hfb
  obtain ⟨A, c, kv, rfl, hp, hk⟩ := hx
  obtain ⟨B, d, rfl⟩ := hk.form
  have hb0 : Below w.heap.size w ((w.alloc (.cells #[.int .i64 t.op, .int .i64 t.num, .slice A t.perm.length c, .slice B t.kids.length d] 46)).alloc (.cells #[.int .i64 0, .int .i64 0, .slice none 0 0, .slice none 0 0] 46)) := ((Below.refl _ _).alloc (Nat.le_refl _) _).alloc (by simp) _
  have hfind := l3Find_any l t.num lv _ (hlv.below hb0) hll
  rw [hfi] at hfind
  have hq4 : (t.op == 4) = true := by simp [h4]
  have hlv' := hlv
  obtain ⟨CL, dl, rfl, hgl⟩ := hlv
  obtain ⟨bl, ol, rfl, hbl, hget⟩ := hgl (by omega)
  have hAC := fun (W : World) (y : Value) (hW : TmIn W y (atRBinding l i).f1) (hpW : PairsAt W A t.perm) => l2Act_any (szT (atRBinding l i).f1) (atRBinding l i).f1 (Nat.le_refl _) hsz hP W y A c t.perm hW hpW hl
  rw [hcan]
  generalize hr : actT t.perm (atRBinding l i).f1 = r at *
  clear hcan hfb hfi h4 hk hr hsz hP
  go_enter Tryz.func38, Tryz.ntmps38
  go_wp2_with fail
  refine hfind.mono ?_
  rintro e w1 ⟨rfl, hb1⟩
  have hbw1 := hb0.trans (hb1.mono hb0.size)
  obtain ⟨hres, hbox⟩ := box_row hb1
  have hs1 : w.heap.size + 2 ≤ w1.heap.size := by have h := hb1.size; rw [World.size_alloc, World.size_alloc] at h; exact h
  have hdw : Below w1.heap.size w1 w1.drew := ⟨rfl, rfl, rfl, Nat.le_refl _, fun _ _ => rfl⟩
  have hbd := hbw1.trans (hdw.mono hbw1.size)
  have HBOX := Lib.hid (fun (W : World) (h : Below w1.heap.size w1 W) => BoxR.row4 ((h.block w.heap.size (by omega)).trans hbox))
  have HRES := Lib.hid (fun (W : World) (h : Below w1.heap.size w1 W) => (h.block (w.heap.size + 1) (by omega)).trans hres)
  have HEL := Lib.hid (fun (W : World) (h : Below w.heap.size w W) => (hget i hi).below hbl h)
  obtain ⟨m0, m1, m2, m3⟩ := HBOX.out w1.drew hdw
  obtain ⟨k0, k1, k2, k3⟩ := HBOX.out w1 (Below.refl _ _)
  obtain ⟨A1, c1, B1, d1, e0, e1, e2, e3, e4, ht⟩ := HEL.out w1.drew hbd
  have hac := hAC w1.drew _ ht (hp.below hbd)
  have hi0 : (0 : Int) ≤ (i : Int) := by omega
  have hi1 : (i : Int) < (l.length : Int) := by omega
  have HBD := Lib.hid hbd
  have HDW := Lib.hid hdw
  have hne0 : w.heap.size ≠ w.heap.size + 1 := by omega
  have hne1 : bl ≠ w.heap.size + 1 := by omega
  have HCL := Lib.hid (fun (W : World) (h : Below w1.drew.heap.size w1.drew W) => (⟨(h.cell (p := ⟨bl, ol + i * 5 + 1, none⟩) (Nat.lt_of_lt_of_le hbl hbd.size)).trans e1, (h.cell (p := ⟨bl, ol + i * 5 + 2, none⟩) (Nat.lt_of_lt_of_le hbl hbd.size)).trans e2, (h.cell (p := ⟨bl, ol + i * 5 + 3, none⟩) (Nat.lt_of_lt_of_le hbl hbd.size)).trans e3, (h.cell (p := ⟨bl, ol + i * 5 + 4, none⟩) (Nat.lt_of_lt_of_le hbl hbd.size)).trans e4⟩ :
      W.cell? ⟨bl, ol + i * 5 + 1, none⟩ = some (.int .i64 (atRBinding l i).f1.op) ∧ W.cell? ⟨bl, ol + i * 5 + 2, none⟩ = some (.int .i64 (atRBinding l i).f1.num) ∧ W.cell? ⟨bl, ol + i * 5 + 3, none⟩ = some (.slice A1 (atRBinding l i).f1.perm.length c1) ∧ W.cell? ⟨bl, ol + i * 5 + 4, none⟩ = some (.slice B1 (atRBinding l i).f1.kids.length d1)))
  clear hfind hlv' hget hgl hAC hp hbox hres hbd hdw ht HEL e0
  generalize (atRBinding l i).f1 = u at *
  go_wp2
  go_region_held3 (fun w' => w'.cell? ⟨w.heap.size, 2, none⟩ = some (.slice A t.perm.length c) ∧ w'.cell? ⟨bl, ol + i * 5 + 1, none⟩ = some (.int .i64 u.op) ∧ w'.cell? ⟨bl, ol + i * 5 + 2, none⟩ = some (.int .i64 u.num) ∧ w'.cell? ⟨bl, ol + i * 5 + 3, none⟩ = some (.slice A1 u.perm.length c1) ∧ w'.cell? ⟨bl, ol + i * 5 + 4, none⟩ = some (.slice B1 u.kids.length d1))
    (first | ((try dsimp only); (with_reducible exact ⟨by assumption, by assumption, by assumption, by assumption, by assumption⟩)) | (with_reducible exact ⟨BoxR.set4_keep (by assumption) (by assumption), BoxR.set4_keep (by assumption) (by assumption), BoxR.set4_keep (by assumption) (by assumption), BoxR.set4_keep (by assumption) (by assumption), BoxR.set4_keep (by assumption) (by assumption)⟩) | go_keep)
    (first
      | (go_at_call 87; refine hac.mono ?_; rintro e w5 ⟨A6, c6, B6, d6, S6, rfl, hL6, hS6, hb5⟩; have hb15 := HDW.out.trans (hb5.mono HDW.out.size); obtain ⟨n0, n1, n2, n3⟩ := HBOX.out w5 hb15; obtain ⟨x1, x2, x3, x4⟩ := HCL.out w5 hb5; have hres6 := HRES.out w5 hb15; obtain ⟨r0, r1, r2, r3⟩ := BoxR.row4 hres6; have z0 := frozen_of_row _ _ 0 _ _ hres6; have z1 := frozen_of_row _ _ 1 _ _ hres6; have z2 := frozen_of_row _ _ 2 _ _ hres6; have z3 := frozen_of_row _ _ 3 _ _ hres6)
      | fail)
  have hsd : w1.heap.size ≤ w1.drew.heap.size := HDW.out.size
  have hS9 : ∀ b ∈ S6, w.heap.size + 2 ≤ b := fun b hb => by have := hS6 b hb; omega
  have hbz := HBD.out.trans (hb5.mono HBD.out.size)
  have hpost : TmOut r w (.returned (.agg #[.int .i64 r.op, .int .i64 r.num, .slice A6 r.perm.length c6, .slice B6 r.kids.length d6])) ((((w5.setCell ⟨w.heap.size + 1, 0, none⟩ (.int .i64 r.op)).setCell ⟨w.heap.size + 1, 1, none⟩ (.int .i64 r.num)).setCell ⟨w.heap.size + 1, 2, none⟩ (.slice A6 r.perm.length c6)).setCell ⟨w.heap.size + 1, 3, none⟩ (.slice B6 r.kids.length d6)) :=
    ⟨A6, c6, B6, d6, S6, rfl, set4_own hL6 (fun b hb => by have := hS9 b hb; omega) _ _ _ _, fun b hb => by have := hS9 b hb; omega, set4_below hbz (by omega) _ _ _ _⟩
  clear hac hL6 hS6 hS9 hb5 hbz HBD HDW HCL HBOX HRES hb15 hres6 m0 m1 m2 m3 k0 k1 k2 k3 e1 e2 e3 e4 n0 n1 n2 n3 x1 x2 x3 x4 hb1 hbw1 hb0
  go_wp2
  exact bodyPost_ret (v := .agg #[.int .i64 r.op, .int .i64 r.num, .slice A6 r.perm.length c6, .slice B6 r.kids.length d6]) (by simp [results, Tryz.results38, go_sem, r0, r1, r2, r3]) rfl hpost

theorem l3Do_any (l : List RBinding) (hsub : subB l = true) : ∀ (N : Nat) (t : Tm), szT t ≤ N → N ≤ 1048576 → OkP 1048576 t → ∀ (w : World) (lv x : Value), RBindingsIn w lv l → TmIn w x t → Calls Tryz.prog 38 #[lv, x] w (TmOut (doT l t) w) := by
  intro N
  induction N with
  | zero => intro t h; rw [szT_eq] at h; omega
  | succ N ih =>
    intro t hN hM hP w lv x hlv hx
    have hpl : t.perm.length ≤ 1048576 := by
      cases t with
      | mk o n p ks => exact hP.2.1
    have hll : l.length ≤ 1048576 := by have := sub_len hsub; omega
    rw [szT_eq] at hN
    have hlen := len_szTs t.kids
    have hkids : (∀ i, i < t.kids.length → ∀ (w' : World) (y : Value), Below w.heap.size w w' → TmIn w' y (tmAt t.kids i) → Calls Tryz.prog 38 #[lv, y] w' (TmOut (doT l (tmAt t.kids i)) w')) := fun i hi w' y hb hy => by
      have := szT_at hi
      exact ih _ (by omega) (by omega) (okP_at (okP_kids hP) hi) w' lv y (hlv.below hb) hy
    by_cases h4 : t.op = 4
    · rcases find_cases l t.num with ⟨i, hi, h1, h2⟩ | ⟨h1, h2⟩
      · have ht := sub_term hsub hi
        exact l3Do_hole l lv t x w hlv hll hx h4 i hi h1 h2 hpl (by have := term_size ht; omega) (okP_le (by decide) (okP_good (term_good ht)))
      · exact l3Do_kids l lv t x w hlv hll hx (fun _ => h2) hpl (by omega) hkids
    · exact l3Do_kids l lv t x w hlv hll hx (fun h => absurd h h4) hpl (by omega) hkids
end Go.Proofs.YtlhjgjfnmejiaaaGreat
end

section
namespace Go.Proofs.YtlhjgjfnmejiaaaGreat
open Go.RowKit Go.Sort Go.ChangeShapes Go.WideShapes
set_option linter.unusedVariables false

set_option maxRecDepth 100000 in
set_option maxHeartbeats 8000000 in
/-- ApplySubstitution of the model. -/
theorem applySub_spec (l : List RBinding) (t : Tm) (lv xt : Value) (w : World) (hlv : RBindingsIn w lv l) (hxt : TmIn w xt t) (hll : l.length ≤ 1048576) (hlc : ∀ k, k < l.length → cntT (atRBinding l k).f1 ≤ 1048576) (hct : cntT t ≤ 1048576) :
    Calls Tryz.prog 37 #[lv, xt] w (TmOutB (orT (doT l t) (doB l t)) (doB l t) w) := by
  have hLV := hlv
  obtain ⟨CL, dl, rfl, hgl⟩ := hlv
  clear hgl
  have hXt := hxt
  obtain ⟨At, ct, kvt, rfl, hpt, hkt⟩ := hxt
  obtain ⟨Bt, dt, rfl⟩ := hkt.form
  have hb0 : Below w.heap.size w ((w.alloc (.cells #[.int .i64 t.op, .int .i64 t.num, .slice At t.perm.length ct, .slice Bt t.kids.length dt] 46)).alloc (.cells #[.int .i64 0, .int .i64 0, .slice none 0 0, .slice none 0 0] 46)) := (((Below.refl _ w).alloc (by first | exact Nat.le_refl _ | (simp; done) | (simp; omega)) _).alloc (by first | exact Nat.le_refl _ | (simp; done) | (simp; omega)) _)
  have hsz : ((w.alloc (.cells #[.int .i64 t.op, .int .i64 t.num, .slice At t.perm.length ct, .slice Bt t.kids.length dt] 46)).alloc (.cells #[.int .i64 0, .int .i64 0, .slice none 0 0, .slice none 0 0] 46)).heap.size = w.heap.size + 2 := by simp
  have kkt : ((w.alloc (.cells #[.int .i64 t.op, .int .i64 t.num, .slice At t.perm.length ct, .slice Bt t.kids.length dt] 46)).alloc (.cells #[.int .i64 0, .int .i64 0, .slice none 0 0, .slice none 0 0] 46)).heap[w.heap.size]? = some (.cells #[.int .i64 t.op, .int .i64 t.num, .slice At t.perm.length ct, .slice Bt t.kids.length dt] 46 (0, 0)) := by
    have h := heap_alloc_new w (.cells #[.int .i64 t.op, .int .i64 t.num, .slice At t.perm.length ct, .slice Bt t.kids.length dt] 46)
    exact ((Below.heap_alloc _ _ _ (by first | (simp; done) | (simp; omega))).trans h)
  have kkR : ((w.alloc (.cells #[.int .i64 t.op, .int .i64 t.num, .slice At t.perm.length ct, .slice Bt t.kids.length dt] 46)).alloc (.cells #[.int .i64 0, .int .i64 0, .slice none 0 0, .slice none 0 0] 46)).heap[w.heap.size + 1]? = some (.cells #[.int .i64 0, .int .i64 0, .slice none 0 0, .slice none 0 0] 46 (0, 0)) := by
    have h := heap_alloc_new (w.alloc (.cells #[.int .i64 t.op, .int .i64 t.num, .slice At t.perm.length ct, .slice Bt t.kids.length dt] 46)) (.cells #[.int .i64 0, .int .i64 0, .slice none 0 0, .slice none 0 0] 46)
    simp only [World.size_alloc] at h
    exact h
  have HSZ := Lib.hid hsz
  have HCt := Lib.hid (fun (w' : World) (h : Below ((w.alloc (.cells #[.int .i64 t.op, .int .i64 t.num, .slice At t.perm.length ct, .slice Bt t.kids.length dt] 46)).alloc (.cells #[.int .i64 0, .int .i64 0, .slice none 0 0, .slice none 0 0] 46)).heap.size ((w.alloc (.cells #[.int .i64 t.op, .int .i64 t.num, .slice At t.perm.length ct, .slice Bt t.kids.length dt] 46)).alloc (.cells #[.int .i64 0, .int .i64 0, .slice none 0 0, .slice none 0 0] 46)) w') => BoxR.row4 ((h.block (w.heap.size) (by rw [hsz]; omega)).trans kkt))
  have HIt : Hid (∀ w' : World, Below ((w.alloc (.cells #[.int .i64 t.op, .int .i64 t.num, .slice At t.perm.length ct, .slice Bt t.kids.length dt] 46)).alloc (.cells #[.int .i64 0, .int .i64 0, .slice none 0 0, .slice none 0 0] 46)).heap.size ((w.alloc (.cells #[.int .i64 t.op, .int .i64 t.num, .slice At t.perm.length ct, .slice Bt t.kids.length dt] 46)).alloc (.cells #[.int .i64 0, .int .i64 0, .slice none 0 0, .slice none 0 0] 46)) w' → TmIn w' (.agg #[.int .i64 t.op, .int .i64 t.num, .slice At t.perm.length ct, .slice Bt t.kids.length dt]) t) := Lib.hid (fun w' h => hXt.below (hb0.trans (h.mono hb0.size)))
  have HR := Lib.hid (fun (w' : World) (h : Below ((w.alloc (.cells #[.int .i64 t.op, .int .i64 t.num, .slice At t.perm.length ct, .slice Bt t.kids.length dt] 46)).alloc (.cells #[.int .i64 0, .int .i64 0, .slice none 0 0, .slice none 0 0] 46)).heap.size ((w.alloc (.cells #[.int .i64 t.op, .int .i64 t.num, .slice At t.perm.length ct, .slice Bt t.kids.length dt] 46)).alloc (.cells #[.int .i64 0, .int .i64 0, .slice none 0 0, .slice none 0 0] 46)) w') => (h.block (w.heap.size + 1) (by rw [hsz]; omega)).trans kkR)
  have HB0 := Lib.hid hb0
  clear hsz hb0 kkR hXt hpt hkt kkt
  have HLV : Hid (∀ w' : World, Below ((w.alloc (.cells #[.int .i64 t.op, .int .i64 t.num, .slice At t.perm.length ct, .slice Bt t.kids.length dt] 46)).alloc (.cells #[.int .i64 0, .int .i64 0, .slice none 0 0, .slice none 0 0] 46)).heap.size ((w.alloc (.cells #[.int .i64 t.op, .int .i64 t.num, .slice At t.perm.length ct, .slice Bt t.kids.length dt] 46)).alloc (.cells #[.int .i64 0, .int .i64 0, .slice none 0 0, .slice none 0 0] 46)) w' → RBindingsIn w' (.slice CL l.length dl) l) := Lib.hid (fun w' h => hLV.below (HB0.out.trans (h.mono HB0.out.size)))
  clear hLV
  cases h0 : subB l with
  | false =>
    have HT := Lib.hid (show doB l t = false by simp [doB, h0])
    go_enter Tryz.func37, Tryz.ntmps37
    have hg := isSub_spec l _ (((w.alloc (.cells #[.int .i64 t.op, .int .i64 t.num, .slice At t.perm.length ct, .slice Bt t.kids.length dt] 46)).alloc (.cells #[.int .i64 0, .int .i64 0, .slice none 0 0, .slice none 0 0] 46))) (HLV.out (((w.alloc (.cells #[.int .i64 t.op, .int .i64 t.num, .slice At t.perm.length ct, .slice Bt t.kids.length dt] 46)).alloc (.cells #[.int .i64 0, .int .i64 0, .slice none 0 0, .slice none 0 0] 46))) (Below.refl _ _)) hll hlc
    rw [h0] at hg
    go_wp2_with fail
    refine hg.mono ?_
    rintro e g0 ⟨rfl, hb0⟩
    have hw0 := hb0
    clear hg 
    have hq0 : w.heap.size + 2 ≤ g0.heap.size := by have h := hw0.size; rw [HSZ.out] at h; exact h
    have hres := HR.out g0 hw0
    obtain ⟨r0, r1, r2, r3⟩ := BoxR.row4 hres
    have z0 := frozen_of_row _ _ 0 _ _ hres
    have z1 := frozen_of_row _ _ 1 _ _ hres
    have z2 := frozen_of_row _ _ 2 _ _ hres
    have z3 := frozen_of_row _ _ 3 _ _ hres
    have hbz := HB0.out.trans (hw0.mono HB0.out.size)
    have hpost : TmOutB tm0 false w (.returned (.tuple #[.agg #[.int .i64 0, .int .i64 0, .slice none 0 0, .slice none 0 0], .bool false])) ((((g0.setCell ⟨w.heap.size + 1, 0, none⟩ (.int .i64 0)).setCell ⟨w.heap.size + 1, 1, none⟩ (.int .i64 0)).setCell ⟨w.heap.size + 1, 2, none⟩ (.slice none 0 0)).setCell ⟨w.heap.size + 1, 3, none⟩ (.slice none 0 0)) :=
      ⟨none, 0, none, 0, _, rfl, own_four own_none own_nokids (fun b hb => by simp at hb), fun b hb => by simp at hb, set4_below hbz (by omega) _ _ _ _⟩
    clear hres hbz HR HB0 HSZ HCt HIt hct hll hlc HLV  h0 
    go_wp2
    exact bodyPost_ret (v := .tuple #[.agg #[.int .i64 0, .int .i64 0, .slice none 0 0, .slice none 0 0], .bool false]) (by simp [results, Tryz.results37, go_sem, r0, r1, r2, r3]) rfl (by rw [HT.out, orT_no]; exact hpost)
  | true =>
    cases h1 : isTermB t with
    | false =>
      have HT := Lib.hid (show doB l t = false by simp [doB, h0, h1])
      go_enter Tryz.func37, Tryz.ntmps37
      have hg := isSub_spec l _ (((w.alloc (.cells #[.int .i64 t.op, .int .i64 t.num, .slice At t.perm.length ct, .slice Bt t.kids.length dt] 46)).alloc (.cells #[.int .i64 0, .int .i64 0, .slice none 0 0, .slice none 0 0] 46))) (HLV.out (((w.alloc (.cells #[.int .i64 t.op, .int .i64 t.num, .slice At t.perm.length ct, .slice Bt t.kids.length dt] 46)).alloc (.cells #[.int .i64 0, .int .i64 0, .slice none 0 0, .slice none 0 0] 46))) (Below.refl _ _)) hll hlc
      rw [h0] at hg
      go_wp2_with fail
      refine hg.mono ?_
      rintro e g0 ⟨rfl, hb0⟩
      have hw0 := hb0
      clear hg 
      have hq0 : w.heap.size + 2 ≤ g0.heap.size := by have h := hw0.size; rw [HSZ.out] at h; exact h
      obtain ⟨e1t0, e1t1, e1t2, e1t3⟩ := HCt.out g0 hw0
      have hg := isTerm_spec t _ (g0) (HIt.out (g0) hw0) hct
      rw [h1] at hg
      go_wp2_with fail
      refine hg.mono ?_
      rintro e g1 ⟨rfl, hb1⟩
      have hw1 := hw0.trans (hb1.mono hw0.size)
      clear hg e1t0 e1t1 e1t2 e1t3
      have hq1 : w.heap.size + 2 ≤ g1.heap.size := by have h := hw1.size; rw [HSZ.out] at h; exact h
      have hres := HR.out g1 hw1
      obtain ⟨r0, r1, r2, r3⟩ := BoxR.row4 hres
      have z0 := frozen_of_row _ _ 0 _ _ hres
      have z1 := frozen_of_row _ _ 1 _ _ hres
      have z2 := frozen_of_row _ _ 2 _ _ hres
      have z3 := frozen_of_row _ _ 3 _ _ hres
      have hbz := HB0.out.trans (hw1.mono HB0.out.size)
      have hpost : TmOutB tm0 false w (.returned (.tuple #[.agg #[.int .i64 0, .int .i64 0, .slice none 0 0, .slice none 0 0], .bool false])) ((((g1.setCell ⟨w.heap.size + 1, 0, none⟩ (.int .i64 0)).setCell ⟨w.heap.size + 1, 1, none⟩ (.int .i64 0)).setCell ⟨w.heap.size + 1, 2, none⟩ (.slice none 0 0)).setCell ⟨w.heap.size + 1, 3, none⟩ (.slice none 0 0)) :=
        ⟨none, 0, none, 0, _, rfl, own_four own_none own_nokids (fun b hb => by simp at hb), fun b hb => by simp at hb, set4_below hbz (by omega) _ _ _ _⟩
      clear hres hbz HR HB0 HSZ HCt HIt hct hll hlc HLV  h0 h1 
      go_wp2
      exact bodyPost_ret (v := .tuple #[.agg #[.int .i64 0, .int .i64 0, .slice none 0 0, .slice none 0 0], .bool false]) (by simp [results, Tryz.results37, go_sem, r0, r1, r2, r3]) rfl (by rw [HT.out, orT_no]; exact hpost)
    | true =>
      have HT := Lib.hid (doB_yes h0 h1)
      have hbd := do_bounds h0 h1
      have HDO := Lib.hid (fun (W : World) (y : Value) (h1x : RBindingsIn W (.slice CL l.length dl) l) (hW : TmIn W y t) => l3Do_any l h0 (szT t) t (Nat.le_refl _) (by have := term_size h1; omega) (okP_le (by decide) (okP_good (term_good h1))) W _ y h1x hW)
      have HIS := Lib.hid (fun (W : World) (y : Value) (hW : TmIn W y (doT l t)) => isTerm_spec (doT l t) y W hW hbd.2.2)
      generalize doB l t = bb at *
      generalize doT l t = r0 at *
      obtain ⟨r, rfl⟩ : ∃ r, r = r0 := ⟨_, rfl⟩
      clear hbd
      go_enter Tryz.func37, Tryz.ntmps37
      have hg := isSub_spec l _ (((w.alloc (.cells #[.int .i64 t.op, .int .i64 t.num, .slice At t.perm.length ct, .slice Bt t.kids.length dt] 46)).alloc (.cells #[.int .i64 0, .int .i64 0, .slice none 0 0, .slice none 0 0] 46))) (HLV.out (((w.alloc (.cells #[.int .i64 t.op, .int .i64 t.num, .slice At t.perm.length ct, .slice Bt t.kids.length dt] 46)).alloc (.cells #[.int .i64 0, .int .i64 0, .slice none 0 0, .slice none 0 0] 46))) (Below.refl _ _)) hll hlc
      rw [h0] at hg
      go_wp2_with fail
      refine hg.mono ?_
      rintro e g0 ⟨rfl, hb0⟩
      have hw0 := hb0
      clear hg 
      have hq0 : w.heap.size + 2 ≤ g0.heap.size := by have h := hw0.size; rw [HSZ.out] at h; exact h
      obtain ⟨e1t0, e1t1, e1t2, e1t3⟩ := HCt.out g0 hw0
      have hg := isTerm_spec t _ (g0) (HIt.out (g0) hw0) hct
      rw [h1] at hg
      go_wp2_with fail
      refine hg.mono ?_
      rintro e g1 ⟨rfl, hb1⟩
      have hw1 := hw0.trans (hb1.mono hw0.size)
      clear hg e1t0 e1t1 e1t2 e1t3
      have hq1 : w.heap.size + 2 ≤ g1.heap.size := by have h := hw1.size; rw [HSZ.out] at h; exact h
      clear h0 h1 hct hll hlc 
      obtain ⟨e2t0, e2t1, e2t2, e2t3⟩ := HCt.out g1 hw1
      have hy0 := HDO.out (g1) _ (HLV.out (g1) hw1) (HIt.out (g1) hw1)
      go_wp2_with fail
      refine hy0.mono ?_
      rintro e w4 ⟨A6, c6, B6, d6, S6, rfl, hL6, hS6, hb4⟩
      have hbx : Below w4.heap.size w4 (w4.alloc (.cells #[.int .i64 r.op, .int .i64 r.num, .slice A6 r.perm.length c6, .slice B6 r.kids.length d6] 46)) := (Below.refl _ _).alloc (Nat.le_refl _) _
      have hit := HIS.out (w4.alloc (.cells #[.int .i64 r.op, .int .i64 r.num, .slice A6 r.perm.length c6, .slice B6 r.kids.length d6] 46)) _ ((tm_box hL6).below hbx)
      have hw4 := hw1.trans (hb4.mono hw1.size)
      have hq4 : w.heap.size + 2 ≤ g1.heap.size := by have h := hw1.size; rw [HSZ.out] at h; exact h
      have hS9 : ∀ b ∈ S6, w.heap.size + 2 ≤ b := fun b hb => Nat.le_trans hq4 (hS6 b hb)
      clear hy0 hS6 e2t0 e2t1 e2t2 e2t3
      cases hit6 : isTermB r with
      | false =>
        rw [hit6] at hit
        have HT6 := Lib.hid hit6
        clear hit6
        go_wp2_with fail
        refine hit.mono ?_
        rintro e w6 ⟨rfl, hb6⟩
        have hw6 := hw4.trans ((hbx.trans (hb6.mono hbx.size)).mono hw4.size)
        have hres := HR.out w6 hw6
        obtain ⟨r0, r1, r2, r3⟩ := BoxR.row4 hres
        have z0 := frozen_of_row _ _ 0 _ _ hres
        have z1 := frozen_of_row _ _ 1 _ _ hres
        have z2 := frozen_of_row _ _ 2 _ _ hres
        have z3 := frozen_of_row _ _ 3 _ _ hres
        have hbz := HB0.out.trans (hw6.mono HB0.out.size)
        have hpost : TmOutB tm0 false w (.returned (.tuple #[.agg #[.int .i64 0, .int .i64 0, .slice none 0 0, .slice none 0 0], .bool false])) ((((w6.setCell ⟨w.heap.size + 1, 0, none⟩ (.int .i64 0)).setCell ⟨w.heap.size + 1, 1, none⟩ (.int .i64 0)).setCell ⟨w.heap.size + 1, 2, none⟩ (.slice none 0 0)).setCell ⟨w.heap.size + 1, 3, none⟩ (.slice none 0 0)) :=
          ⟨none, 0, none, 0, _, rfl, own_four own_none own_nokids (fun b hb => by simp at hb), fun b hb => by simp at hb, set4_below hbz (by omega) _ _ _ _⟩
        clear hres hbz HR HB0 HSZ hit hL6 hS9 hbx hb6 hw4 hw6 HCt HIt
        go_wp2
        exact bodyPost_ret (v := .tuple #[.agg #[.int .i64 0, .int .i64 0, .slice none 0 0, .slice none 0 0], .bool false]) (by simp [results, Tryz.results37, go_sem, r0, r1, r2, r3]) rfl ((by rw [HT.out, HT6.out, orT_no]; exact hpost))
      | true =>
        rw [hit6] at hit
        have HT6 := Lib.hid hit6
        clear hit6
        go_wp2_with fail
        refine hit.mono ?_
        rintro e w6 ⟨rfl, hb6⟩
        obtain ⟨o0, o1, o2, o3⟩ := box4 hb6
        have hb46 := hbx.trans (hb6.mono hbx.size)
        have hw6 := hw4.trans (hb46.mono hw4.size)
        have hres := HR.out w6 hw6
        obtain ⟨r0, r1, r2, r3⟩ := BoxR.row4 hres
        have z0 := frozen_of_row _ _ 0 _ _ hres
        have z1 := frozen_of_row _ _ 1 _ _ hres
        have z2 := frozen_of_row _ _ 2 _ _ hres
        have z3 := frozen_of_row _ _ 3 _ _ hres
        have hbz := HB0.out.trans (hw6.mono HB0.out.size)
        have hL9 := hL6.alike (w' := w6) (fun b hb => hb46.block b (hL6.lt b hb))
        have hpost : TmOutB r true w (.returned (.tuple #[.agg #[.int .i64 r.op, .int .i64 r.num, .slice A6 r.perm.length c6, .slice B6 r.kids.length d6], .bool true])) ((((w6.setCell ⟨w.heap.size + 1, 0, none⟩ (.int .i64 r.op)).setCell ⟨w.heap.size + 1, 1, none⟩ (.int .i64 r.num)).setCell ⟨w.heap.size + 1, 2, none⟩ (.slice A6 r.perm.length c6)).setCell ⟨w.heap.size + 1, 3, none⟩ (.slice B6 r.kids.length d6)) :=
          ⟨A6, c6, B6, d6, S6, rfl, set4_own hL9 (fun b hb => by have := hS9 b hb; omega) _ _ _ _, fun b hb => by have := hS9 b hb; omega, set4_below hbz (by omega) _ _ _ _⟩
        clear hres hbz HR HB0 HSZ hit hL6 hS9 hbx hb6 hw4 hw6 HCt HIt hL9 hb46
        go_wp2
        exact bodyPost_ret (v := .tuple #[.agg #[.int .i64 r.op, .int .i64 r.num, .slice A6 r.perm.length c6, .slice B6 r.kids.length d6], .bool true]) (by simp [results, Tryz.results37, go_sem, r0, r1, r2, r3]) rfl ((by rw [HT.out, HT6.out, orT_yes]; exact hpost))
end Go.Proofs.YtlhjgjfnmejiaaaGreat
end

