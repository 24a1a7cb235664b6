/-
  All terms within a term, in the program, as contracts. IsTerm in the program, as a contract. The holes of a term, in plain words; whether a term has holes and whether it is ground, in the model, as contracts. The holes of a term, and the terms within it: plain words. Acting with a permutation on a term: plain words, no program is walked here. The free atoms of a term: plain words, and in the model as a contract.
-/
import Derived.Test.YtlhjgjfnmejiaaaGreatKComesOf7
import Derived.Test.YtlhjgjfnmejiaaaGreatKComesOf6
import Derived.Laws.AppendOwnNone
import Derived.Maps.AppendAt
section
namespace Go.Proofs.YtlhjgjfnmejiaaaGreat
section
open Go.RowKit Go.Sort

theorem term_infoI : (Tryz.prog.info? 46).map (fun i => (i.zero, i.size, i.bytes)) = some (some (.agg #[.int .i64 0, .int .i64 0, .slice none 0 0, .slice none 0 0]), 4, 64) := by kernel_rfl

/-- The terms within a term, each of whose slices is the term's own, in a row of the call's own; or nothing and false. -/
def WithinPost (t : Tm) (w : World) (e : Ending) (w' : World) : Prop :=
  Below w.heap.size w w' ∧ ((isTermB t = false ∧ e = .returned (.tuple #[.slice none 0 0, .bool false])) ∨
    (isTermB t = true ∧ ∃ (F : List Tm) (g cap : Nat) (xs : List Value), e = .returned (.tuple #[.slice (some ⟨g, 0, none⟩) F.length cap, .bool true]) ∧ F.length = szT t ∧ (∀ y, y ∈ F ↔ y ∈ nodesT t) ∧
      w'.ownsRow w.heap.size 46 4 (.slice (some ⟨g, 0, none⟩) F.length cap) F.length xs ∧ AtL w xs (encTs F)))

theorem own_row_form {w : World} {base : Nat} {e : TypeId} {size n : Nat} {v : Value} {xs : List Value} (h : w.ownsRow base e size v n xs) (hn : 0 < n) : ∃ g cap, v = .slice (some ⟨g, 0, none⟩) n cap := by
  rcases h.2 with ⟨_, h0⟩ | ⟨g, cap, cur, rfl, _⟩
  · omega
  · exact ⟨g, cap, rfl⟩

/-- All within, about an earlier world. -/
def NodesPost (t : Tm) (w0 w : World) (e : Ending) (w' : World) : Prop :=
  Below w.heap.size w w' ∧ ((isTermB t = false ∧ e = .returned (.tuple #[.slice none 0 0, .bool false])) ∨
    (isTermB t = true ∧ ∃ (F : List Tm) (g cap : Nat) (xs : List Value), e = .returned (.tuple #[.slice (some ⟨g, 0, none⟩) F.length cap, .bool true]) ∧ F.length = szT t ∧ (∀ y, y ∈ F ↔ y ∈ nodesT t) ∧
      w'.ownsRow w.heap.size 46 4 (.slice (some ⟨g, 0, none⟩) F.length cap) F.length xs ∧ AtL w0 xs (encTs F)))
theorem nodes_no {t : Tm} {w0 w w' : World} (h : isTermB t = false) (hb : Below w.heap.size w w') : NodesPost t w0 w (.returned (.tuple #[.slice none 0 0, .bool false])) w' := ⟨hb, .inl ⟨h, rfl⟩⟩

set_option maxRecDepth 100000 in
theorem kidsOfTerm_any (o n : Int) (A B : Option Addr) (pl c kl d : Nat) (w : World) :
    Calls Tryz.prog 172 #[.agg #[.int .i64 o, .int .i64 n, .slice A pl c, .slice B kl d]] w fun e w' => e = .returned (.slice B kl d) ∧ Below w.heap.size w w' := by
  have hb0 : Below w.heap.size w (w.alloc (.cells #[.int .i64 o, .int .i64 n, .slice A pl c, .slice B kl d] 46)) := (Below.refl _ _).alloc (Nat.le_refl _) _
  go_enter Tryz.func172, Tryz.ntmps172
  go_wp2
  go_ret
  exact ⟨rfl, hb0⟩

set_option maxRecDepth 100000 in
set_option maxHeartbeats 4000000 in
theorem nodesT_any (t : Tm) (x : Value) (w0 w : World) (hx : TmIn w0 x t) (hw : Below w0.heap.size w0 w) (hf : Fit t) :
    Calls Tryz.prog 171 #[x, .func (.func 172) #[] #[], .func (.func 173) #[] #[]] w (NodesPost t w0 w) := by
  obtain ⟨i0, hi0, hz0, hz1, hz2⟩ := info_parts term_infoI
  have HS := Lib.hid hz2
  clear hz2
  obtain ⟨A, c, kv, rfl, hp, hk⟩ := hx
  obtain ⟨B, d, rfl⟩ := hk.form
  have hb0 : Below w.heap.size w ((w.alloc (.cells #[.int .i64 t.op, .int .i64 t.num, .slice A t.perm.length c, .slice B t.kids.length d] 46)).alloc (.cells #[.int .i64 t.op, .int .i64 t.num, .slice A t.perm.length c, .slice B t.kids.length d] 46)) := ((Below.refl _ _).alloc (Nat.le_refl _) _).alloc (by simp) _
  have ho0 : ((w.alloc (.cells #[.int .i64 t.op, .int .i64 t.num, .slice A t.perm.length c, .slice B t.kids.length d] 46)).alloc (.cells #[.int .i64 t.op, .int .i64 t.num, .slice A t.perm.length c, .slice B t.kids.length d] 46)).ownsRow w.heap.size 46 4 (.slice (some ⟨w.heap.size + 1, 0, none⟩) 1 1) 1 [.int .i64 t.op, .int .i64 t.num, .slice A t.perm.length c, .slice B t.kids.length d] := by
    have h9 := World.ownsRow_lit (base := (w.alloc (.cells #[.int .i64 t.op, .int .i64 t.num, .slice A t.perm.length c, .slice B t.kids.length d] 46)).heap.size) (e := 46) (size := 4) (w.alloc (.cells #[.int .i64 t.op, .int .i64 t.num, .slice A t.perm.length c, .slice B t.kids.length d] 46)) #[.int .i64 t.op, .int .i64 t.num, .slice A t.perm.length c, .slice B t.kids.length d] 1 (Nat.le_refl _) (by decide) rfl
    rw [World.size_alloc] at h9
    exact own_le h9 (by omega)
  have hL0 : AtL w0 [.int .i64 t.op, .int .i64 t.num, .slice A t.perm.length c, .slice B t.kids.length d] (encTs [t]) := by
    rw [show encTs [t] = encT t by simp [encTs]]
    exact atL_term hp hk
  have HW := Lib.hid (walk_start t)
  have HF : Fits [t] := ⟨hf, trivial⟩
  go_enter Tryz.func171, Tryz.ntmps171
  go_wp2
  go_loopw [8, 9] (fun v i wr => ∃ (F : List Tm) (k g cap : Nat) (xs : List Value), i = .int .i64 k ∧ v = .slice (some ⟨g, 0, none⟩) F.length cap ∧ Hid (Walk t F k) ∧ Fits F ∧ F.length ≤ 60 ∧
    wr.ownsRow w.heap.size 46 4 v F.length xs ∧ AtL w0 xs (encTs F) ∧ Below w.heap.size w wr) (fun _ i _ => 60 - (intOf i).toNat)
  case atStart => exact ⟨[t], 0, w.heap.size + 1, 1, _, rfl, rfl, HW, HF, by simp, ho0, hL0, hb0⟩
  case round =>
    clear ho0 hL0 hb0 HW HF hp hk
    obtain ⟨F, k, g, cap, xs, rfl, rfl, hW, hF, h60, ho, hL, hb⟩ := hrel
    by_cases hlt : k < F.length
    · obtain ⟨A1, c1, B1, d1, e0, e1, e2, e3, hp1, hk1⟩ := hL.term hlt
      have hxl := ho.1
      have g0 := (ho.cellAt (k * 4) (by omega)).trans e0
      have g1 := (ho.cellAt (k * 4 + 1) (by omega)).trans e1
      have g2 := (ho.cellAt (k * 4 + 2) (by omega)).trans e2
      have g3 := (ho.cellAt (k * 4 + 3) (by omega)).trans e3
      have hfu := (fit_eq _).1 (fits_at hF hlt)
      have hsh := fun wz (hz : Below wr.heap.size wr wz) => shape_impl_any (tmAt F k) _ wz ⟨A1, c1, _, rfl, ((hp1.below hw).below hb).below hz, ((hk1.below hw).below hb).below hz⟩ hfu.1 hfu.2.1
      have hbad := fun h => Lib.hid (walk_bad hW.out hlt h)
      have hgreat := fun h => Lib.hid (walk_great hW.out hlt h)
      have hnext := fun h h' => Lib.hid (walk_next hW.out hlt h h')
      generalize tmAt F k = u at g0 g1 g2 g3 hfu hsh hbad hgreat hnext hp1 hk1
      clear e0 e1 e2 e3 hp1 hf
      have hko := kidsOfTerm_any u.op u.num A1 B1 u.perm.length c1 u.kids.length d1 wr
      by_cases hs : shapeB u = true
      · rw [hs] at hsh
        by_cases hl : F.length + u.kids.length ≤ 60
        · have hW2 := hnext hs hl
          have hF2 : Fits (F ++ u.kids) := by
            have : ∀ a b : List Tm, Fits a → Fits b → Fits (a ++ b) := by
              intro a
              induction a with
              | nil => intro b _ h; exact h
              | cons t r ih => intro b h h'; exact ⟨h.1, ih b h.2 h'⟩
            exact this _ _ hF hfu.2.2
          clear hbad hgreat hnext hs
          have hle : ¬ (60 : Int) < (F.length : Int) + (u.kids.length : Int) := by omega
          go_wp2_with fail
          refine hko.mono ?_
          rintro e w1 ⟨rfl, hb1⟩
          have hsh1 := hsh w1 hb1
          have g0 := (hb1.cell (p := ⟨g, k * 4, none⟩) (ho.lt g rfl).2).trans g0
          have g1 := (hb1.cell (p := ⟨g, k * 4 + 1, none⟩) (ho.lt g rfl).2).trans g1
          have g2 := (hb1.cell (p := ⟨g, k * 4 + 2, none⟩) (ho.lt g rfl).2).trans g2
          have g3 := (hb1.cell (p := ⟨g, k * 4 + 3, none⟩) (ho.lt g rfl).2).trans g3
          go_wp2_with fail
          refine hsh1.mono ?_
          rintro e w2 ⟨rfl, hb2⟩
          have hb2 := hb1.trans (hb2.mono hb1.size)
          have ho2 := own_below ho hb2
          have hb3 := hb.trans (hb2.mono hb.size)
          clear hsh hsh1 hko hb1 ho hb hb2 g0 g1 g2 g3
          cases B1 with
          | none =>
            obtain ⟨hk0, rfl⟩ := tms_none hk1
            rw [hk0] at hW2 hF2 hle ⊢
            rw [List.append_nil] at hW2
            clear hF2
            go_wp2_with (at_builtin; refine wpList_append_own_none rfl (.tmp 40) (.tmp 41) 44 rfl w.heap.size 46 i0 4 Tryz.underlying44 hi0 _ F.length xs rfl ho2 rfl ?_)
            go_wp2
            refine ⟨⟨F, k + 1, g, cap, xs, by go_num, rfl, hW2, hF, h60, ho2, hL, hb3⟩, ?_⟩
            simp only [intOf]
            omega
          | some ad =>
            obtain ⟨ys, hyl, hLy, hcy⟩ := hk1.cells
            have hlt0 : ∀ j v, ys[j]? = some v → (ad.add j).block < w0.heap.size := fun j v hj => World.block_lt_of_cell? w0 _ (hcy j v hj)
            have hcy2 : ∀ j v, ys[j]? = some v → w2.cell? (ad.add j) = some v := fun j v hj => (hb3.cell (Nat.lt_of_lt_of_le (hlt0 j v hj) hw.size)).trans ((hw.cell (hlt0 j v hj)).trans (hcy j v hj))
            have HC := Lib.hid hcy2
            have hL2 := hL.append hLy
            rw [← encTs_append] at hL2
            have hyl2 := Lib.hid hyl
            have hsz := hb3.size
            clear hcy hlt0 hcy2 hk1 hyl
            go_wp2_with (at_builtin; refine wpList_append_own_at _ rfl (.tmp 40) (.tmp 41) 44 rfl w.heap.size 46 i0 _ 4 64 Tryz.underlying44 hi0 hz0 hz1 HS.out rfl (by decide) _ F.length _ rfl ho2 ad u.kids.length d1 ys rfl hyl2.out HC.out (tms_one hLy) ?c3 ?c4 ?c5 ?_)
            case c3 => unfold maxLen; omega
            case c4 => omega
            case c5 => exact hsz
            intro v5 w5 ho5 hg5 _ _
            have hb5 := below_own hb3 ho2 (Nat.le_refl _) hsz hg5
            obtain ⟨g6, cap6, rfl⟩ := own_row_form ho5 (by omega)
            have hlen : Hid (F.length + u.kids.length = (F ++ u.kids).length) := by show F.length + u.kids.length = (F ++ u.kids).length; rw [List.length_append]
            rw [hlen.out] at ho5 hl ⊢
            have hk60 : k < 60 := by omega
            clear ho2 hg5 hb3 HC hyl2 hLy hle hfu hW hF h60 hlt hlen
            go_wp2
            refine ⟨⟨F ++ u.kids, k + 1, g6, cap6, _, by go_num, rfl, hW2, hF2, hl, ho5, hL2, hb5⟩, ?_⟩
            simp only [intOf]
            omega
        · have hr := hgreat (by omega)
          have hle : (60 : Int) < (F.length : Int) + (u.kids.length : Int) := by omega
          clear hbad hgreat hnext hs hl
          go_wp2_with fail
          refine hko.mono ?_
          rintro e w1 ⟨rfl, hb1⟩
          have hsh1 := hsh w1 hb1
          have g0 := (hb1.cell (p := ⟨g, k * 4, none⟩) (ho.lt g rfl).2).trans g0
          have g1 := (hb1.cell (p := ⟨g, k * 4 + 1, none⟩) (ho.lt g rfl).2).trans g1
          have g2 := (hb1.cell (p := ⟨g, k * 4 + 2, none⟩) (ho.lt g rfl).2).trans g2
          have g3 := (hb1.cell (p := ⟨g, k * 4 + 3, none⟩) (ho.lt g rfl).2).trans g3
          go_wp2_with fail
          refine hsh1.mono ?_
          rintro e w2 ⟨rfl, hb2⟩
          have hb2 := hb1.trans (hb2.mono hb1.size)
          have hpost := nodes_no (w0 := w0) hr.out (hb.trans (hb2.mono hb.size))
          clear hsh hsh1 hko hb1 ho hb hb2 g0 g1 g2 g3 hW hL hr hk1
          go_wp2
          go_ret2
          exact hpost
      · have hs' : shapeB u = false := by simpa using hs
        rw [hs'] at hsh
        have hr := hbad hs'
        clear hbad hgreat hnext hs hs'
        go_wp2_with fail
        refine hko.mono ?_
        rintro e w1 ⟨rfl, hb1⟩
        have hsh1 := hsh w1 hb1
        have g0 := (hb1.cell (p := ⟨g, k * 4, none⟩) (ho.lt g rfl).2).trans g0
        have g1 := (hb1.cell (p := ⟨g, k * 4 + 1, none⟩) (ho.lt g rfl).2).trans g1
        have g2 := (hb1.cell (p := ⟨g, k * 4 + 2, none⟩) (ho.lt g rfl).2).trans g2
        have g3 := (hb1.cell (p := ⟨g, k * 4 + 3, none⟩) (ho.lt g rfl).2).trans g3
        go_wp2_with fail
        refine hsh1.mono ?_
        rintro e w2 ⟨rfl, hb2⟩
        have hb2 := hb1.trans (hb2.mono hb1.size)
        have hpost := nodes_no (w0 := w0) hr.out (hb.trans (hb2.mono hb.size))
        clear hsh hsh1 hko hb1 ho hb hb2 g0 g1 g2 g3 hW hL hr hk1
        go_wp2
        go_ret2
        exact hpost
    · have hwe := walk_end hW.out (by omega)
      have hpost : NodesPost t w0 w (.returned (.tuple #[.slice (some ⟨g, 0, none⟩) F.length cap, .bool true])) wr := ⟨hb, .inr ⟨hwe.1, F, g, cap, xs, rfl, hwe.2.1, hwe.2.2, ho, hL⟩⟩
      clear hwe ho hL hb hW
      go_wp2
      go_ret2
      exact hpost

set_option maxRecDepth 100000 in
theorem within_any (t : Tm) (x : Value) (w : World) (hx : TmIn w x t) (hf : Fit t) :
    Calls Tryz.prog 142 #[x] w (WithinPost t w) := by
  have hwi := fun W hW => nodesT_any t x w W hx hW hf
  clear hf
  obtain ⟨A, c, kv, rfl, hp, hk⟩ := hx
  obtain ⟨B, d, rfl⟩ := hk.form
  have hb0 : Below w.heap.size w (w.alloc (.cells #[.int .i64 t.op, .int .i64 t.num, .slice A t.perm.length c, .slice B t.kids.length d] 46)) := (Below.refl _ _).alloc (Nat.le_refl _) _
  have hw0 := hwi _ hb0
  clear hwi
  go_enter Tryz.func142, Tryz.ntmps142
  go_wp2_with fail
  refine hw0.mono ?_
  rintro e w1 ⟨hb1, ⟨hno, rfl⟩ | ⟨hyes, F, g, cap, xs, rfl, h1, h2, h3, h4⟩⟩
  · have hpost : WithinPost t w (.returned (.tuple #[.slice none 0 0, .bool false])) w1 := ⟨hb0.trans (hb1.mono hb0.size), .inl ⟨hno, rfl⟩⟩
    clear hw0 hb0 hb1 hp hk hno
    go_wp2
    go_ret2
    exact hpost
  · have hpost : WithinPost t w (.returned (.tuple #[.slice (some ⟨g, 0, none⟩) F.length cap, .bool true])) w1 := ⟨hb0.trans (hb1.mono hb0.size), .inr ⟨hyes, F, g, cap, xs, rfl, h1, h2, own_le h3 hb0.size, h4⟩⟩
    clear hw0 hb0 hb1 hp hk hyes h1 h2 h3 h4
    go_wp2
    go_ret2
    exact hpost
end

section
open Go.RowKit Go.Sort

set_option maxRecDepth 100000 in
theorem isTerm_impl (t : Tm) (x : Value) (w : World) (hx : TmIn w x t) (hf : Fit t) :
    Calls Tryz.prog 97 #[x] w (BoolPost (isTermB t) w) := by
  have hwi := fun W hW => within_any t x W hW hf
  obtain ⟨A, c, kv, rfl, hp, hk⟩ := hx
  obtain ⟨B, d, rfl⟩ := hk.form
  have hb0 : Below w.heap.size w (w.alloc (.cells #[.int .i64 t.op, .int .i64 t.num, .slice A t.perm.length c, .slice B t.kids.length d] 46)) := (Below.refl _ _).alloc (Nat.le_refl _) _
  have hw0 := hwi _ ⟨A, c, _, rfl, hp.below hb0, hk.below hb0⟩
  clear hwi
  go_enter Tryz.func97, Tryz.ntmps97
  go_wp2_with fail
  refine hw0.mono ?_
  rintro e w1 ⟨hb1, ⟨hno, rfl⟩ | ⟨hyes, F, g, cap, xs, rfl, _, _, _, _⟩⟩
  · have hpost : BoolPost (isTermB t) w (.returned (.bool false)) w1 := ⟨by rw [hno], hb0.trans (hb1.mono hb0.size)⟩
    clear hw0 hb0 hb1 hp hk hno
    go_wp2
    go_ret
    exact hpost
  · have hpost : BoolPost (isTermB t) w (.returned (.bool true)) w1 := ⟨by rw [hyes], hb0.trans (hb1.mono hb0.size)⟩
    clear hw0 hb0 hb1 hp hk hyes
    go_wp2
    go_ret
    exact hpost
end
end Go.Proofs.YtlhjgjfnmejiaaaGreat
end

section
namespace Go.Proofs.YtlhjgjfnmejiaaaGreat
open Go.RowKit Go.Sort

def holesIn (ts : List Tm) : List Int := (ts.filter fun y => decide (y.op = 4)).map Tm.num
theorem holesIn_app (a b : List Tm) : holesIn (a ++ b) = holesIn a ++ holesIn b := by simp [holesIn]
theorem holesIn_yes {F : List Tm} {k : Nat} (h : k < F.length) (h4 : (tmAt F k).op = 4) : holesIn (F.take (k + 1)) = holesIn (F.take k) ++ [(tmAt F k).num] := by
  rw [tm_take_next h, holesIn_app]; congr 1; simp [holesIn, h4]
theorem holesIn_no {F : List Tm} {k : Nat} (h : k < F.length) (h4 : ¬ (tmAt F k).op = 4) : holesIn (F.take (k + 1)) = holesIn (F.take k) := by
  rw [tm_take_next h, holesIn_app]; simp [holesIn, h4]
theorem holesIn_len (F : List Tm) : (holesIn F).length ≤ F.length := by
  rw [holesIn, List.length_map]; exact List.length_filter_le _ _
theorem holesIn_take (F : List Tm) (k : Nat) : (holesIn (F.take k)).length ≤ F.length := by
  have h1 := holesIn_len (F.take k)
  rw [List.length_take] at h1; omega
theorem mem_holesIn (F : List Tm) (a : Int) : a ∈ holesIn F ↔ ∃ y, y ∈ F ∧ y.op = 4 ∧ y.num = a := by
  simp only [holesIn, List.mem_map, List.mem_filter, decide_eq_true_eq, and_assoc]

/-- The holes of a term, ascending; of what is no term: none. -/
def holesL (t : Tm) : List Int := if isTermB t then insAll [] (holesIn (nodesT t)) else []
theorem holesL_same {F : List Tm} {t : Tm} (h : ∀ y, y ∈ F ↔ isTermB t = true ∧ y ∈ nodesT t) : insAll [] (holesIn F) = holesL t := by
  by_cases ht : isTermB t = true
  · rw [holesL, if_pos ht]
    refine asc_same _ _ (asc_insAll _ _ List.Pairwise.nil) (asc_insAll _ _ List.Pairwise.nil) fun a => ?_
    simp only [mem_insAll, mem_holesIn, h, ht, true_and]
  · rw [holesL, if_neg ht]
    have : F = [] := List.eq_nil_iff_forall_not_mem.2 fun y hy => ht ((h y).1 hy).1
    subst this
    rfl

mutual
def holesB : Tm → Bool
  | .mk o _ _ ks => holesBs ks || decide (o = 4)
def holesBs : List Tm → Bool
  | [] => false
  | t :: r => holesB t || holesBs r
end

theorem holesB_eq (t : Tm) : holesB t = (holesBs t.kids || decide (t.op = 4)) := by cases t; rw [holesB]; rfl
theorem holesBs_append : ∀ a b : List Tm, holesBs (a ++ b) = (holesBs a || holesBs b)
  | [], b => by simp [holesBs]
  | t :: r, b => by rw [List.cons_append, holesBs, holesBs, holesBs_append r b, Bool.or_assoc]
theorem holesBs_next {ts : List Tm} {k : Nat} (h : k < ts.length) : holesBs (ts.take (k + 1)) = (holesBs (ts.take k) || holesB (tmAt ts k)) := by
  rw [tm_take_next h, holesBs_append]
  simp [holesBs]
theorem holesBs_yes : ∀ {ts : List Tm} {i : Nat}, i < ts.length → holesB (tmAt ts i) = true → holesBs ts = true
  | [], i, h, _ => by simp at h
  | t :: r, 0, _, h => by rw [tmAt_cons_zero] at h; simp [holesBs, h]
  | t :: r, i + 1, hi, h => by
    rw [tmAt_cons_succ] at h
    simp [holesBs, holesBs_yes (by simpa using hi) h]
mutual
theorem holesB_nodes : ∀ t : Tm, holesB t = (nodesT t).any fun y => decide (y.op = 4)
  | .mk o n p ks => by
    rw [holesB, nodesT, List.any_cons, holesBs_nodes ks, Bool.or_comm]; rfl
theorem holesBs_nodes : ∀ ts : List Tm, holesBs ts = (nodesTs ts).any fun y => decide (y.op = 4)
  | [] => by simp [holesBs, nodesTs]
  | t :: r => by rw [holesBs, nodesTs, List.any_append, holesB_nodes t, holesBs_nodes r]
end

def groundB (t : Tm) : Bool := isTermB t && !holesB t
theorem ground_len {t : Tm} (h : isTermB t = true) : groundB t = decide ((holesL t).length = 0) := by
  rw [groundB, h, Bool.true_and, holesB_nodes, holesL, if_pos h]
  rw [Bool.eq_iff_iff]
  simp only [Bool.not_eq_true', List.any_eq_false, decide_eq_true_eq, List.length_eq_zero_iff]
  constructor
  · intro h1
    refine List.eq_nil_iff_forall_not_mem.2 fun a ha => ?_
    rw [mem_insAll, mem_holesIn] at ha
    rcases ha with ha | ⟨y, hy, h4, _⟩
    · simp at ha
    · exact h1 y hy h4
  · intro h1 y hy h4
    have : y.num ∈ insAll [] (holesIn (nodesT t)) := by rw [mem_insAll, mem_holesIn]; exact .inr ⟨y, hy, h4, rfl⟩
    rw [h1] at this
    simp at this

set_option maxRecDepth 100000 in
set_option maxHeartbeats 2000000 in
theorem l2Holes_of (t : Tm) (x : Value) (w : World) (hx : TmIn w x t) (hkl : t.kids.length ≤ 1048576)
    (ih : ∀ i, i < t.kids.length → ∀ (w' : World) (y : Value), TmIn w' y (tmAt t.kids i) → Calls Tryz.prog 103 #[y] w' (BoolPost (holesB (tmAt t.kids i)) w')) :
    Calls Tryz.prog 103 #[x] w (BoolPost (holesB t) w) := by
  obtain ⟨A, c, kv, rfl, hp, hk⟩ := hx
  obtain ⟨B, d, rfl⟩ := hk.form
  have hg := Lib.hid (holesB_eq t)
  have hb0 : Below w.heap.size w (w.alloc (.cells #[.int .i64 t.op, .int .i64 t.num, .slice A t.perm.length c, .slice B t.kids.length d] 46)) := (Below.refl _ _).alloc (Nat.le_refl _) _
  go_enter Tryz.func103, Tryz.ntmps103
  go_wp2
  go_loopw [8] (fun i wr => ∃ k : Nat, k ≤ t.kids.length ∧ i = .int .i64 k ∧ holesBs (t.kids.take k) = false ∧ Below (w.alloc (.cells #[.int .i64 t.op, .int .i64 t.num, .slice A t.perm.length c, .slice B t.kids.length d] 46)).heap.size (w.alloc (.cells #[.int .i64 t.op, .int .i64 t.num, .slice A t.perm.length c, .slice B t.kids.length d] 46)) wr) (fun i _ => t.kids.length - (intOf i).toNat)
  case atStart => exact ⟨0, Nat.zero_le _, rfl, by simp [holesBs], Below.refl _ _⟩
  case round =>
    obtain ⟨k, hk', rfl, hgt, hbw⟩ := hrel
    have HGT := Lib.hid hgt
    have hb := hb0.trans (hbw.mono hb0.size)
    clear hgt
    by_cases hlt : k < t.kids.length
    · obtain ⟨b, off, rfl, hbl, hget⟩ := (hk.below hb).get (by omega)
      obtain ⟨A1, c1, kv1, d0, d1, d2, d3, hp1, hk1⟩ := hget k hlt
      obtain ⟨B1, e1, rfl⟩ := hk1.form
      have hbx : Below wr.heap.size wr (wr.alloc (.cells #[.int .i64 (tmAt t.kids k).op, .int .i64 (tmAt t.kids k).num, .slice A1 (tmAt t.kids k).perm.length c1, .slice B1 (tmAt t.kids k).kids.length e1] 46)) := (Below.refl _ _).alloc (Nat.le_refl _) _
      have hct := ih k hlt _ _ ⟨A1, c1, _, rfl, hp1.below hbx, hk1.below hbx⟩
      have hbw2 := hbw.trans (hbx.mono hbw.size)
      have hyes := fun h => Lib.hid (holesBs_yes hlt h)
      have hnx := Lib.hid (holesBs_next hlt)
      generalize tmAt t.kids k = u at d0 d1 d2 d3 hct hbx hbw2 hyes hnx
      clear hget hp1 hk1 hbl hbx hb hbw ih hk
      by_cases hgu : holesB u = true
      · rw [hgu] at hct
        have hr := hyes hgu
        clear hyes hgu hnx
        go_wp2_with fail
        refine hct.mono ?_
        rintro e w2 ⟨rfl, hb3⟩
        have hb4 := hbw2.trans (hb3.mono hbw2.size)
        have hpost : BoolPost (holesB t) w (.returned (.bool true)) w2 := ⟨by rw [hg.out, hr.out]; rfl, hb0.trans (hb4.mono hb0.size)⟩
        clear hct hbw2 hb3 hb4 d0 d1 d2 d3 hr hb0 hg
        go_wp2
        go_ret
        exact hpost
      · have hgu' : holesB u = false := by simpa using hgu
        rw [hgu'] at hct
        have hnx' : Hid (holesBs (t.kids.take (k + 1)) = false) := by show holesBs (t.kids.take (k + 1)) = false; rw [hnx.out, HGT.out, hgu']; rfl
        clear hyes hgu hgu' hnx
        go_wp2_with fail
        refine hct.mono ?_
        rintro e w2 ⟨rfl, hb3⟩
        have hb4 := hbw2.trans (hb3.mono hbw2.size)
        clear hct hbw2 hb3 d0 d1 d2 d3
        go_wp2
        refine ⟨⟨k + 1, by omega, by go_num, hnx'.out, hb4⟩, ?_⟩
        simp only [intOf]
        omega
    · obtain ⟨b0, b1, b2, b3⟩ := box4 hbw
      have hr : Hid (holesB t = decide (t.op = 4)) := by
        show holesB t = decide (t.op = 4)
        have := HGT.out
        rw [List.take_of_length_le (by omega)] at this
        rw [hg.out, this]; rfl
      have e4 : (t.op == 4) = decide (t.op = 4) := by by_cases h : t.op = 4 <;> simp [h]
      have hpost : BoolPost (holesB t) w (.returned (.bool (t.op == 4))) wr := ⟨by rw [hr.out, e4], hb⟩
      generalize t.op = o at b0 hpost
      clear ih hk hb hr e4 b1 b2 b3 hbw hb0 hg
      go_wp2
      go_ret
      exact hpost

theorem l2Holes_any : ∀ (N : Nat) (t : Tm), szT t ≤ N → Fit t → ∀ (w : World) (x : Value), TmIn w x t → Calls Tryz.prog 103 #[x] w (BoolPost (holesB t) w) := by
  intro N
  induction N with
  | zero => intro t hN; rw [szT_eq] at hN; omega
  | succ N ih =>
    intro t hN hf w x hx
    have h2 := (fit_eq _).1 hf
    refine l2Holes_of t x w hx h2.2.1 fun i hi w' y hy => ?_
    have h3 := szT_at hi
    rw [szT_eq] at hN
    exact ih _ (by omega) (fits_at h2.2.2 hi) w' y hy

set_option maxRecDepth 100000 in
theorem ground_spec (t : Tm) (x : Value) (w : World) (hx : TmIn w x t) (hc : cntT t ≤ 1048576) :
    Calls Tryz.prog 50 #[x] w (BoolPost (groundB t) w) := by
  have hgd := fun W hW => isTerm_spec t x W hW hc
  have hsz := fun W hW => l2Holes_any (szT t) t (Nat.le_refl _) (fit_of t hc) W x hW
  have hr0 : groundB t = (isTermB t && !holesB t) := rfl
  have hr := Lib.hid hr0
  clear hr0
  have hx' := hx
  obtain ⟨A, c, kv, rfl, hp, hk⟩ := hx
  obtain ⟨B, d, rfl⟩ := hk.form
  have hb0 : Below w.heap.size w (w.alloc (.cells #[.int .i64 t.op, .int .i64 t.num, .slice A t.perm.length c, .slice B t.kids.length d] 46)) := (Below.refl _ _).alloc (Nat.le_refl _) _
  have hg0 := hgd _ (hx'.below hb0)
  clear hgd
  by_cases h1 : isTermB t = true
  · rw [h1] at hg0 hr
    rw [Bool.true_and] at hr
    clear h1
    go_enter Tryz.func50, Tryz.ntmps50
    go_wp2_with fail
    refine hg0.mono ?_
    rintro e w1 ⟨rfl, hb1⟩
    obtain ⟨b0, b1, b2, b3⟩ := box4 hb1
    have hs1 := hb0.trans (hb1.mono hb0.size)
    have hs0 := hsz _ (hx'.below hs1)
    clear hg0 hb0 hb1 hp hk hsz hx'
    generalize holesB t = z at hs0 hr
    cases z with
    | true =>
      go_wp2_with fail
      refine hs0.mono ?_
      rintro e w2 ⟨rfl, hb2⟩
      have hpost : BoolPost (groundB t) w (.returned (.bool false)) w2 := ⟨by rw [hr.out]; rfl, hs1.trans (hb2.mono hs1.size)⟩
      clear hs0 hs1 hb2 hr b0 b1 b2 b3
      go_wp2
      go_ret
      exact hpost
    | false =>
      go_wp2_with fail
      refine hs0.mono ?_
      rintro e w2 ⟨rfl, hb2⟩
      have hpost : BoolPost (groundB t) w (.returned (.bool true)) w2 := ⟨by rw [hr.out]; rfl, hs1.trans (hb2.mono hs1.size)⟩
      clear hs0 hs1 hb2 hr b0 b1 b2 b3
      go_wp2
      go_ret
      exact hpost
  · have h1' : isTermB t = false := by simpa using h1
    rw [h1'] at hg0 hr
    rw [Bool.false_and] at hr
    clear h1 h1' hsz hx'
    go_enter Tryz.func50, Tryz.ntmps50
    go_wp2_with fail
    refine hg0.mono ?_
    rintro e w1 ⟨rfl, hb1⟩
    have hpost : BoolPost (groundB t) w (.returned (.bool false)) w1 := ⟨by rw [hr.out], hb0.trans (hb1.mono hb0.size)⟩
    clear hg0 hb0 hb1 hp hk hr
    go_wp2
    go_ret
    exact hpost

end Go.Proofs.YtlhjgjfnmejiaaaGreat
end

section
namespace Go.Proofs.YtlhjgjfnmejiaaaGreat
section
open Go.RowKit Go.Sort

mutual
theorem nodesT_len : ∀ t : Tm, (nodesT t).length = szT t
  | .mk o n p ks => by rw [nodesT, List.length_cons, nodesTs_len ks, szT]; omega
theorem nodesTs_len : ∀ ts : List Tm, (nodesTs ts).length = szTs ts
  | [] => by simp [nodesTs, szTs]
  | t :: r => by rw [nodesTs, List.length_append, nodesT_len t, nodesTs_len r, szTs]
end

theorem term_size {t : Tm} (h : isTermB t = true) : szT t ≤ 60 := by
  rw [isTermB, Bool.and_eq_true, decide_eq_true_eq] at h
  exact h.2
theorem term_good {t : Tm} (h : isTermB t = true) : goodT t = true := by
  rw [isTermB, Bool.and_eq_true] at h
  exact h.1
end

section
open Go.RowKit Go.Sort
set_option linter.unusedVariables false

mutual
/-- What acting makes of a term, whatever permutations come out. -/
def actT (p : List (Int × Int)) : Tm → Tm
  | .mk o n r ks => .mk o (if o = 1 ∨ o = 3 then imgL p n else n) (if o = 4 then thenL p r else r) (actTs p ks)
def actTs (p : List (Int × Int)) : List Tm → List Tm
  | [] => []
  | t :: r => actT p t :: actTs p r
end
mutual
/-- All permutations within are in order, and none is longer than a bound. -/
def OkP (M : Nat) : Tm → Prop
  | .mk _ _ p ks => Asc p ∧ p.length ≤ M ∧ OkPs M ks
def OkPs (M : Nat) : List Tm → Prop
  | [] => True
  | t :: r => OkP M t ∧ OkPs M r
end
theorem actTs_len (p : List (Int × Int)) : ∀ ts : List Tm, (actTs p ts).length = ts.length
  | [] => rfl
  | t :: r => by rw [actTs, List.length_cons, List.length_cons, actTs_len p r]
theorem actTs_at (p : List (Int × Int)) : ∀ {ts : List Tm} {i : Nat}, i < ts.length → tmAt (actTs p ts) i = actT p (tmAt ts i)
  | [], i, h => by simp at h
  | t :: r, 0, _ => rfl
  | t :: r, i + 1, h => by rw [actTs, tmAt_cons_succ, tmAt_cons_succ]; exact actTs_at p (by simpa using h)
theorem actTs_append (p : List (Int × Int)) : ∀ a b : List Tm, actTs p (a ++ b) = actTs p a ++ actTs p b
  | [], b => rfl
  | t :: r, b => by rw [List.cons_append, actTs, actTs, actTs_append p r b, List.cons_append]
theorem actTs_next {p : List (Int × Int)} {ts : List Tm} {k : Nat} (h : k < ts.length) : actTs p (ts.take (k + 1)) = actTs p (ts.take k) ++ [actT p (tmAt ts k)] := by
  rw [tm_take_next h, actTs_append]; rfl
mutual
theorem szT_actT (p : List (Int × Int)) : ∀ t : Tm, szT (actT p t) = szT t
  | .mk o n r ks => by rw [actT, szT, szT, szTs_actTs p ks]
theorem szTs_actTs (p : List (Int × Int)) : ∀ ts : List Tm, szTs (actTs p ts) = szTs ts
  | [] => rfl
  | t :: r => by rw [actTs, szTs, szTs, szT_actT p t, szTs_actTs p r]
end
theorem okP_at {M : Nat} : ∀ {ts : List Tm} {i : Nat}, OkPs M ts → i < ts.length → OkP M (tmAt ts i)
  | [], i, _, h => by simp at h
  | t :: r, 0, h, _ => h.1
  | t :: r, i + 1, h, hi => by rw [tmAt_cons_succ]; exact okP_at h.2 (by simpa using hi)
theorem asc_nil : Asc [] := by
  intro i j _ h
  simp at h
theorem thenL_asc (p q : List (Int × Int)) : Asc (thenL p q) := asc_list (asc_thenL p q)
mutual
theorem okP_act {M : Nat} (p : List (Int × Int)) : ∀ {t : Tm}, OkP M t → OkP (M + p.length) (actT p t)
  | .mk o n r ks, h => by
    rw [OkP] at h
    rw [actT, OkP]
    refine ⟨?_, ?_, okPs_act p h.2.2⟩
    · split
      · exact thenL_asc p r
      · exact h.1
    · split
      · have := thenL_len p r; omega
      · omega
theorem okPs_act {M : Nat} (p : List (Int × Int)) : ∀ {ts : List Tm}, OkPs M ts → OkPs (M + p.length) (actTs p ts)
  | [], _ => trivial
  | t :: r, h => ⟨okP_act p h.1, okPs_act p h.2⟩
end
mutual
theorem okP_le {M N : Nat} (hMN : M ≤ N) : ∀ {t : Tm}, OkP M t → OkP N t
  | .mk o n r ks, h => ⟨h.1, Nat.le_trans h.2.1 hMN, okPs_le hMN h.2.2⟩
theorem okPs_le {M N : Nat} (hMN : M ≤ N) : ∀ {ts : List Tm}, OkPs M ts → OkPs N ts
  | [], _ => trivial
  | t :: r, h => ⟨okP_le hMN h.1, okPs_le hMN h.2⟩
end
theorem asc_perm {l : List (Int × Int)} (h : permB l = true) : Asc l := asc_list (isP_of h).asc
theorem shape_perm {t : Tm} (h : shapeB t = true) : Asc t.perm ∧ t.perm.length ≤ 40 := by
  have hn : t.perm.length = 0 → Asc t.perm ∧ t.perm.length ≤ 40 := by
    intro h0
    rw [List.length_eq_zero_iff.1 h0]
    exact ⟨asc_nil, by simp⟩
  unfold shapeB at h
  by_cases e1 : t.op = 1
  · rw [if_pos e1] at h; simp only [Bool.and_eq_true, decide_eq_true_eq] at h; exact hn h.2.1
  rw [if_neg e1] at h
  by_cases e2 : t.op = 2
  · rw [if_pos e2] at h; simp only [Bool.and_eq_true, decide_eq_true_eq] at h; exact hn h.2.1
  rw [if_neg e2] at h
  by_cases e3 : t.op = 3
  · rw [if_pos e3] at h; simp only [Bool.and_eq_true, decide_eq_true_eq] at h; exact hn h.2.1
  rw [if_neg e3] at h
  by_cases e4 : t.op = 4
  · rw [if_pos e4] at h; simp only [Bool.and_eq_true, decide_eq_true_eq] at h
    exact ⟨asc_perm h.2.1, (permB_parts h.2.1).1⟩
  · rw [if_neg e4] at h
    simp at h
mutual
theorem okP_good : ∀ {t : Tm}, goodT t = true → OkP 40 t
  | .mk o n p ks, h => by
    rw [goodT_eq, Bool.and_eq_true] at h
    have h1 := shape_perm h.1
    exact ⟨h1.1, h1.2, okPs_good h.2⟩
theorem okPs_good : ∀ {ts : List Tm}, goodTs ts = true → OkPs 40 ts
  | [], _ => trivial
  | t :: r, h => by
    rw [goodTs, Bool.and_eq_true] at h
    exact ⟨okP_good h.1, okPs_good h.2⟩
end

theorem actT_1 (p : List (Int × Int)) (n : Int) : actT p (.mk 1 n [] []) = .mk 1 (imgL p n) [] [] := by simp [actT, actTs]
theorem actT_2 (p : List (Int × Int)) (n : Int) (ks : List Tm) : actT p (.mk 2 n [] ks) = .mk 2 n [] (actTs p ks) := by simp [actT]
theorem actT_3 (p : List (Int × Int)) (n : Int) (k : Tm) : actT p (.mk 3 n [] [k]) = .mk 3 (imgL p n) [] [actT p k] := by simp [actT, actTs]
theorem actT_4 (p r : List (Int × Int)) (n : Int) : actT p (.mk 4 n r []) = .mk 4 n (thenL p r) [] := by simp [actT, actTs]
end
end Go.Proofs.YtlhjgjfnmejiaaaGreat
end

section
namespace Go.Proofs.YtlhjgjfnmejiaaaGreat
open Go.RowKit Go.Sort

/-- Whether an atom that is free in a kid is free in the node, too. -/
def keepB (o n a : Int) : Bool := !(decide (o = 3) && decide (a = n))
mutual
/-- The free atoms, ascending. -/
def freeT : Tm → List Int
  | .mk o n _ ks => insAll (if o = 1 then [n] else []) ((freeTs ks).filter (keepB o n))
def freeTs : List Tm → List Int
  | [] => []
  | t :: r => freeT t ++ freeTs r
end
theorem freeTs_append : ∀ a b : List Tm, freeTs (a ++ b) = freeTs a ++ freeTs b
  | [], b => by simp [freeTs]
  | t :: r, b => by rw [List.cons_append, freeTs, freeTs, freeTs_append r b, List.append_assoc]
mutual
theorem freeT_len : ∀ t : Tm, (freeT t).length ≤ szT t
  | .mk o n p ks => by
    have h1 := length_insAll (if o = 1 then [n] else []) ((freeTs ks).filter (keepB o n))
    have h2 := List.length_filter_le (keepB o n) (freeTs ks)
    have h3 := freeTs_len ks
    have h4 : (if o = 1 then [n] else [] : List Int).length ≤ 1 := by split <;> simp
    rw [freeT, szT]
    omega
theorem freeTs_len : ∀ ts : List Tm, (freeTs ts).length ≤ szTs ts
  | [] => by simp [freeTs]
  | t :: r => by
    have h1 := freeT_len t
    have h2 := freeTs_len r
    rw [freeTs, List.length_append, szTs]
    omega
end
/-- .. of a node and its first kids. -/
def frK (t : Tm) (k : Nat) : List Int := insAll (if t.op = 1 then [t.num] else []) ((freeTs (t.kids.take k)).filter (keepB t.op t.num))
theorem asc_frK (t : Tm) (k : Nat) : AscP (frK t k) := by
  refine asc_insAll _ _ ?_
  split
  · exact List.pairwise_singleton _ _
  · exact List.Pairwise.nil
theorem frK_zero1 {t : Tm} (h : t.op = 1) : frK t 0 = [t.num] := by simp [frK, freeTs, h, insAll]
theorem frK_zero {t : Tm} (h : ¬ t.op = 1) : frK t 0 = [] := by simp [frK, freeTs, h, insAll]
theorem frK_all {t : Tm} {k : Nat} (h : t.kids.length ≤ k) : frK t k = freeT t := by
  rw [frK, List.take_of_length_le h]
  cases t with
  | mk o n p ks => rw [freeT]; rfl
theorem frK_next {t : Tm} {k : Nat} (h : k < t.kids.length) : insAll (frK t k) ((freeT (tmAt t.kids k)).filter (keepB t.op t.num)) = frK t (k + 1) := by
  rw [frK, frK, tm_take_next h, freeTs_append, List.filter_append]
  unfold insAll
  rw [List.foldl_append]
  simp [freeTs]
theorem frK_len (t : Tm) (k : Nat) : (frK t k).length ≤ szT t := by
  have h1 := length_insAll (if t.op = 1 then [t.num] else []) ((freeTs (t.kids.take k)).filter (keepB t.op t.num))
  have h2 := List.length_filter_le (keepB t.op t.num) (freeTs (t.kids.take k))
  have h3 := freeTs_len (t.kids.take k)
  have h4 : (if t.op = 1 then [t.num] else [] : List Int).length ≤ 1 := by split <;> simp
  have h5 := szTs_take t.kids k
  rw [szT_eq]
  unfold frK
  omega
theorem fstep_yes {X Y : List Int} {kp : Int → Bool} {j : Nat} (h : j < Y.length) (hk : kp (itAt Y j) = true) : insAll X ((Y.take (j + 1)).filter kp) = insL (insAll X ((Y.take j).filter kp)) (itAt Y j) := by
  rw [itake_next h, List.filter_append]
  unfold insAll
  rw [List.foldl_append]
  simp [List.filter, hk]
theorem fstep_no {X Y : List Int} {kp : Int → Bool} {j : Nat} (h : j < Y.length) (hk : kp (itAt Y j) = false) : insAll X ((Y.take (j + 1)).filter kp) = insAll X ((Y.take j).filter kp) := by
  rw [itake_next h, List.filter_append]
  simp [List.filter, hk]

set_option maxRecDepth 100000 in
set_option maxHeartbeats 8000000 in
theorem l2Free_step (t : Tm) (x : Value) (w : World) (hx : TmIn w x t) (hsz : szT t ≤ 60)
    (ih : ∀ i, i < t.kids.length → ∀ (w' : World) (y : Value), TmIn w' y (tmAt t.kids i) → Calls Tryz.prog 105 #[y] w' (InsPost w'.heap.size (freeT (tmAt t.kids i)) w')) :
    Calls Tryz.prog 105 #[x] w (InsPost w.heap.size (freeT t) w) := by
  obtain ⟨i0, hi0, hz0, hz1, hz2⟩ := info_parts int_infoM
  have HS := Lib.hid hz2
  clear hz2
  obtain ⟨A, c, kv, rfl, hp, hk⟩ := hx
  obtain ⟨B, d, rfl⟩ := hk.form
  have hr : Hid (∀ k, t.kids.length ≤ k → frK t k = freeT t) := Lib.hid (fun k h => frK_all h)
  rw [szT_eq] at hsz
  have hkl : t.kids.length ≤ 60 := by have := len_szTs t.kids; omega
  have hb0 : Below w.heap.size w (w.alloc (.cells #[.int .i64 t.op, .int .i64 t.num, .slice A t.perm.length c, .slice B t.kids.length d] 46)) := (Below.refl _ _).alloc (Nat.le_refl _) _
  have hbA : Below (w.alloc (.cells #[.int .i64 t.op, .int .i64 t.num, .slice A t.perm.length c, .slice B t.kids.length d] 46)).heap.size (w.alloc (.cells #[.int .i64 t.op, .int .i64 t.num, .slice A t.perm.length c, .slice B t.kids.length d] 46)) ((w.alloc (.cells #[.int .i64 t.op, .int .i64 t.num, .slice A t.perm.length c, .slice B t.kids.length d] 46)).alloc (.cells #[] 3)) := (Below.refl _ _).alloc (Nat.le_refl _) _
  have ho0 : ((w.alloc (.cells #[.int .i64 t.op, .int .i64 t.num, .slice A t.perm.length c, .slice B t.kids.length d] 46)).alloc (.cells #[] 3)).ownsRow (w.alloc (.cells #[.int .i64 t.op, .int .i64 t.num, .slice A t.perm.length c, .slice B t.kids.length d] 46)).heap.size 3 1 (.slice (some ⟨w.heap.size + 1, 0, none⟩) 0 0) 0 [] := by
    have h9 := World.ownsRow_lit (base := (w.alloc (.cells #[.int .i64 t.op, .int .i64 t.num, .slice A t.perm.length c, .slice B t.kids.length d] 46)).heap.size) (e := 3) (size := 1) (w.alloc (.cells #[.int .i64 t.op, .int .i64 t.num, .slice A t.perm.length c, .slice B t.kids.length d] 46)) #[] 0 (Nat.le_refl _) (by decide) rfl
    rw [World.size_alloc] at h9 ⊢
    exact h9
  clear hp
  go_enter Tryz.func105, Tryz.ntmps105
  by_cases hop1 : t.op = 1
  · have HKP : Hid (∀ a, keepB t.op t.num a = true) := Lib.hid (fun a => by rw [keepB, hop1]; rfl)
    have hst0 : Hid (frK t 0 = [t.num]) := frK_zero1 hop1
    have HOP := Lib.hid hop1
    have ho2 := ho0.alloc (.cells #[.int .i64 t.num] 3)
    have hb2 := hbA.alloc hbA.size (.cells #[.int .i64 t.num] 3)
    have hcell : (((w.alloc (.cells #[.int .i64 t.op, .int .i64 t.num, .slice A t.perm.length c, .slice B t.kids.length d] 46)).alloc (.cells #[] 3)).alloc (.cells #[.int .i64 t.num] 3)).cell? ⟨w.heap.size + 2, 0, none⟩ = some (.int .i64 t.num) := by
      have h9 := heap_alloc_new ((w.alloc (.cells #[.int .i64 t.op, .int .i64 t.num, .slice A t.perm.length c, .slice B t.kids.length d] 46)).alloc (.cells #[] 3)) (.cells #[.int .i64 t.num] 3)
      rw [World.size_alloc, World.size_alloc] at h9
      rw [cell_of_row _ _ _ _ _ _ h9]; rfl
    have HC := Lib.hid (one_cell hcell)
    have q1 : (t.op == 1) = true := by simp [hop1]
    clear hcell ho0 hbA hop1
    go_wp2_with (at_builtin; refine wpList_append_own _ rfl (.tmp 12) (.tmp 15) 109 rfl (w.alloc (.cells #[.int .i64 t.op, .int .i64 t.num, .slice A t.perm.length c, .slice B t.kids.length d] 46)).heap.size 3 i0 (.int .i64 0) 1 8 Tryz.underlying109 hi0 hz0 hz1 HS.out rfl (by decide) _ 0 _ rfl ho2 ⟨w.heap.size + 2, 0, none⟩ 1 1 [.int .i64 t.num] rfl rfl HC.out (int_one _) ?c3 ?c4 ?c5 ?_)
    case c3 => unfold maxLen; omega
    case c4 => omega
    case c5 => exact hb2.size
    intro v2 w2 ho3 hg3 _
    have hbw0 := below_own hb2 ho2 (Nat.le_refl _) hb2.size hg3
    obtain ⟨g6, cap6, rfl⟩ := own_row_form ho3 (by omega)
    have hcap6 : 1 ≤ cap6 := by
      rcases ho3.2 with ⟨h', _⟩ | ⟨g', cap', cur, h', _, _, hn, _⟩
      · simp at h'
      · simp only [Value.slice.injEq] at h'
        omega
    have hst : OwnI w2 w.heap.size (.slice (some ⟨g6, 0, none⟩) (0 + 1) cap6) (frK t 0) := by
      rw [hst0.out]
      exact ⟨g6, cap6, rfl, hcap6, own_le ho3 (by simp)⟩
    obtain ⟨b0, b1, b2, b3⟩ := box4 hbw0
    clear ho2 hb2 HC ho3 hg3 hcap6 hst0 q1
    go_wp2
    go_loopw [3, 20] (fun v i wr => ∃ k : Nat, k ≤ t.kids.length ∧ i = .int .i64 k ∧ OwnI wr w.heap.size v (frK t k) ∧ Below (w.alloc (.cells #[.int .i64 t.op, .int .i64 t.num, .slice A t.perm.length c, .slice B t.kids.length d] 46)).heap.size (w.alloc (.cells #[.int .i64 t.op, .int .i64 t.num, .slice A t.perm.length c, .slice B t.kids.length d] 46)) wr) (fun _ i _ => t.kids.length - (intOf i).toNat)
    case atStart => exact ⟨0, Nat.zero_le _, rfl, hst, hbw0⟩
    case round =>
      clear hst b0 b1 b2 b3 hbw0
      obtain ⟨k, hk', rfl, ⟨g, cap, rfl, hcap, ho⟩, hbw⟩ := hrel
      have hb := hb0.trans (hbw.mono hb0.size)
      by_cases hlt : k < t.kids.length
      · obtain ⟨b, off, rfl, hbl, hget⟩ := (hk.below hb).get (by omega)
        obtain ⟨A1, c1, kv1, d0, d1, d2, d3, hp1, hk1⟩ := hget k hlt
        obtain ⟨B1, e1, rfl⟩ := hk1.form
        have hbx : Below wr.heap.size wr (wr.alloc (.cells #[.int .i64 (tmAt t.kids k).op, .int .i64 (tmAt t.kids k).num, .slice A1 (tmAt t.kids k).perm.length c1, .slice B1 (tmAt t.kids k).kids.length e1] 46)) := (Below.refl _ _).alloc (Nat.le_refl _) _
        have hct := ih k hlt _ _ ⟨A1, c1, _, rfl, hp1.below hbx, hk1.below hbx⟩
        have hb2 := hbw.trans (hbx.mono hbw.size)
        have hnx := Lib.hid (frK_next hlt)
        have hlK := frK_len t k
        rw [szT_eq] at hlK
        have hlL : (freeT (tmAt t.kids k)).length ≤ 60 := by
          have h1 := freeT_len (tmAt t.kids k)
          have h2 := szT_at hlt
          omega
        have hKa := Lib.hid (asc_frK t k)
        have hkp := HKP.out
        have hox := own_below ho hbx
        generalize tmAt t.kids k = u at d0 d1 d2 d3 hct hbx hb2 hnx hlL hox
        generalize frK t k = X at hnx hlK hKa hcap ho hox ⊢
        generalize freeT u = Y at hct hnx hlL
        generalize keepB t.op t.num = kp at hnx hkp
        clear HKP
        have HKP := Lib.hid hkp
        clear hget hp1 hk1 hbl hbx hb hbw ih hk ho hr hkp
        go_wp2_with fail
        refine hct.mono ?_
        rintro e w2 hpost
        obtain ⟨v2, rfl, ⟨g2, cap2, rfl, _, ho2⟩, hb3⟩ := insPost_own hpost
        have hia : IntsAt w2 (some ⟨g2, 0, none⟩) Y := by
          obtain ⟨A, c, e, h⟩ := own_intsAt ho2
          simp only [Value.slice.injEq] at e
          rw [e.1]
          exact h
        have hbs := hb2.trans (hb3.mono hb2.size)
        have hst2 : OwnI w2 w.heap.size (.slice (some ⟨g, 0, none⟩) X.length cap) (insAll X ((Y.take 0).filter kp)) := ⟨g, cap, rfl, hcap, own_below hox hb3⟩
        have hXN : Hid (X.length ≤ 60) := by show X.length ≤ 60; omega
        generalize X.length = N at hst2 ⊢
        clear hlK
        clear hct hb2 hb3 d0 d1 d2 d3 hpost ho2 hox hcap
        go_wp2
        go_loopw [3, 27] (fun v i wr => ∃ j : Nat, j ≤ Y.length ∧ i = .int .i64 j ∧ OwnI wr w.heap.size v (insAll X ((Y.take j).filter kp)) ∧ Below (w.alloc (.cells #[.int .i64 t.op, .int .i64 t.num, .slice A t.perm.length c, .slice (some ⟨b, off, none⟩) t.kids.length d] 46)).heap.size (w.alloc (.cells #[.int .i64 t.op, .int .i64 t.num, .slice A t.perm.length c, .slice (some ⟨b, off, none⟩) t.kids.length d] 46)) wr ∧ Below w2.heap.size w2 wr) (fun _ i _ => Y.length - (intOf i).toNat)
        case atStart => exact ⟨0, Nat.zero_le _, rfl, hst2, hbs, Below.refl _ _⟩
        case round =>
          clear hst2 hbs
          obtain ⟨j, hj, rfl, ⟨g3, cap3, rfl, hcap3, ho3⟩, hb4, hb5⟩ := hrel
          obtain ⟨b0, b1, b2, b3⟩ := box4 hb4
          by_cases hlj : j < Y.length
          · obtain ⟨b4, o4, hbo, hlt4, hc4⟩ := hia.below hb5 (by omega)
            simp only [Option.some.injEq, Addr.mk.injEq] at hbo
            obtain ⟨rfl, rfl, _⟩ := hbo
            have d4 := hc4 j hlj
            rw [Nat.zero_add] at d4
            have hlen0 := length_insAll X ((Y.take j).filter kp)
            have hlen1 := List.length_filter_le kp (Y.take j)
            rw [List.length_take] at hlen1
            have hlen : (insAll X ((Y.take j).filter kp)).length ≤ 120 := by have := hXN.out; omega
            clear hlen0 hlen1
            have hins := l1Insert_any w.heap.size g3 cap3 _ (itAt Y j) _ ho3 hcap3 (by omega) (asc_insAll _ _ hKa.out)
            have hkt := HKP.out (itAt Y j)
            have hnext : Hid (insAll X ((Y.take (j + 1)).filter kp) = insL (insAll X ((Y.take j).filter kp)) (itAt Y j)) := fstep_yes hlj hkt
            generalize insAll X ((Y.take j).filter kp) = Z at hins hnext hlen hcap3 ⊢
            generalize itAt Y j = a at d4 hins hnext
            rw [HOP.out] at b0
            clear ho3 hc4 hia hlen hkt b2 b3
            go_wp2_with fail
            refine hins.mono ?_
            rintro e w6 hpost
            obtain ⟨v6, rfl, hv6, hb6⟩ := insPost_own hpost
            rw [← hnext.out] at hv6
            have hb7 := hb4.trans (hb6.mono hb4.size)
            have hb8 := hb5.trans (hb6.mono hb5.size)
            clear hpost hins hnext hb4 hb5 hb6 d4 b0 b1
            go_wp2_with fail
            refine ⟨⟨j + 1, by omega, by go_num, hv6, hb7, hb8⟩, ?_⟩
            simp only [intOf]
            omega
          · have hov2 : OwnI wr w.heap.size (.slice (some ⟨g3, 0, none⟩) (insAll X ((Y.take j).filter kp)).length cap3) (frK t (k + 1)) := by
              rw [← hnx.out, List.take_of_length_le (show Y.length ≤ j by omega)] at *
              exact ⟨g3, cap3, rfl, hcap3, ho3⟩
            generalize (insAll X ((Y.take j).filter kp)).length = M at hov2 ⊢
            clear ho3 hcap3 hia hb5 hnx hKa b0 b1 b2 b3
            go_wp2
            refine ⟨⟨k + 1, by omega, by go_num, hov2, hb4⟩, ?_⟩
            simp only [intOf]
            omega
      · have hpost : InsPost w.heap.size (freeT t) w (.returned (.slice (some ⟨g, 0, none⟩) (frK t k).length cap)) wr := by
          rw [hr.out k (by omega)] at ho hcap ⊢
          exact ⟨g, cap, rfl, ho, hb⟩
        clear ih hk hb ho hcap hr HKP hbw
        go_wp2
        go_ret
        exact hpost
  · have hst : OwnI ((w.alloc (.cells #[.int .i64 t.op, .int .i64 t.num, .slice A t.perm.length c, .slice B t.kids.length d] 46)).alloc (.cells #[] 3)) w.heap.size (.slice (some ⟨w.heap.size + 1, 0, none⟩) 0 0) (frK t 0) := by
      rw [frK_zero hop1]
      exact ⟨w.heap.size + 1, 0, rfl, Nat.le_refl _, own_le ho0 (by simp)⟩
    have hbw0 := hbA
    obtain ⟨b0, b1, b2, b3⟩ := box4 hbw0
    have q1 : (t.op == 1) = false := by simp [hop1]
    clear ho0 hbA
    by_cases hop : t.op = 3
    · have HKP : Hid (∀ a, keepB t.op t.num a = !(decide (a = t.num))) := Lib.hid (fun a => by rw [keepB, hop]; rfl)
      have HOP := Lib.hid hop
      clear hop1 hop
      go_wp2
      go_loopw [3, 20] (fun v i wr => ∃ k : Nat, k ≤ t.kids.length ∧ i = .int .i64 k ∧ OwnI wr w.heap.size v (frK t k) ∧ Below (w.alloc (.cells #[.int .i64 t.op, .int .i64 t.num, .slice A t.perm.length c, .slice B t.kids.length d] 46)).heap.size (w.alloc (.cells #[.int .i64 t.op, .int .i64 t.num, .slice A t.perm.length c, .slice B t.kids.length d] 46)) wr) (fun _ i _ => t.kids.length - (intOf i).toNat)
      case atStart => exact ⟨0, Nat.zero_le _, rfl, hst, hbw0⟩
      case round =>
        clear hst b0 b1 b2 b3 hbw0
        obtain ⟨k, hk', rfl, ⟨g, cap, rfl, hcap, ho⟩, hbw⟩ := hrel
        have hb := hb0.trans (hbw.mono hb0.size)
        by_cases hlt : k < t.kids.length
        · obtain ⟨b, off, rfl, hbl, hget⟩ := (hk.below hb).get (by omega)
          obtain ⟨A1, c1, kv1, d0, d1, d2, d3, hp1, hk1⟩ := hget k hlt
          obtain ⟨B1, e1, rfl⟩ := hk1.form
          have hbx : Below wr.heap.size wr (wr.alloc (.cells #[.int .i64 (tmAt t.kids k).op, .int .i64 (tmAt t.kids k).num, .slice A1 (tmAt t.kids k).perm.length c1, .slice B1 (tmAt t.kids k).kids.length e1] 46)) := (Below.refl _ _).alloc (Nat.le_refl _) _
          have hct := ih k hlt _ _ ⟨A1, c1, _, rfl, hp1.below hbx, hk1.below hbx⟩
          have hb2 := hbw.trans (hbx.mono hbw.size)
          have hnx := Lib.hid (frK_next hlt)
          have hlK := frK_len t k
          rw [szT_eq] at hlK
          have hlL : (freeT (tmAt t.kids k)).length ≤ 60 := by
            have h1 := freeT_len (tmAt t.kids k)
            have h2 := szT_at hlt
            omega
          have hKa := Lib.hid (asc_frK t k)
          have hkp := HKP.out
          have hox := own_below ho hbx
          generalize tmAt t.kids k = u at d0 d1 d2 d3 hct hbx hb2 hnx hlL hox
          generalize frK t k = X at hnx hlK hKa hcap ho hox ⊢
          generalize freeT u = Y at hct hnx hlL
          generalize keepB t.op t.num = kp at hnx hkp
          clear HKP
          have HKP := Lib.hid hkp
          clear hget hp1 hk1 hbl hbx hb hbw ih hk ho hr hkp
          go_wp2_with fail
          refine hct.mono ?_
          rintro e w2 hpost
          obtain ⟨v2, rfl, ⟨g2, cap2, rfl, _, ho2⟩, hb3⟩ := insPost_own hpost
          have hia : IntsAt w2 (some ⟨g2, 0, none⟩) Y := by
            obtain ⟨A, c, e, h⟩ := own_intsAt ho2
            simp only [Value.slice.injEq] at e
            rw [e.1]
            exact h
          have hbs := hb2.trans (hb3.mono hb2.size)
          have hst2 : OwnI w2 w.heap.size (.slice (some ⟨g, 0, none⟩) X.length cap) (insAll X ((Y.take 0).filter kp)) := ⟨g, cap, rfl, hcap, own_below hox hb3⟩
          have hXN : Hid (X.length ≤ 60) := by show X.length ≤ 60; omega
          generalize X.length = N at hst2 ⊢
          clear hlK
          clear hct hb2 hb3 d0 d1 d2 d3 hpost ho2 hox hcap
          go_wp2
          go_loopw [3, 27] (fun v i wr => ∃ j : Nat, j ≤ Y.length ∧ i = .int .i64 j ∧ OwnI wr w.heap.size v (insAll X ((Y.take j).filter kp)) ∧ Below (w.alloc (.cells #[.int .i64 t.op, .int .i64 t.num, .slice A t.perm.length c, .slice (some ⟨b, off, none⟩) t.kids.length d] 46)).heap.size (w.alloc (.cells #[.int .i64 t.op, .int .i64 t.num, .slice A t.perm.length c, .slice (some ⟨b, off, none⟩) t.kids.length d] 46)) wr ∧ Below w2.heap.size w2 wr) (fun _ i _ => Y.length - (intOf i).toNat)
          case atStart => exact ⟨0, Nat.zero_le _, rfl, hst2, hbs, Below.refl _ _⟩
          case round =>
            clear hst2 hbs
            obtain ⟨j, hj, rfl, ⟨g3, cap3, rfl, hcap3, ho3⟩, hb4, hb5⟩ := hrel
            obtain ⟨b0, b1, b2, b3⟩ := box4 hb4
            by_cases hlj : j < Y.length
            · obtain ⟨b4, o4, hbo, hlt4, hc4⟩ := hia.below hb5 (by omega)
              simp only [Option.some.injEq, Addr.mk.injEq] at hbo
              obtain ⟨rfl, rfl, _⟩ := hbo
              have d4 := hc4 j hlj
              rw [Nat.zero_add] at d4
              have hlen0 := length_insAll X ((Y.take j).filter kp)
              have hlen1 := List.length_filter_le kp (Y.take j)
              rw [List.length_take] at hlen1
              have hlen : (insAll X ((Y.take j).filter kp)).length ≤ 120 := by have := hXN.out; omega
              clear hlen0 hlen1
              have hins := l1Insert_any w.heap.size g3 cap3 _ (itAt Y j) _ ho3 hcap3 (by omega) (asc_insAll _ _ hKa.out)
              have hkq := HKP.out (itAt Y j)
              rw [HOP.out] at b0
              by_cases ha : itAt Y j = t.num
              · have hkt : kp (itAt Y j) = false := by rw [hkq]; simp [ha]
                have hnext : Hid (insAll X ((Y.take (j + 1)).filter kp) = insAll X ((Y.take j).filter kp)) := fstep_no hlj hkt
                generalize insAll X ((Y.take j).filter kp) = Z at hnext hlen hcap3 ho3 ⊢
                have hv6 : OwnI wr w.heap.size (.slice (some ⟨g3, 0, none⟩) Z.length cap3) (insAll X ((Y.take (j + 1)).filter kp)) := by
                  rw [hnext.out]
                  exact ⟨g3, cap3, rfl, hcap3, ho3⟩
                have ka : (itAt Y j != t.num) = false := by simp [ha]
                have ka2 : (itAt Y j == t.num) = true := by simp [ha]
                generalize itAt Y j = a at d4 ka ka2
                clear ho3 hc4 hia hlen hkt hkq ha hins hnext b2 b3
                go_wp2
                refine ⟨⟨j + 1, by omega, by go_num, hv6, hb4, hb5⟩, ?_⟩
                simp only [intOf]
                omega
              · have hkt : kp (itAt Y j) = true := by rw [hkq]; simp [ha]
                have hnext : Hid (insAll X ((Y.take (j + 1)).filter kp) = insL (insAll X ((Y.take j).filter kp)) (itAt Y j)) := fstep_yes hlj hkt
                generalize insAll X ((Y.take j).filter kp) = Z at hins hnext hlen hcap3 ⊢
                have ka : (itAt Y j != t.num) = true := by simp [ha]
                have ka2 : (itAt Y j == t.num) = false := by simp [ha]
                generalize itAt Y j = a at d4 hins hnext ka ka2
                clear ho3 hc4 hia hlen hkt hkq ha b2 b3
                go_wp2_with fail
                refine hins.mono ?_
                rintro e w6 hpost
                obtain ⟨v6, rfl, hv6, hb6⟩ := insPost_own hpost
                rw [← hnext.out] at hv6
                have hb7 := hb4.trans (hb6.mono hb4.size)
                have hb8 := hb5.trans (hb6.mono hb5.size)
                clear hpost hins hnext hb4 hb5 hb6 d4 b0 b1
                go_wp2_with fail
                refine ⟨⟨j + 1, by omega, by go_num, hv6, hb7, hb8⟩, ?_⟩
                simp only [intOf]
                omega
            · have hov2 : OwnI wr w.heap.size (.slice (some ⟨g3, 0, none⟩) (insAll X ((Y.take j).filter kp)).length cap3) (frK t (k + 1)) := by
                rw [← hnx.out, List.take_of_length_le (show Y.length ≤ j by omega)] at *
                exact ⟨g3, cap3, rfl, hcap3, ho3⟩
              generalize (insAll X ((Y.take j).filter kp)).length = M at hov2 ⊢
              clear ho3 hcap3 hia hb5 hnx hKa b0 b1 b2 b3
              go_wp2
              refine ⟨⟨k + 1, by omega, by go_num, hov2, hb4⟩, ?_⟩
              simp only [intOf]
              omega
        · have hpost : InsPost w.heap.size (freeT t) w (.returned (.slice (some ⟨g, 0, none⟩) (frK t k).length cap)) wr := by
            rw [hr.out k (by omega)] at ho hcap ⊢
            exact ⟨g, cap, rfl, ho, hb⟩
          clear ih hk hb ho hcap hr HKP hbw
          go_wp2
          go_ret
          exact hpost
    · have HKP : Hid (∀ a, keepB t.op t.num a = true) := Lib.hid (fun a => by rw [keepB, decide_eq_false hop]; rfl)
      have k3 : (t.op == 3) = false := by simp [hop]
      have k4 : (t.op != 3) = true := by simp [hop]
      clear hop1 hop
      go_wp2
      go_loopw [3, 20] (fun v i wr => ∃ k : Nat, k ≤ t.kids.length ∧ i = .int .i64 k ∧ OwnI wr w.heap.size v (frK t k) ∧ Below (w.alloc (.cells #[.int .i64 t.op, .int .i64 t.num, .slice A t.perm.length c, .slice B t.kids.length d] 46)).heap.size (w.alloc (.cells #[.int .i64 t.op, .int .i64 t.num, .slice A t.perm.length c, .slice B t.kids.length d] 46)) wr) (fun _ i _ => t.kids.length - (intOf i).toNat)
      case atStart => exact ⟨0, Nat.zero_le _, rfl, hst, hbw0⟩
      case round =>
        clear hst b0 b1 b2 b3 hbw0
        obtain ⟨k, hk', rfl, ⟨g, cap, rfl, hcap, ho⟩, hbw⟩ := hrel
        have hb := hb0.trans (hbw.mono hb0.size)
        by_cases hlt : k < t.kids.length
        · obtain ⟨b, off, rfl, hbl, hget⟩ := (hk.below hb).get (by omega)
          obtain ⟨A1, c1, kv1, d0, d1, d2, d3, hp1, hk1⟩ := hget k hlt
          obtain ⟨B1, e1, rfl⟩ := hk1.form
          have hbx : Below wr.heap.size wr (wr.alloc (.cells #[.int .i64 (tmAt t.kids k).op, .int .i64 (tmAt t.kids k).num, .slice A1 (tmAt t.kids k).perm.length c1, .slice B1 (tmAt t.kids k).kids.length e1] 46)) := (Below.refl _ _).alloc (Nat.le_refl _) _
          have hct := ih k hlt _ _ ⟨A1, c1, _, rfl, hp1.below hbx, hk1.below hbx⟩
          have hb2 := hbw.trans (hbx.mono hbw.size)
          have hnx := Lib.hid (frK_next hlt)
          have hlK := frK_len t k
          rw [szT_eq] at hlK
          have hlL : (freeT (tmAt t.kids k)).length ≤ 60 := by
            have h1 := freeT_len (tmAt t.kids k)
            have h2 := szT_at hlt
            omega
          have hKa := Lib.hid (asc_frK t k)
          have hkp := HKP.out
          have hox := own_below ho hbx
          generalize tmAt t.kids k = u at d0 d1 d2 d3 hct hbx hb2 hnx hlL hox
          generalize frK t k = X at hnx hlK hKa hcap ho hox ⊢
          generalize freeT u = Y at hct hnx hlL
          generalize keepB t.op t.num = kp at hnx hkp
          clear HKP
          have HKP := Lib.hid hkp
          clear hget hp1 hk1 hbl hbx hb hbw ih hk ho hr hkp
          go_wp2_with fail
          refine hct.mono ?_
          rintro e w2 hpost
          obtain ⟨v2, rfl, ⟨g2, cap2, rfl, _, ho2⟩, hb3⟩ := insPost_own hpost
          have hia : IntsAt w2 (some ⟨g2, 0, none⟩) Y := by
            obtain ⟨A, c, e, h⟩ := own_intsAt ho2
            simp only [Value.slice.injEq] at e
            rw [e.1]
            exact h
          have hbs := hb2.trans (hb3.mono hb2.size)
          have hst2 : OwnI w2 w.heap.size (.slice (some ⟨g, 0, none⟩) X.length cap) (insAll X ((Y.take 0).filter kp)) := ⟨g, cap, rfl, hcap, own_below hox hb3⟩
          have hXN : Hid (X.length ≤ 60) := by show X.length ≤ 60; omega
          generalize X.length = N at hst2 ⊢
          clear hlK
          clear hct hb2 hb3 d0 d1 d2 d3 hpost ho2 hox hcap
          go_wp2
          go_loopw [3, 27] (fun v i wr => ∃ j : Nat, j ≤ Y.length ∧ i = .int .i64 j ∧ OwnI wr w.heap.size v (insAll X ((Y.take j).filter kp)) ∧ Below (w.alloc (.cells #[.int .i64 t.op, .int .i64 t.num, .slice A t.perm.length c, .slice (some ⟨b, off, none⟩) t.kids.length d] 46)).heap.size (w.alloc (.cells #[.int .i64 t.op, .int .i64 t.num, .slice A t.perm.length c, .slice (some ⟨b, off, none⟩) t.kids.length d] 46)) wr ∧ Below w2.heap.size w2 wr) (fun _ i _ => Y.length - (intOf i).toNat)
          case atStart => exact ⟨0, Nat.zero_le _, rfl, hst2, hbs, Below.refl _ _⟩
          case round =>
            clear hst2 hbs
            obtain ⟨j, hj, rfl, ⟨g3, cap3, rfl, hcap3, ho3⟩, hb4, hb5⟩ := hrel
            obtain ⟨b0, b1, b2, b3⟩ := box4 hb4
            by_cases hlj : j < Y.length
            · obtain ⟨b4, o4, hbo, hlt4, hc4⟩ := hia.below hb5 (by omega)
              simp only [Option.some.injEq, Addr.mk.injEq] at hbo
              obtain ⟨rfl, rfl, _⟩ := hbo
              have d4 := hc4 j hlj
              rw [Nat.zero_add] at d4
              have hlen0 := length_insAll X ((Y.take j).filter kp)
              have hlen1 := List.length_filter_le kp (Y.take j)
              rw [List.length_take] at hlen1
              have hlen : (insAll X ((Y.take j).filter kp)).length ≤ 120 := by have := hXN.out; omega
              clear hlen0 hlen1
              have hins := l1Insert_any w.heap.size g3 cap3 _ (itAt Y j) _ ho3 hcap3 (by omega) (asc_insAll _ _ hKa.out)
              have hkt := HKP.out (itAt Y j)
              have hnext : Hid (insAll X ((Y.take (j + 1)).filter kp) = insL (insAll X ((Y.take j).filter kp)) (itAt Y j)) := fstep_yes hlj hkt
              generalize insAll X ((Y.take j).filter kp) = Z at hins hnext hlen hcap3 ⊢
              generalize itAt Y j = a at d4 hins hnext
              clear ho3 hc4 hia hlen hkt b2 b3
              go_wp2_with fail
              refine hins.mono ?_
              rintro e w6 hpost
              obtain ⟨v6, rfl, hv6, hb6⟩ := insPost_own hpost
              rw [← hnext.out] at hv6
              have hb7 := hb4.trans (hb6.mono hb4.size)
              have hb8 := hb5.trans (hb6.mono hb5.size)
              clear hpost hins hnext hb4 hb5 hb6 d4 b0 b1
              go_wp2_with fail
              refine ⟨⟨j + 1, by omega, by go_num, hv6, hb7, hb8⟩, ?_⟩
              simp only [intOf]
              omega
            · have hov2 : OwnI wr w.heap.size (.slice (some ⟨g3, 0, none⟩) (insAll X ((Y.take j).filter kp)).length cap3) (frK t (k + 1)) := by
                rw [← hnx.out, List.take_of_length_le (show Y.length ≤ j by omega)] at *
                exact ⟨g3, cap3, rfl, hcap3, ho3⟩
              generalize (insAll X ((Y.take j).filter kp)).length = M at hov2 ⊢
              clear ho3 hcap3 hia hb5 hnx hKa b0 b1 b2 b3
              go_wp2
              refine ⟨⟨k + 1, by omega, by go_num, hov2, hb4⟩, ?_⟩
              simp only [intOf]
              omega
        · have hpost : InsPost w.heap.size (freeT t) w (.returned (.slice (some ⟨g, 0, none⟩) (frK t k).length cap)) wr := by
            rw [hr.out k (by omega)] at ho hcap ⊢
            exact ⟨g, cap, rfl, ho, hb⟩
          clear ih hk hb ho hcap hr HKP hbw
          go_wp2
          go_ret
          exact hpost

theorem l2Free_all : ∀ (N : Nat) (t : Tm), szT t ≤ N → N ≤ 60 → ∀ (w : World) (x : Value), TmIn w x t → Calls Tryz.prog 105 #[x] w (InsPost w.heap.size (freeT t) w) := by
  intro N
  induction N with
  | zero => intro t hN; rw [szT_eq] at hN; omega
  | succ N ih =>
    intro t hN h60 w x hx
    refine l2Free_step t x w hx (by omega) fun i hi w' y hy => ?_
    have h3 := szT_at hi
    rw [szT_eq] at hN
    exact ih _ (by omega) (by omega) w' y hy

end Go.Proofs.YtlhjgjfnmejiaaaGreat
end

