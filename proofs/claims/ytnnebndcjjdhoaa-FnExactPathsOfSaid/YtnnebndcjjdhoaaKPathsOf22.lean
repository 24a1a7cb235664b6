/-
  All terms within a term, in the program, as contracts. IsTerm in the program, as a contract.
-/
import Derived.Test.YtnnebndcjjdhoaaKPathsOf2
import Derived.Laws.AppendOwnNone
import Derived.Maps.AppendAt
namespace Go.Proofs.Ytnnebndcjjdhoaa
section
open Go.RowKit Go.Sort

theorem term_infoI : (Try.prog.info? 32).map (fun i => (i.zero, i.size, i.bytes)) = some (some (.agg #[.int .i64 0, .int .i64 0, .slice none 0 0, .slice none 0 0]), 4, 64) := by kernel_rfl

/-- The terms within a term, each of whose slices is the term's own, in a row of the call's own; or nothing and false. -/
def WithinPost (t : Tm) (w : World) (e : Ending) (w' : World) : Prop :=
  Below w.heap.size w w' ∧ ((isTermB t = false ∧ e = .returned (.tuple #[.slice none 0 0, .bool false])) ∨
    (isTermB t = true ∧ ∃ (F : List Tm) (g cap : Nat) (xs : List Value), e = .returned (.tuple #[.slice (some ⟨g, 0, none⟩) F.length cap, .bool true]) ∧ F.length = szT t ∧ (∀ y, y ∈ F ↔ y ∈ nodesT t) ∧
      w'.ownsRow w.heap.size 32 4 (.slice (some ⟨g, 0, none⟩) F.length cap) F.length xs ∧ AtL w xs (encTs F)))

theorem own_row_form {w : World} {base : Nat} {e : TypeId} {size n : Nat} {v : Value} {xs : List Value} (h : w.ownsRow base e size v n xs) (hn : 0 < n) : ∃ g cap, v = .slice (some ⟨g, 0, none⟩) n cap := by
  rcases h.2 with ⟨_, h0⟩ | ⟨g, cap, cur, rfl, _⟩
  · omega
  · exact ⟨g, cap, rfl⟩

/-- All within, about an earlier world. -/
def NodesPost (t : Tm) (w0 w : World) (e : Ending) (w' : World) : Prop :=
  Below w.heap.size w w' ∧ ((isTermB t = false ∧ e = .returned (.tuple #[.slice none 0 0, .bool false])) ∨
    (isTermB t = true ∧ ∃ (F : List Tm) (g cap : Nat) (xs : List Value), e = .returned (.tuple #[.slice (some ⟨g, 0, none⟩) F.length cap, .bool true]) ∧ F.length = szT t ∧ (∀ y, y ∈ F ↔ y ∈ nodesT t) ∧
      w'.ownsRow w.heap.size 32 4 (.slice (some ⟨g, 0, none⟩) F.length cap) F.length xs ∧ AtL w0 xs (encTs F)))
theorem nodes_no {t : Tm} {w0 w w' : World} (h : isTermB t = false) (hb : Below w.heap.size w w') : NodesPost t w0 w (.returned (.tuple #[.slice none 0 0, .bool false])) w' := ⟨hb, .inl ⟨h, rfl⟩⟩

set_option maxRecDepth 100000 in
theorem kidsOfTerm_any (o n : Int) (A B : Option Addr) (pl c kl d : Nat) (w : World) :
    Calls Try.prog 37 #[.agg #[.int .i64 o, .int .i64 n, .slice A pl c, .slice B kl d]] w fun e w' => e = .returned (.slice B kl d) ∧ Below w.heap.size w w' := by
  have hb0 : Below w.heap.size w (w.alloc (.cells #[.int .i64 o, .int .i64 n, .slice A pl c, .slice B kl d] 32)) := (Below.refl _ _).alloc (Nat.le_refl _) _
  go_enter Try.func37, Try.ntmps37
  go_wp2
  go_ret
  exact ⟨rfl, hb0⟩

set_option maxRecDepth 100000 in
set_option maxHeartbeats 4000000 in
theorem nodesT_any (t : Tm) (x : Value) (w0 w : World) (hx : TmIn w0 x t) (hw : Below w0.heap.size w0 w) (hf : Fit t) :
    Calls Try.prog 36 #[x, .func (.func 37) #[] #[], .func (.func 38) #[] #[]] w (NodesPost t w0 w) := by
  obtain ⟨i0, hi0, hz0, hz1, hz2⟩ := info_parts term_infoI
  have HS := Lib.hid hz2
  clear hz2
  obtain ⟨A, c, kv, rfl, hp, hk⟩ := hx
  obtain ⟨B, d, rfl⟩ := hk.form
  have hb0 : Below w.heap.size w ((w.alloc (.cells #[.int .i64 t.op, .int .i64 t.num, .slice A t.perm.length c, .slice B t.kids.length d] 32)).alloc (.cells #[.int .i64 t.op, .int .i64 t.num, .slice A t.perm.length c, .slice B t.kids.length d] 32)) := ((Below.refl _ _).alloc (Nat.le_refl _) _).alloc (by simp) _
  have ho0 : ((w.alloc (.cells #[.int .i64 t.op, .int .i64 t.num, .slice A t.perm.length c, .slice B t.kids.length d] 32)).alloc (.cells #[.int .i64 t.op, .int .i64 t.num, .slice A t.perm.length c, .slice B t.kids.length d] 32)).ownsRow w.heap.size 32 4 (.slice (some ⟨w.heap.size + 1, 0, none⟩) 1 1) 1 [.int .i64 t.op, .int .i64 t.num, .slice A t.perm.length c, .slice B t.kids.length d] := by
    have h9 := World.ownsRow_lit (base := (w.alloc (.cells #[.int .i64 t.op, .int .i64 t.num, .slice A t.perm.length c, .slice B t.kids.length d] 32)).heap.size) (e := 32) (size := 4) (w.alloc (.cells #[.int .i64 t.op, .int .i64 t.num, .slice A t.perm.length c, .slice B t.kids.length d] 32)) #[.int .i64 t.op, .int .i64 t.num, .slice A t.perm.length c, .slice B t.kids.length d] 1 (Nat.le_refl _) (by decide) rfl
    rw [World.size_alloc] at h9
    exact own_le h9 (by omega)
  have hL0 : AtL w0 [.int .i64 t.op, .int .i64 t.num, .slice A t.perm.length c, .slice B t.kids.length d] (encTs [t]) := by
    rw [show encTs [t] = encT t by simp [encTs]]
    exact atL_term hp hk
  have HW := Lib.hid (walk_start t)
  have HF : Fits [t] := ⟨hf, trivial⟩
  go_enter Try.func36, Try.ntmps36
  go_wp2
  go_loopw [8, 9] (fun v i wr => ∃ (F : List Tm) (k g cap : Nat) (xs : List Value), i = .int .i64 k ∧ v = .slice (some ⟨g, 0, none⟩) F.length cap ∧ Hid (Walk t F k) ∧ Fits F ∧ F.length ≤ 60 ∧
    wr.ownsRow w.heap.size 32 4 v F.length xs ∧ AtL w0 xs (encTs F) ∧ Below w.heap.size w wr) (fun _ i _ => 60 - (intOf i).toNat)
  case atStart => exact ⟨[t], 0, w.heap.size + 1, 1, _, rfl, rfl, HW, HF, by simp, ho0, hL0, hb0⟩
  case round =>
    clear ho0 hL0 hb0 HW HF hp hk
    obtain ⟨F, k, g, cap, xs, rfl, rfl, hW, hF, h60, ho, hL, hb⟩ := hrel
    by_cases hlt : k < F.length
    · obtain ⟨A1, c1, B1, d1, e0, e1, e2, e3, hp1, hk1⟩ := hL.term hlt
      have hxl := ho.1
      have g0 := (ho.cellAt (k * 4) (by omega)).trans e0
      have g1 := (ho.cellAt (k * 4 + 1) (by omega)).trans e1
      have g2 := (ho.cellAt (k * 4 + 2) (by omega)).trans e2
      have g3 := (ho.cellAt (k * 4 + 3) (by omega)).trans e3
      have hfu := (fit_eq _).1 (fits_at hF hlt)
      have hsh := fun wz (hz : Below wr.heap.size wr wz) => shape_impl_any (tmAt F k) _ wz ⟨A1, c1, _, rfl, ((hp1.below hw).below hb).below hz, ((hk1.below hw).below hb).below hz⟩ hfu.1 hfu.2.1
      have hbad := fun h => Lib.hid (walk_bad hW.out hlt h)
      have hgreat := fun h => Lib.hid (walk_great hW.out hlt h)
      have hnext := fun h h' => Lib.hid (walk_next hW.out hlt h h')
      generalize tmAt F k = u at g0 g1 g2 g3 hfu hsh hbad hgreat hnext hp1 hk1
      clear e0 e1 e2 e3 hp1 hf
      have hko := kidsOfTerm_any u.op u.num A1 B1 u.perm.length c1 u.kids.length d1 wr
      by_cases hs : shapeB u = true
      · rw [hs] at hsh
        by_cases hl : F.length + u.kids.length ≤ 60
        · have hW2 := hnext hs hl
          have hF2 : Fits (F ++ u.kids) := by
            have : ∀ a b : List Tm, Fits a → Fits b → Fits (a ++ b) := by
              intro a
              induction a with
              | nil => intro b _ h; exact h
              | cons t r ih => intro b h h'; exact ⟨h.1, ih b h.2 h'⟩
            exact this _ _ hF hfu.2.2
          clear hbad hgreat hnext hs
          have hle : ¬ (60 : Int) < (F.length : Int) + (u.kids.length : Int) := by omega
          go_wp2_with fail
          refine hko.mono ?_
          rintro e w1 ⟨rfl, hb1⟩
          have hsh1 := hsh w1 hb1
          have g0 := (hb1.cell (p := ⟨g, k * 4, none⟩) (ho.lt g rfl).2).trans g0
          have g1 := (hb1.cell (p := ⟨g, k * 4 + 1, none⟩) (ho.lt g rfl).2).trans g1
          have g2 := (hb1.cell (p := ⟨g, k * 4 + 2, none⟩) (ho.lt g rfl).2).trans g2
          have g3 := (hb1.cell (p := ⟨g, k * 4 + 3, none⟩) (ho.lt g rfl).2).trans g3
          go_wp2_with fail
          refine hsh1.mono ?_
          rintro e w2 ⟨rfl, hb2⟩
          have hb2 := hb1.trans (hb2.mono hb1.size)
          have ho2 := own_below ho hb2
          have hb3 := hb.trans (hb2.mono hb.size)
          clear hsh hsh1 hko hb1 ho hb hb2 g0 g1 g2 g3
          cases B1 with
          | none =>
            obtain ⟨hk0, rfl⟩ := tms_none hk1
            rw [hk0] at hW2 hF2 hle ⊢
            rw [List.append_nil] at hW2
            clear hF2
            go_wp2_with (at_builtin; refine wpList_append_own_none rfl (.tmp 40) (.tmp 41) 30 rfl w.heap.size 32 i0 4 Try.underlying30 hi0 _ F.length xs rfl ho2 rfl ?_)
            go_wp2
            refine ⟨⟨F, k + 1, g, cap, xs, by go_num, rfl, hW2, hF, h60, ho2, hL, hb3⟩, ?_⟩
            simp only [intOf]
            omega
          | some ad =>
            obtain ⟨ys, hyl, hLy, hcy⟩ := hk1.cells
            have hlt0 : ∀ j v, ys[j]? = some v → (ad.add j).block < w0.heap.size := fun j v hj => World.block_lt_of_cell? w0 _ (hcy j v hj)
            have hcy2 : ∀ j v, ys[j]? = some v → w2.cell? (ad.add j) = some v := fun j v hj => (hb3.cell (Nat.lt_of_lt_of_le (hlt0 j v hj) hw.size)).trans ((hw.cell (hlt0 j v hj)).trans (hcy j v hj))
            have HC := Lib.hid hcy2
            have hL2 := hL.append hLy
            rw [← encTs_append] at hL2
            have hyl2 := Lib.hid hyl
            have hsz := hb3.size
            clear hcy hlt0 hcy2 hk1 hyl
            go_wp2_with (at_builtin; refine wpList_append_own_at _ rfl (.tmp 40) (.tmp 41) 30 rfl w.heap.size 32 i0 _ 4 64 Try.underlying30 hi0 hz0 hz1 HS.out rfl (by decide) _ F.length _ rfl ho2 ad u.kids.length d1 ys rfl hyl2.out HC.out (tms_one hLy) ?c3 ?c4 ?c5 ?_)
            case c3 => unfold maxLen; omega
            case c4 => omega
            case c5 => exact hsz
            intro v5 w5 ho5 hg5 _ _
            have hb5 := below_own hb3 ho2 (Nat.le_refl _) hsz hg5
            obtain ⟨g6, cap6, rfl⟩ := own_row_form ho5 (by omega)
            have hlen : Hid (F.length + u.kids.length = (F ++ u.kids).length) := by show F.length + u.kids.length = (F ++ u.kids).length; rw [List.length_append]
            rw [hlen.out] at ho5 hl ⊢
            have hk60 : k < 60 := by omega
            clear ho2 hg5 hb3 HC hyl2 hLy hle hfu hW hF h60 hlt hlen
            go_wp2
            refine ⟨⟨F ++ u.kids, k + 1, g6, cap6, _, by go_num, rfl, hW2, hF2, hl, ho5, hL2, hb5⟩, ?_⟩
            simp only [intOf]
            omega
        · have hr := hgreat (by omega)
          have hle : (60 : Int) < (F.length : Int) + (u.kids.length : Int) := by omega
          clear hbad hgreat hnext hs hl
          go_wp2_with fail
          refine hko.mono ?_
          rintro e w1 ⟨rfl, hb1⟩
          have hsh1 := hsh w1 hb1
          have g0 := (hb1.cell (p := ⟨g, k * 4, none⟩) (ho.lt g rfl).2).trans g0
          have g1 := (hb1.cell (p := ⟨g, k * 4 + 1, none⟩) (ho.lt g rfl).2).trans g1
          have g2 := (hb1.cell (p := ⟨g, k * 4 + 2, none⟩) (ho.lt g rfl).2).trans g2
          have g3 := (hb1.cell (p := ⟨g, k * 4 + 3, none⟩) (ho.lt g rfl).2).trans g3
          go_wp2_with fail
          refine hsh1.mono ?_
          rintro e w2 ⟨rfl, hb2⟩
          have hb2 := hb1.trans (hb2.mono hb1.size)
          have hpost := nodes_no (w0 := w0) hr.out (hb.trans (hb2.mono hb.size))
          clear hsh hsh1 hko hb1 ho hb hb2 g0 g1 g2 g3 hW hL hr hk1
          go_wp2
          go_ret2
          exact hpost
      · have hs' : shapeB u = false := by simpa using hs
        rw [hs'] at hsh
        have hr := hbad hs'
        clear hbad hgreat hnext hs hs'
        go_wp2_with fail
        refine hko.mono ?_
        rintro e w1 ⟨rfl, hb1⟩
        have hsh1 := hsh w1 hb1
        have g0 := (hb1.cell (p := ⟨g, k * 4, none⟩) (ho.lt g rfl).2).trans g0
        have g1 := (hb1.cell (p := ⟨g, k * 4 + 1, none⟩) (ho.lt g rfl).2).trans g1
        have g2 := (hb1.cell (p := ⟨g, k * 4 + 2, none⟩) (ho.lt g rfl).2).trans g2
        have g3 := (hb1.cell (p := ⟨g, k * 4 + 3, none⟩) (ho.lt g rfl).2).trans g3
        go_wp2_with fail
        refine hsh1.mono ?_
        rintro e w2 ⟨rfl, hb2⟩
        have hb2 := hb1.trans (hb2.mono hb1.size)
        have hpost := nodes_no (w0 := w0) hr.out (hb.trans (hb2.mono hb.size))
        clear hsh hsh1 hko hb1 ho hb hb2 g0 g1 g2 g3 hW hL hr hk1
        go_wp2
        go_ret2
        exact hpost
    · have hwe := walk_end hW.out (by omega)
      have hpost : NodesPost t w0 w (.returned (.tuple #[.slice (some ⟨g, 0, none⟩) F.length cap, .bool true])) wr := ⟨hb, .inr ⟨hwe.1, F, g, cap, xs, rfl, hwe.2.1, hwe.2.2, ho, hL⟩⟩
      clear hwe ho hL hb hW
      go_wp2
      go_ret2
      exact hpost

set_option maxRecDepth 100000 in
theorem within_any (t : Tm) (x : Value) (w : World) (hx : TmIn w x t) (hf : Fit t) :
    Calls Try.prog 32 #[x] w (WithinPost t w) := by
  have hwi := fun W hW => nodesT_any t x w W hx hW hf
  clear hf
  obtain ⟨A, c, kv, rfl, hp, hk⟩ := hx
  obtain ⟨B, d, rfl⟩ := hk.form
  have hb0 : Below w.heap.size w (w.alloc (.cells #[.int .i64 t.op, .int .i64 t.num, .slice A t.perm.length c, .slice B t.kids.length d] 32)) := (Below.refl _ _).alloc (Nat.le_refl _) _
  have hw0 := hwi _ hb0
  clear hwi
  go_enter Try.func32, Try.ntmps32
  go_wp2_with fail
  refine hw0.mono ?_
  rintro e w1 ⟨hb1, ⟨hno, rfl⟩ | ⟨hyes, F, g, cap, xs, rfl, h1, h2, h3, h4⟩⟩
  · have hpost : WithinPost t w (.returned (.tuple #[.slice none 0 0, .bool false])) w1 := ⟨hb0.trans (hb1.mono hb0.size), .inl ⟨hno, rfl⟩⟩
    clear hw0 hb0 hb1 hp hk hno
    go_wp2
    go_ret2
    exact hpost
  · have hpost : WithinPost t w (.returned (.tuple #[.slice (some ⟨g, 0, none⟩) F.length cap, .bool true])) w1 := ⟨hb0.trans (hb1.mono hb0.size), .inr ⟨hyes, F, g, cap, xs, rfl, h1, h2, own_le h3 hb0.size, h4⟩⟩
    clear hw0 hb0 hb1 hp hk hyes h1 h2 h3 h4
    go_wp2
    go_ret2
    exact hpost
end

section
open Go.RowKit Go.Sort

set_option maxRecDepth 100000 in
theorem isTerm_impl (t : Tm) (x : Value) (w : World) (hx : TmIn w x t) (hf : Fit t) :
    Calls Try.prog 19 #[x] w (BoolPost (isTermB t) w) := by
  have hwi := fun W hW => within_any t x W hW hf
  obtain ⟨A, c, kv, rfl, hp, hk⟩ := hx
  obtain ⟨B, d, rfl⟩ := hk.form
  have hb0 : Below w.heap.size w (w.alloc (.cells #[.int .i64 t.op, .int .i64 t.num, .slice A t.perm.length c, .slice B t.kids.length d] 32)) := (Below.refl _ _).alloc (Nat.le_refl _) _
  have hw0 := hwi _ ⟨A, c, _, rfl, hp.below hb0, hk.below hb0⟩
  clear hwi
  go_enter Try.func19, Try.ntmps19
  go_wp2_with fail
  refine hw0.mono ?_
  rintro e w1 ⟨hb1, ⟨hno, rfl⟩ | ⟨hyes, F, g, cap, xs, rfl, _, _, _, _⟩⟩
  · have hpost : BoolPost (isTermB t) w (.returned (.bool false)) w1 := ⟨by rw [hno], hb0.trans (hb1.mono hb0.size)⟩
    clear hw0 hb0 hb1 hp hk hno
    go_wp2
    go_ret
    exact hpost
  · have hpost : BoolPost (isTermB t) w (.returned (.bool true)) w1 := ⟨by rw [hyes], hb0.trans (hb1.mono hb0.size)⟩
    clear hw0 hb0 hb1 hp hk hyes
    go_wp2
    go_ret
    exact hpost
end
end Go.Proofs.Ytnnebndcjjdhoaa
