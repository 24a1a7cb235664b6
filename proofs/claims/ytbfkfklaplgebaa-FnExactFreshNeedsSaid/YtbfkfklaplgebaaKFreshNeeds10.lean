/-
  All terms within a term, in the program, as contracts. IsTerm in the program, as a contract. The holes of a term, in plain words; whether a term has holes and whether it is ground, in the model, as contracts. The holes of a term, and the terms within it: plain words. Acting with a permutation on a term: plain words, no program is walked here.
-/
import Derived.Test.YtbfkfklaplgebaaKFreshNeeds6
import Derived.Laws.AppendOwnNone
import Derived.Maps.AppendAt
section
namespace Go.Proofs.Ytbfkfklaplgebaa
section
open Go.RowKit Go.Sort

theorem term_infoI : (Try.prog.info? 31).map (fun i => (i.zero, i.size, i.bytes)) = some (some (.agg #[.int .i64 0, .int .i64 0, .slice none 0 0, .slice none 0 0]), 4, 64) := by kernel_rfl

/-- The terms within a term, each of whose slices is the term's own, in a row of the call's own; or nothing and false. -/
def WithinPost (t : Tm) (w : World) (e : Ending) (w' : World) : Prop :=
  Below w.heap.size w w' ∧ ((isTermB t = false ∧ e = .returned (.tuple #[.slice none 0 0, .bool false])) ∨
    (isTermB t = true ∧ ∃ (F : List Tm) (g cap : Nat) (xs : List Value), e = .returned (.tuple #[.slice (some ⟨g, 0, none⟩) F.length cap, .bool true]) ∧ F.length = szT t ∧ (∀ y, y ∈ F ↔ y ∈ nodesT t) ∧
      w'.ownsRow w.heap.size 31 4 (.slice (some ⟨g, 0, none⟩) F.length cap) F.length xs ∧ AtL w xs (encTs F)))

theorem own_row_form {w : World} {base : Nat} {e : TypeId} {size n : Nat} {v : Value} {xs : List Value} (h : w.ownsRow base e size v n xs) (hn : 0 < n) : ∃ g cap, v = .slice (some ⟨g, 0, none⟩) n cap := by
  rcases h.2 with ⟨_, h0⟩ | ⟨g, cap, cur, rfl, _⟩
  · omega
  · exact ⟨g, cap, rfl⟩

/-- All within, about an earlier world. -/
def NodesPost (t : Tm) (w0 w : World) (e : Ending) (w' : World) : Prop :=
  Below w.heap.size w w' ∧ ((isTermB t = false ∧ e = .returned (.tuple #[.slice none 0 0, .bool false])) ∨
    (isTermB t = true ∧ ∃ (F : List Tm) (g cap : Nat) (xs : List Value), e = .returned (.tuple #[.slice (some ⟨g, 0, none⟩) F.length cap, .bool true]) ∧ F.length = szT t ∧ (∀ y, y ∈ F ↔ y ∈ nodesT t) ∧
      w'.ownsRow w.heap.size 31 4 (.slice (some ⟨g, 0, none⟩) F.length cap) F.length xs ∧ AtL w0 xs (encTs F)))
theorem nodes_no {t : Tm} {w0 w w' : World} (h : isTermB t = false) (hb : Below w.heap.size w w') : NodesPost t w0 w (.returned (.tuple #[.slice none 0 0, .bool false])) w' := ⟨hb, .inl ⟨h, rfl⟩⟩

set_option maxRecDepth 100000 in
theorem kidsOfTerm_any (o n : Int) (A B : Option Addr) (pl c kl d : Nat) (w : World) :
    Calls Try.prog 86 #[.agg #[.int .i64 o, .int .i64 n, .slice A pl c, .slice B kl d]] w fun e w' => e = .returned (.slice B kl d) ∧ Below w.heap.size w w' := by
  have hb0 : Below w.heap.size w (w.alloc (.cells #[.int .i64 o, .int .i64 n, .slice A pl c, .slice B kl d] 31)) := (Below.refl _ _).alloc (Nat.le_refl _) _
  go_enter Try.func86, Try.ntmps86
  go_wp2
  go_ret
  exact ⟨rfl, hb0⟩

set_option maxRecDepth 100000 in
set_option maxHeartbeats 4000000 in
theorem nodesT_any (t : Tm) (x : Value) (w0 w : World) (hx : TmIn w0 x t) (hw : Below w0.heap.size w0 w) (hf : Fit t) :
    Calls Try.prog 85 #[x, .func (.func 86) #[] #[], .func (.func 87) #[] #[]] w (NodesPost t w0 w) := by
  obtain ⟨i0, hi0, hz0, hz1, hz2⟩ := info_parts term_infoI
  have HS := Lib.hid hz2
  clear hz2
  obtain ⟨A, c, kv, rfl, hp, hk⟩ := hx
  obtain ⟨B, d, rfl⟩ := hk.form
  have hb0 : Below w.heap.size w ((w.alloc (.cells #[.int .i64 t.op, .int .i64 t.num, .slice A t.perm.length c, .slice B t.kids.length d] 31)).alloc (.cells #[.int .i64 t.op, .int .i64 t.num, .slice A t.perm.length c, .slice B t.kids.length d] 31)) := ((Below.refl _ _).alloc (Nat.le_refl _) _).alloc (by simp) _
  have ho0 : ((w.alloc (.cells #[.int .i64 t.op, .int .i64 t.num, .slice A t.perm.length c, .slice B t.kids.length d] 31)).alloc (.cells #[.int .i64 t.op, .int .i64 t.num, .slice A t.perm.length c, .slice B t.kids.length d] 31)).ownsRow w.heap.size 31 4 (.slice (some ⟨w.heap.size + 1, 0, none⟩) 1 1) 1 [.int .i64 t.op, .int .i64 t.num, .slice A t.perm.length c, .slice B t.kids.length d] := by
    have h9 := World.ownsRow_lit (base := (w.alloc (.cells #[.int .i64 t.op, .int .i64 t.num, .slice A t.perm.length c, .slice B t.kids.length d] 31)).heap.size) (e := 31) (size := 4) (w.alloc (.cells #[.int .i64 t.op, .int .i64 t.num, .slice A t.perm.length c, .slice B t.kids.length d] 31)) #[.int .i64 t.op, .int .i64 t.num, .slice A t.perm.length c, .slice B t.kids.length d] 1 (Nat.le_refl _) (by decide) rfl
    rw [World.size_alloc] at h9
    exact own_le h9 (by omega)
  have hL0 : AtL w0 [.int .i64 t.op, .int .i64 t.num, .slice A t.perm.length c, .slice B t.kids.length d] (encTs [t]) := by
    rw [show encTs [t] = encT t by simp [encTs]]
    exact atL_term hp hk
  have HW := Lib.hid (walk_start t)
  have HF : Fits [t] := ⟨hf, trivial⟩
  go_enter Try.func85, Try.ntmps85
  go_wp2
  go_loopw [8, 9] (fun v i wr => ∃ (F : List Tm) (k g cap : Nat) (xs : List Value), i = .int .i64 k ∧ v = .slice (some ⟨g, 0, none⟩) F.length cap ∧ Hid (Walk t F k) ∧ Fits F ∧ F.length ≤ 60 ∧
    wr.ownsRow w.heap.size 31 4 v F.length xs ∧ AtL w0 xs (encTs F) ∧ Below w.heap.size w wr) (fun _ i _ => 60 - (intOf i).toNat)
  case atStart => exact ⟨[t], 0, w.heap.size + 1, 1, _, rfl, rfl, HW, HF, by simp, ho0, hL0, hb0⟩
  case round =>
    clear ho0 hL0 hb0 HW HF hp hk
    obtain ⟨F, k, g, cap, xs, rfl, rfl, hW, hF, h60, ho, hL, hb⟩ := hrel
    by_cases hlt : k < F.length
    · obtain ⟨A1, c1, B1, d1, e0, e1, e2, e3, hp1, hk1⟩ := hL.term hlt
      have hxl := ho.1
      have g0 := (ho.cellAt (k * 4) (by omega)).trans e0
      have g1 := (ho.cellAt (k * 4 + 1) (by omega)).trans e1
      have g2 := (ho.cellAt (k * 4 + 2) (by omega)).trans e2
      have g3 := (ho.cellAt (k * 4 + 3) (by omega)).trans e3
      have hfu := (fit_eq _).1 (fits_at hF hlt)
      have hsh := fun wz (hz : Below wr.heap.size wr wz) => shape_impl_any (tmAt F k) _ wz ⟨A1, c1, _, rfl, ((hp1.below hw).below hb).below hz, ((hk1.below hw).below hb).below hz⟩ hfu.1 hfu.2.1
      have hbad := fun h => Lib.hid (walk_bad hW.out hlt h)
      have hgreat := fun h => Lib.hid (walk_great hW.out hlt h)
      have hnext := fun h h' => Lib.hid (walk_next hW.out hlt h h')
      generalize tmAt F k = u at g0 g1 g2 g3 hfu hsh hbad hgreat hnext hp1 hk1
      clear e0 e1 e2 e3 hp1 hf
      have hko := kidsOfTerm_any u.op u.num A1 B1 u.perm.length c1 u.kids.length d1 wr
      by_cases hs : shapeB u = true
      · rw [hs] at hsh
        by_cases hl : F.length + u.kids.length ≤ 60
        · have hW2 := hnext hs hl
          have hF2 : Fits (F ++ u.kids) := by
            have : ∀ a b : List Tm, Fits a → Fits b → Fits (a ++ b) := by
              intro a
              induction a with
              | nil => intro b _ h; exact h
              | cons t r ih => intro b h h'; exact ⟨h.1, ih b h.2 h'⟩
            exact this _ _ hF hfu.2.2
          clear hbad hgreat hnext hs
          have hle : ¬ (60 : Int) < (F.length : Int) + (u.kids.length : Int) := by omega
          go_wp2_with fail
          refine hko.mono ?_
          rintro e w1 ⟨rfl, hb1⟩
          have hsh1 := hsh w1 hb1
          have g0 := (hb1.cell (p := ⟨g, k * 4, none⟩) (ho.lt g rfl).2).trans g0
          have g1 := (hb1.cell (p := ⟨g, k * 4 + 1, none⟩) (ho.lt g rfl).2).trans g1
          have g2 := (hb1.cell (p := ⟨g, k * 4 + 2, none⟩) (ho.lt g rfl).2).trans g2
          have g3 := (hb1.cell (p := ⟨g, k * 4 + 3, none⟩) (ho.lt g rfl).2).trans g3
          go_wp2_with fail
          refine hsh1.mono ?_
          rintro e w2 ⟨rfl, hb2⟩
          have hb2 := hb1.trans (hb2.mono hb1.size)
          have ho2 := own_below ho hb2
          have hb3 := hb.trans (hb2.mono hb.size)
          clear hsh hsh1 hko hb1 ho hb hb2 g0 g1 g2 g3
          cases B1 with
          | none =>
            obtain ⟨hk0, rfl⟩ := tms_none hk1
            rw [hk0] at hW2 hF2 hle ⊢
            rw [List.append_nil] at hW2
            clear hF2
            go_wp2_with (at_builtin; refine wpList_append_own_none rfl (.tmp 40) (.tmp 41) 29 rfl w.heap.size 31 i0 4 Try.underlying29 hi0 _ F.length xs rfl ho2 rfl ?_)
            go_wp2
            refine ⟨⟨F, k + 1, g, cap, xs, by go_num, rfl, hW2, hF, h60, ho2, hL, hb3⟩, ?_⟩
            simp only [intOf]
            omega
          | some ad =>
            obtain ⟨ys, hyl, hLy, hcy⟩ := hk1.cells
            have hlt0 : ∀ j v, ys[j]? = some v → (ad.add j).block < w0.heap.size := fun j v hj => World.block_lt_of_cell? w0 _ (hcy j v hj)
            have hcy2 : ∀ j v, ys[j]? = some v → w2.cell? (ad.add j) = some v := fun j v hj => (hb3.cell (Nat.lt_of_lt_of_le (hlt0 j v hj) hw.size)).trans ((hw.cell (hlt0 j v hj)).trans (hcy j v hj))
            have HC := Lib.hid hcy2
            have hL2 := hL.append hLy
            rw [← encTs_append] at hL2
            have hyl2 := Lib.hid hyl
            have hsz := hb3.size
            clear hcy hlt0 hcy2 hk1 hyl
            go_wp2_with (at_builtin; refine wpList_append_own_at _ rfl (.tmp 40) (.tmp 41) 29 rfl w.heap.size 31 i0 _ 4 64 Try.underlying29 hi0 hz0 hz1 HS.out rfl (by decide) _ F.length _ rfl ho2 ad u.kids.length d1 ys rfl hyl2.out HC.out (tms_one hLy) ?c3 ?c4 ?c5 ?_)
            case c3 => unfold maxLen; omega
            case c4 => omega
            case c5 => exact hsz
            intro v5 w5 ho5 hg5 _ _
            have hb5 := below_own hb3 ho2 (Nat.le_refl _) hsz hg5
            obtain ⟨g6, cap6, rfl⟩ := own_row_form ho5 (by omega)
            have hlen : Hid (F.length + u.kids.length = (F ++ u.kids).length) := by show F.length + u.kids.length = (F ++ u.kids).length; rw [List.length_append]
            rw [hlen.out] at ho5 hl ⊢
            have hk60 : k < 60 := by omega
            clear ho2 hg5 hb3 HC hyl2 hLy hle hfu hW hF h60 hlt hlen
            go_wp2
            refine ⟨⟨F ++ u.kids, k + 1, g6, cap6, _, by go_num, rfl, hW2, hF2, hl, ho5, hL2, hb5⟩, ?_⟩
            simp only [intOf]
            omega
        · have hr := hgreat (by omega)
          have hle : (60 : Int) < (F.length : Int) + (u.kids.length : Int) := by omega
          clear hbad hgreat hnext hs hl
          go_wp2_with fail
          refine hko.mono ?_
          rintro e w1 ⟨rfl, hb1⟩
          have hsh1 := hsh w1 hb1
          have g0 := (hb1.cell (p := ⟨g, k * 4, none⟩) (ho.lt g rfl).2).trans g0
          have g1 := (hb1.cell (p := ⟨g, k * 4 + 1, none⟩) (ho.lt g rfl).2).trans g1
          have g2 := (hb1.cell (p := ⟨g, k * 4 + 2, none⟩) (ho.lt g rfl).2).trans g2
          have g3 := (hb1.cell (p := ⟨g, k * 4 + 3, none⟩) (ho.lt g rfl).2).trans g3
          go_wp2_with fail
          refine hsh1.mono ?_
          rintro e w2 ⟨rfl, hb2⟩
          have hb2 := hb1.trans (hb2.mono hb1.size)
          have hpost := nodes_no (w0 := w0) hr.out (hb.trans (hb2.mono hb.size))
          clear hsh hsh1 hko hb1 ho hb hb2 g0 g1 g2 g3 hW hL hr hk1
          go_wp2
          go_ret2
          exact hpost
      · have hs' : shapeB u = false := by simpa using hs
        rw [hs'] at hsh
        have hr := hbad hs'
        clear hbad hgreat hnext hs hs'
        go_wp2_with fail
        refine hko.mono ?_
        rintro e w1 ⟨rfl, hb1⟩
        have hsh1 := hsh w1 hb1
        have g0 := (hb1.cell (p := ⟨g, k * 4, none⟩) (ho.lt g rfl).2).trans g0
        have g1 := (hb1.cell (p := ⟨g, k * 4 + 1, none⟩) (ho.lt g rfl).2).trans g1
        have g2 := (hb1.cell (p := ⟨g, k * 4 + 2, none⟩) (ho.lt g rfl).2).trans g2
        have g3 := (hb1.cell (p := ⟨g, k * 4 + 3, none⟩) (ho.lt g rfl).2).trans g3
        go_wp2_with fail
        refine hsh1.mono ?_
        rintro e w2 ⟨rfl, hb2⟩
        have hb2 := hb1.trans (hb2.mono hb1.size)
        have hpost := nodes_no (w0 := w0) hr.out (hb.trans (hb2.mono hb.size))
        clear hsh hsh1 hko hb1 ho hb hb2 g0 g1 g2 g3 hW hL hr hk1
        go_wp2
        go_ret2
        exact hpost
    · have hwe := walk_end hW.out (by omega)
      have hpost : NodesPost t w0 w (.returned (.tuple #[.slice (some ⟨g, 0, none⟩) F.length cap, .bool true])) wr := ⟨hb, .inr ⟨hwe.1, F, g, cap, xs, rfl, hwe.2.1, hwe.2.2, ho, hL⟩⟩
      clear hwe ho hL hb hW
      go_wp2
      go_ret2
      exact hpost

set_option maxRecDepth 100000 in
theorem within_any (t : Tm) (x : Value) (w : World) (hx : TmIn w x t) (hf : Fit t) :
    Calls Try.prog 64 #[x] w (WithinPost t w) := by
  have hwi := fun W hW => nodesT_any t x w W hx hW hf
  clear hf
  obtain ⟨A, c, kv, rfl, hp, hk⟩ := hx
  obtain ⟨B, d, rfl⟩ := hk.form
  have hb0 : Below w.heap.size w (w.alloc (.cells #[.int .i64 t.op, .int .i64 t.num, .slice A t.perm.length c, .slice B t.kids.length d] 31)) := (Below.refl _ _).alloc (Nat.le_refl _) _
  have hw0 := hwi _ hb0
  clear hwi
  go_enter Try.func64, Try.ntmps64
  go_wp2_with fail
  refine hw0.mono ?_
  rintro e w1 ⟨hb1, ⟨hno, rfl⟩ | ⟨hyes, F, g, cap, xs, rfl, h1, h2, h3, h4⟩⟩
  · have hpost : WithinPost t w (.returned (.tuple #[.slice none 0 0, .bool false])) w1 := ⟨hb0.trans (hb1.mono hb0.size), .inl ⟨hno, rfl⟩⟩
    clear hw0 hb0 hb1 hp hk hno
    go_wp2
    go_ret2
    exact hpost
  · have hpost : WithinPost t w (.returned (.tuple #[.slice (some ⟨g, 0, none⟩) F.length cap, .bool true])) w1 := ⟨hb0.trans (hb1.mono hb0.size), .inr ⟨hyes, F, g, cap, xs, rfl, h1, h2, own_le h3 hb0.size, h4⟩⟩
    clear hw0 hb0 hb1 hp hk hyes h1 h2 h3 h4
    go_wp2
    go_ret2
    exact hpost
end

section
open Go.RowKit Go.Sort

set_option maxRecDepth 100000 in
theorem isTerm_impl (t : Tm) (x : Value) (w : World) (hx : TmIn w x t) (hf : Fit t) :
    Calls Try.prog 37 #[x] w (BoolPost (isTermB t) w) := by
  have hwi := fun W hW => within_any t x W hW hf
  obtain ⟨A, c, kv, rfl, hp, hk⟩ := hx
  obtain ⟨B, d, rfl⟩ := hk.form
  have hb0 : Below w.heap.size w (w.alloc (.cells #[.int .i64 t.op, .int .i64 t.num, .slice A t.perm.length c, .slice B t.kids.length d] 31)) := (Below.refl _ _).alloc (Nat.le_refl _) _
  have hw0 := hwi _ ⟨A, c, _, rfl, hp.below hb0, hk.below hb0⟩
  clear hwi
  go_enter Try.func37, Try.ntmps37
  go_wp2_with fail
  refine hw0.mono ?_
  rintro e w1 ⟨hb1, ⟨hno, rfl⟩ | ⟨hyes, F, g, cap, xs, rfl, _, _, _, _⟩⟩
  · have hpost : BoolPost (isTermB t) w (.returned (.bool false)) w1 := ⟨by rw [hno], hb0.trans (hb1.mono hb0.size)⟩
    clear hw0 hb0 hb1 hp hk hno
    go_wp2
    go_ret
    exact hpost
  · have hpost : BoolPost (isTermB t) w (.returned (.bool true)) w1 := ⟨by rw [hyes], hb0.trans (hb1.mono hb0.size)⟩
    clear hw0 hb0 hb1 hp hk hyes
    go_wp2
    go_ret
    exact hpost
end
end Go.Proofs.Ytbfkfklaplgebaa
end

section
namespace Go.Proofs.Ytbfkfklaplgebaa
open Go.RowKit Go.Sort

mutual
def holesB : Tm → Bool
  | .mk o _ _ ks => holesBs ks || decide (o = 4)
def holesBs : List Tm → Bool
  | [] => false
  | t :: r => holesB t || holesBs r
end

mutual
theorem holesB_nodes : ∀ t : Tm, holesB t = (nodesT t).any fun y => decide (y.op = 4)
  | .mk o n p ks => by
    rw [holesB, nodesT, List.any_cons, holesBs_nodes ks, Bool.or_comm]; rfl
theorem holesBs_nodes : ∀ ts : List Tm, holesBs ts = (nodesTs ts).any fun y => decide (y.op = 4)
  | [] => by simp [holesBs, nodesTs]
  | t :: r => by rw [holesBs, nodesTs, List.any_append, holesB_nodes t, holesBs_nodes r]
end

end Go.Proofs.Ytbfkfklaplgebaa
end

section
namespace Go.Proofs.Ytbfkfklaplgebaa
section
open Go.RowKit Go.Sort

mutual
theorem nodesT_len : ∀ t : Tm, (nodesT t).length = szT t
  | .mk o n p ks => by rw [nodesT, List.length_cons, nodesTs_len ks, szT]; omega
theorem nodesTs_len : ∀ ts : List Tm, (nodesTs ts).length = szTs ts
  | [] => by simp [nodesTs, szTs]
  | t :: r => by rw [nodesTs, List.length_append, nodesT_len t, nodesTs_len r, szTs]
end

theorem term_size {t : Tm} (h : isTermB t = true) : szT t ≤ 60 := by
  rw [isTermB, Bool.and_eq_true, decide_eq_true_eq] at h
  exact h.2
theorem term_good {t : Tm} (h : isTermB t = true) : goodT t = true := by
  rw [isTermB, Bool.and_eq_true] at h
  exact h.1
end

section
open Go.RowKit Go.Sort
set_option linter.unusedVariables false

mutual
/-- What acting makes of a term, whatever permutations come out. -/
def actT (p : List (Int × Int)) : Tm → Tm
  | .mk o n r ks => .mk o (if o = 1 ∨ o = 3 then imgL p n else n) (if o = 4 then thenL p r else r) (actTs p ks)
def actTs (p : List (Int × Int)) : List Tm → List Tm
  | [] => []
  | t :: r => actT p t :: actTs p r
end
mutual
/-- All permutations within are in order, and none is longer than a bound. -/
def OkP (M : Nat) : Tm → Prop
  | .mk _ _ p ks => Asc p ∧ p.length ≤ M ∧ OkPs M ks
def OkPs (M : Nat) : List Tm → Prop
  | [] => True
  | t :: r => OkP M t ∧ OkPs M r
end
mutual
theorem szT_actT (p : List (Int × Int)) : ∀ t : Tm, szT (actT p t) = szT t
  | .mk o n r ks => by rw [actT, szT, szT, szTs_actTs p ks]
theorem szTs_actTs (p : List (Int × Int)) : ∀ ts : List Tm, szTs (actTs p ts) = szTs ts
  | [] => rfl
  | t :: r => by rw [actTs, szTs, szTs, szT_actT p t, szTs_actTs p r]
end
theorem asc_nil : Asc [] := by
  intro i j _ h
  simp at h
theorem thenL_asc (p q : List (Int × Int)) : Asc (thenL p q) := asc_list (asc_thenL p q)
mutual
theorem okP_act {M : Nat} (p : List (Int × Int)) : ∀ {t : Tm}, OkP M t → OkP (M + p.length) (actT p t)
  | .mk o n r ks, h => by
    rw [OkP] at h
    rw [actT, OkP]
    refine ⟨?_, ?_, okPs_act p h.2.2⟩
    · split
      · exact thenL_asc p r
      · exact h.1
    · split
      · have := thenL_len p r; omega
      · omega
theorem okPs_act {M : Nat} (p : List (Int × Int)) : ∀ {ts : List Tm}, OkPs M ts → OkPs (M + p.length) (actTs p ts)
  | [], _ => trivial
  | t :: r, h => ⟨okP_act p h.1, okPs_act p h.2⟩
end
mutual
theorem okP_le {M N : Nat} (hMN : M ≤ N) : ∀ {t : Tm}, OkP M t → OkP N t
  | .mk o n r ks, h => ⟨h.1, Nat.le_trans h.2.1 hMN, okPs_le hMN h.2.2⟩
theorem okPs_le {M N : Nat} (hMN : M ≤ N) : ∀ {ts : List Tm}, OkPs M ts → OkPs N ts
  | [], _ => trivial
  | t :: r, h => ⟨okP_le hMN h.1, okPs_le hMN h.2⟩
end
theorem asc_perm {l : List (Int × Int)} (h : permB l = true) : Asc l := asc_list (isP_of h).asc
theorem shape_perm {t : Tm} (h : shapeB t = true) : Asc t.perm ∧ t.perm.length ≤ 40 := by
  have hn : t.perm.length = 0 → Asc t.perm ∧ t.perm.length ≤ 40 := by
    intro h0
    rw [List.length_eq_zero_iff.1 h0]
    exact ⟨asc_nil, by simp⟩
  unfold shapeB at h
  by_cases e1 : t.op = 1
  · rw [if_pos e1] at h; simp only [Bool.and_eq_true, decide_eq_true_eq] at h; exact hn h.2.1
  rw [if_neg e1] at h
  by_cases e2 : t.op = 2
  · rw [if_pos e2] at h; simp only [Bool.and_eq_true, decide_eq_true_eq] at h; exact hn h.2.1
  rw [if_neg e2] at h
  by_cases e3 : t.op = 3
  · rw [if_pos e3] at h; simp only [Bool.and_eq_true, decide_eq_true_eq] at h; exact hn h.2.1
  rw [if_neg e3] at h
  by_cases e4 : t.op = 4
  · rw [if_pos e4] at h; simp only [Bool.and_eq_true, decide_eq_true_eq] at h
    exact ⟨asc_perm h.2.1, (permB_parts h.2.1).1⟩
  · rw [if_neg e4] at h
    simp at h
mutual
theorem okP_good : ∀ {t : Tm}, goodT t = true → OkP 40 t
  | .mk o n p ks, h => by
    rw [goodT_eq, Bool.and_eq_true] at h
    have h1 := shape_perm h.1
    exact ⟨h1.1, h1.2, okPs_good h.2⟩
theorem okPs_good : ∀ {ts : List Tm}, goodTs ts = true → OkPs 40 ts
  | [], _ => trivial
  | t :: r, h => by
    rw [goodTs, Bool.and_eq_true] at h
    exact ⟨okP_good h.1, okPs_good h.2⟩
end

end
end Go.Proofs.Ytbfkfklaplgebaa
end

