/-
  The form of a term, in the program, as a contract.
-/
import Derived.Test.YtgdaefmmljgjkaaFormR
namespace Go.Proofs.Ytgdaefmmljgjkaa
open Go.RowKit Go.Sort
set_option linter.unusedVariables false

/-- A kid of a term, as its cells give it. -/
theorem kid_cells {w : World} {B : Option Addr} {n d : Nat} {ts : List Tm} (h : TmsIn w (.slice B n d) ts) {k : Nat} (hk : k < ts.length) :
    ∃ b off A1 c1 B1 e1, B = some ⟨b, off, none⟩ ∧ b < w.heap.size ∧
      w.cell? ⟨b, off + k * 4, none⟩ = some (.int .i64 (tmAt ts k).op) ∧ w.cell? ⟨b, off + k * 4 + 1, none⟩ = some (.int .i64 (tmAt ts k).num) ∧
      w.cell? ⟨b, off + k * 4 + 2, none⟩ = some (.slice A1 (tmAt ts k).perm.length c1) ∧ w.cell? ⟨b, off + k * 4 + 3, none⟩ = some (.slice B1 (tmAt ts k).kids.length e1) ∧
      TmIn w (.agg #[.int .i64 (tmAt ts k).op, .int .i64 (tmAt ts k).num, .slice A1 (tmAt ts k).perm.length c1, .slice B1 (tmAt ts k).kids.length e1]) (tmAt ts k) := by
  obtain ⟨b, off, rfl, hbl, hget⟩ := h.get (by omega)
  obtain ⟨A1, c1, kv1, d0, d1, d2, d3, hp1, hk1⟩ := hget k hk
  obtain ⟨B1, e1, rfl⟩ := hk1.form
  exact ⟨b, off, A1, c1, B1, e1, rfl, hbl, d0, d1, d2, d3, A1, c1, _, rfl, hp1, hk1⟩

set_option maxRecDepth 100000 in
set_option maxHeartbeats 4000000 in
theorem formOf_step (t : Tm) (x : Value) (w0 w : World) (hx : TmIn w0 x t) (hw : Below w0.heap.size w0 w) (hg : goodT t = true)
    (ih : ∀ i, i < t.kids.length → ∀ (w' : World) (y : Value), TmIn w0 y (tmAt t.kids i) → Below w0.heap.size w0 w' → Calls Try.prog 41 #[y] w' (FormPost w0.heap.size (tmAt t.kids i) w')) :
    Calls Try.prog 41 #[x] w (FormPost w0.heap.size t w) := by
  obtain ⟨i0, hi0, hz0, hz1, hz2⟩ := info_parts form_info
  have HS := Lib.hid hz2
  clear hz2
  obtain ⟨A, c, kv, rfl, hp, hk⟩ := hx
  obtain ⟨B, d, rfl⟩ := hk.form
  have hb0 : Below w.heap.size w (w.alloc (.cells #[.int .i64 t.op, .int .i64 t.num, .slice A t.perm.length c, .slice B t.kids.length d] 32)) := (Below.refl _ _).alloc (Nat.le_refl _) _
  go_enter Try.func41, Try.ntmps41
  by_cases hop1 : t.op = 1
  · have q1 : (t.op == 1) = true := by simp [hop1]
    have hpost : FormPost w0.heap.size t w (.returned (.iface 101 (.agg #[.int .i64 t.num]))) (w.alloc (.cells #[.int .i64 t.op, .int .i64 t.num, .slice A t.perm.length c, .slice B t.kids.length d] 32)) :=
      ⟨_, rfl, form_atom (good1 hg hop1), hb0⟩
    clear hop1 hk hp hb0
    go_wp2
    go_ret
    exact hpost
  have q1 : (t.op == 1) = false := by simp [hop1]
  by_cases hop2 : t.op = 2
  · have q2 : (t.op == 2) = true := by simp [hop2]
    obtain ⟨hT, hl3⟩ := good2 hg hop2
    have HT := Lib.hid hT
    have hsB : w0.heap.size ≤ w.heap.size := hw.size
    have HW := Lib.hid hw
    clear hop1 hop2 hp hT hw hg
    go_wp2
    go_loopw [3, 20] (fun v i wr => ∃ k : Nat, k ≤ t.kids.length ∧ i = .int .i64 k ∧ FRow wr w0.heap.size (w.heap.size + 1) v k (t.kids.take k) ∧ Below (w.alloc (.cells #[.int .i64 t.op, .int .i64 t.num, .slice A t.perm.length c, .slice B t.kids.length d] 32)).heap.size (w.alloc (.cells #[.int .i64 t.op, .int .i64 t.num, .slice A t.perm.length c, .slice B t.kids.length d] 32)) wr) (fun _ i _ => t.kids.length - (intOf i).toNat)
    case atStart =>
      refine ⟨0, Nat.zero_le _, rfl, ?_, (Below.refl _ _).alloc (Nat.le_refl _) _⟩
      refine ⟨w.heap.size + 1, 0, [], rfl, ?_, .nil⟩
      have h9 := World.ownsRow_lit (base := (w.alloc (.cells #[.int .i64 t.op, .int .i64 t.num, .slice A t.perm.length c, .slice B t.kids.length d] 32)).heap.size) (e := 64) (size := 1) (w.alloc (.cells #[.int .i64 t.op, .int .i64 t.num, .slice A t.perm.length c, .slice B t.kids.length d] 32)) #[] 0 (Nat.le_refl _) (by decide) rfl
      rw [World.size_alloc] at h9
      exact own_le h9 (by omega)
    case round =>
      obtain ⟨k, hk', rfl, ⟨g, cap, xs, rfl, ho, hxs⟩, hbw⟩ := hrel
      have hb := hb0.trans (hbw.mono hb0.size)
      have hbW := HW.out.trans (hb.mono HW.out.size)
      by_cases hlt : k < t.kids.length
      · obtain ⟨b, off, A1, c1, B1, e1, rfl, hbl, d0, d1, d2, d3, hy⟩ := kid_cells hk hlt
        rw [← hbW.cell (p := ⟨b, _, none⟩) hbl] at d0 d1 d2 d3
        have hbx : Below wr.heap.size wr (wr.alloc (.cells #[.int .i64 (tmAt t.kids k).op, .int .i64 (tmAt t.kids k).num, .slice A1 (tmAt t.kids k).perm.length c1, .slice B1 (tmAt t.kids k).kids.length e1] 32)) := (Below.refl _ _).alloc (Nat.le_refl _) _
        have hct := ih k hlt _ _ hy (hbW.trans (hbx.mono hbW.size))
        have hnx := Lib.hid (tm_take_next hlt)
        have hox := own_below ho hbx
        have hbr := hbw.trans (hbx.mono hbw.size)
        have hszr : wr.heap.size ≤ wr.heap.size + 1 := Nat.le_succ _
        generalize tmAt t.kids k = u at d0 d1 d2 d3 hct hbx hnx hox hbr
        clear hy hbl hb hbW hbw ih hk
        go_wp2_with fail
        refine hct.mono ?_
        rintro e w2 ⟨fv, rfl, hfv, hb2⟩
        obtain ⟨fx, rfl⟩ := hfv.iface
        generalize fty u = fT at hfv
        have hb3 : Below w2.heap.size w2 (w2.alloc (.cells #[.iface fT fx] 64)) := (Below.refl _ _).alloc (Nat.le_refl _) _
        have hb13 := (hbx.trans (hb2.mono hbx.size)).trans (hb3.mono (Nat.le_trans hbx.size hb2.size))
        have ho3 := own_below (own_below hox hb2) hb3
        have hbr3 := (hbr.trans (hb2.mono hbr.size)).trans (hb3.mono (Nat.le_trans hbr.size hb2.size))
        have hcell : (w2.alloc (.cells #[.iface fT fx] 64)).cell? ⟨w2.heap.size, 0, none⟩ = some (.iface fT fx) := by simp
        have HC := Lib.hid (one_cell hcell)
        have HF1 := Lib.hid (form_one hfv)
        have hsz3 := hbr3.size
        have HR : Hid (∀ g1 cap1 w4, w4.ownsRow (w.heap.size + 1) 64 1 (.slice (some ⟨g1, 0, none⟩) (k + 1) cap1) (k + 1) (xs ++ [.iface fT fx]) → (w2.alloc (.cells #[.iface fT fx] 64)).grownBy w4 (some g) → (some g = some g1 ∨ g1 = (w2.alloc (.cells #[.iface fT fx] 64)).heap.size) → FRow w4 w0.heap.size (w.heap.size + 1) (.slice (some ⟨g1, 0, none⟩) (k + 1) cap1) (k + 1) (t.kids.take k ++ [u])) :=
          Lib.hid (fun g1 cap1 w4 h1 h2 h3 => frow_next (by omega) (by rw [World.size_alloc] ; omega) ho hxs hb13 hfv hb3 h1 h2 h3)
        have hsz4 : w.heap.size + 1 ≤ (w2.alloc (.cells #[.iface fT fx] 64)).heap.size := by
          have := hb13.size; have := (ho.lt g rfl).2; have := (ho.lt g rfl).1; omega
        clear hcell ho hxs hbx hb2 hb3 hb13 hfv hct hox hbr d0 d1 d2 d3
        generalize hH : (w2.alloc (.cells #[.iface fT fx] 64)).heap.size = H at hsz4
        have HH := Lib.hid hH
        clear hH
        go_wp2_with (at_builtin; refine wpList_append_lies _ rfl (.tmp 24) (.tmp 27) 102 rfl (w.heap.size + 1) 64 i0 .nilIface 1 16 Try.underlying102 hi0 hz0 hz1 HS.out rfl (by decide) _ k _ rfl ho3 ⟨w2.heap.size, 0, none⟩ 1 1 [.iface fT fx] rfl rfl HC.out HF1.out (by decide) ?c3 ?c4 ?c5 H HH.out ?_)
        case c3 => unfold maxLen; omega
        case c4 => omega
        case c5 => rw [HH.out]; exact hsz4
        intro g1 cap1 w4 ho4 hg4 hcase _
        rw [← HH.out] at hcase
        have hrow := HR.out g1 cap1 w4 ho4 hg4 hcase
        rw [← hnx.out] at hrow
        have hb4 := below_own hbr3 ho3 (by rw [World.size_alloc]; omega) hsz3 hg4
        clear ho4 hg4 hcase HR ho3 hbr3 HC HF1 hsz3 hsz4 HH hnx
        go_wp2
        refine ⟨⟨k + 1, by omega, by go_num, hrow, hb4⟩, ?_⟩
        simp only [intOf]
        omega
      · have e : k = t.kids.length := by omega
        have hpost : FormPost w0.heap.size t w (.returned (.iface 104 (.agg #[.int .i64 t.num, .slice (some ⟨g, 0, none⟩) k cap]))) wr := by
          rw [List.take_of_length_le (by omega)] at hxs
          exact ⟨_, rfl, form_node HT.out e ho (hxs.kinds fun b _ h => since_le h.1 (Nat.le_succ _)) (.inr (Nat.le_of_succ_le (ho.lt g rfl).1)), hb⟩
        obtain ⟨b0, b1, b2, b3⟩ := box4 hbw
        clear ho hxs hb hbW hbw ih hk e HT
        go_wp2
        go_ret
        exact hpost
  have q2 : (t.op == 2) = false := by simp [hop2]
  by_cases hop3 : t.op = 3
  · have q3 : (t.op == 3) = true := by simp [hop3]
    obtain ⟨hT, hl1⟩ := good3 hg hop3
    have HT := Lib.hid hT
    have hpos : 0 < t.kids.length := by omega
    obtain ⟨b, off, A1, c1, B1, e1, rfl, hbl, d0, d1, d2, d3, hy⟩ := kid_cells hk hpos
    have hdw : Below (w.alloc (.cells #[.int .i64 t.op, .int .i64 t.num, .slice A t.perm.length c, .slice (some ⟨b, off, none⟩) t.kids.length d] 32)).heap.size (w.alloc (.cells #[.int .i64 t.op, .int .i64 t.num, .slice A t.perm.length c, .slice (some ⟨b, off, none⟩) t.kids.length d] 32)) (w.alloc (.cells #[.int .i64 t.op, .int .i64 t.num, .slice A t.perm.length c, .slice (some ⟨b, off, none⟩) t.kids.length d] 32)).drew := ⟨rfl, rfl, rfl, Nat.le_refl _, fun _ _ => rfl⟩
    have hbd := hb0.trans (hdw.mono hb0.size)
    have hbW := hw.trans (hbd.mono hw.size)
    rw [← hbW.cell (p := ⟨b, _, none⟩) hbl] at d0 d1 d2 d3
    rw [Nat.zero_mul, Nat.add_zero] at d0 d1 d2 d3
    have hct := ih 0 hpos _ _ hy hbW
    have b1 : (w.alloc (.cells #[.int .i64 t.op, .int .i64 t.num, .slice A t.perm.length c, .slice (some ⟨b, off, none⟩) t.kids.length d] 32)).drew.cell? ⟨w.heap.size, 1, none⟩ = some (.int .i64 t.num) := by rw [hdw.cell (by simp)]; exact (box4 (Below.refl _ _)).2.1
    have b3 : (w.alloc (.cells #[.int .i64 t.op, .int .i64 t.num, .slice A t.perm.length c, .slice (some ⟨b, off, none⟩) t.kids.length d] 32)).drew.cell? ⟨w.heap.size, 3, none⟩ = some (.slice (some ⟨b, off, none⟩) t.kids.length d) := by rw [hdw.cell (by simp)]; exact (box4 (Below.refl _ _)).2.2.2
    have hsz : w.heap.size < (w.alloc (.cells #[.int .i64 t.op, .int .i64 t.num, .slice A t.perm.length c, .slice (some ⟨b, off, none⟩) t.kids.length d] 32)).drew.heap.size := by
      have := hdw.size
      rw [World.size_alloc] at this
      omega
    have hbl2 := Nat.lt_of_lt_of_le hbl hbW.size
    have HB := Lib.hid hbd
    clear hop1 hop2 hop3 hp hT hw hg hl1 hk hy hbl ih hb0 hbW hdw hbd
    generalize tmAt t.kids 0 = u at d0 d1 d2 d3 hct HT
    go_wp2
    go_region_held3 (fun w' => w'.cell? ⟨w.heap.size, 1, none⟩ = some (.int .i64 t.num) ∧ w'.cell? ⟨w.heap.size, 3, none⟩ = some (.slice (some ⟨b, off, none⟩) t.kids.length d) ∧ w'.cell? ⟨b, off, none⟩ = some (.int .i64 u.op) ∧ w'.cell? ⟨b, off + 1, none⟩ = some (.int .i64 u.num) ∧ w'.cell? ⟨b, off + 2, none⟩ = some (.slice A1 u.perm.length c1) ∧ w'.cell? ⟨b, off + 3, none⟩ = some (.slice B1 u.kids.length e1))
      (first | ((try dsimp only); exact ⟨by assumption, by assumption, by assumption, by assumption, by assumption, by assumption⟩) | go_keep)
      ((go_at_call 41; refine hct.mono ?_; rintro e w2 ⟨fv, rfl, hfv, hb2⟩; obtain ⟨fx, rfl⟩ := hfv.iface; have b1' := (hb2.cell (p := ⟨w.heap.size, 1, none⟩) hsz).trans b1; have b3' := (hb2.cell (p := ⟨w.heap.size, 3, none⟩) hsz).trans b3; have d0' := (hb2.cell (p := ⟨b, off, none⟩) hbl2).trans d0; have d1' := (hb2.cell (p := ⟨b, off + 1, none⟩) hbl2).trans d1; have d2' := (hb2.cell (p := ⟨b, off + 2, none⟩) hbl2).trans d2; have d3' := (hb2.cell (p := ⟨b, off + 3, none⟩) hbl2).trans d3))
    have hpost : FormPost w0.heap.size t w (.returned (.iface 106 (.agg #[.int .i64 t.num, .iface (fty u) fx]))) w2 :=
      ⟨_, rfl, form_bind' HT.out (hfv.kind fun b _ h => since_le h HB.out.size), HB.out.trans (hb2.mono HB.out.size)⟩
    clear hct b1 b3 d0 d1 d2 d3 hfv hb2 b1' b3' d0' d1' d2' d3' HB HT
    go_wp2
    go_ret
    exact hpost
  · have q3 : (t.op == 3) = false := by simp [hop3]
    obtain ⟨hT, hl40⟩ := good4 hg hop1 hop2 hop3
    have hpost : FormPost w0.heap.size t w (.returned (.iface 108 (.agg #[.int .i64 t.num, .slice A t.perm.length c]))) (w.alloc (.cells #[.int .i64 t.op, .int .i64 t.num, .slice A t.perm.length c, .slice B t.kids.length d] 32)) := by
      refine ⟨_, rfl, form_hole hT ((hp.below hw).below hb0) fun b off hl hA => ?_, hb0⟩
      obtain ⟨b', off', e, hlt, _⟩ := hp hl
      rw [hA] at e
      injection e with e
      injection e with e
      subst e
      exact .inl hlt
    clear hop1 hop2 hop3 hk hp hb0 hT
    go_wp2
    go_ret
    exact hpost

theorem formOf_any : ∀ (N : Nat) (t : Tm), szT t ≤ N → goodT t = true → ∀ (w0 w : World) (x : Value), TmIn w0 x t → Below w0.heap.size w0 w → Calls Try.prog 41 #[x] w (FormPost w0.heap.size t w) := by
  intro N
  induction N with
  | zero => intro t h; rw [szT_eq] at h; omega
  | succ N ih =>
    intro t hN hg w0 w x hx hw
    refine formOf_step t x w0 w hx hw hg fun i hi w' y hy hw' => ?_
    have h1 := szT_at hi
    rw [szT_eq] at hN
    rw [goodT_eq, Bool.and_eq_true] at hg
    exact ih _ (by omega) (goodTs_at hg.2 hi) w0 w' y hy hw'

/-- The form of what is a term. -/
theorem formOf_term (t : Tm) (ht : isTermB t = true) (w : World) (x : Value) (hx : TmIn w x t) : Calls Try.prog 41 #[x] w (FormPost w.heap.size t w) := by
  rw [isTermB, Bool.and_eq_true] at ht
  exact formOf_any _ t (Nat.le_refl _) ht.1 w w x hx (Below.refl _ _)
end Go.Proofs.Ytgdaefmmljgjkaa
