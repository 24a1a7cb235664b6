/-
  The holes of a term, in plain words; whether a term has holes and whether it is ground, in the model, as contracts.
-/
import Derived.Test.YtddmoempagcjeaaGreatTermI
import Derived.Test.YtddmoempagcjeaaGreatUnion
namespace Go.Proofs.YtddmoempagcjeaaGreat
open Go.RowKit Go.Sort

def holesIn (ts : List Tm) : List Int := (ts.filter fun y => decide (y.op = 4)).map Tm.num
theorem holesIn_app (a b : List Tm) : holesIn (a ++ b) = holesIn a ++ holesIn b := by simp [holesIn]
theorem holesIn_yes {F : List Tm} {k : Nat} (h : k < F.length) (h4 : (tmAt F k).op = 4) : holesIn (F.take (k + 1)) = holesIn (F.take k) ++ [(tmAt F k).num] := by
  rw [tm_take_next h, holesIn_app]; congr 1; simp [holesIn, h4]
theorem holesIn_no {F : List Tm} {k : Nat} (h : k < F.length) (h4 : ¬ (tmAt F k).op = 4) : holesIn (F.take (k + 1)) = holesIn (F.take k) := by
  rw [tm_take_next h, holesIn_app]; simp [holesIn, h4]
theorem holesIn_len (F : List Tm) : (holesIn F).length ≤ F.length := by
  rw [holesIn, List.length_map]; exact List.length_filter_le _ _
theorem holesIn_take (F : List Tm) (k : Nat) : (holesIn (F.take k)).length ≤ F.length := by
  have h1 := holesIn_len (F.take k)
  rw [List.length_take] at h1; omega
theorem mem_holesIn (F : List Tm) (a : Int) : a ∈ holesIn F ↔ ∃ y, y ∈ F ∧ y.op = 4 ∧ y.num = a := by
  simp only [holesIn, List.mem_map, List.mem_filter, decide_eq_true_eq, and_assoc]

/-- The holes of a term, ascending; of what is no term: none. -/
def holesL (t : Tm) : List Int := if isTermB t then insAll [] (holesIn (nodesT t)) else []
theorem holesL_same {F : List Tm} {t : Tm} (h : ∀ y, y ∈ F ↔ isTermB t = true ∧ y ∈ nodesT t) : insAll [] (holesIn F) = holesL t := by
  by_cases ht : isTermB t = true
  · rw [holesL, if_pos ht]
    refine asc_same _ _ (asc_insAll _ _ List.Pairwise.nil) (asc_insAll _ _ List.Pairwise.nil) fun a => ?_
    simp only [mem_insAll, mem_holesIn, h, ht, true_and]
  · rw [holesL, if_neg ht]
    have : F = [] := List.eq_nil_iff_forall_not_mem.2 fun y hy => ht ((h y).1 hy).1
    subst this
    rfl

mutual
def holesB : Tm → Bool
  | .mk o _ _ ks => holesBs ks || decide (o = 4)
def holesBs : List Tm → Bool
  | [] => false
  | t :: r => holesB t || holesBs r
end

theorem holesB_eq (t : Tm) : holesB t = (holesBs t.kids || decide (t.op = 4)) := by cases t; rw [holesB]; rfl
theorem holesBs_append : ∀ a b : List Tm, holesBs (a ++ b) = (holesBs a || holesBs b)
  | [], b => by simp [holesBs]
  | t :: r, b => by rw [List.cons_append, holesBs, holesBs, holesBs_append r b, Bool.or_assoc]
theorem holesBs_next {ts : List Tm} {k : Nat} (h : k < ts.length) : holesBs (ts.take (k + 1)) = (holesBs (ts.take k) || holesB (tmAt ts k)) := by
  rw [tm_take_next h, holesBs_append]
  simp [holesBs]
theorem holesBs_yes : ∀ {ts : List Tm} {i : Nat}, i < ts.length → holesB (tmAt ts i) = true → holesBs ts = true
  | [], i, h, _ => by simp at h
  | t :: r, 0, _, h => by rw [tmAt_cons_zero] at h; simp [holesBs, h]
  | t :: r, i + 1, hi, h => by
    rw [tmAt_cons_succ] at h
    simp [holesBs, holesBs_yes (by simpa using hi) h]
mutual
theorem holesB_nodes : ∀ t : Tm, holesB t = (nodesT t).any fun y => decide (y.op = 4)
  | .mk o n p ks => by
    rw [holesB, nodesT, List.any_cons, holesBs_nodes ks, Bool.or_comm]; rfl
theorem holesBs_nodes : ∀ ts : List Tm, holesBs ts = (nodesTs ts).any fun y => decide (y.op = 4)
  | [] => by simp [holesBs, nodesTs]
  | t :: r => by rw [holesBs, nodesTs, List.any_append, holesB_nodes t, holesBs_nodes r]
end

def groundB (t : Tm) : Bool := isTermB t && !holesB t
theorem ground_len {t : Tm} (h : isTermB t = true) : groundB t = decide ((holesL t).length = 0) := by
  rw [groundB, h, Bool.true_and, holesB_nodes, holesL, if_pos h]
  rw [Bool.eq_iff_iff]
  simp only [Bool.not_eq_true', List.any_eq_false, decide_eq_true_eq, List.length_eq_zero_iff]
  constructor
  · intro h1
    refine List.eq_nil_iff_forall_not_mem.2 fun a ha => ?_
    rw [mem_insAll, mem_holesIn] at ha
    rcases ha with ha | ⟨y, hy, h4, _⟩
    · simp at ha
    · exact h1 y hy h4
  · intro h1 y hy h4
    have : y.num ∈ insAll [] (holesIn (nodesT t)) := by rw [mem_insAll, mem_holesIn]; exact .inr ⟨y, hy, h4, rfl⟩
    rw [h1] at this
    simp at this

set_option maxRecDepth 100000 in
set_option maxHeartbeats 2000000 in
theorem l2Holes_of (t : Tm) (x : Value) (w : World) (hx : TmIn w x t) (hkl : t.kids.length ≤ 1048576)
    (ih : ∀ i, i < t.kids.length → ∀ (w' : World) (y : Value), TmIn w' y (tmAt t.kids i) → Calls Tryz.prog 84 #[y] w' (BoolPost (holesB (tmAt t.kids i)) w')) :
    Calls Tryz.prog 84 #[x] w (BoolPost (holesB t) w) := by
  obtain ⟨A, c, kv, rfl, hp, hk⟩ := hx
  obtain ⟨B, d, rfl⟩ := hk.form
  have hg := Lib.hid (holesB_eq t)
  have hb0 : Below w.heap.size w (w.alloc (.cells #[.int .i64 t.op, .int .i64 t.num, .slice A t.perm.length c, .slice B t.kids.length d] 35)) := (Below.refl _ _).alloc (Nat.le_refl _) _
  go_enter Tryz.func84, Tryz.ntmps84
  go_wp2
  go_loopw [8] (fun i wr => ∃ k : Nat, k ≤ t.kids.length ∧ i = .int .i64 k ∧ holesBs (t.kids.take k) = false ∧ Below (w.alloc (.cells #[.int .i64 t.op, .int .i64 t.num, .slice A t.perm.length c, .slice B t.kids.length d] 35)).heap.size (w.alloc (.cells #[.int .i64 t.op, .int .i64 t.num, .slice A t.perm.length c, .slice B t.kids.length d] 35)) wr) (fun i _ => t.kids.length - (intOf i).toNat)
  case atStart => exact ⟨0, Nat.zero_le _, rfl, by simp [holesBs], Below.refl _ _⟩
  case round =>
    obtain ⟨k, hk', rfl, hgt, hbw⟩ := hrel
    have HGT := Lib.hid hgt
    have hb := hb0.trans (hbw.mono hb0.size)
    clear hgt
    by_cases hlt : k < t.kids.length
    · obtain ⟨b, off, rfl, hbl, hget⟩ := (hk.below hb).get (by omega)
      obtain ⟨A1, c1, kv1, d0, d1, d2, d3, hp1, hk1⟩ := hget k hlt
      obtain ⟨B1, e1, rfl⟩ := hk1.form
      have hbx : Below wr.heap.size wr (wr.alloc (.cells #[.int .i64 (tmAt t.kids k).op, .int .i64 (tmAt t.kids k).num, .slice A1 (tmAt t.kids k).perm.length c1, .slice B1 (tmAt t.kids k).kids.length e1] 35)) := (Below.refl _ _).alloc (Nat.le_refl _) _
      have hct := ih k hlt _ _ ⟨A1, c1, _, rfl, hp1.below hbx, hk1.below hbx⟩
      have hbw2 := hbw.trans (hbx.mono hbw.size)
      have hyes := fun h => Lib.hid (holesBs_yes hlt h)
      have hnx := Lib.hid (holesBs_next hlt)
      generalize tmAt t.kids k = u at d0 d1 d2 d3 hct hbx hbw2 hyes hnx
      clear hget hp1 hk1 hbl hbx hb hbw ih hk
      by_cases hgu : holesB u = true
      · rw [hgu] at hct
        have hr := hyes hgu
        clear hyes hgu hnx
        go_wp2_with fail
        refine hct.mono ?_
        rintro e w2 ⟨rfl, hb3⟩
        have hb4 := hbw2.trans (hb3.mono hbw2.size)
        have hpost : BoolPost (holesB t) w (.returned (.bool true)) w2 := ⟨by rw [hg.out, hr.out]; rfl, hb0.trans (hb4.mono hb0.size)⟩
        clear hct hbw2 hb3 hb4 d0 d1 d2 d3 hr hb0 hg
        go_wp2
        go_ret
        exact hpost
      · have hgu' : holesB u = false := by simpa using hgu
        rw [hgu'] at hct
        have hnx' : Hid (holesBs (t.kids.take (k + 1)) = false) := by show holesBs (t.kids.take (k + 1)) = false; rw [hnx.out, HGT.out, hgu']; rfl
        clear hyes hgu hgu' hnx
        go_wp2_with fail
        refine hct.mono ?_
        rintro e w2 ⟨rfl, hb3⟩
        have hb4 := hbw2.trans (hb3.mono hbw2.size)
        clear hct hbw2 hb3 d0 d1 d2 d3
        go_wp2
        refine ⟨⟨k + 1, by omega, by go_num, hnx'.out, hb4⟩, ?_⟩
        simp only [intOf]
        omega
    · obtain ⟨b0, b1, b2, b3⟩ := box4 hbw
      have hr : Hid (holesB t = decide (t.op = 4)) := by
        show holesB t = decide (t.op = 4)
        have := HGT.out
        rw [List.take_of_length_le (by omega)] at this
        rw [hg.out, this]; rfl
      have e4 : (t.op == 4) = decide (t.op = 4) := by by_cases h : t.op = 4 <;> simp [h]
      have hpost : BoolPost (holesB t) w (.returned (.bool (t.op == 4))) wr := ⟨by rw [hr.out, e4], hb⟩
      generalize t.op = o at b0 hpost
      clear ih hk hb hr e4 b1 b2 b3 hbw hb0 hg
      go_wp2
      go_ret
      exact hpost

theorem l2Holes_any : ∀ (N : Nat) (t : Tm), szT t ≤ N → Fit t → ∀ (w : World) (x : Value), TmIn w x t → Calls Tryz.prog 84 #[x] w (BoolPost (holesB t) w) := by
  intro N
  induction N with
  | zero => intro t hN; rw [szT_eq] at hN; omega
  | succ N ih =>
    intro t hN hf w x hx
    have h2 := (fit_eq _).1 hf
    refine l2Holes_of t x w hx h2.2.1 fun i hi w' y hy => ?_
    have h3 := szT_at hi
    rw [szT_eq] at hN
    exact ih _ (by omega) (fits_at h2.2.2 hi) w' y hy

set_option maxRecDepth 100000 in
theorem ground_spec (t : Tm) (x : Value) (w : World) (hx : TmIn w x t) (hc : cntT t ≤ 1048576) :
    Calls Tryz.prog 49 #[x] w (BoolPost (groundB t) w) := by
  have hgd := fun W hW => isTerm_spec t x W hW hc
  have hsz := fun W hW => l2Holes_any (szT t) t (Nat.le_refl _) (fit_of t hc) W x hW
  have hr0 : groundB t = (isTermB t && !holesB t) := rfl
  have hr := Lib.hid hr0
  clear hr0
  have hx' := hx
  obtain ⟨A, c, kv, rfl, hp, hk⟩ := hx
  obtain ⟨B, d, rfl⟩ := hk.form
  have hb0 : Below w.heap.size w (w.alloc (.cells #[.int .i64 t.op, .int .i64 t.num, .slice A t.perm.length c, .slice B t.kids.length d] 35)) := (Below.refl _ _).alloc (Nat.le_refl _) _
  have hg0 := hgd _ (hx'.below hb0)
  clear hgd
  by_cases h1 : isTermB t = true
  · rw [h1] at hg0 hr
    rw [Bool.true_and] at hr
    clear h1
    go_enter Tryz.func49, Tryz.ntmps49
    go_wp2_with fail
    refine hg0.mono ?_
    rintro e w1 ⟨rfl, hb1⟩
    obtain ⟨b0, b1, b2, b3⟩ := box4 hb1
    have hs1 := hb0.trans (hb1.mono hb0.size)
    have hs0 := hsz _ (hx'.below hs1)
    clear hg0 hb0 hb1 hp hk hsz hx'
    generalize holesB t = z at hs0 hr
    cases z with
    | true =>
      go_wp2_with fail
      refine hs0.mono ?_
      rintro e w2 ⟨rfl, hb2⟩
      have hpost : BoolPost (groundB t) w (.returned (.bool false)) w2 := ⟨by rw [hr.out]; rfl, hs1.trans (hb2.mono hs1.size)⟩
      clear hs0 hs1 hb2 hr b0 b1 b2 b3
      go_wp2
      go_ret
      exact hpost
    | false =>
      go_wp2_with fail
      refine hs0.mono ?_
      rintro e w2 ⟨rfl, hb2⟩
      have hpost : BoolPost (groundB t) w (.returned (.bool true)) w2 := ⟨by rw [hr.out]; rfl, hs1.trans (hb2.mono hs1.size)⟩
      clear hs0 hs1 hb2 hr b0 b1 b2 b3
      go_wp2
      go_ret
      exact hpost
  · have h1' : isTermB t = false := by simpa using h1
    rw [h1'] at hg0 hr
    rw [Bool.false_and] at hr
    clear h1 h1' hsz hx'
    go_enter Tryz.func49, Tryz.ntmps49
    go_wp2_with fail
    refine hg0.mono ?_
    rintro e w1 ⟨rfl, hb1⟩
    have hpost : BoolPost (groundB t) w (.returned (.bool false)) w1 := ⟨by rw [hr.out], hb0.trans (hb1.mono hb0.size)⟩
    clear hg0 hb0 hb1 hp hk hr
    go_wp2
    go_ret
    exact hpost

end Go.Proofs.YtddmoempagcjeaaGreat
