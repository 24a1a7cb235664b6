/-
  A row of numbers is put behind rows of the call's own: as a law for the walk; all patterns, in plain words. The atoms that a formula names: in plain words, and in the model, as contracts.
-/
import Derived.Test.YtjjokghcjgighabKHoldsFormula8
import Derived.Test.YtjjokghcjgighabKHoldsFormula11
import Derived.Deep.AppendLies
import Derived.Test.YtjjokghcjgighabKHoldsFormula10
section
namespace Go.Proofs.Ytjjokghcjgighab
open Go.RowKit Go.Sort
set_option linter.unusedVariables false

/-- A copy of numbers that are there, or of nil. -/
theorem l1Copy_ints (A : Option Addr) (c : Nat) (l : List Int) (w : World) (hA : IntsAt w A l) (hz : A = none → c = 0) (hl : l.length ≤ 1099511627776) :
    Calls Try.prog 87 #[.slice A l.length c] w (NewInts l w) := by
  have hb : Below w.heap.size w (w.alloc (.cells #[] 3)) := (Below.refl _ _).alloc (Nat.le_refl _) _
  have ho : (w.alloc (.cells #[] 3)).ownsRow w.heap.size 3 1 (.slice (some ⟨w.heap.size, 0, none⟩) 0 0) 0 [] := World.ownsRow_lit w #[] 0 (Nat.le_refl _) (by decide) rfl
  have hA2 := hA.below hb
  clear hA
  go_enter Try.func87, Try.ntmps87
  go_wp2_with (at_builtin; refine wpList_append_ints rfl (.tmp 3) (.tmp 4) rfl w.heap.size _ 0 [] rfl ho A c l rfl hA2 hz ?c3 ?c5 ?_)
  case c3 => omega
  case c5 => simp
  intro v2 w2 ho3 hg
  have hb4 : Below w.heap.size w w2 := below_own hb ho (Nat.le_refl _) (by simp) hg
  clear ho hg hb hA2
  go_wp2
  go_ret
  exact ⟨_, rfl, by simpa using ho3, hb4⟩

end Go.Proofs.Ytjjokghcjgighab
end

section
namespace Go.Proofs.Ytjjokghcjgighab
open Go.RowKit Go.Sort
set_option linter.unusedVariables false

def ownF (o b : Int) : List Int := if o = 2 then [b] else []
mutual
def rawFm : Fm → List Int
  | .mk o _ b ks => ownF o b ++ rawFms ks
def rawFms : List Fm → List Int
  | [] => []
  | t :: r => insAll [] (rawFm t) ++ rawFms r
end
/-- The atoms that a formula names, in order. -/
def namesFm (t : Fm) : List Int := insAll [] (rawFm t)
theorem rawFm_eq (t : Fm) : rawFm t = ownF t.op t.fb ++ rawFms t.kids := by cases t; simp [rawFm, Fm.op, Fm.fb, Fm.kids]
theorem rawFms_append : ∀ a b : List Fm, rawFms (a ++ b) = rawFms a ++ rawFms b
  | [], b => by simp [rawFms]
  | t :: r, b => by rw [List.cons_append, rawFms, rawFms, rawFms_append r b, List.append_assoc]
theorem rawFms_next {ts : List Fm} {k : Nat} (h : k < ts.length) : rawFms (ts.take (k + 1)) = rawFms (ts.take k) ++ namesFm (fmAt ts k) := by
  rw [fm_take_next h, rawFms_append]
  simp [rawFms, namesFm]
theorem insL_len : ∀ (l : List Int) (n : Int), (insL l n).length ≤ l.length + 1
  | [], n => by simp [insL]
  | x :: r, n => by
    unfold insL
    split
    · simp
    · split
      · simp
      · have := insL_len r n; simp; omega
theorem insAll_len (acc xs : List Int) : (insAll acc xs).length ≤ acc.length + xs.length := by
  unfold insAll
  induction xs generalizing acc with
  | nil => simp
  | cons x r ih => rw [List.foldl_cons]; have h1 := ih (insL acc x); have h2 := insL_len acc x; simp; omega
theorem insAll_append (acc xs ys : List Int) : insAll acc (xs ++ ys) = insAll (insAll acc xs) ys := by unfold insAll; rw [List.foldl_append]
theorem ownF_len (o b : Int) : (ownF o b).length ≤ 1 := by unfold ownF; split <;> simp
mutual
theorem rawFm_len : ∀ t : Fm, (rawFm t).length ≤ szFm t
  | .mk o a b ks => by
    have h1 := rawFms_len ks
    have h2 := ownF_len o b
    rw [rawFm_eq, szFm, List.length_append]
    simp only [Fm.op, Fm.fb, Fm.kids]
    omega
theorem rawFms_len : ∀ ts : List Fm, (rawFms ts).length ≤ szFms ts
  | [] => by simp [rawFms]
  | t :: r => by
    have h1 := rawFm_len t
    have h2 := rawFms_len r
    have h3 := insAll_len [] (rawFm t)
    rw [rawFms, szFms, List.length_append]
    simp at h3
    omega
end
theorem rawFms_take (ts : List Fm) (k : Nat) : (rawFms (ts.take k)).length ≤ (rawFms ts).length := by
  have h : rawFms ts = rawFms (ts.take k) ++ rawFms (ts.drop k) := by rw [← rawFms_append, List.take_append_drop]
  rw [h, List.length_append]
  omega
theorem namesFm_len (t : Fm) : (namesFm t).length ≤ szFm t := by
  have h1 := insAll_len [] (rawFm t)
  have h2 := rawFm_len t
  unfold namesFm
  simp at h1
  omega
mutual
theorem szFm_cnt : ∀ t : Fm, szFm t = 1 + cntFm t
  | .mk o a b ks => by
    have := szFms_cnt ks
    rw [szFm, cntFm]; omega
theorem szFms_cnt : ∀ ts : List Fm, szFms ts = ts.length + sumFm ts
  | [] => by simp [szFms, sumFm]
  | t :: r => by
    have h1 := szFm_cnt t
    have h2 := szFms_cnt r
    rw [szFms, sumFm, List.length_cons]; omega
end

/-- A copy of numbers that are there, or of nil: in a block of its own. -/
theorem l1Copy_some (A : Option Addr) (c : Nat) (l : List Int) (w : World) (hA : IntsAt w A l) (hz : A = none → c = 0) (hl : l.length ≤ 1099511627776) :
    Calls Try.prog 87 #[.slice A l.length c] w (InsPost w.heap.size l w) := by
  have hb : Below w.heap.size w (w.alloc (.cells #[] 3)) := (Below.refl _ _).alloc (Nat.le_refl _) _
  have ho : (w.alloc (.cells #[] 3)).ownsRow w.heap.size 3 1 (.slice (some ⟨w.heap.size, 0, none⟩) 0 0) 0 [] := World.ownsRow_lit w #[] 0 (Nat.le_refl _) (by decide) rfl
  have hA2 := hA.below hb
  cases A with
  | none =>
    have e : l = [] := by
      rcases Nat.eq_zero_or_pos l.length with h0 | h0
      · exact List.eq_nil_of_length_eq_zero h0
      · obtain ⟨b, o, e, _⟩ := hA h0; cases e
    subst e
    have hc := hz rfl
    subst hc
    obtain ⟨i0, hi0, hz0, hz1, hz2⟩ := info_parts int_infoM
    have hpost : InsPost w.heap.size [] w (.returned (.slice (some ⟨w.heap.size, 0, none⟩) 0 0)) (w.alloc (.cells #[] 3)) := ⟨_, _, rfl, ho, hb⟩
    clear hA hA2 hz
    go_enter Try.func87, Try.ntmps87
    go_wp2_with (at_builtin; refine wpList_append_own_none rfl (.tmp 3) (.tmp 4) 25 rfl w.heap.size 3 i0 1 Try.underlying25 hi0 _ 0 [] rfl ho rfl ?_)
    go_wp2
    go_ret
    exact hpost
  | some a =>
    obtain ⟨i0, hi0, hz0, hz1, hz2⟩ := info_parts int_infoM
    have HS := Lib.hid hz2
    have HN := Lib.hid (ints_news hA2)
    have HL := Lib.hid (icells_len l)
    clear hA hA2 hz hz2
    go_enter Try.func87, Try.ntmps87
    go_wp2_with (at_builtin; refine wpList_append_own _ rfl (.tmp 3) (.tmp 4) 25 rfl w.heap.size 3 i0 (.int .i64 0) 1 8 Try.underlying25 hi0 hz0 hz1 HS.out rfl (by decide) _ 0 [] rfl ho a l.length c (icells l) rfl (by rw [HL.out, Nat.mul_one]) HN.out (icells_one l) ?c3 ?c4 ?c5 ?_)
    case c3 => unfold maxLen; omega
    case c4 => omega
    case c5 => simp
    intro v2 w2 ho3 hg hnn
    have hb4 : Below w.heap.size w w2 := below_own hb ho (Nat.le_refl _) (by simp) hg
    have ho4 : w2.ownsRow w.heap.size 3 1 v2 l.length (icells l) := by simpa using ho3
    obtain ⟨g, cap, rfl⟩ : ∃ g cap, v2 = .slice (some ⟨g, 0, none⟩) l.length cap := by
      rcases ho4.2 with ⟨e, _⟩ | ⟨g, cap, cur, e, _⟩
      · exact absurd e (by simpa using hnn)
      · exact ⟨g, cap, e⟩
    have hpost : InsPost w.heap.size l w (.returned (.slice (some ⟨g, 0, none⟩) l.length cap)) w2 := ⟨g, cap, rfl, ho4, hb4⟩
    clear ho hg hb HN HL ho3 ho4 hb4 hnn
    go_wp2
    go_ret
    exact hpost

theorem insCap {w : World} {base n g cap : Nat} {e : TypeId} {size m : Nat} {xs : List Value} (h : w.ownsRow base e size (.slice (some ⟨g, 0, none⟩) n cap) m xs) : n ≤ cap := by
  rcases h.2 with ⟨e, _⟩ | ⟨g', cap', cur, e, _, _, hn, _⟩
  · cases e
  · injection e with _ e2 e3
    omega

set_option maxRecDepth 100000 in
set_option maxHeartbeats 2000000 in
theorem l6Union_any (A B : Option Addr) (c d : Nat) (a b : List Int) (w : World) (hA : IntsAt w A a) (hz : A = none → c = 0) (hasc : AscP a) (hB : IntsAt w B b) (hla : a.length ≤ 4194304) (hlb : b.length ≤ 4194304) :
    Calls Try.prog 85 #[.slice A a.length c, .slice B b.length d] w (InsPost w.heap.size (insAll a b) w) := by
  have hcp := l1Copy_some A c a w hA hz (by omega)
  clear hA hz
  go_enter Try.func85, Try.ntmps85
  go_wp2_with (go_at_call 87; refine hcp.mono ?_; rintro e w1 ⟨g1, cap1, rfl, ho1, hb1⟩)
  clear hcp
  go_loopw [5, 7, 12] (fun v5 _ i wr => ∃ (k g cap : Nat), k ≤ b.length ∧ i = .int .i64 k ∧ v5 = .slice (some ⟨g, 0, none⟩) (insAll a (b.take k)).length cap ∧ wr.ownsRow w.heap.size 3 1 v5 (insAll a (b.take k)).length (icells (insAll a (b.take k))) ∧ Below w.heap.size w wr) (fun _ _ i _ => b.length - (intOf i).toNat)
  case atStart => exact ⟨0, g1, cap1, Nat.zero_le _, rfl, rfl, ho1, hb1⟩
  case round =>
    clear ho1 hb1
    obtain ⟨k, g, cap, hk, rfl, rfl, ho, hb⟩ := hrel
    by_cases hlt : k < b.length
    · obtain ⟨b1, o1, rfl, hb1, hc1⟩ := hB (by omega)
      have c1 := hc1 k hlt
      rw [← hb.cell (p := ⟨b1, _, none⟩) hb1] at c1
      have hln := insAll_len a (b.take k)
      rw [List.length_take] at hln
      have hln2 : (insAll a (b.take k)).length ≤ 8388608 := by omega
      have hins := l1Insert_any w.heap.size g cap (insAll a (b.take k)) (itAt b k) wr ho (insCap ho) (by omega) (asc_insAll _ _ hasc)
      have hnx := Lib.hid (insAll_next a hlt)
      rw [← hnx.out] at hins
      clear hnx
      generalize hL2 : insAll a (b.take (k + 1)) = L2 at hins
      have HL2 := Lib.hid hL2
      clear hL2
      generalize insAll a (b.take k) = L1 at *
      generalize itAt b k = y at c1 hins
      have hs0 := hb.size
      clear hc1 hln
      go_wp2_with fail
      refine hins.mono ?_
      rintro e w2 ⟨g2, cap2, rfl, ho2, hb2⟩
      have hb3 := hb.trans (hb2.mono hb.size)
      clear hins ho hb hb2 c1
      go_wp2
      refine ⟨⟨k + 1, g2, cap2, by omega, by go_num, by rw [HL2.out], by rw [HL2.out]; exact ho2, hb3⟩, ?_⟩
      simp only [intOf]
      omega
    · have e : k = b.length := by omega
      subst e
      rw [List.take_length] at ho ⊢
      have hpost : InsPost w.heap.size (insAll a b) w (.returned (.slice (some ⟨g, 0, none⟩) (insAll a b).length cap)) wr := ⟨g, cap, rfl, ho, hb⟩
      clear ho hb hB
      go_wp2
      go_ret
      exact hpost

theorem ints_own {w : World} {base g cap : Nat} {L : List Int} (h : w.ownsRow base 3 1 (.slice (some ⟨g, 0, none⟩) L.length cap) L.length (icells L)) : IntsAt w (some ⟨g, 0, none⟩) L := by
  obtain ⟨A, c, e, hh⟩ := own_intsAt h
  simp only [Value.slice.injEq] at e
  rw [e.1]
  exact hh

theorem new_cell (W : World) (x : Value) (e : TypeId) (n : Nat) (h : n = W.heap.size) : (W.alloc (.cells #[x] e)).cell? ⟨n, 0, none⟩ = some x := by
  subst h
  simp
theorem new_cell3 (W : World) (a b c d : Value) (e e2 : TypeId) : ((W.alloc (.cells #[a, b, c, d] e)).alloc (.cells #[] e2)).cell? ⟨W.heap.size, 3, none⟩ = some d := by
  have h : (W.alloc (.cells #[a, b, c, d] e)).cell? ⟨W.heap.size, 3, none⟩ = some d := by simp
  have hb : Below (W.alloc (.cells #[a, b, c, d] e)).heap.size (W.alloc (.cells #[a, b, c, d] e)) ((W.alloc (.cells #[a, b, c, d] e)).alloc (.cells #[] e2)) := (Below.refl _ _).alloc (Nat.le_refl _) _
  rw [hb.cell (p := ⟨W.heap.size, 3, none⟩) (by simp)]
  exact h

/-- The contract that is handed down. -/
def NamesC (f : FuncId) (t : Fm) : Prop := ∀ (x : Value) (w : World), FmIn w x t → Calls Try.prog f #[x] w (InsPost w.heap.size (namesFm t) w)

set_option maxRecDepth 100000 in
set_option maxHeartbeats 8000000 in
theorem l6Names_step (t : Fm) (hsz : szFm t ≤ 2097152) (hkl : t.kids.length ≤ 1048576) (ih : ∀ i, i < t.kids.length → NamesC 41 (fmAt t.kids i)) : NamesC 41 t := by
  obtain ⟨i0, hi0, hz0, hz1, hz2⟩ := info_parts int_infoM
  have HS := Lib.hid hz2
  clear hz2
  intro x w hx
  obtain ⟨B, e, rfl, hk⟩ := hx
  have hnm : Hid (namesFm t = insAll [] (ownF t.op t.fb ++ rawFms t.kids)) := Lib.hid (by unfold namesFm; rw [rawFm_eq])
  have hrl := rawFms_len t.kids
  have hse := szFm_eq t
  have hol := ownF_len t.op t.fb
  have HRT := Lib.hid (rawFms_take t.kids)
  have hrl2 : (rawFms t.kids).length ≤ 2097152 := by omega
  have hb1 : Below w.heap.size w ((w.alloc (.cells #[.int .i64 t.op, .int .i64 t.fa, .int .i64 t.fb, .slice B t.kids.length e] 30)).alloc (.cells #[] 3)) := ((Below.refl _ _).alloc (Nat.le_refl _) _).alloc (by simp) _
  have ho0 : ((w.alloc (.cells #[.int .i64 t.op, .int .i64 t.fa, .int .i64 t.fb, .slice B t.kids.length e] 30)).alloc (.cells #[] 3)).ownsRow w.heap.size 3 1 (.slice (some ⟨w.heap.size + 1, 0, none⟩) 0 0) 0 [] := by
    have h := World.ownsRow_lit (w.alloc (.cells #[.int .i64 t.op, .int .i64 t.fa, .int .i64 t.fb, .slice B t.kids.length e] 30)) (e := 3) (size := 1) (base := w.heap.size) #[] 0 (by simp) (by decide) rfl
    simpa using h
  have HKI := Lib.hid (fun i (hi : i < t.kids.length) => (show szFm (fmAt t.kids i) ≤ 2097152 from by have := szFm_at hi; omega))
  have HNX := Lib.hid (fun k (hk : k < t.kids.length) => rawFms_next hk)
  rw [show (namesFm t) = insAll [] (ownF t.op t.fb ++ rawFms t.kids) from hnm.out]
  clear hnm hrl hse hsz
  by_cases h2 : t.op = 2
  · have hop : (t.op == 2) = true := by simp [h2]
    have how : Hid (ownF t.op t.fb = [t.fb]) := Lib.hid (by simp [ownF, h2])
    generalize ownF t.op t.fb = W0 at *
    clear h2
    have hb2 := hb1.alloc hb1.size (.cells #[.int .i64 t.fb] 3)
    have ho0' : ((w.alloc (.cells #[.int .i64 t.op, .int .i64 t.fa, .int .i64 t.fb, .slice B t.kids.length e] 30)).alloc (.cells #[] 3)).ownsRow (w.heap.size + 1) 3 1 (.slice (some ⟨w.heap.size + 1, 0, none⟩) 0 0) 0 [] := by
      have h := World.ownsRow_lit (w.alloc (.cells #[.int .i64 t.op, .int .i64 t.fa, .int .i64 t.fb, .slice B t.kids.length e] 30)) (e := 3) (size := 1) (base := w.heap.size + 1) #[] 0 (by simp) (by decide) rfl
      simpa using h
    have ho1 := ho0'.alloc (.cells #[.int .i64 t.fb] 3)
    have hbx : ((w.alloc (.cells #[.int .i64 t.op, .int .i64 t.fa, .int .i64 t.fb, .slice B t.kids.length e] 30)).alloc (.cells #[] 3)).cell? ⟨w.heap.size, 3, none⟩ = some (.slice B t.kids.length e) := new_cell3 _ _ _ _ _ _ _
    have hbz : Below (w.heap.size + 1) ((w.alloc (.cells #[.int .i64 t.op, .int .i64 t.fa, .int .i64 t.fb, .slice B t.kids.length e] 30)).alloc (.cells #[] 3)) (((w.alloc (.cells #[.int .i64 t.op, .int .i64 t.fa, .int .i64 t.fb, .slice B t.kids.length e] 30)).alloc (.cells #[] 3)).alloc (.cells #[.int .i64 t.fb] 3)) := (Below.refl _ _).alloc (by simp) _
    have hsz9 : w.heap.size + 1 ≤ (((w.alloc (.cells #[.int .i64 t.op, .int .i64 t.fa, .int .i64 t.fb, .slice B t.kids.length e] 30)).alloc (.cells #[] 3)).alloc (.cells #[.int .i64 t.fb] 3)).heap.size := by simp
    have hcell : (((w.alloc (.cells #[.int .i64 t.op, .int .i64 t.fa, .int .i64 t.fb, .slice B t.kids.length e] 30)).alloc (.cells #[] 3)).alloc (.cells #[.int .i64 t.fb] 3)).cell? ⟨w.heap.size + 1 + 1, 0, none⟩ = some (.int .i64 t.fb) := (new_cell _ _ _ (w.heap.size + 1 + 1) (by simp))
    have HC := Lib.hid (one_cell hcell)
    have hsz3 : w.heap.size ≤ (((w.alloc (.cells #[.int .i64 t.op, .int .i64 t.fa, .int .i64 t.fb, .slice B t.kids.length e] 30)).alloc (.cells #[] 3)).alloc (.cells #[.int .i64 t.fb] 3)).heap.size := hb2.size
    have hk3 := hk.below hb2
    clear ho0 hcell
    go_enter Try.func41, Try.ntmps41
    go_wp2_with (at_builtin; refine wpList_append_lies _ rfl (.tmp 10) (.tmp 13) 25 rfl (w.heap.size + 1) 3 i0 (.int .i64 0) 1 8 Try.underlying25 hi0 hz0 hz1 HS.out rfl (by decide) _ 0 _ rfl ho1 ⟨w.heap.size + 1 + 1, 0, none⟩ 1 1 [.int .i64 t.fb] rfl rfl HC.out (int_one _) (by decide) ?c3 ?c4 ?c5 _ rfl ?_)
    case c3 => unfold maxLen; omega
    case c4 => omega
    case c5 => first | exact hsz9 | omega | (simp <;> omega)
    intro g0 cap0 w3 ho3 hg3 _ _
    have hby : Below (w.heap.size + 1) _ w3 := below_own hbz ho1 (Nat.le_refl _) hsz9 hg3
    have hb3 : Below w.heap.size w w3 := hb1.trans (hby.mono (Nat.le_succ _))
    have hbc := hby.cell (p := ⟨w.heap.size, 3, none⟩) (Nat.lt_succ_self _)
    rw [hbx] at hbc
    have ho3 := own_le ho3 (Nat.le_succ _)
    clear hb2 ho1 HC hsz3 hg3 hbx hbz hby hsz9 ho0' hb1
    have hi0' : Hid (insAll [] (W0 ++ rawFms (t.kids.take 0)) = [t.fb]) := Lib.hid (by rw [how.out]; rfl)
    have hst : ∃ (k g cap : Nat), k ≤ t.kids.length ∧ Value.int .i64 0 = .int .i64 k ∧ Value.slice (some ⟨g0, 0, none⟩) 1 cap0 = .slice (some ⟨g, 0, none⟩) (insAll [] (W0 ++ rawFms (t.kids.take k))).length cap ∧ w3.ownsRow w.heap.size 3 1 (Value.slice (some ⟨g0, 0, none⟩) 1 cap0) (insAll [] (W0 ++ rawFms (t.kids.take k))).length (icells (insAll [] (W0 ++ rawFms (t.kids.take k)))) ∧ Below w.heap.size w w3 := ⟨0, g0, cap0, Nat.zero_le _, rfl, by rw [hi0'.out]; rfl, by rw [hi0'.out]; exact ho3, hb3⟩
    clear ho3 hb3 hi0'
    have HST := Lib.hid hst
    clear hst
    go_wp2
    go_loopw [3, 5, 18] (fun v3 _ i wr => ∃ (k g cap : Nat), k ≤ t.kids.length ∧ i = .int .i64 k ∧ v3 = .slice (some ⟨g, 0, none⟩) (insAll [] (W0 ++ rawFms (t.kids.take k))).length cap ∧ wr.ownsRow w.heap.size 3 1 v3 (insAll [] (W0 ++ rawFms (t.kids.take k))).length (icells (insAll [] (W0 ++ rawFms (t.kids.take k)))) ∧ Below w.heap.size w wr) (fun _ _ i _ => t.kids.length - (intOf i).toNat)
    case atStart => exact HST.out
    case round =>
      clear HST
      obtain ⟨k, g, cap, hk9, rfl, rfl, ho, hb⟩ := hrel
      by_cases hlt : k < t.kids.length
      · obtain ⟨b1, o1, rfl, hbl, hc1⟩ := (hk.below hb).get (by omega)
        obtain ⟨B1, e1, d0, d1, d2, d3, hk1⟩ := hc1 k hlt
        have hbx : Below wr.heap.size wr (wr.alloc (.cells #[.int .i64 (fmAt t.kids k).op, .int .i64 (fmAt t.kids k).fa, .int .i64 (fmAt t.kids k).fb, .slice B1 (fmAt t.kids k).kids.length e1] 30)) := (Below.refl _ _).alloc (Nat.le_refl _) _
        have hct := ih k hlt _ (wr.alloc (.cells #[.int .i64 (fmAt t.kids k).op, .int .i64 (fmAt t.kids k).fa, .int .i64 (fmAt t.kids k).fb, .slice B1 (fmAt t.kids k).kids.length e1] 30)) ⟨B1, e1, rfl, hk1.below hbx⟩
        have hnl := namesFm_len (fmAt t.kids k)
        have hki := HKI.out k hlt
        have hrt := HRT.out k
        have hil := insAll_len [] (W0 ++ rawFms (t.kids.take k))
        rw [List.length_append, List.length_nil] at hil
        have hil2 : (insAll [] (W0 ++ rawFms (t.kids.take k))).length ≤ 4194304 := by omega
        have hnl2 : (namesFm (fmAt t.kids k)).length ≤ 4194304 := by omega
        have hasc := asc_insAll [] (W0 ++ rawFms (t.kids.take k)) List.Pairwise.nil
        have hnx : Hid (insAll (insAll [] (W0 ++ rawFms (t.kids.take k))) (namesFm (fmAt t.kids k)) = insAll [] (W0 ++ rawFms (t.kids.take (k + 1)))) := Lib.hid (by rw [HNX.out k hlt, ← List.append_assoc]; exact (insAll_append _ _ _).symm)
        generalize hL2 : insAll [] (W0 ++ rawFms (t.kids.take (k + 1))) = L2 at hnx
        have HL2 := Lib.hid hL2
        clear hL2
        generalize insAll [] (W0 ++ rawFms (t.kids.take k)) = L1 at *
        generalize namesFm (fmAt t.kids k) = N1 at *
        generalize fmAt t.kids k = u at *
        have hs0 := hb.size
        have hoa := ho.alloc (.cells #[.int .i64 u.op, .int .i64 u.fa, .int .i64 u.fb, .slice B1 u.kids.length e1] 30)
        have hba := hb.alloc hb.size (.cells #[.int .i64 u.op, .int .i64 u.fa, .int .i64 u.fb, .slice B1 u.kids.length e1] 30)
        clear hc1
        go_wp2_with (go_at_call 41; refine hct.mono ?_; rintro e w4 ⟨g4, cap4, rfl, ho4, hb4⟩)
        have hob := own_below hoa hb4
        have hbb := hba.trans (hb4.mono hba.size)
        have hun := l6Union_any (some ⟨g, 0, none⟩) (some ⟨g4, 0, none⟩) cap cap4 L1 N1 w4 (ints_own hob) (fun h => by cases h) hasc (ints_own ho4) hil2 hnl2
        rw [hnx.out] at hun
        refine hun.mono ?_
        rintro e w5 ⟨g5, cap5, rfl, ho5, hb5⟩
        have hbc9 := hbb.trans (hb5.mono hbb.size)
        have ho6 := own_le ho5 hbb.size
        have HO6 := Lib.hid ho6
        clear hun hct hoa hob ho hb hba hbb hb4 hb5 ho4 ho5 ho6 hk1 d0 d1 d2 d3 hbx hasc
        go_wp2
        refine ⟨⟨k + 1, g5, cap5, by omega, by go_num, by rw [HL2.out], by rw [HL2.out]; exact HO6.out, hbc9⟩, ?_⟩
        simp only [intOf]
        omega
      · have e : k = t.kids.length := by omega
        subst e
        rw [List.take_length] at ho ⊢
        have hpost : InsPost w.heap.size (insAll [] (W0 ++ rawFms t.kids)) w (.returned (.slice (some ⟨g, 0, none⟩) (insAll [] (W0 ++ rawFms t.kids)).length cap)) wr := ⟨g, cap, rfl, ho, hb⟩
        clear ho hb hk hk3
        go_wp2
        go_ret
        exact hpost
  · have hop : (t.op == 2) = false := by simp [h2]
    have how : Hid (ownF t.op t.fb = []) := Lib.hid (by simp [ownF, h2])
    generalize ownF t.op t.fb = W0 at *
    clear h2
    have hi0' : Hid (insAll [] (W0 ++ rawFms (t.kids.take 0)) = []) := Lib.hid (by rw [how.out]; rfl)
    have HST : Hid (∃ (k g cap : Nat), k ≤ t.kids.length ∧ Value.int .i64 0 = .int .i64 k ∧ Value.slice (some ⟨w.heap.size + 1, 0, none⟩) 0 0 = .slice (some ⟨g, 0, none⟩) (insAll [] (W0 ++ rawFms (t.kids.take k))).length cap ∧ ((w.alloc (.cells #[.int .i64 t.op, .int .i64 t.fa, .int .i64 t.fb, .slice B t.kids.length e] 30)).alloc (.cells #[] 3)).ownsRow w.heap.size 3 1 (Value.slice (some ⟨w.heap.size + 1, 0, none⟩) 0 0) (insAll [] (W0 ++ rawFms (t.kids.take k))).length (icells (insAll [] (W0 ++ rawFms (t.kids.take k)))) ∧ Below w.heap.size w ((w.alloc (.cells #[.int .i64 t.op, .int .i64 t.fa, .int .i64 t.fb, .slice B t.kids.length e] 30)).alloc (.cells #[] 3))) := Lib.hid ⟨0, w.heap.size + 1, 0, Nat.zero_le _, rfl, by rw [hi0'.out]; rfl, by rw [hi0'.out]; exact ho0, hb1⟩
    have hk3 := hk.below hb1
    clear ho0 hb1 hi0'
    go_enter Try.func41, Try.ntmps41
    go_wp2
    go_loopw [3, 5, 18] (fun v3 _ i wr => ∃ (k g cap : Nat), k ≤ t.kids.length ∧ i = .int .i64 k ∧ v3 = .slice (some ⟨g, 0, none⟩) (insAll [] (W0 ++ rawFms (t.kids.take k))).length cap ∧ wr.ownsRow w.heap.size 3 1 v3 (insAll [] (W0 ++ rawFms (t.kids.take k))).length (icells (insAll [] (W0 ++ rawFms (t.kids.take k)))) ∧ Below w.heap.size w wr) (fun _ _ i _ => t.kids.length - (intOf i).toNat)
    case atStart => exact HST.out
    case round =>
      clear HST
      obtain ⟨k, g, cap, hk9, rfl, rfl, ho, hb⟩ := hrel
      by_cases hlt : k < t.kids.length
      · obtain ⟨b1, o1, rfl, hbl, hc1⟩ := (hk.below hb).get (by omega)
        obtain ⟨B1, e1, d0, d1, d2, d3, hk1⟩ := hc1 k hlt
        have hbx : Below wr.heap.size wr (wr.alloc (.cells #[.int .i64 (fmAt t.kids k).op, .int .i64 (fmAt t.kids k).fa, .int .i64 (fmAt t.kids k).fb, .slice B1 (fmAt t.kids k).kids.length e1] 30)) := (Below.refl _ _).alloc (Nat.le_refl _) _
        have hct := ih k hlt _ (wr.alloc (.cells #[.int .i64 (fmAt t.kids k).op, .int .i64 (fmAt t.kids k).fa, .int .i64 (fmAt t.kids k).fb, .slice B1 (fmAt t.kids k).kids.length e1] 30)) ⟨B1, e1, rfl, hk1.below hbx⟩
        have hnl := namesFm_len (fmAt t.kids k)
        have hki := HKI.out k hlt
        have hrt := HRT.out k
        have hil := insAll_len [] (W0 ++ rawFms (t.kids.take k))
        rw [List.length_append, List.length_nil] at hil
        have hil2 : (insAll [] (W0 ++ rawFms (t.kids.take k))).length ≤ 4194304 := by omega
        have hnl2 : (namesFm (fmAt t.kids k)).length ≤ 4194304 := by omega
        have hasc := asc_insAll [] (W0 ++ rawFms (t.kids.take k)) List.Pairwise.nil
        have hnx : Hid (insAll (insAll [] (W0 ++ rawFms (t.kids.take k))) (namesFm (fmAt t.kids k)) = insAll [] (W0 ++ rawFms (t.kids.take (k + 1)))) := Lib.hid (by rw [HNX.out k hlt, ← List.append_assoc]; exact (insAll_append _ _ _).symm)
        generalize hL2 : insAll [] (W0 ++ rawFms (t.kids.take (k + 1))) = L2 at hnx
        have HL2 := Lib.hid hL2
        clear hL2
        generalize insAll [] (W0 ++ rawFms (t.kids.take k)) = L1 at *
        generalize namesFm (fmAt t.kids k) = N1 at *
        generalize fmAt t.kids k = u at *
        have hs0 := hb.size
        have hoa := ho.alloc (.cells #[.int .i64 u.op, .int .i64 u.fa, .int .i64 u.fb, .slice B1 u.kids.length e1] 30)
        have hba := hb.alloc hb.size (.cells #[.int .i64 u.op, .int .i64 u.fa, .int .i64 u.fb, .slice B1 u.kids.length e1] 30)
        clear hc1
        go_wp2_with (go_at_call 41; refine hct.mono ?_; rintro e w4 ⟨g4, cap4, rfl, ho4, hb4⟩)
        have hob := own_below hoa hb4
        have hbb := hba.trans (hb4.mono hba.size)
        have hun := l6Union_any (some ⟨g, 0, none⟩) (some ⟨g4, 0, none⟩) cap cap4 L1 N1 w4 (ints_own hob) (fun h => by cases h) hasc (ints_own ho4) hil2 hnl2
        rw [hnx.out] at hun
        refine hun.mono ?_
        rintro e w5 ⟨g5, cap5, rfl, ho5, hb5⟩
        have hbc9 := hbb.trans (hb5.mono hbb.size)
        have ho6 := own_le ho5 hbb.size
        have HO6 := Lib.hid ho6
        clear hun hct hoa hob ho hb hba hbb hb4 hb5 ho4 ho5 ho6 hk1 d0 d1 d2 d3 hbx hasc
        go_wp2
        refine ⟨⟨k + 1, g5, cap5, by omega, by go_num, by rw [HL2.out], by rw [HL2.out]; exact HO6.out, hbc9⟩, ?_⟩
        simp only [intOf]
        omega
      · have e : k = t.kids.length := by omega
        subst e
        rw [List.take_length] at ho ⊢
        have hpost : InsPost w.heap.size (insAll [] (W0 ++ rawFms t.kids)) w (.returned (.slice (some ⟨g, 0, none⟩) (insAll [] (W0 ++ rawFms t.kids)).length cap)) wr := ⟨g, cap, rfl, ho, hb⟩
        clear ho hb hk hk3
        go_wp2
        go_ret
        exact hpost
end Go.Proofs.Ytjjokghcjgighab
end

