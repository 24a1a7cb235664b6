/-
  SameSet: plain words and small laws; boxes for orbit sets that a drawn statement lays. What the operations on orbit sets make, told by tuples: plain words. How many tuples over a list of atoms an orbit set has: plain words.
-/
import Derived.Test.YtnamlgacjhnpnaaKCounted23
import Derived.Test.YtnamlgacjhnpnaaKCounted24
import Derived.Test.YtnamlgacjhnpnaaKCounted16
import Derived.Test.YtnamlgacjhnpnaaKCounted25
import Derived.Test.YtnamlgacjhnpnaaKCounted18
import Derived.Test.YtnamlgacjhnpnaaKCounted15
import Derived.Test.YtnamlgacjhnpnaaKCounted13
section
namespace Go.Proofs.Ytnamlgacjhnpnaa
open Go.RowKit Go.Sort
set_option linter.unusedVariables false

/-- A box that is new. -/
def ZBox (w : World) (g : Nat) : Prop := w.heap[g]? = some (.cells #[.int .i64 0, .slice none 0 0, .slice none 0 0] 32 (0, 0))
theorem ZBox.lt {w : World} {g : Nat} (h : ZBox w g) : g < w.heap.size := OrbK.box_lt h
theorem ZBox.below {w w' : World} {g : Nat} (h : ZBox w g) (hb : Below w.heap.size w w') : ZBox w' g := (hb.block g h.lt).trans h
theorem ZBox.alloc {w : World} {g : Nat} (h : ZBox w g) (o : Obj) : ZBox (w.alloc o) g := h.below ((Below.refl _ _).alloc (Nat.le_refl _) o)
theorem ZBox.drew {w : World} {g : Nat} (h : ZBox w g) : ZBox w.drew g := h
theorem ZBox.other {w : World} {g q : Nat} (h : ZBox w g) (hne : g ≠ q) (a b c : Value) : ZBox (((w.setCell ⟨q, 0, none⟩ a).setCell ⟨q, 1, none⟩ b).setCell ⟨q, 2, none⟩ c) g :=
  ((OrbQ.set3_only w q a b c).block g h.lt (by simpa using hne)).trans h
end Go.Proofs.Ytnamlgacjhnpnaa
end

section
namespace Go.Proofs.Ytnamlgacjhnpnaa
open Go.RowKit Go.Sort
set_option linter.unusedVariables false

namespace SetY
open DrawN SetX
theorem valid_filter {n : Nat} {cs : List Int} (hc : constB cs = true) (f : List Int → Bool) : Valid n cs ((allP n cs.length).filter f) := ⟨hc, normal_filter n cs.length f⟩
theorem valid_cpl {n : Nat} {cs : List Int} (hc : constB cs = true) (M : List (List Int)) : Valid n cs (cplL n cs M) := by
  rw [cpl_is]
  exact valid_filter hc _
theorem tup_of {t : List Int} (h : t.length ≤ 4) (ha : ∀ a ∈ t, 0 ≤ a ∧ a ≤ 999) : tupB t = true := by
  rw [tupB_is h]
  unfold atomsB
  rw [List.all_eq_true]
  intro x hx
  have := ha x hx
  unfold atomB
  simpa using this
theorem ex_it {V p : List Int} {j : Nat} (h : j < p.length) : itAt (exL V p) j = itAt V (itAt p j).toNat := by
  unfold exL
  exact itAt_map h
theorem Sim.places {cs t u ps : List Int} (h : Sim cs t u) (hp : ∀ j, j < ps.length → (itAt ps j).toNat < t.length) : Sim cs (exL t ps) (exL u ps) := by
  have hl := h.1
  refine ⟨by rw [exL_len, exL_len], fun i j hi hj => ?_, fun i hi c hc => ?_⟩
  · rw [exL_len] at hi hj
    rw [ex_it hi, ex_it hj, ex_it hi, ex_it hj]
    exact h.2.1 _ _ (hp i hi) (hp j hj)
  · rw [exL_len] at hi
    rw [ex_it hi, ex_it hi]
    exact h.2.2 _ (hp i hi) c hc
end SetY
end Go.Proofs.Ytnamlgacjhnpnaa
end

section
namespace Go.Proofs.Ytnamlgacjhnpnaa
open Go.RowKit Go.Sort
set_option linter.unusedVariables false

namespace SetN
open DrawN SetX SetY
/-- All tuples of a width over a list of atoms. -/
def tupsU (U : List Int) : Nat → List (List Int)
  | 0 => [[]]
  | w + 1 => (tupsU U w).flatMap fun t => U.map fun a => t ++ [a]
theorem tupsU_succ (U : List Int) (w : Nat) : tupsU U (w + 1) = (tupsU U w).flatMap fun t => U.map fun a => t ++ [a] := rfl
theorem mem_tupsU {U : List Int} : ∀ {w : Nat} {t : List Int}, t ∈ tupsU U w ↔ t.length = w ∧ ∀ a ∈ t, a ∈ U
  | 0, t => by
    unfold tupsU
    constructor
    · intro h
      rw [List.mem_singleton] at h
      subst h
      exact ⟨rfl, fun a h => by cases h⟩
    · rintro ⟨h, _⟩
      rw [List.eq_nil_of_length_eq_zero h]
      simp
  | w + 1, t => by
    rw [tupsU_succ, List.mem_flatMap]
    constructor
    · rintro ⟨s, hs, h⟩
      obtain ⟨a, ha, rfl⟩ := List.mem_map.1 h
      obtain ⟨h1, h2⟩ := mem_tupsU.1 hs
      refine ⟨by simp [h1], fun x hx => ?_⟩
      rcases List.mem_append.1 hx with h3 | h3
      · exact h2 x h3
      · rw [List.mem_singleton.1 h3]; exact ha
    · rintro ⟨h1, h2⟩
      obtain ⟨q, x, rfl, hq⟩ := snoc_of h1
      exact ⟨q, mem_tupsU.2 ⟨hq, fun a ha => h2 a (List.mem_append_left _ ha)⟩, List.mem_map.2 ⟨x, h2 x (by simp), rfl⟩⟩
theorem pat_snoc (cs t : List Int) (a : Int) : patL cs (t ++ [a]) = patL cs t ++ [(((seenL cs t).idxOf a : Nat) : Int)] := by
  have h := patL_next (cs := cs) (xs := t ++ [a]) (k := t.length) (by simp)
  rw [List.take_of_length_le (by simp), List.take_append_of_le_length (Nat.le_refl _), List.take_length, itAt_snoc_eq] at h
  exact h
theorem seen_sub {cs t U : List Int} (h1 : ∀ c ∈ cs, c ∈ U) (h2 : ∀ a ∈ t, a ∈ U) : ∀ a ∈ seenL cs t, a ∈ U := fun a ha => by
  obtain ⟨_, hm, _⟩ := pat_seen cs t t.length (Nat.le_refl _)
  rw [List.take_length] at hm
  rcases (hm a).1 ha with h | ⟨j, hj, e⟩
  · exact h1 a h
  · rw [← e, itAt_get _ _ hj]
    exact h2 _ (List.getElem_mem hj)
theorem seen_new (cs t : List Int) : ((seenL cs t).length : Int) = newN cs.length (patL cs t) := by
  have := (pat_state cs t t.length (Nat.le_refl _)).1
  rw [List.take_length] at this
  exact this.symm
theorem count_one {U s : List Int} (hU : U.Nodup) (hs : s.Nodup) (hsub : ∀ a ∈ s, a ∈ U) {x : Nat} (hx : x < s.length) : (U.countP fun a => decide (((s.idxOf a : Nat) : Int) = (x : Int))) = 1 := by
  have h1 : (U.countP fun a => decide (((s.idxOf a : Nat) : Int) = (x : Int))) = U.countP (· == s[x]) := by
    refine List.countP_congr fun a _ => ?_
    simp only [decide_eq_true_eq, beq_iff_eq]
    constructor
    · intro e
      have e2 : s.idxOf a = x := by omega
      have e3 : s.idxOf a < s.length := by omega
      have e4 := List.getElem_idxOf e3
      simp only [e2] at e4
      exact e4.symm
    · intro e
      rw [e, List.Nodup.idxOf_getElem hs]
  rw [h1]
  have h2 := (List.Nodup.count hU (a := s[x]))
  rw [if_pos (hsub _ (List.getElem_mem hx))] at h2
  exact h2
theorem count_in {U s : List Int} (hU : U.Nodup) (hs : s.Nodup) (hsub : ∀ a ∈ s, a ∈ U) : (U.countP fun a => decide (a ∈ s)) = s.length := by
  rw [List.countP_eq_length_filter]
  refine (ext_perm (hU.sublist List.filter_sublist) hs fun a => ?_).length_eq
  rw [List.mem_filter]
  simp only [decide_eq_true_eq]
  exact ⟨fun h => h.2, fun h => ⟨hsub a h, h⟩⟩
theorem count_not {U : List Int} (f : Int → Bool) : U.countP f + (U.countP fun a => !f a) = U.length := by
  have := split_len f U
  rw [List.countP_eq_length_filter, List.countP_eq_length_filter]
  exact this
theorem count_new {U s : List Int} (hU : U.Nodup) (hs : s.Nodup) (hsub : ∀ a ∈ s, a ∈ U) : (U.countP fun a => decide (((s.idxOf a : Nat) : Int) = (s.length : Int))) + s.length = U.length := by
  have h1 : (U.countP fun a => decide (((s.idxOf a : Nat) : Int) = (s.length : Int))) = U.countP fun a => !decide (a ∈ s) := by
    refine List.countP_congr fun a _ => ?_
    simp only [decide_eq_true_eq, Bool.not_eq_true', decide_eq_false_iff_not]
    constructor
    · intro e hm
      have := List.idxOf_lt_length_iff.2 hm
      omega
    · intro hm
      rw [List.idxOf_eq_length hm]
  have h2 := count_in hU hs hsub
  have h3 := count_not (U := U) fun a => decide (a ∈ s)
  rw [h1]
  omega
theorem sum_const {α : Type} (P : α → Prop) [DecidablePred P] (c : Nat) : ∀ T : List α, (T.map fun t => if P t then c else 0).sum = (T.countP fun t => decide (P t)) * c
  | [] => by simp
  | t :: r => by
    rw [List.map_cons, List.sum_cons, sum_const P c r, List.countP_cons]
    by_cases h : P t
    · simp [h, Nat.add_mul, Nat.add_comm]
    · simp [h]
theorem ways_snoc {n k : Int} {q : List Int} {x : Int} (hx : 0 ≤ x ∧ x ≤ newN k q) : waysP n k (q ++ [x]) = waysP n k q * (if x = newN k q then n - newN k q else 1) := by
  have hi : q.length < (q ++ [x]).length := by simp
  have e1 : (q ++ [x]).take q.length = q := by rw [List.take_append_of_le_length (Nat.le_refl _), List.take_length]
  have e2 : (q ++ [x]).take (q.length + 1) = q ++ [x] := List.take_of_length_le (by simp)
  by_cases h : x = newN k q
  · have := (waysP_new (n := n) (k := k) hi (by rw [itAt_snoc_eq, e1]; exact h)).2
    rw [e1, e2] at this
    rw [if_pos h, this]
  · have := (waysP_old (n := n) (k := k) hi (by rw [itAt_snoc_eq, e1]; exact hx.2) (by rw [itAt_snoc_eq, e1]; exact h)).2
    rw [e1, e2] at this
    rw [if_neg h, this, Int.mul_one]
/-- As many tuples have a pattern as its ways say. -/
theorem count_pat {U l : List Int} (hU : U.Nodup) (hl : l.Nodup) (hs : ∀ c ∈ l, c ∈ U) : ∀ (w : Nat) (p : List Int), p ∈ allP w l.length → (((tupsU U w).countP fun t => decide (patL l t = p) : Nat) : Int) = waysP U.length l.length p
  | 0, p, hp => by
    have e := ((mem_allP (by omega)).1 hp).1
    rw [List.eq_nil_of_length_eq_zero e]
    have : patL l [] = [] := rfl
    unfold tupsU waysP newN
    simp [this, prodN]
  | w + 1, p, hp => by
    obtain ⟨h1, h2⟩ := (mem_allP (by omega)).1 hp
    obtain ⟨q, x, rfl, hq⟩ := snoc_of h1
    obtain ⟨h3, h4, h5⟩ := isPat_snoc.1 h2
    have ih := count_pat hU hl hs w q ((mem_allP (by omega)).2 ⟨hq, h3⟩)
    rw [ways_snoc ⟨h4, h5⟩, ← ih, tupsU_succ, List.countP_flatMap]
    have hUl := long_of l U hl hs
    have hc : ∀ t ∈ tupsU U w, (List.countP (fun t => decide (patL l t = q ++ [x])) ∘ fun t => U.map fun a => t ++ [a]) t = if patL l t = q then (if x = newN l.length q then U.length - (newN l.length q).toNat else 1) else 0 := by
      intro t ht
      obtain ⟨t1, t2⟩ := mem_tupsU.1 ht
      have hsn := seen_nodup hl t
      have hss := seen_sub hs t2
      have hnw := seen_new l t
      have hlt : ((tupsU U w).length : Int) = (tupsU U w).length := rfl
      simp only [Function.comp]
      rw [List.countP_map]
      by_cases e : patL l t = q
      · rw [if_pos e]
        rw [e] at hnw
        have e6 : U.countP ((fun t => decide (patL l t = q ++ [x])) ∘ fun a => t ++ [a]) = U.countP fun a => decide ((((seenL l t).idxOf a : Nat) : Int) = x) := by
          refine List.countP_congr fun a _ => ?_
          simp only [Function.comp, decide_eq_true_eq]
          rw [pat_snoc, e]
          simp
        rw [e6]
        by_cases ex : x = newN l.length q
        · rw [if_pos ex, ex, ← hnw]
          have := count_new hU hsn hss
          omega
        · rw [if_neg ex]
          have := count_one hU hsn hss (x := x.toNat) (by omega)
          rw [Int.toNat_of_nonneg h4] at this
          exact this
      · rw [if_neg e, List.countP_eq_zero]
        intro a _ h
        simp only [Function.comp, decide_eq_true_eq] at h
        rw [pat_snoc] at h
        exact e (List.append_inj_left' h rfl)
    rw [List.map_congr_left hc, sum_const]
    by_cases ex : x = newN l.length q
    · rw [if_pos ex, if_pos ex, Int.natCast_mul]
      by_cases hz : (tupsU U w).countP (fun t => decide (patL l t = q)) = 0
      · rw [hz]
        simp
      · congr 1
        obtain ⟨t, ht, e⟩ := List.countP_pos_iff.1 (Nat.pos_of_ne_zero hz)
        have e2 := of_decide_eq_true e
        obtain ⟨t1, t2⟩ := mem_tupsU.1 ht
        have h8 := long_of _ U (seen_nodup hl t) (seen_sub hs t2)
        have h9 := seen_new l t
        rw [e2] at h9
        omega
    · rw [if_neg ex, if_neg ex]
      simp
theorem count_or {α : Type} (f g : α → Bool) : ∀ T : List α, (∀ t ∈ T, f t = true → g t = false) → (T.countP fun t => f t || g t) = T.countP f + T.countP g
  | [], _ => by simp
  | t :: r, h => by
    have ih := count_or f g r fun x hx => h x (List.mem_cons_of_mem _ hx)
    have h1 := h t List.mem_cons_self
    rw [List.countP_cons, List.countP_cons, List.countP_cons, ih]
    cases hf : f t with
    | true =>
      rw [h1 hf]
      simp
      omega
    | false =>
      cases g t
      · simp
      · simp
        omega
theorem count_all {U l : List Int} {n : Nat} (hU : U.Nodup) (hl : l.Nodup) (hs : ∀ c ∈ l, c ∈ U) : ∀ M : List (List Int), M.Nodup → (∀ p ∈ M, p ∈ allP n l.length) → cntC U.length l.length M = (((tupsU U n).countP fun t => thereB M (patL l t) : Nat) : Int)
  | [], _, _ => by simp [cntC, thereB]
  | p :: r, hn, hm => by
    rw [List.nodup_cons] at hn
    rw [cntC, count_all hU hl hs r hn.2 (fun q hq => hm q (List.mem_cons_of_mem _ hq)), ← count_pat hU hl hs n p (hm p List.mem_cons_self)]
    have h1 := count_or (fun t => decide (patL l t = p)) (fun t => thereB r (patL l t)) (tupsU U n) fun t _ h => by
      rw [of_decide_eq_true h, Bool.eq_false_iff]
      exact fun h2 => hn.1 (there_mem.1 h2)
    have h2 : ((tupsU U n).countP fun t => thereB (p :: r) (patL l t)) = (tupsU U n).countP fun t => (decide (patL l t = p)) || thereB r (patL l t) := by
      refine List.countP_congr fun t _ => ?_
      simp only [Bool.or_eq_true, decide_eq_true_eq, there_mem, List.mem_cons]
    rw [h2, h1]
    omega
theorem lex_self : ∀ p : List Int, lexLt p p = false
  | [] => rfl
  | a :: r => by
    rw [lexLt, if_pos rfl]
    exact lex_self r
theorem asc_rows {n : Nat} {k : Int} (hk : 0 ≤ k) {M : List (List Int)} (h : M = thoseL n k M) : M.Nodup := by
  rw [h]
  unfold thoseL
  refine List.Nodup.sublist List.filter_sublist ?_
  refine (allP_lex hk n).imp fun {a b} h1 e => ?_
  subst e
  rw [lex_self] at h1
  cases h1
/-- The count of a set over atoms among which its constants are. -/
theorem count_valid {U l : List Int} {n : Nat} {M : List (List Int)} (hU : U.Nodup) (hs : ∀ c ∈ l, c ∈ U) (h : Valid n l M) : cntC U.length l.length M = (((tupsU U n).countP fun t => thereB M (patL l t) : Nat) : Int) :=
  count_all hU (const_nodup h.1) hs M (asc_rows (by omega) h.2) (valid_mem h)
theorem count_has {U l : List Int} {n : Nat} {M : List (List Int)} (hn : n ≤ 4) (hU : U.Nodup) (hs : ∀ c ∈ l, c ∈ U) (ha : ∀ a ∈ U, 0 ≤ a ∧ a ≤ 999) (h : Valid n l M) : cntC U.length l.length M = (((tupsU U n).countP fun t => hasTB n l M t : Nat) : Int) := by
  rw [count_valid hU hs h]
  congr 1
  refine List.countP_congr fun t ht => ?_
  obtain ⟨h1, h2⟩ := mem_tupsU.1 ht
  rw [has_there (valid_orb hn h) (tup_of (by omega) fun a h3 => ha a (h2 a h3))]
/-- The digits of a number, the least one first. -/
def digs : Nat → Nat → List Int
  | 0, _ => []
  | w + 1, k => digs w k ++ [((k / 6 ^ w % 6 : Nat) : Int)]
theorem digs_len : ∀ w k, (digs w k).length = w
  | 0, _ => rfl
  | w + 1, k => by rw [digs, List.length_append, digs_len w k]; rfl
theorem digs_in : ∀ (w k : Nat), ∀ a ∈ digs w k, 0 ≤ a ∧ a < 6
  | 0, _, a, h => by cases h
  | w + 1, k, a, h => by
    rw [digs, List.mem_append] at h
    rcases h with h | h
    · exact digs_in w k a h
    · rw [List.mem_singleton] at h
      omega
theorem digs_mod : ∀ (w k : Nat), digs w (k % 6 ^ w) = digs w k
  | 0, _ => rfl
  | w + 1, k => by
    have e1 : k % 6 ^ (w + 1) % 6 ^ w = k % 6 ^ w := Nat.mod_mod_of_dvd _ (Nat.pow_dvd_pow 6 (by omega))
    have e2 : k % 6 ^ (w + 1) / 6 ^ w % 6 = k / 6 ^ w % 6 := by
      rw [Nat.pow_succ, Nat.mod_mul_right_div_self, Nat.mod_mod]
    rw [digs, digs, e2, ← digs_mod w (k % 6 ^ (w + 1)), e1, digs_mod w k]
theorem digs_inj : ∀ (w k j : Nat), digs w k = digs w j → k % 6 ^ w = j % 6 ^ w
  | 0, k, j, _ => by simp [Nat.mod_one]
  | w + 1, k, j, h => by
    rw [digs, digs] at h
    obtain ⟨h1, h2⟩ := List.append_inj h (by rw [digs_len, digs_len])
    have h3 := digs_inj w k j h1
    have h4 : k / 6 ^ w % 6 = j / 6 ^ w % 6 := by
      have := (List.cons.inj h2).1
      omega
    rw [Nat.mod_pow_succ, Nat.mod_pow_succ, h3, h4]
theorem digs_all : ∀ (w : Nat) (t : List Int), t.length = w → (∀ a ∈ t, 0 ≤ a ∧ a < 6) → ∃ k, k < 6 ^ w ∧ digs w k = t
  | 0, t, h, _ => ⟨0, by simp, by rw [List.eq_nil_of_length_eq_zero h]; rfl⟩
  | w + 1, t, h, ha => by
    obtain ⟨q, x, rfl, hq⟩ := snoc_of h
    obtain ⟨k, hk, e⟩ := digs_all w q hq fun a h1 => ha a (List.mem_append_left _ h1)
    have hx := ha x (by simp)
    have hp : 0 < 6 ^ w := Nat.pow_pos (by omega)
    have e1 : (k + 6 ^ w * x.toNat) % 6 ^ w = k := by rw [Nat.add_mul_mod_self_left, Nat.mod_eq_of_lt hk]
    have e2 : (k + 6 ^ w * x.toNat) / 6 ^ w = x.toNat := by rw [Nat.add_mul_div_left _ _ hp, Nat.div_eq_of_lt hk, Nat.zero_add]
    refine ⟨k + 6 ^ w * x.toNat, ?_, ?_⟩
    · rw [Nat.pow_succ]
      have : 6 ^ w * x.toNat ≤ 6 ^ w * 5 := Nat.mul_le_mul_left _ (by omega)
      omega
    · rw [digs, ← digs_mod w (k + 6 ^ w * x.toNat), e1, e, e2, Nat.mod_eq_of_lt (by omega)]
      congr 2
      omega
def six : List Int := [0, 1, 2, 3, 4, 5]
theorem mem_six {a : Int} : a ∈ six ↔ 0 ≤ a ∧ a < 6 := by
  unfold six
  simp only [List.mem_cons, List.not_mem_nil, or_false]
  omega
theorem six_nodup : six.Nodup := by decide
theorem tups_nodup {U : List Int} (hU : U.Nodup) : ∀ w, (tupsU U w).Nodup
  | 0 => by simp [tupsU]
  | w + 1 => by
    rw [tupsU_succ]
    refine List.pairwise_flatMap.2 ?_
    refine ⟨fun t _ => List.Pairwise.map _ (fun a b (h : a ≠ b) e => h (by have := List.append_cancel_left e; exact (List.cons.inj this).1)) hU, (tups_nodup hU w).imp fun {s t} hst => ?_⟩
    intro x h1 y h2 e0
    obtain ⟨a, _, rfl⟩ := List.mem_map.1 h1
    obtain ⟨b, _, e⟩ := List.mem_map.1 h2
    rw [← e] at e0
    exact hst (List.append_inj_left' e0 rfl)
/-- Counted one by one. -/
theorem count_digs (w : Nat) (f : List Int → Bool) : ((List.range (6 ^ w)).countP fun k => f (digs w k)) = (tupsU six w).countP f := by
  have hp : ((List.range (6 ^ w)).map (digs w)).Perm (tupsU six w) := by
    refine ext_perm ?_ (tups_nodup six_nodup w) fun t => ?_
    · refine List.pairwise_map.2 (List.pairwise_lt_range.imp_of_mem fun {a b} ha hb h e => ?_)
      have := digs_inj w a b e
      rw [Nat.mod_eq_of_lt (List.mem_range.1 ha), Nat.mod_eq_of_lt (List.mem_range.1 hb)] at this
      omega
    · rw [List.mem_map, mem_tupsU]
      constructor
      · rintro ⟨k, hk, rfl⟩
        exact ⟨digs_len w k, fun a h => mem_six.2 (digs_in w k a h)⟩
      · rintro ⟨h1, h2⟩
        obtain ⟨k, hk, e⟩ := digs_all w t h1 fun a h => mem_six.1 (h2 a h)
        exact ⟨k, List.mem_range.2 hk, e⟩
  rw [← hp.countP_eq, List.countP_map]
  rfl
theorem tups_len (w : Nat) : (tupsU six w).length = 6 ^ w := by
  have := count_digs w fun _ => true
  simp at this
  exact this.symm
/-- What FnCounted says. -/
theorem counted {n : Nat} {l : List Int} {M : List (List Int)} (hn : n ≤ 4) (hl : ∀ c ∈ l, 0 ≤ c ∧ c < 6) (h : Valid n l M) :
    cntC 6 l.length M = (((List.range (6 ^ n)).countP fun k => hasTB n l M (digs n k) : Nat) : Int) ∧ cntC 6 l.length (cplL n l M) = ((6 ^ n : Nat) : Int) - (((List.range (6 ^ n)).countP fun k => hasTB n l M (digs n k) : Nat) : Int) := by
  have hin : ∀ c ∈ l, c ∈ six := fun c hc => mem_six.2 (hl c hc)
  have hat : ∀ a ∈ six, 0 ≤ a ∧ a ≤ 999 := fun a ha => by have := mem_six.1 ha; omega
  have h1 := count_has hn six_nodup hin hat h
  have h2 := count_has hn six_nodup hin hat (valid_cpl (n := n) h.1 M)
  have h3 : ((tupsU six n).countP fun t => hasTB n l (cplL n l M) t) = (tupsU six n).countP fun t => !hasTB n l M t := by
    refine List.countP_congr fun t ht => ?_
    obtain ⟨q1, q2⟩ := mem_tupsU.1 ht
    rw [has_cpl hn h q1 (tup_of (by omega) fun a ha => hat a (q2 a ha))]
  have h4 : (tupsU six n).countP (fun t => hasTB n l M t) + (tupsU six n).countP (fun t => !hasTB n l M t) = (tupsU six n).length := by
    have := split_len (fun t => hasTB n l M t) (tupsU six n)
    rw [List.countP_eq_length_filter, List.countP_eq_length_filter]
    exact this
  rw [tups_len] at h4
  have e6 : ((six.length : Nat) : Int) = 6 := rfl
  rw [e6] at h1 h2
  rw [h1, h2, h3, count_digs n fun t => hasTB n l M t]
  exact ⟨rfl, by omega⟩
end SetN
end Go.Proofs.Ytnamlgacjhnpnaa
end

