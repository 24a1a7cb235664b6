/-
  Words counted by a machine: the sum over plain words, and the sum over the letters that lead on differently, are the same; plain words, no program is walked here. Words counted by a machine are the words told one by one; plain words, no program is walked here. What a machine does with a word, in the model: words and empty registers, as contracts. A letter read by a machine, in the model, as a contract. RunMachine and AcceptsWord in the model, as contracts. The letters that lead on differently, in the model, as a contract. Words counted in the model, as a contract. Words counted in the model: the walk, as a contract. CountWords in the model, as a contract.
-/
import Derived.Test.YtcginiklekdbgaaKCountWords11
import Derived.Test.YtcginiklekdbgaaKCountWords14
import Derived.Test.YtcginiklekdbgaaKCountWords2
import Derived.Test.YtcginiklekdbgaaKCountWords13
import Derived.Test.YtcginiklekdbgaaKCountWords6
import Derived.Deep.DeepCutAuto
import Derived.Deep.RegionHeld3
section
namespace Go.Proofs.Ytcginiklekdbgaa
open Go.RowKit
set_option linter.unusedVariables false

/-- A sum. -/
def sumI : List Int → Int
  | [] => 0
  | x :: r => x + sumI r
theorem sumI_append : ∀ a b : List Int, sumI (a ++ b) = sumI a + sumI b
  | [], b => by simp [sumI]
  | x :: r, b => by rw [List.cons_append, sumI, sumI, sumI_append r b]; omega
theorem sumI_flat {α β : Type} (f : β → Int) (g : α → List β) : ∀ l : List α, sumI ((l.flatMap g).map f) = sumI (l.map fun x => sumI ((g x).map f))
  | [] => rfl
  | x :: r => by rw [List.flatMap_cons, List.map_append, sumI_append, sumI_flat f g r, List.map_cons, sumI]
theorem sumI_congr {α : Type} {f g : α → Int} : ∀ {l : List α}, (∀ x ∈ l, f x = g x) → sumI (l.map f) = sumI (l.map g)
  | [], _ => rfl
  | x :: r, h => by
    rw [List.map_cons, List.map_cons, sumI, sumI, h x List.mem_cons_self, sumI_congr fun y hy => h y (List.mem_cons_of_mem _ hy)]
/-- Two lists without doubles that have the same members have the same sum. -/
theorem sumI_same {f : Int → Int} : ∀ {l m : List Int}, l.Nodup → m.Nodup → (∀ a, a ∈ l ↔ a ∈ m) → sumI (l.map f) = sumI (m.map f)
  | [], m, _, _, h => by
    have e : m = [] := by
      cases m with
      | nil => rfl
      | cons x r => exact absurd ((h x).2 List.mem_cons_self) (by simp)
    rw [e]
  | a :: r, m, hl, hm, h => by
    rw [List.nodup_cons] at hl
    obtain ⟨s, t, rfl⟩ := List.append_of_mem ((h a).1 List.mem_cons_self)
    rw [List.nodup_append, List.nodup_cons] at hm
    obtain ⟨hs, ⟨hat, ht⟩, hst⟩ := hm
    have ha : a ∉ s := fun e => hst a e a List.mem_cons_self rfl
    have ih := sumI_same (f := f) (l := r) (m := s ++ t) hl.2 (by
      rw [List.nodup_append]
      exact ⟨hs, ht, fun x hx y hy => hst x hx y (List.mem_cons_of_mem _ hy)⟩) (fun b => by
      have hb := h b
      simp only [List.mem_cons, List.mem_append] at hb ⊢
      constructor
      · intro hbr
        have hne : b ≠ a := fun e => hl.1 (e ▸ hbr)
        rcases hb.1 (.inr hbr) with h1 | h1 | h1
        · exact .inl h1
        · exact absurd h1 hne
        · exact .inr h1
      · intro hbs
        have hne : b ≠ a := fun e => by
          rcases hbs with h1 | h1
          · exact ha (e ▸ h1)
          · exact hat (e ▸ h1)
        rcases hb.2 (by rcases hbs with h1 | h1; exact .inl h1; exact .inr (.inr h1)) with h1 | h1
        · exact absurd h1 hne
        · exact h1)
    rw [List.map_cons, sumI, ih, List.map_append, List.map_append, sumI_append, sumI_append, List.map_cons, sumI]
    omega

/-- Two letters exchanged. -/
def exL (a b x : Int) : Int := if x = a then b else if x = b then a else x
theorem exL_inv (a b x : Int) : exL a b (exL a b x) = x := by
  unfold exL
  by_cases h1 : x = a <;> by_cases h2 : x = b <;> simp_all
theorem exL_inj {a b x y : Int} (h : exL a b x = exL a b y) : x = y := by rw [← exL_inv a b x, h, exL_inv]
theorem exL_left (a b : Int) : exL a b a = b := by simp [exL]
theorem exL_same {a b x : Int} (h1 : x ≠ a) (h2 : x ≠ b) : exL a b x = x := by simp [exL, h1, h2]
theorem exL_pos {a b x : Int} (ha : 0 ≤ a) (hb : 0 ≤ b) : 0 ≤ exL a b x ↔ 0 ≤ x := by
  unfold exL
  by_cases h1 : x = a
  · rw [if_pos h1]; omega
  · rw [if_neg h1]
    by_cases h2 : x = b
    · rw [if_pos h2]; omega
    · rw [if_neg h2]
theorem setN_ex (a b : Int) : ∀ (rs : List Int) (c : Int), setN (rs.map (exL a b)) (exL a b c) = setN rs c
  | [], c => rfl
  | r :: rs, c => by
    rw [List.map_cons, setN, setN, setN_ex a b rs c]
    by_cases h : r = c
    · rw [if_pos h, if_pos (by rw [h])]
    · rw [if_neg h, if_neg (fun e => h (exL_inj e))]
theorem stepM_ex (t : Mach) (a b q c : Int) (rs : List Int) : stepM t (q, rs.map (exL a b)) (exL a b c) = ((stepM t (q, rs) c).1, (stepM t (q, rs) c).2.map (exL a b)) := by
  have hm : mvOf t q (rs.map (exL a b)) (exL a b c) = mvOf t q rs c := by unfold mvOf mvIx; rw [setN_ex]
  unfold stepM
  simp only [hm]
  unfold stored
  by_cases h : 0 ≤ (mvOf t q rs c).2
  · rw [if_pos h, if_pos h, List.map_set]
  · rw [if_neg h, if_neg h]
/-- The letters that the registers hold, ascending. -/
def heldL (rs : List Int) : List Int := insAll [] (rs.filter fun a => decide (0 ≤ a))
theorem mem_heldL {rs : List Int} {a : Int} : a ∈ heldL rs ↔ a ∈ rs ∧ 0 ≤ a := by
  unfold heldL
  rw [mem_insAll, List.mem_filter]
  simp
theorem heldL_nodup (rs : List Int) : (heldL rs).Nodup := (asc_insAll [] _ List.Pairwise.nil).imp fun h => Int.ne_of_lt h
theorem leastF_not {l : List Int} (h : leastF l ≠ -1) : leastF l ∉ l := by
  unfold leastF at h ⊢
  cases hf : (List.range 1000).find? (fun a : Nat => !hasB l (a : Int)) with
  | none => rw [hf] at h; exact absurd rfl h
  | some a =>
    have := List.find?_some hf
    simp only [Bool.not_eq_true'] at this
    intro hm
    unfold hasB at this
    rw [List.contains_iff_mem.2 hm] at this
    cases this
theorem leastF_pos {l : List Int} (h : leastF l ≠ -1) : 0 ≤ leastF l := by
  unfold leastF at h ⊢
  cases hf : (List.range 1000).find? (fun a : Nat => !hasB l (a : Int)) with
  | none => rw [hf] at h; exact absurd rfl h
  | some a => exact Int.natCast_nonneg a
theorem pigeon : ∀ (k : Nat) (l : List Int), (∀ b : Nat, b < k → (b : Int) ∈ l) → k ≤ l.length
  | 0, l, _ => Nat.zero_le _
  | k + 1, l, h => by
    obtain ⟨s, t, rfl⟩ := List.append_of_mem (h k (by omega))
    have ih := pigeon k (s ++ t) fun b hb => by
      have h1 := h b (by omega)
      rw [List.mem_append, List.mem_cons] at h1
      rw [List.mem_append]
      rcases h1 with h1 | h1 | h1
      · exact .inl h1
      · omega
      · exact .inr h1
    rw [List.length_append, List.length_cons]
    rw [List.length_append] at ih
    omega
theorem leastF_ne {l : List Int} (h : l.length < 1000) : leastF l ≠ -1 := by
  rcases leastF_cases l with ⟨_, hb⟩ | ⟨a, _, e, _⟩
  · have := pigeon 1000 l fun b hb' => by
      have h1 := hb b hb'
      unfold hasB at h1
      exact List.contains_iff_mem.1 h1
    omega
  · rw [e]; omega
theorem len_insL : ∀ (l : List Int) (n : Int), (insL l n).length ≤ l.length + 1
  | [], n => Nat.le_refl _
  | x :: r, n => by
    unfold insL
    split
    · exact Nat.le_refl _
    · split
      · exact Nat.le_succ _
      · have := len_insL r n
        rw [List.length_cons, List.length_cons]; omega
theorem len_insAll : ∀ (xs acc : List Int), (insAll acc xs).length ≤ acc.length + xs.length
  | [], acc => Nat.le_refl _
  | x :: r, acc => by
    have h1 := len_insAll r (insL acc x)
    have h2 := len_insL acc x
    have e : insAll acc (x :: r) = insAll (insL acc x) r := rfl
    rw [e, List.length_cons]
    omega
theorem heldL_len (rs : List Int) : (heldL rs).length ≤ rs.length := by
  have h := len_insAll (rs.filter fun a => decide (0 ≤ a)) []
  have h2 := List.length_filter_le (fun a => decide (0 ≤ a)) rs
  unfold heldL
  rw [List.length_nil] at h
  omega
/-- How many words of a length a machine accepts from a place, with letters of n atoms, as the model counts. -/
def cntM (t : Mach) (n : Int) : Nat → Int → List Int → Int
  | 0, q, _ => if btAt t.ac q.toNat then 1 else 0
  | L + 1, q, rs => sumI ((heldL rs).map fun a => cntM t n L (stepM t (q, rs) a).1 (stepM t (q, rs) a).2) +
      (if 0 < n - (heldL rs).length then (n - (heldL rs).length) * cntM t n L (stepM t (q, rs) (leastF (heldL rs))).1 (stepM t (q, rs) (leastF (heldL rs))).2 else 0)
theorem stepM_len (t : Mach) (q c : Int) (rs : List Int) : (stepM t (q, rs) c).2.length = rs.length := stored_len _ _ _
/-- Two letters that no register holds exchanged: nothing changes. -/
theorem map_ex_same {a b : Int} {rs : List Int} (ha : a ∉ rs) (hb : b ∉ rs) : rs.map (exL a b) = rs := by
  induction rs with
  | nil => rfl
  | cons r rs ih =>
    rw [List.map_cons, exL_same (fun e : r = a => ha (by rw [← e]; exact List.mem_cons_self)) (fun e : r = b => hb (by rw [← e]; exact List.mem_cons_self)), ih (fun h => ha (List.mem_cons_of_mem _ h)) (fun h => hb (List.mem_cons_of_mem _ h))]
/-- Exchanging letters does not change the count. -/
theorem cntM_ex (t : Mach) (n : Int) : ∀ (L : Nat) (q : Int) (rs : List Int) (a b : Int), 0 ≤ a → 0 ≤ b → rs.length < 1000 → cntM t n L q (rs.map (exL a b)) = cntM t n L q rs
  | 0, q, rs, a, b, _, _, _ => rfl
  | L + 1, q, rs, a, b, ha, hb, hl => by
    have hstep : ∀ c, cntM t n L (stepM t (q, rs.map (exL a b)) (exL a b c)).1 (stepM t (q, rs.map (exL a b)) (exL a b c)).2 = cntM t n L (stepM t (q, rs) c).1 (stepM t (q, rs) c).2 := fun c => by
      rw [stepM_ex]
      exact cntM_ex t n L _ _ a b ha hb (by rw [stepM_len]; exact hl)
    have hmem : ∀ x, x ∈ heldL (rs.map (exL a b)) ↔ x ∈ (heldL rs).map (exL a b) := fun x => by
      rw [mem_heldL, List.mem_map, List.mem_map]
      constructor
      · rintro ⟨⟨y, hy, rfl⟩, h0⟩
        exact ⟨y, mem_heldL.2 ⟨hy, (exL_pos ha hb).1 h0⟩, rfl⟩
      · rintro ⟨y, hy, rfl⟩
        have h1 := mem_heldL.1 hy
        exact ⟨⟨y, h1.1, rfl⟩, (exL_pos ha hb).2 h1.2⟩
    have hnd : ((heldL rs).map (exL a b)).Nodup := List.Pairwise.map _ (fun _ _ h e => h (exL_inj e)) (heldL_nodup rs)
    have hlen : (heldL (rs.map (exL a b))).length = (heldL rs).length := by
      have h1 := sumI_same (f := fun _ => 1) (heldL_nodup (rs.map (exL a b))) hnd hmem
      have h2 : ∀ l : List Int, sumI (l.map fun _ => 1) = l.length := fun l => by
        induction l with
        | nil => rfl
        | cons x r ih => rw [List.map_cons, sumI, ih, List.length_cons]; omega
      rw [h2, h2, List.length_map] at h1
      omega
    have hsum : sumI ((heldL (rs.map (exL a b))).map fun c => cntM t n L (stepM t (q, rs.map (exL a b)) c).1 (stepM t (q, rs.map (exL a b)) c).2) = sumI ((heldL rs).map fun c => cntM t n L (stepM t (q, rs) c).1 (stepM t (q, rs) c).2) := by
      rw [sumI_same (heldL_nodup _) hnd hmem, List.map_map]
      exact sumI_congr fun c _ => hstep c
    have hne1 : leastF (heldL rs) ≠ -1 := leastF_ne (by have := heldL_len rs; omega)
    have hne2 : leastF (heldL (rs.map (exL a b))) ≠ -1 := leastF_ne (by have := heldL_len (rs.map (exL a b)); rw [List.length_map] at this; omega)
    have hfresh : cntM t n L (stepM t (q, rs.map (exL a b)) (leastF (heldL (rs.map (exL a b))))).1 (stepM t (q, rs.map (exL a b)) (leastF (heldL (rs.map (exL a b))))).2 = cntM t n L (stepM t (q, rs) (leastF (heldL rs))).1 (stepM t (q, rs) (leastF (heldL rs))).2 := by
      have hf1 : exL a b (leastF (heldL rs)) ∉ rs.map (exL a b) := fun h => by
        obtain ⟨y, hy, e⟩ := List.mem_map.1 h
        have e2 := exL_inj e
        exact leastF_not hne1 (mem_heldL.2 ⟨e2 ▸ hy, leastF_pos hne1⟩)
      have hf2 : leastF (heldL (rs.map (exL a b))) ∉ rs.map (exL a b) := fun h => leastF_not hne2 (mem_heldL.2 ⟨h, leastF_pos hne2⟩)
      rw [← hstep (leastF (heldL rs))]
      generalize hg : exL a b (leastF (heldL rs)) = g at hf1
      have hg0 : 0 ≤ g := by rw [← hg]; exact (exL_pos ha hb).2 (leastF_pos hne1)
      have hf0 := leastF_pos hne2
      generalize leastF (heldL (rs.map (exL a b))) = f at hf2 hf0
      have h1 := stepM_ex t g f q g (rs.map (exL a b))
      rw [map_ex_same hf1 hf2, exL_left] at h1
      rw [h1]
      exact cntM_ex t n L _ _ g f hg0 hf0 (by rw [stepM_len, List.length_map]; exact hl)
    rw [cntM, cntM, hsum, hlen, hfresh]
/-- All letters that no register holds lead on to the same count. -/
theorem cntM_free (t : Mach) (n : Int) (L : Nat) (q : Int) (rs : List Int) {a b : Int} (ha : a ∉ rs) (hb : b ∉ rs) (ha0 : 0 ≤ a) (hb0 : 0 ≤ b) (hl : rs.length < 1000) :
    cntM t n L (stepM t (q, rs) a).1 (stepM t (q, rs) a).2 = cntM t n L (stepM t (q, rs) b).1 (stepM t (q, rs) b).2 := by
  have h1 := stepM_ex t a b q a rs
  rw [map_ex_same ha hb, exL_left] at h1
  rw [h1]
  exact (cntM_ex t n L _ _ a b ha0 hb0 (by rw [stepM_len]; exact hl)).symm

/-- The words that go on from a plain one by one letter, and stay plain. -/
def ext1 (p : List Int) : List (List Int) := extP 0 p
theorem ext1_eq {p : List Int} : ext1 p = (List.range ((newN 0 p).toNat + 1)).map fun c : Nat => p ++ [(c : Int)] := by
  have h := newN_ge 0 p
  unfold ext1 extP
  rw [show (newN 0 p + 1).toNat = (newN 0 p).toNat + 1 by omega]
/-- The plain words of a length. -/
def plainW : Nat → List (List Int)
  | 0 => [[]]
  | L + 1 => (plainW L).flatMap ext1
def extW : Nat → List Int → List (List Int)
  | 0, p => [p]
  | L + 1, p => (ext1 p).flatMap (extW L)
theorem extW_end : ∀ (L : Nat) (p : List Int), extW (L + 1) p = (extW L p).flatMap ext1
  | 0, p => by simp [extW]
  | L + 1, p => by
    have e : (fun p' => extW (L + 1) p') = fun p' => (extW L p').flatMap ext1 := funext fun p' => extW_end L p'
    show (ext1 p).flatMap (fun p' => extW (L + 1) p') = ((ext1 p).flatMap (extW L)).flatMap ext1
    rw [e, List.flatMap_assoc]
theorem plainW_ext : ∀ L : Nat, plainW L = extW L []
  | 0 => rfl
  | L + 1 => by rw [plainW, plainW_ext L, extW_end]
theorem runM_next (t : Mach) (p : List Int) (c : Int) : runM t (p ++ [c]) = stepM t (runM t p) c := by
  unfold runM runFrom
  rw [List.foldl_append]; rfl
theorem runFrom_mem (t : Mach) : ∀ (l : List Int) (s : Int × List Int) (x : Int), x ∈ (runFrom t s l).2 → x ∈ s.2 ∨ x ∈ l
  | [], s, x, h => .inl h
  | a :: l, s, x, h => by
    rcases runFrom_mem t l (stepM t s a) x h with h1 | h1
    · unfold stepM stored at h1
      dsimp only at h1
      split at h1
      · rcases List.mem_or_eq_of_mem_set h1 with h2 | h2
        · exact .inl h2
        · exact .inr (by rw [h2]; exact List.mem_cons_self)
      · exact .inl h1
    · exact .inr (List.mem_cons_of_mem _ h1)
theorem runM_mem {t : Mach} {l : List Int} {x : Int} (h : x ∈ (runM t l).2) : x = -1 ∨ x ∈ l := by
  rcases runFrom_mem t l _ x h with h1 | h1
  · exact .inl (List.eq_of_mem_replicate h1)
  · exact .inr h1
/-- What the numbers below m make, of which some are told by themselves and all others are alike. -/
theorem sumI_range {f : Int → Int} {Y : Int} {m : Nat} {held : List Int} (hn : held.Nodup) (hh : ∀ a ∈ held, 0 ≤ a ∧ a < m) (hy : ∀ c : Int, 0 ≤ c → c ∉ held → f c = Y) :
    held.length ≤ m ∧ sumI ((List.range m).map fun c : Nat => f c) = sumI (held.map f) + ((m : Int) - held.length) * Y := by
  let R := (List.range m).map fun c : Nat => (c : Int)
  have hR : R.Nodup := List.Pairwise.map _ (fun _ _ h e => h (Int.ofNat.inj e)) List.nodup_range
  let rest := R.filter fun c => !held.contains c
  have hrest : rest.Nodup := hR.filter _
  have hmr : ∀ a, a ∈ rest ↔ a ∈ R ∧ a ∉ held := fun a => by
    show a ∈ R.filter _ ↔ _
    rw [List.mem_filter]
    simp
  have hmR : ∀ a, a ∈ R ↔ 0 ≤ a ∧ a < m := fun a => by
    show a ∈ (List.range m).map _ ↔ _
    rw [List.mem_map]
    constructor
    · rintro ⟨c, hc, rfl⟩
      rw [List.mem_range] at hc
      omega
    · rintro ⟨h0, h1⟩
      exact ⟨a.toNat, List.mem_range.2 (by omega), by omega⟩
  have hnd : (held ++ rest).Nodup := by
    rw [List.nodup_append]
    exact ⟨hn, hrest, fun x hx y hy e => ((hmr y).1 hy).2 (e ▸ hx)⟩
  have hm : ∀ a, a ∈ R ↔ a ∈ held ++ rest := fun a => by
    rw [List.mem_append, hmr]
    by_cases h : a ∈ held
    · have := hh a h
      have h2 := (hmR a).2 this
      simp [h, h2]
    · simp [h]
  have hs : ∀ g : Int → Int, sumI (R.map g) = sumI (held.map g) + sumI (rest.map g) := fun g => by
    rw [sumI_same hR hnd hm, List.map_append, sumI_append]
  have hc : ∀ (l : List Int) (z : Int), sumI (l.map fun _ => z) = l.length * z := fun l z => by
    induction l with
    | nil => simp [sumI]
    | cons x r ih => rw [List.map_cons, sumI, ih, List.length_cons, Int.natCast_succ, Int.add_mul]; omega
  have h1 := hs fun _ => 1
  rw [hc, hc, hc] at h1
  have hlR : R.length = m := by show ((List.range m).map _).length = m; rw [List.length_map, List.length_range]
  rw [hlR] at h1
  have h2 := hs f
  have h3 : sumI (rest.map f) = sumI (rest.map fun _ => Y) := sumI_congr fun c hc' => hy c ((hmR c).1 ((hmr c).1 hc').1).1 ((hmr c).1 hc').2
  rw [h3, hc] at h2
  have h4 : sumI (R.map f) = sumI ((List.range m).map fun c : Nat => f c) := by
    show sumI (((List.range m).map fun c : Nat => (c : Int)).map f) = _
    rw [List.map_map]; rfl
  refine ⟨by omega, ?_⟩
  rw [← h4, h2]
  congr 2
  omega
/-- How many words of n letters a plain word stands for, if it is accepted. -/
def valW (t : Mach) (n : Int) (w : List Int) : Int := if lastB t w then waysP n 0 w else 0
/-- How many words are accepted, as the program counts. -/
def cntP (t : Mach) (n : Int) (L : Nat) : Int := sumI ((plainW L).map (valW t n))
theorem sumI_mul {α : Type} (W : Int) (f : α → Int) : ∀ l : List α, sumI (l.map fun x => W * f x) = W * sumI (l.map f)
  | [] => by simp [sumI]
  | x :: r => by rw [List.map_cons, List.map_cons, sumI, sumI, sumI_mul W f r, Int.mul_add]
theorem newN_mem {p : List Int} : ∀ {k x : Int}, x ∈ p → x < newN k p := by
  induction p with
  | nil => intro k x h; simp at h
  | cons a r ih =>
    intro k x h
    have e : newN k (a :: r) = newN (max k (a + 1)) r := rfl
    rw [e]
    rcases List.mem_cons.1 h with h1 | h1
    · have := newN_ge (max k (a + 1)) r
      subst h1
      omega
    · exact ih h1
/-- The sum over the plain words that go on from p is what the model counts from where p leads. -/
theorem ext_count (t : Mach) (g : Good t) (n : Int) (hn : 0 ≤ n) : ∀ (L : Nat) (p : List Int), (∀ x ∈ p, 0 ≤ x) → sumI ((extW L p).map (valW t n)) = waysP n 0 p * cntM t n L (runM t p).1 (runM t p).2
  | 0, p, _ => by
    show sumI [valW t n p] = _
    rw [cntM]
    show valW t n p + 0 = _
    unfold valW lastB
    split
    · omega
    · omega
  | L + 1, p, hp => by
    have hm0 := newN_ge 0 p
    obtain ⟨m, hm⟩ : ∃ m : Nat, newN 0 p = m := ⟨(newN 0 p).toNat, by omega⟩
    have hrl := (runM_ok g p).2.2
    have hr3 := g.r3
    have hlen : (runM t p).2.length < 1000 := by omega
    -- what goes on with one letter
    have hone : ∀ c : Nat, c ≤ m → sumI ((extW L (p ++ [(c : Int)])).map (valW t n)) = waysP n 0 (p ++ [(c : Int)]) * cntM t n L (stepM t (runM t p) c).1 (stepM t (runM t p) c).2 := fun c hc => by
      rw [ext_count t g n hn L (p ++ [(c : Int)]) (fun x hx => by
        rcases List.mem_append.1 hx with h | h
        · exact hp x h
        · rw [List.mem_singleton.1 h]; omega), runM_next]
    have hw1 : ∀ c : Nat, c < m → waysP n 0 (p ++ [(c : Int)]) = waysP n 0 p := fun c hc => by
      unfold waysP
      rw [newN_snoc, hm, show max (m : Int) ((c : Int) + 1) = m by omega]
    have hw2 : waysP n 0 (p ++ [(m : Int)]) = waysP n 0 p * (n - m) := by
      unfold waysP
      rw [newN_snoc, hm, show max (m : Int) ((m : Int) + 1) = m + 1 by omega, show ((m : Int) + 1 - 0).toNat = m + 1 by omega, show ((m : Int) - 0).toNat = m by omega, prodN]
      congr 2
      omega
    have hext : extW (L + 1) p = (List.range (m + 1)).flatMap fun c : Nat => extW L (p ++ [(c : Int)]) := by
      rw [extW, ext1_eq, hm, Int.toNat_natCast, List.flatMap_map]
    rw [hext, sumI_flat, sumI_congr (g := fun c : Nat => waysP n 0 (p ++ [(c : Int)]) * cntM t n L (stepM t (runM t p) c).1 (stepM t (runM t p) c).2) (fun c hc => hone c (by rw [List.mem_range] at hc; omega)),
      List.range_succ, List.map_append, sumI_append, sumI_congr (g := fun c : Nat => waysP n 0 p * cntM t n L (stepM t (runM t p) c).1 (stepM t (runM t p) c).2) (fun c hc => by rw [hw1 c (List.mem_range.1 hc)]), sumI_mul]
    have hlast : sumI ([m].map fun c : Nat => waysP n 0 (p ++ [(c : Int)]) * cntM t n L (stepM t (runM t p) c).1 (stepM t (runM t p) c).2) = waysP n 0 p * ((n - m) * cntM t n L (stepM t (runM t p) m).1 (stepM t (runM t p) m).2) := by
      show _ * _ + 0 = _
      rw [hw2, Int.mul_assoc]; omega
    rw [hlast, ← Int.mul_add]
    by_cases hmn : (m : Int) ≤ n
    · congr 1
      have hne := leastF_ne (l := heldL (runM t p).2) (by have := heldL_len (runM t p).2; omega)
      have hf0 := leastF_pos hne
      have hfn : leastF (heldL (runM t p).2) ∉ (runM t p).2 := fun h => leastF_not hne (mem_heldL.2 ⟨h, hf0⟩)
      have hheld : ∀ a ∈ heldL (runM t p).2, 0 ≤ a ∧ a < m := fun a ha => by
        obtain ⟨h1, h2⟩ := mem_heldL.1 ha
        rcases runM_mem h1 with h3 | h3
        · omega
        · have := newN_mem (k := 0) h3; omega
      have hfree : ∀ c : Int, 0 ≤ c → c ∉ heldL (runM t p).2 → cntM t n L (stepM t (runM t p) c).1 (stepM t (runM t p) c).2 = cntM t n L (stepM t (runM t p) (leastF (heldL (runM t p).2))).1 (stepM t (runM t p) (leastF (heldL (runM t p).2))).2 := fun c h0 hc =>
        cntM_free t n L (runM t p).1 (runM t p).2 (fun h => hc (mem_heldL.2 ⟨h, h0⟩)) hfn h0 hf0 hlen
      obtain ⟨hlm, hsum⟩ := sumI_range (m := m) (f := fun c => cntM t n L (stepM t (runM t p) c).1 (stepM t (runM t p) c).2) (heldL_nodup _) hheld hfree
      have hmn' : (m : Int) ∉ heldL (runM t p).2 := fun h => by have := (hheld _ h).2; omega
      rw [hsum, hfree m (by omega) hmn', cntM]
      generalize cntM t n L (stepM t (runM t p) (leastF (heldL (runM t p).2))).1 (stepM t (runM t p) (leastF (heldL (runM t p).2))).2 = Y
      by_cases h0 : 0 < n - ((heldL (runM t p).2).length : Int)
      · rw [if_pos h0, Int.add_assoc, ← Int.add_mul]
        congr 2
        omega
      · rw [if_neg h0, show (m : Int) - (heldL (runM t p).2).length = 0 by omega, show n - (m : Int) = 0 by omega]
        simp
    · have hz : waysP n 0 p = 0 := by
        unfold waysP
        exact prodN_zero (by rw [hm]; omega) hn
      rw [hz, Int.zero_mul, Int.zero_mul]
/-- Both count the same. -/
theorem count_eq (t : Mach) (g : Good t) (n : Int) (hn : 0 ≤ n) (L : Nat) : cntP t n L = cntM t n L 0 (List.replicate t.rg.toNat (-1)) := by
  unfold cntP
  rw [plainW_ext, ext_count t g n hn L [] (fun x h => by simp at h)]
  show 1 * _ = _
  rw [Int.one_mul]; rfl
end Go.Proofs.Ytcginiklekdbgaa
end

section
namespace Go.Proofs.Ytcginiklekdbgaa
open Go.RowKit
set_option linter.unusedVariables false

namespace CwT
/-- Registers that are empty or hold a letter below n. -/
def Low (n : Nat) (rs : List Int) : Prop := ∀ x ∈ rs, x = -1 ∨ (0 ≤ x ∧ x < n)
theorem low_step {t : Mach} {n : Nat} {q : Int} {rs : List Int} (h : Low n rs) {c : Nat} (hc : c < n) : Low n (stepM t (q, rs) c).2 := by
  intro x hx
  rcases runFrom_mem t [(c : Int)] (q, rs) x hx with h1 | h1
  · exact h x h1
  · rw [List.mem_singleton.1 h1]
    exact .inr (by omega)
theorem letters (t : Mach) (n : Nat) (L : Nat) (q : Int) (rs : List Int) (hl : rs.length < 1000) (h : Low n rs) :
    cntM t n (L + 1) q rs = sumI ((List.range n).map fun c : Nat => cntM t n L (stepM t (q, rs) c).1 (stepM t (q, rs) c).2) := by
  have hlen := heldL_len rs
  have hle : leastF (heldL rs) ≠ -1 := leastF_ne (by omega)
  have hln := leastF_not hle
  have hlp := leastF_pos hle
  have hno : ∀ c : Int, 0 ≤ c → c ∉ heldL rs → c ∉ rs := fun c h0 hc hm => hc (mem_heldL.2 ⟨hm, h0⟩)
  obtain ⟨h1, h2⟩ := sumI_range (f := fun c => cntM t n L (stepM t (q, rs) c).1 (stepM t (q, rs) c).2) (Y := cntM t n L (stepM t (q, rs) (leastF (heldL rs))).1 (stepM t (q, rs) (leastF (heldL rs))).2) (m := n) (held := heldL rs) (heldL_nodup rs)
    (fun a ha => by
      obtain ⟨h3, h4⟩ := mem_heldL.1 ha
      rcases h a h3 with h5 | h5
      · omega
      · exact h5)
    (fun c h0 hc => cntM_free t n L q rs (hno c h0 hc) (hno _ hlp hln) h0 hlp hl)
  rw [h2, cntM]
  by_cases h0 : 0 < (n : Int) - (heldL rs).length
  · rw [if_pos h0]
  · rw [if_neg h0]
    have e : (n : Int) - (heldL rs).length = 0 := by omega
    rw [e, Int.zero_mul]
/-- Whether a word of three letters is accepted, as a number. -/
def g3 (t : Mach) (a b c : Nat) : Int := if lastB t [(a : Int), (b : Int), (c : Int)] then 1 else 0
theorem cnt3 (t : Mach) (n : Nat) (hr : t.rg ≤ 3) : cntM t n 3 0 (List.replicate t.rg.toNat (-1)) = sumI ((List.range n).map fun a => sumI ((List.range n).map fun b => sumI ((List.range n).map fun c => g3 t a b c))) := by
  have h0 : Low n (List.replicate t.rg.toNat (-1)) := fun x hx => .inl (List.mem_replicate.1 hx).2
  have l0 : (List.replicate t.rg.toNat (-1 : Int)).length < 1000 := by rw [List.length_replicate]; omega
  rw [letters t n 2 0 _ l0 h0]
  refine sumI_congr fun a ha => ?_
  have ha := List.mem_range.1 ha
  have h1 := low_step (t := t) (q := 0) h0 ha
  rw [letters t n 1 _ _ (by rw [stepM_len]; exact l0) h1]
  refine sumI_congr fun b hb => ?_
  have hb := List.mem_range.1 hb
  have h2 := low_step (t := t) (q := (stepM t (0, List.replicate t.rg.toNat (-1)) a).1) h1 hb
  rw [letters t n 0 _ _ (by rw [stepM_len, stepM_len]; exact l0) h2]
  rfl
/-- The k-th of 64 words of three letters. -/
def wordK (k : Nat) : List Int := [((k % 4 : Nat) : Int), ((k / 4 % 4 : Nat) : Int), ((k / 16 : Nat) : Int)]
def inN (n : Nat) (k : Nat) : Bool := decide (k % 4 < n) && (decide (k / 4 % 4 < n) && decide (k / 16 < n))
def f64 (t : Mach) (n k : Nat) : Int := if inN n k && lastB t (wordK k) then 1 else 0
def upTo (t : Mach) (n k : Nat) : Int := sumI ((List.range k).map (f64 t n))
theorem upTo_next (t : Mach) (n k : Nat) : upTo t n (k + 1) = upTo t n k + f64 t n k := by
  unfold upTo
  rw [List.range_succ, List.map_append, sumI_append]
  simp [sumI]
theorem upTo_bound (t : Mach) (n : Nat) : ∀ k, 0 ≤ upTo t n k ∧ upTo t n k ≤ k
  | 0 => by simp [upTo, sumI]
  | k + 1 => by
    have h := upTo_bound t n k
    rw [upTo_next]
    have h2 : 0 ≤ f64 t n k ∧ f64 t n k ≤ 1 := by
      unfold f64
      split <;> omega
    omega
theorem f64_eq (t : Mach) (n k : Nat) : f64 t n k = if inN n k then g3 t (k % 4) (k / 4 % 4) (k / 16) else 0 := by
  unfold f64 g3 wordK
  cases inN n k <;> simp
set_option maxRecDepth 10000 in
theorem all64 (g : Nat → Nat → Nat → Int) (n : Nat) (hn : n < 4) : sumI ((List.range 64).map fun k => if inN n k then g (k % 4) (k / 4 % 4) (k / 16) else 0) = sumI ((List.range n).map fun a => sumI ((List.range n).map fun b => sumI ((List.range n).map fun c => g a b c))) := by
  obtain rfl | rfl | rfl | rfl : n = 0 ∨ n = 1 ∨ n = 2 ∨ n = 3 := by omega
  all_goals
    simp [List.range, List.range.loop, sumI, inN]
  all_goals omega
theorem all_words (t : Mach) (n : Nat) (hn : n < 4) (hr : t.rg ≤ 3) : upTo t n 64 = cntM t n 3 0 (List.replicate t.rg.toNat (-1)) := by
  rw [cnt3 t n hr, ← all64 (g3 t) n hn]
  unfold upTo
  exact sumI_congr fun k _ => f64_eq t n k
theorem word_ok {k : Nat} (hk : k < 64) : wordB (wordK k) = true := by
  unfold wordB atomsB wordK atomB
  simp
  omega
theorem wordK_eq (k : Nat) : wordK k = [(k : Int) % 4, (k : Int) / 4 % 4, (k : Int) / 16] := by
  unfold wordK
  simp
theorem take_len {n : Nat} (hn : n < 4) : (([0, 1, 2, 3] : List Int).take n).length = n := by
  simp
  omega
theorem take_ints {W : World} {A : Option Addr} {l : List Int} {n : Nat} (h : IntsAt W A l) : IntsAt W A (l.take n) := by
  intro h0
  have hl : (l.take n).length ≤ l.length := by simp; omega
  obtain ⟨b, off, e, hb, hc⟩ := h (by omega)
  refine ⟨b, off, e, hb, fun i hi => ?_⟩
  have e2 : itAt (l.take n) i = itAt l i := by
    rw [itAt_get _ _ hi, itAt_get l i (by omega)]
    simp
  rw [e2]
  exact hc i (by omega)
theorem has_low {n : Nat} (hn : n < 4) {x : Nat} (hx : x < 4) : hasB (([0, 1, 2, 3] : List Int).take n) (x : Int) = decide (x < n) := by
  obtain rfl | rfl | rfl | rfl : n = 0 ∨ n = 1 ∨ n = 2 ∨ n = 3 := by omega
  all_goals
    obtain rfl | rfl | rfl | rfl : x = 0 ∨ x = 1 ∨ x = 2 ∨ x = 3 := by omega
  all_goals rfl
end CwT
end Go.Proofs.Ytcginiklekdbgaa
end

section
namespace Go.Proofs.Ytcginiklekdbgaa
open Go.RowKit Go.Sort
set_option linter.unusedVariables false

theorem rep_next (k : Nat) : icells (List.replicate k (-1)) ++ icells [-1] = icells (List.replicate (k + 1) (-1)) := by
  rw [← icells_append, ← List.replicate_succ']
set_option maxRecDepth 100000 in
set_option maxHeartbeats 4000000 in
theorem l7Start_any (t : Mach) (g : Good t) (x : Value) (w : World) (hx : MachIx w x t) :
    Calls Try.prog 35 #[x] w (NewInts (List.replicate t.rg.toNat (-1)) w) := by
  have hX := Lib.hid hx
  obtain ⟨A, c, B, d, rfl, hbools, hrest⟩ := hx
  obtain ⟨W, hW⟩ : ∃ W, W = w.alloc (.cells #[.int .i64 t.st, .int .i64 t.rg, .slice A t.ac.length c, .slice B t.mv.length d] 27) := ⟨_, rfl⟩
  have hbW : Below w.heap.size w W := by rw [hW]; exact (Below.refl _ _).alloc (Nat.le_refl _) _
  have hkW : W.heap[w.heap.size]? = some (.cells #[.int .i64 t.st, .int .i64 t.rg, .slice A t.ac.length c, .slice B t.mv.length d] 27) := by rw [hW]; exact heap_alloc_new w _
  obtain ⟨d0, d1, d2, d3⟩ := MachK.row4 hkW
  have hlt0 : w.heap.size < W.heap.size := MachK.box_lt hkW
  have HCC : Hid (∀ w' : World, Below W.heap.size W w' → w'.cell? ⟨w.heap.size, 0, none⟩ = some (.int .i64 t.st) ∧ w'.cell? ⟨w.heap.size, 1, none⟩ = some (.int .i64 t.rg) ∧ w'.cell? ⟨w.heap.size, 2, none⟩ = some (.slice A t.ac.length c) ∧ w'.cell? ⟨w.heap.size, 3, none⟩ = some (.slice B t.mv.length d)) :=
    Lib.hid fun w' h => ⟨(h.cell (p := ⟨w.heap.size, 0, none⟩) hlt0).trans d0, (h.cell (p := ⟨w.heap.size, 1, none⟩) hlt0).trans d1, (h.cell (p := ⟨w.heap.size, 2, none⟩) hlt0).trans d2, (h.cell (p := ⟨w.heap.size, 3, none⟩) hlt0).trans d3⟩
  have HW := Lib.hid hW
  have HBW := Lib.hid hbW
  clear hkW hW
  have hr0 := g.r0
  have hr3 := g.r3
  clear hX hbools hrest
  generalize t.st = st at *
  generalize t.rg = rg at *
  generalize t.ac.length = la at *
  generalize t.mv.length = lm at *
  obtain ⟨n, rfl⟩ : ∃ n : Nat, rg = n := ⟨rg.toNat, by omega⟩
  rw [Int.toNat_natCast]
  have hn3 : n ≤ 3 := by omega
  have ho0 : (W.alloc (.cells #[] 3)).ownsRow W.heap.size 3 1 (.slice (some ⟨W.heap.size, 0, none⟩) 0 0) 0 (icells (List.replicate 0 (-1))) := World.ownsRow_lit W #[] 0 (Nat.le_refl _) (by decide) rfl
  have hb0 : Below W.heap.size W (W.alloc (.cells #[] 3)) := (Below.refl _ _).alloc (Nat.le_refl _) _
  have HO := Lib.hid ho0
  have HB := Lib.hid hb0
  clear ho0 hb0 hbW
  go_enter Try.func35, Try.ntmps35
  go_upto_region 1 with fail
  rw [← HW.out]
  clear HW
  go_wp2
  go_loopw [3, 4] (fun v i wr => ∃ k : Nat, k ≤ n ∧ i = .int .i64 k ∧ wr.ownsRow W.heap.size 3 1 v k (icells (List.replicate k (-1))) ∧ Below W.heap.size W wr) (fun _ i _ => n - (intOf i).toNat)
  case atStart => exact ⟨0, Nat.zero_le _, rfl, HO.out, HB.out⟩
  case round =>
    obtain ⟨k, hk, rfl, ho, hb⟩ := hrel
    obtain ⟨e0, e1, e2, e3⟩ := HCC.out wr hb
    by_cases hlt : k < n
    · have hnx := rep_next k
      have hb1 := hb.alloc hb.size (.cells #[.int .i64 (-1)] 3)
      have ho1 := own_below ho ((Below.refl wr.heap.size wr).alloc (Nat.le_refl _) (.cells #[.int .i64 (-1)] 3))
      have hA1 : IntsAt (wr.alloc (.cells #[.int .i64 (-1)] 3)) (some ⟨wr.heap.size, 0, none⟩) [-1] := fun _ => ⟨wr.heap.size, 0, rfl, by simp, fun i hi => by
        have e : i = 0 := by simp at hi; exact hi
        subst e
        simp [itAt]⟩
      have hbs := hb1.size
      generalize hXS : icells (List.replicate k (-1)) = xs at *
      clear hXS
      have HNX := Lib.hid hnx
      clear hnx hb
      go_wp2_with (at_builtin; refine wpList_append_ints rfl (.tmp 12) (.tmp 13) rfl W.heap.size _ k xs rfl ho1 _ 1 [-1] rfl hA1 ?z1 ?z2 ?z3 ?z4)
      case z1 => intro h; cases h
      case z2 => simp; omega
      case z3 => exact hbs
      intro v2 w2 ho3 hg
      have hb4 : Below W.heap.size W w2 := below_own hb1 ho1 (Nat.le_refl _) hbs hg
      rw [HNX.out] at ho3
      clear ho1 hg hb1 hA1 e0 e1 e2 e3 HNX
      go_wp2
      refine ⟨⟨k + 1, by omega, by go_num, ho3, hb4⟩, ?_⟩
      simp only [intOf]
      omega
    · have e : k = n := by omega
      subst e
      have HF := Lib.hid (show NewInts (List.replicate k (-1)) w (.returned u3) wr from ⟨_, rfl, by rw [List.length_replicate]; exact own_le ho HBW.out.size, HBW.out.trans (hb.mono HBW.out.size)⟩)
      clear ho
      go_wp2
      go_ret
      exact HF.out
end Go.Proofs.Ytcginiklekdbgaa
end

section
namespace Go.Proofs.Ytcginiklekdbgaa
open Go.RowKit Go.Sort
set_option linter.unusedVariables false

set_option maxRecDepth 100000 in
set_option maxHeartbeats 8000000 in
theorem l7Step_any (t : Mach) (g : Good t) (x : Value) (q a : Int) (rs : List Int) (V : Option Addr) (cv : Nat) (w : World) (hx : MachIx w x t) (hq0 : 0 ≤ q) (hq1 : q < t.st) (hl : rs.length = t.rg.toNat)
    (hV : IntsAt w V rs) (hz : V = none → cv = 0) :
    Calls Try.prog 49 #[x, .int .i64 q, .slice V rs.length cv, .int .i64 a] w (NumRow (mvOf t q rs a).1 (stored rs (mvOf t q rs a).2 a) w) := by
  obtain ⟨A, c, B, d, rfl, hA, hB, _⟩ := hx
  obtain ⟨hix, hs0, hs1, hs2⟩ := g.ix (a := a) hq0 hq1 hl
  have hmo := g.move (a := a) hq0 hq1 hl
  have hmp : 0 < t.mv.length := by omega
  obtain ⟨b1, o1, rfl, hb1, hc1⟩ := hB hmp
  obtain ⟨e0, e1⟩ := hc1 _ hix
  have hr3 := g.r3
  have hr0 := g.r0
  have hs9 := g.s9
  have hmle : t.mv.length ≤ 100 := by have := g.ml; rcases casZ_of g.r0 g.r3 with ⟨_, h⟩ | ⟨_, h⟩ | ⟨_, h⟩ | ⟨_, h⟩ <;> rw [h] at this <;> omega
  have hl3 : rs.length ≤ 3 := by omega
  obtain ⟨W, hW⟩ : ∃ W, W = w.alloc (.cells #[.int .i64 t.st, .int .i64 t.rg, .slice A t.ac.length c, .slice (some ⟨b1, o1, none⟩) t.mv.length d] 27) := ⟨_, rfl⟩
  have hbW : Below w.heap.size w W := by rw [hW]; exact (Below.refl _ _).alloc (Nat.le_refl _) _
  have hkW := heap_alloc_new w (.cells #[.int .i64 t.st, .int .i64 t.rg, .slice A t.ac.length c, .slice (some ⟨b1, o1, none⟩) t.mv.length d] 27)
  rw [← hW] at hkW
  have hcas := Lib.hid (fun W' => l7Cases_any t.st t.rg (.slice A t.ac.length c) (.slice (some ⟨b1, o1, none⟩) t.mv.length d) W' g.r0 g.r3)
  have hm : Hid (mvOf t q rs a = prAt t.mv (q * casZ t.rg + setN rs a).toNat) := Lib.hid rfl
  unfold mvIx at e0 e1 hix
  generalize mvOf t q rs a = m at *
  rw [← hm.out] at e0 e1
  clear hm hc1
  have hsn : Hid (setN rs a = setN rs a) := Lib.hid rfl
  have hcz := casZ_of g.r0 g.r3
  generalize casZ t.rg = cz at *
  obtain ⟨m1, m2⟩ := m
  dsimp only at *
  have hpost1 := Lib.hid (show ¬ 0 ≤ m2 → stored rs m2 a = rs from fun h => if_neg h)
  have hpost2 := Lib.hid (show 0 ≤ m2 → stored rs m2 a = rs.set m2.toNat a from fun h => if_pos h)
  have hpl := Lib.hid (stored_len rs m2 a)
  obtain ⟨st, rg, ac, mv⟩ := t
  dsimp only at *
  clear hA hB g
  generalize ac.length = la at *
  generalize mv.length = lm at *
  generalize stored rs m2 a = rs2 at *
  have HLN := Lib.hid hl
  clear hl
  have HV := Lib.hid hV
  obtain ⟨d0, d1, d2, d3⟩ := MachK.row4 hkW
  rw [← hbW.cell (p := ⟨b1, _, none⟩) hb1] at e0 e1
  have hlt0 : w.heap.size < W.heap.size := MachK.box_lt hkW
  have hlt1 : b1 < W.heap.size := by omega
  have HCC : Hid (∀ w' : World, Below W.heap.size W w' → w'.cell? ⟨w.heap.size, 0, none⟩ = some (.int .i64 st) ∧ w'.cell? ⟨w.heap.size, 1, none⟩ = some (.int .i64 rg) ∧ w'.cell? ⟨w.heap.size, 2, none⟩ = some (.slice A la c) ∧ w'.cell? ⟨w.heap.size, 3, none⟩ = some (.slice (some ⟨b1, o1, none⟩) lm d) ∧ w'.cell? ⟨b1, o1 + (q * cz + setN rs a).toNat * 2, none⟩ = some (.int .i64 m1) ∧ w'.cell? ⟨b1, o1 + (q * cz + setN rs a).toNat * 2 + 1, none⟩ = some (.int .i64 m2)) :=
    Lib.hid fun w' h => ⟨(h.cell (p := ⟨w.heap.size, 0, none⟩) hlt0).trans d0, (h.cell (p := ⟨w.heap.size, 1, none⟩) hlt0).trans d1, (h.cell (p := ⟨w.heap.size, 2, none⟩) hlt0).trans d2, (h.cell (p := ⟨w.heap.size, 3, none⟩) hlt0).trans d3, (h.cell (p := ⟨b1, _, none⟩) hlt1).trans e0, (h.cell (p := ⟨b1, _, none⟩) hlt1).trans e1⟩
  have HW := Lib.hid hW
  have HBW := Lib.hid hbW
  have hVW := hV.below hbW
  have HIX := Lib.hid (show (q * cz + setN rs a).toNat < lm ∧ 0 ≤ q * cz + setN rs a ∧ (0 ≤ setN rs a ∧ setN rs a ≤ 8) ∧ q * cz + setN rs a ≤ 100 from ⟨hix, hs0, hs1, hs2⟩)
  have HCZ := Lib.hid hcz
  clear hV d0 d1 d2 d3 e0 e1 hkW hW hbW hix hs0 hs1 hs2 hcz hsn
  go_enter Try.func49, Try.ntmps49
  go_upto_region 3 with fail
  rw [← HW.out]
  go_wp2
  go_loop [10, 11, 13, 18] (fun s b _ i => ∃ k : Nat, k ≤ rs.length ∧ i = .int .i64 k ∧ s = .int .i64 (setN (rs.take k) a) ∧ b = .int .i64 ((2 ^ k : Nat) : Int)) (fun _ _ _ i => rs.length - (intOf i).toNat)
  case atStart => exact ⟨0, Nat.zero_le _, rfl, rfl, rfl⟩
  case round =>
    obtain ⟨k, hk, rfl, rfl, rfl⟩ := hrel
    by_cases hlt : k < rs.length
    · obtain ⟨b2, o2, rfl, hb2, hc2⟩ := hVW (by omega)
      have c1 := hc2 k hlt
      have hnx := Lib.hid (setN_take a hlt)
      have hb := setN_bound a (rs.take k)
      rw [List.length_take, Nat.min_eq_left (by omega)] at hb
      have hp : ((2 ^ k : Nat) : Int) ≤ 8 := by
        have : k = 0 ∨ k = 1 ∨ k = 2 := by omega
        rcases this with rfl | rfl | rfl <;> decide
      have hp0 : (0 : Int) ≤ ((2 ^ k : Nat) : Int) := Int.natCast_nonneg _
      have hpn : Hid (((2 ^ (k + 1) : Nat) : Int) = 2 * ((2 ^ k : Nat) : Int)) := Lib.hid (by rw [Nat.pow_succ]; omega)
      generalize itAt rs k = y at c1 hnx
      generalize setN (rs.take k) a = s at hb hnx
      generalize ((2 ^ k : Nat) : Int) = bit at hb hnx hp hp0 hpn
      clear hc2 hVW
      by_cases he : y = a
      · have hn : Hid (setN (rs.take (k + 1)) a = s + bit) := Lib.hid (by rw [hnx.out, if_pos he])
        subst he
        clear hnx
        go_wp2
        refine ⟨⟨k + 1, by omega, by go_num, by rw [hn.out], by rw [hpn.out]⟩, ?_⟩
        simp only [intOf]
        omega
      · have hn : Hid (setN (rs.take (k + 1)) a = s) := Lib.hid (by rw [hnx.out, if_neg he]; omega)
        have hq : (y == a) = false := by simp [he]
        clear hnx hb he
        go_wp2
        refine ⟨⟨k + 1, by omega, by go_num, by rw [hn.out], by rw [hpn.out]⟩, ?_⟩
        simp only [intOf]
        omega
    · have e : k = rs.length := by omega
      subst e
      rw [List.take_length]
      obtain ⟨hix, hs0, hs1, hs2⟩ := HIX.out
      have hcopy := Lib.hid (fun (W' : World) (h : Below W.heap.size W W') => l1Copy_ints V cv rs W' (hVW.below h) hz (by omega))
      generalize setN rs a = sn at *
      have hcz := HCZ.out
      clear hVW HIX HCZ
      rcases hcz with ⟨rfl, rfl⟩ | ⟨rfl, rfl⟩ | ⟨rfl, rfl⟩ | ⟨rfl, rfl⟩
      · simp only [Int.mul_one] at HCC hix hs0 hs2
        have hwr1 : IntKind.i64.wrap (q * 1) = q := by rw [Int.mul_one]; exact IntWalk.i64_in _ (by omega)
        have hwr0 : IntKind.i64.wrap q = q := IntWalk.i64_in _ (by omega)
        have hwr2 : IntKind.i64.wrap (q + sn) = q + sn := IntWalk.i64_in _ (by omega)
        have hbI : q + sn < (lm : Int) := by omega
        have hbJ : ¬ q + sn < 0 := by omega
        go_upto_region 10 with fail
        go_cut [14] (fun s wx => MvR.Rel W (m1, m2) s wx)
        case first =>
          have hdw : Below W.heap.size W W.drew := ⟨rfl, rfl, rfl, Nat.le_refl _, fun _ _ => rfl⟩
          have hal : Below W.heap.size W (W.alloc (.cells #[.int .i64 0, .int .i64 0] 66)).drew := by
            have h : Below W.heap.size W (W.alloc (.cells #[.int .i64 0, .int .i64 0] 66)) := (Below.refl _ _).alloc (Nat.le_refl _) _
            exact ⟨h.os, h.tape, h.output, h.size, h.block⟩
          obtain ⟨u0, u1, u2, u3, u4, u5⟩ := HCC.out (W.drew) hdw
          obtain ⟨v0, v1, v2, v3, v4, v5⟩ := HCC.out ((W.alloc (.cells #[.int .i64 0, .int .i64 0] 66)).drew) hal
          have h0a := hcas.out W.drew
          have h0b := hcas.out (W.alloc (.cells #[.int .i64 0, .int .i64 0] 66)).drew
          have hc9 : (casZ 0) = 1 := rfl
          have ne0 : w.heap.size ≠ W.heap.size := Nat.ne_of_lt hlt0
          have ne1 : b1 ≠ W.heap.size := Nat.ne_of_lt hlt1
          go_region_held3 (fun w' => w'.cell? ⟨w.heap.size, 0, none⟩ = some (.int .i64 st) ∧ w'.cell? ⟨w.heap.size, 1, none⟩ = some (.int .i64 0) ∧ w'.cell? ⟨w.heap.size, 2, none⟩ = some (.slice A la c) ∧ w'.cell? ⟨w.heap.size, 3, none⟩ = some (.slice (some ⟨b1, o1, none⟩) lm d) ∧ w'.cell? ⟨b1, o1 + (q + sn).toNat * 2, none⟩ = some (.int .i64 m1) ∧ w'.cell? ⟨b1, o1 + (q + sn).toNat * 2 + 1, none⟩ = some (.int .i64 m2))
            (first | (with_reducible exact ⟨by assumption, by assumption, by assumption, by assumption, by assumption, by assumption⟩) | ((try dsimp only); exact ⟨by assumption, by assumption, by assumption, by assumption, by assumption, by assumption⟩) | (with_reducible exact ⟨MvR.set2_keep (by assumption) (by assumption), MvR.set2_keep (by assumption) (by assumption), MvR.set2_keep (by assumption) (by assumption), MvR.set2_keep (by assumption) (by assumption), MvR.set2_keep (by assumption) (by assumption), MvR.set2_keep (by assumption) (by assumption)⟩) | go_keep)
            (first
              | (go_at_call 36; (first | (with_reducible refine h0a.mono ?_) | (with_reducible refine h0b.mono ?_)); rintro e wq ⟨rfl, hbq⟩; have fr : Below W.heap.size W wq := (by first | (with_reducible exact hdw.trans (hbq.mono hdw.size)) | (with_reducible exact hal.trans (hbq.mono hal.size))); (try (have zq : wq.heap[W.heap.size]? = some (.cells #[.int .i64 0, .int .i64 0] 66) := (hbq.block W.heap.size (by simp)).trans (heap_alloc_new W (.cells #[.int .i64 0, .int .i64 0] 66)))); obtain ⟨p0, p1, p2, p3, p4, p5⟩ := HCC.out (wq) fr; have fr2 := fr.alloc fr.size (.cells #[.int .i64 m1, .int .i64 m2] 66); obtain ⟨r0, r1, r2, r3, r4, r5⟩ := HCC.out (wq.alloc (.cells #[.int .i64 m1, .int .i64 m2] 66)) fr2; have ne2 : w.heap.size ≠ wq.heap.size := Nat.ne_of_lt (Nat.lt_of_lt_of_le hlt0 fr.size); have ne3 : b1 ≠ wq.heap.size := Nat.ne_of_lt (Nat.lt_of_lt_of_le hlt1 fr.size); (try (obtain ⟨g0, g1⟩ := MvR.row2 zq; have y0 := frozen_of_row _ _ 0 _ _ zq; have y1 := frozen_of_row _ _ 1 _ _ zq)))
              | fail)
          all_goals
            go_wp2_with fail
            go_meet
            first | (with_reducible exact MvR.rel_new (m := (m1, m2)) fr) | (with_reducible exact MvR.rel_set (m := (m1, m2)) zq (Nat.le_refl _) fr)
        case rest =>
          obtain ⟨gm, rfl, hgm, hge, hbm⟩ := hcut
          have hcp := hcopy.out wc hbm
          have hbw := HBW.out.trans (hbm.mono HBW.out.size)
          have hgml : gm < wc.heap.size := MvR.box_lt hgm
          have HGM := Lib.hid hgm
          clear hgm hge hcopy HCC hwr1 hwr2 hbI hbJ hcas
          go_wp2_with fail
          (with_reducible refine hcp.mono ?_)
          rintro e w2 ⟨v2, rfl, ho, hb2⟩
          have hgm2 := (hb2.block gm hgml).trans HGM.out
          obtain ⟨c0, c1⟩ := MvR.row2 hgm2
          (try dsimp only at c0 c1)
          have hbw2 := hbw.trans (hb2.mono hbw.size)
          clear hcp hbm HGM hgm2
          by_cases hm0 : 0 ≤ m2
          · exfalso; omega
          · have em : m2 = -1 := by omega
            subst em
            have HP := Lib.hid (hpost1.out (by omega))
            have HFIN := Lib.hid (show NumRow m1 rs2 w (.returned (.tuple #[.int .i64 m1, v2])) w2 from ⟨_, rfl, by rw [HP.out]; exact own_le ho hbw.size, hbw2⟩)
            clear ho hpost1 hpost2 HV
            go_wp2
            go_ret2
            exact HFIN.out
      · skip
        have hwr1 : IntKind.i64.wrap (q * 2) = q * 2 := IntWalk.i64_in _ (by omega)
        skip
        have hwr2 : IntKind.i64.wrap (q * 2 + sn) = q * 2 + sn := IntWalk.i64_in _ (by omega)
        have hbI : q * 2 + sn < (lm : Int) := by omega
        have hbJ : ¬ q * 2 + sn < 0 := by omega
        go_upto_region 10 with fail
        go_cut [14] (fun s wx => MvR.Rel W (m1, m2) s wx)
        case first =>
          have hdw : Below W.heap.size W W.drew := ⟨rfl, rfl, rfl, Nat.le_refl _, fun _ _ => rfl⟩
          have hal : Below W.heap.size W (W.alloc (.cells #[.int .i64 0, .int .i64 0] 66)).drew := by
            have h : Below W.heap.size W (W.alloc (.cells #[.int .i64 0, .int .i64 0] 66)) := (Below.refl _ _).alloc (Nat.le_refl _) _
            exact ⟨h.os, h.tape, h.output, h.size, h.block⟩
          obtain ⟨u0, u1, u2, u3, u4, u5⟩ := HCC.out (W.drew) hdw
          obtain ⟨v0, v1, v2, v3, v4, v5⟩ := HCC.out ((W.alloc (.cells #[.int .i64 0, .int .i64 0] 66)).drew) hal
          have h0a := hcas.out W.drew
          have h0b := hcas.out (W.alloc (.cells #[.int .i64 0, .int .i64 0] 66)).drew
          have hc9 : (casZ 1) = 2 := rfl
          have ne0 : w.heap.size ≠ W.heap.size := Nat.ne_of_lt hlt0
          have ne1 : b1 ≠ W.heap.size := Nat.ne_of_lt hlt1
          go_region_held3 (fun w' => w'.cell? ⟨w.heap.size, 0, none⟩ = some (.int .i64 st) ∧ w'.cell? ⟨w.heap.size, 1, none⟩ = some (.int .i64 1) ∧ w'.cell? ⟨w.heap.size, 2, none⟩ = some (.slice A la c) ∧ w'.cell? ⟨w.heap.size, 3, none⟩ = some (.slice (some ⟨b1, o1, none⟩) lm d) ∧ w'.cell? ⟨b1, o1 + (q * 2 + sn).toNat * 2, none⟩ = some (.int .i64 m1) ∧ w'.cell? ⟨b1, o1 + (q * 2 + sn).toNat * 2 + 1, none⟩ = some (.int .i64 m2))
            (first | (with_reducible exact ⟨by assumption, by assumption, by assumption, by assumption, by assumption, by assumption⟩) | ((try dsimp only); exact ⟨by assumption, by assumption, by assumption, by assumption, by assumption, by assumption⟩) | (with_reducible exact ⟨MvR.set2_keep (by assumption) (by assumption), MvR.set2_keep (by assumption) (by assumption), MvR.set2_keep (by assumption) (by assumption), MvR.set2_keep (by assumption) (by assumption), MvR.set2_keep (by assumption) (by assumption), MvR.set2_keep (by assumption) (by assumption)⟩) | go_keep)
            (first
              | (go_at_call 36; (first | (with_reducible refine h0a.mono ?_) | (with_reducible refine h0b.mono ?_)); rintro e wq ⟨rfl, hbq⟩; have fr : Below W.heap.size W wq := (by first | (with_reducible exact hdw.trans (hbq.mono hdw.size)) | (with_reducible exact hal.trans (hbq.mono hal.size))); (try (have zq : wq.heap[W.heap.size]? = some (.cells #[.int .i64 0, .int .i64 0] 66) := (hbq.block W.heap.size (by simp)).trans (heap_alloc_new W (.cells #[.int .i64 0, .int .i64 0] 66)))); obtain ⟨p0, p1, p2, p3, p4, p5⟩ := HCC.out (wq) fr; have fr2 := fr.alloc fr.size (.cells #[.int .i64 m1, .int .i64 m2] 66); obtain ⟨r0, r1, r2, r3, r4, r5⟩ := HCC.out (wq.alloc (.cells #[.int .i64 m1, .int .i64 m2] 66)) fr2; have ne2 : w.heap.size ≠ wq.heap.size := Nat.ne_of_lt (Nat.lt_of_lt_of_le hlt0 fr.size); have ne3 : b1 ≠ wq.heap.size := Nat.ne_of_lt (Nat.lt_of_lt_of_le hlt1 fr.size); (try (obtain ⟨g0, g1⟩ := MvR.row2 zq; have y0 := frozen_of_row _ _ 0 _ _ zq; have y1 := frozen_of_row _ _ 1 _ _ zq)))
              | fail)
          all_goals
            go_wp2_with fail
            go_meet
            first | (with_reducible exact MvR.rel_new (m := (m1, m2)) fr) | (with_reducible exact MvR.rel_set (m := (m1, m2)) zq (Nat.le_refl _) fr)
        case rest =>
          obtain ⟨gm, rfl, hgm, hge, hbm⟩ := hcut
          have hcp := hcopy.out wc hbm
          have hbw := HBW.out.trans (hbm.mono HBW.out.size)
          have hgml : gm < wc.heap.size := MvR.box_lt hgm
          have HGM := Lib.hid hgm
          clear hgm hge hcopy HCC hwr1 hwr2 hbI hbJ hcas
          go_wp2_with fail
          (with_reducible refine hcp.mono ?_)
          rintro e w2 ⟨v2, rfl, ho, hb2⟩
          have hgm2 := (hb2.block gm hgml).trans HGM.out
          obtain ⟨c0, c1⟩ := MvR.row2 hgm2
          (try dsimp only at c0 c1)
          have hbw2 := hbw.trans (hb2.mono hbw.size)
          clear hcp hbm HGM hgm2
          by_cases hm0 : 0 ≤ m2
          · obtain ⟨j, rfl⟩ : ∃ j : Nat, m2 = j := ⟨m2.toNat, by omega⟩
            have hP := hpost2.out (by omega)
            rw [Int.toNat_natCast] at hP
            have HP := Lib.hid hP
            have hjl : j < rs.length := by have := HLN.out; omega
            obtain ⟨V2, cv2, rfl, _⟩ := own_intsAt ho
            rcases ho.2 with ⟨e9, h9⟩ | ⟨gr, cap, cur, e9, _⟩
            · omega
            · injection e9 with e91 _ e93
              subst e91; subst e93
              have k0 := (ho.cellAt j (by omega)).trans (icells_at rs j hjl)
              have k1 := ho.frozenAt j
              have hgr := ho.lt gr rfl
              obtain ⟨ho3, hg3⟩ := ho.stored j (.int .i64 a)
              have hb3 := hbw2.setCell (p := ⟨gr, j, none⟩) (show w.heap.size ≤ gr by have := hbw.size; omega) (.int .i64 a)
              have HFIN := Lib.hid (show NumRow m1 rs2 w (.returned (.tuple #[.int .i64 m1, .slice (some ⟨gr, 0, none⟩) rs.length cv2])) (w2.setCell ⟨gr, j, none⟩ (.int .i64 a)) from ⟨_, rfl, by rw [hpl.out, HP.out]; unfold icells; rw [List.map_set]; exact own_le ho3 hbw.size, hb3⟩)
              have hgne : gm ≠ gr := by omega
              have hgrl := hgr.2
              clear ho3 hg3 ho hpost1 hpost2 hP HV hgr hb3
              generalize rs.length = ln at *
              go_wp2
              go_ret2
              exact HFIN.out
          · have em : m2 = -1 := by omega
            subst em
            have HP := Lib.hid (hpost1.out (by omega))
            have HFIN := Lib.hid (show NumRow m1 rs2 w (.returned (.tuple #[.int .i64 m1, v2])) w2 from ⟨_, rfl, by rw [HP.out]; exact own_le ho hbw.size, hbw2⟩)
            clear ho hpost1 hpost2 HV
            go_wp2
            go_ret2
            exact HFIN.out
      · skip
        have hwr1 : IntKind.i64.wrap (q * 4) = q * 4 := IntWalk.i64_in _ (by omega)
        skip
        have hwr2 : IntKind.i64.wrap (q * 4 + sn) = q * 4 + sn := IntWalk.i64_in _ (by omega)
        have hbI : q * 4 + sn < (lm : Int) := by omega
        have hbJ : ¬ q * 4 + sn < 0 := by omega
        go_upto_region 10 with fail
        go_cut [14] (fun s wx => MvR.Rel W (m1, m2) s wx)
        case first =>
          have hdw : Below W.heap.size W W.drew := ⟨rfl, rfl, rfl, Nat.le_refl _, fun _ _ => rfl⟩
          have hal : Below W.heap.size W (W.alloc (.cells #[.int .i64 0, .int .i64 0] 66)).drew := by
            have h : Below W.heap.size W (W.alloc (.cells #[.int .i64 0, .int .i64 0] 66)) := (Below.refl _ _).alloc (Nat.le_refl _) _
            exact ⟨h.os, h.tape, h.output, h.size, h.block⟩
          obtain ⟨u0, u1, u2, u3, u4, u5⟩ := HCC.out (W.drew) hdw
          obtain ⟨v0, v1, v2, v3, v4, v5⟩ := HCC.out ((W.alloc (.cells #[.int .i64 0, .int .i64 0] 66)).drew) hal
          have h0a := hcas.out W.drew
          have h0b := hcas.out (W.alloc (.cells #[.int .i64 0, .int .i64 0] 66)).drew
          have hc9 : (casZ 2) = 4 := rfl
          have ne0 : w.heap.size ≠ W.heap.size := Nat.ne_of_lt hlt0
          have ne1 : b1 ≠ W.heap.size := Nat.ne_of_lt hlt1
          go_region_held3 (fun w' => w'.cell? ⟨w.heap.size, 0, none⟩ = some (.int .i64 st) ∧ w'.cell? ⟨w.heap.size, 1, none⟩ = some (.int .i64 2) ∧ w'.cell? ⟨w.heap.size, 2, none⟩ = some (.slice A la c) ∧ w'.cell? ⟨w.heap.size, 3, none⟩ = some (.slice (some ⟨b1, o1, none⟩) lm d) ∧ w'.cell? ⟨b1, o1 + (q * 4 + sn).toNat * 2, none⟩ = some (.int .i64 m1) ∧ w'.cell? ⟨b1, o1 + (q * 4 + sn).toNat * 2 + 1, none⟩ = some (.int .i64 m2))
            (first | (with_reducible exact ⟨by assumption, by assumption, by assumption, by assumption, by assumption, by assumption⟩) | ((try dsimp only); exact ⟨by assumption, by assumption, by assumption, by assumption, by assumption, by assumption⟩) | (with_reducible exact ⟨MvR.set2_keep (by assumption) (by assumption), MvR.set2_keep (by assumption) (by assumption), MvR.set2_keep (by assumption) (by assumption), MvR.set2_keep (by assumption) (by assumption), MvR.set2_keep (by assumption) (by assumption), MvR.set2_keep (by assumption) (by assumption)⟩) | go_keep)
            (first
              | (go_at_call 36; (first | (with_reducible refine h0a.mono ?_) | (with_reducible refine h0b.mono ?_)); rintro e wq ⟨rfl, hbq⟩; have fr : Below W.heap.size W wq := (by first | (with_reducible exact hdw.trans (hbq.mono hdw.size)) | (with_reducible exact hal.trans (hbq.mono hal.size))); (try (have zq : wq.heap[W.heap.size]? = some (.cells #[.int .i64 0, .int .i64 0] 66) := (hbq.block W.heap.size (by simp)).trans (heap_alloc_new W (.cells #[.int .i64 0, .int .i64 0] 66)))); obtain ⟨p0, p1, p2, p3, p4, p5⟩ := HCC.out (wq) fr; have fr2 := fr.alloc fr.size (.cells #[.int .i64 m1, .int .i64 m2] 66); obtain ⟨r0, r1, r2, r3, r4, r5⟩ := HCC.out (wq.alloc (.cells #[.int .i64 m1, .int .i64 m2] 66)) fr2; have ne2 : w.heap.size ≠ wq.heap.size := Nat.ne_of_lt (Nat.lt_of_lt_of_le hlt0 fr.size); have ne3 : b1 ≠ wq.heap.size := Nat.ne_of_lt (Nat.lt_of_lt_of_le hlt1 fr.size); (try (obtain ⟨g0, g1⟩ := MvR.row2 zq; have y0 := frozen_of_row _ _ 0 _ _ zq; have y1 := frozen_of_row _ _ 1 _ _ zq)))
              | fail)
          all_goals
            go_wp2_with fail
            go_meet
            first | (with_reducible exact MvR.rel_new (m := (m1, m2)) fr) | (with_reducible exact MvR.rel_set (m := (m1, m2)) zq (Nat.le_refl _) fr)
        case rest =>
          obtain ⟨gm, rfl, hgm, hge, hbm⟩ := hcut
          have hcp := hcopy.out wc hbm
          have hbw := HBW.out.trans (hbm.mono HBW.out.size)
          have hgml : gm < wc.heap.size := MvR.box_lt hgm
          have HGM := Lib.hid hgm
          clear hgm hge hcopy HCC hwr1 hwr2 hbI hbJ hcas
          go_wp2_with fail
          (with_reducible refine hcp.mono ?_)
          rintro e w2 ⟨v2, rfl, ho, hb2⟩
          have hgm2 := (hb2.block gm hgml).trans HGM.out
          obtain ⟨c0, c1⟩ := MvR.row2 hgm2
          (try dsimp only at c0 c1)
          have hbw2 := hbw.trans (hb2.mono hbw.size)
          clear hcp hbm HGM hgm2
          by_cases hm0 : 0 ≤ m2
          · obtain ⟨j, rfl⟩ : ∃ j : Nat, m2 = j := ⟨m2.toNat, by omega⟩
            have hP := hpost2.out (by omega)
            rw [Int.toNat_natCast] at hP
            have HP := Lib.hid hP
            have hjl : j < rs.length := by have := HLN.out; omega
            obtain ⟨V2, cv2, rfl, _⟩ := own_intsAt ho
            rcases ho.2 with ⟨e9, h9⟩ | ⟨gr, cap, cur, e9, _⟩
            · omega
            · injection e9 with e91 _ e93
              subst e91; subst e93
              have k0 := (ho.cellAt j (by omega)).trans (icells_at rs j hjl)
              have k1 := ho.frozenAt j
              have hgr := ho.lt gr rfl
              obtain ⟨ho3, hg3⟩ := ho.stored j (.int .i64 a)
              have hb3 := hbw2.setCell (p := ⟨gr, j, none⟩) (show w.heap.size ≤ gr by have := hbw.size; omega) (.int .i64 a)
              have HFIN := Lib.hid (show NumRow m1 rs2 w (.returned (.tuple #[.int .i64 m1, .slice (some ⟨gr, 0, none⟩) rs.length cv2])) (w2.setCell ⟨gr, j, none⟩ (.int .i64 a)) from ⟨_, rfl, by rw [hpl.out, HP.out]; unfold icells; rw [List.map_set]; exact own_le ho3 hbw.size, hb3⟩)
              have hgne : gm ≠ gr := by omega
              have hgrl := hgr.2
              clear ho3 hg3 ho hpost1 hpost2 hP HV hgr hb3
              generalize rs.length = ln at *
              go_wp2
              go_ret2
              exact HFIN.out
          · have em : m2 = -1 := by omega
            subst em
            have HP := Lib.hid (hpost1.out (by omega))
            have HFIN := Lib.hid (show NumRow m1 rs2 w (.returned (.tuple #[.int .i64 m1, v2])) w2 from ⟨_, rfl, by rw [HP.out]; exact own_le ho hbw.size, hbw2⟩)
            clear ho hpost1 hpost2 HV
            go_wp2
            go_ret2
            exact HFIN.out
      · skip
        have hwr1 : IntKind.i64.wrap (q * 8) = q * 8 := IntWalk.i64_in _ (by omega)
        skip
        have hwr2 : IntKind.i64.wrap (q * 8 + sn) = q * 8 + sn := IntWalk.i64_in _ (by omega)
        have hbI : q * 8 + sn < (lm : Int) := by omega
        have hbJ : ¬ q * 8 + sn < 0 := by omega
        go_upto_region 10 with fail
        go_cut [14] (fun s wx => MvR.Rel W (m1, m2) s wx)
        case first =>
          have hdw : Below W.heap.size W W.drew := ⟨rfl, rfl, rfl, Nat.le_refl _, fun _ _ => rfl⟩
          have hal : Below W.heap.size W (W.alloc (.cells #[.int .i64 0, .int .i64 0] 66)).drew := by
            have h : Below W.heap.size W (W.alloc (.cells #[.int .i64 0, .int .i64 0] 66)) := (Below.refl _ _).alloc (Nat.le_refl _) _
            exact ⟨h.os, h.tape, h.output, h.size, h.block⟩
          obtain ⟨u0, u1, u2, u3, u4, u5⟩ := HCC.out (W.drew) hdw
          obtain ⟨v0, v1, v2, v3, v4, v5⟩ := HCC.out ((W.alloc (.cells #[.int .i64 0, .int .i64 0] 66)).drew) hal
          have h0a := hcas.out W.drew
          have h0b := hcas.out (W.alloc (.cells #[.int .i64 0, .int .i64 0] 66)).drew
          have hc9 : (casZ 3) = 8 := rfl
          have ne0 : w.heap.size ≠ W.heap.size := Nat.ne_of_lt hlt0
          have ne1 : b1 ≠ W.heap.size := Nat.ne_of_lt hlt1
          go_region_held3 (fun w' => w'.cell? ⟨w.heap.size, 0, none⟩ = some (.int .i64 st) ∧ w'.cell? ⟨w.heap.size, 1, none⟩ = some (.int .i64 3) ∧ w'.cell? ⟨w.heap.size, 2, none⟩ = some (.slice A la c) ∧ w'.cell? ⟨w.heap.size, 3, none⟩ = some (.slice (some ⟨b1, o1, none⟩) lm d) ∧ w'.cell? ⟨b1, o1 + (q * 8 + sn).toNat * 2, none⟩ = some (.int .i64 m1) ∧ w'.cell? ⟨b1, o1 + (q * 8 + sn).toNat * 2 + 1, none⟩ = some (.int .i64 m2))
            (first | (with_reducible exact ⟨by assumption, by assumption, by assumption, by assumption, by assumption, by assumption⟩) | ((try dsimp only); exact ⟨by assumption, by assumption, by assumption, by assumption, by assumption, by assumption⟩) | (with_reducible exact ⟨MvR.set2_keep (by assumption) (by assumption), MvR.set2_keep (by assumption) (by assumption), MvR.set2_keep (by assumption) (by assumption), MvR.set2_keep (by assumption) (by assumption), MvR.set2_keep (by assumption) (by assumption), MvR.set2_keep (by assumption) (by assumption)⟩) | go_keep)
            (first
              | (go_at_call 36; (first | (with_reducible refine h0a.mono ?_) | (with_reducible refine h0b.mono ?_)); rintro e wq ⟨rfl, hbq⟩; have fr : Below W.heap.size W wq := (by first | (with_reducible exact hdw.trans (hbq.mono hdw.size)) | (with_reducible exact hal.trans (hbq.mono hal.size))); (try (have zq : wq.heap[W.heap.size]? = some (.cells #[.int .i64 0, .int .i64 0] 66) := (hbq.block W.heap.size (by simp)).trans (heap_alloc_new W (.cells #[.int .i64 0, .int .i64 0] 66)))); obtain ⟨p0, p1, p2, p3, p4, p5⟩ := HCC.out (wq) fr; have fr2 := fr.alloc fr.size (.cells #[.int .i64 m1, .int .i64 m2] 66); obtain ⟨r0, r1, r2, r3, r4, r5⟩ := HCC.out (wq.alloc (.cells #[.int .i64 m1, .int .i64 m2] 66)) fr2; have ne2 : w.heap.size ≠ wq.heap.size := Nat.ne_of_lt (Nat.lt_of_lt_of_le hlt0 fr.size); have ne3 : b1 ≠ wq.heap.size := Nat.ne_of_lt (Nat.lt_of_lt_of_le hlt1 fr.size); (try (obtain ⟨g0, g1⟩ := MvR.row2 zq; have y0 := frozen_of_row _ _ 0 _ _ zq; have y1 := frozen_of_row _ _ 1 _ _ zq)))
              | fail)
          all_goals
            go_wp2_with fail
            go_meet
            first | (with_reducible exact MvR.rel_new (m := (m1, m2)) fr) | (with_reducible exact MvR.rel_set (m := (m1, m2)) zq (Nat.le_refl _) fr)
        case rest =>
          obtain ⟨gm, rfl, hgm, hge, hbm⟩ := hcut
          have hcp := hcopy.out wc hbm
          have hbw := HBW.out.trans (hbm.mono HBW.out.size)
          have hgml : gm < wc.heap.size := MvR.box_lt hgm
          have HGM := Lib.hid hgm
          clear hgm hge hcopy HCC hwr1 hwr2 hbI hbJ hcas
          go_wp2_with fail
          (with_reducible refine hcp.mono ?_)
          rintro e w2 ⟨v2, rfl, ho, hb2⟩
          have hgm2 := (hb2.block gm hgml).trans HGM.out
          obtain ⟨c0, c1⟩ := MvR.row2 hgm2
          (try dsimp only at c0 c1)
          have hbw2 := hbw.trans (hb2.mono hbw.size)
          clear hcp hbm HGM hgm2
          by_cases hm0 : 0 ≤ m2
          · obtain ⟨j, rfl⟩ : ∃ j : Nat, m2 = j := ⟨m2.toNat, by omega⟩
            have hP := hpost2.out (by omega)
            rw [Int.toNat_natCast] at hP
            have HP := Lib.hid hP
            have hjl : j < rs.length := by have := HLN.out; omega
            obtain ⟨V2, cv2, rfl, _⟩ := own_intsAt ho
            rcases ho.2 with ⟨e9, h9⟩ | ⟨gr, cap, cur, e9, _⟩
            · omega
            · injection e9 with e91 _ e93
              subst e91; subst e93
              have k0 := (ho.cellAt j (by omega)).trans (icells_at rs j hjl)
              have k1 := ho.frozenAt j
              have hgr := ho.lt gr rfl
              obtain ⟨ho3, hg3⟩ := ho.stored j (.int .i64 a)
              have hb3 := hbw2.setCell (p := ⟨gr, j, none⟩) (show w.heap.size ≤ gr by have := hbw.size; omega) (.int .i64 a)
              have HFIN := Lib.hid (show NumRow m1 rs2 w (.returned (.tuple #[.int .i64 m1, .slice (some ⟨gr, 0, none⟩) rs.length cv2])) (w2.setCell ⟨gr, j, none⟩ (.int .i64 a)) from ⟨_, rfl, by rw [hpl.out, HP.out]; unfold icells; rw [List.map_set]; exact own_le ho3 hbw.size, hb3⟩)
              have hgne : gm ≠ gr := by omega
              have hgrl := hgr.2
              clear ho3 hg3 ho hpost1 hpost2 hP HV hgr hb3
              generalize rs.length = ln at *
              go_wp2
              go_ret2
              exact HFIN.out
          · have em : m2 = -1 := by omega
            subst em
            have HP := Lib.hid (hpost1.out (by omega))
            have HFIN := Lib.hid (show NumRow m1 rs2 w (.returned (.tuple #[.int .i64 m1, v2])) w2 from ⟨_, rfl, by rw [HP.out]; exact own_le ho hbw.size, hbw2⟩)
            clear ho hpost1 hpost2 HV
            go_wp2
            go_ret2
            exact HFIN.out
end Go.Proofs.Ytcginiklekdbgaa
end

section
namespace Go.Proofs.Ytcginiklekdbgaa
open Go.RowKit Go.Sort
set_option linter.unusedVariables false

end Go.Proofs.Ytcginiklekdbgaa
end

section
namespace Go.Proofs.Ytcginiklekdbgaa
open Go.RowKit Go.Sort
set_option linter.unusedVariables false

/-- The letters that lead on differently. -/
def lettersM (rs : List Int) : List Int := heldL rs ++ [leastF (heldL rs)]
theorem lettersM_len (rs : List Int) : (lettersM rs).length = (heldL rs).length + 1 := by unfold lettersM; rw [List.length_append]; rfl
/-- What the registers up to one hold, ascending. -/
def heldTo (rs : List Int) (k : Nat) : List Int := insAll [] ((rs.take k).filter fun a => decide (0 ≤ a))
theorem heldTo_all (rs : List Int) : heldTo rs rs.length = heldL rs := by unfold heldTo heldL; rw [List.take_length]
theorem heldTo_yes {rs : List Int} {k : Nat} (h : k < rs.length) (h0 : 0 ≤ itAt rs k) : heldTo rs (k + 1) = insL (heldTo rs k) (itAt rs k) := by
  unfold heldTo insAll
  rw [itake_next h, List.filter_append, List.foldl_append]
  simp [h0]
theorem heldTo_no {rs : List Int} {k : Nat} (h : k < rs.length) (h0 : ¬ 0 ≤ itAt rs k) : heldTo rs (k + 1) = heldTo rs k := by
  unfold heldTo
  rw [itake_next h, List.filter_append]
  simp [h0]
theorem heldTo_asc (rs : List Int) (k : Nat) : AscP (heldTo rs k) := asc_insAll [] _ List.Pairwise.nil
theorem heldTo_len (rs : List Int) (k : Nat) : (heldTo rs k).length ≤ rs.length := by
  have h := len_insAll ((rs.take k).filter fun a => decide (0 ≤ a)) []
  have h2 := List.length_filter_le (fun a => decide (0 ≤ a)) (rs.take k)
  rw [List.length_take] at h2
  unfold heldTo
  rw [List.length_nil] at h
  omega
set_option maxRecDepth 100000 in
set_option maxHeartbeats 4000000 in
theorem l7Letters_any (V : Option Addr) (cv : Nat) (rs : List Int) (w : World) (hV : IntsAt w V rs) (hl : rs.length ≤ 6) :
    Calls Try.prog 48 #[.slice V rs.length cv] w (NewInts (lettersM rs) w) := by
  have ho0 : (w.alloc (.cells #[] 3)).ownsRow w.heap.size 3 1 (.slice (some ⟨w.heap.size, 0, none⟩) 0 0) 0 (icells (heldTo rs 0)) := World.ownsRow_lit w #[] 0 (Nat.le_refl _) (by decide) rfl
  have hb0 : Below w.heap.size w (w.alloc (.cells #[] 3)) := (Below.refl _ _).alloc (Nat.le_refl _) _
  go_enter Try.func48, Try.ntmps48
  go_wp2
  go_loopw [3, 5, 9] (fun v _ i wr => ∃ k g cap : Nat, k ≤ rs.length ∧ i = .int .i64 k ∧ v = .slice (some ⟨g, 0, none⟩) (heldTo rs k).length cap ∧ wr.ownsRow w.heap.size 3 1 (.slice (some ⟨g, 0, none⟩) (heldTo rs k).length cap) (heldTo rs k).length (icells (heldTo rs k)) ∧ Below w.heap.size w wr) (fun _ _ i _ => rs.length - (intOf i).toNat)
  case atStart => exact ⟨0, w.heap.size, 0, Nat.zero_le _, rfl, rfl, ho0, hb0⟩
  case round =>
    obtain ⟨k, g, cap, hk, rfl, rfl, ho, hb⟩ := hrel
    by_cases hlt : k < rs.length
    · obtain ⟨b1, o1, rfl, hb1, hc1⟩ := hV (by omega)
      have c1 := hc1 k hlt
      rw [← hb.cell (p := ⟨b1, _, none⟩) hb1] at c1
      have hins := l1Insert_any w.heap.size g cap (heldTo rs k) (itAt rs k) wr ho (MachK.room ho) (by have := heldTo_len rs k; omega) (heldTo_asc rs k)
      by_cases h0 : 0 ≤ itAt rs k
      · have hnx := Lib.hid (heldTo_yes hlt h0)
        rw [← hnx.out] at hins
        generalize heldTo rs k = X at *
        generalize itAt rs k = a at *
        clear hc1 hV ho hnx ho0
        generalize X.length = xl at *
        go_wp2_with fail
        refine hins.mono ?_
        rintro e w2 ⟨g2, cap2, rfl, ho2, hb2⟩
        have hb3 := hb.trans (hb2.mono hb.size)
        clear hins c1 hb2
        go_wp2
        refine ⟨⟨k + 1, g2, cap2, by omega, by go_num, rfl, ho2, hb3⟩, ?_⟩
        simp only [intOf]
        omega
      · have hnx := heldTo_no hlt h0
        rw [← hnx] at ho ⊢
        have h0' : itAt rs k < 0 := by omega
        generalize itAt rs k = a at *
        have HO := Lib.hid ho
        have HNX := Lib.hid hnx
        clear hc1 hV hins ho hnx h0 ho0
        go_wp2
        refine ⟨⟨k + 1, g, cap, by omega, by go_num, rfl, HO.out, hb⟩, ?_⟩
        simp only [intOf]
        omega
    · have e : k = rs.length := by omega
      subst e
      have hh := heldTo_all rs
      rw [hh] at ho ⊢
      have hlen := heldL_len rs
      have hle := least_spec (some ⟨g, 0, none⟩) cap (heldL rs) wr (by
        obtain ⟨Aq, cq, eq, hA⟩ := own_intsAt ho
        simp only [Value.slice.injEq] at eq
        rw [eq.1]
        exact hA) (by omega)
      have hfin := Lib.hid (show lettersM rs = heldL rs ++ [leastF (heldL rs)] from rfl)
      have hbE := hb.alloc hb.size (.cells #[.int .i64 (leastF (heldL rs))] 3)
      have hoE := own_below ho ((Below.refl wr.heap.size wr).alloc (Nat.le_refl _) (.cells #[.int .i64 (leastF (heldL rs))] 3))
      have hA1 : IntsAt (wr.alloc (.cells #[.int .i64 (leastF (heldL rs))] 3)) (some ⟨wr.heap.size, 0, none⟩) [leastF (heldL rs)] := fun _ => ⟨wr.heap.size, 0, rfl, by simp, fun i hi => by
        have e : i = 0 := by simp at hi; exact hi
        subst e
        simp [itAt]⟩
      have hbs := hbE.size
      generalize leastF (heldL rs) = f at *
      generalize hX : heldL rs = X at *
      clear hV ho hh hX ho0
      generalize hxl : X.length = xl at *
      have HXL := Lib.hid hxl
      clear hxl
      go_wp2_with (first | (go_at_call 65; (with_reducible refine hle.mono ?_); rintro e w3 ⟨rfl, rfl⟩) | (at_builtin; refine wpList_append_ints rfl (.tmp 19) (.tmp 22) rfl w.heap.size _ xl (icells X) rfl hoE _ 1 [f] rfl hA1 ?z1 ?z2 ?z3 ?z4))
      case z1 => intro h; cases h
      case z2 => simp; omega
      case z3 => exact hbs
      intro v2 w2 ho3 hg
      have hb4 : Below w.heap.size w w2 := below_own hbE hoE (Nat.le_refl _) hbs hg
      have HF := Lib.hid (show NewInts (lettersM rs) w (.returned v2) w2 from ⟨v2, rfl, by rw [hfin.out, icells_append, List.length_append, HXL.out]; exact ho3, hb4⟩)
      clear hoE hg hbE hA1 hle ho3
      go_wp2
      go_ret
      exact HF.out
end Go.Proofs.Ytcginiklekdbgaa
end

section
namespace Go.Proofs.Ytcginiklekdbgaa
open Go.RowKit Go.Sort
set_option linter.unusedVariables false

theorem sumI_bound {α : Type} {f : α → Int} {B : Int} : ∀ {l : List α}, (∀ x ∈ l, 0 ≤ f x ∧ f x ≤ B) → 0 ≤ sumI (l.map f) ∧ sumI (l.map f) ≤ l.length * B
  | [], _ => by simp [sumI]
  | x :: r, h => by
    have h1 := h x List.mem_cons_self
    have h2 := sumI_bound (l := r) fun y hy => h y (List.mem_cons_of_mem _ hy)
    rw [List.map_cons, sumI, List.length_cons, Int.natCast_succ, Int.add_mul]
    omega
theorem cntM_bound (t : Mach) (n : Int) (h0 : 0 ≤ n) (h9 : n ≤ 9) : ∀ (L : Nat) (q : Int) (rs : List Int), rs.length ≤ 3 → 0 ≤ cntM t n L q rs ∧ cntM t n L q rs ≤ ((12 ^ L : Nat) : Int)
  | 0, q, rs, _ => by
    rw [cntM]
    split <;> simp
  | L + 1, q, rs, hl => by
    have hc := fun c => cntM_bound t n h0 h9 L (stepM t (q, rs) c).1 (stepM t (q, rs) c).2 (by rw [stepM_len]; exact hl)
    obtain ⟨s0, s1⟩ := sumI_bound (l := heldL rs) (f := fun a => cntM t n L (stepM t (q, rs) a).1 (stepM t (q, rs) a).2) (B := ((12 ^ L : Nat) : Int)) fun x _ => hc x
    have hh := heldL_len rs
    obtain ⟨f0, f1⟩ := hc (leastF (heldL rs))
    rw [cntM, Nat.pow_succ]
    generalize cntM t n L (stepM t (q, rs) (leastF (heldL rs))).1 (stepM t (q, rs) (leastF (heldL rs))).2 = Y at *
    generalize 12 ^ L = b at *
    have h3 : ((heldL rs).length : Int) * (b : Int) ≤ 3 * b := Int.mul_le_mul_of_nonneg_right (by omega) (by omega)
    by_cases hw : 0 < n - ((heldL rs).length : Int)
    · rw [if_pos hw]
      have h4 : (n - ((heldL rs).length : Int)) * Y ≤ 9 * Y := Int.mul_le_mul_of_nonneg_right (by omega) f0
      have h5 : 0 ≤ (n - ((heldL rs).length : Int)) * Y := Int.mul_nonneg (by omega) f0
      generalize (n - ((heldL rs).length : Int)) * Y = Z at *
      generalize ((heldL rs).length : Int) * (b : Int) = Z2 at *
      constructor <;> omega
    · rw [if_neg hw]
      generalize ((heldL rs).length : Int) * (b : Int) = Z2 at *
      constructor <;> omega
/-- What a letter adds. -/
def termM (t : Mach) (n : Int) (L : Nat) (q : Int) (rs : List Int) (i : Nat) : Int :=
  if i < (heldL rs).length then cntM t n L (stepM t (q, rs) (itAt (heldL rs) i)).1 (stepM t (q, rs) (itAt (heldL rs) i)).2
  else (if 0 < n - (heldL rs).length then (n - (heldL rs).length) * cntM t n L (stepM t (q, rs) (leastF (heldL rs))).1 (stepM t (q, rs) (leastF (heldL rs))).2 else 0)
def parM (t : Mach) (n : Int) (L : Nat) (q : Int) (rs : List Int) (k : Nat) : Int := sumI ((List.range k).map (termM t n L q rs))
theorem parM_next (t : Mach) (n : Int) (L : Nat) (q : Int) (rs : List Int) (k : Nat) : parM t n L q rs (k + 1) = parM t n L q rs k + termM t n L q rs k := by
  unfold parM
  rw [List.range_succ, List.map_append, sumI_append]
  show _ + (_ + 0) = _
  omega
theorem sumI_index (f : Int → Int) (l : List Int) : sumI ((List.range l.length).map fun i => f (itAt l i)) = sumI (l.map f) := by
  congr 1
  apply List.ext_getElem?
  intro i
  by_cases h : i < l.length
  · simp [h, itAt]
  · simp [h]
theorem parM_all (t : Mach) (n : Int) (L : Nat) (q : Int) (rs : List Int) : parM t n L q rs ((heldL rs).length + 1) = cntM t n (L + 1) q rs := by
  rw [parM_next, cntM]
  unfold parM
  rw [sumI_congr (g := fun i => cntM t n L (stepM t (q, rs) (itAt (heldL rs) i)).1 (stepM t (q, rs) (itAt (heldL rs) i)).2) (fun i hi => by unfold termM; rw [if_pos (List.mem_range.1 hi)]),
    sumI_index (fun a => cntM t n L (stepM t (q, rs) a).1 (stepM t (q, rs) a).2)]
  unfold termM
  rw [if_neg (Nat.lt_irrefl _)]
theorem letters_held {rs : List Int} {k : Nat} (h : k < (heldL rs).length) : itAt (lettersM rs) k = itAt (heldL rs) k := by
  unfold lettersM itAt
  rw [List.getD_eq_getElem?_getD, List.getD_eq_getElem?_getD, List.getElem?_append_left h]
theorem letters_last (rs : List Int) : itAt (lettersM rs) (heldL rs).length = leastF (heldL rs) := by
  unfold lettersM itAt
  simp
theorem parM_bound (t : Mach) (n : Int) (h0 : 0 ≤ n) (h9 : n ≤ 9) (L : Nat) (hL : L ≤ 4) (q : Int) (rs : List Int) (hl : rs.length ≤ 3) (k : Nat) (hk : k ≤ 4) : 0 ≤ parM t n L q rs k ∧ parM t n L q rs k ≤ 1000000 := by
  have hp : ((12 ^ L : Nat) : Int) ≤ 20736 := by
    have h : L = 0 ∨ L = 1 ∨ L = 2 ∨ L = 3 ∨ L = 4 := by omega
    rcases h with rfl | rfl | rfl | rfl | rfl <;> decide
  have hc := fun c => cntM_bound t n h0 h9 L (stepM t (q, rs) c).1 (stepM t (q, rs) c).2 (by rw [stepM_len]; exact hl)
  have hb := sumI_bound (l := List.range k) (f := termM t n L q rs) (B := 186624) (fun i _ => by
    unfold termM
    split
    · have := hc (itAt (heldL rs) i); omega
    · obtain ⟨f0, f1⟩ := hc (leastF (heldL rs))
      split
      · have h4 : (n - ((heldL rs).length : Int)) * cntM t n L (stepM t (q, rs) (leastF (heldL rs))).1 (stepM t (q, rs) (leastF (heldL rs))).2 ≤ 9 * cntM t n L (stepM t (q, rs) (leastF (heldL rs))).1 (stepM t (q, rs) (leastF (heldL rs))).2 := Int.mul_le_mul_of_nonneg_right (by omega) f0
        exact ⟨Int.mul_nonneg (by omega) f0, by omega⟩
      · omega)
  rw [List.length_range] at hb
  unfold parM
  omega
end Go.Proofs.Ytcginiklekdbgaa
end

section
namespace Go.Proofs.Ytcginiklekdbgaa
open Go.RowKit Go.Sort
set_option linter.unusedVariables false

set_option maxRecDepth 100000 in
set_option maxHeartbeats 8000000 in
theorem l7Count_any (t : Mach) (g : Good t) (n : Int) (hn0 : 0 ≤ n) (hn9 : n ≤ 9) : ∀ (L : Nat), L ≤ 5 → ∀ (x : Value) (q : Int) (rs : List Int) (V : Option Addr) (cv : Nat) (w : World), MachIx w x t → 0 ≤ q → q < t.st → rs.length = t.rg.toNat → IntsAt w V rs → (V = none → cv = 0) →
    Calls Try.prog 34 #[x, .int .i64 q, .slice V rs.length cv, .int .i64 ((L : Nat) : Int), .int .i64 n] w fun e w' => e = .returned (.int .i64 (cntM t n L q rs)) ∧ Below w.heap.size w w' := by
  intro L
  induction L with
  | zero =>
    intro _ x q rs V cv w hx hq0 hq1 hl hV hz
    have hX := Lib.hid hx
    obtain ⟨A, c, B, d, rfl, hbools, hrest⟩ := hx
    obtain ⟨W, hW⟩ : ∃ W, W = w.alloc (.cells #[.int .i64 t.st, .int .i64 t.rg, .slice A t.ac.length c, .slice B t.mv.length d] 27) := ⟨_, rfl⟩
    have hbW : Below w.heap.size w W := by rw [hW]; exact (Below.refl _ _).alloc (Nat.le_refl _) _
    have hkW : W.heap[w.heap.size]? = some (.cells #[.int .i64 t.st, .int .i64 t.rg, .slice A t.ac.length c, .slice B t.mv.length d] 27) := by rw [hW]; exact heap_alloc_new w _
    obtain ⟨d0, d1, d2, d3⟩ := MachK.row4 hkW
    have hlt0 : w.heap.size < W.heap.size := MachK.box_lt hkW
    have HCC : Hid (∀ w' : World, Below W.heap.size W w' → w'.cell? ⟨w.heap.size, 0, none⟩ = some (.int .i64 t.st) ∧ w'.cell? ⟨w.heap.size, 1, none⟩ = some (.int .i64 t.rg) ∧ w'.cell? ⟨w.heap.size, 2, none⟩ = some (.slice A t.ac.length c) ∧ w'.cell? ⟨w.heap.size, 3, none⟩ = some (.slice B t.mv.length d)) :=
      Lib.hid fun w' h => ⟨(h.cell (p := ⟨w.heap.size, 0, none⟩) hlt0).trans d0, (h.cell (p := ⟨w.heap.size, 1, none⟩) hlt0).trans d1, (h.cell (p := ⟨w.heap.size, 2, none⟩) hlt0).trans d2, (h.cell (p := ⟨w.heap.size, 3, none⟩) hlt0).trans d3⟩
    have HW := Lib.hid hW
    have HBW := Lib.hid hbW
    clear hkW hW
    have hal := g.al
    have hs9 := g.s9
    have hcnt : cntM t n 0 q rs = if btAt t.ac q.toNat = true then 1 else 0 := rfl
    rw [hcnt]
    obtain ⟨j, rfl⟩ : ∃ j : Nat, q = j := ⟨q.toNat, by omega⟩
    rw [Int.toNat_natCast]
    have hjl : j < t.ac.length := by omega
    have hl9 : t.ac.length ≤ 9 := by omega
    obtain ⟨b1, o1, rfl, hbl, hc1⟩ := hbools.below hbW (by omega)
    have c1 := hc1 j hjl
    clear hrest hV hz hcnt hal hc1 hX hl
    generalize btAt t.ac j = b at *
    generalize t.ac.length = la at *
    generalize rs.length = rl at *
    cases b with
    | true =>
      go_enter Try.func34, Try.ntmps34
      go_upto_region 1 with fail
      rw [← HW.out]
      clear HW
      go_wp2
      go_ret
      exact ⟨rfl, hbW⟩
    | false =>
      go_enter Try.func34, Try.ntmps34
      go_upto_region 1 with fail
      rw [← HW.out]
      clear HW
      go_wp2
      go_ret
      exact ⟨rfl, hbW⟩
  | succ L ih =>
    intro hL x q rs V cv w hx hq0 hq1 hl hV hz
    have hX := Lib.hid hx
    obtain ⟨A, c, B, d, rfl, hbools, hrest⟩ := hx
    obtain ⟨W, hW⟩ : ∃ W, W = w.alloc (.cells #[.int .i64 t.st, .int .i64 t.rg, .slice A t.ac.length c, .slice B t.mv.length d] 27) := ⟨_, rfl⟩
    have hbW : Below w.heap.size w W := by rw [hW]; exact (Below.refl _ _).alloc (Nat.le_refl _) _
    have hkW : W.heap[w.heap.size]? = some (.cells #[.int .i64 t.st, .int .i64 t.rg, .slice A t.ac.length c, .slice B t.mv.length d] 27) := by rw [hW]; exact heap_alloc_new w _
    obtain ⟨d0, d1, d2, d3⟩ := MachK.row4 hkW
    have hlt0 : w.heap.size < W.heap.size := MachK.box_lt hkW
    have HCC : Hid (∀ w' : World, Below W.heap.size W w' → w'.cell? ⟨w.heap.size, 0, none⟩ = some (.int .i64 t.st) ∧ w'.cell? ⟨w.heap.size, 1, none⟩ = some (.int .i64 t.rg) ∧ w'.cell? ⟨w.heap.size, 2, none⟩ = some (.slice A t.ac.length c) ∧ w'.cell? ⟨w.heap.size, 3, none⟩ = some (.slice B t.mv.length d)) :=
      Lib.hid fun w' h => ⟨(h.cell (p := ⟨w.heap.size, 0, none⟩) hlt0).trans d0, (h.cell (p := ⟨w.heap.size, 1, none⟩) hlt0).trans d1, (h.cell (p := ⟨w.heap.size, 2, none⟩) hlt0).trans d2, (h.cell (p := ⟨w.heap.size, 3, none⟩) hlt0).trans d3⟩
    have HW := Lib.hid hW
    have HBW := Lib.hid hbW
    clear hkW hW
    have hr3 := g.r3
    have hl3 : rs.length ≤ 3 := by omega
    have hlet := l7Letters_any V cv rs W (hV.below hbW) (by omega)
    have hh3 := heldL_len rs
    have hln := lettersM_len rs
    have HST := Lib.hid (fun (a : Int) (W' : World) (h : Below W.heap.size W W') => l7Step_any t g _ q a rs V cv W' (hX.out.below (hbW.trans (h.mono hbW.size))) hq0 hq1 hl (hV.below (hbW.trans (h.mono hbW.size))) hz)
    have HIH := Lib.hid (fun (q' : Int) (rs' : List Int) (V' : Option Addr) (cv' : Nat) (W' : World) (h : Below W.heap.size W W') => ih (by omega) _ q' rs' V' cv' W' (hX.out.below (hbW.trans (h.mono hbW.size))))
    have HSO := Lib.hid (fun (a : Int) => stepM_ok g (p := (q, rs)) ⟨hq0, hq1, hl⟩ a)
    have HPN := Lib.hid (fun k => parM_next t n L q rs k)
    have HPB := Lib.hid (fun k (h : k ≤ 4) => parM_bound t n hn0 hn9 L (by omega) q rs hl3 k h)
    have HCB := Lib.hid (fun (q' : Int) (rs' : List Int) (h : rs'.length ≤ 3) => cntM_bound t n hn0 hn9 L q' rs' h)
    have hp12 : ((12 ^ L : Nat) : Int) ≤ 20736 := by
      have h : L = 0 ∨ L = 1 ∨ L = 2 ∨ L = 3 ∨ L = 4 := by omega
      rcases h with rfl | rfl | rfl | rfl | rfl <;> decide
    have HALL := Lib.hid (parM_all t n L q rs)
    have HRL := Lib.hid hl
    have HLH := Lib.hid (fun k (h : k < (heldL rs).length) => letters_held h)
    have HLL := Lib.hid (letters_last rs)
    have hsw : Hid (stored rs (mvOf t q rs 0).2 0 = stored rs (mvOf t q rs 0).2 0) := Lib.hid rfl
    obtain ⟨m, hm⟩ : ∃ m : Int, m = ((L + 1 : Nat) : Int) := ⟨_, rfl⟩
    have HM := Lib.hid (show ((L : Nat) : Int) = m - 1 by omega)
    have hmne : (m == 0) = false := by simp only [beq_eq_false_iff_ne]; omega
    have hm5 : m ≤ 5 := by omega
    have hm1 : 1 ≤ m := by omega
    rw [← hm, ← HALL.out]
    obtain ⟨hn', hhn⟩ : ∃ h : Nat, h = (heldL rs).length := ⟨_, rfl⟩
    rw [← hhn] at hh3 hln ⊢
    have HHN := Lib.hid hhn
    obtain ⟨rl, hrl⟩ : ∃ r : Nat, r = rs.length := ⟨_, rfl⟩
    rw [← hrl] at hlet hh3 hl3 ⊢
    have HRR := Lib.hid hrl
    clear hrest hbools hm hsw hhn hrl hl hV hz
    go_enter Try.func34, Try.ntmps34
    go_wp2_with fail
    rw [← HW.out]
    clear HW
    refine hlet.mono ?_
    rintro e w1 ⟨v, rfl, hov, hb1⟩
    clear hlet
    obtain ⟨Lv, lc, rfl, _⟩ := own_intsAt hov
    have hlnI : ((lettersM rs).length : Int) = hn' + 1 := by omega
    obtain ⟨ll, hll⟩ : ∃ r : Nat, r = (lettersM rs).length := ⟨_, rfl⟩
    rw [← hll] at hov hln hlnI ⊢
    have HLN := Lib.hid hll
    clear hll
    go_wp2
    go_loopw [11, 13, 14, 15, 16, 17, 29] (fun s _ _ _ _ _ i wr => ∃ k : Nat, k ≤ ll ∧ i = .int .i64 k ∧ s = .int .i64 (parM t n L q rs k) ∧ Below w1.heap.size w1 wr) (fun _ _ _ _ _ _ i _ => ll - (intOf i).toNat)
    case atStart => exact ⟨0, Nat.zero_le _, rfl, rfl, Below.refl _ _⟩
    case round =>
      obtain ⟨k, hk, rfl, rfl, hb⟩ := hrel
      have hbW1 := hb1.trans (hb.mono hb1.size)
      by_cases hlt : k < ll
      · have hov2 := own_below hov hb
        have hAv : IntsAt wr Lv (lettersM rs) := by
          obtain ⟨Aq, cq, eq, hA⟩ := own_intsAt (l := lettersM rs) (by rw [← HLN.out]; exact hov2)
          simp only [Value.slice.injEq] at eq
          rw [eq.1]
          exact hA
        obtain ⟨b1, o1, rfl, hbl, hc1⟩ := hAv (by have := HLN.out; omega)
        have c1 := hc1 k (by have := HLN.out; omega)
        obtain ⟨e0, e1, e2, e3⟩ := HCC.out wr hbW1
        have hpn := Lib.hid (HPN.out k)
        have hpb := HPB.out k (by omega)
        have hpb2 := HPB.out (k + 1) (by omega)
        have hlet : Hid (k < hn' → itAt (lettersM rs) k = itAt (heldL rs) k) := Lib.hid (fun h => HLH.out k (by rw [← HHN.out]; exact h))
        have hlas : Hid (k = hn' → itAt (lettersM rs) k = leastF (heldL rs)) := Lib.hid (fun h => by rw [h, HHN.out]; exact HLL.out)
        have hstp : Calls Try.prog 49 #[_, .int .i64 q, .slice V rs.length cv, .int .i64 (itAt (lettersM rs) k)] wr (NumRow (stepM t (q, rs) (itAt (lettersM rs) k)).1 (stepM t (q, rs) (itAt (lettersM rs) k)).2 wr) := HST.out (itAt (lettersM rs) k) wr hbW1
        rw [← HRR.out] at hstp
        have hso := HSO.out (itAt (lettersM rs) k)
        have hterm1 : Hid (k < hn' → termM t n L q rs k = cntM t n L (stepM t (q, rs) (itAt (lettersM rs) k)).1 (stepM t (q, rs) (itAt (lettersM rs) k)).2) := Lib.hid (fun h => by unfold termM; rw [if_pos (by rw [← HHN.out]; exact h), hlet.out h])
        have hterm2 : Hid (k = hn' → 0 < n - (hn' : Int) → termM t n L q rs k = (n - hn') * cntM t n L (stepM t (q, rs) (itAt (lettersM rs) k)).1 (stepM t (q, rs) (itAt (lettersM rs) k)).2) := Lib.hid (fun h h1 => by unfold termM; rw [if_neg (by rw [← HHN.out]; omega), ← HHN.out, if_pos h1, hlas.out h])
        have hterm3 : Hid (k = hn' → ¬ 0 < n - (hn' : Int) → termM t n L q rs k = 0) := Lib.hid (fun h h1 => by unfold termM; rw [if_neg (by rw [← HHN.out]; omega), ← HHN.out, if_neg h1])
        generalize stepM t (q, rs) (itAt (lettersM rs) k) = sp at *
        obtain ⟨q1, rs1⟩ := sp
        dsimp only at hstp hterm1 hterm2
        have hrs3 : rs1.length ≤ 3 := by have := hso.2.2; have := g.r3; dsimp only at *; omega
        have hcb := HCB.out q1 rs1 hrs3
        have hrec := Lib.hid (fun (W' : World) (h : Below W.heap.size W W') (V' : Option Addr) (cv' : Nat) (h4 : IntsAt W' V' rs1) (h5 : V' = none → cv' = 0) => HIH.out q1 rs1 V' cv' W' h hso.1 hso.2.1 hso.2.2 h4 h5)
        rw [HM.out] at hrec
        generalize cntM t n L q1 rs1 = cc at *
        generalize itAt (lettersM rs) k = a at *
        generalize termM t n L q rs k = tm at *
        generalize parM t n L q rs k = s0 at *
        have hcc : 0 ≤ cc ∧ cc ≤ 20736 := by omega
        clear hcb hc1 hAv HLH HLL HST HIH HSO HPN HPB HCB HALL hlet hlas hso
        by_cases hkh : k < hn'
        · have hq : ((k : Int) == (ll : Int) - 1) = false := by simp only [beq_eq_false_iff_ne]; omega
          have hnx : Hid (parM t n L q rs (k + 1) = s0 + cc) := Lib.hid (by rw [hpn.out, hterm1.out hkh])
          rw [hnx.out] at hpb2
          clear hterm1 hterm2 hterm3 hpn
          go_wp2_with fail
          (with_reducible refine hstp.mono ?_)
          rintro e w4 ⟨v4, rfl, ho4, hb4⟩
          obtain ⟨V4, cv4, rfl, hV4⟩ := own_intsAt ho4
          have hbW4 := hbW1.trans (hb4.mono hbW1.size)
          obtain ⟨f0, f1, f2, f3⟩ := HCC.out w4 hbW4
          have hr := hrec.out w4 hbW4 V4 cv4 hV4 (MachK.nilcap ho4)
          clear hstp ho4 hV4 hrec e0 e1 e2 e3 c1
          go_wp2_with fail
          (with_reducible refine hr.mono ?_)
          rintro e w5 ⟨rfl, hb5⟩
          have hbF := hb.trans ((hb4.trans (hb5.mono hb4.size)).mono hb.size)
          clear hr f0 f1 f2 f3
          go_wp2
          refine ⟨⟨k + 1, by omega, by go_num, by rw [hnx.out], hbF⟩, ?_⟩
          simp only [intOf]
          omega
        · have ek : k = hn' := by omega
          have hq : ((k : Int) == (ll : Int) - 1) = true := by simp only [beq_iff_eq]; omega
          by_cases hw : 0 < n - (k : Int)
          · have hnx : Hid (parM t n L q rs (k + 1) = s0 + (n - k) * cc) := Lib.hid (by rw [hpn.out, hterm2.out ek (by rw [← ek]; exact hw), ← ek])
            have hW1 : 0 ≤ (n - (k : Int)) * cc := Int.mul_nonneg (by omega) hcc.1
            have hW2 : (n - (k : Int)) * cc ≤ 200000 := by have := Int.mul_le_mul_of_nonneg_right (show n - (k : Int) ≤ 9 by omega) hcc.1; omega
            rw [hnx.out] at hpb2
            clear hterm1 hterm2 hterm3 hpn ek
            go_wp2_with fail
            (with_reducible refine hstp.mono ?_)
            rintro e w4 ⟨v4, rfl, ho4, hb4⟩
            obtain ⟨V4, cv4, rfl, hV4⟩ := own_intsAt ho4
            have hbW4 := hbW1.trans (hb4.mono hbW1.size)
            obtain ⟨f0, f1, f2, f3⟩ := HCC.out w4 hbW4
            have hr := hrec.out w4 hbW4 V4 cv4 hV4 (MachK.nilcap ho4)
            clear hstp ho4 hV4 hrec e0 e1 e2 e3 c1
            go_wp2_with fail
            (with_reducible refine hr.mono ?_)
            rintro e w5 ⟨rfl, hb5⟩
            have hbF := hb.trans ((hb4.trans (hb5.mono hb4.size)).mono hb.size)
            clear hr f0 f1 f2 f3
            go_wp2
            refine ⟨⟨k + 1, by omega, by go_num, by rw [hnx.out], hbF⟩, ?_⟩
            simp only [intOf]
            omega
          · have hnx : Hid (parM t n L q rs (k + 1) = s0) := Lib.hid (by rw [hpn.out, hterm3.out ek (by rw [← ek]; exact hw)]; omega)
            have hwz : ¬ 0 < n - (k : Int) := hw
            have hwy : n - (k : Int) ≤ 0 := by omega
            clear hterm1 hterm2 hterm3 hpn hpb2 ek hw
            go_wp2
            refine ⟨⟨k + 1, by omega, by go_num, by rw [hnx.out], hb⟩, ?_⟩
            simp only [intOf]
            omega
      · have e : k = hn' + 1 := by omega
        have hfin : Hid (parM t n L q rs k = parM t n L q rs (hn' + 1)) := Lib.hid (by rw [e])
        have hend := hbW.trans (hbW1.mono hbW.size)
        clear HPN HPB HIH HST HCB
        go_wp2
        go_ret
        exact ⟨int_end hfin.out, hend⟩
end Go.Proofs.Ytcginiklekdbgaa
end

section
namespace Go.Proofs.Ytcginiklekdbgaa
open Go.RowKit Go.Sort
set_option linter.unusedVariables false

/-- How many words are counted. -/
def cwB (t : Mach) (l n : Int) : Bool := machB t && (decide (0 ≤ l ∧ l ≤ 5) && decide (0 ≤ n ∧ n ≤ 9))
def cwR (t : Mach) (l n : Int) : Int := if cwB t l n then cntM t n l.toNat 0 (List.replicate t.rg.toNat (-1)) else -1
theorem cwR_no {t : Mach} {l n : Int} (h : cwB t l n = false) : cwR t l n = -1 := by simp [cwR, h]
theorem cwR_yes {t : Mach} {l n : Int} (h1 : machB t = true) (h2 : 0 ≤ l ∧ l ≤ 5) (h3 : 0 ≤ n ∧ n ≤ 9) : cwR t l n = cntM t n l.toNat 0 (List.replicate t.rg.toNat (-1)) := by simp [cwR, cwB, h1, h2, h3]
set_option maxRecDepth 100000 in
set_option maxHeartbeats 4000000 in
theorem countWords_spec (t : Mach) (hf : FitM t) (l n : Int) (x : Value) (w : World) (hx : MachIx w x t) :
    Calls Try.prog 16 #[x, .int .i64 l, .int .i64 n] w fun e w' => e = .returned (.int .i64 (cwR t l n)) ∧ Below w.heap.size w w' := by
  have hX := Lib.hid hx
  obtain ⟨A, c, B, d, rfl, hbools, hrest⟩ := hx
  obtain ⟨W, hW⟩ : ∃ W, W = w.alloc (.cells #[.int .i64 t.st, .int .i64 t.rg, .slice A t.ac.length c, .slice B t.mv.length d] 27) := ⟨_, rfl⟩
  have hbW : Below w.heap.size w W := by rw [hW]; exact (Below.refl _ _).alloc (Nat.le_refl _) _
  have hkW : W.heap[w.heap.size]? = some (.cells #[.int .i64 t.st, .int .i64 t.rg, .slice A t.ac.length c, .slice B t.mv.length d] 27) := by rw [hW]; exact heap_alloc_new w _
  obtain ⟨d0, d1, d2, d3⟩ := MachK.row4 hkW
  have hlt0 : w.heap.size < W.heap.size := MachK.box_lt hkW
  have HCC : Hid (∀ w' : World, Below W.heap.size W w' → w'.cell? ⟨w.heap.size, 0, none⟩ = some (.int .i64 t.st) ∧ w'.cell? ⟨w.heap.size, 1, none⟩ = some (.int .i64 t.rg) ∧ w'.cell? ⟨w.heap.size, 2, none⟩ = some (.slice A t.ac.length c) ∧ w'.cell? ⟨w.heap.size, 3, none⟩ = some (.slice B t.mv.length d)) :=
    Lib.hid fun w' h => ⟨(h.cell (p := ⟨w.heap.size, 0, none⟩) hlt0).trans d0, (h.cell (p := ⟨w.heap.size, 1, none⟩) hlt0).trans d1, (h.cell (p := ⟨w.heap.size, 2, none⟩) hlt0).trans d2, (h.cell (p := ⟨w.heap.size, 3, none⟩) hlt0).trans d3⟩
  have HW := Lib.hid hW
  have HBW := Lib.hid hbW
  clear hkW hW
  have hm := isMachine_spec t (by unfold FitM at hf; omega) _ W (hX.out.below hbW).in_
  clear hbools hrest hbW
  by_cases hmb : machB t = true
  case neg =>
    have hmb : machB t = false := by simpa using hmb
    rw [cwR_no (by simp [cwB, hmb])]
    rw [hmb] at hm
    clear hmb
    go_enter Try.func16, Try.ntmps16
    go_wp2_with fail
    rw [← HW.out]
    (with_reducible refine hm.mono ?_)
    rintro e w1 ⟨rfl, hb1⟩
    have hbz := HBW.out.trans (hb1.mono HBW.out.size)
    clear hm d0 d1 d2 d3
    go_wp2
    go_ret
    exact ⟨rfl, hbz⟩
  by_cases hl : 0 ≤ l ∧ l ≤ 5
  case neg =>
    have hi1 := fun W => inR_is l 0 5 false (decide_eq_false hl).symm W
    rw [cwR_no (by simp [cwB, hl])]
    rw [hmb] at hm
    clear hmb hl
    go_enter Try.func16, Try.ntmps16
    go_wp2_with fail
    rw [← HW.out]
    (with_reducible refine hm.mono ?_)
    rintro e w1 ⟨rfl, hb1⟩
    have hbz := HBW.out.trans (hb1.mono HBW.out.size)
    clear hm d0 d1 d2 d3
    go_wp2_with ((with_reducible refine (hi1 _).mono ?_); rintro e w9 ⟨rfl, rfl⟩)
    go_ret
    exact ⟨rfl, hbz⟩
  by_cases hn : 0 ≤ n ∧ n ≤ 9
  case neg =>
    have hi1 := fun W => inR_is l 0 5 true (decide_eq_true hl).symm W
    have hi2 := fun W => inR_is n 0 9 false (decide_eq_false hn).symm W
    rw [cwR_no (by simp [cwB, hn])]
    rw [hmb] at hm
    clear hmb hl hn
    go_enter Try.func16, Try.ntmps16
    go_wp2_with fail
    rw [← HW.out]
    (with_reducible refine hm.mono ?_)
    rintro e w1 ⟨rfl, hb1⟩
    have hbz := HBW.out.trans (hb1.mono HBW.out.size)
    clear hm d0 d1 d2 d3
    go_wp2_with ((first | ((with_reducible refine (hi1 _).mono ?_); rintro e w9 ⟨rfl, rfl⟩) | ((with_reducible refine (hi2 _).mono ?_); rintro e w9 ⟨rfl, rfl⟩)))
    go_ret
    exact ⟨rfl, hbz⟩
  have hi1 := fun W => inR_is l 0 5 true (decide_eq_true hl).symm W
  have hi2 := fun W => inR_is n 0 9 true (decide_eq_true hn).symm W
  have g := good_of hmb
  obtain ⟨L, rfl⟩ : ∃ L : Nat, l = L := ⟨l.toNat, by omega⟩
  rw [cwR_yes hmb hl hn, Int.toNat_natCast]
  rw [hmb] at hm
  have hs1 := g.s1
  have HST := Lib.hid (fun (W' : World) (h : Below W.heap.size W W') => l7Start_any t g _ W' (hX.out.below (HBW.out.trans (h.mono HBW.out.size))))
  have HCT := Lib.hid (fun (V : Option Addr) (cv : Nat) (W' : World) (h : Below W.heap.size W W') (h4 : IntsAt W' V (List.replicate t.rg.toNat (-1))) (h5 : V = none → cv = 0) => l7Count_any t g n hn.1 hn.2 L (by omega) _ 0 (List.replicate t.rg.toNat (-1)) V cv W' (hX.out.below (HBW.out.trans (h.mono HBW.out.size))) (Int.le_refl _) (by omega) List.length_replicate h4 h5)
  have hlen : (List.replicate t.rg.toNat (-1 : Int)).length = t.rg.toNat := List.length_replicate
  generalize hRP : List.replicate t.rg.toNat (-1 : Int) = rp at *
  generalize cntM t n L 0 rp = cc at *
  have HLN := Lib.hid hlen
  clear hmb hl hn hRP hlen hs1 g
  go_enter Try.func16, Try.ntmps16
  go_wp2_with fail
  rw [← HW.out]
  (with_reducible refine hm.mono ?_)
  rintro e w1 ⟨rfl, hb1⟩
  have hbz := HBW.out.trans (hb1.mono HBW.out.size)
  clear hm d0 d1 d2 d3 HW
  go_wp2_with ((first | ((with_reducible refine (hi1 _).mono ?_); rintro e w9 ⟨rfl, rfl⟩) | ((with_reducible refine (hi2 _).mono ?_); rintro e w9 ⟨rfl, rfl⟩)))
  have hdw : Below W.heap.size W w1.drew := ⟨hb1.os, hb1.tape, hb1.output, hb1.size, hb1.block⟩
  obtain ⟨u0, u1, u2, u3⟩ := HCC.out w1.drew hdw
  have hst := HST.out w1.drew hdw
  clear hi1 hi2
  go_region_held3 (fun w' => w'.cell? ⟨w.heap.size, 0, none⟩ = some (.int .i64 t.st) ∧ w'.cell? ⟨w.heap.size, 1, none⟩ = some (.int .i64 t.rg) ∧ w'.cell? ⟨w.heap.size, 2, none⟩ = some (.slice A t.ac.length c) ∧ w'.cell? ⟨w.heap.size, 3, none⟩ = some (.slice B t.mv.length d))
    (first | (with_reducible exact ⟨by assumption, by assumption, by assumption, by assumption⟩) | ((try dsimp only); (with_reducible exact ⟨by assumption, by assumption, by assumption, by assumption⟩)) | go_keep)
    (first
      | (go_at_call 35; (with_reducible refine hst.mono ?_); rintro e w2 ⟨v2, rfl, ho2, hb2⟩; have hbW2 := hdw.trans (hb2.mono hdw.size); obtain ⟨p0, p1, p2, p3⟩ := HCC.out w2 hbW2; obtain ⟨V2, cv2, rfl, hV2⟩ := own_intsAt ho2; have hct := HCT.out V2 cv2 w2 hbW2 hV2 (MachK.nilcap ho2))
      | (go_at_call 34; (with_reducible refine hct.mono ?_); rintro e w3 ⟨rfl, hb3⟩; have hbW3 := hbW2.trans (hb3.mono hbW2.size); obtain ⟨r0, r1, r2, r3⟩ := HCC.out w3 hbW3)
      | fail)
  have hend := HBW.out.trans (hbW3.mono HBW.out.size)
  clear hst hct ho2 hV2 HST HCT
  go_wp2
  go_ret
  exact ⟨rfl, hend⟩
end Go.Proofs.Ytcginiklekdbgaa
end

