/-
  Words counted by a machine: the sum over plain words, and the sum over the letters that lead on differently, are the same; plain words, no program is walked here. Words counted by a machine are the words told one by one; plain words, no program is walked here. What a machine does with a word, in the model: words and empty registers, as contracts. A letter read by a machine, in the model, as a contract. RunMachine and AcceptsWord in the model, as contracts. The letters that lead on differently, in the model, as a contract. Words counted in the model, as a contract. Words counted in the model: the walk, as a contract. CountWords in the model, as a contract.
-/
import Derived.Test.YthacnbeckhdhiaaKComplement11
import Derived.Test.YthacnbeckhdhiaaKComplement14
import Derived.Test.YthacnbeckhdhiaaKComplement2
import Derived.Test.YthacnbeckhdhiaaKComplement13
import Derived.Test.YthacnbeckhdhiaaKComplement6
import Derived.Deep.DeepCutAuto
import Derived.Deep.RegionHeld3
section
namespace Go.Proofs.Ythacnbeckhdhiaa
open Go.RowKit
set_option linter.unusedVariables false

/-- A sum. -/
def sumI : List Int → Int
  | [] => 0
  | x :: r => x + sumI r
theorem sumI_append : ∀ a b : List Int, sumI (a ++ b) = sumI a + sumI b
  | [], b => by simp [sumI]
  | x :: r, b => by rw [List.cons_append, sumI, sumI, sumI_append r b]; omega
theorem sumI_flat {α β : Type} (f : β → Int) (g : α → List β) : ∀ l : List α, sumI ((l.flatMap g).map f) = sumI (l.map fun x => sumI ((g x).map f))
  | [] => rfl
  | x :: r => by rw [List.flatMap_cons, List.map_append, sumI_append, sumI_flat f g r, List.map_cons, sumI]
theorem sumI_congr {α : Type} {f g : α → Int} : ∀ {l : List α}, (∀ x ∈ l, f x = g x) → sumI (l.map f) = sumI (l.map g)
  | [], _ => rfl
  | x :: r, h => by
    rw [List.map_cons, List.map_cons, sumI, sumI, h x List.mem_cons_self, sumI_congr fun y hy => h y (List.mem_cons_of_mem _ hy)]
/-- Two lists without doubles that have the same members have the same sum. -/
theorem sumI_same {f : Int → Int} : ∀ {l m : List Int}, l.Nodup → m.Nodup → (∀ a, a ∈ l ↔ a ∈ m) → sumI (l.map f) = sumI (m.map f)
  | [], m, _, _, h => by
    have e : m = [] := by
      cases m with
      | nil => rfl
      | cons x r => exact absurd ((h x).2 List.mem_cons_self) (by simp)
    rw [e]
  | a :: r, m, hl, hm, h => by
    rw [List.nodup_cons] at hl
    obtain ⟨s, t, rfl⟩ := List.append_of_mem ((h a).1 List.mem_cons_self)
    rw [List.nodup_append, List.nodup_cons] at hm
    obtain ⟨hs, ⟨hat, ht⟩, hst⟩ := hm
    have ha : a ∉ s := fun e => hst a e a List.mem_cons_self rfl
    have ih := sumI_same (f := f) (l := r) (m := s ++ t) hl.2 (by
      rw [List.nodup_append]
      exact ⟨hs, ht, fun x hx y hy => hst x hx y (List.mem_cons_of_mem _ hy)⟩) (fun b => by
      have hb := h b
      simp only [List.mem_cons, List.mem_append] at hb ⊢
      constructor
      · intro hbr
        have hne : b ≠ a := fun e => hl.1 (e ▸ hbr)
        rcases hb.1 (.inr hbr) with h1 | h1 | h1
        · exact .inl h1
        · exact absurd h1 hne
        · exact .inr h1
      · intro hbs
        have hne : b ≠ a := fun e => by
          rcases hbs with h1 | h1
          · exact ha (e ▸ h1)
          · exact hat (e ▸ h1)
        rcases hb.2 (by rcases hbs with h1 | h1; exact .inl h1; exact .inr (.inr h1)) with h1 | h1
        · exact absurd h1 hne
        · exact h1)
    rw [List.map_cons, sumI, ih, List.map_append, List.map_append, sumI_append, sumI_append, List.map_cons, sumI]
    omega

/-- Two letters exchanged. -/
def exL (a b x : Int) : Int := if x = a then b else if x = b then a else x
theorem exL_inv (a b x : Int) : exL a b (exL a b x) = x := by
  unfold exL
  by_cases h1 : x = a <;> by_cases h2 : x = b <;> simp_all
theorem exL_inj {a b x y : Int} (h : exL a b x = exL a b y) : x = y := by rw [← exL_inv a b x, h, exL_inv]
theorem exL_left (a b : Int) : exL a b a = b := by simp [exL]
theorem exL_same {a b x : Int} (h1 : x ≠ a) (h2 : x ≠ b) : exL a b x = x := by simp [exL, h1, h2]
theorem exL_pos {a b x : Int} (ha : 0 ≤ a) (hb : 0 ≤ b) : 0 ≤ exL a b x ↔ 0 ≤ x := by
  unfold exL
  by_cases h1 : x = a
  · rw [if_pos h1]; omega
  · rw [if_neg h1]
    by_cases h2 : x = b
    · rw [if_pos h2]; omega
    · rw [if_neg h2]
theorem setN_ex (a b : Int) : ∀ (rs : List Int) (c : Int), setN (rs.map (exL a b)) (exL a b c) = setN rs c
  | [], c => rfl
  | r :: rs, c => by
    rw [List.map_cons, setN, setN, setN_ex a b rs c]
    by_cases h : r = c
    · rw [if_pos h, if_pos (by rw [h])]
    · rw [if_neg h, if_neg (fun e => h (exL_inj e))]
theorem stepM_ex (t : Mach) (a b q c : Int) (rs : List Int) : stepM t (q, rs.map (exL a b)) (exL a b c) = ((stepM t (q, rs) c).1, (stepM t (q, rs) c).2.map (exL a b)) := by
  have hm : mvOf t q (rs.map (exL a b)) (exL a b c) = mvOf t q rs c := by unfold mvOf mvIx; rw [setN_ex]
  unfold stepM
  simp only [hm]
  unfold stored
  by_cases h : 0 ≤ (mvOf t q rs c).2
  · rw [if_pos h, if_pos h, List.map_set]
  · rw [if_neg h, if_neg h]
/-- The letters that the registers hold, ascending. -/
def heldL (rs : List Int) : List Int := insAll [] (rs.filter fun a => decide (0 ≤ a))
theorem mem_heldL {rs : List Int} {a : Int} : a ∈ heldL rs ↔ a ∈ rs ∧ 0 ≤ a := by
  unfold heldL
  rw [mem_insAll, List.mem_filter]
  simp
theorem heldL_nodup (rs : List Int) : (heldL rs).Nodup := (asc_insAll [] _ List.Pairwise.nil).imp fun h => Int.ne_of_lt h
theorem leastF_not {l : List Int} (h : leastF l ≠ -1) : leastF l ∉ l := by
  unfold leastF at h ⊢
  cases hf : (List.range 1000).find? (fun a : Nat => !hasB l (a : Int)) with
  | none => rw [hf] at h; exact absurd rfl h
  | some a =>
    have := List.find?_some hf
    simp only [Bool.not_eq_true'] at this
    intro hm
    unfold hasB at this
    rw [List.contains_iff_mem.2 hm] at this
    cases this
theorem leastF_pos {l : List Int} (h : leastF l ≠ -1) : 0 ≤ leastF l := by
  unfold leastF at h ⊢
  cases hf : (List.range 1000).find? (fun a : Nat => !hasB l (a : Int)) with
  | none => rw [hf] at h; exact absurd rfl h
  | some a => exact Int.natCast_nonneg a
theorem pigeon : ∀ (k : Nat) (l : List Int), (∀ b : Nat, b < k → (b : Int) ∈ l) → k ≤ l.length
  | 0, l, _ => Nat.zero_le _
  | k + 1, l, h => by
    obtain ⟨s, t, rfl⟩ := List.append_of_mem (h k (by omega))
    have ih := pigeon k (s ++ t) fun b hb => by
      have h1 := h b (by omega)
      rw [List.mem_append, List.mem_cons] at h1
      rw [List.mem_append]
      rcases h1 with h1 | h1 | h1
      · exact .inl h1
      · omega
      · exact .inr h1
    rw [List.length_append, List.length_cons]
    rw [List.length_append] at ih
    omega
theorem leastF_ne {l : List Int} (h : l.length < 1000) : leastF l ≠ -1 := by
  rcases leastF_cases l with ⟨_, hb⟩ | ⟨a, _, e, _⟩
  · have := pigeon 1000 l fun b hb' => by
      have h1 := hb b hb'
      unfold hasB at h1
      exact List.contains_iff_mem.1 h1
    omega
  · rw [e]; omega
theorem len_insL : ∀ (l : List Int) (n : Int), (insL l n).length ≤ l.length + 1
  | [], n => Nat.le_refl _
  | x :: r, n => by
    unfold insL
    split
    · exact Nat.le_refl _
    · split
      · exact Nat.le_succ _
      · have := len_insL r n
        rw [List.length_cons, List.length_cons]; omega
theorem len_insAll : ∀ (xs acc : List Int), (insAll acc xs).length ≤ acc.length + xs.length
  | [], acc => Nat.le_refl _
  | x :: r, acc => by
    have h1 := len_insAll r (insL acc x)
    have h2 := len_insL acc x
    have e : insAll acc (x :: r) = insAll (insL acc x) r := rfl
    rw [e, List.length_cons]
    omega
theorem heldL_len (rs : List Int) : (heldL rs).length ≤ rs.length := by
  have h := len_insAll (rs.filter fun a => decide (0 ≤ a)) []
  have h2 := List.length_filter_le (fun a => decide (0 ≤ a)) rs
  unfold heldL
  rw [List.length_nil] at h
  omega
/-- How many words of a length a machine accepts from a place, with letters of n atoms, as the model counts. -/
def cntM (t : Mach) (n : Int) : Nat → Int → List Int → Int
  | 0, q, _ => if btAt t.ac q.toNat then 1 else 0
  | L + 1, q, rs => sumI ((heldL rs).map fun a => cntM t n L (stepM t (q, rs) a).1 (stepM t (q, rs) a).2) +
      (if 0 < n - (heldL rs).length then (n - (heldL rs).length) * cntM t n L (stepM t (q, rs) (leastF (heldL rs))).1 (stepM t (q, rs) (leastF (heldL rs))).2 else 0)
theorem stepM_len (t : Mach) (q c : Int) (rs : List Int) : (stepM t (q, rs) c).2.length = rs.length := stored_len _ _ _
/-- Two letters that no register holds exchanged: nothing changes. -/
theorem map_ex_same {a b : Int} {rs : List Int} (ha : a ∉ rs) (hb : b ∉ rs) : rs.map (exL a b) = rs := by
  induction rs with
  | nil => rfl
  | cons r rs ih =>
    rw [List.map_cons, exL_same (fun e : r = a => ha (by rw [← e]; exact List.mem_cons_self)) (fun e : r = b => hb (by rw [← e]; exact List.mem_cons_self)), ih (fun h => ha (List.mem_cons_of_mem _ h)) (fun h => hb (List.mem_cons_of_mem _ h))]
/-- Exchanging letters does not change the count. -/
theorem cntM_ex (t : Mach) (n : Int) : ∀ (L : Nat) (q : Int) (rs : List Int) (a b : Int), 0 ≤ a → 0 ≤ b → rs.length < 1000 → cntM t n L q (rs.map (exL a b)) = cntM t n L q rs
  | 0, q, rs, a, b, _, _, _ => rfl
  | L + 1, q, rs, a, b, ha, hb, hl => by
    have hstep : ∀ c, cntM t n L (stepM t (q, rs.map (exL a b)) (exL a b c)).1 (stepM t (q, rs.map (exL a b)) (exL a b c)).2 = cntM t n L (stepM t (q, rs) c).1 (stepM t (q, rs) c).2 := fun c => by
      rw [stepM_ex]
      exact cntM_ex t n L _ _ a b ha hb (by rw [stepM_len]; exact hl)
    have hmem : ∀ x, x ∈ heldL (rs.map (exL a b)) ↔ x ∈ (heldL rs).map (exL a b) := fun x => by
      rw [mem_heldL, List.mem_map, List.mem_map]
      constructor
      · rintro ⟨⟨y, hy, rfl⟩, h0⟩
        exact ⟨y, mem_heldL.2 ⟨hy, (exL_pos ha hb).1 h0⟩, rfl⟩
      · rintro ⟨y, hy, rfl⟩
        have h1 := mem_heldL.1 hy
        exact ⟨⟨y, h1.1, rfl⟩, (exL_pos ha hb).2 h1.2⟩
    have hnd : ((heldL rs).map (exL a b)).Nodup := List.Pairwise.map _ (fun _ _ h e => h (exL_inj e)) (heldL_nodup rs)
    have hlen : (heldL (rs.map (exL a b))).length = (heldL rs).length := by
      have h1 := sumI_same (f := fun _ => 1) (heldL_nodup (rs.map (exL a b))) hnd hmem
      have h2 : ∀ l : List Int, sumI (l.map fun _ => 1) = l.length := fun l => by
        induction l with
        | nil => rfl
        | cons x r ih => rw [List.map_cons, sumI, ih, List.length_cons]; omega
      rw [h2, h2, List.length_map] at h1
      omega
    have hsum : sumI ((heldL (rs.map (exL a b))).map fun c => cntM t n L (stepM t (q, rs.map (exL a b)) c).1 (stepM t (q, rs.map (exL a b)) c).2) = sumI ((heldL rs).map fun c => cntM t n L (stepM t (q, rs) c).1 (stepM t (q, rs) c).2) := by
      rw [sumI_same (heldL_nodup _) hnd hmem, List.map_map]
      exact sumI_congr fun c _ => hstep c
    have hne1 : leastF (heldL rs) ≠ -1 := leastF_ne (by have := heldL_len rs; omega)
    have hne2 : leastF (heldL (rs.map (exL a b))) ≠ -1 := leastF_ne (by have := heldL_len (rs.map (exL a b)); rw [List.length_map] at this; omega)
    have hfresh : cntM t n L (stepM t (q, rs.map (exL a b)) (leastF (heldL (rs.map (exL a b))))).1 (stepM t (q, rs.map (exL a b)) (leastF (heldL (rs.map (exL a b))))).2 = cntM t n L (stepM t (q, rs) (leastF (heldL rs))).1 (stepM t (q, rs) (leastF (heldL rs))).2 := by
      have hf1 : exL a b (leastF (heldL rs)) ∉ rs.map (exL a b) := fun h => by
        obtain ⟨y, hy, e⟩ := List.mem_map.1 h
        have e2 := exL_inj e
        exact leastF_not hne1 (mem_heldL.2 ⟨e2 ▸ hy, leastF_pos hne1⟩)
      have hf2 : leastF (heldL (rs.map (exL a b))) ∉ rs.map (exL a b) := fun h => leastF_not hne2 (mem_heldL.2 ⟨h, leastF_pos hne2⟩)
      rw [← hstep (leastF (heldL rs))]
      generalize hg : exL a b (leastF (heldL rs)) = g at hf1
      have hg0 : 0 ≤ g := by rw [← hg]; exact (exL_pos ha hb).2 (leastF_pos hne1)
      have hf0 := leastF_pos hne2
      generalize leastF (heldL (rs.map (exL a b))) = f at hf2 hf0
      have h1 := stepM_ex t g f q g (rs.map (exL a b))
      rw [map_ex_same hf1 hf2, exL_left] at h1
      rw [h1]
      exact cntM_ex t n L _ _ g f hg0 hf0 (by rw [stepM_len, List.length_map]; exact hl)
    rw [cntM, cntM, hsum, hlen, hfresh]
/-- All letters that no register holds lead on to the same count. -/
theorem cntM_free (t : Mach) (n : Int) (L : Nat) (q : Int) (rs : List Int) {a b : Int} (ha : a ∉ rs) (hb : b ∉ rs) (ha0 : 0 ≤ a) (hb0 : 0 ≤ b) (hl : rs.length < 1000) :
    cntM t n L (stepM t (q, rs) a).1 (stepM t (q, rs) a).2 = cntM t n L (stepM t (q, rs) b).1 (stepM t (q, rs) b).2 := by
  have h1 := stepM_ex t a b q a rs
  rw [map_ex_same ha hb, exL_left] at h1
  rw [h1]
  exact (cntM_ex t n L _ _ a b ha0 hb0 (by rw [stepM_len]; exact hl)).symm

/-- The words that go on from a plain one by one letter, and stay plain. -/
def ext1 (p : List Int) : List (List Int) := extP 0 p
theorem ext1_eq {p : List Int} : ext1 p = (List.range ((newN 0 p).toNat + 1)).map fun c : Nat => p ++ [(c : Int)] := by
  have h := newN_ge 0 p
  unfold ext1 extP
  rw [show (newN 0 p + 1).toNat = (newN 0 p).toNat + 1 by omega]
/-- The plain words of a length. -/
def plainW : Nat → List (List Int)
  | 0 => [[]]
  | L + 1 => (plainW L).flatMap ext1
def extW : Nat → List Int → List (List Int)
  | 0, p => [p]
  | L + 1, p => (ext1 p).flatMap (extW L)
theorem extW_end : ∀ (L : Nat) (p : List Int), extW (L + 1) p = (extW L p).flatMap ext1
  | 0, p => by simp [extW]
  | L + 1, p => by
    have e : (fun p' => extW (L + 1) p') = fun p' => (extW L p').flatMap ext1 := funext fun p' => extW_end L p'
    show (ext1 p).flatMap (fun p' => extW (L + 1) p') = ((ext1 p).flatMap (extW L)).flatMap ext1
    rw [e, List.flatMap_assoc]
theorem plainW_ext : ∀ L : Nat, plainW L = extW L []
  | 0 => rfl
  | L + 1 => by rw [plainW, plainW_ext L, extW_end]
theorem runM_next (t : Mach) (p : List Int) (c : Int) : runM t (p ++ [c]) = stepM t (runM t p) c := by
  unfold runM runFrom
  rw [List.foldl_append]; rfl
theorem runFrom_mem (t : Mach) : ∀ (l : List Int) (s : Int × List Int) (x : Int), x ∈ (runFrom t s l).2 → x ∈ s.2 ∨ x ∈ l
  | [], s, x, h => .inl h
  | a :: l, s, x, h => by
    rcases runFrom_mem t l (stepM t s a) x h with h1 | h1
    · unfold stepM stored at h1
      dsimp only at h1
      split at h1
      · rcases List.mem_or_eq_of_mem_set h1 with h2 | h2
        · exact .inl h2
        · exact .inr (by rw [h2]; exact List.mem_cons_self)
      · exact .inl h1
    · exact .inr (List.mem_cons_of_mem _ h1)
theorem runM_mem {t : Mach} {l : List Int} {x : Int} (h : x ∈ (runM t l).2) : x = -1 ∨ x ∈ l := by
  rcases runFrom_mem t l _ x h with h1 | h1
  · exact .inl (List.eq_of_mem_replicate h1)
  · exact .inr h1
/-- What the numbers below m make, of which some are told by themselves and all others are alike. -/
theorem sumI_range {f : Int → Int} {Y : Int} {m : Nat} {held : List Int} (hn : held.Nodup) (hh : ∀ a ∈ held, 0 ≤ a ∧ a < m) (hy : ∀ c : Int, 0 ≤ c → c ∉ held → f c = Y) :
    held.length ≤ m ∧ sumI ((List.range m).map fun c : Nat => f c) = sumI (held.map f) + ((m : Int) - held.length) * Y := by
  let R := (List.range m).map fun c : Nat => (c : Int)
  have hR : R.Nodup := List.Pairwise.map _ (fun _ _ h e => h (Int.ofNat.inj e)) List.nodup_range
  let rest := R.filter fun c => !held.contains c
  have hrest : rest.Nodup := hR.filter _
  have hmr : ∀ a, a ∈ rest ↔ a ∈ R ∧ a ∉ held := fun a => by
    show a ∈ R.filter _ ↔ _
    rw [List.mem_filter]
    simp
  have hmR : ∀ a, a ∈ R ↔ 0 ≤ a ∧ a < m := fun a => by
    show a ∈ (List.range m).map _ ↔ _
    rw [List.mem_map]
    constructor
    · rintro ⟨c, hc, rfl⟩
      rw [List.mem_range] at hc
      omega
    · rintro ⟨h0, h1⟩
      exact ⟨a.toNat, List.mem_range.2 (by omega), by omega⟩
  have hnd : (held ++ rest).Nodup := by
    rw [List.nodup_append]
    exact ⟨hn, hrest, fun x hx y hy e => ((hmr y).1 hy).2 (e ▸ hx)⟩
  have hm : ∀ a, a ∈ R ↔ a ∈ held ++ rest := fun a => by
    rw [List.mem_append, hmr]
    by_cases h : a ∈ held
    · have := hh a h
      have h2 := (hmR a).2 this
      simp [h, h2]
    · simp [h]
  have hs : ∀ g : Int → Int, sumI (R.map g) = sumI (held.map g) + sumI (rest.map g) := fun g => by
    rw [sumI_same hR hnd hm, List.map_append, sumI_append]
  have hc : ∀ (l : List Int) (z : Int), sumI (l.map fun _ => z) = l.length * z := fun l z => by
    induction l with
    | nil => simp [sumI]
    | cons x r ih => rw [List.map_cons, sumI, ih, List.length_cons, Int.natCast_succ, Int.add_mul]; omega
  have h1 := hs fun _ => 1
  rw [hc, hc, hc] at h1
  have hlR : R.length = m := by show ((List.range m).map _).length = m; rw [List.length_map, List.length_range]
  rw [hlR] at h1
  have h2 := hs f
  have h3 : sumI (rest.map f) = sumI (rest.map fun _ => Y) := sumI_congr fun c hc' => hy c ((hmR c).1 ((hmr c).1 hc').1).1 ((hmr c).1 hc').2
  rw [h3, hc] at h2
  have h4 : sumI (R.map f) = sumI ((List.range m).map fun c : Nat => f c) := by
    show sumI (((List.range m).map fun c : Nat => (c : Int)).map f) = _
    rw [List.map_map]; rfl
  refine ⟨by omega, ?_⟩
  rw [← h4, h2]
  congr 2
  omega
/-- How many words of n letters a plain word stands for, if it is accepted. -/
def valW (t : Mach) (n : Int) (w : List Int) : Int := if lastB t w then waysP n 0 w else 0
/-- How many words are accepted, as the program counts. -/
def cntP (t : Mach) (n : Int) (L : Nat) : Int := sumI ((plainW L).map (valW t n))
theorem sumI_mul {α : Type} (W : Int) (f : α → Int) : ∀ l : List α, sumI (l.map fun x => W * f x) = W * sumI (l.map f)
  | [] => by simp [sumI]
  | x :: r => by rw [List.map_cons, List.map_cons, sumI, sumI, sumI_mul W f r, Int.mul_add]
theorem newN_mem {p : List Int} : ∀ {k x : Int}, x ∈ p → x < newN k p := by
  induction p with
  | nil => intro k x h; simp at h
  | cons a r ih =>
    intro k x h
    have e : newN k (a :: r) = newN (max k (a + 1)) r := rfl
    rw [e]
    rcases List.mem_cons.1 h with h1 | h1
    · have := newN_ge (max k (a + 1)) r
      subst h1
      omega
    · exact ih h1
/-- The sum over the plain words that go on from p is what the model counts from where p leads. -/
theorem ext_count (t : Mach) (g : Good t) (n : Int) (hn : 0 ≤ n) : ∀ (L : Nat) (p : List Int), (∀ x ∈ p, 0 ≤ x) → sumI ((extW L p).map (valW t n)) = waysP n 0 p * cntM t n L (runM t p).1 (runM t p).2
  | 0, p, _ => by
    show sumI [valW t n p] = _
    rw [cntM]
    show valW t n p + 0 = _
    unfold valW lastB
    split
    · omega
    · omega
  | L + 1, p, hp => by
    have hm0 := newN_ge 0 p
    obtain ⟨m, hm⟩ : ∃ m : Nat, newN 0 p = m := ⟨(newN 0 p).toNat, by omega⟩
    have hrl := (runM_ok g p).2.2
    have hr3 := g.r3
    have hlen : (runM t p).2.length < 1000 := by omega
    -- what goes on with one letter
    have hone : ∀ c : Nat, c ≤ m → sumI ((extW L (p ++ [(c : Int)])).map (valW t n)) = waysP n 0 (p ++ [(c : Int)]) * cntM t n L (stepM t (runM t p) c).1 (stepM t (runM t p) c).2 := fun c hc => by
      rw [ext_count t g n hn L (p ++ [(c : Int)]) (fun x hx => by
        rcases List.mem_append.1 hx with h | h
        · exact hp x h
        · rw [List.mem_singleton.1 h]; omega), runM_next]
    have hw1 : ∀ c : Nat, c < m → waysP n 0 (p ++ [(c : Int)]) = waysP n 0 p := fun c hc => by
      unfold waysP
      rw [newN_snoc, hm, show max (m : Int) ((c : Int) + 1) = m by omega]
    have hw2 : waysP n 0 (p ++ [(m : Int)]) = waysP n 0 p * (n - m) := by
      unfold waysP
      rw [newN_snoc, hm, show max (m : Int) ((m : Int) + 1) = m + 1 by omega, show ((m : Int) + 1 - 0).toNat = m + 1 by omega, show ((m : Int) - 0).toNat = m by omega, prodN]
      congr 2
      omega
    have hext : extW (L + 1) p = (List.range (m + 1)).flatMap fun c : Nat => extW L (p ++ [(c : Int)]) := by
      rw [extW, ext1_eq, hm, Int.toNat_natCast, List.flatMap_map]
    rw [hext, sumI_flat, sumI_congr (g := fun c : Nat => waysP n 0 (p ++ [(c : Int)]) * cntM t n L (stepM t (runM t p) c).1 (stepM t (runM t p) c).2) (fun c hc => hone c (by rw [List.mem_range] at hc; omega)),
      List.range_succ, List.map_append, sumI_append, sumI_congr (g := fun c : Nat => waysP n 0 p * cntM t n L (stepM t (runM t p) c).1 (stepM t (runM t p) c).2) (fun c hc => by rw [hw1 c (List.mem_range.1 hc)]), sumI_mul]
    have hlast : sumI ([m].map fun c : Nat => waysP n 0 (p ++ [(c : Int)]) * cntM t n L (stepM t (runM t p) c).1 (stepM t (runM t p) c).2) = waysP n 0 p * ((n - m) * cntM t n L (stepM t (runM t p) m).1 (stepM t (runM t p) m).2) := by
      show _ * _ + 0 = _
      rw [hw2, Int.mul_assoc]; omega
    rw [hlast, ← Int.mul_add]
    by_cases hmn : (m : Int) ≤ n
    · congr 1
      have hne := leastF_ne (l := heldL (runM t p).2) (by have := heldL_len (runM t p).2; omega)
      have hf0 := leastF_pos hne
      have hfn : leastF (heldL (runM t p).2) ∉ (runM t p).2 := fun h => leastF_not hne (mem_heldL.2 ⟨h, hf0⟩)
      have hheld : ∀ a ∈ heldL (runM t p).2, 0 ≤ a ∧ a < m := fun a ha => by
        obtain ⟨h1, h2⟩ := mem_heldL.1 ha
        rcases runM_mem h1 with h3 | h3
        · omega
        · have := newN_mem (k := 0) h3; omega
      have hfree : ∀ c : Int, 0 ≤ c → c ∉ heldL (runM t p).2 → cntM t n L (stepM t (runM t p) c).1 (stepM t (runM t p) c).2 = cntM t n L (stepM t (runM t p) (leastF (heldL (runM t p).2))).1 (stepM t (runM t p) (leastF (heldL (runM t p).2))).2 := fun c h0 hc =>
        cntM_free t n L (runM t p).1 (runM t p).2 (fun h => hc (mem_heldL.2 ⟨h, h0⟩)) hfn h0 hf0 hlen
      obtain ⟨hlm, hsum⟩ := sumI_range (m := m) (f := fun c => cntM t n L (stepM t (runM t p) c).1 (stepM t (runM t p) c).2) (heldL_nodup _) hheld hfree
      have hmn' : (m : Int) ∉ heldL (runM t p).2 := fun h => by have := (hheld _ h).2; omega
      rw [hsum, hfree m (by omega) hmn', cntM]
      generalize cntM t n L (stepM t (runM t p) (leastF (heldL (runM t p).2))).1 (stepM t (runM t p) (leastF (heldL (runM t p).2))).2 = Y
      by_cases h0 : 0 < n - ((heldL (runM t p).2).length : Int)
      · rw [if_pos h0, Int.add_assoc, ← Int.add_mul]
        congr 2
        omega
      · rw [if_neg h0, show (m : Int) - (heldL (runM t p).2).length = 0 by omega, show n - (m : Int) = 0 by omega]
        simp
    · have hz : waysP n 0 p = 0 := by
        unfold waysP
        exact prodN_zero (by rw [hm]; omega) hn
      rw [hz, Int.zero_mul, Int.zero_mul]
/-- Both count the same. -/
theorem count_eq (t : Mach) (g : Good t) (n : Int) (hn : 0 ≤ n) (L : Nat) : cntP t n L = cntM t n L 0 (List.replicate t.rg.toNat (-1)) := by
  unfold cntP
  rw [plainW_ext, ext_count t g n hn L [] (fun x h => by simp at h)]
  show 1 * _ = _
  rw [Int.one_mul]; rfl
end Go.Proofs.Ythacnbeckhdhiaa
end

section
namespace Go.Proofs.Ythacnbeckhdhiaa
open Go.RowKit
set_option linter.unusedVariables false

namespace CwT
/-- Registers that are empty or hold a letter below n. -/
def Low (n : Nat) (rs : List Int) : Prop := ∀ x ∈ rs, x = -1 ∨ (0 ≤ x ∧ x < n)
theorem low_step {t : Mach} {n : Nat} {q : Int} {rs : List Int} (h : Low n rs) {c : Nat} (hc : c < n) : Low n (stepM t (q, rs) c).2 := by
  intro x hx
  rcases runFrom_mem t [(c : Int)] (q, rs) x hx with h1 | h1
  · exact h x h1
  · rw [List.mem_singleton.1 h1]
    exact .inr (by omega)
theorem letters (t : Mach) (n : Nat) (L : Nat) (q : Int) (rs : List Int) (hl : rs.length < 1000) (h : Low n rs) :
    cntM t n (L + 1) q rs = sumI ((List.range n).map fun c : Nat => cntM t n L (stepM t (q, rs) c).1 (stepM t (q, rs) c).2) := by
  have hlen := heldL_len rs
  have hle : leastF (heldL rs) ≠ -1 := leastF_ne (by omega)
  have hln := leastF_not hle
  have hlp := leastF_pos hle
  have hno : ∀ c : Int, 0 ≤ c → c ∉ heldL rs → c ∉ rs := fun c h0 hc hm => hc (mem_heldL.2 ⟨hm, h0⟩)
  obtain ⟨h1, h2⟩ := sumI_range (f := fun c => cntM t n L (stepM t (q, rs) c).1 (stepM t (q, rs) c).2) (Y := cntM t n L (stepM t (q, rs) (leastF (heldL rs))).1 (stepM t (q, rs) (leastF (heldL rs))).2) (m := n) (held := heldL rs) (heldL_nodup rs)
    (fun a ha => by
      obtain ⟨h3, h4⟩ := mem_heldL.1 ha
      rcases h a h3 with h5 | h5
      · omega
      · exact h5)
    (fun c h0 hc => cntM_free t n L q rs (hno c h0 hc) (hno _ hlp hln) h0 hlp hl)
  rw [h2, cntM]
  by_cases h0 : 0 < (n : Int) - (heldL rs).length
  · rw [if_pos h0]
  · rw [if_neg h0]
    have e : (n : Int) - (heldL rs).length = 0 := by omega
    rw [e, Int.zero_mul]
/-- Whether a word of three letters is accepted, as a number. -/
def g3 (t : Mach) (a b c : Nat) : Int := if lastB t [(a : Int), (b : Int), (c : Int)] then 1 else 0
end CwT
end Go.Proofs.Ythacnbeckhdhiaa
end

section
namespace Go.Proofs.Ythacnbeckhdhiaa
open Go.RowKit Go.Sort
set_option linter.unusedVariables false

end Go.Proofs.Ythacnbeckhdhiaa
end

section
namespace Go.Proofs.Ythacnbeckhdhiaa
open Go.RowKit Go.Sort
set_option linter.unusedVariables false

end Go.Proofs.Ythacnbeckhdhiaa
end

section
namespace Go.Proofs.Ythacnbeckhdhiaa
open Go.RowKit Go.Sort
set_option linter.unusedVariables false

end Go.Proofs.Ythacnbeckhdhiaa
end

section
namespace Go.Proofs.Ythacnbeckhdhiaa
open Go.RowKit Go.Sort
set_option linter.unusedVariables false

end Go.Proofs.Ythacnbeckhdhiaa
end

section
namespace Go.Proofs.Ythacnbeckhdhiaa
open Go.RowKit Go.Sort
set_option linter.unusedVariables false

theorem sumI_bound {α : Type} {f : α → Int} {B : Int} : ∀ {l : List α}, (∀ x ∈ l, 0 ≤ f x ∧ f x ≤ B) → 0 ≤ sumI (l.map f) ∧ sumI (l.map f) ≤ l.length * B
  | [], _ => by simp [sumI]
  | x :: r, h => by
    have h1 := h x List.mem_cons_self
    have h2 := sumI_bound (l := r) fun y hy => h y (List.mem_cons_of_mem _ hy)
    rw [List.map_cons, sumI, List.length_cons, Int.natCast_succ, Int.add_mul]
    omega
theorem cntM_bound (t : Mach) (n : Int) (h0 : 0 ≤ n) (h9 : n ≤ 9) : ∀ (L : Nat) (q : Int) (rs : List Int), rs.length ≤ 3 → 0 ≤ cntM t n L q rs ∧ cntM t n L q rs ≤ ((12 ^ L : Nat) : Int)
  | 0, q, rs, _ => by
    rw [cntM]
    split <;> simp
  | L + 1, q, rs, hl => by
    have hc := fun c => cntM_bound t n h0 h9 L (stepM t (q, rs) c).1 (stepM t (q, rs) c).2 (by rw [stepM_len]; exact hl)
    obtain ⟨s0, s1⟩ := sumI_bound (l := heldL rs) (f := fun a => cntM t n L (stepM t (q, rs) a).1 (stepM t (q, rs) a).2) (B := ((12 ^ L : Nat) : Int)) fun x _ => hc x
    have hh := heldL_len rs
    obtain ⟨f0, f1⟩ := hc (leastF (heldL rs))
    rw [cntM, Nat.pow_succ]
    generalize cntM t n L (stepM t (q, rs) (leastF (heldL rs))).1 (stepM t (q, rs) (leastF (heldL rs))).2 = Y at *
    generalize 12 ^ L = b at *
    have h3 : ((heldL rs).length : Int) * (b : Int) ≤ 3 * b := Int.mul_le_mul_of_nonneg_right (by omega) (by omega)
    by_cases hw : 0 < n - ((heldL rs).length : Int)
    · rw [if_pos hw]
      have h4 : (n - ((heldL rs).length : Int)) * Y ≤ 9 * Y := Int.mul_le_mul_of_nonneg_right (by omega) f0
      have h5 : 0 ≤ (n - ((heldL rs).length : Int)) * Y := Int.mul_nonneg (by omega) f0
      generalize (n - ((heldL rs).length : Int)) * Y = Z at *
      generalize ((heldL rs).length : Int) * (b : Int) = Z2 at *
      constructor <;> omega
    · rw [if_neg hw]
      generalize ((heldL rs).length : Int) * (b : Int) = Z2 at *
      constructor <;> omega
end Go.Proofs.Ythacnbeckhdhiaa
end

section
namespace Go.Proofs.Ythacnbeckhdhiaa
open Go.RowKit Go.Sort
set_option linter.unusedVariables false

end Go.Proofs.Ythacnbeckhdhiaa
end

section
namespace Go.Proofs.Ythacnbeckhdhiaa
open Go.RowKit Go.Sort
set_option linter.unusedVariables false

/-- How many words are counted. -/
def cwB (t : Mach) (l n : Int) : Bool := machB t && (decide (0 ≤ l ∧ l ≤ 5) && decide (0 ≤ n ∧ n ≤ 9))
def cwR (t : Mach) (l n : Int) : Int := if cwB t l n then cntM t n l.toNat 0 (List.replicate t.rg.toNat (-1)) else -1
theorem cwR_no {t : Mach} {l n : Int} (h : cwB t l n = false) : cwR t l n = -1 := by simp [cwR, h]
theorem cwR_yes {t : Mach} {l n : Int} (h1 : machB t = true) (h2 : 0 ≤ l ∧ l ≤ 5) (h3 : 0 ≤ n ∧ n ≤ 9) : cwR t l n = cntM t n l.toNat 0 (List.replicate t.rg.toNat (-1)) := by simp [cwR, cwB, h1, h2, h3]
end Go.Proofs.Ythacnbeckhdhiaa
end

