/-
  Both of two tables: plain words and small laws for joinedSets of the program. An orbit set told by fewer constants: plain words, no program is walked here. l6Shift and l6Without of the model, as contracts.
-/
import Derived.Test.YtdbogjhkcnajkaaKSameSet20
import Derived.Test.YtdbogjhkcnajkaaKSameSet18
import Derived.Test.YtdbogjhkcnajkaaKSameSet24
import Derived.StillTailTactics
import Derived.Test.YtdbogjhkcnajkaaKSameSet17
import Derived.Test.YtdbogjhkcnajkaaKSameSet14
import Derived.Test.YtdbogjhkcnajkaaKSameSet16
import Derived.Deep.RegionHeld3
section
namespace Go.Proofs.Ytdbogjhkcnajkaa
open Go.RowKit Go.Sort
set_option linter.unusedVariables false

theorem ascB_of {l : List Int} (h : AscP l) : ascB l = true := ascB_yes fun k h0 hk => by
  rw [itAt_get l (k - 1) (by omega), itAt_get l k hk]
  exact List.pairwise_iff_getElem.1 h (k - 1) k (by omega) hk (by omega)
theorem atoms_of {l : List Int} (h : constB l = true) : ∀ x ∈ l, atomB x = true := by
  intro x hx
  unfold constB at h
  simp only [Bool.and_eq_true] at h
  have h1 := h.2.1
  unfold atomsB at h1
  exact List.all_eq_true.1 h1 x hx
end Go.Proofs.Ytdbogjhkcnajkaa
end

section
namespace Go.Proofs.Ytdbogjhkcnajkaa
open Go.RowKit
set_option linter.unusedVariables false

theorem lex_snoc : ∀ (p : List Int) (x y : Int), x < y → lexLt (p ++ [x]) (p ++ [y]) = true
  | [], x, y, h => by
    simp [lexLt, h]
    omega
  | a :: r, x, y, h => by
    have := lex_snoc r x y h
    simp [lexLt, this]
theorem lex_longer : ∀ (p q : List Int) (x y : Int), p.length = q.length → lexLt p q = true → lexLt (p ++ [x]) (q ++ [y]) = true
  | [], [], x, y, _, h => by simp [lexLt] at h
  | [], b :: s, x, y, hl, h => by simp at hl
  | a :: r, [], x, y, hl, h => by simp at hl
  | a :: r, b :: s, x, y, hl, h => by
    have hl' : r.length = s.length := by simpa using hl
    have ih := lex_longer r s x y hl'
    simp only [List.cons_append, lexLt] at h ⊢
    by_cases e : a = b
    · simp only [e, if_true] at h ⊢
      exact ih h
    · simpa [e] using h
theorem allP_lex {k : Int} (hk : 0 ≤ k) : ∀ w, (allP w k).Pairwise fun a b => lexLt a b = true
  | 0 => by simp [allP]
  | w + 1 => by
    rw [allP, List.pairwise_flatMap]
    refine ⟨fun p _ => ?_, ?_⟩
    · unfold extP
      rw [List.pairwise_map]
      exact List.pairwise_lt_range.imp fun h => lex_snoc p _ _ (by omega)
    · refine (allP_lex hk w).imp_of_mem fun {a b} ha hb h => ?_
      intro x hx y hy
      unfold extP at hx hy
      obtain ⟨i, _, rfl⟩ := List.mem_map.1 hx
      obtain ⟨j, _, rfl⟩ := List.mem_map.1 hy
      exact lex_longer a b _ _ (by rw [((mem_allP hk).1 ha).1, ((mem_allP hk).1 hb).1]) h
theorem orb_filter {n : Nat} {l : List Int} (hn : n ≤ 4) (hl : constB l = true) (f : List Int → Bool) : orbB n l ((allP n l.length).filter f) = true := by
  have hk : (0 : Int) ≤ (l.length : Int) := by omega
  unfold orbB
  rw [Bool.and_eq_true, Bool.and_eq_true]
  refine ⟨widB_iff.2 (by omega), hl, rowsOk_yes fun i hi => ?_⟩
  have hs : ((allP n l.length).filter f).Pairwise fun a b => lexLt a b = true := (allP_lex hk n).sublist List.filter_sublist
  have hm : rwAt ((allP n l.length).filter f) i ∈ allP n l.length := by
    rw [rwAt_get _ _ hi]
    exact (List.mem_filter.1 (List.getElem_mem hi)).1
  obtain ⟨h1, h2⟩ := (mem_allP hk).1 hm
  unfold rowOkB
  rw [h2, h1]
  by_cases h0 : i = 0
  · simp [h0]
  · have h3 := List.pairwise_iff_getElem.1 hs (i - 1) i (by omega) hi (by omega)
    rw [rwAt_get _ (i - 1) (by omega), rwAt_get _ i hi, h3]
    simp
/-- The constants but one. -/
def restL (cs : List Int) (c : Int) : List Int := cs.filter fun a => !(a == c)
theorem restL_sub (cs : List Int) (c : Int) : ∀ a ∈ restL cs c, a ∈ cs := fun a h => (List.mem_filter.1 h).1
theorem restL_out (cs : List Int) (c : Int) : c ∉ restL cs c := fun h => by
  have := (List.mem_filter.1 h).2
  simp at this
theorem restL_len (cs : List Int) (c : Int) : (restL cs c).length ≤ cs.length := List.length_filter_le _ _
theorem restL_const {cs : List Int} (c : Int) (h : constB cs = true) : constB (restL cs c) = true := by
  have h1 := const_len h
  have h2 := restL_len cs c
  have h3 : AscP (restL cs c) := (const_asc h).sublist List.filter_sublist
  have h4 : atomsB (restL cs c) = true := by
    unfold atomsB
    rw [List.all_eq_true]
    exact fun x hx => atoms_of h x (restL_sub cs c x hx)
  unfold constB
  rw [ascB_of h3, h4]
  simp
  omega
/-- Told by them: the tuples that have such a pattern. -/
def fewM (n : Nat) (cs : List Int) (M : List (List Int)) (c : Int) : List (List Int) := thoseL n (restL cs c).length (patsL (restL cs c) (exsL cs M))
/-- A pattern for one constant more, which it does not have. -/
def shfL (k : Nat) (p : List Int) : List Int := p.map fun x => if x ≥ (k : Int) then x + 1 else x
def lesG (cs : List Int) (M : List (List Int)) (c : Int) (p : List Int) : Bool := thereB M (patL cs (exL (numL (restL cs c ++ [c]) p.length) (shfL (restL cs c).length p)))
def lesM (n : Nat) (cs : List Int) (M : List (List Int)) (c : Int) : List (List Int) := (allP n (restL cs c).length).filter (lesG cs M c)
theorem shf_ex {V : List Int} {k : Nat} {p : List Int} (hp : ∀ x ∈ p, 0 ≤ x ∧ x.toNat + 1 < V.length) : exL V (shfL k p) = exL (V.eraseIdx k) p := by
  unfold exL shfL
  rw [List.map_map]
  refine List.map_congr_left fun x hx => ?_
  obtain ⟨h0, h1⟩ := hp x hx
  show itAt V (if x ≥ (k : Int) then x + 1 else x).toNat = itAt (V.eraseIdx k) x.toNat
  unfold itAt
  rw [List.getD_eq_getElem?_getD, List.getD_eq_getElem?_getD, List.getElem?_eraseIdx]
  by_cases h : x ≥ (k : Int)
  · rw [if_pos h, if_neg (by omega), show (x + 1).toNat = x.toNat + 1 by omega]
  · rw [if_neg h, if_pos (by omega)]
/-- Such a tuple has the pattern. -/
theorem les_pat {cs : List Int} {c : Int} {n : Nat} (hc : constB cs = true) (hn : n ≤ 4) {p : List Int} (hp : p ∈ allP n (restL cs c).length) : patL (restL cs c) (exL (numL (restL cs c ++ [c]) p.length) (shfL (restL cs c).length p)) = p := by
  have hr := restL_const c hc
  have hr3 := const_len hr
  obtain ⟨h1, h2⟩ := (mem_allP (by omega)).1 hp
  have hnd0 : (restL cs c ++ [c]).Nodup := by
    rw [List.nodup_append]
    exact ⟨const_nodup hr, by simp, fun a ha b hb e => by
      have hac : a = c := e.trans (by simpa using hb)
      exact absurd ha (by rw [hac]; exact restL_out cs c)⟩
  have hnd := numL_nodup hnd0 p.length (by simp; omega)
  have hlen : (numL (restL cs c ++ [c]) p.length).length = (restL cs c).length + 1 + p.length := by rw [numL_len]; simp
  have hpl := pat_places h2 (V := numL (restL cs c) p.length) (by rw [numL_len]; omega)
  rw [shf_ex (V := numL (restL cs c ++ [c]) p.length) (fun x hx => by
    obtain ⟨i, hi, rfl⟩ := List.getElem_of_mem hx
    have h3 := hpl i hi
    rw [itAt_get _ _ hi, numL_len] at h3
    omega)]
  refine pat_ex (hnd.sublist (List.eraseIdx_sublist _ _)) ?_ h2 (by rw [List.length_eraseIdx]; split <;> omega)
  have ht := numL_take (restL cs c ++ [c]) p.length
  rw [List.eraseIdx_eq_take_drop_succ, List.take_append_of_le_length (by rw [List.length_take]; omega), List.take_take, Nat.min_self]
  have h5 : (numL (restL cs c ++ [c]) p.length).take (restL cs c).length = ((numL (restL cs c ++ [c]) p.length).take (restL cs c ++ [c]).length).take (restL cs c).length := by
    rw [List.take_take, Nat.min_eq_left (by simp)]
  rw [h5, ht, List.take_append_of_le_length (Nat.le_refl _), List.take_length]
theorem les_len {cs : List Int} {c : Int} {n : Nat} {p : List Int} (hp : p.length = n) : (exL (numL (restL cs c ++ [c]) p.length) (shfL (restL cs c).length p)).length = n := by
  rw [exL_len]; simp [shfL, hp]
/-- If a set for the other constants is the same set, it is both. -/
theorem red_only {n : Nat} {cs : List Int} {M F : List (List Int)} {c : Int} (hn : n ≤ 4) (hc : constB cs = true) (hF : F = thoseL n (restL cs c).length F) (he : extL n (restL cs c) F cs = M) : lesM n cs M c = F ∧ fewM n cs M c = F := by
  have hk3 := const_len hc
  have hnd := const_nodup hc
  have hr3 := const_len (restL_const c hc)
  have hin : ∀ q, q ∈ allP n cs.length → (q ∈ M ↔ patL (restL cs c) (exL (numL cs 4) q) ∈ F) := fun q hq => by
    rw [← he]
    unfold extL
    rw [List.mem_filter]
    unfold extG extQ
    rw [there_mem]
    exact ⟨fun h => h.2, fun h => ⟨hq, h⟩⟩
  have hkey : ∀ p, p ∈ allP n (restL cs c).length → patL cs (exL (numL (restL cs c ++ [c]) p.length) (shfL (restL cs c).length p)) ∈ allP n cs.length ∧ patL (restL cs c) (exL (numL cs 4) (patL cs (exL (numL (restL cs c ++ [c]) p.length) (shfL (restL cs c).length p)))) = p := fun p hp => by
    have hpl := ((mem_allP (by omega)).1 hp).1
    have hel := les_len (cs := cs) (c := c) hpl
    refine ⟨patL_mem hel, ?_⟩
    have h1 : Sim cs (exL (numL cs 4) (patL cs (exL (numL (restL cs c ++ [c]) p.length) (shfL (restL cs c).length p)))) (exL (numL (restL cs c ++ [c]) p.length) (shfL (restL cs c).length p)) := Sim.ex hnd hk3 (by omega)
    rw [pat_of_sim (h1.mono (restL_sub cs c)), les_pat hc hn hp]
  constructor
  · rw [hF]
    unfold lesM thoseL
    refine List.filter_congr fun p hp => ?_
    obtain ⟨h1, h2⟩ := hkey p hp
    unfold lesG
    rw [Bool.eq_iff_iff, there_mem, there_mem, hin _ h1, h2]
  · conv => rhs; rw [hF]
    unfold fewM
    unfold thoseL
    refine List.filter_congr fun p hp => ?_
    obtain ⟨h1, h2⟩ := hkey p hp
    rw [Bool.eq_iff_iff, there_mem, there_mem]
    unfold patsL exsL
    rw [List.map_map, List.mem_map]
    constructor
    · rintro ⟨q, hq, e⟩
      have hq' : q ∈ allP n cs.length := by
        rw [← he] at hq
        exact (List.mem_filter.1 hq).1
      have := (hin q hq').1 hq
      rw [show patL (restL cs c) (exL (numL cs 4) q) = p from e] at this
      exact this
    · intro hpF
      exact ⟨_, (hin _ h1).2 (by rw [h2]; exact hpF), h2⟩
theorem tab_same {n : Nat} {k : Int} (hk : 0 ≤ k) (hk3 : k ≤ 3) (hn : n ≤ 4) {A B : List (List Int)} (hA : A = thoseL n k A) (hB : B = thoseL n k B) : eqTab (tabOf A) (tabOf B) = decide (A = B) := by
  have hsub : ∀ {X : List (List Int)}, X = thoseL n k X → ∀ p ∈ X, p ∈ allP n k := fun {X} h p hp => by rw [h] at hp; exact thoseL_sub p hp
  rw [Bool.eq_iff_iff, eqTab_iff, decide_eq_true_iff]
  constructor
  · intro h
    rw [hA, hB]
    unfold thoseL
    refine List.filter_congr fun p hp => ?_
    rw [← tabOf_has hk hk3 hn (hsub hA) hp, ← tabOf_has hk hk3 hn (hsub hB) hp]
    exact h _ (code_4096 hk hk3 hn hp)
  · rintro rfl i _
    rfl
theorem normal_filter (n : Nat) (k : Int) (f : List Int → Bool) : (allP n k).filter f = thoseL n k ((allP n k).filter f) := (thoseL_filter n k f).symm
theorem normal_ext (n : Nat) (l : List Int) (m : List (List Int)) (cs : List Int) : extL n l m cs = thoseL n cs.length (extL n l m cs) := normal_filter n cs.length _
theorem normal_few (n : Nat) (cs : List Int) (M : List (List Int)) (c : Int) : fewM n cs M c = thoseL n (restL cs c).length (fewM n cs M c) := normal_filter n (restL cs c).length _
theorem normal_les (n : Nat) (cs : List Int) (M : List (List Int)) (c : Int) : lesM n cs M c = thoseL n (restL cs c).length (lesM n cs M c) := normal_filter n (restL cs c).length _
/-- Whether a set is the same without a constant. -/
def keepB (n : Nat) (cs : List Int) (M : List (List Int)) (c : Int) : Bool := decide (extL n (restL cs c) (fewM n cs M c) cs = M)
theorem keep_tab {n : Nat} {cs : List Int} {M : List (List Int)} (c : Int) (hn : n ≤ 4) (hc : constB cs = true) (hM : M = thoseL n cs.length M) : eqTab (tabOf (extL n (restL cs c) (fewM n cs M c) cs)) (tabOf M) = keepB n cs M c :=
  tab_same (by omega) (by have := const_len hc; omega) hn (normal_ext _ _ _ _) hM
theorem keep_les {n : Nat} {cs : List Int} {M : List (List Int)} (c : Int) (hn : n ≤ 4) (hc : constB cs = true) : decide (extL n (restL cs c) (lesM n cs M c) cs = M) = keepB n cs M c := by
  unfold keepB
  rw [Bool.eq_iff_iff, decide_eq_true_iff, decide_eq_true_iff]
  constructor
  · intro h
    rw [(red_only hn hc (normal_les n cs M c) h).2]; exact h
  · intro h
    rw [(red_only hn hc (normal_few n cs M c) h).1]; exact h
theorem keep_eq {n : Nat} {cs : List Int} {M : List (List Int)} {c : Int} (hn : n ≤ 4) (hc : constB cs = true) (h : keepB n cs M c = true) : lesM n cs M c = fewM n cs M c := (red_only hn hc (normal_few n cs M c) (of_decide_eq_true h)).1
/-- One constant less, if it is not needed. -/
def redS (n : Nat) (s : List Int × List (List Int)) (c : Int) : List Int × List (List Int) := if keepB n s.1 s.2 c then (restL s.1 c, fewM n s.1 s.2 c) else s
def redF (n : Nat) (l : List Int) (m : List (List Int)) (k : Nat) : List Int × List (List Int) := (l.take k).foldl (redS n) (l, thoseL n l.length m)
theorem redF_next {n : Nat} {l : List Int} {m : List (List Int)} {k : Nat} (h : k < l.length) : redF n l m (k + 1) = redS n (redF n l m k) (itAt l k) := by
  unfold redF
  rw [itake_next h, List.foldl_append]
  rfl
theorem redF_zero (n : Nat) (l : List Int) (m : List (List Int)) : redF n l m 0 = (l, thoseL n l.length m) := rfl
/-- What stays so. -/
theorem redF_inv {n : Nat} {l : List Int} {m : List (List Int)} (hl : constB l = true) : ∀ k, k ≤ l.length → constB (redF n l m k).1 = true ∧ (redF n l m k).2 = thoseL n (redF n l m k).1.length (redF n l m k).2 ∧ ∀ j, k ≤ j → j < l.length → itAt l j ∈ (redF n l m k).1
  | 0, _ => ⟨hl, normal_filter n l.length _, fun j _ hj => by rw [itAt_get _ _ hj]; exact List.getElem_mem hj⟩
  | k + 1, hk => by
    obtain ⟨h1, h2, h3⟩ := redF_inv (m := m) hl k (by omega)
    rw [redF_next (by omega)]
    unfold redS
    by_cases hb : keepB n (redF n l m k).1 (redF n l m k).2 (itAt l k) = true
    · rw [if_pos hb]
      refine ⟨restL_const _ h1, normal_few _ _ _ _, fun j h4 h5 => ?_⟩
      refine List.mem_filter.2 ⟨h3 j (by omega) h5, ?_⟩
      have hnd := const_nodup hl
      have : itAt l j ≠ itAt l k := fun e => by have := nodup_inj hnd h5 (by omega) e; omega
      simpa using this
    · rw [if_neg hb]
      exact ⟨h1, h2, fun j h4 h5 => h3 j (by omega) h5⟩
def redC (n : Nat) (l : List Int) (m : List (List Int)) : List Int := (redF n l m l.length).1
def redM (n : Nat) (l : List Int) (m : List (List Int)) : List (List Int) := (redF n l m l.length).2
def redCz (z : Int) (l : List Int) (m : List (List Int)) : List Int := redC z.toNat l m
def redMz (z : Int) (l : List Int) (m : List (List Int)) : List (List Int) := redM z.toNat l m
theorem orb_normal {n : Nat} {l : List Int} {M : List (List Int)} (hn : n ≤ 4) (hl : constB l = true) (hM : M = thoseL n l.length M) : orbB n l M = true := by rw [hM]; exact orb_filter hn hl _
theorem normal_fit {n : Nat} {k : Int} (hk : 0 ≤ k) (hk3 : k ≤ 3) (hn : n ≤ 4) {M : List (List Int)} (hM : M = thoseL n k M) : M.length + sumR M ≤ 32768 := by rw [hM]; exact filter_fit hk hk3 hn _
theorem redLen (z : Int) (l : List Int) (m : List (List Int)) : (olR (orbB z l m) (redCz z l m)).length ≤ 3 ∧ (omR (orbB z l m) (redMz z l m)).length + sumR (omR (orbB z l m) (redMz z l m)) ≤ 32768 := by
  cases h : orbB z l m with
  | false => simp [olR, omR, sumR]
  | true =>
    have h1 := (orb_rows h).1
    have h2 : 0 ≤ z ∧ z ≤ 4 := by simpa [widB] using h1
    obtain ⟨h3, h4, _⟩ := redF_inv (n := z.toNat) (m := m) (orb_const h) l.length (Nat.le_refl _)
    have h5 := const_len h3
    exact ⟨h5, normal_fit (k := ((redF z.toNat l m l.length).1.length : Int)) (by omega) (by omega) (by omega) h4⟩
end Go.Proofs.Ytdbogjhkcnajkaa
end

section
namespace Go.Proofs.Ytdbogjhkcnajkaa
open Go.RowKit Go.Sort
set_option linter.unusedVariables false

theorem shfL_len (k : Nat) (p : List Int) : (shfL k p).length = p.length := by simp [shfL]
theorem shfL_next {k : Nat} {p : List Int} {j : Nat} (h : j < p.length) : shfL k (p.take (j + 1)) = shfL k (p.take j) ++ [if itAt p j ≥ (k : Int) then itAt p j + 1 else itAt p j] := by
  rw [itake_next h]; simp [shfL]
theorem restL_next {cs : List Int} {a : Int} {k : Nat} (h : k < cs.length) : restL (cs.take (k + 1)) a = if itAt cs k = a then restL (cs.take k) a else restL (cs.take k) a ++ [itAt cs k] := by
  unfold restL
  rw [itake_next h, List.filter_append]
  by_cases e : itAt cs k = a <;> simp [e]

set_option maxRecDepth 100000 in
set_option maxHeartbeats 2000000 in
theorem l6Shift_any (A : Option Addr) (c : Nat) (p : List Int) (k : Nat) (w : World) (hA : IntsAt w A p) (hp : p.length ≤ 1048576) (hk : k ≤ 1000) (hb0 : ∀ i, i < p.length → 0 ≤ itAt p i ∧ itAt p i ≤ 1000000) :
    Calls Try.prog 143 #[.slice A p.length c, .int .i64 (k : Int)] w (NewInts (shfL k p) w) := by
  obtain ⟨i0, hi0, hz0, hz1, hz2⟩ := info_parts int_infoM
  have HS := Lib.hid hz2
  clear hz2
  go_enter Try.func143, Try.ntmps143
  go_wp2
  go_loopw [5, 7, 11] (fun v _ i wr => ∃ j : Nat, j ≤ p.length ∧ i = .int .i64 j ∧ wr.ownsRow w.heap.size 3 1 v j (icells (shfL k (p.take j))) ∧ Below w.heap.size w wr) (fun _ _ i _ => p.length - (intOf i).toNat)
  case atStart => exact ⟨0, Nat.zero_le _, rfl, World.ownsRow_lit w #[] 0 (Nat.le_refl _) (by decide) rfl, (Below.refl _ _).alloc (Nat.le_refl _) _⟩
  case round =>
    obtain ⟨j, hj, rfl, ho, hb⟩ := hrel
    by_cases hlt : j < p.length
    · obtain ⟨h0, h1⟩ := hb0 j hlt
      obtain ⟨b1, o1, rfl, hb1, hc1⟩ := hA (by omega)
      have c1 := hc1 j hlt
      rw [← hb.cell (p := ⟨b1, _, none⟩) hb1] at c1
      have hnx := shfL_next (k := k) hlt
      clear hc1 hA
      generalize itAt p j = x at *
      by_cases hx : x ≥ (k : Int)
      · rw [if_pos hx] at hnx
        have hnext := Lib.hid hnx
        have hx' : (k : Int) ≤ x := hx
        clear hnx
        have ho1 := ho.alloc (.cells #[.int .i64 (x + 1)] 3)
        have hb3 := hb.alloc hb.size (.cells #[.int .i64 (x + 1)] 3)
        have hsz : w.heap.size ≤ wr.heap.size := hb.size
        have hcell : (wr.alloc (.cells #[.int .i64 (x + 1)] 3)).cell? ⟨wr.heap.size, 0, none⟩ = some (.int .i64 (x + 1)) := by simp
        have HC := Lib.hid (one_cell hcell)
        clear hcell ho hb
        go_wp2_with (at_builtin; refine wpList_append_own _ rfl (.tmp 20) (.tmp 22) 27 rfl w.heap.size 3 i0 (.int .i64 0) 1 8 Try.underlying27 hi0 hz0 hz1 HS.out rfl (by decide) _ j _ rfl ho1 ⟨wr.heap.size, 0, none⟩ 1 1 [.int .i64 (x + 1)] rfl rfl HC.out (int_one _) ?c3 ?c4 ?c5 ?_)
        case c3 => unfold maxLen; omega
        case c4 => omega
        case c5 => first | (simp; omega) | omega
        intro v2 w2 ho3 hg _
        have ho4 : w2.ownsRow w.heap.size 3 1 v2 (j + 1) (icells (shfL k (p.take (j + 1)))) := by
          rw [hnext.out, icells_append]
          exact ho3
        have hb5 : Below w.heap.size w w2 := below_own hb3 ho1 (Nat.le_refl _) (by first | (simp; omega) | omega) hg
        clear ho3 hg ho1 hb3 hnext HC c1
        go_wp2
        refine ⟨⟨j + 1, by omega, by go_num, ho4, hb5⟩, ?_⟩
        (first | (simp only [intOf]; omega) | (trace_state; omega))
      · rw [if_neg hx] at hnx
        have hnext := Lib.hid hnx
        have hx' : ¬ (k : Int) ≤ x := hx
        clear hnx
        have ho1 := ho.alloc (.cells #[.int .i64 x] 3)
        have hb3 := hb.alloc hb.size (.cells #[.int .i64 x] 3)
        have hsz : w.heap.size ≤ wr.heap.size := hb.size
        have hcell : (wr.alloc (.cells #[.int .i64 x] 3)).cell? ⟨wr.heap.size, 0, none⟩ = some (.int .i64 x) := by simp
        have HC := Lib.hid (one_cell hcell)
        clear hcell ho hb
        go_wp2_with (at_builtin; refine wpList_append_own _ rfl (.tmp 20) (.tmp 22) 27 rfl w.heap.size 3 i0 (.int .i64 0) 1 8 Try.underlying27 hi0 hz0 hz1 HS.out rfl (by decide) _ j _ rfl ho1 ⟨wr.heap.size, 0, none⟩ 1 1 [.int .i64 x] rfl rfl HC.out (int_one _) ?c3 ?c4 ?c5 ?_)
        case c3 => unfold maxLen; omega
        case c4 => omega
        case c5 => first | (simp; omega) | omega
        intro v2 w2 ho3 hg _
        have ho4 : w2.ownsRow w.heap.size 3 1 v2 (j + 1) (icells (shfL k (p.take (j + 1)))) := by
          rw [hnext.out, icells_append]
          exact ho3
        have hb5 : Below w.heap.size w w2 := below_own hb3 ho1 (Nat.le_refl _) (by first | (simp; omega) | omega) hg
        clear ho3 hg ho1 hb3 hnext HC c1
        go_wp2
        refine ⟨⟨j + 1, by omega, by go_num, ho4, hb5⟩, ?_⟩
        (first | (simp only [intOf]; omega) | (trace_state; omega))
    · have e : j = p.length := by omega
      subst e
      rw [List.take_length] at ho
      have hel := Lib.hid (shfL_len k p)
      have hpost : NewInts (shfL k p) w (.returned u5) wr := ⟨_, rfl, by rw [hel.out]; exact ho, hb⟩
      clear ho hb hA
      go_wp2
      go_ret
      exact hpost

set_option maxRecDepth 100000 in
set_option maxHeartbeats 8000000 in
theorem l6Without_any (n : Nat) (hn : n ≤ 4) (cs : List Int) (hc : constB cs = true) (M : List (List Int)) (hfm : FitR M) (a : Int) (x : Value) (w : World) (hx : OrbIx w x n cs M) :
    Calls Try.prog 104 #[x, .int .i64 a] w (OrbOut n (restL cs a) (lesM n cs M a) w) := by
  obtain ⟨i0, hi0, hz0, hz1, hz2⟩ := info_parts int_infoM
  have HSZ := Lib.hid hz2
  clear hz2
  obtain ⟨A, c0, B, d, rfl, hl, hmr, hm⟩ := hx
  have hb0 : Below w.heap.size w ((w.alloc (.cells #[.int .i64 (n : Int), .slice A cs.length c0, .slice B M.length d] 29)).alloc (.cells #[.int .i64 0, .slice none 0 0, .slice none 0 0] 29)) := ((Below.refl _ _).alloc (Nat.le_refl _) _).alloc (by simp) _
  have k0 : ((w.alloc (.cells #[.int .i64 (n : Int), .slice A cs.length c0, .slice B M.length d] 29)).alloc (.cells #[.int .i64 0, .slice none 0 0, .slice none 0 0] 29)).heap[w.heap.size]? = some (.cells #[.int .i64 (n : Int), .slice A cs.length c0, .slice B M.length d] 29 (0, 0)) := (Below.heap_alloc _ _ _ (by simp)).trans (heap_alloc_new w _)
  have k1 : ((w.alloc (.cells #[.int .i64 (n : Int), .slice A cs.length c0, .slice B M.length d] 29)).alloc (.cells #[.int .i64 0, .slice none 0 0, .slice none 0 0] 29)).heap[w.heap.size + 1]? = some (.cells #[.int .i64 0, .slice none 0 0, .slice none 0 0] 29 (0, 0)) := by
    have h := heap_alloc_new (w.alloc (.cells #[.int .i64 (n : Int), .slice A cs.length c0, .slice B M.length d] 29)) (.cells #[.int .i64 0, .slice none 0 0, .slice none 0 0] 29)
    rw [World.size_alloc] at h
    exact h
  have HL := Lib.hid hl
  have HM := Lib.hid hmr
  have KA0 := Lib.hid k0
  have KR0 := Lib.hid k1
  have HBW := Lib.hid hb0
  have hck := const_len (restL_const a hc)
  have hk3 := const_len hc
  have HND := Lib.hid (const_nodup hc)
  have HCN : Hid (∀ k, k < cs.length → restL (cs.take (k + 1)) a = if itAt cs k = a then restL (cs.take k) a else restL (cs.take k) a ++ [itAt cs k]) := Lib.hid (fun k hk => restL_next hk)
  have HCL3 : Hid (∀ k, (restL (cs.take k) a).length ≤ 3) := Lib.hid (fun k => by
    have h1 := restL_len (cs.take k) a
    rw [List.length_take] at h1
    omega)
  have HCE : Hid (restL (cs.take cs.length) a = restL cs a) := Lib.hid (by rw [List.take_length])
  have HEM : Hid (lesM n cs M a = (allP n (restL cs a).length).filter (lesG cs M a)) := Lib.hid rfl
  have HGG : Hid (∀ q, q.length ≤ 4 → lesG cs M a q = thereB M (patL cs (exL (numL (restL cs a ++ [a]) (shfL (restL cs a).length q).length) (shfL (restL cs a).length q)))) := Lib.hid (fun q _ => by rw [shfL_len]; rfl)
  have HPL := Lib.hid (allP_pos (k := ((restL cs a).length : Int)) (by omega) n)
  have HPM := Lib.hid (allP_4096 (k := ((restL cs a).length : Int)) (by omega) (by omega) hn)
  have HRW := Lib.hid (fun i (hi : i < (allP n (restL cs a).length).length) => (allP_row (k := ((restL cs a).length : Int)) (by omega) hi))
  have HTH := Lib.hid (thoseL_filter n (restL cs a).length (lesG cs M a))
  have HFF := Lib.hid (filter_fitR (k := ((restL cs a).length : Int)) (by omega) (by omega) hn (lesG cs M a))
  have hal := fun W => l6All_any (restL cs a).length hck n hn n rfl W
  have hthose := fun (W : World) (L : List (List Int)) (h : FitR L) A' c' (hA : ConstAt W A' c' (restL cs a)) (B9 : Option Addr) (d9 : Nat) (hB : RowsIn W (.slice B9 L.length d9) L) => l6Those_any n hn (restL cs a) hck L h A' B9 c' d9 W hA hB
  generalize thoseL n (restL cs a).length = TH at hthose HTH
  generalize allP n (restL cs a).length = P at *
  have oC0 : ∀ g, g = ((w.alloc (.cells #[.int .i64 (n : Int), .slice A cs.length c0, .slice B M.length d] 29)).alloc (.cells #[.int .i64 0, .slice none 0 0, .slice none 0 0] 29)).heap.size → (((w.alloc (.cells #[.int .i64 (n : Int), .slice A cs.length c0, .slice B M.length d] 29)).alloc (.cells #[.int .i64 0, .slice none 0 0, .slice none 0 0] 29)).alloc (.cells #[] 3)).ownsRow ((w.alloc (.cells #[.int .i64 (n : Int), .slice A cs.length c0, .slice B M.length d] 29)).alloc (.cells #[.int .i64 0, .slice none 0 0, .slice none 0 0] 29)).heap.size 3 1 (.slice (some ⟨g, 0, none⟩) 0 0) 0 [] := fun g e => by
    subst e
    exact World.ownsRow_lit ((w.alloc (.cells #[.int .i64 (n : Int), .slice A cs.length c0, .slice B M.length d] 29)).alloc (.cells #[.int .i64 0, .slice none 0 0, .slice none 0 0] 29)) #[] 0 (Nat.le_refl _) (by decide) rfl
  have oC := oC0 (w.heap.size + 1 + 1) (by simp)
  clear oC0
  have hbL : Below ((w.alloc (.cells #[.int .i64 (n : Int), .slice A cs.length c0, .slice B M.length d] 29)).alloc (.cells #[.int .i64 0, .slice none 0 0, .slice none 0 0] 29)).heap.size ((w.alloc (.cells #[.int .i64 (n : Int), .slice A cs.length c0, .slice B M.length d] 29)).alloc (.cells #[.int .i64 0, .slice none 0 0, .slice none 0 0] 29)) (((w.alloc (.cells #[.int .i64 (n : Int), .slice A cs.length c0, .slice B M.length d] 29)).alloc (.cells #[.int .i64 0, .slice none 0 0, .slice none 0 0] 29)).alloc (.cells #[] 3)) := (Below.refl _ _).alloc (Nat.le_refl _) _
  have k2 := (hbL.block _ (OrbK.box_lt k0)).trans k0
  obtain ⟨b0, b1, b2⟩ := OrbK.row3 k2
  have HLx := Lib.hid (hl.1.below hb0)
  clear hl hmr hm k0 k1 hb0
  go_enter Try.func104, Try.ntmps104
  go_wp2
  clear b0 b1 b2 k2
  generalize ((w.alloc (.cells #[.int .i64 (n : Int), .slice A cs.length c0, .slice B M.length d] 29)).alloc (.cells #[.int .i64 0, .slice none 0 0, .slice none 0 0] 29)) = w1 at *
  go_loopw [5, 7, 16] (fun v5 _ i wr => ∃ (k : Nat), k ≤ cs.length ∧ i = .int .i64 k ∧ wr.ownsRow w1.heap.size 3 1 v5 (restL (cs.take k) a).length (icells (restL (cs.take k) a)) ∧ Below w1.heap.size w1 wr) (fun _ _ i _ => cs.length - (intOf i).toNat)
  case atStart => exact ⟨0, Nat.zero_le _, rfl, oC, hbL⟩
  case round =>
    clear oC hbL
    obtain ⟨k, hk, rfl, ho, hb⟩ := hrel
    by_cases hlt : k < cs.length
    · obtain ⟨b1, o1, rfl, hb1, hc1⟩ := (HLx.out.below hb) (by omega)
      have c1 := hc1 k hlt
      have hnx := HCN.out k hlt
      have h3 := HCL3.out k
      clear hc1
      generalize hL1 : restL (cs.take k) a = L1 at ho hnx h3
      clear hL1
      generalize itAt cs k = y at c1 hnx
      by_cases hy : y = a
      · rw [if_pos hy] at hnx
        have HNX := Lib.hid hnx
        have hyb : (y != a) = false := by simpa using hy
        have hyd : decide (y = a) = true := by simpa using hy
        clear hnx
        go_wp2
        refine ⟨⟨k + 1, by omega, by go_num, by rw [HNX.out]; exact ho, hb⟩, ?_⟩
        (first | (simp only [intOf]; omega) | omega)
      · rw [if_neg hy] at hnx
        have HNX := Lib.hid hnx
        have hyb : (y != a) = true := by simpa using hy
        clear hnx
        have ho1 := ho.alloc (.cells #[.int .i64 y] 3)
        have hb3 := hb.alloc hb.size (.cells #[.int .i64 y] 3)
        have hsz : w1.heap.size ≤ wr.heap.size := hb.size
        have hcell : (wr.alloc (.cells #[.int .i64 y] 3)).cell? ⟨wr.heap.size, 0, none⟩ = some (.int .i64 y) := by simp
        have HC := Lib.hid (one_cell hcell)
        clear hcell ho hb
        go_wp2_with (at_builtin; refine wpList_append_own _ rfl (.tmp 23) (.tmp 25) 27 rfl w1.heap.size 3 i0 (.int .i64 0) 1 8 Try.underlying27 hi0 hz0 hz1 HSZ.out rfl (by decide) _ L1.length _ rfl ho1 ⟨wr.heap.size, 0, none⟩ 1 1 [.int .i64 y] rfl rfl HC.out (int_one _) ?c3 ?c4 ?c5 ?_)
        case c3 => unfold maxLen; omega
        case c4 => omega
        case c5 => first | (simp; omega) | omega
        intro v2 w2 ho3 hg _
        have ho4 : w2.ownsRow w1.heap.size 3 1 v2 (restL (cs.take (k + 1)) a).length (icells (restL (cs.take (k + 1)) a)) := by
          rw [HNX.out, icells_append, List.length_append]
          exact ho3
        have hb5 : Below w1.heap.size w1 w2 := below_own hb3 ho1 (Nat.le_refl _) (by first | (simp; omega) | omega) hg
        clear ho3 hg ho1 hb3 HNX HC c1
        go_wp2
        refine ⟨⟨k + 1, by omega, by go_num, ho4, hb5⟩, ?_⟩
        (first | (simp only [intOf]; omega) | omega)
    · have e : k = cs.length := by omega
      subst e
      rw [HCE.out] at ho
      obtain ⟨w2, rfl⟩ : ∃ x : World, x = wr := ⟨_, rfl⟩
      obtain ⟨AC, capC, rfl, hAC⟩ := own_intsAt ho
      have HZC : Hid (AC = none → capC = 0) := Lib.hid (hz_own ho)
      have HC3 := Lib.hid hAC
      have KA := Lib.hid ((hb.block _ (OrbK.box_lt KA0.out)).trans KA0.out)
      have KR := Lib.hid ((hb.block _ (OrbK.box_lt KR0.out)).trans KR0.out)
      have HBW3 := Lib.hid (HBW.out.trans (hb.mono HBW.out.size))
      clear ho hb hAC KA0 KR0 HCE HCN HCL3 HLx
      generalize restL cs a = C' at *
      have hbL : Below w2.heap.size w2 (w2.alloc (.cells #[] 27)) := (Below.refl _ _).alloc (Nat.le_refl _) _
      have k3 := (hbL.block _ (OrbK.box_lt KA.out)).trans KA.out
      obtain ⟨b0, b1, b2⟩ := OrbK.row3 k3
      go_wp2_with fail
      (with_reducible refine (hal _).mono ?_)
      rintro e w8 ⟨v8, S8, rfl, hS8, hS8b, hb8⟩
      obtain ⟨g, off, cg, u, T, rfl, hleft, hTS, hgS⟩ := left_of hS8 HPL.out
      have hsL : (w2.alloc (.cells #[] 27)).heap.size = w2.heap.size + 1 := by simp
      rw [hsL] at hS8b
      have hg0 := hS8b g hgS
      have O8 := Lib.hid ((own_lit0 w2).keep hb8)
      have HB8 := Lib.hid (hbL.trans (hb8.mono hbL.size))
      have HTB : Hid (∀ j, ∀ b ∈ T j, w2.heap.size + 1 ≤ b ∧ b < w8.heap.size) := Lib.hid (fun j b hb => ⟨hS8b b (hTS j b hb), hS8.lt b (hTS j b hb)⟩)
      have HLT := Lib.hid hleft
      have HS8 : Hid (w2.heap.size ≤ w8.heap.size) := Lib.hid (by have := hb8.size; omega)
      clear hS8 hS8b hTS hgS hleft hbL hsL hb8 b0 b1 b2 k3 hal
      go_wp2
      go_loopw [8, 10, 11, 35] (fun v8 _ _ i wr => ∃ (j : Nat) (U2 : List Nat), j ≤ P.length ∧ i = .int .i64 j ∧ Hid (Own wr U2 v8 (rowsMem ((P.take j).filter (lesG cs M a)))) ∧ Hid (Left wr P g off u T j) ∧ Hid (∀ b ∈ U2, w2.heap.size ≤ b ∧ b ≠ g ∧ ∀ q, j ≤ q → b ∉ T q) ∧ Below w2.heap.size w2 wr ∧ w8.heap.size ≤ wr.heap.size) (fun _ _ _ i _ => P.length - (intOf i).toNat)
      case atStart => exact ⟨0, _, Nat.zero_le _, rfl, O8, HLT, Lib.hid (fun b hb => by
        have e : b = w2.heap.size := by simpa using hb
        subst e
        exact ⟨Nat.le_refl _, by omega, fun q _ hq => by have := (HTB.out q _ hq).1; omega⟩), HB8.out, Nat.le_refl _⟩
      case round =>
        clear O8 HLT HB8
        obtain ⟨j, U2, hj, rfl, hU, hLf, hUb, hb, hsw⟩ := hrel
        have hPb : P.length ≤ 4096 := HPM.out
        by_cases hlt : j < P.length
        · obtain ⟨wo, rfl⟩ : ∃ x : World, x = wr := ⟨_, rfl⟩
          obtain ⟨A1, c1, hu1, hA1, hc1, hO1⟩ := hLf.out.row hlt
          obtain ⟨hql, hqp⟩ := HRW.out j hlt
          have hq4 : (rwAt P j).length ≤ 4 := by omega
          have hcp := l1Copy_some AC capC C' wo (HC3.out.below hb) HZC.out (by omega)
          have hent := pat_places (k := C'.length) hqp (V := numL C' (rwAt P j).length) (by rw [numL_len]; omega)
          have HENT : Hid (∀ i, i < (rwAt P j).length → 0 ≤ itAt (rwAt P j) i ∧ (itAt (rwAt P j) i).toNat < C'.length + (rwAt P j).length) := Lib.hid (fun i hi => by
            have h1 := hent i hi
            rw [numL_len] at h1
            exact h1)
          have hfy := Lib.hid (fun h => filter_yes (f := lesG cs M a) hlt h)
          have hfn := Lib.hid (fun h => filter_no (f := lesG cs M a) hlt h)
          have hfl := filter_take_le P (lesG cs M a) j
          have HG := Lib.hid (HGG.out (rwAt P j) hq4)
          have HO3 := Lib.hid hO1
          have HA1 := Lib.hid hA1
          have HDT := Lib.hid (fun b (h1 : b ∈ U2) => (hUb.out b h1).2.2 j (Nat.le_refl _))
          have HDJ := Lib.hid (fun q (h : j + 1 ≤ q) b (h1 : b ∈ T j) => hLf.out.dis j q (by omega) b h1)
          have HGJ := Lib.hid (hLf.out.hd j)
          have HTJ := Lib.hid (HTB.out j)
          have hgl := hLf.out.lt
          clear hA1 hu1 hO1 hqp hql hent
          generalize hFF : (P.take j).filter (lesG cs M a) = FF at hU hfy hfn hfl
          generalize hpp : rwAt P j = q at hq4 hfy hfn hc1 HG HO3 HA1 HENT ⊢
          clear hFF hpp
          go_wp2_with fail
          (with_reducible refine hcp.mono ?_)
          rintro e w3 ⟨g3, cap3, rfl, ho3, hb3⟩
          have hbx : Below w3.heap.size w3 (w3.alloc (.cells #[.int .i64 a] 3)) := (Below.refl _ _).alloc (Nat.le_refl _) _
          have ho3b := own_below ho3 hbx
          have hb3b := hb3.trans (hbx.mono hb3.size)
          have hsz3 : wo.heap.size ≤ (w3.alloc (.cells #[.int .i64 a] 3)).heap.size := hb3b.size
          have hcell : (w3.alloc (.cells #[.int .i64 a] 3)).cell? ⟨w3.heap.size, 0, none⟩ = some (.int .i64 a) := by simp
          have HCL := Lib.hid (one_cell hcell)
          clear hcp ho3 hb3 hbx hcell hc1
          go_wp2_with (at_builtin; refine wpList_append_own _ rfl (.tmp 40) (.tmp 42) 27 rfl wo.heap.size 3 i0 (.int .i64 0) 1 8 Try.underlying27 hi0 hz0 hz1 HSZ.out rfl (by decide) _ C'.length _ rfl ho3b ⟨w3.heap.size, 0, none⟩ 1 1 [.int .i64 a] rfl rfl HCL.out (int_one _) ?c3 ?c4 ?c5 ?_)
          case c3 => unfold maxLen; omega
          case c4 => omega
          case c5 => exact hsz3
          intro v4 w4 ho4 hg4 _
          have hb4 : Below wo.heap.size wo w4 := below_own hb3b ho3b (Nat.le_refl _) hsz3 hg4
          have ho4' : w4.ownsRow wo.heap.size 3 1 v4 (C' ++ [a]).length (icells (C' ++ [a])) := by
            rw [icells_append, List.length_append]; exact ho4
          obtain ⟨A4, c4, rfl, hA4⟩ := own_intsAt ho4'
          have hz4 := hz_own ho4'
          have hla : (C' ++ [a]).length = C'.length + 1 := by simp
          have hsh := l6Shift_any A1 c1 q C'.length w4 (HA1.out.1.below hb4) (by omega) (by omega) (fun i hi => by have := HENT.out i hi; omega)
          have HA4 := Lib.hid hA4
          have HZ4 := Lib.hid hz4
          clear ho4 ho4' hg4 ho3b hb3b hsz3 HCL hA4 hz4
          have HEN2 : Hid (∀ i, i < (shfL C'.length q).length → 0 ≤ itAt (shfL C'.length q) i ∧ (itAt (shfL C'.length q) i).toNat < (C' ++ [a]).length + (shfL C'.length q).length) := Lib.hid (fun i hi => by
            rw [shfL_len] at hi
            have h1 := HENT.out i hi
            have h2 : itAt (shfL C'.length q) i = if itAt q i ≥ ((C'.length : Nat) : Int) then itAt q i + 1 else itAt q i := by
              rw [itAt_get _ _ (by rw [shfL_len]; exact hi), itAt_get _ _ hi]
              simp [shfL]
            rw [h2, shfL_len, hla]
            split <;> omega)
          have hsl := shfL_len C'.length q
          have HEX := Lib.hid (fun (W : World) (h : Below w4.heap.size w4 W) A5 c5 (hi : IntsAt W A5 (shfL C'.length q)) => l6Example_any A4 A5 c4 c5 (C' ++ [a]) (shfL C'.length q) W (HA4.out.below h) HZ4.out hi (by omega) (by omega) HEN2.out)
          have hXl : (exL (numL (C' ++ [a]) (shfL C'.length q).length) (shfL C'.length q)).length ≤ 4 := by rw [exL_len]; omega
          rw [hla] at HEX ⊢
          generalize exL (numL (C' ++ [a]) (shfL C'.length q).length) (shfL C'.length q) = X at HEX HG hXl
          rw [hsl] at HEX
          generalize shfL C'.length q = Q at *
          go_wp2_with fail
          (with_reducible refine hsh.mono ?_)
          rintro e w5 ⟨v5, rfl, ho5, hb5⟩
          obtain ⟨A5, c5, rfl, hA5⟩ := own_intsAt ho5
          have hex := HEX.out w5 hb5 A5 c5 hA5
          clear ho5 hA5 hsh
          go_wp2_with fail
          (with_reducible refine hex.mono ?_)
          rintro e wr ⟨v6, rfl, ho6, hb6⟩
          obtain ⟨A7, c7, rfl, hA7⟩ := own_intsAt ho6
          have hbo : Below wo.heap.size wo wr := hb4.trans ((hb5.trans (hb6.mono hb5.size)).mono hb4.size)
          clear ho6 hb5 hb6 hb4 hex HEX HEN2 HA4 HZ4 HENT HA1
          have hdw : Below wr.heap.size wr wr.drew := ⟨rfl, rfl, rfl, Nat.le_refl _, fun _ _ => rfl⟩
          have hbA := hb.trans (hbo.mono hb.size)
          have HBA := Lib.hid (HBW3.out.trans (hbA.mono HBW3.out.size))
          have hpat := l6Pattern_any A A7 c0 c7 cs X wr.drew (HL.out.1.below (HBA.out.trans (hdw.mono HBA.out.size))) HL.out.2 HND.out (hA7.below hdw) (by omega) (by omega)
          have HTQ := Lib.hid (fun (W : World) (h : Below wr.heap.size wr W) (A9 : Option Addr) (c9 : Nat) (hi : IntsAt W A9 (patL cs X)) => l6There_any B A9 d c9 M (patL cs X) W (HM.out.below (HBA.out.trans (h.mono HBA.out.size))) hi hfm (by rw [patL_len]; omega))
          have ka := (hbA.block _ (OrbK.box_lt KA.out)).trans KA.out
          have HS : Hid (∀ W : World, Below wr.heap.size wr W → W.cell? ⟨w.heap.size, 1, none⟩ = some (.slice A cs.length c0) ∧ W.cell? ⟨w.heap.size, 2, none⟩ = some (.slice B M.length d)) :=
            Lib.hid (fun W h => by
              obtain ⟨_, q1, q2⟩ := OrbK.row3 ((h.block _ (OrbK.box_lt ka)).trans ka)
              exact ⟨q1, q2⟩)
          have hso : wo.heap.size ≤ wr.heap.size := hbo.size
          clear hA7 hbA ka HBA hsl hla
          generalize patL cs X = Y at hpat HTQ HG
          cases hin : lesG cs M a q with
          | true =>
            have hyy : thereB M Y = true := HG.out.symm.trans hin
            rw [hyy] at HTQ
            have HNX := Lib.hid (hfy.out hin)
            clear hfy hfn
            obtain ⟨f1, f2⟩ := HS.out wr.drew hdw
            go_wp2
            go_region_held3 (fun w' => w'.cell? ⟨w.heap.size, 1, none⟩ = some (.slice A cs.length c0) ∧ w'.cell? ⟨w.heap.size, 2, none⟩ = some (.slice B M.length d))
              (with_reducible exact ⟨by assumption, by assumption⟩)
              (first
              | (go_at_call 69; (with_reducible refine hpat.mono ?_); rintro e w6 ⟨v6, rfl, ho6, hb6⟩; obtain ⟨A6, c6, rfl, hA6⟩ := own_intsAt ho6; have fr6 := hdw.trans (hb6.mono hdw.size); have htq := HTQ.out w6 fr6 A6 c6 hA6; obtain ⟨f3, f4⟩ := HS.out w6 fr6)
              | (go_at_call 85; (with_reducible refine htq.mono ?_); rintro e w5 ⟨rfl, hbb⟩; have fr5 := fr6.trans (hbb.mono fr6.size); obtain ⟨f5, f6⟩ := HS.out w5 fr5)
              | fail)
            have hb5 := hbo.trans (fr5.mono hbo.size)
            clear f1 f2 f3 f4 f5 f6 hpat htq HTQ hbb hb6 fr5 fr6 HS hdw ho6 hA6 hbo
            have hbx : Below w5.heap.size w5 (w5.alloc (.cells #[.slice A1 q.length c1] 27)) := (Below.refl _ _).alloc (Nat.le_refl _) _
            have hb56 := hb5.trans (hbx.mono hb5.size)
            have hU6 := hU.out.keep hb56
            have HO6 := Lib.hid (HO3.out.keep hb56)
            have hcell : (w5.alloc (.cells #[.slice A1 q.length c1] 27)).cell? ⟨w5.heap.size, 0, none⟩ = some (.slice A1 q.length c1) := by simp
            have HC9 := Lib.hid (one_cell hcell)
            have HLF := Lib.hid (hLf.out.below hb56)
            have HB6 := Lib.hid (hb.trans (hb56.mono hb.size))
            have hs5 := hb5.size
            have hdl : FF.length + 1 ≤ 16777216 := by omega
            clear hcell hbx hb56 hb5 hU hLf HO3 hb
            go_wp2_with (at_builtin; refine wpList_append_rows rfl (.tmp 56) (.tmp 58) rfl _ U2 FF rfl hU6 ⟨w5.heap.size, 0, none⟩ _ q (T j) rfl HC9.out HO6.out HDT.out hdl ?_)
            intro g2 cap2 U3 w7 hU7 hU3 hon
            have hs7 : w5.heap.size + 1 ≤ w7.heap.size := by have := hon.size; rw [World.size_alloc] at this; exact this
            have L7 := Lib.hid (HLF.out.next.only hon (fun h => (hUb.out _ h).2.1 rfl) (fun q hq _ b h1 h2 => (hUb.out b h2).2.2 q (by omega) h1))
            have hb7 := Only.below HB6.out hon HB6.out.size (fun b h => by have := (hUb.out _ h).1; omega)
            have B7 : Hid (∀ b ∈ U3, w2.heap.size ≤ b ∧ b ≠ g ∧ ∀ q, j + 1 ≤ q → b ∉ T q) := Lib.hid (fun b h => by
              rcases hU3 b h with h1 | h1 | h1
              · exact ⟨(hUb.out b h1).1, (hUb.out b h1).2.1, fun q hq => (hUb.out b h1).2.2 q (by omega)⟩
              · exact ⟨by have := (HTJ.out b h1).1; omega, fun e => HGJ.out (e ▸ h1), fun q hq => HDJ.out q hq b h1⟩
              · (try rw [World.size_alloc] at h1)
                have h8 := HS8.out
                exact ⟨by omega, by omega, fun q _ hq => by have := (HTB.out q b hq).2; omega⟩)
            rw [← HNX.out] at hU7
            have U7 := Lib.hid hU7
            clear hU7 hU3 hon HB6 HLF HO6 HC9 hUb HNX hU6
            go_wp2
            refine ⟨⟨j + 1, U3, by omega, by go_num, U7, L7, B7, hb7, by omega⟩, ?_⟩
            simp only [intOf]
            omega
          | false =>
            have hyy : thereB M Y = false := HG.out.symm.trans hin
            rw [hyy] at HTQ
            have HNX := Lib.hid (hfn.out hin)
            clear hfy hfn
            obtain ⟨f1, f2⟩ := HS.out wr.drew hdw
            go_wp2
            go_region_held3 (fun w' => w'.cell? ⟨w.heap.size, 1, none⟩ = some (.slice A cs.length c0) ∧ w'.cell? ⟨w.heap.size, 2, none⟩ = some (.slice B M.length d))
              (with_reducible exact ⟨by assumption, by assumption⟩)
              (first
              | (go_at_call 69; (with_reducible refine hpat.mono ?_); rintro e w6 ⟨v6, rfl, ho6, hb6⟩; obtain ⟨A6, c6, rfl, hA6⟩ := own_intsAt ho6; have fr6 := hdw.trans (hb6.mono hdw.size); have htq := HTQ.out w6 fr6 A6 c6 hA6; obtain ⟨f3, f4⟩ := HS.out w6 fr6)
              | (go_at_call 85; (with_reducible refine htq.mono ?_); rintro e w5 ⟨rfl, hbb⟩; have fr5 := fr6.trans (hbb.mono fr6.size); obtain ⟨f5, f6⟩ := HS.out w5 fr5)
              | fail)
            have hb5 := hbo.trans (fr5.mono hbo.size)
            clear f1 f2 f3 f4 f5 f6 hpat htq HTQ hbb hb6 fr5 fr6 HS hdw ho6 hA6 hbo
            have U5 := hU.out.keep hb5
            rw [← HNX.out] at U5
            have U6 := Lib.hid U5
            have L5 := Lib.hid ((hLf.out.below hb5).next)
            have B5' : Hid (∀ b ∈ U2, w2.heap.size ≤ b ∧ b ≠ g ∧ ∀ q, j + 1 ≤ q → b ∉ T q) := Lib.hid (fun b h1 => ⟨(hUb.out b h1).1, (hUb.out b h1).2.1, fun q hq => (hUb.out b h1).2.2 q (by omega)⟩)
            have hb7 := hb.trans (hb5.mono hb.size)
            have hs7 : w8.heap.size ≤ w5.heap.size := Nat.le_trans hsw hb5.size
            clear hb5 hU hLf hUb HNX HO3 hb hsw U5
            go_wp2
            refine ⟨⟨j + 1, U2, by omega, by go_num, U6, L5, B5', hb7, hs7⟩, ?_⟩
            simp only [intOf]
            omega
        · have e : j = P.length := by omega
          subst e
          rw [List.take_length] at hU
          have hth := HTH.out
          have hff := HFF.out
          rw [← HEM.out] at hU hth hff
          generalize lesM n cs M a = R at *
          have hU' := hU.out.at_
          obtain ⟨B9, d9, hB9⟩ := RowsIn.form (ls := R) hU'
          subst hB9
          have hso := hthose wr R hff AC capC ⟨HC3.out.below hb, HZC.out⟩ B9 d9 hU'
          rw [hth] at hso
          have hr := (hb.block _ (OrbK.box_lt KA.out)).trans KA.out
          have hq := (hb.block _ (OrbK.box_lt KR.out)).trans KR.out
          obtain ⟨b0, b1, b2⟩ := OrbK.row3 hr
          clear hU hU' hff hth HTH HFF hthose HPL HPM HRW HTB hUb hLf
          go_wp2_with (go_at_call 70; (with_reducible refine hso.mono ?_); rintro e w9 ⟨A4, c4, A7, c7, S9, rfl, hL9, hS9, hb9⟩; have hr9 := (hb9.block _ (OrbK.box_lt hq)).trans hq; obtain ⟨x0, x1, x2⟩ := OrbK.row3 hr9; obtain ⟨y0, y1, y2⟩ := z3At hr9)
          have hbF := HBW3.out.trans ((hb.trans (hb9.mono hb.size)).mono HBW3.out.size)
          have hpost := orb_pass (r := w.heap.size + 1) hL9 hbF (Nat.le_succ _) (fun b h => by have h1 := hS9 b h; have h2 := OrbK.box_lt hq; omega)
          clear hso hL9 hS9 hb9 hr9 hb hr hq b0 b1 b2
          go_wp2
          exact bodyPost_ret (v := .agg #[.int .i64 (n : Int), .slice A4 C'.length c4, .slice A7 R.length c7]) (by simp [results, Try.results104, go_sem, x0, x1, x2]) rfl hpost
end Go.Proofs.Ytdbogjhkcnajkaa
end

