/-
  Patterns as codes of base eight, and tables of them: plain words, no program is walked here. Whether a list of pairs is a permutation, as the program decides it: a contract. Whether a list of pairs is a permutation, as the model decides it: a contract; and that both decide alike. The moved atoms of a list of pairs: in the program, as a contract. A number is put into an ascending list, and the atoms of two lists of pairs together: in the model, as contracts. The comparison of two pairs and of two lists of pairs, as contracts. Comparing, numbering and copying lists of integers, as contracts. What is a term: plain words, no program is walked here. All terms within a term: plain words. The shape of a term, in the model, as contracts.
-/
import Derived.Test.YtdbogjhkcnajkaaKPatternsOf2
import Derived.Test.YtdbogjhkcnajkaaKPatternsOf1
import Derived.WalkLawsBesides
import Derived.WalkSpells
import Derived.BigQuiet
import Derived.Lib.QuietBelow
import Derived.Lib.Hide
section
namespace Go.Proofs.Ytdbogjhkcnajkaa
open Go.RowKit
set_option linter.unusedVariables false

/-- The number of which a list's numbers are the digits of base eight. -/
def codeP (p : List Int) : Nat := p.foldl (fun c n => c * 8 + n.toNat) 0
theorem codeP_snoc (p : List Int) (n : Int) : codeP (p ++ [n]) = codeP p * 8 + n.toNat := by unfold codeP; rw [List.foldl_append]; rfl
theorem codeP_next {p : List Int} {i : Nat} (h : i < p.length) : codeP (p.take (i + 1)) = codeP (p.take i) * 8 + (itAt p i).toNat := by rw [itake_next h, codeP_snoc]
theorem codeP_nil : codeP [] = 0 := rfl
def digP (p : List Int) : Prop := ∀ n ∈ p, 0 ≤ n ∧ n < 8
theorem digP_snoc {p : List Int} {n : Int} (h : digP (p ++ [n])) : digP p ∧ 0 ≤ n ∧ n < 8 := ⟨fun x hx => h x (List.mem_append_left _ hx), h n (by simp)⟩
theorem digP_at {p : List Int} (h : digP p) {i : Nat} (hi : i < p.length) : 0 ≤ itAt p i ∧ itAt p i < 8 := h _ (by rw [itAt_get _ _ hi]; exact List.getElem_mem hi)
/-- The digits of a number. -/
def decP : Nat → Nat → List Int
  | 0, _ => []
  | w + 1, c => decP w (c / 8) ++ [((c % 8 : Nat) : Int)]
theorem decP_len : ∀ (w c : Nat), (decP w c).length = w
  | 0, _ => rfl
  | w + 1, c => by rw [decP, List.length_append, decP_len w]; rfl
theorem snoc_of {p : List Int} {w : Nat} (h : p.length = w + 1) : ∃ q n, p = q ++ [n] ∧ q.length = w := by
  have hne : p ≠ [] := fun e => by rw [e] at h; simp at h
  exact ⟨p.dropLast, p.getLast hne, (List.dropLast_concat_getLast hne).symm, by simp [h]⟩
theorem codeP_lt : ∀ {w : Nat} {p : List Int}, p.length = w → digP p → codeP p < 8 ^ w
  | 0, p, h, _ => by rw [List.eq_nil_of_length_eq_zero h, codeP_nil]; decide
  | w + 1, p, h, hd => by
    obtain ⟨q, n, rfl, hq⟩ := snoc_of h
    obtain ⟨h1, h2, h3⟩ := digP_snoc hd
    have := codeP_lt hq h1
    rw [codeP_snoc, Nat.pow_succ]
    omega
theorem decP_code : ∀ {w : Nat} {p : List Int}, p.length = w → digP p → decP w (codeP p) = p
  | 0, p, h, _ => by rw [List.eq_nil_of_length_eq_zero h]; rfl
  | w + 1, p, h, hd => by
    obtain ⟨q, n, rfl, hq⟩ := snoc_of h
    obtain ⟨h1, h2, h3⟩ := digP_snoc hd
    have e1 : (codeP q * 8 + n.toNat) / 8 = codeP q := by omega
    have e2 : (((codeP q * 8 + n.toNat) % 8 : Nat) : Int) = n := by omega
    rw [codeP_snoc, decP, e1, e2, decP_code hq h1]

theorem dig_allP {k : Int} (hk : 0 ≤ k) (hk3 : k ≤ 3) {w : Nat} (hw : w ≤ 4) {p : List Int} (hp : p ∈ allP w k) : p.length = w ∧ digP p := by
  obtain ⟨h1, h2⟩ := (mem_allP hk).1 hp
  refine ⟨h1, fun n hn => ?_⟩
  obtain ⟨i, hi, e⟩ := List.getElem_of_mem hn
  have h3 := isPat_at h2 hi
  have h4 := newN_le (k := k) (p := p) (i := i) (by omega) fun j hj => (isPat_at h2 (by omega)).2
  rw [itAt_get _ _ hi, e] at h3
  omega

theorem codes_asc {k : Int} (hk : 0 ≤ k) (hk3 : k ≤ 3) : ∀ {w : Nat}, w ≤ 4 → (allP w k).Pairwise (fun a b => codeP a < codeP b)
  | 0, _ => by simp [allP]
  | w + 1, hw => by
    have ih := codes_asc hk hk3 (w := w) (by omega)
    rw [allP, List.pairwise_flatMap]
    have hb : ∀ p ∈ allP w k, ∀ x ∈ extP k p, codeP p * 8 ≤ codeP x ∧ codeP x < codeP p * 8 + 8 := by
      intro p hp x hx
      obtain ⟨h1, h2⟩ := (mem_allP hk).1 hp
      have h3 := newN_pat h2
      unfold extP at hx
      rw [List.mem_map] at hx
      obtain ⟨n, hn, rfl⟩ := hx
      rw [List.mem_range] at hn
      rw [codeP_snoc]
      omega
    refine ⟨fun p hp => ?_, ?_⟩
    · unfold extP
      rw [List.pairwise_map]
      refine List.pairwise_lt_range.imp fun {a b} hab => ?_
      rw [codeP_snoc, codeP_snoc]
      omega
    · refine List.Pairwise.imp_of_mem ?_ ih
      intro a b ha hb' hab x hx y hy
      have h1 := hb a ha x hx
      have h2 := hb b hb' y hy
      omega

theorem eq_asc : ∀ {a b : List Nat}, a.Pairwise (· < ·) → b.Pairwise (· < ·) → (∀ x, x ∈ a ↔ x ∈ b) → a = b
  | [], [], _, _, _ => rfl
  | [], y :: b, _, _, h => absurd ((h y).2 (by simp)) (by simp)
  | x :: a, [], _, _, h => absurd ((h x).1 (by simp)) (by simp)
  | x :: a, y :: b, ha, hb, h => by
    rw [List.pairwise_cons] at ha hb
    have hxy : x = y := by
      rcases List.mem_cons.1 ((h x).1 (by simp)) with e | h1
      · exact e
      · rcases List.mem_cons.1 ((h y).2 (by simp)) with e | h2
        · exact e.symm
        · have h3 := ha.1 y h2
          have h4 := hb.1 x h1
          omega
    subst hxy
    rw [eq_asc ha.2 hb.2 fun z => ?_]
    constructor
    · intro hz
      rcases List.mem_cons.1 ((h z).1 (by simp [hz])) with e | h1
      · have := ha.1 z hz; omega
      · exact h1
    · intro hz
      rcases List.mem_cons.1 ((h z).2 (by simp [hz])) with e | h1
      · have := hb.1 z hz; omega
      · exact h1

/-- The patterns of a width that a table has. -/
def patsOf (w : Nat) (f : Nat → Bool) : List (List Int) := ((List.range 4096).filter f).map (decP w)
theorem code_4096 {k : Int} (hk : 0 ≤ k) (hk3 : k ≤ 3) {w : Nat} (hw : w ≤ 4) {p : List Int} (hp : p ∈ allP w k) : codeP p < 4096 := by
  obtain ⟨h1, h2⟩ := dig_allP hk hk3 hw hp
  have h3 := codeP_lt h1 h2
  have h4 : 8 ^ w ≤ 8 ^ 4 := Nat.pow_le_pow_right (by decide) hw
  omega
/-- Only codes of patterns of a width are in a table. -/
def tabOk (w : Nat) (k : Int) (f : Nat → Bool) : Prop := ∀ c, c < 4096 → f c = true → ∃ p ∈ allP w k, codeP p = c
theorem patsOf_eq {k : Int} (hk : 0 ≤ k) (hk3 : k ≤ 3) {w : Nat} (hw : w ≤ 4) {f : Nat → Bool} (hf : tabOk w k f) : patsOf w f = (allP w k).filter fun p => f (codeP p) := by
  have e : (List.range 4096).filter f = ((allP w k).filter fun p => f (codeP p)).map codeP := by
    refine eq_asc (List.pairwise_lt_range.filter _) ?_ fun c => ?_
    · rw [List.pairwise_map]
      exact (codes_asc hk hk3 hw).filter _
    · rw [List.mem_filter, List.mem_range, List.mem_map]
      constructor
      · rintro ⟨h1, h2⟩
        obtain ⟨p, hp, rfl⟩ := hf c h1 h2
        exact ⟨p, List.mem_filter.2 ⟨hp, h2⟩, rfl⟩
      · rintro ⟨p, hp, rfl⟩
        rw [List.mem_filter] at hp
        exact ⟨code_4096 hk hk3 hw hp.1, hp.2⟩
  unfold patsOf
  rw [e, List.map_map]
  refine (List.map_congr_left fun p hp => ?_).trans (List.map_id _)
  obtain ⟨h1, h2⟩ := dig_allP hk hk3 hw (List.mem_filter.1 hp).1
  exact decP_code h1 h2
theorem code_inj {k : Int} (hk : 0 ≤ k) (hk3 : k ≤ 3) {w : Nat} (hw : w ≤ 4) {p q : List Int} (hp : p ∈ allP w k) (hq : q ∈ allP w k) (e : codeP p = codeP q) : p = q := by
  obtain ⟨h1, h2⟩ := dig_allP hk hk3 hw hp
  obtain ⟨h3, h4⟩ := dig_allP hk hk3 hw hq
  rw [← decP_code h1 h2, ← decP_code h3 h4, e]

/-- The table of several patterns. -/
def tabOf (l : List (List Int)) (c : Nat) : Bool := l.any fun p => codeP p == c
theorem tabOf_mem {l : List (List Int)} {c : Nat} : tabOf l c = true ↔ ∃ p ∈ l, codeP p = c := by simp [tabOf]
theorem tabOf_ok {w : Nat} {k : Int} {l : List (List Int)} (h : ∀ p ∈ l, p ∈ allP w k) : tabOk w k (tabOf l) := fun c _ hc => by
  obtain ⟨p, hp, e⟩ := tabOf_mem.1 hc
  exact ⟨p, h p hp, e⟩
theorem tabOf_has {k : Int} (hk : 0 ≤ k) (hk3 : k ≤ 3) {w : Nat} (hw : w ≤ 4) {l : List (List Int)} (h : ∀ p ∈ l, p ∈ allP w k) {p : List Int} (hp : p ∈ allP w k) : tabOf l (codeP p) = thereB l p := by
  rw [Bool.eq_iff_iff, tabOf_mem, there_mem]
  constructor
  · rintro ⟨q, hq, e⟩
    rw [← code_inj hk hk3 hw (h q hq) hp e]
    exact hq
  · exact fun h => ⟨p, h, rfl⟩
/-- All those of a list, in the order of all patterns. -/
def thoseL (w : Nat) (k : Int) (l : List (List Int)) : List (List Int) := (allP w k).filter fun p => thereB l p
theorem patsOf_tabOf {k : Int} (hk : 0 ≤ k) (hk3 : k ≤ 3) {w : Nat} (hw : w ≤ 4) {l : List (List Int)} (h : ∀ p ∈ l, p ∈ allP w k) : patsOf w (tabOf l) = thoseL w k l := by
  rw [patsOf_eq hk hk3 hw (tabOf_ok h)]
  exact List.filter_congr fun p hp => tabOf_has hk hk3 hw h hp
/-- A table with a code more. -/
theorem tabOf_next {l : List (List Int)} {i : Nat} (h : i < l.length) (c : Nat) : tabOf (l.take (i + 1)) c = (tabOf (l.take i) c || decide (codeP (rwAt l i) = c)) := by
  rw [rw_take_next h]
  unfold tabOf
  rw [List.any_append, Bool.eq_iff_iff]
  simp
end Go.Proofs.Ytdbogjhkcnajkaa
end

section
namespace Go.Proofs.Ytdbogjhkcnajkaa
open Go.RowKit Go.Sort

def froms (l : List (Int × Int)) : List Int := l.map (·.1)
def tos (l : List (Int × Int)) : List Int := l.map (·.2)

theorem tos_at (l : List (Int × Int)) (i : Nat) (h : i < l.length) : (tos l)[i]? = some (prAt l i).2 := by
  simp [tos, prAt, h]

/-- Which atoms of the pairs have been given by the first k. -/
def gBit (l : List (Int × Int)) (k q : Nat) : Bool := decide (q < l.length) && ((tos l).take k).contains (prAt l q).1
def gBits (l : List (Int × Int)) (k : Nat) : List Value := (List.range 40).map fun q => .bool (gBit l k q)

theorem gBits_at (l : List (Int × Int)) (k q : Nat) (h : q < 40) : (gBits l k)[q]? = some (.bool (gBit l k q)) := by
  simp [gBits, List.getElem?_map, List.getElem?_range h]

theorem gBits_set {l : List (Int × Int)} {k i : Nat} (hasc : Asc l) (hk : k < l.length) (hi : i < l.length) (e : (prAt l i).1 = (prAt l k).2) :
    (gBits l k).set i (.bool true) = gBits l (k + 1) := by
  have ht : (tos l).take (k + 1) = (tos l).take k ++ [(prAt l k).2] := by
    have hlt : k < (tos l).length := by simpa [tos] using hk
    rw [List.take_succ_eq_append_getElem hlt]
    have h1 := tos_at l k hk
    rw [List.getElem?_eq_getElem hlt] at h1
    injection h1 with h1
    rw [h1]
  apply List.ext_getElem?
  intro q
  by_cases hq : q < 40
  · rw [gBits_at l (k + 1) q hq, List.getElem?_set]
    by_cases hc : i = q
    · subst hc
      rw [if_pos rfl, if_pos (by simpa [gBits] using hq)]
      simp [gBit, hi, ht, e]
    · rw [if_neg hc, gBits_at l k q hq]
      by_cases hql : q < l.length
      · have hne : (prAt l q).1 ≠ (prAt l k).2 := by
          rw [← e]
          intro h
          rcases Nat.lt_or_gt_of_ne hc with h1 | h1
          · have := hasc i q h1 hql; omega
          · have := hasc q i h1 hi; omega
        simp [gBit, ht, hne]
      · simp [gBit, hql]
  · rw [List.getElem?_eq_none (by simp [gBits]; omega), List.getElem?_eq_none (by simp [gBits]; omega)]

def goodAt (l : List (Int × Int)) (k : Nat) : Bool := (froms l).contains (prAt l k).2 && !((tos l).take k).contains (prAt l k).2

/-- Whether a list of pairs is a permutation. -/
def permB (l : List (Int × Int)) : Bool := decide (l.length ≤ 40) && (orderB l && (List.range l.length).all (goodAt l))

/-- The block of marks after k pairs. -/
def Marks (w : World) (G : Nat) (l : List (Int × Int)) (k : Nat) : Prop := w.heap[G]? = some (.cells (gBits l k).toArray 117 (0, 0))

theorem Marks.lt {w : World} {G : Nat} {l : List (Int × Int)} {k : Nat} (h : Marks w G l k) : G < w.heap.size := (Array.getElem?_eq_some_iff.1 h).1
theorem Marks.cell {w : World} {G : Nat} {l : List (Int × Int)} {k : Nat} (h : Marks w G l k) (q : Nat) (hq : q < 40) : w.cell? ⟨G, q, none⟩ = some (.bool (gBit l k q)) := by
  rw [cell_of_row w G q _ _ _ h]
  simpa using gBits_at l k q hq
theorem Marks.frozen {w : World} {G : Nat} {l : List (Int × Int)} {k : Nat} (h : Marks w G l k) (q : Nat) : w.frozen? ⟨G, q, none⟩ = false := frozen_of_row w G q _ _ h
theorem Marks.below {w w' : World} {G : Nat} {l : List (Int × Int)} {k : Nat} (h : Marks w G l k) (hb : Below w.heap.size w w') : Marks w' G l k := (hb.block G h.lt).trans h
theorem Marks.alloc {w : World} {G : Nat} {l : List (Int × Int)} {k : Nat} (h : Marks w G l k) (o : Obj) : Marks (w.alloc o) G l k := h.below ((Below.refl _ _).alloc (Nat.le_refl _) o)
theorem Marks.set_ {w : World} {G : Nat} {l : List (Int × Int)} {k i : Nat} (h : Marks w G l k) (hasc : Asc l) (hk : k < l.length) (hi : i < l.length) (e : (prAt l i).1 = (prAt l k).2) :
    Marks (w.setCell ⟨G, i, none⟩ (.bool true)) G l (k + 1) := by
  unfold Marks at h ⊢
  rw [heap_setCell_same w G i _ _ _ h, ← gBits_set hasc hk hi e]
  simp

end Go.Proofs.Ytdbogjhkcnajkaa
end

section
namespace Go.Proofs.Ytdbogjhkcnajkaa
open Go.RowKit Go.Sort

end Go.Proofs.Ytdbogjhkcnajkaa
end

section
namespace Go.Proofs.Ytdbogjhkcnajkaa
open Go.RowKit Go.Sort

theorem int_infoM : (Try.prog.info? 3).map (fun i => (i.zero, i.size, i.bytes)) = some (some (.int .i64 0), 1, 8) := by kernel_rfl

theorem int_one (x : Int) : ∀ u ∈ [Value.int .i64 x], u.oneCell' = true := by
  intro u hu
  simp at hu
  subst hu
  rfl

theorem one_cell {w : World} {g : Nat} {u : Value} (h : w.cell? ⟨g, 0, none⟩ = some u) : ∀ j x, [u][j]? = some x → w.cell? ((⟨g, 0, none⟩ : Addr).add j) = some x := by
  intro j x hj
  cases j with
  | zero => simp at hj; subst hj; simpa [Addr.add] using h
  | succ j => simp at hj

end Go.Proofs.Ytdbogjhkcnajkaa
end

section
namespace Go.Proofs.Ytdbogjhkcnajkaa
open Go.RowKit Go.Sort

theorem ints_news {w : World} {a : Addr} {l : List Int} (h : IntsAt w (some a) l) : ∀ j u, (icells l)[j]? = some u → w.cell? (a.add j) = some u := by
  intro j u hj
  have hl : j < l.length := by
    rcases Nat.lt_or_ge j l.length with h1 | h1
    · exact h1
    · rw [List.getElem?_eq_none (by rw [icells_len]; exact h1)] at hj; cases hj
  obtain ⟨b, off, e, _, hc⟩ := h (by omega)
  injection e with e
  subst e
  rw [icells_at l j hl] at hj
  injection hj with hj
  subst hj
  have hadd : (⟨b, off, none⟩ : Addr).add j = ⟨b, off + j, none⟩ := by
    unfold Addr.add
    split
    · rename_i h0; rw [h0]; rfl
    · rfl
  rw [hadd]
  exact hc j hl

theorem icells_one (l : List Int) : ∀ u ∈ icells l, u.oneCell' = true := by
  intro u hu
  simp only [icells, List.mem_map] at hu
  obtain ⟨x, _, rfl⟩ := hu
  rfl

theorem IntsAt.take {w : World} {A : Option Addr} {l : List Int} (h : IntsAt w A l) (k : Nat) : IntsAt w A (l.take k) := by
  intro hp
  rw [List.length_take] at hp
  obtain ⟨b, off, rfl, hlt, hc⟩ := h (by omega)
  refine ⟨b, off, rfl, hlt, fun i hi => ?_⟩
  rw [List.length_take] at hi
  rw [hc i (by omega)]
  have : i < k := by omega
  simp [itAt, this]

theorem IntsAt.drop {w : World} {b off : Nat} {l : List Int} (h : IntsAt w (some ⟨b, off, none⟩) l) (k : Nat) : IntsAt w (some ⟨b, off + k, none⟩) (l.drop k) := by
  intro hp
  rw [List.length_drop] at hp
  obtain ⟨b', off', e, hlt, hc⟩ := h (by omega)
  simp only [Option.some.injEq, Addr.mk.injEq, and_true] at e
  obtain ⟨rfl, rfl⟩ := e
  refine ⟨b, off + k, rfl, hlt, fun i hi => ?_⟩
  rw [List.length_drop] at hi
  rw [Nat.add_assoc, hc (k + i) (by omega)]
  simp [itAt]

end Go.Proofs.Ytdbogjhkcnajkaa
end

section
namespace Go.Proofs.Ytdbogjhkcnajkaa
open Go.RowKit Go.Sort

end Go.Proofs.Ytdbogjhkcnajkaa
end

section
namespace Go.Proofs.Ytdbogjhkcnajkaa
open Go.RowKit Go.Sort

set_option maxHeartbeats 400000 in
theorem eqIntS_any (A B : Option Addr) (c d : Nat) (xs ys : List Int) (w : World) (hx : IntsAt w A xs) (hy : IntsAt w B ys) (hlx : xs.length ≤ 9223372036854775807) :
    Calls Try.prog 26 #[.slice A xs.length c, .slice B ys.length d] w
      fun e w' => e = .returned (.bool (decide (xs = ys))) ∧ Below w.heap.size w w' := by
  by_cases hl : xs.length = ys.length
  · have k0 : ((xs.length : Int) != (ys.length : Int)) = false := by simp [hl]
    have HL := Lib.hid hl
    clear hl
    go_enter Try.func26, Try.ntmps26
    go_wp2
    go_loopw [5] (fun i wr => ∃ k : Nat, k ≤ xs.length ∧ i = .int .i64 k ∧ xs.take k = ys.take k ∧ Below w.heap.size w wr) (fun i _ => xs.length - (intOf i).toNat)
    case atStart => exact ⟨0, Nat.zero_le _, rfl, rfl, Below.refl _ _⟩
    case round =>
      obtain ⟨k, hk, rfl, ht, hb⟩ := hrel
      have HT := Lib.hid ht
      clear ht
      by_cases hlt : k < xs.length
      · obtain ⟨b1, o1, rfl, hb1, hc1⟩ := hx (by omega)
        obtain ⟨b2, o2, rfl, hb2, hc2⟩ := hy (by have := HL.out; omega)
        have c1 := hc1 k hlt
        have c3 := hc2 k (by have := HL.out; omega)
        rw [← hb.cell (p := ⟨b1, _, none⟩) hb1] at c1
        rw [← hb.cell (p := ⟨b2, _, none⟩) hb2] at c3
        have hlt2 : k < ys.length := by have := HL.out; omega
        clear hc1 hc2 hx hy
        have q1 := fun d os => cell_regrown c1 d os
        have q3 := fun d os => cell_regrown c3 d os
        by_cases he : itAt xs k = itAt ys k
        · have hn : Hid (xs.take (k + 1) = ys.take (k + 1)) := (take_next 0 k hlt hlt2 HT.out).2 he
          have hq : (itAt xs k != itAt ys k) = false := by simp [he]
          generalize itAt xs k = x at q1 hq
          generalize itAt ys k = y at q3 hq
          clear he c1 c3
          go_wp2
          refine wp_region_quiet_below (by kernel_rfl) (by kernel_rfl) ?_
          repeat (any_goals (first | go_big_quiet_step (fail) | quiet_step (fail)))
          refine wpQuiet_nil ?_
          intro _ hw'
          obtain ⟨⟨dq, osq⟩, hw''⟩ := hw'
          subst hw''
          have hb3 := hb.trans ((below_regrown wr dq osq).mono hb.size)
          generalize grow (redrawn wr dq) osq = w2 at hb3 ⊢
          clear q1 q3 hb
          go_wp2
          refine ⟨⟨k + 1, by omega, by go_num, hn.out, hb3⟩, ?_⟩
          simp only [intOf]
          omega
        · have hn : Hid (decide (xs = ys) = false) := idiffer_at k he
          have hq : (itAt xs k != itAt ys k) = true := by simp [he]
          generalize itAt xs k = x at q1 hq
          generalize itAt ys k = y at q3 hq
          clear he c1 c3
          go_wp2
          refine wp_region_quiet_below (by kernel_rfl) (by kernel_rfl) ?_
          repeat (any_goals (first | go_big_quiet_step (fail) | quiet_step (fail)))
          refine wpQuiet_nil ?_
          intro _ hw'
          obtain ⟨⟨dq, osq⟩, hw''⟩ := hw'
          subst hw''
          have hb3 := hb.trans ((below_regrown wr dq osq).mono hb.size)
          generalize grow (redrawn wr dq) osq = w2 at hb3 ⊢
          clear q1 q3 hb
          go_wp2
          go_ret
          exact ⟨bool_end hn.out.symm, hb3⟩
      · go_wp2
        go_ret
        have e : k = xs.length := by omega
        subst e
        exact ⟨bool_end (isame_all HL.out HT.out).symm, hb⟩
  · have k0 : ((xs.length : Int) != (ys.length : Int)) = true := by simp; omega
    have hf : decide (xs = ys) = false := by
      simp only [decide_eq_false_iff_not]
      intro e
      exact hl (by rw [e])
    have HF := Lib.hid hf
    clear hl hf
    go_enter Try.func26, Try.ntmps26
    go_wp2
    go_ret
    exact ⟨bool_end HF.out.symm, Below.refl _ _⟩

set_option maxHeartbeats 400000 in
theorem markIntS_row (base g n cap : Nat) (xs : List Value) (k : Int) (w : World) (hown : w.ownsRow base 3 1 (.slice (some ⟨g, 0, none⟩) n cap) n xs) (hk0 : 0 ≤ k) (hk1 : k + n ≤ 9223372036854775807) (hn : n ≤ 9223372036854775807) :
    Calls Try.prog 27 #[.slice (some ⟨g, 0, none⟩) n cap, .int .i64 k] w
      fun e w' => e = .returned (.int .i64 (k + n)) ∧ w'.ownsRow base 3 1 (.slice (some ⟨g, 0, none⟩) n cap) n (marked k n) ∧ w.grownBy w' (some g) := by
  have hlen := Lib.hid (show xs.length = n by simpa using hown.1)
  have hm0 := markTo_zero k xs
  go_enter Try.func27, Try.ntmps27
  go_wp2
  go_loopw [1, 5] (fun kk i wr => ∃ j : Nat, j ≤ n ∧ i = .int .i64 j ∧ kk = .int .i64 (k + j) ∧ wr.ownsRow base 3 1 (.slice (some ⟨g, 0, none⟩) n cap) n (markTo k j xs) ∧ w.grownBy wr (some g)) (fun _ i _ => n - (intOf i).toNat)
  case atStart => exact ⟨0, Nat.zero_le _, rfl, by simp, by simpa [hm0] using hown, World.grownBy.refl _ _⟩
  case round =>
    obtain ⟨j, hj, rfl, rfl, ho, hg⟩ := hrel
    by_cases hlt : j < n
    · have c0 := ho.cellAt j (by omega)
      have f0 := ho.frozenAt j
      rw [markTo_at k _ xs _ (by rw [hlen.out]; omega)] at c0
      obtain ⟨v0, e0⟩ : ∃ v, wr.cell? ⟨g, j, none⟩ = some v := ⟨_, c0⟩
      clear c0
      obtain ⟨ho1, hg1⟩ := ho.stored j (.int .i64 (k + j))
      rw [markTo_set] at ho1
      have hg3 := grownBy_trans hg hg1
      clear hg1 hg ho
      go_wp2
      refine ⟨⟨j + 1, by omega, by go_num, by go_num, ho1, hg3⟩, ?_⟩
      simp only [intOf]
      omega
    · have ej : j = n := by omega
      subst ej
      rw [markTo_all k _ xs hlen.out] at ho
      go_wp2
      go_ret
      exact ⟨rfl, ho, hg⟩

theorem markIntS_none (k : Int) (w : World) :
    Calls Try.prog 27 #[.slice none 0 0, .int .i64 k] w fun e w' => e = .returned (.int .i64 k) ∧ w = w' := by
  go_enter Try.func27, Try.ntmps27
  go_wp2
  go_loop [1, 5] (fun kk i => kk = .int .i64 k ∧ i = .int .i64 0) (fun _ _ => 0)
  case atStart => exact ⟨rfl, rfl⟩
  case round =>
    obtain ⟨rfl, rfl⟩ := hrel
    go_wp2
    go_ret
    exact ⟨rfl, rfl⟩

theorem markIntS_own (base n : Nat) (v : Value) (xs : List Value) (k : Int) (w : World) (hown : w.ownsRow base 3 1 v n xs) (hk0 : 0 ≤ k) (hk1 : k + n ≤ 9223372036854775807) :
    Calls Try.prog 27 #[v, .int .i64 k] w
      fun e w' => e = .returned (.int .i64 (k + n)) ∧ w'.ownsRow base 3 1 v n (marked k n) ∧ w.grownBy w' v.ownBlock := by
  rcases hown.2 with ⟨rfl, rfl⟩ | ⟨g, cap, cur, rfl, _⟩
  · refine (markIntS_none k w).mono ?_
    rintro e w' ⟨rfl, rfl⟩
    exact ⟨int_end (by simp), by simpa [marked] using World.ownsRow_nil w base _ 1, World.grownBy.refl _ _⟩
  · exact markIntS_row base g n cap xs k w hown hk0 hk1 (by omega)

end Go.Proofs.Ytdbogjhkcnajkaa
end

section
namespace Go.Proofs.Ytdbogjhkcnajkaa
section
open Go.RowKit

def shapeB (t : Tm) : Bool :=
  if t.op = 1 then atomB t.num && (decide (t.perm.length = 0) && decide (t.kids.length = 0))
  else if t.op = 2 then decide (0 ≤ t.num ∧ t.num ≤ 11) && (decide (t.perm.length = 0) && decide ((t.kids.length : Int) = t.num % 4))
  else if t.op = 3 then atomB t.num && (decide (t.perm.length = 0) && decide (t.kids.length = 1))
  else if t.op = 4 then decide (0 ≤ t.num ∧ t.num ≤ 9) && (permB t.perm && decide (t.kids.length = 0))
  else false

mutual
/-- Right, however great. -/
def goodT : Tm → Bool
  | .mk o n p ks => shapeB (.mk o n p ks) && goodTs ks
def goodTs : List Tm → Bool
  | [] => true
  | t :: r => goodT t && goodTs r
end

end

section
open Go.RowKit

mutual
def nodesT : Tm → List Tm
  | .mk o n p ks => .mk o n p ks :: nodesTs ks
def nodesTs : List Tm → List Tm
  | [] => []
  | t :: r => nodesT t ++ nodesTs r
end

/-- What is known while the terms within t are gone through: i of F have been looked at. -/
structure Walk (t : Tm) (F : List Tm) (i : Nat) : Prop where
  le : i ≤ F.length
  most : F.length ≤ 60
  good : goodT t = goodTs (F.drop i)
  size : szT t = i + szTs (F.drop i)
  mem : ∀ y, y ∈ nodesT t ↔ y ∈ F.take i ∨ y ∈ nodesTs (F.drop i)

end
end Go.Proofs.Ytdbogjhkcnajkaa
end

section
namespace Go.Proofs.Ytdbogjhkcnajkaa
open Go.RowKit Go.Sort
set_option linter.unusedVariables false

theorem l1In_any (x a b : Int) (w : World) :
    Calls Try.prog 60 #[.int .i64 x, .int .i64 a, .int .i64 b] w fun e w' => e = .returned (.bool (decide (a ≤ x ∧ x ≤ b))) ∧ w = w' := by
  by_cases h1 : a ≤ x
  · by_cases h2 : x ≤ b
    · have r : Hid (decide (a ≤ x ∧ x ≤ b) = true) := decide_eq_true ⟨h1, h2⟩
      go_enter Try.func60, Try.ntmps60
      go_wp2
      go_ret
      first | exact ⟨rfl, rfl⟩ | exact ⟨bool_end r.out.symm, rfl⟩
    · have r : Hid (decide (a ≤ x ∧ x ≤ b) = false) := decide_eq_false fun h => h2 h.2
      have k2 : decide (x ≤ b) = false := decide_eq_false h2
      have k3 : b < x := by omega
      go_enter Try.func60, Try.ntmps60
      go_wp2
      go_ret
      first | exact ⟨rfl, rfl⟩ | exact ⟨bool_end r.out.symm, rfl⟩
  · have r : Hid (decide (a ≤ x ∧ x ≤ b) = false) := decide_eq_false fun h => h1 h.1
    have k1 : decide (a ≤ x) = false := decide_eq_false h1
    have k3 : x < a := by omega
    go_enter Try.func60, Try.ntmps60
    go_wp2
    go_ret
    first | exact ⟨rfl, rfl⟩ | exact ⟨bool_end r.out.symm, rfl⟩

end Go.Proofs.Ytdbogjhkcnajkaa
end

