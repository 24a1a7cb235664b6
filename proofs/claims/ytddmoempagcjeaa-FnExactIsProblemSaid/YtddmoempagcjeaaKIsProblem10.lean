/-
  The atoms that two lists of pairs move: in the model, as a contract. What the pairs give to an atom, in the program and in the model, as contracts. Plain mathematics of permutations that are written as lists of pairs.
-/
import Derived.Test.YtddmoempagcjeaaKIsProblem9
import Derived.Test.YtddmoempagcjeaaKIsProblem5
section
namespace Go.Proofs.Ytddmoempagcjeaa
open Go.RowKit Go.Sort

theorem length_insL : ∀ (l : List Int) (n : Int), (insL l n).length ≤ l.length + 1
  | [], n => by simp [insL]
  | x :: r, n => by
    unfold insL
    split
    · simp
    · split
      · simp
      · have := length_insL r n
        simp only [List.length_cons]
        omega

theorem length_insAll (acc xs : List Int) : (insAll acc xs).length ≤ acc.length + xs.length := by
  unfold insAll
  induction xs generalizing acc with
  | nil => simp
  | cons x r ih =>
    have h1 := ih (insL acc x)
    have h2 := length_insL acc x
    simp only [List.foldl_cons, List.length_cons]
    omega

/-- The atoms of both. -/
def atomsL (p q : List (Int × Int)) : List Int := insAll (insAll [] (froms p)) (froms q)

theorem froms_len (l : List (Int × Int)) : (froms l).length = l.length := by simp [froms]
theorem itAt_froms (l : List (Int × Int)) (k : Nat) (h : k < l.length) : itAt (froms l) k = (prAt l k).1 := by simp [itAt, froms, prAt, h]

/-- A slice that holds the numbers, in a row of the call's own that lies somewhere. -/
def OwnI (w : World) (base : Nat) (v : Value) (l : List Int) : Prop :=
  ∃ g cap, v = .slice (some ⟨g, 0, none⟩) l.length cap ∧ l.length ≤ cap ∧ w.ownsRow base 3 1 (.slice (some ⟨g, 0, none⟩) l.length cap) l.length (icells l)

theorem insPost_own {base : Nat} {l : List Int} {w w' : World} {e : Ending} (h : InsPost base l w e w') : ∃ v, e = .returned v ∧ OwnI w' base v l ∧ Below w.heap.size w w' := by
  obtain ⟨g, cap, rfl, ho, hb⟩ := h
  refine ⟨_, rfl, ⟨g, cap, rfl, ?_, ho⟩, hb⟩
  rcases ho.2 with ⟨h', _⟩ | ⟨g', cap', cur, h', _, _, hn, _⟩
  · simp at h'
  · simp only [Value.slice.injEq] at h'
    omega

set_option maxRecDepth 100000 in
set_option maxHeartbeats 2000000 in
theorem l1Atoms_any (A1 A2 : Option Addr) (c1 c2 : Nat) (p q : List (Int × Int)) (w : World) (hp : PairsAt w A1 p) (hq : PairsAt w A2 q) (hlp : p.length ≤ 1048576) (hlq : q.length ≤ 1048576) :
    Calls Try.prog 129 #[.slice A1 p.length c1, .slice A2 q.length c2] w fun e w' => ∃ v, e = .returned v ∧ OwnI w' w.heap.size v (atomsL p q) ∧ Below w.heap.size w w' := by
  go_enter Try.func129, Try.ntmps129
  go_wp2
  go_loopw [5, 6] (fun v i wr => ∃ k : Nat, k ≤ p.length ∧ i = .int .i64 k ∧ OwnI wr w.heap.size v (insAll [] ((froms p).take k)) ∧ Below w.heap.size w wr) (fun _ i _ => p.length - (intOf i).toNat)
  case atStart => exact ⟨0, Nat.zero_le _, rfl, ⟨w.heap.size, 0, rfl, Nat.le_refl _, World.ownsRow_lit w #[] 0 (Nat.le_refl _) (by decide) rfl⟩, (Below.refl _ _).alloc (Nat.le_refl _) _⟩
  case round =>
    obtain ⟨k, hk, rfl, ⟨g, cap, rfl, hcap, ho⟩, hb⟩ := hrel
    by_cases hlt : k < p.length
    · obtain ⟨b1, o1, rfl, hb1, hc1⟩ := hp (by omega)
      obtain ⟨d1, _⟩ := hc1 k hlt
      rw [← hb.cell (p := ⟨b1, _, none⟩) hb1] at d1
      have hlen := length_insAll [] ((froms p).take k)
      rw [List.length_take, froms_len , List.length_nil] at hlen
      have hins := l1Insert_any w.heap.size g cap _ (prAt p k).1 wr ho hcap (by omega) (asc_insAll _ _ List.Pairwise.nil)
      have hnext : Hid (insAll [] ((froms p).take (k + 1)) = insL (insAll [] ((froms p).take k)) (prAt p k).1) := by
        rw [← itAt_froms p k hlt]
        exact insAll_next [] (by rw [froms_len]; exact hlt)
      generalize insAll [] ((froms p).take k) = X at hins hnext hlen hcap ⊢
      generalize (prAt p k).1 = a at d1 hins hnext
      clear ho hc1 hp hlen
      go_wp2_with fail
      refine hins.mono ?_
      rintro e w2 hpost
      obtain ⟨v2, rfl, hv2, hb2⟩ := insPost_own hpost
      rw [← hnext.out] at hv2
      have hb3 := hb.trans (hb2.mono hb.size)
      clear hpost hins hnext hb hb2 d1
      go_wp2_with fail
      refine ⟨⟨k + 1, by omega, by go_num, hv2, hb3⟩, ?_⟩
      simp only [intOf]
      omega
    · have hown : OwnI wr w.heap.size (.slice (some ⟨g, 0, none⟩) (insAll [] ((froms p).take k)).length cap) (insAll [] (froms p)) := by
        rw [List.take_of_length_le (by rw [froms_len]; omega)] at ho hcap ⊢
        exact ⟨g, cap, rfl, hcap, ho⟩
      have hlen0 := length_insAll [] (froms p)
      rw [froms_len, List.length_nil] at hlen0
      generalize (insAll [] ((froms p).take k)).length = N at hown ⊢
      obtain ⟨wo, rfl⟩ : ∃ wo : World, wo = wr := ⟨_, rfl⟩
      clear ho hcap hp
      go_wp2
      go_loopw [5, 7] (fun v i wr => ∃ k : Nat, k ≤ q.length ∧ i = .int .i64 k ∧ OwnI wr w.heap.size v (insAll (insAll [] (froms p)) ((froms q).take k)) ∧ Below w.heap.size w wr) (fun _ i _ => q.length - (intOf i).toNat)
      case atStart => exact ⟨0, Nat.zero_le _, rfl, hown, hb⟩
      case round =>
        clear hown hb
        obtain ⟨k, hk, rfl, ⟨g, cap, rfl, hcap, ho⟩, hb⟩ := hrel
        by_cases hlt : k < q.length
        · obtain ⟨b1, o1, rfl, hb1, hc1⟩ := hq (by omega)
          obtain ⟨d1, _⟩ := hc1 k hlt
          rw [← hb.cell (p := ⟨b1, _, none⟩) hb1] at d1
          have hlen := length_insAll (insAll [] (froms p)) ((froms q).take k)
          rw [List.length_take, froms_len ] at hlen
          have hins := l1Insert_any w.heap.size g cap _ (prAt q k).1 wr ho hcap (by omega) (asc_insAll _ _ (asc_insAll _ _ List.Pairwise.nil))
          have hnext : Hid (insAll (insAll [] (froms p)) ((froms q).take (k + 1)) = insL (insAll (insAll [] (froms p)) ((froms q).take k)) (prAt q k).1) := by
            rw [← itAt_froms q k hlt]
            exact insAll_next (insAll [] (froms p)) (by rw [froms_len]; exact hlt)
          generalize insAll (insAll [] (froms p)) ((froms q).take k) = X at hins hnext hlen hcap ⊢
          generalize (prAt q k).1 = a at d1 hins hnext
          clear ho hc1 hq hlen
          go_wp2_with fail
          refine hins.mono ?_
          rintro e w2 hpost
          obtain ⟨v2, rfl, hv2, hb2⟩ := insPost_own hpost
          rw [← hnext.out] at hv2
          have hb3 := hb.trans (hb2.mono hb.size)
          clear hpost hins hnext hb hb2 d1
          go_wp2_with fail
          refine ⟨⟨k + 1, by omega, by go_num, hv2, hb3⟩, ?_⟩
          simp only [intOf]
          omega
        · have hown : OwnI wr w.heap.size (.slice (some ⟨g, 0, none⟩) (insAll (insAll [] (froms p)) ((froms q).take k)).length cap) (atomsL p q) := by
            rw [List.take_of_length_le (by rw [froms_len]; omega)] at ho hcap ⊢
            exact ⟨g, cap, rfl, hcap, ho⟩
          generalize (insAll (insAll [] (froms p)) ((froms q).take k)).length = M at hown ⊢
          clear ho hcap hq
          go_wp2
          go_ret
          exact ⟨_, rfl, hown, hb⟩

end Go.Proofs.Ytddmoempagcjeaa
end

section
namespace Go.Proofs.Ytddmoempagcjeaa
open Go.RowKit Go.Sort

/-- What the first pair with the atom gives to it; the atom, if there is none. -/
def imgL : List (Int × Int) → Int → Int
  | [], a => a
  | p :: r, a => if p.1 = a then p.2 else imgL r a

theorem imgL_at : ∀ (l : List (Int × Int)) (a : Int) (i : Nat), i < l.length → (∀ j, j < i → (prAt l j).1 ≠ a) → (prAt l i).1 = a → imgL l a = (prAt l i).2
  | [], _, i, h, _, _ => by simp at h
  | p :: r, a, 0, _, _, e => by
    have e' : p.1 = a := e
    simp [imgL, e', prAt]
  | p :: r, a, i + 1, h, hn, e => by
    have h0 : ¬ p.1 = a := hn 0 (by omega)
    have h1 := imgL_at r a i (by simpa using h) (fun j hj => hn (j + 1) (by omega)) e
    simp only [imgL, h0, if_false]
    exact h1

theorem imgL_none : ∀ (l : List (Int × Int)) (a : Int), (∀ j, j < l.length → (prAt l j).1 ≠ a) → imgL l a = a
  | [], _, _ => rfl
  | p :: r, a, hn => by
    have h0 : ¬ p.1 = a := hn 0 (by simp)
    simp only [imgL, h0, if_false]
    exact imgL_none r a fun j hj => hn (j + 1) (by simpa using hj)

def imageF (l : List (Int × Int)) (a : Int) : Int := if permB l && atomB a then imgL l a else -1

theorem imageF_no1 {l : List (Int × Int)} {a : Int} (h : permB l = false) : imageF l a = -1 := by simp [imageF, h]
theorem imageF_no2 {l : List (Int × Int)} {a : Int} (h : atomB a = false) : imageF l a = -1 := by simp [imageF, h]
theorem imageF_yes {l : List (Int × Int)} {a : Int} (h : permB l = true) (h' : atomB a = true) : imageF l a = imgL l a := by simp [imageF, h, h']

set_option maxHeartbeats 400000 in
theorem imageIn_any (A : Option Addr) (c : Nat) (l : List (Int × Int)) (a : Int) (w : World) (hA : PairsAt w A l) (hl : l.length ≤ 1099511627776) (hasc : Asc l) :
    Calls Try.prog 63 #[.slice A l.length c, .int .i64 a] w fun e w' => e = .returned (.int .i64 (imgL l a)) ∧ Below w.heap.size w w' := by
  have hpl := placeOf_any A c l a w hA hl hasc
  have HA := Lib.hid hasc
  clear hasc
  go_enter Try.func63, Try.ntmps63
  go_wp2_with fail
  refine hpl.mono ?_
  rintro e w1 ⟨i, he, hd, hb⟩
  clear hpl
  by_cases hf : foundB l a i = true
  · have hf' : i < l.length ∧ (prAt l i).1 = a := by simpa [foundB] using hf
    have hres : Hid (imgL l a = (prAt l i).2) := imgL_at l a i hf'.1 (fun j hj => by have := hd.2.1 j hj; omega) hf'.2
    rw [hf] at he
    subst he
    have hi := hf'.1
    obtain ⟨b1, o1, rfl, hb1, hc1⟩ := hA (by omega)
    obtain ⟨_, c2⟩ := hc1 i hi
    rw [← hb.cell (p := ⟨b1, _, none⟩) hb1] at c2
    clear hc1 hA hf hf' hd
    go_wp2
    go_ret
    exact ⟨int_end hres.out.symm, hb⟩
  · have hf' : foundB l a i = false := by simpa using hf
    have hres : Hid (imgL l a = a) := imgL_none l a fun j hj => by
      rcases Nat.lt_or_ge j i with h1 | h1
      · have := hd.2.1 j h1; omega
      · intro e
        have h2 := found_iff HA.out hd
        rw [hf'] at h2
        have h3 : a ∈ froms l := mem_froms.2 ⟨j, hj, e⟩
        have h4 : (froms l).contains a = true := List.contains_iff_mem.2 h3
        rw [h4] at h2
        cases h2
    rw [hf'] at he
    subst he
    clear hA hf hf' hd
    go_wp2
    go_ret
    exact ⟨int_end hres.out.symm, hb⟩

set_option maxHeartbeats 400000 in
theorem l1Image_any (A : Option Addr) (c : Nat) (l : List (Int × Int)) (a : Int) (w : World) (hA : PairsAt w A l) (hl : l.length ≤ 1099511627776) :
    Calls Try.prog 130 #[.slice A l.length c, .int .i64 a] w fun e w' => e = .returned (.int .i64 (imgL l a)) ∧ w = w' := by
  go_enter Try.func130, Try.ntmps130
  go_wp2
  go_loop [5] (fun i => ∃ k : Nat, k ≤ l.length ∧ i = .int .i64 k ∧ Hid (∀ j, j < k → (prAt l j).1 ≠ a)) (fun i => l.length - (intOf i).toNat)
  case atStart => exact ⟨0, Nat.zero_le _, rfl, fun j hj => absurd hj (by omega)⟩
  case round =>
    obtain ⟨k, hk, rfl, hq⟩ := hrel
    by_cases hlt : k < l.length
    · obtain ⟨b1, o1, rfl, hb1, hc1⟩ := hA (by omega)
      obtain ⟨c1, c2⟩ := hc1 k hlt
      clear hc1 hA
      by_cases he : ((prAt l k).1 == a) = true
      · have hres : Hid (imgL l a = (prAt l k).2) := imgL_at l a k hlt hq.out (by simpa using he)
        generalize prAt l k = p at c1 c2 he hres
        clear hq
        go_wp2
        go_ret
        exact ⟨int_end hres.out.symm, rfl⟩
      · have he' : ((prAt l k).1 == a) = false := by simpa using he
        have hn : Hid (∀ j, j < k + 1 → (prAt l j).1 ≠ a) := by
          intro j hj
          by_cases e : j = k
          · rw [e]; simpa using he'
          · exact hq.out j (by omega)
        generalize prAt l k = p at c1 c2 he he'
        clear hq he
        go_wp2
        go_round
        case rel => exact ⟨k + 1, by omega, by go_num, hn⟩
        case measure => simp [intOf]; omega
    · have hres : Hid (imgL l a = a) := imgL_none l a fun j hj => hq.out j (by omega)
      clear hq hA
      go_wp2
      go_ret
      exact ⟨int_end hres.out.symm, rfl⟩

end Go.Proofs.Ytddmoempagcjeaa
end

section
namespace Go.Proofs.Ytddmoempagcjeaa
open Go.RowKit

theorem prAt_mem {l : List (Int × Int)} {i : Nat} (h : i < l.length) : prAt l i ∈ l := by
  simp [prAt, h]

theorem mem_prAt {l : List (Int × Int)} {x : Int × Int} (h : x ∈ l) : ∃ i, i < l.length ∧ prAt l i = x := by
  obtain ⟨i, hi, e⟩ := List.getElem_of_mem h
  exact ⟨i, hi, by simp [prAt, hi, e]⟩

/-- No atom stands twice in front. -/
def Single (l : List (Int × Int)) : Prop := (froms l).Nodup

theorem single_of_asc {l : List (Int × Int)} (h : Asc l) : Single l := froms_nodup h

theorem imgL_mem : ∀ {l : List (Int × Int)} {a b : Int}, Single l → (a, b) ∈ l → imgL l a = b
  | [], _, _, _, h => by simp at h
  | p :: r, a, b, hs, h => by
    unfold Single froms at hs
    rw [List.map_cons, List.nodup_cons] at hs
    rcases List.mem_cons.1 h with e | e
    · subst e; simp [imgL]
    · have hne : ¬ p.1 = a := fun e' => hs.1 (by rw [e']; exact List.mem_map_of_mem (f := Prod.fst) e)
      simp only [imgL, hne, if_false]
      exact imgL_mem (l := r) hs.2 e

theorem imgL_out : ∀ {l : List (Int × Int)} {a : Int}, a ∉ froms l → imgL l a = a
  | [], _, _ => rfl
  | p :: r, a, h => by
    unfold froms at h
    rw [List.map_cons, List.mem_cons, not_or] at h
    have hne : ¬ p.1 = a := fun e => h.1 e.symm
    simp only [imgL, hne, if_false]
    exact imgL_out (l := r) h.2

theorem imgL_in : ∀ {l : List (Int × Int)} {a : Int}, a ∈ froms l → (a, imgL l a) ∈ l
  | [], _, h => by simp [froms] at h
  | p :: r, a, h => by
    by_cases e : p.1 = a
    · subst e; simp [imgL]
    · unfold froms at h
      rw [List.map_cons, List.mem_cons] at h
      have h' : a ∈ froms r := by
        rcases h with h | h
        · exact absurd h.symm e
        · exact h
      simp only [imgL, e, if_false]
      exact List.mem_cons_of_mem _ (imgL_in h')

/-- A list without an atom twice is told by its atoms and what it gives. -/
theorem as_map : ∀ {l : List (Int × Int)}, Single l → l = (froms l).map fun a => (a, imgL l a) := by
  intro l h
  unfold froms
  rw [List.map_map]
  have : ∀ x ∈ l, ((fun a => (a, imgL l a)) ∘ Prod.fst) x = x := by
    intro x hx
    have := imgL_mem (l := l) (a := x.1) (b := x.2) h hx
    simp [this]
  rw [List.map_congr_left this, List.map_id']

/-- Nothing is given to itself. -/
def Moves (l : List (Int × Int)) : Prop := ∀ x ∈ l, x.1 ≠ x.2

theorem moved_iff {l : List (Int × Int)} (hm : Moves l) (a : Int) : a ∈ froms l ↔ imgL l a ≠ a := by
  constructor
  · intro h e
    exact hm _ (imgL_in h) e.symm
  · intro h
    rcases Decidable.em (a ∈ froms l) with h' | h'
    · exact h'
    · exact absurd (imgL_out h') h

theorem asc_single {l : List (Int × Int)} (h : AscP (froms l)) : Single l := by
  unfold Single
  exact h.imp fun h1 => by omega

theorem same_img {p q : List (Int × Int)} (hp : AscP (froms p)) (hq : AscP (froms q)) (hmp : Moves p) (hmq : Moves q) (h : ∀ a, imgL p a = imgL q a) : p = q := by
  have hf : froms p = froms q := asc_same _ _ hp hq fun a => by rw [moved_iff hmp, moved_iff hmq, h]
  rw [as_map (asc_single hp), as_map (asc_single hq), hf]
  exact List.map_congr_left fun a _ => by rw [h]

/-- What a permutation is, without the bound on how many it moves. -/
structure IsP (l : List (Int × Int)) : Prop where
  asc : AscP (froms l)
  mv : Moves l
  dom : ∀ a ∈ froms l, 0 ≤ a ∧ a ≤ 999
  back : (froms l).Perm (tos l)

theorem isP_of {l : List (Int × Int)} (h : permB l = true) : IsP l := by
  obtain ⟨_, h2, _⟩ := permB_parts h
  refine ⟨ascP_froms (asc_of_order h2), fun x hx => ?_, fun a ha => ?_, perm_tos h⟩
  · obtain ⟨i, hi, rfl⟩ := mem_prAt hx
    exact (okAt_parts (order_at h2 i hi)).2.2.1
  · obtain ⟨i, hi, rfl⟩ := mem_froms.1 ha
    exact (okAt_parts (order_at h2 i hi)).1

theorem IsP.single {l : List (Int × Int)} (h : IsP l) : Single l := asc_single h.asc

theorem asc_list {l : List (Int × Int)} (h : AscP (froms l)) : Asc l := by
  intro i j hij hj
  have h1 := List.pairwise_iff_getElem.1 h i j (by rw [froms_len]; omega) (by rw [froms_len]; omega) hij
  have e1 : (froms l)[i]'(by rw [froms_len]; omega) = (prAt l i).1 := by
    rw [← itAt_froms l i (by omega), itAt_get]
  have e2 : (froms l)[j]'(by rw [froms_len]; omega) = (prAt l j).1 := by
    rw [← itAt_froms l j (by omega), itAt_get]
  rw [e1, e2] at h1
  exact h1

theorem IsP.tos_nodup {l : List (Int × Int)} (h : IsP l) : (tos l).Nodup := h.back.nodup_iff.1 h.single

theorem IsP.to_mem {l : List (Int × Int)} (h : IsP l) {a : Int} (ha : a ∈ froms l) : imgL l a ∈ froms l := by
  have h1 : imgL l a ∈ tos l := List.mem_map_of_mem (f := Prod.snd) (imgL_in ha)
  exact h.back.mem_iff.2 h1

theorem IsP.atom {l : List (Int × Int)} (h : IsP l) {a : Int} (ha : 0 ≤ a ∧ a ≤ 999) : 0 ≤ imgL l a ∧ imgL l a ≤ 999 := by
  rcases Decidable.em (a ∈ froms l) with h' | h'
  · exact h.dom _ (h.to_mem h')
  · rw [imgL_out h']; exact ha

theorem nodup_snd : ∀ {l : List (Int × Int)} {a b c : Int}, (tos l).Nodup → (a, c) ∈ l → (b, c) ∈ l → a = b
  | [], _, _, _, _, h, _ => by simp at h
  | p :: r, a, b, c, hn, h1, h2 => by
    unfold tos at hn
    rw [List.map_cons, List.nodup_cons] at hn
    rcases List.mem_cons.1 h1 with e1 | e1
    · rcases List.mem_cons.1 h2 with e2 | e2
      · rw [← e2] at e1; exact congrArg Prod.fst e1
      · exact absurd (List.mem_map_of_mem (f := Prod.snd) e2) (by rw [← e1] at hn; exact hn.1)
    · rcases List.mem_cons.1 h2 with e2 | e2
      · exact absurd (List.mem_map_of_mem (f := Prod.snd) e1) (by rw [← e2] at hn; exact hn.1)
      · exact nodup_snd (l := r) hn.2 e1 e2

theorem IsP.inj {l : List (Int × Int)} (h : IsP l) {a b : Int} (e : imgL l a = imgL l b) : a = b := by
  rcases Decidable.em (a ∈ froms l) with ha | ha
  · rcases Decidable.em (b ∈ froms l) with hb | hb
    · exact nodup_snd h.tos_nodup (imgL_in ha) (by rw [e]; exact imgL_in hb)
    · have h1 := h.to_mem ha
      rw [e, imgL_out hb] at h1
      exact absurd h1 hb
  · rcases Decidable.em (b ∈ froms l) with hb | hb
    · have h1 := h.to_mem hb
      rw [← e, imgL_out ha] at h1
      exact absurd h1 ha
    · rw [imgL_out ha, imgL_out hb] at e; exact e

/-- A permutation that moves no more than may be moved passes the test. -/
theorem permB_of {l : List (Int × Int)} (h : IsP l) (hl : l.length ≤ 40) : permB l = true := by
  have hasc := asc_list h.asc
  refine permB_yes hl (orderB_yes fun i hi => ?_) fun i hi => ?_
  · have hm := prAt_mem hi
    have h1 := h.dom _ (List.mem_map_of_mem (f := Prod.fst) hm)
    have h2 := h.dom _ (h.back.mem_iff.2 (List.mem_map_of_mem (f := Prod.snd) hm))
    have h3 := h.mv _ hm
    have h4 : i = 0 ∨ (prAt l (i - 1)).1 < (prAt l i).1 := by
      by_cases e : i = 0
      · exact .inl e
      · exact .inr (hasc (i - 1) i (by omega) hi)
    simp only [okAt, atomB]
    simpa using ⟨h1, h2, h3, h4⟩
  · have hm := prAt_mem hi
    have h2 : (prAt l i).2 ∈ froms l := h.back.mem_iff.2 (List.mem_map_of_mem (f := Prod.snd) hm)
    unfold goodAt
    rw [List.contains_iff_mem.2 h2, Bool.true_and]
    have hn : (prAt l i).2 ∉ (tos l).take i := by
      intro hin
      obtain ⟨j, hj, e⟩ := mem_take_tos (Nat.le_of_lt hi) hin
      have h5 := nodup_snd h.tos_nodup (a := (prAt l j).1) (b := (prAt l i).1) (c := (prAt l i).2) (by rw [← e]; exact prAt_mem (by omega)) (prAt_mem hi)
      have := hasc j i hj hi
      omega
    simp [hn]

theorem ext_perm {α : Type} [DecidableEq α] {xs ys : List α} (hx : xs.Nodup) (hy : ys.Nodup) (h : ∀ a, a ∈ xs ↔ a ∈ ys) : xs.Perm ys := (List.perm_ext_iff_of_nodup hx hy).2 h

/-- A list that is told by its atoms and a map that is one to one on them, and keeps them. -/
theorem isP_map {L : List Int} {f : Int → Int} (hL : AscP L) (hd : ∀ a ∈ L, 0 ≤ a ∧ a ≤ 999) (hm : ∀ a ∈ L, f a ≠ a) (hk : ∀ a ∈ L, f a ∈ L) (hi : ∀ a ∈ L, ∀ b ∈ L, f a = f b → a = b) : IsP (L.map fun a => (a, f a)) := by
  have ef : froms (L.map fun a => (a, f a)) = L := by
    unfold froms; rw [List.map_map]; exact List.map_id'' (fun _ => rfl) L
  have et : tos (L.map fun a => (a, f a)) = L.map f := by
    unfold tos; rw [List.map_map]; rfl
  refine ⟨by rw [ef]; exact hL, fun x hx => ?_, by rw [ef]; exact hd, ?_⟩
  · obtain ⟨a, ha, rfl⟩ := List.mem_map.1 hx
    exact fun e => hm a ha e.symm
  · rw [ef, et]
    have hn : L.Nodup := hL.imp fun h1 => by omega
    have hn2 : (L.map f).Nodup := by
      rw [List.Nodup, List.pairwise_map]
      refine List.Pairwise.imp_of_mem ?_ hn
      intro a b ha hb hab e
      exact hab (hi a ha b hb e)
    refine (perm_of_subset (L.map f) L hn2 (fun a ha => ?_) (by rw [List.length_map]; exact Nat.le_refl _))
    obtain ⟨b, hb, rfl⟩ := List.mem_map.1 ha
    exact hk b hb

/-- First q, then p. -/
def thenB (p q : List (Int × Int)) (a : Int) : Bool := imgL p (imgL q a) != a
def thenG (p q : List (Int × Int)) (a : Int) : Int × Int := (a, imgL p (imgL q a))
def thenL (p q : List (Int × Int)) : List (Int × Int) := ((atomsL p q).filter (thenB p q)).map (thenG p q)

theorem mem_atomsL {p q : List (Int × Int)} {a : Int} : a ∈ atomsL p q ↔ a ∈ froms p ∨ a ∈ froms q := by
  unfold atomsL
  rw [mem_insAll, mem_insAll]
  simp

theorem asc_atomsL (p q : List (Int × Int)) : AscP (atomsL p q) := asc_insAll _ _ (asc_insAll _ _ List.Pairwise.nil)

theorem len_atomsL (p q : List (Int × Int)) : (atomsL p q).length ≤ p.length + q.length := by
  have h1 := length_insAll (insAll [] (froms p)) (froms q)
  have h2 := length_insAll [] (froms p)
  rw [froms_len] at h1 h2
  simp only [List.length_nil] at h2
  unfold atomsL
  omega

theorem thenL_len (p q : List (Int × Int)) : (thenL p q).length ≤ p.length + q.length := by
  unfold thenL
  rw [List.length_map]
  exact Nat.le_trans (List.length_filter_le _ _) (len_atomsL p q)

theorem froms_thenL (p q : List (Int × Int)) : froms (thenL p q) = (atomsL p q).filter (thenB p q) := by
  unfold froms thenL
  rw [List.map_map]
  exact List.map_id'' (fun _ => rfl) _

theorem asc_thenL (p q : List (Int × Int)) : AscP (froms (thenL p q)) := by
  rw [froms_thenL]
  exact (asc_atomsL p q).filter _

theorem moves_thenL (p q : List (Int × Int)) : Moves (thenL p q) := by
  intro x hx
  unfold thenL at hx
  obtain ⟨a, ha, rfl⟩ := List.mem_map.1 hx
  have h1 := (List.mem_filter.1 ha).2
  intro e
  have e' : a = imgL p (imgL q a) := e
  rw [thenB, ← e'] at h1
  simp at h1

theorem img_thenL (p q : List (Int × Int)) (a : Int) : imgL (thenL p q) a = imgL p (imgL q a) := by
  rcases Decidable.em (a ∈ froms (thenL p q)) with h | h
  · have h1 := imgL_in h
    unfold thenL at h1
    obtain ⟨b, _, e⟩ := List.mem_map.1 h1
    have e1 : b = a := congrArg Prod.fst e
    have e2 : imgL p (imgL q b) = imgL (thenL p q) a := congrArg Prod.snd e
    rw [← e2, e1]
  · rw [imgL_out h]
    rw [froms_thenL, List.mem_filter, mem_atomsL, Decidable.not_and_iff_not_or_not] at h
    rcases h with h | h
    · rw [not_or] at h
      rw [imgL_out h.2, imgL_out h.1]
    · simpa [thenB] using (Eq.symm (by simpa [thenB] using h : imgL p (imgL q a) = a))

theorem isP_thenL {p q : List (Int × Int)} (hp : IsP p) (hq : IsP q) : IsP (thenL p q) := by
  have hkey : ∀ a, a ∈ (atomsL p q).filter (thenB p q) ↔ imgL p (imgL q a) ≠ a := by
    intro a
    rw [← froms_thenL, moved_iff (moves_thenL p q), img_thenL]
  refine isP_map (f := fun a => imgL p (imgL q a)) (by rw [← froms_thenL]; exact asc_thenL p q) (fun a ha => ?_) (fun a ha => (hkey a).1 ha) (fun a ha => ?_) (fun a _ b _ e => hq.inj (hp.inj e))
  · rcases mem_atomsL.1 (List.mem_filter.1 ha).1 with h | h
    · exact hp.dom a h
    · exact hq.dom a h
  · refine (hkey _).2 fun e => (hkey a).1 ha ?_
    exact hq.inj (hp.inj e)

theorem thenL_assoc {p q r : List (Int × Int)} : thenL (thenL p q) r = thenL p (thenL q r) :=
  same_img (asc_thenL _ _) (asc_thenL _ _) (moves_thenL _ _) (moves_thenL _ _) fun a => by simp only [img_thenL]

/-- The inverse: each atom, and what is given to it. -/
def backL : List (Int × Int) → Int → Int
  | [], a => a
  | p :: r, a => if p.2 = a then p.1 else backL r a

theorem backL_mem : ∀ {l : List (Int × Int)} {a b : Int}, (tos l).Nodup → (a, b) ∈ l → backL l b = a
  | [], _, _, _, h => by simp at h
  | p :: r, a, b, hs, h => by
    unfold tos at hs
    rw [List.map_cons, List.nodup_cons] at hs
    rcases List.mem_cons.1 h with e | e
    · subst e; simp [backL]
    · have hne : ¬ p.2 = b := fun e' => hs.1 (by rw [e']; exact List.mem_map_of_mem (f := Prod.snd) e)
      simp only [backL, hne, if_false]
      exact backL_mem (l := r) hs.2 e

theorem backL_out : ∀ {l : List (Int × Int)} {a : Int}, a ∉ tos l → backL l a = a
  | [], _, _ => rfl
  | p :: r, a, h => by
    unfold tos at h
    rw [List.map_cons, List.mem_cons, not_or] at h
    have hne : ¬ p.2 = a := fun e => h.1 e.symm
    simp only [backL, hne, if_false]
    exact backL_out (l := r) h.2

def invL (l : List (Int × Int)) : List (Int × Int) := (froms l).map fun a => (a, backL l a)

theorem invL_len (l : List (Int × Int)) : (invL l).length = l.length := by simp [invL, froms]

theorem img_back {l : List (Int × Int)} (h : IsP l) (a : Int) : imgL l (backL l a) = a := by
  rcases Decidable.em (a ∈ tos l) with ha | ha
  · obtain ⟨x, hx, rfl⟩ := List.mem_map.1 ha
    rw [backL_mem (a := x.1) h.tos_nodup hx, imgL_mem h.single hx]
  · rw [backL_out ha, imgL_out (fun h' => ha (h.back.mem_iff.1 h'))]

theorem back_img {l : List (Int × Int)} (h : IsP l) (a : Int) : backL l (imgL l a) = a := h.inj (img_back h _)

theorem isP_invL {l : List (Int × Int)} (h : IsP l) : IsP (invL l) := by
  refine isP_map h.asc h.dom (fun a ha e => ?_) (fun a ha => ?_) (fun a _ b _ e => ?_)
  · have := img_back h a
    rw [e] at this
    exact (moved_iff h.mv a).1 ha this
  · rw [moved_iff h.mv, img_back h]
    intro e
    have h1 := (moved_iff h.mv a).1 ha
    have h2 := img_back h a
    rw [← e] at h2
    exact h1 h2
  · rw [← img_back h a, e, img_back h]

theorem img_invL {l : List (Int × Int)} (h : IsP l) (a : Int) : imgL (invL l) a = backL l a := by
  have ef : froms (invL l) = froms l := by
    unfold invL; rw [froms, List.map_map]; exact List.map_id'' (fun _ => rfl) _
  rcases Decidable.em (a ∈ froms l) with ha | ha
  · exact imgL_mem (isP_invL h).single (List.mem_map.2 ⟨a, ha, rfl⟩)
  · rw [imgL_out (by rw [ef]; exact ha), backL_out (fun h' => ha (h.back.mem_iff.2 h'))]

theorem inv_then {l : List (Int × Int)} (h : IsP l) : thenL (invL l) l = [] :=
  same_img (asc_thenL _ _) (by simp [froms, AscP]) (moves_thenL _ _) (fun x hx => by simp at hx) fun a => by
    rw [img_thenL, img_invL h, back_img h]; rfl

theorem backL_at : ∀ (l : List (Int × Int)) (a : Int) (i : Nat), i < l.length → (∀ j, j < i → (prAt l j).2 ≠ a) → (prAt l i).2 = a → backL l a = (prAt l i).1
  | [], _, i, h, _, _ => by simp at h
  | p :: r, a, 0, _, _, e => by
    have e' : p.2 = a := e
    simp [backL, e', prAt]
  | p :: r, a, i + 1, h, hn, e => by
    have h0 : ¬ p.2 = a := hn 0 (by omega)
    have h1 := backL_at r a i (by simpa using h) (fun j hj => hn (j + 1) (by omega)) e
    simp only [backL, h0, if_false]
    exact h1

theorem backL_none : ∀ (l : List (Int × Int)) (a : Int), (∀ j, j < l.length → (prAt l j).2 ≠ a) → backL l a = a
  | [], _, _ => rfl
  | p :: r, a, hn => by
    have h0 : ¬ p.2 = a := hn 0 (by simp)
    simp only [backL, h0, if_false]
    exact backL_none r a fun j hj => hn (j + 1) (by simpa using hj)

end Go.Proofs.Ytddmoempagcjeaa
end

