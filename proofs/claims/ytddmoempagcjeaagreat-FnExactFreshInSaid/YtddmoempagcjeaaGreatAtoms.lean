/-
  The atoms that two lists of pairs move: in the model, as a contract.
-/
import Derived.Test.YtddmoempagcjeaaGreatUnion
namespace Go.Proofs.YtddmoempagcjeaaGreat
open Go.RowKit Go.Sort

theorem length_insL : ∀ (l : List Int) (n : Int), (insL l n).length ≤ l.length + 1
  | [], n => by simp [insL]
  | x :: r, n => by
    unfold insL
    split
    · simp
    · split
      · simp
      · have := length_insL r n
        simp only [List.length_cons]
        omega

theorem length_insAll (acc xs : List Int) : (insAll acc xs).length ≤ acc.length + xs.length := by
  unfold insAll
  induction xs generalizing acc with
  | nil => simp
  | cons x r ih =>
    have h1 := ih (insL acc x)
    have h2 := length_insL acc x
    simp only [List.foldl_cons, List.length_cons]
    omega

/-- The atoms of both. -/
def atomsL (p q : List (Int × Int)) : List Int := insAll (insAll [] (froms p)) (froms q)

theorem froms_len (l : List (Int × Int)) : (froms l).length = l.length := by simp [froms]
theorem itAt_froms (l : List (Int × Int)) (k : Nat) (h : k < l.length) : itAt (froms l) k = (prAt l k).1 := by simp [itAt, froms, prAt, h]

/-- A slice that holds the numbers, in a row of the call's own that lies somewhere. -/
def OwnI (w : World) (base : Nat) (v : Value) (l : List Int) : Prop :=
  ∃ g cap, v = .slice (some ⟨g, 0, none⟩) l.length cap ∧ l.length ≤ cap ∧ w.ownsRow base 3 1 (.slice (some ⟨g, 0, none⟩) l.length cap) l.length (icells l)

theorem insPost_own {base : Nat} {l : List Int} {w w' : World} {e : Ending} (h : InsPost base l w e w') : ∃ v, e = .returned v ∧ OwnI w' base v l ∧ Below w.heap.size w w' := by
  obtain ⟨g, cap, rfl, ho, hb⟩ := h
  refine ⟨_, rfl, ⟨g, cap, rfl, ?_, ho⟩, hb⟩
  rcases ho.2 with ⟨h', _⟩ | ⟨g', cap', cur, h', _, _, hn, _⟩
  · simp at h'
  · simp only [Value.slice.injEq] at h'
    omega

set_option maxRecDepth 100000 in
set_option maxHeartbeats 2000000 in
theorem l1Atoms_any (A1 A2 : Option Addr) (c1 c2 : Nat) (p q : List (Int × Int)) (w : World) (hp : PairsAt w A1 p) (hq : PairsAt w A2 q) (hlp : p.length ≤ 1048576) (hlq : q.length ≤ 1048576) :
    Calls Tryz.prog 108 #[.slice A1 p.length c1, .slice A2 q.length c2] w fun e w' => ∃ v, e = .returned v ∧ OwnI w' w.heap.size v (atomsL p q) ∧ Below w.heap.size w w' := by
  go_enter Tryz.func108, Tryz.ntmps108
  go_wp2
  go_loopw [5, 6] (fun v i wr => ∃ k : Nat, k ≤ p.length ∧ i = .int .i64 k ∧ OwnI wr w.heap.size v (insAll [] ((froms p).take k)) ∧ Below w.heap.size w wr) (fun _ i _ => p.length - (intOf i).toNat)
  case atStart => exact ⟨0, Nat.zero_le _, rfl, ⟨w.heap.size, 0, rfl, Nat.le_refl _, World.ownsRow_lit w #[] 0 (Nat.le_refl _) (by decide) rfl⟩, (Below.refl _ _).alloc (Nat.le_refl _) _⟩
  case round =>
    obtain ⟨k, hk, rfl, ⟨g, cap, rfl, hcap, ho⟩, hb⟩ := hrel
    by_cases hlt : k < p.length
    · obtain ⟨b1, o1, rfl, hb1, hc1⟩ := hp (by omega)
      obtain ⟨d1, _⟩ := hc1 k hlt
      rw [← hb.cell (p := ⟨b1, _, none⟩) hb1] at d1
      have hlen := length_insAll [] ((froms p).take k)
      rw [List.length_take, froms_len , List.length_nil] at hlen
      have hins := l1Insert_any w.heap.size g cap _ (prAt p k).1 wr ho hcap (by omega) (asc_insAll _ _ List.Pairwise.nil)
      have hnext : Hid (insAll [] ((froms p).take (k + 1)) = insL (insAll [] ((froms p).take k)) (prAt p k).1) := by
        rw [← itAt_froms p k hlt]
        exact insAll_next [] (by rw [froms_len]; exact hlt)
      generalize insAll [] ((froms p).take k) = X at hins hnext hlen hcap ⊢
      generalize (prAt p k).1 = a at d1 hins hnext
      clear ho hc1 hp hlen
      go_wp2_with fail
      refine hins.mono ?_
      rintro e w2 hpost
      obtain ⟨v2, rfl, hv2, hb2⟩ := insPost_own hpost
      rw [← hnext.out] at hv2
      have hb3 := hb.trans (hb2.mono hb.size)
      clear hpost hins hnext hb hb2 d1
      go_wp2_with fail
      refine ⟨⟨k + 1, by omega, by go_num, hv2, hb3⟩, ?_⟩
      simp only [intOf]
      omega
    · have hown : OwnI wr w.heap.size (.slice (some ⟨g, 0, none⟩) (insAll [] ((froms p).take k)).length cap) (insAll [] (froms p)) := by
        rw [List.take_of_length_le (by rw [froms_len]; omega)] at ho hcap ⊢
        exact ⟨g, cap, rfl, hcap, ho⟩
      have hlen0 := length_insAll [] (froms p)
      rw [froms_len, List.length_nil] at hlen0
      generalize (insAll [] ((froms p).take k)).length = N at hown ⊢
      obtain ⟨wo, rfl⟩ : ∃ wo : World, wo = wr := ⟨_, rfl⟩
      clear ho hcap hp
      go_wp2
      go_loopw [5, 7] (fun v i wr => ∃ k : Nat, k ≤ q.length ∧ i = .int .i64 k ∧ OwnI wr w.heap.size v (insAll (insAll [] (froms p)) ((froms q).take k)) ∧ Below w.heap.size w wr) (fun _ i _ => q.length - (intOf i).toNat)
      case atStart => exact ⟨0, Nat.zero_le _, rfl, hown, hb⟩
      case round =>
        clear hown hb
        obtain ⟨k, hk, rfl, ⟨g, cap, rfl, hcap, ho⟩, hb⟩ := hrel
        by_cases hlt : k < q.length
        · obtain ⟨b1, o1, rfl, hb1, hc1⟩ := hq (by omega)
          obtain ⟨d1, _⟩ := hc1 k hlt
          rw [← hb.cell (p := ⟨b1, _, none⟩) hb1] at d1
          have hlen := length_insAll (insAll [] (froms p)) ((froms q).take k)
          rw [List.length_take, froms_len ] at hlen
          have hins := l1Insert_any w.heap.size g cap _ (prAt q k).1 wr ho hcap (by omega) (asc_insAll _ _ (asc_insAll _ _ List.Pairwise.nil))
          have hnext : Hid (insAll (insAll [] (froms p)) ((froms q).take (k + 1)) = insL (insAll (insAll [] (froms p)) ((froms q).take k)) (prAt q k).1) := by
            rw [← itAt_froms q k hlt]
            exact insAll_next (insAll [] (froms p)) (by rw [froms_len]; exact hlt)
          generalize insAll (insAll [] (froms p)) ((froms q).take k) = X at hins hnext hlen hcap ⊢
          generalize (prAt q k).1 = a at d1 hins hnext
          clear ho hc1 hq hlen
          go_wp2_with fail
          refine hins.mono ?_
          rintro e w2 hpost
          obtain ⟨v2, rfl, hv2, hb2⟩ := insPost_own hpost
          rw [← hnext.out] at hv2
          have hb3 := hb.trans (hb2.mono hb.size)
          clear hpost hins hnext hb hb2 d1
          go_wp2_with fail
          refine ⟨⟨k + 1, by omega, by go_num, hv2, hb3⟩, ?_⟩
          simp only [intOf]
          omega
        · have hown : OwnI wr w.heap.size (.slice (some ⟨g, 0, none⟩) (insAll (insAll [] (froms p)) ((froms q).take k)).length cap) (atomsL p q) := by
            rw [List.take_of_length_le (by rw [froms_len]; omega)] at ho hcap ⊢
            exact ⟨g, cap, rfl, hcap, ho⟩
          generalize (insAll (insAll [] (froms p)) ((froms q).take k)).length = M at hown ⊢
          clear ho hcap hq
          go_wp2
          go_ret
          exact ⟨_, rfl, hown, hb⟩

end Go.Proofs.YtddmoempagcjeaaGreat
