/-
  A set on which a swap of a constant and another atom acts: plain words; and an append of numbers, to a row of one's own, of a row that may be nil.
-/
import Derived.Test.YtnamlgacjhnpnaaGreatKReduced31
import Derived.Test.YtnamlgacjhnpnaaGreatKReduced33
import Derived.Test.YtnamlgacjhnpnaaGreatKReduced27
namespace Go.Proofs.YtnamlgacjhnpnaaGreat
open Go.RowKit Go.Sort
set_option linter.unusedVariables false

namespace SetS
open DrawN SetX SetY SetR
theorem img_swap {c e x : Int} (hc : 0 ≤ c ∧ c ≤ 999) (he : 0 ≤ e ∧ e ≤ 999) (hne : c ≠ e) : imgL (swapL c e) x = SetR.swp c e x := by
  unfold SetR.swp
  rcases Int.lt_trichotomy c e with h | h | h
  · rw [swapL_up hc.1 he.2 h]
    unfold imgL imgL imgL
    by_cases h1 : x = c
    · rw [if_pos h1, if_pos h1.symm]
    · rw [if_neg h1, if_neg fun h2 => h1 h2.symm]
      by_cases h2 : x = e
      · rw [if_pos h2, if_pos h2.symm]
      · rw [if_neg h2, if_neg fun h3 => h2 h3.symm]
  · exact absurd h hne
  · rw [swapL_down he.1 hc.2 h]
    unfold imgL imgL imgL
    by_cases h1 : x = c
    · rw [if_pos h1]
      by_cases h2 : e = x
      · omega
      · rw [if_neg h2, if_pos h1.symm]
    · rw [if_neg h1]
      by_cases h2 : x = e
      · rw [if_pos h2, if_pos h2.symm]
      · rw [if_neg h2, if_neg fun h3 => h2 h3.symm, if_neg fun h3 => h1 h3.symm]
theorem ims_swap {c e : Int} (hc : 0 ≤ c ∧ c ≤ 999) (he : 0 ≤ e ∧ e ≤ 999) (hne : c ≠ e) (t : List Int) : imsL (swapL c e) t = t.map (SetR.swp c e) := by
  unfold imsL
  exact List.map_congr_left fun x _ => img_swap hc he hne
theorem has_ac_orb {p : List (Int × Int)} {n : Nat} {l t : List Int} {m : List (List Int)} (hn : n ≤ 4) (hp : IsP p) (ho : orbB n l m = true) (ht : t.length = n) (hb : tupB t = true) : hasTB n (acC p l) (acM p n l m) (imsL p t) = hasTB n l m t := by
  have hc := acC_const hp (orb_const ho)
  rw [Bool.eq_iff_iff, has_iff hn (valid_ac hp (orb_const ho)) (tup_ims hp hb), has_there ho hb, there_mem, acM_eq hn hp (orb_const ho) (orb_mem ho), List.mem_filter]
  have h1 : Sim (acC p l) (exL (numL (acC p l) 4) (patL (acC p l) (imsL p t))) (imsL p t) := Sim.ex (const_nodup hc) (const_len hc) (by rw [imsL_len]; omega)
  have h2 := h1.map (f := backL p) (g := imgL p) (img_back hp)
  have h3 : Sim l (bksL p (exL (numL (acC p l) 4) (patL (acC p l) (imsL p t)))) (bksL p (imsL p t)) := h2.mono fun c hc' => List.mem_map.2 ⟨imgL p c, acC_mem.2 ⟨c, hc', rfl⟩, back_img hp c⟩
  rw [bks_ims hp] at h3
  unfold acG
  rw [pat_of_sim h3, there_mem]
  exact ⟨fun h => h.2, fun h => ⟨patL_mem (by rw [imsL_len]; exact ht), h⟩⟩
theorem map_swp (c e : Int) (t : List Int) : (t.map (SetR.swp c e)).map (SetR.swp c e) = t := by
  rw [List.map_map]
  exact (List.map_congr_left fun x _ => swp_swp c e x).trans (List.map_id' t)
/-- The set after the swap is the same exactly if the reduced set does not have the constant. -/
theorem act_same {n : Nat} {l : List Int} {m : List (List Int)} (hn : n ≤ 4) (ho : orbB n l m = true) {c e : Int} (hc : c ∈ l) (he : e ∉ l) (hea : 0 ≤ e ∧ e ≤ 999) :
    sameSB n (acC (swapL c e) l) (acM (swapL c e) n l m) n l m = !hasB (redC n l m) c := by
  have ha : 0 ≤ c ∧ c ≤ 999 := by
    have := atoms_of (orb_const ho) c hc
    unfold atomB at this
    simpa using this
  have hne : c ≠ e := fun h => he (h ▸ hc)
  have hp := isP_swap c e
  have hv := valid_ac (n := n) (m := m) hp (orb_const ho)
  rw [Bool.eq_iff_iff, same_iff hn (valid_orb hn hv) ho, Bool.not_eq_true', hasB_not, ← swap_same hn ho hc he hea]
  constructor
  · intro h t ht hb
    have h1 := h (t.map (SetR.swp c e)) (by rw [List.length_map]; exact ht) (tup_swp ha hea hb)
    rw [← h1, ← ims_swap ha hea hne, has_ac_orb hn hp ho ht hb]
  · intro h t ht hb
    have h1 := has_ac_orb hn hp ho (t := t.map (SetR.swp c e)) (by rw [List.length_map]; exact ht) (tup_swp ha hea hb)
    rw [ims_swap ha hea hne, map_swp] at h1
    rw [h1, h t ht hb]
end SetS

theorem wp_append_ints {w : World} {ops : Array Oper} {rest : List Oper} {o : Oper} {a : Act} {Q : Exit → Act → World → Prop} (hgd : o.guard = none) (s x : Operand)
    (ho : o.op = .call { callee := .builtin .append, args := #[s, x], argTypes := #[24, 24] })
    (base : Nat) (v : Value) (n : Nat) (xs : List Value) (hs : a.eval s = v) (hown : w.ownsRow base 3 1 v n xs) (A : Option Addr) (c : Nat) (l : List Int) (hx : a.eval x = .slice A l.length c) (hA : IntsAt w A l) (hz : A = none → c = 0) (h63 : n + l.length ≤ 1099511627776) (hbase : base ≤ w.heap.size)
    (h : ∀ v' w', w'.ownsRow base 3 1 v' (n + l.length) (xs ++ icells l) → w.grownBy w' v.ownBlock → wpList Tryz.prog ops Q rest (a.put o.dst v') w') : wpList Tryz.prog ops Q (o :: rest) a w := by
  obtain ⟨i0, hi0, hz0, hz1, hz2⟩ := info_parts int_infoM
  cases A with
  | none =>
    have hc := hz rfl
    have h0 : l.length = 0 := by
      rcases Nat.eq_zero_or_pos l.length with e | e
      · exact e
      · obtain ⟨_, _, e2, _⟩ := hA e
        cases e2
    have hl := List.eq_nil_of_length_eq_zero h0
    subst hl
    subst hc
    exact wpList_append_own_none hgd s x 24 ho base 3 i0 1 Tryz.underlying24 hi0 _ n _ hs hown hx (h v w (by simpa [icells] using hown) (World.grownBy.refl _ _))
  | some ad =>
    exact wpList_append_own _ hgd s x 24 ho base 3 i0 (.int .i64 0) 1 8 Tryz.underlying24 hi0 hz0 hz1 hz2 rfl (by decide) v n xs hs hown ad l.length c (icells l) hx (by rw [icells_len, Nat.mul_one]) (ints_news hA) (icells_one l) (by unfold maxLen; omega) (by omega) hbase fun v' w' h1 h2 _ => h v' w' h1 h2
end Go.Proofs.YtnamlgacjhnpnaaGreat
