/-
  What gives back, in the model, as contracts.
-/
import Derived.Test.YtenejdfnhkbafaaGreatKHoldsFor16
import Derived.StillTactics
import Derived.OwnWalk
import Derived.Laws.Pointers
import Derived.Deep.RegionHeld3
import Derived.Deep.AppendLies
import Derived.Deep.DrawnRows
namespace Go.Proofs.YtenejdfnhkbafaaGreat
open Go.RowKit Go.Sort
attribute [local go_sem ↓] Go.wp_at_zero Go.wp_at_succ

set_option maxHeartbeats 400000 in
theorem l1Back_any (A : Option Addr) (c : Nat) (l : List (Int × Int)) (a : Int) (w : World) (hA : PairsAt w A l) (hl : l.length ≤ 1099511627776) :
    Calls Tryz.prog 121 #[.slice A l.length c, .int .i64 a] w fun e w' => e = .returned (.int .i64 (backL l a)) ∧ w' = w := by
  go_enter Tryz.func121, Tryz.ntmps121
  go_wp2
  go_loop [5] (fun i => ∃ k : Nat, k ≤ l.length ∧ i = .int .i64 k ∧ Hid (∀ j, j < k → (prAt l j).2 ≠ a)) (fun i => l.length - (intOf i).toNat)
  case atStart => exact ⟨0, Nat.zero_le _, rfl, fun j hj => absurd hj (by omega)⟩
  case round =>
    obtain ⟨k, hk, rfl, hq⟩ := hrel
    by_cases hlt : k < l.length
    · obtain ⟨b1, o1, rfl, hb1, hc1⟩ := hA (by omega)
      obtain ⟨c1, c2⟩ := hc1 k hlt
      clear hc1 hA
      by_cases he : ((prAt l k).2 == a) = true
      · have hres : Hid (backL l a = (prAt l k).1) := backL_at l a k hlt hq.out (by simpa using he)
        generalize prAt l k = p at c1 c2 he hres
        clear hq
        go_wp2
        go_ret
        exact ⟨int_end hres.out.symm, rfl⟩
      · have he' : ((prAt l k).2 == a) = false := by simpa using he
        have hn : Hid (∀ j, j < k + 1 → (prAt l j).2 ≠ a) := by
          intro j hj
          by_cases e : j = k
          · rw [e]; simpa using he'
          · exact hq.out j (by omega)
        generalize prAt l k = p at c1 c2 he he'
        clear hq he
        go_wp2
        go_round
        case rel => exact ⟨k + 1, by omega, by go_num, hn⟩
        case measure => simp [intOf]; omega
    · have hres : Hid (backL l a = a) := backL_none l a fun j hj => hq.out j (by omega)
      clear hq hA
      go_wp2
      go_ret
      exact ⟨int_end hres.out.symm, rfl⟩

theorem invL_next {l : List (Int × Int)} {k : Nat} (h : k < l.length) : (invL l).take (k + 1) = (invL l).take k ++ [((prAt l k).1, backL l (prAt l k).1)] := by
  rw [List.take_succ_eq_append_getElem (by rw [invL_len]; exact h)]
  congr 2
  simp [invL, froms, prAt, h]

theorem PairsAt.drew {w : World} {A : Option Addr} {l : List (Int × Int)} (h : PairsAt w A l) : PairsAt w.drew A l := h.below ⟨rfl, rfl, rfl, Nat.le_refl _, fun _ _ => rfl⟩

set_option maxRecDepth 100000 in
set_option maxHeartbeats 2000000 in
theorem l1Inverse_any (A : Option Addr) (c : Nat) (l : List (Int × Int)) (w : World) (hA : PairsAt w A l) (hl : l.length ≤ 1048576) :
    Calls Tryz.prog 168 #[.slice A l.length c] w (NewPairs (invL l) w) := by
  obtain ⟨i0, hi0, hz0, hz1, hz2⟩ := info_parts pair_infoT
  have HS := Lib.hid hz2
  clear hz2
  have hb0 : Below w.heap.size w (w.alloc (.cells #[] 140)) := (Below.refl _ _).alloc (Nat.le_refl _) _
  have ho0 : (w.alloc (.cells #[] 140)).ownsRow w.heap.size 140 2 (.slice (some ⟨w.heap.size, 0, none⟩) 0 0) 0 (cellsOf []) := World.ownsRow_lit w #[] 0 (Nat.le_refl _) (by decide) rfl
  go_enter Tryz.func168, Tryz.ntmps168
  go_wp2
  go_loopw [3, 4] (fun v i wr => ∃ k : Nat, k ≤ l.length ∧ i = .int .i64 k ∧ wr.ownsRow w.heap.size 140 2 v k (cellsOf ((invL l).take k)) ∧ Below w.heap.size w wr) (fun _ i _ => l.length - (intOf i).toNat)
  case atStart => exact ⟨0, Nat.zero_le _, rfl, ho0, hb0⟩
  case round =>
    clear ho0 hb0
    obtain ⟨k, hk, rfl, ho, hb⟩ := hrel
    by_cases hlt : k < l.length
    · obtain ⟨b1, o1, rfl, hb1, hc1⟩ := hA (by omega)
      have hcb := fun x W hW => l1Back_any (some ⟨b1, o1, none⟩) c l x W hW (by omega)
      have hAr := hA.below hb
      obtain ⟨c1, _⟩ := hc1 k hlt
      rw [← hb.cell (p := ⟨b1, _, none⟩) hb1] at c1
      have hnx := Lib.hid (invL_next hlt)
      generalize prAt l k = p at c1 hnx
      have hcb' := hcb p.1 wr.drew hAr.drew
      generalize backL l p.1 = y at hcb' hnx
      have hx0 : (0 : Int) ≤ (k : Int) := by omega
      have hx1 : (k : Int) < (l.length : Int) := by omega
      have hbs := hb.size
      clear hcb hc1 hA hAr
      go_wp2
      go_region_held3 (fun w' => w'.cell? ⟨b1, o1 + k * 2, none⟩ = some (.int .i64 p.1))
        (first | go_keep | (rw [hgrow.cell_far _ (by simp; omega) (fun e => by have h9 := (ho.lt _ (by simpa using e.symm)).1; omega)]; assumption))
        (first
          | (go_at_call 121; refine hcb'.mono ?_; rintro e w' ⟨rfl, rfl⟩)
          | (refine step_append_lies _ (by rfl) _ _ _ (by rfl) w.heap.size 140 i0 _ 2 16 Tryz.underlying27 hi0 hz0 hz1 HS.out rfl (by omega) _ k _ (by rfl) ((ho.drew).alloc _)
              ⟨wr.heap.size, 0, none⟩ 1 1 [.int .i64 p.1, .int .i64 y] (by rfl) (by rfl) (World.news_of_block (cs := #[.int .i64 p.1, .int .i64 y]) (t := 140) (fr := (0, 0)) (heap_alloc_new _ _)) (pair_one _ _)
              (by omega) (by unfold maxLen; omega) (by omega) (by simp; omega) (wr.heap.size + 1) (by simp) ?_; intro gg cap w5 ho5 hgrow hat hlt2))
      have hb6 : Below w.heap.size w w5 := by
        have h1 : Below w.heap.size w ((wr.drew).alloc (.cells #[.int .i64 p.1, .int .i64 y] 140)) := (show Below w.heap.size w wr.drew from ⟨hb.os, hb.tape, hb.output, hb.size, hb.block⟩).alloc hb.size _
        exact below_own h1 ((ho.drew).alloc _) (Nat.le_refl _) (by simp; omega) hgrow
      have ho6 : w5.ownsRow w.heap.size 140 2 (.slice (some ⟨gg, 0, none⟩) (k + 1) cap) (k + 1) (cellsOf ((invL l).take (k + 1))) := by
        rw [hnx.out, cellsOf_append]
        exact ho5
      clear ho hb ho5 hgrow hat hcb' hnx c1
      go_wp2
      refine ⟨⟨k + 1, by omega, by go_num, ho6, hb6⟩, ?_⟩
      simp only [intOf]
      omega
    · have e : k = l.length := by omega
      have hpost : NewPairs (invL l) w (.returned _) wr := ⟨_, rfl, by rw [invL_len, ← e]; rw [List.take_of_length_le (by rw [invL_len]; omega)] at ho; exact ho, hb⟩
      clear ho hb hA
      go_wp2
      go_ret
      exact hpost

end Go.Proofs.YtenejdfnhkbafaaGreat
