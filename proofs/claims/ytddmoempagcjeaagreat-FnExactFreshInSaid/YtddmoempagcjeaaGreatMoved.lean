/-
  The moved atoms of a list of pairs: in the program, as a contract.
-/
import Derived.Test.YtddmoempagcjeaaGreatHas
import Derived.Test.YtddmoempagcjeaaGreatPermS
namespace Go.Proofs.YtddmoempagcjeaaGreat
open Go.RowKit Go.Sort

theorem froms_take {l : List (Int × Int)} {k : Nat} (h : k < l.length) : froms (l.take (k + 1)) = froms (l.take k) ++ [(prAt l k).1] := by
  rw [List.take_succ_eq_append_getElem h]
  unfold froms
  rw [List.map_append]
  congr 1
  simp [prAt, h]

theorem int_infoM : (Tryz.prog.info? 3).map (fun i => (i.zero, i.size, i.bytes)) = some (some (.int .i64 0), 1, 8) := by kernel_rfl

theorem int_one (x : Int) : ∀ u ∈ [Value.int .i64 x], u.oneCell' = true := by
  intro u hu
  simp at hu
  subst hu
  rfl

theorem one_cell {w : World} {g : Nat} {u : Value} (h : w.cell? ⟨g, 0, none⟩ = some u) : ∀ j x, [u][j]? = some x → w.cell? ((⟨g, 0, none⟩ : Addr).add j) = some x := by
  intro j x hj
  cases j with
  | zero => simp at hj; subst hj; simpa [Addr.add] using h
  | succ j => simp at hj

set_option maxRecDepth 100000 in
set_option maxHeartbeats 1000000 in
theorem movedIn_any (A : Option Addr) (c : Nat) (l : List (Int × Int)) (w : World) (hA : PairsAt w A l) (hl : l.length ≤ 1099511627776) :
    Calls Tryz.prog 150 #[.slice A l.length c] w (NewInts (froms l) w) := by
  obtain ⟨i0, hi0, hz0, hz1, hz2⟩ := info_parts int_infoM
  have HS := Lib.hid hz2
  clear hz2
  go_enter Tryz.func150, Tryz.ntmps150
  go_wp2
  go_loopw [3, 5, 9] (fun v _ i wr => ∃ k : Nat, k ≤ l.length ∧ i = .int .i64 k ∧ wr.ownsRow w.heap.size 3 1 v k (icells (froms (l.take k))) ∧ Below w.heap.size w wr) (fun _ _ i _ => l.length - (intOf i).toNat)
  case atStart => exact ⟨0, Nat.zero_le _, rfl, World.ownsRow_lit w #[] 0 (Nat.le_refl _) (by decide) rfl, (Below.refl _ _).alloc (Nat.le_refl _) _⟩
  case round =>
    obtain ⟨k, hk, rfl, ho, hb⟩ := hrel
    by_cases hlt : k < l.length
    · obtain ⟨b1, o1, rfl, hb1, hc1⟩ := hA (by omega)
      obtain ⟨c1, c2⟩ := hc1 k hlt
      rw [← hb.cell (p := ⟨b1, _, none⟩) hb1] at c1 c2
      clear hc1 hA
      have hnext : Hid (froms (l.take (k + 1)) = froms (l.take k) ++ [(prAt l k).1]) := froms_take hlt
      generalize prAt l k = p at c1 c2 hnext
      have ho1 := ho.alloc (.cells #[.int .i64 p.1, .int .i64 p.2] 85)
      have hb2 := hb.alloc hb.size (.cells #[.int .i64 p.1, .int .i64 p.2] 85)
      have ho2 := ho1.alloc (.cells #[.int .i64 p.1] 3)
      have hb3 := hb2.alloc (Nat.le_trans hb.size (by simp)) (.cells #[.int .i64 p.1] 3)
      have hsz : w.heap.size ≤ wr.heap.size := hb.size
      have hcell : ((wr.alloc (.cells #[.int .i64 p.1, .int .i64 p.2] 85)).alloc (.cells #[.int .i64 p.1] 3)).cell? ⟨wr.heap.size + 1, 0, none⟩ = some (.int .i64 p.1) := by simp
      have HC := Lib.hid (one_cell hcell)
      clear hcell ho ho1 hb2 hb
      go_wp2_with (at_builtin; refine wpList_append_own _ rfl (.tmp 13) (.tmp 16) 93 rfl w.heap.size 3 i0 (.int .i64 0) 1 8 Tryz.underlying93 hi0 hz0 hz1 HS.out rfl (by decide) _ k _ rfl ho2 ⟨wr.heap.size + 1, 0, none⟩ 1 1 [.int .i64 p.1] rfl rfl HC.out (int_one _) ?c3 ?c4 ?c5 ?_)
      case c3 => unfold maxLen; omega
      case c4 => omega
      case c5 => simp; omega
      intro v2 w2 ho3 hg _
      have ho4 : w2.ownsRow w.heap.size 3 1 v2 (k + 1) (icells (froms (l.take (k + 1)))) := by
        rw [hnext.out, icells_append]
        exact ho3
      have hb4 : Below w.heap.size w w2 := below_own hb3 ho2 (Nat.le_refl _) (by simp; omega) hg
      clear ho3 hg ho2 hb3 hnext HC c1 c2
      go_wp2
      refine ⟨⟨k + 1, by omega, by go_num, ho4, hb4⟩, ?_⟩
      simp only [intOf]
      omega
    · have e : k = l.length := by omega
      subst e
      rw [List.take_length] at ho
      have e : (froms l).length = l.length := by simp [froms]
      go_wp2
      go_ret
      exact ⟨_, rfl, by rw [e]; exact ho, hb⟩

end Go.Proofs.YtddmoempagcjeaaGreat
