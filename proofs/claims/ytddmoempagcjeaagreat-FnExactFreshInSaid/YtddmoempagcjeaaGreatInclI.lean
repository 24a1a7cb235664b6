/-
  IncludesContext in the program, as a contract.
-/
import Derived.Test.YtddmoempagcjeaaGreatNeedA
import Derived.Carry
namespace Go.Proofs.YtddmoempagcjeaaGreat
open Go.RowKit Go.Sort Go.ChangeShapes Go.WideShapes Go.WideMaps Go.Maps
set_option linter.unusedVariables false

def allIn (S l : List (Int × Int)) : Bool := (List.range l.length).all fun i => hasF S (prAt l i)
def inclB (l part : List (Int × Int)) : Bool := ctxB l && (ctxB part && allIn l part)

theorem allIn_no {S l : List (Int × Int)} {i : Nat} (hi : i < l.length) (h : hasF S (prAt l i) = false) : allIn S l = false := by
  unfold allIn
  rw [List.all_eq_false]
  exact ⟨i, List.mem_range.2 hi, by simp [h]⟩

theorem allIn_yes {S l : List (Int × Int)} (h : ∀ j, j < l.length → hasF S (prAt l j) = true) : allIn S l = true := by
  unfold allIn
  rw [List.all_eq_true]
  exact fun x hx => h x (List.mem_range.1 hx)

theorem okF_at {l : List (Int × Int)} (h : ctxB l = true) (i : Nat) (hi : i < l.length) : okF (prAt l i) := by
  unfold ctxB rightB at h
  rw [Bool.and_eq_true, List.all_eq_true] at h
  have h1 := h.2 i (List.mem_range.2 hi)
  unfold ctxAt at h1
  rw [Bool.and_eq_true, Bool.and_eq_true] at h1
  exact okF_of_ctx h1.1 h1.2.1

/-- The function literal: whether an element is not in the set. -/
theorem missing_any (V b n : Nat) (S : List (Int × Int)) (x : Int × Int) (r : Bool) (hr : r = hasF S x) (w : World) (hV : w.cell? ⟨V, 0, none⟩ = some (.map (some b))) (hs : SetAt w b n S) (hok : okF x) :
    Calls Tryz.prog 70 #[.agg #[.int .i64 x.1, .int .i64 x.2], .pointer (some ⟨V, 0, none⟩)] w fun e w' => e = .returned (.bool (!r)) ∧ Below w.heap.size w w' := by
  have hb : Below w.heap.size w (w.alloc (.cells #[.int .i64 x.1, .int .i64 x.2] 55)) := (Below.refl _ _).alloc (Nat.le_refl _) _
  have hsa := hs.alloc (.cells #[.int .i64 x.1, .int .i64 x.2] 55)
  have hVl : V < w.heap.size := block_lt_of_cell hV
  clear hs
  go_enter Tryz.func70, Tryz.ntmps70
  go_wp2_with (at_lookup; refine wpList_lookup_set _ rfl _ _ 65 rfl Tryz.underlying65 b n S rfl hsa x rfl hok r hr ?_)
  go_ret
  exact ⟨bool_end (by rw [hr]), hb⟩

set_option maxRecDepth 100000 in
set_option maxHeartbeats 1000000 in
theorem indexMissing_any (A : Option Addr) (c V b n : Nat) (S l : List (Int × Int)) (w : World) (hA : PairsAt w A l) (hV : w.cell? ⟨V, 0, none⟩ = some (.map (some b))) (hs : SetAt w b n S) (hok : ∀ i, i < l.length → okF (prAt l i)) (hl : l.length ≤ 1099511627776) :
    Calls Tryz.prog 106 #[.slice A l.length c, .func (.func 70) #[] #[.pointer (some ⟨V, 0, none⟩)]] w
      fun e w' => (∃ i : Int, e = .returned (.int .i64 i) ∧ ((0 ≤ i ∧ allIn S l = false) ∨ (i < 0 ∧ allIn S l = true))) ∧ Below w.heap.size w w' := by
  have hVl : V < w.heap.size := block_lt_of_cell hV
  go_enter Tryz.func106, Tryz.ntmps106
  go_wp2
  go_loopw [5, 8] (fun _ i wr => ∃ k : Nat, k ≤ l.length ∧ i = .int .i64 k ∧ Hid (∀ j, j < k → hasF S (prAt l j) = true) ∧ Below w.heap.size w wr) (fun _ i _ => l.length - (intOf i).toNat)
  case atStart => exact ⟨0, Nat.zero_le _, rfl, fun j hj => absurd hj (by omega), Below.refl _ _⟩
  case round =>
    obtain ⟨k, hk, rfl, hq, hb⟩ := hrel
    by_cases hlt : k < l.length
    · obtain ⟨b1, o1, rfl, hb1, hc1⟩ := hA (by omega)
      obtain ⟨c1, c2⟩ := hc1 k hlt
      rw [← hb.cell (p := ⟨b1, _, none⟩) hb1] at c1 c2
      have hV2 := (hb.cell (p := ⟨V, 0, none⟩) hVl).trans hV
      by_cases hx : hasF S (prAt l k) = true
      · have hcall := missing_any V b n S (prAt l k) true hx.symm wr hV2 (hs.below hb) (hok k hlt)
        have hn : Hid (∀ j, j < k + 1 → hasF S (prAt l j) = true) := ctx_next hq.out hx
        clear hc1 hA hV hV2 hs hok hq hx
        generalize prAt l k = p1 at c1 c2 hcall
        go_wp2_with (go_at_call 70; refine hcall.mono ?_; rintro e w2 ⟨rfl, hb2⟩)
        have hb3 := hb.trans (hb2.mono hb.size)
        clear hcall c1 c2
        refine ⟨⟨k + 1, by omega, by go_num, hn, hb3⟩, ?_⟩
        simp only [intOf]
        omega
      · have hx' : hasF S (prAt l k) = false := by simpa using hx
        have hcall := missing_any V b n S (prAt l k) false hx'.symm wr hV2 (hs.below hb) (hok k hlt)
        have hn : Hid (allIn S l = false) := allIn_no hlt hx'
        clear hc1 hA hV hV2 hs hok hq hx hx'
        generalize prAt l k = p1 at c1 c2 hcall
        go_wp2_with (go_at_call 70; refine hcall.mono ?_; rintro e w2 ⟨rfl, hb2⟩)
        have hb3 := hb.trans (hb2.mono hb.size)
        clear hcall c1 c2
        go_ret
        exact ⟨⟨_, rfl, Or.inl ⟨by omega, hn.out⟩⟩, hb3⟩
    · have hn : Hid (allIn S l = true) := allIn_yes fun j hj => hq.out j (by omega)
      clear hq hs hA hV
      go_wp2
      go_ret
      exact ⟨⟨_, rfl, Or.inr ⟨by decide, hn.out⟩⟩, hb⟩

theorem containsMissing_any (A : Option Addr) (c V b n : Nat) (S l : List (Int × Int)) (w : World) (hA : PairsAt w A l) (hV : w.cell? ⟨V, 0, none⟩ = some (.map (some b))) (hs : SetAt w b n S) (hok : ∀ i, i < l.length → okF (prAt l i)) (hl : l.length ≤ 1099511627776) :
    Calls Tryz.prog 69 #[.slice A l.length c, .func (.func 70) #[] #[.pointer (some ⟨V, 0, none⟩)]] w
      fun e w' => e = .returned (.bool (!allIn S l)) ∧ Below w.heap.size w w' := by
  have hi := indexMissing_any A c V b n S l w hA hV hs hok hl
  clear hA hV hs hok
  generalize allIn S l = r at hi ⊢
  go_enter Tryz.func69, Tryz.ntmps69
  go_wp2_with fail
  refine hi.mono ?_
  rintro e w2 ⟨⟨i, rfl, h⟩, hb⟩
  clear hi
  rcases h with ⟨h, rfl⟩ | ⟨h, rfl⟩
  · go_wp2
    go_ret
    exact ⟨rfl, hb⟩
  · have h' : ¬ 0 ≤ i := by omega
    go_wp2
    go_ret
    exact ⟨bool_end (by first | rfl | (simp; omega)), hb⟩

end Go.Proofs.YtddmoempagcjeaaGreat
