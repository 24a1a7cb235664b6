/-
  UniteSets and MeetSets of both sides, as contracts.
-/
import Derived.Test.YtdbogjhkcnajkaaKMeetSets24
import Derived.Test.YtdbogjhkcnajkaaKMeetSets25
namespace Go.Proofs.Ytdbogjhkcnajkaa
open Go.RowKit Go.Sort
set_option linter.unusedVariables false

set_option maxRecDepth 100000 in
set_option maxHeartbeats 4000000 in
theorem meetSets_impl (z1 : Int) (l1 : List Int) (m1 : List (List Int)) (hf1 : FitO l1 m1) (x1 : Value) (z2 : Int) (l2 : List Int) (m2 : List (List Int)) (hf2 : FitO l2 m2) (x2 : Value) (w : World) (hx1 : OrbIx w x1 z1 l1 m1) (hx2 : OrbIx w x2 z2 l2 m2) :
    Calls Try.prog 37 #[x1, x2] w (OrbBOut (ozR (bothOk z1 l1 m1 z2 l2 m2) z1) (olR (bothOk z1 l1 m1 z2 l2 m2) (bothC l1 l2)) (omR (bothOk z1 l1 m1 z2 l2 m2) (bothM false z1 l1 m1 l2 m2)) (bothOk z1 l1 m1 z2 l2 m2) w) := by
  have hX1 := hx1
  have hX2 := hx2
  obtain ⟨A1, c1, B1, d1, rfl, hl1, hmr1, hm1⟩ := hx1
  obtain ⟨A2, c2, B2, d2, rfl, hl2, hmr2, hm2⟩ := hx2
  have hb0 : Below w.heap.size w (((w.alloc (.cells #[.int .i64 z1, .slice A1 l1.length c1, .slice B1 m1.length d1] 29)).alloc (.cells #[.int .i64 z2, .slice A2 l2.length c2, .slice B2 m2.length d2] 29)).alloc (.cells #[.int .i64 0, .slice none 0 0, .slice none 0 0] 29)) := (((Below.refl _ _).alloc (Nat.le_refl _) _).alloc (by simp) _).alloc (by simp; omega) _
  have k0 : (((w.alloc (.cells #[.int .i64 z1, .slice A1 l1.length c1, .slice B1 m1.length d1] 29)).alloc (.cells #[.int .i64 z2, .slice A2 l2.length c2, .slice B2 m2.length d2] 29)).alloc (.cells #[.int .i64 0, .slice none 0 0, .slice none 0 0] 29)).heap[w.heap.size]? = some (.cells #[.int .i64 z1, .slice A1 l1.length c1, .slice B1 m1.length d1] 29 (0, 0)) := (Below.heap_alloc _ _ _ (by simp; omega)).trans ((Below.heap_alloc _ _ _ (by simp)).trans (heap_alloc_new w _))
  have k1 : (((w.alloc (.cells #[.int .i64 z1, .slice A1 l1.length c1, .slice B1 m1.length d1] 29)).alloc (.cells #[.int .i64 z2, .slice A2 l2.length c2, .slice B2 m2.length d2] 29)).alloc (.cells #[.int .i64 0, .slice none 0 0, .slice none 0 0] 29)).heap[w.heap.size + 1]? = some (.cells #[.int .i64 z2, .slice A2 l2.length c2, .slice B2 m2.length d2] 29 (0, 0)) := by
    have h := heap_alloc_new (w.alloc (.cells #[.int .i64 z1, .slice A1 l1.length c1, .slice B1 m1.length d1] 29)) (.cells #[.int .i64 z2, .slice A2 l2.length c2, .slice B2 m2.length d2] 29)
    rw [World.size_alloc] at h
    exact (Below.heap_alloc _ _ _ (by simp)).trans h
  have k2 : (((w.alloc (.cells #[.int .i64 z1, .slice A1 l1.length c1, .slice B1 m1.length d1] 29)).alloc (.cells #[.int .i64 z2, .slice A2 l2.length c2, .slice B2 m2.length d2] 29)).alloc (.cells #[.int .i64 0, .slice none 0 0, .slice none 0 0] 29)).heap[w.heap.size + 1 + 1]? = some (.cells #[.int .i64 0, .slice none 0 0, .slice none 0 0] 29 (0, 0)) := by
    have h := heap_alloc_new ((w.alloc (.cells #[.int .i64 z1, .slice A1 l1.length c1, .slice B1 m1.length d1] 29)).alloc (.cells #[.int .i64 z2, .slice A2 l2.length c2, .slice B2 m2.length d2] 29)) (.cells #[.int .i64 0, .slice none 0 0, .slice none 0 0] 29)
    rw [World.size_alloc, World.size_alloc] at h
    exact h
  obtain ⟨b0, b1, b2⟩ := OrbK.row3 k0
  obtain ⟨n0, n1, n2⟩ := OrbK.row3 k1
  have hj := joinedAnd_any z1 l1 m1 hf1 _ z2 l2 m2 hf2 _ (((w.alloc (.cells #[.int .i64 z1, .slice A1 l1.length c1, .slice B1 m1.length d1] 29)).alloc (.cells #[.int .i64 z2, .slice A2 l2.length c2, .slice B2 m2.length d2] 29)).alloc (.cells #[.int .i64 0, .slice none 0 0, .slice none 0 0] 29)) (hX1.below hb0) (hX2.below hb0)
  generalize bothOk z1 l1 m1 z2 l2 m2 = ok at *
  generalize ozR ok z1 = zR at *
  generalize olR ok (bothC l1 l2) = lR at *
  generalize omR ok (bothM false z1 l1 m1 l2 m2) = mR at *
  have HB0 := Lib.hid hb0
  have HK2 := Lib.hid k2
  clear hl1 hmr1 hm1 hl2 hmr2 hm2 k0 k1 k2 hb0 hX1 hX2
  go_enter Try.func37, Try.ntmps37
  go_wp2_with (go_at_call 82; (with_reducible refine hj.mono ?_); rintro e w2 ⟨A4, c4, A5, c5, S5, rfl, hL5, hS5, hb2⟩; have hr2 := (hb2.block _ (OrbK.box_lt HK2.out)).trans HK2.out; obtain ⟨x0, x1, x2⟩ := OrbK.row3 hr2; obtain ⟨y0, y1, y2⟩ := z3At hr2)
  have hlt := OrbK.box_lt HK2.out
  have hpost := orbB_of ok (orb_pass (r := w.heap.size + 1 + 1) hL5 (HB0.out.trans (hb2.mono HB0.out.size)) (show w.heap.size ≤ w.heap.size + 1 + 1 by omega) (fun b h => by have h1 := hS5 b h; have h2 := HB0.out.size; exact ⟨by omega, by omega⟩))
  clear hj hL5 hS5 hb2 hr2 b0 b1 b2 n0 n1 n2 hlt
  go_wp2
  exact bodyPost_ret (v := .tuple #[.agg #[.int .i64 zR, .slice A4 lR.length c4, .slice A5 mR.length c5], .bool ok]) (by simp [results, Try.results37, go_sem, x0, x1, x2]) rfl hpost

set_option maxRecDepth 100000 in
set_option maxHeartbeats 4000000 in
theorem meetSets_spec (z1 : Int) (l1 : List Int) (m1 : List (List Int)) (hf1 : FitO l1 m1) (x1 : Value) (z2 : Int) (l2 : List Int) (m2 : List (List Int)) (hf2 : FitO l2 m2) (x2 : Value) (w : World) (hx1 : OrbIx w x1 z1 l1 m1) (hx2 : OrbIx w x2 z2 l2 m2) :
    Calls Try.prog 36 #[x1, x2] w (OrbBOut (ozR (bothOk z1 l1 m1 z2 l2 m2) z1) (olR (bothOk z1 l1 m1 z2 l2 m2) (bothC l1 l2)) (omR (bothOk z1 l1 m1 z2 l2 m2) (bothM false z1 l1 m1 l2 m2)) (bothOk z1 l1 m1 z2 l2 m2) w) := by
  have hX1 := hx1
  have hX2 := hx2
  obtain ⟨A1, c1, B1, d1, rfl, hl1, hmr1, hm1⟩ := hx1
  obtain ⟨A2, c2, B2, d2, rfl, hl2, hmr2, hm2⟩ := hx2
  have hb0 : Below w.heap.size w (((w.alloc (.cells #[.int .i64 z1, .slice A1 l1.length c1, .slice B1 m1.length d1] 29)).alloc (.cells #[.int .i64 z2, .slice A2 l2.length c2, .slice B2 m2.length d2] 29)).alloc (.cells #[.int .i64 0, .slice none 0 0, .slice none 0 0] 29)) := (((Below.refl _ _).alloc (Nat.le_refl _) _).alloc (by simp) _).alloc (by simp; omega) _
  have k0 : (((w.alloc (.cells #[.int .i64 z1, .slice A1 l1.length c1, .slice B1 m1.length d1] 29)).alloc (.cells #[.int .i64 z2, .slice A2 l2.length c2, .slice B2 m2.length d2] 29)).alloc (.cells #[.int .i64 0, .slice none 0 0, .slice none 0 0] 29)).heap[w.heap.size]? = some (.cells #[.int .i64 z1, .slice A1 l1.length c1, .slice B1 m1.length d1] 29 (0, 0)) := (Below.heap_alloc _ _ _ (by simp; omega)).trans ((Below.heap_alloc _ _ _ (by simp)).trans (heap_alloc_new w _))
  have k1 : (((w.alloc (.cells #[.int .i64 z1, .slice A1 l1.length c1, .slice B1 m1.length d1] 29)).alloc (.cells #[.int .i64 z2, .slice A2 l2.length c2, .slice B2 m2.length d2] 29)).alloc (.cells #[.int .i64 0, .slice none 0 0, .slice none 0 0] 29)).heap[w.heap.size + 1]? = some (.cells #[.int .i64 z2, .slice A2 l2.length c2, .slice B2 m2.length d2] 29 (0, 0)) := by
    have h := heap_alloc_new (w.alloc (.cells #[.int .i64 z1, .slice A1 l1.length c1, .slice B1 m1.length d1] 29)) (.cells #[.int .i64 z2, .slice A2 l2.length c2, .slice B2 m2.length d2] 29)
    rw [World.size_alloc] at h
    exact (Below.heap_alloc _ _ _ (by simp)).trans h
  have k2 : (((w.alloc (.cells #[.int .i64 z1, .slice A1 l1.length c1, .slice B1 m1.length d1] 29)).alloc (.cells #[.int .i64 z2, .slice A2 l2.length c2, .slice B2 m2.length d2] 29)).alloc (.cells #[.int .i64 0, .slice none 0 0, .slice none 0 0] 29)).heap[w.heap.size + 1 + 1]? = some (.cells #[.int .i64 0, .slice none 0 0, .slice none 0 0] 29 (0, 0)) := by
    have h := heap_alloc_new ((w.alloc (.cells #[.int .i64 z1, .slice A1 l1.length c1, .slice B1 m1.length d1] 29)).alloc (.cells #[.int .i64 z2, .slice A2 l2.length c2, .slice B2 m2.length d2] 29)) (.cells #[.int .i64 0, .slice none 0 0, .slice none 0 0] 29)
    rw [World.size_alloc, World.size_alloc] at h
    exact h
  obtain ⟨b0, b1, b2⟩ := OrbK.row3 k0
  obtain ⟨n0, n1, n2⟩ := OrbK.row3 k1
  have hj := l6Both_any false z1 l1 m1 hf1 _ z2 l2 m2 hf2 _ (((w.alloc (.cells #[.int .i64 z1, .slice A1 l1.length c1, .slice B1 m1.length d1] 29)).alloc (.cells #[.int .i64 z2, .slice A2 l2.length c2, .slice B2 m2.length d2] 29)).alloc (.cells #[.int .i64 0, .slice none 0 0, .slice none 0 0] 29)) (hX1.below hb0) (hX2.below hb0)
  generalize bothOk z1 l1 m1 z2 l2 m2 = ok at *
  generalize ozR ok z1 = zR at *
  generalize olR ok (bothC l1 l2) = lR at *
  generalize omR ok (bothM false z1 l1 m1 l2 m2) = mR at *
  have HB0 := Lib.hid hb0
  have HK2 := Lib.hid k2
  clear hl1 hmr1 hm1 hl2 hmr2 hm2 k0 k1 k2 hb0 hX1 hX2
  go_enter Try.func36, Try.ntmps36
  go_wp2_with (go_at_call 81; (with_reducible refine hj.mono ?_); rintro e w2 ⟨A4, c4, A5, c5, S5, rfl, hL5, hS5, hb2⟩; have hr2 := (hb2.block _ (OrbK.box_lt HK2.out)).trans HK2.out; obtain ⟨x0, x1, x2⟩ := OrbK.row3 hr2; obtain ⟨y0, y1, y2⟩ := z3At hr2)
  have hlt := OrbK.box_lt HK2.out
  have hpost := orbB_of ok (orb_pass (r := w.heap.size + 1 + 1) hL5 (HB0.out.trans (hb2.mono HB0.out.size)) (show w.heap.size ≤ w.heap.size + 1 + 1 by omega) (fun b h => by have h1 := hS5 b h; have h2 := HB0.out.size; exact ⟨by omega, by omega⟩))
  clear hj hL5 hS5 hb2 hr2 b0 b1 b2 n0 n1 n2 hlt
  go_wp2
  exact bodyPost_ret (v := .tuple #[.agg #[.int .i64 zR, .slice A4 lR.length c4, .slice A5 mR.length c5], .bool ok]) (by simp [results, Try.results36, go_sem, x0, x1, x2]) rfl hpost
end Go.Proofs.Ytdbogjhkcnajkaa
