/-
  Solutions: their sizes, their copies and their comparison, as contracts. An argument that is a solution, opened.
-/
import Derived.Test.YtlhjgjfnmejiaaaGreatKComesOf10
import Derived.Test.YtlhjgjfnmejiaaaGreatKComesOf7
import Derived.Test.YtlhjgjfnmejiaaaGreatKComesOf18
import Derived.Test.YtlhjgjfnmejiaaaGreatKComesOf11
import Derived.Test.YtlhjgjfnmejiaaaGreatKComesOf8
section
namespace Go.Proofs.YtlhjgjfnmejiaaaGreat
open Go.RowKit
set_option linter.unusedVariables false

/-- A value that is a solution. -/
def SolIn (w : World) (x : Value) (l : List RBinding) (m : List (Int × Int)) : Prop :=
  ∃ A c B d, x = .agg #[.slice A l.length c, .slice B m.length d] ∧ RBindingsIn w (.slice A l.length c) l ∧ PairsAt w B m
theorem SolIn.below {w w' : World} {x : Value} {l : List RBinding} {m : List (Int × Int)} (h : SolIn w x l m) (hb : Below w.heap.size w w') : SolIn w' x l m := by
  obtain ⟨A, c, B, d, rfl, h1, h2⟩ := h
  exact ⟨A, c, B, d, rfl, h1.below hb, h2.below hb⟩
def ShortSol (l : List RBinding) (m : List (Int × Int)) : Prop := ShortRBindings l ∧ l.length ≤ maxLen ∧ m.length ≤ maxLen
namespace SolK
theorem row2 {w : World} {g : Nat} {a b : Value} {T : TypeId} (h : w.heap[g]? = some (.cells #[a, b] T (0, 0))) : w.cell? ⟨g, 0, none⟩ = some a ∧ w.cell? ⟨g, 1, none⟩ = some b := by
  refine ⟨?_, ?_⟩ <;> rw [cell_of_row w g _ _ _ _ h] <;> rfl
end SolK

set_option maxRecDepth 100000 in
set_option maxHeartbeats 2000000 in
theorem szSolution_any (l : List RBinding) (m : List (Int × Int)) (hs : ShortSol l m) (left : Int) (w : World) (x : Value) (h0 : 0 ≤ left) (h1 : left ≤ 1099511627776) (hx : SolIn w x l m) :
    Calls Tryz.prog 8 #[x, .int .i64 left] w (LeftPost left (l.length + sumRBinding l + m.length) w) := by
  obtain ⟨hs1, hs2, hs3⟩ := hs
  obtain ⟨A, c, B, d, rfl, hl, hm⟩ := hx
  have hlm : m.length ≤ 9223372036854775807 := by unfold maxLen at hs3; omega
  have hb0 : Below w.heap.size w (w.alloc (.cells #[.slice A l.length c, .slice B m.length d] 25)) := (Below.refl _ _).alloc (Nat.le_refl _) _
  have k0 := heap_alloc_new w (.cells #[.slice A l.length c, .slice B m.length d] 25)
  obtain ⟨m0, m1⟩ := SolK.row2 k0
  have hsz := szBindingS_any l hs1 hs2 left (w.alloc (.cells #[.slice A l.length c, .slice B m.length d] 25)) _ h0 h1 (hl.below hb0)
  have HB0 := Lib.hid hb0
  have HK0 := Lib.hid k0
  clear hl hm hb0 hs1 hs2 hs3
  unfold LeftPost at hsz ⊢
  by_cases h3 : ((l.length + sumRBinding l : Nat) : Int) ≤ left
  · rw [leftR_yes h3] at hsz
    have hl : ¬ left - ((l.length + sumRBinding l : Nat) : Int) < 0 := by omega
    have hz : leftR left (l.length + sumRBinding l + m.length) = leftR (left - ((l.length + sumRBinding l : Nat) : Int)) m.length := by
      by_cases h4 : (m.length : Int) ≤ left - ((l.length + sumRBinding l : Nat) : Int)
      · rw [leftR_yes h4, leftR_yes (by omega)]; omega
      · rw [leftR_no h4, leftR_no (by omega)]
    rw [hz]
    have hk1 : left - ((l.length + sumRBinding l : Nat) : Int) ≤ 1099511627776 := by omega
    clear hz h3
    generalize left - ((l.length + sumRBinding l : Nat) : Int) = q at *
    have hq0 : 0 ≤ q := by omega
    generalize hzz : leftR q m.length = zz at *
    have HZZ := Lib.hid hzz
    clear hzz
    go_enter Tryz.func8, Tryz.ntmps8
    go_wp2_with fail
    refine hsz.mono ?_
    rintro e w1 ⟨rfl, hb1⟩
    have k1 := (hb1.block _ (BoxR.box_lt HK0.out)).trans HK0.out
    have hpost := HB0.out.trans (hb1.mono HB0.out.size)
    clear hsz m0 m1 hb1 k0
    obtain ⟨m0, m1⟩ := SolK.row2 k1
    by_cases h4 : (m.length : Int) ≤ q
    · have hl2 : ¬ q - (m.length : Int) < 0 := by omega
      go_wp2_with fail
      refine (szF_yes B m.length d q _ (by omega) hk1 h4).mono ?_
      rintro e w2 ⟨rfl, rfl⟩
      have he := HZZ.out
      rw [leftR_yes h4] at he
      clear k1 m0 m1 HZZ
      subst he
      go_wp2
      go_ret
      exact ⟨rfl, hpost⟩
    · go_wp2_with fail
      refine (szF_no B m.length d q _ (by omega) (by omega) hk1 (by omega)).mono ?_
      rintro e w2 ⟨rfl, rfl⟩
      have he := HZZ.out
      rw [leftR_no (by omega)] at he
      clear k1 m0 m1 HZZ
      subst he
      go_wp2
      go_ret
      exact ⟨rfl, hpost⟩
  · rw [leftR_no h3] at hsz
    rw [leftR_no (by omega)]
    clear h3
    go_enter Tryz.func8, Tryz.ntmps8
    go_wp2_with fail
    refine hsz.mono ?_
    rintro e w1 ⟨rfl, hb1⟩
    have hpost := HB0.out.trans (hb1.mono HB0.out.size)
    clear hsz m0 m1 hb1 k0
    go_wp2
    go_ret
    exact ⟨rfl, hpost⟩

/-- A new solution. -/
def SolOut (l : List RBinding) (m : List (Int × Int)) (w : World) (e : Ending) (w' : World) : Prop :=
  ∃ A c B d, e = .returned (.agg #[.slice A l.length c, .slice B m.length d]) ∧ SolIn w' (.agg #[.slice A l.length c, .slice B m.length d]) l m ∧ Below w.heap.size w w'

set_option maxRecDepth 100000 in
set_option maxHeartbeats 2000000 in
theorem toSolution_any (l : List RBinding) (m : List (Int × Int)) (hf : FitRBindings l) (hll : l.length ≤ 1048576) (hml : m.length ≤ 1048576) (w : World) (x : Value) (hx : SolIn w x l m) :
    Calls Tryz.prog 11 #[x] w (SolOut l m w) := by
  obtain ⟨A, c, B, d, rfl, hl, hm⟩ := hx
  have hb0 : Below w.heap.size w (((w.alloc (.cells #[.slice A l.length c, .slice B m.length d] 25)).alloc (.cells #[.slice none 0 0, .slice none 0 0] 32)).alloc (.cells #[.slice none 0 0, .slice none 0 0] 32)) := (((Below.refl _ _).alloc (Nat.le_refl _) _).alloc (by simp) _).alloc (by simp; omega) _
  have hsz0 : (((w.alloc (.cells #[.slice A l.length c, .slice B m.length d] 25)).alloc (.cells #[.slice none 0 0, .slice none 0 0] 32)).alloc (.cells #[.slice none 0 0, .slice none 0 0] 32)).heap.size = w.heap.size + 3 := by simp
  have hbox : (((w.alloc (.cells #[.slice A l.length c, .slice B m.length d] 25)).alloc (.cells #[.slice none 0 0, .slice none 0 0] 32)).alloc (.cells #[.slice none 0 0, .slice none 0 0] 32)).heap[w.heap.size]? = some (.cells #[.slice A l.length c, .slice B m.length d] 25 (0, 0)) := (Below.heap_alloc _ _ _ (by simp; omega)).trans ((Below.heap_alloc _ _ _ (by simp)).trans (heap_alloc_new w _))
  have hres : (((w.alloc (.cells #[.slice A l.length c, .slice B m.length d] 25)).alloc (.cells #[.slice none 0 0, .slice none 0 0] 32)).alloc (.cells #[.slice none 0 0, .slice none 0 0] 32)).heap[w.heap.size + 1]? = some (.cells #[.slice none 0 0, .slice none 0 0] 32 (0, 0)) := by
    have h9 := heap_alloc_new (w.alloc (.cells #[.slice A l.length c, .slice B m.length d] 25)) (.cells #[.slice none 0 0, .slice none 0 0] 32)
    rw [World.size_alloc] at h9
    exact (Below.heap_alloc _ _ _ (by simp)).trans h9
  have hout : (((w.alloc (.cells #[.slice A l.length c, .slice B m.length d] 25)).alloc (.cells #[.slice none 0 0, .slice none 0 0] 32)).alloc (.cells #[.slice none 0 0, .slice none 0 0] 32)).heap[w.heap.size + 1 + 1]? = some (.cells #[.slice none 0 0, .slice none 0 0] 32 (0, 0)) := by
    have h9 := heap_alloc_new ((w.alloc (.cells #[.slice A l.length c, .slice B m.length d] 25)).alloc (.cells #[.slice none 0 0, .slice none 0 0] 32)) (.cells #[.slice none 0 0, .slice none 0 0] 32)
    rw [World.size_alloc, World.size_alloc] at h9
    exact h9
  have hto := toBindingS_any l hf hll (((w.alloc (.cells #[.slice A l.length c, .slice B m.length d] 25)).alloc (.cells #[.slice none 0 0, .slice none 0 0] 32)).alloc (.cells #[.slice none 0 0, .slice none 0 0] 32)) _ (hl.below hb0)
  have HM := Lib.hid hm
  have HS0 := Lib.hid hsz0
  have HK := Lib.hid hbox
  have HR := Lib.hid hres
  have HO := Lib.hid hout
  have HB0 := Lib.hid hb0
  obtain ⟨m0, m1⟩ := SolK.row2 hbox
  clear hl hm hbox hres hout hb0 hsz0
  go_enter Tryz.func11, Tryz.ntmps11
  go_wp2_with fail
  refine hto.mono ?_
  rintro e w1 ⟨v1, S1, rfl, hL1, hS1, hb1⟩
  obtain ⟨A1, c1, rfl, _⟩ := id (ownRBindings_in hL1)
  have hz1 := hb1.size
  rw [HS0.out] at hz1
  have k1 := (hb1.block w.heap.size (by rw [HS0.out]; omega)).trans HK.out
  have r1 := (hb1.block (w.heap.size + 1) (by rw [HS0.out]; omega)).trans HR.out
  have o1 := (hb1.block (w.heap.size + 1 + 1) (by rw [HS0.out]; omega)).trans HO.out
  have hbz1 := HB0.out.trans (hb1.mono HB0.out.size)
  have hS3 : ∀ b ∈ S1, w.heap.size + 3 ≤ b := fun b hb => by have := hS1 b hb; rw [HS0.out] at this; exact this
  clear hto m0 m1 hb1 HK HR HO HB0 HS0 hS1
  have o2 := heap_setCell_same w1 (w.heap.size + 1 + 1) 0 _ _ (.slice A1 l.length c1) o1
  have on2 : Only [w.heap.size + 1 + 1] w1 (w1.setCell ⟨w.heap.size + 1 + 1, 0, none⟩ (.slice A1 l.length c1)) := (Only.refl _ _).set ⟨w.heap.size + 1 + 1, 0, none⟩ _ (by simp)
  have k2 := (on2.block w.heap.size (BoxR.box_lt k1) (by first | (simp; done) | (simp; omega))).trans k1
  have r2 := (on2.block (w.heap.size + 1) (BoxR.box_lt r1) (by first | (simp; done) | (simp; omega))).trans r1
  have hbz2 := hbz1.setCell (p := ⟨w.heap.size + 1 + 1, 0, none⟩) (show w.heap.size ≤ w.heap.size + 1 + 1 by omega) (.slice A1 l.length c1)
  have hfr := toFreshS_any B d m (w1.setCell ⟨w.heap.size + 1 + 1, 0, none⟩ (.slice A1 l.length c1)) (HM.out.below hbz2) (by omega)
  obtain ⟨m0, m1⟩ := SolK.row2 k2
  obtain ⟨x0, x1⟩ := SolK.row2 o1
  have y0 := frozen_of_row _ _ 0 _ _ o1
  have HO2 := Lib.hid o2
  have HR2 := Lib.hid r2
  have HBZ := Lib.hid hbz2
  have HON := Lib.hid on2
  have HSZ : Hid (w1.heap.size = (w1.setCell ⟨w.heap.size + 1 + 1, 0, none⟩ (.slice A1 l.length c1)).heap.size) := Lib.hid (by simp)
  have HL1 := Lib.hid hL1
  have HS3 := Lib.hid hS3
  clear o1 o2 r1 r2 k1 k2 on2 hbz1 hbz2 hL1 hS3
  go_wp2_with fail
  refine hfr.mono ?_
  rintro e w3 ⟨v2, rfl, ho3, hb3⟩
  obtain ⟨B2, d2, rfl, _⟩ := own_pairsAt ho3
  have o3 := (hb3.block (w.heap.size + 1 + 1) (BoxR.box_lt HO2.out)).trans HO2.out
  have r3 := (hb3.block (w.heap.size + 1) (BoxR.box_lt HR2.out)).trans HR2.out
  have hbz3 := HBZ.out.trans (hb3.mono HBZ.out.size)
  clear hfr m0 m1 x0 x1 y0
  have onF : Only [w.heap.size + 1 + 1, w.heap.size + 1] w3 (((w3.setCell ⟨w.heap.size + 1 + 1, 1, none⟩ (.slice B2 m.length d2)).setCell ⟨w.heap.size + 1, 0, none⟩ (.slice A1 l.length c1)).setCell ⟨w.heap.size + 1, 1, none⟩ (.slice B2 m.length d2)) := (((Only.refl _ _).set ⟨w.heap.size + 1 + 1, 1, none⟩ _ (by simp)).set ⟨w.heap.size + 1, 0, none⟩ _ (by simp)).set ⟨w.heap.size + 1, 1, none⟩ _ (by simp)
  have hbF : Below w.heap.size w (((w3.setCell ⟨w.heap.size + 1 + 1, 1, none⟩ (.slice B2 m.length d2)).setCell ⟨w.heap.size + 1, 0, none⟩ (.slice A1 l.length c1)).setCell ⟨w.heap.size + 1, 1, none⟩ (.slice B2 m.length d2)) := ((hbz3.setCell (p := ⟨w.heap.size + 1 + 1, 1, none⟩) (show w.heap.size ≤ w.heap.size + 1 + 1 by omega) _).setCell (p := ⟨w.heap.size + 1, 0, none⟩) (show w.heap.size ≤ w.heap.size + 1 by omega) _).setCell (p := ⟨w.heap.size + 1, 1, none⟩) (show w.heap.size ≤ w.heap.size + 1 by omega) _
  have hLF := HL1.out.alike (w' := (((w3.setCell ⟨w.heap.size + 1 + 1, 1, none⟩ (.slice B2 m.length d2)).setCell ⟨w.heap.size + 1, 0, none⟩ (.slice A1 l.length c1)).setCell ⟨w.heap.size + 1, 1, none⟩ (.slice B2 m.length d2))) fun bb hbb => (onF.block bb (by have h1 := HL1.out.lt bb hbb; have h2 := hb3.size; rw [← HSZ.out] at h2; omega) (by have := HS3.out bb hbb; simp; omega)).trans ((hb3.block bb (by rw [← HSZ.out]; exact HL1.out.lt bb hbb)).trans (HON.out.block bb (HL1.out.lt bb hbb) (by have := HS3.out bb hbb; simp; omega)))
  have hrF := own_only ho3 onF (fun k e hm => by have h1 := ho3.lt k e; have h2 := BoxR.box_lt HO2.out; simp at hm; omega)
  obtain ⟨B3, d3, e3, hp3⟩ := own_pairsAt hrF
  cases e3
  have hpost : SolOut l m w (.returned (.agg #[.slice A1 l.length c1, .slice B2 m.length d2])) (((w3.setCell ⟨w.heap.size + 1 + 1, 1, none⟩ (.slice B2 m.length d2)).setCell ⟨w.heap.size + 1, 0, none⟩ (.slice A1 l.length c1)).setCell ⟨w.heap.size + 1, 1, none⟩ (.slice B2 m.length d2)) :=
    ⟨A1, c1, B2, d2, rfl, ⟨A1, c1, B2, d2, rfl, ownRBindings_in hLF, hp3⟩, hbF⟩
  obtain ⟨x0, x1⟩ := SolK.row2 o3
  have y0 := frozen_of_row _ _ 0 _ _ o3
  have y1 := frozen_of_row _ _ 1 _ _ o3
  obtain ⟨s0, s1⟩ := SolK.row2 r3
  have z0 := frozen_of_row _ _ 0 _ _ r3
  have z1 := frozen_of_row _ _ 1 _ _ r3
  clear hLF hrF hp3 hbF onF o3 r3 hbz3 ho3 hb3 HL1 HS3 HON HSZ HBZ HO2 HR2 HM
  go_wp2
  exact bodyPost_ret (v := .agg #[.slice A1 l.length c1, .slice B2 m.length d2]) (by simp [results, Tryz.results11, go_sem, s0, s1]) rfl hpost

set_option maxRecDepth 100000 in
set_option maxHeartbeats 2000000 in
theorem eqSolution_any (l : List RBinding) (m : List (Int × Int)) (hf : ∀ k, k < l.length → Fit (atRBinding l k).f1) (hll : l.length ≤ 1048576) (hml : m.length ≤ 1048576) (w : World) (x y : Value) (hx : SolIn w x l m) (hy : SolIn w y l m) :
    Calls Tryz.prog 14 #[x, y] w (YesPost w) := by
  obtain ⟨A, c, B, d, rfl, hxl, hxm⟩ := hx
  obtain ⟨A', c', B', d', rfl, hyl, hym⟩ := hy
  have hb0 : Below w.heap.size w ((w.alloc (.cells #[.slice A l.length c, .slice B m.length d] 32)).alloc (.cells #[.slice A' l.length c', .slice B' m.length d'] 32)) := ((Below.refl _ _).alloc (Nat.le_refl _) _).alloc (by simp) _
  have k0 : ((w.alloc (.cells #[.slice A l.length c, .slice B m.length d] 32)).alloc (.cells #[.slice A' l.length c', .slice B' m.length d'] 32)).heap[w.heap.size]? = some (.cells #[.slice A l.length c, .slice B m.length d] 32 (0, 0)) := (Below.heap_alloc _ _ _ (by simp)).trans (heap_alloc_new w _)
  have k1 : ((w.alloc (.cells #[.slice A l.length c, .slice B m.length d] 32)).alloc (.cells #[.slice A' l.length c', .slice B' m.length d'] 32)).heap[w.heap.size + 1]? = some (.cells #[.slice A' l.length c', .slice B' m.length d'] 32 (0, 0)) := by
    have h := heap_alloc_new (w.alloc (.cells #[.slice A l.length c, .slice B m.length d] 32)) (.cells #[.slice A' l.length c', .slice B' m.length d'] 32)
    rw [World.size_alloc] at h
    exact h
  have he1 := eqBindingS_any l hf hll ((w.alloc (.cells #[.slice A l.length c, .slice B m.length d] 32)).alloc (.cells #[.slice A' l.length c', .slice B' m.length d'] 32)) _ _ (hxl.below hb0) (hyl.below hb0)
  have HX := Lib.hid hxm
  have HY := Lib.hid hym
  have HB0 := Lib.hid hb0
  have HK0 := Lib.hid k0
  have HK1 := Lib.hid k1
  obtain ⟨m0, m1⟩ := SolK.row2 k0
  obtain ⟨n0, n1⟩ := SolK.row2 k1
  clear hxl hxm hyl hym hb0 k0 k1
  go_enter Tryz.func14, Tryz.ntmps14
  go_wp2_with fail
  refine he1.mono ?_
  rintro e w1 ⟨rfl, hb1⟩
  have hbw1 := HB0.out.trans (hb1.mono HB0.out.size)
  have k0 := (hb1.block w.heap.size (BoxR.box_lt HK0.out)).trans HK0.out
  have k1 := (hb1.block (w.heap.size + 1) (BoxR.box_lt HK1.out)).trans HK1.out
  clear he1 m0 m1 n0 n1
  obtain ⟨m0, m1⟩ := SolK.row2 k0
  obtain ⟨n0, n1⟩ := SolK.row2 k1
  have he2 := eqFreshS_any B B' d d' m m w1 (HX.out.below hbw1) (HY.out.below hbw1) (by omega)
  rw [decide_eq_true (rfl : m = m)] at he2
  clear k0 k1
  go_wp2_with fail
  refine he2.mono ?_
  rintro e w2 ⟨rfl, hb2⟩
  have hbw2 := hbw1.trans (hb2.mono hbw1.size)
  clear he2 m0 m1 n0 n1
  go_wp2
  go_ret
  exact ⟨rfl, hbw2⟩

end Go.Proofs.YtlhjgjfnmejiaaaGreat
end

section
namespace Go.Proofs.YtlhjgjfnmejiaaaGreat
open Go.RowKit Go.Deep Go.ChangeShapes Go.WideShapes
variable {H : Type} {enc : TypeId × Value → H} {W : World}

theorem solCells : Tryz.prog.cellsOf 25 = 2 := by kernel_rfl

/-- One value of a slice of bindings. -/
theorem open_bs1 {fuel : Nat} {v : Value} {x : DataW H × List MemPlace} (h : DataW.trod enc Tryz.prog W 0 (fun _ => true) true fuel 22 [v] = some x) :
    ∃ A l c, v = .slice A (l : List RBinding).length c ∧ RBindingsIn W (.slice A l.length c) l ∧ ShortRBindings l ∧ l.length ≤ maxLen := by
  have hform : ∃ A n c, v = .slice A n c := by
    rcases DataW.trod_slice Tryz.underlying22 h with ⟨e, _⟩ | ⟨a, len, cap, _, _, _, _, e, _⟩
    · simp at e; exact ⟨_, _, _, e⟩
    · simp at e; exact ⟨_, _, _, e⟩
  obtain ⟨A, n, c, rfl⟩ := hform
  obtain ⟨l, rfl, hA, hs, hm⟩ := open_bindings (W := W) (A := A) (n := n) (c := c) (d := x.1) (p := x.2) ⟨fuel, by simpa [Value.cells] using h⟩
  exact ⟨A, l, c, rfl, hA, hs, hm⟩

/-- One value of a slice of elements of contexts. -/
theorem open_fs1 {fuel : Nat} {v : Value} {x : DataW H × List MemPlace} (h : DataW.trod enc Tryz.prog W 0 (fun _ => true) true fuel 23 [v] = some x) :
    ∃ A l c, v = .slice A (l : List (Int × Int)).length c ∧ PairsAt W A l ∧ l.length ≤ maxLen := by
  have hform : ∃ A n c, v = .slice A n c := by
    rcases DataW.trod_slice Tryz.underlying23 h with ⟨e, _⟩ | ⟨a, len, cap, _, _, _, _, e, _⟩
    · simp at e; exact ⟨_, _, _, e⟩
    · simp at e; exact ⟨_, _, _, e⟩
  obtain ⟨A, n, c, rfl⟩ := hform
  obtain ⟨l, rfl, hA, hm⟩ := open_freshs (W := W) (A := A) (n := n) (c := c) (d := x.1) (p := x.2) ⟨fuel, by simpa [Value.cells] using h⟩
  exact ⟨A, l, c, rfl, hA, hm⟩

set_option maxRecDepth 100000 in
/-- A struct argument that is a solution. -/
theorem open_solution {r : Reach} {b0 : Nat} {v : Value} {d : DataW H} {p : List MemPlace} (hv : Value.okWide Tryz.prog W r b0 25 v) (h : DataW.Trod enc Tryz.prog W 0 (fun _ => true) true 25 v d p) :
    ∃ (l : List RBinding) (m : List (Int × Int)), SolIn W v l m ∧ ShortSol l m := by
  obtain ⟨v0, v1, y0, y1, n, rfl, _, _, g0, g1⟩ := Go.Joins.open_agg2 Tryz.underlying25 (by kernel_rfl) solCells hv h
  obtain ⟨A, l, c, rfl, hl, hs, hlm⟩ := open_bs1 g0
  obtain ⟨B, m, d2, rfl, hm, hmm⟩ := open_fs1 g1
  exact ⟨l, m, ⟨A, c, B, d2, rfl, hl, hm⟩, hs, hlm, hmm⟩
end Go.Proofs.YtlhjgjfnmejiaaaGreat
end

