/-
  SameSet: plain words and small laws; boxes for orbit sets that a drawn statement lays.
-/
import Derived.Test.YtdbogjhkcnajkaaKSameSet25
import Derived.Test.YtdbogjhkcnajkaaKSameSet26
import Derived.Test.YtdbogjhkcnajkaaKSameSet18
import Derived.Test.YtdbogjhkcnajkaaKSameSet27
namespace Go.Proofs.Ytdbogjhkcnajkaa
open Go.RowKit Go.Sort
set_option linter.unusedVariables false

/-- Whether two orbit sets are the same set. -/
def sameSB (z1 : Int) (l1 : List Int) (m1 : List (List Int)) (z2 : Int) (l2 : List Int) (m2 : List (List Int)) : Bool :=
  orbB z1 l1 m1 && (orbB z2 l2 m2 && (decide (z1 = z2) && (decide (redCz z1 l1 m1 = redCz z2 l2 m2) && decide (redMz z1 l1 m1 = redMz z2 l2 m2))))
theorem red_normal {z : Int} {l : List Int} {m : List (List Int)} (h : orbB z l m = true) : constB (redCz z l m) = true ∧ redMz z l m = thoseL z.toNat (redCz z l m).length (redMz z l m) := by
  have h1 := redF_inv (n := z.toNat) (m := m) (orb_const h) l.length (Nat.le_refl _)
  exact ⟨h1.1, h1.2.1⟩
/-- A box that is new. -/
def ZBox (w : World) (g : Nat) : Prop := w.heap[g]? = some (.cells #[.int .i64 0, .slice none 0 0, .slice none 0 0] 29 (0, 0))
theorem ZBox.lt {w : World} {g : Nat} (h : ZBox w g) : g < w.heap.size := OrbK.box_lt h
theorem ZBox.below {w w' : World} {g : Nat} (h : ZBox w g) (hb : Below w.heap.size w w') : ZBox w' g := (hb.block g h.lt).trans h
theorem ZBox.alloc {w : World} {g : Nat} (h : ZBox w g) (o : Obj) : ZBox (w.alloc o) g := h.below ((Below.refl _ _).alloc (Nat.le_refl _) o)
theorem ZBox.drew {w : World} {g : Nat} (h : ZBox w g) : ZBox w.drew g := h
theorem zb_new (w : World) : ZBox (w.alloc (.cells #[.int .i64 0, .slice none 0 0, .slice none 0 0] 29)) w.heap.size := heap_alloc_new w _
theorem zb_next (w : World) : ZBox ((w.alloc (.cells #[.int .i64 0, .slice none 0 0, .slice none 0 0] 29)).alloc (.cells #[.int .i64 0, .slice none 0 0, .slice none 0 0] 29)) (w.heap.size + 1) := by
  have h := zb_new (w.alloc (.cells #[.int .i64 0, .slice none 0 0, .slice none 0 0] 29))
  rwa [World.size_alloc] at h
theorem ZBox.other {w : World} {g q : Nat} (h : ZBox w g) (hne : g ≠ q) (a b c : Value) : ZBox (((w.setCell ⟨q, 0, none⟩ a).setCell ⟨q, 1, none⟩ b).setCell ⟨q, 2, none⟩ c) g :=
  ((OrbQ.set3_only w q a b c).block g h.lt (by simpa using hne)).trans h
/-- Two pointers to boxes that hold orbit sets. -/
def Orb2 (w0 : World) (n : Int) (C1 : List Int) (M1 : List (List Int)) (C2 : List Int) (M2 : List (List Int)) (s t : Value) (wx : World) : Prop :=
  ∃ g h A1 c1 B1 d1 A2 c2 B2 d2, s = .pointer (some ⟨g, 0, none⟩) ∧ t = .pointer (some ⟨h, 0, none⟩) ∧
    wx.heap[g]? = some (.cells #[.int .i64 n, .slice A1 C1.length c1, .slice B1 M1.length d1] 29 (0, 0)) ∧
    wx.heap[h]? = some (.cells #[.int .i64 n, .slice A2 C2.length c2, .slice B2 M2.length d2] 29 (0, 0)) ∧
    ConstAt wx A1 c1 C1 ∧ RowsIn wx (.slice B1 M1.length d1) M1 ∧ ConstAt wx A2 c2 C2 ∧ RowsIn wx (.slice B2 M2.length d2) M2 ∧ Below w0.heap.size w0 wx
theorem orb2_of {w0 X : World} {n : Int} {C1 C2 : List Int} {M1 M2 : List (List Int)} {g h : Nat} {A1 A2 B1 B2 : Option Addr} {c1 c2 d1 d2 : Nat} {S1 S2 : List Nat} (z1 : ZBox X g) (z2 : ZBox X h) (hne : g ≠ h)
    (L1 : OwnL X S1 [.int .i64 n, .slice A1 C1.length c1, .slice B1 M1.length d1] (encO n C1 M1)) (L2 : OwnL X S2 [.int .i64 n, .slice A2 C2.length c2, .slice B2 M2.length d2] (encO n C2 M2))
    (e1 : ∀ b ∈ S1, b ≠ g ∧ b ≠ h) (e2 : ∀ b ∈ S2, b ≠ g ∧ b ≠ h) (hg : w0.heap.size ≤ g) (hh : w0.heap.size ≤ h) (hb : Below w0.heap.size w0 X) :
    Orb2 w0 n C1 M1 C2 M2 (.pointer (some ⟨g, 0, none⟩)) (.pointer (some ⟨h, 0, none⟩)) ((((((X.setCell ⟨g, 0, none⟩ (.int .i64 n)).setCell ⟨g, 1, none⟩ (.slice A1 C1.length c1)).setCell ⟨g, 2, none⟩ (.slice B1 M1.length d1)).setCell ⟨h, 0, none⟩ (.int .i64 n)).setCell ⟨h, 1, none⟩ (.slice A2 C2.length c2)).setCell ⟨h, 2, none⟩ (.slice B2 M2.length d2)) := by
  have o1 := OrbQ.set3_only X g (.int .i64 n) (.slice A1 C1.length c1) (.slice B1 M1.length d1)
  have x1 := OrbQ.set3_box z1 (.int .i64 n) (.slice A1 C1.length c1) (.slice B1 M1.length d1)
  have y2 := z2.other hne.symm (.int .i64 n) (.slice A1 C1.length c1) (.slice B1 M1.length d1)
  have hb1 := ((hb.setCell (p := ⟨g, 0, none⟩) hg (.int .i64 n)).setCell (p := ⟨g, 1, none⟩) hg (.slice A1 C1.length c1)).setCell (p := ⟨g, 2, none⟩) hg (.slice B1 M1.length d1)
  have P1 := L1.alike (w' := ((X.setCell ⟨g, 0, none⟩ (.int .i64 n)).setCell ⟨g, 1, none⟩ (.slice A1 C1.length c1)).setCell ⟨g, 2, none⟩ (.slice B1 M1.length d1)) fun b hb' => o1.block b (L1.lt b hb') (by have := (e1 b hb').1; simpa using this)
  have P2 := L2.alike (w' := ((X.setCell ⟨g, 0, none⟩ (.int .i64 n)).setCell ⟨g, 1, none⟩ (.slice A1 C1.length c1)).setCell ⟨g, 2, none⟩ (.slice B1 M1.length d1)) fun b hb' => o1.block b (L2.lt b hb') (by have := (e2 b hb').1; simpa using this)
  clear L1 L2 o1 z1 z2 hb
  generalize ((X.setCell ⟨g, 0, none⟩ (.int .i64 n)).setCell ⟨g, 1, none⟩ (.slice A1 C1.length c1)).setCell ⟨g, 2, none⟩ (.slice B1 M1.length d1) = Y at *
  have o2 := OrbQ.set3_only Y h (.int .i64 n) (.slice A2 C2.length c2) (.slice B2 M2.length d2)
  have x2 := OrbQ.set3_box y2 (.int .i64 n) (.slice A2 C2.length c2) (.slice B2 M2.length d2)
  have hb2 := ((hb1.setCell (p := ⟨h, 0, none⟩) hh (.int .i64 n)).setCell (p := ⟨h, 1, none⟩) hh (.slice A2 C2.length c2)).setCell (p := ⟨h, 2, none⟩) hh (.slice B2 M2.length d2)
  have x3 := (o2.block g (OrbK.box_lt x1) (by simpa using hne)).trans x1
  have R1 := P1.alike (w' := ((Y.setCell ⟨h, 0, none⟩ (.int .i64 n)).setCell ⟨h, 1, none⟩ (.slice A2 C2.length c2)).setCell ⟨h, 2, none⟩ (.slice B2 M2.length d2)) fun b hb' => o2.block b (P1.lt b hb') (by have := (e1 b hb').2; simpa using this)
  have R2 := P2.alike (w' := ((Y.setCell ⟨h, 0, none⟩ (.int .i64 n)).setCell ⟨h, 1, none⟩ (.slice A2 C2.length c2)).setCell ⟨h, 2, none⟩ (.slice B2 M2.length d2)) fun b hb' => o2.block b (P2.lt b hb') (by have := (e2 b hb').2; simpa using this)
  exact ⟨g, h, A1, c1, B1, d1, A2, c2, B2, d2, rfl, rfl, x3, x2, (orb_parts R1).1, (orb_parts R1).2, (orb_parts R2).1, (orb_parts R2).2, hb2⟩
end Go.Proofs.Ytdbogjhkcnajkaa
