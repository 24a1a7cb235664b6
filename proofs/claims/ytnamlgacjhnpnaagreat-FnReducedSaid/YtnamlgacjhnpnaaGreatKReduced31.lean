/-
  SameSet: plain words and small laws; boxes for orbit sets that a drawn statement lays. What the operations on orbit sets make, told by tuples: plain words. An orbit set that often has constants that it does not need, which the model draws: contracts. The least support of an orbit set: what ReducedSet makes is told by the tuples alone. Plain words. withoutConstant of the program, as a contract. ReducedSet of the program, as a contract. SameSet of the program, as a contract.
-/
import Derived.Test.YtnamlgacjhnpnaaGreatKReduced26
import Derived.Test.YtnamlgacjhnpnaaGreatKReduced28
import Derived.Test.YtnamlgacjhnpnaaGreatKReduced19
import Derived.Test.YtnamlgacjhnpnaaGreatKReduced30
import Derived.Test.YtnamlgacjhnpnaaGreatKReduced21
import Derived.Test.YtnamlgacjhnpnaaGreatKReduced18
import Derived.Test.YtnamlgacjhnpnaaGreatKReduced29
import Derived.Test.YtnamlgacjhnpnaaGreatKReduced16
import Derived.Test.YtnamlgacjhnpnaaGreatKReduced23
import Derived.Test.YtnamlgacjhnpnaaGreatKReduced2
import Derived.Lib.SliceRun
import Derived.Deep.RegionHeld3
import Derived.Test.YtnamlgacjhnpnaaGreatKReduced15
section
namespace Go.Proofs.YtnamlgacjhnpnaaGreat
open Go.RowKit Go.Sort
set_option linter.unusedVariables false

/-- Whether two orbit sets are the same set. -/
def sameSB (z1 : Int) (l1 : List Int) (m1 : List (List Int)) (z2 : Int) (l2 : List Int) (m2 : List (List Int)) : Bool :=
  orbB z1 l1 m1 && (orbB z2 l2 m2 && (decide (z1 = z2) && (decide (redCz z1 l1 m1 = redCz z2 l2 m2) && decide (redMz z1 l1 m1 = redMz z2 l2 m2))))
theorem red_normal {z : Int} {l : List Int} {m : List (List Int)} (h : orbB z l m = true) : constB (redCz z l m) = true ∧ redMz z l m = thoseL z.toNat (redCz z l m).length (redMz z l m) := by
  have h1 := redF_inv (n := z.toNat) (m := m) (orb_const h) l.length (Nat.le_refl _)
  exact ⟨h1.1, h1.2.1⟩
/-- A box that is new. -/
def ZBox (w : World) (g : Nat) : Prop := w.heap[g]? = some (.cells #[.int .i64 0, .slice none 0 0, .slice none 0 0] 27 (0, 0))
theorem ZBox.lt {w : World} {g : Nat} (h : ZBox w g) : g < w.heap.size := OrbK.box_lt h
theorem ZBox.below {w w' : World} {g : Nat} (h : ZBox w g) (hb : Below w.heap.size w w') : ZBox w' g := (hb.block g h.lt).trans h
theorem ZBox.alloc {w : World} {g : Nat} (h : ZBox w g) (o : Obj) : ZBox (w.alloc o) g := h.below ((Below.refl _ _).alloc (Nat.le_refl _) o)
theorem ZBox.drew {w : World} {g : Nat} (h : ZBox w g) : ZBox w.drew g := h
theorem zb_new (w : World) : ZBox (w.alloc (.cells #[.int .i64 0, .slice none 0 0, .slice none 0 0] 27)) w.heap.size := heap_alloc_new w _
theorem zb_next (w : World) : ZBox ((w.alloc (.cells #[.int .i64 0, .slice none 0 0, .slice none 0 0] 27)).alloc (.cells #[.int .i64 0, .slice none 0 0, .slice none 0 0] 27)) (w.heap.size + 1) := by
  have h := zb_new (w.alloc (.cells #[.int .i64 0, .slice none 0 0, .slice none 0 0] 27))
  rwa [World.size_alloc] at h
theorem ZBox.other {w : World} {g q : Nat} (h : ZBox w g) (hne : g ≠ q) (a b c : Value) : ZBox (((w.setCell ⟨q, 0, none⟩ a).setCell ⟨q, 1, none⟩ b).setCell ⟨q, 2, none⟩ c) g :=
  ((OrbQ.set3_only w q a b c).block g h.lt (by simpa using hne)).trans h
/-- Two pointers to boxes that hold orbit sets. -/
def Orb2 (w0 : World) (n : Int) (C1 : List Int) (M1 : List (List Int)) (C2 : List Int) (M2 : List (List Int)) (s t : Value) (wx : World) : Prop :=
  ∃ g h A1 c1 B1 d1 A2 c2 B2 d2, s = .pointer (some ⟨g, 0, none⟩) ∧ t = .pointer (some ⟨h, 0, none⟩) ∧
    wx.heap[g]? = some (.cells #[.int .i64 n, .slice A1 C1.length c1, .slice B1 M1.length d1] 27 (0, 0)) ∧
    wx.heap[h]? = some (.cells #[.int .i64 n, .slice A2 C2.length c2, .slice B2 M2.length d2] 27 (0, 0)) ∧
    ConstAt wx A1 c1 C1 ∧ RowsIn wx (.slice B1 M1.length d1) M1 ∧ ConstAt wx A2 c2 C2 ∧ RowsIn wx (.slice B2 M2.length d2) M2 ∧ Below w0.heap.size w0 wx
theorem orb2_of {w0 X : World} {n : Int} {C1 C2 : List Int} {M1 M2 : List (List Int)} {g h : Nat} {A1 A2 B1 B2 : Option Addr} {c1 c2 d1 d2 : Nat} {S1 S2 : List Nat} (z1 : ZBox X g) (z2 : ZBox X h) (hne : g ≠ h)
    (L1 : OwnL X S1 [.int .i64 n, .slice A1 C1.length c1, .slice B1 M1.length d1] (encO n C1 M1)) (L2 : OwnL X S2 [.int .i64 n, .slice A2 C2.length c2, .slice B2 M2.length d2] (encO n C2 M2))
    (e1 : ∀ b ∈ S1, b ≠ g ∧ b ≠ h) (e2 : ∀ b ∈ S2, b ≠ g ∧ b ≠ h) (hg : w0.heap.size ≤ g) (hh : w0.heap.size ≤ h) (hb : Below w0.heap.size w0 X) :
    Orb2 w0 n C1 M1 C2 M2 (.pointer (some ⟨g, 0, none⟩)) (.pointer (some ⟨h, 0, none⟩)) ((((((X.setCell ⟨g, 0, none⟩ (.int .i64 n)).setCell ⟨g, 1, none⟩ (.slice A1 C1.length c1)).setCell ⟨g, 2, none⟩ (.slice B1 M1.length d1)).setCell ⟨h, 0, none⟩ (.int .i64 n)).setCell ⟨h, 1, none⟩ (.slice A2 C2.length c2)).setCell ⟨h, 2, none⟩ (.slice B2 M2.length d2)) := by
  have o1 := OrbQ.set3_only X g (.int .i64 n) (.slice A1 C1.length c1) (.slice B1 M1.length d1)
  have x1 := OrbQ.set3_box z1 (.int .i64 n) (.slice A1 C1.length c1) (.slice B1 M1.length d1)
  have y2 := z2.other hne.symm (.int .i64 n) (.slice A1 C1.length c1) (.slice B1 M1.length d1)
  have hb1 := ((hb.setCell (p := ⟨g, 0, none⟩) hg (.int .i64 n)).setCell (p := ⟨g, 1, none⟩) hg (.slice A1 C1.length c1)).setCell (p := ⟨g, 2, none⟩) hg (.slice B1 M1.length d1)
  have P1 := L1.alike (w' := ((X.setCell ⟨g, 0, none⟩ (.int .i64 n)).setCell ⟨g, 1, none⟩ (.slice A1 C1.length c1)).setCell ⟨g, 2, none⟩ (.slice B1 M1.length d1)) fun b hb' => o1.block b (L1.lt b hb') (by have := (e1 b hb').1; simpa using this)
  have P2 := L2.alike (w' := ((X.setCell ⟨g, 0, none⟩ (.int .i64 n)).setCell ⟨g, 1, none⟩ (.slice A1 C1.length c1)).setCell ⟨g, 2, none⟩ (.slice B1 M1.length d1)) fun b hb' => o1.block b (L2.lt b hb') (by have := (e2 b hb').1; simpa using this)
  clear L1 L2 o1 z1 z2 hb
  generalize ((X.setCell ⟨g, 0, none⟩ (.int .i64 n)).setCell ⟨g, 1, none⟩ (.slice A1 C1.length c1)).setCell ⟨g, 2, none⟩ (.slice B1 M1.length d1) = Y at *
  have o2 := OrbQ.set3_only Y h (.int .i64 n) (.slice A2 C2.length c2) (.slice B2 M2.length d2)
  have x2 := OrbQ.set3_box y2 (.int .i64 n) (.slice A2 C2.length c2) (.slice B2 M2.length d2)
  have hb2 := ((hb1.setCell (p := ⟨h, 0, none⟩) hh (.int .i64 n)).setCell (p := ⟨h, 1, none⟩) hh (.slice A2 C2.length c2)).setCell (p := ⟨h, 2, none⟩) hh (.slice B2 M2.length d2)
  have x3 := (o2.block g (OrbK.box_lt x1) (by simpa using hne)).trans x1
  have R1 := P1.alike (w' := ((Y.setCell ⟨h, 0, none⟩ (.int .i64 n)).setCell ⟨h, 1, none⟩ (.slice A2 C2.length c2)).setCell ⟨h, 2, none⟩ (.slice B2 M2.length d2)) fun b hb' => o2.block b (P1.lt b hb') (by have := (e1 b hb').2; simpa using this)
  have R2 := P2.alike (w' := ((Y.setCell ⟨h, 0, none⟩ (.int .i64 n)).setCell ⟨h, 1, none⟩ (.slice A2 C2.length c2)).setCell ⟨h, 2, none⟩ (.slice B2 M2.length d2)) fun b hb' => o2.block b (P2.lt b hb') (by have := (e2 b hb').2; simpa using this)
  exact ⟨g, h, A1, c1, B1, d1, A2, c2, B2, d2, rfl, rfl, x3, x2, (orb_parts R1).1, (orb_parts R1).2, (orb_parts R2).1, (orb_parts R2).2, hb2⟩
end Go.Proofs.YtnamlgacjhnpnaaGreat
end

section
namespace Go.Proofs.YtnamlgacjhnpnaaGreat
open Go.RowKit Go.Sort
set_option linter.unusedVariables false

namespace SetY
open DrawN SetX
theorem has_iff {n : Nat} {cs t : List Int} {M : List (List Int)} (hn : n ≤ 4) (hv : Valid n cs M) (ht : tupB t = true) : hasTB n cs M t = true ↔ patL cs t ∈ M := by
  rw [has_there (valid_orb hn hv) ht, there_mem]
theorem valid_filter {n : Nat} {cs : List Int} (hc : constB cs = true) (f : List Int → Bool) : Valid n cs ((allP n cs.length).filter f) := ⟨hc, normal_filter n cs.length f⟩
theorem tup_len {t : List Int} (h : tupB t = true) : t.length ≤ 4 := by
  unfold tupB at h
  simp only [Bool.and_eq_true, decide_eq_true_eq] at h
  exact h.1
theorem tup_atom {t : List Int} (h : tupB t = true) : ∀ a ∈ t, 0 ≤ a ∧ a ≤ 999 := fun a ha => by
  unfold tupB atomsB at h
  simp only [Bool.and_eq_true, List.all_eq_true] at h
  have := h.2 a ha
  unfold atomB at this
  simpa using this
theorem tup_of {t : List Int} (h : t.length ≤ 4) (ha : ∀ a ∈ t, 0 ≤ a ∧ a ≤ 999) : tupB t = true := by
  rw [tupB_is h]
  unfold atomsB
  rw [List.all_eq_true]
  intro x hx
  have := ha x hx
  unfold atomB
  simpa using this
/-- Two sets told by the same constants that have the same tuples are the same. -/
theorem ext_eq {n : Nat} {cs : List Int} {M N : List (List Int)} (hn : n ≤ 4) (hM : Valid n cs M) (hN : Valid n cs N) (h : ∀ t : List Int, t.length = n → tupB t = true → hasTB n cs M t = hasTB n cs N t) : M = N := by
  refine hM.2.trans (Eq.trans ?_ hN.2.symm)
  unfold thoseL
  refine List.filter_congr fun p hp => ?_
  have h1 := ex_tup hn hM.1 hp
  have h2 := pat_exL (const_nodup hM.1) (const_len hM.1) hn hp
  have h3 := h _ (by rw [exL_len]; exact ((mem_allP (by omega)).1 hp).1) h1
  rw [has_there (valid_orb hn hM) h1, has_there (valid_orb hn hN) h1, h2] at h3
  exact h3
theorem pat_fine {cs l t : List Int} (hn : t.length ≤ 4) (hc : constB cs = true) (hs : ∀ c ∈ l, c ∈ cs) : patL l (exL (numL cs 4) (patL cs t)) = patL l t := pat_of_sim ((Sim.ex (const_nodup hc) (const_len hc) hn).mono hs)
theorem mem_ext {n : Nat} {l cs : List Int} {m : List (List Int)} {t : List Int} (hn : n ≤ 4) (hc : constB cs = true) (hs : ∀ c ∈ l, c ∈ cs) (ht : t.length = n) : patL cs t ∈ extL n l m cs ↔ patL l t ∈ m := by
  unfold extL
  rw [List.mem_filter]
  unfold extG extQ
  rw [pat_fine (by omega) hc hs, there_mem]
  exact ⟨fun h => h.2, fun h => ⟨patL_mem ht, h⟩⟩
theorem valid_ext {n : Nat} {l cs : List Int} {m : List (List Int)} (hc : constB cs = true) : Valid n cs (extL n l m cs) := valid_filter hc _
theorem has_ext {n : Nat} {l cs : List Int} {m : List (List Int)} {t : List Int} (hn : n ≤ 4) (hc : constB cs = true) (ho : orbB n l m = true) (hs : ∀ c ∈ l, c ∈ cs) (ht : t.length = n) (hb : tupB t = true) : hasTB n cs (extL n l m cs) t = hasTB n l m t := by
  rw [Bool.eq_iff_iff, has_iff hn (valid_ext hc) hb, mem_ext hn hc hs ht, has_there ho hb, there_mem]
theorem mem_bothC {l1 l2 : List Int} (h : AscP l1) {a : Int} : a ∈ bothC l1 l2 ↔ a ∈ l1 ∨ a ∈ l2 := by
  unfold bothC
  rw [unB_asc l2 l1 h, mem_insAll]
theorem const_both {l1 l2 : List Int} (h1 : constB l1 = true) (h2 : constB l2 = true) (h : l1.length + l2.length ≤ 3) : constB (bothC l1 l2) = true := by
  have h3 : ascB (bothC l1 l2) = true := ascB_of (by unfold bothC; rw [unB_asc l2 l1 (const_asc h1)]; exact asc_insAll _ _ (const_asc h1))
  have h4 : atomsB (bothC l1 l2) = true := by
    unfold atomsB
    rw [List.all_eq_true]
    intro x hx
    rcases (mem_bothC (const_asc h1)).1 hx with h | h
    · exact atoms_of h1 x h
    · exact atoms_of h2 x h
  have h5 : (bothC l1 l2).length ≤ 3 := by
    have := unB_len l1 l2
    unfold bothC
    omega
  unfold constB
  rw [h3, h4]
  simpa using h5
theorem ex_it {V p : List Int} {j : Nat} (h : j < p.length) : itAt (exL V p) j = itAt V (itAt p j).toNat := by
  unfold exL
  exact itAt_map h
theorem Sim.places {cs t u ps : List Int} (h : Sim cs t u) (hp : ∀ j, j < ps.length → (itAt ps j).toNat < t.length) : Sim cs (exL t ps) (exL u ps) := by
  have hl := h.1
  refine ⟨by rw [exL_len, exL_len], fun i j hi hj => ?_, fun i hi c hc => ?_⟩
  · rw [exL_len] at hi hj
    rw [ex_it hi, ex_it hj, ex_it hi, ex_it hj]
    exact h.2.1 _ _ (hp i hi) (hp j hj)
  · rw [exL_len] at hi
    rw [ex_it hi, ex_it hi]
    exact h.2.2 _ (hp i hi) c hc
theorem valid_ac {p : List (Int × Int)} {n : Nat} {l : List Int} {m : List (List Int)} (hp : IsP p) (h : constB l = true) : Valid n (acC p l) (acM p n l m) := valid_filter (acC_const hp h) _
theorem bks_ims {p : List (Int × Int)} (hp : IsP p) (t : List Int) : bksL p (imsL p t) = t := by
  unfold bksL imsL
  rw [List.map_map]
  exact (List.map_congr_left fun a _ => back_img hp a).trans (List.map_id' t)
theorem tup_ims {p : List (Int × Int)} (hp : IsP p) {t : List Int} (h : tupB t = true) : tupB (imsL p t) = true := by
  refine tup_of (by rw [imsL_len]; exact tup_len h) fun a ha => ?_
  unfold imsL at ha
  obtain ⟨x, hx, rfl⟩ := List.mem_map.1 ha
  exact hp.atom (tup_atom h x hx)
end SetY
end Go.Proofs.YtnamlgacjhnpnaaGreat
end

section
namespace Go.Proofs.YtnamlgacjhnpnaaGreat
open Go.RowKit Go.Sort
set_option linter.unusedVariables false

set_option maxRecDepth 100000 in
set_option maxHeartbeats 8000000 in
theorem l6Slack_any (B C : Nat) (w : World) (hc : Cur w B C) :
    Calls Tryz.prog 50 #[.pointer (some ⟨C, 0, none⟩)] w (DrawN.AnySet B C w) := by
  have hC := hc.lt
  have hr0 := heap_alloc_new w (.cells #[.int .i64 0, .slice none 0 0, .slice none 0 0] 27)
  have hd0 : Drew B C w (w.alloc (.cells #[.int .i64 0, .slice none 0 0, .slice none 0 0] 27)) := (Drew.of hc).alloc _
  have hz0 : (w.alloc (.cells #[.int .i64 0, .slice none 0 0, .slice none 0 0] 27)).heap.size = w.heap.size + 1 := by simp
  have hbl := l1Below_int B C 3 _ hd0.1 (by omega) (by omega)
  have HR0 := Lib.hid hr0
  have HZ0 := Lib.hid hz0
  clear hc hr0 hz0
  go_enter Tryz.func50, Tryz.ntmps50
  go_wp2_with fail
  refine hbl.mono ?_
  rintro e w1 ⟨x, hx, rfl, hd1⟩
  have hs1 : w.heap.size + 1 ≤ w1.heap.size := by have := hd1.2.size; rw [HZ0.out] at this; exact this
  have r1 := ((DrawN.drew_only hd1).block w.heap.size (by rw [HZ0.out]; omega) (by simp; omega)).trans HR0.out
  have hdr := l6Draw_any B C x (by omega) 1 (by omega) w1 hd1.1
  have hD1 := hd0.trans hd1
  clear hbl hd0 hd1 HR0 HZ0
  go_wp2_with fail
  refine hdr.mono ?_
  rintro e w2 ⟨cs, M, A1, c1, A2, c2, S, rfl, hl, hasc, hsm, hn, hL, hS, hd2⟩
  obtain ⟨S1, S2, hO1, hO2, hdj, hi1, hi2⟩ := DrawN.orb_split hL
  have hb1 : ∀ b ∈ S1, w.heap.size + 1 ≤ b := fun b hb => Nat.le_trans hs1 (hS b (hi1 b hb))
  have hb2 : ∀ b ∈ S2, w.heap.size + 1 ≤ b := fun b hb => Nat.le_trans hs1 (hS b (hi2 b hb))
  have hs2 := hd2.2.size
  have r2 := ((DrawN.drew_only hd2).block w.heap.size (by omega) (by simp; omega)).trans r1
  have hD2 := hD1.trans hd2
  have hcb : constB cs = true := DrawN.drawn_const (by omega) hasc hsm
  have hfit : M.length + sumR M ≤ 32768 := normal_fit (k := (cs.length : Int)) (by omega) (by omega) (by omega) hn
  have hbx : Below w2.heap.size w2 (w2.alloc (.cells #[.int .i64 (x : Int), .slice A1 cs.length c1, .slice A2 M.length c2] 27)) := (Below.refl _ _).alloc (Nat.le_refl _) _
  have k3 : (w2.alloc (.cells #[.int .i64 (x : Int), .slice A1 cs.length c1, .slice A2 M.length c2] 27)).heap[w2.heap.size]? = some (.cells #[.int .i64 (x : Int), .slice A1 cs.length c1, .slice A2 M.length c2] 27 (0, 0)) := heap_alloc_new w2 _
  have hD3 := DrawN.below_drew hC hD2 hbx
  have hP1 := hO1.keep hbx
  have hP2 := hO2.keep hbx
  have r3 := (hbx.block w.heap.size (by omega)).trans r2
  have hz3 : (w2.alloc (.cells #[.int .i64 (x : Int), .slice A1 cs.length c1, .slice A2 M.length c2] 27)).heap.size = w2.heap.size + 1 := by simp
  have hon := l1Once_any B C 4 (w2.alloc (.cells #[.int .i64 (x : Int), .slice A1 cs.length c1, .slice A2 M.length c2] 27)) hD3.1 (by omega) (by omega)
  have HK3 := Lib.hid k3
  have HR3 := Lib.hid r3
  have HP1 := Lib.hid hP1
  have HP2 := Lib.hid hP2
  have HD3 := Lib.hid hD3
  have HZ3 := Lib.hid hz3
  have HB1 := Lib.hid hb1
  have HB2 := Lib.hid hb2
  have HCB := Lib.hid hcb
  clear hdr hL hS hd2 hO1 hO2 hi1 hi2 hb1 hb2 r1 r2 hD1 hD2 hbx k3 hD3 hP1 hP2 r3 hz3 hn hdj hcb hasc hsm
  go_wp2_with fail
  refine hon.mono ?_
  rintro e w3 ⟨b, rfl, hd3⟩
  have on3 := DrawN.drew_only hd3
  have K := Lib.hid ((on3.block w2.heap.size (by rw [HZ3.out]; omega) (by simp; omega)).trans HK3.out)
  have R := Lib.hid ((on3.block w.heap.size (OrbK.box_lt HR3.out) (by simp; omega)).trans HR3.out)
  have O1 := Lib.hid (HP1.out.alike (w' := w3) fun b hb => on3.block b (HP1.out.lt b hb) (by have := HB1.out b hb; simp; omega))
  have O2 := Lib.hid (HP2.out.alike (w' := w3) fun b hb => on3.block b (HP2.out.lt b hb) (by have := HB2.out b hb; simp; omega))
  have HD := Lib.hid (HD3.out.trans hd3)
  have hs3 : w2.heap.size + 1 ≤ w3.heap.size := by have := hd3.2.size; rw [HZ3.out] at this; exact this
  have hne : ¬ w.heap.size = w2.heap.size := by omega
  have hne2 : ¬ w2.heap.size = w.heap.size := by omega
  have HGR : Hid (w.heap.size + 1 ≤ w2.heap.size ∧ C < w.heap.size) := Lib.hid ⟨by omega, hC⟩
  clear hon hd3 on3 HK3 HR3 HP1 HP2 HD3 HZ3 hs1 hs2
  cases b with
  | true =>
    have hany := l6Any_any B C w3 HD.out.1
    go_wp2_with fail
    refine hany.mono ?_
    rintro e w4 ⟨z, l, m, A3, c3, A4, c4, T1, T2, rfl, hl4, hm4, hQ1, hQ2, hb3, hb4, hd4⟩
    have on4 := DrawN.drew_only hd4
    have hgr := HGR.out
    have R4 := (on4.block w.heap.size (OrbK.box_lt R.out) (by simp; omega)).trans R.out
    obtain ⟨s0, s1, s2⟩ := OrbK.row3 R4
    obtain ⟨y0, y1, y2⟩ := z3At R4
    have hpost := Lib.hid (DrawN.any_done (r := w.heap.size) (z := z) (l := l) (m := m) hC rfl rfl hl4 hm4 hQ1 hQ2 (fun b hb => by have := hb3 b hb; omega) (fun b hb => by have := hb4 b hb; omega) (HD.out.trans hd4) rfl)
    clear hany hQ1 hQ2 hb3 hb4 hd4 on4 R4 hgr hl4 hm4
    go_wp2
    exact bodyPost_ret (v := .agg #[.int .i64 z, .slice A3 l.length c3, .slice A4 m.length c4]) (by simp [results, Tryz.results50, go_sem, s0, s1, s2]) rfl hpost.out
  | false =>
    have hgr := HGR.out
    have hdw : Below w3.heap.size w3 w3.drew := ⟨rfl, rfl, rfl, Nat.le_refl _, fun _ _ => rfl⟩
    have hDd := DrawN.below_drew hC HD.out hdw
    have hfw := l6Few_any B C 2 w3.drew hDd.1 (by omega)
    rw [show ((2 : Nat) : Int) = 2 from rfl] at hfw
    have HK : Hid (∀ W : World, Only [C] w3 W → (W.cell? ⟨w2.heap.size, 0, none⟩ = some (.int .i64 (x : Int)) ∧ W.cell? ⟨w2.heap.size, 1, none⟩ = some (.slice A1 cs.length c1) ∧ W.cell? ⟨w2.heap.size, 2, none⟩ = some (.slice A2 M.length c2)) ∧ Own W S1 (.slice A1 cs.length c1) (intMem cs) ∧ Own W S2 (.slice A2 M.length c2) (rowsMem M)) := Lib.hid (fun W on => ⟨OrbK.row3 ((on.block w2.heap.size (OrbK.box_lt K.out) (by have := HGR.out; simp; omega)).trans K.out), O1.out.alike fun b hb => on.block b (O1.out.lt b hb) (by have := HB1.out b hb; simp; omega), O2.out.alike fun b hb => on.block b (O2.out.lt b hb) (by have := HB2.out b hb; simp; omega)⟩)
    have od : Only [C] w3 w3.drew := DrawN.only_below _ hdw
    obtain ⟨⟨f0, f1, f2⟩, _⟩ := HK.out w3.drew od
    have HDD := Lib.hid hDd
    clear hDd hdw
    go_wp2
    go_region_held3 (fun w' => w'.cell? ⟨w2.heap.size, 0, none⟩ = some (.int .i64 (x : Int)) ∧ w'.cell? ⟨w2.heap.size, 1, none⟩ = some (.slice A1 cs.length c1) ∧ w'.cell? ⟨w2.heap.size, 2, none⟩ = some (.slice A2 M.length c2))
      (first | (with_reducible exact ⟨by assumption, by assumption, by assumption⟩) | (with_reducible exact ⟨OrbQ.set3_keep (by assumption) (by assumption), OrbQ.set3_keep (by assumption) (by assumption), OrbQ.set3_keep (by assumption) (by assumption)⟩) | go_keep)
      (first
      | (go_at_call 71; (with_reducible refine hfw.mono ?_); rintro e w4 ⟨ds, g1, p1, rfl, ⟨hdl, hda, hds⟩, ho, hd4⟩; have on4 := od.trans (DrawN.drew_only hd4); obtain ⟨⟨g0, g1c, g2c⟩, h41, h42⟩ := HK.out w4 on4; have hD4 := HDD.out.trans hd4; obtain ⟨A9, c9, e9, hin9⟩ := own_intsAt ho; simp only [Value.slice.injEq, true_and] at e9; obtain ⟨rfl, rfl⟩ := e9; obtain ⟨A8, c8, e8, hc8⟩ := own_intSlice h41; simp only [Value.slice.injEq, true_and] at e8; obtain ⟨rfl, rfl⟩ := e8; have hua := l6Union_all A1 (some ⟨g1, 0, none⟩) c1 p1 cs ds w4 hc8.1 hc8.2 hin9 (by omega) (by omega); have hcn : constB (unB cs ds) = true := SetY.const_both HCB.out (DrawN.drawn_const (by omega) hda hds) (by omega))
      | (go_at_call 91; (with_reducible refine hua.mono ?_); rintro e w5 ⟨gU, capU, rfl, hoU, hb5⟩; have on5 := on4.trans (DrawN.only_below _ hb5); obtain ⟨⟨x0, x1, x2⟩, h51, h52⟩ := HK.out w5 on5; have hD5 := DrawN.below_drew hC hD4 hb5; obtain ⟨A7, c7, e7, hin7⟩ := own_intsAt hoU; simp only [Value.slice.injEq, true_and] at e7; obtain ⟨rfl, rfl⟩ := e7; obtain ⟨A6, c6, e6, hc6⟩ := own_intSlice h51; simp only [Value.slice.injEq, true_and] at e6; obtain ⟨rfl, rfl⟩ := e6; have hex := l6Extend_any x (by omega) cs (by omega) (const_nodup HCB.out) M (fitR_of (by omega)) (unB cs ds) (const_len hcn) A1 A2 (some ⟨gU, 0, none⟩) c1 c2 capU w5 hc6 h52.at_ ⟨hin7, fun h => by cases h⟩)
      | (go_at_call 90; (with_reducible refine hex.mono ?_); rintro e w6 ⟨A3, c3, A4, c4, S6, rfl, hL6, hS6, hb6⟩; have on6 := on5.trans (DrawN.only_below _ hb6); have R6 := (on6.block w.heap.size (OrbK.box_lt R.out) (by simp; omega)).trans R.out; obtain ⟨s0, s1, s2⟩ := OrbK.row3 R6; obtain ⟨y0, y1, y2⟩ := z3At R6; obtain ⟨⟨v0, v1, v2⟩, _⟩ := HK.out w6 on6)
      | fail)
    obtain ⟨T1, T2, hQ1, hQ2, _, hi1, hi2⟩ := DrawN.orb_split hL6
    have hD6 := DrawN.below_drew hC hD5 hb6
    have hs5 := hb5.size
    have hs4 : w3.heap.size ≤ w4.heap.size := on4.size
    have hfx := SetX.valid_fit (by omega) (SetY.valid_ext (n := x) (l := cs) (m := M) hcn)
    have hl6 := const_len hcn
    have hpost := Lib.hid (DrawN.any_done (r := w.heap.size) (z := (x : Int)) hC rfl rfl hl6 (by omega) hQ1 hQ2 (fun b hb => by have := hS6 b (hi1 b hb); omega) (fun b hb => by have := hS6 b (hi2 b hb); omega) hD6 rfl)
    (try go_wp2)
    exact bodyPost_ret (v := .agg #[.int .i64 (x : Int), .slice A3 (unB cs ds).length c3, .slice A4 (extL x cs M (unB cs ds)).length c4]) (by simp [results, Tryz.results50, go_sem, s0, s1, s2]) rfl hpost.out

namespace DrawN
/-- A drawn orbit set: nothing else. -/
def OneSet (w : World) (e : Ending) (w' : World) : Prop :=
  ∃ (z : Int) (l : List Int) (m : List (List Int)) (A1 : Option Addr) (c1 : Nat) (A2 : Option Addr) (c2 : Nat),
    e = .returned (.agg #[.int .i64 z, .slice A1 l.length c1, .slice A2 m.length c2]) ∧ l.length ≤ 3 ∧ m.length + sumR m ≤ 40000 ∧
    OrbIx w' (.agg #[.int .i64 z, .slice A1 l.length c1, .slice A2 m.length c2]) z l m ∧ Below w.heap.size w w'
end DrawN

set_option maxRecDepth 100000 in
set_option maxHeartbeats 4000000 in
theorem drawReducedSet_any (A : Option Addr) (n c : Nat) (w : World) (hA : BytesIn w A n) (hn : n ≤ 1048576) :
    Calls Tryz.prog 16 #[.slice A n c] w (DrawN.OneSet w) := by
  have hbz0 : Below w.heap.size w (w.alloc (.cells #[.int .i64 0, .slice none 0 0, .slice none 0 0] 27)) := (Below.refl _ _).alloc (Nat.le_refl _) _
  have hr0 := heap_alloc_new w (.cells #[.int .i64 0, .slice none 0 0, .slice none 0 0] 27)
  have hz0 : (w.alloc (.cells #[.int .i64 0, .slice none 0 0, .slice none 0 0] 27)).heap.size = w.heap.size + 1 := by simp
  have hnew := l1New_any A n c (w.alloc (.cells #[.int .i64 0, .slice none 0 0, .slice none 0 0] 27)) (DrawN.bytes_more hA hbz0) hn
  have HR0 := Lib.hid hr0
  have HZ0 := Lib.hid hz0
  have HB0 := Lib.hid hbz0
  clear hA hbz0 hr0 hz0
  go_enter Tryz.func16, Tryz.ntmps16
  go_wp2_with fail
  refine hnew.mono ?_
  rintro e w1 ⟨C, rfl, hc1, hb1⟩
  have hBC := DrawN.cur_base hc1
  rw [HZ0.out] at hc1 hBC
  have hC1 := hc1.lt
  have r1 := (hb1.block w.heap.size (by rw [HZ0.out]; omega)).trans HR0.out
  have hbz1 := HB0.out.trans (hb1.mono HB0.out.size)
  have hsl := l6Slack_any (w.heap.size + 1) C w1 hc1
  clear hnew hb1 HR0 HZ0 HB0
  go_wp2_with fail
  refine hsl.mono ?_
  rintro e w2 ⟨z, l, m, A1, c1, A2, c2, S1, S2, rfl, hl, hm, hO1, hO2, hb1, hb2, hd2⟩
  have on2 := DrawN.drew_only hd2
  have r2 := (on2.block w.heap.size (by omega) (by simp; omega)).trans r1
  have hbz2 := hbz1.grown hd2.2 hbz1.size (fun q e9 => by injection e9 with e9; omega)
  have onS : Only [w.heap.size] w2 (((w2.setCell ⟨w.heap.size, 0, none⟩ (.int .i64 z)).setCell ⟨w.heap.size, 1, none⟩ (.slice A1 l.length c1)).setCell ⟨w.heap.size, 2, none⟩ (.slice A2 m.length c2)) := OrbQ.set3_only _ _ _ _ _
  have q1 := hO1.alike (w' := (((w2.setCell ⟨w.heap.size, 0, none⟩ (.int .i64 z)).setCell ⟨w.heap.size, 1, none⟩ (.slice A1 l.length c1)).setCell ⟨w.heap.size, 2, none⟩ (.slice A2 m.length c2))) fun b hb => onS.block b (hO1.lt b hb) (by have := hb1 b hb; simp; omega)
  have q2 := hO2.alike (w' := (((w2.setCell ⟨w.heap.size, 0, none⟩ (.int .i64 z)).setCell ⟨w.heap.size, 1, none⟩ (.slice A1 l.length c1)).setCell ⟨w.heap.size, 2, none⟩ (.slice A2 m.length c2))) fun b hb => onS.block b (hO2.lt b hb) (by have := hb2 b hb; simp; omega)
  have hbF := Only.below hbz2 onS hbz2.size (fun b hb => by simp at hb; omega)
  have hpost : Hid (DrawN.OneSet w (.returned (.agg #[.int .i64 z, .slice A1 l.length c1, .slice A2 m.length c2])) (((w2.setCell ⟨w.heap.size, 0, none⟩ (.int .i64 z)).setCell ⟨w.heap.size, 1, none⟩ (.slice A1 l.length c1)).setCell ⟨w.heap.size, 2, none⟩ (.slice A2 m.length c2))) := Lib.hid ⟨z, l, m, A1, c1, A2, c2, rfl, hl, hm, DrawN.own_orbIx q1 q2, hbF⟩
  obtain ⟨s0, s1, s2⟩ := OrbK.row3 r2
  obtain ⟨y0, y1, y2⟩ := z3At r2
  clear hsl hO1 hO2 hb1 hb2 hd2 on2 r2 hbz2 onS q1 q2 hbF r1 hbz1
  go_wp2
  exact bodyPost_ret (v := .agg #[.int .i64 z, .slice A1 l.length c1, .slice A2 m.length c2]) (by simp [results, Tryz.results16, go_sem, s0, s1, s2]) rfl hpost.out
end Go.Proofs.YtnamlgacjhnpnaaGreat
end

section
namespace Go.Proofs.YtnamlgacjhnpnaaGreat
open Go.RowKit Go.Sort
set_option linter.unusedVariables false

namespace SetR
open DrawN SetX SetY
/-- A set of tuples is supported by a list of atoms. -/
def Supp (S : List Int → Bool) (n : Nat) (C : List Int) : Prop := ∀ t u : List Int, t.length = n → tupB t = true → tupB u = true → Sim C t u → S t = S u
theorem Supp.mono {S : List Int → Bool} {n : Nat} {C D : List Int} (h : Supp S n C) (hs : ∀ c ∈ C, c ∈ D) : Supp S n D := fun t u h1 h2 h3 h4 => h t u h1 h2 h3 (h4.mono hs)
theorem supp_valid {n : Nat} {cs : List Int} {M : List (List Int)} (hn : n ≤ 4) (hv : Valid n cs M) : Supp (hasTB n cs M) n cs := fun t u h1 h2 h3 h4 => by
  rw [Bool.eq_iff_iff, has_iff hn hv h2, has_iff hn hv h3, pat_of_sim h4]
/-- Two atoms exchanged. -/
def swp (c e : Int) (a : Int) : Int := if a = c then e else if a = e then c else a
theorem swp_swp (c e a : Int) : swp c e (swp c e a) = a := by
  unfold swp
  by_cases h1 : a = c
  · subst h1
    by_cases h2 : e = a
    · simp [h2]
    · simp [h2]
  · by_cases h2 : a = e
    · simp [h2]
    · simp [h1, h2]
theorem swp_out {c e a : Int} (h1 : a ≠ c) (h2 : a ≠ e) : swp c e a = a := by simp [swp, h1, h2]
theorem swp_iff {c e a d : Int} (h1 : d ≠ c) (h2 : d ≠ e) : swp c e a = d ↔ a = d := ⟨fun h => by rw [← swp_swp c e a, h, swp_out h1 h2], fun h => by rw [h, swp_out h1 h2]⟩
theorem swp_inj {c e a b : Int} : swp c e a = swp c e b ↔ a = b := ⟨fun h => by rw [← swp_swp c e a, h, swp_swp], fun h => by rw [h]⟩
theorem tup_swp {c e : Int} {t : List Int} (hc : 0 ≤ c ∧ c ≤ 999) (he : 0 ≤ e ∧ e ≤ 999) (h : tupB t = true) : tupB (t.map (swp c e)) = true := by
  refine tup_of (by rw [List.length_map]; exact tup_len h) fun a ha => ?_
  obtain ⟨x, hx, rfl⟩ := List.mem_map.1 ha
  have h1 := tup_atom h x hx
  unfold swp
  split
  · exact he
  · split
    · exact hc
    · exact h1
theorem sim_swp {C : List Int} {c e : Int} (t : List Int) (hc : c ∉ C) (he : e ∉ C) : Sim C t (t.map (swp c e)) := by
  refine ⟨by rw [List.length_map], fun i j hi hj => ?_, fun i hi d hd => ?_⟩
  · rw [itAt_map hi, itAt_map hj, swp_inj]
  · rw [itAt_map hi, swp_iff (fun h => hc (by rw [← h]; exact hd)) (fun h => he (by rw [← h]; exact hd))]
/-- What is supported by two lists is supported by the first without what the second has not. -/
theorem Supp.less {S : List Int → Bool} {n : Nat} {C D : List Int} (hC : Supp S n C) (hD : Supp S n D) (hn : n ≤ 4) {c : Int} (hc : c ∉ D) (ha : 0 ≤ c ∧ c ≤ 999) (lC : C.length ≤ 100) (lD : D.length ≤ 100) : Supp S n (restL C c) := by
  intro t u ht hb hb2 hsim
  have hul := hsim.1
  have hfr : leastF (C ++ (D ++ (t ++ u))) ∉ C ++ (D ++ (t ++ u)) := leastF_new (by simp only [List.length_append]; omega)
  have hat : atomB (leastF (C ++ (D ++ (t ++ u)))) = true := leastF_atom (by simp only [List.length_append]; omega)
  generalize leastF (C ++ (D ++ (t ++ u))) = e at hfr hat
  simp only [List.mem_append, not_or] at hfr
  obtain ⟨f1, f2, f3, f4⟩ := hfr
  have he : 0 ≤ e ∧ e ≤ 999 := by unfold atomB at hat; simpa using hat
  have e1 : S t = S (t.map (swp c e)) := hD _ _ ht hb (tup_swp ha he hb) (sim_swp t hc f2)
  have e2 : S u = S (u.map (swp c e)) := hD _ _ (by omega) hb2 (tup_swp ha he hb2) (sim_swp u hc f2)
  have e3 : S (t.map (swp c e)) = S (u.map (swp c e)) := by
    refine hC _ _ (by rw [List.length_map]; exact ht) (tup_swp ha he hb) (tup_swp ha he hb2) ⟨by rw [List.length_map, List.length_map]; exact hul, fun i j hi hj => ?_, fun i hi d hd => ?_⟩
    · rw [List.length_map] at hi hj
      rw [itAt_map hi, itAt_map hj, itAt_map (by omega), itAt_map (by omega), swp_inj, swp_inj]
      exact hsim.2.1 i j hi hj
    · rw [List.length_map] at hi
      rw [itAt_map hi, itAt_map (by omega)]
      have hne : d ≠ e := fun h => f1 (h ▸ hd)
      by_cases hdc : d = c
      · subst hdc
        have q1 : itAt t i ≠ e := fun h => f3 (by rw [← h, itAt_get _ _ hi]; exact List.getElem_mem _)
        have q2 : itAt u i ≠ e := fun h => f4 (by rw [← h, itAt_get _ _ (by omega)]; exact List.getElem_mem _)
        have q3 : ∀ a : Int, a ≠ e → swp d e a ≠ d := fun a h h2 => h (by
          rw [← swp_swp d e a, h2]
          simp [swp])
        exact ⟨fun h => absurd h (q3 _ q1), fun h => absurd h (q3 _ q2)⟩
      · rw [swp_iff hdc hne, swp_iff hdc hne]
        exact hsim.2.2 i hi d (List.mem_filter.2 ⟨hd, by simpa using hdc⟩)
  rw [e1, e2, e3]

theorem mem_few {n : Nat} {cs : List Int} {M : List (List Int)} {c : Int} {t : List Int} (ht : t.length = n) : patL (restL cs c) t ∈ fewM n cs M c ↔ ∃ p ∈ M, Sim (restL cs c) (exL (numL cs 4) p) t := by
  unfold fewM
  rw [mem_thoseL]
  unfold patsL exsL
  rw [List.map_map]
  constructor
  · rintro ⟨_, h⟩
    obtain ⟨p, hp, e⟩ := List.mem_map.1 h
    exact ⟨p, hp, sim_of_pat e⟩
  · rintro ⟨p, hp, e⟩
    exact ⟨patL_mem ht, List.mem_map.2 ⟨p, hp, pat_of_sim e⟩⟩
theorem valid_few {n : Nat} {cs : List Int} {M : List (List Int)} (c : Int) (hc : constB cs = true) : Valid n (restL cs c) (fewM n cs M c) := ⟨restL_const c hc, normal_few n cs M c⟩
theorem keep_has {n : Nat} {cs : List Int} {M : List (List Int)} {c : Int} (hn : n ≤ 4) (hv : Valid n cs M) (h : keepB n cs M c = true) {t : List Int} (ht : t.length = n) (hb : tupB t = true) : hasTB n (restL cs c) (fewM n cs M c) t = hasTB n cs M t := by
  have h1 : extL n (restL cs c) (fewM n cs M c) cs = M := of_decide_eq_true h
  rw [← has_ext hn hv.1 (valid_orb hn (valid_few c hv.1)) (restL_sub cs c) ht hb, h1]
theorem keep_supp {n : Nat} {cs : List Int} {M : List (List Int)} {c : Int} (hn : n ≤ 4) (hv : Valid n cs M) (h : Supp (hasTB n cs M) n (restL cs c)) : keepB n cs M c = true := by
  unfold keepB
  refine decide_eq_true (ext_eq hn (valid_ext hv.1) hv fun t ht hb => ?_)
  have vf := valid_few (n := n) (M := M) c hv.1
  rw [has_ext hn hv.1 (valid_orb hn vf) (restL_sub cs c) ht hb, Bool.eq_iff_iff, has_iff hn vf hb, mem_few ht]
  constructor
  · rintro ⟨p, hp, hs⟩
    rw [← h _ _ (by rw [hs.1]; exact ht) (ex_tup hn hv.1 (valid_mem hv p hp)) hb hs]
    exact ex_has hn hv hp
  · intro hm
    exact ⟨_, (has_iff hn hv hb).1 hm, (Sim.ex (const_nodup hv.1) (const_len hv.1) (by omega)).mono (restL_sub cs c)⟩
/-- What holds after the first constants have been tried. -/
structure Inv (n : Nat) (l : List Int) (S : List Int → Bool) (s : List Int × List (List Int)) (k : Nat) : Prop where
  val : Valid n s.1 s.2
  sub : ∀ c ∈ s.1, c ∈ l
  has : ∀ t : List Int, t.length = n → tupB t = true → hasTB n s.1 s.2 t = S t
  least : ∀ j, j < k → itAt l j ∈ s.1 → ¬ Supp S n (restL s.1 (itAt l j))
theorem supp_congr {S T : List Int → Bool} {n : Nat} {C : List Int} (h : ∀ t : List Int, t.length = n → tupB t = true → S t = T t) (hs : Supp S n C) : Supp T n C := fun t u h1 h2 h3 h4 => by
  rw [← h t h1 h2, ← h u (by rw [← h4.1]; exact h1) h3]
  exact hs t u h1 h2 h3 h4
theorem rest_mono {C D : List Int} (h : ∀ c ∈ C, c ∈ D) (x : Int) : ∀ c ∈ restL C x, c ∈ restL D x := fun c hc => by
  unfold restL at hc ⊢
  rw [List.mem_filter] at hc ⊢
  exact ⟨h c hc.1, hc.2⟩
theorem inv_step {n : Nat} {l : List Int} {S : List Int → Bool} {s : List Int × List (List Int)} {k : Nat} (hn : n ≤ 4) (h : Inv n l S s k) : Inv n l S (redS n s (itAt l k)) (k + 1) := by
  unfold redS
  by_cases hb : keepB n s.1 s.2 (itAt l k) = true
  · rw [if_pos hb]
    refine ⟨valid_few _ h.val.1, fun c hc => h.sub c (restL_sub _ _ c hc), fun t ht htb => ?_, fun j hj hm hs => ?_⟩
    · exact (keep_has hn h.val hb ht htb).trans (h.has t ht htb)
    · by_cases e : j = k
      · subst e
        exact restL_out _ _ hm
      · exact h.least j (by omega) (restL_sub _ _ _ hm) (hs.mono (rest_mono (restL_sub _ _) _))
  · rw [if_neg hb]
    refine ⟨h.val, h.sub, h.has, fun j hj hm hs => ?_⟩
    by_cases e : j = k
    · subst e
      exact hb (keep_supp hn h.val (supp_congr (fun t h1 h2 => (h.has t h1 h2).symm) hs))
    · exact h.least j (by omega) hm hs
theorem inv_to {n : Nat} {l : List Int} {m : List (List Int)} {S : List Int → Bool} (hn : n ≤ 4) (hl : constB l = true) (h0 : ∀ t : List Int, t.length = n → tupB t = true → hasTB n l (thoseL n l.length m) t = S t) : ∀ k, k ≤ l.length → Inv n l S (redF n l m k) k
  | 0, _ => ⟨valid_filter hl _, fun c h => h, h0, fun j hj => by omega⟩
  | k + 1, hk => by
    rw [redF_next (by omega)]
    exact inv_step hn (inv_to hn hl h0 k (by omega))
theorem those_has {n : Nat} {l : List Int} {m : List (List Int)} (hn : n ≤ 4) (ho : orbB n l m = true) {t : List Int} (ht : t.length = n) (hb : tupB t = true) : hasTB n l (thoseL n l.length m) t = hasTB n l m t := by
  rw [Bool.eq_iff_iff, has_iff hn (show Valid n l (thoseL n l.length m) from valid_filter (orb_const ho) _) hb, has_there ho hb, there_mem]
  exact ⟨fun h => (mem_thoseL.1 h).2, fun h => mem_thoseL.2 ⟨patL_mem ht, h⟩⟩
/-- What a reduced set is. -/
structure Red (n : Nat) (l : List Int) (m : List (List Int)) : Prop where
  val : Valid n (redC n l m) (redM n l m)
  sub : ∀ c ∈ redC n l m, c ∈ l
  has : ∀ t : List Int, t.length = n → tupB t = true → hasTB n (redC n l m) (redM n l m) t = hasTB n l m t
  least : ∀ c ∈ redC n l m, ¬ Supp (hasTB n l m) n (restL (redC n l m) c)
theorem red_is {n : Nat} {l : List Int} {m : List (List Int)} (hn : n ≤ 4) (ho : orbB n l m = true) : Red n l m := by
  have h := inv_to hn (orb_const ho) (fun t ht hb => those_has hn ho ht hb) l.length (Nat.le_refl _)
  refine ⟨h.val, h.sub, h.has, fun c hc => ?_⟩
  obtain ⟨j, hj, e⟩ := List.getElem_of_mem (h.sub c hc)
  have := h.least j hj
  rw [itAt_get _ _ hj, e] at this
  exact this hc
theorem Red.supp {n : Nat} {l : List Int} {m : List (List Int)} (hn : n ≤ 4) (h : Red n l m) : Supp (hasTB n l m) n (redC n l m) := supp_congr h.has (supp_valid hn h.val)
theorem red_in {n : Nat} {l l' : List Int} {m m' : List (List Int)} (hn : n ≤ 4) (h : Red n l m) (h' : Red n l' m') (hh : ∀ t : List Int, t.length = n → tupB t = true → hasTB n l m t = hasTB n l' m' t) : ∀ c ∈ redC n l m, c ∈ redC n l' m' := fun c hc => by
  by_cases hx : c ∈ redC n l' m'
  · exact hx
  · exfalso
    have hs := supp_congr (fun t h1 h2 => (hh t h1 h2).symm) (h'.supp hn)
    have ha := atoms_of h.val.1 c hc
    have k1 := const_len h.val.1
    have k2 := const_len h'.val.1
    exact h.least c hc ((h.supp hn).less hs hn hx (by unfold atomB at ha; simpa using ha) (by omega) (by omega))
/-- Two sets are the same exactly if they have the same tuples. -/
theorem same_iff {n : Nat} {l l' : List Int} {m m' : List (List Int)} (hn : n ≤ 4) (h1 : orbB n l m = true) (h2 : orbB n l' m' = true) : sameSB n l m n l' m' = true ↔ ∀ t : List Int, t.length = n → tupB t = true → hasTB n l m t = hasTB n l' m' t := by
  have r1 := red_is hn h1
  have r2 := red_is hn h2
  unfold sameSB redCz redMz
  rw [h1, h2, Int.toNat_natCast]
  simp only [Bool.true_and, Bool.and_eq_true, decide_eq_true_eq, true_and]
  constructor
  · rintro ⟨e1, e2⟩ t ht hb
    rw [← r1.has t ht hb, ← r2.has t ht hb, e1, e2]
  · intro hh
    have e1 : redC n l m = redC n l' m' := asc_same _ _ (const_asc r1.val.1) (const_asc r2.val.1) fun a => ⟨red_in hn r1 r2 hh a, red_in hn r2 r1 (fun t q1 q2 => (hh t q1 q2).symm) a⟩
    refine ⟨e1, ext_eq hn r1.val (by rw [e1]; exact r2.val) fun t ht hb => ?_⟩
    rw [r1.has t ht hb, hh t ht hb, ← r2.has t ht hb, e1]
theorem same_red {n : Nat} {l : List Int} {m : List (List Int)} (hn : n ≤ 4) (ho : orbB n l m = true) : sameSB n (redC n l m) (redM n l m) n l m = true :=
  (same_iff hn (valid_orb hn (red_is hn ho).val) ho).2 (red_is hn ho).has
/-- A set is the same after a swap of a constant and another atom exactly if it does not need the constant. -/
theorem swap_same {n : Nat} {l : List Int} {m : List (List Int)} (hn : n ≤ 4) (ho : orbB n l m = true) {c e : Int} (hc : c ∈ l) (he : e ∉ l) (hea : 0 ≤ e ∧ e ≤ 999) : (∀ t : List Int, t.length = n → tupB t = true → hasTB n l m (t.map (swp c e)) = hasTB n l m t) ↔ c ∉ redC n l m := by
  have r := red_is hn ho
  have ha : 0 ≤ c ∧ c ≤ 999 := by
    have := atoms_of (orb_const ho) c hc
    unfold atomB at this
    simpa using this
  have hne : c ≠ e := fun h => he (h ▸ hc)
  have k1 := const_len r.val.1
  constructor
  · intro hh hm
    refine r.least c hm ((r.supp hn).less (D := e :: restL (redC n l m) c) ?_ hn ?_ ha (by omega) ?_)
    · intro t u ht hb hb2 hs
      rw [← hh t ht hb, ← hh u (by rw [← hs.1]; exact ht) hb2]
      refine r.supp hn _ _ (by rw [List.length_map]; exact ht) (tup_swp ha hea hb) (tup_swp ha hea hb2) ⟨by rw [List.length_map, List.length_map]; exact hs.1, fun i j hi hj => ?_, fun i hi d hd => ?_⟩
      · rw [List.length_map] at hi hj
        have hul := hs.1
        rw [itAt_map hi, itAt_map hj, itAt_map (by omega), itAt_map (by omega), swp_inj, swp_inj]
        exact hs.2.1 i j hi hj
      · rw [List.length_map] at hi
        have hul := hs.1
        rw [itAt_map hi, itAt_map (by omega)]
        have hde : d ≠ e := fun h => he (h ▸ r.sub d hd)
        have back : ∀ a : Int, swp c e a = d ↔ a = swp c e d := fun a => ⟨fun h => by rw [← h, swp_swp], fun h => by rw [h, swp_swp]⟩
        rw [back, back]
        by_cases hdc : d = c
        · have e5 : swp c e d = e := by rw [hdc]; simp [swp]
          rw [e5]
          exact hs.2.2 i hi e (by simp)
        · rw [swp_out hdc hde]
          exact hs.2.2 i hi d (List.mem_cons_of_mem _ (List.mem_filter.2 ⟨hd, by simpa using hdc⟩))
    · rintro h
      rcases List.mem_cons.1 h with h | h
      · exact hne h
      · exact restL_out _ _ h
    · have := restL_len (redC n l m) c
      rw [List.length_cons]
      omega
  · intro hm t ht hb
    exact (r.supp hn _ _ ht hb (tup_swp ha hea hb) (sim_swp t hm fun h => he (r.sub e h))).symm
end SetR
end Go.Proofs.YtnamlgacjhnpnaaGreat
end

section
namespace Go.Proofs.YtnamlgacjhnpnaaGreat
open Go.RowKit Go.Sort Go.Shelf
set_option linter.unusedVariables false

theorem wo_gives (n x : Int) (B : Nat) (w : World) (h : w.cell? ⟨B, 0, none⟩ = some (.int .i64 n)) :
    Calls Tryz.prog 98 #[.int .i64 x, .pointer (some ⟨B, 0, none⟩)] w fun e w' => e = .returned (.bool (x == n)) ∧ ∃ q, w' = w.drewN q := by
  by_cases hx : x = n
  · have hb : (x == n) = true := by simpa using hx
    rw [hb]
    subst hx
    go_enter Tryz.func98, Tryz.ntmps98
    go_wp2
    go_ret
    exact ⟨rfl, 0, rfl⟩
  · have hb : (x == n) = false := by simpa using hx
    rw [hb]
    go_enter Tryz.func98, Tryz.ntmps98
    go_wp2
    go_ret
    exact ⟨by first | rfl | (simp [hx]), 0, rfl⟩
theorem wo_pred (n : Int) (B : Nat) (w : World) (hB : B < w.heap.size) (hcell : w.cell? ⟨B, 0, none⟩ = some (.int .i64 n)) :
    PredAt Tryz.prog 98 #[.pointer (some ⟨B, 0, none⟩)] (Value.int .i64) (fun x => x == n) w :=
  fun W x hb => wo_gives n x B W ((hb.cell (p := ⟨B, 0, none⟩) hB).trans hcell)
theorem wo_over (n : Int) (B blk off size : Nat) (w : World) (hB : B < w.heap.size) (hne : B ≠ blk) (hcell : w.cell? ⟨B, 0, none⟩ = some (.int .i64 n)) :
    PredOver Tryz.prog 98 #[.pointer (some ⟨B, 0, none⟩)] (Value.int .i64) (fun x => x == n) blk off size w :=
  fun k os dk x _ => wo_gives n x B _ (by
    unfold sortWorld
    rw [cell?_grow _ _ _ (by show B < (putRow _ _ _ _ _).heap.size; rw [size_putRow]; exact hB), cell?_putRow_other _ _ blk off _ _ (Or.inl hne)]
    exact hcell)

theorem wo_putRow {B : Nat} {w0 w : World} {g q : Nat} {d : Array Int} (h : Below B w0 w) (hg : B ≤ g) : Below B w0 (putRow (Value.int .i64) (Sort.ahead w q) g 0 d) := Lib.below_putRow h hg

set_option maxRecDepth 100000 in
set_option maxHeartbeats 8000000 in
theorem without_any (n : Nat) (hn : n ≤ 4) (cs : List Int) (hc : constB cs = true) (hpos : 0 < cs.length) (M : List (List Int)) (hM : M = thoseL n cs.length M) (c : Int) (x : Value) (w : World) (hx : OrbIx w x n cs M) :
    Calls Tryz.prog 57 #[x, .int .i64 c] w (OrbBOut n (restL cs c) (fewM n cs M c) (keepB n cs M c) w) := by
  have hX := hx
  obtain ⟨A, c0, B, d, rfl, hl, hmr, hm⟩ := hx
  have hb0 : Below w.heap.size w (((w.alloc (.cells #[.int .i64 (n : Int), .slice A cs.length c0, .slice B M.length d] 27)).alloc (.cells #[.int .i64 c] 3)).alloc (.cells #[.int .i64 0, .slice none 0 0, .slice none 0 0] 27)) := (((Below.refl _ _).alloc (Nat.le_refl _) _).alloc (by simp) _).alloc (by simp; omega) _
  have k0 : (((w.alloc (.cells #[.int .i64 (n : Int), .slice A cs.length c0, .slice B M.length d] 27)).alloc (.cells #[.int .i64 c] 3)).alloc (.cells #[.int .i64 0, .slice none 0 0, .slice none 0 0] 27)).heap[w.heap.size]? = some (.cells #[.int .i64 (n : Int), .slice A cs.length c0, .slice B M.length d] 27 (0, 0)) := (Below.heap_alloc _ _ _ (by simp; omega)).trans ((Below.heap_alloc _ _ _ (by simp)).trans (heap_alloc_new w _))
  have k1 : (((w.alloc (.cells #[.int .i64 (n : Int), .slice A cs.length c0, .slice B M.length d] 27)).alloc (.cells #[.int .i64 c] 3)).alloc (.cells #[.int .i64 0, .slice none 0 0, .slice none 0 0] 27)).heap[w.heap.size + 1]? = some (.cells #[.int .i64 c] 3 (0, 0)) := by
    have h := heap_alloc_new (w.alloc (.cells #[.int .i64 (n : Int), .slice A cs.length c0, .slice B M.length d] 27)) (.cells #[.int .i64 c] 3)
    rw [World.size_alloc] at h
    exact (Below.heap_alloc _ _ _ (by simp)).trans h
  have k2 : (((w.alloc (.cells #[.int .i64 (n : Int), .slice A cs.length c0, .slice B M.length d] 27)).alloc (.cells #[.int .i64 c] 3)).alloc (.cells #[.int .i64 0, .slice none 0 0, .slice none 0 0] 27)).heap[w.heap.size + 1 + 1]? = some (.cells #[.int .i64 0, .slice none 0 0, .slice none 0 0] 27 (0, 0)) := by
    have h := heap_alloc_new ((w.alloc (.cells #[.int .i64 (n : Int), .slice A cs.length c0, .slice B M.length d] 27)).alloc (.cells #[.int .i64 c] 3)) (.cells #[.int .i64 0, .slice none 0 0, .slice none 0 0] 27)
    rw [World.size_alloc, World.size_alloc] at h
    exact h
  obtain ⟨b0, b1, b2⟩ := OrbK.row3 k0
  have hk3 := const_len hc
  have hr3 := const_len (restL_const c hc)
  have hfit := normal_fit (k := (cs.length : Int)) (by omega) (by omega) hn hM
  have hFO : FitO cs M := ⟨by omega, fitR_of (by omega)⟩
  have hor := orb_normal hn hc hM
  have hsubM : ∀ q ∈ M, q ∈ allP n cs.length := orb_mem hor
  have hsubF : ∀ q ∈ fewM n cs M c, q ∈ allP n (restL cs c).length := fun q hq => by rw [normal_few] at hq; exact thoseL_sub q hq
  have hfitF := normal_fit (k := ((restL cs c).length : Int)) (by omega) (by omega) hn (normal_few n cs M c)
  have hdg : ∀ i, i < M.length → (rwAt M i).length ≤ 4 ∧ digP (rwAt M i) := fun i hi => by
    have h9 : rwAt M i ∈ M := by rw [rwAt_get _ _ hi]; exact List.getElem_mem hi
    have h1 := dig_allP (k := (cs.length : Int)) (by omega) (by omega) hn (hsubM _ h9)
    exact ⟨by omega, h1.2⟩
  have hen : ∀ i, i < (exsL cs M).length → (rwAt (exsL cs M) i).length = n := fun i hi => by
    rw [exsL_len] at hi
    rw [ex_at hi, exL_len]
    have h9 : rwAt M i ∈ M := by rw [rwAt_get _ _ hi]; exact List.getElem_mem hi
    exact ((mem_allP (by omega)).1 (hsubM _ h9)).1
  have hcl := clone_any A c0 cs _ (hl.1.below hb0) (by omega)
  have hex := fun (W : World) (h : Below w.heap.size w W) => examplesOf_impl n cs M hFO _ W (hX.below h)
  rw [exsR_yes hor] at hex
  have hso := fun (W : World) (A' : Option Addr) (c' : Nat) (hA' : IntsAt W A' (restL cs c)) (B9 : Option Addr) (d9 : Nat) (hB : RowsIn W (.slice B9 (exsL cs M).length d9) (exsL cs M)) => setOfTuples_any n hn (restL cs c) hr3 (exsL cs M) (by rw [exsL_len]; omega) hen A' B9 c' d9 W hA' hB
  rw [show thoseL n (restL cs c).length (patsL (restL cs c) (exsL cs M)) = fewM n cs M c from rfl] at hso
  have hec := fun (W : World) (h : Below w.heap.size w W) A7 c7 B7 d7 (hA7 : IntsAt W A7 (restL cs c)) (hB7 : RowsIn W (.slice B7 (fewM n cs M c).length d7) (fewM n cs M c)) => extendedCodes_any n hn (restL cs c) hr3 (fewM n cs M c) (by omega) cs hk3 hsubF A7 B7 A c7 d7 c0 W hA7 hB7 (hl.1.below h)
  have hco := fun (W : World) (h : Below w.heap.size w W) => codesOf_any B d M W (hmr.below h) (by omega) hdg
  have hEQ := fun W => run_eql_tab (tabOf (extL n (restL cs c) (fewM n cs M c) cs)) (tabOf M) W
  rw [keep_tab c hn hc hM] at hEQ
  unfold TabP at hec hco
  have HB0 := Lib.hid hb0
  have HK0 := Lib.hid k0
  have HK1 := Lib.hid k1
  have HK2 := Lib.hid k2
  have HREST : Hid (cs.filter (fun a => !(a == c)) = restL cs c) := Lib.hid rfl
  have HPOS := Lib.hid hpos
  clear hl hmr hm k0 k1 k2 hX hb0 hfit hFO hor hsubM hsubF hfitF hdg hen hM hc hr3
  generalize tabV (tabOf (extL n (restL cs c) (fewM n cs M c) cs)) = t1 at *
  generalize tabV (tabOf M) = t2 at *
  generalize keepB n cs M c = kb at *
  generalize fewM n cs M c = fs at *
  generalize restL cs c = rs at *
  generalize exsL cs M = E at *
  have eg : ∀ args w, (callFunc 98 args).run Tryz.prog w = .ok (.enter 98 args) w := enters_of Tryz.func98 (by kernel_rfl) rfl
  go_enter Tryz.func57, Tryz.ntmps57
  go_wp2_with fail
  (with_reducible refine hcl.mono ?_)
  rintro e w2 ⟨v2, rfl, ho2, hb2⟩
  clear b0 b1 b2 hcl
  have ho' : w2.ownsRow (((w.alloc (.cells #[.int .i64 (n : Int), .slice A cs.length c0, .slice B M.length d] 27)).alloc (.cells #[.int .i64 c] 3)).alloc (.cells #[.int .i64 0, .slice none 0 0, .slice none 0 0] 27)).heap.size 3 1 v2 cs.length (cs.map (Value.int .i64)) := ho2
  obtain ⟨g, cap, rfl, hbg, hgs, hnc, _, _, hH⟩ := Lib.holds_of_ownsRow ho' (fun e => by
    rcases ho2.2 with ⟨_, h0⟩ | ⟨g, cap, cur, e2, _⟩
    · omega
    · rw [e] at e2; cases e2)
  have hsz0 : (((w.alloc (.cells #[.int .i64 (n : Int), .slice A cs.length c0, .slice B M.length d] 27)).alloc (.cells #[.int .i64 c] 3)).alloc (.cells #[.int .i64 0, .slice none 0 0, .slice none 0 0] 27)).heap.size = w.heap.size + 3 := by simp
  rw [hsz0] at hbg
  have hbz2 := HB0.out.trans (hb2.mono HB0.out.size)
  have kk0 := (hb2.block _ (OrbK.box_lt HK0.out)).trans HK0.out
  have kk1 := (hb2.block _ (OrbK.box_lt HK1.out)).trans HK1.out
  have kk2 := (hb2.block _ (OrbK.box_lt HK2.out)).trans HK2.out
  have hc1 : w2.cell? ⟨w.heap.size + 1, 0, none⟩ = some (.int .i64 c) := by rw [cell_of_row w2 _ _ _ _ _ kk1]; rfl
  have hlt1 := OrbK.box_lt kk1
  have hdel := AnyE.slices_DeleteFunc Tryz.delInts (Value.int .i64) (fun _ => rfl) (fun x => x == c) 98 #[.pointer (some ⟨w.heap.size + 1, 0, none⟩)] eg 0 Tryz.zeroValue3 g 0 cap cs.toArray w2
    (wo_pred c (w.heap.size + 1) _ hlt1 hc1) (wo_over c (w.heap.size + 1) g 0 _ _ hlt1 (by omega) hc1) hH (by rw [List.size_toArray]; omega) (by rw [List.size_toArray]; exact hnc)
  change Calls Tryz.prog 97 _ _ _ at hdel
  rw [List.size_toArray] at hdel
  have hle := List.length_filter_le (fun x => !(x == c)) cs
  have hfl : (cs.toArray.toList.filter fun x => !(x == c)) = (cs.filter fun x => !(x == c)) := rfl
  rw [hfl] at hdel
  rw [HREST.out] at hdel hle
  have HO := Lib.hid (fun q7 => Lib.ownsRow_putRow (q := q7) (k := rs.length) (ys := rs ++ List.replicate (cs.length - rs.length) 0) ho' (by rw [List.length_append, List.length_replicate]; omega) hle)
  have HB := Lib.hid (fun q7 => wo_putRow (B := w.heap.size + 3) (q := q7) (d := (rs ++ List.replicate (cs.length - rs.length) 0).toArray) (Below.refl _ w2) (show w.heap.size + 3 ≤ g by omega))
  clear ho2 ho' hH hc1 eg hfl hb2 kk1 hlt1
  go_wp2_with fail
  refine hdel.mono ?_
  rintro e w7 ⟨rfl, q7, rfl⟩
  have ho7 := HO.out q7
  rw [List.take_left] at ho7
  have hb3 := HB.out q7
  generalize putRow (Value.int .i64) (Sort.ahead w2 q7) g 0 (rs ++ List.replicate (cs.length - rs.length) 0).toArray = w3 at ho7 hb3 ⊢
  have hIR : Hid (IntsAt w3 (some ⟨g, 0, none⟩) rs) := Lib.hid (ints_own ho7)
  have K3 := Lib.hid ((hb3.block w.heap.size (by omega)).trans kk0)
  have R3 := Lib.hid ((hb3.block (w.heap.size + 1 + 1) (by omega)).trans kk2)
  have HBZ : Hid (Below w.heap.size w w3) := Lib.hid (hbz2.trans (hb3.mono (by omega)))
  have hltk := OrbK.box_lt K3.out
  have hltr := OrbK.box_lt R3.out
  obtain ⟨b0, b1, b2⟩ := OrbK.row3 K3.out
  have HS : Hid (∀ W : World, Below w3.heap.size w3 W → W.cell? ⟨w.heap.size, 0, none⟩ = some (.int .i64 (n : Int)) ∧ W.cell? ⟨w.heap.size, 1, none⟩ = some (.slice A cs.length c0) ∧ W.cell? ⟨w.heap.size, 2, none⟩ = some (.slice B M.length d)) :=
    Lib.hid (fun W h => ⟨(h.cell (p := ⟨w.heap.size, 0, none⟩) hltk).trans b0, (h.cell (p := ⟨w.heap.size, 1, none⟩) hltk).trans b1, (h.cell (p := ⟨w.heap.size, 2, none⟩) hltk).trans b2⟩)
  have HQ : Hid (∀ W : World, Below w3.heap.size w3 W → W.heap[w.heap.size + 1 + 1]? = some (.cells #[.int .i64 0, .slice none 0 0, .slice none 0 0] 27 (0, 0))) := Lib.hid (fun W h => (h.block _ hltr).trans R3.out)
  have hexw := fun (W : World) (h : Below w3.heap.size w3 W) => hex W (HBZ.out.trans (h.mono HBZ.out.size))
  have hecw := fun (W : World) (h : Below w3.heap.size w3 W) A7 c7 B7 d7 h1 h2 => hec W (HBZ.out.trans (h.mono HBZ.out.size)) A7 c7 B7 d7 h1 h2
  have hcow := fun (W : World) (h : Below w3.heap.size w3 W) => hco W (HBZ.out.trans (h.mono HBZ.out.size))
  have hsow := fun (W : World) (h : Below w3.heap.size w3 W) (B9 : Option Addr) (d9 : Nat) (hB : RowsIn W (.slice B9 E.length d9) E) => hso W (some ⟨g, 0, none⟩) cap (hIR.out.below h) B9 d9 hB
  clear hex hec hco hso hdel HO HB hb3 kk0 kk2 hbz2 ho7 b0 b1 b2 HB0 HK0 HK1 HK2 hltk
  try go_wp2_with fail
  go_cut [7] (fun s wx => OrbQ.Rel w3 n rs fs s wx)
  case first =>
    have hz0 : Below w3.heap.size w3 w3.drew := grow_drew (Below.refl _ _)
    have hz1 : Below w3.heap.size w3 (w3.alloc (.cells #[.int .i64 0, .slice none 0 0, .slice none 0 0] 27)).drew := grow_drew (grow_alloc (Below.refl _ _) _)
    have hx0 := hexw _ hz0
    have hx1 := hexw _ hz1
    have zk0 := heap_alloc_new w3 (.cells #[.int .i64 0, .slice none 0 0, .slice none 0 0] 27)
    go_region_held3 (fun w' => w'.cell? ⟨w.heap.size, 0, none⟩ = some (.int .i64 (n : Int)) ∧ w'.cell? ⟨w.heap.size, 1, none⟩ = some (.slice A cs.length c0) ∧ w'.cell? ⟨w.heap.size, 2, none⟩ = some (.slice B M.length d))
      ((refine HS.out _ ?_; (repeat (first | assumption | refine grow_drew ?_ | refine grow_alloc ?_ _ | refine grow_set ?_ (by omega) _ | exact Below.refl _ _))))
      (first
      | (go_at_call 34; (with_reducible refine hx0.mono ?_); rintro e wa ⟨vE, SE, rfl, hSE, hSEb, hba⟩; have fra := hz0.trans (hba.mono hz0.size); have sza := fra.size; obtain ⟨BE, dE, hBE⟩ := RowsIn.form (ls := E) hSE.at_; subst hBE; have hRE : RowsIn wa (.slice BE E.length dE) E := hSE.at_; have hab := grow_alloc (Below.refl wa.heap.size wa) (.cells #[.int .i64 0, .slice none 0 0, .slice none 0 0] 27); have h20 := hsow wa fra BE dE hRE; have h21 := hsow (wa.alloc (.cells #[.int .i64 0, .slice none 0 0, .slice none 0 0] 27)) (grow_alloc fra _) BE dE (hRE.below hab); have zka := heap_alloc_new wa (.cells #[.int .i64 0, .slice none 0 0, .slice none 0 0] 27))
      | (go_at_call 34; (with_reducible refine hx1.mono ?_); rintro e wa ⟨vE, SE, rfl, hSE, hSEb, hba⟩; have fra := hz1.trans (hba.mono hz1.size); have sza := fra.size; obtain ⟨BE, dE, hBE⟩ := RowsIn.form (ls := E) hSE.at_; subst hBE; have hRE : RowsIn wa (.slice BE E.length dE) E := hSE.at_; have zkb := (hba.block w3.heap.size (OrbK.box_lt zk0)).trans zk0; have h20 := hsow wa fra BE dE hRE)
      | (go_at_call 36; (with_reducible refine h20.mono ?_); rintro e wb ⟨Aw, cw, Bw, dw, Sw, rfl, hLw, hSw, hbb⟩; have frb := fra.trans (hbb.mono fra.size); have szb := frb.size; (try (have zkc := (hbb.block _ (OrbK.box_lt zkb)).trans zkb; obtain ⟨qb0, qb1, qb2⟩ := OrbK.row3 zkc; obtain ⟨yb0, yb1, yb2⟩ := z3At zkc)))
      | (go_at_call 36; (with_reducible refine h21.mono ?_); rintro e wb ⟨Aw, cw, Bw, dw, Sw, rfl, hLw, hSw, hbb⟩; have frb := (grow_alloc fra (.cells #[.int .i64 0, .slice none 0 0, .slice none 0 0] 27)).trans (hbb.mono (grow_alloc fra (.cells #[.int .i64 0, .slice none 0 0, .slice none 0 0] 27)).size); have szb := frb.size; have zkd := (hbb.block _ (OrbK.box_lt zka)).trans zka; obtain ⟨qb0, qb1, qb2⟩ := OrbK.row3 zkd; obtain ⟨yb0, yb1, yb2⟩ := z3At zkd)
      | fail)
    all_goals
      go_wp2_with fail
      go_meet
      first
        | exact OrbQ.rel_set zkc hLw (fun b hb => Nat.le_trans sza (hSw b hb)) (fun b hb e => by have h1 := hSw b hb; have h2 := OrbK.box_lt zkb; omega) (Nat.le_refl _) frb
        | exact OrbQ.rel_set zkd hLw (fun b hb => by have h1 := hSw b hb; rw [World.size_alloc] at h1; omega) (fun b hb e => by have h1 := hSw b hb; rw [World.size_alloc] at h1; omega) sza frb
        | exact OrbQ.rel_new hLw (fun b hb => Nat.le_trans sza (hSw b hb)) frb
  case rest =>
    obtain ⟨g7, A7, c7, B7, d7, S7, rfl, hg7, hL7, hgS7, hS7b, hg7b, hbc⟩ := hcut
    have hp7 := orb_parts hL7
    have hlt7 := OrbK.box_lt hg7
    obtain ⟨p0, p1, p2⟩ := OrbK.row3 hg7
    have HS3 : Hid (∀ W : World, Below wc.heap.size wc W → (W.cell? ⟨g7, 0, none⟩ = some (.int .i64 (n : Int)) ∧ W.cell? ⟨g7, 1, none⟩ = some (.slice A7 rs.length c7) ∧ W.cell? ⟨g7, 2, none⟩ = some (.slice B7 fs.length d7)) ∧ W.cell? ⟨w.heap.size, 1, none⟩ = some (.slice A cs.length c0) ∧ W.cell? ⟨w.heap.size, 2, none⟩ = some (.slice B M.length d)) :=
      Lib.hid (fun W h => by
        obtain ⟨_, q1, q2⟩ := HS.out W (hbc.trans (h.mono hbc.size))
        exact ⟨⟨(h.cell (p := ⟨g7, 0, none⟩) hlt7).trans p0, (h.cell (p := ⟨g7, 1, none⟩) hlt7).trans p1, (h.cell (p := ⟨g7, 2, none⟩) hlt7).trans p2⟩, q1, q2⟩)
    have hdw : Below wc.heap.size wc wc.drew := grow_drew (Below.refl _ _)
    have hE0 := hecw wc.drew (hbc.trans (hdw.mono hbc.size)) A7 c7 B7 d7 (hp7.1.1.below hdw) (hp7.2.below hdw)
    have HCW := Lib.hid (fun (W : World) (h : Below wc.heap.size wc W) => hcow W (hbc.trans (h.mono hbc.size)))
    have hEQ2 := fun W => hEQ W
    have hGD : Tryz.prog.eqGuardType Tryz.prog.depth 74 = false := by kernel_rfl
    obtain ⟨⟨f0, f1, f2⟩, f3, f4⟩ := HS3.out wc.drew hdw
    have HQ3 : Hid (∀ W : World, Below wc.heap.size wc W → W.heap[w.heap.size + 1 + 1]? = some (.cells #[.int .i64 0, .slice none 0 0, .slice none 0 0] 27 (0, 0))) := Lib.hid (fun W h => HQ.out W (hbc.trans (h.mono hbc.size)))
    have HL7 := Lib.hid hL7
    have HFIN := Lib.hid (fun (W : World) (h : Below wc.heap.size wc W) => orbB_of kb (orb_pass (r := w.heap.size + 1 + 1) (hL7.alike (w' := W) fun b hb => h.block b (hL7.lt b hb)) (HBZ.out.trans ((hbc.trans (h.mono hbc.size)).mono HBZ.out.size)) (show w.heap.size ≤ w.heap.size + 1 + 1 by omega) (fun b hb => by have h1 := hS7b b hb; have h2 := HBZ.out.size; exact ⟨by omega, by omega⟩)))
    have ne7 : g7 ≠ w.heap.size + 1 + 1 := by omega
    have ne0 : w.heap.size ≠ w.heap.size + 1 + 1 := by omega
    clear hL7 hgS7 hS7b hp7 hecw hcow hexw hsow HS HQ p0 p1 p2 hIR K3 R3
    try go_wp2_with fail
    go_region_held3 (fun w' => (w'.cell? ⟨g7, 0, none⟩ = some (.int .i64 (n : Int)) ∧ w'.cell? ⟨g7, 1, none⟩ = some (.slice A7 rs.length c7) ∧ w'.cell? ⟨g7, 2, none⟩ = some (.slice B7 fs.length d7)) ∧ w'.cell? ⟨w.heap.size, 1, none⟩ = some (.slice A cs.length c0) ∧ w'.cell? ⟨w.heap.size, 2, none⟩ = some (.slice B M.length d))
      (first | (with_reducible exact ⟨⟨by assumption, by assumption, by assumption⟩, by assumption, by assumption⟩) | (with_reducible exact ⟨⟨OrbQ.set3_keep (by assumption) (by assumption), OrbQ.set3_keep (by assumption) (by assumption), OrbQ.set3_keep (by assumption) (by assumption)⟩, OrbQ.set3_keep (by assumption) (by assumption), OrbQ.set3_keep (by assumption) (by assumption)⟩))
      (first
      | (go_at_call 99; (with_reducible refine hE0.mono ?_); rintro e w5 ⟨rfl, hb5⟩; have fr5 := hdw.trans (hb5.mono hdw.size); obtain ⟨⟨j0, j1, j2⟩, j3, j4⟩ := HS3.out w5 fr5; have hcq := HCW.out w5 fr5)
      | (go_at_call 49; (with_reducible refine hcq.mono ?_); rintro e w6 ⟨rfl, hb6⟩; have fr6 := fr5.trans (hb6.mono fr5.size); obtain ⟨⟨i0, i1, i2⟩, i3, i4⟩ := HS3.out w6 fr6; have hr2 := HQ3.out w6 fr6; obtain ⟨x0, x1, x2⟩ := OrbK.row3 hr2; obtain ⟨y0, y1, y2⟩ := z3At hr2; have hEQ3 := hEQ w6; have hpost := HFIN.out w6 fr6)
      | fail)
    clear f0 f1 f2 f3 f4 j0 j1 j2 j3 j4 i0 i1 i2 i3 i4 hE0 hcq fr5 fr6 hb5 hb6 HS3 HQ3 HCW HFIN hdw hr2 hEQ hEQ2 hEQ3
    go_wp2
    exact bodyPost_ret (v := .tuple #[.agg #[.int .i64 (n : Int), .slice A7 rs.length c7, .slice B7 fs.length d7], .bool kb]) (by simp [results, Tryz.results57, go_sem, x0, x1, x2]) rfl hpost
end Go.Proofs.YtnamlgacjhnpnaaGreat
end

section
namespace Go.Proofs.YtnamlgacjhnpnaaGreat
open Go.RowKit Go.Sort
set_option linter.unusedVariables false

/-- A box that holds a set of the call's own. -/
def RedBox (w : World) (lo g : Nat) (n : Int) (cs : List Int) (M : List (List Int)) : Prop :=
  ∃ A c B d S, w.heap[g]? = some (.cells #[.int .i64 n, .slice A cs.length c, .slice B M.length d] 27 (0, 0)) ∧ OwnL w S [.int .i64 n, .slice A cs.length c, .slice B M.length d] (encO n cs M) ∧ g ∉ S ∧ ∀ b ∈ S, lo ≤ b

set_option maxRecDepth 100000 in
set_option maxHeartbeats 8000000 in
theorem reduced_impl (z : Int) (l : List Int) (m : List (List Int)) (hf : FitO l m) (x : Value) (w : World) (hx : OrbIx w x z l m) :
    Calls Tryz.prog 18 #[x] w (OrbOut (ozR (orbB z l m) z) (olR (orbB z l m) (redCz z l m)) (omR (orbB z l m) (redMz z l m)) w) := by
  have hX := hx
  obtain ⟨A, c, B, d, rfl, hl, hmr, hm⟩ := hx
  have hb0 : Below w.heap.size w ((w.alloc (.cells #[.int .i64 z, .slice A l.length c, .slice B m.length d] 27)).alloc (.cells #[.int .i64 0, .slice none 0 0, .slice none 0 0] 27)) := ((Below.refl _ _).alloc (Nat.le_refl _) _).alloc (by simp) _
  have k0 : ((w.alloc (.cells #[.int .i64 z, .slice A l.length c, .slice B m.length d] 27)).alloc (.cells #[.int .i64 0, .slice none 0 0, .slice none 0 0] 27)).heap[w.heap.size]? = some (.cells #[.int .i64 z, .slice A l.length c, .slice B m.length d] 27 (0, 0)) := (Below.heap_alloc _ _ _ (by simp)).trans (heap_alloc_new w _)
  have k1 : ((w.alloc (.cells #[.int .i64 z, .slice A l.length c, .slice B m.length d] 27)).alloc (.cells #[.int .i64 0, .slice none 0 0, .slice none 0 0] 27)).heap[w.heap.size + 1]? = some (.cells #[.int .i64 0, .slice none 0 0, .slice none 0 0] 27 (0, 0)) := by
    have h := heap_alloc_new (w.alloc (.cells #[.int .i64 z, .slice A l.length c, .slice B m.length d] 27)) (.cells #[.int .i64 0, .slice none 0 0, .slice none 0 0] 27)
    rw [World.size_alloc] at h
    exact h
  obtain ⟨b0, b1, b2⟩ := OrbK.row3 k0
  have hio := isOrbitSet_impl z l m hf _ _ (hX.below hb0)
  have HB0 := Lib.hid hb0
  have HK0 := Lib.hid k0
  have HK1 := Lib.hid k1
  cases ho : orbB z l m with
  | false =>
    rw [ho] at hio
    clear hl hmr hm k0 k1 hX ho hb0
    go_enter Tryz.func18, Tryz.ntmps18
    go_wp2_with (go_at_call 12; (with_reducible refine hio.mono ?_); rintro e w2 ⟨rfl, hb2⟩; have hr2 := (hb2.block _ (OrbK.box_lt HK1.out)).trans HK1.out; obtain ⟨x0, x1, x2⟩ := OrbK.row3 hr2; obtain ⟨y0, y1, y2⟩ := z3At hr2)
    have hbz := HB0.out.trans (hb2.mono HB0.out.size)
    clear hio hb2 b0 b1 b2 hr2 HB0 HK0 HK1
    have hpost := orb_zero (((hbz.setCell (p := ⟨w.heap.size + 1, 0, none⟩) (Nat.le_succ _) (.int .i64 0)).setCell (p := ⟨w.heap.size + 1, 1, none⟩) (Nat.le_succ _) (.slice none 0 0)).setCell (p := ⟨w.heap.size + 1, 2, none⟩) (Nat.le_succ _) (.slice none 0 0))
    go_wp2
    exact bodyPost_ret (v := .agg #[.int .i64 0, .slice none 0 0, .slice none 0 0]) (by simp [results, Tryz.results18, go_sem, x0, x1, x2]) rfl hpost
  | true =>
    rw [ho] at hio
    have hcl := orb_const ho
    obtain ⟨hwz, hro⟩ := orb_rows ho
    have hz4 := widB_iff.1 hwz
    have hk3 := const_len hcl
    obtain ⟨n, rfl⟩ : ∃ n : Nat, z = n := ⟨z.toNat, by omega⟩
    have hn4 : n ≤ 4 := by omega
    have hmm := orb_mem ho
    have hdg : ∀ i, i < m.length → (rwAt m i).length ≤ 4 ∧ digP (rwAt m i) := fun i hi => by
      have h9 : rwAt m i ∈ m := by rw [rwAt_get _ _ hi]; exact List.getElem_mem hi
      have h1 := dig_allP (k := (l.length : Int)) (by omega) (by omega) hn4 (hmm _ h9)
      exact ⟨by omega, h1.2⟩
    have hcw := fun (W : World) (h : Below w.heap.size w W) => codesOf_any B d m W (hmr.below h) (by have := hf.2.1; omega) hdg
    have hso := fun (W : World) (h : Below w.heap.size w W) => setOfCodes_any (tabOf m) n hn4 l (by omega) A c W (hl.1.below h)
    rw [patsOf_tabOf (k := (l.length : Int)) (by omega) (by omega) hn4 hmm] at hso
    unfold TabP at hcw
    have HINV := Lib.hid (redF_inv (n := n) (m := m) hcl)
    have HNX := Lib.hid (fun k (hk : k < l.length) => redF_next (n := n) (m := m) hk)
    have HR0 := Lib.hid (redF_zero n l m)
    have HRE : Hid ((redF n l m l.length).1 = redCz n l m ∧ (redF n l m l.length).2 = redMz n l m) := Lib.hid (by unfold redCz redMz redC redM; rw [show ((n : Int).toNat) = n by omega]; exact ⟨rfl, rfl⟩)
    have HLX := Lib.hid hl.1
    clear hl hmr hm k0 k1 hX ho hb0 hro hwz hz4 hmm hdg hcl
    generalize tabV (tabOf m) = t1 at *
    generalize thoseL n l.length m = M0 at *
    go_enter Tryz.func18, Tryz.ntmps18
    go_wp2_with (go_at_call 12; (with_reducible refine hio.mono ?_); rintro e w2 ⟨rfl, hb2⟩; have k2 := (hb2.block _ (OrbK.box_lt HK0.out)).trans HK0.out; clear b0 b1 b2; obtain ⟨b0, b1, b2⟩ := OrbK.row3 k2)
    have HBZ := Lib.hid (HB0.out.trans (hb2.mono HB0.out.size))
    have K2 := Lib.hid k2
    have R2 := Lib.hid ((hb2.block _ (OrbK.box_lt HK1.out)).trans HK1.out)
    have hltk := OrbK.box_lt k2
    have HS : Hid (∀ W : World, Below w2.heap.size w2 W → W.cell? ⟨w.heap.size, 0, none⟩ = some (.int .i64 (n : Int)) ∧ W.cell? ⟨w.heap.size, 1, none⟩ = some (.slice A l.length c) ∧ W.cell? ⟨w.heap.size, 2, none⟩ = some (.slice B m.length d)) :=
      Lib.hid (fun W h => ⟨(h.cell (p := ⟨w.heap.size, 0, none⟩) hltk).trans b0, (h.cell (p := ⟨w.heap.size, 1, none⟩) hltk).trans b1, (h.cell (p := ⟨w.heap.size, 2, none⟩) hltk).trans b2⟩)
    have hcww := fun (W : World) (h : Below w2.heap.size w2 W) => hcw W (HBZ.out.trans (h.mono HBZ.out.size))
    have hsow := fun (W : World) (h : Below w2.heap.size w2 W) => hso W (HBZ.out.trans (h.mono HBZ.out.size))
    clear hio hb2 HK0 HK1 HB0 k2 b0 b1 b2 hcw hso hltk
    try go_wp2_with fail
    go_cut [3] (fun s wx => OrbQ.Rel w2 n l M0 s wx)
    case first =>
      have hz0 : Below w2.heap.size w2 w2.drew := grow_drew (Below.refl _ _)
      have hz1 : Below w2.heap.size w2 (w2.alloc (.cells #[.int .i64 0, .slice none 0 0, .slice none 0 0] 27)).drew := grow_drew (grow_alloc (Below.refl _ _) _)
      have hx0 := hcww _ hz0
      have hx1 := hcww _ hz1
      have zk0 := heap_alloc_new w2 (.cells #[.int .i64 0, .slice none 0 0, .slice none 0 0] 27)
      go_region_held3 (fun w' => w'.cell? ⟨w.heap.size, 0, none⟩ = some (.int .i64 (n : Int)) ∧ w'.cell? ⟨w.heap.size, 1, none⟩ = some (.slice A l.length c) ∧ w'.cell? ⟨w.heap.size, 2, none⟩ = some (.slice B m.length d))
        ((refine HS.out _ ?_; (repeat (first | assumption | refine grow_drew ?_ | refine grow_alloc ?_ _ | refine grow_set ?_ (by omega) _ | exact Below.refl _ _))))
        (first
        | (go_at_call 49; (with_reducible refine hx0.mono ?_); rintro e wa ⟨rfl, hba⟩; have fra := hz0.trans (hba.mono hz0.size); have sza := fra.size; have h20 := hsow wa fra; have h21 := hsow (wa.alloc (.cells #[.int .i64 0, .slice none 0 0, .slice none 0 0] 27)) (grow_alloc fra _); have zka := heap_alloc_new wa (.cells #[.int .i64 0, .slice none 0 0, .slice none 0 0] 27))
        | (go_at_call 49; (with_reducible refine hx1.mono ?_); rintro e wa ⟨rfl, hba⟩; have fra := hz1.trans (hba.mono hz1.size); have sza := fra.size; have zkb := (hba.block w2.heap.size (OrbK.box_lt zk0)).trans zk0; have h20 := hsow wa fra)
        | (go_at_call 56; (with_reducible refine h20.mono ?_); rintro e wb ⟨Aw, cw, Bw, dw, Sw, rfl, hLw, hSw, hbb⟩; have frb := fra.trans (hbb.mono fra.size); have szb := frb.size; (try (have zkc := (hbb.block _ (OrbK.box_lt zkb)).trans zkb; obtain ⟨qb0, qb1, qb2⟩ := OrbK.row3 zkc; obtain ⟨yb0, yb1, yb2⟩ := z3At zkc)))
        | (go_at_call 56; (with_reducible refine h21.mono ?_); rintro e wb ⟨Aw, cw, Bw, dw, Sw, rfl, hLw, hSw, hbb⟩; have frb := (grow_alloc fra (.cells #[.int .i64 0, .slice none 0 0, .slice none 0 0] 27)).trans (hbb.mono (grow_alloc fra (.cells #[.int .i64 0, .slice none 0 0, .slice none 0 0] 27)).size); have szb := frb.size; have zkd := (hbb.block _ (OrbK.box_lt zka)).trans zka; obtain ⟨qb0, qb1, qb2⟩ := OrbK.row3 zkd; obtain ⟨yb0, yb1, yb2⟩ := z3At zkd)
        | fail)
      all_goals
        go_wp2_with fail
        go_meet
        first
          | exact OrbQ.rel_set zkc hLw (fun b hb => Nat.le_trans sza (hSw b hb)) (fun b hb e => by have h1 := hSw b hb; have h2 := OrbK.box_lt zkb; omega) (Nat.le_refl _) frb
          | exact OrbQ.rel_set zkd hLw (fun b hb => by have h1 := hSw b hb; rw [World.size_alloc] at h1; omega) (fun b hb e => by have h1 := hSw b hb; rw [World.size_alloc] at h1; omega) sza frb
          | exact OrbQ.rel_new hLw (fun b hb => Nat.le_trans sza (hSw b hb)) frb
    case rest =>
      obtain ⟨g7, A7, c7, B7, d7, S7, rfl, hg7, hL7, hgS7, hS7b, hg7b, hbc⟩ := hcut
      have RB0 : Hid (RedBox wc w2.heap.size g7 n (redF n l m 0).1 (redF n l m 0).2) := by
        rw [HR0.out]
        exact Lib.hid ⟨A7, c7, B7, d7, S7, hg7, hL7, hgS7, hS7b⟩
      obtain ⟨q0, q1, q2⟩ := HS.out wc hbc
      clear hg7 hL7 hgS7 hS7b hcww hsow HR0
      go_wp2
      clear q0 q1 q2
      go_loopw [5, 6, 7, 23] (fun _ _ _ i wr => ∃ k : Nat, k ≤ l.length ∧ i = .int .i64 k ∧ Hid (RedBox wr w2.heap.size g7 n (redF n l m k).1 (redF n l m k).2) ∧ Below w2.heap.size w2 wr ∧ g7 < wr.heap.size) (fun _ _ _ i _ => l.length - (intOf i).toNat)
      case atStart => exact ⟨0, Nat.zero_le _, rfl, RB0, hbc, by obtain ⟨_, _, _, _, _, h, _⟩ := RB0.out; exact OrbK.box_lt h⟩
      case round =>
        clear RB0 hbc
        obtain ⟨k, hk, rfl, hR, hb, hgl⟩ := hrel
        obtain ⟨hc, hM, hin⟩ := HINV.out k hk
        by_cases hlt : k < l.length
        · obtain ⟨b1, o1, rfl, hb1, hc1⟩ := (HLX.out.below (HBZ.out.trans (hb.mono HBZ.out.size))) (by omega)
          have cl := hc1 k hlt
          have hcin := hin k (Nat.le_refl _) hlt
          have hnx := Lib.hid (HNX.out k hlt)
          clear hc1 hin
          generalize hs1 : redF n l m (k + 1) = s1 at hnx ⊢
          have HS1 := Lib.hid hs1
          clear hs1
          generalize redF n l m k = s at *
          obtain ⟨cs, M⟩ := s
          generalize itAt l k = a at *
          obtain ⟨Ab, cb, Bb, db, Sb, hbox, hLb, hgSb, hSbb⟩ := hR.out
          have hpos : 0 < cs.length := List.length_pos_of_mem hcin
          have hwo := without_any n hn4 cs hc hpos M hM a _ wr (orbOut_ix hLb)
          have hst : Hid (s1 = if keepB n cs M a then (restL cs a, fewM n cs M a) else (cs, M)) := hnx
          obtain ⟨p0, p1, p2⟩ := OrbK.row3 hbox
          obtain ⟨y0, y1, y2⟩ := z3At hbox
          have HBOX := Lib.hid hbox
          have HLB := Lib.hid hLb
          have HSB : Hid (g7 ∉ Sb ∧ ∀ b ∈ Sb, w2.heap.size ≤ b) := Lib.hid ⟨hgSb, hSbb⟩
          clear hbox hLb hgSb hSbb hnx hc hM hcin hpos hR
          cases hkb : keepB n cs M a with
          | true =>
            rw [hkb] at hwo
            have hst2 : Hid (s1 = (restL cs a, fewM n cs M a)) := by rw [hst.out, hkb]; exact Lib.hid rfl
            clear hst hkb
            generalize restL cs a = rs at *
            generalize fewM n cs M a = fs at *
            go_wp2_with fail
            (with_reducible refine hwo.mono ?_)
            rintro e w4 ⟨A4, c4, B4, d4, S4, rfl, hL4, hS4, hb4⟩
            have hbx : Below w4.heap.size w4 (w4.alloc (.cells #[.int .i64 (n : Int), .slice A4 rs.length c4, .slice B4 fs.length d4] 27)) := (Below.refl _ _).alloc (Nat.le_refl _) _
            have h44 := hb4.trans (hbx.mono hb4.size)
            have hbox4 := (h44.block _ hgl).trans HBOX.out
            clear p0 p1 p2 y0 y1 y2
            obtain ⟨p0, p1, p2⟩ := OrbK.row3 hbox4
            obtain ⟨y0, y1, y2⟩ := z3At hbox4
            have hL5 := hL4.alike (w' := (w4.alloc (.cells #[.int .i64 (n : Int), .slice A4 rs.length c4, .slice B4 fs.length d4] 27))) fun b hb => hbx.block b (hL4.lt b hb)
            have on3 := OrbQ.set3_only (w4.alloc (.cells #[.int .i64 (n : Int), .slice A4 rs.length c4, .slice B4 fs.length d4] 27)) g7 (.int .i64 (n : Int)) (.slice A4 rs.length c4) (.slice B4 fs.length d4)
            have hne4 : ∀ b ∈ S4, b ≠ g7 := fun b hb e => by have := hS4 b hb; omega
            have hRB : Hid (RedBox ((((w4.alloc (.cells #[.int .i64 (n : Int), .slice A4 rs.length c4, .slice B4 fs.length d4] 27)).setCell ⟨g7, 0, none⟩ (.int .i64 (n : Int))).setCell ⟨g7, 1, none⟩ (.slice A4 rs.length c4)).setCell ⟨g7, 2, none⟩ (.slice B4 fs.length d4)) w2.heap.size g7 n s1.1 s1.2) := by
              rw [hst2.out]
              exact Lib.hid ⟨A4, c4, B4, d4, S4, OrbQ.set3_box hbox4 (.int .i64 (n : Int)) (.slice A4 rs.length c4) (.slice B4 fs.length d4), hL5.alike fun b hb => on3.block b (hL5.lt b hb) (by have := hne4 b hb; simpa using this), fun h => hne4 g7 h rfl, fun b hb' => by have := hS4 b hb'; have := hb.size; omega⟩
            have hbn := (((hb.trans (h44.mono hb.size)).setCell (p := ⟨g7, 0, none⟩) hg7b (.int .i64 (n : Int))).setCell (p := ⟨g7, 1, none⟩) hg7b (.slice A4 rs.length c4)).setCell (p := ⟨g7, 2, none⟩) hg7b (.slice B4 fs.length d4)
            have hgn := Nat.lt_of_lt_of_le hgl (Nat.le_trans h44.size on3.size)
            clear hwo hL4 hS4 hb4 hbx h44 hbox4 hL5 on3 hne4 hb HBOX HLB HSB hst2 cl
            go_wp2
            refine ⟨⟨k + 1, by omega, by go_num, by rw [HS1.out]; exact hRB, hbn, hgn⟩, ?_⟩
            simp only [intOf]
            omega
          | false =>
            rw [hkb] at hwo
            have hst2 : Hid (s1 = (cs, M)) := by rw [hst.out, hkb]; exact Lib.hid rfl
            clear hst hkb
            generalize restL cs a = rs at *
            generalize fewM n cs M a = fs at *
            go_wp2_with fail
            (with_reducible refine hwo.mono ?_)
            rintro e w4 ⟨A4, c4, B4, d4, S4, rfl, hL4, hS4, hb4⟩
            have hbx : Below w4.heap.size w4 (w4.alloc (.cells #[.int .i64 (n : Int), .slice A4 rs.length c4, .slice B4 fs.length d4] 27)) := (Below.refl _ _).alloc (Nat.le_refl _) _
            have h44 := hb4.trans (hbx.mono hb4.size)
            have hRB : Hid (RedBox (w4.alloc (.cells #[.int .i64 (n : Int), .slice A4 rs.length c4, .slice B4 fs.length d4] 27)) w2.heap.size g7 n s1.1 s1.2) := by
              rw [hst2.out]
              exact Lib.hid ⟨Ab, cb, Bb, db, Sb, (h44.block _ hgl).trans HBOX.out, HLB.out.alike fun b hb => h44.block b (HLB.out.lt b hb), HSB.out.1, HSB.out.2⟩
            have hbn := hb.trans (h44.mono hb.size)
            have hgn := Nat.lt_of_lt_of_le hgl h44.size
            clear hwo hL4 hS4 hb4 hbx h44 hb HBOX HLB HSB hst2 cl p0 p1 p2 y0 y1 y2
            go_wp2
            refine ⟨⟨k + 1, by omega, by go_num, by rw [HS1.out]; exact hRB, hbn, hgn⟩, ?_⟩
            simp only [intOf]
            omega
        · have e : k = l.length := by omega
          subst e
          rw [HRE.out.1, HRE.out.2] at hR
          generalize redCz n l m = cs at *
          generalize redMz n l m = M at *
          obtain ⟨Ab, cb, Bb, db, Sb, hbox, hLb, hgSb, hSbb⟩ := hR.out
          obtain ⟨p0, p1, p2⟩ := OrbK.row3 hbox
          have hq := (hb.block _ (OrbK.box_lt R2.out)).trans R2.out
          have hltq := OrbK.box_lt R2.out
          obtain ⟨x0, x1, x2⟩ := OrbK.row3 hq
          obtain ⟨y0, y1, y2⟩ := z3At hq
          have ne7 : g7 ≠ w.heap.size + 1 := by omega
          have hpost := orb_pass (r := w.heap.size + 1) hLb (HBZ.out.trans (hb.mono HBZ.out.size)) (Nat.le_succ _) (fun b h => by have h1 := hSbb b h; have h2 := HBZ.out.size; exact ⟨by omega, by omega⟩)
          clear hLb hgSb hSbb hb hR hc hM hin
          go_wp2
          exact bodyPost_ret (v := .agg #[.int .i64 (n : Int), .slice Ab cs.length cb, .slice Bb M.length db]) (by simp [results, Tryz.results18, go_sem, x0, x1, x2]) rfl hpost
end Go.Proofs.YtnamlgacjhnpnaaGreat
end

section
namespace Go.Proofs.YtnamlgacjhnpnaaGreat
open Go.RowKit Go.Sort
attribute [-go_sem] World.setCell_alloc_at World.setCell_alloc_past
set_option linter.unusedVariables false

set_option maxRecDepth 100000 in
set_option maxHeartbeats 8000000 in
theorem sameSet_impl (z1 : Int) (l1 : List Int) (m1 : List (List Int)) (hf1 : FitO l1 m1) (x1 : Value) (z2 : Int) (l2 : List Int) (m2 : List (List Int)) (hf2 : FitO l2 m2) (x2 : Value) (w : World) (hx1 : OrbIx w x1 z1 l1 m1) (hx2 : OrbIx w x2 z2 l2 m2) :
    Calls Tryz.prog 15 #[x1, x2] w (BoolP (sameSB z1 l1 m1 z2 l2 m2) w) := by
  have HX1 := Lib.hid hx1
  have HX2 := Lib.hid hx2
  obtain ⟨A1, c1, B1, d1, rfl, hl1, hmr1, hm1⟩ := hx1
  obtain ⟨A2, c2, B2, d2, rfl, hl2, hmr2, hm2⟩ := hx2
  have hb0 : Below w.heap.size w ((w.alloc (.cells #[.int .i64 z1, .slice A1 l1.length c1, .slice B1 m1.length d1] 27)).alloc (.cells #[.int .i64 z2, .slice A2 l2.length c2, .slice B2 m2.length d2] 27)) := ((Below.refl _ _).alloc (Nat.le_refl _) _).alloc (by simp) _
  have k0 : ((w.alloc (.cells #[.int .i64 z1, .slice A1 l1.length c1, .slice B1 m1.length d1] 27)).alloc (.cells #[.int .i64 z2, .slice A2 l2.length c2, .slice B2 m2.length d2] 27)).heap[w.heap.size]? = some (.cells #[.int .i64 z1, .slice A1 l1.length c1, .slice B1 m1.length d1] 27 (0, 0)) := (Below.heap_alloc _ _ _ (by simp)).trans (heap_alloc_new w _)
  have k1 : ((w.alloc (.cells #[.int .i64 z1, .slice A1 l1.length c1, .slice B1 m1.length d1] 27)).alloc (.cells #[.int .i64 z2, .slice A2 l2.length c2, .slice B2 m2.length d2] 27)).heap[w.heap.size + 1]? = some (.cells #[.int .i64 z2, .slice A2 l2.length c2, .slice B2 m2.length d2] 27 (0, 0)) := by
    have h := heap_alloc_new (w.alloc (.cells #[.int .i64 z1, .slice A1 l1.length c1, .slice B1 m1.length d1] 27)) (.cells #[.int .i64 z2, .slice A2 l2.length c2, .slice B2 m2.length d2] 27)
    rw [World.size_alloc] at h
    exact h
  obtain ⟨b0, b1, b2⟩ := OrbK.row3 k0
  obtain ⟨n0, n1, n2⟩ := OrbK.row3 k1
  have hio1 := isOrbitSet_impl z1 l1 m1 hf1 _ _ (HX1.out.below hb0)
  have hIO2 := fun W (h : Below w.heap.size w W) => isOrbitSet_impl z2 l2 m2 hf2 _ W (HX2.out.below h)
  have HB0 := Lib.hid hb0
  have HK0 := Lib.hid k0
  have HK1 := Lib.hid k1
  clear hl1 hmr1 hm1 hl2 hmr2 hm2 k0 k1 hb0
  cases ho1 : orbB z1 l1 m1 with
  | false =>
    have hn : Hid (sameSB z1 l1 m1 z2 l2 m2 = false) := Lib.hid (by simp [sameSB, ho1])
    rw [ho1] at hio1
    clear ho1
    go_enter Tryz.func15, Tryz.ntmps15
    go_wp2_with (first
      | (go_at_call 12; (with_reducible refine hio1.mono ?_); rintro e w3 ⟨rfl, hb3⟩; have hbz3 := HB0.out.trans (hb3.mono HB0.out.size); have K3 := (hb3.block _ (OrbK.box_lt HK0.out)).trans HK0.out; have J3 := (hb3.block _ (OrbK.box_lt HK1.out)).trans HK1.out; clear b0 b1 b2 n0 n1 n2; obtain ⟨b0, b1, b2⟩ := OrbK.row3 K3; obtain ⟨n0, n1, n2⟩ := OrbK.row3 J3; skip))
    clear hio1 hb3 b0 b1 b2 n0 n1 n2 hIO2 K3 J3
    go_wp2
    go_ret
    exact ⟨bool_end hn.out.symm, hbz3⟩
  | true =>
    rw [ho1] at hio1
    cases ho2 : orbB z2 l2 m2 with
    | false =>
      have hn : Hid (sameSB z1 l1 m1 z2 l2 m2 = false) := Lib.hid (by simp [sameSB, ho2])
      simp only [ho2] at hIO2
      clear ho1 ho2
      go_enter Tryz.func15, Tryz.ntmps15
      go_wp2_with (first
        | (go_at_call 12; (with_reducible refine hio1.mono ?_); rintro e w3 ⟨rfl, hb3⟩; have hbz3 := HB0.out.trans (hb3.mono HB0.out.size); have K3 := (hb3.block _ (OrbK.box_lt HK0.out)).trans HK0.out; have J3 := (hb3.block _ (OrbK.box_lt HK1.out)).trans HK1.out; clear b0 b1 b2 n0 n1 n2; obtain ⟨b0, b1, b2⟩ := OrbK.row3 K3; obtain ⟨n0, n1, n2⟩ := OrbK.row3 J3; have hio2 := hIO2 w3 hbz3)
        | (go_at_call 12; (with_reducible refine hio2.mono ?_); rintro e w4 ⟨rfl, hb4⟩; have hbz4 := hbz3.trans (hb4.mono hbz3.size); have K4 := (hb4.block _ (OrbK.box_lt K3)).trans K3; have J4 := (hb4.block _ (OrbK.box_lt J3)).trans J3; clear b0 b1 b2 n0 n1 n2; obtain ⟨b0, b1, b2⟩ := OrbK.row3 K4; obtain ⟨n0, n1, n2⟩ := OrbK.row3 J4))
      clear hio1 hio2 hb3 hb4 hbz3 b0 b1 b2 n0 n1 n2 hIO2 K3 J3 K4 J4
      go_wp2
      go_ret
      exact ⟨bool_end hn.out.symm, hbz4⟩
    | true =>
      simp only [ho2] at hIO2
      by_cases hz : z1 = z2
      · subst hz
        obtain ⟨hwz, _⟩ := orb_rows ho1
        have hz4 := widB_iff.1 hwz
        obtain ⟨n, rfl⟩ : ∃ n : Nat, z1 = n := ⟨z1.toNat, by omega⟩
        have hn4 : n ≤ 4 := by omega
        have hsb : Hid (sameSB n l1 m1 n l2 m2 = (decide (redCz n l1 m1 = redCz n l2 m2) && decide (redMz n l1 m1 = redMz n l2 m2))) := Lib.hid (by simp [sameSB, ho1, ho2])
        have hcr1 := fun (W : World) (h : Below w.heap.size w W) => reduced_impl n l1 m1 hf1 _ W (HX1.out.below h)
        have hcr2 := fun (W : World) (h : Below w.heap.size w W) => reduced_impl n l2 m2 hf2 _ W (HX2.out.below h)
        rw [ho1] at hcr1
        rw [ho2] at hcr2
        change ∀ (W : World), Below w.heap.size w W → Calls Tryz.prog 18 _ W (OrbOut n (redCz n l1 m1) (redMz n l1 m1) W) at hcr1
        change ∀ (W : World), Below w.heap.size w W → Calls Tryz.prog 18 _ W (OrbOut n (redCz n l2 m2) (redMz n l2 m2) W) at hcr2
        obtain ⟨hcb1, hnm1⟩ := red_normal ho1
        obtain ⟨hcb2, hnm2⟩ := red_normal ho2
        rw [show ((n : Int).toNat) = n by omega] at hnm1 hnm2
        rw [hsb.out]
        clear ho1 ho2 hwz hz4 hsb
        generalize redCz n l1 m1 = C1 at *
        generalize redMz n l1 m1 = M1 at *
        generalize redCz n l2 m2 = C2 at *
        generalize redMz n l2 m2 = M2 at *
        have hk1 := const_len hcb1
        have hk2 := const_len hcb2
        have hft1 := normal_fit (k := (C1.length : Int)) (by omega) (by omega) hn4 hnm1
        have hft2 := normal_fit (k := (C2.length : Int)) (by omega) (by omega) hn4 hnm2
        have hdg : ∀ (C : List Int) (M : List (List Int)), C.length ≤ 3 → M = thoseL n C.length M → ∀ i, i < M.length → (rwAt M i).length ≤ 4 ∧ digP (rwAt M i) := fun C M hC hM i hi => by
          have h9 : rwAt M i ∈ M := by rw [rwAt_get _ _ hi]; exact List.getElem_mem hi
          have h8 : ∀ p ∈ M, p ∈ allP n C.length := fun p hp => by rw [hM] at hp; exact thoseL_sub p hp
          have h1 := dig_allP (k := (C.length : Int)) (by omega) (by omega) hn4 (h8 _ h9)
          exact ⟨by omega, h1.2⟩
        have HD1 := Lib.hid (hdg C1 M1 hk1 hnm1)
        have HD2 := Lib.hid (hdg C2 M2 hk2 hnm2)
        have HN1 := Lib.hid hnm1
        have HN2 := Lib.hid hnm2
        have HFF : Hid (M1.length ≤ 32768 ∧ M2.length ≤ 32768) := Lib.hid ⟨by omega, by omega⟩
        clear hdg hnm1 hnm2 hft1 hft2 hcb1 hcb2
        go_enter Tryz.func15, Tryz.ntmps15
        go_wp2_with (first
          | (go_at_call 12; (with_reducible refine hio1.mono ?_); rintro e w3 ⟨rfl, hb3⟩; have hbz3 := HB0.out.trans (hb3.mono HB0.out.size); have K3 := (hb3.block _ (OrbK.box_lt HK0.out)).trans HK0.out; have J3 := (hb3.block _ (OrbK.box_lt HK1.out)).trans HK1.out; clear b0 b1 b2 n0 n1 n2; obtain ⟨b0, b1, b2⟩ := OrbK.row3 K3; obtain ⟨n0, n1, n2⟩ := OrbK.row3 J3; have hio2 := hIO2 w3 hbz3)
          | (go_at_call 12; (with_reducible refine hio2.mono ?_); rintro e w4 ⟨rfl, hb4⟩; have hbz4 := hbz3.trans (hb4.mono hbz3.size); have K4 := (hb4.block _ (OrbK.box_lt K3)).trans K3; have J4 := (hb4.block _ (OrbK.box_lt J3)).trans J3; clear b0 b1 b2 n0 n1 n2; obtain ⟨b0, b1, b2⟩ := OrbK.row3 K4; obtain ⟨n0, n1, n2⟩ := OrbK.row3 J4))
        have hltk := OrbK.box_lt K4
        have hltj := OrbK.box_lt J4
        have HS : Hid (∀ W : World, Below w4.heap.size w4 W → (W.cell? ⟨w.heap.size, 0, none⟩ = some (.int .i64 (n : Int)) ∧ W.cell? ⟨w.heap.size, 1, none⟩ = some (.slice A1 l1.length c1) ∧ W.cell? ⟨w.heap.size, 2, none⟩ = some (.slice B1 m1.length d1)) ∧ W.cell? ⟨w.heap.size + 1, 0, none⟩ = some (.int .i64 (n : Int)) ∧ W.cell? ⟨w.heap.size + 1, 1, none⟩ = some (.slice A2 l2.length c2) ∧ W.cell? ⟨w.heap.size + 1, 2, none⟩ = some (.slice B2 m2.length d2)) :=
          Lib.hid (fun W h => ⟨⟨(h.cell (p := ⟨w.heap.size, 0, none⟩) hltk).trans b0, (h.cell (p := ⟨w.heap.size, 1, none⟩) hltk).trans b1, (h.cell (p := ⟨w.heap.size, 2, none⟩) hltk).trans b2⟩, (h.cell (p := ⟨w.heap.size + 1, 0, none⟩) hltj).trans n0, (h.cell (p := ⟨w.heap.size + 1, 1, none⟩) hltj).trans n1, (h.cell (p := ⟨w.heap.size + 1, 2, none⟩) hltj).trans n2⟩)
        have hec1 := fun (W : World) (h : Below w4.heap.size w4 W) => hcr1 W (hbz4.trans (h.mono hbz4.size))
        have hec2 := fun (W : World) (h : Below w4.heap.size w4 W) => hcr2 W (hbz4.trans (h.mono hbz4.size))
        have HBZ4 := Lib.hid hbz4
        clear hio1 hio2 hb3 hb4 hbz3 hbz4 b0 b1 b2 n0 n1 n2 hIO2 K3 J3 K4 J4 hltk hltj hcr1 hcr2 HB0 HK0 HK1
        try go_wp2_with fail
        go_cut [5, 6] (fun s t wx => Orb2 w4 n C1 M1 C2 M2 s t wx)
        case first =>
          clear HX1 HX2 HD1 HD2 HN1 HN2 HFF hk1 hk2 hn4 hf1 hf2 HBZ4
          have hz0 : Below w4.heap.size w4 w4.drew := grow_drew (Below.refl _ _)
          have hz1 : Below w4.heap.size w4 (w4.alloc (.cells #[.int .i64 0, .slice none 0 0, .slice none 0 0] 27)).drew := grow_drew (grow_alloc (Below.refl _ _) _)
          have hz2 : Below w4.heap.size w4 ((w4.alloc (.cells #[.int .i64 0, .slice none 0 0, .slice none 0 0] 27)).alloc (.cells #[.int .i64 0, .slice none 0 0, .slice none 0 0] 27)).drew := grow_drew (grow_alloc (grow_alloc (Below.refl _ _) _) _)
          have hc10 := hec1 _ hz0
          have hc11 := hec1 _ hz1
          have hc12 := hec1 _ hz2
          have tz1 := (zb_new w4).drew
          have ty1 := ((zb_new w4).alloc (.cells #[.int .i64 0, .slice none 0 0, .slice none 0 0] 27)).drew
          have ty2 := (zb_next w4).drew
          have drew_size : ∀ u : World, u.drew.heap.size = u.heap.size := fun _ => rfl
          go_region_held3 (fun w' => (w'.cell? ⟨w.heap.size, 0, none⟩ = some (.int .i64 (n : Int)) ∧ w'.cell? ⟨w.heap.size, 1, none⟩ = some (.slice A1 l1.length c1) ∧ w'.cell? ⟨w.heap.size, 2, none⟩ = some (.slice B1 m1.length d1)) ∧ w'.cell? ⟨w.heap.size + 1, 0, none⟩ = some (.int .i64 (n : Int)) ∧ w'.cell? ⟨w.heap.size + 1, 1, none⟩ = some (.slice A2 l2.length c2) ∧ w'.cell? ⟨w.heap.size + 1, 2, none⟩ = some (.slice B2 m2.length d2))
            ((refine HS.out _ ?_; (repeat (first | (with_reducible assumption) | (with_reducible refine grow_set ?_ (by (first | (with_reducible assumption) | omega)) _) | (with_reducible refine grow_alloc ?_ _) | (with_reducible refine grow_drew ?_) | (with_reducible exact Below.refl _ _)))))
            (first
            | (go_at_call 18; (with_reducible refine hc10.mono ?_); rintro e wa ⟨Aa, ca, Ba, da, Sa, rfl, hLa, hSa, hba⟩; have hn0 : True := trivial; have fra := hz0.trans (hba.mono hz0.size); have sza := fra.size; have sya := hba.size; (try simp only [drew_size] at hSa sya); have h20 := hec2 wa fra; have h21 := hec2 (wa.alloc (.cells #[.int .i64 0, .slice none 0 0, .slice none 0 0] 27)) (grow_alloc fra _); have h22 := hec2 ((wa.alloc (.cells #[.int .i64 0, .slice none 0 0, .slice none 0 0] 27)).alloc (.cells #[.int .i64 0, .slice none 0 0, .slice none 0 0] 27)) (grow_alloc (grow_alloc fra _) _))
            | (go_at_call 18; (with_reducible refine hc11.mono ?_); rintro e wa ⟨Aa, ca, Ba, da, Sa, rfl, hLa, hSa, hba⟩; have hn1 : True := trivial; have fra := hz1.trans (hba.mono hz1.size); have sza := fra.size; have sya := hba.size; (try simp only [drew_size, World.size_alloc] at hSa sya); have p1 := tz1.below hba; have h20 := hec2 wa fra; have h21 := hec2 (wa.alloc (.cells #[.int .i64 0, .slice none 0 0, .slice none 0 0] 27)) (grow_alloc fra _))
            | (go_at_call 18; (with_reducible refine hc12.mono ?_); rintro e wa ⟨Aa, ca, Ba, da, Sa, rfl, hLa, hSa, hba⟩; have hn2 : True := trivial; have fra := hz2.trans (hba.mono hz2.size); have sza := fra.size; have sya := hba.size; (try simp only [drew_size, World.size_alloc] at hSa sya); have p1 := ty1.below hba; have p2 := ty2.below hba; have h20 := hec2 wa fra)
            | (go_at_call 18; (have hn : True := hn0); (with_reducible refine h20.mono ?_); rintro e wb ⟨Ab, cb, Bb, db, Sb, rfl, hLb, hSb, hbb⟩; have frb := fra.trans (hbb.mono fra.size); have szb := frb.size; have szc := hbb.size; have gwa : Below wa.heap.size wa wa := (Below.refl _ _); have gab := gwa.trans (hbb.mono gwa.size); have gbx : Below wb.heap.size wb ((wb.alloc (.cells #[.int .i64 0, .slice none 0 0, .slice none 0 0] 27)).alloc (.cells #[.int .i64 0, .slice none 0 0, .slice none 0 0] 27)) := (grow_alloc (grow_alloc (Below.refl _ _) _) _); have LA := hLa.alike (w' := ((wb.alloc (.cells #[.int .i64 0, .slice none 0 0, .slice none 0 0] 27)).alloc (.cells #[.int .i64 0, .slice none 0 0, .slice none 0 0] 27))) (fun b hb' => (gbx.block b (Nat.lt_of_lt_of_le (hLa.lt b hb') gab.size)).trans (gab.block b (hLa.lt b hb'))); have LB := hLb.alike (w' := ((wb.alloc (.cells #[.int .i64 0, .slice none 0 0, .slice none 0 0] 27)).alloc (.cells #[.int .i64 0, .slice none 0 0, .slice none 0 0] 27))) (fun b hb' => gbx.block b (hLb.lt b hb')); (try simp only [World.size_alloc] at szc hSb); have t1 : ZBox ((wb.alloc (.cells #[.int .i64 0, .slice none 0 0, .slice none 0 0] 27)).alloc (.cells #[.int .i64 0, .slice none 0 0, .slice none 0 0] 27)) (wb.heap.size) := ((zb_new wb).alloc (.cells #[.int .i64 0, .slice none 0 0, .slice none 0 0] 27)); have t2 : ZBox ((wb.alloc (.cells #[.int .i64 0, .slice none 0 0, .slice none 0 0] 27)).alloc (.cells #[.int .i64 0, .slice none 0 0, .slice none 0 0] 27)) (wb.heap.size + 1) := (zb_next wb); have hne : wb.heap.size ≠ wb.heap.size + 1 := (by omega); have hg1 : w4.heap.size ≤ wb.heap.size := (by omega); have hg2 : w4.heap.size ≤ wb.heap.size + 1 := (by omega); have grx := (grow_alloc (grow_alloc frb (.cells #[.int .i64 0, .slice none 0 0, .slice none 0 0] 27)) (.cells #[.int .i64 0, .slice none 0 0, .slice none 0 0] 27)); have ea : ∀ b ∈ Sa, b ≠ wb.heap.size ∧ b ≠ wb.heap.size + 1 := (fun b hb' => ((by have h1 := hSa b hb'; have h2 := hLa.lt b hb'; omega) : b ≠ wb.heap.size ∧ b ≠ wb.heap.size + 1)); have eb : ∀ b ∈ Sb, b ≠ wb.heap.size ∧ b ≠ wb.heap.size + 1 := (fun b hb' => ((by have h1 := hSb b hb'; have h2 := hLb.lt b hb'; omega) : b ≠ wb.heap.size ∧ b ≠ wb.heap.size + 1)); have hne3 := hne.symm; obtain ⟨y1, y2, y3⟩ := OrbK.row3 t1; obtain ⟨y4, y5, y6⟩ := OrbK.row3 t2; obtain ⟨s1, s2, s3⟩ := z3At t1; obtain ⟨s4, s5, s6⟩ := z3At t2; have R12 := orb2_of t1 t2 hne LA LB ea eb hg1 hg2 grx; have R21 := orb2_of t2 t1 hne.symm LA LB (fun b hb' => (ea b hb').symm) (fun b hb' => (eb b hb').symm) hg2 hg1 grx; clear t1 t2 ea eb LA LB sza sya szb szc gwa gab gbx hLb hSb; (try clear h20); (try clear h21); (try clear h22))
            | (go_at_call 18; (have hn : True := hn0); (with_reducible refine h21.mono ?_); rintro e wb ⟨Ab, cb, Bb, db, Sb, rfl, hLb, hSb, hbb⟩; have frb := (grow_alloc fra (.cells #[.int .i64 0, .slice none 0 0, .slice none 0 0] 27)).trans (hbb.mono (grow_alloc fra (.cells #[.int .i64 0, .slice none 0 0, .slice none 0 0] 27)).size); have szb := frb.size; have szc := hbb.size; have gwa : Below wa.heap.size wa (wa.alloc (.cells #[.int .i64 0, .slice none 0 0, .slice none 0 0] 27)) := (grow_alloc (Below.refl _ _) _); have gab := gwa.trans (hbb.mono gwa.size); have gbx : Below wb.heap.size wb (wb.alloc (.cells #[.int .i64 0, .slice none 0 0, .slice none 0 0] 27)) := (grow_alloc (Below.refl _ _) _); have LA := hLa.alike (w' := (wb.alloc (.cells #[.int .i64 0, .slice none 0 0, .slice none 0 0] 27))) (fun b hb' => (gbx.block b (Nat.lt_of_lt_of_le (hLa.lt b hb') gab.size)).trans (gab.block b (hLa.lt b hb'))); have LB := hLb.alike (w' := (wb.alloc (.cells #[.int .i64 0, .slice none 0 0, .slice none 0 0] 27))) (fun b hb' => gbx.block b (hLb.lt b hb')); (try simp only [World.size_alloc] at szc hSb); have t1 : ZBox (wb.alloc (.cells #[.int .i64 0, .slice none 0 0, .slice none 0 0] 27)) (wa.heap.size) := (((zb_new wa).below hbb).alloc (.cells #[.int .i64 0, .slice none 0 0, .slice none 0 0] 27)); have t2 : ZBox (wb.alloc (.cells #[.int .i64 0, .slice none 0 0, .slice none 0 0] 27)) (wb.heap.size) := (zb_new wb); have hne : wa.heap.size ≠ wb.heap.size := (by omega); have hg1 : w4.heap.size ≤ wa.heap.size := (by omega); have hg2 : w4.heap.size ≤ wb.heap.size := (by omega); have grx := (grow_alloc frb (.cells #[.int .i64 0, .slice none 0 0, .slice none 0 0] 27)); have ea : ∀ b ∈ Sa, b ≠ wa.heap.size ∧ b ≠ wb.heap.size := (fun b hb' => ((by have h1 := hSa b hb'; have h2 := hLa.lt b hb'; omega) : b ≠ wa.heap.size ∧ b ≠ wb.heap.size)); have eb : ∀ b ∈ Sb, b ≠ wa.heap.size ∧ b ≠ wb.heap.size := (fun b hb' => ((by have h1 := hSb b hb'; have h2 := hLb.lt b hb'; omega) : b ≠ wa.heap.size ∧ b ≠ wb.heap.size)); have hne3 := hne.symm; obtain ⟨y1, y2, y3⟩ := OrbK.row3 t1; obtain ⟨y4, y5, y6⟩ := OrbK.row3 t2; obtain ⟨s1, s2, s3⟩ := z3At t1; obtain ⟨s4, s5, s6⟩ := z3At t2; have R12 := orb2_of t1 t2 hne LA LB ea eb hg1 hg2 grx; have R21 := orb2_of t2 t1 hne.symm LA LB (fun b hb' => (ea b hb').symm) (fun b hb' => (eb b hb').symm) hg2 hg1 grx; clear t1 t2 ea eb LA LB sza sya szb szc gwa gab gbx hLb hSb; (try clear h20); (try clear h21); (try clear h22))
            | (go_at_call 18; (have hn : True := hn0); (with_reducible refine h22.mono ?_); rintro e wb ⟨Ab, cb, Bb, db, Sb, rfl, hLb, hSb, hbb⟩; have frb := (grow_alloc (grow_alloc fra (.cells #[.int .i64 0, .slice none 0 0, .slice none 0 0] 27)) (.cells #[.int .i64 0, .slice none 0 0, .slice none 0 0] 27)).trans (hbb.mono (grow_alloc (grow_alloc fra (.cells #[.int .i64 0, .slice none 0 0, .slice none 0 0] 27)) (.cells #[.int .i64 0, .slice none 0 0, .slice none 0 0] 27)).size); have szb := frb.size; have szc := hbb.size; have gwa : Below wa.heap.size wa ((wa.alloc (.cells #[.int .i64 0, .slice none 0 0, .slice none 0 0] 27)).alloc (.cells #[.int .i64 0, .slice none 0 0, .slice none 0 0] 27)) := (grow_alloc (grow_alloc (Below.refl _ _) _) _); have gab := gwa.trans (hbb.mono gwa.size); have gbx : Below wb.heap.size wb wb := (Below.refl _ _); have LA := hLa.alike (w' := wb) (fun b hb' => (gbx.block b (Nat.lt_of_lt_of_le (hLa.lt b hb') gab.size)).trans (gab.block b (hLa.lt b hb'))); have LB := hLb.alike (w' := wb) (fun b hb' => gbx.block b (hLb.lt b hb')); (try simp only [World.size_alloc] at szc hSb); have t1 : ZBox wb (wa.heap.size) := (((zb_new wa).alloc (.cells #[.int .i64 0, .slice none 0 0, .slice none 0 0] 27)).below hbb); have t2 : ZBox wb (wa.heap.size + 1) := ((zb_next wa).below hbb); have hne : wa.heap.size ≠ wa.heap.size + 1 := (by omega); have hg1 : w4.heap.size ≤ wa.heap.size := (by omega); have hg2 : w4.heap.size ≤ wa.heap.size + 1 := (by omega); have grx := frb; have ea : ∀ b ∈ Sa, b ≠ wa.heap.size ∧ b ≠ wa.heap.size + 1 := (fun b hb' => ((by have h1 := hSa b hb'; have h2 := hLa.lt b hb'; omega) : b ≠ wa.heap.size ∧ b ≠ wa.heap.size + 1)); have eb : ∀ b ∈ Sb, b ≠ wa.heap.size ∧ b ≠ wa.heap.size + 1 := (fun b hb' => ((by have h1 := hSb b hb'; have h2 := hLb.lt b hb'; omega) : b ≠ wa.heap.size ∧ b ≠ wa.heap.size + 1)); have hne3 := hne.symm; obtain ⟨y1, y2, y3⟩ := OrbK.row3 t1; obtain ⟨y4, y5, y6⟩ := OrbK.row3 t2; obtain ⟨s1, s2, s3⟩ := z3At t1; obtain ⟨s4, s5, s6⟩ := z3At t2; have R12 := orb2_of t1 t2 hne LA LB ea eb hg1 hg2 grx; have R21 := orb2_of t2 t1 hne.symm LA LB (fun b hb' => (ea b hb').symm) (fun b hb' => (eb b hb').symm) hg2 hg1 grx; clear t1 t2 ea eb LA LB sza sya szb szc gwa gab gbx hLb hSb; (try clear h20); (try clear h21); (try clear h22))
            | (go_at_call 18; (have hn : True := hn1); (with_reducible refine h20.mono ?_); rintro e wb ⟨Ab, cb, Bb, db, Sb, rfl, hLb, hSb, hbb⟩; have frb := fra.trans (hbb.mono fra.size); have szb := frb.size; have szc := hbb.size; have gwa : Below wa.heap.size wa wa := (Below.refl _ _); have gab := gwa.trans (hbb.mono gwa.size); have gbx : Below wb.heap.size wb (wb.alloc (.cells #[.int .i64 0, .slice none 0 0, .slice none 0 0] 27)) := (grow_alloc (Below.refl _ _) _); have LA := hLa.alike (w' := (wb.alloc (.cells #[.int .i64 0, .slice none 0 0, .slice none 0 0] 27))) (fun b hb' => (gbx.block b (Nat.lt_of_lt_of_le (hLa.lt b hb') gab.size)).trans (gab.block b (hLa.lt b hb'))); have LB := hLb.alike (w' := (wb.alloc (.cells #[.int .i64 0, .slice none 0 0, .slice none 0 0] 27))) (fun b hb' => gbx.block b (hLb.lt b hb')); (try simp only [World.size_alloc] at szc hSb); have t1 : ZBox (wb.alloc (.cells #[.int .i64 0, .slice none 0 0, .slice none 0 0] 27)) (w4.heap.size) := ((p1.below hbb).alloc (.cells #[.int .i64 0, .slice none 0 0, .slice none 0 0] 27)); have t2 : ZBox (wb.alloc (.cells #[.int .i64 0, .slice none 0 0, .slice none 0 0] 27)) (wb.heap.size) := (zb_new wb); have hne : w4.heap.size ≠ wb.heap.size := (by omega); have hg1 : w4.heap.size ≤ w4.heap.size := (by omega); have hg2 : w4.heap.size ≤ wb.heap.size := (by omega); have grx := (grow_alloc frb (.cells #[.int .i64 0, .slice none 0 0, .slice none 0 0] 27)); have ea : ∀ b ∈ Sa, b ≠ w4.heap.size ∧ b ≠ wb.heap.size := (fun b hb' => ((by have h1 := hSa b hb'; have h2 := hLa.lt b hb'; omega) : b ≠ w4.heap.size ∧ b ≠ wb.heap.size)); have eb : ∀ b ∈ Sb, b ≠ w4.heap.size ∧ b ≠ wb.heap.size := (fun b hb' => ((by have h1 := hSb b hb'; have h2 := hLb.lt b hb'; omega) : b ≠ w4.heap.size ∧ b ≠ wb.heap.size)); have hne3 := hne.symm; obtain ⟨y1, y2, y3⟩ := OrbK.row3 t1; obtain ⟨y4, y5, y6⟩ := OrbK.row3 t2; obtain ⟨s1, s2, s3⟩ := z3At t1; obtain ⟨s4, s5, s6⟩ := z3At t2; have R12 := orb2_of t1 t2 hne LA LB ea eb hg1 hg2 grx; have R21 := orb2_of t2 t1 hne.symm LA LB (fun b hb' => (ea b hb').symm) (fun b hb' => (eb b hb').symm) hg2 hg1 grx; clear t1 t2 ea eb LA LB sza sya szb szc gwa gab gbx hLb hSb; (try clear h20); (try clear h21); (try clear h22))
            | (go_at_call 18; (have hn : True := hn1); (with_reducible refine h21.mono ?_); rintro e wb ⟨Ab, cb, Bb, db, Sb, rfl, hLb, hSb, hbb⟩; have frb := (grow_alloc fra (.cells #[.int .i64 0, .slice none 0 0, .slice none 0 0] 27)).trans (hbb.mono (grow_alloc fra (.cells #[.int .i64 0, .slice none 0 0, .slice none 0 0] 27)).size); have szb := frb.size; have szc := hbb.size; have gwa : Below wa.heap.size wa (wa.alloc (.cells #[.int .i64 0, .slice none 0 0, .slice none 0 0] 27)) := (grow_alloc (Below.refl _ _) _); have gab := gwa.trans (hbb.mono gwa.size); have gbx : Below wb.heap.size wb wb := (Below.refl _ _); have LA := hLa.alike (w' := wb) (fun b hb' => (gbx.block b (Nat.lt_of_lt_of_le (hLa.lt b hb') gab.size)).trans (gab.block b (hLa.lt b hb'))); have LB := hLb.alike (w' := wb) (fun b hb' => gbx.block b (hLb.lt b hb')); (try simp only [World.size_alloc] at szc hSb); have t1 : ZBox wb (w4.heap.size) := ((p1.alloc (.cells #[.int .i64 0, .slice none 0 0, .slice none 0 0] 27)).below hbb); have t2 : ZBox wb (wa.heap.size) := ((zb_new wa).below hbb); have hne : w4.heap.size ≠ wa.heap.size := (by omega); have hg1 : w4.heap.size ≤ w4.heap.size := (by omega); have hg2 : w4.heap.size ≤ wa.heap.size := (by omega); have grx := frb; have ea : ∀ b ∈ Sa, b ≠ w4.heap.size ∧ b ≠ wa.heap.size := (fun b hb' => ((by have h1 := hSa b hb'; have h2 := hLa.lt b hb'; omega) : b ≠ w4.heap.size ∧ b ≠ wa.heap.size)); have eb : ∀ b ∈ Sb, b ≠ w4.heap.size ∧ b ≠ wa.heap.size := (fun b hb' => ((by have h1 := hSb b hb'; have h2 := hLb.lt b hb'; omega) : b ≠ w4.heap.size ∧ b ≠ wa.heap.size)); have hne3 := hne.symm; obtain ⟨y1, y2, y3⟩ := OrbK.row3 t1; obtain ⟨y4, y5, y6⟩ := OrbK.row3 t2; obtain ⟨s1, s2, s3⟩ := z3At t1; obtain ⟨s4, s5, s6⟩ := z3At t2; have R12 := orb2_of t1 t2 hne LA LB ea eb hg1 hg2 grx; have R21 := orb2_of t2 t1 hne.symm LA LB (fun b hb' => (ea b hb').symm) (fun b hb' => (eb b hb').symm) hg2 hg1 grx; clear t1 t2 ea eb LA LB sza sya szb szc gwa gab gbx hLb hSb; (try clear h20); (try clear h21); (try clear h22))
            | (go_at_call 18; (have hn : True := hn2); (with_reducible refine h20.mono ?_); rintro e wb ⟨Ab, cb, Bb, db, Sb, rfl, hLb, hSb, hbb⟩; have frb := fra.trans (hbb.mono fra.size); have szb := frb.size; have szc := hbb.size; have gwa : Below wa.heap.size wa wa := (Below.refl _ _); have gab := gwa.trans (hbb.mono gwa.size); have gbx : Below wb.heap.size wb wb := (Below.refl _ _); have LA := hLa.alike (w' := wb) (fun b hb' => (gbx.block b (Nat.lt_of_lt_of_le (hLa.lt b hb') gab.size)).trans (gab.block b (hLa.lt b hb'))); have LB := hLb.alike (w' := wb) (fun b hb' => gbx.block b (hLb.lt b hb')); (try simp only [World.size_alloc] at szc hSb); have t1 : ZBox wb (w4.heap.size) := (p1.below hbb); have t2 : ZBox wb (w4.heap.size + 1) := (p2.below hbb); have hne : w4.heap.size ≠ w4.heap.size + 1 := (by omega); have hg1 : w4.heap.size ≤ w4.heap.size := (by omega); have hg2 : w4.heap.size ≤ w4.heap.size + 1 := (by omega); have grx := frb; have ea : ∀ b ∈ Sa, b ≠ w4.heap.size ∧ b ≠ w4.heap.size + 1 := (fun b hb' => ((by have h1 := hSa b hb'; have h2 := hLa.lt b hb'; omega) : b ≠ w4.heap.size ∧ b ≠ w4.heap.size + 1)); have eb : ∀ b ∈ Sb, b ≠ w4.heap.size ∧ b ≠ w4.heap.size + 1 := (fun b hb' => ((by have h1 := hSb b hb'; have h2 := hLb.lt b hb'; omega) : b ≠ w4.heap.size ∧ b ≠ w4.heap.size + 1)); have hne3 := hne.symm; obtain ⟨y1, y2, y3⟩ := OrbK.row3 t1; obtain ⟨y4, y5, y6⟩ := OrbK.row3 t2; obtain ⟨s1, s2, s3⟩ := z3At t1; obtain ⟨s4, s5, s6⟩ := z3At t2; have R12 := orb2_of t1 t2 hne LA LB ea eb hg1 hg2 grx; have R21 := orb2_of t2 t1 hne.symm LA LB (fun b hb' => (ea b hb').symm) (fun b hb' => (eb b hb').symm) hg2 hg1 grx; clear t1 t2 ea eb LA LB sza sya szb szc gwa gab gbx hLb hSb; (try clear h20); (try clear h21); (try clear h22))
            | fail)
          all_goals
            go_wp2_with fail
            go_meet
            first
              | exact R12
              | exact R21
        case rest =>
          obtain ⟨g, h, Aa, ca, Ba, da, Ab, cb, Bb, db, rfl, rfl, hg, hh, hC1, hR1, hC2, hR2, hbc⟩ := hcut
          have hltg := OrbK.box_lt hg
          have hlth := OrbK.box_lt hh
          obtain ⟨_, p1, p2⟩ := OrbK.row3 hg
          obtain ⟨_, q1, q2⟩ := OrbK.row3 hh
          have hdw : Below wc.heap.size wc wc.drew := grow_drew (Below.refl _ _)
          have HS3 : Hid (∀ W : World, Below wc.heap.size wc W → (W.cell? ⟨g, 1, none⟩ = some (.slice Aa C1.length ca) ∧ W.cell? ⟨g, 2, none⟩ = some (.slice Ba M1.length da)) ∧ W.cell? ⟨h, 1, none⟩ = some (.slice Ab C2.length cb) ∧ W.cell? ⟨h, 2, none⟩ = some (.slice Bb M2.length db)) :=
            Lib.hid (fun W k => ⟨⟨(k.cell (p := ⟨g, 1, none⟩) hltg).trans p1, (k.cell (p := ⟨g, 2, none⟩) hltg).trans p2⟩, (k.cell (p := ⟨h, 1, none⟩) hlth).trans q1, (k.cell (p := ⟨h, 2, none⟩) hlth).trans q2⟩)
          have heq := equalI_any Aa Ab ca cb C1 C2 wc.drew (hC1.1.below hdw) (hC2.1.below hdw) (by omega) (by omega)
          have HCO1 := Lib.hid (fun (W : World) (k : Below wc.heap.size wc W) => codesOf_any Ba da M1 W (hR1.below k) (by have := HFF.out.1; omega) HD1.out)
          have HCO2 := Lib.hid (fun (W : World) (k : Below wc.heap.size wc W) => codesOf_any Bb db M2 W (hR2.below k) (by have := HFF.out.2; omega) HD2.out)
          unfold TabP at HCO1 HCO2
          have hbw := HBZ4.out.trans (hbc.mono HBZ4.out.size)
          obtain ⟨⟨f1, f2⟩, f3, f4⟩ := HS3.out wc.drew hdw
          have hC1q := hC1.1
          have hC2q := hC2.1
          have P1 := p1
          have P3 := q1
          clear HS hec1 hec2 hg hh hC1 hR1 hC2 hR2 hltg hlth p1 p2 q1 q2
          by_cases hcc : C1 = C2
          · have hn : Hid ((decide (C1 = C2) && decide (M1 = M2)) = eqTab (tabOf M1) (tabOf M2)) := Lib.hid (by
              have h1 := HN1.out
              have h2 := HN2.out
              rw [← hcc] at h2
              rw [tab_same (k := (C1.length : Int)) (by omega) (by omega) hn4 h1 h2]
              simp [hcc])
            have hEQ := fun W => run_eql_tab (tabOf M1) (tabOf M2) W
            rw [decide_eq_true hcc] at heq
            have hGD : Tryz.prog.eqGuardType Tryz.prog.depth 74 = false := by kernel_rfl
            clear hcc HN1 HN2 HD1 HD2 P1 P3 hC1q hC2q
            generalize eqTab (tabOf M1) (tabOf M2) = kb at *
            generalize tabV (tabOf M1) = t1 at *
            generalize tabV (tabOf M2) = t2 at *
            try go_wp2_with fail
            go_region_held3 (fun w' => (w'.cell? ⟨g, 1, none⟩ = some (.slice Aa C1.length ca) ∧ w'.cell? ⟨g, 2, none⟩ = some (.slice Ba M1.length da)) ∧ w'.cell? ⟨h, 1, none⟩ = some (.slice Ab C2.length cb) ∧ w'.cell? ⟨h, 2, none⟩ = some (.slice Bb M2.length db))
              (with_reducible exact ⟨⟨by assumption, by assumption⟩, by assumption, by assumption⟩)
              (first
              | (go_at_call 47; (with_reducible refine heq.mono ?_); rintro e w5 ⟨rfl, hb5⟩; have fr5 := hdw.trans (hb5.mono hdw.size); obtain ⟨⟨j1, j2⟩, j3, j4⟩ := HS3.out w5 fr5; have hcq := HCO1.out w5 fr5)
              | (go_at_call 49; (with_reducible refine hcq.mono ?_); rintro e w6 ⟨rfl, hb6⟩; have fr6 := fr5.trans (hb6.mono fr5.size); obtain ⟨⟨i1, i2⟩, i3, i4⟩ := HS3.out w6 fr6; have hcp := HCO2.out w6 fr6)
              | (go_at_call 49; (with_reducible refine hcp.mono ?_); rintro e w7 ⟨rfl, hb7⟩; have fr7 := fr6.trans (hb7.mono fr6.size); obtain ⟨⟨o1, o2⟩, o3, o4⟩ := HS3.out w7 fr7; have hEQ3 := hEQ w7)
              | fail)
            have hbe := hbw.trans (fr7.mono hbw.size)
            clear f1 f2 f3 f4 j1 j2 j3 j4 i1 i2 i3 i4 o1 o2 o3 o4 heq hcq hcp fr5 fr6 fr7 hb5 hb6 hb7 HS3 HCO1 HCO2 hdw hEQ hEQ3
            go_wp2
            go_ret
            exact ⟨bool_end hn.out.symm, hbe⟩
          · have hn : Hid ((decide (C1 = C2) && decide (M1 = M2)) = false) := Lib.hid (by simp [hcc])
            have hqf := fun d os => equalI_any Aa Ab ca cb C1 C2 (grow (redrawn wc d) os) (hC1q.below (below_regrown wc d os)) (hC2q.below (below_regrown wc d os)) (by omega) (by omega)
            rw [decide_eq_false hcc] at hqf
            have q1 := fun d os => cell_regrown P1 d os
            have q3 := fun d os => cell_regrown P3 d os
            clear HN1 HN2 HD1 HD2 HCO1 HCO2 f1 f2 f3 f4 heq HS3 hdw hcc P1 P3 hC1q hC2q
            try go_wp2_with fail
            refine wp_region_quiet_below (by kernel_rfl) (by kernel_rfl) ?_
            repeat (any_goals (first | go_big_quiet_step ((go_at_call 47; exact Calls.regrown_of (hqf _ _))) | quiet_step ((go_at_call 47; exact Calls.regrown_of (hqf _ _)))))
            refine wpQuiet_nil ?_
            intro _ hw'
            obtain ⟨⟨dq, osq⟩, hw''⟩ := hw'
            subst hw''
            have hbe := hbw.trans ((below_regrown wc dq osq).mono hbw.size)
            generalize grow (redrawn wc dq) osq = w9 at hbe ⊢
            clear q1 q3 hqf
            go_wp2
            go_ret
            exact ⟨bool_end hn.out.symm, hbe⟩
      · have hzn : (z1 != z2) = true := by simpa using hz
        have hn : Hid (sameSB z1 l1 m1 z2 l2 m2 = false) := Lib.hid (by simp [sameSB, hz])
        clear ho1 ho2
        go_enter Tryz.func15, Tryz.ntmps15
        go_wp2_with (first
          | (go_at_call 12; (with_reducible refine hio1.mono ?_); rintro e w3 ⟨rfl, hb3⟩; have hbz3 := HB0.out.trans (hb3.mono HB0.out.size); have K3 := (hb3.block _ (OrbK.box_lt HK0.out)).trans HK0.out; have J3 := (hb3.block _ (OrbK.box_lt HK1.out)).trans HK1.out; clear b0 b1 b2 n0 n1 n2; obtain ⟨b0, b1, b2⟩ := OrbK.row3 K3; obtain ⟨n0, n1, n2⟩ := OrbK.row3 J3; have hio2 := hIO2 w3 hbz3)
          | (go_at_call 12; (with_reducible refine hio2.mono ?_); rintro e w4 ⟨rfl, hb4⟩; have hbz4 := hbz3.trans (hb4.mono hbz3.size); have K4 := (hb4.block _ (OrbK.box_lt K3)).trans K3; have J4 := (hb4.block _ (OrbK.box_lt J3)).trans J3; clear b0 b1 b2 n0 n1 n2; obtain ⟨b0, b1, b2⟩ := OrbK.row3 K4; obtain ⟨n0, n1, n2⟩ := OrbK.row3 J4))
        clear hio1 hio2 hb3 hb4 hbz3 b0 b1 b2 n0 n1 n2 hIO2 K3 J3 K4 J4
        go_wp2
        go_ret
        exact ⟨bool_end hn.out.symm, hbz4⟩
end Go.Proofs.YtnamlgacjhnpnaaGreat
end

