/-
  A binder with another atom in the place of its own, in the program, as a contract.
-/
import Derived.Test.YtlhjgjfnmejiaaaGreatKComesOf17
import Derived.Test.YtlhjgjfnmejiaaaGreatKComesOf22
namespace Go.Proofs.YtlhjgjfnmejiaaaGreat
open Go.RowKit Go.Sort
set_option linter.unusedVariables false

theorem set2_block {w : World} {g : Nat} {u v a b : Value} {T : TypeId} (h : w.heap[g]? = some (.cells #[u, v] T (0, 0))) : ((w.setCell ⟨g, 0, none⟩ a).setCell ⟨g, 1, none⟩ b).heap[g]? = some (.cells #[a, b] T (0, 0)) := by
  obtain ⟨hlt, hk⟩ := Array.getElem?_eq_some_iff.1 h
  have h1 : (w.setCell ⟨g, 0, none⟩ a).heap[g]? = some (.cells #[a, v] T (0, 0)) := by
    show (w.heap.modify g _)[g]? = _
    rw [Array.getElem?_eq_getElem (by rw [Array.size_modify]; exact hlt), Array.getElem_modify_self, hk]
    rfl
  obtain ⟨hlt1, hk1⟩ := Array.getElem?_eq_some_iff.1 h1
  show ((w.setCell ⟨g, 0, none⟩ a).heap.modify g _)[g]? = _
  rw [Array.getElem?_eq_getElem (by rw [Array.size_modify]; exact hlt1), Array.getElem_modify_self, hk1]
  rfl

theorem set2_other {w : World} {g h : Nat} {a b : Value} (hne : h ≠ g) : ((w.setCell ⟨g, 0, none⟩ a).setCell ⟨g, 1, none⟩ b).heap[h]? = w.heap[h]? :=
  (Below.heap_setCell (w.setCell ⟨g, 0, none⟩ a) ⟨g, 1, none⟩ b h hne).trans (Below.heap_setCell w ⟨g, 0, none⟩ a h hne)

theorem set2_keep {w : World} {h g q : Nat} {v a b : Value} (hv : w.cell? ⟨h, q, none⟩ = some v) (hne : h ≠ g) : ((w.setCell ⟨g, 0, none⟩ a).setCell ⟨g, 1, none⟩ b).cell? ⟨h, q, none⟩ = some v :=
  (World.cell?_of_block (w := w) (a := ⟨h, q, none⟩) (set2_other hne)).trans hv

theorem row2 {w : World} {g : Nat} {a b : Value} {T : TypeId} (h : w.heap[g]? = some (.cells #[a, b] T (0, 0))) : w.cell? ⟨g, 0, none⟩ = some a ∧ w.cell? ⟨g, 1, none⟩ = some b ∧ w.frozen? ⟨g, 0, none⟩ = false ∧ w.frozen? ⟨g, 1, none⟩ = false :=
  ⟨by rw [cell_of_row _ _ _ _ _ _ h]; rfl, by rw [cell_of_row _ _ _ _ _ _ h]; rfl, frozen_of_row _ _ 0 _ _ h, frozen_of_row _ _ 1 _ _ h⟩

theorem swapL_len (a b : Int) : (swapL a b).length ≤ 2 := by
  unfold swapL
  split
  · simp
  · split <;> simp
theorem swapL_asc (a b : Int) : Asc (swapL a b) := by
  unfold swapL
  split
  · exact asc_nil
  · split
    · exact asc_list (by unfold AscP froms; simp; omega)
    · exact asc_list (by unfold AscP froms; simp; omega)

set_option maxRecDepth 100000 in
set_option maxHeartbeats 2000000 in
/-- The binder of n with the body k, with a in the place of n. -/
theorem renamed_any (n a : Int) (v : Value) (k : Tm) (q : Nat → Prop) (w : World) (hv : FIn w q v k) (hsz : szT k ≤ 1048576) (hP : OkP 1048576 k) :
    Calls Tryz.prog 151 #[.agg #[.int .i64 n, v], .int .i64 a] w fun e w' => ∃ y, e = .returned (.agg #[.int .i64 a, y]) ∧ FIn w' (fun x => w.heap.size ≤ x) y (actT (swapL n a) k) ∧ Below w.heap.size w w' := by
  obtain ⟨fx, rfl⟩ := hv.iface
  have hm := askAct k
  have hn := enterAct k
  have hb0 : Below w.heap.size w ((w.alloc (.cells #[.int .i64 n, .iface (fty k) fx] 159)).alloc (.cells #[.int .i64 0, .nilIface] 159)) := ((Below.refl _ w).alloc (Nat.le_refl _) _).alloc (by simp) _
  have hsw := fun W => swapOf_impl n a W
  have hact := fun (W : World) (A : Option Addr) (c : Nat) (hA : PairsAt W A (swapL n a)) (hW : FIn W q (.iface (fty k) fx) k) => act_any (szT k) k (Nat.le_refl _) hsz hP q W fx A c (swapL n a) hA (by have := swapL_len n a; omega) (swapL_asc n a) hW
  have h1 := (Below.heap_alloc (w.alloc (.cells #[.int .i64 n, .iface (fty k) fx] 159)) (.cells #[.int .i64 0, .nilIface] 159) w.heap.size (by simp)).trans (heap_alloc_new w (.cells #[.int .i64 n, .iface (fty k) fx] 159))
  have h2 := heap_alloc_new (w.alloc (.cells #[.int .i64 n, .iface (fty k) fx] 159)) (.cells #[.int .i64 0, .nilIface] 159)
  rw [World.size_alloc] at h2
  have hsz2 : ((w.alloc (.cells #[.int .i64 n, .iface (fty k) fx] 159)).alloc (.cells #[.int .i64 0, .nilIface] 159)).heap.size = w.heap.size + 2 := by simp
  generalize actF k = F at hm hn hact
  generalize fty k = T at *
  generalize actT (swapL n a) k = r at *
  generalize swapL n a = L at *
  go_enter Tryz.func151, Tryz.ntmps151
  go_wp2
  generalize (w.alloc (.cells #[.int .i64 n, .iface T fx] 159)).alloc (.cells #[.int .i64 0, .nilIface] 159) = W at hb0 h1 h2 hsz2 ⊢
  have hdw : Below W.heap.size W W.drew := ⟨rfl, rfl, rfl, Nat.le_refl _, fun _ _ => rfl⟩
  have HB := Lib.hid (hb0.trans (hdw.mono hb0.size))
  have h1d : W.drew.heap[w.heap.size]? = _ := h1
  have h2d : W.drew.heap[w.heap.size + 1]? = _ := h2
  have hszd : W.drew.heap.size = w.heap.size + 2 := hsz2
  have hsw' := hsw W.drew
  obtain ⟨m0, m1, _, _⟩ := row2 h1d
  have HF := Lib.hid (fun (W' : World) (h : Below W.drew.heap.size W.drew W') => (hv.keep (HB.out.trans (h.mono HB.out.size))))
  have H1 := Lib.hid h1d
  have H2 := Lib.hid h2d
  have HZ := Lib.hid hszd
  have hne : w.heap.size ≠ w.heap.size + 1 := by omega
  clear hsw hdw h1 h2 h1d h2d hb0 hsz2 hszd hv
  go_region_held3 (fun w' => w'.cell? ⟨w.heap.size, 0, none⟩ = some (.int .i64 n) ∧ w'.cell? ⟨w.heap.size, 1, none⟩ = some (.iface T fx))
    (first | ((try dsimp only); (with_reducible exact ⟨by assumption, by assumption⟩)) | (with_reducible exact ⟨set2_keep (by assumption) (by assumption), set2_keep (by assumption) (by assumption)⟩) | go_keep)
    (first
      | (go_at_call 178; refine hsw'.mono ?_; rintro e w2 ⟨vp, rfl, op, hb2⟩; obtain ⟨A, c, rfl, hp⟩ := own_pairsAt op; have k1 := (hb2.block w.heap.size (by rw [HZ.out]; omega)).trans H1.out; have k2 := (hb2.block (w.heap.size + 1) (by rw [HZ.out]; omega)).trans H2.out; have hsz3 := hb2.size; rw [HZ.out] at hsz3; obtain ⟨m2, m3, _, _⟩ := row2 k1; have hct := hact w2 A c hp (HF.out w2 hb2); have HB2 := Lib.hid hb2; have K1 := Lib.hid k1; have K2 := Lib.hid k2; clear op k1 k2 hb2)
      | (refine hct.mono ?_; rintro e w3 ⟨fv, rfl, hfv, hb3⟩; obtain ⟨fy, rfl⟩ := hfv.iface; have k1 := (hb3.block w.heap.size (by omega)).trans K1.out; have k2 := (hb3.block (w.heap.size + 1) (by omega)).trans K2.out; obtain ⟨m4, m5, _, _⟩ := row2 k1; obtain ⟨r0, r1, r2, r3⟩ := row2 k2; have K3 := Lib.hid k2; clear k1 k2)
      | fail)
  have hB3 := (HB.out.trans (HB2.out.mono HB.out.size)).trans (hb3.mono (Nat.le_trans HB.out.size HB2.out.size))
  have hfin : (∃ y, Ending.returned (.agg #[.int .i64 a, .iface (fty r) fy]) = .returned (.agg #[.int .i64 a, y]) ∧ FIn ((w3.setCell ⟨w.heap.size + 1, 0, none⟩ (.int .i64 a)).setCell ⟨w.heap.size + 1, 1, none⟩ (.iface (fty r) fy)) (fun x => w.heap.size ≤ x) y r ∧ Below w.heap.size w ((w3.setCell ⟨w.heap.size + 1, 0, none⟩ (.int .i64 a)).setCell ⟨w.heap.size + 1, 1, none⟩ (.iface (fty r) fy))) := by
    refine ⟨_, rfl, hfv.over ⟨by simp, fun b hq _ => set2_other (fun e => ?_), fun b hq _ => ?_⟩, (hB3.setCell (p := ⟨w.heap.size + 1, 0, none⟩) (show w.heap.size ≤ w.heap.size + 1 by omega) _).setCell (p := ⟨w.heap.size + 1, 1, none⟩) (show w.heap.size ≤ w.heap.size + 1 by omega) _⟩
    all_goals
      rcases hq with h | h
      · omega
      · (try show w.heap.size ≤ b)
        omega
  have k5 := set2_block (a := .int .i64 a) (b := .iface (fty r) fy) K3.out
  obtain ⟨s0, s1, _, _⟩ := row2 k5
  generalize (w3.setCell ⟨w.heap.size + 1, 0, none⟩ (.int .i64 a)).setCell ⟨w.heap.size + 1, 1, none⟩ (.iface (fty r) fy) = W5 at hfin s0 s1 ⊢
  clear hct hsw' hact HF HB HB2 H1 H2 HZ K1 K2 K3 k5 hB3 hb3 hfv m0 m1 m2 m3 m4 m5 r0 r1 r2 r3
  go_wp2
  (try simp only [Exit.inBlock, Exit.then])
  exact bodyPost_ret (v := .agg #[.int .i64 a, .iface (fty r) fy]) (by simp [results, Tryz.results151, go_sem, s0, s1]) rfl hfin

end Go.Proofs.YtlhjgjfnmejiaaaGreat
