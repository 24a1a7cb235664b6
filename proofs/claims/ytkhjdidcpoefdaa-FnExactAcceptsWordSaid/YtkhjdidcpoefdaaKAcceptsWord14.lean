/-
  What a machine does with a word, in the model: words and empty registers, as contracts.
-/
import Derived.Test.YtkhjdidcpoefdaaKAcceptsWord12
import Derived.Test.YtkhjdidcpoefdaaKAcceptsWord13
import Derived.Test.YtkhjdidcpoefdaaKAcceptsWord7
namespace Go.Proofs.Ytkhjdidcpoefdaa
open Go.RowKit Go.Sort
set_option linter.unusedVariables false

set_option maxRecDepth 100000 in
set_option maxHeartbeats 2000000 in
theorem l7Word_any (A : Option Addr) (c : Nat) (l : List Int) (w : World) (hA : IntsAt w A l) (hl : l.length ≤ 1099511627776) :
    Calls Try.prog 59 #[.slice A l.length c] w fun e w' => e = .returned (.bool (wordB l)) ∧ w = w' := by
  go_enter Try.func59, Try.ntmps59
  go_wp2
  go_loop [4, 7] (fun _ i => ∃ k : Nat, k ≤ l.length ∧ i = .int .i64 k ∧ Hid (∀ j, j < k → atomB (itAt l j) = true)) (fun _ i => l.length - (intOf i).toNat)
  case atStart => exact ⟨0, Nat.zero_le _, rfl, fun j hj => absurd hj (by omega)⟩
  case round =>
    obtain ⟨k, hk, rfl, hq⟩ := hrel
    by_cases hlt : k < l.length
    · obtain ⟨b1, o1, rfl, hb1, hc1⟩ := hA (by omega)
      have c1 := hc1 k hlt
      have hat := l1Atom_any (itAt l k) w
      have hno := Lib.hid (fun h : atomB (itAt l k) = false => (show wordB l = false by unfold wordB; rw [atomsB_no hlt h, Bool.and_false]))
      have hnx := Lib.hid (show atomB (itAt l k) = true → ∀ j, j < k + 1 → atomB (itAt l j) = true from fun h j hj => if e : j = k then e ▸ h else hq.out j (by omega))
      generalize itAt l k = a at c1 hat hno hnx
      clear hc1 hA hq
      cases hab : atomB a with
      | true =>
        rw [hab] at hat
        have hgo := Lib.hid (hnx.out hab)
        clear hnx hno hab
        go_wp2_with (go_at_call 92; (with_reducible refine hat.mono ?_); rintro e w2 ⟨rfl, rfl⟩)
        refine ⟨⟨k + 1, by omega, by go_num, hgo⟩, ?_⟩
        simp only [intOf]
        omega
      | false =>
        rw [hab] at hat
        have hn := Lib.hid (hno.out hab)
        clear hnx hno hab
        go_wp2_with (go_at_call 92; (with_reducible refine hat.mono ?_); rintro e w2 ⟨rfl, rfl⟩)
        go_ret
        exact ⟨bool_end hn.out.symm, rfl⟩
    · have hall : atomsB l = true := atomsB_yes fun j hj => hq.out j (by omega)
      by_cases h9 : l.length ≤ 9
      · have hn : Hid (wordB l = true) := Lib.hid (by simp [wordB, h9, hall])
        have h9' : (l.length : Int) ≤ 9 := by omega
        clear hall hA
        go_wp2
        go_ret
        exact ⟨bool_end hn.out.symm, rfl⟩
      · have hn : Hid (wordB l = false) := Lib.hid (by simp [wordB, h9])
        have h9' : 9 < (l.length : Int) := by omega
        clear hall hA
        go_wp2
        go_ret
        exact ⟨bool_end (by rw [hn.out]; simp; omega), rfl⟩

theorem rep_next (k : Nat) : icells (List.replicate k (-1)) ++ icells [-1] = icells (List.replicate (k + 1) (-1)) := by
  rw [← icells_append, ← List.replicate_succ']
set_option maxRecDepth 100000 in
set_option maxHeartbeats 4000000 in
theorem l7Start_any (t : Mach) (g : Good t) (x : Value) (w : World) (hx : MachIx w x t) :
    Calls Try.prog 60 #[x] w (NewInts (List.replicate t.rg.toNat (-1)) w) := by
  have hX := Lib.hid hx
  obtain ⟨A, c, B, d, rfl, hbools, hrest⟩ := hx
  obtain ⟨W, hW⟩ : ∃ W, W = w.alloc (.cells #[.int .i64 t.st, .int .i64 t.rg, .slice A t.ac.length c, .slice B t.mv.length d] 30) := ⟨_, rfl⟩
  have hbW : Below w.heap.size w W := by rw [hW]; exact (Below.refl _ _).alloc (Nat.le_refl _) _
  have hkW : W.heap[w.heap.size]? = some (.cells #[.int .i64 t.st, .int .i64 t.rg, .slice A t.ac.length c, .slice B t.mv.length d] 30) := by rw [hW]; exact heap_alloc_new w _
  obtain ⟨d0, d1, d2, d3⟩ := MachK.row4 hkW
  have hlt0 : w.heap.size < W.heap.size := MachK.box_lt hkW
  have HCC : Hid (∀ w' : World, Below W.heap.size W w' → w'.cell? ⟨w.heap.size, 0, none⟩ = some (.int .i64 t.st) ∧ w'.cell? ⟨w.heap.size, 1, none⟩ = some (.int .i64 t.rg) ∧ w'.cell? ⟨w.heap.size, 2, none⟩ = some (.slice A t.ac.length c) ∧ w'.cell? ⟨w.heap.size, 3, none⟩ = some (.slice B t.mv.length d)) :=
    Lib.hid fun w' h => ⟨(h.cell (p := ⟨w.heap.size, 0, none⟩) hlt0).trans d0, (h.cell (p := ⟨w.heap.size, 1, none⟩) hlt0).trans d1, (h.cell (p := ⟨w.heap.size, 2, none⟩) hlt0).trans d2, (h.cell (p := ⟨w.heap.size, 3, none⟩) hlt0).trans d3⟩
  have HW := Lib.hid hW
  have HBW := Lib.hid hbW
  clear hkW hW
  have hr0 := g.r0
  have hr3 := g.r3
  clear hX hbools hrest
  generalize t.st = st at *
  generalize t.rg = rg at *
  generalize t.ac.length = la at *
  generalize t.mv.length = lm at *
  obtain ⟨n, rfl⟩ : ∃ n : Nat, rg = n := ⟨rg.toNat, by omega⟩
  rw [Int.toNat_natCast]
  have hn3 : n ≤ 3 := by omega
  have ho0 : (W.alloc (.cells #[] 3)).ownsRow W.heap.size 3 1 (.slice (some ⟨W.heap.size, 0, none⟩) 0 0) 0 (icells (List.replicate 0 (-1))) := World.ownsRow_lit W #[] 0 (Nat.le_refl _) (by decide) rfl
  have hb0 : Below W.heap.size W (W.alloc (.cells #[] 3)) := (Below.refl _ _).alloc (Nat.le_refl _) _
  have HO := Lib.hid ho0
  have HB := Lib.hid hb0
  clear ho0 hb0 hbW
  go_enter Try.func60, Try.ntmps60
  go_upto_region 1 with fail
  rw [← HW.out]
  clear HW
  go_wp2
  go_loopw [3, 4] (fun v i wr => ∃ k : Nat, k ≤ n ∧ i = .int .i64 k ∧ wr.ownsRow W.heap.size 3 1 v k (icells (List.replicate k (-1))) ∧ Below W.heap.size W wr) (fun _ i _ => n - (intOf i).toNat)
  case atStart => exact ⟨0, Nat.zero_le _, rfl, HO.out, HB.out⟩
  case round =>
    obtain ⟨k, hk, rfl, ho, hb⟩ := hrel
    obtain ⟨e0, e1, e2, e3⟩ := HCC.out wr hb
    by_cases hlt : k < n
    · have hnx := rep_next k
      have hb1 := hb.alloc hb.size (.cells #[.int .i64 (-1)] 3)
      have ho1 := own_below ho ((Below.refl wr.heap.size wr).alloc (Nat.le_refl _) (.cells #[.int .i64 (-1)] 3))
      have hA1 : IntsAt (wr.alloc (.cells #[.int .i64 (-1)] 3)) (some ⟨wr.heap.size, 0, none⟩) [-1] := fun _ => ⟨wr.heap.size, 0, rfl, by simp, fun i hi => by
        have e : i = 0 := by simp at hi; exact hi
        subst e
        simp [itAt]⟩
      have hbs := hb1.size
      generalize hXS : icells (List.replicate k (-1)) = xs at *
      clear hXS
      have HNX := Lib.hid hnx
      clear hnx hb
      go_wp2_with (at_builtin; refine wpList_append_ints rfl (.tmp 12) (.tmp 13) rfl W.heap.size _ k xs rfl ho1 _ 1 [-1] rfl hA1 ?z1 ?z2 ?z3 ?z4)
      case z1 => intro h; cases h
      case z2 => simp; omega
      case z3 => exact hbs
      intro v2 w2 ho3 hg
      have hb4 : Below W.heap.size W w2 := below_own hb1 ho1 (Nat.le_refl _) hbs hg
      rw [HNX.out] at ho3
      clear ho1 hg hb1 hA1 e0 e1 e2 e3 HNX
      go_wp2
      refine ⟨⟨k + 1, by omega, by go_num, ho3, hb4⟩, ?_⟩
      simp only [intOf]
      omega
    · have e : k = n := by omega
      subst e
      have HF := Lib.hid (show NewInts (List.replicate k (-1)) w (.returned u3) wr from ⟨_, rfl, by rw [List.length_replicate]; exact own_le ho HBW.out.size, HBW.out.trans (hb.mono HBW.out.size)⟩)
      clear ho
      go_wp2
      go_ret
      exact HF.out
end Go.Proofs.Ytkhjdidcpoefdaa
