/-
  What a machine does with a word, in the program: a word read, as contracts. RunMachine in the program, as a contract. AcceptsWord in the program, as a contract.
-/
import Derived.Test.YthacnbeckhdhiaaKComplement9
import Derived.Test.YthacnbeckhdhiaaKComplement10
section
namespace Go.Proofs.Ythacnbeckhdhiaa
open Go.RowKit Go.Sort
set_option linter.unusedVariables false

/-- Numbers, and a row of numbers of the call's own. -/
def NumRow (q : Int) (l : List Int) (w : World) (e : Ending) (w' : World) : Prop :=
  ∃ v, e = .returned (.tuple #[.int .i64 q, v]) ∧ w'.ownsRow w.heap.size 3 1 v l.length (icells l) ∧ Below w.heap.size w w'
set_option maxRecDepth 100000 in
set_option maxHeartbeats 4000000 in
theorem runOver_any (t : Mach) (g : Good t) (x : Value) (A0 : Option Addr) (c0 : Nat) (l : List Int) (w : World) (hx : MachIx w x t) (hA0 : IntsAt w A0 l) (hl : l.length ≤ 1000) :
    Calls Try.prog 28 #[x, .slice A0 l.length c0] w (NumRow (runM t l).1 (runM t l).2 w) := by
  have hX := Lib.hid hx
  obtain ⟨A, c, B, d, rfl, _⟩ := hx
  obtain ⟨W, hW⟩ : ∃ W, W = (w.alloc (.cells #[.int .i64 t.st, .int .i64 t.rg, .slice A t.ac.length c, .slice B t.mv.length d] 27)).alloc (.cells #[.int .i64 (-1)] 3) := ⟨_, rfl⟩
  have hbW : Below w.heap.size w W := by rw [hW]; exact ((Below.refl _ _).alloc (Nat.le_refl _) _).alloc (by simp) _
  have hkW : W.heap[w.heap.size]? = some (.cells #[.int .i64 t.st, .int .i64 t.rg, .slice A t.ac.length c, .slice B t.mv.length d] 27) := by rw [hW]; exact (Below.heap_alloc _ _ _ (by simp)).trans (heap_alloc_new w _)
  have hkR : W.heap[w.heap.size + 1]? = some (.cells #[.int .i64 (-1)] 3) := by
    rw [hW]
    have h := heap_alloc_new (w.alloc (.cells #[.int .i64 t.st, .int .i64 t.rg, .slice A t.ac.length c, .slice B t.mv.length d] 27)) (.cells #[.int .i64 (-1)] 3)
    rwa [World.size_alloc] at h
  have hrep := repeat_any (w.heap.size + 1) t.rg g.r0 g.r3 W (by rw [cell_of_row W _ _ _ _ _ hkR]; rfl) (MachK.box_lt hkR)
  obtain ⟨d0, d1, d2, d3⟩ := MachK.row4 hkW
  have hlt0 : w.heap.size < W.heap.size := MachK.box_lt hkW
  have HCC : Hid (∀ w' : World, Below W.heap.size W w' → w'.cell? ⟨w.heap.size, 0, none⟩ = some (.int .i64 t.st) ∧ w'.cell? ⟨w.heap.size, 1, none⟩ = some (.int .i64 t.rg) ∧ w'.cell? ⟨w.heap.size, 2, none⟩ = some (.slice A t.ac.length c) ∧ w'.cell? ⟨w.heap.size, 3, none⟩ = some (.slice B t.mv.length d)) :=
    Lib.hid fun w' h => ⟨(h.cell (p := ⟨w.heap.size, 0, none⟩) hlt0).trans d0, (h.cell (p := ⟨w.heap.size, 1, none⟩) hlt0).trans d1, (h.cell (p := ⟨w.heap.size, 2, none⟩) hlt0).trans d2, (h.cell (p := ⟨w.heap.size, 3, none⟩) hlt0).trans d3⟩
  have HW := Lib.hid hW
  have HBW := Lib.hid hbW
  have hpost := Lib.hid (show runM t l = runFrom t (0, List.replicate t.rg.toNat (-1)) l from rfl)
  have hok := Lib.hid (fun k => runFrom_ok g (l := l.take k) (start_ok g))
  have hstep := Lib.hid (fun (k : Nat) (h : k < l.length) => runFrom_next t (0, List.replicate t.rg.toNat (-1)) h)
  rw [hpost.out]
  have hp0 : runFrom t (0, List.replicate t.rg.toNat (-1)) (l.take 0) = (0, List.replicate t.rg.toNat (-1)) := rfl
  have HP0 := Lib.hid hp0
  have HRL := Lib.hid (fun (q a : Int) (rs : List Int) (base : Nat) (v : Value) (W' : World) (h : Below w.heap.size w W') (h0 : 0 ≤ q) (h1 : q < t.st) (h2 : rs.length = t.rg.toNat) (h3 : W'.ownsRow base 3 1 v rs.length (icells rs)) => readLetter_any t g _ q a rs base v W' (hX.out.below h) h0 h1 h2 h3)
  clear hkR hkW d0 d1 d2 d3 hW hbW hp0
  go_enter Try.func28, Try.ntmps28
  go_wp2_with fail
  rw [← HW.out]
  refine hrep.mono ?_
  rintro e w1 ⟨v, rfl, ho1, hb1⟩
  clear hrep HW
  have hlen : (List.replicate t.rg.toNat (-1 : Int)).length = t.rg.toNat := List.length_replicate
  go_wp2
  go_loopw [6, 9, 16] (fun s _ i wr => ∃ k : Nat, k ≤ l.length ∧ i = .int .i64 k ∧ s = .int .i64 (runFrom t (0, List.replicate t.rg.toNat (-1)) (l.take k)).1 ∧ wr.ownsRow W.heap.size 3 1 v (runFrom t (0, List.replicate t.rg.toNat (-1)) (l.take k)).2.length (icells (runFrom t (0, List.replicate t.rg.toNat (-1)) (l.take k)).2) ∧ Below W.heap.size W wr) (fun _ _ i _ => l.length - (intOf i).toNat)
  case atStart => exact ⟨0, Nat.zero_le _, rfl, rfl, ho1, hb1⟩
  case round =>
    obtain ⟨k, hk, rfl, rfl, ho, hb⟩ := hrel
    have hbw := HBW.out.trans (hb.mono HBW.out.size)
    have hokk := Lib.hid (hok.out k)
    by_cases hlt : k < l.length
    · obtain ⟨b1, o1, rfl, hb1', hc1⟩ := hA0 (by omega)
      have c1 := hc1 k hlt
      rw [← hbw.cell (p := ⟨b1, _, none⟩) hb1'] at c1
      have hst := Lib.hid (hstep.out k hlt)
      generalize runFrom t (0, List.replicate t.rg.toNat (-1)) (l.take k) = p at *
      generalize itAt l k = a at *
      obtain ⟨q, rs⟩ := p
      dsimp only at ho
      have hrl := HRL.out q a rs W.heap.size v wr hbw hokk.out.1 hokk.out.2.1 hokk.out.2.2 ho
      obtain ⟨e0, e1, e2, e3⟩ := HCC.out wr hb
      have hlm : Hid ((mvOf t q rs a).1 = (runFrom t (0, List.replicate t.rg.toNat (-1)) (l.take (k + 1))).1 ∧ stored rs (mvOf t q rs a).2 a = (runFrom t (0, List.replicate t.rg.toNat (-1)) (l.take (k + 1))).2 ∧ rs.length = (runFrom t (0, List.replicate t.rg.toNat (-1)) (l.take (k + 1))).2.length) := Lib.hid (by rw [hst.out]; exact ⟨rfl, rfl, (stored_len _ _ _).symm⟩)
      generalize mvOf t q rs a = m at hrl hlm
      generalize stored rs m.2 a = rs2 at hrl hlm
      clear hc1 hA0 hok hstep hst hokk
      dsimp only
      go_wp2_with fail
      (with_reducible refine hrl.mono ?_)
      rintro e w2 ⟨rfl, ho2, hg2⟩
      have hb2 : Below W.heap.size W w2 := below_own hb ho (Nat.le_refl _) hb.size hg2
      rw [hlm.out.2.2, hlm.out.2.1] at ho2
      rw [hlm.out.1]
      clear hrl hg2 ho hlm e0 e1 e2 e3 c1
      go_wp2
      refine ⟨⟨k + 1, by omega, by go_num, rfl, ho2, hb2⟩, ?_⟩
      simp only [intOf]
      omega
    · have e : k = l.length := by omega
      subst e
      rw [List.take_length] at ho ⊢
      have hfin : NumRow (runFrom t (0, List.replicate t.rg.toNat (-1)) l).1 (runFrom t (0, List.replicate t.rg.toNat (-1)) l).2 w (.returned (.tuple #[.int .i64 (runFrom t (0, List.replicate t.rg.toNat (-1)) l).1, v])) wr := ⟨v, rfl, own_le ho HBW.out.size, hbw⟩
      have HF := Lib.hid hfin
      clear ho hfin hA0
      go_wp2
      go_ret2
      exact HF.out
end Go.Proofs.Ythacnbeckhdhiaa
end

section
namespace Go.Proofs.Ythacnbeckhdhiaa
open Go.RowKit Go.Sort
set_option linter.unusedVariables false

def wordB (l : List Int) : Bool := decide (l.length ≤ 9) && atomsB l
/-- Whether a machine is run, and what comes of it. -/
def runOk (t : Mach) (l : List Int) : Bool := machB t && wordB l
def runQ (t : Mach) (l : List Int) : Int := if runOk t l then (runM t l).1 else 0
def runV (t : Mach) (l : List Int) : List Int := if runOk t l then (runM t l).2 else []
theorem runOk_no1 {t : Mach} {l : List Int} (h : machB t = false) : runOk t l = false ∧ runQ t l = 0 ∧ runV t l = [] := by
  have h1 : runOk t l = false := by simp [runOk, h]
  exact ⟨h1, by simp [runQ, h1], by simp [runV, h1]⟩
theorem runOk_no2 {t : Mach} {l : List Int} (h : wordB l = false) : runOk t l = false ∧ runQ t l = 0 ∧ runV t l = [] := by
  have h1 : runOk t l = false := by simp [runOk, h]
  exact ⟨h1, by simp [runQ, h1], by simp [runV, h1]⟩
theorem runOk_yes {t : Mach} {l : List Int} (h1 : machB t = true) (h2 : wordB l = true) : runOk t l = true ∧ runQ t l = (runM t l).1 ∧ runV t l = (runM t l).2 := by
  have h : runOk t l = true := by simp [runOk, h1, h2]
  exact ⟨h, by simp [runQ, h], by simp [runV, h]⟩
theorem word_len {l : List Int} (h : wordB l = true) : l.length ≤ 9 := by
  unfold wordB at h
  rw [Bool.and_eq_true, decide_eq_true_eq] at h
  exact h.1
theorem isWord_any (A : Option Addr) (c : Nat) (l : List Int) (w : World) (hA : IntsAt w A l) (hl : l.length ≤ 1099511627776) :
    Calls Try.prog 18 #[.slice A l.length c] w fun e w' => e = .returned (.bool (wordB l)) ∧ w = w' := by
  have ha := areAtoms_any A c l w hA hl
  by_cases h9 : l.length ≤ 9
  · have hw : Hid (wordB l = atomsB l) := Lib.hid (by simp [wordB, h9])
    rw [hw.out]
    clear hA
    generalize atomsB l = r at ha ⊢
    have h9' : (l.length : Int) ≤ 9 := by omega
    generalize l.length = n at *
    go_enter Try.func18, Try.ntmps18
    go_wp2_with (go_at_call 27; (with_reducible refine ha.mono ?_); rintro e w1 ⟨rfl, rfl⟩)
    go_ret
    exact ⟨rfl, rfl⟩
  · have hw : Hid (wordB l = false) := Lib.hid (by simp [wordB, h9])
    rw [hw.out]
    clear hA
    have h9' : 9 < (l.length : Int) := by omega
    generalize l.length = n at *
    go_enter Try.func18, Try.ntmps18
    go_wp2
    go_ret
    exact ⟨rfl, rfl⟩

end Go.Proofs.Ythacnbeckhdhiaa
end

section
namespace Go.Proofs.Ythacnbeckhdhiaa
open Go.RowKit Go.Sort
set_option linter.unusedVariables false

/-- Whether a word is accepted. -/
def lastB (t : Mach) (l : List Int) : Bool := btAt t.ac (runM t l).1.toNat
def accB (t : Mach) (l : List Int) : Bool := runOk t l && lastB t l
set_option maxRecDepth 100000 in
set_option maxHeartbeats 4000000 in
theorem acceptsOver_any (t : Mach) (g : Good t) (x : Value) (A0 : Option Addr) (c0 : Nat) (l : List Int) (w : World) (hx : MachIx w x t) (hA0 : IntsAt w A0 l) (hl : l.length ≤ 1000) :
    Calls Try.prog 19 #[x, .slice A0 l.length c0] w fun e w' => e = .returned (.bool (lastB t l)) ∧ Below w.heap.size w w' := by
  have hX := Lib.hid hx
  obtain ⟨A, c, B, d, rfl, hbools, hrest⟩ := hx
  obtain ⟨W, hW⟩ : ∃ W, W = w.alloc (.cells #[.int .i64 t.st, .int .i64 t.rg, .slice A t.ac.length c, .slice B t.mv.length d] 27) := ⟨_, rfl⟩
  have hbW : Below w.heap.size w W := by rw [hW]; exact (Below.refl _ _).alloc (Nat.le_refl _) _
  have hkW : W.heap[w.heap.size]? = some (.cells #[.int .i64 t.st, .int .i64 t.rg, .slice A t.ac.length c, .slice B t.mv.length d] 27) := by rw [hW]; exact heap_alloc_new w _
  obtain ⟨d0, d1, d2, d3⟩ := MachK.row4 hkW
  have hlt0 : w.heap.size < W.heap.size := MachK.box_lt hkW
  have HCC : Hid (∀ w' : World, Below W.heap.size W w' → w'.cell? ⟨w.heap.size, 0, none⟩ = some (.int .i64 t.st) ∧ w'.cell? ⟨w.heap.size, 1, none⟩ = some (.int .i64 t.rg) ∧ w'.cell? ⟨w.heap.size, 2, none⟩ = some (.slice A t.ac.length c) ∧ w'.cell? ⟨w.heap.size, 3, none⟩ = some (.slice B t.mv.length d)) :=
    Lib.hid fun w' h => ⟨(h.cell (p := ⟨w.heap.size, 0, none⟩) hlt0).trans d0, (h.cell (p := ⟨w.heap.size, 1, none⟩) hlt0).trans d1, (h.cell (p := ⟨w.heap.size, 2, none⟩) hlt0).trans d2, (h.cell (p := ⟨w.heap.size, 3, none⟩) hlt0).trans d3⟩
  have HW := Lib.hid hW
  have HBW := Lib.hid hbW
  clear hkW hW
  have hro := runOver_any t g _ A0 c0 l W (hX.out.below hbW) (hA0.below hbW) hl
  have HAC := Lib.hid hbools
  have hok := runM_ok g l
  have hal := g.al
  have hs9 := g.s9
  have hq : Hid (lastB t l = btAt t.ac (runM t l).1.toNat) := Lib.hid rfl
  generalize lastB t l = r at *
  generalize runM t l = p at *
  obtain ⟨q, rs⟩ := p
  obtain ⟨h0, h1, _⟩ := hok
  dsimp only at h0 h1 hq
  obtain ⟨j, rfl⟩ : ∃ j : Nat, q = j := ⟨q.toNat, by omega⟩
  rw [Int.toNat_natCast] at hq
  have hjl : j < t.ac.length := by omega
  have hl9 : t.ac.length ≤ 9 := by omega
  clear hbools hrest hA0 hbW hl hal
  generalize l.length = n at *
  go_enter Try.func19, Try.ntmps19
  go_wp2_with fail
  rw [← HW.out]
  (with_reducible refine hro.mono ?_)
  rintro e w1 ⟨v, rfl, ho, hb1⟩
  have hbz := HBW.out.trans (hb1.mono HBW.out.size)
  obtain ⟨e0, e1, e2, e3⟩ := HCC.out w1 hb1
  obtain ⟨b1, o1, rfl, hbl, hc1⟩ := HAC.out.below hbz (by omega)
  have c1 := hc1 j hjl
  rw [← hq.out] at c1
  clear hro d0 d1 d2 d3 ho hc1 hq HAC hb1 HBW HCC HW hX
  generalize t.ac.length = la at *
  go_wp2
  go_ret
  exact ⟨rfl, hbz⟩
set_option maxRecDepth 100000 in
set_option maxHeartbeats 4000000 in
theorem acceptsWord_impl (t : Mach) (hf : FitM t) (x : Value) (A0 : Option Addr) (c0 : Nat) (l : List Int) (w : World) (hx : MachIx w x t) (hA0 : IntsAt w A0 l) (hl : l.length ≤ 1099511627776) :
    Calls Try.prog 9 #[x, .slice A0 l.length c0] w fun e w' => e = .returned (.bool (accB t l)) ∧ Below w.heap.size w w' := by
  have hX := Lib.hid hx
  obtain ⟨A, c, B, d, rfl, hbools, hrest⟩ := hx
  obtain ⟨W, hW⟩ : ∃ W, W = w.alloc (.cells #[.int .i64 t.st, .int .i64 t.rg, .slice A t.ac.length c, .slice B t.mv.length d] 27) := ⟨_, rfl⟩
  have hbW : Below w.heap.size w W := by rw [hW]; exact (Below.refl _ _).alloc (Nat.le_refl _) _
  have hkW : W.heap[w.heap.size]? = some (.cells #[.int .i64 t.st, .int .i64 t.rg, .slice A t.ac.length c, .slice B t.mv.length d] 27) := by rw [hW]; exact heap_alloc_new w _
  obtain ⟨d0, d1, d2, d3⟩ := MachK.row4 hkW
  have hlt0 : w.heap.size < W.heap.size := MachK.box_lt hkW
  have HCC : Hid (∀ w' : World, Below W.heap.size W w' → w'.cell? ⟨w.heap.size, 0, none⟩ = some (.int .i64 t.st) ∧ w'.cell? ⟨w.heap.size, 1, none⟩ = some (.int .i64 t.rg) ∧ w'.cell? ⟨w.heap.size, 2, none⟩ = some (.slice A t.ac.length c) ∧ w'.cell? ⟨w.heap.size, 3, none⟩ = some (.slice B t.mv.length d)) :=
    Lib.hid fun w' h => ⟨(h.cell (p := ⟨w.heap.size, 0, none⟩) hlt0).trans d0, (h.cell (p := ⟨w.heap.size, 1, none⟩) hlt0).trans d1, (h.cell (p := ⟨w.heap.size, 2, none⟩) hlt0).trans d2, (h.cell (p := ⟨w.heap.size, 3, none⟩) hlt0).trans d3⟩
  have HW := Lib.hid hW
  have HBW := Lib.hid hbW
  clear hkW hW
  have hm := isMachine_impl t (by unfold FitM at hf; omega) _ W (hX.out.below hbW).in_
  have HWD := Lib.hid (fun (W' : World) (h : Below W.heap.size W W') => isWord_any A0 c0 l W' (hA0.below (HBW.out.trans (h.mono HBW.out.size))) hl)
  have HRO := Lib.hid (fun (g : Good t) (hl9 : l.length ≤ 9) (W' : World) (h : Below W.heap.size W W') => acceptsOver_any t g _ A0 c0 l W' (hX.out.below (HBW.out.trans (h.mono HBW.out.size))) (hA0.below (HBW.out.trans (h.mono HBW.out.size))) (by omega))
  clear hbW hbools hrest hA0
  by_cases hmb : machB t = true
  case neg =>
    have hmb : machB t = false := by simpa using hmb
    have hr : accB t l = false := by unfold accB; rw [(runOk_no1 (l := l) hmb).1]; rfl
    rw [hmb] at hm
    rw [hr]
    clear hr hmb HRO HWD
    generalize l.length = n at *
    go_enter Try.func9, Try.ntmps9
    go_wp2_with fail
    rw [← HW.out]
    (with_reducible refine hm.mono ?_)
    rintro e w1 ⟨rfl, hb1⟩
    have hbz := HBW.out.trans (hb1.mono HBW.out.size)
    clear hm d0 d1 d2 d3
    go_wp2
    go_ret
    exact ⟨rfl, hbz⟩
  rw [hmb] at hm
  by_cases hwb : wordB l = true
  case neg =>
    have hwb : wordB l = false := by simpa using hwb
    have hr : accB t l = false := by unfold accB; rw [(runOk_no2 (t := t) hwb).1]; rfl
    rw [hr]
    clear hr hmb HRO
    rw [hwb] at HWD
    generalize l.length = n at *
    go_enter Try.func9, Try.ntmps9
    go_wp2_with fail
    rw [← HW.out]
    (with_reducible refine hm.mono ?_)
    rintro e w1 ⟨rfl, hb1⟩
    have hwd := HWD.out w1 hb1
    have hbz := HBW.out.trans (hb1.mono HBW.out.size)
    clear hm d0 d1 d2 d3
    go_wp2_with (go_at_call 18; (with_reducible refine hwd.mono ?_); rintro e w2 ⟨rfl, rfl⟩)
    go_ret
    exact ⟨rfl, hbz⟩
  have hr : accB t l = lastB t l := by unfold accB; rw [(runOk_yes hmb hwb).1]; rfl
  rw [hr]
  have HR2 := Lib.hid (HRO.out (good_of hmb) (word_len hwb))
  clear hr hmb HRO
  rw [hwb] at HWD
  generalize lastB t l = r at *
  generalize l.length = n at *
  go_enter Try.func9, Try.ntmps9
  go_wp2_with fail
  rw [← HW.out]
  (with_reducible refine hm.mono ?_)
  rintro e w1 ⟨rfl, hb1⟩
  have hwd := HWD.out w1 hb1
  have hro := HR2.out w1 hb1
  have hbz := HBW.out.trans (hb1.mono HBW.out.size)
  obtain ⟨e0, e1, e2, e3⟩ := HCC.out w1 hb1
  clear hm d0 d1 d2 d3
  go_wp2_with (first | (go_at_call 18; (with_reducible refine hwd.mono ?_); rintro e w2 ⟨rfl, rfl⟩) | (go_at_call 19; (with_reducible refine hro.mono ?_); rintro e w3 ⟨rfl, hb3⟩))
  have hend := hbz.trans (hb3.mono hbz.size)
  clear hro hwd
  go_ret
  exact ⟨rfl, hend⟩
end Go.Proofs.Ythacnbeckhdhiaa
end

