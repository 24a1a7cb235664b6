/-
  Machines: how they lie in memory, their sizes, their copies, comparison and numbering, as contracts.
-/
import Derived.Test.YtkhjdidcpoefdaaKComplementMachine3
import Derived.Test.YtkhjdidcpoefdaaKComplementMachine5
import Derived.Test.YtkhjdidcpoefdaaKComplementMachine7
import Derived.Test.YtkhjdidcpoefdaaKComplementMachine4
import Derived.Test.YtkhjdidcpoefdaaKComplementMachine8
import Derived.Test.YtkhjdidcpoefdaaKComplementMachine6
namespace Go.Proofs.Ytkhjdidcpoefdaa
open Go.RowKit
set_option linter.unusedVariables false

/-- A machine: its states, registers, accepting states and moves. -/
structure Mach where
  st : Int
  rg : Int
  ac : List Bool
  mv : List (Int × Int)

/-- A value that is a machine. -/
def MachIn (w : World) (x : Value) (t : Mach) : Prop :=
  ∃ A c B d, x = .agg #[.int .i64 t.st, .int .i64 t.rg, .slice A t.ac.length c, .slice B t.mv.length d] ∧ BoolsAt w A t.ac ∧ PairsAt w B t.mv
theorem MachIn.below {w w' : World} {x : Value} {t : Mach} (h : MachIn w x t) (hb : Below w.heap.size w w') : MachIn w' x t := by
  obtain ⟨A, c, B, d, rfl, h1, h2⟩ := h
  exact ⟨A, c, B, d, rfl, h1.below hb, h2.below hb⟩
/-- A value that is a machine, as it is handed over: with room for what it holds. -/
def MachIx (w : World) (x : Value) (t : Mach) : Prop :=
  ∃ A c B d, x = .agg #[.int .i64 t.st, .int .i64 t.rg, .slice A t.ac.length c, .slice B t.mv.length d] ∧ BoolsAt w A t.ac ∧ PairsAt w B t.mv ∧ (A = none → c = 0) ∧ (B = none → d = 0) ∧ t.ac.length ≤ c ∧ t.mv.length ≤ d
theorem MachIx.below {w w' : World} {x : Value} {t : Mach} (h : MachIx w x t) (hb : Below w.heap.size w w') : MachIx w' x t := by
  obtain ⟨A, c, B, d, rfl, h1, h2, h3⟩ := h
  exact ⟨A, c, B, d, rfl, h1.below hb, h2.below hb, h3⟩
theorem MachIx.in_ {w : World} {x : Value} {t : Mach} (h : MachIx w x t) : MachIn w x t := by
  obtain ⟨A, c, B, d, rfl, h1, h2, _⟩ := h
  exact ⟨A, c, B, d, rfl, h1, h2⟩
def ShortM (t : Mach) : Prop := t.ac.length ≤ maxLen ∧ t.mv.length ≤ maxLen
def FitM (t : Mach) : Prop := t.ac.length ≤ 2097152 ∧ t.mv.length ≤ 2097152
theorem fitM_of {t : Mach} (h : ((t.ac.length + t.mv.length : Nat) : Int) ≤ 1048576) : FitM t := ⟨by omega, by omega⟩
def boolMem (l : List Bool) : Mem := .row 4 1 ((bcells l).map .cell)
def moveMem (l : List (Int × Int)) : Mem := .row 70 2 ((cellsOf l).map .cell)
def encM (t : Mach) : List Mem := [.cell (.int .i64 t.st), .cell (.int .i64 t.rg), boolMem t.ac, moveMem t.mv]

namespace MachK
theorem box_lt {w : World} {g : Nat} {o : Obj} (h : w.heap[g]? = some o) : g < w.heap.size := (Array.getElem?_eq_some_iff.1 h).1
theorem row4 {w : World} {g : Nat} {a b c d : Value} {T : TypeId} (h : w.heap[g]? = some (.cells #[a, b, c, d] T (0, 0))) : w.cell? ⟨g, 0, none⟩ = some a ∧ w.cell? ⟨g, 1, none⟩ = some b ∧ w.cell? ⟨g, 2, none⟩ = some c ∧ w.cell? ⟨g, 3, none⟩ = some d := by
  refine ⟨?_, ?_, ?_, ?_⟩ <;> rw [cell_of_row w g _ _ _ _ h] <;> rfl
/-- What owns cells by twos, as a row of the call's own. -/
theorem row2_own {w : World} {S : List Nat} {v : Value} {n : Nat} {vs : List Value} {e : TypeId} (hn : vs.length = n * 2) (h : Own w S v (.row e 2 (vs.map .cell))) : w.ownsRow 0 e 2 v n vs ∧ S = v.ownBlock.toList := by
  generalize hm : vs.map Mem.cell = ms at h
  cases h with
  | nil =>
    have e : vs = [] := by simpa using hm
    subst e
    have en : n = 0 := by simp at hn; omega
    subst en
    exact ⟨World.ownsRow_nil w _ _ _, rfl⟩
  | row hl ho hL hg =>
    subst hm
    rw [List.length_map] at hl
    rename_i n' cap xs S'
    have en : n' = n := by omega
    subst en
    have ex := atL_cells hL.at_
    subst ex
    refine ⟨ho, ?_⟩
    rw [ownL_plain hL]
    rfl
theorem row2_of {w : World} {v : Value} {n base : Nat} {vs : List Value} {e : TypeId} (h : w.ownsRow base e 2 v n vs) : Own w v.ownBlock.toList v (.row e 2 (vs.map .cell)) := by
  rcases h.2 with ⟨rfl, h0⟩ | ⟨g, cap, cur, rfl, hb, hg, hn, hm, hs, ht⟩
  · have e : vs = [] := List.eq_nil_of_length_eq_zero (by have := h.1; omega)
    subst e
    exact .nil _ _
  · exact .row (by rw [List.length_map]; exact h.1) ⟨h.1, .inr ⟨g, cap, cur, rfl, Nat.zero_le _, hg, hn, hm, hs, ht⟩⟩ (ownL_cells w _) (by simp)
theorem nilcap {w : World} {base size n len d : Nat} {e : TypeId} {B : Option Addr} {xs : List Value} (h : w.ownsRow base e size (.slice B n d) len xs) : B = none → d = 0 := by
  rintro rfl
  rcases h.2 with ⟨e1, _⟩ | ⟨g, cap, cur, e1, _⟩
  · injection e1
  · cases e1
theorem room {w : World} {base size n len d : Nat} {e : TypeId} {B : Option Addr} {xs : List Value} (h : w.ownsRow base e size (.slice B n d) len xs) : len ≤ d := by
  rcases h.2 with ⟨e1, h0⟩ | ⟨g, cap, cur, e1, _, _, hn, _⟩
  · omega
  · injection e1 with _ _ e3
    omega
end MachK

/-- The two slices of a machine. -/
theorem ownL_mach {w : World} {S : List Nat} {a b pv kv : Value} {t : Mach} (h : OwnL w S [a, b, pv, kv] (encM t)) :
    ∃ P K, (∀ x, x ∈ S ↔ x ∈ P ∨ x ∈ K) ∧ (∀ x ∈ P, x ∉ K) ∧ Own w P pv (boolMem t.ac) ∧ Own w K kv (moveMem t.mv) := by
  unfold encM at h
  cases h with
  | cons h0 k0 hd0 =>
    cases k0 with
    | cons h1 k1 hd1 =>
      cases k1 with
      | cons h2 k2 hd2 =>
        cases k2 with
        | cons h3 k3 hd3 =>
          cases k3
          cases h0
          cases h1
          exact ⟨_, _, fun x => by simp, fun x hx hk => hd2 x hx (by simpa using hk), h2, h3⟩
theorem mach_ownL {w : World} {m1 m2 : Mem} {a b : Value} {pv kv : Value} {S T : List Nat} (h : Own w S pv m1) (k : Own w T kv m2) (hd : ∀ b ∈ S, b ∉ T) : OwnL w (S ++ (T ++ [])) [a, b, pv, kv] [.cell a, .cell b, m1, m2] :=
  .cons (S := []) (.cell _) (.cons (S := []) (.cell _) (.cons h (.cons k .nil (fun b _ => by simp)) (fun b hb ht => hd b hb (by simpa using ht))) (fun b hb => by simp at hb)) (fun b hb => by simp at hb)
theorem machOut_ix {w : World} {S : List Nat} {t : Mach} {A B : Option Addr} {c d : Nat} (h : OwnL w S [.int .i64 t.st, .int .i64 t.rg, .slice A t.ac.length c, .slice B t.mv.length d] (encM t)) :
    MachIx w (.agg #[.int .i64 t.st, .int .i64 t.rg, .slice A t.ac.length c, .slice B t.mv.length d]) t := by
  obtain ⟨P, K, _, _, h2, h3⟩ := ownL_mach h
  have r2 := (cellRow_own (bcells_len t.ac) h2).1
  have r3 := (MachK.row2_own (cellsOf_len t.mv) h3).1
  obtain ⟨A', c', e, hp⟩ := own_boolsAt r2
  simp only [Value.slice.injEq] at e
  obtain ⟨rfl, _, rfl⟩ := e
  obtain ⟨B', d', e, hq⟩ := own_pairsAt r3
  simp only [Value.slice.injEq] at e
  obtain ⟨rfl, _, rfl⟩ := e
  exact ⟨A, c, B, d, rfl, hp, hq, MachK.nilcap r2, MachK.nilcap r3, MachK.room r2, MachK.room r3⟩

set_option maxRecDepth 100000 in
set_option maxHeartbeats 2000000 in
theorem szMachine_any (t : Mach) (hs : ShortM t) (left : Int) (w : World) (x : Value) (h0 : 0 ≤ left) (h1 : left ≤ 1099511627776) (hx : MachIn w x t) :
    Calls Try.prog 15 #[x, .int .i64 left] w (LeftPost left (t.ac.length + t.mv.length) w) := by
  obtain ⟨hs1, hs2⟩ := hs
  obtain ⟨A, c, B, d, rfl, hl, hm⟩ := hx
  unfold maxLen at hs1 hs2
  generalize t.st = z1
  generalize t.rg = z2
  generalize t.ac.length = la at *
  generalize t.mv.length = lm at *
  clear hl hm
  have hb0 : Below w.heap.size w (w.alloc (.cells #[.int .i64 z1, .int .i64 z2, .slice A la c, .slice B lm d] 25)) := (Below.refl _ _).alloc (Nat.le_refl _) _
  have k0 := heap_alloc_new w (.cells #[.int .i64 z1, .int .i64 z2, .slice A la c, .slice B lm d] 25)
  obtain ⟨m0, m1, m2, m3⟩ := MachK.row4 k0
  clear k0
  by_cases h3 : (la : Int) ≤ left
  · have hl1 : ¬ left - (la : Int) < 0 := by omega
    by_cases h4 : (lm : Int) ≤ left - la
    · have hl2 : ¬ left - (la : Int) - (lm : Int) < 0 := by omega
      have hpost : LeftPost left (la + lm) w (.returned (.int .i64 (left - la - lm))) (w.alloc (.cells #[.int .i64 z1, .int .i64 z2, .slice A la c, .slice B lm d] 25)) := ⟨by rw [leftR_yes (by omega)]; congr 2; omega, hb0⟩
      clear hb0
      go_enter Try.func15, Try.ntmps15
      go_wp2_with fail
      refine (szB_yes A la c left _ (by omega) h1 h3).mono ?_
      rintro e w' ⟨rfl, rfl⟩
      go_wp2_with fail
      refine (szM_yes B lm d (left - la) _ (by omega) (by omega) h4).mono ?_
      rintro e w' ⟨rfl, rfl⟩
      go_wp2
      go_ret
      exact hpost
    · have hpost : LeftPost left (la + lm) w (.returned (.int .i64 (-1))) (w.alloc (.cells #[.int .i64 z1, .int .i64 z2, .slice A la c, .slice B lm d] 25)) := ⟨by rw [leftR_no (by omega)], hb0⟩
      clear hb0
      go_enter Try.func15, Try.ntmps15
      go_wp2_with fail
      refine (szB_yes A la c left _ (by omega) h1 h3).mono ?_
      rintro e w' ⟨rfl, rfl⟩
      go_wp2_with fail
      refine (szM_no B lm d (left - la) _ (by omega) (by omega) (by omega) (by omega)).mono ?_
      rintro e w' ⟨rfl, rfl⟩
      go_wp2
      go_ret
      exact hpost
  · have hpost : LeftPost left (la + lm) w (.returned (.int .i64 (-1))) (w.alloc (.cells #[.int .i64 z1, .int .i64 z2, .slice A la c, .slice B lm d] 25)) := ⟨by rw [leftR_no (by omega)], hb0⟩
    clear hb0
    go_enter Try.func15, Try.ntmps15
    go_wp2_with fail
    refine (szB_no A la c left _ (by omega) h0 h1 (by omega)).mono ?_
    rintro e w' ⟨rfl, rfl⟩
    go_wp2
    go_ret
    exact hpost

/-- A machine whose slices are of the call's own. -/
def MachOut (t : Mach) (w : World) (e : Ending) (w' : World) : Prop :=
  ∃ A1 c1 A2 c2 S, e = .returned (.agg #[.int .i64 t.st, .int .i64 t.rg, .slice A1 t.ac.length c1, .slice A2 t.mv.length c2]) ∧
    OwnL w' S [.int .i64 t.st, .int .i64 t.rg, .slice A1 t.ac.length c1, .slice A2 t.mv.length c2] (encM t) ∧ (∀ b ∈ S, w.heap.size ≤ b) ∧ Below w.heap.size w w'

set_option maxRecDepth 100000 in
set_option maxHeartbeats 4000000 in
theorem toMachine_any (t : Mach) (hf : FitM t) (w : World) (x : Value) (hx : MachIn w x t) :
    Calls Try.prog 17 #[x] w (MachOut t w) := by
  obtain ⟨hl1, hl2⟩ := hf
  obtain ⟨A, c, B, d, rfl, hl, hm⟩ := hx
  obtain ⟨z1, z2, l, p⟩ := t
  dsimp only at *
  have HL1 := Lib.hid hl1
  have HL2 := Lib.hid hl2
  obtain ⟨la, hla⟩ : ∃ n, n = l.length := ⟨_, rfl⟩
  obtain ⟨lm, hlm⟩ : ∃ n, n = p.length := ⟨_, rfl⟩
  have hb0 : Below w.heap.size w (((w.alloc (.cells #[.int .i64 z1, .int .i64 z2, .slice A la c, .slice B lm d] 25)).alloc (.cells #[.int .i64 0, .int .i64 0, .slice none 0 0, .slice none 0 0] 30)).alloc (.cells #[.int .i64 z1, .int .i64 z2, .slice none 0 0, .slice none 0 0] 30)) :=
    (((Below.refl _ _).alloc (Nat.le_refl _) _).alloc (by simp) _).alloc (by simp; omega) _
  have hto := toBoolS_any A c l (((w.alloc (.cells #[.int .i64 z1, .int .i64 z2, .slice A la c, .slice B lm d] 25)).alloc (.cells #[.int .i64 0, .int .i64 0, .slice none 0 0, .slice none 0 0] 30)).alloc (.cells #[.int .i64 z1, .int .i64 z2, .slice none 0 0, .slice none 0 0] 30)) (by rw [hla, hlm]; rw [hla, hlm] at hb0; exact hl.below hb0) (by omega)
  rw [← hla] at hto
  have hsz0 : (((w.alloc (.cells #[.int .i64 z1, .int .i64 z2, .slice A la c, .slice B lm d] 25)).alloc (.cells #[.int .i64 0, .int .i64 0, .slice none 0 0, .slice none 0 0] 30)).alloc (.cells #[.int .i64 z1, .int .i64 z2, .slice none 0 0, .slice none 0 0] 30)).heap.size = w.heap.size + 3 := by simp
  have hbox : (((w.alloc (.cells #[.int .i64 z1, .int .i64 z2, .slice A la c, .slice B lm d] 25)).alloc (.cells #[.int .i64 0, .int .i64 0, .slice none 0 0, .slice none 0 0] 30)).alloc (.cells #[.int .i64 z1, .int .i64 z2, .slice none 0 0, .slice none 0 0] 30)).heap[w.heap.size]? = some (.cells #[.int .i64 z1, .int .i64 z2, .slice A la c, .slice B lm d] 25 (0, 0)) :=
    (Below.heap_alloc _ _ _ (by simp; omega)).trans ((Below.heap_alloc _ _ _ (by simp)).trans (heap_alloc_new w _))
  have hres : (((w.alloc (.cells #[.int .i64 z1, .int .i64 z2, .slice A la c, .slice B lm d] 25)).alloc (.cells #[.int .i64 0, .int .i64 0, .slice none 0 0, .slice none 0 0] 30)).alloc (.cells #[.int .i64 z1, .int .i64 z2, .slice none 0 0, .slice none 0 0] 30)).heap[w.heap.size + 1]? = some (.cells #[.int .i64 0, .int .i64 0, .slice none 0 0, .slice none 0 0] 30 (0, 0)) := by
    have h9 := heap_alloc_new (w.alloc (.cells #[.int .i64 z1, .int .i64 z2, .slice A la c, .slice B lm d] 25)) (.cells #[.int .i64 0, .int .i64 0, .slice none 0 0, .slice none 0 0] 30)
    rw [World.size_alloc] at h9
    exact (Below.heap_alloc _ _ _ (by simp)).trans h9
  have hout : (((w.alloc (.cells #[.int .i64 z1, .int .i64 z2, .slice A la c, .slice B lm d] 25)).alloc (.cells #[.int .i64 0, .int .i64 0, .slice none 0 0, .slice none 0 0] 30)).alloc (.cells #[.int .i64 z1, .int .i64 z2, .slice none 0 0, .slice none 0 0] 30)).heap[w.heap.size + 1 + 1]? = some (.cells #[.int .i64 z1, .int .i64 z2, .slice none 0 0, .slice none 0 0] 30 (0, 0)) := by
    have h9 := heap_alloc_new ((w.alloc (.cells #[.int .i64 z1, .int .i64 z2, .slice A la c, .slice B lm d] 25)).alloc (.cells #[.int .i64 0, .int .i64 0, .slice none 0 0, .slice none 0 0] 30)) (.cells #[.int .i64 z1, .int .i64 z2, .slice none 0 0, .slice none 0 0] 30)
    rw [World.size_alloc, World.size_alloc] at h9
    exact h9
  have HM := Lib.hid hm
  have HS0 := Lib.hid hsz0
  have HK := Lib.hid hbox
  have HR := Lib.hid hres
  have HO := Lib.hid hout
  have HB0 := Lib.hid hb0
  have HLA := Lib.hid hla
  have HLM := Lib.hid hlm
  rw [← hla, ← hlm]
  obtain ⟨m0, m1, m2, m3⟩ := MachK.row4 hbox
  clear hl hm hbox hres hout hb0 hsz0 hl1 hl2 hla hlm
  go_enter Try.func17, Try.ntmps17
  go_wp2_with fail
  refine hto.mono ?_
  rintro e w1 ⟨v1, rfl, ho1, hb1⟩
  have ho1' := ho1
  rw [← HLA.out] at ho1'
  have hS1 := cellRow_of ho1
  obtain ⟨A1, c1, rfl, _⟩ := own_boolsAt ho1
  rw [← HLA.out] at hS1 ⊢
  have hS1b : ∀ b ∈ (Value.slice A1 la c1).ownBlock.toList, (((w.alloc (.cells #[.int .i64 z1, .int .i64 z2, .slice A la c, .slice B lm d] 25)).alloc (.cells #[.int .i64 0, .int .i64 0, .slice none 0 0, .slice none 0 0] 30)).alloc (.cells #[.int .i64 z1, .int .i64 z2, .slice none 0 0, .slice none 0 0] 30)).heap.size ≤ b := fun b hb => (ho1'.lt b (by rw [HLA.out] at hb; simpa using hb)).1
  have hz1 := hb1.size
  rw [HS0.out] at hz1 hS1b
  have k1 := (hb1.block w.heap.size (by rw [HS0.out]; omega)).trans HK.out
  have r1 := (hb1.block (w.heap.size + 1) (by rw [HS0.out]; omega)).trans HR.out
  have o1 := (hb1.block (w.heap.size + 1 + 1) (by rw [HS0.out]; omega)).trans HO.out
  have hbz1 := HB0.out.trans (hb1.mono HB0.out.size)
  clear hto m0 m1 m2 m3 hb1 HK HR HO HB0 HS0 ho1 ho1'
  have o2 := heap_setCell_same w1 (w.heap.size + 1 + 1) 2 _ _ (.slice A1 la c1) o1
  have on2 : Only [w.heap.size + 1 + 1] w1 (w1.setCell ⟨w.heap.size + 1 + 1, 2, none⟩ (.slice A1 la c1)) := (Only.refl _ _).set ⟨w.heap.size + 1 + 1, 2, none⟩ _ (by simp)
  have k2 := (on2.block w.heap.size (MachK.box_lt k1) (by first | (simp; done) | (simp; omega))).trans k1
  have r2 := (on2.block (w.heap.size + 1) (MachK.box_lt r1) (by first | (simp; done) | (simp; omega))).trans r1
  have hbz2 := hbz1.setCell (p := ⟨w.heap.size + 1 + 1, 2, none⟩) (show w.heap.size ≤ w.heap.size + 1 + 1 by omega) (.slice A1 la c1)
  have hS2 := hS1.setCell_other ⟨w.heap.size + 1 + 1, 2, none⟩ (.slice A1 la c1) (fun b hb => by have := hS1b b hb; show b ≠ w.heap.size + 1 + 1; omega)
  have hfr := toMoveS_any B d p (w1.setCell ⟨w.heap.size + 1 + 1, 2, none⟩ (.slice A1 la c1)) (HM.out.below hbz2) (by have := HL2.out; omega)
  rw [← HLM.out] at hfr
  obtain ⟨m0, m1, m2, m3⟩ := MachK.row4 k2
  obtain ⟨x0, x1, x2, x3⟩ := MachK.row4 o1
  have y0 := frozen_of_row _ _ 2 _ _ o1
  have HO2 := Lib.hid o2
  have HR2 := Lib.hid r2
  have HBZ := Lib.hid hbz2
  have HS2 := Lib.hid hS2
  have HSb := Lib.hid hS1b
  have HSZ : Hid (w1.heap.size = (w1.setCell ⟨w.heap.size + 1 + 1, 2, none⟩ (.slice A1 la c1)).heap.size) := Lib.hid (by simp)
  clear o1 o2 r1 r2 k1 k2 on2 hbz1 hbz2 hS1 hS2 hS1b
  go_wp2_with fail
  refine hfr.mono ?_
  rintro e w3 ⟨v2, rfl, ho3, hb3⟩
  have hS3 := MachK.row2_of ho3
  have hS3b : ∀ b ∈ v2.ownBlock.toList, (w1.setCell ⟨w.heap.size + 1 + 1, 2, none⟩ (.slice A1 la c1)).heap.size ≤ b := fun b hb => (ho3.lt b (by simpa using hb)).1
  obtain ⟨B2, d2, rfl, _⟩ := own_pairsAt ho3
  rw [← HLM.out] at hS3 hS3b ⊢
  clear ho3
  rw [← HSZ.out] at hS3b
  have o3 := (hb3.block (w.heap.size + 1 + 1) (MachK.box_lt HO2.out)).trans HO2.out
  have r3 := (hb3.block (w.heap.size + 1) (MachK.box_lt HR2.out)).trans HR2.out
  have hbz3 := HBZ.out.trans (hb3.mono HBZ.out.size)
  have hS4 := HS2.out.keep hb3
  have hlt4 : ∀ b ∈ (Value.slice A1 la c1).ownBlock.toList, b < w1.heap.size := fun b hb => by rw [HSZ.out]; exact HS2.out.lt b hb
  have hd : ∀ b ∈ (Value.slice A1 la c1).ownBlock.toList, b ∉ (Value.slice B2 lm d2).ownBlock.toList := fun b h1 h3 => by have h4 := hS3b b h3; have h5 := hlt4 b h1; omega
  have hL := mach_ownL (a := .int .i64 z1) (b := .int .i64 z2) hS4 hS3 hd
  generalize hP : (Value.slice A1 la c1).ownBlock.toList = P1 at *
  generalize hQ : (Value.slice B2 lm d2).ownBlock.toList = P3 at *
  have hLb : ∀ b ∈ P1 ++ (P3 ++ []), w.heap.size + 2 < b := fun b hb => by
      rw [List.append_nil] at hb
      rcases List.mem_append.1 hb with h | h
      · have := HSb.out b h; omega
      · have := hS3b b h; omega
  clear hfr m0 m1 m2 m3 x0 x1 x2 x3 y0 hP hQ
  have onF : Only [w.heap.size + 1 + 1, w.heap.size + 1] w3 (((((w3.setCell ⟨w.heap.size + 1 + 1, 3, none⟩ (.slice B2 lm d2)).setCell ⟨w.heap.size + 1, 0, none⟩ (.int .i64 z1)).setCell ⟨w.heap.size + 1, 1, none⟩ (.int .i64 z2)).setCell ⟨w.heap.size + 1, 2, none⟩ (.slice A1 la c1)).setCell ⟨w.heap.size + 1, 3, none⟩ (.slice B2 lm d2)) := ((((((Only.refl _ _).set ⟨w.heap.size + 1 + 1, 3, none⟩ _ (by simp)).set ⟨w.heap.size + 1, 0, none⟩ _ (by simp)).set ⟨w.heap.size + 1, 1, none⟩ _ (by simp)).set ⟨w.heap.size + 1, 2, none⟩ _ (by simp)).set ⟨w.heap.size + 1, 3, none⟩ _ (by simp))
  have hbF : Below w.heap.size w (((((w3.setCell ⟨w.heap.size + 1 + 1, 3, none⟩ (.slice B2 lm d2)).setCell ⟨w.heap.size + 1, 0, none⟩ (.int .i64 z1)).setCell ⟨w.heap.size + 1, 1, none⟩ (.int .i64 z2)).setCell ⟨w.heap.size + 1, 2, none⟩ (.slice A1 la c1)).setCell ⟨w.heap.size + 1, 3, none⟩ (.slice B2 lm d2)) := (((((hbz3.setCell (p := ⟨w.heap.size + 1 + 1, 3, none⟩) (show w.heap.size ≤ w.heap.size + 1 + 1 by omega) _).setCell (p := ⟨w.heap.size + 1, 0, none⟩) (show w.heap.size ≤ w.heap.size + 1 by omega) _).setCell (p := ⟨w.heap.size + 1, 1, none⟩) (show w.heap.size ≤ w.heap.size + 1 by omega) _).setCell (p := ⟨w.heap.size + 1, 2, none⟩) (show w.heap.size ≤ w.heap.size + 1 by omega) _).setCell (p := ⟨w.heap.size + 1, 3, none⟩) (show w.heap.size ≤ w.heap.size + 1 by omega) _)
  have hLF := hL.alike (w' := (((((w3.setCell ⟨w.heap.size + 1 + 1, 3, none⟩ (.slice B2 lm d2)).setCell ⟨w.heap.size + 1, 0, none⟩ (.int .i64 z1)).setCell ⟨w.heap.size + 1, 1, none⟩ (.int .i64 z2)).setCell ⟨w.heap.size + 1, 2, none⟩ (.slice A1 la c1)).setCell ⟨w.heap.size + 1, 3, none⟩ (.slice B2 lm d2))) fun bb hbb => onF.block bb (hL.lt bb hbb) (by have := hLb bb hbb; simp; omega)
  have hpost : MachOut ⟨z1, z2, l, p⟩ w (.returned (.agg #[.int .i64 z1, .int .i64 z2, .slice A1 la c1, .slice B2 lm d2])) (((((w3.setCell ⟨w.heap.size + 1 + 1, 3, none⟩ (.slice B2 lm d2)).setCell ⟨w.heap.size + 1, 0, none⟩ (.int .i64 z1)).setCell ⟨w.heap.size + 1, 1, none⟩ (.int .i64 z2)).setCell ⟨w.heap.size + 1, 2, none⟩ (.slice A1 la c1)).setCell ⟨w.heap.size + 1, 3, none⟩ (.slice B2 lm d2)) :=
    ⟨A1, c1, B2, d2, _, by rw [HLA.out, HLM.out], by have := hLF; rw [HLA.out, HLM.out] at this; unfold encM boolMem moveMem; rw [HLA.out, HLM.out]; exact this, fun b hb => by have := hLb b hb; omega, hbF⟩
  obtain ⟨x0, x1, x2, x3⟩ := MachK.row4 o3
  have y0 := frozen_of_row _ _ 0 _ _ o3
  have y1 := frozen_of_row _ _ 1 _ _ o3
  have y2 := frozen_of_row _ _ 2 _ _ o3
  have y3 := frozen_of_row _ _ 3 _ _ o3
  obtain ⟨s0, s1, s2, s3⟩ := MachK.row4 r3
  have z0 := frozen_of_row _ _ 0 _ _ r3
  have z1' := frozen_of_row _ _ 1 _ _ r3
  have z2' := frozen_of_row _ _ 2 _ _ r3
  have z3 := frozen_of_row _ _ 3 _ _ r3
  have HPO := Lib.hid hpost
  clear hpost hLF hL hLb hd hbF onF o3 r3 hbz3 hS3 hS4 hb3 HS2 HSb HSZ HBZ HO2 HR2 HM hS3b hlt4 HLA HLM HL1 HL2
  go_wp2
  exact bodyPost_ret (v := .agg #[.int .i64 z1, .int .i64 z2, .slice A1 la c1, .slice B2 lm d2]) (by simp [results, Try.results17, go_sem, s0, s1, s2, s3]) rfl HPO.out

set_option maxRecDepth 100000 in
set_option maxHeartbeats 2000000 in
theorem eqMachine_any (t : Mach) (hf : FitM t) (w : World) (x y : Value) (hx9 : MachIx w x t) (hy9 : MachIx w y t) :
    Calls Try.prog 19 #[x, y] w (YesPost w) := by
  obtain ⟨hl1, hl2⟩ := hf
  obtain ⟨A, c, B, d, rfl, hxl, hxm⟩ := hx9.in_
  obtain ⟨A', c', B', d', rfl, hyl, hym⟩ := hy9.in_
  clear hx9 hy9
  obtain ⟨z1, z2, l, p⟩ := t
  dsimp only at *
  have he1 : ∀ W : World, Below w.heap.size w W → Calls Try.prog 57 #[.slice A l.length c, .slice A' l.length c'] W (fun e w' => e = .returned (.bool true) ∧ Below W.heap.size W w') := fun W hb => by
    have h := eqBoolS_any A A' c c' l l W (hxl.below hb) (hyl.below hb) (by omega)
    rw [decide_eq_true (rfl : l = l)] at h
    exact h
  have he2 : ∀ W : World, Below w.heap.size w W → Calls Try.prog 58 #[.slice B p.length d, .slice B' p.length d'] W (fun e w' => e = .returned (.bool true) ∧ Below W.heap.size W w') := fun W hb => by
    have h := eqMoveS_any B B' d d' p p W (hxm.below hb) (hym.below hb) (by omega)
    rw [decide_eq_true (rfl : p = p)] at h
    exact h
  generalize l.length = la at *
  generalize p.length = lm at *
  have hb0 : Below w.heap.size w ((w.alloc (.cells #[.int .i64 z1, .int .i64 z2, .slice A la c, .slice B lm d] 30)).alloc (.cells #[.int .i64 z1, .int .i64 z2, .slice A' la c', .slice B' lm d'] 30)) := ((Below.refl _ _).alloc (Nat.le_refl _) _).alloc (by simp) _
  have k0 : ((w.alloc (.cells #[.int .i64 z1, .int .i64 z2, .slice A la c, .slice B lm d] 30)).alloc (.cells #[.int .i64 z1, .int .i64 z2, .slice A' la c', .slice B' lm d'] 30)).heap[w.heap.size]? = some (.cells #[.int .i64 z1, .int .i64 z2, .slice A la c, .slice B lm d] 30 (0, 0)) := (Below.heap_alloc _ _ _ (by simp)).trans (heap_alloc_new w _)
  have k1 : ((w.alloc (.cells #[.int .i64 z1, .int .i64 z2, .slice A la c, .slice B lm d] 30)).alloc (.cells #[.int .i64 z1, .int .i64 z2, .slice A' la c', .slice B' lm d'] 30)).heap[w.heap.size + 1]? = some (.cells #[.int .i64 z1, .int .i64 z2, .slice A' la c', .slice B' lm d'] 30 (0, 0)) := by
    have h := heap_alloc_new (w.alloc (.cells #[.int .i64 z1, .int .i64 z2, .slice A la c, .slice B lm d] 30)) (.cells #[.int .i64 z1, .int .i64 z2, .slice A' la c', .slice B' lm d'] 30)
    rw [World.size_alloc] at h
    exact h
  have h1 := he1 _ hb0
  have hzz : (z1 != z1) = false := by simp
  have hzy : (z2 != z2) = false := by simp
  have HB0 := Lib.hid hb0
  have HK0 := Lib.hid k0
  have HK1 := Lib.hid k1
  obtain ⟨m0, m1, m2, m3⟩ := MachK.row4 k0
  obtain ⟨n0, n1, n2, n3⟩ := MachK.row4 k1
  clear hxl hxm hyl hym hb0 k0 k1 hl1 hl2
  go_enter Try.func19, Try.ntmps19
  go_wp2_with fail
  refine h1.mono ?_
  rintro e w1 ⟨rfl, hb1⟩
  have hbw1 := HB0.out.trans (hb1.mono HB0.out.size)
  have k0 := (hb1.block w.heap.size (MachK.box_lt HK0.out)).trans HK0.out
  have k1 := (hb1.block (w.heap.size + 1) (MachK.box_lt HK1.out)).trans HK1.out
  clear h1 he1 m0 m1 m2 m3 n0 n1 n2 n3
  obtain ⟨m0, m1, m2, m3⟩ := MachK.row4 k0
  obtain ⟨n0, n1, n2, n3⟩ := MachK.row4 k1
  have h2 := he2 w1 hbw1
  clear k0 k1 he2
  go_wp2_with fail
  refine h2.mono ?_
  rintro e w2 ⟨rfl, hb2⟩
  have hbw2 := hbw1.trans (hb2.mono hbw1.size)
  clear h2 m0 m1 m2 m3 n0 n1 n2 n3
  go_wp2
  go_ret
  exact ⟨rfl, hbw2⟩

/-- The cells of a machine, numbered from k on. -/
def mkM (k : Int) (t : Mach) : List Mem := [.cell (.int .i64 t.st), .cell (.int .i64 t.rg), .row 4 1 ((bmarked k t.ac.length).map .cell), .row 70 2 ((marked (k + t.ac.length) (t.mv.length * 2)).map .cell)]
set_option maxRecDepth 100000 in
set_option maxHeartbeats 2000000 in
theorem markMachine_any (t : Mach) (hf : FitM t) (S : List Nat) (A B : Option Addr) (c d : Nat) (k : Int) (w : World) (hk0 : 0 ≤ k) (hk1 : k + t.ac.length + t.mv.length * 2 ≤ 9007199254740992)
    (h : OwnL w S [.int .i64 t.st, .int .i64 t.rg, .slice A t.ac.length c, .slice B t.mv.length d] (encM t)) :
    Calls Try.prog 24 #[.agg #[.int .i64 t.st, .int .i64 t.rg, .slice A t.ac.length c, .slice B t.mv.length d], .int .i64 k] w
      fun e w' => e = .returned (.int .i64 (k + t.ac.length + t.mv.length * 2)) ∧ (∃ S', OwnL w' S' [.int .i64 t.st, .int .i64 t.rg, .slice A t.ac.length c, .slice B t.mv.length d] (mkM k t) ∧ ∀ b ∈ S', b ∈ S) ∧ Only S w w' := by
  obtain ⟨P, K, hS, hd, hP, hK⟩ := ownL_mach h
  clear h
  obtain ⟨z1, z2, l, p⟩ := t
  unfold mkM
  dsimp only at *
  have hbx : Below w.heap.size w (w.alloc (.cells #[.int .i64 z1, .int .i64 z2, .slice A l.length c, .slice B p.length d] 30)) := (Below.refl _ _).alloc (Nat.le_refl _) _
  have hP1 := hP.keep hbx
  have hK1 := hK.keep hbx
  obtain ⟨how, hPe⟩ := cellRow_own (bcells_len l) hP1
  obtain ⟨hok, hKe⟩ := MachK.row2_own (cellsOf_len p) hK1
  have hmp := markBoolS_own 0 l.length (.slice A l.length c) _ k _ how (by omega) (by omega)
  have hlt := fun (b : Nat) hb => hP.lt b hb
  clear hP hK hP1 how hK1 hf
  generalize l.length = la at *
  generalize p.length = lm at *
  go_enter Try.func24, Try.ntmps24
  go_wp2_with fail
  (with_reducible refine hmp.mono ?_)
  rintro e w1 ⟨rfl, hom, hg1⟩
  have hon1 : Only P (w.alloc (.cells #[.int .i64 z1, .int .i64 z2, .slice A la c, .slice B lm d] 30)) w1 := Only.of_grown hg1 (fun b e => by rw [hPe, e]; simp)
  have hok1 := own_only hok hon1 (fun b e hp => hd b hp (by rw [hKe, e]; simp))
  have b3 : w1.cell? ⟨w.heap.size, 3, none⟩ = some (.slice B lm d) := by
    have h9 := (hon1.block w.heap.size (by simp) (fun hp => by have := hlt _ hp; omega)).trans (heap_alloc_new w _)
    rw [cell_of_row w1 w.heap.size _ _ _ _ h9]; rfl
  have hon2 : Only S w w1 := (only_of_below hbx).trans (hon1.wide fun b hb => (hS b).2 (.inl hb))
  have hmk := markMoveS_own 0 lm (.slice B lm d) _ (k + la) w1 hok1 (by omega) (by omega)
  have HOM := Lib.hid hom
  clear hmp hg1 hon1 hok hbx hok1 hom
  go_wp2_with fail
  (with_reducible refine hmk.mono ?_)
  rintro e w2 ⟨rfl, hom2, hg2⟩
  have hon3 : Only K w1 w2 := Only.of_grown hg2 (fun b e => by rw [hKe, e]; simp)
  have hom3 := own_only HOM.out hon3 (fun b e hp => hd b (by rw [hPe, e]; simp) hp)
  have hon4 := hon2.trans (hon3.wide fun b hb => (hS b).2 (.inr hb))
  have q1 := cellRow_of hom3
  have q2 := MachK.row2_of hom2
  have hL := mach_ownL (a := .int .i64 z1) (b := .int .i64 z2) q1 q2 (by rw [← hPe, ← hKe]; exact hd)
  have hmem : ∀ b ∈ (Value.slice A la c).ownBlock.toList ++ ((Value.slice B lm d).ownBlock.toList ++ []), b ∈ S := fun b hb => by
    rw [List.append_nil, ← hPe, ← hKe] at hb
    exact (hS b).2 (List.mem_append.1 hb)
  have HFIN := Lib.hid (show (∃ S', OwnL w2 S' _ _ ∧ ∀ b ∈ S', b ∈ S) ∧ Only S w w2 from ⟨⟨_, hL, hmem⟩, hon4⟩)
  clear hmk hon2 hon3 b3 HOM hom2 hom3 hg2 q1 q2 hL hmem hon4
  go_wp2
  go_ret
  exact ⟨rfl, HFIN.out⟩

set_option maxRecDepth 100000 in
set_option maxHeartbeats 2000000 in
theorem heldMachine_any (t : Mach) (hf : FitM t) (S : List Nat) (A B : Option Addr) (c d : Nat) (k : Int) (w : World) (hk0 : 0 ≤ k) (hk1 : k + t.ac.length + t.mv.length * 2 ≤ 9007199254740992)
    (h : OwnL w S [.int .i64 t.st, .int .i64 t.rg, .slice A t.ac.length c, .slice B t.mv.length d] (mkM k t)) :
    Calls Try.prog 31 #[.agg #[.int .i64 t.st, .int .i64 t.rg, .slice A t.ac.length c, .slice B t.mv.length d], .int .i64 k] w
      fun e w' => e = .returned (.int .i64 (k + t.ac.length + t.mv.length * 2)) ∧ Below w.heap.size w w' := by
  obtain ⟨z1, z2, l, p⟩ := t
  unfold mkM at h
  dsimp only at *
  have hbx : Below w.heap.size w (w.alloc (.cells #[.int .i64 z1, .int .i64 z2, .slice A l.length c, .slice B p.length d] 30)) := (Below.refl _ _).alloc (Nat.le_refl _) _
  generalize l.length = la at *
  generalize p.length = lm at *
  cases h with
  | cons h0 k0 hd0 =>
    cases k0 with
    | cons h1 k1 hd1 =>
      cases k1 with
      | cons h2 k2 hd2 =>
        cases k2 with
        | cons h3 k3 hd3 =>
          have r2 := own_below (cellRow_own (bmarked_len k la) h2).1 hbx
          have r3 := own_below (MachK.row2_own (marked_len (k + la) (lm * 2)) h3).1 hbx
          clear h0 h1 h2 h3 k3 hd0 hd1 hd2 hd3
          have hmp := heldBoolS_own 0 la (.slice A la c) k _ r2 (by omega) (by omega)
          have hmq := heldMoveS_own 0 lm (.slice B lm d) (k + la) _ r3 (by omega) (by omega)
          have t1 : ¬ k + (la : Int) < 0 := by omega
          have t2 : ¬ k + (la : Int) + (lm : Int) * 2 < 0 := by omega
          clear r2 r3 hf
          go_enter Try.func31, Try.ntmps31
          go_wp2_with fail
          (with_reducible refine hmp.mono ?_)
          rintro e w1 ⟨rfl, rfl⟩
          clear hmp
          go_wp2_with fail
          (with_reducible refine hmq.mono ?_)
          rintro e w1 ⟨rfl, rfl⟩
          clear hmq
          go_wp2
          go_ret
          exact ⟨rfl, hbx⟩
end Go.Proofs.Ytkhjdidcpoefdaa
