/-
  Slices of slices of numbers: their sizes, copies, comparison and numbering, as contracts. Orbit sets: how they lie in memory, their sizes, their copies, comparison and numbering, as contracts.
-/
import Derived.Test.YtnamlgacjhnpnaaGreatKReduced3
import Derived.Test.YtnamlgacjhnpnaaGreatKReduced8
import Derived.Test.YtnamlgacjhnpnaaGreatKReduced9
import Derived.Test.YtnamlgacjhnpnaaGreatKReduced6
import Derived.Test.YtnamlgacjhnpnaaGreatKReduced4
import Derived.Test.YtnamlgacjhnpnaaGreatKReduced10
section
namespace Go.Proofs.YtnamlgacjhnpnaaGreat
open Go.RowKit Go.Sort
set_option linter.unusedVariables false

theorem rows_info : (Tryz.prog.info? 24).map (fun i => (i.zero, i.size, i.bytes)) = some (some (.slice none 0 0), 1, 24) := by kernel_rfl

end Go.Proofs.YtnamlgacjhnpnaaGreat
end

section
namespace Go.Proofs.YtnamlgacjhnpnaaGreat
open Go.RowKit
set_option linter.unusedVariables false

abbrev ConstAt := ConstAtR
theorem ConstAt.below {w w' : World} {A : Option Addr} {c : Nat} {l : List Int} (h : ConstAt w A c l) (hb : Below w.heap.size w w') : ConstAt w' A c l := ⟨h.1.below hb, h.2⟩
/-- A value that is an orbit set. -/
def OrbIn (w : World) (x : Value) (z : Int) (l : List Int) (m : List (List Int)) : Prop :=
  ∃ A c B d, x = .agg #[.int .i64 z, .slice A l.length c, .slice B m.length d] ∧ ConstAt w A c l ∧ RowsIn w (.slice B m.length d) m
theorem OrbIn.below {w w' : World} {x : Value} {z : Int} {l : List Int} {m : List (List Int)} (h : OrbIn w x z l m) (hb : Below w.heap.size w w') : OrbIn w' x z l m := by
  obtain ⟨A, c, B, d, rfl, h1, h2⟩ := h
  exact ⟨A, c, B, d, rfl, h1.below hb, h2.below hb⟩
def FitO (l : List Int) (m : List (List Int)) : Prop := l.length ≤ 2097152 ∧ FitR m
def encO (z : Int) (l : List Int) (m : List (List Int)) : List Mem := [.cell (.int .i64 z), intMem l, rowsMem m]

namespace OrbK
theorem box_lt {w : World} {g : Nat} {o : Obj} (h : w.heap[g]? = some o) : g < w.heap.size := (Array.getElem?_eq_some_iff.1 h).1
theorem row3 {w : World} {g : Nat} {a b c : Value} {T : TypeId} (h : w.heap[g]? = some (.cells #[a, b, c] T (0, 0))) : w.cell? ⟨g, 0, none⟩ = some a ∧ w.cell? ⟨g, 1, none⟩ = some b ∧ w.cell? ⟨g, 2, none⟩ = some c := by
  refine ⟨?_, ?_, ?_⟩ <;> rw [cell_of_row w g _ _ _ _ h] <;> rfl
end OrbK

/-- Rows, each with room for itself. -/
def RowsC (w : World) (A : Option Addr) (ls : List (List Int)) : Prop :=
  0 < ls.length → ∃ b off, A = some ⟨b, off, none⟩ ∧ b < w.heap.size ∧ ∀ i, i < ls.length → ∃ A1 c1, w.cell? ⟨b, off + i, none⟩ = some (.slice A1 (rwAt ls i).length c1) ∧ IntsAt w A1 (rwAt ls i) ∧ (rwAt ls i).length ≤ c1
theorem RowsC.below {w w' : World} {A : Option Addr} {ls : List (List Int)} (h : RowsC w A ls) (hb : Below w.heap.size w w') : RowsC w' A ls := by
  intro hp
  obtain ⟨b, off, rfl, hlt, hc⟩ := h hp
  refine ⟨b, off, rfl, Nat.lt_of_lt_of_le hlt hb.size, fun i hi => ?_⟩
  obtain ⟨A1, c1, h1, h2, h3⟩ := hc i hi
  exact ⟨A1, c1, (hb.cell (p := ⟨b, off + i, none⟩) hlt).trans h1, h2.below hb, h3⟩
theorem own_rowsC {w : World} {T : List Nat} {A : Option Addr} {n c : Nat} {ls : List (List Int)} (h : Own w T (.slice A n c) (rowsMem ls)) : RowsC w A ls := by
  intro hp
  obtain ⟨g, cap, xs, S', _, ev, ho, hL, _⟩ := own_rows (encR_len ls) h hp
  injection ev with e1 e2 e3
  subst e1; subst e2; subst e3
  refine ⟨g, 0, rfl, (ho.lt g rfl).2, fun i hi => ?_⟩
  obtain ⟨u, T', hu, hT, _, _⟩ := hL.focus i _ (encR_at hi)
  obtain ⟨A1, c1, rfl, hA⟩ := at_intRow hT.at_
  refine ⟨A1, c1, by rw [Nat.zero_add]; exact (ho.cellAt i (by omega)).trans hu, hA, ?_⟩
  rcases (cellRow_own (icells_len _) hT).1.2 with ⟨e, h0⟩ | ⟨g2, cap2, cur, e, _, _, hn, _⟩
  · omega
  · injection e with _ _ e3
    omega
/-- A value that is an orbit set, as it is handed over. -/
def OrbIx (w : World) (x : Value) (z : Int) (l : List Int) (m : List (List Int)) : Prop :=
  ∃ A c B d, x = .agg #[.int .i64 z, .slice A l.length c, .slice B m.length d] ∧ ConstAt w A c l ∧ RowsIn w (.slice B m.length d) m ∧ RowsC w B m
theorem OrbIx.below {w w' : World} {x : Value} {z : Int} {l : List Int} {m : List (List Int)} (h : OrbIx w x z l m) (hb : Below w.heap.size w w') : OrbIx w' x z l m := by
  obtain ⟨A, c, B, d, rfl, h1, h2, h3⟩ := h
  exact ⟨A, c, B, d, rfl, h1.below hb, h2.below hb, h3.below hb⟩
theorem orbOut_ix {w : World} {S : List Nat} {z : Int} {l : List Int} {m : List (List Int)} {A B : Option Addr} {c d : Nat} (h : OwnL w S [.int .i64 z, .slice A l.length c, .slice B m.length d] (encO z l m)) :
    OrbIx w (.agg #[.int .i64 z, .slice A l.length c, .slice B m.length d]) z l m := by
  unfold encO at h
  cases h with
  | cons _ h1 hd1 => cases h1 with
    | cons h2 h1 hd2 => cases h1 with
      | cons h3 _ _ =>
        obtain ⟨A', c', e, hp⟩ := at_intRow h2.at_
        simp only [Value.slice.injEq] at e
        obtain ⟨rfl, _, rfl⟩ := e
        refine ⟨A, c, B, d, rfl, ⟨hp, fun e => ?_⟩, h3.at_, own_rowsC h3⟩
        subst e
        exact own_nilcap h2

theorem orb_ownL {w : World} {z : Int} {l : List Int} {m : List (List Int)} {pv kv : Value} {S T : List Nat} (h : Own w S pv (intMem l)) (k : Own w T kv (rowsMem m)) (hd : ∀ b ∈ S, b ∉ T) : OwnL w (S ++ (T ++ [])) [.int .i64 z, pv, kv] (encO z l m) := by
  unfold encO
  exact .cons (S := []) (.cell _) (.cons h (.cons k .nil (fun b _ => by simp)) (fun b hb ht => hd b hb (by simpa using ht))) (fun b hb => by simp at hb)

/-- An orbit set whose slices are of the call's own. -/
def OrbOut (z : Int) (l : List Int) (m : List (List Int)) (w : World) (e : Ending) (w' : World) : Prop :=
  ∃ A1 c1 A2 c2 S, e = .returned (.agg #[.int .i64 z, .slice A1 l.length c1, .slice A2 m.length c2]) ∧
    OwnL w' S [.int .i64 z, .slice A1 l.length c1, .slice A2 m.length c2] (encO z l m) ∧ (∀ b ∈ S, w.heap.size ≤ b) ∧ Below w.heap.size w w'

end Go.Proofs.YtnamlgacjhnpnaaGreat
end

