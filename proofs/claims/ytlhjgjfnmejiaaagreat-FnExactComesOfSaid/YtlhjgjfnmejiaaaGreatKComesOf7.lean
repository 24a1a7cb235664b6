/-
  The laws' own copy of a term, as contracts. Numbering the cells of a term that is handed over by value, as a contract. Lists of elements of contexts: the laws' own copies and comparisons, as contracts. The shape of a term, in the program, as contracts. Whether a list has a number: in the model, as a contract. The moved atoms of a list of pairs: in the program, as a contract. A number is put into an ascending list, and the atoms of two lists of pairs together: in the model, as contracts. The atoms that two lists of pairs move: in the model, as a contract. What the pairs give to an atom, in the program and in the model, as contracts. Plain mathematics of permutations that are written as lists of pairs. The least atom that is not in a list: in the program, as a contract. slices.Index and slices.Contains at numbers, as contracts. The least atom that is not in a list: in the model, as a contract.
-/
import Derived.Test.YtlhjgjfnmejiaaaGreatKComesOf6
import Derived.Test.YtlhjgjfnmejiaaaGreatKComesOf5
import Derived.BigQuiet
import Derived.Lib.Hide
import Derived.Lib.QuietBelow
import Derived.Test.YtlhjgjfnmejiaaaGreatKComesOf4
import Derived.WalkLawsBesides
import Derived.WalkSpells
section
namespace Go.Proofs.YtlhjgjfnmejiaaaGreat
open Go.RowKit Go.Sort

theorem Own.setCell_other {w : World} {S : List Nat} {v : Value} {m : Mem} (h : Own w S v m) (a : Addr) (u : Value) (hb : ∀ b ∈ S, b ≠ a.block) : Own (w.setCell a u) S v m :=
  h.alike fun b hb' => Below.heap_setCell w a u b (hb b hb')

theorem OwnL.setOther {w : World} {S : List Nat} {vs : List Value} {ms : List Mem} (h : OwnL w S vs ms) (a : Addr) (u : Value) (hb : ∀ b ∈ S, b ≠ a.block) : OwnL (w.setCell a u) S vs ms :=
  h.alike fun b hb' => Below.heap_setCell w a u b (hb b hb')

/-- A slice of terms of the call's own. -/
def TmsOut (ts : List Tm) (w : World) (e : Ending) (w' : World) : Prop :=
  ∃ v S, e = .returned v ∧ Own w' S v (tmsMem ts) ∧ (∀ b ∈ S, w.heap.size ≤ b) ∧ Below w.heap.size w w'

/-- A term whose slices are of the call's own. -/
def TmOut (t : Tm) (w : World) (e : Ending) (w' : World) : Prop :=
  ∃ A1 c1 A2 c2 S, e = .returned (.agg #[.int .i64 t.op, .int .i64 t.num, .slice A1 t.perm.length c1, .slice A2 t.kids.length c2]) ∧
    OwnL w' S [.int .i64 t.op, .int .i64 t.num, .slice A1 t.perm.length c1, .slice A2 t.kids.length c2] (encT t) ∧ (∀ b ∈ S, w.heap.size ≤ b) ∧ Below w.heap.size w w'

theorem ownL_term {w : World} {t : Tm} {pv kv : Value} {S T : List Nat} (h : Own w S pv (pairMem t.perm)) (k : Own w T kv (tmsMem t.kids)) (hd : ∀ b ∈ S, b ∉ T) : OwnL w (S ++ (T ++ [])) [.int .i64 t.op, .int .i64 t.num, pv, kv] (encT t) := by
  rw [encT_eq]
  exact .cons (S := []) (.cell _) (.cons (S := []) (.cell _) (.cons h (.cons k .nil (fun b _ => by simp)) (fun b hb ht => hd b hb (by simpa using ht))) (fun b hb => by simp at hb)) (fun b hb => by simp at hb)

set_option maxRecDepth 100000 in
set_option maxHeartbeats 2000000 in
theorem toTerm_of (t : Tm) (x : Value) (w : World) (hx : TmIn w x t) (hlen : t.perm.length ≤ 1099511627776)
    (ih : ∀ (w' : World) (y : Value), TmsIn w' y t.kids → Calls Tryz.prog 55 #[y] w' (TmsOut t.kids w')) :
    Calls Tryz.prog 18 #[x] w (TmOut t w) := by
  obtain ⟨A, c, kv, rfl, hp, hk⟩ := hx
  have hb0 : Below w.heap.size w (((w.alloc (.cells #[.int .i64 t.op, .int .i64 t.num, .slice A t.perm.length c, kv] 41)).alloc (.cells #[.int .i64 0, .int .i64 0, .slice none 0 0, .slice none 0 0] 46)).alloc (.cells #[.int .i64 t.op, .int .i64 t.num, .slice none 0 0, .slice none 0 0] 46)) :=
    (((Below.refl _ _).alloc (Nat.le_refl _) _).alloc (by simp) _).alloc (by simp; omega) _
  have hto := toPairS_any A c t.perm _ (hp.below hb0) hlen
  have hsz0 : (((w.alloc (.cells #[.int .i64 t.op, .int .i64 t.num, .slice A t.perm.length c, kv] 41)).alloc (.cells #[.int .i64 0, .int .i64 0, .slice none 0 0, .slice none 0 0] 46)).alloc (.cells #[.int .i64 t.op, .int .i64 t.num, .slice none 0 0, .slice none 0 0] 46)).heap.size = w.heap.size + 3 := by simp
  have hbox : (((w.alloc (.cells #[.int .i64 t.op, .int .i64 t.num, .slice A t.perm.length c, kv] 41)).alloc (.cells #[.int .i64 0, .int .i64 0, .slice none 0 0, .slice none 0 0] 46)).alloc (.cells #[.int .i64 t.op, .int .i64 t.num, .slice none 0 0, .slice none 0 0] 46)).heap[w.heap.size]? = some (.cells #[.int .i64 t.op, .int .i64 t.num, .slice A t.perm.length c, kv] 41 (0, 0)) :=
    (Below.heap_alloc _ _ _ (by simp; omega)).trans ((Below.heap_alloc _ _ _ (by simp)).trans (heap_alloc_new w _))
  have hres : (((w.alloc (.cells #[.int .i64 t.op, .int .i64 t.num, .slice A t.perm.length c, kv] 41)).alloc (.cells #[.int .i64 0, .int .i64 0, .slice none 0 0, .slice none 0 0] 46)).alloc (.cells #[.int .i64 t.op, .int .i64 t.num, .slice none 0 0, .slice none 0 0] 46)).heap[w.heap.size + 1]? = some (.cells #[.int .i64 0, .int .i64 0, .slice none 0 0, .slice none 0 0] 46 (0, 0)) := by
    have h9 := heap_alloc_new (w.alloc (.cells #[.int .i64 t.op, .int .i64 t.num, .slice A t.perm.length c, kv] 41)) (.cells #[.int .i64 0, .int .i64 0, .slice none 0 0, .slice none 0 0] 46)
    rw [World.size_alloc] at h9
    exact (Below.heap_alloc _ _ _ (by simp)).trans h9
  have hout : (((w.alloc (.cells #[.int .i64 t.op, .int .i64 t.num, .slice A t.perm.length c, kv] 41)).alloc (.cells #[.int .i64 0, .int .i64 0, .slice none 0 0, .slice none 0 0] 46)).alloc (.cells #[.int .i64 t.op, .int .i64 t.num, .slice none 0 0, .slice none 0 0] 46)).heap[w.heap.size + 1 + 1]? = some (.cells #[.int .i64 t.op, .int .i64 t.num, .slice none 0 0, .slice none 0 0] 46 (0, 0)) := by
    have h9 := heap_alloc_new ((w.alloc (.cells #[.int .i64 t.op, .int .i64 t.num, .slice A t.perm.length c, kv] 41)).alloc (.cells #[.int .i64 0, .int .i64 0, .slice none 0 0, .slice none 0 0] 46)) (.cells #[.int .i64 t.op, .int .i64 t.num, .slice none 0 0, .slice none 0 0] 46)
    rw [World.size_alloc, World.size_alloc] at h9
    exact h9
  have HS0 := Lib.hid hsz0
  have HB := Lib.hid hbox
  have HO := Lib.hid hout
  have HR := Lib.hid hres
  clear hsz0 hbox hout hres
  go_enter Tryz.func18, Tryz.ntmps18
  go_wp2_with fail
  refine hto.mono ?_
  rintro e w1 ⟨pv, rfl, ho1, hb1⟩
  obtain ⟨S1, hS1, hS1b, _⟩ := own_pairMem ho1
  obtain ⟨Ap, cp, rfl, _⟩ := own_pairsAt ho1
  have hbx := (hb1.block w.heap.size (by rw [HS0.out]; omega)).trans HB.out
  have hrx := (hb1.block (w.heap.size + 1) (by rw [HS0.out]; omega)).trans HR.out
  have hox := (hb1.block (w.heap.size + 1 + 1) (by rw [HS0.out]; omega)).trans HO.out
  have hs1 := hb1.size
  rw [HS0.out] at hs1 hS1b
  have ha3 : w1.cell? ⟨w.heap.size, 3, none⟩ = some kv := by rw [cell_of_row w1 w.heap.size 3 _ _ _ hbx]; rfl
  have ho2 : w1.cell? ⟨w.heap.size + 1 + 1, 2, none⟩ = some (.slice none 0 0) := by rw [cell_of_row w1 (w.heap.size + 1 + 1) 2 _ _ _ hox]; rfl
  have hf2 : w1.frozen? ⟨w.heap.size + 1 + 1, 2, none⟩ = false := frozen_of_row w1 (w.heap.size + 1 + 1) 2 _ _ hox
  have hw2 := heap_setCell_same w1 (w.heap.size + 1 + 1) 2 _ _ (.slice Ap t.perm.length cp) hox
  have hr2 : (w1.setCell ⟨w.heap.size + 1 + 1, 2, none⟩ (.slice Ap t.perm.length cp)).heap[w.heap.size + 1]? = _ := (Below.heap_setCell w1 ⟨w.heap.size + 1 + 1, 2, none⟩ (.slice Ap t.perm.length cp) (w.heap.size + 1) (by simp)).trans hrx
  have hbw : Below w.heap.size w (w1.setCell ⟨w.heap.size + 1 + 1, 2, none⟩ (.slice Ap t.perm.length cp)) := (hb0.trans (hb1.mono hb0.size)).setCell (by simp; omega) _
  have hS2 := hS1.setCell_other ⟨w.heap.size + 1 + 1, 2, none⟩ (.slice Ap t.perm.length cp) (fun b hb => by have := hS1b b hb; show b ≠ w.heap.size + 1 + 1; omega)
  have hih := ih (w1.setCell ⟨w.heap.size + 1 + 1, 2, none⟩ (.slice Ap t.perm.length cp)) kv (hk.below hbw)
  have hs2 : (w1.setCell ⟨w.heap.size + 1 + 1, 2, none⟩ (.slice Ap t.perm.length cp)).heap.size = w1.heap.size := by simp
  have HS2 := Lib.hid hs2
  have HW := Lib.hid hw2
  have HR2 := Lib.hid hr2
  clear hto hb0 hb1 ho1 hbx hox hrx hS1 HB HO HR HS0 hp hk ih hs2 hw2 hr2
  go_wp2_with fail
  refine hih.mono ?_
  rintro e w3 ⟨kv', S3, rfl, hS3, hS3b, hb3⟩
  obtain ⟨Ak, ck, rfl⟩ := TmsIn.form (ts := t.kids) hS3.at_
  rw [HS2.out] at hS3b
  have hbx := (hb3.block (w.heap.size + 1 + 1) (by rw [HS2.out]; omega)).trans HW.out
  have hrx := (hb3.block (w.heap.size + 1) (by rw [HS2.out]; omega)).trans HR2.out
  have hs3 := hb3.size
  rw [HS2.out] at hs3
  have hS4 := (hS2.keep hb3).setCell_other ⟨w.heap.size + 1 + 1, 3, none⟩ (.slice Ak t.kids.length ck) (fun b hb => by have := hS1b b hb; show b ≠ w.heap.size + 1 + 1; omega)
  have hS5 := hS3.setCell_other ⟨w.heap.size + 1 + 1, 3, none⟩ (.slice Ak t.kids.length ck) (fun b hb => by have := hS3b b hb; show b ≠ w.heap.size + 1 + 1; omega)
  have hd : ∀ b ∈ S1, b ∉ S3 := fun b h1 h3 => by
    have h4 := hS3b b h3
    have h5 := hS2.lt b h1
    rw [HS2.out] at h5
    omega
  have hbz : Below w.heap.size w (w3.setCell ⟨w.heap.size + 1 + 1, 3, none⟩ (.slice Ak t.kids.length ck)) := (hbw.trans (hb3.mono hbw.size)).setCell (by simp; omega) _
  have hL := ownL_term (t := t) hS4 hS5 hd
  have hLb : ∀ b ∈ S1 ++ (S3 ++ []), w.heap.size + 2 < b := fun b hb => by
      rw [List.append_nil] at hb
      rcases List.mem_append.1 hb with h | h
      · have := hS1b b h; omega
      · have := hS3b b h; omega
  have hne : ∀ b ∈ S1 ++ (S3 ++ []), b ≠ w.heap.size + 1 := fun b hb => by have := hLb b hb; omega
  have hpost : TmOut t w (.returned (.agg #[.int .i64 t.op, .int .i64 t.num, .slice Ap t.perm.length cp, .slice Ak t.kids.length ck])) ((((w3.setCell ⟨w.heap.size + 1 + 1, 3, none⟩ (.slice Ak t.kids.length ck)).setCell ⟨w.heap.size + 1, 0, none⟩ (.int .i64 t.op)).setCell ⟨w.heap.size + 1, 1, none⟩ (.int .i64 t.num)).setCell ⟨w.heap.size + 1, 2, none⟩ (.slice Ap t.perm.length cp) |>.setCell ⟨w.heap.size + 1, 3, none⟩ (.slice Ak t.kids.length ck)) :=
    ⟨Ap, cp, Ak, ck, _, rfl, (((hL.setOther ⟨w.heap.size + 1, 0, none⟩ (.int .i64 t.op) hne).setOther ⟨w.heap.size + 1, 1, none⟩ (.int .i64 t.num) hne).setOther ⟨w.heap.size + 1, 2, none⟩ (.slice Ap t.perm.length cp) hne).setOther ⟨w.heap.size + 1, 3, none⟩ (.slice Ak t.kids.length ck) hne,
     fun b hb => by have := hLb b hb; omega, (((hbz.setCell (by simp) _).setCell (by simp) _).setCell (by simp) _).setCell (by simp) _⟩
  have hc0 : w3.cell? ⟨w.heap.size + 1 + 1, 0, none⟩ = some (.int .i64 t.op) := by rw [cell_of_row w3 (w.heap.size + 1 + 1) 0 _ _ _ hbx]; rfl
  have hc1 : w3.cell? ⟨w.heap.size + 1 + 1, 1, none⟩ = some (.int .i64 t.num) := by rw [cell_of_row w3 (w.heap.size + 1 + 1) 1 _ _ _ hbx]; rfl
  have hc2 : w3.cell? ⟨w.heap.size + 1 + 1, 2, none⟩ = some (.slice Ap t.perm.length cp) := by rw [cell_of_row w3 (w.heap.size + 1 + 1) 2 _ _ _ hbx]; rfl
  have hc3 : w3.cell? ⟨w.heap.size + 1 + 1, 3, none⟩ = some (.slice none 0 0) := by rw [cell_of_row w3 (w.heap.size + 1 + 1) 3 _ _ _ hbx]; rfl
  have hf3 : w3.frozen? ⟨w.heap.size + 1 + 1, 3, none⟩ = false := frozen_of_row w3 (w.heap.size + 1 + 1) 3 _ _ hbx
  have hr0 : w3.cell? ⟨w.heap.size + 1, 0, none⟩ = some (.int .i64 0) := by rw [cell_of_row w3 (w.heap.size + 1) 0 _ _ _ hrx]; rfl
  have hr1 : w3.cell? ⟨w.heap.size + 1, 1, none⟩ = some (.int .i64 0) := by rw [cell_of_row w3 (w.heap.size + 1) 1 _ _ _ hrx]; rfl
  have hr2 : w3.cell? ⟨w.heap.size + 1, 2, none⟩ = some (.slice none 0 0) := by rw [cell_of_row w3 (w.heap.size + 1) 2 _ _ _ hrx]; rfl
  have hr3 : w3.cell? ⟨w.heap.size + 1, 3, none⟩ = some (.slice none 0 0) := by rw [cell_of_row w3 (w.heap.size + 1) 3 _ _ _ hrx]; rfl
  have hz0 : w3.frozen? ⟨w.heap.size + 1, 0, none⟩ = false := frozen_of_row w3 (w.heap.size + 1) 0 _ _ hrx
  have hz1 : w3.frozen? ⟨w.heap.size + 1, 1, none⟩ = false := frozen_of_row w3 (w.heap.size + 1) 1 _ _ hrx
  have hz2 : w3.frozen? ⟨w.heap.size + 1, 2, none⟩ = false := frozen_of_row w3 (w.heap.size + 1) 2 _ _ hrx
  have hz3 : w3.frozen? ⟨w.heap.size + 1, 3, none⟩ = false := frozen_of_row w3 (w.heap.size + 1) 3 _ _ hrx
  clear hih hbw hS2 hS3 hS4 hS5 hd hbz hb3 HW HR2 HS2 hbx hrx ha3 ho2 hf2 hS1b hS3b hL hLb hne
  go_wp2
  exact bodyPost_ret (v := .agg #[.int .i64 t.op, .int .i64 t.num, .slice Ap t.perm.length cp, .slice Ak t.kids.length ck]) (by simp [results, Tryz.results18, go_sem, hr0, hr1, hr2, hr3]) rfl hpost

/-- A copy reads as the term. -/
theorem tmOut_in {w : World} {S : List Nat} {t : Tm} {A : Option Addr} {c : Nat} {kv : Value} (h : OwnL w S [.int .i64 t.op, .int .i64 t.num, .slice A t.perm.length c, kv] (encT t)) :
    TmIn w (.agg #[.int .i64 t.op, .int .i64 t.num, .slice A t.perm.length c, kv]) t := by
  have h1 := h.at_
  rw [encT_eq] at h1
  cases h1 with
  | cons _ h1 => cases h1 with
    | cons _ h1 => cases h1 with
      | cons h2 h1 => cases h1 with
        | cons h3 _ =>
          obtain ⟨A', c', e, hp⟩ := at_pairs h2
          simp only [Value.slice.injEq] at e
          obtain ⟨rfl, _, rfl⟩ := e
          exact ⟨A, c, kv, rfl, hp, h3⟩

theorem term_info : (Tryz.prog.info? 46).map (fun i => (i.zero, i.size, i.bytes)) = some (some (.agg #[.int .i64 0, .int .i64 0, .slice none 0 0, .slice none 0 0]), 4, 64) := by kernel_rfl

theorem take_set4 {xs : List Value} {j : Nat} {a b c d : Value} (h : j + 4 ≤ xs.length) : ((((xs.set j a).set (j + 1) b).set (j + 2) c).set (j + 3) d).take (j + 4) = xs.take j ++ [a, b, c, d] := by
  apply List.ext_getElem?
  intro i
  rw [List.getElem?_take]
  by_cases hi : i < j + 4
  · rw [if_pos hi]
    by_cases h1 : i < j
    · rw [List.getElem?_append_left (by rw [List.length_take]; omega), List.getElem?_take, if_pos h1]
      simp [show ¬ j + 3 = i by omega, show ¬ j + 2 = i by omega, show ¬ j + 1 = i by omega, show ¬ j = i by omega]
    · rw [List.getElem?_append_right (by rw [List.length_take]; omega), List.length_take, show min j xs.length = j by omega]
      have hc : i = j ∨ i = j + 1 ∨ i = j + 2 ∨ i = j + 3 := by omega
      rcases hc with rfl | rfl | rfl | rfl
      · simp [show i < xs.length by omega]
      · simp [show j + 1 < xs.length by omega, show j + 1 - j = 1 by omega]
      · simp [show j + 2 < xs.length by omega, show j + 2 - j = 2 by omega]
      · simp [show j + 3 < xs.length by omega, show j + 3 - j = 3 by omega]
  · rw [if_neg hi, List.getElem?_eq_none (by rw [List.length_append, List.length_take]; simp; omega)]

theorem OwnL.kept {w w' : World} {S : List Nat} {vs : List Value} {ms : List Mem} {row : Option Nat} (h : OwnL w S vs ms) (hg : w.grownBy w' row) (hn : ∀ b ∈ S, some b ≠ row) : OwnL w' S vs ms :=
  h.alike fun b hb => hg.block b (h.lt b hb) (hn b hb)

set_option maxRecDepth 100000 in
set_option maxHeartbeats 4000000 in
theorem toTermS_step (ts : List Tm) (hlen : ts.length ≤ 1048576) (w : World) (x : Value) (hx : TmsIn w x ts)
    (ih : ∀ i, i < ts.length → ∀ (w' : World) (y : Value), TmIn w' y (tmAt ts i) → Calls Tryz.prog 18 #[y] w' (TmOut (tmAt ts i) w')) :
    Calls Tryz.prog 55 #[x] w (TmsOut ts w) := by
  obtain ⟨A, c, rfl⟩ := hx.form
  obtain ⟨i0, hi0, hz0, hz1, hz2⟩ := info_parts term_info
  have HS := Lib.hid hz2
  clear hz2
  go_enter Tryz.func55, Tryz.ntmps55
  go_wp2_with (at_make; refine wpList_make_full _ rfl (.tmp 6) (.tmp 6) 44 rfl w.heap.size 46 i0 _ 4 Tryz.underlying44 hi0 hz0 hz1 .i64 .i64 _ _ ts.length rfl rfl rfl rfl ?c1 ?c2 (Nat.le_refl _) ?_)
  case c1 => rw [HS.out]; omega
  case c2 => unfold maxLen; omega
  intro w1 ho hg
  have hb0 := (Below.refl w.heap.size w).grown hg (Nat.le_refl _) (fun k hk => by cases hk)
  clear hg
  generalize hz : (madeCells #[Value.int IntKind.i64 0, Value.int IntKind.i64 0, Value.slice none 0 0, Value.slice none 0 0] (ts.length * 4)).toList = zs at ho
  clear hz
  have hlt0 : w.heap.size < w1.heap.size := (ho.lt w.heap.size rfl).2
  go_wp2
  go_loopw [4] (fun i wr => ∃ (k : Nat) (S : List Nat) (xs : List Value), k ≤ ts.length ∧ i = .int .i64 k ∧ wr.ownsRow w.heap.size 46 4 (.slice (some ⟨w.heap.size, 0, none⟩) ts.length ts.length) ts.length xs ∧ OwnL wr S (xs.take (k * 4)) (encTs (ts.take k)) ∧ (∀ b ∈ S, w.heap.size < b) ∧ Below w.heap.size w wr) (fun i _ => ts.length - (intOf i).toNat)
  case atStart => exact ⟨0, [], zs, Nat.zero_le _, rfl, ho, by simp [encTs]; exact .nil, fun b hb => by simp at hb, hb0⟩
  case round =>
    clear ho hb0
    obtain ⟨k, S, xs, hk, rfl, ho, hL, hSb, hb⟩ := hrel
    have hwr : w.heap.size < wr.heap.size := (ho.lt w.heap.size rfl).2
    by_cases hlt : k < ts.length
    · have hxr := hx.below hb
      obtain ⟨b, off, rfl, hbl, hget⟩ := hxr.get (by omega)
      obtain ⟨A1, c1, kv, d0, d1, d2, d3, hp1, hk1⟩ := hget k hlt
      have hct := ih k hlt wr _ ⟨A1, c1, kv, rfl, hp1, hk1⟩
      have hnx := Lib.hid (congrArg encTs (tm_take_next hlt))
      generalize tmAt ts k = t at hct hnx d0 d1 d2 d3
      clear hget hp1 hk1 hx hxr ih hbl
      go_wp2_with fail
      refine hct.mono ?_
      rintro e w2 ⟨P1, q1c, P2, q2c, R, rfl, hR, hRb, hb2⟩
      have ho2 := own_below ho hb2
      have hL2 := hL.alike (w' := w2) fun b hb' => hb2.block b (hL.lt b hb')
      have hb3 := hb.trans (hb2.mono hb.size)
      have hxl := ho2.1
      obtain ⟨v0, e0⟩ := some_of_lt xs (k * 4) (by omega)
      obtain ⟨v1, e1⟩ := some_of_lt xs (k * 4 + 1) (by omega)
      obtain ⟨v2, e2⟩ := some_of_lt xs (k * 4 + 2) (by omega)
      obtain ⟨v3, e3⟩ := some_of_lt xs (k * 4 + 3) (by omega)
      have g0 := (ho2.cellAt (k * 4) (by omega)).trans e0
      have g1 := (ho2.cellAt (k * 4 + 1) (by omega)).trans e1
      have g2 := (ho2.cellAt (k * 4 + 2) (by omega)).trans e2
      have g3 := (ho2.cellAt (k * 4 + 3) (by omega)).trans e3
      have f0 := ho2.frozenAt (k * 4)
      have f1 := ho2.frozenAt (k * 4 + 1)
      have f2 := ho2.frozenAt (k * 4 + 2)
      have f3 := ho2.frozenAt (k * 4 + 3)
      obtain ⟨o1, q1⟩ := ho2.stored (k * 4) (.int .i64 t.op)
      obtain ⟨o2, q2⟩ := o1.stored (k * 4 + 1) (.int .i64 t.num)
      obtain ⟨o3, q3⟩ := o2.stored (k * 4 + 2) (.slice P1 t.perm.length q1c)
      obtain ⟨o4, q4⟩ := o3.stored (k * 4 + 3) (.slice P2 t.kids.length q2c)
      have hq := grownBy_trans q1 (grownBy_trans q2 (grownBy_trans q3 q4))
      have hL3 := hL2.kept hq (fun b hb' => by have := hSb b hb'; intro e; injection e with e; omega)
      have hR3 := hR.kept hq (fun b hb' => by have := hRb b hb'; intro e; injection e with e; omega)
      have hdis : ∀ b ∈ S, b ∉ R := fun b h1 h2 => by have h3 := hL.lt b h1; have h4 := hRb b h2; omega
      have hL4 := hL3.append hR3 hdis
      have hb5 := hb3.grown hq hb3.size (fun j hj => by injection hj with hj; omega)
      have htk : Hid (((((xs.set (k * 4) (.int .i64 t.op)).set (k * 4 + 1) (.int .i64 t.num)).set (k * 4 + 2) (.slice P1 t.perm.length q1c)).set (k * 4 + 3) (.slice P2 t.kids.length q2c)).take ((k + 1) * 4) = xs.take (k * 4) ++ [.int .i64 t.op, .int .i64 t.num, .slice P1 t.perm.length q1c, .slice P2 t.kids.length q2c]) := by
        show ((((xs.set (k * 4) (.int .i64 t.op)).set (k * 4 + 1) (.int .i64 t.num)).set (k * 4 + 2) (.slice P1 t.perm.length q1c)).set (k * 4 + 3) (.slice P2 t.kids.length q2c)).take ((k + 1) * 4) = xs.take (k * 4) ++ [.int .i64 t.op, .int .i64 t.num, .slice P1 t.perm.length q1c, .slice P2 t.kids.length q2c]
        rw [show (k + 1) * 4 = k * 4 + 4 by omega]
        exact take_set4 (by omega)
      have hL5 := hL4
      rw [← htk.out, ← (show encTs [t] = encT t by simp [encTs]), ← encTs_append, ← hnx.out] at hL5
      have hSR : ∀ b ∈ S ++ R, w.heap.size < b := fun b hb' => by
        rcases List.mem_append.1 hb' with h | h
        · exact hSb b h
        · have := hRb b h; omega
      clear ho ho2 hL hL2 hL3 hL4 hR hR3 hb hb2 hb3 q1 q2 q3 q4 hq o1 o2 o3 e0 e1 e2 e3 hxl hct hnx htk hdis hSb hRb d0 d1 d2 d3
      go_wp2
      refine ⟨⟨k + 1, S ++ R, _, by omega, by go_num, o4, hL5, hSR, hb5⟩, ?_⟩
      simp only [intOf]
      omega
    · have e : k = ts.length := by omega
      subst e
      have hl := ho.1
      rw [List.take_of_length_le (by omega), List.take_of_length_le (Nat.le_refl _)] at hL
      have hpost : TmsOut ts w (.returned (.slice (some ⟨w.heap.size, 0, none⟩) ts.length ts.length)) wr :=
        ⟨_, w.heap.size :: S, rfl, .row (encTs_len ts) (own_le ho (Nat.zero_le _)) hL (fun h => by have := hSb _ h; omega), fun b hb' => by
          rcases List.mem_cons.1 hb' with h | h
          · omega
          · have := hSb b h; omega, hb⟩
      clear ho hL hSb hb hx ih hl
      go_wp2
      go_ret
      exact hpost

theorem toTermS_any : ∀ (N : Nat) (ts : List Tm), szTs ts ≤ N → Fits ts → ts.length ≤ 1048576 → ∀ (w : World) (x : Value), TmsIn w x ts → Calls Tryz.prog 55 #[x] w (TmsOut ts w) := by
  intro N
  induction N with
  | zero =>
    intro ts hN hf hlen w x hx
    exact toTermS_step ts hlen w x hx fun i hi => absurd (szTs_kid hi) (by omega)
  | succ N ih =>
    intro ts hN hf hlen w x hx
    refine toTermS_step ts hlen w x hx fun i hi w' y hy => ?_
    have h2 := (fit_eq _).1 (fits_at hf hi)
    exact toTerm_of _ y w' hy (by omega) fun w'' z hz => ih _ (by have := szTs_kid hi; omega) h2.2.2 h2.2.1 w'' z hz

theorem toTerm_any (t : Tm) (hf : Fit t) (w : World) (x : Value) (hx : TmIn w x t) : Calls Tryz.prog 18 #[x] w (TmOut t w) := by
  have h2 := (fit_eq _).1 hf
  exact toTerm_of t x w hx (by omega) fun w' y hy => toTermS_any _ _ (Nat.le_refl _) h2.2.2 h2.2.1 w' y hy

end Go.Proofs.YtlhjgjfnmejiaaaGreat
end

section
namespace Go.Proofs.YtlhjgjfnmejiaaaGreat
open Go.RowKit

mutual
theorem mcT_le : ∀ t : Tm, mcT t ≤ 2 + 2 * cntT t
  | .mk o n p ks => by
    have := mcTs_le ks
    rw [mcT, cntT]; omega
theorem mcTs_le : ∀ ts : List Tm, mcTs ts ≤ 2 * (ts.length + sumT ts)
  | [] => by simp [mcTs]
  | t :: r => by
    have h1 := mcT_le t
    have h2 := mcTs_le r
    rw [mcTs, sumT, List.length_cons]; omega
end

end Go.Proofs.YtlhjgjfnmejiaaaGreat
end

section
namespace Go.Proofs.YtlhjgjfnmejiaaaGreat
open Go.RowKit Go.Sort
set_option linter.unusedVariables false

/-- A new slice of the elements. -/
def NewFreshs (l : List (Int × Int)) (w : World) (e : Ending) (w' : World) : Prop :=
  ∃ v, e = .returned v ∧ w'.ownsRow w.heap.size 119 2 v l.length (cellsOf l) ∧ Below w.heap.size w w'

theorem szF_yes (A : Option Addr) (n c : Nat) (left : Int) (w : World) (hn : n ≤ 1099511627776) (h1 : left ≤ 1099511627776) (h2 : (n : Int) ≤ left) :
    Calls Tryz.prog 33 #[.slice A n c, .int .i64 left] w fun e w' => e = .returned (.int .i64 (left - n)) ∧ w = w' := by
  have k0 : ¬ left - (n : Int) < 0 := by omega
  go_enter Tryz.func33, Tryz.ntmps33
  go_wp2
  go_ret
  exact ⟨rfl, rfl⟩

theorem szF_no (A : Option Addr) (n c : Nat) (left : Int) (w : World) (hn : n ≤ 9223372036854775807) (h0 : 0 ≤ left) (h1 : left ≤ 1099511627776) (h2 : left < (n : Int)) :
    Calls Tryz.prog 33 #[.slice A n c, .int .i64 left] w fun e w' => e = .returned (.int .i64 (-1)) ∧ w = w' := by
  have k0 : left - (n : Int) < 0 := by omega
  go_enter Tryz.func33, Tryz.ntmps33
  go_wp2
  go_ret
  exact ⟨rfl, rfl⟩

theorem toFresh_any (a b : Int) (w : World) :
    Calls Tryz.prog 90 #[.agg #[.int .i64 a, .int .i64 b]] w
      fun e w' => e = .returned (.agg #[.int .i64 a, .int .i64 b]) ∧ Below w.heap.size w w' := by
  go_enter Tryz.func90, Tryz.ntmps90
  go_wp2
  refine bodyPost_ret (v := .agg #[.int .i64 a, .int .i64 b]) (by simp [results, Tryz.results90, go_sem]) rfl ⟨rfl, ?_⟩
  repeat (first | exact Below.refl _ _ | refine Below.setCell ?_ (by simp) _ | refine Below.alloc ?_ (by first | exact Nat.le_refl _ | (simp; done) | (simp; omega)) _)

theorem fresh_info : (Tryz.prog.info? 119).map (fun i => (i.zero, i.size, i.bytes)) = some (some (.agg #[.int .i64 0, .int .i64 0]), 2, 16) := by kernel_rfl

set_option maxHeartbeats 1000000 in
theorem toFreshS_any (A : Option Addr) (c : Nat) (l : List (Int × Int)) (w : World) (hA : PairsAt w A l) (hl : l.length ≤ 1099511627776) :
    Calls Tryz.prog 40 #[.slice A l.length c] w (NewFreshs l w) := by
  obtain ⟨i0, hi0, hz0, hz1, hz2⟩ := info_parts fresh_info
  have HS := Lib.hid hz2
  clear hz2
  go_enter Tryz.func40, Tryz.ntmps40
  go_wp2_with (at_make; refine wpList_make_full _ rfl (.tmp 6) (.tmp 6) 30 rfl w.heap.size 119 i0 _ 2 Tryz.underlying30 hi0 hz0 hz1 .i64 .i64 _ _ l.length rfl rfl rfl rfl ?c1 ?c2 (Nat.le_refl _) ?_)
  case c1 => rw [HS.out]; omega
  case c2 => unfold maxLen; omega
  intro w1 ho hg
  have hb0 := (Below.refl w.heap.size w).grown hg (Nat.le_refl _) (fun k hk => by cases hk)
  clear hg
  generalize hz : (madeCells #[Value.int IntKind.i64 0, Value.int IntKind.i64 0] (l.length * 2)).toList = zs at ho
  have hzl : Hid (zs.length = l.length * 2) := Lib.hid ho.1
  clear hz
  have hlt0 : w.heap.size < w1.heap.size := (ho.lt w.heap.size rfl).2
  go_wp2
  go_loopw [4] (fun i wr => ∃ k : Nat, k ≤ l.length ∧ i = .int .i64 k ∧ wr.ownsRow w.heap.size 119 2 (.slice (some ⟨w.heap.size, 0, none⟩) l.length l.length) l.length (mixTo (cellsOf l) zs (k * 2)) ∧ Below w.heap.size w wr) (fun i _ => l.length - (intOf i).toNat)
  case atStart => exact ⟨0, Nat.zero_le _, rfl, by rw [Nat.zero_mul, mixTo_zero]; exact ho, hb0⟩
  case round =>
    obtain ⟨k, hk, rfl, ho1, hb⟩ := hrel
    by_cases hlt : k < l.length
    · obtain ⟨b1, o1, rfl, hb1, hc1⟩ := hA (by omega)
      obtain ⟨c1, c2⟩ := hc1 k hlt
      rw [← hb.cell (p := ⟨b1, _, none⟩) hb1] at c1 c2
      clear hc1 hA
      go_wp2_with fail
      refine (toFresh_any _ _ _).mono ?_
      rintro e w2 ⟨rfl, hb2⟩
      have ho2 := own_below ho1 hb2
      have hb3 := hb.trans (hb2.mono hb.size)
      have hml : (mixTo (cellsOf l) zs (k * 2)).length = l.length * 2 := by rw [mixTo_len _ _ _ (by rw [cellsOf_len, hzl.out]), hzl.out]
      obtain ⟨v0, e0⟩ := some_of_lt (mixTo (cellsOf l) zs (k * 2)) (k * 2) (by omega)
      obtain ⟨v1, e1⟩ := some_of_lt (mixTo (cellsOf l) zs (k * 2)) (k * 2 + 1) (by omega)
      have d0 := (ho2.cellAt (k * 2) (by omega)).trans e0
      have d1 := (ho2.cellAt (k * 2 + 1) (by omega)).trans e1
      have f0 := ho2.frozenAt (k * 2)
      have f1 := ho2.frozenAt (k * 2 + 1)
      obtain ⟨hs1, hs2⟩ := cellsOf_at l k hlt
      obtain ⟨ho3, hg3⟩ := ho2.stored (k * 2) (.int .i64 (prAt l k).1)
      rw [mixTo_set (by rw [cellsOf_len, hzl.out]) hs1] at ho3
      obtain ⟨ho4, hg4⟩ := ho3.stored (k * 2 + 1) (.int .i64 (prAt l k).2)
      rw [mixTo_set (by rw [cellsOf_len, hzl.out]) hs2, show k * 2 + 1 + 1 = (k + 1) * 2 from by omega] at ho4
      have hb5 : Below w.heap.size w _ := hb3.grown (grownBy_trans hg3 hg4) hb3.size (fun j hj => by injection hj with hj; omega)
      clear ho1 ho2 ho3 hg3 hg4 hb hb2 hb3 e0 e1 hs1 hs2 hml c1 c2
      go_wp2
      refine ⟨⟨k + 1, by omega, by go_num, ho4, hb5⟩, ?_⟩
      simp [intOf]; omega
    · have e : k = l.length := by omega
      subst e
      rw [mixTo_all _ _ _ (cellsOf_len l) hzl.out] at ho1
      go_wp2
      go_ret
      exact ⟨_, rfl, ho1, hb⟩



theorem eqFresh_any (a b c d : Int) (w : World) :
    Calls Tryz.prog 102 #[.agg #[.int .i64 a, .int .i64 b], .agg #[.int .i64 c, .int .i64 d]] w
      fun e w' => e = .returned (.bool (prEq a b c d)) ∧ Below w.heap.size w w' := by
  have hend : Below w.heap.size w ((w.alloc (.cells #[.int .i64 a, .int .i64 b] 119)).alloc (.cells #[.int .i64 c, .int .i64 d] 119)) :=
    ((Below.refl _ _).alloc (Nat.le_refl _) _).alloc (by simp) _
  by_cases h1 : a = c
  · subst h1
    have k1 : (a != a) = false := by simp
    by_cases h2 : b = d
    · subst h2
      have k2 : (b != b) = false := by simp
      go_enter Tryz.func102, Tryz.ntmps102
      go_wp2
      go_ret
      exact ⟨bool_end (by simp [prEq]), hend⟩
    · have k2 : (b != d) = true := by simpa using h2
      go_enter Tryz.func102, Tryz.ntmps102
      go_wp2
      go_ret
      exact ⟨bool_end (by simp [prEq, h2]), hend⟩
  · have k1 : (a != c) = true := by simpa using h1
    go_enter Tryz.func102, Tryz.ntmps102
    go_wp2
    go_ret
    exact ⟨bool_end (by simp [prEq, h1]), hend⟩

set_option maxHeartbeats 400000 in
theorem eqFreshS_any (A B : Option Addr) (c d : Nat) (xs ys : List (Int × Int)) (w : World) (hx : PairsAt w A xs) (hy : PairsAt w B ys) (hlx : xs.length ≤ 9223372036854775807) :
    Calls Tryz.prog 46 #[.slice A xs.length c, .slice B ys.length d] w
      fun e w' => e = .returned (.bool (decide (xs = ys))) ∧ Below w.heap.size w w' := by
  by_cases hl : xs.length = ys.length
  · have k0 : ((xs.length : Int) != (ys.length : Int)) = false := by simp [hl]
    have HL := Lib.hid hl
    clear hl
    go_enter Tryz.func46, Tryz.ntmps46
    go_wp2
    go_loopw [5] (fun i wr => ∃ k : Nat, k ≤ xs.length ∧ i = .int .i64 k ∧ xs.take k = ys.take k ∧ Below w.heap.size w wr) (fun i _ => xs.length - (intOf i).toNat)
    case atStart => exact ⟨0, Nat.zero_le _, rfl, rfl, Below.refl _ _⟩
    case round =>
      obtain ⟨k, hk, rfl, ht, hb⟩ := hrel
      have HT := Lib.hid ht
      clear ht
      by_cases hlt : k < xs.length
      · obtain ⟨b1, o1, rfl, hb1, hc1⟩ := hx (by omega)
        obtain ⟨b2, o2, rfl, hb2, hc2⟩ := hy (by have := HL.out; omega)
        obtain ⟨c1, c2⟩ := hc1 k hlt
        obtain ⟨c3, c4⟩ := hc2 k (by have := HL.out; omega)
        rw [← hb.cell (p := ⟨b1, _, none⟩) hb1] at c1 c2
        rw [← hb.cell (p := ⟨b2, _, none⟩) hb2] at c3 c4
        have hlt2 : k < ys.length := by have := HL.out; omega
        clear hc1 hc2 hx hy
        have q1 := fun d os => cell_regrown c1 d os
        have q2 := fun d os => cell_regrown c2 d os
        have q3 := fun d os => cell_regrown c3 d os
        have q4 := fun d os => cell_regrown c4 d os
        by_cases he : prAt xs k = prAt ys k
        · have hq : prEq (prAt xs k).1 (prAt xs k).2 (prAt ys k).1 (prAt ys k).2 = true := by rw [prEq_of]; simp [he]
          have HE := Lib.hid he
          clear he
          go_wp2
          refine wp_region_quiet_below (by kernel_rfl) (by kernel_rfl) ?_
          repeat (any_goals (first | go_big_quiet_step ((go_at_call 102; exact Calls.regrown_of (eqFresh_any _ _ _ _ _))) | quiet_step ((go_at_call 102; exact Calls.regrown_of (eqFresh_any _ _ _ _ _)))))
          refine wpQuiet_nil ?_
          intro _ hw'
          obtain ⟨⟨dq, osq⟩, hw''⟩ := hw'
          subst hw''
          have hb3 := hb.trans ((below_regrown wr dq osq).mono hb.size)
          clear q1 q2 q3 q4 c1 c2 c3 c4
          generalize grow (redrawn wr dq) osq = w2 at *
          go_wp2
          go_roundw
          case rel => exact ⟨k + 1, by omega, by go_num, (take_next (0, 0) k hlt hlt2 HT.out).2 HE.out, hb3⟩
          case measure => simp [intOf]; omega
        · have hq : prEq (prAt xs k).1 (prAt xs k).2 (prAt ys k).1 (prAt ys k).2 = false := by rw [prEq_of]; simp [he]
          have HE := Lib.hid he
          clear he
          go_wp2
          refine wp_region_quiet_below (by kernel_rfl) (by kernel_rfl) ?_
          repeat (any_goals (first | go_big_quiet_step ((go_at_call 102; exact Calls.regrown_of (eqFresh_any _ _ _ _ _))) | quiet_step ((go_at_call 102; exact Calls.regrown_of (eqFresh_any _ _ _ _ _)))))
          refine wpQuiet_nil ?_
          intro _ hw'
          obtain ⟨⟨dq, osq⟩, hw''⟩ := hw'
          subst hw''
          have hb3 := hb.trans ((below_regrown wr dq osq).mono hb.size)
          clear q1 q2 q3 q4 c1 c2 c3 c4
          generalize grow (redrawn wr dq) osq = w2 at *
          go_wp2
          go_ret
          exact ⟨bool_end (differ_at k HE.out).symm, hb3⟩
      · go_wp2
        go_ret
        have e : k = xs.length := by omega
        subst e
        exact ⟨bool_end (same_all HL.out HT.out).symm, hb⟩
  · have k0 : ((xs.length : Int) != (ys.length : Int)) = true := by simp; omega
    have hf : decide (xs = ys) = false := by
      simp only [decide_eq_false_iff_not]
      intro e
      exact hl (by rw [e])
    have HF := Lib.hid hf
    clear hl hf
    go_enter Tryz.func46, Tryz.ntmps46
    go_wp2
    go_ret
    exact ⟨bool_end HF.out.symm, Below.refl _ _⟩

end Go.Proofs.YtlhjgjfnmejiaaaGreat
end

section
namespace Go.Proofs.YtlhjgjfnmejiaaaGreat
open Go.RowKit Go.Sort
set_option linter.unusedVariables false

theorem isSymbol_any (n : Int) (w : World) :
    Calls Tryz.prog 192 #[.int .i64 n] w fun e w' => e = .returned (.bool (decide (0 ≤ n ∧ n ≤ 11))) ∧ w = w' := by
  by_cases h1 : 0 ≤ n
  · by_cases h2 : n ≤ 11
    · have r : Hid (decide (0 ≤ n ∧ n ≤ 11) = true) := decide_eq_true ⟨h1, h2⟩
      go_enter Tryz.func192, Tryz.ntmps192
      go_wp2
      go_ret
      first | exact ⟨rfl, rfl⟩ | exact ⟨bool_end r.out.symm, rfl⟩
    · have r : Hid (decide (0 ≤ n ∧ n ≤ 11) = false) := decide_eq_false fun h => h2 h.2
      have k2 : decide (n ≤ 11) = false := decide_eq_false h2
      have k3 : 11 < n := by omega
      go_enter Tryz.func192, Tryz.ntmps192
      go_wp2
      go_ret
      first | exact ⟨rfl, rfl⟩ | exact ⟨bool_end r.out.symm, rfl⟩
  · have r : Hid (decide (0 ≤ n ∧ n ≤ 11) = false) := decide_eq_false fun h => h1 h.1
    have k1 : decide (0 ≤ n) = false := decide_eq_false h1
    have k3 : n < 0 := by omega
    go_enter Tryz.func192, Tryz.ntmps192
    go_wp2
    go_ret
    first | exact ⟨rfl, rfl⟩ | exact ⟨bool_end r.out.symm, rfl⟩

theorem isHole_any (n : Int) (w : World) :
    Calls Tryz.prog 96 #[.int .i64 n] w fun e w' => e = .returned (.bool (decide (0 ≤ n ∧ n ≤ 9))) ∧ w = w' := by
  by_cases h1 : 0 ≤ n
  · by_cases h2 : n ≤ 9
    · have r : Hid (decide (0 ≤ n ∧ n ≤ 9) = true) := decide_eq_true ⟨h1, h2⟩
      go_enter Tryz.func96, Tryz.ntmps96
      go_wp2
      go_ret
      first | exact ⟨rfl, rfl⟩ | exact ⟨bool_end r.out.symm, rfl⟩
    · have r : Hid (decide (0 ≤ n ∧ n ≤ 9) = false) := decide_eq_false fun h => h2 h.2
      have k2 : decide (n ≤ 9) = false := decide_eq_false h2
      have k3 : 9 < n := by omega
      go_enter Tryz.func96, Tryz.ntmps96
      go_wp2
      go_ret
      first | exact ⟨rfl, rfl⟩ | exact ⟨bool_end r.out.symm, rfl⟩
  · have r : Hid (decide (0 ≤ n ∧ n ≤ 9) = false) := decide_eq_false fun h => h1 h.1
    have k1 : decide (0 ≤ n) = false := decide_eq_false h1
    have k3 : n < 0 := by omega
    go_enter Tryz.func96, Tryz.ntmps96
    go_wp2
    go_ret
    first | exact ⟨rfl, rfl⟩ | exact ⟨bool_end r.out.symm, rfl⟩

theorem kidsOf_any (n : Int) (w : World) (h0 : 0 ≤ n) (h1 : n ≤ 11) :
    Calls Tryz.prog 193 #[.int .i64 n] w fun e w' => e = .returned (.int .i64 (n % 4)) ∧ w = w' := by
  go_enter Tryz.func193, Tryz.ntmps193
  go_wp2
  go_ret
  exact ⟨rfl, rfl⟩

set_option maxRecDepth 100000 in
set_option maxHeartbeats 1000000 in
theorem shape_impl_1_0 (n : Int) (A B : Option Addr) (pl c kl d : Nat) (w : World) (hpl : pl ≤ 1099511627776) (hkl : kl ≤ 9223372036854775807) (h0 : atomB n = false) :
    Calls Tryz.prog 173 #[.agg #[.int .i64 1, .int .i64 n, .slice A pl c, .slice B kl d]] w fun e w' => e = .returned (.bool false) ∧ Below w.heap.size w w' := by
  have hb0 : Below w.heap.size w (w.alloc (.cells #[.int .i64 1, .int .i64 n, .slice A pl c, .slice B kl d] 46)) := (Below.refl _ _).alloc (Nat.le_refl _) _
  have ca := fun W => isAtom_any n W
  rw [h0] at ca
  clear h0
  go_enter Tryz.func173, Tryz.ntmps173
  go_wp2_with (first | (go_at_call 57; refine (ca _).mono ?_; rintro e w' ⟨rfl, rfl⟩))
  go_ret
  exact ⟨rfl, hb0⟩

set_option maxRecDepth 100000 in
set_option maxHeartbeats 1000000 in
theorem shape_impl_1_1 (n : Int) (A B : Option Addr) (pl c kl d : Nat) (w : World) (hpl : pl ≤ 1099511627776) (hkl : kl ≤ 9223372036854775807) (h0 : atomB n = true) (h1 : ¬ pl = 0) :
    Calls Tryz.prog 173 #[.agg #[.int .i64 1, .int .i64 n, .slice A pl c, .slice B kl d]] w fun e w' => e = .returned (.bool false) ∧ Below w.heap.size w w' := by
  have hb0 : Below w.heap.size w (w.alloc (.cells #[.int .i64 1, .int .i64 n, .slice A pl c, .slice B kl d] 46)) := (Below.refl _ _).alloc (Nat.le_refl _) _
  have ca := fun W => isAtom_any n W
  rw [h0] at ca
  have tp : ((pl : Int) == 0) = false := by simp; omega
  clear h0 h1
  go_enter Tryz.func173, Tryz.ntmps173
  go_wp2_with (first | (go_at_call 57; refine (ca _).mono ?_; rintro e w' ⟨rfl, rfl⟩))
  go_ret
  exact ⟨rfl, hb0⟩

set_option maxRecDepth 100000 in
set_option maxHeartbeats 1000000 in
theorem shape_impl_1_2 (n : Int) (A B : Option Addr) (pl c kl d : Nat) (w : World) (hpl : pl ≤ 1099511627776) (hkl : kl ≤ 9223372036854775807) (h0 : atomB n = true) (h1 :  pl = 0) (h2 : ¬ kl = 0) :
    Calls Tryz.prog 173 #[.agg #[.int .i64 1, .int .i64 n, .slice A pl c, .slice B kl d]] w fun e w' => e = .returned (.bool false) ∧ Below w.heap.size w w' := by
  have hb0 : Below w.heap.size w (w.alloc (.cells #[.int .i64 1, .int .i64 n, .slice A pl c, .slice B kl d] 46)) := (Below.refl _ _).alloc (Nat.le_refl _) _
  have ca := fun W => isAtom_any n W
  rw [h0] at ca
  subst h1
  have tk : ((kl : Int) == 0) = false := by simp; omega
  clear h0 h2
  go_enter Tryz.func173, Tryz.ntmps173
  go_wp2_with (first | (go_at_call 57; refine (ca _).mono ?_; rintro e w' ⟨rfl, rfl⟩))
  go_ret
  exact ⟨rfl, hb0⟩

set_option maxRecDepth 100000 in
set_option maxHeartbeats 1000000 in
theorem shape_impl_1_3 (n : Int) (A B : Option Addr) (pl c kl d : Nat) (w : World) (hpl : pl ≤ 1099511627776) (hkl : kl ≤ 9223372036854775807) (h0 : atomB n = true) (h1 :  pl = 0) (h2 :  kl = 0) :
    Calls Tryz.prog 173 #[.agg #[.int .i64 1, .int .i64 n, .slice A pl c, .slice B kl d]] w fun e w' => e = .returned (.bool true) ∧ Below w.heap.size w w' := by
  have hb0 : Below w.heap.size w (w.alloc (.cells #[.int .i64 1, .int .i64 n, .slice A pl c, .slice B kl d] 46)) := (Below.refl _ _).alloc (Nat.le_refl _) _
  have ca := fun W => isAtom_any n W
  rw [h0] at ca
  subst h1
  subst h2
  clear h0
  go_enter Tryz.func173, Tryz.ntmps173
  go_wp2_with (first | (go_at_call 57; refine (ca _).mono ?_; rintro e w' ⟨rfl, rfl⟩))
  go_ret
  exact ⟨rfl, hb0⟩

set_option maxRecDepth 100000 in
set_option maxHeartbeats 1000000 in
theorem shape_impl_2_0 (n : Int) (A B : Option Addr) (pl c kl d : Nat) (w : World) (hpl : pl ≤ 1099511627776) (hkl : kl ≤ 9223372036854775807) (h0 : ¬ (0 ≤ n ∧ n ≤ 11)) :
    Calls Tryz.prog 173 #[.agg #[.int .i64 2, .int .i64 n, .slice A pl c, .slice B kl d]] w fun e w' => e = .returned (.bool false) ∧ Below w.heap.size w w' := by
  have hb0 : Below w.heap.size w (w.alloc (.cells #[.int .i64 2, .int .i64 n, .slice A pl c, .slice B kl d] 46)) := (Below.refl _ _).alloc (Nat.le_refl _) _
  have ca := fun W => isSymbol_any n W
  rw [decide_eq_false h0] at ca
  clear h0
  have b1 : (w.alloc (.cells #[.int .i64 2, .int .i64 n, .slice A pl c, .slice B kl d] 46)).cell? ⟨w.heap.size, 1, none⟩ = some (.int .i64 n) := by
    rw [cell_of_row _ w.heap.size 1 _ _ _ (heap_alloc_new w _)]; rfl
  have q1 := fun dq os => cell_regrown b1 dq os
  have b2 : (w.alloc (.cells #[.int .i64 2, .int .i64 n, .slice A pl c, .slice B kl d] 46)).cell? ⟨w.heap.size, 2, none⟩ = some (.slice A pl c) := by
    rw [cell_of_row _ w.heap.size 2 _ _ _ (heap_alloc_new w _)]; rfl
  have q2 := fun dq os => cell_regrown b2 dq os
  have b3 : (w.alloc (.cells #[.int .i64 2, .int .i64 n, .slice A pl c, .slice B kl d] 46)).cell? ⟨w.heap.size, 3, none⟩ = some (.slice B kl d) := by
    rw [cell_of_row _ w.heap.size 3 _ _ _ (heap_alloc_new w _)]; rfl
  have q3 := fun dq os => cell_regrown b3 dq os
  have rca := fun dq os => Calls.regrown_of ((ca (grow (redrawn (w.alloc (.cells #[.int .i64 2, .int .i64 n, .slice A pl c, .slice B kl d] 46)) dq) os)).mono fun e w9 (h9 : _ ∧ _) => (⟨h9.1, h9.2 ▸ Below.refl _ _⟩ : _ ∧ Below _ _ w9))
  clear b1 b2 b3 ca
  go_enter Tryz.func173, Tryz.ntmps173
  go_wp2
  refine wp_region_quiet_below (by kernel_rfl) (by kernel_rfl) ?_
  repeat (any_goals (first | go_big_quiet_step ((first | (go_at_call 192; exact rca _ _))) | quiet_step ((first | (go_at_call 192; exact rca _ _)))))
  refine wpQuiet_nil ?_
  intro _ hw'
  obtain ⟨⟨dq, osq⟩, hw''⟩ := hw'
  subst hw''
  have hb3 := hb0.trans ((below_regrown _ dq osq).mono hb0.size)
  generalize grow (redrawn (w.alloc (.cells #[.int .i64 2, .int .i64 n, .slice A pl c, .slice B kl d] 46)) dq) osq = w9 at hb3 ⊢
  clear q1 q2 q3 hb0
  go_wp2
  go_ret
  exact ⟨rfl, hb3⟩

set_option maxRecDepth 100000 in
set_option maxHeartbeats 1000000 in
theorem shape_impl_2_1 (n : Int) (A B : Option Addr) (pl c kl d : Nat) (w : World) (hpl : pl ≤ 1099511627776) (hkl : kl ≤ 9223372036854775807) (h0 :  (0 ≤ n ∧ n ≤ 11)) (h1 : ¬ pl = 0) :
    Calls Tryz.prog 173 #[.agg #[.int .i64 2, .int .i64 n, .slice A pl c, .slice B kl d]] w fun e w' => e = .returned (.bool false) ∧ Below w.heap.size w w' := by
  have hb0 : Below w.heap.size w (w.alloc (.cells #[.int .i64 2, .int .i64 n, .slice A pl c, .slice B kl d] 46)) := (Below.refl _ _).alloc (Nat.le_refl _) _
  have ca := fun W => isSymbol_any n W
  rw [decide_eq_true h0] at ca
  have tp : ((pl : Int) == 0) = false := by simp; omega
  clear h0 h1
  have b1 : (w.alloc (.cells #[.int .i64 2, .int .i64 n, .slice A pl c, .slice B kl d] 46)).cell? ⟨w.heap.size, 1, none⟩ = some (.int .i64 n) := by
    rw [cell_of_row _ w.heap.size 1 _ _ _ (heap_alloc_new w _)]; rfl
  have q1 := fun dq os => cell_regrown b1 dq os
  have b2 : (w.alloc (.cells #[.int .i64 2, .int .i64 n, .slice A pl c, .slice B kl d] 46)).cell? ⟨w.heap.size, 2, none⟩ = some (.slice A pl c) := by
    rw [cell_of_row _ w.heap.size 2 _ _ _ (heap_alloc_new w _)]; rfl
  have q2 := fun dq os => cell_regrown b2 dq os
  have b3 : (w.alloc (.cells #[.int .i64 2, .int .i64 n, .slice A pl c, .slice B kl d] 46)).cell? ⟨w.heap.size, 3, none⟩ = some (.slice B kl d) := by
    rw [cell_of_row _ w.heap.size 3 _ _ _ (heap_alloc_new w _)]; rfl
  have q3 := fun dq os => cell_regrown b3 dq os
  have rca := fun dq os => Calls.regrown_of ((ca (grow (redrawn (w.alloc (.cells #[.int .i64 2, .int .i64 n, .slice A pl c, .slice B kl d] 46)) dq) os)).mono fun e w9 (h9 : _ ∧ _) => (⟨h9.1, h9.2 ▸ Below.refl _ _⟩ : _ ∧ Below _ _ w9))
  clear b1 b2 b3 ca
  go_enter Tryz.func173, Tryz.ntmps173
  go_wp2
  refine wp_region_quiet_below (by kernel_rfl) (by kernel_rfl) ?_
  repeat (any_goals (first | go_big_quiet_step ((first | (go_at_call 192; exact rca _ _))) | quiet_step ((first | (go_at_call 192; exact rca _ _)))))
  refine wpQuiet_nil ?_
  intro _ hw'
  obtain ⟨⟨dq, osq⟩, hw''⟩ := hw'
  subst hw''
  have hb3 := hb0.trans ((below_regrown _ dq osq).mono hb0.size)
  generalize grow (redrawn (w.alloc (.cells #[.int .i64 2, .int .i64 n, .slice A pl c, .slice B kl d] 46)) dq) osq = w9 at hb3 ⊢
  clear q1 q2 q3 hb0
  go_wp2
  go_ret
  exact ⟨rfl, hb3⟩

set_option maxRecDepth 100000 in
set_option maxHeartbeats 1000000 in
theorem shape_impl_2_2 (n : Int) (A B : Option Addr) (pl c kl d : Nat) (w : World) (hpl : pl ≤ 1099511627776) (hkl : kl ≤ 9223372036854775807) (h0 :  (0 ≤ n ∧ n ≤ 11)) (h1 :  pl = 0) (h2 : ¬ (kl : Int) = n % 4) :
    Calls Tryz.prog 173 #[.agg #[.int .i64 2, .int .i64 n, .slice A pl c, .slice B kl d]] w fun e w' => e = .returned (.bool false) ∧ Below w.heap.size w w' := by
  have hb0 : Below w.heap.size w (w.alloc (.cells #[.int .i64 2, .int .i64 n, .slice A pl c, .slice B kl d] 46)) := (Below.refl _ _).alloc (Nat.le_refl _) _
  have ca := fun W => isSymbol_any n W
  rw [decide_eq_true h0] at ca
  subst h1
  have ck := fun W => kidsOf_any n W h0.1 h0.2
  have tn : 0 ≤ n := h0.1
  have tk : ((kl : Int) == n % 4) = false := by simp; omega
  clear h0 h2
  have b1 : (w.alloc (.cells #[.int .i64 2, .int .i64 n, .slice A 0 c, .slice B kl d] 46)).cell? ⟨w.heap.size, 1, none⟩ = some (.int .i64 n) := by
    rw [cell_of_row _ w.heap.size 1 _ _ _ (heap_alloc_new w _)]; rfl
  have q1 := fun dq os => cell_regrown b1 dq os
  have b2 : (w.alloc (.cells #[.int .i64 2, .int .i64 n, .slice A 0 c, .slice B kl d] 46)).cell? ⟨w.heap.size, 2, none⟩ = some (.slice A 0 c) := by
    rw [cell_of_row _ w.heap.size 2 _ _ _ (heap_alloc_new w _)]; rfl
  have q2 := fun dq os => cell_regrown b2 dq os
  have b3 : (w.alloc (.cells #[.int .i64 2, .int .i64 n, .slice A 0 c, .slice B kl d] 46)).cell? ⟨w.heap.size, 3, none⟩ = some (.slice B kl d) := by
    rw [cell_of_row _ w.heap.size 3 _ _ _ (heap_alloc_new w _)]; rfl
  have q3 := fun dq os => cell_regrown b3 dq os
  have rca := fun dq os => Calls.regrown_of ((ca (grow (redrawn (w.alloc (.cells #[.int .i64 2, .int .i64 n, .slice A 0 c, .slice B kl d] 46)) dq) os)).mono fun e w9 (h9 : _ ∧ _) => (⟨h9.1, h9.2 ▸ Below.refl _ _⟩ : _ ∧ Below _ _ w9))
  have rck := fun dq os => Calls.regrown_of ((ck (grow (redrawn (w.alloc (.cells #[.int .i64 2, .int .i64 n, .slice A 0 c, .slice B kl d] 46)) dq) os)).mono fun e w9 (h9 : _ ∧ _) => (⟨h9.1, h9.2 ▸ Below.refl _ _⟩ : _ ∧ Below _ _ w9))
  clear b1 b2 b3 ca ck
  go_enter Tryz.func173, Tryz.ntmps173
  go_wp2
  refine wp_region_quiet_below (by kernel_rfl) (by kernel_rfl) ?_
  repeat (any_goals (first | go_big_quiet_step ((first | (go_at_call 192; exact rca _ _) | (go_at_call 193; exact rck _ _))) | quiet_step ((first | (go_at_call 192; exact rca _ _) | (go_at_call 193; exact rck _ _)))))
  refine wpQuiet_nil ?_
  intro _ hw'
  obtain ⟨⟨dq, osq⟩, hw''⟩ := hw'
  subst hw''
  have hb3 := hb0.trans ((below_regrown _ dq osq).mono hb0.size)
  generalize grow (redrawn (w.alloc (.cells #[.int .i64 2, .int .i64 n, .slice A 0 c, .slice B kl d] 46)) dq) osq = w9 at hb3 ⊢
  clear q1 q2 q3 hb0
  go_wp2
  go_ret
  exact ⟨rfl, hb3⟩

set_option maxRecDepth 100000 in
set_option maxHeartbeats 1000000 in
theorem shape_impl_2_3 (n : Int) (A B : Option Addr) (pl c kl d : Nat) (w : World) (hpl : pl ≤ 1099511627776) (hkl : kl ≤ 9223372036854775807) (h0 :  (0 ≤ n ∧ n ≤ 11)) (h1 :  pl = 0) (h2 :  (kl : Int) = n % 4) :
    Calls Tryz.prog 173 #[.agg #[.int .i64 2, .int .i64 n, .slice A pl c, .slice B kl d]] w fun e w' => e = .returned (.bool true) ∧ Below w.heap.size w w' := by
  have hb0 : Below w.heap.size w (w.alloc (.cells #[.int .i64 2, .int .i64 n, .slice A pl c, .slice B kl d] 46)) := (Below.refl _ _).alloc (Nat.le_refl _) _
  have ca := fun W => isSymbol_any n W
  rw [decide_eq_true h0] at ca
  subst h1
  have ck := fun W => kidsOf_any n W h0.1 h0.2
  have tn : 0 ≤ n := h0.1
  have tk : ((kl : Int) == n % 4) = true := by simp; omega
  clear h0 h2
  have b1 : (w.alloc (.cells #[.int .i64 2, .int .i64 n, .slice A 0 c, .slice B kl d] 46)).cell? ⟨w.heap.size, 1, none⟩ = some (.int .i64 n) := by
    rw [cell_of_row _ w.heap.size 1 _ _ _ (heap_alloc_new w _)]; rfl
  have q1 := fun dq os => cell_regrown b1 dq os
  have b2 : (w.alloc (.cells #[.int .i64 2, .int .i64 n, .slice A 0 c, .slice B kl d] 46)).cell? ⟨w.heap.size, 2, none⟩ = some (.slice A 0 c) := by
    rw [cell_of_row _ w.heap.size 2 _ _ _ (heap_alloc_new w _)]; rfl
  have q2 := fun dq os => cell_regrown b2 dq os
  have b3 : (w.alloc (.cells #[.int .i64 2, .int .i64 n, .slice A 0 c, .slice B kl d] 46)).cell? ⟨w.heap.size, 3, none⟩ = some (.slice B kl d) := by
    rw [cell_of_row _ w.heap.size 3 _ _ _ (heap_alloc_new w _)]; rfl
  have q3 := fun dq os => cell_regrown b3 dq os
  have rca := fun dq os => Calls.regrown_of ((ca (grow (redrawn (w.alloc (.cells #[.int .i64 2, .int .i64 n, .slice A 0 c, .slice B kl d] 46)) dq) os)).mono fun e w9 (h9 : _ ∧ _) => (⟨h9.1, h9.2 ▸ Below.refl _ _⟩ : _ ∧ Below _ _ w9))
  have rck := fun dq os => Calls.regrown_of ((ck (grow (redrawn (w.alloc (.cells #[.int .i64 2, .int .i64 n, .slice A 0 c, .slice B kl d] 46)) dq) os)).mono fun e w9 (h9 : _ ∧ _) => (⟨h9.1, h9.2 ▸ Below.refl _ _⟩ : _ ∧ Below _ _ w9))
  clear b1 b2 b3 ca ck
  go_enter Tryz.func173, Tryz.ntmps173
  go_wp2
  refine wp_region_quiet_below (by kernel_rfl) (by kernel_rfl) ?_
  repeat (any_goals (first | go_big_quiet_step ((first | (go_at_call 192; exact rca _ _) | (go_at_call 193; exact rck _ _))) | quiet_step ((first | (go_at_call 192; exact rca _ _) | (go_at_call 193; exact rck _ _)))))
  refine wpQuiet_nil ?_
  intro _ hw'
  obtain ⟨⟨dq, osq⟩, hw''⟩ := hw'
  subst hw''
  have hb3 := hb0.trans ((below_regrown _ dq osq).mono hb0.size)
  generalize grow (redrawn (w.alloc (.cells #[.int .i64 2, .int .i64 n, .slice A 0 c, .slice B kl d] 46)) dq) osq = w9 at hb3 ⊢
  clear q1 q2 q3 hb0
  go_wp2
  go_ret
  exact ⟨rfl, hb3⟩

set_option maxRecDepth 100000 in
set_option maxHeartbeats 1000000 in
theorem shape_impl_3_0 (n : Int) (A B : Option Addr) (pl c kl d : Nat) (w : World) (hpl : pl ≤ 1099511627776) (hkl : kl ≤ 9223372036854775807) (h0 : atomB n = false) :
    Calls Tryz.prog 173 #[.agg #[.int .i64 3, .int .i64 n, .slice A pl c, .slice B kl d]] w fun e w' => e = .returned (.bool false) ∧ Below w.heap.size w w' := by
  have hb0 : Below w.heap.size w (w.alloc (.cells #[.int .i64 3, .int .i64 n, .slice A pl c, .slice B kl d] 46)) := (Below.refl _ _).alloc (Nat.le_refl _) _
  have ca := fun W => isAtom_any n W
  rw [h0] at ca
  clear h0
  go_enter Tryz.func173, Tryz.ntmps173
  go_wp2_with (first | (go_at_call 57; refine (ca _).mono ?_; rintro e w' ⟨rfl, rfl⟩))
  go_ret
  exact ⟨rfl, hb0⟩

set_option maxRecDepth 100000 in
set_option maxHeartbeats 1000000 in
theorem shape_impl_3_1 (n : Int) (A B : Option Addr) (pl c kl d : Nat) (w : World) (hpl : pl ≤ 1099511627776) (hkl : kl ≤ 9223372036854775807) (h0 : atomB n = true) (h1 : ¬ pl = 0) :
    Calls Tryz.prog 173 #[.agg #[.int .i64 3, .int .i64 n, .slice A pl c, .slice B kl d]] w fun e w' => e = .returned (.bool false) ∧ Below w.heap.size w w' := by
  have hb0 : Below w.heap.size w (w.alloc (.cells #[.int .i64 3, .int .i64 n, .slice A pl c, .slice B kl d] 46)) := (Below.refl _ _).alloc (Nat.le_refl _) _
  have ca := fun W => isAtom_any n W
  rw [h0] at ca
  have tp : ((pl : Int) == 0) = false := by simp; omega
  clear h0 h1
  go_enter Tryz.func173, Tryz.ntmps173
  go_wp2_with (first | (go_at_call 57; refine (ca _).mono ?_; rintro e w' ⟨rfl, rfl⟩))
  go_ret
  exact ⟨rfl, hb0⟩

set_option maxRecDepth 100000 in
set_option maxHeartbeats 1000000 in
theorem shape_impl_3_2 (n : Int) (A B : Option Addr) (pl c kl d : Nat) (w : World) (hpl : pl ≤ 1099511627776) (hkl : kl ≤ 9223372036854775807) (h0 : atomB n = true) (h1 :  pl = 0) (h2 : ¬ kl = 1) :
    Calls Tryz.prog 173 #[.agg #[.int .i64 3, .int .i64 n, .slice A pl c, .slice B kl d]] w fun e w' => e = .returned (.bool false) ∧ Below w.heap.size w w' := by
  have hb0 : Below w.heap.size w (w.alloc (.cells #[.int .i64 3, .int .i64 n, .slice A pl c, .slice B kl d] 46)) := (Below.refl _ _).alloc (Nat.le_refl _) _
  have ca := fun W => isAtom_any n W
  rw [h0] at ca
  subst h1
  have tk : ((kl : Int) == 1) = false := by simp; omega
  clear h0 h2
  go_enter Tryz.func173, Tryz.ntmps173
  go_wp2_with (first | (go_at_call 57; refine (ca _).mono ?_; rintro e w' ⟨rfl, rfl⟩))
  go_ret
  exact ⟨rfl, hb0⟩

set_option maxRecDepth 100000 in
set_option maxHeartbeats 1000000 in
theorem shape_impl_3_3 (n : Int) (A B : Option Addr) (pl c kl d : Nat) (w : World) (hpl : pl ≤ 1099511627776) (hkl : kl ≤ 9223372036854775807) (h0 : atomB n = true) (h1 :  pl = 0) (h2 :  kl = 1) :
    Calls Tryz.prog 173 #[.agg #[.int .i64 3, .int .i64 n, .slice A pl c, .slice B kl d]] w fun e w' => e = .returned (.bool true) ∧ Below w.heap.size w w' := by
  have hb0 : Below w.heap.size w (w.alloc (.cells #[.int .i64 3, .int .i64 n, .slice A pl c, .slice B kl d] 46)) := (Below.refl _ _).alloc (Nat.le_refl _) _
  have ca := fun W => isAtom_any n W
  rw [h0] at ca
  subst h1
  subst h2
  clear h0
  go_enter Tryz.func173, Tryz.ntmps173
  go_wp2_with (first | (go_at_call 57; refine (ca _).mono ?_; rintro e w' ⟨rfl, rfl⟩))
  go_ret
  exact ⟨rfl, hb0⟩

set_option maxRecDepth 100000 in
set_option maxHeartbeats 1000000 in
theorem shape_impl_4_0 (n : Int) (A B : Option Addr) (pl c kl d : Nat) (w : World) (hpl : pl ≤ 1099511627776) (hkl : kl ≤ 9223372036854775807) (h0 : ¬ (0 ≤ n ∧ n ≤ 9)) :
    Calls Tryz.prog 173 #[.agg #[.int .i64 4, .int .i64 n, .slice A pl c, .slice B kl d]] w fun e w' => e = .returned (.bool false) ∧ Below w.heap.size w w' := by
  have hb0 : Below w.heap.size w (w.alloc (.cells #[.int .i64 4, .int .i64 n, .slice A pl c, .slice B kl d] 46)) := (Below.refl _ _).alloc (Nat.le_refl _) _
  have ca := fun W => isHole_any n W
  rw [decide_eq_false h0] at ca
  clear h0
  go_enter Tryz.func173, Tryz.ntmps173
  go_wp2_with (first | (go_at_call 96; refine (ca _).mono ?_; rintro e w' ⟨rfl, rfl⟩))
  go_ret
  exact ⟨rfl, hb0⟩

set_option maxRecDepth 100000 in
set_option maxHeartbeats 1000000 in
theorem shape_impl_4_1 (n : Int) (A B : Option Addr) (pl c kl d : Nat) (w : World) (hpl : pl ≤ 1099511627776) (hkl : kl ≤ 9223372036854775807) (h0 :  (0 ≤ n ∧ n ≤ 9)) (p : List (Int × Int)) (hlp : p.length = pl) (hA : PairsAt w A p) (h1 : permB p = false) :
    Calls Tryz.prog 173 #[.agg #[.int .i64 4, .int .i64 n, .slice A pl c, .slice B kl d]] w fun e w' => e = .returned (.bool false) ∧ Below w.heap.size w w' := by
  have hb0 : Below w.heap.size w (w.alloc (.cells #[.int .i64 4, .int .i64 n, .slice A pl c, .slice B kl d] 46)) := (Below.refl _ _).alloc (Nat.le_refl _) _
  have k9 : (w.alloc (.cells #[.int .i64 4, .int .i64 n, .slice A pl c, .slice B kl d] 46)).cell? ⟨w.heap.size, 3, none⟩ = some (.slice B kl d) := by
    rw [cell_of_row _ w.heap.size 3 _ _ _ (heap_alloc_new w _)]; rfl
  have H9 := Lib.hid k9
  clear k9
  have ca := fun W => isHole_any n W
  rw [decide_eq_true h0] at ca
  have cp := fun W hW => isPerm_impl A c p W hW (by omega)
  rw [h1, hlp] at cp
  have cp' := cp _ (hA.below hb0)
  clear h0 h1
  go_enter Tryz.func173, Tryz.ntmps173
  go_wp2_with (first | (go_at_call 96; refine (ca _).mono ?_; rintro e w' ⟨rfl, rfl⟩) | (go_at_call 194; refine cp'.mono ?_; rintro e w2 ⟨rfl, hb2⟩; have hb9 := hb0.trans (hb2.mono hb0.size); have hs9 := (hb2.cell (p := ⟨w.heap.size, 3, none⟩) (by simp)).trans H9.out))
  go_ret
  exact ⟨rfl, hb9⟩

set_option maxRecDepth 100000 in
set_option maxHeartbeats 1000000 in
theorem shape_impl_4_2 (n : Int) (A B : Option Addr) (pl c kl d : Nat) (w : World) (hpl : pl ≤ 1099511627776) (hkl : kl ≤ 9223372036854775807) (h0 :  (0 ≤ n ∧ n ≤ 9)) (p : List (Int × Int)) (hlp : p.length = pl) (hA : PairsAt w A p) (h1 : permB p = true) (h2 : ¬ kl = 0) :
    Calls Tryz.prog 173 #[.agg #[.int .i64 4, .int .i64 n, .slice A pl c, .slice B kl d]] w fun e w' => e = .returned (.bool false) ∧ Below w.heap.size w w' := by
  have hb0 : Below w.heap.size w (w.alloc (.cells #[.int .i64 4, .int .i64 n, .slice A pl c, .slice B kl d] 46)) := (Below.refl _ _).alloc (Nat.le_refl _) _
  have k9 : (w.alloc (.cells #[.int .i64 4, .int .i64 n, .slice A pl c, .slice B kl d] 46)).cell? ⟨w.heap.size, 3, none⟩ = some (.slice B kl d) := by
    rw [cell_of_row _ w.heap.size 3 _ _ _ (heap_alloc_new w _)]; rfl
  have H9 := Lib.hid k9
  clear k9
  have ca := fun W => isHole_any n W
  rw [decide_eq_true h0] at ca
  have cp := fun W hW => isPerm_impl A c p W hW (by omega)
  rw [h1, hlp] at cp
  have cp' := cp _ (hA.below hb0)
  have tk : ((kl : Int) == 0) = false := by simp; omega
  clear h0 h1 h2
  go_enter Tryz.func173, Tryz.ntmps173
  go_wp2_with (first | (go_at_call 96; refine (ca _).mono ?_; rintro e w' ⟨rfl, rfl⟩) | (go_at_call 194; refine cp'.mono ?_; rintro e w2 ⟨rfl, hb2⟩; have hb9 := hb0.trans (hb2.mono hb0.size); have hs9 := (hb2.cell (p := ⟨w.heap.size, 3, none⟩) (by simp)).trans H9.out))
  go_ret
  exact ⟨rfl, hb9⟩

set_option maxRecDepth 100000 in
set_option maxHeartbeats 1000000 in
theorem shape_impl_4_3 (n : Int) (A B : Option Addr) (pl c kl d : Nat) (w : World) (hpl : pl ≤ 1099511627776) (hkl : kl ≤ 9223372036854775807) (h0 :  (0 ≤ n ∧ n ≤ 9)) (p : List (Int × Int)) (hlp : p.length = pl) (hA : PairsAt w A p) (h1 : permB p = true) (h2 :  kl = 0) :
    Calls Tryz.prog 173 #[.agg #[.int .i64 4, .int .i64 n, .slice A pl c, .slice B kl d]] w fun e w' => e = .returned (.bool true) ∧ Below w.heap.size w w' := by
  have hb0 : Below w.heap.size w (w.alloc (.cells #[.int .i64 4, .int .i64 n, .slice A pl c, .slice B kl d] 46)) := (Below.refl _ _).alloc (Nat.le_refl _) _
  have k9 : (w.alloc (.cells #[.int .i64 4, .int .i64 n, .slice A pl c, .slice B kl d] 46)).cell? ⟨w.heap.size, 3, none⟩ = some (.slice B kl d) := by
    rw [cell_of_row _ w.heap.size 3 _ _ _ (heap_alloc_new w _)]; rfl
  have H9 := Lib.hid k9
  clear k9
  have ca := fun W => isHole_any n W
  rw [decide_eq_true h0] at ca
  have cp := fun W hW => isPerm_impl A c p W hW (by omega)
  rw [h1, hlp] at cp
  have cp' := cp _ (hA.below hb0)
  subst h2
  clear h0 h1
  go_enter Tryz.func173, Tryz.ntmps173
  go_wp2_with (first | (go_at_call 96; refine (ca _).mono ?_; rintro e w' ⟨rfl, rfl⟩) | (go_at_call 194; refine cp'.mono ?_; rintro e w2 ⟨rfl, hb2⟩; have hb9 := hb0.trans (hb2.mono hb0.size); have hs9 := (hb2.cell (p := ⟨w.heap.size, 3, none⟩) (by simp)).trans H9.out))
  go_ret
  exact ⟨rfl, hb9⟩

set_option maxRecDepth 100000 in
theorem shape_impl_0 (o n : Int) (A B : Option Addr) (pl c kl d : Nat) (w : World) (h1 : ¬ o = 1) (h2 : ¬ o = 2) (h3 : ¬ o = 3) (h4 : ¬ o = 4) :
    Calls Tryz.prog 173 #[.agg #[.int .i64 o, .int .i64 n, .slice A pl c, .slice B kl d]] w fun e w' => e = .returned (.bool false) ∧ Below w.heap.size w w' := by
  have hb0 : Below w.heap.size w (w.alloc (.cells #[.int .i64 o, .int .i64 n, .slice A pl c, .slice B kl d] 46)) := (Below.refl _ _).alloc (Nat.le_refl _) _
  have t1 : (o == 1) = false := by simpa using h1
  have t2 : (o == 2) = false := by simpa using h2
  have t3 : (o == 3) = false := by simpa using h3
  have t4 : (o == 4) = false := by simpa using h4
  clear h1 h2 h3 h4
  go_enter Tryz.func173, Tryz.ntmps173
  go_wp2
  go_ret
  exact ⟨rfl, hb0⟩

theorem shape_impl_any (t : Tm) (x : Value) (w : World) (hx : TmIn w x t) (hpl : t.perm.length ≤ 1048576) (hkl : t.kids.length ≤ 1048576) :
    Calls Tryz.prog 173 #[x] w fun e w' => e = .returned (.bool (shapeB t)) ∧ Below w.heap.size w w' := by
  obtain ⟨A, c, kv, rfl, hp, hk⟩ := hx
  obtain ⟨B, d, rfl⟩ := hk.form
  unfold shapeB
  by_cases o1 : t.op = 1
  · rw [if_pos o1, o1]
    by_cases h0 : atomB t.num = true
    · by_cases h1 : t.perm.length = 0
      · by_cases h2 : t.kids.length = 0
        · rw [h0, decide_eq_true h1, decide_eq_true h2]; exact shape_impl_1_3 _ _ _ _ _ _ _ w (by omega) (by omega) h0 h1 h2
        · rw [h0, decide_eq_true h1, decide_eq_false h2]; exact shape_impl_1_2 _ _ _ _ _ _ _ w (by omega) (by omega) h0 h1 h2
      · rw [h0, decide_eq_false h1]; exact shape_impl_1_1 _ _ _ _ _ _ _ w (by omega) (by omega) h0 h1
    · rw [Bool.not_eq_true] at h0; rw [h0]; exact shape_impl_1_0 _ _ _ _ _ _ _ w (by omega) (by omega) h0
  · rw [if_neg o1]
    by_cases o2 : t.op = 2
    · rw [if_pos o2, o2]
      by_cases h0 : 0 ≤ t.num ∧ t.num ≤ 11
      · by_cases h1 : t.perm.length = 0
        · by_cases h2 : (t.kids.length : Int) = t.num % 4
          · rw [decide_eq_true h0, decide_eq_true h1, decide_eq_true h2]; exact shape_impl_2_3 _ _ _ _ _ _ _ w (by omega) (by omega) h0 h1 h2
          · rw [decide_eq_true h0, decide_eq_true h1, decide_eq_false h2]; exact shape_impl_2_2 _ _ _ _ _ _ _ w (by omega) (by omega) h0 h1 h2
        · rw [decide_eq_true h0, decide_eq_false h1]; exact shape_impl_2_1 _ _ _ _ _ _ _ w (by omega) (by omega) h0 h1
      · rw [decide_eq_false h0]; exact shape_impl_2_0 _ _ _ _ _ _ _ w (by omega) (by omega) h0
    · rw [if_neg o2]
      by_cases o3 : t.op = 3
      · rw [if_pos o3, o3]
        by_cases h0 : atomB t.num = true
        · by_cases h1 : t.perm.length = 0
          · by_cases h2 : t.kids.length = 1
            · rw [h0, decide_eq_true h1, decide_eq_true h2]; exact shape_impl_3_3 _ _ _ _ _ _ _ w (by omega) (by omega) h0 h1 h2
            · rw [h0, decide_eq_true h1, decide_eq_false h2]; exact shape_impl_3_2 _ _ _ _ _ _ _ w (by omega) (by omega) h0 h1 h2
          · rw [h0, decide_eq_false h1]; exact shape_impl_3_1 _ _ _ _ _ _ _ w (by omega) (by omega) h0 h1
        · rw [Bool.not_eq_true] at h0; rw [h0]; exact shape_impl_3_0 _ _ _ _ _ _ _ w (by omega) (by omega) h0
      · rw [if_neg o3]
        by_cases o4 : t.op = 4
        · rw [if_pos o4, o4]
          by_cases h0 : 0 ≤ t.num ∧ t.num ≤ 9
          · by_cases h1 : permB t.perm = true
            · by_cases h2 : t.kids.length = 0
              · rw [decide_eq_true h0, h1, decide_eq_true h2]; exact shape_impl_4_3 _ _ _ _ _ _ _ w (by omega) (by omega) h0 _ rfl hp h1 h2
              · rw [decide_eq_true h0, h1, decide_eq_false h2]; exact shape_impl_4_2 _ _ _ _ _ _ _ w (by omega) (by omega) h0 _ rfl hp h1 h2
            · rw [Bool.not_eq_true] at h1; rw [decide_eq_true h0, h1]; exact shape_impl_4_1 _ _ _ _ _ _ _ w (by omega) (by omega) h0 _ rfl hp h1
          · rw [decide_eq_false h0]; exact shape_impl_4_0 _ _ _ _ _ _ _ w (by omega) (by omega) h0
        · rw [if_neg o4]
          exact shape_impl_0 _ _ _ _ _ _ _ _ w o1 o2 o3 o4

end Go.Proofs.YtlhjgjfnmejiaaaGreat
end

section
namespace Go.Proofs.YtlhjgjfnmejiaaaGreat
open Go.RowKit Go.Sort

/-- Whether a list has a number. -/
def hasB (l : List Int) (a : Int) : Bool := l.contains a

set_option maxHeartbeats 400000 in
theorem l1Has_any (A : Option Addr) (c : Nat) (l : List Int) (a : Int) (w : World) (hA : IntsAt w A l) (hl : l.length ≤ 1099511627776) :
    Calls Tryz.prog 104 #[.slice A l.length c, .int .i64 a] w fun e w' => e = .returned (.bool (hasB l a)) ∧ w = w' := by
  go_enter Tryz.func104, Tryz.ntmps104
  go_wp2
  go_loop [5] (fun i => ∃ k : Nat, k ≤ l.length ∧ i = .int .i64 k ∧ Hid (∀ j, j < k → itAt l j ≠ a)) (fun i => l.length - (intOf i).toNat)
  case atStart => exact ⟨0, Nat.zero_le _, rfl, fun j hj => absurd hj (by omega)⟩
  case round =>
    obtain ⟨k, hk, rfl, hq⟩ := hrel
    by_cases hlt : k < l.length
    · obtain ⟨b1, o1, rfl, hb1, hc1⟩ := hA (by omega)
      have c1 := hc1 k hlt
      clear hc1 hA
      by_cases he : (itAt l k == a) = true
      · have hres : Hid (hasB l a = true) := by
          show hasB l a = true
          unfold hasB
          rw [List.contains_iff_mem]
          have e : itAt l k = a := by simpa using he
          rw [← e, itAt_get l k hlt]
          exact List.getElem_mem hlt
        generalize itAt l k = x at c1 he
        clear hq
        go_wp2
        go_ret
        exact ⟨bool_end hres.out.symm, rfl⟩
      · have he' : (itAt l k == a) = false := by simpa using he
        have hn : Hid (∀ j, j < k + 1 → itAt l j ≠ a) := by
          intro j hj
          by_cases e : j = k
          · rw [e]; simpa using he'
          · exact hq.out j (by omega)
        generalize itAt l k = x at c1 he he'
        clear hq he
        go_wp2
        go_round
        case rel => exact ⟨k + 1, by omega, by go_num, hn⟩
        case measure => simp [intOf]; omega
    · have hres : Hid (hasB l a = false) := by
        show hasB l a = false
        unfold hasB
        rw [← Bool.not_eq_true, List.contains_iff_mem]
        intro hmem
        obtain ⟨j, hj, e⟩ := List.getElem_of_mem hmem
        exact hq.out j (by omega) (by rw [itAt_get l j hj]; exact e)
      clear hq hA
      go_wp2
      go_ret
      exact ⟨bool_end hres.out.symm, rfl⟩

end Go.Proofs.YtlhjgjfnmejiaaaGreat
end

section
namespace Go.Proofs.YtlhjgjfnmejiaaaGreat
open Go.RowKit Go.Sort

theorem froms_take {l : List (Int × Int)} {k : Nat} (h : k < l.length) : froms (l.take (k + 1)) = froms (l.take k) ++ [(prAt l k).1] := by
  rw [List.take_succ_eq_append_getElem h]
  unfold froms
  rw [List.map_append]
  congr 1
  simp [prAt, h]

theorem int_infoM : (Tryz.prog.info? 3).map (fun i => (i.zero, i.size, i.bytes)) = some (some (.int .i64 0), 1, 8) := by kernel_rfl

theorem int_one (x : Int) : ∀ u ∈ [Value.int .i64 x], u.oneCell' = true := by
  intro u hu
  simp at hu
  subst hu
  rfl

theorem one_cell {w : World} {g : Nat} {u : Value} (h : w.cell? ⟨g, 0, none⟩ = some u) : ∀ j x, [u][j]? = some x → w.cell? ((⟨g, 0, none⟩ : Addr).add j) = some x := by
  intro j x hj
  cases j with
  | zero => simp at hj; subst hj; simpa [Addr.add] using h
  | succ j => simp at hj

end Go.Proofs.YtlhjgjfnmejiaaaGreat
end

section
namespace Go.Proofs.YtlhjgjfnmejiaaaGreat
open Go.RowKit Go.Sort

/-- A number is put into an ascending list, if it is not there. -/
def insL : List Int → Int → List Int
  | [], n => [n]
  | x :: r, n => if n < x then n :: x :: r else if n = x then x :: r else x :: insL r n

def AscP (l : List Int) : Prop := l.Pairwise (· < ·)

theorem mem_insL : ∀ (l : List Int) (n a : Int), a ∈ insL l n ↔ a = n ∨ a ∈ l
  | [], n, a => by simp [insL]
  | x :: r, n, a => by
    unfold insL
    split
    · simp
    · split
      · rename_i h; subst h; simp
      · simp only [List.mem_cons, mem_insL r n a]
        constructor
        · rintro (h | h | h)
          · exact .inr (.inl h)
          · exact .inl h
          · exact .inr (.inr h)
        · rintro (h | h | h)
          · exact .inr (.inl h)
          · exact .inl h
          · exact .inr (.inr h)

theorem asc_insL : ∀ (l : List Int) (n : Int), AscP l → AscP (insL l n)
  | [], n, _ => by simp [insL, AscP]
  | x :: r, n, h => by
    unfold AscP at h
    rw [List.pairwise_cons] at h
    unfold insL
    split
    · rename_i h1
      unfold AscP
      rw [List.pairwise_cons, List.pairwise_cons]
      refine ⟨fun a ha => ?_, h.1, h.2⟩
      rcases List.mem_cons.1 ha with e | e
      · rw [e]; exact h1
      · have := h.1 a e; omega
    · split
      · unfold AscP; rw [List.pairwise_cons]; exact h
      · rename_i h1 h2
        unfold AscP
        rw [List.pairwise_cons]
        refine ⟨fun a ha => ?_, asc_insL r n h.2⟩
        rcases (mem_insL r n a).1 ha with e | e
        · rw [e]; omega
        · exact h.1 a e

theorem insL_there : ∀ (l : List Int) (n : Int), AscP l → n ∈ l → insL l n = l
  | [], n, _, h => by simp at h
  | x :: r, n, h, hm => by
    unfold AscP at h
    rw [List.pairwise_cons] at h
    unfold insL
    rcases List.mem_cons.1 hm with e | e
    · rw [if_neg (by omega), if_pos e]
    · have h1 := h.1 n e
      rw [if_neg (by omega), if_neg (by omega), insL_there r n h.2 e]

theorem ins_eq : ∀ (l : List Int) (k : Nat) (n : Int), AscP l → k ≤ l.length → (∀ j, k ≤ j → j < l.length → n < itAt l j) → (k = 0 ∨ itAt l (k - 1) ≤ n) → n ∉ l → l.take k ++ n :: l.drop k = insL l n
  | [], k, n, _, hk, _, _, _ => by
    have e : k = 0 := by simpa using hk
    subst e
    rfl
  | x :: r, 0, n, _, _, h1, _, _ => by
    have h2 : n < x := h1 0 (Nat.le_refl _) (by simp)
    show n :: x :: r = insL (x :: r) n
    unfold insL
    rw [if_pos h2]
  | x :: r, k + 1, n, ha, hk, h1, h2, hn => by
    unfold AscP at ha
    rw [List.pairwise_cons] at ha
    have hk' : k ≤ r.length := by simpa using hk
    have hlast : itAt (x :: r) k ≤ n := by
      rcases h2 with h2 | h2
      · omega
      · exact h2
    have hx : x ≤ n := by
      cases k with
      | zero => exact hlast
      | succ k =>
        have h3 : k < r.length := by omega
        have h4 : itAt (x :: r) (k + 1) = r[k] := by simp [itAt, h3]
        have h5 := ha.1 r[k] (List.getElem_mem h3)
        omega
    have hne : n ≠ x := fun e => hn (by rw [e]; exact List.mem_cons_self)
    have ih := ins_eq r k n ha.2 hk' (fun j hj hl => h1 (j + 1) (by omega) (by simpa using hl)) (by
      cases k with
      | zero => exact .inl rfl
      | succ k => exact .inr hlast) (fun h => hn (List.mem_cons_of_mem _ h))
    show x :: (r.take k ++ n :: r.drop k) = insL (x :: r) n
    unfold insL
    rw [if_neg (by omega), if_neg hne, ih]

/-- Several numbers are put into an ascending list. -/
def insAll (acc xs : List Int) : List Int := xs.foldl insL acc

theorem asc_insAll (acc xs : List Int) (h : AscP acc) : AscP (insAll acc xs) := by
  unfold insAll
  induction xs generalizing acc with
  | nil => exact h
  | cons x r ih => exact ih _ (asc_insL acc x h)

theorem mem_insAll (acc xs : List Int) (a : Int) : a ∈ insAll acc xs ↔ a ∈ acc ∨ a ∈ xs := by
  unfold insAll
  induction xs generalizing acc with
  | nil => simp
  | cons x r ih =>
    rw [List.foldl_cons, ih, mem_insL, List.mem_cons]
    constructor
    · rintro ((h | h) | h)
      · exact .inr (.inl h)
      · exact .inl h
      · exact .inr (.inr h)
    · rintro (h | h | h)
      · exact .inl (.inr h)
      · exact .inl (.inl h)
      · exact .inr h

theorem insAll_next {xs : List Int} {k : Nat} (acc : List Int) (h : k < xs.length) : insAll acc (xs.take (k + 1)) = insL (insAll acc (xs.take k)) (itAt xs k) := by
  rw [itake_next h]
  unfold insAll
  rw [List.foldl_append]
  rfl

theorem asc_same : ∀ (xs ys : List Int), AscP xs → AscP ys → (∀ a, a ∈ xs ↔ a ∈ ys) → xs = ys
  | [], [], _, _, _ => rfl
  | [], y :: ys, _, _, h => by have := (h y).2 List.mem_cons_self; simp at this
  | x :: xs, [], _, _, h => by have := (h x).1 List.mem_cons_self; simp at this
  | x :: xs, y :: ys, h1, h2, h => by
    unfold AscP at h1 h2
    rw [List.pairwise_cons] at h1 h2
    have e : x = y := by
      rcases List.mem_cons.1 ((h x).1 List.mem_cons_self) with e | e
      · exact e
      · rcases List.mem_cons.1 ((h y).2 List.mem_cons_self) with e' | e'
        · exact e'.symm
        · have := h1.1 y e'; have := h2.1 x e; omega
    subst e
    congr 1
    refine asc_same xs ys h1.2 h2.2 fun a => ?_
    constructor
    · intro ha
      rcases List.mem_cons.1 ((h a).1 (List.mem_cons_of_mem _ ha)) with e | e
      · have := h1.1 a ha; omega
      · exact e
    · intro ha
      rcases List.mem_cons.1 ((h a).2 (List.mem_cons_of_mem _ ha)) with e | e
      · have := h2.1 a ha; omega
      · exact e

theorem ascP_froms {l : List (Int × Int)} (h : Asc l) : AscP (froms l) := by
  unfold AscP
  rw [List.pairwise_iff_getElem]
  intro i j hi hj hij
  have hj' : j < l.length := by simpa [froms] using hj
  have h1 := froms_at l i (by omega)
  have h2 := froms_at l j hj'
  rw [List.getElem?_eq_getElem hi] at h1
  rw [List.getElem?_eq_getElem hj] at h2
  simp only [Option.some.injEq] at h1 h2
  rw [h1, h2]
  exact h i j hij hj'

theorem ints_news {w : World} {a : Addr} {l : List Int} (h : IntsAt w (some a) l) : ∀ j u, (icells l)[j]? = some u → w.cell? (a.add j) = some u := by
  intro j u hj
  have hl : j < l.length := by
    rcases Nat.lt_or_ge j l.length with h1 | h1
    · exact h1
    · rw [List.getElem?_eq_none (by rw [icells_len]; exact h1)] at hj; cases hj
  obtain ⟨b, off, e, _, hc⟩ := h (by omega)
  injection e with e
  subst e
  rw [icells_at l j hl] at hj
  injection hj with hj
  subst hj
  have hadd : (⟨b, off, none⟩ : Addr).add j = ⟨b, off + j, none⟩ := by
    unfold Addr.add
    split
    · rename_i h0; rw [h0]; rfl
    · rfl
  rw [hadd]
  exact hc j hl

theorem icells_one (l : List Int) : ∀ u ∈ icells l, u.oneCell' = true := by
  intro u hu
  simp only [icells, List.mem_map] at hu
  obtain ⟨x, _, rfl⟩ := hu
  rfl

set_option maxHeartbeats 1000000 in
theorem l1Copy_any (a : Addr) (c : Nat) (l : List Int) (w : World) (hA : IntsAt w (some a) l) (hl : l.length ≤ 1099511627776) :
    Calls Tryz.prog 120 #[.slice (some a) l.length c] w (NewInts l w) := by
  obtain ⟨i0, hi0, hz0, hz1, hz2⟩ := info_parts int_infoM
  have HS := Lib.hid hz2
  clear hz2
  have hb : Below w.heap.size w (w.alloc (.cells #[] 3)) := (Below.refl _ _).alloc (Nat.le_refl _) _
  have HN := Lib.hid (ints_news (hA.below hb))
  have ho : (w.alloc (.cells #[] 3)).ownsRow w.heap.size 3 1 (.slice (some ⟨w.heap.size, 0, none⟩) 0 0) 0 [] := World.ownsRow_lit w #[] 0 (Nat.le_refl _) (by decide) rfl
  have HL := Lib.hid (icells_len l)
  go_enter Tryz.func120, Tryz.ntmps120
  go_wp2_with (at_builtin; refine wpList_append_own _ rfl (.tmp 3) (.tmp 4) 109 rfl w.heap.size 3 i0 (.int .i64 0) 1 8 Tryz.underlying109 hi0 hz0 hz1 HS.out rfl (by decide) _ 0 [] rfl ho a l.length c (icells l) rfl (by rw [HL.out, Nat.mul_one]) HN.out (icells_one l) ?c3 ?c4 ?c5 ?_)
  case c3 => unfold maxLen; omega
  case c4 => omega
  case c5 => simp
  intro v2 w2 ho3 hg _
  have hb4 : Below w.heap.size w w2 := below_own hb ho (Nat.le_refl _) (by simp) hg
  clear ho hg hb HN hA
  go_wp2
  go_ret
  exact ⟨_, rfl, ho3, hb4⟩

theorem IntsAt.take {w : World} {A : Option Addr} {l : List Int} (h : IntsAt w A l) (k : Nat) : IntsAt w A (l.take k) := by
  intro hp
  rw [List.length_take] at hp
  obtain ⟨b, off, rfl, hlt, hc⟩ := h (by omega)
  refine ⟨b, off, rfl, hlt, fun i hi => ?_⟩
  rw [List.length_take] at hi
  rw [hc i (by omega)]
  have : i < k := by omega
  simp [itAt, this]

theorem IntsAt.drop {w : World} {b off : Nat} {l : List Int} (h : IntsAt w (some ⟨b, off, none⟩) l) (k : Nat) : IntsAt w (some ⟨b, off + k, none⟩) (l.drop k) := by
  intro hp
  rw [List.length_drop] at hp
  obtain ⟨b', off', e, hlt, hc⟩ := h (by omega)
  simp only [Option.some.injEq, Addr.mk.injEq, and_true] at e
  obtain ⟨rfl, rfl⟩ := e
  refine ⟨b, off + k, rfl, hlt, fun i hi => ?_⟩
  rw [List.length_drop] at hi
  rw [Nat.add_assoc, hc (k + i) (by omega)]
  simp [itAt]

/-- A slice of the call's own that holds the numbers; of what was there nothing has turned. -/
def InsPost (base : Nat) (l : List Int) (w : World) (e : Ending) (w' : World) : Prop :=
  ∃ g cap, e = .returned (.slice (some ⟨g, 0, none⟩) l.length cap) ∧ w'.ownsRow base 3 1 (.slice (some ⟨g, 0, none⟩) l.length cap) l.length (icells l) ∧ Below w.heap.size w w'

theorem insPost_of {base : Nat} {l : List Int} {w w8 : World} {v8 : Value} (hb : base ≤ w.heap.size) (hp : 0 < l.length) (h : w8.ownsRow w.heap.size 3 1 v8 l.length (icells l)) (hbel : Below w.heap.size w w8) : InsPost base l w (.returned v8) w8 := by
  rcases h.2 with ⟨_, h0⟩ | ⟨g, cap, cur, rfl, _⟩
  · omega
  · exact ⟨g, cap, rfl, own_le h hb, hbel⟩

set_option maxRecDepth 100000 in
set_option maxHeartbeats 2000000 in
theorem l1Insert_any (base g cap : Nat) (l : List Int) (a : Int) (w : World) (hown : w.ownsRow base 3 1 (.slice (some ⟨g, 0, none⟩) l.length cap) l.length (icells l)) (hcap : l.length ≤ cap) (hl : l.length ≤ 1099511627776) (hasc : AscP l) :
    Calls Tryz.prog 146 #[.slice (some ⟨g, 0, none⟩) l.length cap, .int .i64 a] w (InsPost base (insL l a) w) := by
  obtain ⟨i0, hi0, hz0, hz1, hz2⟩ := info_parts int_infoM
  have HS := Lib.hid hz2
  clear hz2
  have hIA : IntsAt w (some ⟨g, 0, none⟩) l := by
    obtain ⟨A, c, e, h⟩ := own_intsAt hown
    simp only [Value.slice.injEq] at e
    rw [e.1]
    exact h
  have hh := l1Has_any (some ⟨g, 0, none⟩) cap l a w hIA hl
  by_cases hin : hasB l a = true
  · have hres : Hid (insL l a = l) := insL_there l a hasc (by unfold hasB at hin; exact List.contains_iff_mem.1 hin)
    rw [hin] at hh
    rw [hres.out]
    have hpost : InsPost base l w (.returned (.slice (some ⟨g, 0, none⟩) l.length cap)) w := ⟨g, cap, rfl, hown, Below.refl _ _⟩
    clear hin hasc hown hIA
    go_enter Tryz.func146, Tryz.ntmps146
    go_wp2_with fail
    refine hh.mono ?_
    rintro e w1 ⟨rfl, rfl⟩
    go_wp2
    go_ret
    exact hpost
  · have hin' : hasB l a = false := by simpa using hin
    have hni : Hid (a ∉ l) := fun h => by unfold hasB at hin'; rw [List.contains_iff_mem.2 h] at hin'; cases hin'
    have HA := Lib.hid hasc
    rw [hin'] at hh
    clear hin hin' hasc
    go_enter Tryz.func146, Tryz.ntmps146
    go_wp2_with fail
    refine hh.mono ?_
    rintro e w1 ⟨rfl, rfl⟩
    clear hh
    go_wp2
    go_loop [5] (fun i => ∃ k : Nat, k ≤ l.length ∧ i = .int .i64 k ∧ Hid (∀ j, k ≤ j → j < l.length → a < itAt l j)) (fun i => (intOf i).toNat)
    case atStart => exact ⟨l.length, Nat.le_refl _, rfl, fun j h1 h2 => absurd h1 (by omega)⟩
    case round =>
      obtain ⟨k, hk, rfl, hq⟩ := hrel
      by_cases hz : k = 0
      · subst hz
        have hfin : Hid (l.take 0 ++ a :: l.drop 0 = insL l a) := ins_eq l 0 a HA.out hk hq.out (.inl rfl) hni.out
        have ek : (l.take 0).length = 0 := by rw [List.length_take]; omega
        have hcp := l1Copy_any ⟨g, 0, none⟩ cap (l.take 0) w (hIA.take 0) (by omega)
        rw [ek] at hcp
        have EK := Lib.hid ek
        have hd0 := hIA.drop 0
        rw [Nat.zero_add] at hd0
        have HD := Lib.hid hd0
        have hgs : g < w.heap.size := (hown.lt g rfl).2
        have hbase : base ≤ g := (hown.lt g rfl).1
        have hlen : Hid ((insL l a).length = 0 + 1 + (l.length - 0)) := by
          show (insL l a).length = 0 + 1 + (l.length - 0)
          rw [← hfin.out]
          simp only [List.length_append, List.length_cons, List.length_take, List.length_drop]
          omega
        clear ek hq hown hIA hd0
        go_wp2_with fail
        refine hcp.mono ?_
        rintro e w6 ⟨v6, rfl, ho6, hb6⟩
        rw [EK.out] at ho6
        have hs6 := hb6.size
        have ho6b := ho6.alloc (.cells #[.int .i64 a] 3)
        have hb6b := hb6.alloc hb6.size (.cells #[.int .i64 a] 3)
        have hcell : (w6.alloc (.cells #[.int .i64 a] 3)).cell? ⟨w6.heap.size, 0, none⟩ = some (.int .i64 a) := by simp
        have HC := Lib.hid (one_cell hcell)
        clear hcell hcp ho6
        go_wp2_with (at_builtin; refine wpList_append_own _ rfl (.tmp 29) (.tmp 31) 109 rfl w.heap.size 3 i0 (.int .i64 0) 1 8 Tryz.underlying109 hi0 hz0 hz1 HS.out rfl (by decide) _ 0 _ rfl ho6b ⟨w6.heap.size, 0, none⟩ 1 1 [.int .i64 a] rfl rfl HC.out (int_one _) ?c3 ?c4 ?c5 ?_)
        case c3 => unfold maxLen; omega
        case c4 => omega
        case c5 => simp; omega
        intro v7 w7 ho7 hg7 _
        have hb7 : Below w.heap.size w w7 := below_own hb6b ho6b (Nat.le_refl _) (by simp; omega) hg7
        have HN := Lib.hid (ints_news (HD.out.below hb7))
        have HL := Lib.hid (show (icells (l.drop 0)).length = (l.length - 0) * 1 by rw [icells_len, List.length_drop, Nat.mul_one])
        have hs7 := hb7.size
        clear ho6b hg7 hb6 hb6b HC
        by_cases hck : cap = 0
        · have hnil : l.length - 0 = 0 := by omega
          have hdn : Hid (l.drop 0 = []) := List.drop_of_length_le (by omega)
          subst hck
          go_wp2_with (at_builtin; refine wpList_append_own _ rfl (.tmp 33) (.tmp 36) 109 rfl w.heap.size 3 i0 (.int .i64 0) 1 8 Tryz.underlying109 hi0 hz0 hz1 HS.out rfl (by decide) _ (0 + 1) _ rfl ho7 ⟨g, 0, none⟩ _ _ [] rfl ?d2 ?d3 ?d4 ?d5 ?d6 ?d7 ?_)
          case d2 => simp; try omega
          case d3 => intro j u hj; simp at hj
          case d4 => intro u hu; simp at hu
          case d5 => unfold maxLen; omega
          case d6 => omega
          case d7 => omega
          intro v8 w8 ho8 hg8 _
          have ho9 : w8.ownsRow w.heap.size 3 1 v8 (insL l a).length (icells (insL l a)) := by
            rw [hlen.out, ← hfin.out]
            rw [hdn.out]; simpa [icells, hnil] using ho8
          have hb9 : Below w.heap.size w w8 := below_own hb7 ho7 (Nat.le_refl _) hs7 hg8
          have hpost := insPost_of (base := base) (by omega) (by rw [hlen.out]; omega) ho9 hb9
          clear ho8 hg8 ho9 hb9 ho7 hb7 HN HL hlen hfin
          go_wp2
          go_ret
          exact hpost
        · go_wp2_with (at_builtin; refine wpList_append_own _ rfl (.tmp 33) (.tmp 36) 109 rfl w.heap.size 3 i0 (.int .i64 0) 1 8 Tryz.underlying109 hi0 hz0 hz1 HS.out rfl (by decide) _ (0 + 1) _ rfl ho7 ⟨g, 0, none⟩ (l.length - 0) (cap - 0) (icells (l.drop 0)) rfl HL.out HN.out (icells_one _) ?d3 ?d4 ?d5 ?_)
          case d3 => unfold maxLen; omega
          case d4 => omega
          case d5 => omega
          intro v8 w8 ho8 hg8 _
          have ho9 : w8.ownsRow w.heap.size 3 1 v8 (insL l a).length (icells (insL l a)) := by
            rw [hlen.out, ← hfin.out]
            simpa [icells] using ho8
          have hb9 : Below w.heap.size w w8 := below_own hb7 ho7 (Nat.le_refl _) hs7 hg8
          have hpost := insPost_of (base := base) (by omega) (by rw [hlen.out]; omega) ho9 hb9
          clear ho8 hg8 ho9 hb9 ho7 hb7 HN HL hlen hfin
          go_wp2
          go_ret
          exact hpost
      · obtain ⟨j, rfl⟩ : ∃ j, k = j + 1 := ⟨k - 1, by omega⟩
        have c1 := (hown.cellAt j (by omega)).trans (icells_at l j (by omega))
        by_cases hgt : a < itAt l j
        · have hn : Hid (∀ q, j ≤ q → q < l.length → a < itAt l q) := by
            intro q h1 h2
            by_cases e : q = j
            · rw [e]; exact hgt
            · exact hq.out q (by omega) h2
          generalize itAt l j = x at c1 hgt
          clear hq hown hIA hz
          go_wp2_with fail
          refine ⟨⟨j, by omega, by go_num, hn⟩, ?_⟩
          simp only [intOf]
          omega
        · have hle : itAt l j ≤ a := by omega
          have hfin : Hid (l.take (j + 1) ++ a :: l.drop (j + 1) = insL l a) := ins_eq l (j + 1) a HA.out hk hq.out (.inr hle) hni.out
          generalize itAt l j = x at c1 hle hgt
          have ek : (l.take (j + 1)).length = (j + 1) := by rw [List.length_take]; omega
          have hcp := l1Copy_any ⟨g, 0, none⟩ cap (l.take (j + 1)) w (hIA.take (j + 1)) (by omega)
          rw [ek] at hcp
          have EK := Lib.hid ek
          have hd0 := hIA.drop (j + 1)
          rw [Nat.zero_add] at hd0
          have HD := Lib.hid hd0
          have hgs : g < w.heap.size := (hown.lt g rfl).2
          have hbase : base ≤ g := (hown.lt g rfl).1
          have hlen : Hid ((insL l a).length = (j + 1) + 1 + (l.length - (j + 1))) := by
            show (insL l a).length = (j + 1) + 1 + (l.length - (j + 1))
            rw [← hfin.out]
            simp only [List.length_append, List.length_cons, List.length_take, List.length_drop]
            omega
          clear ek hq hown hIA hd0 hgt hz
          go_wp2_with fail
          refine hcp.mono ?_
          rintro e w6 ⟨v6, rfl, ho6, hb6⟩
          rw [EK.out] at ho6
          have hs6 := hb6.size
          have ho6b := ho6.alloc (.cells #[.int .i64 a] 3)
          have hb6b := hb6.alloc hb6.size (.cells #[.int .i64 a] 3)
          have hcell : (w6.alloc (.cells #[.int .i64 a] 3)).cell? ⟨w6.heap.size, 0, none⟩ = some (.int .i64 a) := by simp
          have HC := Lib.hid (one_cell hcell)
          clear hcell hcp ho6
          go_wp2_with (at_builtin; refine wpList_append_own _ rfl (.tmp 29) (.tmp 31) 109 rfl w.heap.size 3 i0 (.int .i64 0) 1 8 Tryz.underlying109 hi0 hz0 hz1 HS.out rfl (by decide) _ (j + 1) _ rfl ho6b ⟨w6.heap.size, 0, none⟩ 1 1 [.int .i64 a] rfl rfl HC.out (int_one _) ?c3 ?c4 ?c5 ?_)
          case c3 => unfold maxLen; omega
          case c4 => omega
          case c5 => simp; omega
          intro v7 w7 ho7 hg7 _
          have hb7 : Below w.heap.size w w7 := below_own hb6b ho6b (Nat.le_refl _) (by simp; omega) hg7
          have HN := Lib.hid (ints_news (HD.out.below hb7))
          have HL := Lib.hid (show (icells (l.drop (j + 1))).length = (l.length - (j + 1)) * 1 by rw [icells_len, List.length_drop, Nat.mul_one])
          have hs7 := hb7.size
          clear ho6b hg7 hb6 hb6b HC
          by_cases hck : cap = (j + 1)
          · have hnil : l.length - (j + 1) = 0 := by omega
            have hdn : Hid (l.drop (j + 1) = []) := List.drop_of_length_le (by omega)
            subst hck
            go_wp2_with (at_builtin; refine wpList_append_own _ rfl (.tmp 33) (.tmp 36) 109 rfl w.heap.size 3 i0 (.int .i64 0) 1 8 Tryz.underlying109 hi0 hz0 hz1 HS.out rfl (by decide) _ ((j + 1) + 1) _ rfl ho7 ⟨g, 0, none⟩ _ _ [] rfl ?d2 ?d3 ?d4 ?d5 ?d6 ?d7 ?_)
            case d2 => simp; try omega
            case d3 => intro j u hj; simp at hj
            case d4 => intro u hu; simp at hu
            case d5 => unfold maxLen; omega
            case d6 => omega
            case d7 => omega
            intro v8 w8 ho8 hg8 _
            have ho9 : w8.ownsRow w.heap.size 3 1 v8 (insL l a).length (icells (insL l a)) := by
              rw [hlen.out, ← hfin.out]
              rw [hdn.out]; simpa [icells, hnil] using ho8
            have hb9 : Below w.heap.size w w8 := below_own hb7 ho7 (Nat.le_refl _) hs7 hg8
            have hpost := insPost_of (base := base) (by omega) (by rw [hlen.out]; omega) ho9 hb9
            clear ho8 hg8 ho9 hb9 ho7 hb7 HN HL hlen hfin
            go_wp2
            go_ret
            exact hpost
          · go_wp2_with (at_builtin; refine wpList_append_own _ rfl (.tmp 33) (.tmp 36) 109 rfl w.heap.size 3 i0 (.int .i64 0) 1 8 Tryz.underlying109 hi0 hz0 hz1 HS.out rfl (by decide) _ ((j + 1) + 1) _ rfl ho7 ⟨g, (j + 1), none⟩ (l.length - (j + 1)) (cap - (j + 1)) (icells (l.drop (j + 1))) rfl HL.out HN.out (icells_one _) ?d3 ?d4 ?d5 ?_)
            case d3 => unfold maxLen; omega
            case d4 => omega
            case d5 => omega
            intro v8 w8 ho8 hg8 _
            have ho9 : w8.ownsRow w.heap.size 3 1 v8 (insL l a).length (icells (insL l a)) := by
              rw [hlen.out, ← hfin.out]
              simpa [icells] using ho8
            have hb9 : Below w.heap.size w w8 := below_own hb7 ho7 (Nat.le_refl _) hs7 hg8
            have hpost := insPost_of (base := base) (by omega) (by rw [hlen.out]; omega) ho9 hb9
            clear ho8 hg8 ho9 hb9 ho7 hb7 HN HL hlen hfin
            go_wp2
            go_ret
            exact hpost

end Go.Proofs.YtlhjgjfnmejiaaaGreat
end

section
namespace Go.Proofs.YtlhjgjfnmejiaaaGreat
open Go.RowKit Go.Sort

theorem length_insL : ∀ (l : List Int) (n : Int), (insL l n).length ≤ l.length + 1
  | [], n => by simp [insL]
  | x :: r, n => by
    unfold insL
    split
    · simp
    · split
      · simp
      · have := length_insL r n
        simp only [List.length_cons]
        omega

theorem length_insAll (acc xs : List Int) : (insAll acc xs).length ≤ acc.length + xs.length := by
  unfold insAll
  induction xs generalizing acc with
  | nil => simp
  | cons x r ih =>
    have h1 := ih (insL acc x)
    have h2 := length_insL acc x
    simp only [List.foldl_cons, List.length_cons]
    omega

/-- The atoms of both. -/
def atomsL (p q : List (Int × Int)) : List Int := insAll (insAll [] (froms p)) (froms q)

theorem froms_len (l : List (Int × Int)) : (froms l).length = l.length := by simp [froms]
theorem itAt_froms (l : List (Int × Int)) (k : Nat) (h : k < l.length) : itAt (froms l) k = (prAt l k).1 := by simp [itAt, froms, prAt, h]

/-- A slice that holds the numbers, in a row of the call's own that lies somewhere. -/
def OwnI (w : World) (base : Nat) (v : Value) (l : List Int) : Prop :=
  ∃ g cap, v = .slice (some ⟨g, 0, none⟩) l.length cap ∧ l.length ≤ cap ∧ w.ownsRow base 3 1 (.slice (some ⟨g, 0, none⟩) l.length cap) l.length (icells l)

theorem insPost_own {base : Nat} {l : List Int} {w w' : World} {e : Ending} (h : InsPost base l w e w') : ∃ v, e = .returned v ∧ OwnI w' base v l ∧ Below w.heap.size w w' := by
  obtain ⟨g, cap, rfl, ho, hb⟩ := h
  refine ⟨_, rfl, ⟨g, cap, rfl, ?_, ho⟩, hb⟩
  rcases ho.2 with ⟨h', _⟩ | ⟨g', cap', cur, h', _, _, hn, _⟩
  · simp at h'
  · simp only [Value.slice.injEq] at h'
    omega

set_option maxRecDepth 100000 in
set_option maxHeartbeats 2000000 in
theorem l1Atoms_any (A1 A2 : Option Addr) (c1 c2 : Nat) (p q : List (Int × Int)) (w : World) (hp : PairsAt w A1 p) (hq : PairsAt w A2 q) (hlp : p.length ≤ 1048576) (hlq : q.length ≤ 1048576) :
    Calls Tryz.prog 164 #[.slice A1 p.length c1, .slice A2 q.length c2] w fun e w' => ∃ v, e = .returned v ∧ OwnI w' w.heap.size v (atomsL p q) ∧ Below w.heap.size w w' := by
  go_enter Tryz.func164, Tryz.ntmps164
  go_wp2
  go_loopw [5, 6] (fun v i wr => ∃ k : Nat, k ≤ p.length ∧ i = .int .i64 k ∧ OwnI wr w.heap.size v (insAll [] ((froms p).take k)) ∧ Below w.heap.size w wr) (fun _ i _ => p.length - (intOf i).toNat)
  case atStart => exact ⟨0, Nat.zero_le _, rfl, ⟨w.heap.size, 0, rfl, Nat.le_refl _, World.ownsRow_lit w #[] 0 (Nat.le_refl _) (by decide) rfl⟩, (Below.refl _ _).alloc (Nat.le_refl _) _⟩
  case round =>
    obtain ⟨k, hk, rfl, ⟨g, cap, rfl, hcap, ho⟩, hb⟩ := hrel
    by_cases hlt : k < p.length
    · obtain ⟨b1, o1, rfl, hb1, hc1⟩ := hp (by omega)
      obtain ⟨d1, _⟩ := hc1 k hlt
      rw [← hb.cell (p := ⟨b1, _, none⟩) hb1] at d1
      have hlen := length_insAll [] ((froms p).take k)
      rw [List.length_take, froms_len , List.length_nil] at hlen
      have hins := l1Insert_any w.heap.size g cap _ (prAt p k).1 wr ho hcap (by omega) (asc_insAll _ _ List.Pairwise.nil)
      have hnext : Hid (insAll [] ((froms p).take (k + 1)) = insL (insAll [] ((froms p).take k)) (prAt p k).1) := by
        rw [← itAt_froms p k hlt]
        exact insAll_next [] (by rw [froms_len]; exact hlt)
      generalize insAll [] ((froms p).take k) = X at hins hnext hlen hcap ⊢
      generalize (prAt p k).1 = a at d1 hins hnext
      clear ho hc1 hp hlen
      go_wp2_with fail
      refine hins.mono ?_
      rintro e w2 hpost
      obtain ⟨v2, rfl, hv2, hb2⟩ := insPost_own hpost
      rw [← hnext.out] at hv2
      have hb3 := hb.trans (hb2.mono hb.size)
      clear hpost hins hnext hb hb2 d1
      go_wp2_with fail
      refine ⟨⟨k + 1, by omega, by go_num, hv2, hb3⟩, ?_⟩
      simp only [intOf]
      omega
    · have hown : OwnI wr w.heap.size (.slice (some ⟨g, 0, none⟩) (insAll [] ((froms p).take k)).length cap) (insAll [] (froms p)) := by
        rw [List.take_of_length_le (by rw [froms_len]; omega)] at ho hcap ⊢
        exact ⟨g, cap, rfl, hcap, ho⟩
      have hlen0 := length_insAll [] (froms p)
      rw [froms_len, List.length_nil] at hlen0
      generalize (insAll [] ((froms p).take k)).length = N at hown ⊢
      obtain ⟨wo, rfl⟩ : ∃ wo : World, wo = wr := ⟨_, rfl⟩
      clear ho hcap hp
      go_wp2
      go_loopw [5, 7] (fun v i wr => ∃ k : Nat, k ≤ q.length ∧ i = .int .i64 k ∧ OwnI wr w.heap.size v (insAll (insAll [] (froms p)) ((froms q).take k)) ∧ Below w.heap.size w wr) (fun _ i _ => q.length - (intOf i).toNat)
      case atStart => exact ⟨0, Nat.zero_le _, rfl, hown, hb⟩
      case round =>
        clear hown hb
        obtain ⟨k, hk, rfl, ⟨g, cap, rfl, hcap, ho⟩, hb⟩ := hrel
        by_cases hlt : k < q.length
        · obtain ⟨b1, o1, rfl, hb1, hc1⟩ := hq (by omega)
          obtain ⟨d1, _⟩ := hc1 k hlt
          rw [← hb.cell (p := ⟨b1, _, none⟩) hb1] at d1
          have hlen := length_insAll (insAll [] (froms p)) ((froms q).take k)
          rw [List.length_take, froms_len ] at hlen
          have hins := l1Insert_any w.heap.size g cap _ (prAt q k).1 wr ho hcap (by omega) (asc_insAll _ _ (asc_insAll _ _ List.Pairwise.nil))
          have hnext : Hid (insAll (insAll [] (froms p)) ((froms q).take (k + 1)) = insL (insAll (insAll [] (froms p)) ((froms q).take k)) (prAt q k).1) := by
            rw [← itAt_froms q k hlt]
            exact insAll_next (insAll [] (froms p)) (by rw [froms_len]; exact hlt)
          generalize insAll (insAll [] (froms p)) ((froms q).take k) = X at hins hnext hlen hcap ⊢
          generalize (prAt q k).1 = a at d1 hins hnext
          clear ho hc1 hq hlen
          go_wp2_with fail
          refine hins.mono ?_
          rintro e w2 hpost
          obtain ⟨v2, rfl, hv2, hb2⟩ := insPost_own hpost
          rw [← hnext.out] at hv2
          have hb3 := hb.trans (hb2.mono hb.size)
          clear hpost hins hnext hb hb2 d1
          go_wp2_with fail
          refine ⟨⟨k + 1, by omega, by go_num, hv2, hb3⟩, ?_⟩
          simp only [intOf]
          omega
        · have hown : OwnI wr w.heap.size (.slice (some ⟨g, 0, none⟩) (insAll (insAll [] (froms p)) ((froms q).take k)).length cap) (atomsL p q) := by
            rw [List.take_of_length_le (by rw [froms_len]; omega)] at ho hcap ⊢
            exact ⟨g, cap, rfl, hcap, ho⟩
          generalize (insAll (insAll [] (froms p)) ((froms q).take k)).length = M at hown ⊢
          clear ho hcap hq
          go_wp2
          go_ret
          exact ⟨_, rfl, hown, hb⟩

end Go.Proofs.YtlhjgjfnmejiaaaGreat
end

section
namespace Go.Proofs.YtlhjgjfnmejiaaaGreat
open Go.RowKit Go.Sort

/-- What the first pair with the atom gives to it; the atom, if there is none. -/
def imgL : List (Int × Int) → Int → Int
  | [], a => a
  | p :: r, a => if p.1 = a then p.2 else imgL r a

theorem imgL_at : ∀ (l : List (Int × Int)) (a : Int) (i : Nat), i < l.length → (∀ j, j < i → (prAt l j).1 ≠ a) → (prAt l i).1 = a → imgL l a = (prAt l i).2
  | [], _, i, h, _, _ => by simp at h
  | p :: r, a, 0, _, _, e => by
    have e' : p.1 = a := e
    simp [imgL, e', prAt]
  | p :: r, a, i + 1, h, hn, e => by
    have h0 : ¬ p.1 = a := hn 0 (by omega)
    have h1 := imgL_at r a i (by simpa using h) (fun j hj => hn (j + 1) (by omega)) e
    simp only [imgL, h0, if_false]
    exact h1

theorem imgL_none : ∀ (l : List (Int × Int)) (a : Int), (∀ j, j < l.length → (prAt l j).1 ≠ a) → imgL l a = a
  | [], _, _ => rfl
  | p :: r, a, hn => by
    have h0 : ¬ p.1 = a := hn 0 (by simp)
    simp only [imgL, h0, if_false]
    exact imgL_none r a fun j hj => hn (j + 1) (by simpa using hj)

set_option maxHeartbeats 400000 in
theorem imageIn_any (A : Option Addr) (c : Nat) (l : List (Int × Int)) (a : Int) (w : World) (hA : PairsAt w A l) (hl : l.length ≤ 1099511627776) (hasc : Asc l) :
    Calls Tryz.prog 244 #[.slice A l.length c, .int .i64 a] w fun e w' => e = .returned (.int .i64 (imgL l a)) ∧ Below w.heap.size w w' := by
  have hpl := placeOf_any A c l a w hA hl hasc
  have HA := Lib.hid hasc
  clear hasc
  go_enter Tryz.func244, Tryz.ntmps244
  go_wp2_with fail
  refine hpl.mono ?_
  rintro e w1 ⟨i, he, hd, hb⟩
  clear hpl
  by_cases hf : foundB l a i = true
  · have hf' : i < l.length ∧ (prAt l i).1 = a := by simpa [foundB] using hf
    have hres : Hid (imgL l a = (prAt l i).2) := imgL_at l a i hf'.1 (fun j hj => by have := hd.2.1 j hj; omega) hf'.2
    rw [hf] at he
    subst he
    have hi := hf'.1
    obtain ⟨b1, o1, rfl, hb1, hc1⟩ := hA (by omega)
    obtain ⟨_, c2⟩ := hc1 i hi
    rw [← hb.cell (p := ⟨b1, _, none⟩) hb1] at c2
    clear hc1 hA hf hf' hd
    go_wp2
    go_ret
    exact ⟨int_end hres.out.symm, hb⟩
  · have hf' : foundB l a i = false := by simpa using hf
    have hres : Hid (imgL l a = a) := imgL_none l a fun j hj => by
      rcases Nat.lt_or_ge j i with h1 | h1
      · have := hd.2.1 j h1; omega
      · intro e
        have h2 := found_iff HA.out hd
        rw [hf'] at h2
        have h3 : a ∈ froms l := mem_froms.2 ⟨j, hj, e⟩
        have h4 : (froms l).contains a = true := List.contains_iff_mem.2 h3
        rw [h4] at h2
        cases h2
    rw [hf'] at he
    subst he
    clear hA hf hf' hd
    go_wp2
    go_ret
    exact ⟨int_end hres.out.symm, hb⟩

set_option maxHeartbeats 400000 in
theorem l1Image_any (A : Option Addr) (c : Nat) (l : List (Int × Int)) (a : Int) (w : World) (hA : PairsAt w A l) (hl : l.length ≤ 1099511627776) :
    Calls Tryz.prog 133 #[.slice A l.length c, .int .i64 a] w fun e w' => e = .returned (.int .i64 (imgL l a)) ∧ w = w' := by
  go_enter Tryz.func133, Tryz.ntmps133
  go_wp2
  go_loop [5] (fun i => ∃ k : Nat, k ≤ l.length ∧ i = .int .i64 k ∧ Hid (∀ j, j < k → (prAt l j).1 ≠ a)) (fun i => l.length - (intOf i).toNat)
  case atStart => exact ⟨0, Nat.zero_le _, rfl, fun j hj => absurd hj (by omega)⟩
  case round =>
    obtain ⟨k, hk, rfl, hq⟩ := hrel
    by_cases hlt : k < l.length
    · obtain ⟨b1, o1, rfl, hb1, hc1⟩ := hA (by omega)
      obtain ⟨c1, c2⟩ := hc1 k hlt
      clear hc1 hA
      by_cases he : ((prAt l k).1 == a) = true
      · have hres : Hid (imgL l a = (prAt l k).2) := imgL_at l a k hlt hq.out (by simpa using he)
        generalize prAt l k = p at c1 c2 he hres
        clear hq
        go_wp2
        go_ret
        exact ⟨int_end hres.out.symm, rfl⟩
      · have he' : ((prAt l k).1 == a) = false := by simpa using he
        have hn : Hid (∀ j, j < k + 1 → (prAt l j).1 ≠ a) := by
          intro j hj
          by_cases e : j = k
          · rw [e]; simpa using he'
          · exact hq.out j (by omega)
        generalize prAt l k = p at c1 c2 he he'
        clear hq he
        go_wp2
        go_round
        case rel => exact ⟨k + 1, by omega, by go_num, hn⟩
        case measure => simp [intOf]; omega
    · have hres : Hid (imgL l a = a) := imgL_none l a fun j hj => hq.out j (by omega)
      clear hq hA
      go_wp2
      go_ret
      exact ⟨int_end hres.out.symm, rfl⟩

end Go.Proofs.YtlhjgjfnmejiaaaGreat
end

section
namespace Go.Proofs.YtlhjgjfnmejiaaaGreat
open Go.RowKit

theorem prAt_mem {l : List (Int × Int)} {i : Nat} (h : i < l.length) : prAt l i ∈ l := by
  simp [prAt, h]

theorem mem_prAt {l : List (Int × Int)} {x : Int × Int} (h : x ∈ l) : ∃ i, i < l.length ∧ prAt l i = x := by
  obtain ⟨i, hi, e⟩ := List.getElem_of_mem h
  exact ⟨i, hi, by simp [prAt, hi, e]⟩

/-- No atom stands twice in front. -/
def Single (l : List (Int × Int)) : Prop := (froms l).Nodup

theorem imgL_mem : ∀ {l : List (Int × Int)} {a b : Int}, Single l → (a, b) ∈ l → imgL l a = b
  | [], _, _, _, h => by simp at h
  | p :: r, a, b, hs, h => by
    unfold Single froms at hs
    rw [List.map_cons, List.nodup_cons] at hs
    rcases List.mem_cons.1 h with e | e
    · subst e; simp [imgL]
    · have hne : ¬ p.1 = a := fun e' => hs.1 (by rw [e']; exact List.mem_map_of_mem (f := Prod.fst) e)
      simp only [imgL, hne, if_false]
      exact imgL_mem (l := r) hs.2 e

theorem imgL_out : ∀ {l : List (Int × Int)} {a : Int}, a ∉ froms l → imgL l a = a
  | [], _, _ => rfl
  | p :: r, a, h => by
    unfold froms at h
    rw [List.map_cons, List.mem_cons, not_or] at h
    have hne : ¬ p.1 = a := fun e => h.1 e.symm
    simp only [imgL, hne, if_false]
    exact imgL_out (l := r) h.2

theorem imgL_in : ∀ {l : List (Int × Int)} {a : Int}, a ∈ froms l → (a, imgL l a) ∈ l
  | [], _, h => by simp [froms] at h
  | p :: r, a, h => by
    by_cases e : p.1 = a
    · subst e; simp [imgL]
    · unfold froms at h
      rw [List.map_cons, List.mem_cons] at h
      have h' : a ∈ froms r := by
        rcases h with h | h
        · exact absurd h.symm e
        · exact h
      simp only [imgL, e, if_false]
      exact List.mem_cons_of_mem _ (imgL_in h')

/-- A list without an atom twice is told by its atoms and what it gives. -/
theorem as_map : ∀ {l : List (Int × Int)}, Single l → l = (froms l).map fun a => (a, imgL l a) := by
  intro l h
  unfold froms
  rw [List.map_map]
  have : ∀ x ∈ l, ((fun a => (a, imgL l a)) ∘ Prod.fst) x = x := by
    intro x hx
    have := imgL_mem (l := l) (a := x.1) (b := x.2) h hx
    simp [this]
  rw [List.map_congr_left this, List.map_id']

/-- Nothing is given to itself. -/
def Moves (l : List (Int × Int)) : Prop := ∀ x ∈ l, x.1 ≠ x.2

theorem moved_iff {l : List (Int × Int)} (hm : Moves l) (a : Int) : a ∈ froms l ↔ imgL l a ≠ a := by
  constructor
  · intro h e
    exact hm _ (imgL_in h) e.symm
  · intro h
    rcases Decidable.em (a ∈ froms l) with h' | h'
    · exact h'
    · exact absurd (imgL_out h') h

theorem asc_single {l : List (Int × Int)} (h : AscP (froms l)) : Single l := by
  unfold Single
  exact h.imp fun h1 => by omega

theorem same_img {p q : List (Int × Int)} (hp : AscP (froms p)) (hq : AscP (froms q)) (hmp : Moves p) (hmq : Moves q) (h : ∀ a, imgL p a = imgL q a) : p = q := by
  have hf : froms p = froms q := asc_same _ _ hp hq fun a => by rw [moved_iff hmp, moved_iff hmq, h]
  rw [as_map (asc_single hp), as_map (asc_single hq), hf]
  exact List.map_congr_left fun a _ => by rw [h]

/-- What a permutation is, without the bound on how many it moves. -/
structure IsP (l : List (Int × Int)) : Prop where
  asc : AscP (froms l)
  mv : Moves l
  dom : ∀ a ∈ froms l, 0 ≤ a ∧ a ≤ 999
  back : (froms l).Perm (tos l)

theorem isP_of {l : List (Int × Int)} (h : permB l = true) : IsP l := by
  obtain ⟨_, h2, _⟩ := permB_parts h
  refine ⟨ascP_froms (asc_of_order h2), fun x hx => ?_, fun a ha => ?_, perm_tos h⟩
  · obtain ⟨i, hi, rfl⟩ := mem_prAt hx
    exact (okAt_parts (order_at h2 i hi)).2.2.1
  · obtain ⟨i, hi, rfl⟩ := mem_froms.1 ha
    exact (okAt_parts (order_at h2 i hi)).1

theorem IsP.single {l : List (Int × Int)} (h : IsP l) : Single l := asc_single h.asc

theorem asc_list {l : List (Int × Int)} (h : AscP (froms l)) : Asc l := by
  intro i j hij hj
  have h1 := List.pairwise_iff_getElem.1 h i j (by rw [froms_len]; omega) (by rw [froms_len]; omega) hij
  have e1 : (froms l)[i]'(by rw [froms_len]; omega) = (prAt l i).1 := by
    rw [← itAt_froms l i (by omega), itAt_get]
  have e2 : (froms l)[j]'(by rw [froms_len]; omega) = (prAt l j).1 := by
    rw [← itAt_froms l j (by omega), itAt_get]
  rw [e1, e2] at h1
  exact h1

theorem IsP.tos_nodup {l : List (Int × Int)} (h : IsP l) : (tos l).Nodup := h.back.nodup_iff.1 h.single

theorem IsP.to_mem {l : List (Int × Int)} (h : IsP l) {a : Int} (ha : a ∈ froms l) : imgL l a ∈ froms l := by
  have h1 : imgL l a ∈ tos l := List.mem_map_of_mem (f := Prod.snd) (imgL_in ha)
  exact h.back.mem_iff.2 h1

theorem IsP.atom {l : List (Int × Int)} (h : IsP l) {a : Int} (ha : 0 ≤ a ∧ a ≤ 999) : 0 ≤ imgL l a ∧ imgL l a ≤ 999 := by
  rcases Decidable.em (a ∈ froms l) with h' | h'
  · exact h.dom _ (h.to_mem h')
  · rw [imgL_out h']; exact ha

theorem nodup_snd : ∀ {l : List (Int × Int)} {a b c : Int}, (tos l).Nodup → (a, c) ∈ l → (b, c) ∈ l → a = b
  | [], _, _, _, _, h, _ => by simp at h
  | p :: r, a, b, c, hn, h1, h2 => by
    unfold tos at hn
    rw [List.map_cons, List.nodup_cons] at hn
    rcases List.mem_cons.1 h1 with e1 | e1
    · rcases List.mem_cons.1 h2 with e2 | e2
      · rw [← e2] at e1; exact congrArg Prod.fst e1
      · exact absurd (List.mem_map_of_mem (f := Prod.snd) e2) (by rw [← e1] at hn; exact hn.1)
    · rcases List.mem_cons.1 h2 with e2 | e2
      · exact absurd (List.mem_map_of_mem (f := Prod.snd) e1) (by rw [← e2] at hn; exact hn.1)
      · exact nodup_snd (l := r) hn.2 e1 e2

theorem IsP.inj {l : List (Int × Int)} (h : IsP l) {a b : Int} (e : imgL l a = imgL l b) : a = b := by
  rcases Decidable.em (a ∈ froms l) with ha | ha
  · rcases Decidable.em (b ∈ froms l) with hb | hb
    · exact nodup_snd h.tos_nodup (imgL_in ha) (by rw [e]; exact imgL_in hb)
    · have h1 := h.to_mem ha
      rw [e, imgL_out hb] at h1
      exact absurd h1 hb
  · rcases Decidable.em (b ∈ froms l) with hb | hb
    · have h1 := h.to_mem hb
      rw [← e, imgL_out ha] at h1
      exact absurd h1 ha
    · rw [imgL_out ha, imgL_out hb] at e; exact e

/-- A list that is told by its atoms and a map that is one to one on them, and keeps them. -/
theorem isP_map {L : List Int} {f : Int → Int} (hL : AscP L) (hd : ∀ a ∈ L, 0 ≤ a ∧ a ≤ 999) (hm : ∀ a ∈ L, f a ≠ a) (hk : ∀ a ∈ L, f a ∈ L) (hi : ∀ a ∈ L, ∀ b ∈ L, f a = f b → a = b) : IsP (L.map fun a => (a, f a)) := by
  have ef : froms (L.map fun a => (a, f a)) = L := by
    unfold froms; rw [List.map_map]; exact List.map_id'' (fun _ => rfl) L
  have et : tos (L.map fun a => (a, f a)) = L.map f := by
    unfold tos; rw [List.map_map]; rfl
  refine ⟨by rw [ef]; exact hL, fun x hx => ?_, by rw [ef]; exact hd, ?_⟩
  · obtain ⟨a, ha, rfl⟩ := List.mem_map.1 hx
    exact fun e => hm a ha e.symm
  · rw [ef, et]
    have hn : L.Nodup := hL.imp fun h1 => by omega
    have hn2 : (L.map f).Nodup := by
      rw [List.Nodup, List.pairwise_map]
      refine List.Pairwise.imp_of_mem ?_ hn
      intro a b ha hb hab e
      exact hab (hi a ha b hb e)
    refine (perm_of_subset (L.map f) L hn2 (fun a ha => ?_) (by rw [List.length_map]; exact Nat.le_refl _))
    obtain ⟨b, hb, rfl⟩ := List.mem_map.1 ha
    exact hk b hb

/-- First q, then p. -/
def thenB (p q : List (Int × Int)) (a : Int) : Bool := imgL p (imgL q a) != a
def thenG (p q : List (Int × Int)) (a : Int) : Int × Int := (a, imgL p (imgL q a))
def thenL (p q : List (Int × Int)) : List (Int × Int) := ((atomsL p q).filter (thenB p q)).map (thenG p q)

theorem mem_atomsL {p q : List (Int × Int)} {a : Int} : a ∈ atomsL p q ↔ a ∈ froms p ∨ a ∈ froms q := by
  unfold atomsL
  rw [mem_insAll, mem_insAll]
  simp

theorem asc_atomsL (p q : List (Int × Int)) : AscP (atomsL p q) := asc_insAll _ _ (asc_insAll _ _ List.Pairwise.nil)

theorem len_atomsL (p q : List (Int × Int)) : (atomsL p q).length ≤ p.length + q.length := by
  have h1 := length_insAll (insAll [] (froms p)) (froms q)
  have h2 := length_insAll [] (froms p)
  rw [froms_len] at h1 h2
  simp only [List.length_nil] at h2
  unfold atomsL
  omega

theorem thenL_len (p q : List (Int × Int)) : (thenL p q).length ≤ p.length + q.length := by
  unfold thenL
  rw [List.length_map]
  exact Nat.le_trans (List.length_filter_le _ _) (len_atomsL p q)

theorem froms_thenL (p q : List (Int × Int)) : froms (thenL p q) = (atomsL p q).filter (thenB p q) := by
  unfold froms thenL
  rw [List.map_map]
  exact List.map_id'' (fun _ => rfl) _

theorem asc_thenL (p q : List (Int × Int)) : AscP (froms (thenL p q)) := by
  rw [froms_thenL]
  exact (asc_atomsL p q).filter _

theorem moves_thenL (p q : List (Int × Int)) : Moves (thenL p q) := by
  intro x hx
  unfold thenL at hx
  obtain ⟨a, ha, rfl⟩ := List.mem_map.1 hx
  have h1 := (List.mem_filter.1 ha).2
  intro e
  have e' : a = imgL p (imgL q a) := e
  rw [thenB, ← e'] at h1
  simp at h1

theorem img_thenL (p q : List (Int × Int)) (a : Int) : imgL (thenL p q) a = imgL p (imgL q a) := by
  rcases Decidable.em (a ∈ froms (thenL p q)) with h | h
  · have h1 := imgL_in h
    unfold thenL at h1
    obtain ⟨b, _, e⟩ := List.mem_map.1 h1
    have e1 : b = a := congrArg Prod.fst e
    have e2 : imgL p (imgL q b) = imgL (thenL p q) a := congrArg Prod.snd e
    rw [← e2, e1]
  · rw [imgL_out h]
    rw [froms_thenL, List.mem_filter, mem_atomsL, Decidable.not_and_iff_not_or_not] at h
    rcases h with h | h
    · rw [not_or] at h
      rw [imgL_out h.2, imgL_out h.1]
    · simpa [thenB] using (Eq.symm (by simpa [thenB] using h : imgL p (imgL q a) = a))

theorem isP_thenL {p q : List (Int × Int)} (hp : IsP p) (hq : IsP q) : IsP (thenL p q) := by
  have hkey : ∀ a, a ∈ (atomsL p q).filter (thenB p q) ↔ imgL p (imgL q a) ≠ a := by
    intro a
    rw [← froms_thenL, moved_iff (moves_thenL p q), img_thenL]
  refine isP_map (f := fun a => imgL p (imgL q a)) (by rw [← froms_thenL]; exact asc_thenL p q) (fun a ha => ?_) (fun a ha => (hkey a).1 ha) (fun a ha => ?_) (fun a _ b _ e => hq.inj (hp.inj e))
  · rcases mem_atomsL.1 (List.mem_filter.1 ha).1 with h | h
    · exact hp.dom a h
    · exact hq.dom a h
  · refine (hkey _).2 fun e => (hkey a).1 ha ?_
    exact hq.inj (hp.inj e)

/-- The inverse: each atom, and what is given to it. -/
def backL : List (Int × Int) → Int → Int
  | [], a => a
  | p :: r, a => if p.2 = a then p.1 else backL r a

theorem backL_at : ∀ (l : List (Int × Int)) (a : Int) (i : Nat), i < l.length → (∀ j, j < i → (prAt l j).2 ≠ a) → (prAt l i).2 = a → backL l a = (prAt l i).1
  | [], _, i, h, _, _ => by simp at h
  | p :: r, a, 0, _, _, e => by
    have e' : p.2 = a := e
    simp [backL, e', prAt]
  | p :: r, a, i + 1, h, hn, e => by
    have h0 : ¬ p.2 = a := hn 0 (by omega)
    have h1 := backL_at r a i (by simpa using h) (fun j hj => hn (j + 1) (by omega)) e
    simp only [backL, h0, if_false]
    exact h1

theorem backL_none : ∀ (l : List (Int × Int)) (a : Int), (∀ j, j < l.length → (prAt l j).2 ≠ a) → backL l a = a
  | [], _, _ => rfl
  | p :: r, a, hn => by
    have h0 : ¬ p.2 = a := hn 0 (by simp)
    simp only [backL, h0, if_false]
    exact backL_none r a fun j hj => hn (j + 1) (by simpa using hj)

end Go.Proofs.YtlhjgjfnmejiaaaGreat
end

section
namespace Go.Proofs.YtlhjgjfnmejiaaaGreat
open Go.RowKit Go.Sort

/-- Which atoms the first k numbers are. -/
def tBits (l : List Int) (k : Nat) : List Value := (List.range 1000).map fun q : Nat => .bool (hasB (l.take k) (q : Int))

theorem tBits_len (l : List Int) (k : Nat) : (tBits l k).length = 1000 := by rw [tBits, List.length_map, List.length_range]

theorem tBits_at (l : List Int) (k q : Nat) (h : q < 1000) : (tBits l k)[q]? = some (.bool (hasB (l.take k) (q : Int))) := by
  simp [tBits, List.getElem?_map, List.getElem?_range h]

theorem contains_next {l : List Int} {k : Nat} (hk : k < l.length) (q : Int) : hasB (l.take (k + 1)) q = (hasB (l.take k) q || decide (q = itAt l k)) := by
  rw [itake_next hk, Bool.eq_iff_iff]
  simp [hasB]

theorem tBits_set {l : List Int} {k m : Nat} (hk : k < l.length) (hm : m < 1000) (e : itAt l k = (m : Int)) : (tBits l k).set m (.bool true) = tBits l (k + 1) := by
  apply List.ext_getElem?
  intro q
  by_cases hq : q < 1000
  · rw [tBits_at l (k + 1) q hq, List.getElem?_set, contains_next hk, e]
    by_cases hc : m = q
    · subst hc
      rw [if_pos rfl, if_pos (by rw [tBits_len]; exact hm)]
      simp
    · rw [if_neg hc, tBits_at l k q hq]
      have : ¬ (q : Int) = (m : Int) := by omega
      simp [this]
  · rw [List.getElem?_eq_none (by rw [List.length_set, tBits_len]; omega), List.getElem?_eq_none (by rw [tBits_len]; omega)]

/-- The block of marks after k numbers. -/
def TMarks (w : World) (G : Nat) (l : List Int) (k : Nat) : Prop := w.heap[G]? = some (.cells (tBits l k).toArray 218 (0, 0))

theorem TMarks.lt {w : World} {G : Nat} {l : List Int} {k : Nat} (h : TMarks w G l k) : G < w.heap.size := (Array.getElem?_eq_some_iff.1 h).1
theorem TMarks.cell {w : World} {G : Nat} {l : List Int} {k : Nat} (h : TMarks w G l k) (q : Nat) (hq : q < 1000) : w.cell? ⟨G, q, none⟩ = some (.bool (hasB (l.take k) (q : Int))) := by
  rw [cell_of_row w G q _ _ _ h]
  simpa using tBits_at l k q hq
theorem TMarks.frozen {w : World} {G : Nat} {l : List Int} {k : Nat} (h : TMarks w G l k) (q : Nat) : w.frozen? ⟨G, q, none⟩ = false := frozen_of_row w G q _ _ h
theorem TMarks.set_ {w : World} {G : Nat} {l : List Int} {k m : Nat} (h : TMarks w G l k) (hk : k < l.length) (hm : m < 1000) (e : itAt l k = (m : Int)) :
    TMarks (w.setCell ⟨G, m, none⟩ (.bool true)) G l (k + 1) := by
  unfold TMarks at h ⊢
  rw [heap_setCell_same w G m _ _ _ h, ← tBits_set hk hm e]
  simp

end Go.Proofs.YtlhjgjfnmejiaaaGreat
end

section
namespace Go.Proofs.YtlhjgjfnmejiaaaGreat
open Go.RowKit Go.Sort
set_option linter.unusedVariables false

set_option maxHeartbeats 800000 in
theorem index_any (A : Option Addr) (c : Nat) (l : List Int) (a : Int) (w : World) (hA : IntsAt w A l) (hl : l.length ≤ 1099511627776) :
    Calls Tryz.prog 174 #[.slice A l.length c, .int .i64 a] w fun e w' => ∃ r : Int, e = .returned (.int .i64 r) ∧ decide (0 ≤ r) = hasB l a ∧ w = w' := by
  go_enter Tryz.func174, Tryz.ntmps174
  go_wp2
  go_loop [8] (fun i => ∃ k : Nat, k ≤ l.length ∧ i = .int .i64 k ∧ Hid (∀ j, j < k → itAt l j ≠ a)) (fun i => l.length - (intOf i).toNat)
  case atStart => exact ⟨0, Nat.zero_le _, rfl, Lib.hid (fun j hj => by omega)⟩
  case round =>
    obtain ⟨k, hk, rfl, hq⟩ := hrel
    by_cases hlt : k < l.length
    · obtain ⟨b1, o1, rfl, hb1, hc1⟩ := hA (by omega)
      have c1 := hc1 k hlt
      clear hc1 hA
      by_cases he : itAt l k = a
      · have hres : Hid (decide (0 ≤ (k : Int)) = hasB l a) := by
          show decide (0 ≤ (k : Int)) = hasB l a
          rw [decide_eq_true (by omega)]
          symm
          unfold hasB
          rw [List.contains_iff_mem, ← he, itAt_get l k hlt]
          exact List.getElem_mem hlt
        have q1 : (a == itAt l k) = true := by simp [he]
        generalize itAt l k = x at c1 q1
        clear hq he
        go_wp2
        go_ret
        exact ⟨k, rfl, hres.out, rfl⟩
      · have q1 : (a == itAt l k) = false := by simp; exact fun e => he e.symm
        have hn : Hid (∀ j, j < k + 1 → itAt l j ≠ a) := by
          intro j hj
          by_cases e : j = k
          · rw [e]; exact he
          · exact hq.out j (by omega)
        generalize itAt l k = x at c1 q1
        clear hq he
        go_wp2
        go_round
        case rel => exact ⟨k + 1, by omega, by go_num, hn⟩
        case measure => simp [intOf]; omega
    · have hres : Hid (decide (0 ≤ (-1 : Int)) = hasB l a) := by
        show decide (0 ≤ (-1 : Int)) = hasB l a
        rw [decide_eq_false (by omega)]
        symm
        unfold hasB
        rw [← Bool.not_eq_true, List.contains_iff_mem]
        intro hmem
        obtain ⟨j, hj, e⟩ := List.getElem_of_mem hmem
        exact hq.out j (by omega) (by rw [itAt_get l j hj]; exact e)
      clear hq hA
      go_wp2
      go_ret
      exact ⟨-1, rfl, hres.out, rfl⟩

theorem contains_any (A : Option Addr) (c : Nat) (l : List Int) (a : Int) (w : World) (hA : IntsAt w A l) (hl : l.length ≤ 1099511627776) :
    Calls Tryz.prog 143 #[.slice A l.length c, .int .i64 a] w fun e w' => e = .returned (.bool (hasB l a)) ∧ w = w' := by
  have hix := index_any A c l a w hA hl
  go_enter Tryz.func143, Tryz.ntmps143
  go_wp2_with fail
  refine hix.mono ?_
  rintro e w' ⟨r, rfl, hr, rfl⟩
  have HR := Lib.hid hr
  clear hr hix
  by_cases h0 : 0 ≤ r
  · have hq : hasB l a = true := by rw [← HR.out]; simp [h0]
    have HQ := Lib.hid hq
    clear hq HR
    go_wp2
    go_ret
    exact ⟨bool_end HQ.out.symm, rfl⟩
  · go_wp2
    go_ret
    exact ⟨bool_end HR.out, rfl⟩

end Go.Proofs.YtlhjgjfnmejiaaaGreat
end

section
namespace Go.Proofs.YtlhjgjfnmejiaaaGreat
open Go.RowKit Go.Sort

end Go.Proofs.YtlhjgjfnmejiaaaGreat
end

