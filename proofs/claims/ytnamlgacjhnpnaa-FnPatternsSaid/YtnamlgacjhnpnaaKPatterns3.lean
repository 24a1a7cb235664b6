/-
  l1Insert of the model at a list in any order, as a contract. Tuples and constants that the model draws from a cursor: contracts. Constants and a tuple that the model draws: a contract. Constants, tuples and patterns: plain words, no program is walked here.
-/
import Derived.Test.YtnamlgacjhnpnaaKPatterns2
import Derived.Test.YtnamlgacjhnpnaaKPatterns1
section
namespace Go.Proofs.Ytnamlgacjhnpnaa
open Go.RowKit Go.Sort
set_option linter.unusedVariables false

end Go.Proofs.Ytnamlgacjhnpnaa
end

section
namespace Go.Proofs.Ytnamlgacjhnpnaa
open Go.RowKit Go.Sort
set_option linter.unusedVariables false

namespace DrawN
theorem int_info : (Try.prog.info? 3).map (fun i => (i.zero, i.size, i.bytes)) = some (some (.int .i64 0), 1, 8) := by kernel_rfl
theorem int_one (x : Int) : ∀ u ∈ [Value.int .i64 x], u.oneCell' = true := by
  intro u hu
  simp at hu
  subst hu
  rfl
theorem one_cell {w : World} {g : Nat} {u : Value} (h : w.cell? ⟨g, 0, none⟩ = some u) : ∀ j x, [u][j]? = some x → w.cell? ((⟨g, 0, none⟩ : Addr).add j) = some x := by
  intro j x hj
  cases j with
  | zero => simp at hj; subst hj; simpa [Addr.add] using h
  | succ j => simp at hj
theorem insL_len : ∀ (l : List Int) (n : Int), (insL l n).length ≤ l.length + 1
  | [], n => by simp [insL]
  | x :: r, n => by
    have := insL_len r n
    unfold insL
    split
    · simp
    · split
      · simp
      · simp; omega
theorem cur_base {w : World} {B C : Nat} (h : Cur w B C) : B ≤ C := by obtain ⟨_, _, _, _, _, _, _, _, h, _⟩ := h; exact h
/-- A row of the call's own, and a cursor that has moved; nothing else of the world at the start is turned. -/
def Grow (w0 : World) (B C : Nat) (l : List Int) (v : Value) (w : World) : Prop :=
  w.ownsRow w0.heap.size 3 1 v l.length (icells l) ∧ Drew B C w0 w
theorem ne_cur {w0 w : World} {C n : Nat} {v : Value} {xs : List Value} (hC : C < w0.heap.size) (h : w.ownsRow w0.heap.size 3 1 v n xs) : v.ownBlock ≠ some C := fun e => by
  have := (h.lt C e).1
  omega
theorem drew_grown {w0 w w' : World} {B C : Nat} {row : Option Nat} (hC : C < w0.heap.size) (h : Drew B C w0 w) (hg : w.grownBy w' row) (hr : ∀ k, row = some k → w0.heap.size ≤ k) : Drew B C w0 w' := by
  obtain ⟨hc, h2⟩ := h
  have hCl : C < w.heap.size := hc.lt
  have hBC := cur_base hc
  obtain ⟨A, n, c, i, x, hblk, hi, hn, hB, hby⟩ := hc
  have hne : some C ≠ row := fun e => by have := hr C e.symm; omega
  refine ⟨⟨A, n, c, i, x, (hg.block C hCl hne).trans hblk, hi, hn, hB, hby.keep fun k hk => hg.block k (by omega) (fun e => by have := hr k e.symm; omega)⟩, ?_⟩
  refine ⟨hg.os.trans h2.os, hg.tape.trans h2.tape, hg.output.trans h2.output, Nat.le_trans h2.size hg.size, fun k hk hne2 => ?_⟩
  exact (hg.block k (Nat.lt_of_lt_of_le hk h2.size) (fun e => by have := hr k e.symm; omega)).trans (h2.block k hk hne2)
theorem grown_below {w w' : World} (h : Below w.heap.size w w') : w.grownBy w' none := ⟨h.os, h.tape, h.output, h.size, fun k hk _ => h.block k hk⟩
theorem more {w0 w w' : World} {B C : Nat} {l : List Int} {v v' : Value} {x : Int} (hC : C < w0.heap.size) (h : Grow w0 B C l v w) (ho : w'.ownsRow w0.heap.size 3 1 v' (l.length + 1) (icells l ++ [.int .i64 x])) (hg : w.grownBy w' v.ownBlock) : Grow w0 B C (l ++ [x]) v' w' :=
  ⟨by rw [List.length_append, icells_append]; exact ho, drew_grown hC h.2 hg (fun k hk => (h.1.lt k hk).1)⟩
theorem alloc {w0 w : World} {B C : Nat} {l : List Int} {v : Value} (h : Grow w0 B C l v w) (o : Obj) : Grow w0 B C l v (w.alloc o) := ⟨h.1.alloc o, h.2.alloc o⟩
theorem drew {w0 w w' : World} {B C : Nat} {l : List Int} {v : Value} (hC : C < w0.heap.size) (h : Grow w0 B C l v w) (hd : Drew B C w w') : Grow w0 B C l v w' :=
  ⟨h.1.kept hd.2 (.inr (ne_cur hC h.1)), h.2.trans hd⟩
/-- What is drawn: numbers of the call's own, the cursor moved, all else as it was. -/
def Ints (B C : Nat) (ok : List Int → Prop) (w : World) (e : Ending) (w' : World) : Prop :=
  ∃ (l : List Int) (g cap : Nat), e = .returned (.slice (some ⟨g, 0, none⟩) l.length cap) ∧ ok l ∧ w'.ownsRow w.heap.size 3 1 (.slice (some ⟨g, 0, none⟩) l.length cap) l.length (icells l) ∧ Drew B C w w'
/-- Small atoms. -/
def Small (l : List Int) : Prop := ∀ x ∈ l, 0 ≤ x ∧ x < 6
theorem small_more {l : List Int} (h : Small l) {x : Nat} (hx : (x : Int) < 6) : Small (l ++ [(x : Int)]) := by
  intro y hy
  rw [List.mem_append] at hy
  rcases hy with hy | hy
  · exact h y hy
  · simp at hy; omega
theorem small_ins {l : List Int} (h : Small l) {x : Nat} (hx : (x : Int) < 6) : Small (insL l (x : Int)) := by
  intro y hy
  rw [mem_insL] at hy
  rcases hy with rfl | hy
  · omega
  · exact h y hy
end DrawN

set_option maxRecDepth 100000 in
set_option maxHeartbeats 2000000 in
theorem l6Atoms_any (B C : Nat) (n : Nat) (w : World) (hc : Cur w B C) (hn : n ≤ 1000) :
    Calls Try.prog 33 #[.pointer (some ⟨C, 0, none⟩), .int .i64 n] w (DrawN.Ints B C (fun l => l.length = n ∧ DrawN.Small l) w) := by
  obtain ⟨i0, hi0, hz0, hz1, hz2⟩ := info_parts DrawN.int_info
  have HS := Lib.hid hz2
  clear hz2
  have hC := hc.lt
  have hg0 : DrawN.Grow w B C [] (.slice (some ⟨w.heap.size, 0, none⟩) 0 0) (w.alloc (.cells #[] 3)) :=
    ⟨World.ownsRow_lit w #[] 0 (Nat.le_refl _) (by decide) rfl, (Drew.of hc).alloc _⟩
  clear hc
  go_enter Try.func33, Try.ntmps33
  go_wp2
  go_loopw [5, 6] (fun v i wr => ∃ (l : List Int) (g cap : Nat), l.length ≤ n ∧ i = .int .i64 l.length ∧ v = .slice (some ⟨g, 0, none⟩) l.length cap ∧ DrawN.Small l ∧ DrawN.Grow w B C l v wr) (fun _ i _ => n - (intOf i).toNat)
  case atStart => exact ⟨[], _, _, by simp, rfl, rfl, fun x hx => by simp at hx, hg0⟩
  case round =>
    clear hg0
    obtain ⟨l, g, cap, hln, rfl, rfl, hs, hg⟩ := hrel
    have HSM := Lib.hid hs
    by_cases hlt : l.length < n
    · have hbl := l1Below_int B C 6 wr hg.2.1 (by omega) (by omega)
      clear hs
      go_wp2_with fail
      refine hbl.mono ?_
      rintro e w3 ⟨x, hx, rfl, hd3⟩
      have hg3 := DrawN.drew hC hg hd3
      have hga := DrawN.alloc hg3 (.cells #[.int .i64 x] 3)
      have hcell : (w3.alloc (.cells #[.int .i64 x] 3)).cell? ⟨w3.heap.size, 0, none⟩ = some (.int .i64 x) := by simp
      have HC := Lib.hid (DrawN.one_cell hcell)
      clear hbl hg hg3 hd3 hcell
      go_wp2_with (at_builtin; refine wpList_append_own _ rfl (.tmp 13) (.tmp 16) 24 rfl w.heap.size 3 i0 (.int .i64 0) 1 8 Try.underlying24 hi0 hz0 hz1 HS.out rfl (by decide) _ l.length _ rfl hga.1 ⟨w3.heap.size, 0, none⟩ 1 1 [.int .i64 x] rfl rfl HC.out (DrawN.int_one _) ?c3 ?c4 ?c5 ?_)
      case c3 => unfold maxLen; omega
      case c4 => omega
      case c5 => exact hga.2.2.size
      intro v5 w5 ho5 hg5 _
      have hgm := Lib.hid (DrawN.more hC hga ho5 hg5)
      have hln2 : Hid ((l ++ [(x : Int)]).length = l.length + 1) := Lib.hid (by simp)
      have hsm2 : Hid (DrawN.Small (l ++ [(x : Int)])) := Lib.hid (DrawN.small_more HSM.out hx)
      rcases hgm.out.1.2 with ⟨_, h0⟩ | ⟨g5, cap5, cur, rfl, _, _, hcap, _⟩
      · have := hln2.out; omega
      · clear ho5 hg5 hga HC
        go_wp2
        refine ⟨⟨l ++ [(x : Int)], g5, cap5, by rw [hln2.out]; omega, by rw [hln2.out]; go_num, rfl, hsm2.out, hgm.out⟩, ?_⟩
        simp only [intOf]
        omega
    · have e : l.length = n := by omega
      clear hs
      go_wp2
      go_ret
      exact ⟨l, g, cap, rfl, ⟨e, HSM.out⟩, hg.1, hg.2⟩

set_option maxRecDepth 100000 in
set_option maxHeartbeats 2000000 in
theorem l6Few_any (B C : Nat) (n : Nat) (w : World) (hc : Cur w B C) (hn : n ≤ 200) :
    Calls Try.prog 32 #[.pointer (some ⟨C, 0, none⟩), .int .i64 n] w (DrawN.Ints B C (fun l => l.length ≤ n ∧ AscP l ∧ DrawN.Small l) w) := by
  have hC := hc.lt
  have hg0 : DrawN.Grow w B C [] (.slice (some ⟨w.heap.size, 0, none⟩) 0 0) (w.alloc (.cells #[] 3)) :=
    ⟨World.ownsRow_lit w #[] 0 (Nat.le_refl _) (by decide) rfl, (Drew.of hc).alloc _⟩
  clear hc
  have hbl := l1Below_int B C ((n : Int) + 1) _ hg0.2.1 (by omega) (by omega)
  go_enter Try.func32, Try.ntmps32
  go_wp2_with fail
  refine hbl.mono ?_
  rintro e w2 ⟨y, hy, rfl, hd2⟩
  have hg2 := DrawN.drew hC hg0 hd2
  clear hbl hg0 hd2
  go_wp2
  go_loopw [5, 6] (fun v i wr => ∃ (l : List Int) (g cap m : Nat), l.length + m ≤ n ∧ i = .int .i64 m ∧ v = .slice (some ⟨g, 0, none⟩) l.length cap ∧ AscP l ∧ DrawN.Small l ∧ DrawN.Grow w B C l v wr) (fun _ i _ => (intOf i).toNat)
  case atStart => exact ⟨[], _, _, y, by simp; omega, rfl, rfl, List.Pairwise.nil, fun x hx => by simp at hx, hg2⟩
  case round =>
    clear hg2
    obtain ⟨l, g, cap, m, hln, rfl, rfl, ha, hs, hg⟩ := hrel
    have HSM := Lib.hid hs
    have HAS := Lib.hid ha
    clear hs ha
    by_cases hlt : m = 0
    · subst hlt
      go_wp2
      go_ret
      exact ⟨l, g, cap, rfl, ⟨by omega, HAS.out, HSM.out⟩, hg.1, hg.2⟩
    · obtain ⟨j, rfl⟩ : ∃ j, m = j + 1 := ⟨m - 1, by omega⟩
      have hbl := l1Below_int B C 6 wr hg.2.1 (by omega) (by omega)
      clear hlt
      go_wp2_with fail
      refine hbl.mono ?_
      rintro e w3 ⟨x, hx, rfl, hd3⟩
      have hg3 := DrawN.drew hC hg hd3
      have hcap : l.length ≤ cap := by
        rcases hg3.1.2 with ⟨e1, _⟩ | ⟨g', cap', cur, e1, _, _, hcp, _⟩
        · simp at e1
        · simp only [Value.slice.injEq, Option.some.injEq, Addr.mk.injEq, and_true, true_and] at e1
          omega
      have hins := l1Insert_any w.heap.size g cap l (x : Int) w3 hg3.1 hcap (by omega) HAS.out
      clear hbl hg hd3 hcap
      go_wp2_with fail
      refine hins.mono ?_
      rintro e w4 ⟨g4, cap4, rfl, ho4, hb4⟩
      have hg4 : Hid (DrawN.Grow w B C (insL l (x : Int)) (.slice (some ⟨g4, 0, none⟩) (insL l (x : Int)).length cap4) w4) := Lib.hid ⟨ho4, DrawN.drew_grown hC hg3.2 (DrawN.grown_below hb4) (fun k hk => by cases hk)⟩
      have hl4 := DrawN.insL_len l (x : Int)
      have ha4 := Lib.hid (asc_insL l (x : Int) HAS.out)
      have hs4 := Lib.hid (DrawN.small_ins HSM.out hx)
      clear hins hg3 ho4 hb4
      go_wp2
      refine ⟨⟨insL l (x : Int), g4, cap4, j, by omega, by go_num, rfl, ha4.out, hs4.out, hg4.out⟩, ?_⟩
      simp only [intOf]
      omega
end Go.Proofs.Ytnamlgacjhnpnaa
end

section
namespace Go.Proofs.Ytnamlgacjhnpnaa
open Go.RowKit Go.Sort
set_option linter.unusedVariables false

namespace DrawN
/-- Two lists that are short. -/
def Two (w : World) (e : Ending) (w' : World) : Prop :=
  ∃ (l t : List Int) (A B : Option Addr) (c d : Nat), e = .returned (.tuple #[.slice A l.length c, .slice B t.length d]) ∧ l.length ≤ 10 ∧ t.length ≤ 10 ∧ IntsAt w' A l ∧ (A = none → c = 0) ∧ IntsAt w' B t ∧ Below w.heap.size w w'
theorem ownZ {w : World} {base size n len d : Nat} {e : TypeId} {B : Option Addr} {xs : List Value} (h : w.ownsRow base e size (.slice B n d) len xs) : B = none → d = 0 := by
  rintro rfl
  rcases h.2 with ⟨e1, _⟩ | ⟨g, cap, cur, e1, _⟩
  · injection e1
  · cases e1
theorem two_of {w w' : World} {b1 b2 n1 n2 : Nat} {l t : List Int} {v u : Value} (h1 : w'.ownsRow b1 3 1 v n1 (icells l)) (h2 : w'.ownsRow b2 3 1 u n2 (icells t)) (e1 : n1 = l.length) (e2 : n2 = t.length) (hl : l.length ≤ 10) (ht : t.length ≤ 10) (hb : Below w.heap.size w w') : Two w (.returned (.tuple #[v, u])) w' := by
  subst e1; subst e2
  obtain ⟨A, c, rfl, hA⟩ := own_intsAt h1
  obtain ⟨B, d, rfl, hB⟩ := own_intsAt h2
  exact ⟨l, t, A, B, c, d, rfl, hl, ht, hA, ownZ h1, hB, hb⟩
theorem apart {w w' : World} {b1 b2 n1 n2 : Nat} {x y : List Value} {v u : Value} (h1 : w.ownsRow b1 3 1 v n1 x) (h2 : w'.ownsRow b2 3 1 u n2 y) (hb : w.heap.size ≤ b2) : u.ownBlock = none ∨ u.ownBlock ≠ v.ownBlock := by
  cases hu : u.ownBlock with
  | none => exact .inl rfl
  | some k =>
    refine .inr fun e => ?_
    have hk := (h1.lt k e.symm).2
    have hj := (h2.lt k hu).1
    omega
end DrawN

set_option maxRecDepth 100000 in
set_option maxHeartbeats 2000000 in
theorem drawPatternOf_any (A : Option Addr) (n c : Nat) (w : World) (hA : BytesIn w A n) (hn : n ≤ 1048576) :
    Calls Try.prog 10 #[.slice A n c] w (DrawN.Two w) := by
  obtain ⟨i0, hi0, hz0, hz1, hz2⟩ := info_parts DrawN.int_info
  have HS := Lib.hid hz2
  clear hz2
  have hnew := l1New_any A n c w hA hn
  clear hA
  go_enter Try.func10, Try.ntmps10
  go_wp2_with fail
  refine hnew.mono ?_
  rintro e w1 ⟨C, rfl, hc1, hb1⟩
  have hC1 := hc1.lt
  have hBC := DrawN.cur_base hc1
  have hfew := l6Few_any w.heap.size C 3 w1 hc1 (by omega)
  clear hnew hc1
  go_wp2_with fail
  refine hfew.mono ?_
  rintro e w2 ⟨l, g1, p1, rfl, ⟨hl, _, _⟩, ho1, hd2⟩
  have hbl := l1Below_int w.heap.size C 5 w2 hd2.1 (by omega) (by omega)
  clear hfew
  go_wp2_with fail
  refine hbl.mono ?_
  rintro e w3 ⟨y, hy, rfl, hd3⟩
  have hC3 := hd3.1.lt
  have hat := l6Atoms_any w.heap.size C y w3 hd3.1 (by omega)
  clear hbl
  go_wp2_with fail
  refine hat.mono ?_
  rintro e w4 ⟨t, g2, p2, rfl, ⟨ht, _⟩, ho2, hd4⟩
  have ht5 : t.length ≤ 4 := by omega
  clear ht
  have hb10 := l1Below_int w.heap.size C 10 w4 hd4.1 (by omega) (by omega)
  clear hat
  go_wp2_with fail
  refine hb10.mono ?_
  rintro e w5 ⟨k, hk, rfl, hd5⟩
  have ne1 := DrawN.ne_cur hC1 ho1
  have ne2 := DrawN.ne_cur hC3 ho2
  have hol := ((ho1.kept hd3.2 (.inr ne1)).kept hd4.2 (.inr ne1)).kept hd5.2 (.inr ne1)
  have hot := ho2.kept hd5.2 (.inr ne2)
  have hD := ((hd2.trans hd3).trans hd4).trans hd5
  have h23 : w2.heap.size ≤ w3.heap.size := hd3.2.size
  have hap := DrawN.apart ho1 ho2 h23
  have hap1 : (Value.slice (some ⟨g1, 0, none⟩) l.length p1).ownBlock = none ∨ (Value.slice (some ⟨g1, 0, none⟩) l.length p1).ownBlock ≠ (Value.slice (some ⟨g2, 0, none⟩) t.length p2).ownBlock := by
    rcases hap with h | h
    · simp [Value.ownBlock] at h
    · exact .inr (fun e => h e.symm)
  have hb5 : Below w.heap.size w w5 := hb1.grown hD.2 hb1.size (fun k hk => by injection hk with hk; omega)
  have hs15 := hD.2.size
  have hs35 := (hd4.trans hd5).2.size
  have hc5 := hd5.1
  clear hb10 ho1 ho2 hd2 hd3 hd4 hd5 hD hap hb1
  by_cases h0 : k = 0
  · subst h0
    have hod := l1Odd_any w.heap.size C w5 hc5
    go_wp2_with fail
    refine hod.mono ?_
    rintro e w6 ⟨x, rfl, hd6⟩
    have hl6 := (hol.kept hd6.2 (.inr ne1)).alloc (.cells #[.int .i64 x] 3)
    have ht6 := (hot.kept hd6.2 (.inr ne2)).alloc (.cells #[.int .i64 x] 3)
    have hb6 : Below w.heap.size w w6 := hb5.grown hd6.2 hb5.size (fun k hk => by injection hk with hk; omega)
    have hb7 := hb6.alloc hb6.size (.cells #[.int .i64 x] 3)
    have hs6 := hd6.2.size
    have hcell : (w6.alloc (.cells #[.int .i64 x] 3)).cell? ⟨w6.heap.size, 0, none⟩ = some (.int .i64 x) := by simp
    have HC := Lib.hid (DrawN.one_cell hcell)
    clear hod hol hot hb5 hb6 hd6 hc5 hcell
    go_wp2_with (at_builtin; refine wpList_append_own _ rfl (.tmp 19) (.tmp 22) 24 rfl w1.heap.size 3 i0 (.int .i64 0) 1 8 Try.underlying24 hi0 hz0 hz1 HS.out rfl (by decide) _ l.length _ rfl hl6 ⟨w6.heap.size, 0, none⟩ 1 1 [.int .i64 x] rfl rfl HC.out (DrawN.int_one _) ?c3 ?c4 ?c5 ?_)
    case c3 => unfold maxLen; omega
    case c4 => omega
    case c5 => simp; omega
    intro v7 w7 ho7 hg7 _
    have ht7 := ht6.kept hg7 (hap1.elim (fun h => by simp [Value.ownBlock] at h) (fun h => .inr fun e => h e.symm))
    have hb8 := below_own hb7 hl6 (by omega) hb7.size hg7
    have hpost := Lib.hid (DrawN.two_of (l := l ++ [x]) (t := t) (by rw [icells_append]; exact ho7) ht7 (by simp) rfl (by simp; omega) (by omega) hb8)
    clear ho7 ht7 hb7 hb8 hg7 hl6 ht6 HC
    go_wp2
    exact bodyPost_ret (by simp [results, Try.results10, go_sem]) rfl hpost.out
  · by_cases h1 : k = 1
    · have hk1 : (k : Int) = 1 := by omega
      rw [hk1]
      clear h1 hk1
      have hod := l1Odd_any w.heap.size C w5 hc5
      go_wp2_with fail
      refine hod.mono ?_
      rintro e w6 ⟨x, rfl, hd6⟩
      have hl6 := (hol.kept hd6.2 (.inr ne1)).alloc (.cells #[.int .i64 x] 3)
      have ht6 := (hot.kept hd6.2 (.inr ne2)).alloc (.cells #[.int .i64 x] 3)
      have hb6 : Below w.heap.size w w6 := hb5.grown hd6.2 hb5.size (fun k hk => by injection hk with hk; omega)
      have hb7 := hb6.alloc hb6.size (.cells #[.int .i64 x] 3)
      have hs6 := hd6.2.size
      have hcell : (w6.alloc (.cells #[.int .i64 x] 3)).cell? ⟨w6.heap.size, 0, none⟩ = some (.int .i64 x) := by simp
      have HC := Lib.hid (DrawN.one_cell hcell)
      clear hod hol hot hb5 hb6 hd6 hc5 hcell h0
      go_wp2_with (at_builtin; refine wpList_append_own _ rfl (.tmp 26) (.tmp 29) 24 rfl w3.heap.size 3 i0 (.int .i64 0) 1 8 Try.underlying24 hi0 hz0 hz1 HS.out rfl (by decide) _ t.length _ rfl ht6 ⟨w6.heap.size, 0, none⟩ 1 1 [.int .i64 x] rfl rfl HC.out (DrawN.int_one _) ?c3 ?c4 ?c5 ?_)
      case c3 => unfold maxLen; omega
      case c4 => omega
      case c5 => simp; omega
      intro v7 w7 ho7 hg7 _
      have hl7 := hl6.kept hg7 hap1
      have hb8 := below_own hb7 ht6 (by omega) hb7.size hg7
      have hpost := Lib.hid (DrawN.two_of (l := l) (t := t ++ [x]) hl7 (by rw [icells_append]; exact ho7) rfl (by simp) (by omega) (by simp; omega) hb8)
      clear ho7 hl7 hb7 hb8 hg7 hl6 ht6 HC
      go_wp2
      exact bodyPost_ret (by simp [results, Try.results10, go_sem]) rfl hpost.out
    · have e0 : decide ((k : Int) = 0) = false := by simp; omega
      have e1 : decide ((k : Int) = 1) = false := by simp; omega
      have b0 : ((k : Int) == 0) = false := by simp; omega
      have b1 : ((k : Int) == 1) = false := by simp; omega
      have hpost := Lib.hid (DrawN.two_of (l := l) (t := t) hol hot rfl rfl (by omega) (by omega) hb5)
      clear hol hot hb5
      go_wp2
      exact bodyPost_ret (by simp [results, Try.results10, go_sem]) rfl hpost.out
end Go.Proofs.Ytnamlgacjhnpnaa
end

section
namespace Go.Proofs.Ytnamlgacjhnpnaa
open Go.RowKit
set_option linter.unusedVariables false

/-- Whether all are atoms. -/
def atomsB (l : List Int) : Bool := l.all atomB
/-- Whether each is less than the next one. -/
def ascB (l : List Int) : Bool := (List.range l.length).all fun i => decide (i = 0) || decide (itAt l (i - 1) < itAt l i)
def constB (l : List Int) : Bool := decide (l.length ≤ 3) && (atomsB l && ascB l)
def tupB (l : List Int) : Bool := decide (l.length ≤ 4) && atomsB l

theorem atomsB_no {l : List Int} {k : Nat} (hk : k < l.length) (h : atomB (itAt l k) = false) : atomsB l = false := by
  cases hh : atomsB l with
  | false => rfl
  | true =>
    unfold atomsB at hh
    rw [List.all_eq_true] at hh
    have := hh l[k] (List.getElem_mem hk)
    rw [← itAt_get l k hk, h] at this
    cases this
theorem atomsB_yes {l : List Int} (h : ∀ k, k < l.length → atomB (itAt l k) = true) : atomsB l = true := by
  unfold atomsB
  rw [List.all_eq_true]
  intro a ha
  obtain ⟨k, hk, rfl⟩ := List.getElem_of_mem ha
  rw [← itAt_get l k hk]
  exact h k hk
theorem ascB_no {l : List Int} {k : Nat} (hk : k < l.length) (h0 : 0 < k) (h : ¬ itAt l (k - 1) < itAt l k) : ascB l = false := by
  cases hh : ascB l with
  | false => rfl
  | true =>
    unfold ascB at hh
    rw [List.all_eq_true] at hh
    have := hh k (List.mem_range.2 hk)
    simp only [Bool.or_eq_true, decide_eq_true_eq] at this
    rcases this with h1 | h1
    · omega
    · exact absurd h1 h
theorem ascB_yes {l : List Int} (h : ∀ k, 0 < k → k < l.length → itAt l (k - 1) < itAt l k) : ascB l = true := by
  unfold ascB
  rw [List.all_eq_true]
  intro k hk
  rw [List.mem_range] at hk
  simp only [Bool.or_eq_true, decide_eq_true_eq]
  rcases Nat.eq_zero_or_pos k with h0 | h0
  · exact .inl h0
  · exact .inr (h k h0 hk)
theorem ascB_at {l : List Int} (h : ascB l = true) {k : Nat} (h0 : 0 < k) (hk : k < l.length) : itAt l (k - 1) < itAt l k := by
  unfold ascB at h
  rw [List.all_eq_true] at h
  have := h k (List.mem_range.2 hk)
  simp only [Bool.or_eq_true, decide_eq_true_eq] at this
  rcases this with h1 | h1
  · omega
  · exact h1
theorem asc_lt {l : List Int} (h : ascB l = true) : ∀ (j i : Nat), i < j → j < l.length → itAt l i < itAt l j
  | 0, i, hi, _ => by omega
  | j + 1, i, hi, hj => by
    have h1 := ascB_at h (k := j + 1) (by omega) hj
    rw [Nat.add_sub_cancel] at h1
    rcases Nat.lt_or_ge i j with h2 | h2
    · have := asc_lt h j i h2 (by omega)
      omega
    · have e : i = j := by omega
      rw [e]; exact h1
theorem asc_nodup {l : List Int} (h : ascB l = true) : l.Nodup := by
  rw [List.nodup_iff_pairwise_ne, List.pairwise_iff_getElem]
  intro i j hi hj hij e
  have := asc_lt h j i hij hj
  rw [itAt_get l i hi, itAt_get l j hj, e] at this
  omega
theorem const_nodup {l : List Int} (h : constB l = true) : l.Nodup := by
  unfold constB at h
  simp only [Bool.and_eq_true] at h
  exact asc_nodup h.2.2

/-- One atom more: what has been seen, and the pattern so far. -/
def patStep (s : List Int × List Int) (a : Int) : List Int × List Int := (if hasB s.1 a then s.1 else s.1 ++ [a], s.2 ++ [((s.1.idxOf a : Nat) : Int)])
def patF (cs xs : List Int) : List Int × List Int := xs.foldl patStep (cs, [])
/-- The pattern of a tuple. -/
def patL (cs xs : List Int) : List Int := (patF cs xs).2
def seenL (cs xs : List Int) : List Int := (patF cs xs).1

theorem patF_next {cs xs : List Int} {k : Nat} (h : k < xs.length) : patF cs (xs.take (k + 1)) = patStep (patF cs (xs.take k)) (itAt xs k) := by
  rw [itake_next h]
  unfold patF
  rw [List.foldl_append]
  rfl
theorem patF_len (cs : List Int) : ∀ (xs : List Int) (s : List Int × List Int), (xs.foldl patStep s).2.length = s.2.length + xs.length ∧ (xs.foldl patStep s).1.length ≤ s.1.length + xs.length
  | [], s => by simp
  | a :: r, s => by
    obtain ⟨h1, h2⟩ := patF_len cs r (patStep s a)
    rw [List.foldl_cons, h1]
    refine ⟨by simp [patStep]; omega, ?_⟩
    refine Nat.le_trans h2 ?_
    unfold patStep
    dsimp only
    split <;> simp <;> omega
theorem patL_len (cs xs : List Int) : (patL cs xs).length = xs.length := by
  have := (patF_len cs xs (cs, [])).1
  simpa [patL, patF] using this
theorem seenL_len (cs xs : List Int) : (seenL cs xs).length ≤ cs.length + xs.length := (patF_len cs xs (cs, [])).2
theorem patL_next {cs xs : List Int} {k : Nat} (h : k < xs.length) : patL cs (xs.take (k + 1)) = patL cs (xs.take k) ++ [(((seenL cs (xs.take k)).idxOf (itAt xs k) : Nat) : Int)] := by
  unfold patL seenL
  rw [patF_next h]
  rfl
theorem seenL_in {cs xs : List Int} {k : Nat} (h : k < xs.length) (hs : hasB (seenL cs (xs.take k)) (itAt xs k) = true) : seenL cs (xs.take (k + 1)) = seenL cs (xs.take k) := by
  unfold seenL at hs ⊢
  rw [patF_next h]
  unfold patStep
  simp only [hs, if_true]
theorem seenL_out {cs xs : List Int} {k : Nat} (h : k < xs.length) (hs : hasB (seenL cs (xs.take k)) (itAt xs k) = false) : seenL cs (xs.take (k + 1)) = seenL cs (xs.take k) ++ [itAt xs k] := by
  unfold seenL at hs ⊢
  rw [patF_next h]
  unfold patStep
  simp [hs]
theorem hasB_mem {l : List Int} {a : Int} : hasB l a = true ↔ a ∈ l := by unfold hasB; exact List.contains_iff_mem
theorem hasB_not {l : List Int} {a : Int} : hasB l a = false ↔ a ∉ l := by
  constructor
  · intro h hm; rw [hasB_mem.2 hm] at h; cases h
  · intro h
    cases hh : hasB l a with
    | false => rfl
    | true => exact absurd (hasB_mem.1 hh) h
theorem idx_out {l : List Int} {a : Int} (h : hasB l a = false) : l.idxOf a = l.length := List.idxOf_eq_length (hasB_not.1 h)
theorem idx_in {l : List Int} {a : Int} (h : hasB l a = true) : l.idxOf a < l.length := List.idxOf_lt_length_iff.2 (hasB_mem.1 h)
theorem idx_at {l : List Int} {a : Int} (h : hasB l a = true) : itAt l (l.idxOf a) = a := by
  rw [itAt_get _ _ (idx_in h)]
  exact List.getElem_idxOf (idx_in h)
/-- The first place at which it is. -/
theorem idx_first {l : List Int} {a : Int} {k : Nat} (hk : k < l.length) (e : itAt l k = a) (hn : ∀ j, j < k → itAt l j ≠ a) : l.idxOf a = k ∧ hasB l a = true := by
  have hm : hasB l a = true := by rw [hasB_mem, ← e, itAt_get l k hk]; exact List.getElem_mem hk
  refine ⟨?_, hm⟩
  rcases Nat.lt_trichotomy (l.idxOf a) k with h1 | h1 | h1
  · exact absurd (idx_at hm) (hn _ h1)
  · exact h1
  · exfalso
    have h2 := List.not_of_lt_findIdx (p := fun x => x == a) (xs := l) (i := k) h1
    rw [itAt_get l k hk] at e
    simp [e] at h2
theorem idx_none {l : List Int} {a : Int} (hn : ∀ j, j < l.length → itAt l j ≠ a) : hasB l a = false := by
  rw [hasB_not]
  intro hm
  obtain ⟨k, hk, e⟩ := List.getElem_of_mem hm
  exact hn k hk (by rw [itAt_get l k hk]; exact e)

theorem seen_nodup {cs : List Int} (h : cs.Nodup) (xs : List Int) : (seenL cs xs).Nodup := by
  have : ∀ (ys : List Int) (s : List Int × List Int), s.1.Nodup → (ys.foldl patStep s).1.Nodup := by
    intro ys
    induction ys with
    | nil => intro s hs; exact hs
    | cons a r ih =>
      intro s hs
      rw [List.foldl_cons]
      refine ih _ ?_
      unfold patStep
      dsimp only
      cases ha : hasB s.1 a with
      | true => simpa using hs
      | false =>
        simp only [Bool.false_eq_true, if_false]
        rw [List.nodup_append]
        exact ⟨hs, by simp, fun x hx y hy e => by simp at hy; subst hy; exact hasB_not.1 ha (e ▸ hx)⟩
  exact this xs (cs, []) h

/-- The last place up to a bound at which it is. -/
def lastK (l : List Int) (a : Int) : Nat → Int
  | 0 => -1
  | k + 1 => if itAt l k = a then (k : Int) else lastK l a k
theorem lastK_same (l : List Int) (a : Int) {k : Nat} (e : itAt l k = a) : lastK l a (k + 1) = k := by rw [lastK, if_pos e]
theorem lastK_other (l : List Int) (a : Int) {k : Nat} (e : ¬ itAt l k = a) : lastK l a (k + 1) = lastK l a k := by rw [lastK, if_neg e]
theorem lastK_none {l : List Int} {a : Int} : ∀ {k : Nat}, (∀ j, j < k → itAt l j ≠ a) → lastK l a k = -1
  | 0, _ => rfl
  | k + 1, h => by rw [lastK, if_neg (h k (by omega)), lastK_none fun j hj => h j (by omega)]
theorem lastK_some {l : List Int} {a : Int} {i : Nat} : ∀ {k : Nat}, i < k → itAt l i = a → (∀ j, j < k → j ≠ i → itAt l j ≠ a) → lastK l a k = i
  | 0, h, _, _ => by omega
  | k + 1, h, e, hn => by
    rw [lastK]
    rcases Nat.lt_or_ge i k with h1 | h1
    · rw [if_neg (hn k (by omega) (by omega)), lastK_some h1 e fun j hj hne => hn j (by omega) hne]
    · have : i = k := by omega
      subst this
      rw [if_pos e]
theorem lastK_out {l : List Int} {a : Int} (h : hasB l a = false) : lastK l a l.length = -1 :=
  lastK_none fun j hj e => hasB_not.1 h (by rw [← e, itAt_get l j hj]; exact List.getElem_mem hj)
theorem lastK_in {l : List Int} {a : Int} (hd : l.Nodup) (h : hasB l a = true) : lastK l a l.length = (l.idxOf a : Nat) := by
  refine lastK_some (idx_in h) (idx_at h) fun j hj hne e => hne ?_
  rw [List.nodup_iff_pairwise_ne, List.pairwise_iff_getElem] at hd
  have h1 := idx_at h
  rw [itAt_get _ _ (idx_in h)] at h1
  rw [itAt_get _ _ hj] at e
  rcases Nat.lt_trichotomy j (l.idxOf a) with h2 | h2 | h2
  · exact absurd (e.trans h1.symm) (hd j _ hj (idx_in h) h2)
  · exact h2
  · exact absurd (h1.trans e.symm) (hd _ j (idx_in h) hj h2)
theorem lastK_ge (l : List Int) (a : Int) : ∀ k : Nat, -1 ≤ lastK l a k ∧ lastK l a k < k
  | 0 => by simp [lastK]
  | k + 1 => by
    have := lastK_ge l a k
    rw [lastK]
    split <;> omega
end Go.Proofs.Ytnamlgacjhnpnaa
end

