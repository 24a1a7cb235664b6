/-
  The law's own copies of an argument: its size is counted, each pair is copied, as contracts. Numbering the cells of a list of pairs, and looking whether they are still numbered so, as contracts. Numbering the cells of terms, and looking whether they are still numbered so, as contracts.
-/
import Derived.Test.YtnnebndcjjdhoaaKPathsOf1
import Derived.WalkLawsBesides
import Derived.WalkSpells
section
namespace Go.Proofs.Ytnnebndcjjdhoaa
open Go.RowKit

theorem sz_yes (A : Option Addr) (n c : Nat) (left : Int) (w : World) (hn : n ≤ 1099511627776) (h1 : left ≤ 1099511627776) (h2 : (n : Int) ≤ left) :
    Calls Try.prog 13 #[.slice A n c, .int .i64 left] w fun e w' => e = .returned (.int .i64 (left - n)) ∧ w = w' := by
  have k0 : ¬ left - (n : Int) < 0 := by omega
  go_enter Try.func13, Try.ntmps13
  go_wp2
  go_ret
  exact ⟨rfl, rfl⟩

theorem sz_no (A : Option Addr) (n c : Nat) (left : Int) (w : World) (hn : n ≤ 9223372036854775807) (h0 : 0 ≤ left) (h1 : left ≤ 1099511627776) (h2 : left < (n : Int)) :
    Calls Try.prog 13 #[.slice A n c, .int .i64 left] w fun e w' => e = .returned (.int .i64 (-1)) ∧ w = w' := by
  have k0 : left - (n : Int) < 0 := by omega
  go_enter Try.func13, Try.ntmps13
  go_wp2
  go_ret
  exact ⟨rfl, rfl⟩

theorem toPair_any (a b : Int) (w : World) :
    Calls Try.prog 31 #[.agg #[.int .i64 a, .int .i64 b]] w
      fun e w' => e = .returned (.agg #[.int .i64 a, .int .i64 b]) ∧ Below w.heap.size w w' := by
  go_enter Try.func31, Try.ntmps31
  go_wp2
  refine bodyPost_ret (v := .agg #[.int .i64 a, .int .i64 b]) (by simp [results, Try.results31, go_sem]) rfl ⟨rfl, ?_⟩
  repeat (first | exact Below.refl _ _ | refine Below.setCell ?_ (by simp) _ | refine Below.alloc ?_ (by first | exact Nat.le_refl _ | (simp; done) | (simp; omega)) _)

theorem pair_info : (Try.prog.info? 56).map (fun i => (i.zero, i.size, i.bytes)) = some (some (.agg #[.int .i64 0, .int .i64 0]), 2, 16) := by kernel_rfl

set_option maxHeartbeats 1000000 in
theorem toPairS_any (A : Option Addr) (c : Nat) (l : List (Int × Int)) (w : World) (hA : PairsAt w A l) (hl : l.length ≤ 1099511627776) :
    Calls Try.prog 17 #[.slice A l.length c] w (NewPairs l w) := by
  obtain ⟨i0, hi0, hz0, hz1, hz2⟩ := info_parts pair_info
  have HS := Lib.hid hz2
  clear hz2
  go_enter Try.func17, Try.ntmps17
  go_wp2_with (at_make; refine wpList_make_full _ rfl (.tmp 6) (.tmp 6) 29 rfl w.heap.size 56 i0 _ 2 Try.underlying29 hi0 hz0 hz1 .i64 .i64 _ _ l.length rfl rfl rfl rfl ?c1 ?c2 (Nat.le_refl _) ?_)
  case c1 => rw [HS.out]; omega
  case c2 => unfold maxLen; omega
  intro w1 ho hg
  have hb0 := (Below.refl w.heap.size w).grown hg (Nat.le_refl _) (fun k hk => by cases hk)
  clear hg
  generalize hz : (madeCells #[Value.int IntKind.i64 0, Value.int IntKind.i64 0] (l.length * 2)).toList = zs at ho
  have hzl : Hid (zs.length = l.length * 2) := Lib.hid ho.1
  clear hz
  have hlt0 : w.heap.size < w1.heap.size := (ho.lt w.heap.size rfl).2
  go_wp2
  go_loopw [4] (fun i wr => ∃ k : Nat, k ≤ l.length ∧ i = .int .i64 k ∧ wr.ownsRow w.heap.size 56 2 (.slice (some ⟨w.heap.size, 0, none⟩) l.length l.length) l.length (mixTo (cellsOf l) zs (k * 2)) ∧ Below w.heap.size w wr) (fun i _ => l.length - (intOf i).toNat)
  case atStart => exact ⟨0, Nat.zero_le _, rfl, by rw [Nat.zero_mul, mixTo_zero]; exact ho, hb0⟩
  case round =>
    obtain ⟨k, hk, rfl, ho1, hb⟩ := hrel
    by_cases hlt : k < l.length
    · obtain ⟨b1, o1, rfl, hb1, hc1⟩ := hA (by omega)
      obtain ⟨c1, c2⟩ := hc1 k hlt
      rw [← hb.cell (p := ⟨b1, _, none⟩) hb1] at c1 c2
      clear hc1 hA
      go_wp2_with fail
      refine (toPair_any _ _ _).mono ?_
      rintro e w2 ⟨rfl, hb2⟩
      have ho2 := own_below ho1 hb2
      have hb3 := hb.trans (hb2.mono hb.size)
      have hml : (mixTo (cellsOf l) zs (k * 2)).length = l.length * 2 := by rw [mixTo_len _ _ _ (by rw [cellsOf_len, hzl.out]), hzl.out]
      obtain ⟨v0, e0⟩ := some_of_lt (mixTo (cellsOf l) zs (k * 2)) (k * 2) (by omega)
      obtain ⟨v1, e1⟩ := some_of_lt (mixTo (cellsOf l) zs (k * 2)) (k * 2 + 1) (by omega)
      have d0 := (ho2.cellAt (k * 2) (by omega)).trans e0
      have d1 := (ho2.cellAt (k * 2 + 1) (by omega)).trans e1
      have f0 := ho2.frozenAt (k * 2)
      have f1 := ho2.frozenAt (k * 2 + 1)
      obtain ⟨hs1, hs2⟩ := cellsOf_at l k hlt
      obtain ⟨ho3, hg3⟩ := ho2.stored (k * 2) (.int .i64 (prAt l k).1)
      rw [mixTo_set (by rw [cellsOf_len, hzl.out]) hs1] at ho3
      obtain ⟨ho4, hg4⟩ := ho3.stored (k * 2 + 1) (.int .i64 (prAt l k).2)
      rw [mixTo_set (by rw [cellsOf_len, hzl.out]) hs2, show k * 2 + 1 + 1 = (k + 1) * 2 from by omega] at ho4
      have hb5 : Below w.heap.size w _ := hb3.grown (grownBy_trans hg3 hg4) hb3.size (fun j hj => by injection hj with hj; omega)
      clear ho1 ho2 ho3 hg3 hg4 hb hb2 hb3 e0 e1 hs1 hs2 hml c1 c2
      go_wp2
      refine ⟨⟨k + 1, by omega, by go_num, ho4, hb5⟩, ?_⟩
      simp [intOf]; omega
    · have e : k = l.length := by omega
      subst e
      rw [mixTo_all _ _ _ (cellsOf_len l) hzl.out] at ho1
      go_wp2
      go_ret
      exact ⟨_, rfl, ho1, hb⟩

end Go.Proofs.Ytnnebndcjjdhoaa
end

section
namespace Go.Proofs.Ytnnebndcjjdhoaa
open Go.RowKit

set_option maxHeartbeats 400000 in
theorem markPairS_row (base g n cap : Nat) (xs : List Value) (k : Int) (w : World) (hown : w.ownsRow base 56 2 (.slice (some ⟨g, 0, none⟩) n cap) n xs) (hk0 : 0 ≤ k) (hk1 : k + n * 2 ≤ 9223372036854775807) (hn : n ≤ 9223372036854775807) :
    Calls Try.prog 24 #[.slice (some ⟨g, 0, none⟩) n cap, .int .i64 k] w
      fun e w' => e = .returned (.int .i64 (k + n * 2)) ∧ w'.ownsRow base 56 2 (.slice (some ⟨g, 0, none⟩) n cap) n (marked k (n * 2)) ∧ w.grownBy w' (some g) := by
  have hlen := Lib.hid hown.1
  have hm0 := markTo_zero k xs
  go_enter Try.func24, Try.ntmps24
  go_wp2
  go_loopw [1, 5] (fun kk i wr => ∃ j : Nat, j ≤ n ∧ i = .int .i64 j ∧ kk = .int .i64 (k + j * 2) ∧ wr.ownsRow base 56 2 (.slice (some ⟨g, 0, none⟩) n cap) n (markTo k (j * 2) xs) ∧ w.grownBy wr (some g)) (fun _ i _ => n - (intOf i).toNat)
  case atStart => exact ⟨0, Nat.zero_le _, rfl, by simp, by simpa [hm0] using hown, World.grownBy.refl _ _⟩
  case round =>
    obtain ⟨j, hj, rfl, rfl, ho, hg⟩ := hrel
    have hl2 : (markTo k (j * 2) xs).length = n * 2 := by rw [markTo_len]; exact hlen.out
    by_cases hlt : j < n
    · have c0 := ho.cellAt (j * 2) (by omega)
      have c1 := ho.cellAt (j * 2 + 1) (by omega)
      have f0 := ho.frozenAt (j * 2)
      have f1 := ho.frozenAt (j * 2 + 1)
      rw [markTo_at k _ xs _ (by rw [hlen.out]; omega)] at c0 c1
      obtain ⟨v0, e0⟩ : ∃ v, wr.cell? ⟨g, j * 2, none⟩ = some v := ⟨_, c0⟩
      obtain ⟨v1, e1⟩ : ∃ v, wr.cell? ⟨g, j * 2 + 1, none⟩ = some v := ⟨_, c1⟩
      clear c0 c1
      obtain ⟨ho1, hg1⟩ := ho.stored (j * 2) (.int .i64 (k + j * 2))
      obtain ⟨ho2, hg2⟩ := ho1.stored (j * 2 + 1) (.int .i64 (k + j * 2 + 1))
      have n1 : k + (j : Int) * 2 = k + (j * 2 : Nat) := by omega
      have n2 : k + (j : Int) * 2 + 1 = k + (j * 2 + 1 : Nat) := by omega
      have es : ((markTo k (j * 2) xs).set (j * 2) (.int .i64 (k + j * 2))).set (j * 2 + 1) (.int .i64 (k + j * 2 + 1)) = markTo k ((j + 1) * 2) xs := by
        rw [n2, n1, markTo_set, markTo_set]; congr 1; omega
      rw [es] at ho2
      clear es n1 n2
      have hg3 := grownBy_trans hg (grownBy_trans hg1 hg2)
      clear ho1 hg1 hg2 hg ho hl2
      go_wp2
      refine ⟨⟨j + 1, by omega, by go_num, by go_num, ho2, hg3⟩, ?_⟩
      simp [intOf]; omega
    · have ej : j = n := by omega
      subst ej
      rw [markTo_all k _ xs hlen.out] at ho
      go_wp2
      go_ret
      exact ⟨rfl, ho, hg⟩

theorem markPairS_none (k : Int) (w : World) :
    Calls Try.prog 24 #[.slice none 0 0, .int .i64 k] w fun e w' => e = .returned (.int .i64 k) ∧ w = w' := by
  go_enter Try.func24, Try.ntmps24
  go_wp2
  go_loop [1, 5] (fun kk i => kk = .int .i64 k ∧ i = .int .i64 0) (fun _ _ => 0)
  case atStart => exact ⟨rfl, rfl⟩
  case round =>
    obtain ⟨rfl, rfl⟩ := hrel
    go_wp2
    go_ret
    exact ⟨rfl, rfl⟩

/-- Both, for whatever slice of the call's own. -/
theorem markPairS_own (base n : Nat) (v : Value) (xs : List Value) (k : Int) (w : World) (hown : w.ownsRow base 56 2 v n xs) (hk0 : 0 ≤ k) (hk1 : k + n * 2 ≤ 9223372036854775807) :
    Calls Try.prog 24 #[v, .int .i64 k] w
      fun e w' => e = .returned (.int .i64 (k + n * 2)) ∧ w'.ownsRow base 56 2 v n (marked k (n * 2)) ∧ w.grownBy w' v.ownBlock := by
  rcases hown.2 with ⟨rfl, rfl⟩ | ⟨g, cap, cur, rfl, _⟩
  · refine (markPairS_none k w).mono ?_
    rintro e w' ⟨rfl, rfl⟩
    exact ⟨int_end (by simp), by simpa [marked] using World.ownsRow_nil w base _ 2, World.grownBy.refl _ _⟩
  · exact markPairS_row base g n cap xs k w hown hk0 hk1 (by omega)

end Go.Proofs.Ytnnebndcjjdhoaa
end

section
namespace Go.Proofs.Ytnnebndcjjdhoaa
open Go.RowKit

/-- Of what was there only some blocks have turned. -/
structure Only (S : List Nat) (w w' : World) : Prop where
  os : w'.os = w.os
  tape : w'.tape = w.tape
  output : w'.output = w.output
  size : w.heap.size ≤ w'.heap.size
  block : ∀ k, k < w.heap.size → k ∉ S → w'.heap[k]? = w.heap[k]?

theorem Only.refl (S : List Nat) (w : World) : Only S w w := ⟨rfl, rfl, rfl, Nat.le_refl _, fun _ _ _ => rfl⟩
theorem Only.trans {S : List Nat} {a b c : World} (h : Only S a b) (k : Only S b c) : Only S a c :=
  ⟨k.os.trans h.os, k.tape.trans h.tape, k.output.trans h.output, Nat.le_trans h.size k.size, fun i hi hn => (k.block i (Nat.lt_of_lt_of_le hi h.size) hn).trans (h.block i hi hn)⟩
theorem Only.wide {S T : List Nat} {a b : World} (h : Only S a b) (hs : ∀ k ∈ S, k ∈ T) : Only T a b :=
  ⟨h.os, h.tape, h.output, h.size, fun i hi hn => h.block i hi fun hs' => hn (hs i hs')⟩
theorem Only.of_grown {S : List Nat} {a b : World} {row : Option Nat} (h : a.grownBy b row) (hs : ∀ k, row = some k → k ∈ S) : Only S a b :=
  ⟨h.os, h.tape, h.output, h.size, fun i hi hn => h.block i hi fun e => hn (hs i e.symm)⟩
theorem Only.set {S : List Nat} {a w : World} (h : Only S a w) (p : Addr) (u : Value) (hp : p.block ∈ S) : Only S a (w.setCell p u) := by
  have hb := Below.setCell (Below.refl 0 w) (p := p) (Nat.zero_le _) u
  exact ⟨hb.os.trans h.os, hb.tape.trans h.tape, hb.output.trans h.output, Nat.le_trans h.size hb.size, fun i hi hn => (Below.heap_setCell w p u i (fun e => hn (by rw [e]; exact hp))).trans (h.block i hi hn)⟩
theorem Only.below {S : List Nat} {B : Nat} {a w w' : World} (hb : Below B a w) (h : Only S w w') (hB : B ≤ w.heap.size) (hs : ∀ k ∈ S, B ≤ k) : Below B a w' :=
  ⟨h.os.trans hb.os, h.tape.trans hb.tape, h.output.trans hb.output, Nat.le_trans hb.size h.size, fun k hk => (h.block k (by omega) fun hm => by have := hs k hm; omega).trans (hb.block k hk)⟩

theorem only_of_below {S : List Nat} {w w' : World} (h : Below w.heap.size w w') : Only S w w' := Only.of_grown (grown_of_below h none) (fun k e => by cases e)

/-- Pairs numbered from k on. -/
def mkP (k : Int) : List (Int × Int) → List (Int × Int)
  | [] => []
  | _ :: r => (k, k + 1) :: mkP (k + 2) r

theorem mkP_len : ∀ (p : List (Int × Int)) (k : Int), (mkP k p).length = p.length
  | [], _ => rfl
  | _ :: r, k => by rw [mkP, List.length_cons, List.length_cons, mkP_len r]

theorem marked_split (k : Int) (n : Nat) : marked k (n + 2) = .int .i64 k :: .int .i64 (k + 1) :: marked (k + 2) n := by
  unfold marked
  rw [List.range_succ_eq_map, List.map_cons, List.range_succ_eq_map, List.map_cons, List.map_cons, List.map_map, List.map_map]
  simp only [List.cons.injEq, Value.int.injEq, true_and]
  refine ⟨by simp, by simp, List.map_congr_left fun i _ => ?_⟩
  simp only [Function.comp, Value.int.injEq, true_and]
  omega

theorem cells_mkP : ∀ (p : List (Int × Int)) (k : Int), cellsOf (mkP k p) = marked k (p.length * 2)
  | [], k => by simp [mkP, cellsOf, marked]
  | _ :: r, k => by
    have e : cellsOf ((k, k + 1) :: mkP (k + 2) r) = .int .i64 k :: .int .i64 (k + 1) :: cellsOf (mkP (k + 2) r) := rfl
    rw [mkP, e, cells_mkP r, List.length_cons, show (r.length + 1) * 2 = r.length * 2 + 2 by omega, marked_split]

mutual
/-- How many numbers a term in a list takes. -/
def mcT : Tm → Nat
  | .mk _ _ p ks => 2 + p.length * 2 + mcTs ks
def mcTs : List Tm → Nat
  | [] => 0
  | t :: r => mcT t + mcTs r
end
mutual
/-- Terms numbered from k on. -/
def mkT (k : Int) : Tm → Tm
  | .mk _ _ p ks => .mk k (k + 1) (mkP (k + 1 + 1) p) (mkTs (k + 1 + 1 + p.length * 2) ks)
def mkTs (k : Int) : List Tm → List Tm
  | [] => []
  | t :: r => mkT k t :: mkTs (k + mcT t) r
end

theorem mcT_eq (t : Tm) : mcT t = 2 + t.perm.length * 2 + mcTs t.kids := by cases t; simp [mcT, Tm.perm, Tm.kids]
theorem mkT_eq (k : Int) (t : Tm) : mkT k t = .mk k (k + 1) (mkP (k + 1 + 1) t.perm) (mkTs (k + 1 + 1 + t.perm.length * 2) t.kids) := by cases t; simp [mkT, Tm.perm, Tm.kids]
theorem mcTs_append : ∀ a b : List Tm, mcTs (a ++ b) = mcTs a + mcTs b
  | [], b => by simp [mcTs]
  | t :: r, b => by rw [List.cons_append, mcTs, mcTs, mcTs_append r b]; omega
theorem mcTs_next {ts : List Tm} {k : Nat} (h : k < ts.length) : mcTs (ts.take (k + 1)) = mcTs (ts.take k) + mcT (tmAt ts k) := by
  rw [tm_take_next h, mcTs_append]
  simp [mcTs]
theorem mcTs_take (ts : List Tm) (k : Nat) : mcTs (ts.take k) ≤ mcTs ts := by
  have := mcTs_append (ts.take k) (ts.drop k)
  rw [List.take_append_drop] at this
  omega
theorem mkTs_append : ∀ (a b : List Tm) (k : Int), mkTs k (a ++ b) = mkTs k a ++ mkTs (k + mcTs a) b
  | [], b, k => by simp [mkTs, mcTs]
  | t :: r, b, k => by
    rw [List.cons_append, mkTs, mkTs, mkTs_append r b, mcTs, List.cons_append]
    congr 3
    omega
theorem mkTs_len : ∀ (ts : List Tm) (k : Int), (mkTs k ts).length = ts.length
  | [], _ => by simp [mkTs]
  | t :: r, k => by rw [mkTs, List.length_cons, List.length_cons, mkTs_len r]
theorem mkTs_next {ts : List Tm} {i : Nat} (h : i < ts.length) (k : Int) : mkTs k (ts.take (i + 1)) = mkTs k (ts.take i) ++ [mkT (k + mcTs (ts.take i)) (tmAt ts i)] := by
  rw [tm_take_next h, mkTs_append]
  simp [mkTs]

theorem own_terms {w : World} {S : List Nat} {v : Value} {ts : List Tm} (h : Own w S v (tmsMem ts)) (hp : 0 < ts.length) :
    ∃ g cap xs S', S = g :: S' ∧ v = .slice (some ⟨g, 0, none⟩) ts.length cap ∧ w.ownsRow 0 32 4 (.slice (some ⟨g, 0, none⟩) ts.length cap) ts.length xs ∧ OwnL w S' xs (encTs ts) ∧ g ∉ S' := by
  unfold tmsMem at h
  generalize hm : encTs ts = ms at h
  cases h with
  | nil =>
    have := encTs_len ts
    rw [hm] at this
    simp at this
    omega
  | row hl ho hL hg =>
    subst hm
    rw [encTs_len] at hl
    rename_i g n cap xs S'
    have en : n = ts.length := by omega
    subst en
    exact ⟨g, cap, xs, S', rfl, rfl, ho, hL, hg⟩

theorem own_of_terms {w : World} {ts : List Tm} {g n cap : Nat} {xs : List Value} {S : List Nat} (hn : ts.length = n) (ho : w.ownsRow 0 32 4 (.slice (some ⟨g, 0, none⟩) n cap) n xs) (hL : OwnL w S xs (encTs ts)) (hg : g ∉ S) :
    Own w (g :: S) (.slice (some ⟨g, 0, none⟩) n cap) (tmsMem ts) := by
  subst hn
  exact .row (encTs_len ts) ho hL hg

theorem enc_set (a r : List Tm) (t t' : Tm) : ((((encTs (a ++ t :: r)).set (a.length * 4) (.cell (.int .i64 t'.op))).set (a.length * 4 + 1) (.cell (.int .i64 t'.num))).set (a.length * 4 + 2) (pairMem t'.perm)).set (a.length * 4 + 3) (tmsMem t'.kids) = encTs (a ++ t' :: r) := by
  have e1 : encTs (a ++ t :: r) = encTs a ++ (encT t ++ encTs r) := by rw [encTs_append, encTs]
  have e2 : encTs (a ++ t' :: r) = encTs a ++ (encT t' ++ encTs r) := by rw [encTs_append, encTs]
  have la := encTs_len a
  rw [e1, e2, encT_eq t, encT_eq t']
  rw [List.set_append_right _ _ (by omega), la, Nat.sub_self]
  rw [List.set_append_right _ _ (by omega), la, Nat.add_sub_cancel_left]
  rw [List.set_append_right _ _ (by omega), la, Nat.add_sub_cancel_left]
  rw [List.set_append_right _ _ (by omega), la, Nat.add_sub_cancel_left]
  rfl

/-- The answer, the terms numbered, and nothing else turned. -/
def MarkPost (S : List Nat) (v : Value) (ts : List Tm) (k : Int) (w : World) (e : Ending) (w' : World) : Prop :=
  e = .returned (.int .i64 (k + mcTs ts)) ∧ Own w' S v (tmsMem (mkTs k ts)) ∧ Only S w w'

set_option maxRecDepth 100000 in
set_option maxHeartbeats 4000000 in
theorem markTermS_step (ts : List Tm) (hlen : ts.length ≤ 1048576) (hf : Fits ts) (S : List Nat) (v : Value) (k : Int) (w : World) (hk0 : 0 ≤ k) (hk1 : k + mcTs ts ≤ 9007199254740992) (hown : Own w S v (tmsMem ts))
    (ih : ∀ i, i < ts.length → ∀ (S' : List Nat) (v' : Value) (k' : Int) (w' : World), 0 ≤ k' → k' + mcTs (tmAt ts i).kids ≤ 9007199254740992 → Own w' S' v' (tmsMem (tmAt ts i).kids) → Calls Try.prog 25 #[v', .int .i64 k'] w' (MarkPost S' v' (tmAt ts i).kids k' w')) :
    Calls Try.prog 25 #[v, .int .i64 k] w (MarkPost S v ts k w) := by
  obtain ⟨A, c, rfl⟩ := TmsIn.form (ts := ts) hown.at_
  go_enter Try.func25, Try.ntmps25
  go_wp2
  go_loopw [1, 5] (fun kk i wr => ∃ j : Nat, j ≤ ts.length ∧ i = .int .i64 j ∧ kk = .int .i64 (k + mcTs (ts.take j)) ∧ Own wr S (.slice A ts.length c) (tmsMem (mkTs k (ts.take j) ++ ts.drop j)) ∧ Only S w wr) (fun _ i _ => ts.length - (intOf i).toNat)
  case atStart => exact ⟨0, Nat.zero_le _, rfl, by simp [mcTs], by simpa [mkTs] using hown, Only.refl _ _⟩
  case round =>
    clear hown
    obtain ⟨j, hj, rfl, rfl, ho0, hon⟩ := hrel
    by_cases hlt : j < ts.length
    · have hlen2 : (mkTs k (ts.take j) ++ ts.drop j).length = ts.length := by rw [List.length_append, mkTs_len, List.length_take, List.length_drop]; omega
      have hla : (mkTs k (ts.take j)).length = j := by rw [mkTs_len, List.length_take]; omega
      obtain ⟨g, cap, xs, S', rfl, ev, ho, hL, hg⟩ := own_terms ho0 (by omega)
      rw [hlen2] at ev ho
      simp only [Value.slice.injEq, true_and] at ev
      obtain ⟨rfl, rfl⟩ := ev
      have hdr := tm_drop hlt
      rw [hdr] at hL
      have hnx0 := mkTs_next hlt k
      rw [mkT_eq] at hnx0
      have hnx := Lib.hid hnx0
      clear hnx0
      have hmc := mcTs_next hlt
      have hmt := mcTs_take ts (j + 1)
      have hmq := mcT_eq (tmAt ts j)
      have hft := (fit_eq _).1 (fits_at hf hlt)
      have hih := ih j hlt
      generalize mkTs k (ts.take j) = a at hL hla hnx ho0 hlen2
      generalize tmAt ts j = t at hL hnx hmc hmq hft hih hdr
      generalize hkk : mcTs (ts.take j) = m at hmc hnx
      have he := enc_set a (ts.drop (j + 1)) t (mkT (k + m) t)
      rw [mkT_eq] at he
      simp only [op_mk, num_mk, perm_mk, kids_mk] at he
      rw [hla] at he
      have hat := encTs_parts (ts := a ++ t :: ts.drop (j + 1)) (i := j) (by rw [List.length_append, hla, List.length_cons]; omega)
      have hta : tmAt (a ++ t :: ts.drop (j + 1)) j = t := by
        simp [tmAt, List.getD_eq_getElem?_getD, hla]
      rw [hta] at hat
      have HE := Lib.hid he
      obtain ⟨p0, p1, p2, p3⟩ := hat
      generalize encTs (a ++ t :: ts.drop (j + 1)) = ms at hL p0 p1 p2 p3 HE
      clear he hta hdr ih ho0 hlen2 hkk
      have hml := hL.len
      have hxl := ho.1
      obtain ⟨u0, e0⟩ := some_of_lt xs (j * 4) (by omega)
      obtain ⟨u1, e1⟩ := some_of_lt xs (j * 4 + 1) (by omega)
      have d0 := (ho.cellAt (j * 4) (by omega)).trans e0
      have d1 := (ho.cellAt (j * 4 + 1) (by omega)).trans e1
      have f0 := ho.frozenAt (j * 4)
      have f1 := ho.frozenAt (j * 4 + 1)
      obtain ⟨o1, q1⟩ := ho.stored (j * 4) (.int .i64 (k + m))
      obtain ⟨o2, q2⟩ := o1.stored (j * 4 + 1) (.int .i64 (k + m + 1))
      have hL1 := hL.setCell (j * 4) _ (.int .i64 (k + m)) p0
      have hL2 := hL1.setCell (j * 4 + 1) (.int .i64 t.num) (.int .i64 (k + m + 1)) (by rw [List.getElem?_set_ne (by omega)]; exact p1)
      have hq := grownBy_trans q1 q2
      have hL3 := hL2.alike (w' := (wr.setCell ⟨g, j * 4, none⟩ (.int .i64 (k + m))).setCell ⟨g, j * 4 + 1, none⟩ (.int .i64 (k + m + 1))) (fun b hb => hq.block b (hL.lt b hb) (fun e => hg (by injection e with e; rw [← e]; exact hb)))
      have hon3 : Only (g :: S') w ((wr.setCell ⟨g, j * 4, none⟩ (.int .i64 (k + m))).setCell ⟨g, j * 4 + 1, none⟩ (.int .i64 (k + m + 1))) := (hon.set _ _ List.mem_cons_self).set _ _ List.mem_cons_self
      have hset2 : ((ms.set (j * 4) (Mem.cell (.int .i64 (k + m)))).set (j * 4 + 1) (Mem.cell (.int .i64 (k + m + 1))))[j * 4 + 2]? = some (pairMem t.perm) := by
        rw [List.getElem?_set_ne (by omega), List.getElem?_set_ne (by omega)]; exact p2
      obtain ⟨u2, T2, hu2, hT2, hsub2, hput2⟩ := hL3.focus (j * 4 + 2) (pairMem t.perm) hset2
      have hx2 : xs[j * 4 + 2]? = some u2 := by
        rw [List.getElem?_set_ne (by omega), List.getElem?_set_ne (by omega)] at hu2; exact hu2
      have d2 := (ho.cellAt (j * 4 + 2) (by omega)).trans hx2
      obtain ⟨how2, hTe2⟩ := pairMem_own hT2
      have hmp := markPairS_own 0 t.perm.length u2 _ (k + m + 1 + 1) _ how2 (by omega) (by omega)
      have hsz2 : ((wr.setCell ⟨g, j * 4, none⟩ (.int .i64 (k + m))).setCell ⟨g, j * 4 + 1, none⟩ (.int .i64 (k + m + 1))).heap.size = wr.heap.size := by simp
      have HSZ := Lib.hid hsz2
      have HHU := Lib.hid hu2
      have HSE := Lib.hid hset2
      have HTE := Lib.hid hTe2
      have HNG : g ∉ T2 := fun h => hg (hsub2 g h)
      clear hL hL1 hL2 hon q1 q2 hq o1 ho e0 e1 p0 p1 hT2 how2 hx2 hsz2 hu2 hset2 hTe2 p2
      go_wp2_with fail
      (with_reducible refine hmp.mono ?_)
      rintro e w3 ⟨rfl, how3, hg3⟩
      have hP3 : Own w3 T2 u2 (pairMem (mkP (k + m + 1 + 1) t.perm)) := by
        have h1 := how3
        rw [← cells_mkP, ← mkP_len t.perm (k + m + 1 + 1)] at h1
        obtain ⟨S3, h2, _, h3⟩ := own_pairMem h1
        rw [h3, ← HTE.out] at h2
        exact h2
      have hL4 := hput2 w3 _ (fun b hb hn => hg3.block b (hL3.lt b hb) (fun e => hn (by rw [HTE.out, ← e]; simp))) hP3
      have o3 := o2.kept hg3 (.inr (fun e => HNG (by rw [HTE.out, ← e]; simp [Value.ownBlock])))
      have hon4 := hon3.trans (Only.of_grown (S := g :: S') hg3 (fun b e => List.mem_cons_of_mem _ (hsub2 b (by rw [HTE.out, e]; simp))))
      have hset3 : (((ms.set (j * 4) (Mem.cell (.int .i64 (k + m)))).set (j * 4 + 1) (Mem.cell (.int .i64 (k + m + 1)))).set (j * 4 + 2) (pairMem (mkP (k + m + 1 + 1) t.perm)))[j * 4 + 3]? = some (tmsMem t.kids) := by
        rw [List.getElem?_set_ne (by omega), List.getElem?_set_ne (by omega), List.getElem?_set_ne (by omega)]; exact p3
      obtain ⟨u3, T3, hu3, hT3, hsub3, hput3⟩ := hL4.focus (j * 4 + 3) (tmsMem t.kids) hset3
      have d3 := (o3.cellAt (j * 4 + 3) (by omega)).trans hu3
      have hmk := hih T3 u3 (k + m + 1 + 1 + t.perm.length * 2) w3 (by omega) (by omega) hT3
      have HNG3 : g ∉ T3 := fun h => hg (hsub3 g h)
      clear hmp hput2 hP3 hL3 o2 hon3 how3 hg3 hT3 hu3 hset3 p3 hih HHU HSE d2 f0 f1 d0 d1
      go_wp2_with fail
      (with_reducible refine hmk.mono ?_)
      rintro e w4 ⟨rfl, hP4, hon5⟩
      have hL5 := hput3 w4 _ (fun b hb hn => hon5.block b (hL4.lt b hb) hn) hP4
      rw [HE.out] at hL5
      have o4 := ownsRow_alike o3 (hon5.block g (o3.lt g rfl).2 HNG3)
      have hon6 := hon4.trans (hon5.wide (T := g :: S') (fun b hb => List.mem_cons_of_mem _ (hsub3 b hb)))
      have hown7 : Own w4 (g :: S') (.slice (some ⟨g, 0, none⟩) ts.length c) (tmsMem (mkTs k (ts.take (j + 1)) ++ ts.drop (j + 1))) := by
        rw [hnx.out, List.append_assoc, List.singleton_append]
        exact own_of_terms (by rw [List.length_append, List.length_cons, hla, List.length_drop]; omega) o4 hL5 hg
      have hkk2 : Hid (k + m + 1 + 1 + t.perm.length * 2 + mcTs t.kids = k + mcTs (ts.take (j + 1))) := by show k + m + 1 + 1 + t.perm.length * 2 + mcTs t.kids = k + mcTs (ts.take (j + 1)); omega
      clear hmk hput3 hL4 hL5 o3 o4 hon4 hon5 hP4 hnx hmq hmc hmt HE d3
      go_wp2
      refine ⟨⟨j + 1, by omega, by go_num, by rw [hkk2.out], hown7, hon6⟩, ?_⟩
      simp only [intOf]
      omega
    · have e : j = ts.length := by omega
      subst e
      rw [List.take_length, List.drop_length, List.append_nil] at ho0
      have hpost : MarkPost S (.slice A ts.length c) ts k w (.returned (.int .i64 (k + mcTs (ts.take ts.length)))) wr := ⟨by rw [List.take_length], ho0, hon⟩
      clear ho0 hon ih
      go_wp2
      go_ret
      exact hpost

theorem markTermS_any : ∀ (N : Nat) (ts : List Tm), szTs ts ≤ N → Fits ts → ts.length ≤ 1048576 → ∀ (S : List Nat) (v : Value) (k : Int) (w : World), 0 ≤ k → k + mcTs ts ≤ 9007199254740992 → Own w S v (tmsMem ts) →
    Calls Try.prog 25 #[v, .int .i64 k] w (MarkPost S v ts k w) := by
  intro N
  induction N with
  | zero =>
    intro ts hN hf hlen S v k w h0 h1 ho
    exact markTermS_step ts hlen hf S v k w h0 h1 ho fun i hi => absurd (szTs_kid hi) (by omega)
  | succ N ih =>
    intro ts hN hf hlen S v k w h0 h1 ho
    refine markTermS_step ts hlen hf S v k w h0 h1 ho fun i hi S' v' k' w' g0 g1 hy => ?_
    have h2 := (fit_eq _).1 (fits_at hf hi)
    exact ih _ (by have := szTs_kid hi; omega) h2.2.2 h2.2.1 S' v' k' w' g0 g1 hy

end Go.Proofs.Ytnnebndcjjdhoaa
end

