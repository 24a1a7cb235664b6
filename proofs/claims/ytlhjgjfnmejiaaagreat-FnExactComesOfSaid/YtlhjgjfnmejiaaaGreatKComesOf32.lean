/-
  Elements of contexts put in order, in the model, as contracts. An element put in its place, and two lists joined, in the model: contracts.
-/
import Derived.Test.YtlhjgjfnmejiaaaGreatKComesOf20
import Derived.Test.YtlhjgjfnmejiaaaGreatKComesOf14
import Derived.OwnWalk
import Derived.Maps.AppendAt
namespace Go.Proofs.YtlhjgjfnmejiaaaGreat
section
open Go.RowKit Go.Sort
set_option linter.unusedVariables false

theorem hasF_at {S : List (Int × Int)} {k : Nat} (h : k < S.length) : hasF S (prAt S k) = true := by
  simp [hasF, prAt, h]

theorem hasF_none {S : List (Int × Int)} {x : Int × Int} (h : ∀ j, j < S.length → prAt S j ≠ x) : hasF S x = false := by
  simp only [hasF, decide_eq_false_iff_not]
  intro hm
  obtain ⟨j, hj, e⟩ := List.getElem_of_mem hm
  exact h j hj (by simp [prAt, hj, e])

/-- An element is appended to a row of the call's own. -/
theorem wpList_append_fresh (w : World) {ops : Array Oper} {rest : List Oper} {o : Oper} {a : Act} {Q : Exit → Act → World → Prop}
    (hg : o.guard = none) (s x : Operand) (hop : o.op = Op.call { callee := Callee.builtin Builtin.append, args := #[s, x], argTypes := #[30, 30] })
    (base : Nat) (v : Value) (n : Nat) (Z : List (Int × Int)) (hs : a.eval s = v) (hown : w.ownsRow base 119 2 v n (cellsOf Z)) (g : Nat) (x0 : Int × Int) (hx : a.eval x = .slice (some ⟨g, 0, none⟩) 1 1)
    (hc0 : w.cell? ⟨g, 0, none⟩ = some (.int .i64 x0.1)) (hc1 : w.cell? ⟨g, 1, none⟩ = some (.int .i64 x0.2)) (hlen : n ≤ 1099511627776) (hbase : base ≤ w.heap.size)
    (hK : ∀ g' cap' w', w'.ownsRow base 119 2 (.slice (some ⟨g', 0, none⟩) (n + 1) cap') (n + 1) (cellsOf (Z ++ [x0])) → w.grownBy w' v.ownBlock → wpList Tryz.prog ops Q rest (a.put o.dst (.slice (some ⟨g', 0, none⟩) (n + 1) cap')) w') :
    wpList Tryz.prog ops Q (o :: rest) a w := by
  obtain ⟨i0, hi0, hz0, hz1, hz2⟩ := info_parts fresh_info
  refine wpList_append_own w hg s x 30 hop base 119 i0 _ 2 16 Tryz.underlying30 hi0 hz0 hz1 hz2 rfl (by decide) v n _ hs hown ⟨g, 0, none⟩ 1 1 [.int .i64 x0.1, .int .i64 x0.2] hx rfl (pair_cells hc0 hc1) (pair_one _ _) (by unfold maxLen; omega) (by omega) hbase ?_
  intro v' w' ho hgr _
  have ho' : w'.ownsRow base 119 2 v' (n + 1) (cellsOf (Z ++ [x0])) := by
    rw [cellsOf_append]; exact ho
  have hform : ∃ g' cap', v' = .slice (some ⟨g', 0, none⟩) (n + 1) cap' := by
    rcases ho'.2 with ⟨_, h0⟩ | ⟨g', cap', cur, rfl, _⟩
    · omega
    · exact ⟨g', cap', rfl⟩
  obtain ⟨g', cap', rfl⟩ := hform
  exact hK g' cap' w' ho' hgr

theorem own_len {w : World} {base : Nat} {e : TypeId} {v : Value} {n : Nat} {Z : List (Int × Int)} (h : w.ownsRow base e 2 v n (cellsOf Z)) : n = Z.length := by
  have := h.1
  rw [cellsOf_len] at this
  omega

/-- What has been put out after some elements, and whether the new one has come. -/
def stepF (x : Int × Int) (s : List (Int × Int) × Bool) (y : Int × Int) : List (Int × Int) × Bool :=
  if !s.2 && lessB x y then (s.1 ++ [x] ++ [y], true) else (s.1 ++ [y], s.2)
def foldF (x : Int × Int) (d : Bool) (l : List (Int × Int)) : List (Int × Int) × Bool := l.foldl (stepF x) ([], d)

theorem foldF_snoc (x : Int × Int) (d : Bool) (l : List (Int × Int)) (y : Int × Int) : foldF x d (l ++ [y]) = stepF x (foldF x d l) y := by simp [foldF]

theorem stepFold_true (x : Int × Int) : ∀ (l o : List (Int × Int)), l.foldl (stepF x) (o, true) = (o ++ l, true)
  | [], o => by simp
  | y :: r, o => by
    rw [List.foldl_cons, show stepF x (o, true) y = (o ++ [y], true) by simp [stepF], stepFold_true x r]
    simp

theorem stepFold_false (x : Int × Int) : ∀ (l o : List (Int × Int)), (if (l.foldl (stepF x) (o, false)).2 then (l.foldl (stepF x) (o, false)).1 else (l.foldl (stepF x) (o, false)).1 ++ [x]) = o ++ insF x l
  | [], o => by simp [insF]
  | y :: r, o => by
    rw [List.foldl_cons]
    by_cases h : lessB x y = true
    · rw [show stepF x (o, false) y = (o ++ [x] ++ [y], true) by simp [stepF, h], stepFold_true]
      simp [insF, h]
    · have h' : lessB x y = false := by simpa using h
      rw [show stepF x (o, false) y = (o ++ [y], false) by simp [stepF, h'], stepFold_false x r]
      simp [insF, h']

theorem putF_fold (l : List (Int × Int)) (x : Int × Int) : putF l x = if (foldF x (hasF l x) l).2 then (foldF x (hasF l x) l).1 else (foldF x (hasF l x) l).1 ++ [x] := by
  unfold putF foldF
  by_cases h : hasF l x = true
  · rw [h, stepFold_true]; simp
  · have h' : hasF l x = false := by simpa using h
    rw [h', stepFold_false]; simp

theorem foldF_len (x : Int × Int) (d : Bool) (l : List (Int × Int)) : (foldF x d l).1.length ≤ l.length + (foldF x d l).2.toNat := by
  unfold foldF
  have key : ∀ (l o : List (Int × Int)) (d : Bool) (n : Nat), o.length ≤ n + d.toNat → (l.foldl (stepF x) (o, d)).1.length ≤ n + l.length + (l.foldl (stepF x) (o, d)).2.toNat := by
    intro l
    induction l with
    | nil => intro o d n h; exact h
    | cons y r ih =>
      intro o d n h
      rw [List.foldl_cons, List.length_cons]
      by_cases hc : (!d && lessB x y) = true
      · rw [show stepF x (o, d) y = (o ++ [x] ++ [y], true) by simp [stepF, hc]]
        have hd : d = false := by simp at hc; exact hc.1
        subst hd
        have := ih (o ++ [x] ++ [y]) true (n + 1) (by simp at h ⊢; omega)
        omega
      · rw [show stepF x (o, d) y = (o ++ [y], d) by simp [stepF, hc]]
        have := ih (o ++ [y]) d (n + 1) (by rw [List.length_append, List.length_singleton]; omega)
        omega
  have h := key l [] d 0 (by simp)
  simpa using h
end

section
open Go.RowKit Go.Sort
set_option linter.unusedVariables false

set_option maxRecDepth 100000 in
set_option maxHeartbeats 1000000 in
theorem l3HasF_any (A : Option Addr) (c : Nat) (l : List (Int × Int)) (x : Int × Int) (w : World) (hA : PairsAt w A l) (hl : l.length ≤ 1099511627776) :
    Calls Tryz.prog 163 #[.slice A l.length c, .agg #[.int .i64 x.1, .int .i64 x.2]] w fun e w' => e = .returned (.bool (hasF l x)) ∧ Below w.heap.size w w' := by
  have hb0 : Below w.heap.size w (w.alloc (.cells #[.int .i64 x.1, .int .i64 x.2] 119)) := (Below.refl _ _).alloc (Nat.le_refl _) _
  have hx0 : (w.alloc (.cells #[.int .i64 x.1, .int .i64 x.2] 119)).cell? ⟨w.heap.size, 0, none⟩ = some (.int .i64 x.1) := by simp
  have hx1 : (w.alloc (.cells #[.int .i64 x.1, .int .i64 x.2] 119)).cell? ⟨w.heap.size, 1, none⟩ = some (.int .i64 x.2) := by simp
  have hsz : w.heap.size < (w.alloc (.cells #[.int .i64 x.1, .int .i64 x.2] 119)).heap.size := by simp
  go_enter Tryz.func163, Tryz.ntmps163
  go_wp2
  generalize (w.alloc (.cells #[.int .i64 x.1, .int .i64 x.2] 119)) = w0 at hb0 hx0 hx1 hsz ⊢
  have hA0 := hA.below hb0
  clear hA
  go_loopw [9] (fun i wr => ∃ k : Nat, k ≤ l.length ∧ i = .int .i64 k ∧ Hid (∀ j, j < k → prAt l j ≠ x) ∧ Below w.heap.size w wr ∧ Below w0.heap.size w0 wr) (fun i _ => l.length - (intOf i).toNat)
  case atStart => exact ⟨0, Nat.zero_le _, rfl, fun j hj => absurd hj (by omega), hb0, Below.refl _ _⟩
  case round =>
    obtain ⟨k, hk, rfl, hq, hb, hbb⟩ := hrel
    by_cases hlt : k < l.length
    · obtain ⟨b1, o1, rfl, hb1, hc1⟩ := hA0 (by omega)
      obtain ⟨c1, c2⟩ := hc1 k hlt
      rw [← hbb.cell (p := ⟨b1, _, none⟩) hb1] at c1 c2
      rw [← hbb.cell (p := ⟨w.heap.size, _, none⟩) hsz] at hx0 hx1
      have hlw : w.heap.size < wr.heap.size := Nat.lt_of_lt_of_le hsz hbb.size
      clear hc1 hA0
      by_cases he : prAt l k = x
      · have hn : Hid (hasF l x = true) := by show hasF l x = true; rw [← he]; exact hasF_at hlt
        rw [he] at c1 c2
        have hbW : Below w.heap.size w (wr.alloc (.cells #[.int .i64 x.1, .int .i64 x.2] 119)) := hb.alloc hb.size _
        clear hq he
        go_wp2
        go_ret
        exact ⟨bool_end hn.out.symm, hbW⟩
      · have hne : ¬ ((prAt l k).1 = x.1 ∧ (prAt l k).2 = x.2) := fun h => he (Prod.ext h.1 h.2)
        have hn : Hid (∀ j, j < k + 1 → prAt l j ≠ x) := by
          intro j hj
          by_cases e : j = k
          · rw [e]; exact he
          · exact hq.out j (by omega)
        have hbW : Below w.heap.size w (wr.alloc (.cells #[.int .i64 (prAt l k).1, .int .i64 (prAt l k).2] 119)) := hb.alloc hb.size _
        have hbbW : Below w0.heap.size w0 (wr.alloc (.cells #[.int .i64 (prAt l k).1, .int .i64 (prAt l k).2] 119)) := hbb.alloc hbb.size _
        clear hq he
        by_cases h1 : (prAt l k).1 = x.1
        · have h2 : ¬ (prAt l k).2 = x.2 := fun h => hne ⟨h1, h⟩
          rw [h1] at c1 hbW hbbW
          clear hne h1
          generalize (prAt l k).2 = y at c2 h2 hbW hbbW
          go_wp2
          refine ⟨⟨k + 1, by omega, by go_num, hn, hbW, hbbW⟩, ?_⟩
          simp only [intOf]
          omega
        · clear hne
          generalize prAt l k = p1 at c1 c2 h1 hbW hbbW
          go_wp2
          refine ⟨⟨k + 1, by omega, by go_num, hn, hbW, hbbW⟩, ?_⟩
          simp only [intOf]
          omega
    · have hn : Hid (hasF l x = false) := hasF_none fun j hj => hq.out j (by omega)
      clear hq
      go_wp2
      go_ret
      exact ⟨bool_end hn.out.symm, hb⟩

theorem take_next_fold {l : List (Int × Int)} {k : Nat} (h : k < l.length) (x : Int × Int) (d : Bool) : foldF x d (l.take (k + 1)) = stepF x (foldF x d (l.take k)) (prAt l k) := by
  rw [List.take_succ_eq_append_getElem h, foldF_snoc]
  simp [prAt, h]

theorem stepF_go {x y : Int × Int} {Z : List (Int × Int)} : stepF x (Z, true) y = (Z ++ [y], true) := by simp [stepF]
theorem stepF_less {x y : Int × Int} {Z : List (Int × Int)} (h : lessB x y = true) : stepF x (Z, false) y = (Z ++ [x] ++ [y], true) := by simp [stepF, h]
theorem stepF_more {x y : Int × Int} {Z : List (Int × Int)} (h : lessB x y = false) : stepF x (Z, false) y = (Z ++ [y], false) := by simp [stepF, h]

set_option maxRecDepth 100000 in
set_option maxHeartbeats 4000000 in
theorem l3Put_any (A : Option Addr) (c : Nat) (l : List (Int × Int)) (x : Int × Int) (w : World) (hA : PairsAt w A l) (hl : l.length ≤ 4194304) :
    Calls Tryz.prog 132 #[.slice A l.length c, .agg #[.int .i64 x.1, .int .i64 x.2]] w (NewFreshs (putF l x) w) := by
  have hh := fun W hW => l3HasF_any A c l x W hW (by omega)
  have hput := Lib.hid (putF_fold l x)
  generalize hd0 : hasF l x = d0 at hh hput
  clear hd0
  have hb0 : Below w.heap.size w ((w.alloc (.cells #[.int .i64 x.1, .int .i64 x.2] 119)).alloc (.cells #[] 119)) := ((Below.refl _ w).alloc (Nat.le_refl _) _).alloc (by simp) _
  have ho0 : ((w.alloc (.cells #[.int .i64 x.1, .int .i64 x.2] 119)).alloc (.cells #[] 119)).ownsRow (w.heap.size + 1) 119 2 (.slice (some ⟨w.heap.size + 1, 0, none⟩) 0 0) 0 (cellsOf []) := by
    have h := World.ownsRow_lit (e := 119) (size := 2) (w.alloc (.cells #[.int .i64 x.1, .int .i64 x.2] 119)) #[] 0 (Nat.le_refl _) (by decide) rfl
    rw [World.size_alloc] at h
    exact h
  have hx0 : ((w.alloc (.cells #[.int .i64 x.1, .int .i64 x.2] 119)).alloc (.cells #[] 119)).cell? ⟨w.heap.size, 0, none⟩ = some (.int .i64 x.1) := by simp
  have hx1 : ((w.alloc (.cells #[.int .i64 x.1, .int .i64 x.2] 119)).alloc (.cells #[] 119)).cell? ⟨w.heap.size, 1, none⟩ = some (.int .i64 x.2) := by simp
  have hsz0 : w.heap.size + 1 < ((w.alloc (.cells #[.int .i64 x.1, .int .i64 x.2] 119)).alloc (.cells #[] 119)).heap.size := by simp
  go_enter Tryz.func132, Tryz.ntmps132
  go_wp2_with fail
  generalize (w.alloc (.cells #[.int .i64 x.1, .int .i64 x.2] 119)).alloc (.cells #[] 119) = w0 at hb0 ho0 hx0 hx1 hsz0 ⊢
  refine (hh w0 (hA.below hb0)).mono ?_
  rintro e w1 ⟨rfl, hb1⟩
  have hx0' := (hb1.cell (p := ⟨w.heap.size, 0, none⟩) (show w.heap.size < w0.heap.size by omega)).trans hx0
  have hx1' := (hb1.cell (p := ⟨w.heap.size, 1, none⟩) (show w.heap.size < w0.heap.size by omega)).trans hx1
  have ho1 := own_below ho0 hb1
  have hbw1 := hb0.trans (hb1.mono hb0.size)
  have hsz1 : w.heap.size + 1 < w1.heap.size := Nat.lt_of_lt_of_le hsz0 hb1.size
  clear hx0 hx1 ho0 hb0 hb1 hsz0 hh
  go_wp2
  go_loopw [5, 6, 15] (fun v d i wr => ∃ k n : Nat, k ≤ l.length ∧ i = .int .i64 k ∧ d = .bool (foldF x d0 (l.take k)).2 ∧ (∃ g cap, v = .slice (some ⟨g, 0, none⟩) n cap) ∧ wr.ownsRow (w.heap.size + 1) 119 2 v n (cellsOf (foldF x d0 (l.take k)).1) ∧ Below (w.heap.size + 1) w1 wr) (fun _ _ i _ => l.length - (intOf i).toNat)
  case atStart => exact ⟨0, 0, Nat.zero_le _, rfl, by simp [foldF], ⟨_, _, rfl⟩, by simpa [foldF] using ho1, Below.refl _ _⟩
  case round =>
    obtain ⟨k, n, hk, rfl, rfl, ⟨g, cap, rfl⟩, ho, hb⟩ := hrel
    clear ho1
    have hlen := foldF_len x d0 (l.take k)
    rw [List.length_take, Nat.min_eq_left hk, ← own_len ho] at hlen
    have hszr : w1.heap.size ≤ wr.heap.size := hb.size
    have kx0 := (hb.cell (p := ⟨w.heap.size, 0, none⟩) (show w.heap.size < w.heap.size + 1 by omega)).trans hx0'
    have kx1 := (hb.cell (p := ⟨w.heap.size, 1, none⟩) (show w.heap.size < w.heap.size + 1 by omega)).trans hx1'
    have hbw := hbw1.trans (hb.mono (by omega : w.heap.size ≤ w.heap.size + 1))
    have hn2 : n ≤ 1000000000 := by
      have : (foldF x d0 (l.take k)).2.toNat ≤ 1 := by cases (foldF x d0 (l.take k)).2 <;> simp
      omega
    by_cases hlt : k < l.length
    · have hnx := take_next_fold hlt x d0
      have hfe : foldF x d0 (l.take k) = ((foldF x d0 (l.take k)).1, (foldF x d0 (l.take k)).2) := rfl
      rw [hfe] at hnx
      clear hfe
      generalize (foldF x d0 (l.take k)).1 = Z at ho hnx
      generalize (foldF x d0 (l.take k)).2 = dd at hlen hnx ⊢
      obtain ⟨b1, o1, rfl, hb1, hc1⟩ := hA (by omega)
      obtain ⟨c1, c2⟩ := hc1 k hlt
      rw [← hbw.cell (p := ⟨b1, _, none⟩) hb1] at c1 c2
      generalize prAt l k = y at c1 c2 hnx
      have hgr : some wr.heap.size ≠ (Value.slice (some ⟨g, 0, none⟩) n cap).ownBlock := fun e => absurd (ho.lt _ e.symm).2 (Nat.lt_irrefl _)
      have hoy := ho.alloc (.cells #[.int .i64 y.1, .int .i64 y.2] 119)
      have hby := hb.alloc (by omega) (.cells #[.int .i64 y.1, .int .i64 y.2] 119)
      have hBy : w.heap.size + 1 ≤ wr.heap.size := by omega
      have hwr : w.heap.size < wr.heap.size := by omega
      have hb1r : b1 < wr.heap.size := by omega
      clear hc1 hA hb ho hbw1 hput hx0' hx1' hlen hbw
      cases dd with
      | true =>
        rw [stepF_go] at hnx
        have HN := Lib.hid hnx
        clear hnx
        have hou := hoy.alloc (.cells #[.int .i64 y.1, .int .i64 y.2] 119)
        have hbu := hby.alloc (by simp; omega) (.cells #[.int .i64 y.1, .int .i64 y.2] 119)
        have E0 := Lib.hid (show ((wr.alloc (.cells #[.int .i64 y.1, .int .i64 y.2] 119)).alloc (.cells #[.int .i64 y.1, .int .i64 y.2] 119)).cell? ⟨wr.heap.size + 1, 0, none⟩ = some (.int .i64 y.1) by simp)
        have E1 := Lib.hid (show ((wr.alloc (.cells #[.int .i64 y.1, .int .i64 y.2] 119)).alloc (.cells #[.int .i64 y.1, .int .i64 y.2] 119)).cell? ⟨wr.heap.size + 1, 1, none⟩ = some (.int .i64 y.2) by simp)
        have HO := Lib.hid hou
        clear hoy hby hou kx0 kx1
        go_wp2_with (at_builtin; refine wpList_append_fresh _ rfl (.tmp 30) (.tmp 32) rfl (w.heap.size + 1) _ n Z rfl HO.out (wr.heap.size + 1) y rfl E0.out E1.out (by omega) (by simp; omega) ?_)
        intro g' cap' w2 ho2 hg2
        have hb2 := below_own hbu HO.out (Nat.le_refl _) (by simp; omega) hg2
        have ho3 : w2.ownsRow (w.heap.size + 1) 119 2 (.slice (some ⟨g', 0, none⟩) (n + 1) cap') (n + 1) (cellsOf (foldF x d0 (l.take (k + 1))).1) := by rw [HN.out]; exact ho2
        have hd3 : (Value.bool true) = .bool (foldF x d0 (l.take (k + 1))).2 := by rw [HN.out]
        have HD := Lib.hid hd3
        clear ho2 hg2 hbu HO E0 E1 c1 c2 hd3 HN
        go_wp2
        refine ⟨⟨k + 1, n + 1, by omega, by go_num, HD.out, ⟨g', cap', rfl⟩, ho3, hb2⟩, ?_⟩
        simp only [intOf]
        omega
      | false =>
        have hless := fun W => l3Less_is x y (lessB x y) rfl W
        have X0 := Lib.hid (show (wr.alloc (.cells #[.int .i64 y.1, .int .i64 y.2] 119)).cell? ⟨w.heap.size, 0, none⟩ = some (.int .i64 x.1) from (((Below.refl _ wr).alloc (Nat.le_refl _) _).cell (p := ⟨w.heap.size, 0, none⟩) hwr).trans kx0)
        have X1 := Lib.hid (show (wr.alloc (.cells #[.int .i64 y.1, .int .i64 y.2] 119)).cell? ⟨w.heap.size, 1, none⟩ = some (.int .i64 x.2) from (((Below.refl _ wr).alloc (Nat.le_refl _) _).cell (p := ⟨w.heap.size, 1, none⟩) hwr).trans kx1)
        have Y0 := Lib.hid (show (wr.alloc (.cells #[.int .i64 y.1, .int .i64 y.2] 119)).cell? ⟨wr.heap.size, 0, none⟩ = some (.int .i64 y.1) by simp)
        have Y1 := Lib.hid (show (wr.alloc (.cells #[.int .i64 y.1, .int .i64 y.2] 119)).cell? ⟨wr.heap.size, 1, none⟩ = some (.int .i64 y.2) by simp)
        have hsA : (wr.alloc (.cells #[.int .i64 y.1, .int .i64 y.2] 119)).heap.size = wr.heap.size + 1 := by simp
        have HSA := Lib.hid hsA
        have HOY := Lib.hid hoy
        have HGY := Lib.hid hgr
        clear hoy hsA hgr
        by_cases hL : lessB x y = true
        · rw [stepF_less hL] at hnx
          have HN := Lib.hid hnx
          rw [hL] at hless
          clear hnx hL
          go_wp2_with (first
            | (go_at_call 162; refine (hless _).mono ?_; rintro e w2 ⟨rfl, hb2⟩; have x0 := (hb2.cell (p := ⟨w.heap.size, 0, none⟩) (by rw [HSA.out]; exact Nat.lt_succ_of_lt hwr)).trans X0.out; have x1 := (hb2.cell (p := ⟨w.heap.size, 1, none⟩) (by rw [HSA.out]; exact Nat.lt_succ_of_lt hwr)).trans X1.out; have y0 := (hb2.cell (p := ⟨wr.heap.size, 0, none⟩) (by rw [HSA.out]; exact Nat.lt_succ_self _)).trans Y0.out; have y1 := (hb2.cell (p := ⟨wr.heap.size, 1, none⟩) (by rw [HSA.out]; exact Nat.lt_succ_self _)).trans Y1.out; have hs2 := hb2.size; rw [HSA.out] at hs2; have hbb2 := Lib.hid (hby.trans (hb2.mono (by rw [HSA.out]; omega))); have ho2 := Lib.hid (own_below HOY.out hb2); have hby2 := Lib.hid (hb2.mono (show wr.heap.size + 1 ≤ _ by rw [HSA.out]; exact Nat.le_refl _)); clear hb2)
            | (at_builtin; refine wpList_append_fresh _ rfl (.tmp 26) (.tmp 28) rfl (w.heap.size + 1) _ n Z rfl (ho2.out.alloc _) w2.heap.size x rfl (by simp) (by simp) (by omega) (by simp; omega) ?_))
          intro g3 cap3 w3 ho3 hg3
          have hgy : some wr.heap.size ≠ (Value.slice (some ⟨g, 0, none⟩) n cap).ownBlock := HGY.out
          have y0' : w3.cell? ⟨wr.heap.size, 0, none⟩ = some (.int .i64 y.1) := (hg3.cell (a := ⟨wr.heap.size, 0, none⟩) (((Below.refl _ w2).alloc (Nat.le_refl _) (.cells #[.int .i64 x.1, .int .i64 x.2] 119)).cell (p := ⟨wr.heap.size, 0, none⟩) (show wr.heap.size < w2.heap.size by omega) |>.trans y0) hgy)
          have y1' : w3.cell? ⟨wr.heap.size, 1, none⟩ = some (.int .i64 y.2) := (hg3.cell (a := ⟨wr.heap.size, 1, none⟩) (((Below.refl _ w2).alloc (Nat.le_refl _) (.cells #[.int .i64 x.1, .int .i64 x.2] 119)).cell (p := ⟨wr.heap.size, 1, none⟩) (show wr.heap.size < w2.heap.size by omega) |>.trans y1) hgy)
          have hb3 := below_own (hbb2.out.alloc (by omega) (.cells #[.int .i64 x.1, .int .i64 x.2] 119)) (ho2.out.alloc _) (Nat.le_refl _) (by simp; omega) hg3
          have hs3 : w2.heap.size + 1 ≤ w3.heap.size := by have := hg3.size; simp at this; omega
          clear hg3 ho2 hbb2 hby2 HOY x0 x1 y0 y1 hless X0 X1 Y0 Y1 hgy
          go_wp2_with (at_builtin; refine wpList_append_fresh _ rfl (.tmp 30) (.tmp 32) rfl (w.heap.size + 1) _ (n + 1) (Z ++ [x]) rfl (ho3.alloc _) w3.heap.size y rfl (by simp) (by simp) (by omega) (by simp; omega) ?_)
          intro g4 cap4 w4 ho4 hg4
          have hb4 := below_own (hb3.alloc (by omega) (.cells #[.int .i64 y.1, .int .i64 y.2] 119)) (ho3.alloc _) (Nat.le_refl _) (by simp; omega) hg4
          have ho5 : w4.ownsRow (w.heap.size + 1) 119 2 (.slice (some ⟨g4, 0, none⟩) (n + 1 + 1) cap4) (n + 1 + 1) (cellsOf (foldF x d0 (l.take (k + 1))).1) := by rw [HN.out]; simpa using ho4
          have HD := Lib.hid (show (Value.bool true) = .bool (foldF x d0 (l.take (k + 1))).2 by rw [HN.out])
          clear ho4 hg4 ho3 hb3 HN y0' y1'
          go_wp2
          refine ⟨⟨k + 1, n + 1 + 1, by omega, by go_num, HD.out, ⟨g4, cap4, rfl⟩, ho5, hb4⟩, ?_⟩
          simp only [intOf]
          omega
        · have hL' : lessB x y = false := by simpa using hL
          rw [stepF_more hL'] at hnx
          have HN := Lib.hid hnx
          rw [hL'] at hless
          clear hnx hL hL'
          go_wp2_with (first
            | (go_at_call 162; refine (hless _).mono ?_; rintro e w2 ⟨rfl, hb2⟩; have x0 := (hb2.cell (p := ⟨w.heap.size, 0, none⟩) (by rw [HSA.out]; exact Nat.lt_succ_of_lt hwr)).trans X0.out; have x1 := (hb2.cell (p := ⟨w.heap.size, 1, none⟩) (by rw [HSA.out]; exact Nat.lt_succ_of_lt hwr)).trans X1.out; have y0 := (hb2.cell (p := ⟨wr.heap.size, 0, none⟩) (by rw [HSA.out]; exact Nat.lt_succ_self _)).trans Y0.out; have y1 := (hb2.cell (p := ⟨wr.heap.size, 1, none⟩) (by rw [HSA.out]; exact Nat.lt_succ_self _)).trans Y1.out; have hs2 := hb2.size; rw [HSA.out] at hs2; have hbb2 := Lib.hid (hby.trans (hb2.mono (by rw [HSA.out]; omega))); have ho2 := Lib.hid (own_below HOY.out hb2); have hby2 := Lib.hid (hb2.mono (show wr.heap.size + 1 ≤ _ by rw [HSA.out]; exact Nat.le_refl _)); clear hb2)
            | (at_builtin; refine wpList_append_fresh _ rfl (.tmp 30) (.tmp 32) rfl (w.heap.size + 1) _ n Z rfl (ho2.out.alloc _) w2.heap.size y rfl (by simp) (by simp) (by omega) (by simp; omega) ?_))
          intro g4 cap4 w4 ho4 hg4
          have hb4 := below_own (hbb2.out.alloc (by omega) (.cells #[.int .i64 y.1, .int .i64 y.2] 119)) (ho2.out.alloc _) (Nat.le_refl _) (by simp; omega) hg4
          have ho5 : w4.ownsRow (w.heap.size + 1) 119 2 (.slice (some ⟨g4, 0, none⟩) (n + 1) cap4) (n + 1) (cellsOf (foldF x d0 (l.take (k + 1))).1) := by rw [HN.out]; exact ho4
          have HD := Lib.hid (show (Value.bool false) = .bool (foldF x d0 (l.take (k + 1))).2 by rw [HN.out])
          clear ho4 hg4 ho2 hbb2 hby2 HN HOY x0 x1 y0 y1 hless X0 X1 Y0 Y1
          go_wp2
          refine ⟨⟨k + 1, n + 1, by omega, by go_num, HD.out, ⟨g4, cap4, rfl⟩, ho5, hb4⟩, ?_⟩
          simp only [intOf]
          omega
    · have e : k = l.length := by omega
      rw [e, List.take_length] at ho ⊢
      have hp := hput.out
      clear hput hA hb hx0' hx1' hlen e hlt
      generalize (foldF x d0 l).1 = Z at ho hp
      generalize (foldF x d0 l).2 = dd at hp ⊢
      have hnZ := Lib.hid (own_len ho)
      cases dd with
      | true =>
        have HP := Lib.hid (show putF l x = Z by simpa using hp)
        have hpost : NewFreshs (putF l x) w (.returned (.slice (some ⟨g, 0, none⟩) n cap)) wr := ⟨_, rfl, by rw [HP.out, ← hnZ.out]; exact own_le ho (by omega), hbw⟩
        clear hp ho hbw kx0 kx1 HP
        go_wp2
        go_ret
        exact hpost
      | false =>
        have HP := Lib.hid (show putF l x = Z ++ [x] by simpa using hp)
        clear hp
        have hoa := Lib.hid (ho.alloc (.cells #[.int .i64 x.1, .int .i64 x.2] 119))
        have hba := Lib.hid (hbw.alloc (by omega) (.cells #[.int .i64 x.1, .int .i64 x.2] 119))
        clear ho hbw
        go_wp2_with (at_builtin; refine wpList_append_fresh _ rfl (.tmp 37) (.tmp 39) rfl (w.heap.size + 1) _ n Z rfl hoa.out wr.heap.size x rfl (by simp) (by simp) (by omega) (by simp; omega) ?_)
        intro g4 cap4 w4 ho4 hg4
        have hb4 := below_own hba.out hoa.out (by omega) (by simp; omega) hg4
        have hpost : NewFreshs (putF l x) w (.returned (.slice (some ⟨g4, 0, none⟩) (n + 1) cap4)) w4 := ⟨_, rfl, by rw [HP.out, List.length_append, List.length_singleton, ← hnZ.out]; exact own_le ho4 (by omega), hb4⟩
        clear HP ho4 hg4 hb4 hoa hba kx0 kx1
        go_wp2
        go_ret
        exact hpost

theorem joinF_next {l m : List (Int × Int)} {k : Nat} (h : k < m.length) : joinF l (m.take (k + 1)) = putF (joinF l (m.take k)) (prAt m k) := by
  rw [List.take_succ_eq_append_getElem h, joinF_snoc]
  simp [prAt, h]

/-- What the joining comes to, a row of the call's own. -/
def JoinAt (base : Nat) (wr : World) (v : Value) (Z : List (Int × Int)) : Prop :=
  wr.ownsRow base 119 2 v Z.length (cellsOf Z)

set_option maxRecDepth 100000 in
set_option maxHeartbeats 4000000 in
theorem l3Join_any (A B : Option Addr) (c d : Nat) (l m : List (Int × Int)) (w : World) (hA : PairsAt w A l) (hB : PairsAt w B m) (hl : l.length ≤ 1000000) (hm : m.length ≤ 1000000) :
    Calls Tryz.prog 86 #[.slice A l.length c, .slice B m.length d] w (NewFreshs (joinF l m) w) := by
  obtain ⟨i0, hi0, hz0, hz1, hz2⟩ := info_parts fresh_info
  have hb0 : Below w.heap.size w (w.alloc (.cells #[] 119)) := (Below.refl _ w).alloc (Nat.le_refl _) _
  have ho0 : (w.alloc (.cells #[] 119)).ownsRow w.heap.size 119 2 (.slice (some ⟨w.heap.size, 0, none⟩) 0 0) 0 [] := World.ownsRow_lit w #[] 0 (Nat.le_refl _) (by decide) rfl
  have hA0 := hA.below hb0
  go_enter Tryz.func86, Tryz.ntmps86
  go_wp2_with (at_builtin; refine wpList_append_pairs _ rfl (.tmp 8) (.tmp 9) 30 rfl w.heap.size 119 i0 _ Tryz.underlying30 hi0 hz0 hz1 hz2 rfl _ 0 [] rfl ho0 A c l rfl hA0 (by omega) (by simp) ?_)
  intro v1 w1 ho1 hg1
  have hb1 := below_own hb0 ho0 (Nat.le_refl _) (by simp) hg1
  have ho2 : JoinAt w.heap.size w1 v1 (joinF l (m.take 0)) := by
    show w1.ownsRow w.heap.size 119 2 v1 l.length (cellsOf l)
    simpa using ho1
  clear ho1 hg1 ho0 hb0 hA0
  go_wp2
  go_loopw [5, 13] (fun v i wr => ∃ k : Nat, k ≤ m.length ∧ i = .int .i64 k ∧ JoinAt w.heap.size wr v (joinF l (m.take k)) ∧ Below w.heap.size w wr) (fun _ i _ => m.length - (intOf i).toNat)
  case atStart => exact ⟨0, Nat.zero_le _, rfl, ho2, hb1⟩
  case round =>
    clear ho2 hb1
    obtain ⟨k, hk, rfl, ho, hb⟩ := hrel
    by_cases hlt : k < m.length
    · obtain ⟨b1, o1, rfl, hb1, hc1⟩ := hB (by omega)
      obtain ⟨c1, c2⟩ := hc1 k hlt
      rw [← hb.cell (p := ⟨b1, _, none⟩) hb1] at c1 c2
      have hnx := Lib.hid (joinF_next (l := l) hlt)
      have hlen := joinF_len_le l (m.take k)
      rw [List.length_take, Nat.min_eq_left hk] at hlen
      generalize prAt m k = y at c1 c2 hnx
      generalize joinF l (m.take k) = Z at ho hnx hlen
      have hb1r : b1 < wr.heap.size := Nat.lt_of_lt_of_le hb1 hb.size
      obtain ⟨G, cap, rfl, hP⟩ := own_pairsAt ho
      have hba := hb.alloc hb.size (.cells #[.int .i64 y.1, .int .i64 y.2] 119)
      have hput := l3Put_any G cap Z y (wr.alloc (.cells #[.int .i64 y.1, .int .i64 y.2] 119)) (hP.below ((Below.refl _ wr).alloc (Nat.le_refl _) _)) (by omega)
      clear hc1 hB hA hb ho hP
      go_wp2_with fail
      refine hput.mono ?_
      rintro e w2 ⟨v2, rfl, ho2, hb2⟩
      have ho3 : JoinAt w.heap.size w2 v2 (joinF l (m.take (k + 1))) := by rw [hnx.out]; exact own_le ho2 hba.size
      have hb3 := hba.trans (hb2.mono hba.size)
      clear hput ho2 hb2 hba hnx c1 c2
      go_wp2
      refine ⟨⟨k + 1, by omega, by go_num, ho3, hb3⟩, ?_⟩
      simp only [intOf]
      omega
    · have e : k = m.length := by omega
      rw [e, List.take_length] at ho
      have hpost : NewFreshs (joinF l m) w (.returned _) wr := ⟨_, rfl, ho, hb⟩
      clear ho hb hA hB
      go_wp2
      go_ret
      exact hpost
end
end Go.Proofs.YtlhjgjfnmejiaaaGreat
