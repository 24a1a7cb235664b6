/-
  Rows of terms that a call makes by appending; a copy of pairs: plain words and a contract. Pairs that are put behind a row of the call's own, wherever they lie, also where there are none: as laws for the walk. The free atoms of a form, in the program, as contracts. The free atoms of a term, in the program, as a contract. Whether an atom is fresh for a ground term: in the program and in the model, as contracts.
-/
import Derived.Test.YtlhjgjfnmejiaaaGreatKComesOf13
import Derived.Test.YtlhjgjfnmejiaaaGreatKComesOf7
import Derived.Test.YtlhjgjfnmejiaaaGreatKComesOf5
import Derived.Test.YtlhjgjfnmejiaaaGreatKComesOf15
import Derived.Test.YtlhjgjfnmejiaaaGreatKComesOf14
import Derived.Lib.SliceRun
import Derived.Laws.AppendOwnNone
import Derived.Test.YtlhjgjfnmejiaaaGreatKComesOf12
import Derived.Test.YtlhjgjfnmejiaaaGreatKComesOf2
section
namespace Go.Proofs.YtlhjgjfnmejiaaaGreat
section
open Go.RowKit Go.Sort
set_option linter.unusedVariables false

/-- A row of the call's own that holds terms of the call's own. -/
def TRow (w : World) (B : Nat) (v : Value) (k : Nat) (ts : List Tm) : Prop :=
  ∃ g cap xs S, v = .slice (some ⟨g, 0, none⟩) k cap ∧ w.ownsRow B 46 4 (.slice (some ⟨g, 0, none⟩) k cap) k xs ∧ OwnL w S xs (encTs ts) ∧ g ∉ S ∧ ∀ b ∈ S, B ≤ b

/-- One more term behind a row. -/
theorem trow_next {wr w2 w3 w4 : World} {B C g cap g1 cap1 k : Nat} {xs ys : List Value} {S T : List Nat} {ts : List Tm} {t : Tm}
    (hC : wr.heap.size ≤ C) (ho : wr.ownsRow B 46 4 (.slice (some ⟨g, 0, none⟩) k cap) k xs)
    (hx : OwnL wr S xs (encTs ts)) (hgS : g ∉ S) (hSB : ∀ b ∈ S, B ≤ b) (h13 : Below wr.heap.size wr w3) (hT : OwnL w2 T ys (encT t)) (hTC : ∀ b ∈ T, C ≤ b) (h23 : Below w2.heap.size w2 w3)
    (ho4 : w4.ownsRow B 46 4 (.slice (some ⟨g1, 0, none⟩) (k + 1) cap1) (k + 1) (xs ++ ys))
    (hg : w3.grownBy w4 (some g)) (hcase : some g = some g1 ∨ g1 = w3.heap.size) :
    TRow w4 B (.slice (some ⟨g1, 0, none⟩) (k + 1) cap1) (k + 1) (ts ++ [t]) := by
  obtain ⟨hg1, hg2⟩ := ho.lt g rfl
  have hbl : ∀ b, b < w3.heap.size → b ≠ g → w4.heap[b]? = w3.heap[b]? := fun b h1 h2 => hg.block b h1 (fun e => by injection e with e; exact h2 e)
  have hs13 := h13.size
  have hs23 := h23.size
  have hSl : ∀ b ∈ S, b < wr.heap.size := fun b hb => hx.lt b hb
  have hTl : ∀ b ∈ T, b < w2.heap.size := fun b hb => hT.lt b hb
  have hTg : g ∉ T := fun hm => by have := hTC g hm; omega
  have hx4 : OwnL w4 S xs (encTs ts) := hx.alike fun b hb => (hbl b (by have := hSl b hb; omega) (fun e => hgS (e ▸ hb))).trans (h13.block b (hSl b hb))
  have hT4 : OwnL w4 T ys (encT t) := hT.alike fun b hb => (hbl b (by have := hTl b hb; omega) (fun e => hTg (e ▸ hb))).trans (h23.block b (hTl b hb))
  have hdis : ∀ b ∈ S, b ∉ T := fun b hb ht => by
    have h1 := hSl b hb
    have h2 := hTC b ht
    omega
  have e : encTs (ts ++ [t]) = encTs ts ++ encT t := by rw [encTs_append, encTs, encTs, List.append_nil]
  refine ⟨g1, cap1, xs ++ ys, S ++ T, rfl, ho4, by rw [e]; exact hx4.append hT4 hdis, fun hm => ?_, fun b hb => ?_⟩
  · rcases hcase with h | h
    · injection h with h
      subst h
      rcases List.mem_append.1 hm with h | h
      · exact hgS h
      · exact hTg h
    · rcases List.mem_append.1 hm with h' | h'
      · have := hSl g1 h'; omega
      · have := hTl g1 h'; omega
  · rcases List.mem_append.1 hb with h | h
    · exact hSB b h
    · have := hTC b h; omega

theorem term_infoR : (Tryz.prog.info? 46).map (fun i => (i.zero, i.size, i.bytes)) = some (some (.agg #[.int .i64 0, .int .i64 0, .slice none 0 0, .slice none 0 0]), 4, 64) := by kernel_rfl

theorem four_cells {w : World} {g : Nat} {a b c d : Value} (h0 : w.cell? ⟨g, 0, none⟩ = some a) (h1 : w.cell? ⟨g, 1, none⟩ = some b) (h2 : w.cell? ⟨g, 2, none⟩ = some c) (h3 : w.cell? ⟨g, 3, none⟩ = some d) :
    ∀ j x, [a, b, c, d][j]? = some x → w.cell? ((⟨g, 0, none⟩ : Addr).add j) = some x := by
  intro j x hj
  rw [addr_add]
  match j, hj with
  | 0, hj => simp at hj; subst hj; exact h0
  | 1, hj => simp at hj; subst hj; exact h1
  | 2, hj => simp at hj; subst hj; exact h2
  | 3, hj => simp at hj; subst hj; exact h3
  | j + 4, hj => simp at hj

theorem four_one (o n : Int) (A B : Option Addr) (a b c d : Nat) : ∀ u ∈ [Value.int .i64 o, .int .i64 n, .slice A a b, .slice B c d], u.oneCell' = true := by
  intro u hu
  simp only [List.mem_cons, List.not_mem_nil, or_false] at hu
  rcases hu with rfl | rfl | rfl | rfl <;> rfl

/-- A copy of pairs. -/
def ClonePost (p : List (Int × Int)) (w : World) (e : Ending) (w' : World) : Prop :=
  ∃ A c, e = .returned (.slice A p.length c) ∧ w'.ownsRow w.heap.size 148 2 (.slice A p.length c) p.length (cellsOf p) ∧ Below w.heap.size w w'

set_option maxRecDepth 100000 in
theorem clone_any (A : Option Addr) (c : Nat) (p : List (Int × Int)) (w : World) (hp : PairsAt w A p) (hl : p.length ≤ 1048576) :
    Calls Tryz.prog 242 #[.slice A p.length c] w (ClonePost p w) := by
  have qT : ∀ (w : World) (a : Option Addr) (n c n' c' : Nat), (binOp .eql 43 (.slice a n c) (.slice none n' c')).run Tryz.prog w = .ok (.bool a.isNone) w := fun w a n c n' c' => Lib.run_eql_slice_nil w _ _ a n c n' c' Tryz.underlying43
  obtain ⟨i0, hi0, hz0, hz1, hz2⟩ := info_parts pair_infoT
  have HS := Lib.hid hz2
  clear hz2
  cases A with
  | none =>
    have h0 : p = [] := by
      rcases Nat.eq_zero_or_pos p.length with h | h
      · exact List.eq_nil_of_length_eq_zero h
      · obtain ⟨b, off, e, _⟩ := hp h
        cases e
    subst h0
    have hpost : ClonePost [] w (.returned (.slice none 0 0)) w := ⟨none, 0, rfl, World.ownsRow_nil w _ _ _, Below.refl _ _⟩
    clear hp
    go_enter Tryz.func242, Tryz.ntmps242
    go_wp2
    go_ret
    exact hpost
  | some ad =>
    have hb0 : Below w.heap.size w (w.alloc (.cells #[] 148)) := (Below.refl _ _).alloc (Nat.le_refl _) _
    have ho0 : (w.alloc (.cells #[] 148)).ownsRow w.heap.size 148 2 (.slice (some ⟨w.heap.size, 0, none⟩) 0 0) 0 (cellsOf []) := World.ownsRow_lit w #[] 0 (Nat.le_refl _) (by decide) rfl
    have HN := Lib.hid (pairs_news (hp.below hb0))
    have HL := Lib.hid (cellsOf_len p)
    have hs0 := hb0.size
    clear hp
    go_enter Tryz.func242, Tryz.ntmps242
    go_wp2_with (at_builtin; refine wpList_append_own _ rfl (.tmp 5) (.tmp 6) 43 rfl w.heap.size 148 i0 (.agg #[.int .i64 0, .int .i64 0]) 2 16 Tryz.underlying43 hi0 hz0 hz1 HS.out rfl (by decide) _ 0 _ rfl ho0 ad p.length c (cellsOf p) rfl HL.out HN.out (cellsOf_one _) ?c3 ?c4 ?c5 ?_)
    case c3 => unfold maxLen; omega
    case c4 => omega
    case c5 => exact hs0
    intro v4 w4 ho4 hg4 hnil
    have hb4 := below_own hb0 ho0 (Nat.le_refl _) hs0 hg4
    have hpost : ClonePost p w (.returned v4) w4 := by
      have ho5 : w4.ownsRow w.heap.size 148 2 v4 p.length (cellsOf p) := by
        exact ho4
      obtain ⟨A, c', rfl, _⟩ := own_pairsAt ho5
      exact ⟨A, c', rfl, ho5, hb4⟩
    obtain ⟨A, c', e, hown, hbel⟩ := hpost
    injection e with e
    subst e
    have hpost : ClonePost p w (.returned (.slice A p.length c')) w4 := ⟨A, c', rfl, hown, hbel⟩
    clear ho4 hg4 hnil hb4 hown hbel ho0 hb0 HN HL
    go_wp2
    go_ret
    exact hpost
end

section
open Go.RowKit Go.Sort
set_option linter.unusedVariables false

theorem step_append_pairs {P : Program} {w : World} {ops : Array Oper} {o : Oper} {a : Act} {K : Act → World → Prop} {Q : Exit → Act → World → Prop} {E : Prop} (hgd : o.guard = none) (s x : Operand) (t : TypeId)
    (ho : o.op = .call { callee := .builtin .append, args := #[s, x], argTypes := #[t, t] })
    (base : Nat) (e : TypeId) (i : TypeInfo) (z : Value) (ht : P.underlying t = some (.slice e)) (hi : P.info? e = some i) (hz : i.zero = some z) (hsize : i.size = 2) (hby : i.bytes = 16) (hzs : z.cells.size = 2)
    (v : Value) (n : Nat) (xs : List Value) (hs : a.eval s = v) (hown : w.ownsRow base e 2 v n xs) (A : Option Addr) (c : Nat) (l : List (Int × Int)) (hx : a.eval x = .slice A l.length c) (hA : PairsAt w A l) (h63 : n + l.length ≤ 1048576) (hbase : base ≤ w.heap.size)
    (h : ∀ v' w', w'.ownsRow base e 2 v' (n + l.length) (xs ++ cellsOf l) → w.grownBy w' v.ownBlock → K (a.put o.dst v') w') :
    if Region.wanted o (yielded ops a.tmps) = true then Oper.wp P o a w K Q else E := by
  have hw : Region.wanted o (yielded ops a.tmps) = true := by simp [Region.wanted, hgd]
  rw [if_pos hw]
  obtain ⟨v', w', hr, h2, h3⟩ := run_append_pairs (P := P) base t o.type e i z ht hi hz hsize hby hzs v n xs hown A c l hA h63 hbase
  unfold Oper.wp execOp
  simp only [ho, resolve, invoke, builtin, Sem.run_bind, Sem.run_pure, Result.andThen_ok, List.map_toArray, List.map_cons, List.map_nil, hs, hx, hr]
  exact h v' w' h2 h3
end
end Go.Proofs.YtlhjgjfnmejiaaaGreat
end

section
namespace Go.Proofs.YtlhjgjfnmejiaaaGreat
open Go.RowKit Go.Sort Go.Shelf
set_option linter.unusedVariables false

theorem asc_freeT : ∀ t : Tm, AscP (freeT t)
  | .mk o n p ks => by
    rw [freeT]
    refine asc_insAll _ _ ?_
    split
    · exact List.pairwise_singleton _ _
    · exact List.Pairwise.nil

theorem freeT_1 (n : Int) : freeT (.mk 1 n [] []) = [n] := by simp [freeT, freeTs, insAll]
theorem freeT_2 (n : Int) (ks : List Tm) : freeT (.mk 2 n [] ks) = insAll [] (freeTs ks) := by
  rw [freeT, if_neg (by decide), List.filter_eq_self.2]
  intro a _; rfl
theorem freeT_3 (n : Int) (k : Tm) : freeT (.mk 3 n [] [k]) = (freeT k).filter fun a => !decide (a = n) := by
  have e : freeTs [k] = freeT k := by rw [freeTs, freeTs, List.append_nil]
  rw [freeT, if_neg (by decide), e]
  have ef : (freeT k).filter (keepB 3 n) = (freeT k).filter fun a => !decide (a = n) := by
    apply List.filter_congr
    intro a _; rw [keepB]; simp
  rw [ef]
  refine asc_same _ _ (asc_insAll _ _ List.Pairwise.nil) ((asc_freeT k).filter _) fun a => ?_
  rw [mem_insAll]; simp
theorem freeT_4 (n : Int) (p : List (Int × Int)) : freeT (.mk 4 n p []) = [] := by simp [freeT, freeTs, insAll]
theorem freeF_1 (n : Int) : freeF (.mk 1 n [] []) = 247 := rfl
theorem freeF_2 (n : Int) (ks : List Tm) : freeF (.mk 2 n [] ks) = 251 := rfl
theorem freeF_3 (n : Int) (ks : List Tm) : freeF (.mk 3 n [] ks) = 256 := rfl
theorem freeF_4 (n : Int) (p : List (Int × Int)) : freeF (.mk 4 n p []) = 238 := rfl

set_option maxRecDepth 100000 in
theorem free_atom (n : Int) (w : World) : Calls Tryz.prog 247 #[.agg #[.int .i64 n]] w (InsPost w.heap.size [n] w) := by
  have hpost : InsPost w.heap.size [n] w (.returned (.slice (some ⟨w.heap.size + 1, 0, none⟩) 1 1)) ((w.alloc (.cells #[.int .i64 n] 153)).alloc (.cells #[.int .i64 n] 3)) := by
    have h9 := World.ownsRow_lit (base := w.heap.size) (e := 3) (size := 1) (w.alloc (.cells #[.int .i64 n] 153)) #[.int .i64 n] 1 (by rw [World.size_alloc]; omega) (by decide) rfl
    rw [World.size_alloc] at h9
    exact ⟨w.heap.size + 1, 1, rfl, h9, ((Below.refl _ _).alloc (Nat.le_refl _) _).alloc (by simp) _⟩
  go_enter Tryz.func247, Tryz.ntmps247
  go_wp2
  go_ret
  exact hpost

set_option maxRecDepth 100000 in
theorem free_hole (n : Int) (A : Option Addr) (m c : Nat) (w : World) : Calls Tryz.prog 238 #[.agg #[.int .i64 n, .slice A m c]] w (InsPost w.heap.size [] w) := by
  have hpost : InsPost w.heap.size [] w (.returned (.slice (some ⟨w.heap.size + 1, 0, none⟩) 0 0)) ((w.alloc (.cells #[.int .i64 n, .slice A m c] 135)).alloc (.cells #[] 3)) := by
    have h9 := World.ownsRow_lit (base := w.heap.size) (e := 3) (size := 1) (w.alloc (.cells #[.int .i64 n, .slice A m c] 135)) #[] 0 (by rw [World.size_alloc]; omega) (by decide) rfl
    rw [World.size_alloc] at h9
    exact ⟨w.heap.size + 1, 0, rfl, h9, ((Below.refl _ _).alloc (Nat.le_refl _) _).alloc (by simp) _⟩
  go_enter Tryz.func238, Tryz.ntmps238
  go_wp2
  go_ret
  exact hpost

theorem below_putRow' {B : Nat} {w0 w : World} {g q : Nat} {d : Array Int} (h : Below B w0 w) (hg : B ≤ g) : Below B w0 (putRow (Value.int .i64) (Sort.ahead w q) g 0 d) := Lib.below_putRow h hg
theorem freeTs_next {ts : List Tm} {k : Nat} (h : k < ts.length) : freeTs (ts.take (k + 1)) = freeTs (ts.take k) ++ freeT (tmAt ts k) := by
  rw [tm_take_next h, freeTs_append]
  simp [freeTs]
theorem freeTs_le (ts : List Tm) (k : Nat) : (freeTs (ts.take k)).length ≤ szTs ts := Nat.le_trans (freeTs_len _) (szTs_take ts k)

set_option maxRecDepth 100000 in
set_option maxHeartbeats 4000000 in
theorem free_node (n : Int) (b off c : Nat) (xs : List Value) (ks : List Tm) (q : Nat → Prop) (w : World) (hbl : b < w.heap.size) (hc : ∀ j u, xs[j]? = some u → w.cell? ⟨b, off + j, none⟩ = some u) (hxs : FsIn w q xs ks) (hsz : szTs ks ≤ 1048576)
    (ih : ∀ i, i < ks.length → ∀ (w' : World) (y : Value), FIn w' q (.iface (fty (tmAt ks i)) y) (tmAt ks i) → Calls Tryz.prog (freeF (tmAt ks i)) #[y] w' (InsPost w'.heap.size (freeT (tmAt ks i)) w')) :
    Calls Tryz.prog 251 #[.agg #[.int .i64 n, .slice (some ⟨b, off, none⟩) ks.length c]] w (InsPost w.heap.size (insAll [] (freeTs ks)) w) := by
  obtain ⟨i0, hi0, hz0, hz1, hz2⟩ := info_parts int_infoM
  have HS := Lib.hid hz2
  clear hz2
  have hkl := len_szTs ks
  have hb0 : Below w.heap.size w (w.alloc (.cells #[.int .i64 n, .slice (some ⟨b, off, none⟩) ks.length c] 156)) := (Below.refl _ _).alloc (Nat.le_refl _) _
  go_enter Tryz.func251, Tryz.ntmps251
  go_wp2
  go_loopw [3, 10] (fun v i wr => ∃ k : Nat, k ≤ ks.length ∧ i = .int .i64 k ∧ (∃ g cap, v = .slice (some ⟨g, 0, none⟩) (freeTs (ks.take k)).length cap ∧ wr.ownsRow (w.heap.size + 1) 3 1 (.slice (some ⟨g, 0, none⟩) (freeTs (ks.take k)).length cap) (freeTs (ks.take k)).length (icells (freeTs (ks.take k)))) ∧ Below (w.alloc (.cells #[.int .i64 n, .slice (some ⟨b, off, none⟩) ks.length c] 156)).heap.size (w.alloc (.cells #[.int .i64 n, .slice (some ⟨b, off, none⟩) ks.length c] 156)) wr) (fun _ i _ => ks.length - (intOf i).toNat)
  case atStart =>
    refine ⟨0, Nat.zero_le _, rfl, ⟨w.heap.size + 1, 0, rfl, ?_⟩, (Below.refl _ _).alloc (Nat.le_refl _) _⟩
    have h9 := World.ownsRow_lit (base := (w.alloc (.cells #[.int .i64 n, .slice (some ⟨b, off, none⟩) ks.length c] 156)).heap.size) (e := 3) (size := 1) (w.alloc (.cells #[.int .i64 n, .slice (some ⟨b, off, none⟩) ks.length c] 156)) #[] 0 (Nat.le_refl _) (by decide) rfl
    rw [World.size_alloc] at h9
    exact h9
  case round =>
    obtain ⟨k, hk', rfl, ⟨g, cap, rfl, ho⟩, hbw⟩ := hrel
    have hb := hb0.trans (hbw.mono hb0.size)
    by_cases hlt : k < ks.length
    · obtain ⟨u, hu, hfu⟩ := hxs.get k hlt
      obtain ⟨fx, rfl⟩ := hfu.iface
      have d0 := (hb.cell (p := ⟨b, off + k, none⟩) hbl).trans (hc k _ hu)
      have hct := ih k hlt wr fx (hfu.keep hb)
      have hnx := Lib.hid (freeTs_next hlt)
      have hm := askFree (tmAt ks k)
      have hn := enterFree (tmAt ks k)
      have hl1 := freeTs_le ks k
      have hl2 : (freeT (tmAt ks k)).length ≤ 1048576 := by
        have h1 := freeT_len (tmAt ks k)
        have h2 := szT_at hlt
        omega
      have hsr := hbw.size
      generalize freeF (tmAt ks k) = F at hm hn hct
      generalize fty (tmAt ks k) = T at hm hfu hu d0
      generalize freeT (tmAt ks k) = Y at hct hnx hl2
      generalize hX : freeTs (ks.take k) = X at ho hnx hl1 ⊢
      clear hX hu hfu hb ih hxs hc
      go_wp2_with fail
      refine hct.mono ?_
      rintro e w2 ⟨g2, cap2, rfl, ho2, hb2⟩
      have ho1 := own_below ho hb2
      have hia : IntsAt w2 (some ⟨g2, 0, none⟩) Y := by
        obtain ⟨A, c, e, h⟩ := own_intsAt ho2
        simp only [Value.slice.injEq] at e
        rw [e.1]
        exact h
      have HN := Lib.hid (ints_news hia)
      have HL := Lib.hid (show (icells Y).length = Y.length * 1 by rw [icells_len, Nat.mul_one])
      have hbw2 := hbw.trans (hb2.mono hbw.size)
      have hs2 := hbw2.size
      clear hct ho ho2 hb2 hbw hia d0 hm hn
      go_wp2_with (at_builtin; refine wpList_append_own _ rfl (.tmp 14) (.tmp 16) 109 rfl (w.heap.size + 1) 3 i0 (.int .i64 0) 1 8 Tryz.underlying109 hi0 hz0 hz1 HS.out rfl (by decide) _ X.length _ rfl ho1 ⟨g2, 0, none⟩ Y.length cap2 (icells Y) rfl HL.out HN.out (icells_one _) ?c3 ?c4 ?c5 ?_)
      case c3 => unfold maxLen; omega
      case c4 => omega
      case c5 => rw [World.size_alloc] at hs2; omega
      intro v4 w4 ho4 hg4 hnil
      have hb4 := below_own hbw2 ho1 (by rw [World.size_alloc]; omega) hs2 hg4
      have hform : ∃ g1 cap1, v4 = .slice (some ⟨g1, 0, none⟩) (X.length + Y.length) cap1 := by
        rcases ho4.2 with ⟨e0, _⟩ | ⟨g1, cap1, cur, e0, _⟩
        · exact absurd e0 hnil
        · exact ⟨g1, cap1, e0⟩
      obtain ⟨g1, cap1, rfl⟩ := hform
      rw [← icells_append] at ho4
      have ho5 : ∃ g cap, Value.slice (some ⟨g1, 0, none⟩) (X.length + Y.length) cap1 = .slice (some ⟨g, 0, none⟩) (freeTs (ks.take (k + 1))).length cap ∧ w4.ownsRow (w.heap.size + 1) 3 1 (.slice (some ⟨g, 0, none⟩) (freeTs (ks.take (k + 1))).length cap) (freeTs (ks.take (k + 1))).length (icells (freeTs (ks.take (k + 1)))) := by
        rw [hnx.out]
        exact ⟨g1, cap1, by rw [List.length_append], by rw [List.length_append]; exact ho4⟩
      clear ho4 hg4 hnil ho1 hbw2 hs2 HN HL hnx
      go_wp2
      refine ⟨⟨k + 1, by omega, by go_num, ho5, hb4⟩, ?_⟩
      simp only [intOf]
      omega
    · have hsr := hb0.size
      have hbr := hbw.size
      have hz : (freeTs ks).length ≤ 1099511627776 := by have := freeTs_len ks; omega
      rw [List.take_of_length_le (by omega)] at ho ⊢
      have hasc := ascending_any (w.heap.size + 1) g cap (freeTs ks) wr ho (by omega)
      generalize hX : freeTs ks = X at hasc ho ⊢
      have HX := Lib.hid hX
      clear ih hxs hc hX
      go_wp2_with fail
      refine hasc.mono ?_
      rintro e w5 ⟨rfl, ho6, hg6⟩
      have hpost : InsPost w.heap.size (insAll [] (freeTs ks)) w (.returned (.slice (some ⟨g, 0, none⟩) (insAll [] X).length cap)) w5 := by
        rw [HX.out]
        exact ⟨g, cap, rfl, own_le ho6 (by omega), hb.grown hg6 hb.size (fun k hk => by
          injection hk with hk
          have := (ho.lt g rfl).1
          omega)⟩
      clear hasc ho6 hg6 hb hbw ho
      go_wp2
      go_ret
      exact hpost

/-- Whether an atom is the one that a binder binds: the program's own test, in any world that holds the binder. -/
theorem bound_gives (n x : Int) (B : Nat) (W : World) (hc : W.cell? ⟨B, 0, none⟩ = some (.int .i64 n)) :
    FnGives Tryz.prog 260 #[.pointer (some ⟨B, 0, none⟩)] #[.int .i64 x] (.bool (decide (x = n))) W := by
  show Calls Tryz.prog 260 #[.int .i64 x, .pointer (some ⟨B, 0, none⟩)] W _
  by_cases h : x = n
  · have q : (x == n) = true := by simp [h]
    have hd : decide (x = n) = true := by simp [h]
    rw [hd]
    clear h hd
    go_enter Tryz.func260, Tryz.ntmps260
    go_wp2
    go_ret
    exact ⟨rfl, 0, rfl⟩
  · have q : (x == n) = false := by simp [h]
    have hd : decide (x = n) = false := by simp [h]
    rw [hd]
    clear h hd
    go_enter Tryz.func260, Tryz.ntmps260
    go_wp2
    go_ret
    exact ⟨rfl, 0, rfl⟩

theorem bound_pred (n : Int) (B : Nat) (w : World) (hB : B < w.heap.size) (hcell : w.cell? ⟨B, 0, none⟩ = some (.int .i64 n)) :
    PredAt Tryz.prog 260 #[.pointer (some ⟨B, 0, none⟩)] (Value.int .i64) (fun x => decide (x = n)) w :=
  fun W x hb => bound_gives n x B W ((hb.cell (p := ⟨B, 0, none⟩) hB).trans hcell)

theorem bound_over (n : Int) (B blk off size : Nat) (w : World) (hB : B < w.heap.size) (hne : B ≠ blk) (hcell : w.cell? ⟨B, 0, none⟩ = some (.int .i64 n)) :
    PredOver Tryz.prog 260 #[.pointer (some ⟨B, 0, none⟩)] (Value.int .i64) (fun x => decide (x = n)) blk off size w :=
  fun k os dk x _ => bound_gives n x B _ (by
    unfold sortWorld
    rw [cell?_grow _ _ _ (by show B < (putRow _ _ _ _ _).heap.size; rw [size_putRow]; exact hB), cell?_putRow_other _ _ blk off _ _ (Or.inl hne)]
    exact hcell)

set_option maxRecDepth 100000 in
set_option maxHeartbeats 2000000 in
theorem free_bind (n : Int) (fx : Value) (k : Tm) (w : World) (hsz : szT k ≤ 1048576)
    (ih : ∀ w' : World, Below w.heap.size w w' → Calls Tryz.prog (freeF k) #[fx] w' (InsPost w'.heap.size (freeT k) w')) :
    Calls Tryz.prog 256 #[.agg #[.int .i64 n, .iface (fty k) fx]] w (InsPost w.heap.size (freeT (.mk 3 n [] [k])) w) := by
  have hb0 : Below w.heap.size w (w.alloc (.cells #[.int .i64 n, .iface (fty k) fx] 159)) := (Below.refl _ _).alloc (Nat.le_refl _) _
  have hct := ih _ hb0
  have hm := askFree k
  have hn := enterFree k
  have hl := freeT_len k
  have hT := Lib.hid (freeT_3 n k)
  have eg : ∀ args w, (callFunc 260 args).run Tryz.prog w = .ok (.enter 260 args) w := enters_of Tryz.func260 (by kernel_rfl) rfl
  have h0 := heap_alloc_new w (.cells #[.int .i64 n, .iface (fty k) fx] 159)
  have hlt0 : w.heap.size < (w.alloc (.cells #[.int .i64 n, .iface (fty k) fx] 159)).heap.size := by rw [World.size_alloc]; omega
  generalize freeF k = F at hm hn hct
  generalize fty k = T at *
  generalize freeT k = L at hct hT hl
  clear ih
  go_enter Tryz.func256, Tryz.ntmps256
  go_wp2_with fail
  refine hct.mono ?_
  rintro e w2 ⟨g, cap, rfl, ho, hb2⟩
  have hrow := (hb2.block w.heap.size hlt0).trans h0
  have hc0 : w2.cell? ⟨w.heap.size, 0, none⟩ = some (.int .i64 n) := by rw [cell_of_row w2 w.heap.size _ _ _ _ hrow]; rfl
  have hlt2 := Nat.lt_of_lt_of_le hlt0 hb2.size
  have hne : w.heap.size ≠ g := by have := (ho.lt g rfl).1; omega
  have ho' : w2.ownsRow (w.alloc (.cells #[.int .i64 n, .iface T fx] 159)).heap.size 3 1 (.slice (some ⟨g, 0, none⟩) L.length cap) L.length (L.map (Value.int .i64)) := ho
  obtain ⟨g', cap', e0, hbg, hgs, hnc, _, _, hH⟩ := Lib.holds_of_ownsRow ho' (by simp)
  simp only [Value.slice.injEq, Option.some.injEq, Addr.mk.injEq] at e0
  obtain ⟨⟨rfl, _⟩, _, rfl⟩ := e0
  have hdel := AnyE.slices_DeleteFunc Tryz.delInts (Value.int .i64) (fun _ => rfl) (fun x => decide (x = n)) 260 #[.pointer (some ⟨w.heap.size, 0, none⟩)] eg 0 Tryz.zeroValue3 g 0 cap L.toArray w2
    (bound_pred n w.heap.size _ hlt2 hc0) (bound_over n w.heap.size g 0 _ _ hlt2 hne hc0) hH (by rw [List.size_toArray]; omega) (by rw [List.size_toArray]; exact hnc)
  change Calls Tryz.prog 259 _ _ _ at hdel
  rw [List.size_toArray] at hdel
  have hle := List.length_filter_le (fun x => !decide (x = n)) L
  have HO := Lib.hid (fun q7 => Lib.ownsRow_putRow (q := q7) (k := (L.filter fun x => !decide (x = n)).length) (ys := (L.filter fun x => !decide (x = n)) ++ List.replicate (L.length - (L.filter fun x => !decide (x = n)).length) 0) ho' (by rw [List.length_append, List.length_replicate]; omega) hle)
  have HB := Lib.hid (fun q7 => below_putRow' (q := q7) (d := ((L.filter fun x => !decide (x = n)) ++ List.replicate (L.length - (L.filter fun x => !decide (x = n)).length) 0).toArray) (hb0.trans (hb2.mono hb0.size)) (show w.heap.size ≤ g by have := (ho.lt g rfl).1; omega))
  have hfl : (L.toArray.toList.filter fun x => !decide (x = n)) = (L.filter fun x => !decide (x = n)) := rfl
  rw [hfl] at hdel
  generalize (L.filter fun x => !decide (x = n)) = M at hdel HO HB hT hle
  have hb0s := hb0.size
  clear hct ho ho' hb2 hrow hH hm hn h0 hc0 hb0 hfl eg
  go_wp2_with fail
  refine hdel.mono ?_
  rintro e w7 ⟨rfl, q7, rfl⟩
  have ho7 := HO.out q7
  rw [List.take_left] at ho7
  have hpost : InsPost w.heap.size (freeT (.mk 3 n [] [k])) w (.returned (.slice (some ⟨g, 0, none⟩) M.length cap)) (putRow (Value.int .i64) (Sort.ahead w2 q7) g 0 (M ++ List.replicate (L.length - M.length) 0).toArray) := by
    rw [hT.out]
    exact ⟨g, cap, rfl, own_le ho7 (by omega), HB.out q7⟩
  clear hdel HO HB hT ho7
  go_wp2
  go_ret
  exact hpost

/-- The free atoms of a form. -/
theorem free_any : ∀ (N : Nat) (t : Tm), szT t ≤ N → N ≤ 1048576 → ∀ (q : Nat → Prop) (w : World) (fx : Value), FIn w q (.iface (fty t) fx) t → Calls Tryz.prog (freeF t) #[fx] w (InsPost w.heap.size (freeT t) w) := by
  intro N
  induction N with
  | zero => intro t h; rw [szT_eq] at h; omega
  | succ N ih =>
    intro t hN hM q w fx h
    rcases form_cases h with ⟨n, rfl, rfl⟩ | ⟨n, b, off, c, xs, ks, rfl, rfl, _, hb, hc, hxs⟩ | ⟨n, v, k, rfl, rfl, hk⟩ | ⟨n, A, c, p, rfl, rfl, _, _⟩
    · rw [freeT_1, freeF_1]
      exact free_atom n w
    · rw [freeT_2, freeF_2]
      rw [szT_eq, kids_mk] at hN
      refine free_node n b off c xs ks q w hb hc hxs (by omega) fun i hi w' y hy => ih _ ?_ (by omega) q w' y hy
      have := szT_at hi
      omega
    · rw [freeF_3]
      obtain ⟨fx, rfl⟩ := hk.iface
      rw [szT_eq, kids_mk, szTs, szTs] at hN
      exact free_bind n fx k w (by omega) fun w' hb => ih k (by omega) (by omega) q w' fx (hk.keep hb)
    · rw [freeT_4, freeF_4]
      exact free_hole n A _ c w
end Go.Proofs.YtlhjgjfnmejiaaaGreat
end

section
namespace Go.Proofs.YtlhjgjfnmejiaaaGreat
open Go.RowKit Go.Sort
set_option linter.unusedVariables false

end Go.Proofs.YtlhjgjfnmejiaaaGreat
end

section
namespace Go.Proofs.YtlhjgjfnmejiaaaGreat
open Go.RowKit Go.Sort
set_option linter.unusedVariables false

set_option maxRecDepth 100000 in
theorem isFreeIn_any (t : Tm) (q : Nat → Prop) (a : Int) (fv : Value) (w : World) (hf : FIn w q fv t) (hsz : szT t ≤ 1048576) :
    Calls Tryz.prog 99 #[.int .i64 a, fv] w (BoolPost (hasB (freeT t) a) w) := by
  obtain ⟨fx, rfl⟩ := hf.iface
  have hct := free_any (szT t) t (Nat.le_refl _) hsz q w fx hf
  have hm := askFree t
  have hn := enterFree t
  have hl := freeT_len t
  generalize freeF t = F at hm hn hct
  generalize fty t = T at hm hf
  generalize freeT t = L at hct hl ⊢
  go_enter Tryz.func99, Tryz.ntmps99
  go_wp2_with fail
  refine hct.mono ?_
  rintro e w2 ⟨g2, cap2, rfl, ho2, hb2⟩
  have hia : IntsAt w2 (some ⟨g2, 0, none⟩) L := by
    obtain ⟨A, c, e, h⟩ := own_intsAt ho2
    simp only [Value.slice.injEq] at e
    rw [e.1]
    exact h
  have hco := contains_any (some ⟨g2, 0, none⟩) cap2 L a w2 hia (by omega)
  clear hct ho2 hia
  go_wp2_with fail
  refine hco.mono ?_
  rintro e w3 ⟨rfl, rfl⟩
  clear hco
  go_wp2
  go_ret
  exact ⟨rfl, hb2⟩

theorem ground_term {t : Tm} (h : groundB t = true) : isTermB t = true := by
  unfold groundB at h
  simp only [Bool.and_eq_true] at h
  exact h.1
end Go.Proofs.YtlhjgjfnmejiaaaGreat
end

