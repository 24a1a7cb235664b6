/-
  A row of numbers is put behind rows of the call's own: as a law for the walk; all patterns, in plain words. The atoms that a formula names: in plain words, and in the model, as contracts. All patterns, what is among them, and valid orbit sets: in the model, as contracts. Orbit sets in the model: whether they are valid, as contracts. Rows of the call's own that are handed on one after the other: plain words, no program is walked here. The patterns that are among those of a list, as an orbit set: in the model, as a contract. slices.IndexFunc and slices.DeleteFunc at rows, where the function looks at a formula: contracts by hand. ExamplesOf of both sides, as contracts.
-/
import Derived.Test.YthjkogighppeaaaKSetOfFormula8
import Derived.Test.YthjkogighppeaaaKSetOfFormula11
import Derived.Deep.AppendLies
import Derived.Test.YthjkogighppeaaaKSetOfFormula10
import Derived.Test.YthjkogighppeaaaKSetOfFormula3
import Derived.Lib.SliceRun
import Derived.Laws.IdiomCopy
section
namespace Go.Proofs.Ythjkogighppeaaa
open Go.RowKit Go.Sort
set_option linter.unusedVariables false

theorem own_split {w : World} {T : List Nat} {v : Value} {ls : List (List Int)} (h : Own w T v (rowsMem ls)) :
    ∃ xs S, w.ownsRow 0 26 1 v ls.length xs ∧ OwnL w S xs (encR ls) ∧ T = v.ownBlock.toList ++ S ∧ (∀ k, v.ownBlock = some k → k ∉ S) := by
  unfold rowsMem at h
  generalize hm : encR ls = ms at h
  cases h with
  | nil =>
    have hl := encR_len ls
    rw [hm] at hl
    have h0 : ls.length = 0 := by simpa using hl.symm
    rw [h0]
    exact ⟨[], [], World.ownsRow_nil w _ _ _, .nil, rfl, fun k h => by cases h⟩
  | row hl ho hL hg =>
    subst hm
    rw [encR_len] at hl
    rename_i g n cap xs S'
    have en : n = ls.length := by omega
    subst en
    exact ⟨xs, S', ho, hL, rfl, fun k h => by simp [Value.ownBlock] at h; exact h ▸ hg⟩

theorem own_intSlice {w : World} {R : List Nat} {u : Value} {l : List Int} (h : Own w R u (intMem l)) : ∃ A c, u = .slice A l.length c ∧ ConstAtR w A c l := by
  obtain ⟨A, c, rfl, hA⟩ := at_intRow h.at_
  exact ⟨A, c, rfl, hA, fun e => by subst e; exact own_nilcap h⟩

set_option maxRecDepth 100000 in
/-- rows = append(rows, row) -/
theorem wpList_append_rows {w : World} {ops : Array Oper} {rest : List Oper} {o : Oper} {a : Act} {Q : Exit → Act → World → Prop} (hgd : o.guard = none) (s x : Operand)
    (ho : o.op = .call { callee := .builtin .append, args := #[s, x], argTypes := #[27, 27] })
    (v : Value) (T : List Nat) (ls : List (List Int)) (hs : a.eval s = v) (hown : Own w T v (rowsMem ls))
    (ad : Addr) (u : Value) (l : List Int) (R : List Nat) (hx : a.eval x = .slice (some ad) 1 1) (hcell : ∀ j y, [u][j]? = some y → w.cell? (ad.add j) = some y) (hR : Own w R u (intMem l)) (hd : ∀ b ∈ T, b ∉ R) (hn : ls.length + 1 ≤ 16777216)
    (h : ∀ g cap T' w', Own w' T' (.slice (some ⟨g, 0, none⟩) (ls.length + 1) cap) (rowsMem (ls ++ [l])) → (∀ b ∈ T', b ∈ T ∨ b ∈ R ∨ b = w.heap.size) → Only T w w' → wpList Try.prog ops Q rest (a.put o.dst (.slice (some ⟨g, 0, none⟩) (ls.length + 1) cap)) w') : wpList Try.prog ops Q (o :: rest) a w := by
  obtain ⟨i0, hi0, hz0, hz1, hz2⟩ := info_parts rows_info
  obtain ⟨xs, S, hrow, hL, rfl, hnS⟩ := own_split hown
  have hone : ∀ y ∈ [u], y.oneCell' = true := by
    obtain ⟨A, c, rfl, _⟩ := own_intSlice hR
    intro y hy
    simp at hy
    subst hy
    rfl
  refine wpList_append_lies _ hgd s x 27 ho 0 26 i0 (.slice none 0 0) 1 24 Try.underlying27 hi0 hz0 hz1 hz2 rfl (by decide) v ls.length xs hs hrow ad 1 1 [u] hx rfl hcell hone (by decide) (by unfold maxLen; omega) (by omega) (Nat.zero_le _) _ rfl fun g cap w' h1 h2 h3 h4 => ?_
  have hL2 := hL.alike (w' := w') (fun b hb => h2.block b (hL.lt b hb) (fun e => hnS b e.symm hb))
  have hR2 := hR.alike (w' := w') (fun b hb => h2.block b (hR.lt b hb) (fun e => hd b (by rw [← e]; simp) hb))
  have hdis : ∀ b ∈ S, b ∉ R ++ [] := fun b hb hr => hd b (List.mem_append_right _ hb) (by simpa using hr)
  have hL3 := hL2.append (OwnL.cons hR2 .nil (fun b _ hb => by simp at hb)) hdis
  have hgn : g ∉ S ++ (R ++ []) := by
    intro hm
    rw [List.append_nil] at hm
    rcases h3 with h3 | h3
    · rcases List.mem_append.1 hm with h5 | h5
      · exact hnS g h3 h5
      · exact hd g (by rw [h3]; simp) h5
    · rcases List.mem_append.1 hm with h5 | h5
      · have := hL.lt g h5; omega
      · have := hR.lt g h5; omega
  refine h g cap (g :: (S ++ (R ++ []))) w' (.row (by rw [encR_len, List.length_append]; simp) h1 (by rw [encR_append]; exact hL3) hgn) (fun b hb => ?_) (Only.of_grown h2 (fun k e => by rw [e]; simp))
  rcases List.mem_cons.1 hb with h5 | h5
  · subst h5
    rcases h3 with h3 | h3
    · exact .inl (by rw [h3]; simp)
    · exact .inr (.inr h3)
  · rw [List.append_nil] at h5
    rcases List.mem_append.1 h5 with h6 | h6
    · exact .inl (List.mem_append_right _ h6)
    · exact .inr (.inl h6)

/-- A copy of numbers that are there, or of nil. -/
theorem l1Copy_ints (A : Option Addr) (c : Nat) (l : List Int) (w : World) (hA : IntsAt w A l) (hz : A = none → c = 0) (hl : l.length ≤ 1099511627776) :
    Calls Try.prog 41 #[.slice A l.length c] w (NewInts l w) := by
  have hb : Below w.heap.size w (w.alloc (.cells #[] 3)) := (Below.refl _ _).alloc (Nat.le_refl _) _
  have ho : (w.alloc (.cells #[] 3)).ownsRow w.heap.size 3 1 (.slice (some ⟨w.heap.size, 0, none⟩) 0 0) 0 [] := World.ownsRow_lit w #[] 0 (Nat.le_refl _) (by decide) rfl
  have hA2 := hA.below hb
  clear hA
  go_enter Try.func41, Try.ntmps41
  go_wp2_with (at_builtin; refine wpList_append_ints rfl (.tmp 3) (.tmp 4) rfl w.heap.size _ 0 [] rfl ho A c l rfl hA2 hz ?c3 ?c5 ?_)
  case c3 => omega
  case c5 => simp
  intro v2 w2 ho3 hg
  have hb4 : Below w.heap.size w w2 := below_own hb ho (Nat.le_refl _) (by simp) hg
  clear ho hg hb hA2
  go_wp2
  go_ret
  exact ⟨_, rfl, by simpa using ho3, hb4⟩

/-- The row at a place of rows of the call's own. -/
theorem own_rowAt {w : World} {T : List Nat} {A : Option Addr} {n c : Nat} {ls : List (List Int)} (h : Own w T (.slice A n c) (rowsMem ls)) {i : Nat} (hi : i < ls.length) :
    ∃ b off A1 c1 T', A = some ⟨b, off, none⟩ ∧ b < w.heap.size ∧ w.cell? ⟨b, off + i, none⟩ = some (.slice A1 (rwAt ls i).length c1) ∧ ConstAtR w A1 c1 (rwAt ls i) ∧ Own w T' (.slice A1 (rwAt ls i).length c1) (intMem (rwAt ls i)) ∧ ∀ b ∈ T', b ∈ T := by
  obtain ⟨xs, S, hrow, hL, rfl, _⟩ := own_split h
  obtain ⟨u, T', hu, ho, hsub, _⟩ := hL.focus i _ (encR_at hi)
  obtain ⟨A1, c1, rfl, hA⟩ := own_intSlice ho
  rcases hrow.2 with ⟨_, h0⟩ | ⟨g, cap, cur, e, hrest⟩
  · omega
  · injection e with e1 e2 e3
    subst e1; subst e2; subst e3
    refine ⟨g, 0, A1, c1, T', rfl, (hrow.lt g rfl).2, ?_, hA, ho, fun b hb => List.mem_append_right _ (hsub b hb)⟩
    rw [Nat.zero_add]
    exact (hrow.cellAt i (by omega)).trans hu
end Go.Proofs.Ythjkogighppeaaa
end

section
namespace Go.Proofs.Ythjkogighppeaaa
open Go.RowKit Go.Sort
set_option linter.unusedVariables false

def ownF (o b : Int) : List Int := if o = 2 then [b] else []
mutual
def rawFm : Fm → List Int
  | .mk o _ b ks => ownF o b ++ rawFms ks
def rawFms : List Fm → List Int
  | [] => []
  | t :: r => insAll [] (rawFm t) ++ rawFms r
end
/-- The atoms that a formula names, in order. -/
def namesFm (t : Fm) : List Int := insAll [] (rawFm t)
theorem rawFm_eq (t : Fm) : rawFm t = ownF t.op t.fb ++ rawFms t.kids := by cases t; simp [rawFm, Fm.op, Fm.fb, Fm.kids]
theorem rawFms_append : ∀ a b : List Fm, rawFms (a ++ b) = rawFms a ++ rawFms b
  | [], b => by simp [rawFms]
  | t :: r, b => by rw [List.cons_append, rawFms, rawFms, rawFms_append r b, List.append_assoc]
theorem rawFms_next {ts : List Fm} {k : Nat} (h : k < ts.length) : rawFms (ts.take (k + 1)) = rawFms (ts.take k) ++ namesFm (fmAt ts k) := by
  rw [fm_take_next h, rawFms_append]
  simp [rawFms, namesFm]
theorem insL_len : ∀ (l : List Int) (n : Int), (insL l n).length ≤ l.length + 1
  | [], n => by simp [insL]
  | x :: r, n => by
    unfold insL
    split
    · simp
    · split
      · simp
      · have := insL_len r n; simp; omega
theorem insAll_len (acc xs : List Int) : (insAll acc xs).length ≤ acc.length + xs.length := by
  unfold insAll
  induction xs generalizing acc with
  | nil => simp
  | cons x r ih => rw [List.foldl_cons]; have h1 := ih (insL acc x); have h2 := insL_len acc x; simp; omega
theorem insAll_append (acc xs ys : List Int) : insAll acc (xs ++ ys) = insAll (insAll acc xs) ys := by unfold insAll; rw [List.foldl_append]
theorem ownF_len (o b : Int) : (ownF o b).length ≤ 1 := by unfold ownF; split <;> simp
mutual
theorem rawFm_len : ∀ t : Fm, (rawFm t).length ≤ szFm t
  | .mk o a b ks => by
    have h1 := rawFms_len ks
    have h2 := ownF_len o b
    rw [rawFm_eq, szFm, List.length_append]
    simp only [Fm.op, Fm.fb, Fm.kids]
    omega
theorem rawFms_len : ∀ ts : List Fm, (rawFms ts).length ≤ szFms ts
  | [] => by simp [rawFms]
  | t :: r => by
    have h1 := rawFm_len t
    have h2 := rawFms_len r
    have h3 := insAll_len [] (rawFm t)
    rw [rawFms, szFms, List.length_append]
    simp at h3
    omega
end
theorem rawFms_take (ts : List Fm) (k : Nat) : (rawFms (ts.take k)).length ≤ (rawFms ts).length := by
  have h : rawFms ts = rawFms (ts.take k) ++ rawFms (ts.drop k) := by rw [← rawFms_append, List.take_append_drop]
  rw [h, List.length_append]
  omega
theorem namesFm_len (t : Fm) : (namesFm t).length ≤ szFm t := by
  have h1 := insAll_len [] (rawFm t)
  have h2 := rawFm_len t
  unfold namesFm
  simp at h1
  omega
mutual
theorem szFm_cnt : ∀ t : Fm, szFm t = 1 + cntFm t
  | .mk o a b ks => by
    have := szFms_cnt ks
    rw [szFm, cntFm]; omega
theorem szFms_cnt : ∀ ts : List Fm, szFms ts = ts.length + sumFm ts
  | [] => by simp [szFms, sumFm]
  | t :: r => by
    have h1 := szFm_cnt t
    have h2 := szFms_cnt r
    rw [szFms, sumFm, List.length_cons]; omega
end

/-- A copy of numbers that are there, or of nil: in a block of its own. -/
theorem l1Copy_some (A : Option Addr) (c : Nat) (l : List Int) (w : World) (hA : IntsAt w A l) (hz : A = none → c = 0) (hl : l.length ≤ 1099511627776) :
    Calls Try.prog 41 #[.slice A l.length c] w (InsPost w.heap.size l w) := by
  have hb : Below w.heap.size w (w.alloc (.cells #[] 3)) := (Below.refl _ _).alloc (Nat.le_refl _) _
  have ho : (w.alloc (.cells #[] 3)).ownsRow w.heap.size 3 1 (.slice (some ⟨w.heap.size, 0, none⟩) 0 0) 0 [] := World.ownsRow_lit w #[] 0 (Nat.le_refl _) (by decide) rfl
  have hA2 := hA.below hb
  cases A with
  | none =>
    have e : l = [] := by
      rcases Nat.eq_zero_or_pos l.length with h0 | h0
      · exact List.eq_nil_of_length_eq_zero h0
      · obtain ⟨b, o, e, _⟩ := hA h0; cases e
    subst e
    have hc := hz rfl
    subst hc
    obtain ⟨i0, hi0, hz0, hz1, hz2⟩ := info_parts int_infoM
    have hpost : InsPost w.heap.size [] w (.returned (.slice (some ⟨w.heap.size, 0, none⟩) 0 0)) (w.alloc (.cells #[] 3)) := ⟨_, _, rfl, ho, hb⟩
    clear hA hA2 hz
    go_enter Try.func41, Try.ntmps41
    go_wp2_with (at_builtin; refine wpList_append_own_none rfl (.tmp 3) (.tmp 4) 26 rfl w.heap.size 3 i0 1 Try.underlying26 hi0 _ 0 [] rfl ho rfl ?_)
    go_wp2
    go_ret
    exact hpost
  | some a =>
    obtain ⟨i0, hi0, hz0, hz1, hz2⟩ := info_parts int_infoM
    have HS := Lib.hid hz2
    have HN := Lib.hid (ints_news hA2)
    have HL := Lib.hid (icells_len l)
    clear hA hA2 hz hz2
    go_enter Try.func41, Try.ntmps41
    go_wp2_with (at_builtin; refine wpList_append_own _ rfl (.tmp 3) (.tmp 4) 26 rfl w.heap.size 3 i0 (.int .i64 0) 1 8 Try.underlying26 hi0 hz0 hz1 HS.out rfl (by decide) _ 0 [] rfl ho a l.length c (icells l) rfl (by rw [HL.out, Nat.mul_one]) HN.out (icells_one l) ?c3 ?c4 ?c5 ?_)
    case c3 => unfold maxLen; omega
    case c4 => omega
    case c5 => simp
    intro v2 w2 ho3 hg hnn
    have hb4 : Below w.heap.size w w2 := below_own hb ho (Nat.le_refl _) (by simp) hg
    have ho4 : w2.ownsRow w.heap.size 3 1 v2 l.length (icells l) := by simpa using ho3
    obtain ⟨g, cap, rfl⟩ : ∃ g cap, v2 = .slice (some ⟨g, 0, none⟩) l.length cap := by
      rcases ho4.2 with ⟨e, _⟩ | ⟨g, cap, cur, e, _⟩
      · exact absurd e (by simpa using hnn)
      · exact ⟨g, cap, e⟩
    have hpost : InsPost w.heap.size l w (.returned (.slice (some ⟨g, 0, none⟩) l.length cap)) w2 := ⟨g, cap, rfl, ho4, hb4⟩
    clear ho hg hb HN HL ho3 ho4 hb4 hnn
    go_wp2
    go_ret
    exact hpost

theorem insCap {w : World} {base n g cap : Nat} {e : TypeId} {size m : Nat} {xs : List Value} (h : w.ownsRow base e size (.slice (some ⟨g, 0, none⟩) n cap) m xs) : n ≤ cap := by
  rcases h.2 with ⟨e, _⟩ | ⟨g', cap', cur, e, _, _, hn, _⟩
  · cases e
  · injection e with _ e2 e3
    omega

set_option maxRecDepth 100000 in
set_option maxHeartbeats 2000000 in
theorem l6Union_any (A B : Option Addr) (c d : Nat) (a b : List Int) (w : World) (hA : IntsAt w A a) (hz : A = none → c = 0) (hasc : AscP a) (hB : IntsAt w B b) (hla : a.length ≤ 4194304) (hlb : b.length ≤ 4194304) :
    Calls Try.prog 39 #[.slice A a.length c, .slice B b.length d] w (InsPost w.heap.size (insAll a b) w) := by
  have hcp := l1Copy_some A c a w hA hz (by omega)
  clear hA hz
  go_enter Try.func39, Try.ntmps39
  go_wp2_with (go_at_call 41; refine hcp.mono ?_; rintro e w1 ⟨g1, cap1, rfl, ho1, hb1⟩)
  clear hcp
  go_loopw [5, 7, 12] (fun v5 _ i wr => ∃ (k g cap : Nat), k ≤ b.length ∧ i = .int .i64 k ∧ v5 = .slice (some ⟨g, 0, none⟩) (insAll a (b.take k)).length cap ∧ wr.ownsRow w.heap.size 3 1 v5 (insAll a (b.take k)).length (icells (insAll a (b.take k))) ∧ Below w.heap.size w wr) (fun _ _ i _ => b.length - (intOf i).toNat)
  case atStart => exact ⟨0, g1, cap1, Nat.zero_le _, rfl, rfl, ho1, hb1⟩
  case round =>
    clear ho1 hb1
    obtain ⟨k, g, cap, hk, rfl, rfl, ho, hb⟩ := hrel
    by_cases hlt : k < b.length
    · obtain ⟨b1, o1, rfl, hb1, hc1⟩ := hB (by omega)
      have c1 := hc1 k hlt
      rw [← hb.cell (p := ⟨b1, _, none⟩) hb1] at c1
      have hln := insAll_len a (b.take k)
      rw [List.length_take] at hln
      have hln2 : (insAll a (b.take k)).length ≤ 8388608 := by omega
      have hins := l1Insert_any w.heap.size g cap (insAll a (b.take k)) (itAt b k) wr ho (insCap ho) (by omega) (asc_insAll _ _ hasc)
      have hnx := Lib.hid (insAll_next a hlt)
      rw [← hnx.out] at hins
      clear hnx
      generalize hL2 : insAll a (b.take (k + 1)) = L2 at hins
      have HL2 := Lib.hid hL2
      clear hL2
      generalize insAll a (b.take k) = L1 at *
      generalize itAt b k = y at c1 hins
      have hs0 := hb.size
      clear hc1 hln
      go_wp2_with fail
      refine hins.mono ?_
      rintro e w2 ⟨g2, cap2, rfl, ho2, hb2⟩
      have hb3 := hb.trans (hb2.mono hb.size)
      clear hins ho hb hb2 c1
      go_wp2
      refine ⟨⟨k + 1, g2, cap2, by omega, by go_num, by rw [HL2.out], by rw [HL2.out]; exact ho2, hb3⟩, ?_⟩
      simp only [intOf]
      omega
    · have e : k = b.length := by omega
      subst e
      rw [List.take_length] at ho ⊢
      have hpost : InsPost w.heap.size (insAll a b) w (.returned (.slice (some ⟨g, 0, none⟩) (insAll a b).length cap)) wr := ⟨g, cap, rfl, ho, hb⟩
      clear ho hb hB
      go_wp2
      go_ret
      exact hpost

theorem ints_own {w : World} {base g cap : Nat} {L : List Int} (h : w.ownsRow base 3 1 (.slice (some ⟨g, 0, none⟩) L.length cap) L.length (icells L)) : IntsAt w (some ⟨g, 0, none⟩) L := by
  obtain ⟨A, c, e, hh⟩ := own_intsAt h
  simp only [Value.slice.injEq] at e
  rw [e.1]
  exact hh

theorem new_cell (W : World) (x : Value) (e : TypeId) (n : Nat) (h : n = W.heap.size) : (W.alloc (.cells #[x] e)).cell? ⟨n, 0, none⟩ = some x := by
  subst h
  simp
theorem new_cell3 (W : World) (a b c d : Value) (e e2 : TypeId) : ((W.alloc (.cells #[a, b, c, d] e)).alloc (.cells #[] e2)).cell? ⟨W.heap.size, 3, none⟩ = some d := by
  have h : (W.alloc (.cells #[a, b, c, d] e)).cell? ⟨W.heap.size, 3, none⟩ = some d := by simp
  have hb : Below (W.alloc (.cells #[a, b, c, d] e)).heap.size (W.alloc (.cells #[a, b, c, d] e)) ((W.alloc (.cells #[a, b, c, d] e)).alloc (.cells #[] e2)) := (Below.refl _ _).alloc (Nat.le_refl _) _
  rw [hb.cell (p := ⟨W.heap.size, 3, none⟩) (by simp)]
  exact h

/-- The contract that is handed down. -/
def NamesC (f : FuncId) (t : Fm) : Prop := ∀ (x : Value) (w : World), FmIn w x t → Calls Try.prog f #[x] w (InsPost w.heap.size (namesFm t) w)

set_option maxRecDepth 100000 in
set_option maxHeartbeats 8000000 in
theorem l6Names_step (t : Fm) (hsz : szFm t ≤ 2097152) (hkl : t.kids.length ≤ 1048576) (ih : ∀ i, i < t.kids.length → NamesC 15 (fmAt t.kids i)) : NamesC 15 t := by
  obtain ⟨i0, hi0, hz0, hz1, hz2⟩ := info_parts int_infoM
  have HS := Lib.hid hz2
  clear hz2
  intro x w hx
  obtain ⟨B, e, rfl, hk⟩ := hx
  have hnm : Hid (namesFm t = insAll [] (ownF t.op t.fb ++ rawFms t.kids)) := Lib.hid (by unfold namesFm; rw [rawFm_eq])
  have hrl := rawFms_len t.kids
  have hse := szFm_eq t
  have hol := ownF_len t.op t.fb
  have HRT := Lib.hid (rawFms_take t.kids)
  have hrl2 : (rawFms t.kids).length ≤ 2097152 := by omega
  have hb1 : Below w.heap.size w ((w.alloc (.cells #[.int .i64 t.op, .int .i64 t.fa, .int .i64 t.fb, .slice B t.kids.length e] 34)).alloc (.cells #[] 3)) := ((Below.refl _ _).alloc (Nat.le_refl _) _).alloc (by simp) _
  have ho0 : ((w.alloc (.cells #[.int .i64 t.op, .int .i64 t.fa, .int .i64 t.fb, .slice B t.kids.length e] 34)).alloc (.cells #[] 3)).ownsRow w.heap.size 3 1 (.slice (some ⟨w.heap.size + 1, 0, none⟩) 0 0) 0 [] := by
    have h := World.ownsRow_lit (w.alloc (.cells #[.int .i64 t.op, .int .i64 t.fa, .int .i64 t.fb, .slice B t.kids.length e] 34)) (e := 3) (size := 1) (base := w.heap.size) #[] 0 (by simp) (by decide) rfl
    simpa using h
  have HKI := Lib.hid (fun i (hi : i < t.kids.length) => (show szFm (fmAt t.kids i) ≤ 2097152 from by have := szFm_at hi; omega))
  have HNX := Lib.hid (fun k (hk : k < t.kids.length) => rawFms_next hk)
  rw [show (namesFm t) = insAll [] (ownF t.op t.fb ++ rawFms t.kids) from hnm.out]
  clear hnm hrl hse hsz
  by_cases h2 : t.op = 2
  · have hop : (t.op == 2) = true := by simp [h2]
    have how : Hid (ownF t.op t.fb = [t.fb]) := Lib.hid (by simp [ownF, h2])
    generalize ownF t.op t.fb = W0 at *
    clear h2
    have hb2 := hb1.alloc hb1.size (.cells #[.int .i64 t.fb] 3)
    have ho0' : ((w.alloc (.cells #[.int .i64 t.op, .int .i64 t.fa, .int .i64 t.fb, .slice B t.kids.length e] 34)).alloc (.cells #[] 3)).ownsRow (w.heap.size + 1) 3 1 (.slice (some ⟨w.heap.size + 1, 0, none⟩) 0 0) 0 [] := by
      have h := World.ownsRow_lit (w.alloc (.cells #[.int .i64 t.op, .int .i64 t.fa, .int .i64 t.fb, .slice B t.kids.length e] 34)) (e := 3) (size := 1) (base := w.heap.size + 1) #[] 0 (by simp) (by decide) rfl
      simpa using h
    have ho1 := ho0'.alloc (.cells #[.int .i64 t.fb] 3)
    have hbx : ((w.alloc (.cells #[.int .i64 t.op, .int .i64 t.fa, .int .i64 t.fb, .slice B t.kids.length e] 34)).alloc (.cells #[] 3)).cell? ⟨w.heap.size, 3, none⟩ = some (.slice B t.kids.length e) := new_cell3 _ _ _ _ _ _ _
    have hbz : Below (w.heap.size + 1) ((w.alloc (.cells #[.int .i64 t.op, .int .i64 t.fa, .int .i64 t.fb, .slice B t.kids.length e] 34)).alloc (.cells #[] 3)) (((w.alloc (.cells #[.int .i64 t.op, .int .i64 t.fa, .int .i64 t.fb, .slice B t.kids.length e] 34)).alloc (.cells #[] 3)).alloc (.cells #[.int .i64 t.fb] 3)) := (Below.refl _ _).alloc (by simp) _
    have hsz9 : w.heap.size + 1 ≤ (((w.alloc (.cells #[.int .i64 t.op, .int .i64 t.fa, .int .i64 t.fb, .slice B t.kids.length e] 34)).alloc (.cells #[] 3)).alloc (.cells #[.int .i64 t.fb] 3)).heap.size := by simp
    have hcell : (((w.alloc (.cells #[.int .i64 t.op, .int .i64 t.fa, .int .i64 t.fb, .slice B t.kids.length e] 34)).alloc (.cells #[] 3)).alloc (.cells #[.int .i64 t.fb] 3)).cell? ⟨w.heap.size + 1 + 1, 0, none⟩ = some (.int .i64 t.fb) := (new_cell _ _ _ (w.heap.size + 1 + 1) (by simp))
    have HC := Lib.hid (one_cell hcell)
    have hsz3 : w.heap.size ≤ (((w.alloc (.cells #[.int .i64 t.op, .int .i64 t.fa, .int .i64 t.fb, .slice B t.kids.length e] 34)).alloc (.cells #[] 3)).alloc (.cells #[.int .i64 t.fb] 3)).heap.size := hb2.size
    have hk3 := hk.below hb2
    clear ho0 hcell
    go_enter Try.func15, Try.ntmps15
    go_wp2_with (at_builtin; refine wpList_append_lies _ rfl (.tmp 10) (.tmp 13) 26 rfl (w.heap.size + 1) 3 i0 (.int .i64 0) 1 8 Try.underlying26 hi0 hz0 hz1 HS.out rfl (by decide) _ 0 _ rfl ho1 ⟨w.heap.size + 1 + 1, 0, none⟩ 1 1 [.int .i64 t.fb] rfl rfl HC.out (int_one _) (by decide) ?c3 ?c4 ?c5 _ rfl ?_)
    case c3 => unfold maxLen; omega
    case c4 => omega
    case c5 => first | exact hsz9 | omega | (simp <;> omega)
    intro g0 cap0 w3 ho3 hg3 _ _
    have hby : Below (w.heap.size + 1) _ w3 := below_own hbz ho1 (Nat.le_refl _) hsz9 hg3
    have hb3 : Below w.heap.size w w3 := hb1.trans (hby.mono (Nat.le_succ _))
    have hbc := hby.cell (p := ⟨w.heap.size, 3, none⟩) (Nat.lt_succ_self _)
    rw [hbx] at hbc
    have ho3 := own_le ho3 (Nat.le_succ _)
    clear hb2 ho1 HC hsz3 hg3 hbx hbz hby hsz9 ho0' hb1
    have hi0' : Hid (insAll [] (W0 ++ rawFms (t.kids.take 0)) = [t.fb]) := Lib.hid (by rw [how.out]; rfl)
    have hst : ∃ (k g cap : Nat), k ≤ t.kids.length ∧ Value.int .i64 0 = .int .i64 k ∧ Value.slice (some ⟨g0, 0, none⟩) 1 cap0 = .slice (some ⟨g, 0, none⟩) (insAll [] (W0 ++ rawFms (t.kids.take k))).length cap ∧ w3.ownsRow w.heap.size 3 1 (Value.slice (some ⟨g0, 0, none⟩) 1 cap0) (insAll [] (W0 ++ rawFms (t.kids.take k))).length (icells (insAll [] (W0 ++ rawFms (t.kids.take k)))) ∧ Below w.heap.size w w3 := ⟨0, g0, cap0, Nat.zero_le _, rfl, by rw [hi0'.out]; rfl, by rw [hi0'.out]; exact ho3, hb3⟩
    clear ho3 hb3 hi0'
    have HST := Lib.hid hst
    clear hst
    go_wp2
    go_loopw [3, 5, 18] (fun v3 _ i wr => ∃ (k g cap : Nat), k ≤ t.kids.length ∧ i = .int .i64 k ∧ v3 = .slice (some ⟨g, 0, none⟩) (insAll [] (W0 ++ rawFms (t.kids.take k))).length cap ∧ wr.ownsRow w.heap.size 3 1 v3 (insAll [] (W0 ++ rawFms (t.kids.take k))).length (icells (insAll [] (W0 ++ rawFms (t.kids.take k)))) ∧ Below w.heap.size w wr) (fun _ _ i _ => t.kids.length - (intOf i).toNat)
    case atStart => exact HST.out
    case round =>
      clear HST
      obtain ⟨k, g, cap, hk9, rfl, rfl, ho, hb⟩ := hrel
      by_cases hlt : k < t.kids.length
      · obtain ⟨b1, o1, rfl, hbl, hc1⟩ := (hk.below hb).get (by omega)
        obtain ⟨B1, e1, d0, d1, d2, d3, hk1⟩ := hc1 k hlt
        have hbx : Below wr.heap.size wr (wr.alloc (.cells #[.int .i64 (fmAt t.kids k).op, .int .i64 (fmAt t.kids k).fa, .int .i64 (fmAt t.kids k).fb, .slice B1 (fmAt t.kids k).kids.length e1] 34)) := (Below.refl _ _).alloc (Nat.le_refl _) _
        have hct := ih k hlt _ (wr.alloc (.cells #[.int .i64 (fmAt t.kids k).op, .int .i64 (fmAt t.kids k).fa, .int .i64 (fmAt t.kids k).fb, .slice B1 (fmAt t.kids k).kids.length e1] 34)) ⟨B1, e1, rfl, hk1.below hbx⟩
        have hnl := namesFm_len (fmAt t.kids k)
        have hki := HKI.out k hlt
        have hrt := HRT.out k
        have hil := insAll_len [] (W0 ++ rawFms (t.kids.take k))
        rw [List.length_append, List.length_nil] at hil
        have hil2 : (insAll [] (W0 ++ rawFms (t.kids.take k))).length ≤ 4194304 := by omega
        have hnl2 : (namesFm (fmAt t.kids k)).length ≤ 4194304 := by omega
        have hasc := asc_insAll [] (W0 ++ rawFms (t.kids.take k)) List.Pairwise.nil
        have hnx : Hid (insAll (insAll [] (W0 ++ rawFms (t.kids.take k))) (namesFm (fmAt t.kids k)) = insAll [] (W0 ++ rawFms (t.kids.take (k + 1)))) := Lib.hid (by rw [HNX.out k hlt, ← List.append_assoc]; exact (insAll_append _ _ _).symm)
        generalize hL2 : insAll [] (W0 ++ rawFms (t.kids.take (k + 1))) = L2 at hnx
        have HL2 := Lib.hid hL2
        clear hL2
        generalize insAll [] (W0 ++ rawFms (t.kids.take k)) = L1 at *
        generalize namesFm (fmAt t.kids k) = N1 at *
        generalize fmAt t.kids k = u at *
        have hs0 := hb.size
        have hoa := ho.alloc (.cells #[.int .i64 u.op, .int .i64 u.fa, .int .i64 u.fb, .slice B1 u.kids.length e1] 34)
        have hba := hb.alloc hb.size (.cells #[.int .i64 u.op, .int .i64 u.fa, .int .i64 u.fb, .slice B1 u.kids.length e1] 34)
        clear hc1
        go_wp2_with (go_at_call 15; refine hct.mono ?_; rintro e w4 ⟨g4, cap4, rfl, ho4, hb4⟩)
        have hob := own_below hoa hb4
        have hbb := hba.trans (hb4.mono hba.size)
        have hun := l6Union_any (some ⟨g, 0, none⟩) (some ⟨g4, 0, none⟩) cap cap4 L1 N1 w4 (ints_own hob) (fun h => by cases h) hasc (ints_own ho4) hil2 hnl2
        rw [hnx.out] at hun
        refine hun.mono ?_
        rintro e w5 ⟨g5, cap5, rfl, ho5, hb5⟩
        have hbc9 := hbb.trans (hb5.mono hbb.size)
        have ho6 := own_le ho5 hbb.size
        have HO6 := Lib.hid ho6
        clear hun hct hoa hob ho hb hba hbb hb4 hb5 ho4 ho5 ho6 hk1 d0 d1 d2 d3 hbx hasc
        go_wp2
        refine ⟨⟨k + 1, g5, cap5, by omega, by go_num, by rw [HL2.out], by rw [HL2.out]; exact HO6.out, hbc9⟩, ?_⟩
        simp only [intOf]
        omega
      · have e : k = t.kids.length := by omega
        subst e
        rw [List.take_length] at ho ⊢
        have hpost : InsPost w.heap.size (insAll [] (W0 ++ rawFms t.kids)) w (.returned (.slice (some ⟨g, 0, none⟩) (insAll [] (W0 ++ rawFms t.kids)).length cap)) wr := ⟨g, cap, rfl, ho, hb⟩
        clear ho hb hk hk3
        go_wp2
        go_ret
        exact hpost
  · have hop : (t.op == 2) = false := by simp [h2]
    have how : Hid (ownF t.op t.fb = []) := Lib.hid (by simp [ownF, h2])
    generalize ownF t.op t.fb = W0 at *
    clear h2
    have hi0' : Hid (insAll [] (W0 ++ rawFms (t.kids.take 0)) = []) := Lib.hid (by rw [how.out]; rfl)
    have HST : Hid (∃ (k g cap : Nat), k ≤ t.kids.length ∧ Value.int .i64 0 = .int .i64 k ∧ Value.slice (some ⟨w.heap.size + 1, 0, none⟩) 0 0 = .slice (some ⟨g, 0, none⟩) (insAll [] (W0 ++ rawFms (t.kids.take k))).length cap ∧ ((w.alloc (.cells #[.int .i64 t.op, .int .i64 t.fa, .int .i64 t.fb, .slice B t.kids.length e] 34)).alloc (.cells #[] 3)).ownsRow w.heap.size 3 1 (Value.slice (some ⟨w.heap.size + 1, 0, none⟩) 0 0) (insAll [] (W0 ++ rawFms (t.kids.take k))).length (icells (insAll [] (W0 ++ rawFms (t.kids.take k)))) ∧ Below w.heap.size w ((w.alloc (.cells #[.int .i64 t.op, .int .i64 t.fa, .int .i64 t.fb, .slice B t.kids.length e] 34)).alloc (.cells #[] 3))) := Lib.hid ⟨0, w.heap.size + 1, 0, Nat.zero_le _, rfl, by rw [hi0'.out]; rfl, by rw [hi0'.out]; exact ho0, hb1⟩
    have hk3 := hk.below hb1
    clear ho0 hb1 hi0'
    go_enter Try.func15, Try.ntmps15
    go_wp2
    go_loopw [3, 5, 18] (fun v3 _ i wr => ∃ (k g cap : Nat), k ≤ t.kids.length ∧ i = .int .i64 k ∧ v3 = .slice (some ⟨g, 0, none⟩) (insAll [] (W0 ++ rawFms (t.kids.take k))).length cap ∧ wr.ownsRow w.heap.size 3 1 v3 (insAll [] (W0 ++ rawFms (t.kids.take k))).length (icells (insAll [] (W0 ++ rawFms (t.kids.take k)))) ∧ Below w.heap.size w wr) (fun _ _ i _ => t.kids.length - (intOf i).toNat)
    case atStart => exact HST.out
    case round =>
      clear HST
      obtain ⟨k, g, cap, hk9, rfl, rfl, ho, hb⟩ := hrel
      by_cases hlt : k < t.kids.length
      · obtain ⟨b1, o1, rfl, hbl, hc1⟩ := (hk.below hb).get (by omega)
        obtain ⟨B1, e1, d0, d1, d2, d3, hk1⟩ := hc1 k hlt
        have hbx : Below wr.heap.size wr (wr.alloc (.cells #[.int .i64 (fmAt t.kids k).op, .int .i64 (fmAt t.kids k).fa, .int .i64 (fmAt t.kids k).fb, .slice B1 (fmAt t.kids k).kids.length e1] 34)) := (Below.refl _ _).alloc (Nat.le_refl _) _
        have hct := ih k hlt _ (wr.alloc (.cells #[.int .i64 (fmAt t.kids k).op, .int .i64 (fmAt t.kids k).fa, .int .i64 (fmAt t.kids k).fb, .slice B1 (fmAt t.kids k).kids.length e1] 34)) ⟨B1, e1, rfl, hk1.below hbx⟩
        have hnl := namesFm_len (fmAt t.kids k)
        have hki := HKI.out k hlt
        have hrt := HRT.out k
        have hil := insAll_len [] (W0 ++ rawFms (t.kids.take k))
        rw [List.length_append, List.length_nil] at hil
        have hil2 : (insAll [] (W0 ++ rawFms (t.kids.take k))).length ≤ 4194304 := by omega
        have hnl2 : (namesFm (fmAt t.kids k)).length ≤ 4194304 := by omega
        have hasc := asc_insAll [] (W0 ++ rawFms (t.kids.take k)) List.Pairwise.nil
        have hnx : Hid (insAll (insAll [] (W0 ++ rawFms (t.kids.take k))) (namesFm (fmAt t.kids k)) = insAll [] (W0 ++ rawFms (t.kids.take (k + 1)))) := Lib.hid (by rw [HNX.out k hlt, ← List.append_assoc]; exact (insAll_append _ _ _).symm)
        generalize hL2 : insAll [] (W0 ++ rawFms (t.kids.take (k + 1))) = L2 at hnx
        have HL2 := Lib.hid hL2
        clear hL2
        generalize insAll [] (W0 ++ rawFms (t.kids.take k)) = L1 at *
        generalize namesFm (fmAt t.kids k) = N1 at *
        generalize fmAt t.kids k = u at *
        have hs0 := hb.size
        have hoa := ho.alloc (.cells #[.int .i64 u.op, .int .i64 u.fa, .int .i64 u.fb, .slice B1 u.kids.length e1] 34)
        have hba := hb.alloc hb.size (.cells #[.int .i64 u.op, .int .i64 u.fa, .int .i64 u.fb, .slice B1 u.kids.length e1] 34)
        clear hc1
        go_wp2_with (go_at_call 15; refine hct.mono ?_; rintro e w4 ⟨g4, cap4, rfl, ho4, hb4⟩)
        have hob := own_below hoa hb4
        have hbb := hba.trans (hb4.mono hba.size)
        have hun := l6Union_any (some ⟨g, 0, none⟩) (some ⟨g4, 0, none⟩) cap cap4 L1 N1 w4 (ints_own hob) (fun h => by cases h) hasc (ints_own ho4) hil2 hnl2
        rw [hnx.out] at hun
        refine hun.mono ?_
        rintro e w5 ⟨g5, cap5, rfl, ho5, hb5⟩
        have hbc9 := hbb.trans (hb5.mono hbb.size)
        have ho6 := own_le ho5 hbb.size
        have HO6 := Lib.hid ho6
        clear hun hct hoa hob ho hb hba hbb hb4 hb5 ho4 ho5 ho6 hk1 d0 d1 d2 d3 hbx hasc
        go_wp2
        refine ⟨⟨k + 1, g5, cap5, by omega, by go_num, by rw [HL2.out], by rw [HL2.out]; exact HO6.out, hbc9⟩, ?_⟩
        simp only [intOf]
        omega
      · have e : k = t.kids.length := by omega
        subst e
        rw [List.take_length] at ho ⊢
        have hpost : InsPost w.heap.size (insAll [] (W0 ++ rawFms t.kids)) w (.returned (.slice (some ⟨g, 0, none⟩) (insAll [] (W0 ++ rawFms t.kids)).length cap)) wr := ⟨g, cap, rfl, ho, hb⟩
        clear ho hb hk hk3
        go_wp2
        go_ret
        exact hpost
end Go.Proofs.Ythjkogighppeaaa
end

section
namespace Go.Proofs.Ythjkogighppeaaa
open Go.RowKit Go.Sort
set_option linter.unusedVariables false

theorem l1Max_any (a b : Int) (w : World) :
    Calls Try.prog 40 #[.int .i64 a, .int .i64 b] w fun e w' => e = .returned (.int .i64 (max a b)) ∧ w = w' := by
  by_cases h : b < a
  · have hm : Hid (max a b = a) := Lib.hid (by omega)
    go_enter Try.func40, Try.ntmps40
    go_wp2
    go_ret
    exact ⟨int_end hm.out.symm, rfl⟩
  · have hm : Hid (max a b = b) := Lib.hid (by omega)
    go_enter Try.func40, Try.ntmps40
    go_wp2
    go_ret
    exact ⟨int_end hm.out.symm, rfl⟩

set_option maxRecDepth 100000 in
theorem own_one (w : World) : Own ((w.alloc (.cells #[] 3)).alloc (.cells #[.slice (some ⟨w.heap.size, 0, none⟩) 0 0] 26)) [w.heap.size + 1, w.heap.size] (.slice (some ⟨w.heap.size + 1, 0, none⟩) 1 1) (rowsMem [[]]) := by
  have h1 : (w.alloc (.cells #[] 3)).ownsRow 0 3 1 (.slice (some ⟨w.heap.size, 0, none⟩) 0 0) 0 [] := World.ownsRow_lit w #[] 0 (Nat.zero_le _) (by decide) rfl
  have h2 := World.ownsRow_lit (w.alloc (.cells #[] 3)) (e := 26) (size := 1) (base := 0) #[.slice (some ⟨w.heap.size, 0, none⟩) 0 0] 1 (Nat.zero_le _) (by decide) rfl
  rw [World.size_alloc] at h2
  have h3 : Own (w.alloc (.cells #[] 3)) [w.heap.size] (.slice (some ⟨w.heap.size, 0, none⟩) 0 0) (intMem []) := .row rfl h1 .nil (by simp)
  have h4 := h3.keep ((Below.refl _ _).alloc (Nat.le_refl _) (.cells #[.slice (some ⟨w.heap.size, 0, none⟩) 0 0] 26))
  exact .row (S := [w.heap.size] ++ []) rfl h2 (.cons h4 .nil (fun b _ hb => by simp at hb)) (by simp)

theorem own_lit0 (w : World) : Own (w.alloc (.cells #[] 26)) [w.heap.size] (.slice (some ⟨w.heap.size, 0, none⟩) 0 0) (rowsMem []) :=
  .row rfl (World.ownsRow_lit w #[] 0 (Nat.zero_le _) (by decide) rfl) .nil (by simp)

set_option maxRecDepth 100000 in
set_option maxHeartbeats 8000000 in
theorem l6All_any (k : Nat) (hk : k ≤ 3) : ∀ (n : Nat), n ≤ 4 → ∀ (z : Int), z = n → ∀ (w : World), Calls Try.prog 16 #[.int .i64 z, .int .i64 k] w (RowsOut (allP n k) w) := by
  obtain ⟨i0, hi0, hq0, hq1, hq2⟩ := info_parts int_infoM
  have HSZ := Lib.hid hq2
  clear hq2
  intro n
  induction n with
  | zero =>
    intro _ z hz w
    have hz0 : (z == 0) = true := by simp [hz]
    have hpost : RowsOut (allP 0 k) w (.returned (.slice (some ⟨w.heap.size + 1, 0, none⟩) 1 1)) ((w.alloc (.cells #[] 3)).alloc (.cells #[.slice (some ⟨w.heap.size, 0, none⟩) 0 0] 26)) :=
      ⟨_, _, rfl, own_one w, fun b hb => by simp at hb; omega, ((Below.refl _ _).alloc (Nat.le_refl _) _).alloc (by simp) _⟩
    clear hz
    go_enter Try.func16, Try.ntmps16
    go_wp2
    go_ret
    exact hpost
  | succ n ih =>
    intro hn z hz w
    have hz0 : (z == 0) = false := by simp [hz]; omega
    have hb0 : Below w.heap.size w (w.alloc (.cells #[] 26)) := (Below.refl _ _).alloc (Nat.le_refl _) _
    have hca := ih (by omega) (z - 1) (by omega) (w.alloc (.cells #[] 26))
    have ho0 := own_lit0 w
    have hz4 : z ≤ 4 := by omega
    have hz1 : 1 ≤ z := by omega
    have HP := Lib.hid (show allP (n + 1) k = (allP n k).flatMap (extP k) from rfl)
    have hPl := allP_4096 (k := (k : Int)) (by omega) (by omega) (show n ≤ 4 by omega)
    have hFl := allP_4096 (k := (k : Int)) (by omega) (by omega) (show n + 1 ≤ 4 by omega)
    have HRW := Lib.hid (fun i (hi : i < (allP n k).length) => allP_row (k := (k : Int)) (by omega) hi)
    rw [HP.out] at hFl
    rw [HP.out]
    generalize allP n k = P at hca hPl hFl HRW ⊢
    clear ih hz HP
    go_enter Try.func16, Try.ntmps16
    go_wp2_with fail
    refine hca.mono ?_
    rintro e w1 ⟨v20, T, rfl, hT, hTb, hb1⟩
    obtain ⟨A, c, rfl⟩ := RowsIn.form (ls := P) hT.at_
    have ho1 := ho0.keep hb1
    have hbw := hb0.trans (hb1.mono hb0.size)
    have hTw : ∀ b ∈ T, w.heap.size + 1 ≤ b := fun b hb => by have := hTb b hb; rw [World.size_alloc] at this; exact this
    clear hca ho0 hb0 hb1 hTb
    go_wp2
    go_loopw [5, 7, 8, 10, 11, 22] (fun v5 _ _ _ _ i wr => ∃ (j : Nat) (U : List Nat), j ≤ P.length ∧ i = .int .i64 j ∧ Own wr U v5 (rowsMem ((P.take j).flatMap (extP k))) ∧ Own wr T (.slice A P.length c) (rowsMem P) ∧ (∀ b ∈ U, w.heap.size ≤ b ∧ b ∉ T) ∧ Below w.heap.size w wr) (fun _ _ _ _ _ i _ => P.length - (intOf i).toNat)
    case atStart => exact ⟨0, _, Nat.zero_le _, rfl, ho1, hT, fun b hb => by simp at hb; subst hb; exact ⟨Nat.le_refl _, fun h => by have := hTw _ h; omega⟩, hbw⟩
    case round =>
      clear ho1 hT hbw
      obtain ⟨j, U, hj, rfl, hoU, hT, hUT, hb⟩ := hrel
      by_cases hlt : j < P.length
      · obtain ⟨b1, o1, A1, c1, T1, rfl, hb1, d1, ⟨hA1, hz1'⟩, hT1, hs1⟩ := own_rowAt hT hlt
        obtain ⟨hpl, hpp⟩ := HRW.out j hlt
        have hpl4 : (rwAt P j).length ≤ 4 := by omega
        clear hpl
        have HFN := Lib.hid (flat_next (k := (k : Int)) hlt)
        have hft := flat_take_len (k := (k : Int)) P (j + 1)
        rw [HFN.out, List.length_append, extP_len] at hft
        have hnb := newN_pat hpp
        have hng := newN_ge (k : Int) (rwAt P j)
        have HEA := Lib.hid (extTo_all (k : Int) (rwAt P j))
        have HPA := Lib.hid (fun i (hi : i < (rwAt P j).length) => isPat_at hpp hi)
        have HNL := Lib.hid (fun i (hi : i ≤ (rwAt P j).length) => newN_le (k := (k : Int)) (p := rwAt P j) hi (fun q hq => (isPat_at hpp (by omega)).2))
        have HNX := Lib.hid (fun i (hi : i < (rwAt P j).length) => newN_next (k := (k : Int)) hi)
        have HTL : Hid ((rwAt P j).take (rwAt P j).length = rwAt P j) := Lib.hid (List.take_length ..)
        generalize rwAt P j = p at *
        generalize (P.take j).flatMap (extP k) = D at *
        clear hpp
        go_wp2
        go_loop [8, 10, 29] (fun mo _ i => ∃ q : Nat, q ≤ p.length ∧ i = .int .i64 q ∧ mo = .int .i64 (newN k (p.take q))) (fun _ _ i => p.length - (intOf i).toNat)
        case atStart => exact ⟨0, Nat.zero_le _, rfl, rfl⟩
        case round =>
          obtain ⟨q, hq, rfl, rfl⟩ := hrel
          by_cases hlq : q < p.length
          · obtain ⟨b2, o2, rfl, hb2, hc2⟩ := hA1 (by omega)
            have c2 := hc2 q hlq
            have hpa := HPA.out q hlq
            have hnl := HNL.out q (by omega)
            have hnx := Lib.hid (HNX.out q hlq)
            have hmx := l1Max_any (newN k (p.take q)) (itAt p q + 1) wr
            generalize itAt p q = y at c2 hpa hnx hmx
            generalize newN k (p.take q) = mm at hpa hnl hnx hmx
            clear hc2 hoU hT hT1 hUT hb HFN HEA HPA HNL HNX HTL d1
            go_wp2_with (go_at_call 40; refine hmx.mono ?_; rintro e w2 ⟨rfl, rfl⟩)
            clear hmx c2
            go_round
            case rel => exact ⟨q + 1, by omega, by go_num, by rw [hnx.out]⟩
            case measure => simp [intOf]; omega
          · have e : q = p.length := by omega
            subst e
            rw [HTL.out]
            generalize newN k p = mm at *
            clear HPA HNL HNX HTL
            go_wp2
            go_loopw [5, 11] (fun v5 i wr => ∃ (q : Nat) (U2 : List Nat), (q : Int) ≤ mm + 1 ∧ i = .int .i64 q ∧ Own wr U2 v5 (rowsMem (D ++ extTo p q)) ∧ Own wr T (.slice (some ⟨b1, o1, none⟩) P.length c) (rowsMem P) ∧ Own wr T1 (.slice A1 p.length c1) (intMem p) ∧ (∀ b ∈ U2, w.heap.size ≤ b ∧ b ∉ T) ∧ Below w.heap.size w wr) (fun _ i _ => (mm + 1).toNat - (intOf i).toNat)
            case atStart => exact ⟨0, U, by omega, rfl, by simpa [extTo] using hoU, hT, hT1, hUT, hb⟩
            case round =>
              clear hoU hT hT1 hUT hb d1 hA1 hz1'
              obtain ⟨q, U2, hq, rfl, hoU, hT, hT1, hUT, hb⟩ := hrel
              by_cases hlq : (q : Int) ≤ mm
              · obtain ⟨A9, c9, e9, hA9, hz9⟩ := own_intSlice hT1
                injection e9 with e91 _ e93
                subst e91; subst e93
                have hcp := l1Copy_ints A1 c1 p wr hA9 hz9 (by omega)
                have hel := Lib.hid (extTo_len p q)
                have hen := Lib.hid (extTo_next p q)
                have hpl2 : p.length ≤ 4 := by omega
                have hdl : (D ++ extTo p q).length + 1 ≤ 16777216 := by rw [List.length_append, hel.out]; omega
                have hsb := hb.size
                clear hA9 hz9
                go_wp2_with fail
                refine hcp.mono ?_
                rintro e w6 ⟨v6, rfl, ho6, hb6⟩
                have hbx : Below w6.heap.size w6 (w6.alloc (.cells #[.int .i64 (q : Int)] 3)) := (Below.refl _ _).alloc (Nat.le_refl _) _
                have ho6b := own_below ho6 hbx
                have hb7 := hb6.trans (hbx.mono hb6.size)
                have hcell : (w6.alloc (.cells #[.int .i64 (q : Int)] 3)).cell? ⟨w6.heap.size, 0, none⟩ = some (.int .i64 q) := by simp
                have HC := Lib.hid (one_cell hcell)
                have hs7 := hb7.size
                clear hcp ho6 hbx hcell hb6
                go_wp2_with (at_builtin; refine wpList_append_lies _ rfl (.tmp 45) (.tmp 47) 26 rfl wr.heap.size 3 i0 (.int .i64 0) 1 8 Try.underlying26 hi0 hq0 hq1 HSZ.out rfl (by decide) _ p.length _ rfl ho6b ⟨w6.heap.size, 0, none⟩ 1 1 [.int .i64 q] rfl rfl HC.out (int_one _) (by decide) ?c3 ?c4 ?c5 _ rfl ?_)
                case c3 => unfold maxLen; omega
                case c4 => omega
                case c5 => exact hs7
                intro g cap w8 ho8 hg8 _ _
                have hb8 : Below wr.heap.size wr w8 := below_own hb7 ho6b (Nat.le_refl _) hs7 hg8
                have ho8' : w8.ownsRow wr.heap.size 3 1 (.slice (some ⟨g, 0, none⟩) (p.length + 1) cap) (p ++ [(q : Int)]).length (icells (p ++ [(q : Int)])) := by
                  rw [icells_append, List.length_append]
                  exact ho8
                obtain ⟨R, hR, hRb, hRe⟩ := own_intRow ho8'
                clear hRe
                have hbx : Below w8.heap.size w8 (w8.alloc (.cells #[.slice (some ⟨g, 0, none⟩) (p.length + 1) cap] 26)) := (Below.refl _ _).alloc (Nat.le_refl _) _
                have hb9 := hb8.trans (hbx.mono hb8.size)
                have hR9 := hR.keep hbx
                have hU9 := hoU.keep hb9
                have hT9 := hT.keep hb9
                have hT19 := hT1.keep hb9
                have hbw9 := hb.trans (hb9.mono hb.size)
                have hs9 := hbw9.size
                have hcell : (w8.alloc (.cells #[.slice (some ⟨g, 0, none⟩) (p.length + 1) cap] 26)).cell? ⟨w8.heap.size, 0, none⟩ = some (.slice (some ⟨g, 0, none⟩) (p.length + 1) cap) := by simp
                have HC9 := Lib.hid (one_cell hcell)
                have hUl : ∀ b ∈ U2, b < wr.heap.size := fun b hb => hoU.lt b hb
                have hTl : ∀ b ∈ T, b < wr.heap.size := fun b hb => hT.lt b hb
                have hdis : ∀ b ∈ U2, b ∉ R := fun b h1 h2 => by have := hUl b h1; have := hRb b h2; omega
                have hs8 := hb8.size
                clear hcell hbx hR ho8 ho8' ho6b hg8 hb7 HC hoU hT hT1 hb9 hb8
                go_wp2_with (at_builtin; refine wpList_append_rows rfl (.tmp 43) (.tmp 49) rfl _ U2 _ rfl hU9 ⟨w8.heap.size, 0, none⟩ _ _ R rfl HC9.out hR9 hdis hdl ?_)
                intro g2 cap2 U3 w10 hU10 hU3 hon
                have hT10 := hT9.alike (w' := w10) fun b hbb => hon.block b (hT9.lt b hbb) (fun h => (hUT b h).2 hbb)
                have hT110 := hT19.alike (w' := w10) fun b hbb => hon.block b (hT19.lt b hbb) (fun h => (hUT b h).2 (hs1 b hbb))
                have hb10 := Only.below hbw9 hon hs9 (fun b h => (hUT b h).1)
                have hUT3 : ∀ b ∈ U3, w.heap.size ≤ b ∧ b ∉ T := fun b h => by
                  rcases hU3 b h with h1 | h1 | h1
                  · exact hUT b h1
                  · have h2 := hRb b h1
                    exact ⟨by omega, fun h3 => by have := hTl b h3; omega⟩
                  · have h1' : b = w8.heap.size + 1 := by simpa using h1
                    exact ⟨by omega, fun h3 => by have := hTl b h3; omega⟩
                have hlen : Hid ((D ++ extTo p q).length + 1 = (D ++ extTo p (q + 1)).length) := Lib.hid (by rw [List.length_append, List.length_append, hel.out, extTo_len]; omega)
                rw [← hen.out] at hU10
                clear hU9 hT9 hT19 hbw9 hon hU3 hUT hRb hR9 hdis HC9 hen hUl hTl
                go_wp2
                refine ⟨⟨q + 1, U3, by omega, by go_num, hU10, hT10, hT110, hUT3, hb10⟩, ?_⟩
                simp only [intOf]
                omega
              · have e : q = (mm + 1).toNat := by omega
                subst e
                rw [HEA.out, ← HFN.out] at hoU
                clear hT1 HEA HFN
                go_wp2
                refine ⟨⟨j + 1, U2, by omega, by go_num, hoU, hT, hUT, hb⟩, ?_⟩
                simp only [intOf]
                omega
      · have e : j = P.length := by omega
        subst e
        rw [List.take_length] at hoU
        have hpost : RowsOut (P.flatMap (extP k)) w (.returned u5) wr := ⟨_, U, rfl, hoU, fun b h => (hUT b h).1, hb⟩
        clear hoU hT hUT hb
        go_wp2
        go_ret
        exact hpost
end Go.Proofs.Ythjkogighppeaaa
end

section
namespace Go.Proofs.Ythjkogighppeaaa
open Go.RowKit Go.Sort
set_option linter.unusedVariables false

set_option maxRecDepth 100000 in
set_option maxHeartbeats 2000000 in
theorem l1Same_any (A B : Option Addr) (c d : Nat) (a b : List Int) (w : World) (hA : IntsAt w A a) (hB : IntsAt w B b) (hla : a.length ≤ 1099511627776) (hlb : b.length ≤ 1099511627776) :
    Calls Try.prog 60 #[.slice A a.length c, .slice B b.length d] w (BoolP (decide (a = b)) w) := by
  by_cases hl : a.length = b.length
  · have hl0 : ((a.length : Int) != (b.length : Int)) = false := by simp [hl]
    have HL := Lib.hid hl
    clear hl
    go_enter Try.func60, Try.ntmps60
    go_wp2
    go_loopw [5] (fun i wr => ∃ j : Nat, j ≤ a.length ∧ i = .int .i64 j ∧ Hid (∀ q, q < j → itAt a q = itAt b q) ∧ Below w.heap.size w wr) (fun i _ => a.length - (intOf i).toNat)
    case atStart => exact ⟨0, Nat.zero_le _, rfl, fun q hq => absurd hq (by omega), Below.refl _ _⟩
    case round =>
      obtain ⟨j, hj, rfl, hq, hb⟩ := hrel
      by_cases hlt : j < a.length
      · obtain ⟨b1, o1, rfl, hb1, hc1⟩ := hA (by omega)
        obtain ⟨b2, o2, rfl, hb2, hc2⟩ := hB (by have := HL.out; omega)
        have hltb : j < b.length := by have := HL.out; omega
        have c1 := hc1 j hlt
        have c2 := hc2 j hltb
        rw [← hb.cell (p := ⟨b1, _, none⟩) hb1] at c1
        rw [← hb.cell (p := ⟨b2, _, none⟩) hb2] at c2
        have q1 := fun d os => cell_regrown c1 d os
        have q2 := fun d os => cell_regrown c2 d os
        have hno := Lib.hid (fun (h : ¬ itAt a j = itAt b j) => idiffer_at (xs := a) (ys := b) j h)
        have hok := Lib.hid (fun (h : itAt a j = itAt b j) (q : Nat) (hq2 : q < j + 1) => (by
          by_cases e : q = j
          · subst e; exact h
          · exact hq.out q (by omega) : itAt a q = itAt b q))
        generalize itAt a j = x at q1 hno hok
        generalize itAt b j = y at q2 hno hok
        clear hc1 hc2 hA hB hq c1 c2
        by_cases hxy : x = y
        · have hn := Lib.hid (hok.out hxy)
          have he : (x != y) = false := by simp [hxy]
          clear hno hok hxy
          go_wp2
          refine wp_region_quiet_below (by kernel_rfl) (by kernel_rfl) ?_
          repeat (any_goals (first | go_big_quiet_step (fail) | quiet_step (fail)))
          refine wpQuiet_nil ?_
          intro _ hw'
          obtain ⟨⟨dq, osq⟩, hw''⟩ := hw'
          subst hw''
          have hb3 := hb.trans ((below_regrown wr dq osq).mono hb.size)
          generalize grow (redrawn wr dq) osq = w2 at hb3 ⊢
          clear hb q1 q2
          go_wp2
          refine ⟨⟨j + 1, by omega, by go_num, hn, hb3⟩, ?_⟩
          simp only [intOf]
          omega
        · have hn := Lib.hid (hno.out hxy)
          have he : (x != y) = true := by simp [hxy]
          clear hno hok hxy
          go_wp2
          refine wp_region_quiet_below (by kernel_rfl) (by kernel_rfl) ?_
          repeat (any_goals (first | go_big_quiet_step (fail) | quiet_step (fail)))
          refine wpQuiet_nil ?_
          intro _ hw'
          obtain ⟨⟨dq, osq⟩, hw''⟩ := hw'
          subst hw''
          have hb3 := hb.trans ((below_regrown wr dq osq).mono hb.size)
          generalize grow (redrawn wr dq) osq = w2 at hb3 ⊢
          clear hb q1 q2
          go_wp2
          go_ret
          exact ⟨bool_end hn.out.symm, hb3⟩
      · have hn : Hid (decide (a = b) = true) := Lib.hid (by
          rw [decide_eq_true_eq]
          refine List.ext_getElem HL.out fun i h1 h2 => ?_
          have h3 := hq.out i (by omega)
          rwa [itAt_get _ _ h1, itAt_get _ _ h2] at h3)
        clear hq hA hB
        go_wp2
        go_ret
        exact ⟨bool_end hn.out.symm, hb⟩
  · have hl0 : ((a.length : Int) != (b.length : Int)) = true := by simp; omega
    have hn : Hid (decide (a = b) = false) := Lib.hid (decide_eq_false (fun e => hl (by rw [e])))
    clear hA hB hl
    go_enter Try.func60, Try.ntmps60
    go_wp2
    go_ret
    exact ⟨bool_end hn.out.symm, Below.refl _ _⟩

set_option maxRecDepth 100000 in
set_option maxHeartbeats 2000000 in
theorem l6There_any (A B : Option Addr) (c d : Nat) (ls : List (List Int)) (p : List Int) (w : World) (hA : RowsIn w (.slice A ls.length c) ls) (hB : IntsAt w B p) (hf : FitR ls) (hp : p.length ≤ 1099511627776) :
    Calls Try.prog 43 #[.slice A ls.length c, .slice B p.length d] w (BoolP (thereB ls p) w) := by
  obtain ⟨hll, hrl⟩ := hf
  go_enter Try.func43, Try.ntmps43
  go_wp2
  go_loopw [6, 9] (fun _ i wr => ∃ j : Nat, j ≤ ls.length ∧ i = .int .i64 j ∧ Hid (∀ q, q < j → ¬ rwAt ls q = p) ∧ Below w.heap.size w wr) (fun _ i _ => ls.length - (intOf i).toNat)
  case atStart => exact ⟨0, Nat.zero_le _, rfl, fun q hq => absurd hq (by omega), Below.refl _ _⟩
  case round =>
    obtain ⟨j, hj, rfl, hq, hb⟩ := hrel
    by_cases hlt : j < ls.length
    · obtain ⟨b1, o1, rfl, hb1, hc1⟩ := (hA.below hb).get (by omega)
      obtain ⟨A1, c1, d1, hA1⟩ := hc1 j hlt
      have hsm := l1Same_any A1 B c1 d (rwAt ls j) p wr hA1 (hB.below hb) (by have := hrl j hlt; omega) hp
      have hno := Lib.hid (fun (h : ¬ rwAt ls j = p) (q : Nat) (hq2 : q < j + 1) => (by
        by_cases e : q = j
        · subst e; exact h
        · exact hq.out q (by omega) : ¬ rwAt ls q = p))
      have hyes := Lib.hid (fun (h : rwAt ls j = p) => there_yes hlt h)
      by_cases he : rwAt ls j = p
      · have hn := Lib.hid (hyes.out he)
        rw [decide_eq_true he] at hsm
        clear hno hyes he hc1 hA1 hA hB hq
        generalize (rwAt ls j).length = rl at *
        go_wp2_with (go_at_call 60; refine hsm.mono ?_; rintro e w2 ⟨rfl, hb2⟩; have hb3 := hb.trans (hb2.mono hb.size))
        clear hsm d1 hb hb2
        go_ret
        exact ⟨bool_end hn.out.symm, hb3⟩
      · have hn := Lib.hid (hno.out he)
        rw [decide_eq_false he] at hsm
        clear hno hyes he hc1 hA1 hA hB hq
        generalize (rwAt ls j).length = rl at *
        go_wp2_with (go_at_call 60; refine hsm.mono ?_; rintro e w2 ⟨rfl, hb2⟩; have hb3 := hb.trans (hb2.mono hb.size))
        clear hsm d1 hb hb2
        refine ⟨⟨j + 1, by omega, by go_num, hn, hb3⟩, ?_⟩
        simp only [intOf]
        omega
    · have hn := Lib.hid (there_no (ls := ls) (p := p) fun i hi => hq.out i (by omega))
      clear hq hA hB
      go_wp2
      go_ret
      exact ⟨bool_end hn.out.symm, hb⟩

end Go.Proofs.Ythjkogighppeaaa
end

section
namespace Go.Proofs.Ythjkogighppeaaa
open Go.RowKit
set_option linter.unusedVariables false

theorem ownL_rows {w : World} : ∀ {ls : List (List Int)} {S : List Nat} {xs : List Value}, OwnL w S xs (encR ls) →
    ∃ T : Nat → List Nat, (∀ j, j < ls.length → ∃ u, xs[j]? = some u ∧ Own w (T j) u (intMem (rwAt ls j))) ∧ (∀ j, ∀ b ∈ T j, b ∈ S) ∧ ∀ j q, j ≠ q → ∀ b ∈ T j, b ∉ T q
  | [], S, xs, _ => ⟨fun _ => [], fun j h => by simp at h, fun _ b h => by simp at h, fun _ _ _ b h => by simp at h⟩
  | l :: r, S, xs, h => by
    have h' : OwnL w S xs (intMem l :: encR r) := h
    cases h' with
    | cons h0 k hd =>
      rename_i v vs S0 T0
      obtain ⟨T, h1, h2, h3⟩ := ownL_rows k
      refine ⟨fun j => match j with | 0 => S0 | j + 1 => T j, fun j hj => ?_, fun j b hb => ?_, fun j q hne b hb => ?_⟩
      · cases j with
        | zero => exact ⟨v, rfl, h0⟩
        | succ j =>
          obtain ⟨u, hu, ho⟩ := h1 j (by simpa using hj)
          exact ⟨u, by simpa using hu, ho⟩
      · cases j with
        | zero => exact List.mem_append_left _ hb
        | succ j => exact List.mem_append_right _ (h2 j b hb)
      · cases j with
        | zero =>
          cases q with
          | zero => exact absurd rfl hne
          | succ q => exact fun hq => hd b hb (h2 q b hq)
        | succ j =>
          cases q with
          | zero => exact fun hq => hd b hq (h2 j b hb)
          | succ q => exact h3 j q (fun e => hne (by rw [e])) b hb

/-- Rows of which the first i have been handed on: the cells that name them, and what each later one owns. -/
structure Left (w : World) (P : List (List Int)) (g off : Nat) (u : Nat → Value) (T : Nat → List Nat) (i : Nat) : Prop where
  lt : g < w.heap.size
  cell : ∀ j, j < P.length → w.cell? ⟨g, off + j, none⟩ = some (u j)
  own : ∀ j, i ≤ j → j < P.length → Own w (T j) (u j) (intMem (rwAt P j))
  dis : ∀ j q, j ≠ q → ∀ b ∈ T j, b ∉ T q
  hd : ∀ j, g ∉ T j

theorem left_of {w : World} {S : List Nat} {v : Value} {P : List (List Int)} (h : Own w S v (rowsMem P)) (hp : 0 < P.length) :
    ∃ g off c u T, v = .slice (some ⟨g, off, none⟩) P.length c ∧ Left w P g off u T 0 ∧ (∀ j, ∀ b ∈ T j, b ∈ S) ∧ g ∈ S := by
  obtain ⟨xs, S', hrow, hL, rfl, hn⟩ := own_split h
  obtain ⟨T, h1, h2, h3⟩ := ownL_rows hL
  rcases hrow.2 with ⟨_, h0⟩ | ⟨g, cap, cur, rfl, _⟩
  · omega
  · have hg := hn g rfl
    refine ⟨g, 0, cap, fun j => xs.getD j undef, T, rfl, ⟨(hrow.lt g rfl).2, fun j hj => ?_, fun j _ hj => ?_, h3, fun j hm => hg (h2 j g hm)⟩, fun j b hb => List.mem_append_right _ (h2 j b hb), by simp [Value.ownBlock]⟩
    · obtain ⟨u, hu, _⟩ := h1 j hj
      rw [Nat.zero_add, hrow.cellAt j (by omega), hu]
      simp [List.getD_eq_getElem?_getD, hu]
    · obtain ⟨u, hu, ho⟩ := h1 j hj
      simpa [List.getD_eq_getElem?_getD, hu] using ho

theorem Left.next {w : World} {P : List (List Int)} {g off : Nat} {u : Nat → Value} {T : Nat → List Nat} {i : Nat} (h : Left w P g off u T i) : Left w P g off u T (i + 1) :=
  ⟨h.lt, h.cell, fun j hi hj => h.own j (by omega) hj, h.dis, h.hd⟩
theorem Left.only {w w' : World} {P : List (List Int)} {g off : Nat} {u : Nat → Value} {T : Nat → List Nat} {i : Nat} {U : List Nat} (h : Left w P g off u T i) (hon : Only U w w') (hg : g ∉ U) (hT : ∀ j, i ≤ j → j < P.length → ∀ b ∈ T j, b ∉ U) : Left w' P g off u T i :=
  ⟨Nat.lt_of_lt_of_le h.lt hon.size, fun j hj => by
    have hb := hon.block g h.lt hg
    have := h.cell j hj
    unfold World.cell? at this ⊢
    simp only at this ⊢
    rw [hb]; exact this,
   fun j hi hj => (h.own j hi hj).alike fun b hb => hon.block b ((h.own j hi hj).lt b hb) (hT j hi hj b hb), h.dis, h.hd⟩
theorem Left.below {w w' : World} {P : List (List Int)} {g off : Nat} {u : Nat → Value} {T : Nat → List Nat} {i : Nat} (h : Left w P g off u T i) (hb : Below w.heap.size w w') : Left w' P g off u T i :=
  ⟨Nat.lt_of_lt_of_le h.lt hb.size, fun j hj => (hb.cell (p := ⟨g, off + j, none⟩) h.lt).trans (h.cell j hj), fun j hi hj => (h.own j hi hj).keep hb, h.dis, h.hd⟩
/-- The next row. -/
theorem Left.row {w : World} {P : List (List Int)} {g off : Nat} {u : Nat → Value} {T : Nat → List Nat} {i : Nat} (h : Left w P g off u T i) (hi : i < P.length) :
    ∃ A c, u i = .slice A (rwAt P i).length c ∧ ConstAtR w A c (rwAt P i) ∧ w.cell? ⟨g, off + i, none⟩ = some (.slice A (rwAt P i).length c) ∧ Own w (T i) (.slice A (rwAt P i).length c) (intMem (rwAt P i)) := by
  have ho := h.own i (Nat.le_refl _) hi
  obtain ⟨A, c, e, hA⟩ := own_intSlice ho
  exact ⟨A, c, e, hA, by rw [h.cell i hi, e], by rw [← e]; exact ho⟩
theorem filter_nextL {P : List (List Int)} {f : List Int → Bool} {i : Nat} (h : i < P.length) : (P.take (i + 1)).filter f = if f (rwAt P i) then (P.take i).filter f ++ [rwAt P i] else (P.take i).filter f := by
  rw [rw_take_next h, List.filter_append]
  by_cases hf : f (rwAt P i) = true
  · simp [hf]
  · simp [hf]
theorem filter_yes {P : List (List Int)} {f : List Int → Bool} {i : Nat} (h : i < P.length) (hf : f (rwAt P i) = true) : (P.take (i + 1)).filter f = (P.take i).filter f ++ [rwAt P i] := by rw [filter_nextL h, if_pos hf]
theorem filter_no {P : List (List Int)} {f : List Int → Bool} {i : Nat} (h : i < P.length) (hf : f (rwAt P i) = false) : (P.take (i + 1)).filter f = (P.take i).filter f := by rw [filter_nextL h, hf]; rfl
theorem filter_take_le (P : List (List Int)) (f : List Int → Bool) (i : Nat) : ((P.take i).filter f).length ≤ P.length := by
  have h1 := List.length_filter_le f (P.take i)
  rw [List.length_take] at h1
  omega
end Go.Proofs.Ythjkogighppeaaa
end

section
namespace Go.Proofs.Ythjkogighppeaaa
open Go.RowKit Go.Sort
set_option linter.unusedVariables false

theorem allP_pos {k : Int} (hk : 0 ≤ k) : ∀ w, 0 < (allP w k).length
  | 0 => by simp [allP]
  | w + 1 => by
    have h1 := allP_pos hk w
    obtain ⟨p, hp⟩ : ∃ p, p ∈ allP w k := ⟨_, List.getElem_mem h1⟩
    have hx : p ++ [0] ∈ extP k p := by
      unfold extP
      rw [List.mem_map]
      have := newN_ge k p
      exact ⟨0, List.mem_range.2 (by omega), rfl⟩
    have hm : p ++ [0] ∈ allP (w + 1) k := List.mem_flatMap.2 ⟨p, hp, hx⟩
    exact List.length_pos_of_mem hm

set_option maxRecDepth 100000 in
set_option maxHeartbeats 8000000 in
theorem l6Those_any (n : Nat) (hn : n ≤ 4) (cs : List Int) (hcs : cs.length ≤ 3) (L : List (List Int)) (hf : FitR L) (A B : Option Addr) (c d : Nat) (w : World) (hA : ConstAt w A c cs) (hB : RowsIn w (.slice B L.length d) L) :
    Calls Try.prog 19 #[.int .i64 (n : Int), .slice A cs.length c, .slice B L.length d] w (OrbOut n cs (thoseL n cs.length L) w) := by
  have hb0 : Below w.heap.size w (w.alloc (.cells #[.int .i64 0, .slice none 0 0, .slice none 0 0] 29)) := (Below.refl _ _).alloc (Nat.le_refl _) _
  have hr0 := heap_alloc_new w (.cells #[.int .i64 0, .slice none 0 0, .slice none 0 0] 29)
  have hsz0 : (w.alloc (.cells #[.int .i64 0, .slice none 0 0, .slice none 0 0] 29)).heap.size = w.heap.size + 1 := by simp
  have hcp := l1Copy_ints A c cs (w.alloc (.cells #[.int .i64 0, .slice none 0 0, .slice none 0 0] 29)) (hA.below hb0).1 hA.2 (by omega)
  have HS0 := Lib.hid hsz0
  have HR0 := Lib.hid hr0
  have HB0 := Lib.hid hb0
  have HB := Lib.hid hB
  clear hb0 hr0 hsz0 hB hA
  go_enter Try.func19, Try.ntmps19
  go_wp2_with fail
  refine hcp.mono ?_
  rintro e w1 ⟨v1, rfl, ho1, hb1⟩
  obtain ⟨S1, hS1, hS1b, _⟩ := own_intRow ho1
  obtain ⟨A1, c1, rfl, _⟩ := at_intRow hS1.at_
  rw [HS0.out] at hS1b
  have hz1 : w.heap.size + 1 ≤ w1.heap.size := by have := hb1.size; rw [HS0.out] at this; exact this
  have r1 := (hb1.block w.heap.size (by rw [HS0.out]; omega)).trans HR0.out
  have hbw1 := HB0.out.trans (hb1.mono HB0.out.size)
  have hbx : Below w1.heap.size w1 (w1.alloc (.cells #[.int .i64 (n : Int), .slice A1 cs.length c1, .slice none 0 0] 29)) := (Below.refl _ _).alloc (Nat.le_refl _) _
  have r2 := (hbx.block w.heap.size (OrbK.box_lt r1)).trans r1
  have o2 := heap_alloc_new w1 (.cells #[.int .i64 (n : Int), .slice A1 cs.length c1, .slice none 0 0] 29)
  have hS2 := hS1.keep hbx
  have hbw2 := hbw1.trans (hbx.mono hbw1.size)
  have hz2 : (w1.alloc (.cells #[.int .i64 (n : Int), .slice A1 cs.length c1, .slice none 0 0] 29)).heap.size = w1.heap.size + 1 := by simp
  have hS1l : ∀ b ∈ S1, b < w1.heap.size := fun b hb => hS1.lt b hb
  have hal := l6All_any cs.length hcs n hn n rfl (w1.alloc (.cells #[.int .i64 (n : Int), .slice A1 cs.length c1, .slice none 0 0] 29))
  have HZ2 := Lib.hid hz2
  have HR2 := Lib.hid r2
  have HO2 := Lib.hid o2
  have HS2 := Lib.hid hS2
  have HBW := Lib.hid hbw2
  have HPL := Lib.hid (allP_pos (k := (cs.length : Int)) (by omega) n)
  have HPM := Lib.hid (allP_4096 (k := (cs.length : Int)) (by omega) (by omega) hn)
  have HRW := Lib.hid (fun i (hi : i < (allP n cs.length).length) => (allP_row (k := (cs.length : Int)) (by omega) hi).1)
  have HTH : Hid (thoseL n cs.length L = (allP n cs.length).filter fun p => thereB L p) := Lib.hid rfl
  generalize allP n cs.length = P at hal HPL HPM HRW HTH
  clear hcp ho1 hb1 hS1 r1 hbw1 hbx r2 o2 hS2 hbw2 hz2 HS0 HR0 HB0
  go_wp2_with fail
  refine hal.mono ?_
  rintro e w3 ⟨v3, S3, rfl, hS3, hS3b, hb3⟩
  rw [HZ2.out] at hS3b
  obtain ⟨g, off, cg, u, T, rfl, hleft, hTS, hgS⟩ := left_of hS3 HPL.out
  have hg0 := hS3b g hgS
  have o3 := (hb3.block w1.heap.size (OrbK.box_lt HO2.out)).trans HO2.out
  have r3 := (hb3.block w.heap.size (OrbK.box_lt HR2.out)).trans HR2.out
  have hS4 := HS2.out.keep hb3
  have hbw3 := HBW.out.trans (hb3.mono HBW.out.size)
  have hTb : ∀ j, ∀ b ∈ T j, w1.heap.size + 1 ≤ b := fun j b hb => hS3b b (hTS j b hb)
  have hBw : w.heap.size + 1 ≤ w1.heap.size := hz1
  have hTl : ∀ j, ∀ b ∈ T j, b < w3.heap.size := fun j b hb => hS3.lt b (hTS j b hb)
  clear hal hS3 hS3b hTS hgS HZ2 HR2 HO2 HS2 HBW hb3 hz1
  have o9 := Lib.hid o3
  have r9 := Lib.hid r3
  have ho0 : Own w3 [] (.slice none 0 0) (rowsMem ((P.take 0).filter fun p => thereB L p)) := by simp only [List.take_zero, List.filter_nil]; exact .nil _ _
  have HTL := Lib.hid hTl
  have HTB := Lib.hid hTb
  have HS1 := Lib.hid hS1l
  have HS1b := Lib.hid hS1b
  clear o3 r3 hTl hTb hS1l hS1b
  go_wp2
  go_loopw [9, 19] (fun _ i wr => ∃ (j : Nat) (U : List Nat) (A2 : Option Addr) (m2 c2 : Nat), j ≤ P.length ∧ i = .int .i64 j ∧ Hid (m2 = ((P.take j).filter fun p => thereB L p).length) ∧ Hid (wr.heap[w1.heap.size]? = some (.cells #[.int .i64 (n : Int), .slice A1 cs.length c1, .slice A2 m2 c2] 29 (0, 0))) ∧ Hid (wr.heap[w.heap.size]? = some (.cells #[.int .i64 0, .slice none 0 0, .slice none 0 0] 29 (0, 0))) ∧
    Hid (Own wr U (.slice A2 m2 c2) (rowsMem ((P.take j).filter fun p => thereB L p))) ∧ Hid (Own wr S1 (.slice A1 cs.length c1) (intMem cs)) ∧ Hid (Left wr P g off u T j) ∧ Hid (∀ b ∈ U, w1.heap.size + 1 ≤ b ∧ b ≠ g ∧ ∀ q, j ≤ q → b ∉ T q) ∧ Below w.heap.size w wr ∧ w3.heap.size ≤ wr.heap.size) (fun _ i _ => P.length - (intOf i).toNat)
  case atStart => exact ⟨0, [], none, 0, 0, Nat.zero_le _, rfl, Lib.hid (by simp), o9, r9, Lib.hid ho0, Lib.hid hS4, Lib.hid hleft, Lib.hid (fun b hb => by simp at hb), hbw3, Nat.le_refl _⟩
  case round =>
    clear o9 r9 ho0 hS4 hleft hbw3
    obtain ⟨j, U, A2, m2, c2, hj, rfl, hm2, ho, hr, hU, hK, hLf, hUb, hb, hsw⟩ := hrel
    have hjb : j ≤ 4096 := Nat.le_trans hj HPM.out
    have hPb : P.length ≤ 4096 := HPM.out
    by_cases hlt : j < P.length
    · obtain ⟨A3, c3, hu3, hA3, hc3, hO3⟩ := hLf.out.row hlt
      have hrl : (rwAt P j).length ≤ 4 := by have := HRW.out j hlt; omega
      have hfy := Lib.hid (fun h => filter_yes (f := fun p => thereB L p) hlt h)
      have hfn := Lib.hid (fun h => filter_no (f := fun p => thereB L p) hlt h)
      have hfl := filter_take_le P (fun p => thereB L p) j
      have HPM2 := HPM.out
      have hth := l6There_any B A3 d c3 L (rwAt P j) wr (HB.out.below hb) hA3.1 hf (by omega)
      obtain ⟨b0, b1, b2⟩ := OrbK.row3 ho.out
      have HO3 := Lib.hid hO3
      rw [← hm2.out] at hfl
      have hm2l : m2 ≤ 4096 := by omega
      have HDT := Lib.hid (fun b (h1 : b ∈ U) => (hUb.out b h1).2.2 j (Nat.le_refl _))
      have HDJ := Lib.hid (fun q (h : j + 1 ≤ q) b (h1 : b ∈ T j) => hLf.out.dis j q (by omega) b h1)
      have HGJ := Lib.hid (hLf.out.hd j)
      have hgl := hLf.out.lt
      have HTJ := Lib.hid (HTB.out j)
      clear hA3 hu3 hO3 hfl HPM2
      generalize hFF : (P.take j).filter (fun p => thereB L p) = FF at hU hfy hfn hm2
      generalize hpp : rwAt P j = p at hrl hfy hfn hth hc3 HO3 ⊢
      clear hFF hpp
      by_cases hin : thereB L p = true
      · rw [hin] at hth
        have HNX := Lib.hid (hfy.out hin)
        clear hfy hfn hin
        go_wp2_with fail
        (with_reducible refine hth.mono ?_)
        rintro e w5 ⟨rfl, hb5⟩
        clear hth b0 b1 b2 hc3
        have o5 := (hb5.block (w1.heap.size) (OrbK.box_lt ho.out)).trans ho.out
        have r5 := (hb5.block w.heap.size (OrbK.box_lt hr.out)).trans hr.out
        have hbx : Below w5.heap.size w5 (w5.alloc (.cells #[.slice A3 p.length c3] 26)) := (Below.refl _ _).alloc (Nat.le_refl _) _
        have hb56 := hb5.trans (hbx.mono hb5.size)
        have hU6 := hU.out.keep hb56
        have hO6 := HO3.out.keep hb56
        have o6 := (hbx.block w1.heap.size (OrbK.box_lt o5)).trans o5
        have hcell : (w5.alloc (.cells #[.slice A3 p.length c3] 26)).cell? ⟨w5.heap.size, 0, none⟩ = some (.slice A3 p.length c3) := by simp
        have HC := Lib.hid (one_cell hcell)
        have HLF := Lib.hid (hLf.out.below hb56)
        have HK6 := Lib.hid (hK.out.keep hb56)
        have HR6 := Lib.hid ((hbx.block w.heap.size (OrbK.box_lt r5)).trans r5)
        have hbw6 := hb.trans (hb56.mono hb.size)
        have hs5 := hb5.size
        have hBxl := OrbK.box_lt ho.out
        have hdl : FF.length + 1 ≤ 16777216 := by rw [← hm2.out]; omega
        rw [hm2.out] at o5 o6 hU6
        obtain ⟨b0, b1, b2⟩ := OrbK.row3 o5
        clear hcell hbx ho hr hU hK hLf HO3 hb
        have HO6 := Lib.hid o6
        have HBW6 := Lib.hid hbw6
        have HO66 := Lib.hid hO6
        clear o5 r5 o6 hbw6 hb56 hb5 hO6
        go_wp2_with (at_builtin; refine wpList_append_rows rfl (.tmp 27) (.tmp 29) rfl _ U FF rfl hU6 ⟨w5.heap.size, 0, none⟩ _ p (T j) rfl HC.out HO66.out HDT.out hdl ?_)
        intro g2 cap2 U3 w7 hU7 hU3 hon
        have o7 := (hon.block w1.heap.size (OrbK.box_lt HO6.out) (fun h => by have := (hUb.out _ h).1; omega)).trans HO6.out
        have r7 := (hon.block w.heap.size (OrbK.box_lt HR6.out) (fun h => by have := (hUb.out _ h).1; omega)).trans HR6.out
        have hK7 := HK6.out.alike (w' := w7) fun b hbb => hon.block b (HK6.out.lt b hbb) (fun h => by have h1 := (hUb.out _ h).1; have h2 := HS1.out b hbb; omega)
        have hLf7 := HLF.out.next.only hon (fun h => (hUb.out _ h).2.1 rfl) (fun q hq _ b h1 h2 => (hUb.out b h2).2.2 q (by omega) h1)
        have hb7 := Only.below HBW6.out hon HBW6.out.size (fun b h => by have := (hUb.out _ h).1; omega)
        have hs7 : w5.heap.size + 1 ≤ w7.heap.size := by have := hon.size; rw [World.size_alloc] at this; exact this
        have hU3b : ∀ b ∈ U3, w1.heap.size + 1 ≤ b ∧ b ≠ g ∧ ∀ q, j + 1 ≤ q → b ∉ T q := fun b h => by
          rcases hU3 b h with h1 | h1 | h1
          · exact ⟨(hUb.out b h1).1, (hUb.out b h1).2.1, fun q hq => (hUb.out b h1).2.2 q (by omega)⟩
          · exact ⟨HTJ.out b h1, fun e => HGJ.out (e ▸ h1), fun q hq => HDJ.out q hq b h1⟩
          · (try rw [World.size_alloc] at h1)
            exact ⟨by omega, by omega, fun q _ hq => by have := HTL.out q b hq; omega⟩
        have o8 : (w7.setCell ⟨w1.heap.size, 2, none⟩ (.slice (some ⟨g2, 0, none⟩) (FF.length + 1) cap2)).heap[w1.heap.size]? = some (.cells #[.int .i64 (n : Int), .slice A1 cs.length c1, .slice (some ⟨g2, 0, none⟩) (FF.length + 1) cap2] 29 (0, 0)) := heap_setCell_same w7 w1.heap.size 2 _ _ (.slice (some ⟨g2, 0, none⟩) (FF.length + 1) cap2) o7
        have on8 : Only [w1.heap.size] w7 (w7.setCell ⟨w1.heap.size, 2, none⟩ (.slice (some ⟨g2, 0, none⟩) (FF.length + 1) cap2)) := (Only.refl _ _).set ⟨w1.heap.size, 2, none⟩ _ (by simp)
        have r8 := (on8.block w.heap.size (OrbK.box_lt r7) (by simp; omega)).trans r7
        have hU8 := hU7.alike (w' := w7.setCell ⟨w1.heap.size, 2, none⟩ (.slice (some ⟨g2, 0, none⟩) (FF.length + 1) cap2)) fun b hbb => on8.block b (hU7.lt b hbb) (by have := (hU3b b hbb).1; simp; omega)
        have hK8 := hK7.alike (w' := w7.setCell ⟨w1.heap.size, 2, none⟩ (.slice (some ⟨g2, 0, none⟩) (FF.length + 1) cap2)) fun b hbb => on8.block b (hK7.lt b hbb) (by have := HS1.out b hbb; simp; omega)
        have hLf8 := hLf7.only on8 (by simp; omega) (fun q _ _ b h1 => by have := HTB.out q b h1; simp; omega)
        have hb8 : Below w.heap.size w (w7.setCell ⟨w1.heap.size, 2, none⟩ (.slice (some ⟨g2, 0, none⟩) (FF.length + 1) cap2)) := hb7.setCell (p := ⟨w1.heap.size, 2, none⟩) (show w.heap.size ≤ w1.heap.size by omega) _
        have hs8 : w3.heap.size ≤ (w7.setCell ⟨w1.heap.size, 2, none⟩ (.slice (some ⟨g2, 0, none⟩) (FF.length + 1) cap2)).heap.size := by simp; omega
        obtain ⟨b0, b1, b2⟩ := OrbK.row3 o7
        have y2 := frozen_of_row _ _ 2 _ _ o7
        have hln : Hid (FF.length + 1 = ((P.take (j + 1)).filter fun p => thereB L p).length) := Lib.hid (by rw [HNX.out, List.length_append]; rfl)
        rw [← HNX.out] at hU8
        have O8 := Lib.hid o8
        have R8 := Lib.hid r8
        have U8 := Lib.hid hU8
        have K8 := Lib.hid hK8
        have L8 := Lib.hid hLf8
        have B3 := Lib.hid hU3b
        clear o7 r7 hU7 hU3 hK7 hLf7 hb7 o8 on8 r8 hU8 hK8 hLf8 hU3b hon HO6 HR6 HK6 HLF HBW6 HO66 HC hUb HNX hU6
        go_wp2
        refine ⟨⟨j + 1, U3, some ⟨g2, 0, none⟩, FF.length + 1, cap2, by omega, by go_num, hln, O8, R8, U8, K8, L8, B3, hb8, hs8⟩, ?_⟩
        simp only [intOf]
        omega
      · have hin' : thereB L p = false := by simpa using hin
        rw [hin'] at hth
        have HNX := Lib.hid (hfn.out hin')
        clear hfy hfn hin hin'
        go_wp2_with fail
        (with_reducible refine hth.mono ?_)
        rintro e w5 ⟨rfl, hb5⟩
        have o5 := Lib.hid ((hb5.block (w1.heap.size) (OrbK.box_lt ho.out)).trans ho.out)
        have r5 := Lib.hid ((hb5.block w.heap.size (OrbK.box_lt hr.out)).trans hr.out)
        have U5 := Lib.hid (hU.out.keep hb5)
        have K5 := Lib.hid (hK.out.keep hb5)
        have L5 := Lib.hid ((hLf.out.below hb5).next)
        have B5 : Hid (∀ b ∈ U, w1.heap.size + 1 ≤ b ∧ b ≠ g ∧ ∀ q, j + 1 ≤ q → b ∉ T q) := Lib.hid (fun b h1 => ⟨(hUb.out b h1).1, (hUb.out b h1).2.1, fun q hq => (hUb.out b h1).2.2 q (by omega)⟩)
        have hb7 := hb.trans (hb5.mono hb.size)
        have hs7 : w3.heap.size ≤ w5.heap.size := Nat.le_trans hsw hb5.size
        rw [← HNX.out] at U5 hm2
        clear hth b0 b1 b2 hc3 hb5 ho hr hU hK hLf hUb HNX HO3 hb hsw
        go_wp2
        refine ⟨⟨j + 1, U, A2, m2, c2, by omega, by go_num, hm2, o5, r5, U5, K5, L5, B5, hb7, hs7⟩, ?_⟩
        simp only [intOf]
        omega
    · have e : j = P.length := by omega
      subst e
      rw [List.take_length] at hU hm2
      have hUo := hU.out
      rw [hm2.out] at hUo
      have o5 := ho.out
      rw [hm2.out] at o5
      have r5 := hr.out
      have hKo := hK.out
      generalize P.filter (fun p => thereB L p) = R at hUo o5 HTH
      have hd : ∀ b ∈ S1, b ∉ U := fun b h1 h2 => by have h3 := HS1.out b h1; have h4 := (hUb.out b h2).1; omega
      have hL := orb_ownL (z := (n : Int)) hKo hUo hd
      have hLb : ∀ b ∈ S1 ++ (U ++ []), w.heap.size < b := fun b hb => by
        rw [List.append_nil] at hb
        rcases List.mem_append.1 hb with h | h
        · have := HS1b.out b h; omega
        · have := (hUb.out b h).1; omega
      have onF : Only [w.heap.size] wr (((wr.setCell ⟨w.heap.size, 0, none⟩ (.int .i64 (n : Int))).setCell ⟨w.heap.size, 1, none⟩ (.slice A1 cs.length c1)).setCell ⟨w.heap.size, 2, none⟩ (.slice A2 R.length c2)) := (((Only.refl _ _).set ⟨w.heap.size, 0, none⟩ _ (by simp)).set ⟨w.heap.size, 1, none⟩ _ (by simp)).set ⟨w.heap.size, 2, none⟩ _ (by simp)
      have hbF : Below w.heap.size w (((wr.setCell ⟨w.heap.size, 0, none⟩ (.int .i64 (n : Int))).setCell ⟨w.heap.size, 1, none⟩ (.slice A1 cs.length c1)).setCell ⟨w.heap.size, 2, none⟩ (.slice A2 R.length c2)) := ((hb.setCell (p := ⟨w.heap.size, 0, none⟩) (Nat.le_refl _) _).setCell (p := ⟨w.heap.size, 1, none⟩) (Nat.le_refl _) _).setCell (p := ⟨w.heap.size, 2, none⟩) (Nat.le_refl _) _
      have hLF := hL.alike (w' := (((wr.setCell ⟨w.heap.size, 0, none⟩ (.int .i64 (n : Int))).setCell ⟨w.heap.size, 1, none⟩ (.slice A1 cs.length c1)).setCell ⟨w.heap.size, 2, none⟩ (.slice A2 R.length c2))) fun bb hbb => onF.block bb (hL.lt bb hbb) (by have := hLb bb hbb; simp; omega)
      have hpost : OrbOut n cs (thoseL n cs.length L) w (.returned (.agg #[.int .i64 (n : Int), .slice A1 cs.length c1, .slice A2 R.length c2])) (((wr.setCell ⟨w.heap.size, 0, none⟩ (.int .i64 (n : Int))).setCell ⟨w.heap.size, 1, none⟩ (.slice A1 cs.length c1)).setCell ⟨w.heap.size, 2, none⟩ (.slice A2 R.length c2)) :=
        by rw [HTH.out]; exact ⟨A1, c1, A2, c2, _, rfl, hLF, fun b hb => by have := hLb b hb; omega, hbF⟩
      obtain ⟨x0, x1, x2⟩ := OrbK.row3 o5
      obtain ⟨s0, s1, s2⟩ := OrbK.row3 r5
      have z0 := frozen_of_row _ _ 0 _ _ r5
      have z1 := frozen_of_row _ _ 1 _ _ r5
      have z2 := frozen_of_row _ _ 2 _ _ r5
      clear hLF hL hLb hd hbF onF o5 r5 hUo hKo ho hr hU hK hLf hUb hb hm2
      go_wp2
      exact bodyPost_ret (v := .agg #[.int .i64 (n : Int), .slice A1 cs.length c1, .slice A2 R.length c2]) (by simp [results, Try.results19, go_sem, s0, s1, s2]) rfl hpost
end Go.Proofs.Ythjkogighppeaaa
end

section
namespace Go.Proofs.Ythjkogighppeaaa
open Go.RowKit Go.Sort
set_option linter.unusedVariables false

namespace DelR
/-- Rows that lie one behind the other, and stay where only their names are turned. -/
structure Rw (w : World) (P : List (List Int)) (g off : Nat) (u : Nat → Value) : Prop where
  lt : g < w.heap.size
  blk : ∃ cur, w.heap[g]? = some (.cells cur 26 (0, 0))
  cell : ∀ j, j < P.length → w.cell? ⟨g, off + j, none⟩ = some (u j)
  row : ∀ j, j < P.length → ∃ A c, u j = .slice A (rwAt P j).length c ∧ (A = none → c = 0) ∧ ∀ W, Only [g] w W → IntsAt W A (rwAt P j)
theorem rw_of {w : World} {S : List Nat} {v : Value} {P : List (List Int)} (h : Own w S v (rowsMem P)) (hp : 0 < P.length) : ∃ g off c u, v = .slice (some ⟨g, off, none⟩) P.length c ∧ Rw w P g off u ∧ g ∈ S := by
  obtain ⟨g, off, c, u, T, rfl, hl, hT, hg⟩ := left_of h hp
  refine ⟨g, off, c, u, rfl, ⟨hl.lt, ?_, hl.cell, fun j hj => ?_⟩, hg⟩
  · obtain ⟨xs, S', hrow, _⟩ := own_split h
    rcases hrow.2 with ⟨e, _⟩ | ⟨g', cap, cur, e, _, hc, _⟩
    · cases e
    · injection e with e1
      injection e1 with e1
      injection e1 with e1
      subst e1
      exact ⟨cur, hc⟩
  · have ho := hl.own j (Nat.zero_le _) hj
    obtain ⟨A, c', e, hA⟩ := at_intRow ho.at_
    refine ⟨A, c', e, fun en => ?_, fun W on => ?_⟩
    · rw [e, en] at ho
      exact own_nilcap ho
    · have ho' := ho.alike (w' := W) (fun b hb => on.block b (ho.lt b hb) (fun hm => by simp at hm; exact hl.hd j (hm ▸ hb)))
      obtain ⟨A2, c2, e2, hA2⟩ := at_intRow ho'.at_
      rw [e] at e2
      injection e2 with e3
      rw [e3]
      exact hA2
/-- What the function literal gives. -/
def PredC (del : List Int → Bool) (B : Nat) (w0 : World) (Vc Vf n : Nat) : Prop := ∀ (W : World) (A : Option Addr) (c : Nat) (l : List Int), Below B w0 W → l.length = n → IntsAt W A l → (A = none → c = 0) →
  Calls Try.prog 26 #[.slice A l.length c, .pointer (some ⟨Vc, 0, none⟩), .pointer (some ⟨Vf, 0, none⟩)] W (fun e w' => e = .returned (.bool (del l)) ∧ Below W.heap.size W w')
theorem filter_none {P : List (List Int)} {f : List Int → Bool} (h : ∀ j, j < P.length → f (rwAt P j) = false) : P.filter (fun l => !f l) = P := by
  rw [List.filter_eq_self]
  intro l hl
  obtain ⟨j, hj, rfl⟩ := List.getElem_of_mem hl
  rw [← rwAt_get P j hj, h j hj]
  rfl
theorem filter_upto {P : List (List Int)} {f : List Int → Bool} {k : Nat} (hk : k ≤ P.length) (h : ∀ j, j < k → f (rwAt P j) = false) : (P.take k).filter (fun l => !f l) = P.take k := by
  refine filter_none fun j hj => ?_
  rw [List.length_take] at hj
  have e : rwAt (P.take k) j = rwAt P j := by
    rw [rwAt_get _ j (by rw [List.length_take]; exact hj), rwAt_get P j (by omega)]
    simp
  rw [e]
  exact h j (by omega)
theorem rowsIn_of {w : World} {K : List (List Int)} {g off c : Nat} (hg : g < w.heap.size) (h : ∀ i, i < K.length → ∃ A c1, w.cell? ⟨g, off + i, none⟩ = some (.slice A (rwAt K i).length c1) ∧ IntsAt w A (rwAt K i)) : RowsIn w (.slice (some ⟨g, off, none⟩) K.length c) K := by
  unfold RowsIn rowsMem
  rcases Nat.eq_zero_or_pos K.length with h0 | h0
  · have e : K = [] := List.eq_nil_of_length_eq_zero h0
    subst e
    exact .nil _ _ _ _ (fun h => by simp at h)
  · have hx : ∃ xs : List Value, xs.length = K.length ∧ ∀ i, i < K.length → ∃ A c1, xs[i]? = some (.slice A (rwAt K i).length c1) ∧ w.cell? ⟨g, off + i, none⟩ = some (.slice A (rwAt K i).length c1) ∧ IntsAt w A (rwAt K i) := by
      refine ⟨(List.range K.length).map fun i => (w.cell? ⟨g, off + i, none⟩).getD undef, by simp, fun i hi => ?_⟩
      obtain ⟨A, c1, h1, h2⟩ := h i hi
      exact ⟨A, c1, by simp [hi, h1], h1, h2⟩
    obtain ⟨xs, hxl, hxs⟩ := hx
    refine .row (xs := xs) h0 (by rw [encR_len, Nat.mul_one]) hg (fun j v hj => ?_) ?_
    · have hlt : j < K.length := by
        rw [← hxl]
        exact (List.getElem?_eq_some_iff.1 hj).1
      obtain ⟨A, c1, h1, h2, _⟩ := hxs j hlt
      rw [h1] at hj
      injection hj with hj
      rw [h2, hj]
    · have key : ∀ (L : List (List Int)) (ys : List Value), ys.length = L.length → (∀ i, i < L.length → ∃ A c1, ys[i]? = some (.slice A (rwAt L i).length c1) ∧ IntsAt w A (rwAt L i)) → AtL w ys (encR L) := by
        intro L
        induction L with
        | nil => intro ys hl _; have e : ys = [] := List.eq_nil_of_length_eq_zero (by simpa using hl); subst e; exact .nil
        | cons l r ih =>
          intro ys hl hy
          cases ys with
          | nil => simp at hl
          | cons y ys =>
            obtain ⟨A, c1, h1, h2⟩ := hy 0 (by simp)
            simp only [List.getElem?_cons_zero, Option.some.injEq] at h1
            refine .cons ?_ (ih ys (by simpa using hl) fun i hi => ?_)
            · rw [h1]
              exact int_atRow h2
            · obtain ⟨A2, c2, h3, h4⟩ := hy (i + 1) (by simp; omega)
              exact ⟨A2, c2, (by simpa using h3 : ys[i]? = some (.slice A2 (rwAt (l :: r) (i + 1)).length c2)), h4⟩
      exact key K xs hxl fun i hi => by
        obtain ⟨A, c1, h1, _, h3⟩ := hxs i hi
        exact ⟨A, c1, h1, h3⟩
end DelR

set_option maxRecDepth 100000 in
set_option maxHeartbeats 4000000 in
theorem indexRows_any (del : List Int → Bool) (B Vc Vf n : Nat) (w0 w : World) (hP : DelR.PredC del B w0 Vc Vf n) (hB : Below B w0 w) (hBs : B ≤ w.heap.size) (P : List (List Int)) (g off cap : Nat) (u : Nat → Value) (hR : DelR.Rw w P g off u) (hl : P.length ≤ 1000000) (hn : ∀ j, j < P.length → (rwAt P j).length = n) :
    Calls Try.prog 52 #[.slice (some ⟨g, off, none⟩) P.length cap, .func (.func 26) #[] #[.pointer (some ⟨Vc, 0, none⟩), .pointer (some ⟨Vf, 0, none⟩)]] w fun e w' => ((∃ k : Nat, k < P.length ∧ e = .returned (.int .i64 k) ∧ (∀ j, j < k → del (rwAt P j) = false) ∧ del (rwAt P k) = true) ∨ (e = .returned (.int .i64 (-1)) ∧ ∀ j, j < P.length → del (rwAt P j) = false)) ∧ Below w.heap.size w w' := by
  go_enter Try.func52, Try.ntmps52
  go_wp2
  go_loopw [5, 8] (fun _ i wr => ∃ k : Nat, k ≤ P.length ∧ i = .int .i64 k ∧ Hid (∀ j, j < k → del (rwAt P j) = false) ∧ Below w.heap.size w wr) (fun _ i _ => P.length - (intOf i).toNat)
  case atStart => exact ⟨0, Nat.zero_le _, rfl, Lib.hid (fun j hj => absurd hj (by omega)), Below.refl _ _⟩
  case round =>
    obtain ⟨k, hk, rfl, hq, hb⟩ := hrel
    by_cases hlt : k < P.length
    · have hli : (k : Int) < (P.length : Int) := by omega
      obtain ⟨A, c, hu, hz, hA⟩ := hR.row k hlt
      have c1 := (hb.cell (p := ⟨g, off + k, none⟩) hR.lt).trans (hR.cell k hlt)
      rw [hu] at c1
      have hAr := hA wr ⟨hb.os, hb.tape, hb.output, hb.size, fun b h _ => hb.block b h⟩
      have hcall := hP wr A c (rwAt P k) (hB.trans (hb.mono hBs)) (hn k hlt) hAr hz
      generalize hp : rwAt P k = p at c1 hcall
      cases hd : del p with
      | true =>
        rw [hd] at hcall
        have HQ := Lib.hid (And.intro hq.out (show del (rwAt P k) = true by rw [hp]; exact hd))
        clear hA hAr hz hu hq hd hp hP hn hR
        go_wp2_with (first | (go_at_call 26; (with_reducible refine hcall.mono ?_); rintro e w2 ⟨rfl, hb2⟩) | fail)
        have hb3 := hb.trans (hb2.mono hb.size)
        clear hcall c1
        go_ret
        exact ⟨.inl ⟨k, hlt, rfl, HQ.out.1, HQ.out.2⟩, hb3⟩
      | false =>
        rw [hd] at hcall
        have hq2 : Hid (∀ j, j < k + 1 → del (rwAt P j) = false) := Lib.hid (fun j hj => by
          rcases Nat.lt_or_ge j k with h1 | h1
          · exact hq.out j h1
          · have e : j = k := by omega
            rw [e, hp]
            exact hd)
        clear hA hAr hz hu hq hd hp hP hn hR
        go_wp2_with (first | (go_at_call 26; (with_reducible refine hcall.mono ?_); rintro e w2 ⟨rfl, hb2⟩) | fail)
        have hb3 := hb.trans (hb2.mono hb.size)
        clear hcall c1
        refine ⟨⟨k + 1, by omega, by go_num, hq2, hb3⟩, ?_⟩
        simp only [intOf]
        omega
    · have e : k = P.length := by omega
      subst e
      clear hP hn hR
      go_wp2
      go_ret
      exact ⟨.inr ⟨rfl, hq.out⟩, hb⟩

namespace DelR
def kp (P : List (List Int)) (del : List Int → Bool) (j : Nat) : List (List Int) := (P.take j).filter fun l => !del l
theorem kp_yes {P : List (List Int)} {del : List Int → Bool} {j : Nat} (h : j < P.length) (hd : del (rwAt P j) = false) : kp P del (j + 1) = kp P del j ++ [rwAt P j] := filter_yes (f := fun l => !del l) h (by rw [hd]; rfl)
theorem kp_no {P : List (List Int)} {del : List Int → Bool} {j : Nat} (h : j < P.length) (hd : del (rwAt P j) = true) : kp P del (j + 1) = kp P del j := filter_no (f := fun l => !del l) h (by rw [hd]; rfl)
/-- How far the rows have been gone through. -/
structure St (w : World) (P : List (List Int)) (g off : Nat) (u : Nat → Value) (del : List Int → Bool) (j : Nat) (wr : World) : Prop where
  on : Only [g] w wr
  blk : ∃ cur, wr.heap[g]? = some (.cells cur 26 (0, 0))
  kept : ∀ i, i < (kp P del j).length → ∃ A c, wr.cell? ⟨g, off + i, none⟩ = some (.slice A (rwAt (kp P del j) i).length c) ∧ ∀ W, Only [g] w W → IntsAt W A (rwAt (kp P del j) i)
  rest : ∀ i, j ≤ i → i < P.length → wr.cell? ⟨g, off + i, none⟩ = some (u i)
  ex : ∀ i, i < P.length → ∃ v, wr.cell? ⟨g, off + i, none⟩ = some v
  len : (kp P del j).length < j
theorem St.lt {w wr : World} {P : List (List Int)} {g off j : Nat} {u : Nat → Value} {del : List Int → Bool} (h : St w P g off u del j wr) : g < wr.heap.size := by
  obtain ⟨cur, hc⟩ := h.blk
  exact (Array.getElem?_eq_some_iff.1 hc).1
theorem St.below {w wr w' : World} {P : List (List Int)} {g off j : Nat} {u : Nat → Value} {del : List Int → Bool} (h : St w P g off u del j wr) (hb : Below wr.heap.size wr w') : St w P g off u del j w' := by
  have hl := h.lt
  have hc : ∀ i, w'.cell? ⟨g, off + i, none⟩ = wr.cell? ⟨g, off + i, none⟩ := fun i => hb.cell (p := ⟨g, off + i, none⟩) hl
  refine ⟨h.on.trans ⟨hb.os, hb.tape, hb.output, hb.size, fun b h _ => hb.block b h⟩, ?_, fun i hi => ?_, fun i h1 h2 => (hc i).trans (h.rest i h1 h2), fun i hi => ?_, h.len⟩
  · obtain ⟨cur, h1⟩ := h.blk
    exact ⟨cur, (hb.block g hl).trans h1⟩
  · obtain ⟨A, c, h1, h2⟩ := h.kept i hi
    exact ⟨A, c, (hc i).trans h1, h2⟩
  · obtain ⟨v, h1⟩ := h.ex i hi
    exact ⟨v, (hc i).trans h1⟩
theorem St.skip {w wr : World} {P : List (List Int)} {g off j : Nat} {u : Nat → Value} {del : List Int → Bool} (h : St w P g off u del j wr) (hj : j < P.length) (hd : del (rwAt P j) = true) : St w P g off u del (j + 1) wr := by
  have e := kp_no hj hd
  exact ⟨h.on, h.blk, by rw [e]; exact h.kept, fun i h1 h2 => h.rest i (by omega) h2, h.ex, by rw [e]; have := h.len; omega⟩
theorem St.keep {w wr : World} {P : List (List Int)} {g off j : Nat} {u : Nat → Value} {del : List Int → Bool} (hR : Rw w P g off u) (h : St w P g off u del j wr) (hj : j < P.length) (hd : del (rwAt P j) = false) : St w P g off u del (j + 1) (wr.setCell ⟨g, off + (kp P del j).length, none⟩ (u j)) := by
  have e := kp_yes hj hd
  have hlen := h.len
  obtain ⟨cur, hcur⟩ := h.blk
  have hout : ∀ i, i ≠ (kp P del j).length → (wr.setCell ⟨g, off + (kp P del j).length, none⟩ (u j)).cell? ⟨g, off + i, none⟩ = wr.cell? ⟨g, off + i, none⟩ := fun i hi => World.cell?_setCells_out g [u j] (off + (kp P del j).length) wr ⟨g, off + i, none⟩ (fun _ _ => by simp; omega)
  have hin : (wr.setCell ⟨g, off + (kp P del j).length, none⟩ (u j)).cell? ⟨g, off + (kp P del j).length, none⟩ = some (u j) := by
    obtain ⟨v, hv⟩ := h.ex (kp P del j).length (by omega)
    have := World.cell?_setCells_in g [u j] (off + (kp P del j).length) wr (fun q hq => by
      have : q = 0 := by simpa using hq
      subst this
      rw [Nat.add_zero, hv]
      rfl) 0 (by simp)
    exact this
  refine ⟨h.on.trans ((Only.refl _ _).set ⟨g, off + (kp P del j).length, none⟩ _ (by simp)), ⟨_, heap_setCell_same wr g _ _ _ (u j) hcur⟩, fun i hi => ?_, fun i h1 h2 => (hout i (by omega)).trans (h.rest i (by omega) h2), fun i hi => ?_, by rw [e, List.length_append, List.length_singleton]; omega⟩
  · rw [e, List.length_append, List.length_singleton] at hi
    rw [e]
    by_cases hk : i < (kp P del j).length
    · obtain ⟨A, c, h1, h2⟩ := h.kept i hk
      have e2 : rwAt (kp P del j ++ [rwAt P j]) i = rwAt (kp P del j) i := by
        rw [rwAt_get _ i (by rw [List.length_append]; omega), rwAt_get _ i hk]
        simp [hk]
      rw [e2]
      exact ⟨A, c, (hout i (by omega)).trans h1, h2⟩
    · have hk2 : i = (kp P del j).length := by omega
      subst hk2
      obtain ⟨A, c, hu, _, hA⟩ := hR.row j hj
      have e2 : rwAt (kp P del j ++ [rwAt P j]) (kp P del j).length = rwAt P j := by
        rw [rwAt_get _ _ (by rw [List.length_append]; simp)]
        simp
      rw [e2]
      exact ⟨A, c, by rw [hin, hu], hA⟩
  · by_cases hk : i = (kp P del j).length
    · exact ⟨u j, by rw [hk]; exact hin⟩
    · obtain ⟨v, h1⟩ := h.ex i hi
      exact ⟨v, (hout i hk).trans h1⟩
theorem only_setCells (g : Nat) : ∀ (vs : List Value) (o : Nat) (w : World), Only [g] w (w.setCells g o vs)
  | [], o, w => Only.refl _ _
  | v :: vs, o, w => ((Only.refl _ _).set ⟨g, o, none⟩ v (by simp)).trans (only_setCells g vs (o + 1) _)
end DelR

set_option maxRecDepth 100000 in
set_option maxHeartbeats 8000000 in
theorem deleteRows_any (del : List Int → Bool) (B Vc Vf n : Nat) (w0 w : World) (hP : DelR.PredC del B w0 Vc Vf n) (hB : Below B w0 w) (hBs : B ≤ w.heap.size) (P : List (List Int)) (g off cap : Nat) (u : Nat → Value) (hR : DelR.Rw w P g off u) (hgB : B ≤ g) (hl : P.length ≤ 1000000) (hcap : P.length ≤ cap) (hn : ∀ j, j < P.length → (rwAt P j).length = n) :
    Calls Try.prog 25 #[.slice (some ⟨g, off, none⟩) P.length cap, .func (.func 26) #[] #[.pointer (some ⟨Vc, 0, none⟩), .pointer (some ⟨Vf, 0, none⟩)]] w fun e w' => e = .returned (.slice (some ⟨g, off, none⟩) (P.filter fun l => !del l).length cap) ∧ RowsIn w' (.slice (some ⟨g, off, none⟩) (P.filter fun l => !del l).length cap) (P.filter fun l => !del l) ∧ Only [g] w w' := by
  have hix := indexRows_any del B Vc Vf n w0 w hP hB hBs P g off cap u hR hl hn
  go_enter Try.func25, Try.ntmps25
  go_wp2_with fail
  (with_reducible refine hix.mono ?_)
  rintro e w1 ⟨hor, hb1⟩
  clear hix
  have hon1 : Only [g] w w1 := ⟨hb1.os, hb1.tape, hb1.output, hb1.size, fun b h _ => hb1.block b h⟩
  rcases hor with ⟨k, hk, rfl, hbef, hdel⟩ | ⟨rfl, hno⟩
  · have hk0 : ¬ (k : Int) = -1 := by omega
    have hki : (k : Int) < (P.length : Int) := by omega
    have e0 : DelR.kp P del (k + 1) = P.take k := by rw [DelR.kp_no hk hdel]; exact DelR.filter_upto (by omega) hbef
    have hS : DelR.St w P g off u del (k + 1) w1 := by
      have hc : ∀ i, i < P.length → w1.cell? ⟨g, off + i, none⟩ = some (u i) := fun i hi => (hb1.cell (p := ⟨g, off + i, none⟩) hR.lt).trans (hR.cell i hi)
      refine ⟨hon1, ?_, fun i hi => ?_, fun i _ h2 => hc i h2, fun i hi => ⟨_, hc i hi⟩, by rw [e0, List.length_take]; omega⟩
      · obtain ⟨cur, h1⟩ := hR.blk
        exact ⟨cur, (hb1.block g hR.lt).trans h1⟩
      · rw [e0, List.length_take] at hi
        obtain ⟨A, c, h1, _, h3⟩ := hR.row i (by omega)
        have e2 : rwAt (DelR.kp P del (k + 1)) i = rwAt P i := by
          rw [e0, rwAt_get _ i (by rw [List.length_take]; omega), rwAt_get P i (by omega)]
          simp
        rw [e2]
        exact ⟨A, c, by rw [hc i (by omega), h1], h3⟩
    have hkl : (DelR.kp P del (k + 1)).length = k := by rw [e0, List.length_take]; omega
    have HS := Lib.hid hS
    clear hbef hdel e0 hS hb1 hon1
    go_wp2
    go_loopw [5, 6, 7] (fun v5 v6 _ wr => ∃ j : Nat, k + 1 ≤ j ∧ j ≤ P.length ∧ v6 = .int .i64 j ∧ v5 = .int .i64 (DelR.kp P del j).length ∧ Hid (DelR.St w P g off u del j wr)) (fun _ v6 _ _ => P.length - (intOf v6).toNat)
    case atStart => exact ⟨k + 1, Nat.le_refl _, by omega, by go_num, by rw [hkl], HS⟩
    case round =>
      obtain ⟨j, hkj, hj, rfl, rfl, hSt⟩ := hrel
      have hlen := hSt.out.len
      by_cases hlt : j < P.length
      · have hli : (j : Int) < (P.length : Int) := by omega
        obtain ⟨A, c, hu, hz, hA⟩ := hR.row j hlt
        have c1 := hSt.out.rest j (Nat.le_refl _) hlt
        have hcall := hP wr A c (rwAt P j) (Only.below hB hSt.out.on hBs (fun b hb => by simp at hb; omega)) (hn j hlt) (hA wr hSt.out.on) hz
        have HK := Lib.hid (fun h => hSt.out.skip hlt h)
        have HP2 := Lib.hid (fun w2 (hb : Below wr.heap.size wr w2) h => (hSt.out.below hb).keep hR hlt h)
        have HSM := Lib.hid (fun w2 (hb : Below wr.heap.size wr w2) => hSt.out.below hb)
        have HKN := Lib.hid (fun h => DelR.kp_no (del := del) hlt h)
        have HKY := Lib.hid (fun h => DelR.kp_yes (del := del) hlt h)
        have HU := Lib.hid hu
        rw [hu] at c1
        obtain ⟨p, hp⟩ : ∃ p : List Int, p = rwAt P j := ⟨_, rfl⟩
        rw [← hp] at c1 hcall HK HP2 HKN HKY HU
        have HPE : Hid (rwAt P j = p) := Lib.hid hp.symm
        clear hp
        have HKT := Lib.hid (HK.out)
        have hr : P.length - j = P.length - j := rfl
        cases hd : del p with
        | true =>
          rw [hd] at hcall
          have HE := Lib.hid (HKN.out hd)
          have HS3 := Lib.hid (fun w2 (hb : Below wr.heap.size wr w2) => (hSt.out.below hb).skip hlt (by rw [← hd]; exact congrArg del HPE.out))
          clear hA hz hu hSt HK HKT HP2 HSM HKN HKY hd
          go_wp2_with (first | (go_at_call 26; (with_reducible refine hcall.mono ?_); rintro e w2 ⟨rfl, hb2⟩) | fail)
          have HS4 := Lib.hid (HS3.out w2 hb2)
          clear hcall c1 HS3 hb2
          go_roundw
          case rel =>
            refine ⟨_, _, _, _, _, _, _, _, _, _, _, _, _, _, _, _, _, _, _, _, _, _, _, ?_, rfl⟩
            exact ⟨j + 1, by omega, by omega, by go_num, by rw [HE.out], HS4⟩
          case measure =>
            simp [intOf]
            omega
        | false =>
          rw [hd] at hcall
          have HE := Lib.hid (HKY.out hd)
          have HS3 := Lib.hid (fun w2 (hb : Below wr.heap.size wr w2) => (hSt.out.below hb).keep hR hlt (by rw [← hd]; exact congrArg del HPE.out))
          have HX := Lib.hid (fun w2 (hb : Below wr.heap.size wr w2) => hSt.out.below hb)
          have hki : ((DelR.kp P del j).length : Int) < (P.length : Int) := by omega
          have hkz : (0 : Int) ≤ ((DelR.kp P del j).length : Int) := by omega
          clear hA hz hSt HK HKT HP2 HSM HKN HKY hd
          go_wp2_with (first | (go_at_call 26; (with_reducible refine hcall.mono ?_); rintro e w2 ⟨rfl, hb2⟩; have hX2 := HX.out w2 hb2; obtain ⟨vx, hvx⟩ := hX2.ex (DelR.kp P del j).length (by omega); obtain ⟨cur, hcur⟩ := hX2.blk; have hfz := frozen_of_row _ _ (off + (DelR.kp P del j).length) _ _ hcur; clear hX2 hcur) | fail)
          have HS4 : Hid (DelR.St w P g off u del (j + 1) (w2.setCell ⟨g, off + (DelR.kp P del j).length, none⟩ (.slice A p.length c))) := Lib.hid (by rw [← HU.out]; exact HS3.out w2 hb2)
          clear hcall c1 HS3 hb2 hu hvx hfz
          go_roundw
          case rel =>
            refine ⟨_, _, _, _, _, _, _, _, _, _, _, _, _, _, _, _, _, _, _, _, _, _, _, ?_, rfl⟩
            exact ⟨j + 1, by omega, by omega, by go_num, by rw [HE.out, List.length_append, List.length_singleton]; go_num, HS4⟩
          case measure =>
            simp [intOf]
            omega
      · have e : j = P.length := by omega
        subst e
        have eK : DelR.kp P del P.length = P.filter fun l => !del l := by unfold DelR.kp; rw [List.take_length]
        rw [eK] at hlen
        have hSt2 := hSt.out
        have hkept := hSt2.kept
        rw [eK] at hkept
        generalize hKK : (P.filter fun l => !del l) = K at hlen hkept
        rw [eK, hKK]
        have hz0 : ∀ w : World, (zeroValue 26).run Try.prog w = .ok (.slice none 0 0) w := fun w => by kernel_rfl
        have hcl : ∀ ty, (Builtin.clear_ #[27] ty #[.slice (some ⟨g, off + K.length, none⟩) (P.length - K.length) (cap - K.length)]).run Try.prog wr = .ok (.tuple #[]) (wr.setCells g (off + K.length) (List.replicate (P.length - K.length) (.slice none 0 0))) := fun ty => Lib.run_clear_slice wr 27 26 ty (.slice none 0 0) Try.underlying27 hz0 rfl rfl g (off + K.length) (P.length - K.length) (cap - K.length) (by omega)
          (fun q hq => by obtain ⟨v, hv⟩ := hSt2.ex (K.length + q) (by omega); rw [Nat.add_assoc, hv]; rfl)
          (fun q hq => by obtain ⟨cur, hcur⟩ := hSt2.blk; exact frozen_of_row _ _ _ _ _ hcur)
        have hon9 := hSt2.on.trans (DelR.only_setCells g (List.replicate (P.length - K.length) (.slice none 0 0)) (off + K.length) wr)
        have hrows : RowsIn (wr.setCells g (off + K.length) (List.replicate (P.length - K.length) (.slice none 0 0))) (.slice (some ⟨g, off, none⟩) K.length cap) K := DelR.rowsIn_of (by have h1 := hSt2.lt; have h2 := (DelR.only_setCells g (List.replicate (P.length - K.length) (.slice none 0 0)) (off + K.length) wr).size; omega) (fun i hi => by
          obtain ⟨A, c1, h1, h2⟩ := hkept i hi
          exact ⟨A, c1, (World.cell?_setCells_out g _ (off + K.length) wr ⟨g, off + i, none⟩ (fun _ _ => .inl (by show off + i < off + K.length; omega))).trans h1, h2 _ hon9⟩)
        have HRS := Lib.hid (And.intro hrows hon9)
        have HKK := Lib.hid hKK
        have hk1 : (0 : Int) ≤ (K.length : Int) := by omega
        have hk2 : (K.length : Int) ≤ (P.length : Int) := by omega
        have hk3 : (K.length : Int) ≤ (cap : Int) := by omega
        have hk4 : (P.length : Int) ≤ (cap : Int) := by omega
        clear hrows hon9 hkept hSt2 hSt hKK eK hz0
        go_wp2
        go_ret
        obtain rfl := HKK.out
        exact ⟨rfl, HRS.out.1, HRS.out.2⟩
  · have E := Lib.hid (DelR.filter_none hno)
    have hrows : RowsIn w1 (.slice (some ⟨g, off, none⟩) P.length cap) P := DelR.rowsIn_of (by have := hb1.size; have := hR.lt; omega) (fun i hi => by
      obtain ⟨A, c1, h1, _, h3⟩ := hR.row i hi
      exact ⟨A, c1, by rw [← h1]; exact (hb1.cell (p := ⟨g, off + i, none⟩) hR.lt).trans (hR.cell i hi), h3 _ hon1⟩)
    have HRS := Lib.hid hrows
    clear hno hb1 hrows
    go_wp2
    go_ret
    exact ⟨by rw [E.out]; rfl, by rw [E.out]; exact HRS.out, hon1⟩

end Go.Proofs.Ythjkogighppeaaa
end

section
namespace Go.Proofs.Ythjkogighppeaaa
open Go.RowKit Go.Sort
set_option linter.unusedVariables false

set_option maxRecDepth 100000 in
set_option maxHeartbeats 2000000 in
theorem takenAt_any (A B : Option Addr) (c d : Nat) (V p : List Int) (w : World) (hA : IntsAt w A V) (hB : IntsAt w B p) (hlv : V.length ≤ 1048576) (hlp : p.length ≤ 1048576) (hin : ∀ i, i < p.length → 0 ≤ itAt p i ∧ (itAt p i).toNat < V.length) :
    Calls Try.prog 48 #[.slice A V.length c, .slice B p.length d] w (NewInts (exL V p) w) := by
  obtain ⟨i0, hi0, hz0, hz1, hz2⟩ := info_parts int_infoM
  have HS := Lib.hid hz2
  clear hz2
  go_enter Try.func48, Try.ntmps48
  go_wp2
  go_loopw [5, 7, 11] (fun v _ i wr => ∃ k : Nat, k ≤ p.length ∧ i = .int .i64 k ∧ wr.ownsRow w.heap.size 3 1 v k (icells (exL V (p.take k))) ∧ Below w.heap.size w wr) (fun _ _ i _ => p.length - (intOf i).toNat)
  case atStart => exact ⟨0, Nat.zero_le _, rfl, World.ownsRow_lit w #[] 0 (Nat.le_refl _) (by decide) rfl, (Below.refl _ _).alloc (Nat.le_refl _) _⟩
  case round =>
    obtain ⟨k, hk, rfl, ho, hb⟩ := hrel
    by_cases hlt : k < p.length
    · obtain ⟨h0, h1⟩ := hin k hlt
      obtain ⟨b1, o1, rfl, hb1, hc1⟩ := hB (by omega)
      obtain ⟨b2, o2, rfl, hb2, hc2⟩ := hA (by omega)
      have c1 := hc1 k hlt
      rw [← hb.cell (p := ⟨b1, _, none⟩) hb1] at c1
      have hnext := Lib.hid (exL_next (V := V) hlt)
      obtain ⟨n, hn⟩ : ∃ n : Nat, itAt p k = n := ⟨(itAt p k).toNat, by omega⟩
      rw [hn] at c1 h1 hnext
      rw [Int.toNat_natCast] at h1 hnext
      have c2 := hc2 n h1
      rw [← hb.cell (p := ⟨b2, _, none⟩) hb2] at c2
      have hni : (n : Int) < (V.length : Int) := by omega
      have hn0 : (0 : Int) ≤ (n : Int) := by omega
      clear hc1 hc2 hA hB hin hn h0 h1
      generalize itAt V n = a at c2 hnext
      have ho1 := ho.alloc (.cells #[.int .i64 a] 3)
      have hb3 := hb.alloc hb.size (.cells #[.int .i64 a] 3)
      have hsz : w.heap.size ≤ wr.heap.size := hb.size
      have hcell : (wr.alloc (.cells #[.int .i64 a] 3)).cell? ⟨wr.heap.size, 0, none⟩ = some (.int .i64 a) := by simp
      have HC := Lib.hid (one_cell hcell)
      clear hcell ho hb
      go_wp2_with (at_builtin; refine wpList_append_own _ rfl (.tmp 15) (.tmp 20) 26 rfl w.heap.size 3 i0 (.int .i64 0) 1 8 Try.underlying26 hi0 hz0 hz1 HS.out rfl (by decide) _ k _ rfl ho1 ⟨wr.heap.size, 0, none⟩ 1 1 [.int .i64 a] rfl rfl HC.out (int_one _) ?c3 ?c4 ?c5 ?_)
      case c3 => unfold maxLen; omega
      case c4 => omega
      case c5 => simp; omega
      intro v2 w2 ho3 hg _
      have ho4 : w2.ownsRow w.heap.size 3 1 v2 (k + 1) (icells (exL V (p.take (k + 1)))) := by
        rw [hnext.out, icells_append]
        exact ho3
      have hb4 : Below w.heap.size w w2 := below_own hb3 ho1 (Nat.le_refl _) (by simp; omega) hg
      clear ho3 hg ho1 hb3 hnext HC c1 c2
      go_wp2
      refine ⟨⟨k + 1, by omega, by go_num, ho4, hb4⟩, ?_⟩
      simp only [intOf]
      omega
    · have e : k = p.length := by omega
      subst e
      rw [List.take_length] at ho
      have e := Lib.hid (exL_len V p)
      have hpost : NewInts (exL V p) w (.returned u5) wr := ⟨_, rfl, by rw [e.out]; exact ho, hb⟩
      clear ho hb hA hB hin
      go_wp2
      go_ret
      exact hpost

set_option maxRecDepth 100000 in
set_option maxHeartbeats 4000000 in
theorem examplesFor_any (A B : Option Addr) (c d : Nat) (cs : List Int) (m : List (List Int)) (w : World) (hA : IntsAt w A cs) (hB : RowsIn w (.slice B m.length d) m) (hlc : cs.length ≤ 1000) (hlm : m.length ≤ 2097152) (hrm : ∀ i, i < m.length → isPatB cs.length (rwAt m i) = true ∧ (rwAt m i).length ≤ 4) :
    Calls Try.prog 23 #[.slice A cs.length c, .slice B m.length d] w (RowsOut (exsL cs m) w) := by
  obtain ⟨i0, hi0, hz0, hz1, hz2⟩ := info_parts int_infoM
  have HS := Lib.hid hz2
  clear hz2
  have hcl := clone_any A c cs w hA (by omega)
  have HRM := Lib.hid hrm
  clear hA hrm
  go_enter Try.func23, Try.ntmps23
  go_wp2_with (go_at_call 46; refine hcl.mono ?_; rintro e w1 ⟨v1, rfl, ho1, hb1⟩)
  clear hcl
  go_loopw [5, 11] (fun v5 i wr => ∃ k : Nat, k ≤ 4 ∧ i = .int .i64 k ∧ wr.ownsRow w.heap.size 3 1 v5 (numL cs k).length (icells (numL cs k)) ∧ Below w.heap.size w wr) (fun _ i _ => 4 - (intOf i).toNat)
  case atStart => exact ⟨0, by omega, rfl, ho1, hb1⟩
  case round =>
    clear ho1 hb1
    obtain ⟨k, hk, rfl, ho, hb⟩ := hrel
    by_cases hlt : k < 4
    · obtain ⟨A5, c5, rfl, hA5⟩ := own_intsAt ho
      have hnl := numL_len cs k
      have hnl2 : (numL cs k).length ≤ 1004 := by omega
      have hle := least_impl A5 c5 (numL cs k) wr hA5 (by omega)
      have hnx : Hid (numL cs (k + 1) = numL cs k ++ [leastF (numL cs k)]) := Lib.hid rfl
      have hln : Hid ((numL cs (k + 1)).length = (numL cs k).length + 1) := Lib.hid (by rw [numL_len, numL_len]; omega)
      generalize leastF (numL cs k) = a at hle hnx
      generalize numL cs k = V at *
      have hs0 := hb.size
      have hk4 : (k : Int) < 4 := by omega
      clear hA5 hnl
      go_wp2_with fail
      refine hle.mono ?_
      rintro e w2 ⟨rfl, hb2⟩
      have ho2 := own_below ho hb2
      have hb3 := hb.trans (hb2.mono hb.size)
      have ho3 := ho2.alloc (.cells #[.int .i64 a] 3)
      have hb4 := hb3.alloc hb3.size (.cells #[.int .i64 a] 3)
      have hsz := hb4.size
      have hcell : (w2.alloc (.cells #[.int .i64 a] 3)).cell? ⟨w2.heap.size, 0, none⟩ = some (.int .i64 a) := by simp
      have HC := Lib.hid (one_cell hcell)
      clear hcell ho hb ho2 hb2 hb3 hle
      go_wp2_with (at_builtin; refine wpList_append_own _ rfl (.tmp 13) (.tmp 16) 26 rfl w.heap.size 3 i0 (.int .i64 0) 1 8 Try.underlying26 hi0 hz0 hz1 HS.out rfl (by decide) _ V.length _ rfl ho3 ⟨w2.heap.size, 0, none⟩ 1 1 [.int .i64 a] rfl rfl HC.out (int_one _) ?c3 ?c4 ?c5 ?_)
      case c3 => unfold maxLen; omega
      case c4 => omega
      case c5 => exact hsz
      intro v5 w5 ho5 hg _
      have ho6 : w5.ownsRow w.heap.size 3 1 v5 (numL cs (k + 1)).length (icells (numL cs (k + 1))) := by
        rw [hln.out, hnx.out, icells_append]
        exact ho5
      have hb6 : Below w.heap.size w w5 := below_own hb4 ho3 (Nat.le_refl _) hsz hg
      clear ho5 hg ho3 hb4 hsz hnx hln HC
      go_wp2
      refine ⟨⟨k + 1, by omega, by go_num, ho6, hb6⟩, ?_⟩
      simp only [intOf]
      omega
    · have e : k = 4 := by omega
      subst e
      rw [show ((4 : Nat) : Int) = 4 from rfl]
      have hnl := numL_len cs 4
      have hnl2 : (numL cs 4).length ≤ 1004 := by omega
      have HTK := Lib.hid (fun i (hi : i < m.length) => pat_places (HRM.out i hi).1 (V := numL cs 4) (by have := (HRM.out i hi).2; omega))
      have HNX := Lib.hid (fun i (hi : i < m.length) => exsL_next (l := cs) hi)
      have HEL := Lib.hid (exsL_len cs)
      have hex0 : exsL cs [] = [] := rfl
      obtain ⟨A5, c5, rfl, _⟩ := own_intsAt ho
      generalize numL cs 4 = V at *
      generalize exsL cs = E at *
      have hbx : Below wr.heap.size wr (wr.alloc (.cells #[] 26)) := (Below.refl _ _).alloc (Nat.le_refl _) _
      have hoR := own_lit0 wr
      have ho2 := own_below ho hbx
      have hb2 := hb.trans (hbx.mono hb.size)
      have hst : ∀ b ∈ [wr.heap.size], w.heap.size ≤ b ∧ (Value.slice A5 V.length c5).ownBlock ≠ some b := fun b h => by
        simp at h
        subst h
        exact ⟨hb.size, fun e => by have := (ho.lt _ e).2; omega⟩
      clear ho hb hbx hnl
      go_wp2
      go_loopw [6, 8, 22] (fun v6 _ i wr => ∃ (j : Nat) (U : List Nat), j ≤ m.length ∧ i = .int .i64 j ∧ Own wr U v6 (rowsMem (E (m.take j))) ∧ wr.ownsRow w.heap.size 3 1 (.slice A5 V.length c5) V.length (icells V) ∧ (∀ b ∈ U, w.heap.size ≤ b ∧ (Value.slice A5 V.length c5).ownBlock ≠ some b) ∧ Below w.heap.size w wr) (fun _ _ i _ => m.length - (intOf i).toNat)
      case atStart => exact ⟨0, _, Nat.zero_le _, rfl, by rw [List.take_zero, hex0]; exact hoR, ho2, hst, hb2⟩
      case round =>
        clear hoR ho2 hb2 hst
        obtain ⟨j, U, hj, rfl, hoU, ho, hUT, hb⟩ := hrel
        by_cases hlt : j < m.length
        · obtain ⟨b1, o1, rfl, hb1, hc1⟩ := (hB.below hb).get (by omega)
          obtain ⟨A1, c1, d1, hA1⟩ := hc1 j hlt
          have hAV : IntsAt wr A5 V := by
            obtain ⟨A', c', e, h⟩ := own_intsAt ho
            simp only [Value.slice.injEq] at e
            rw [e.1]; exact h
          have hta := takenAt_any A5 A1 c5 c1 V (rwAt m j) wr hAV hA1 (by omega) (by have := (HRM.out j hlt).2; omega) (HTK.out j hlt)
          have hnx := Lib.hid (HNX.out j hlt)
          have hel : Hid ((E (m.take j)).length = j) := Lib.hid (by rw [HEL.out, List.length_take]; omega)
          have hpl : (rwAt m j).length ≤ 4 := (HRM.out j hlt).2
          generalize exL V (rwAt m j) = X at hta hnx
          generalize (rwAt m j).length = pl at *
          have hs0 := hb.size
          clear hc1 hA1 hAV
          go_wp2_with fail
          refine hta.mono ?_
          rintro e w2 ⟨v2, rfl, ho2, hb2⟩
          obtain ⟨R, hR, hRb, hRe⟩ := own_intRow ho2
          obtain ⟨A9, c9, rfl, _⟩ := own_intSlice hR
          clear hRe
          have hbx : Below w2.heap.size w2 (w2.alloc (.cells #[.slice A9 X.length c9] 26)) := (Below.refl _ _).alloc (Nat.le_refl _) _
          have hb3 := hb2.trans (hbx.mono hb2.size)
          have hR3 := hR.keep hbx
          have hU3 := hoU.keep hb3
          have ho3 := own_below ho hb3
          have hbw3 := hb.trans (hb3.mono hb.size)
          have hs3 := hbw3.size
          have hcell : (w2.alloc (.cells #[.slice A9 X.length c9] 26)).cell? ⟨w2.heap.size, 0, none⟩ = some (.slice A9 X.length c9) := by simp
          have HC := Lib.hid (one_cell hcell)
          have hUl : ∀ b ∈ U, b < wr.heap.size := fun b h => hoU.lt b h
          have hvl : ∀ k, (Value.slice A5 V.length c5).ownBlock = some k → k < wr.heap.size := fun k e => (ho.lt k e).2
          have hdis : ∀ b ∈ U, b ∉ R := fun b h1 h2 => by have := hUl b h1; have := hRb b h2; omega
          have hdl : (E (m.take j)).length + 1 ≤ 16777216 := by rw [hel.out]; omega
          have hs2 := hb2.size
          clear hcell hbx hR ho2 hoU ho hb hb2 hb3 hta
          generalize X.length = xl at *
          go_wp2_with (at_builtin; refine wpList_append_rows rfl (.tmp 26) (.tmp 30) rfl _ U _ rfl hU3 ⟨w2.heap.size, 0, none⟩ _ _ R rfl HC.out hR3 hdis hdl ?_)
          intro g2 cap2 U3 w10 hU10 hUU hon
          have ho10 := own_only ho3 hon (fun k e h => (hUT k h).2 e)
          have hb10 := Only.below hbw3 hon hs3 (fun b h => (hUT b h).1)
          have hUT3 : ∀ b ∈ U3, w.heap.size ≤ b ∧ (Value.slice A5 V.length c5).ownBlock ≠ some b := fun b h => by
            rcases hUU b h with h1 | h1 | h1
            · exact hUT b h1
            · have h2 := hRb b h1
              exact ⟨by omega, fun e => by have := hvl b e; omega⟩
            · have h1' : b = w2.heap.size + 1 := by simpa using h1
              exact ⟨by omega, fun e => by have := hvl b e; omega⟩
          rw [← hnx.out] at hU10
          clear hU3 ho3 hbw3 hon hUU hUT hRb hR3 hdis HC hnx hUl hvl
          go_wp2
          refine ⟨⟨j + 1, U3, by omega, by go_num, hU10, ho10, hUT3, hb10⟩, ?_⟩
          simp only [intOf]
          omega
        · have e : j = m.length := by omega
          subst e
          rw [List.take_length] at hoU
          have hpost : RowsOut (E m) w (.returned u6) wr := ⟨_, U, rfl, hoU, fun b h => (hUT b h).1, hb⟩
          clear hoU ho hUT hb
          go_wp2
          go_ret
          exact hpost

set_option maxRecDepth 100000 in
set_option maxHeartbeats 4000000 in
theorem l6Example_any (A B : Option Addr) (c d : Nat) (cs p : List Int) (w : World) (hA : IntsAt w A cs) (hz : A = none → c = 0) (hB : IntsAt w B p) (hlc : cs.length ≤ 1000) (hl4 : p.length ≤ 4) (hin : ∀ i, i < p.length → 0 ≤ itAt p i ∧ (itAt p i).toNat < cs.length + p.length) :
    Calls Try.prog 18 #[.slice A cs.length c, .slice B p.length d] w (NewInts (exL (numL cs p.length) p) w) := by
  obtain ⟨i0, hi0, hz0, hz1, hz2⟩ := info_parts int_infoM
  have HS := Lib.hid hz2
  clear hz2
  have hcl := l1Copy_ints A c cs w hA hz (by omega)
  clear hA hz
  go_enter Try.func18, Try.ntmps18
  go_wp2_with (go_at_call 41; refine hcl.mono ?_; rintro e w1 ⟨v1, rfl, ho1, hb1⟩)
  clear hcl
  obtain ⟨A1, c1, rfl, _⟩ := own_intsAt ho1
  go_loopw [5] (fun v5 wr => ∃ (k : Nat) (A5 : Option Addr) (c5 : Nat), k ≤ p.length ∧ v5 = .slice A5 (cs.length + k) c5 ∧ wr.ownsRow w.heap.size 3 1 v5 (cs.length + k) (icells (numL cs k)) ∧ Below w.heap.size w wr) (fun v5 _ => cs.length + p.length - (match v5 with | .slice _ n _ => n | _ => 0))
  case atStart => exact ⟨0, A1, c1, by omega, rfl, ho1, hb1⟩
  case round =>
    clear ho1 hb1
    obtain ⟨k, A5, c5, hk, rfl, ho, hb⟩ := hrel
    have hnl := numL_len cs k
    by_cases hlt : k < p.length
    · have hlti : ((cs.length + k : Nat) : Int) < (cs.length : Int) + (p.length : Int) := by omega
      have hA5 : IntsAt wr A5 (numL cs k) := by
        rw [← hnl] at ho
        obtain ⟨A', c', e, h⟩ := own_intsAt ho
        simp only [Value.slice.injEq] at e
        rw [e.1]; exact h
      have hle := least_spec A5 c5 (numL cs k) wr hA5 (by omega)
      have hnx : Hid (numL cs (k + 1) = numL cs k ++ [leastF (numL cs k)]) := Lib.hid rfl
      rw [hnl] at hle
      generalize leastF (numL cs k) = a at hle hnx
      generalize numL cs k = V at *
      generalize hcn : cs.length = cn at *
      generalize hpn : p.length = pn at *
      have hs0 := hb.size
      have ho3 := ho.alloc (.cells #[.int .i64 a] 3)
      have hb4 := hb.alloc hb.size (.cells #[.int .i64 a] 3)
      have hcell : (wr.alloc (.cells #[.int .i64 a] 3)).cell? ⟨wr.heap.size, 0, none⟩ = some (.int .i64 a) := by simp
      have HC := Lib.hid (one_cell hcell)
      have HCN := Lib.hid hcn; have HPN := Lib.hid hpn; have HNL := Lib.hid hnl
      clear hA5 hnl hcell ho hb hcn hpn
      go_wp2_with (first
        | (go_at_call 42; refine hle.mono ?_; rintro e w2 ⟨rfl, rfl⟩)
        | (at_builtin; refine wpList_append_own _ rfl (.tmp 19) (.tmp 22) 26 rfl w.heap.size 3 i0 (.int .i64 0) 1 8 Try.underlying26 hi0 hz0 hz1 HS.out rfl (by decide) _ (cn + k) _ rfl ho3 ⟨wr.heap.size, 0, none⟩ 1 1 [.int .i64 a] rfl rfl HC.out (int_one _) ?c3 ?c4 ?c5 ?_))
      case c3 => unfold maxLen; omega
      case c4 => omega
      case c5 => simp; omega
      intro v5 w5 ho5 hg _
      have ho6 : w5.ownsRow w.heap.size 3 1 v5 (cn + (k + 1)) (icells (numL cs (k + 1))) := by
        rw [hnx.out, icells_append, ← Nat.add_assoc]
        exact ho5
      have hb6 : Below w.heap.size w w5 := below_own hb4 ho3 (Nat.le_refl _) (by simp; omega) hg
      obtain ⟨g, cap, rfl, _⟩ : ∃ g cap, v5 = .slice (some ⟨g, 0, none⟩) (cn + (k + 1)) cap ∧ True := by
        rcases ho6.2 with ⟨_, h0⟩ | ⟨g, cap, cur, e, _⟩
        · omega
        · exact ⟨g, cap, e, trivial⟩
      clear ho5 hg ho3 hb4 hnx HC hle
      go_wp2
      refine ⟨⟨k + 1, some ⟨g, 0, none⟩, cap, by omega, rfl, ho6, hb6⟩, ?_⟩
      dsimp only
      omega
    · have e : k = p.length := by omega
      subst e
      have hlti : ¬ ((cs.length + p.length : Nat) : Int) < (cs.length : Int) + (p.length : Int) := by omega
      rw [← hnl] at ho hin hlti
      have hcl0 : cs.length ≤ (numL cs p.length).length := by omega
      have hnl2 : (numL cs p.length).length ≤ 1004 := by omega
      have hlt3 : ¬ ((numL cs p.length).length : Int) < (cs.length : Int) + (p.length : Int) := by omega
      rw [← hnl]
      clear hnl hlti
      generalize numL cs p.length = V at *
      have hA5 : IntsAt wr A5 V := by
        obtain ⟨A', c', e, h⟩ := own_intsAt ho
        simp only [Value.slice.injEq] at e
        rw [e.1]; exact h
      have hbx : Below wr.heap.size wr (wr.alloc (.cells #[] 3)) := (Below.refl _ _).alloc (Nat.le_refl _) _
      have hb2 := hb.trans (hbx.mono hb.size)
      have hp0 : (wr.alloc (.cells #[] 3)).ownsRow wr.heap.size 3 1 (.slice (some ⟨wr.heap.size, 0, none⟩) 0 0) 0 [] := World.ownsRow_lit wr #[] 0 (Nat.le_refl _) (by decide) rfl
      have HE := Lib.hid (exL_len V)
      clear ho
      go_wp2
      obtain ⟨W0, rfl⟩ : ∃ W0, W0 = wr := ⟨_, rfl⟩
      go_loopw [6, 8, 27] (fun v _ i wq => ∃ q : Nat, q ≤ p.length ∧ i = .int .i64 q ∧ wq.ownsRow W0.heap.size 3 1 v q (icells (exL V (p.take q))) ∧ Below W0.heap.size W0 wq) (fun _ _ i _ => p.length - (intOf i).toNat)
      case atStart => exact ⟨0, Nat.zero_le _, rfl, hp0, hbx⟩
      case round =>
        clear hp0
        obtain ⟨q, hq, rfl, ho, hbq⟩ := hrel
        by_cases hlq : q < p.length
        · obtain ⟨h0, h1⟩ := hin q hlq
          have h1 : (itAt p q).toNat < V.length := by omega
          obtain ⟨b1, o1, rfl, hb1, hc1⟩ := (hB.below (hb.trans (hbq.mono hb.size))) (by omega)
          have hA7 := hA5.below hbq
          obtain ⟨b2, o2, rfl, hb2', hc2⟩ := hA7 (by omega)
          have c1 := hc1 q hlq
          have hnext := Lib.hid (exL_next (V := V) hlq)
          obtain ⟨n, hn⟩ : ∃ n : Nat, itAt p q = n := ⟨(itAt p q).toNat, by omega⟩
          rw [hn] at c1 h1 hnext
          rw [Int.toNat_natCast] at h1 hnext
          have c2 := hc2 n h1
          have hni : (n : Int) < (V.length : Int) := by omega
          have hn0 : (0 : Int) ≤ (n : Int) := by omega
          clear hc1 hc2 hn h0 hA7 hin
          generalize itAt V n = a at c2 hnext
          have ho1 := ho.alloc (.cells #[.int .i64 a] 3)
          have hbq3 := hbq.alloc hbq.size (.cells #[.int .i64 a] 3)
          have hsz : W0.heap.size ≤ wr.heap.size := hbq.size
          have hcell : (wr.alloc (.cells #[.int .i64 a] 3)).cell? ⟨wr.heap.size, 0, none⟩ = some (.int .i64 a) := by simp
          have HC := Lib.hid (one_cell hcell)
          clear hcell ho hbq
          go_wp2_with (at_builtin; refine wpList_append_lies _ rfl (.tmp 31) (.tmp 36) 26 rfl W0.heap.size 3 i0 (.int .i64 0) 1 8 Try.underlying26 hi0 hz0 hz1 HS.out rfl (by decide) _ q _ rfl ho1 ⟨wr.heap.size, 0, none⟩ 1 1 [.int .i64 a] rfl rfl HC.out (int_one _) (by decide) ?c3 ?c4 ?c5 _ rfl ?_)
          case c3 => unfold maxLen; omega
          case c4 => omega
          case c5 => simp; omega
          intro g cap w2 ho3 hg _ _
          have ho4 : w2.ownsRow W0.heap.size 3 1 (.slice (some ⟨g, 0, none⟩) (q + 1) cap) (q + 1) (icells (exL V (p.take (q + 1)))) := by
            rw [hnext.out, icells_append]
            exact ho3
          have hb4 : Below W0.heap.size W0 w2 := below_own hbq3 ho1 (Nat.le_refl _) (by simp; omega) hg
          clear ho3 hg ho1 hbq3 hnext HC c1 c2 hA5 hB
          go_wp2
          refine ⟨⟨q + 1, by omega, by go_num, ho4, hb4⟩, ?_⟩
          simp only [intOf]
          omega
        · have e : q = p.length := by omega
          subst e
          rw [List.take_length] at ho
          have hpost : NewInts (exL V p) w (.returned u6) wr := ⟨_, rfl, by rw [HE.out]; exact own_le ho hb.size, hb.trans (hbq.mono hb.size)⟩
          clear ho hbq hb hA5 hB hin hb2 hbx
          go_wp2
          go_ret
          exact hpost

end Go.Proofs.Ythjkogighppeaaa
end

