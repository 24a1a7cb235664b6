/-
  Slices of slices of numbers: their sizes, copies, comparison and numbering, as contracts. Orbit sets: how they lie in memory, their sizes, their copies, comparison and numbering, as contracts.
-/
import Derived.Test.YtdbogjhkcnajkaaKSameSet3
import Derived.Test.YtdbogjhkcnajkaaKSameSet8
import Derived.Test.YtdbogjhkcnajkaaKSameSet9
import Derived.Test.YtdbogjhkcnajkaaKSameSet5
import Derived.Test.YtdbogjhkcnajkaaKSameSet4
import Derived.Test.YtdbogjhkcnajkaaKSameSet10
section
namespace Go.Proofs.Ytdbogjhkcnajkaa
open Go.RowKit Go.Sort
set_option linter.unusedVariables false

theorem szI_yes (A : Option Addr) (n c : Nat) (left : Int) (w : World) (hn : n ≤ 1099511627776) (h1 : left ≤ 1099511627776) (h2 : (n : Int) ≤ left) :
    Calls Try.prog 66 #[.slice A n c, .int .i64 left] w fun e w' => e = .returned (.int .i64 (left - n)) ∧ w = w' := by
  have h3 : ¬ left - (n : Int) < 0 := by omega
  go_enter Try.func66, Try.ntmps66
  go_wp2
  go_ret
  exact ⟨rfl, rfl⟩
theorem szI_no (A : Option Addr) (n c : Nat) (left : Int) (w : World) (hn : n ≤ 9223372036854775807) (h0 : 0 ≤ left) (h1 : left ≤ 1099511627776) (h2 : left < (n : Int)) :
    Calls Try.prog 66 #[.slice A n c, .int .i64 left] w fun e w' => e = .returned (.int .i64 (-1)) ∧ w = w' := by
  have h3 : left - (n : Int) < 0 := by omega
  go_enter Try.func66, Try.ntmps66
  go_wp2
  go_ret
  exact ⟨rfl, rfl⟩

set_option maxRecDepth 100000 in
set_option maxHeartbeats 2000000 in
theorem szIntSS_any (ls : List (List Int)) (hsh : ShortR ls) (left : Int) (w : World) (x : Value) (h0 : 0 ≤ left) (h1 : left ≤ 1099511627776) (hx : RowsIn w x ls) :
    Calls Try.prog 20 #[x, .int .i64 left] w (LeftPost left (ls.length + sumR ls) w) := by
  obtain ⟨A, c, rfl⟩ := hx.form
  obtain ⟨hlen, hrl⟩ := hsh
  unfold maxLen at hlen hrl
  by_cases h2 : (ls.length : Int) ≤ left
  · have hl2 : ¬ left - (ls.length : Int) < 0 := by omega
    go_enter Try.func20, Try.ntmps20
    go_wp2
    go_loopw [1, 5] (fun l i wr => ∃ k : Nat, k ≤ ls.length ∧ i = .int .i64 k ∧ l = .int .i64 (left - ls.length - sumR (ls.take k)) ∧ (sumR (ls.take k) : Int) ≤ left - ls.length ∧ Below w.heap.size w wr) (fun _ i _ => ls.length - (intOf i).toNat)
    case atStart => exact ⟨0, Nat.zero_le _, rfl, by simp [sumR], by simp [sumR]; omega, Below.refl _ _⟩
    case round =>
      obtain ⟨k, hk, rfl, rfl, hle, hb⟩ := hrel
      by_cases hlt : k < ls.length
      · have hxr := hx.below hb
        obtain ⟨b, off, rfl, hbl, hget⟩ := hxr.get (by omega)
        obtain ⟨A1, c1, d0, hA1⟩ := hget k hlt
        have hrk := hrl k hlt
        have hnx := Lib.hid (sumR_next hlt)
        have hst := sumR_take ls (k + 1)
        generalize hc : (rwAt ls k).length = cc at d0 hnx hrk
        generalize hs : sumR (ls.take k) = s at hnx hle
        clear hget hA1 hx hxr hc hs hrl
        by_cases h3 : (cc : Int) ≤ left - ls.length - s
        · have hl3 : ¬ left - (ls.length : Int) - (s : Int) - (cc : Int) < 0 := by omega
          have hct := szI_yes A1 cc c1 (left - ls.length - s) wr (by omega) (by omega) h3
          have hse : Hid (((sumR (ls.take (k + 1)) : Nat) : Int) = s + cc) := by show ((sumR (ls.take (k + 1)) : Nat) : Int) = s + cc; rw [hnx.out]; omega
          clear hst
          go_wp2_with fail
          refine hct.mono ?_
          rintro e w2 ⟨rfl, rfl⟩
          clear hct d0
          go_wp2
          refine ⟨⟨k + 1, by omega, by go_num, by rw [hse.out]; go_num, by rw [hse.out]; omega, hb⟩, ?_⟩
          simp only [intOf]
          omega
        · have hct := szI_no A1 cc c1 (left - ls.length - s) wr (by omega) (by omega) (by omega) (by omega)
          have hr : Hid (leftR left (ls.length + sumR ls) = -1) := by
            show leftR left (ls.length + sumR ls) = -1
            refine leftR_no ?_
            have := hnx.out
            omega
          clear hst
          go_wp2_with fail
          refine hct.mono ?_
          rintro e w2 ⟨rfl, rfl⟩
          have hpost : LeftPost left (ls.length + sumR ls) w (.returned (.int .i64 (-1))) wr := ⟨by rw [hr.out], hb⟩
          clear hct d0 hr hb
          go_wp2
          go_ret
          exact hpost
      · have e : k = ls.length := by omega
        have hr : Hid (left - ls.length - sumR (ls.take k) = leftR left (ls.length + sumR ls)) := by
          show left - ls.length - sumR (ls.take k) = leftR left (ls.length + sumR ls)
          rw [List.take_of_length_le (by omega)] at hle ⊢
          rw [leftR_yes (by omega)]
          omega
        have hpost : LeftPost left (ls.length + sumR ls) w (.returned (.int .i64 (left - ls.length - sumR (ls.take k)))) wr := ⟨by rw [hr.out], hb⟩
        clear hx e hr hb
        go_wp2
        go_ret
        exact hpost
  · have hl2 : left - (ls.length : Int) < 0 := by omega
    have hpost : LeftPost left (ls.length + sumR ls) w (.returned (.int .i64 (-1))) w := ⟨by rw [leftR_no (by omega)], Below.refl _ _⟩
    clear hx
    go_enter Try.func20, Try.ntmps20
    go_wp2
    go_ret
    exact hpost

theorem rows_info : (Try.prog.info? 27).map (fun i => (i.zero, i.size, i.bytes)) = some (some (.slice none 0 0), 1, 24) := by kernel_rfl

theorem take_set1 {xs : List Value} {j : Nat} {a : Value} (h : j + 1 ≤ xs.length) : (xs.set j a).take (j + 1) = xs.take j ++ [a] := by
  apply List.ext_getElem?
  intro i
  rw [List.getElem?_take]
  by_cases hi : i < j + 1
  · rw [if_pos hi]
    by_cases h1 : i < j
    · rw [List.getElem?_append_left (by rw [List.length_take]; omega), List.getElem?_take, if_pos h1]
      simp [show ¬ j = i by omega]
    · have e : i = j := by omega
      subst e
      rw [List.getElem?_append_right (by rw [List.length_take]; omega), List.length_take, show min i xs.length = i by omega]
      simp [show i < xs.length by omega]
  · rw [if_neg hi, List.getElem?_eq_none (by rw [List.length_append, List.length_take]; simp; omega)]

set_option maxRecDepth 100000 in
set_option maxHeartbeats 4000000 in
theorem toIntSS_any (ls : List (List Int)) (hf : FitR ls) (w : World) (x : Value) (hx : RowsIn w x ls) : Calls Try.prog 23 #[x] w (RowsOut ls w) := by
  obtain ⟨A, c, rfl⟩ := hx.form
  obtain ⟨hlen, hrl⟩ := hf
  obtain ⟨i0, hi0, hz0, hz1, hz2⟩ := info_parts rows_info
  have HS := Lib.hid hz2
  clear hz2
  go_enter Try.func23, Try.ntmps23
  go_wp2_with (at_make; refine wpList_make_full _ rfl (.tmp 6) (.tmp 6) 22 rfl w.heap.size 27 i0 _ 1 Try.underlying22 hi0 hz0 hz1 .i64 .i64 _ _ ls.length rfl rfl rfl rfl ?c1 ?c2 (Nat.le_refl _) ?_)
  case c1 => rw [HS.out]; omega
  case c2 => unfold maxLen; omega
  intro w1 ho hg
  have hb0 := (Below.refl w.heap.size w).grown hg (Nat.le_refl _) (fun k hk => by cases hk)
  clear hg
  generalize hz : (madeCells #[Value.slice none 0 0] ls.length).toList = zs at ho
  clear hz
  have hlt0 : w.heap.size < w1.heap.size := (ho.lt w.heap.size rfl).2
  go_wp2
  go_loopw [4] (fun i wr => ∃ (k : Nat) (S : List Nat) (xs : List Value), k ≤ ls.length ∧ i = .int .i64 k ∧ wr.ownsRow w.heap.size 27 1 (.slice (some ⟨w.heap.size, 0, none⟩) ls.length ls.length) ls.length xs ∧ OwnL wr S (xs.take k) (encR (ls.take k)) ∧ (∀ b ∈ S, w.heap.size < b) ∧ Below w.heap.size w wr) (fun i _ => ls.length - (intOf i).toNat)
  case atStart => exact ⟨0, [], zs, Nat.zero_le _, rfl, ho, by simp [encR]; exact .nil, fun b hb => by simp at hb, hb0⟩
  case round =>
    clear ho hb0
    obtain ⟨k, S, xs, hk, rfl, ho, hL, hSb, hb⟩ := hrel
    have hwr : w.heap.size < wr.heap.size := (ho.lt w.heap.size rfl).2
    by_cases hlt : k < ls.length
    · have hxr := hx.below hb
      obtain ⟨b, off, rfl, hbl, hget⟩ := hxr.get (by omega)
      obtain ⟨A1, c1, d0, hA1⟩ := hget k hlt
      have hct := toIntS_any A1 c1 (rwAt ls k) wr hA1 (by have := hrl k hlt; omega)
      have hnx := Lib.hid (congrArg encR (rw_take_next hlt))
      generalize rwAt ls k = t at hct hnx d0
      clear hget hA1 hx hxr hrl hbl
      go_wp2_with fail
      refine hct.mono ?_
      rintro e w2 ⟨v2, rfl, ho9, hb2⟩
      obtain ⟨R, hR, hRb, hRe⟩ := own_intRow ho9
      obtain ⟨A9, c9, rfl, _⟩ := at_intRow hR.at_
      have HET : Hid (encR [t] = [intMem t]) := Lib.hid rfl
      generalize t.length = tl at *
      have ho2 := own_below ho hb2
      have hL2 := hL.alike (w' := w2) fun b hb' => hb2.block b (hL.lt b hb')
      have hb3 := hb.trans (hb2.mono hb.size)
      have hxl := ho2.1
      obtain ⟨v0, e0⟩ := some_of_lt xs k (by omega)
      have g0 := (ho2.cellAt k (by omega)).trans e0
      have f0 := ho2.frozenAt k
      obtain ⟨o1, q1⟩ := ho2.stored k (.slice A9 tl c9)
      have hL3 := hL2.kept q1 (fun b hb' => by have := hSb b hb'; intro e; injection e with e; omega)
      have hR3 := hR.alike (w' := w2.setCell ⟨w.heap.size, k, none⟩ (.slice A9 tl c9)) (fun b hb' => q1.block b (hR.lt b hb') (by have := hRb b hb'; intro e; injection e with e; omega))
      have hdis : ∀ b ∈ S, b ∉ R ++ [] := fun b h1 h2 => by have h3 := hL.lt b h1; have h4 := hRb b (by simpa using h2); omega
      have hL4 := hL3.append (OwnL.cons hR3 .nil (fun b _ hb => by simp at hb)) hdis
      have hb5 := hb3.grown q1 hb3.size (fun j hj => by injection hj with hj; omega)
      have htk : Hid ((xs.set k (.slice A9 tl c9)).take (k + 1) = xs.take k ++ [.slice A9 tl c9]) := take_set1 (by omega)
      have hL5 := hL4
      rw [← htk.out, ← HET.out, ← encR_append, ← hnx.out] at hL5
      have hSR : ∀ b ∈ S ++ (R ++ []), w.heap.size < b := fun b hb' => by
        rcases List.mem_append.1 hb' with h | h
        · exact hSb b h
        · have := hRb b (by simpa using h); omega
      clear ho ho2 hL hL2 hL3 hL4 hR hR3 hb hb2 hb3 q1 e0 hxl hct hnx htk hdis hSb hRb d0 ho9 hRe HET
      go_wp2
      refine ⟨⟨k + 1, S ++ (R ++ []), _, by omega, by go_num, o1, hL5, hSR, hb5⟩, ?_⟩
      simp only [intOf]
      omega
    · have e : k = ls.length := by omega
      subst e
      have hl := ho.1
      rw [List.take_of_length_le (by omega), List.take_of_length_le (Nat.le_refl _)] at hL
      have hpost : RowsOut ls w (.returned (.slice (some ⟨w.heap.size, 0, none⟩) ls.length ls.length)) wr :=
        ⟨_, w.heap.size :: S, rfl, .row (by rw [encR_len, Nat.mul_one]) (own_le ho (Nat.zero_le _)) hL (fun h => by have := hSb _ h; omega), fun b hb' => by
          rcases List.mem_cons.1 hb' with h | h
          · omega
          · have := hSb b h; omega, hb⟩
      clear ho hL hSb hb hx hl
      go_wp2
      go_ret
      exact hpost

set_option maxRecDepth 100000 in
set_option maxHeartbeats 2000000 in
theorem eqIntSS_any (ls : List (List Int)) (hf : FitR ls) (w : World) (x y : Value) (hx : RowsIn w x ls) (hy : RowsIn w y ls) :
    Calls Try.prog 17 #[x, y] w (YesPost w) := by
  obtain ⟨A, c, rfl⟩ := hx.form
  obtain ⟨B, d, rfl⟩ := hy.form
  obtain ⟨hlen, hrl⟩ := hf
  have k0 : ((ls.length : Int) != (ls.length : Int)) = false := by simp
  go_enter Try.func17, Try.ntmps17
  go_wp2
  go_loopw [5] (fun i wr => ∃ k : Nat, k ≤ ls.length ∧ i = .int .i64 k ∧ Below w.heap.size w wr) (fun i _ => ls.length - (intOf i).toNat)
  case atStart => exact ⟨0, Nat.zero_le _, rfl, Below.refl _ _⟩
  case round =>
    obtain ⟨k, hk, rfl, hb⟩ := hrel
    by_cases hlt : k < ls.length
    · obtain ⟨b1, o1, rfl, hb1, hg1⟩ := (hx.below hb).get (by omega)
      obtain ⟨b2, o2, rfl, hb2, hg2⟩ := (hy.below hb).get (by omega)
      obtain ⟨A1, c1, d0, hp1⟩ := hg1 k hlt
      obtain ⟨A2, c2, e0, hp2⟩ := hg2 k hlt
      have hct := fun dq os => eqIntS_any A1 A2 c1 c2 (rwAt ls k) (rwAt ls k) (grow (redrawn wr dq) os) (hp1.below (below_regrown wr dq os)) (hp2.below (below_regrown wr dq os)) (by have := hrl k hlt; omega)
      simp only [decide_true] at hct
      have hct2 := fun dq os => Calls.regrown_yes (hct dq os)
      have p0 := fun d os => cell_regrown d0 d os
      have q0 := fun d os => cell_regrown e0 d os
      generalize rwAt ls k = t at hct2 p0 q0
      clear hg1 hg2 hp1 hp2 hx hy hb1 hb2 d0 e0 hct hrl
      go_wp2
      refine wp_region_quiet_below (by kernel_rfl) (by kernel_rfl) ?_
      repeat (any_goals (first | go_big_quiet_step ((go_at_call 26; exact hct2 _ _)) | quiet_step ((go_at_call 26; exact hct2 _ _))))
      refine wpQuiet_nil ?_
      intro _ hw'
      obtain ⟨⟨dq, osq⟩, hw''⟩ := hw'
      subst hw''
      have hb3 := hb.trans ((below_regrown wr dq osq).mono hb.size)
      clear p0 q0 hct2
      generalize grow (redrawn wr dq) osq = w2 at *
      go_wp2
      refine ⟨⟨k + 1, by omega, by go_num, hb3⟩, ?_⟩
      simp only [intOf]
      omega
    · have hpost : YesPost w (.returned (.bool true)) wr := ⟨rfl, hb⟩
      clear hx hy hb
      go_wp2
      go_ret
      exact hpost

end Go.Proofs.Ytdbogjhkcnajkaa
end

section
namespace Go.Proofs.Ytdbogjhkcnajkaa
open Go.RowKit
set_option linter.unusedVariables false

abbrev ConstAt := ConstAtR
theorem ConstAt.below {w w' : World} {A : Option Addr} {c : Nat} {l : List Int} (h : ConstAt w A c l) (hb : Below w.heap.size w w') : ConstAt w' A c l := ⟨h.1.below hb, h.2⟩
/-- A value that is an orbit set. -/
def OrbIn (w : World) (x : Value) (z : Int) (l : List Int) (m : List (List Int)) : Prop :=
  ∃ A c B d, x = .agg #[.int .i64 z, .slice A l.length c, .slice B m.length d] ∧ ConstAt w A c l ∧ RowsIn w (.slice B m.length d) m
theorem OrbIn.below {w w' : World} {x : Value} {z : Int} {l : List Int} {m : List (List Int)} (h : OrbIn w x z l m) (hb : Below w.heap.size w w') : OrbIn w' x z l m := by
  obtain ⟨A, c, B, d, rfl, h1, h2⟩ := h
  exact ⟨A, c, B, d, rfl, h1.below hb, h2.below hb⟩
def ShortO (l : List Int) (m : List (List Int)) : Prop := l.length ≤ maxLen ∧ ShortR m
def FitO (l : List Int) (m : List (List Int)) : Prop := l.length ≤ 2097152 ∧ FitR m
theorem fitO_of {l : List Int} {m : List (List Int)} (h : ((l.length + (m.length + sumR m) : Nat) : Int) ≤ 1048576) : FitO l m := ⟨by omega, fitR_of (by omega)⟩
def encO (z : Int) (l : List Int) (m : List (List Int)) : List Mem := [.cell (.int .i64 z), intMem l, rowsMem m]

namespace OrbK
theorem box_lt {w : World} {g : Nat} {o : Obj} (h : w.heap[g]? = some o) : g < w.heap.size := (Array.getElem?_eq_some_iff.1 h).1
theorem row3 {w : World} {g : Nat} {a b c : Value} {T : TypeId} (h : w.heap[g]? = some (.cells #[a, b, c] T (0, 0))) : w.cell? ⟨g, 0, none⟩ = some a ∧ w.cell? ⟨g, 1, none⟩ = some b ∧ w.cell? ⟨g, 2, none⟩ = some c := by
  refine ⟨?_, ?_, ?_⟩ <;> rw [cell_of_row w g _ _ _ _ h] <;> rfl
end OrbK

/-- Rows, each with room for itself. -/
def RowsC (w : World) (A : Option Addr) (ls : List (List Int)) : Prop :=
  0 < ls.length → ∃ b off, A = some ⟨b, off, none⟩ ∧ b < w.heap.size ∧ ∀ i, i < ls.length → ∃ A1 c1, w.cell? ⟨b, off + i, none⟩ = some (.slice A1 (rwAt ls i).length c1) ∧ IntsAt w A1 (rwAt ls i) ∧ (rwAt ls i).length ≤ c1
theorem RowsC.below {w w' : World} {A : Option Addr} {ls : List (List Int)} (h : RowsC w A ls) (hb : Below w.heap.size w w') : RowsC w' A ls := by
  intro hp
  obtain ⟨b, off, rfl, hlt, hc⟩ := h hp
  refine ⟨b, off, rfl, Nat.lt_of_lt_of_le hlt hb.size, fun i hi => ?_⟩
  obtain ⟨A1, c1, h1, h2, h3⟩ := hc i hi
  exact ⟨A1, c1, (hb.cell (p := ⟨b, off + i, none⟩) hlt).trans h1, h2.below hb, h3⟩
theorem own_rowsC {w : World} {T : List Nat} {A : Option Addr} {n c : Nat} {ls : List (List Int)} (h : Own w T (.slice A n c) (rowsMem ls)) : RowsC w A ls := by
  intro hp
  obtain ⟨g, cap, xs, S', _, ev, ho, hL, _⟩ := own_rows (encR_len ls) h hp
  injection ev with e1 e2 e3
  subst e1; subst e2; subst e3
  refine ⟨g, 0, rfl, (ho.lt g rfl).2, fun i hi => ?_⟩
  obtain ⟨u, T', hu, hT, _, _⟩ := hL.focus i _ (encR_at hi)
  obtain ⟨A1, c1, rfl, hA⟩ := at_intRow hT.at_
  refine ⟨A1, c1, by rw [Nat.zero_add]; exact (ho.cellAt i (by omega)).trans hu, hA, ?_⟩
  rcases (cellRow_own (icells_len _) hT).1.2 with ⟨e, h0⟩ | ⟨g2, cap2, cur, e, _, _, hn, _⟩
  · omega
  · injection e with _ _ e3
    omega
/-- A value that is an orbit set, as it is handed over. -/
def OrbIx (w : World) (x : Value) (z : Int) (l : List Int) (m : List (List Int)) : Prop :=
  ∃ A c B d, x = .agg #[.int .i64 z, .slice A l.length c, .slice B m.length d] ∧ ConstAt w A c l ∧ RowsIn w (.slice B m.length d) m ∧ RowsC w B m
theorem OrbIx.below {w w' : World} {x : Value} {z : Int} {l : List Int} {m : List (List Int)} (h : OrbIx w x z l m) (hb : Below w.heap.size w w') : OrbIx w' x z l m := by
  obtain ⟨A, c, B, d, rfl, h1, h2, h3⟩ := h
  exact ⟨A, c, B, d, rfl, h1.below hb, h2.below hb, h3.below hb⟩
theorem OrbIx.in_ {w : World} {x : Value} {z : Int} {l : List Int} {m : List (List Int)} (h : OrbIx w x z l m) : OrbIn w x z l m := by
  obtain ⟨A, c, B, d, rfl, h1, h2, _⟩ := h
  exact ⟨A, c, B, d, rfl, h1, h2⟩
theorem orbOut_ix {w : World} {S : List Nat} {z : Int} {l : List Int} {m : List (List Int)} {A B : Option Addr} {c d : Nat} (h : OwnL w S [.int .i64 z, .slice A l.length c, .slice B m.length d] (encO z l m)) :
    OrbIx w (.agg #[.int .i64 z, .slice A l.length c, .slice B m.length d]) z l m := by
  unfold encO at h
  cases h with
  | cons _ h1 hd1 => cases h1 with
    | cons h2 h1 hd2 => cases h1 with
      | cons h3 _ _ =>
        obtain ⟨A', c', e, hp⟩ := at_intRow h2.at_
        simp only [Value.slice.injEq] at e
        obtain ⟨rfl, _, rfl⟩ := e
        refine ⟨A, c, B, d, rfl, ⟨hp, fun e => ?_⟩, h3.at_, own_rowsC h3⟩
        subst e
        exact own_nilcap h2

theorem orb_ownL {w : World} {z : Int} {l : List Int} {m : List (List Int)} {pv kv : Value} {S T : List Nat} (h : Own w S pv (intMem l)) (k : Own w T kv (rowsMem m)) (hd : ∀ b ∈ S, b ∉ T) : OwnL w (S ++ (T ++ [])) [.int .i64 z, pv, kv] (encO z l m) := by
  unfold encO
  exact .cons (S := []) (.cell _) (.cons h (.cons k .nil (fun b _ => by simp)) (fun b hb ht => hd b hb (by simpa using ht))) (fun b hb => by simp at hb)

set_option maxRecDepth 100000 in
set_option maxHeartbeats 2000000 in
theorem szOrbitSet_any (z : Int) (l : List Int) (m : List (List Int)) (hs : ShortO l m) (left : Int) (w : World) (x : Value) (h0 : 0 ≤ left) (h1 : left ≤ 1099511627776) (hx : OrbIn w x z l m) :
    Calls Try.prog 30 #[x, .int .i64 left] w (LeftPost left (l.length + (m.length + sumR m)) w) := by
  obtain ⟨hs1, hs2⟩ := hs
  obtain ⟨A, c, B, d, rfl, hl, hm⟩ := hx
  have hlm : l.length ≤ 9223372036854775807 := by unfold maxLen at hs1; omega
  have hb0 : Below w.heap.size w (w.alloc (.cells #[.int .i64 z, .slice A l.length c, .slice B m.length d] 39)) := (Below.refl _ _).alloc (Nat.le_refl _) _
  have k0 := heap_alloc_new w (.cells #[.int .i64 z, .slice A l.length c, .slice B m.length d] 39)
  obtain ⟨m0, m1, m2⟩ := OrbK.row3 k0
  have hm1 := hm.below hb0
  generalize hkc : m.length + sumR m = kc at *
  by_cases h3 : (l.length : Int) ≤ left
  · have hl1 : ¬ left - (l.length : Int) < 0 := by omega
    have hsz := szIntSS_any m hs2 (left - l.length) (w.alloc (.cells #[.int .i64 z, .slice A l.length c, .slice B m.length d] 39)) _ (by omega) (by omega) hm1
    rw [hkc] at hsz
    have hz : Hid (leftR left (l.length + kc) = leftR (left - l.length) kc) := by
      show leftR left (l.length + kc) = leftR (left - l.length) kc
      by_cases h4 : (kc : Int) ≤ left - l.length
      · rw [leftR_yes h4, leftR_yes (by omega)]; omega
      · rw [leftR_no h4, leftR_no (by omega)]
    have HB0 := Lib.hid hb0
    clear hl hm hs1 hs2 hm1 hkc k0 hb0
    unfold LeftPost at hsz
    go_enter Try.func30, Try.ntmps30
    go_wp2_with fail
    refine (szI_yes A l.length c left _ (by omega) h1 h3).mono ?_
    rintro e w' ⟨rfl, rfl⟩
    by_cases h4 : (kc : Int) ≤ left - l.length
    · rw [leftR_yes h4] at hsz
      have hl2 : ¬ left - (l.length : Int) - (kc : Int) < 0 := by omega
      go_wp2_with fail
      refine hsz.mono ?_
      rintro e w1 ⟨rfl, hb1⟩
      have hpost : LeftPost left (l.length + kc) w (.returned (.int .i64 (left - l.length - kc))) w1 := ⟨by rw [hz.out, leftR_yes h4], HB0.out.trans (hb1.mono HB0.out.size)⟩
      clear hsz m0 m1 m2 hb1 hz HB0
      go_wp2
      go_ret
      exact hpost
    · rw [leftR_no (by omega)] at hsz
      go_wp2_with fail
      refine hsz.mono ?_
      rintro e w1 ⟨rfl, hb1⟩
      have hpost : LeftPost left (l.length + kc) w (.returned (.int .i64 (-1))) w1 := ⟨by rw [hz.out, leftR_no (by omega)], HB0.out.trans (hb1.mono HB0.out.size)⟩
      clear hsz m0 m1 m2 hb1 hz HB0
      go_wp2
      go_ret
      exact hpost
  · have hpost : LeftPost left (l.length + kc) w (.returned (.int .i64 (-1))) (w.alloc (.cells #[.int .i64 z, .slice A l.length c, .slice B m.length d] 39)) := ⟨by rw [leftR_no (by omega)], hb0⟩
    clear hl hm hs1 hs2 hm1 hkc k0 hb0
    go_enter Try.func30, Try.ntmps30
    go_wp2_with fail
    refine (szI_no A l.length c left _ (by omega) h0 h1 (by omega)).mono ?_
    rintro e w' ⟨rfl, rfl⟩
    go_wp2
    go_ret
    exact hpost

/-- An orbit set whose slices are of the call's own. -/
def OrbOut (z : Int) (l : List Int) (m : List (List Int)) (w : World) (e : Ending) (w' : World) : Prop :=
  ∃ A1 c1 A2 c2 S, e = .returned (.agg #[.int .i64 z, .slice A1 l.length c1, .slice A2 m.length c2]) ∧
    OwnL w' S [.int .i64 z, .slice A1 l.length c1, .slice A2 m.length c2] (encO z l m) ∧ (∀ b ∈ S, w.heap.size ≤ b) ∧ Below w.heap.size w w'

set_option maxRecDepth 100000 in
set_option maxHeartbeats 4000000 in
theorem toOrbitSet_any (z : Int) (l : List Int) (m : List (List Int)) (hf : FitO l m) (w : World) (x : Value) (hx : OrbIn w x z l m) :
    Calls Try.prog 32 #[x] w (OrbOut z l m w) := by
  obtain ⟨hll, hfm⟩ := hf
  obtain ⟨A, c, B, d, rfl, hl, hm⟩ := hx
  have hb0 : Below w.heap.size w (((w.alloc (.cells #[.int .i64 z, .slice A l.length c, .slice B m.length d] 39)).alloc (.cells #[.int .i64 0, .slice none 0 0, .slice none 0 0] 29)).alloc (.cells #[.int .i64 z, .slice none 0 0, .slice none 0 0] 29)) :=
    (((Below.refl _ _).alloc (Nat.le_refl _) _).alloc (by simp) _).alloc (by simp; omega) _
  have hto := toIntS_any A c l _ (hl.below hb0).1 (by omega)
  have hsz0 : (((w.alloc (.cells #[.int .i64 z, .slice A l.length c, .slice B m.length d] 39)).alloc (.cells #[.int .i64 0, .slice none 0 0, .slice none 0 0] 29)).alloc (.cells #[.int .i64 z, .slice none 0 0, .slice none 0 0] 29)).heap.size = w.heap.size + 3 := by simp
  have hbox : (((w.alloc (.cells #[.int .i64 z, .slice A l.length c, .slice B m.length d] 39)).alloc (.cells #[.int .i64 0, .slice none 0 0, .slice none 0 0] 29)).alloc (.cells #[.int .i64 z, .slice none 0 0, .slice none 0 0] 29)).heap[w.heap.size]? = some (.cells #[.int .i64 z, .slice A l.length c, .slice B m.length d] 39 (0, 0)) :=
    (Below.heap_alloc _ _ _ (by simp; omega)).trans ((Below.heap_alloc _ _ _ (by simp)).trans (heap_alloc_new w _))
  have hres : (((w.alloc (.cells #[.int .i64 z, .slice A l.length c, .slice B m.length d] 39)).alloc (.cells #[.int .i64 0, .slice none 0 0, .slice none 0 0] 29)).alloc (.cells #[.int .i64 z, .slice none 0 0, .slice none 0 0] 29)).heap[w.heap.size + 1]? = some (.cells #[.int .i64 0, .slice none 0 0, .slice none 0 0] 29 (0, 0)) := by
    have h9 := heap_alloc_new (w.alloc (.cells #[.int .i64 z, .slice A l.length c, .slice B m.length d] 39)) (.cells #[.int .i64 0, .slice none 0 0, .slice none 0 0] 29)
    rw [World.size_alloc] at h9
    exact (Below.heap_alloc _ _ _ (by simp)).trans h9
  have hout : (((w.alloc (.cells #[.int .i64 z, .slice A l.length c, .slice B m.length d] 39)).alloc (.cells #[.int .i64 0, .slice none 0 0, .slice none 0 0] 29)).alloc (.cells #[.int .i64 z, .slice none 0 0, .slice none 0 0] 29)).heap[w.heap.size + 1 + 1]? = some (.cells #[.int .i64 z, .slice none 0 0, .slice none 0 0] 29 (0, 0)) := by
    have h9 := heap_alloc_new ((w.alloc (.cells #[.int .i64 z, .slice A l.length c, .slice B m.length d] 39)).alloc (.cells #[.int .i64 0, .slice none 0 0, .slice none 0 0] 29)) (.cells #[.int .i64 z, .slice none 0 0, .slice none 0 0] 29)
    rw [World.size_alloc, World.size_alloc] at h9
    exact h9
  have HM := Lib.hid hm
  have HS0 := Lib.hid hsz0
  have HK := Lib.hid hbox
  have HR := Lib.hid hres
  have HO := Lib.hid hout
  have HB0 := Lib.hid hb0
  obtain ⟨m0, m1, m2⟩ := OrbK.row3 hbox
  clear hl hm hbox hres hout hb0 hsz0
  go_enter Try.func32, Try.ntmps32
  go_wp2_with fail
  refine hto.mono ?_
  rintro e w1 ⟨v1, rfl, ho1, hb1⟩
  obtain ⟨S1, hS1, hS1b, _⟩ := own_intRow ho1
  obtain ⟨A1, c1, rfl, _⟩ := at_intRow hS1.at_
  have hz1 := hb1.size
  rw [HS0.out] at hz1 hS1b
  have k1 := (hb1.block w.heap.size (by rw [HS0.out]; omega)).trans HK.out
  have r1 := (hb1.block (w.heap.size + 1) (by rw [HS0.out]; omega)).trans HR.out
  have o1 := (hb1.block (w.heap.size + 1 + 1) (by rw [HS0.out]; omega)).trans HO.out
  have hbz1 := HB0.out.trans (hb1.mono HB0.out.size)
  clear hto m0 m1 m2 hb1 HK HR HO HB0 HS0 ho1
  have o2 := heap_setCell_same w1 (w.heap.size + 1 + 1) 1 _ _ (.slice A1 l.length c1) o1
  have on2 : Only [w.heap.size + 1 + 1] w1 (w1.setCell ⟨w.heap.size + 1 + 1, 1, none⟩ (.slice A1 l.length c1)) := (Only.refl _ _).set ⟨w.heap.size + 1 + 1, 1, none⟩ _ (by simp)
  have k2 := (on2.block w.heap.size (OrbK.box_lt k1) (by first | (simp; done) | (simp; omega))).trans k1
  have r2 := (on2.block (w.heap.size + 1) (OrbK.box_lt r1) (by first | (simp; done) | (simp; omega))).trans r1
  have hbz2 := hbz1.setCell (p := ⟨w.heap.size + 1 + 1, 1, none⟩) (show w.heap.size ≤ w.heap.size + 1 + 1 by omega) (.slice A1 l.length c1)
  have hS2 := hS1.setCell_other ⟨w.heap.size + 1 + 1, 1, none⟩ (.slice A1 l.length c1) (fun b hb => by have := hS1b b hb; show b ≠ w.heap.size + 1 + 1; omega)
  have hfr := toIntSS_any m hfm (w1.setCell ⟨w.heap.size + 1 + 1, 1, none⟩ (.slice A1 l.length c1)) _ (HM.out.below hbz2)
  obtain ⟨m0, m1, m2⟩ := OrbK.row3 k2
  obtain ⟨x0, x1, x2⟩ := OrbK.row3 o1
  have y0 := frozen_of_row _ _ 1 _ _ o1
  have HO2 := Lib.hid o2
  have HR2 := Lib.hid r2
  have HBZ := Lib.hid hbz2
  have HS2 := Lib.hid hS2
  have HSb := Lib.hid hS1b
  have HSZ : Hid (w1.heap.size = (w1.setCell ⟨w.heap.size + 1 + 1, 1, none⟩ (.slice A1 l.length c1)).heap.size) := Lib.hid (by simp)
  clear o1 o2 r1 r2 k1 k2 on2 hbz1 hbz2 hS1 hS2 hS1b
  go_wp2_with fail
  refine hfr.mono ?_
  rintro e w3 ⟨v2, S3, rfl, hS3, hS3b, hb3⟩
  obtain ⟨B2, d2, rfl⟩ := RowsIn.form (ls := m) hS3.at_
  rw [← HSZ.out] at hS3b
  have o3 := (hb3.block (w.heap.size + 1 + 1) (OrbK.box_lt HO2.out)).trans HO2.out
  have r3 := (hb3.block (w.heap.size + 1) (OrbK.box_lt HR2.out)).trans HR2.out
  have hbz3 := HBZ.out.trans (hb3.mono HBZ.out.size)
  have hS4 := HS2.out.keep hb3
  have hlt4 : ∀ b ∈ S1, b < w1.heap.size := fun b hb => by rw [HSZ.out]; exact HS2.out.lt b hb
  have hd : ∀ b ∈ S1, b ∉ S3 := fun b h1 h3 => by have h4 := hS3b b h3; have h5 := hlt4 b h1; omega
  have hL := orb_ownL (z := z) hS4 hS3 hd
  have hLb : ∀ b ∈ S1 ++ (S3 ++ []), w.heap.size + 2 < b := fun b hb => by
      rw [List.append_nil] at hb
      rcases List.mem_append.1 hb with h | h
      · have := HSb.out b h; omega
      · have := hS3b b h; omega
  clear hfr m0 m1 m2 x0 x1 x2 y0
  have onF : Only [w.heap.size + 1 + 1, w.heap.size + 1] w3 ((((w3.setCell ⟨w.heap.size + 1 + 1, 2, none⟩ (.slice B2 m.length d2)).setCell ⟨w.heap.size + 1, 0, none⟩ (.int .i64 z)).setCell ⟨w.heap.size + 1, 1, none⟩ (.slice A1 l.length c1)).setCell ⟨w.heap.size + 1, 2, none⟩ (.slice B2 m.length d2)) := ((((Only.refl _ _).set ⟨w.heap.size + 1 + 1, 2, none⟩ _ (by simp)).set ⟨w.heap.size + 1, 0, none⟩ _ (by simp)).set ⟨w.heap.size + 1, 1, none⟩ _ (by simp)).set ⟨w.heap.size + 1, 2, none⟩ _ (by simp)
  have hbF : Below w.heap.size w ((((w3.setCell ⟨w.heap.size + 1 + 1, 2, none⟩ (.slice B2 m.length d2)).setCell ⟨w.heap.size + 1, 0, none⟩ (.int .i64 z)).setCell ⟨w.heap.size + 1, 1, none⟩ (.slice A1 l.length c1)).setCell ⟨w.heap.size + 1, 2, none⟩ (.slice B2 m.length d2)) := (((hbz3.setCell (p := ⟨w.heap.size + 1 + 1, 2, none⟩) (show w.heap.size ≤ w.heap.size + 1 + 1 by omega) _).setCell (p := ⟨w.heap.size + 1, 0, none⟩) (show w.heap.size ≤ w.heap.size + 1 by omega) _).setCell (p := ⟨w.heap.size + 1, 1, none⟩) (show w.heap.size ≤ w.heap.size + 1 by omega) _).setCell (p := ⟨w.heap.size + 1, 2, none⟩) (show w.heap.size ≤ w.heap.size + 1 by omega) _
  have hLF := hL.alike (w' := ((((w3.setCell ⟨w.heap.size + 1 + 1, 2, none⟩ (.slice B2 m.length d2)).setCell ⟨w.heap.size + 1, 0, none⟩ (.int .i64 z)).setCell ⟨w.heap.size + 1, 1, none⟩ (.slice A1 l.length c1)).setCell ⟨w.heap.size + 1, 2, none⟩ (.slice B2 m.length d2))) fun bb hbb => onF.block bb (hL.lt bb hbb) (by have := hLb bb hbb; simp; omega)
  have hpost : OrbOut z l m w (.returned (.agg #[.int .i64 z, .slice A1 l.length c1, .slice B2 m.length d2])) ((((w3.setCell ⟨w.heap.size + 1 + 1, 2, none⟩ (.slice B2 m.length d2)).setCell ⟨w.heap.size + 1, 0, none⟩ (.int .i64 z)).setCell ⟨w.heap.size + 1, 1, none⟩ (.slice A1 l.length c1)).setCell ⟨w.heap.size + 1, 2, none⟩ (.slice B2 m.length d2)) :=
    ⟨A1, c1, B2, d2, _, rfl, hLF, fun b hb => by have := hLb b hb; omega, hbF⟩
  obtain ⟨x0, x1, x2⟩ := OrbK.row3 o3
  have y0 := frozen_of_row _ _ 0 _ _ o3
  have y1 := frozen_of_row _ _ 1 _ _ o3
  have y2 := frozen_of_row _ _ 2 _ _ o3
  obtain ⟨s0, s1, s2⟩ := OrbK.row3 r3
  have z0 := frozen_of_row _ _ 0 _ _ r3
  have z1 := frozen_of_row _ _ 1 _ _ r3
  have z2 := frozen_of_row _ _ 2 _ _ r3
  clear hLF hL hLb hd hbF onF o3 r3 hbz3 hS3 hS4 hb3 HS2 HSb HSZ HBZ HO2 HR2 HM hS3b hlt4
  go_wp2
  exact bodyPost_ret (v := .agg #[.int .i64 z, .slice A1 l.length c1, .slice B2 m.length d2]) (by simp [results, Try.results32, go_sem, s0, s1, s2]) rfl hpost

set_option maxRecDepth 100000 in
set_option maxHeartbeats 2000000 in
theorem eqOrbitSet_any (z : Int) (l : List Int) (m : List (List Int)) (hf : FitO l m) (w : World) (x y : Value) (hx9 : OrbIx w x z l m) (hy9 : OrbIx w y z l m) :
    Calls Try.prog 25 #[x, y] w (YesPost w) := by
  obtain ⟨hll, hfm⟩ := hf
  obtain ⟨A, c, B, d, rfl, hxl, hxm⟩ := hx9.in_
  obtain ⟨A', c', B', d', rfl, hyl, hym⟩ := hy9.in_
  clear hx9 hy9
  have hb0 : Below w.heap.size w ((w.alloc (.cells #[.int .i64 z, .slice A l.length c, .slice B m.length d] 29)).alloc (.cells #[.int .i64 z, .slice A' l.length c', .slice B' m.length d'] 29)) := ((Below.refl _ _).alloc (Nat.le_refl _) _).alloc (by simp) _
  have k0 : ((w.alloc (.cells #[.int .i64 z, .slice A l.length c, .slice B m.length d] 29)).alloc (.cells #[.int .i64 z, .slice A' l.length c', .slice B' m.length d'] 29)).heap[w.heap.size]? = some (.cells #[.int .i64 z, .slice A l.length c, .slice B m.length d] 29 (0, 0)) := (Below.heap_alloc _ _ _ (by simp)).trans (heap_alloc_new w _)
  have k1 : ((w.alloc (.cells #[.int .i64 z, .slice A l.length c, .slice B m.length d] 29)).alloc (.cells #[.int .i64 z, .slice A' l.length c', .slice B' m.length d'] 29)).heap[w.heap.size + 1]? = some (.cells #[.int .i64 z, .slice A' l.length c', .slice B' m.length d'] 29 (0, 0)) := by
    have h := heap_alloc_new (w.alloc (.cells #[.int .i64 z, .slice A l.length c, .slice B m.length d] 29)) (.cells #[.int .i64 z, .slice A' l.length c', .slice B' m.length d'] 29)
    rw [World.size_alloc] at h
    exact h
  have he1 := eqIntS_any A A' c c' l l ((w.alloc (.cells #[.int .i64 z, .slice A l.length c, .slice B m.length d] 29)).alloc (.cells #[.int .i64 z, .slice A' l.length c', .slice B' m.length d'] 29)) (hxl.below hb0).1 (hyl.below hb0).1 (by omega)
  rw [decide_eq_true (rfl : l = l)] at he1
  have hzz : (z != z) = false := by simp
  have HX := Lib.hid hxm
  have HY := Lib.hid hym
  have HB0 := Lib.hid hb0
  have HK0 := Lib.hid k0
  have HK1 := Lib.hid k1
  obtain ⟨m0, m1, m2⟩ := OrbK.row3 k0
  obtain ⟨n0, n1, n2⟩ := OrbK.row3 k1
  clear hxl hxm hyl hym hb0 k0 k1
  go_enter Try.func25, Try.ntmps25
  go_wp2_with fail
  refine he1.mono ?_
  rintro e w1 ⟨rfl, hb1⟩
  have hbw1 := HB0.out.trans (hb1.mono HB0.out.size)
  have k0 := (hb1.block w.heap.size (OrbK.box_lt HK0.out)).trans HK0.out
  have k1 := (hb1.block (w.heap.size + 1) (OrbK.box_lt HK1.out)).trans HK1.out
  clear he1 m0 m1 m2 n0 n1 n2
  obtain ⟨m0, m1, m2⟩ := OrbK.row3 k0
  obtain ⟨n0, n1, n2⟩ := OrbK.row3 k1
  have he2 := eqIntSS_any m hfm w1 _ _ (HX.out.below hbw1) (HY.out.below hbw1)
  clear k0 k1
  go_wp2_with fail
  refine he2.mono ?_
  rintro e w2 ⟨rfl, hb2⟩
  have hbw2 := hbw1.trans (hb2.mono hbw1.size)
  clear he2 m0 m1 m2 n0 n1 n2
  go_wp2
  go_ret
  exact ⟨rfl, hbw2⟩

end Go.Proofs.Ytdbogjhkcnajkaa
end

