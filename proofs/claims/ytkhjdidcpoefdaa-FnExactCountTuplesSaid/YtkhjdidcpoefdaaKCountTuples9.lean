/-
  Slices of slices of numbers: their sizes, copies, comparison and numbering, as contracts.
-/
import Derived.Test.YtkhjdidcpoefdaaKCountTuples2
import Derived.Test.YtkhjdidcpoefdaaKCountTuples6
import Derived.Test.YtkhjdidcpoefdaaKCountTuples7
import Derived.Test.YtkhjdidcpoefdaaKCountTuples5
import Derived.Test.YtkhjdidcpoefdaaKCountTuples3
import Derived.Test.YtkhjdidcpoefdaaKCountTuples8
namespace Go.Proofs.Ytkhjdidcpoefdaa
open Go.RowKit Go.Sort
set_option linter.unusedVariables false

theorem szI_yes (A : Option Addr) (n c : Nat) (left : Int) (w : World) (hn : n ≤ 1099511627776) (h1 : left ≤ 1099511627776) (h2 : (n : Int) ≤ left) :
    Calls Try.prog 77 #[.slice A n c, .int .i64 left] w fun e w' => e = .returned (.int .i64 (left - n)) ∧ w = w' := by
  have h3 : ¬ left - (n : Int) < 0 := by omega
  go_enter Try.func77, Try.ntmps77
  go_wp2
  go_ret
  exact ⟨rfl, rfl⟩
theorem szI_no (A : Option Addr) (n c : Nat) (left : Int) (w : World) (hn : n ≤ 9223372036854775807) (h0 : 0 ≤ left) (h1 : left ≤ 1099511627776) (h2 : left < (n : Int)) :
    Calls Try.prog 77 #[.slice A n c, .int .i64 left] w fun e w' => e = .returned (.int .i64 (-1)) ∧ w = w' := by
  have h3 : left - (n : Int) < 0 := by omega
  go_enter Try.func77, Try.ntmps77
  go_wp2
  go_ret
  exact ⟨rfl, rfl⟩

set_option maxRecDepth 100000 in
set_option maxHeartbeats 2000000 in
theorem szIntSS_any (ls : List (List Int)) (hsh : ShortR ls) (left : Int) (w : World) (x : Value) (h0 : 0 ≤ left) (h1 : left ≤ 1099511627776) (hx : RowsIn w x ls) :
    Calls Try.prog 78 #[x, .int .i64 left] w (LeftPost left (ls.length + sumR ls) w) := by
  obtain ⟨A, c, rfl⟩ := hx.form
  obtain ⟨hlen, hrl⟩ := hsh
  unfold maxLen at hlen hrl
  by_cases h2 : (ls.length : Int) ≤ left
  · have hl2 : ¬ left - (ls.length : Int) < 0 := by omega
    go_enter Try.func78, Try.ntmps78
    go_wp2
    go_loopw [1, 5] (fun l i wr => ∃ k : Nat, k ≤ ls.length ∧ i = .int .i64 k ∧ l = .int .i64 (left - ls.length - sumR (ls.take k)) ∧ (sumR (ls.take k) : Int) ≤ left - ls.length ∧ Below w.heap.size w wr) (fun _ i _ => ls.length - (intOf i).toNat)
    case atStart => exact ⟨0, Nat.zero_le _, rfl, by simp [sumR], by simp [sumR]; omega, Below.refl _ _⟩
    case round =>
      obtain ⟨k, hk, rfl, rfl, hle, hb⟩ := hrel
      by_cases hlt : k < ls.length
      · have hxr := hx.below hb
        obtain ⟨b, off, rfl, hbl, hget⟩ := hxr.get (by omega)
        obtain ⟨A1, c1, d0, hA1⟩ := hget k hlt
        have hrk := hrl k hlt
        have hnx := Lib.hid (sumR_next hlt)
        have hst := sumR_take ls (k + 1)
        generalize hc : (rwAt ls k).length = cc at d0 hnx hrk
        generalize hs : sumR (ls.take k) = s at hnx hle
        clear hget hA1 hx hxr hc hs hrl
        by_cases h3 : (cc : Int) ≤ left - ls.length - s
        · have hl3 : ¬ left - (ls.length : Int) - (s : Int) - (cc : Int) < 0 := by omega
          have hct := szI_yes A1 cc c1 (left - ls.length - s) wr (by omega) (by omega) h3
          have hse : Hid (((sumR (ls.take (k + 1)) : Nat) : Int) = s + cc) := by show ((sumR (ls.take (k + 1)) : Nat) : Int) = s + cc; rw [hnx.out]; omega
          clear hst
          go_wp2_with fail
          refine hct.mono ?_
          rintro e w2 ⟨rfl, rfl⟩
          clear hct d0
          go_wp2
          refine ⟨⟨k + 1, by omega, by go_num, by rw [hse.out]; go_num, by rw [hse.out]; omega, hb⟩, ?_⟩
          simp only [intOf]
          omega
        · have hct := szI_no A1 cc c1 (left - ls.length - s) wr (by omega) (by omega) (by omega) (by omega)
          have hr : Hid (leftR left (ls.length + sumR ls) = -1) := by
            show leftR left (ls.length + sumR ls) = -1
            refine leftR_no ?_
            have := hnx.out
            omega
          clear hst
          go_wp2_with fail
          refine hct.mono ?_
          rintro e w2 ⟨rfl, rfl⟩
          have hpost : LeftPost left (ls.length + sumR ls) w (.returned (.int .i64 (-1))) wr := ⟨by rw [hr.out], hb⟩
          clear hct d0 hr hb
          go_wp2
          go_ret
          exact hpost
      · have e : k = ls.length := by omega
        have hr : Hid (left - ls.length - sumR (ls.take k) = leftR left (ls.length + sumR ls)) := by
          show left - ls.length - sumR (ls.take k) = leftR left (ls.length + sumR ls)
          rw [List.take_of_length_le (by omega)] at hle ⊢
          rw [leftR_yes (by omega)]
          omega
        have hpost : LeftPost left (ls.length + sumR ls) w (.returned (.int .i64 (left - ls.length - sumR (ls.take k)))) wr := ⟨by rw [hr.out], hb⟩
        clear hx e hr hb
        go_wp2
        go_ret
        exact hpost
  · have hl2 : left - (ls.length : Int) < 0 := by omega
    have hpost : LeftPost left (ls.length + sumR ls) w (.returned (.int .i64 (-1))) w := ⟨by rw [leftR_no (by omega)], Below.refl _ _⟩
    clear hx
    go_enter Try.func78, Try.ntmps78
    go_wp2
    go_ret
    exact hpost

theorem rows_info : (Try.prog.info? 34).map (fun i => (i.zero, i.size, i.bytes)) = some (some (.slice none 0 0), 1, 24) := by kernel_rfl

theorem take_set1 {xs : List Value} {j : Nat} {a : Value} (h : j + 1 ≤ xs.length) : (xs.set j a).take (j + 1) = xs.take j ++ [a] := by
  apply List.ext_getElem?
  intro i
  rw [List.getElem?_take]
  by_cases hi : i < j + 1
  · rw [if_pos hi]
    by_cases h1 : i < j
    · rw [List.getElem?_append_left (by rw [List.length_take]; omega), List.getElem?_take, if_pos h1]
      simp [show ¬ j = i by omega]
    · have e : i = j := by omega
      subst e
      rw [List.getElem?_append_right (by rw [List.length_take]; omega), List.length_take, show min i xs.length = i by omega]
      simp [show i < xs.length by omega]
  · rw [if_neg hi, List.getElem?_eq_none (by rw [List.length_append, List.length_take]; simp; omega)]

set_option maxRecDepth 100000 in
set_option maxHeartbeats 4000000 in
theorem toIntSS_any (ls : List (List Int)) (hf : FitR ls) (w : World) (x : Value) (hx : RowsIn w x ls) : Calls Try.prog 80 #[x] w (RowsOut ls w) := by
  obtain ⟨A, c, rfl⟩ := hx.form
  obtain ⟨hlen, hrl⟩ := hf
  obtain ⟨i0, hi0, hz0, hz1, hz2⟩ := info_parts rows_info
  have HS := Lib.hid hz2
  clear hz2
  go_enter Try.func80, Try.ntmps80
  go_wp2_with (at_make; refine wpList_make_full _ rfl (.tmp 6) (.tmp 6) 49 rfl w.heap.size 34 i0 _ 1 Try.underlying49 hi0 hz0 hz1 .i64 .i64 _ _ ls.length rfl rfl rfl rfl ?c1 ?c2 (Nat.le_refl _) ?_)
  case c1 => rw [HS.out]; omega
  case c2 => unfold maxLen; omega
  intro w1 ho hg
  have hb0 := (Below.refl w.heap.size w).grown hg (Nat.le_refl _) (fun k hk => by cases hk)
  clear hg
  generalize hz : (madeCells #[Value.slice none 0 0] ls.length).toList = zs at ho
  clear hz
  have hlt0 : w.heap.size < w1.heap.size := (ho.lt w.heap.size rfl).2
  go_wp2
  go_loopw [4] (fun i wr => ∃ (k : Nat) (S : List Nat) (xs : List Value), k ≤ ls.length ∧ i = .int .i64 k ∧ wr.ownsRow w.heap.size 34 1 (.slice (some ⟨w.heap.size, 0, none⟩) ls.length ls.length) ls.length xs ∧ OwnL wr S (xs.take k) (encR (ls.take k)) ∧ (∀ b ∈ S, w.heap.size < b) ∧ Below w.heap.size w wr) (fun i _ => ls.length - (intOf i).toNat)
  case atStart => exact ⟨0, [], zs, Nat.zero_le _, rfl, ho, by simp [encR]; exact .nil, fun b hb => by simp at hb, hb0⟩
  case round =>
    clear ho hb0
    obtain ⟨k, S, xs, hk, rfl, ho, hL, hSb, hb⟩ := hrel
    have hwr : w.heap.size < wr.heap.size := (ho.lt w.heap.size rfl).2
    by_cases hlt : k < ls.length
    · have hxr := hx.below hb
      obtain ⟨b, off, rfl, hbl, hget⟩ := hxr.get (by omega)
      obtain ⟨A1, c1, d0, hA1⟩ := hget k hlt
      have hct := toIntS_any A1 c1 (rwAt ls k) wr hA1 (by have := hrl k hlt; omega)
      have hnx := Lib.hid (congrArg encR (rw_take_next hlt))
      generalize rwAt ls k = t at hct hnx d0
      clear hget hA1 hx hxr hrl hbl
      go_wp2_with fail
      refine hct.mono ?_
      rintro e w2 ⟨v2, rfl, ho9, hb2⟩
      obtain ⟨R, hR, hRb, hRe⟩ := own_intRow ho9
      obtain ⟨A9, c9, rfl, _⟩ := at_intRow hR.at_
      have HET : Hid (encR [t] = [intMem t]) := Lib.hid rfl
      generalize t.length = tl at *
      have ho2 := own_below ho hb2
      have hL2 := hL.alike (w' := w2) fun b hb' => hb2.block b (hL.lt b hb')
      have hb3 := hb.trans (hb2.mono hb.size)
      have hxl := ho2.1
      obtain ⟨v0, e0⟩ := some_of_lt xs k (by omega)
      have g0 := (ho2.cellAt k (by omega)).trans e0
      have f0 := ho2.frozenAt k
      obtain ⟨o1, q1⟩ := ho2.stored k (.slice A9 tl c9)
      have hL3 := hL2.kept q1 (fun b hb' => by have := hSb b hb'; intro e; injection e with e; omega)
      have hR3 := hR.alike (w' := w2.setCell ⟨w.heap.size, k, none⟩ (.slice A9 tl c9)) (fun b hb' => q1.block b (hR.lt b hb') (by have := hRb b hb'; intro e; injection e with e; omega))
      have hdis : ∀ b ∈ S, b ∉ R ++ [] := fun b h1 h2 => by have h3 := hL.lt b h1; have h4 := hRb b (by simpa using h2); omega
      have hL4 := hL3.append (OwnL.cons hR3 .nil (fun b _ hb => by simp at hb)) hdis
      have hb5 := hb3.grown q1 hb3.size (fun j hj => by injection hj with hj; omega)
      have htk : Hid ((xs.set k (.slice A9 tl c9)).take (k + 1) = xs.take k ++ [.slice A9 tl c9]) := take_set1 (by omega)
      have hL5 := hL4
      rw [← htk.out, ← HET.out, ← encR_append, ← hnx.out] at hL5
      have hSR : ∀ b ∈ S ++ (R ++ []), w.heap.size < b := fun b hb' => by
        rcases List.mem_append.1 hb' with h | h
        · exact hSb b h
        · have := hRb b (by simpa using h); omega
      clear ho ho2 hL hL2 hL3 hL4 hR hR3 hb hb2 hb3 q1 e0 hxl hct hnx htk hdis hSb hRb d0 ho9 hRe HET
      go_wp2
      refine ⟨⟨k + 1, S ++ (R ++ []), _, by omega, by go_num, o1, hL5, hSR, hb5⟩, ?_⟩
      simp only [intOf]
      omega
    · have e : k = ls.length := by omega
      subst e
      have hl := ho.1
      rw [List.take_of_length_le (by omega), List.take_of_length_le (Nat.le_refl _)] at hL
      have hpost : RowsOut ls w (.returned (.slice (some ⟨w.heap.size, 0, none⟩) ls.length ls.length)) wr :=
        ⟨_, w.heap.size :: S, rfl, .row (by rw [encR_len, Nat.mul_one]) (own_le ho (Nat.zero_le _)) hL (fun h => by have := hSb _ h; omega), fun b hb' => by
          rcases List.mem_cons.1 hb' with h | h
          · omega
          · have := hSb b h; omega, hb⟩
      clear ho hL hSb hb hx hl
      go_wp2
      go_ret
      exact hpost

set_option maxRecDepth 100000 in
set_option maxHeartbeats 2000000 in
theorem eqIntSS_any (ls : List (List Int)) (hf : FitR ls) (w : World) (x y : Value) (hx : RowsIn w x ls) (hy : RowsIn w y ls) :
    Calls Try.prog 82 #[x, y] w (YesPost w) := by
  obtain ⟨A, c, rfl⟩ := hx.form
  obtain ⟨B, d, rfl⟩ := hy.form
  obtain ⟨hlen, hrl⟩ := hf
  have k0 : ((ls.length : Int) != (ls.length : Int)) = false := by simp
  go_enter Try.func82, Try.ntmps82
  go_wp2
  go_loopw [5] (fun i wr => ∃ k : Nat, k ≤ ls.length ∧ i = .int .i64 k ∧ Below w.heap.size w wr) (fun i _ => ls.length - (intOf i).toNat)
  case atStart => exact ⟨0, Nat.zero_le _, rfl, Below.refl _ _⟩
  case round =>
    obtain ⟨k, hk, rfl, hb⟩ := hrel
    by_cases hlt : k < ls.length
    · obtain ⟨b1, o1, rfl, hb1, hg1⟩ := (hx.below hb).get (by omega)
      obtain ⟨b2, o2, rfl, hb2, hg2⟩ := (hy.below hb).get (by omega)
      obtain ⟨A1, c1, d0, hp1⟩ := hg1 k hlt
      obtain ⟨A2, c2, e0, hp2⟩ := hg2 k hlt
      have hct := fun dq os => eqIntS_any A1 A2 c1 c2 (rwAt ls k) (rwAt ls k) (grow (redrawn wr dq) os) (hp1.below (below_regrown wr dq os)) (hp2.below (below_regrown wr dq os)) (by have := hrl k hlt; omega)
      simp only [decide_true] at hct
      have hct2 := fun dq os => Calls.regrown_yes (hct dq os)
      have p0 := fun d os => cell_regrown d0 d os
      have q0 := fun d os => cell_regrown e0 d os
      generalize rwAt ls k = t at hct2 p0 q0
      clear hg1 hg2 hp1 hp2 hx hy hb1 hb2 d0 e0 hct hrl
      go_wp2
      refine wp_region_quiet_below (by kernel_rfl) (by kernel_rfl) ?_
      repeat (any_goals (first | go_big_quiet_step ((go_at_call 23; exact hct2 _ _)) | quiet_step ((go_at_call 23; exact hct2 _ _))))
      refine wpQuiet_nil ?_
      intro _ hw'
      obtain ⟨⟨dq, osq⟩, hw''⟩ := hw'
      subst hw''
      have hb3 := hb.trans ((below_regrown wr dq osq).mono hb.size)
      clear p0 q0 hct2
      generalize grow (redrawn wr dq) osq = w2 at *
      go_wp2
      refine ⟨⟨k + 1, by omega, by go_num, hb3⟩, ?_⟩
      simp only [intOf]
      omega
    · have hpost : YesPost w (.returned (.bool true)) wr := ⟨rfl, hb⟩
      clear hx hy hb
      go_wp2
      go_ret
      exact hpost

end Go.Proofs.Ytkhjdidcpoefdaa
