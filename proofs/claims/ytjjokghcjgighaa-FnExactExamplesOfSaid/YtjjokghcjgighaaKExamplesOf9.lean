/-
  Slices of slices of numbers: their sizes, copies, comparison and numbering, as contracts.
-/
import Derived.Test.YtjjokghcjgighaaKExamplesOf2
import Derived.Test.YtjjokghcjgighaaKExamplesOf6
import Derived.Test.YtjjokghcjgighaaKExamplesOf7
import Derived.Test.YtjjokghcjgighaaKExamplesOf5
import Derived.Test.YtjjokghcjgighaaKExamplesOf4
import Derived.Test.YtjjokghcjgighaaKExamplesOf8
namespace Go.Proofs.Ytjjokghcjgighaa
open Go.RowKit Go.Sort
set_option linter.unusedVariables false

theorem szI_yes (A : Option Addr) (n c : Nat) (left : Int) (w : World) (hn : n ≤ 1099511627776) (h1 : left ≤ 1099511627776) (h2 : (n : Int) ≤ left) :
    Calls Try.prog 41 #[.slice A n c, .int .i64 left] w fun e w' => e = .returned (.int .i64 (left - n)) ∧ w = w' := by
  have h3 : ¬ left - (n : Int) < 0 := by omega
  go_enter Try.func41, Try.ntmps41
  go_wp2
  go_ret
  exact ⟨rfl, rfl⟩
theorem szI_no (A : Option Addr) (n c : Nat) (left : Int) (w : World) (hn : n ≤ 9223372036854775807) (h0 : 0 ≤ left) (h1 : left ≤ 1099511627776) (h2 : left < (n : Int)) :
    Calls Try.prog 41 #[.slice A n c, .int .i64 left] w fun e w' => e = .returned (.int .i64 (-1)) ∧ w = w' := by
  have h3 : left - (n : Int) < 0 := by omega
  go_enter Try.func41, Try.ntmps41
  go_wp2
  go_ret
  exact ⟨rfl, rfl⟩

set_option maxRecDepth 100000 in
set_option maxHeartbeats 2000000 in
theorem szIntSS_any (ls : List (List Int)) (hsh : ShortR ls) (left : Int) (w : World) (x : Value) (h0 : 0 ≤ left) (h1 : left ≤ 1099511627776) (hx : RowsIn w x ls) :
    Calls Try.prog 42 #[x, .int .i64 left] w (LeftPost left (ls.length + sumR ls) w) := by
  obtain ⟨A, c, rfl⟩ := hx.form
  obtain ⟨hlen, hrl⟩ := hsh
  unfold maxLen at hlen hrl
  by_cases h2 : (ls.length : Int) ≤ left
  · have hl2 : ¬ left - (ls.length : Int) < 0 := by omega
    go_enter Try.func42, Try.ntmps42
    go_wp2
    go_loopw [1, 5] (fun l i wr => ∃ k : Nat, k ≤ ls.length ∧ i = .int .i64 k ∧ l = .int .i64 (left - ls.length - sumR (ls.take k)) ∧ (sumR (ls.take k) : Int) ≤ left - ls.length ∧ Below w.heap.size w wr) (fun _ i _ => ls.length - (intOf i).toNat)
    case atStart => exact ⟨0, Nat.zero_le _, rfl, by simp [sumR], by simp [sumR]; omega, Below.refl _ _⟩
    case round =>
      obtain ⟨k, hk, rfl, rfl, hle, hb⟩ := hrel
      by_cases hlt : k < ls.length
      · have hxr := hx.below hb
        obtain ⟨b, off, rfl, hbl, hget⟩ := hxr.get (by omega)
        obtain ⟨A1, c1, d0, hA1⟩ := hget k hlt
        have hrk := hrl k hlt
        have hnx := Lib.hid (sumR_next hlt)
        have hst := sumR_take ls (k + 1)
        generalize hc : (rwAt ls k).length = cc at d0 hnx hrk
        generalize hs : sumR (ls.take k) = s at hnx hle
        clear hget hA1 hx hxr hc hs hrl
        by_cases h3 : (cc : Int) ≤ left - ls.length - s
        · have hl3 : ¬ left - (ls.length : Int) - (s : Int) - (cc : Int) < 0 := by omega
          have hct := szI_yes A1 cc c1 (left - ls.length - s) wr (by omega) (by omega) h3
          have hse : Hid (((sumR (ls.take (k + 1)) : Nat) : Int) = s + cc) := by show ((sumR (ls.take (k + 1)) : Nat) : Int) = s + cc; rw [hnx.out]; omega
          clear hst
          go_wp2_with fail
          refine hct.mono ?_
          rintro e w2 ⟨rfl, rfl⟩
          clear hct d0
          go_wp2
          refine ⟨⟨k + 1, by omega, by go_num, by rw [hse.out]; go_num, by rw [hse.out]; omega, hb⟩, ?_⟩
          simp only [intOf]
          omega
        · have hct := szI_no A1 cc c1 (left - ls.length - s) wr (by omega) (by omega) (by omega) (by omega)
          have hr : Hid (leftR left (ls.length + sumR ls) = -1) := by
            show leftR left (ls.length + sumR ls) = -1
            refine leftR_no ?_
            have := hnx.out
            omega
          clear hst
          go_wp2_with fail
          refine hct.mono ?_
          rintro e w2 ⟨rfl, rfl⟩
          have hpost : LeftPost left (ls.length + sumR ls) w (.returned (.int .i64 (-1))) wr := ⟨by rw [hr.out], hb⟩
          clear hct d0 hr hb
          go_wp2
          go_ret
          exact hpost
      · have e : k = ls.length := by omega
        have hr : Hid (left - ls.length - sumR (ls.take k) = leftR left (ls.length + sumR ls)) := by
          show left - ls.length - sumR (ls.take k) = leftR left (ls.length + sumR ls)
          rw [List.take_of_length_le (by omega)] at hle ⊢
          rw [leftR_yes (by omega)]
          omega
        have hpost : LeftPost left (ls.length + sumR ls) w (.returned (.int .i64 (left - ls.length - sumR (ls.take k)))) wr := ⟨by rw [hr.out], hb⟩
        clear hx e hr hb
        go_wp2
        go_ret
        exact hpost
  · have hl2 : left - (ls.length : Int) < 0 := by omega
    have hpost : LeftPost left (ls.length + sumR ls) w (.returned (.int .i64 (-1))) w := ⟨by rw [leftR_no (by omega)], Below.refl _ _⟩
    clear hx
    go_enter Try.func42, Try.ntmps42
    go_wp2
    go_ret
    exact hpost

theorem rows_info : (Try.prog.info? 22).map (fun i => (i.zero, i.size, i.bytes)) = some (some (.slice none 0 0), 1, 24) := by kernel_rfl

theorem take_set1 {xs : List Value} {j : Nat} {a : Value} (h : j + 1 ≤ xs.length) : (xs.set j a).take (j + 1) = xs.take j ++ [a] := by
  apply List.ext_getElem?
  intro i
  rw [List.getElem?_take]
  by_cases hi : i < j + 1
  · rw [if_pos hi]
    by_cases h1 : i < j
    · rw [List.getElem?_append_left (by rw [List.length_take]; omega), List.getElem?_take, if_pos h1]
      simp [show ¬ j = i by omega]
    · have e : i = j := by omega
      subst e
      rw [List.getElem?_append_right (by rw [List.length_take]; omega), List.length_take, show min i xs.length = i by omega]
      simp [show i < xs.length by omega]
  · rw [if_neg hi, List.getElem?_eq_none (by rw [List.length_append, List.length_take]; simp; omega)]

set_option maxRecDepth 100000 in
set_option maxHeartbeats 4000000 in
theorem toIntSS_any (ls : List (List Int)) (hf : FitR ls) (w : World) (x : Value) (hx : RowsIn w x ls) : Calls Try.prog 47 #[x] w (RowsOut ls w) := by
  obtain ⟨A, c, rfl⟩ := hx.form
  obtain ⟨hlen, hrl⟩ := hf
  obtain ⟨i0, hi0, hz0, hz1, hz2⟩ := info_parts rows_info
  have HS := Lib.hid hz2
  clear hz2
  go_enter Try.func47, Try.ntmps47
  go_wp2_with (at_make; refine wpList_make_full _ rfl (.tmp 6) (.tmp 6) 28 rfl w.heap.size 22 i0 _ 1 Try.underlying28 hi0 hz0 hz1 .i64 .i64 _ _ ls.length rfl rfl rfl rfl ?c1 ?c2 (Nat.le_refl _) ?_)
  case c1 => rw [HS.out]; omega
  case c2 => unfold maxLen; omega
  intro w1 ho hg
  have hb0 := (Below.refl w.heap.size w).grown hg (Nat.le_refl _) (fun k hk => by cases hk)
  clear hg
  generalize hz : (madeCells #[Value.slice none 0 0] ls.length).toList = zs at ho
  clear hz
  have hlt0 : w.heap.size < w1.heap.size := (ho.lt w.heap.size rfl).2
  go_wp2
  go_loopw [4] (fun i wr => ∃ (k : Nat) (S : List Nat) (xs : List Value), k ≤ ls.length ∧ i = .int .i64 k ∧ wr.ownsRow w.heap.size 22 1 (.slice (some ⟨w.heap.size, 0, none⟩) ls.length ls.length) ls.length xs ∧ OwnL wr S (xs.take k) (encR (ls.take k)) ∧ (∀ b ∈ S, w.heap.size < b) ∧ Below w.heap.size w wr) (fun i _ => ls.length - (intOf i).toNat)
  case atStart => exact ⟨0, [], zs, Nat.zero_le _, rfl, ho, by simp [encR]; exact .nil, fun b hb => by simp at hb, hb0⟩
  case round =>
    clear ho hb0
    obtain ⟨k, S, xs, hk, rfl, ho, hL, hSb, hb⟩ := hrel
    have hwr : w.heap.size < wr.heap.size := (ho.lt w.heap.size rfl).2
    by_cases hlt : k < ls.length
    · have hxr := hx.below hb
      obtain ⟨b, off, rfl, hbl, hget⟩ := hxr.get (by omega)
      obtain ⟨A1, c1, d0, hA1⟩ := hget k hlt
      have hct := toIntS_any A1 c1 (rwAt ls k) wr hA1 (by have := hrl k hlt; omega)
      have hnx := Lib.hid (congrArg encR (rw_take_next hlt))
      generalize rwAt ls k = t at hct hnx d0
      clear hget hA1 hx hxr hrl hbl
      go_wp2_with fail
      refine hct.mono ?_
      rintro e w2 ⟨v2, rfl, ho9, hb2⟩
      obtain ⟨R, hR, hRb, hRe⟩ := own_intRow ho9
      obtain ⟨A9, c9, rfl, _⟩ := at_intRow hR.at_
      have HET : Hid (encR [t] = [intMem t]) := Lib.hid rfl
      generalize t.length = tl at *
      have ho2 := own_below ho hb2
      have hL2 := hL.alike (w' := w2) fun b hb' => hb2.block b (hL.lt b hb')
      have hb3 := hb.trans (hb2.mono hb.size)
      have hxl := ho2.1
      obtain ⟨v0, e0⟩ := some_of_lt xs k (by omega)
      have g0 := (ho2.cellAt k (by omega)).trans e0
      have f0 := ho2.frozenAt k
      obtain ⟨o1, q1⟩ := ho2.stored k (.slice A9 tl c9)
      have hL3 := hL2.kept q1 (fun b hb' => by have := hSb b hb'; intro e; injection e with e; omega)
      have hR3 := hR.alike (w' := w2.setCell ⟨w.heap.size, k, none⟩ (.slice A9 tl c9)) (fun b hb' => q1.block b (hR.lt b hb') (by have := hRb b hb'; intro e; injection e with e; omega))
      have hdis : ∀ b ∈ S, b ∉ R ++ [] := fun b h1 h2 => by have h3 := hL.lt b h1; have h4 := hRb b (by simpa using h2); omega
      have hL4 := hL3.append (OwnL.cons hR3 .nil (fun b _ hb => by simp at hb)) hdis
      have hb5 := hb3.grown q1 hb3.size (fun j hj => by injection hj with hj; omega)
      have htk : Hid ((xs.set k (.slice A9 tl c9)).take (k + 1) = xs.take k ++ [.slice A9 tl c9]) := take_set1 (by omega)
      have hL5 := hL4
      rw [← htk.out, ← HET.out, ← encR_append, ← hnx.out] at hL5
      have hSR : ∀ b ∈ S ++ (R ++ []), w.heap.size < b := fun b hb' => by
        rcases List.mem_append.1 hb' with h | h
        · exact hSb b h
        · have := hRb b (by simpa using h); omega
      clear ho ho2 hL hL2 hL3 hL4 hR hR3 hb hb2 hb3 q1 e0 hxl hct hnx htk hdis hSb hRb d0 ho9 hRe HET
      go_wp2
      refine ⟨⟨k + 1, S ++ (R ++ []), _, by omega, by go_num, o1, hL5, hSR, hb5⟩, ?_⟩
      simp only [intOf]
      omega
    · have e : k = ls.length := by omega
      subst e
      have hl := ho.1
      rw [List.take_of_length_le (by omega), List.take_of_length_le (Nat.le_refl _)] at hL
      have hpost : RowsOut ls w (.returned (.slice (some ⟨w.heap.size, 0, none⟩) ls.length ls.length)) wr :=
        ⟨_, w.heap.size :: S, rfl, .row (by rw [encR_len, Nat.mul_one]) (own_le ho (Nat.zero_le _)) hL (fun h => by have := hSb _ h; omega), fun b hb' => by
          rcases List.mem_cons.1 hb' with h | h
          · omega
          · have := hSb b h; omega, hb⟩
      clear ho hL hSb hb hx hl
      go_wp2
      go_ret
      exact hpost

set_option maxRecDepth 100000 in
set_option maxHeartbeats 2000000 in
theorem eqIntSS_any (ls : List (List Int)) (hf : FitR ls) (w : World) (x y : Value) (hx : RowsIn w x ls) (hy : RowsIn w y ls) :
    Calls Try.prog 24 #[x, y] w (YesPost w) := by
  obtain ⟨A, c, rfl⟩ := hx.form
  obtain ⟨B, d, rfl⟩ := hy.form
  obtain ⟨hlen, hrl⟩ := hf
  have k0 : ((ls.length : Int) != (ls.length : Int)) = false := by simp
  go_enter Try.func24, Try.ntmps24
  go_wp2
  go_loopw [5] (fun i wr => ∃ k : Nat, k ≤ ls.length ∧ i = .int .i64 k ∧ Below w.heap.size w wr) (fun i _ => ls.length - (intOf i).toNat)
  case atStart => exact ⟨0, Nat.zero_le _, rfl, Below.refl _ _⟩
  case round =>
    obtain ⟨k, hk, rfl, hb⟩ := hrel
    by_cases hlt : k < ls.length
    · obtain ⟨b1, o1, rfl, hb1, hg1⟩ := (hx.below hb).get (by omega)
      obtain ⟨b2, o2, rfl, hb2, hg2⟩ := (hy.below hb).get (by omega)
      obtain ⟨A1, c1, d0, hp1⟩ := hg1 k hlt
      obtain ⟨A2, c2, e0, hp2⟩ := hg2 k hlt
      have hct := fun dq os => eqIntS_any A1 A2 c1 c2 (rwAt ls k) (rwAt ls k) (grow (redrawn wr dq) os) (hp1.below (below_regrown wr dq os)) (hp2.below (below_regrown wr dq os)) (by have := hrl k hlt; omega)
      simp only [decide_true] at hct
      have hct2 := fun dq os => Calls.regrown_yes (hct dq os)
      have p0 := fun d os => cell_regrown d0 d os
      have q0 := fun d os => cell_regrown e0 d os
      generalize rwAt ls k = t at hct2 p0 q0
      clear hg1 hg2 hp1 hp2 hx hy hb1 hb2 d0 e0 hct hrl
      go_wp2
      refine wp_region_quiet_below (by kernel_rfl) (by kernel_rfl) ?_
      repeat (any_goals (first | go_big_quiet_step ((go_at_call 12; exact hct2 _ _)) | quiet_step ((go_at_call 12; exact hct2 _ _))))
      refine wpQuiet_nil ?_
      intro _ hw'
      obtain ⟨⟨dq, osq⟩, hw''⟩ := hw'
      subst hw''
      have hb3 := hb.trans ((below_regrown wr dq osq).mono hb.size)
      clear p0 q0 hct2
      generalize grow (redrawn wr dq) osq = w2 at *
      go_wp2
      refine ⟨⟨k + 1, by omega, by go_num, hb3⟩, ?_⟩
      simp only [intOf]
      omega
    · have hpost : YesPost w (.returned (.bool true)) wr := ⟨rfl, hb⟩
      clear hx hy hb
      go_wp2
      go_ret
      exact hpost

/-- The answer, the rows numbered, and nothing else turned. -/
def MarkRPost (S : List Nat) (v : Value) (ls : List (List Int)) (k : Int) (w : World) (e : Ending) (w' : World) : Prop :=
  e = .returned (.int .i64 (k + sumR ls)) ∧ Own w' S v (.row 22 1 (mkR k ls)) ∧ Only S w w'

set_option maxRecDepth 100000 in
set_option maxHeartbeats 4000000 in
theorem markIntSS_any (ls : List (List Int)) (hf : FitR ls) (S : List Nat) (v : Value) (k : Int) (w : World) (hk0 : 0 ≤ k) (hk1 : k + sumR ls ≤ 9007199254740992) (hown : Own w S v (rowsMem ls)) :
    Calls Try.prog 26 #[v, .int .i64 k] w (MarkRPost S v ls k w) := by
  obtain ⟨A, c, rfl⟩ := RowsIn.form (ls := ls) hown.at_
  obtain ⟨hlen, hrl⟩ := hf
  go_enter Try.func26, Try.ntmps26
  go_wp2
  go_loopw [1, 5] (fun kk i wr => ∃ j : Nat, j ≤ ls.length ∧ i = .int .i64 j ∧ kk = .int .i64 (k + sumR (ls.take j)) ∧ Own wr S (.slice A ls.length c) (.row 22 1 (mkR k (ls.take j) ++ encR (ls.drop j))) ∧ Only S w wr) (fun _ i _ => ls.length - (intOf i).toNat)
  case atStart => exact ⟨0, Nat.zero_le _, rfl, by simp [sumR], by simpa [mkR, rowsMem] using hown, Only.refl _ _⟩
  case round =>
    clear hown
    obtain ⟨j, hj, rfl, rfl, ho0, hon⟩ := hrel
    by_cases hlt : j < ls.length
    · have hla : (mkR k (ls.take j)).length = j := by rw [mkR_len, List.length_take]; omega
      have hlen2 : (mkR k (ls.take j) ++ encR (ls.drop j)).length = ls.length := by rw [List.length_append, hla, encR_len, List.length_drop]; omega
      obtain ⟨g, cap, xs, S', rfl, ev, ho, hL, hg⟩ := own_rows hlen2 ho0 (by omega)
      simp only [Value.slice.injEq, true_and] at ev
      obtain ⟨rfl, rfl⟩ := ev
      have hdr : encR (ls.drop j) = intMem (rwAt ls j) :: encR (ls.drop (j + 1)) := by rw [rw_drop hlt]; rfl
      rw [hdr] at hL
      have hnx := Lib.hid (mkR_next hlt k)
      have hsn := sumR_next hlt
      have hst := sumR_take ls (j + 1)
      have hrk := hrl j hlt
      generalize mkR k (ls.take j) = a at hL hla hnx ho0 hlen2
      generalize rwAt ls j = t at hL hnx hsn hrk hdr
      generalize hkk : sumR (ls.take j) = m at hsn hnx
      have hat : (a ++ intMem t :: encR (ls.drop (j + 1)))[j]? = some (intMem t) := by
        rw [List.getElem?_append_right (by omega), hla]; simp
      have hse : (a ++ intMem t :: encR (ls.drop (j + 1))).set j (.row 3 1 ((marked (k + m) t.length).map .cell)) = (a ++ [.row 3 1 ((marked (k + m) t.length).map .cell)]) ++ encR (ls.drop (j + 1)) := by
        rw [List.set_append_right _ _ (by omega), hla, Nat.sub_self]; simp
      have HE := Lib.hid hse
      obtain ⟨u, T, hu, hT, hsub, hput⟩ := hL.focus j (intMem t) hat
      have d0 := (ho.cellAt j (by omega)).trans hu
      obtain ⟨how, hTe⟩ := cellRow_own (icells_len t) hT
      have hmp := markIntS_own 0 t.length u _ (k + m) wr how (by omega) (by omega)
      have HTE := Lib.hid hTe
      have HNG : g ∉ T := fun h => hg (hsub g h)
      clear hT how hu hTe hat hse hdr ho0 hlen2 hkk hrl
      go_wp2_with fail
      (with_reducible refine hmp.mono ?_)
      rintro e w3 ⟨rfl, how3, hg3⟩
      have hP3 : Own w3 T u (.row 3 1 ((marked (k + m) t.length).map .cell)) := by
        have h2 := cellRow_of how3
        rw [← HTE.out] at h2
        exact h2
      have hL4 := hput w3 _ (fun b hb hn => hg3.block b (hL.lt b hb) (fun e => hn (by rw [HTE.out, ← e]; simp))) hP3
      rw [HE.out] at hL4
      have o3 := ho.kept hg3 (.inr (fun e => HNG (by rw [HTE.out, ← e]; simp [Value.ownBlock])))
      have hon4 := hon.trans (Only.of_grown (S := g :: S') hg3 (fun b e => List.mem_cons_of_mem _ (hsub b (by rw [HTE.out, e]; simp))))
      have hown7 : Own w3 (g :: S') (.slice (some ⟨g, 0, none⟩) ls.length c) (.row 22 1 (mkR k (ls.take (j + 1)) ++ encR (ls.drop (j + 1)))) := by
        rw [hnx.out]
        exact .row (by rw [List.length_append, List.length_append, hla, encR_len, List.length_drop]; simp; omega) (own_le o3 (Nat.zero_le _)) hL4 hg
      have hkk2 : Hid (k + m + t.length = k + sumR (ls.take (j + 1))) := by show k + m + t.length = k + sumR (ls.take (j + 1)); omega
      clear hmp hput hL hL4 o3 ho hon hg3 how3 hP3 hnx HE hsn hst d0
      go_wp2
      refine ⟨⟨j + 1, by omega, by go_num, by rw [hkk2.out], hown7, hon4⟩, ?_⟩
      simp only [intOf]
      omega
    · have e : j = ls.length := by omega
      subst e
      rw [List.take_length, List.drop_length, show encR [] = [] from rfl, List.append_nil] at ho0
      have hpost : MarkRPost S (.slice A ls.length c) ls k w (.returned (.int .i64 (k + sumR (ls.take ls.length)))) wr := ⟨by rw [List.take_length], ho0, hon⟩
      clear ho0 hon
      go_wp2
      go_ret
      exact hpost

set_option maxRecDepth 100000 in
set_option maxHeartbeats 400000 in
theorem heldIntS_at (A : Option Addr) (c n : Nat) (k : Int) (w : World) (hp : 0 < n → ∃ b off, A = some ⟨b, off, none⟩ ∧ b < w.heap.size ∧ ∀ i, i < n → w.cell? ⟨b, off + i, none⟩ = some (.int .i64 (k + i))) (hk0 : 0 ≤ k) (hk1 : k + n ≤ 9223372036854775807) :
    Calls Try.prog 14 #[.slice A n c, .int .i64 k] w
      fun e w' => e = .returned (.int .i64 (k + n)) ∧ w = w' := by
  go_enter Try.func14, Try.ntmps14
  go_wp2
  go_loop [1, 5] (fun kk i => ∃ j : Nat, j ≤ n ∧ i = .int .i64 j ∧ kk = .int .i64 (k + j)) (fun _ i => n - (intOf i).toNat)
  case atStart => exact ⟨0, Nat.zero_le _, rfl, by simp⟩
  case round =>
    obtain ⟨j, hj, rfl, rfl⟩ := hrel
    by_cases hlt : j < n
    · obtain ⟨b, off, rfl, hb, hc⟩ := hp (by omega)
      have c0 := hc j hlt
      clear hp hc
      have t0 : (k + (j : Int) != k + (j : Int)) = false := by simp
      go_wp2
      go_round
      case rel => exact ⟨j + 1, by omega, by go_num, by go_num⟩
      case measure => simp [intOf]; omega
    · have ej : j = n := by omega
      subst ej
      clear hp
      go_wp2
      go_ret
      exact ⟨rfl, rfl⟩

theorem at_marked {w : World} {v : Value} {n : Nat} {k : Int} (h : At w v (.row 3 1 ((marked k n).map .cell))) : ∃ A c, v = .slice A n c ∧ (0 < n → ∃ b off, A = some ⟨b, off, none⟩ ∧ b < w.heap.size ∧ ∀ i, i < n → w.cell? ⟨b, off + i, none⟩ = some (.int .i64 (k + i))) := by
  obtain ⟨A, n', c, rfl, hl⟩ := At.form h
  rw [List.length_map, marked_len] at hl
  have hn : n' = n := by omega
  subst hn
  refine ⟨A, c, rfl, fun hp => ?_⟩
  obtain ⟨b, off, rfl, hb, hc⟩ := At.get h hp
  refine ⟨b, off, rfl, hb, fun i hi => ?_⟩
  obtain ⟨u1, d1, a1⟩ := hc i (.cell (.int .i64 (k + i))) (by rw [List.getElem?_map, marked_at k n' i hi]; rfl)
  rw [a1.cell_eq] at d1
  exact d1

set_option maxRecDepth 100000 in
set_option maxHeartbeats 2000000 in
theorem heldIntSS_any (ls : List (List Int)) (hf : FitR ls) (v : Value) (k : Int) (w : World) (hk0 : 0 ≤ k) (hk1 : k + sumR ls ≤ 9007199254740992) (hv : At w v (.row 22 1 (mkR k ls))) :
    Calls Try.prog 27 #[v, .int .i64 k] w fun e w' => e = .returned (.int .i64 (k + sumR ls)) ∧ w = w' := by
  obtain ⟨A, n, c, rfl, hl⟩ := At.form hv
  rw [mkR_len] at hl
  have hn : n = ls.length := by omega
  clear hl
  subst hn
  obtain ⟨hlen, hrl⟩ := hf
  go_enter Try.func27, Try.ntmps27
  go_wp2
  go_loop [1, 5] (fun kk i => ∃ j : Nat, j ≤ ls.length ∧ i = .int .i64 j ∧ kk = .int .i64 (k + sumR (ls.take j))) (fun _ i => ls.length - (intOf i).toNat)
  case atStart => exact ⟨0, Nat.zero_le _, rfl, by simp [sumR]⟩
  case round =>
    obtain ⟨j, hj, rfl, rfl⟩ := hrel
    by_cases hlt : j < ls.length
    · obtain ⟨b, off, rfl, hbl, hget⟩ := At.get hv (by omega)
      obtain ⟨u, d0, a0⟩ := hget j _ (mkR_at ls k j hlt)
      obtain ⟨A1, c1, rfl, hp1⟩ := at_marked a0
      have hsn := sumR_next hlt
      have hst := sumR_take ls (j + 1)
      have hrk := hrl j hlt
      generalize (rwAt ls j).length = tl at *
      generalize hkk : sumR (ls.take j) = m at hsn hp1 ⊢
      have hh := heldIntS_at A1 c1 tl (k + m) w hp1 (by omega) (by omega)
      have g1 : ¬ k + (m : Int) + (tl : Int) < 0 := by omega
      have hbd : k + (m : Int) ≤ 9007199254740992 := by omega
      have hkk2 : Hid (k + m + tl = k + sumR (ls.take (j + 1))) := by show k + m + tl = k + sumR (ls.take (j + 1)); omega
      clear hget hv hp1 a0 hrl hkk hsn hst
      go_wp2_with fail
      refine hh.mono ?_
      rintro e w' ⟨rfl, rfl⟩
      clear hh d0
      go_wp2
      go_round
      case rel => exact ⟨j + 1, by omega, by go_num, by rw [hkk2.out]⟩
      case measure => simp [intOf]; omega
    · have e : j = ls.length := by omega
      subst e
      clear hv
      go_wp2
      go_ret
      first | exact ⟨rfl, rfl⟩ | exact ⟨by rw [List.take_length], rfl⟩
end Go.Proofs.Ytjjokghcjgighaa
