/-
  Slices of slices of numbers: their sizes, copies, comparison and numbering, as contracts. Orbit sets: how they lie in memory, their sizes, their copies, comparison and numbering, as contracts.
-/
import Derived.Test.YtnnebndcjjdhoaaKPathsOf1
import Derived.Test.YtnnebndcjjdhoaaKPathsOf4
import Derived.Test.YtnnebndcjjdhoaaKPathsOf7
import Derived.Test.YtnnebndcjjdhoaaKPathsOf3
import Derived.Test.YtnnebndcjjdhoaaKPathsOf2
import Derived.Test.YtnnebndcjjdhoaaKPathsOf8
section
namespace Go.Proofs.Ytnnebndcjjdhoaa
open Go.RowKit Go.Sort
set_option linter.unusedVariables false

theorem rows_info : (Try.prog.info? 46).map (fun i => (i.zero, i.size, i.bytes)) = some (some (.slice none 0 0), 1, 24) := by kernel_rfl

set_option maxRecDepth 100000 in
set_option maxHeartbeats 2000000 in
theorem eqIntSS_any (ls : List (List Int)) (hf : FitR ls) (w : World) (x y : Value) (hx : RowsIn w x ls) (hy : RowsIn w y ls) :
    Calls Try.prog 8 #[x, y] w (YesPost w) := by
  obtain ⟨A, c, rfl⟩ := hx.form
  obtain ⟨B, d, rfl⟩ := hy.form
  obtain ⟨hlen, hrl⟩ := hf
  have k0 : ((ls.length : Int) != (ls.length : Int)) = false := by simp
  go_enter Try.func8, Try.ntmps8
  go_wp2
  go_loopw [5] (fun i wr => ∃ k : Nat, k ≤ ls.length ∧ i = .int .i64 k ∧ Below w.heap.size w wr) (fun i _ => ls.length - (intOf i).toNat)
  case atStart => exact ⟨0, Nat.zero_le _, rfl, Below.refl _ _⟩
  case round =>
    obtain ⟨k, hk, rfl, hb⟩ := hrel
    by_cases hlt : k < ls.length
    · obtain ⟨b1, o1, rfl, hb1, hg1⟩ := (hx.below hb).get (by omega)
      obtain ⟨b2, o2, rfl, hb2, hg2⟩ := (hy.below hb).get (by omega)
      obtain ⟨A1, c1, d0, hp1⟩ := hg1 k hlt
      obtain ⟨A2, c2, e0, hp2⟩ := hg2 k hlt
      have hct := fun dq os => eqIntS_any A1 A2 c1 c2 (rwAt ls k) (rwAt ls k) (grow (redrawn wr dq) os) (hp1.below (below_regrown wr dq os)) (hp2.below (below_regrown wr dq os)) (by have := hrl k hlt; omega)
      simp only [decide_true] at hct
      have hct2 := fun dq os => Calls.regrown_yes (hct dq os)
      have p0 := fun d os => cell_regrown d0 d os
      have q0 := fun d os => cell_regrown e0 d os
      generalize rwAt ls k = t at hct2 p0 q0
      clear hg1 hg2 hp1 hp2 hx hy hb1 hb2 d0 e0 hct hrl
      go_wp2
      refine wp_region_quiet_below (by kernel_rfl) (by kernel_rfl) ?_
      repeat (any_goals (first | go_big_quiet_step ((go_at_call 21; exact hct2 _ _)) | quiet_step ((go_at_call 21; exact hct2 _ _))))
      refine wpQuiet_nil ?_
      intro _ hw'
      obtain ⟨⟨dq, osq⟩, hw''⟩ := hw'
      subst hw''
      have hb3 := hb.trans ((below_regrown wr dq osq).mono hb.size)
      clear p0 q0 hct2
      generalize grow (redrawn wr dq) osq = w2 at *
      go_wp2
      refine ⟨⟨k + 1, by omega, by go_num, hb3⟩, ?_⟩
      simp only [intOf]
      omega
    · have hpost : YesPost w (.returned (.bool true)) wr := ⟨rfl, hb⟩
      clear hx hy hb
      go_wp2
      go_ret
      exact hpost

/-- The answer, the rows numbered, and nothing else turned. -/
def MarkRPost (S : List Nat) (v : Value) (ls : List (List Int)) (k : Int) (w : World) (e : Ending) (w' : World) : Prop :=
  e = .returned (.int .i64 (k + sumR ls)) ∧ Own w' S v (.row 46 1 (mkRow k ls)) ∧ Only S w w'

set_option maxRecDepth 100000 in
set_option maxHeartbeats 4000000 in
theorem markIntSS_any (ls : List (List Int)) (hf : FitR ls) (S : List Nat) (v : Value) (k : Int) (w : World) (hk0 : 0 ≤ k) (hk1 : k + sumR ls ≤ 9007199254740992) (hown : Own w S v (rowsMem ls)) :
    Calls Try.prog 11 #[v, .int .i64 k] w (MarkRPost S v ls k w) := by
  obtain ⟨A, c, rfl⟩ := RowsIn.form (ls := ls) hown.at_
  obtain ⟨hlen, hrl⟩ := hf
  go_enter Try.func11, Try.ntmps11
  go_wp2
  go_loopw [1, 5] (fun kk i wr => ∃ j : Nat, j ≤ ls.length ∧ i = .int .i64 j ∧ kk = .int .i64 (k + sumR (ls.take j)) ∧ Own wr S (.slice A ls.length c) (.row 46 1 (mkRow k (ls.take j) ++ encR (ls.drop j))) ∧ Only S w wr) (fun _ i _ => ls.length - (intOf i).toNat)
  case atStart => exact ⟨0, Nat.zero_le _, rfl, by simp [sumR], by simpa [mkRow, rowsMem] using hown, Only.refl _ _⟩
  case round =>
    clear hown
    obtain ⟨j, hj, rfl, rfl, ho0, hon⟩ := hrel
    by_cases hlt : j < ls.length
    · have hla : (mkRow k (ls.take j)).length = j := by rw [mkR_len, List.length_take]; omega
      have hlen2 : (mkRow k (ls.take j) ++ encR (ls.drop j)).length = ls.length := by rw [List.length_append, hla, encR_len, List.length_drop]; omega
      obtain ⟨g, cap, xs, S', rfl, ev, ho, hL, hg⟩ := own_rows hlen2 ho0 (by omega)
      simp only [Value.slice.injEq, true_and] at ev
      obtain ⟨rfl, rfl⟩ := ev
      have hdr : encR (ls.drop j) = intMem (rwAt ls j) :: encR (ls.drop (j + 1)) := by rw [rw_drop hlt]; rfl
      rw [hdr] at hL
      have hnx := Lib.hid (mkR_next hlt k)
      have hsn := sumR_next hlt
      have hst := sumR_take ls (j + 1)
      have hrk := hrl j hlt
      generalize mkRow k (ls.take j) = a at hL hla hnx ho0 hlen2
      generalize rwAt ls j = t at hL hnx hsn hrk hdr
      generalize hkk : sumR (ls.take j) = m at hsn hnx
      have hat : (a ++ intMem t :: encR (ls.drop (j + 1)))[j]? = some (intMem t) := by
        rw [List.getElem?_append_right (by omega), hla]; simp
      have hse : (a ++ intMem t :: encR (ls.drop (j + 1))).set j (.row 3 1 ((marked (k + m) t.length).map .cell)) = (a ++ [.row 3 1 ((marked (k + m) t.length).map .cell)]) ++ encR (ls.drop (j + 1)) := by
        rw [List.set_append_right _ _ (by omega), hla, Nat.sub_self]; simp
      have HE := Lib.hid hse
      obtain ⟨u, T, hu, hT, hsub, hput⟩ := hL.focus j (intMem t) hat
      have d0 := (ho.cellAt j (by omega)).trans hu
      obtain ⟨how, hTe⟩ := cellRow_own (icells_len t) hT
      have hmp := markIntS_own 0 t.length u _ (k + m) wr how (by omega) (by omega)
      have HTE := Lib.hid hTe
      have HNG : g ∉ T := fun h => hg (hsub g h)
      clear hT how hu hTe hat hse hdr ho0 hlen2 hkk hrl
      go_wp2_with fail
      (with_reducible refine hmp.mono ?_)
      rintro e w3 ⟨rfl, how3, hg3⟩
      have hP3 : Own w3 T u (.row 3 1 ((marked (k + m) t.length).map .cell)) := by
        have h2 := cellRow_of how3
        rw [← HTE.out] at h2
        exact h2
      have hL4 := hput w3 _ (fun b hb hn => hg3.block b (hL.lt b hb) (fun e => hn (by rw [HTE.out, ← e]; simp))) hP3
      rw [HE.out] at hL4
      have o3 := ho.kept hg3 (.inr (fun e => HNG (by rw [HTE.out, ← e]; simp [Value.ownBlock])))
      have hon4 := hon.trans (Only.of_grown (S := g :: S') hg3 (fun b e => List.mem_cons_of_mem _ (hsub b (by rw [HTE.out, e]; simp))))
      have hown7 : Own w3 (g :: S') (.slice (some ⟨g, 0, none⟩) ls.length c) (.row 46 1 (mkRow k (ls.take (j + 1)) ++ encR (ls.drop (j + 1)))) := by
        rw [hnx.out]
        exact .row (by rw [List.length_append, List.length_append, hla, encR_len, List.length_drop]; simp; omega) (own_le o3 (Nat.zero_le _)) hL4 hg
      have hkk2 : Hid (k + m + t.length = k + sumR (ls.take (j + 1))) := by show k + m + t.length = k + sumR (ls.take (j + 1)); omega
      clear hmp hput hL hL4 o3 ho hon hg3 how3 hP3 hnx HE hsn hst d0
      go_wp2
      refine ⟨⟨j + 1, by omega, by go_num, by rw [hkk2.out], hown7, hon4⟩, ?_⟩
      simp only [intOf]
      omega
    · have e : j = ls.length := by omega
      subst e
      rw [List.take_length, List.drop_length, show encR [] = [] from rfl, List.append_nil] at ho0
      have hpost : MarkRPost S (.slice A ls.length c) ls k w (.returned (.int .i64 (k + sumR (ls.take ls.length)))) wr := ⟨by rw [List.take_length], ho0, hon⟩
      clear ho0 hon
      go_wp2
      go_ret
      exact hpost

set_option maxRecDepth 100000 in
set_option maxHeartbeats 400000 in
theorem heldIntS_at (A : Option Addr) (c n : Nat) (k : Int) (w : World) (hp : 0 < n → ∃ b off, A = some ⟨b, off, none⟩ ∧ b < w.heap.size ∧ ∀ i, i < n → w.cell? ⟨b, off + i, none⟩ = some (.int .i64 (k + i))) (hk0 : 0 ≤ k) (hk1 : k + n ≤ 9223372036854775807) :
    Calls Try.prog 27 #[.slice A n c, .int .i64 k] w
      fun e w' => e = .returned (.int .i64 (k + n)) ∧ w = w' := by
  go_enter Try.func27, Try.ntmps27
  go_wp2
  go_loop [1, 5] (fun kk i => ∃ j : Nat, j ≤ n ∧ i = .int .i64 j ∧ kk = .int .i64 (k + j)) (fun _ i => n - (intOf i).toNat)
  case atStart => exact ⟨0, Nat.zero_le _, rfl, by simp⟩
  case round =>
    obtain ⟨j, hj, rfl, rfl⟩ := hrel
    by_cases hlt : j < n
    · obtain ⟨b, off, rfl, hb, hc⟩ := hp (by omega)
      have c0 := hc j hlt
      clear hp hc
      have t0 : (k + (j : Int) != k + (j : Int)) = false := by simp
      go_wp2
      go_round
      case rel => exact ⟨j + 1, by omega, by go_num, by go_num⟩
      case measure => simp [intOf]; omega
    · have ej : j = n := by omega
      subst ej
      clear hp
      go_wp2
      go_ret
      exact ⟨rfl, rfl⟩

theorem at_marked {w : World} {v : Value} {n : Nat} {k : Int} (h : At w v (.row 3 1 ((marked k n).map .cell))) : ∃ A c, v = .slice A n c ∧ (0 < n → ∃ b off, A = some ⟨b, off, none⟩ ∧ b < w.heap.size ∧ ∀ i, i < n → w.cell? ⟨b, off + i, none⟩ = some (.int .i64 (k + i))) := by
  obtain ⟨A, n', c, rfl, hl⟩ := At.form h
  rw [List.length_map, marked_len] at hl
  have hn : n' = n := by omega
  subst hn
  refine ⟨A, c, rfl, fun hp => ?_⟩
  obtain ⟨b, off, rfl, hb, hc⟩ := At.get h hp
  refine ⟨b, off, rfl, hb, fun i hi => ?_⟩
  obtain ⟨u1, d1, a1⟩ := hc i (.cell (.int .i64 (k + i))) (by rw [List.getElem?_map, marked_at k n' i hi]; rfl)
  rw [a1.cell_eq] at d1
  exact d1

set_option maxRecDepth 100000 in
set_option maxHeartbeats 2000000 in
theorem heldIntSS_any (ls : List (List Int)) (hf : FitR ls) (v : Value) (k : Int) (w : World) (hk0 : 0 ≤ k) (hk1 : k + sumR ls ≤ 9007199254740992) (hv : At w v (.row 46 1 (mkRow k ls))) :
    Calls Try.prog 12 #[v, .int .i64 k] w fun e w' => e = .returned (.int .i64 (k + sumR ls)) ∧ w = w' := by
  obtain ⟨A, n, c, rfl, hl⟩ := At.form hv
  rw [mkR_len] at hl
  have hn : n = ls.length := by omega
  clear hl
  subst hn
  obtain ⟨hlen, hrl⟩ := hf
  go_enter Try.func12, Try.ntmps12
  go_wp2
  go_loop [1, 5] (fun kk i => ∃ j : Nat, j ≤ ls.length ∧ i = .int .i64 j ∧ kk = .int .i64 (k + sumR (ls.take j))) (fun _ i => ls.length - (intOf i).toNat)
  case atStart => exact ⟨0, Nat.zero_le _, rfl, by simp [sumR]⟩
  case round =>
    obtain ⟨j, hj, rfl, rfl⟩ := hrel
    by_cases hlt : j < ls.length
    · obtain ⟨b, off, rfl, hbl, hget⟩ := At.get hv (by omega)
      obtain ⟨u, d0, a0⟩ := hget j _ (mkR_at ls k j hlt)
      obtain ⟨A1, c1, rfl, hp1⟩ := at_marked a0
      have hsn := sumR_next hlt
      have hst := sumR_take ls (j + 1)
      have hrk := hrl j hlt
      generalize (rwAt ls j).length = tl at *
      generalize hkk : sumR (ls.take j) = m at hsn hp1 ⊢
      have hh := heldIntS_at A1 c1 tl (k + m) w hp1 (by omega) (by omega)
      have g1 : ¬ k + (m : Int) + (tl : Int) < 0 := by omega
      have hbd : k + (m : Int) ≤ 9007199254740992 := by omega
      have hkk2 : Hid (k + m + tl = k + sumR (ls.take (j + 1))) := by show k + m + tl = k + sumR (ls.take (j + 1)); omega
      clear hget hv hp1 a0 hrl hkk hsn hst
      go_wp2_with fail
      refine hh.mono ?_
      rintro e w' ⟨rfl, rfl⟩
      clear hh d0
      go_wp2
      go_round
      case rel => exact ⟨j + 1, by omega, by go_num, by rw [hkk2.out]⟩
      case measure => simp [intOf]; omega
    · have e : j = ls.length := by omega
      subst e
      clear hv
      go_wp2
      go_ret
      first | exact ⟨rfl, rfl⟩ | exact ⟨by rw [List.take_length], rfl⟩
end Go.Proofs.Ytnnebndcjjdhoaa
end

section
namespace Go.Proofs.Ytnnebndcjjdhoaa
open Go.RowKit
set_option linter.unusedVariables false

abbrev ConstAt := ConstAtR
theorem ConstAt.below {w w' : World} {A : Option Addr} {c : Nat} {l : List Int} (h : ConstAt w A c l) (hb : Below w.heap.size w w') : ConstAt w' A c l := ⟨h.1.below hb, h.2⟩
/-- A value that is an orbit set. -/
def OrbIn (w : World) (x : Value) (z : Int) (l : List Int) (m : List (List Int)) : Prop :=
  ∃ A c B d, x = .agg #[.int .i64 z, .slice A l.length c, .slice B m.length d] ∧ ConstAt w A c l ∧ RowsIn w (.slice B m.length d) m
theorem OrbIn.below {w w' : World} {x : Value} {z : Int} {l : List Int} {m : List (List Int)} (h : OrbIn w x z l m) (hb : Below w.heap.size w w') : OrbIn w' x z l m := by
  obtain ⟨A, c, B, d, rfl, h1, h2⟩ := h
  exact ⟨A, c, B, d, rfl, h1.below hb, h2.below hb⟩
namespace OrbK
theorem box_lt {w : World} {g : Nat} {o : Obj} (h : w.heap[g]? = some o) : g < w.heap.size := (Array.getElem?_eq_some_iff.1 h).1
end OrbK

/-- Rows, each with room for itself. -/
def RowsC (w : World) (A : Option Addr) (ls : List (List Int)) : Prop :=
  0 < ls.length → ∃ b off, A = some ⟨b, off, none⟩ ∧ b < w.heap.size ∧ ∀ i, i < ls.length → ∃ A1 c1, w.cell? ⟨b, off + i, none⟩ = some (.slice A1 (rwAt ls i).length c1) ∧ IntsAt w A1 (rwAt ls i) ∧ (rwAt ls i).length ≤ c1
theorem RowsC.below {w w' : World} {A : Option Addr} {ls : List (List Int)} (h : RowsC w A ls) (hb : Below w.heap.size w w') : RowsC w' A ls := by
  intro hp
  obtain ⟨b, off, rfl, hlt, hc⟩ := h hp
  refine ⟨b, off, rfl, Nat.lt_of_lt_of_le hlt hb.size, fun i hi => ?_⟩
  obtain ⟨A1, c1, h1, h2, h3⟩ := hc i hi
  exact ⟨A1, c1, (hb.cell (p := ⟨b, off + i, none⟩) hlt).trans h1, h2.below hb, h3⟩
/-- A value that is an orbit set, as it is handed over. -/
def OrbIx (w : World) (x : Value) (z : Int) (l : List Int) (m : List (List Int)) : Prop :=
  ∃ A c B d, x = .agg #[.int .i64 z, .slice A l.length c, .slice B m.length d] ∧ ConstAt w A c l ∧ RowsIn w (.slice B m.length d) m ∧ RowsC w B m
theorem OrbIx.below {w w' : World} {x : Value} {z : Int} {l : List Int} {m : List (List Int)} (h : OrbIx w x z l m) (hb : Below w.heap.size w w') : OrbIx w' x z l m := by
  obtain ⟨A, c, B, d, rfl, h1, h2, h3⟩ := h
  exact ⟨A, c, B, d, rfl, h1.below hb, h2.below hb, h3.below hb⟩
end Go.Proofs.Ytnnebndcjjdhoaa
end

