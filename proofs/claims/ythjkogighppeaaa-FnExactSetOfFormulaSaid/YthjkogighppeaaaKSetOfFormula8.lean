/-
  Slices of slices of numbers: their sizes, copies, comparison and numbering, as contracts. Orbit sets: how they lie in memory, their sizes, their copies, comparison and numbering, as contracts. The marks of an orbit set, kept: markOrbitSet with what it leaves, and heldOrbitSet.
-/
import Derived.Test.YthjkogighppeaaaKSetOfFormula2
import Derived.Test.YthjkogighppeaaaKSetOfFormula5
import Derived.Test.YthjkogighppeaaaKSetOfFormula6
import Derived.Test.YthjkogighppeaaaKSetOfFormula4
import Derived.Test.YthjkogighppeaaaKSetOfFormula3
import Derived.Test.YthjkogighppeaaaKSetOfFormula7
section
namespace Go.Proofs.Ythjkogighppeaaa
open Go.RowKit Go.Sort
set_option linter.unusedVariables false

theorem rows_info : (Try.prog.info? 26).map (fun i => (i.zero, i.size, i.bytes)) = some (some (.slice none 0 0), 1, 24) := by kernel_rfl

set_option maxRecDepth 100000 in
set_option maxHeartbeats 2000000 in
theorem eqIntSS_any (ls : List (List Int)) (hf : FitR ls) (w : World) (x y : Value) (hx : RowsIn w x ls) (hy : RowsIn w y ls) :
    Calls Try.prog 30 #[x, y] w (YesPost w) := by
  obtain ⟨A, c, rfl⟩ := hx.form
  obtain ⟨B, d, rfl⟩ := hy.form
  obtain ⟨hlen, hrl⟩ := hf
  have k0 : ((ls.length : Int) != (ls.length : Int)) = false := by simp
  go_enter Try.func30, Try.ntmps30
  go_wp2
  go_loopw [5] (fun i wr => ∃ k : Nat, k ≤ ls.length ∧ i = .int .i64 k ∧ Below w.heap.size w wr) (fun i _ => ls.length - (intOf i).toNat)
  case atStart => exact ⟨0, Nat.zero_le _, rfl, Below.refl _ _⟩
  case round =>
    obtain ⟨k, hk, rfl, hb⟩ := hrel
    by_cases hlt : k < ls.length
    · obtain ⟨b1, o1, rfl, hb1, hg1⟩ := (hx.below hb).get (by omega)
      obtain ⟨b2, o2, rfl, hb2, hg2⟩ := (hy.below hb).get (by omega)
      obtain ⟨A1, c1, d0, hp1⟩ := hg1 k hlt
      obtain ⟨A2, c2, e0, hp2⟩ := hg2 k hlt
      have hct := fun dq os => eqIntS_any A1 A2 c1 c2 (rwAt ls k) (rwAt ls k) (grow (redrawn wr dq) os) (hp1.below (below_regrown wr dq os)) (hp2.below (below_regrown wr dq os)) (by have := hrl k hlt; omega)
      simp only [decide_true] at hct
      have hct2 := fun dq os => Calls.regrown_yes (hct dq os)
      have p0 := fun d os => cell_regrown d0 d os
      have q0 := fun d os => cell_regrown e0 d os
      generalize rwAt ls k = t at hct2 p0 q0
      clear hg1 hg2 hp1 hp2 hx hy hb1 hb2 d0 e0 hct hrl
      go_wp2
      refine wp_region_quiet_below (by kernel_rfl) (by kernel_rfl) ?_
      repeat (any_goals (first | go_big_quiet_step ((go_at_call 29; exact hct2 _ _)) | quiet_step ((go_at_call 29; exact hct2 _ _))))
      refine wpQuiet_nil ?_
      intro _ hw'
      obtain ⟨⟨dq, osq⟩, hw''⟩ := hw'
      subst hw''
      have hb3 := hb.trans ((below_regrown wr dq osq).mono hb.size)
      clear p0 q0 hct2
      generalize grow (redrawn wr dq) osq = w2 at *
      go_wp2
      refine ⟨⟨k + 1, by omega, by go_num, hb3⟩, ?_⟩
      simp only [intOf]
      omega
    · have hpost : YesPost w (.returned (.bool true)) wr := ⟨rfl, hb⟩
      clear hx hy hb
      go_wp2
      go_ret
      exact hpost

/-- The answer, the rows numbered, and nothing else turned. -/
def MarkRPost (S : List Nat) (v : Value) (ls : List (List Int)) (k : Int) (w : World) (e : Ending) (w' : World) : Prop :=
  e = .returned (.int .i64 (k + sumR ls)) ∧ Own w' S v (.row 26 1 (mkRow k ls)) ∧ Only S w w'

set_option maxRecDepth 100000 in
set_option maxHeartbeats 4000000 in
theorem markIntSS_any (ls : List (List Int)) (hf : FitR ls) (S : List Nat) (v : Value) (k : Int) (w : World) (hk0 : 0 ≤ k) (hk1 : k + sumR ls ≤ 9007199254740992) (hown : Own w S v (rowsMem ls)) :
    Calls Try.prog 34 #[v, .int .i64 k] w (MarkRPost S v ls k w) := by
  obtain ⟨A, c, rfl⟩ := RowsIn.form (ls := ls) hown.at_
  obtain ⟨hlen, hrl⟩ := hf
  go_enter Try.func34, Try.ntmps34
  go_wp2
  go_loopw [1, 5] (fun kk i wr => ∃ j : Nat, j ≤ ls.length ∧ i = .int .i64 j ∧ kk = .int .i64 (k + sumR (ls.take j)) ∧ Own wr S (.slice A ls.length c) (.row 26 1 (mkRow k (ls.take j) ++ encR (ls.drop j))) ∧ Only S w wr) (fun _ i _ => ls.length - (intOf i).toNat)
  case atStart => exact ⟨0, Nat.zero_le _, rfl, by simp [sumR], by simpa [mkRow, rowsMem] using hown, Only.refl _ _⟩
  case round =>
    clear hown
    obtain ⟨j, hj, rfl, rfl, ho0, hon⟩ := hrel
    by_cases hlt : j < ls.length
    · have hla : (mkRow k (ls.take j)).length = j := by rw [mkR_len, List.length_take]; omega
      have hlen2 : (mkRow k (ls.take j) ++ encR (ls.drop j)).length = ls.length := by rw [List.length_append, hla, encR_len, List.length_drop]; omega
      obtain ⟨g, cap, xs, S', rfl, ev, ho, hL, hg⟩ := own_rows hlen2 ho0 (by omega)
      simp only [Value.slice.injEq, true_and] at ev
      obtain ⟨rfl, rfl⟩ := ev
      have hdr : encR (ls.drop j) = intMem (rwAt ls j) :: encR (ls.drop (j + 1)) := by rw [rw_drop hlt]; rfl
      rw [hdr] at hL
      have hnx := Lib.hid (mkR_next hlt k)
      have hsn := sumR_next hlt
      have hst := sumR_take ls (j + 1)
      have hrk := hrl j hlt
      generalize mkRow k (ls.take j) = a at hL hla hnx ho0 hlen2
      generalize rwAt ls j = t at hL hnx hsn hrk hdr
      generalize hkk : sumR (ls.take j) = m at hsn hnx
      have hat : (a ++ intMem t :: encR (ls.drop (j + 1)))[j]? = some (intMem t) := by
        rw [List.getElem?_append_right (by omega), hla]; simp
      have hse : (a ++ intMem t :: encR (ls.drop (j + 1))).set j (.row 3 1 ((marked (k + m) t.length).map .cell)) = (a ++ [.row 3 1 ((marked (k + m) t.length).map .cell)]) ++ encR (ls.drop (j + 1)) := by
        rw [List.set_append_right _ _ (by omega), hla, Nat.sub_self]; simp
      have HE := Lib.hid hse
      obtain ⟨u, T, hu, hT, hsub, hput⟩ := hL.focus j (intMem t) hat
      have d0 := (ho.cellAt j (by omega)).trans hu
      obtain ⟨how, hTe⟩ := cellRow_own (icells_len t) hT
      have hmp := markIntS_own 0 t.length u _ (k + m) wr how (by omega) (by omega)
      have HTE := Lib.hid hTe
      have HNG : g ∉ T := fun h => hg (hsub g h)
      clear hT how hu hTe hat hse hdr ho0 hlen2 hkk hrl
      go_wp2_with fail
      (with_reducible refine hmp.mono ?_)
      rintro e w3 ⟨rfl, how3, hg3⟩
      have hP3 : Own w3 T u (.row 3 1 ((marked (k + m) t.length).map .cell)) := by
        have h2 := cellRow_of how3
        rw [← HTE.out] at h2
        exact h2
      have hL4 := hput w3 _ (fun b hb hn => hg3.block b (hL.lt b hb) (fun e => hn (by rw [HTE.out, ← e]; simp))) hP3
      rw [HE.out] at hL4
      have o3 := ho.kept hg3 (.inr (fun e => HNG (by rw [HTE.out, ← e]; simp [Value.ownBlock])))
      have hon4 := hon.trans (Only.of_grown (S := g :: S') hg3 (fun b e => List.mem_cons_of_mem _ (hsub b (by rw [HTE.out, e]; simp))))
      have hown7 : Own w3 (g :: S') (.slice (some ⟨g, 0, none⟩) ls.length c) (.row 26 1 (mkRow k (ls.take (j + 1)) ++ encR (ls.drop (j + 1)))) := by
        rw [hnx.out]
        exact .row (by rw [List.length_append, List.length_append, hla, encR_len, List.length_drop]; simp; omega) (own_le o3 (Nat.zero_le _)) hL4 hg
      have hkk2 : Hid (k + m + t.length = k + sumR (ls.take (j + 1))) := by show k + m + t.length = k + sumR (ls.take (j + 1)); omega
      clear hmp hput hL hL4 o3 ho hon hg3 how3 hP3 hnx HE hsn hst d0
      go_wp2
      refine ⟨⟨j + 1, by omega, by go_num, by rw [hkk2.out], hown7, hon4⟩, ?_⟩
      simp only [intOf]
      omega
    · have e : j = ls.length := by omega
      subst e
      rw [List.take_length, List.drop_length, show encR [] = [] from rfl, List.append_nil] at ho0
      have hpost : MarkRPost S (.slice A ls.length c) ls k w (.returned (.int .i64 (k + sumR (ls.take ls.length)))) wr := ⟨by rw [List.take_length], ho0, hon⟩
      clear ho0 hon
      go_wp2
      go_ret
      exact hpost

set_option maxRecDepth 100000 in
set_option maxHeartbeats 400000 in
theorem heldIntS_at (A : Option Addr) (c n : Nat) (k : Int) (w : World) (hp : 0 < n → ∃ b off, A = some ⟨b, off, none⟩ ∧ b < w.heap.size ∧ ∀ i, i < n → w.cell? ⟨b, off + i, none⟩ = some (.int .i64 (k + i))) (hk0 : 0 ≤ k) (hk1 : k + n ≤ 9223372036854775807) :
    Calls Try.prog 35 #[.slice A n c, .int .i64 k] w
      fun e w' => e = .returned (.int .i64 (k + n)) ∧ w = w' := by
  go_enter Try.func35, Try.ntmps35
  go_wp2
  go_loop [1, 5] (fun kk i => ∃ j : Nat, j ≤ n ∧ i = .int .i64 j ∧ kk = .int .i64 (k + j)) (fun _ i => n - (intOf i).toNat)
  case atStart => exact ⟨0, Nat.zero_le _, rfl, by simp⟩
  case round =>
    obtain ⟨j, hj, rfl, rfl⟩ := hrel
    by_cases hlt : j < n
    · obtain ⟨b, off, rfl, hb, hc⟩ := hp (by omega)
      have c0 := hc j hlt
      clear hp hc
      have t0 : (k + (j : Int) != k + (j : Int)) = false := by simp
      go_wp2
      go_round
      case rel => exact ⟨j + 1, by omega, by go_num, by go_num⟩
      case measure => simp [intOf]; omega
    · have ej : j = n := by omega
      subst ej
      clear hp
      go_wp2
      go_ret
      exact ⟨rfl, rfl⟩

theorem at_marked {w : World} {v : Value} {n : Nat} {k : Int} (h : At w v (.row 3 1 ((marked k n).map .cell))) : ∃ A c, v = .slice A n c ∧ (0 < n → ∃ b off, A = some ⟨b, off, none⟩ ∧ b < w.heap.size ∧ ∀ i, i < n → w.cell? ⟨b, off + i, none⟩ = some (.int .i64 (k + i))) := by
  obtain ⟨A, n', c, rfl, hl⟩ := At.form h
  rw [List.length_map, marked_len] at hl
  have hn : n' = n := by omega
  subst hn
  refine ⟨A, c, rfl, fun hp => ?_⟩
  obtain ⟨b, off, rfl, hb, hc⟩ := At.get h hp
  refine ⟨b, off, rfl, hb, fun i hi => ?_⟩
  obtain ⟨u1, d1, a1⟩ := hc i (.cell (.int .i64 (k + i))) (by rw [List.getElem?_map, marked_at k n' i hi]; rfl)
  rw [a1.cell_eq] at d1
  exact d1

set_option maxRecDepth 100000 in
set_option maxHeartbeats 2000000 in
theorem heldIntSS_any (ls : List (List Int)) (hf : FitR ls) (v : Value) (k : Int) (w : World) (hk0 : 0 ≤ k) (hk1 : k + sumR ls ≤ 9007199254740992) (hv : At w v (.row 26 1 (mkRow k ls))) :
    Calls Try.prog 36 #[v, .int .i64 k] w fun e w' => e = .returned (.int .i64 (k + sumR ls)) ∧ w = w' := by
  obtain ⟨A, n, c, rfl, hl⟩ := At.form hv
  rw [mkR_len] at hl
  have hn : n = ls.length := by omega
  clear hl
  subst hn
  obtain ⟨hlen, hrl⟩ := hf
  go_enter Try.func36, Try.ntmps36
  go_wp2
  go_loop [1, 5] (fun kk i => ∃ j : Nat, j ≤ ls.length ∧ i = .int .i64 j ∧ kk = .int .i64 (k + sumR (ls.take j))) (fun _ i => ls.length - (intOf i).toNat)
  case atStart => exact ⟨0, Nat.zero_le _, rfl, by simp [sumR]⟩
  case round =>
    obtain ⟨j, hj, rfl, rfl⟩ := hrel
    by_cases hlt : j < ls.length
    · obtain ⟨b, off, rfl, hbl, hget⟩ := At.get hv (by omega)
      obtain ⟨u, d0, a0⟩ := hget j _ (mkR_at ls k j hlt)
      obtain ⟨A1, c1, rfl, hp1⟩ := at_marked a0
      have hsn := sumR_next hlt
      have hst := sumR_take ls (j + 1)
      have hrk := hrl j hlt
      generalize (rwAt ls j).length = tl at *
      generalize hkk : sumR (ls.take j) = m at hsn hp1 ⊢
      have hh := heldIntS_at A1 c1 tl (k + m) w hp1 (by omega) (by omega)
      have g1 : ¬ k + (m : Int) + (tl : Int) < 0 := by omega
      have hbd : k + (m : Int) ≤ 9007199254740992 := by omega
      have hkk2 : Hid (k + m + tl = k + sumR (ls.take (j + 1))) := by show k + m + tl = k + sumR (ls.take (j + 1)); omega
      clear hget hv hp1 a0 hrl hkk hsn hst
      go_wp2_with fail
      refine hh.mono ?_
      rintro e w' ⟨rfl, rfl⟩
      clear hh d0
      go_wp2
      go_round
      case rel => exact ⟨j + 1, by omega, by go_num, by rw [hkk2.out]⟩
      case measure => simp [intOf]; omega
    · have e : j = ls.length := by omega
      subst e
      clear hv
      go_wp2
      go_ret
      first | exact ⟨rfl, rfl⟩ | exact ⟨by rw [List.take_length], rfl⟩
end Go.Proofs.Ythjkogighppeaaa
end

section
namespace Go.Proofs.Ythjkogighppeaaa
open Go.RowKit
set_option linter.unusedVariables false

abbrev ConstAt := ConstAtR
theorem ConstAt.below {w w' : World} {A : Option Addr} {c : Nat} {l : List Int} (h : ConstAt w A c l) (hb : Below w.heap.size w w') : ConstAt w' A c l := ⟨h.1.below hb, h.2⟩
/-- A value that is an orbit set. -/
def OrbIn (w : World) (x : Value) (z : Int) (l : List Int) (m : List (List Int)) : Prop :=
  ∃ A c B d, x = .agg #[.int .i64 z, .slice A l.length c, .slice B m.length d] ∧ ConstAt w A c l ∧ RowsIn w (.slice B m.length d) m
theorem OrbIn.below {w w' : World} {x : Value} {z : Int} {l : List Int} {m : List (List Int)} (h : OrbIn w x z l m) (hb : Below w.heap.size w w') : OrbIn w' x z l m := by
  obtain ⟨A, c, B, d, rfl, h1, h2⟩ := h
  exact ⟨A, c, B, d, rfl, h1.below hb, h2.below hb⟩
def FitO (l : List Int) (m : List (List Int)) : Prop := l.length ≤ 2097152 ∧ FitR m
def encO (z : Int) (l : List Int) (m : List (List Int)) : List Mem := [.cell (.int .i64 z), intMem l, rowsMem m]

namespace OrbK
theorem box_lt {w : World} {g : Nat} {o : Obj} (h : w.heap[g]? = some o) : g < w.heap.size := (Array.getElem?_eq_some_iff.1 h).1
theorem row3 {w : World} {g : Nat} {a b c : Value} {T : TypeId} (h : w.heap[g]? = some (.cells #[a, b, c] T (0, 0))) : w.cell? ⟨g, 0, none⟩ = some a ∧ w.cell? ⟨g, 1, none⟩ = some b ∧ w.cell? ⟨g, 2, none⟩ = some c := by
  refine ⟨?_, ?_, ?_⟩ <;> rw [cell_of_row w g _ _ _ _ h] <;> rfl
end OrbK

/-- Rows, each with room for itself. -/
def RowsC (w : World) (A : Option Addr) (ls : List (List Int)) : Prop :=
  0 < ls.length → ∃ b off, A = some ⟨b, off, none⟩ ∧ b < w.heap.size ∧ ∀ i, i < ls.length → ∃ A1 c1, w.cell? ⟨b, off + i, none⟩ = some (.slice A1 (rwAt ls i).length c1) ∧ IntsAt w A1 (rwAt ls i) ∧ (rwAt ls i).length ≤ c1
theorem RowsC.below {w w' : World} {A : Option Addr} {ls : List (List Int)} (h : RowsC w A ls) (hb : Below w.heap.size w w') : RowsC w' A ls := by
  intro hp
  obtain ⟨b, off, rfl, hlt, hc⟩ := h hp
  refine ⟨b, off, rfl, Nat.lt_of_lt_of_le hlt hb.size, fun i hi => ?_⟩
  obtain ⟨A1, c1, h1, h2, h3⟩ := hc i hi
  exact ⟨A1, c1, (hb.cell (p := ⟨b, off + i, none⟩) hlt).trans h1, h2.below hb, h3⟩
theorem own_rowsC {w : World} {T : List Nat} {A : Option Addr} {n c : Nat} {ls : List (List Int)} (h : Own w T (.slice A n c) (rowsMem ls)) : RowsC w A ls := by
  intro hp
  obtain ⟨g, cap, xs, S', _, ev, ho, hL, _⟩ := own_rows (encR_len ls) h hp
  injection ev with e1 e2 e3
  subst e1; subst e2; subst e3
  refine ⟨g, 0, rfl, (ho.lt g rfl).2, fun i hi => ?_⟩
  obtain ⟨u, T', hu, hT, _, _⟩ := hL.focus i _ (encR_at hi)
  obtain ⟨A1, c1, rfl, hA⟩ := at_intRow hT.at_
  refine ⟨A1, c1, by rw [Nat.zero_add]; exact (ho.cellAt i (by omega)).trans hu, hA, ?_⟩
  rcases (cellRow_own (icells_len _) hT).1.2 with ⟨e, h0⟩ | ⟨g2, cap2, cur, e, _, _, hn, _⟩
  · omega
  · injection e with _ _ e3
    omega
/-- A value that is an orbit set, as it is handed over. -/
def OrbIx (w : World) (x : Value) (z : Int) (l : List Int) (m : List (List Int)) : Prop :=
  ∃ A c B d, x = .agg #[.int .i64 z, .slice A l.length c, .slice B m.length d] ∧ ConstAt w A c l ∧ RowsIn w (.slice B m.length d) m ∧ RowsC w B m
theorem OrbIx.below {w w' : World} {x : Value} {z : Int} {l : List Int} {m : List (List Int)} (h : OrbIx w x z l m) (hb : Below w.heap.size w w') : OrbIx w' x z l m := by
  obtain ⟨A, c, B, d, rfl, h1, h2, h3⟩ := h
  exact ⟨A, c, B, d, rfl, h1.below hb, h2.below hb, h3.below hb⟩
theorem OrbIx.in_ {w : World} {x : Value} {z : Int} {l : List Int} {m : List (List Int)} (h : OrbIx w x z l m) : OrbIn w x z l m := by
  obtain ⟨A, c, B, d, rfl, h1, h2, _⟩ := h
  exact ⟨A, c, B, d, rfl, h1, h2⟩
theorem orbOut_ix {w : World} {S : List Nat} {z : Int} {l : List Int} {m : List (List Int)} {A B : Option Addr} {c d : Nat} (h : OwnL w S [.int .i64 z, .slice A l.length c, .slice B m.length d] (encO z l m)) :
    OrbIx w (.agg #[.int .i64 z, .slice A l.length c, .slice B m.length d]) z l m := by
  unfold encO at h
  cases h with
  | cons _ h1 hd1 => cases h1 with
    | cons h2 h1 hd2 => cases h1 with
      | cons h3 _ _ =>
        obtain ⟨A', c', e, hp⟩ := at_intRow h2.at_
        simp only [Value.slice.injEq] at e
        obtain ⟨rfl, _, rfl⟩ := e
        refine ⟨A, c, B, d, rfl, ⟨hp, fun e => ?_⟩, h3.at_, own_rowsC h3⟩
        subst e
        exact own_nilcap h2

/-- The two slices of an orbit set. -/
theorem ownL_orb {w : World} {S : List Nat} {a pv kv : Value} {z : Int} {l : List Int} {m : List (List Int)} (h : OwnL w S [a, pv, kv] (encO z l m)) :
    ∃ P K, (∀ x, x ∈ S ↔ x ∈ P ∨ x ∈ K) ∧ (∀ x ∈ P, x ∉ K) ∧ Own w P pv (intMem l) ∧ Own w K kv (rowsMem m) := by
  unfold encO at h
  cases h with
  | cons h0 k0 hd0 =>
    cases k0 with
    | cons h2 k2 hd2 =>
      cases k2 with
      | cons h3 k3 hd3 =>
        cases k3
        cases h0
        exact ⟨_, _, fun x => by simp, fun x hx hk => hd2 x hx (by simpa using hk), h2, h3⟩
theorem orb_ownL {w : World} {z : Int} {l : List Int} {m : List (List Int)} {pv kv : Value} {S T : List Nat} (h : Own w S pv (intMem l)) (k : Own w T kv (rowsMem m)) (hd : ∀ b ∈ S, b ∉ T) : OwnL w (S ++ (T ++ [])) [.int .i64 z, pv, kv] (encO z l m) := by
  unfold encO
  exact .cons (S := []) (.cell _) (.cons h (.cons k .nil (fun b _ => by simp)) (fun b hb ht => hd b hb (by simpa using ht))) (fun b hb => by simp at hb)

/-- An orbit set whose slices are of the call's own. -/
def OrbOut (z : Int) (l : List Int) (m : List (List Int)) (w : World) (e : Ending) (w' : World) : Prop :=
  ∃ A1 c1 A2 c2 S, e = .returned (.agg #[.int .i64 z, .slice A1 l.length c1, .slice A2 m.length c2]) ∧
    OwnL w' S [.int .i64 z, .slice A1 l.length c1, .slice A2 m.length c2] (encO z l m) ∧ (∀ b ∈ S, w.heap.size ≤ b) ∧ Below w.heap.size w w'

set_option maxRecDepth 100000 in
set_option maxHeartbeats 2000000 in
theorem eqOrbitSet_any (z : Int) (l : List Int) (m : List (List Int)) (hf : FitO l m) (w : World) (x y : Value) (hx9 : OrbIx w x z l m) (hy9 : OrbIx w y z l m) :
    Calls Try.prog 8 #[x, y] w (YesPost w) := by
  obtain ⟨hll, hfm⟩ := hf
  obtain ⟨A, c, B, d, rfl, hxl, hxm⟩ := hx9.in_
  obtain ⟨A', c', B', d', rfl, hyl, hym⟩ := hy9.in_
  clear hx9 hy9
  have hb0 : Below w.heap.size w ((w.alloc (.cells #[.int .i64 z, .slice A l.length c, .slice B m.length d] 29)).alloc (.cells #[.int .i64 z, .slice A' l.length c', .slice B' m.length d'] 29)) := ((Below.refl _ _).alloc (Nat.le_refl _) _).alloc (by simp) _
  have k0 : ((w.alloc (.cells #[.int .i64 z, .slice A l.length c, .slice B m.length d] 29)).alloc (.cells #[.int .i64 z, .slice A' l.length c', .slice B' m.length d'] 29)).heap[w.heap.size]? = some (.cells #[.int .i64 z, .slice A l.length c, .slice B m.length d] 29 (0, 0)) := (Below.heap_alloc _ _ _ (by simp)).trans (heap_alloc_new w _)
  have k1 : ((w.alloc (.cells #[.int .i64 z, .slice A l.length c, .slice B m.length d] 29)).alloc (.cells #[.int .i64 z, .slice A' l.length c', .slice B' m.length d'] 29)).heap[w.heap.size + 1]? = some (.cells #[.int .i64 z, .slice A' l.length c', .slice B' m.length d'] 29 (0, 0)) := by
    have h := heap_alloc_new (w.alloc (.cells #[.int .i64 z, .slice A l.length c, .slice B m.length d] 29)) (.cells #[.int .i64 z, .slice A' l.length c', .slice B' m.length d'] 29)
    rw [World.size_alloc] at h
    exact h
  have he1 := eqIntS_any A A' c c' l l ((w.alloc (.cells #[.int .i64 z, .slice A l.length c, .slice B m.length d] 29)).alloc (.cells #[.int .i64 z, .slice A' l.length c', .slice B' m.length d'] 29)) (hxl.below hb0).1 (hyl.below hb0).1 (by omega)
  rw [decide_eq_true (rfl : l = l)] at he1
  have hzz : (z != z) = false := by simp
  have HX := Lib.hid hxm
  have HY := Lib.hid hym
  have HB0 := Lib.hid hb0
  have HK0 := Lib.hid k0
  have HK1 := Lib.hid k1
  obtain ⟨m0, m1, m2⟩ := OrbK.row3 k0
  obtain ⟨n0, n1, n2⟩ := OrbK.row3 k1
  clear hxl hxm hyl hym hb0 k0 k1
  go_enter Try.func8, Try.ntmps8
  go_wp2_with fail
  refine he1.mono ?_
  rintro e w1 ⟨rfl, hb1⟩
  have hbw1 := HB0.out.trans (hb1.mono HB0.out.size)
  have k0 := (hb1.block w.heap.size (OrbK.box_lt HK0.out)).trans HK0.out
  have k1 := (hb1.block (w.heap.size + 1) (OrbK.box_lt HK1.out)).trans HK1.out
  clear he1 m0 m1 m2 n0 n1 n2
  obtain ⟨m0, m1, m2⟩ := OrbK.row3 k0
  obtain ⟨n0, n1, n2⟩ := OrbK.row3 k1
  have he2 := eqIntSS_any m hfm w1 _ _ (HX.out.below hbw1) (HY.out.below hbw1)
  clear k0 k1
  go_wp2_with fail
  refine he2.mono ?_
  rintro e w2 ⟨rfl, hb2⟩
  have hbw2 := hbw1.trans (hb2.mono hbw1.size)
  clear he2 m0 m1 m2 n0 n1 n2
  go_wp2
  go_ret
  exact ⟨rfl, hbw2⟩

end Go.Proofs.Ythjkogighppeaaa
end

section
namespace Go.Proofs.Ythjkogighppeaaa
open Go.RowKit Go.Sort
set_option linter.unusedVariables false

/-- The cells of an orbit set, numbered from k on. -/
def mkO (k z : Int) (l : List Int) (m : List (List Int)) : List Mem := [.cell (.int .i64 z), .row 3 1 ((marked k l.length).map .cell), .row 26 1 (mkRow (k + l.length) m)]

set_option maxRecDepth 100000 in
set_option maxHeartbeats 2000000 in
theorem markOrbitSet_full (z : Int) (l : List Int) (m : List (List Int)) (hf : FitO l m) (S : List Nat) (A B : Option Addr) (c d : Nat) (k : Int) (w : World) (hk0 : 0 ≤ k) (hk1 : k + l.length + sumR m ≤ 9007199254740992)
    (h : OwnL w S [.int .i64 z, .slice A l.length c, .slice B m.length d] (encO z l m)) :
    Calls Try.prog 11 #[.agg #[.int .i64 z, .slice A l.length c, .slice B m.length d], .int .i64 k] w
      fun e w' => e = .returned (.int .i64 (k + l.length + sumR m)) ∧ (∃ S', OwnL w' S' [.int .i64 z, .slice A l.length c, .slice B m.length d] (mkO k z l m) ∧ ∀ b ∈ S', b ∈ S) ∧ Only S w w' := by
  obtain ⟨P, K, hS, hd, hP, hK⟩ := ownL_orb h
  have hbx : Below w.heap.size w (w.alloc (.cells #[.int .i64 z, .slice A l.length c, .slice B m.length d] 29)) := (Below.refl _ _).alloc (Nat.le_refl _) _
  have hP1 := hP.keep hbx
  have hK1 := hK.keep hbx
  obtain ⟨how, hPe⟩ := cellRow_own (icells_len l) hP1
  have hmp := markIntS_own 0 l.length (.slice A l.length c) _ k _ how (by omega) (by omega)
  have hlt := fun (b : Nat) hb => hP.lt b hb
  clear h hP hK hP1 how
  go_enter Try.func11, Try.ntmps11
  go_wp2_with fail
  (with_reducible refine hmp.mono ?_)
  rintro e w1 ⟨rfl, hom, hg1⟩
  have hon1 : Only P (w.alloc (.cells #[.int .i64 z, .slice A l.length c, .slice B m.length d] 29)) w1 := Only.of_grown hg1 (fun b e => by rw [hPe, e]; simp)
  have hK2 := hK1.alike (w' := w1) (fun b hb => hon1.block b (hK1.lt b hb) (fun hp => hd b hp hb))
  have b3 : w1.cell? ⟨w.heap.size, 2, none⟩ = some (.slice B m.length d) := by
    have h9 := (hon1.block w.heap.size (by simp) (fun hp => by have := hlt _ hp; omega)).trans (heap_alloc_new w _)
    rw [cell_of_row w1 w.heap.size _ _ _ _ h9]; rfl
  have hon2 : Only S w w1 := (only_of_below hbx).trans (hon1.wide fun b hb => (hS b).2 (.inl hb))
  have hmk := markIntSS_any m hf.2 K _ (k + l.length) w1 (by omega) hk1 hK2
  have HOM := Lib.hid hom
  clear hmp hg1 hon1 hK1 hK2 hbx hom
  go_wp2_with fail
  (with_reducible refine hmk.mono ?_)
  rintro e w2 ⟨rfl, hom2, hon3⟩
  have hom3 := own_only HOM.out hon3 (fun b e hp => hd b (by rw [hPe, e]; simp) hp)
  have hon4 := hon2.trans (hon3.wide fun b hb => (hS b).2 (.inr hb))
  have q1 := cellRow_of hom3
  have hd2 : ∀ b ∈ (Value.slice A l.length c).ownBlock.toList, b ∉ K := by rw [← hPe]; exact hd
  have hL : OwnL w2 ((Value.slice A l.length c).ownBlock.toList ++ (K ++ [])) [.int .i64 z, .slice A l.length c, .slice B m.length d] (mkO k z l m) :=
    .cons (S := []) (.cell _) (.cons q1 (.cons hom2 .nil (fun b _ => by simp)) (fun b hb ht => hd2 b hb (by simpa using ht))) (fun b hb => by simp at hb)
  have hmem : ∀ b ∈ (Value.slice A l.length c).ownBlock.toList ++ (K ++ []), b ∈ S := fun b hb => by
    rw [List.append_nil, ← hPe] at hb
    exact (hS b).2 (List.mem_append.1 hb)
  have HFIN := Lib.hid (show (∃ S', OwnL w2 S' _ _ ∧ ∀ b ∈ S', b ∈ S) ∧ Only S w w2 from ⟨⟨_, hL, hmem⟩, hon4⟩)
  clear hmk hon2 hon3 b3 HOM hom2 hom3 q1 hL hmem hon4 hd2
  go_wp2
  go_ret
  exact ⟨rfl, HFIN.out⟩

set_option maxRecDepth 100000 in
set_option maxHeartbeats 2000000 in
theorem heldOrbitSet_any (z : Int) (l : List Int) (m : List (List Int)) (hf : FitO l m) (S : List Nat) (A B : Option Addr) (c d : Nat) (k : Int) (w : World) (hk0 : 0 ≤ k) (hk1 : k + l.length + sumR m ≤ 9007199254740992)
    (h : OwnL w S [.int .i64 z, .slice A l.length c, .slice B m.length d] (mkO k z l m)) :
    Calls Try.prog 12 #[.agg #[.int .i64 z, .slice A l.length c, .slice B m.length d], .int .i64 k] w
      fun e w' => e = .returned (.int .i64 (k + l.length + sumR m)) ∧ Below w.heap.size w w' := by
  unfold mkO at h
  have hbx : Below w.heap.size w (w.alloc (.cells #[.int .i64 z, .slice A l.length c, .slice B m.length d] 29)) := (Below.refl _ _).alloc (Nat.le_refl _) _
  cases h with
  | cons h0 k0 hd0 =>
    cases k0 with
    | cons h2 k2 hd2 =>
      cases k2 with
      | cons h3 k3 hd3 =>
        have r2 := own_below (cellRow_own (marked_len k l.length) h2).1 hbx
        have r3 := (h3.keep hbx).at_
        clear h0 h2 h3 k3 hd0 hd2 hd3
        have hmp := heldIntS_own 0 l.length (.slice A l.length c) k _ r2 (by omega) (by omega)
        have hmq := heldIntSS_any m hf.2 (.slice B m.length d) (k + l.length) _ (by omega) hk1 r3
        have t1 : ¬ k + (l.length : Int) < 0 := by omega
        have t2 : ¬ k + (l.length : Int) + (sumR m : Int) < 0 := by omega
        clear r2 r3 hf
        go_enter Try.func12, Try.ntmps12
        go_wp2_with fail
        (with_reducible refine hmp.mono ?_)
        rintro e w1 ⟨rfl, rfl⟩
        clear hmp
        go_wp2_with fail
        (with_reducible refine hmq.mono ?_)
        rintro e w1 ⟨rfl, rfl⟩
        clear hmq
        go_wp2
        go_ret
        exact ⟨rfl, hbx⟩
end Go.Proofs.Ythjkogighppeaaa
end

