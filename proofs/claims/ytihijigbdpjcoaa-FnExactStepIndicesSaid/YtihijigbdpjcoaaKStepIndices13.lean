/-
  The index term of an index form, in the program, as contracts.
-/
import Derived.Test.YtihijigbdpjcoaaKStepIndices9
import Derived.Test.YtihijigbdpjcoaaKStepIndices8
import Derived.Test.YtihijigbdpjcoaaKStepIndices6
import Derived.Lib.QuietBelow
namespace Go.Proofs.Ytihijigbdpjcoaa
open Go.RowKit Go.Sort
set_option linter.unusedVariables false

theorem own_nokidsI {w : World} : Own w [] (.slice none 0 0) (ixsMem []) := .nil _ _
theorem ownL_leafI {w : World} (o n : Int) : OwnL w ([] ++ []) [.int .i64 o, .int .i64 n, .slice none 0 0] (encIx (.mk o n [])) := ownL_ix (t := .mk o n []) own_nokidsI
theorem fit_li : ∀ l : Li, FitIx (liIx l)
  | .bnd _ => by simp [liIx, FitIx, FitIxs]
  | .free _ => by simp [liIx, FitIx, FitIxs]
  | .fn x => by simp [liIx, FitIx, FitIxs, fit_li x]
  | .app x y => by simp [liIx, FitIx, FitIxs, fit_li x, fit_li y]
theorem secondI (w : World) (a : Obj) (c : Array Value) (T : TypeId) : ((w.alloc a).alloc (.cells c T)).heap[w.heap.size + 1]? = some (.cells c T (0, 0)) := by
  have h := heap_alloc_new (w.alloc a) (.cells c T)
  rw [World.size_alloc] at h
  exact h
theorem set3_own {w : World} {S : List Nat} {vs : List Value} {ms : List Mem} {R : Nat} (h : OwnL w S vs ms) (hR : ∀ b ∈ S, b ≠ R) (a b c : Value) :
    OwnL (((w.setCell ⟨R, 0, none⟩ a).setCell ⟨R, 1, none⟩ b).setCell ⟨R, 2, none⟩ c) S vs ms := by
  refine h.alike fun q hq => ?_
  have := hR q hq
  rw [Below.heap_setCell _ _ _ _ this, Below.heap_setCell _ _ _ _ this, Below.heap_setCell _ _ _ _ this]
theorem set3_below {w0 w : World} {B R : Nat} (h : Below B w0 w) (hR : B ≤ R) (a b c : Value) :
    Below B w0 (((w.setCell ⟨R, 0, none⟩ a).setCell ⟨R, 1, none⟩ b).setCell ⟨R, 2, none⟩ c) := ((h.setCell hR _).setCell hR _).setCell hR _
set_option maxRecDepth 100000 in
theorem index_bnd (n : Int) (w : World) : Calls Try.prog 161 #[.agg #[.int .i64 n]] w (IxOut (.mk 1 n []) w) := by
  have hb0 : Below w.heap.size w ((w.alloc (.cells #[.int .i64 n] 103)).alloc (.cells #[.int .i64 1, .int .i64 n, .slice none 0 0] 42)) := ((Below.refl _ _).alloc (Nat.le_refl _) _).alloc (by simp) _
  obtain ⟨r0, r1, r2⟩ := IxK.row3 (secondI w (.cells #[.int .i64 n] 103) #[.int .i64 1, .int .i64 n, .slice none 0 0] 42)
  have hpost : IxOut (.mk 1 n []) w (.returned (.agg #[.int .i64 1, .int .i64 n, .slice none 0 0])) ((w.alloc (.cells #[.int .i64 n] 103)).alloc (.cells #[.int .i64 1, .int .i64 n, .slice none 0 0] 42)) := ⟨none, 0, _, rfl, ownL_leafI 1 n, fun b hb => by simp at hb, hb0⟩
  clear hb0
  go_enter Try.func161, Try.ntmps161
  go_wp2
  exact bodyPost_ret (v := .agg #[.int .i64 1, .int .i64 n, .slice none 0 0]) (by simp [results, Try.results161, go_sem, r0, r1, r2]) rfl hpost

set_option maxRecDepth 100000 in
theorem index_free (n : Int) (w : World) : Calls Try.prog 165 #[.agg #[.int .i64 n]] w (IxOut (.mk 2 n []) w) := by
  have hb0 : Below w.heap.size w ((w.alloc (.cells #[.int .i64 n] 105)).alloc (.cells #[.int .i64 2, .int .i64 n, .slice none 0 0] 42)) := ((Below.refl _ _).alloc (Nat.le_refl _) _).alloc (by simp) _
  obtain ⟨r0, r1, r2⟩ := IxK.row3 (secondI w (.cells #[.int .i64 n] 105) #[.int .i64 2, .int .i64 n, .slice none 0 0] 42)
  have hpost : IxOut (.mk 2 n []) w (.returned (.agg #[.int .i64 2, .int .i64 n, .slice none 0 0])) ((w.alloc (.cells #[.int .i64 n] 105)).alloc (.cells #[.int .i64 2, .int .i64 n, .slice none 0 0] 42)) := ⟨none, 0, _, rfl, ownL_leafI 2 n, fun b hb => by simp at hb, hb0⟩
  clear hb0
  go_enter Try.func165, Try.ntmps165
  go_wp2
  exact bodyPost_ret (v := .agg #[.int .i64 2, .int .i64 n, .slice none 0 0]) (by simp [results, Try.results165, go_sem, r0, r1, r2]) rfl hpost

set_option maxRecDepth 100000 in
set_option maxHeartbeats 4000000 in
theorem index_fn (x : Li) (k : Ix) (w : World)
    (ih : ∀ (w' : World), Calls Try.prog (mIndexF x) #[ivL x] w' (IxOut k w')) :
    Calls Try.prog 170 #[.agg #[.iface (ityL x) (ivL x)]] w (IxOut (.mk 3 0 [k]) w) := by
  have hm := askIndexL x
  have hn := enterIndexL x
  generalize mIndexF x = F at hm hn ih
  generalize ityL x = T at *
  generalize ivL x = V at *
  have hb0 : Below w.heap.size w ((w.alloc (.cells #[.iface T V] 107)).alloc (.cells #[.int .i64 0, .int .i64 0, .slice none 0 0] 42)) := ((Below.refl _ _).alloc (Nat.le_refl _) _).alloc (by simp) _
  have hres := secondI w (.cells #[.iface T V] 107) #[.int .i64 0, .int .i64 0, .slice none 0 0] 42
  have hct := ih ((w.alloc (.cells #[.iface T V] 107)).alloc (.cells #[.int .i64 0, .int .i64 0, .slice none 0 0] 42))
  have hsz : ((w.alloc (.cells #[.iface T V] 107)).alloc (.cells #[.int .i64 0, .int .i64 0, .slice none 0 0] 42)).heap.size = w.heap.size + 2 := by simp
  have HSZ := Lib.hid hsz
  have HR := Lib.hid hres
  clear ih hsz hres
  go_enter Try.func170, Try.ntmps170
  go_wp2_with fail
  refine hct.mono ?_
  rintro e w2 ⟨A1, c1, S1, rfl, hS1, hS1b, hb2⟩
  have hbz := hb0.trans (hb2.mono hb0.size)
  have hs2 := hb2.size
  rw [HSZ.out] at hs2 hS1b
  have hres2 := (hb2.block (w.heap.size + 1) (by rw [HSZ.out]; omega)).trans HR.out
  have hres3 : (w2.alloc (.cells #[.int .i64 k.op, .int .i64 k.num, .slice A1 k.kids.length c1] 42)).heap[w.heap.size + 1]? = _ := (Below.heap_alloc w2 (.cells #[.int .i64 k.op, .int .i64 k.num, .slice A1 k.kids.length c1] 42) _ (by omega)).trans hres2
  have hsz3 : (w2.alloc (.cells #[.int .i64 k.op, .int .i64 k.num, .slice A1 k.kids.length c1] 42)).heap.size = w2.heap.size + 1 := by simp
  have hS1l := fun b hb => hS1.lt b hb
  have hS3 := hS1.alike (w' := (w2.alloc (.cells #[.int .i64 k.op, .int .i64 k.num, .slice A1 k.kids.length c1] 42))) (fun b hb => Below.heap_alloc w2 _ _ (hS1l b hb))
  have h9 := World.ownsRow_lit (base := 0) (e := 42) (size := 3) w2 #[.int .i64 k.op, .int .i64 k.num, .slice A1 k.kids.length c1] 1 (Nat.zero_le _) (by decide) rfl
  have hk4 := own_of_ixs (ts := [k]) rfl h9 (by rw [encIxs, encIxs, List.append_nil]; exact hS3) (fun hm => by have := hS1l _ hm; omega)
  have hL3 := ownL_ix (t := .mk 3 0 [k]) hk4
  have hSb : ∀ b ∈ w2.heap.size :: S1 ++ [], w.heap.size + 2 ≤ b := fun b hb => by
    simp only [List.append_nil, List.mem_cons] at hb
    rcases hb with rfl | hb
    · omega
    · have := hS1b b hb; omega
  have hL := set3_own hL3 (R := w.heap.size + 1) (fun b hb => by have := hSb b hb; omega) (.int .i64 3) (.int .i64 0) (.slice (some ⟨w2.heap.size, 0, none⟩) 1 1)
  have hbx : Below w.heap.size w ((((w2.alloc (.cells #[.int .i64 k.op, .int .i64 k.num, .slice A1 k.kids.length c1] 42)).setCell ⟨w.heap.size + 1, 0, none⟩ (.int .i64 3)).setCell ⟨w.heap.size + 1, 1, none⟩ (.int .i64 0)).setCell ⟨w.heap.size + 1, 2, none⟩ (.slice (some ⟨w2.heap.size, 0, none⟩) 1 1)) := set3_below (hbz.alloc hbz.size _) (by omega) _ _ _
  have hpost : IxOut (.mk 3 0 [k]) w (.returned (.agg #[.int .i64 3, .int .i64 0, .slice (some ⟨w2.heap.size, 0, none⟩) 1 1])) ((((w2.alloc (.cells #[.int .i64 k.op, .int .i64 k.num, .slice A1 k.kids.length c1] 42)).setCell ⟨w.heap.size + 1, 0, none⟩ (.int .i64 3)).setCell ⟨w.heap.size + 1, 1, none⟩ (.int .i64 0)).setCell ⟨w.heap.size + 1, 2, none⟩ (.slice (some ⟨w2.heap.size, 0, none⟩) 1 1)) := ⟨_, _, _, rfl, hL, fun b hb => by have := hSb b hb; omega, hbx⟩
  obtain ⟨r0, r1, r2⟩ := IxK.row3 hres3
  have z0 := frozen_of_row _ _ 0 _ _ hres3
  have z1 := frozen_of_row _ _ 1 _ _ hres3
  have z2 := frozen_of_row _ _ 2 _ _ hres3
  clear hct hS1 hS1b hS1l hS3 h9 hk4 hL3 hL hbx hSb hres2 hres3 hb0 hbz HR HSZ hb2 hsz3 hm hn
  go_wp2
  exact bodyPost_ret (v := .agg #[.int .i64 3, .int .i64 0, .slice (some ⟨w2.heap.size, 0, none⟩) 1 1]) (by simp [results, Try.results170, go_sem, r0, r1, r2]) rfl hpost

set_option maxRecDepth 100000 in
set_option maxHeartbeats 8000000 in
theorem index_app (x y : Li) (k1 k2 : Ix) (w : World)
    (ih1 : ∀ (w' : World), Calls Try.prog (mIndexF x) #[ivL x] w' (IxOut k1 w'))
    (ih2 : ∀ (w' : World), Calls Try.prog (mIndexF y) #[ivL y] w' (IxOut k2 w')) :
    Calls Try.prog 175 #[.agg #[.iface (ityL x) (ivL x), .iface (ityL y) (ivL y)]] w (IxOut (.mk 4 0 [k1, k2]) w) := by
  have hm := askIndexL x
  have hn := enterIndexL x
  have hm2 := askIndexL y
  have hn2 := enterIndexL y
  generalize mIndexF x = F at hm hn ih1
  generalize mIndexF y = G at hm2 hn2 ih2
  generalize ityL x = T at hm ⊢
  generalize ivL x = V at ih1 ⊢
  generalize ityL y = T2 at hm2 ⊢
  generalize ivL y = V2 at ih2 ⊢
  have hb0 : Below w.heap.size w ((w.alloc (.cells #[.iface T V, .iface T2 V2] 109)).alloc (.cells #[.int .i64 0, .int .i64 0, .slice none 0 0] 42)) := ((Below.refl _ _).alloc (Nat.le_refl _) _).alloc (by simp) _
  have hdw : Below ((w.alloc (.cells #[.iface T V, .iface T2 V2] 109)).alloc (.cells #[.int .i64 0, .int .i64 0, .slice none 0 0] 42)).heap.size ((w.alloc (.cells #[.iface T V, .iface T2 V2] 109)).alloc (.cells #[.int .i64 0, .int .i64 0, .slice none 0 0] 42)) ((w.alloc (.cells #[.iface T V, .iface T2 V2] 109)).alloc (.cells #[.int .i64 0, .int .i64 0, .slice none 0 0] 42)).drew := ⟨rfl, rfl, rfl, Nat.le_refl _, fun _ _ => rfl⟩
  have hbd := hb0.trans (hdw.mono hb0.size)
  have hres : ((w.alloc (.cells #[.iface T V, .iface T2 V2] 109)).alloc (.cells #[.int .i64 0, .int .i64 0, .slice none 0 0] 42)).drew.heap[w.heap.size + 1]? = some (.cells #[.int .i64 0, .int .i64 0, .slice none 0 0] 42 (0, 0)) := secondI w (.cells #[.iface T V, .iface T2 V2] 109) #[.int .i64 0, .int .i64 0, .slice none 0 0] 42
  have hbox : ((w.alloc (.cells #[.iface T V, .iface T2 V2] 109)).alloc (.cells #[.int .i64 0, .int .i64 0, .slice none 0 0] 42)).drew.heap[w.heap.size]? = some (.cells #[.iface T V, .iface T2 V2] 109 (0, 0)) := (Below.heap_alloc (w.alloc (.cells #[.iface T V, .iface T2 V2] 109)) _ _ (by simp)).trans (heap_alloc_new w _)
  have hct := ih1 ((w.alloc (.cells #[.iface T V, .iface T2 V2] 109)).alloc (.cells #[.int .i64 0, .int .i64 0, .slice none 0 0] 42)).drew
  obtain ⟨r0, r1, r2⟩ := IxK.row3 hres
  have b0 : ((w.alloc (.cells #[.iface T V, .iface T2 V2] 109)).alloc (.cells #[.int .i64 0, .int .i64 0, .slice none 0 0] 42)).drew.cell? ⟨w.heap.size, 0, none⟩ = some (.iface T V) := by rw [cell_of_row _ _ _ _ _ _ hbox]; rfl
  have b1 : ((w.alloc (.cells #[.iface T V, .iface T2 V2] 109)).alloc (.cells #[.int .i64 0, .int .i64 0, .slice none 0 0] 42)).drew.cell? ⟨w.heap.size, 1, none⟩ = some (.iface T2 V2) := by rw [cell_of_row _ _ _ _ _ _ hbox]; rfl
  have z0 := frozen_of_row _ _ 0 _ _ hres
  have z1 := frozen_of_row _ _ 1 _ _ hres
  have z2 := frozen_of_row _ _ 2 _ _ hres
  have hsz1 : w.heap.size + 1 < ((w.alloc (.cells #[.iface T V, .iface T2 V2] 109)).alloc (.cells #[.int .i64 0, .int .i64 0, .slice none 0 0] 42)).drew.heap.size := by
    have := hdw.size
    rw [World.size_alloc, World.size_alloc] at this
    omega
  have hsz : w.heap.size < ((w.alloc (.cells #[.iface T V, .iface T2 V2] 109)).alloc (.cells #[.int .i64 0, .int .i64 0, .slice none 0 0] 42)).drew.heap.size := by omega
  have HB := Lib.hid hbd
  clear ih1 hres hbox hb0 hdw hbd
  go_enter Try.func175, Try.ntmps175
  go_wp2
  go_region_held3 (fun w' => w'.cell? ⟨w.heap.size, 0, none⟩ = some (.iface T V) ∧ w'.cell? ⟨w.heap.size, 1, none⟩ = some (.iface T2 V2))
    (first | ((try dsimp only); (with_reducible exact ⟨by assumption, by assumption⟩)) | go_keep)
    (first
      | ((with_reducible refine hct.mono ?_); rintro e w2 ⟨A1, c1, S1, rfl, hS1, hS1b, hb2⟩; have hsz2 := Nat.lt_of_lt_of_le hsz hb2.size; have hsz1q := Nat.lt_of_lt_of_le hsz1 hb2.size; have b0q := (hb2.cell (p := ⟨w.heap.size, 0, none⟩) hsz).trans b0; have b1q := (hb2.cell (p := ⟨w.heap.size, 1, none⟩) hsz).trans b1; have r0q := (hb2.cell (p := ⟨w.heap.size + 1, 0, none⟩) hsz1).trans r0; have r1q := (hb2.cell (p := ⟨w.heap.size + 1, 1, none⟩) hsz1).trans r1; have r2q := (hb2.cell (p := ⟨w.heap.size + 1, 2, none⟩) hsz1).trans r2; have z0q := (hb2.frozen (p := ⟨w.heap.size + 1, 0, none⟩) hsz1).trans z0; have z1q := (hb2.frozen (p := ⟨w.heap.size + 1, 1, none⟩) hsz1).trans z1; have z2q := (hb2.frozen (p := ⟨w.heap.size + 1, 2, none⟩) hsz1).trans z2; have hct2 := ih2 w2)
      | ((with_reducible refine hct2.mono ?_); rintro e w3 ⟨A2, c2, S2, rfl, hS2, hS2b, hb3⟩; have hlt3 := Nat.lt_of_lt_of_le hsz1q hb3.size; have hne3 : w.heap.size + 1 ≠ w3.heap.size := Nat.ne_of_lt hlt3; have hne4 : w.heap.size ≠ w3.heap.size := Nat.ne_of_lt (Nat.lt_of_succ_lt hlt3); have b0s := (hb3.cell (p := ⟨w.heap.size, 0, none⟩) hsz2).trans b0q; have b1s := (hb3.cell (p := ⟨w.heap.size, 1, none⟩) hsz2).trans b1q; have r0s := (hb3.cell (p := ⟨w.heap.size + 1, 0, none⟩) hsz1q).trans r0q; have r1s := (hb3.cell (p := ⟨w.heap.size + 1, 1, none⟩) hsz1q).trans r1q; have r2s := (hb3.cell (p := ⟨w.heap.size + 1, 2, none⟩) hsz1q).trans r2q; have z0s := (hb3.frozen (p := ⟨w.heap.size + 1, 0, none⟩) hsz1q).trans z0q; have z1s := (hb3.frozen (p := ⟨w.heap.size + 1, 1, none⟩) hsz1q).trans z1q; have z2s := (hb3.frozen (p := ⟨w.heap.size + 1, 2, none⟩) hsz1q).trans z2q)
      | fail)
  have hs1 := HB.out.size
  have hs2 := hb2.size
  have hs3 := hb3.size
  have hpost : IxOut (.mk 4 0 [k1, k2]) w (.returned (.agg #[.int .i64 4, .int .i64 0, .slice (some ⟨w3.heap.size, 0, none⟩) 2 2])) ((((w3.setCell ⟨w.heap.size + 1, 0, none⟩ (.int .i64 4)).setCell ⟨w.heap.size + 1, 1, none⟩ (.int .i64 0)).setCell ⟨w.heap.size + 1, 2, none⟩ (.slice (some ⟨w3.heap.size, 0, none⟩) 2 2)).alloc (.cells #[.int .i64 k1.op, .int .i64 k1.num, .slice A1 k1.kids.length c1, .int .i64 k2.op, .int .i64 k2.num, .slice A2 k2.kids.length c2] 42)) := by
    have hS1l : ∀ b ∈ S1, b < w2.heap.size := fun b hb => hS1.lt b hb
    have hS2l : ∀ b ∈ S2, b < w3.heap.size := fun b hb => hS2.lt b hb
    have hS13 := hS1.alike (w' := w3) (fun b hb => hb3.block b (hS1l b hb))
    have hd : ∀ b ∈ S1, b ∉ S2 := fun b h1 h2 => by have h3 := hS1l b h1; have h4 := hS2b b h2; omega
    have hS12 := hS13.append hS2 hd
    have hSb : ∀ b ∈ S1 ++ S2, w.heap.size + 2 ≤ b ∧ b < w3.heap.size := fun b hb => by
      rcases List.mem_append.1 hb with h | h
      · have h1 := hS1b b h; have h2 := hS1l b h
        constructor
        · have h5 : w.heap.size + 2 ≤ ((w.alloc (.cells #[.iface T V, .iface T2 V2] 109)).alloc (.cells #[.int .i64 0, .int .i64 0, .slice none 0 0] 42)).drew.heap.size := by omega
          omega
        · omega
      · have h1 := hS2b b h; have h2 := hS2l b h
        constructor <;> omega
    have hL4 := set3_own hS12 (R := w.heap.size + 1) (fun b hb => by have := (hSb b hb).1; omega) (.int .i64 4) (.int .i64 0) (.slice (some ⟨w3.heap.size, 0, none⟩) 2 2)
    have hsz4 : (((w3.setCell ⟨w.heap.size + 1, 0, none⟩ (.int .i64 4)).setCell ⟨w.heap.size + 1, 1, none⟩ (.int .i64 0)).setCell ⟨w.heap.size + 1, 2, none⟩ (.slice (some ⟨w3.heap.size, 0, none⟩) 2 2)).heap.size = w3.heap.size := by simp
    have hL5 := hL4.alike (w' := ((((w3.setCell ⟨w.heap.size + 1, 0, none⟩ (.int .i64 4)).setCell ⟨w.heap.size + 1, 1, none⟩ (.int .i64 0)).setCell ⟨w.heap.size + 1, 2, none⟩ (.slice (some ⟨w3.heap.size, 0, none⟩) 2 2)).alloc (.cells #[.int .i64 k1.op, .int .i64 k1.num, .slice A1 k1.kids.length c1, .int .i64 k2.op, .int .i64 k2.num, .slice A2 k2.kids.length c2] 42))) (fun b hb => Below.heap_alloc _ _ _ (by rw [hsz4]; exact (hSb b hb).2))
    have h9 := World.ownsRow_lit (base := 0) (e := 42) (size := 3) (((w3.setCell ⟨w.heap.size + 1, 0, none⟩ (.int .i64 4)).setCell ⟨w.heap.size + 1, 1, none⟩ (.int .i64 0)).setCell ⟨w.heap.size + 1, 2, none⟩ (.slice (some ⟨w3.heap.size, 0, none⟩) 2 2)) #[.int .i64 k1.op, .int .i64 k1.num, .slice A1 k1.kids.length c1, .int .i64 k2.op, .int .i64 k2.num, .slice A2 k2.kids.length c2] 2 (Nat.zero_le _) (by decide) rfl
    rw [hsz4] at h9
    have hk4 := own_of_ixs (ts := [k1, k2]) rfl h9 (by rw [encIxs, encIxs, encIxs, List.append_nil]; exact hL5) (fun hm => by have := (hSb _ hm).2; omega)
    have hL := ownL_ix (t := .mk 4 0 [k1, k2]) hk4
    have hbel := set3_below (HB.out.trans ((hb2.trans (hb3.mono hs2)).mono hs1)) (show w.heap.size ≤ w.heap.size + 1 by omega) (.int .i64 4) (.int .i64 0) (.slice (some ⟨w3.heap.size, 0, none⟩) 2 2)
    refine ⟨_, _, _, rfl, hL, fun b hb => ?_, hbel.alloc hbel.size _⟩
    simp only [List.append_nil, List.mem_cons] at hb
    rcases hb with rfl | hb
    · omega
    · have := (hSb b hb).1; omega
  have hsz4 : (((w3.setCell ⟨w.heap.size + 1, 0, none⟩ (.int .i64 4)).setCell ⟨w.heap.size + 1, 1, none⟩ (.int .i64 0)).setCell ⟨w.heap.size + 1, 2, none⟩ (.slice (some ⟨w3.heap.size, 0, none⟩) 2 2)).heap.size = w3.heap.size := by simp
  have hbx : Below (((w3.setCell ⟨w.heap.size + 1, 0, none⟩ (.int .i64 4)).setCell ⟨w.heap.size + 1, 1, none⟩ (.int .i64 0)).setCell ⟨w.heap.size + 1, 2, none⟩ (.slice (some ⟨w3.heap.size, 0, none⟩) 2 2)).heap.size (((w3.setCell ⟨w.heap.size + 1, 0, none⟩ (.int .i64 4)).setCell ⟨w.heap.size + 1, 1, none⟩ (.int .i64 0)).setCell ⟨w.heap.size + 1, 2, none⟩ (.slice (some ⟨w3.heap.size, 0, none⟩) 2 2)) ((((w3.setCell ⟨w.heap.size + 1, 0, none⟩ (.int .i64 4)).setCell ⟨w.heap.size + 1, 1, none⟩ (.int .i64 0)).setCell ⟨w.heap.size + 1, 2, none⟩ (.slice (some ⟨w3.heap.size, 0, none⟩) 2 2)).alloc (.cells #[.int .i64 k1.op, .int .i64 k1.num, .slice A1 k1.kids.length c1, .int .i64 k2.op, .int .i64 k2.num, .slice A2 k2.kids.length c2] 42)) := (Below.refl _ _).alloc (Nat.le_refl _) _
  have f0 : ((((w3.setCell ⟨w.heap.size + 1, 0, none⟩ (.int .i64 4)).setCell ⟨w.heap.size + 1, 1, none⟩ (.int .i64 0)).setCell ⟨w.heap.size + 1, 2, none⟩ (.slice (some ⟨w3.heap.size, 0, none⟩) 2 2)).alloc (.cells #[.int .i64 k1.op, .int .i64 k1.num, .slice A1 k1.kids.length c1, .int .i64 k2.op, .int .i64 k2.num, .slice A2 k2.kids.length c2] 42)).cell? ⟨w.heap.size + 1, 0, none⟩ = some (.int .i64 4) := (hbx.cell (p := ⟨w.heap.size + 1, 0, none⟩) (by rw [hsz4]; exact hlt3)).trans (by simp [go_sem, r0s])
  have f1 : ((((w3.setCell ⟨w.heap.size + 1, 0, none⟩ (.int .i64 4)).setCell ⟨w.heap.size + 1, 1, none⟩ (.int .i64 0)).setCell ⟨w.heap.size + 1, 2, none⟩ (.slice (some ⟨w3.heap.size, 0, none⟩) 2 2)).alloc (.cells #[.int .i64 k1.op, .int .i64 k1.num, .slice A1 k1.kids.length c1, .int .i64 k2.op, .int .i64 k2.num, .slice A2 k2.kids.length c2] 42)).cell? ⟨w.heap.size + 1, 1, none⟩ = some (.int .i64 0) := (hbx.cell (p := ⟨w.heap.size + 1, 1, none⟩) (by rw [hsz4]; exact hlt3)).trans (by simp [go_sem, r1s])
  have f2 : ((((w3.setCell ⟨w.heap.size + 1, 0, none⟩ (.int .i64 4)).setCell ⟨w.heap.size + 1, 1, none⟩ (.int .i64 0)).setCell ⟨w.heap.size + 1, 2, none⟩ (.slice (some ⟨w3.heap.size, 0, none⟩) 2 2)).alloc (.cells #[.int .i64 k1.op, .int .i64 k1.num, .slice A1 k1.kids.length c1, .int .i64 k2.op, .int .i64 k2.num, .slice A2 k2.kids.length c2] 42)).cell? ⟨w.heap.size + 1, 2, none⟩ = some (.slice (some ⟨w3.heap.size, 0, none⟩) 2 2) := (hbx.cell (p := ⟨w.heap.size + 1, 2, none⟩) (by rw [hsz4]; exact hlt3)).trans (by simp [go_sem, r2s])
  clear hsz4 hbx hS1 hS1b hS2 hS2b hb2 hb3 HB hs1 hs2 hs3 hm hn hm2 hn2 hct hct2 ih2 b0 b1 r0 r1 r2 z0 z1 z2 b0q b1q r0q r1q r2q z0q z1q z2q
  go_wp2
  exact bodyPost_ret (v := .agg #[.int .i64 4, .int .i64 0, .slice (some ⟨w3.heap.size, 0, none⟩) 2 2]) (by simp [results, Try.results175, go_sem, f0, f1, f2]) rfl hpost

/-- An index term, and a flag, in memory of the call's own. -/
def IxBPost (r : Ix) (b : Bool) (w : World) (e : Ending) (w' : World) : Prop :=
  ∃ B d S, e = .returned (.tuple #[.agg #[.int .i64 r.op, .int .i64 r.num, .slice B r.kids.length d], .bool b]) ∧
    OwnL w' S [.int .i64 r.op, .int .i64 r.num, .slice B r.kids.length d] (encIx r) ∧ (∀ b ∈ S, w.heap.size ≤ b) ∧ Below w.heap.size w w'
theorem index_any : ∀ (l : Li) (w : World), Calls Try.prog (mIndexF l) #[ivL l] w (IxOut (liIx l) w)
  | .bnd n, w => index_bnd n w
  | .free n, w => index_free n w
  | .fn x, w => index_fn x (liIx x) w (fun w' => index_any x w')
  | .app x y, w => index_app x y (liIx x) (liIx y) w (fun w' => index_any x w') (fun w' => index_any y w')
end Go.Proofs.Ytihijigbdpjcoaa
