/-
  All plain words of a length, in the program, as a contract. CountWords in the program, as a contract.
-/
import Derived.Test.YthacnbeckhdhiaaKComplement15
import Derived.Test.YthacnbeckhdhiaaKComplement12
import Derived.Test.YthacnbeckhdhiaaKComplement14
import Derived.Test.YthacnbeckhdhiaaKComplement18
import Derived.Test.YthacnbeckhdhiaaKComplement11
section
namespace Go.Proofs.Ythacnbeckhdhiaa
open Go.RowKit Go.Sort
set_option linter.unusedVariables false

theorem pw_all : ∀ L : Nat, plainW L = allP L 0
  | 0 => rfl
  | L + 1 => by rw [plainW, allP, pw_all L]; rfl
theorem pw_next (L : Nat) : plainW (L + 1) = (plainW L).flatMap (extP 0) := rfl
theorem pw_row {L i : Nat} (hi : i < (plainW L).length) : (rwAt (plainW L) i).length = L ∧ isPatB 0 (rwAt (plainW L) i) = true := by
  rw [pw_all] at hi ⊢
  exact allP_row (by omega) hi
theorem pw_len {L : Nat} (h : L ≤ 5) : (plainW L).length ≤ 30000 := by
  by_cases h4 : L ≤ 4
  · have := allP_4096 (k := 0) (by omega) (by omega) h4
    rw [pw_all]
    omega
  · have e : L = 4 + 1 := by omega
    subst e
    have h1 := allP_4096 (k := 0) (w := 4) (by omega) (by omega) (by omega)
    have h2 := flat_len (f := extP 0) (B := 6) (l := allP 4 0) fun a ha => by
      obtain ⟨e1, e2⟩ := (mem_allP (k := 0) (by omega)).1 ha
      have := newN_pat e2
      rw [extP_len]
      omega
    rw [pw_all]
    show ((allP 4 0).flatMap (extP 0)).length ≤ _
    omega
theorem pw_one (w : World) : Own ((w.alloc (.cells #[] 3)).alloc (.cells #[.slice (some ⟨w.heap.size, 0, none⟩) 0 0] 30)) [w.heap.size + 1, w.heap.size] (.slice (some ⟨w.heap.size + 1, 0, none⟩) 1 1) (rowsMem [[]]) := by
  have h1 : (w.alloc (.cells #[] 3)).ownsRow 0 3 1 (.slice (some ⟨w.heap.size, 0, none⟩) 0 0) 0 [] := World.ownsRow_lit w #[] 0 (Nat.zero_le _) (by decide) rfl
  have h2 := World.ownsRow_lit (w.alloc (.cells #[] 3)) (e := 30) (size := 1) (base := 0) #[.slice (some ⟨w.heap.size, 0, none⟩) 0 0] 1 (Nat.zero_le _) (by decide) rfl
  rw [World.size_alloc] at h2
  have h3 : Own (w.alloc (.cells #[] 3)) [w.heap.size] (.slice (some ⟨w.heap.size, 0, none⟩) 0 0) (intMem []) := .row rfl h1 .nil (by simp)
  have h4 := h3.keep ((Below.refl _ _).alloc (Nat.le_refl _) (.cells #[.slice (some ⟨w.heap.size, 0, none⟩) 0 0] 30))
  exact .row (S := [w.heap.size] ++ []) rfl h2 (.cons h4 .nil (fun b _ hb => by simp at hb)) (by simp)
theorem pw_lit0 (w : World) : Own (w.alloc (.cells #[] 30)) [w.heap.size] (.slice (some ⟨w.heap.size, 0, none⟩) 0 0) (rowsMem []) :=
  .row rfl (World.ownsRow_lit w #[] 0 (Nat.zero_le _) (by decide) rfl) .nil (by simp)
theorem pw_cat {w : World} {A B : Option Addr} {a b : Nat} {x y : List Int} {T : TypeId} (hA : IntsAt w A x) (hB : IntsAt w B y) (ha : A = none → a = 0) (hb : B = none → b = 0) :
    CatAt (w.alloc (.cells #[.slice A x.length a, .slice B y.length b] T)) (some ⟨w.heap.size, 0, none⟩) [x, y] := by
  intro _
  have hbe : Below w.heap.size w (w.alloc (.cells #[.slice A x.length a, .slice B y.length b] T)) := (Below.refl _ _).alloc (Nat.le_refl _) _
  have hk := heap_alloc_new w (.cells #[.slice A x.length a, .slice B y.length b] T)
  refine ⟨w.heap.size, 0, rfl, by simp, fun i hi => ?_⟩
  rcases i with _ | _ | i
  · exact ⟨A, a, by rw [cell_of_row _ _ _ _ _ _ hk]; rfl, hA.below hbe, ha⟩
  · exact ⟨B, b, by rw [cell_of_row _ _ _ _ _ _ hk]; rfl, hB.below hbe, hb⟩
  · simp at hi; omega
theorem pw_catOne {w : World} {A : Option Addr} {a : Nat} {x : List Int} {q : Int} (hA : IntsAt w A x) (ha : A = none → a = 0) :
    CatAt ((w.alloc (.cells #[.int .i64 q] 3)).alloc (.cells #[.slice A x.length a, .slice (some ⟨w.heap.size, 0, none⟩) 1 1] 30)) (some ⟨w.heap.size + 1, 0, none⟩) [x, [q]] := by
  have hbe : Below w.heap.size w (w.alloc (.cells #[.int .i64 q] 3)) := (Below.refl _ _).alloc (Nat.le_refl _) _
  have h1 : IntsAt (w.alloc (.cells #[.int .i64 q] 3)) (some ⟨w.heap.size, 0, none⟩) [q] := fun _ => ⟨w.heap.size, 0, rfl, by simp, fun i hi => by
    have e : i = 0 := by simp at hi; exact hi
    subst e
    simp [itAt]⟩
  have h2 := pw_cat (T := 30) (b := 1) (hA.below hbe) h1 ha (fun h => by cases h)
  rw [World.size_alloc] at h2
  exact h2

set_option maxRecDepth 100000 in
set_option maxHeartbeats 8000000 in
theorem plainWords_any (L : Nat) (hL : L ≤ 5) (w : World) : Calls Try.prog 20 #[.int .i64 L] w (RowsOut (plainW L) w) := by
  have ho1 := pw_one w
  have hb1 : Below w.heap.size w ((w.alloc (.cells #[] 3)).alloc (.cells #[.slice (some ⟨w.heap.size, 0, none⟩) 0 0] 30)) := ((Below.refl _ _).alloc (Nat.le_refl _) _).alloc (by simp) _
  go_enter Try.func20, Try.ntmps20
  go_wp2
  go_loopw [3, 4, 6, 7, 11] (fun v3 _ _ _ i wr => ∃ (k : Nat) (T : List Nat), k ≤ L ∧ i = .int .i64 k ∧ Own wr T v3 (rowsMem (plainW k)) ∧ (∀ b ∈ T, w.heap.size ≤ b) ∧ Below w.heap.size w wr) (fun _ _ _ _ i _ => L - (intOf i).toNat)
  case atStart => exact ⟨0, _, Nat.zero_le _, rfl, ho1, fun b hb => by simp at hb; omega, hb1⟩
  case round =>
    clear ho1 hb1
    obtain ⟨k, T, hk, rfl, hT, hTb, hb⟩ := hrel
    by_cases hlt : k < L
    · obtain ⟨A, c, rfl⟩ := RowsIn.form (ls := plainW k) hT.at_
      have hPl := pw_len (show k ≤ 5 by omega)
      have hFl := pw_len (show k + 1 ≤ 5 by omega)
      have HRW := Lib.hid (fun i (hi : i < (plainW k).length) => pw_row hi)
      have HP := Lib.hid (pw_next k)
      rw [HP.out] at hFl
      generalize plainW k = P at hT hPl hFl HRW HP
      have ho2 := pw_lit0 wr
      have hbx : Below wr.heap.size wr (wr.alloc (.cells #[] 30)) := (Below.refl _ _).alloc (Nat.le_refl _) _
      have hT2 := hT.keep hbx
      have hTl : ∀ b ∈ T, b < wr.heap.size := fun b hb => hT.lt b hb
      have hb2 := hb.trans (hbx.mono hb.size)
      have hsw := hb.size
      clear hT hb hbx
      go_wp2
      go_loopw [4, 6, 7, 16] (fun v4 _ _ i wr => ∃ (j : Nat) (U : List Nat), j ≤ P.length ∧ i = .int .i64 j ∧ Own wr U v4 (rowsMem ((P.take j).flatMap (extP 0))) ∧ Own wr T (.slice A P.length c) (rowsMem P) ∧ (∀ b ∈ U, w.heap.size ≤ b ∧ b ∉ T) ∧ Below w.heap.size w wr) (fun _ _ _ i _ => P.length - (intOf i).toNat)
      case atStart => exact ⟨0, _, Nat.zero_le _, rfl, ho2, hT2, fun b hb => by simp at hb; subst hb; exact ⟨hsw, fun h => by have := hTl _ h; omega⟩, hb2⟩
      case round =>
        clear ho2 hT2 hb2 hTl hsw
        obtain ⟨j, U, hj, rfl, hoU, hT, hUT, hb⟩ := hrel
        by_cases hlj : j < P.length
        · obtain ⟨b1, o1, A1, c1, T1, rfl, hb1, d1, ⟨hA1, hz1'⟩, hT1, hs1⟩ := own_rowAt hT hlj
          obtain ⟨hpl, hpp⟩ := HRW.out j hlj
          have hpl4 : (rwAt P j).length ≤ 5 := by omega
          have HFN := Lib.hid (flat_next (k := 0) hlj)
          have hft := flat_take_len (k := 0) P (j + 1)
          rw [HFN.out, List.length_append, extP_len] at hft
          have hnb := newN_pat hpp
          have hng := newN_ge 0 (rwAt P j)
          have HEA := Lib.hid (extTo_all 0 (rwAt P j))
          have hnn := newNumber_any A1 c1 (rwAt P j) 0 wr hA1 (by omega) (by omega) (by omega) (fun i hi => by
            have h1 := isPat_at hpp hi
            have h2 := newN_le (k := 0) (p := rwAt P j) (i := i) (by omega) (fun q hq => (isPat_at hpp (by omega)).2)
            omega)
          clear hpl hpp
          generalize rwAt P j = p at *
          generalize (P.take j).flatMap (extP 0) = D at *
          generalize newN 0 p = mm at *
          go_wp2_with (go_at_call 29; refine hnn.mono ?_; rintro e w2 ⟨rfl, rfl⟩)
          clear hnn
          go_loopw [4, 7, 23] (fun v4 _ i wr => ∃ (q : Nat) (U2 : List Nat), (q : Int) ≤ mm + 1 ∧ i = .int .i64 q ∧ Own wr U2 v4 (rowsMem (D ++ extTo p q)) ∧ Own wr T (.slice (some ⟨b1, o1, none⟩) P.length c) (rowsMem P) ∧ Own wr T1 (.slice A1 p.length c1) (intMem p) ∧ (∀ b ∈ U2, w.heap.size ≤ b ∧ b ∉ T) ∧ Below w.heap.size w wr) (fun _ _ i _ => (mm + 1).toNat - (intOf i).toNat)
          case atStart => exact ⟨0, U, by omega, rfl, by simpa [extTo] using hoU, hT, hT1, hUT, hb⟩
          case round =>
            clear hoU hT hT1 hUT hb d1 hA1 hz1'
            obtain ⟨q, U2, hq, rfl, hoU, hT, hT1, hUT, hb⟩ := hrel
            by_cases hlq : (q : Int) ≤ mm
            · obtain ⟨A9, c9, e9, hA9, hz9⟩ := own_intSlice hT1
              injection e9 with e91 _ e93
              subst e91; subst e93
              have hca := pw_catOne (q := (q : Int)) hA9 hz9
              have hcc := concat_any _ 2 _ _ hca (by simp) (by simp [sumR]; omega)
              have hfl : [p, [(q : Int)]].flatten = p ++ [(q : Int)] := by simp
              rw [hfl] at hcc
              have hbA : Below wr.heap.size wr ((wr.alloc (.cells #[.int .i64 (q : Int)] 3)).alloc (.cells #[.slice A1 p.length c1, .slice (some ⟨wr.heap.size, 0, none⟩) 1 1] 30)) := ((Below.refl _ _).alloc (Nat.le_refl _) _).alloc (by simp) _
              have hel := Lib.hid (extTo_len p q)
              have hen := Lib.hid (extTo_next p q)
              have hdl : (D ++ extTo p q).length + 1 ≤ 16777216 := by rw [List.length_append, hel.out]; omega
              have hsb := hb.size
              have HBA := Lib.hid hbA
              clear hA9 hz9 hca hfl hbA
              go_wp2_with fail
              refine hcc.mono ?_
              rintro e w8 ⟨v8, rfl, ho8, hb8'⟩
              have hb8 : Below wr.heap.size wr w8 := HBA.out.trans (hb8'.mono HBA.out.size)
              obtain ⟨R, hR, hRb', hRe⟩ := own_intRow ho8
              have hRb : ∀ b ∈ R, wr.heap.size ≤ b := fun b h => Nat.le_trans HBA.out.size (hRb' b h)
              obtain ⟨A8, c8, rfl, _⟩ := own_intSlice hR
              clear hRe hRb' hb8' hcc ho8 HBA
              generalize p ++ [(q : Int)] = pq at *
              have hbx0 := hb8.size
              have hbx : Below w8.heap.size w8 (w8.alloc (.cells #[.slice A8 pq.length c8] 30)) := (Below.refl _ _).alloc (Nat.le_refl _) _
              have hb9 := hb8.trans (hbx.mono hb8.size)
              have hR9 := hR.keep hbx
              have hU9 := hoU.keep hb9
              have hT9 := hT.keep hb9
              have hT19 := hT1.keep hb9
              have hbw9 := hb.trans (hb9.mono hb.size)
              have hs9 := hbw9.size
              have hcell : (w8.alloc (.cells #[.slice A8 pq.length c8] 30)).cell? ⟨w8.heap.size, 0, none⟩ = some (.slice A8 pq.length c8) := by simp
              have HC9 := Lib.hid (one_cell hcell)
              have hUl : ∀ b ∈ U2, b < wr.heap.size := fun b hb => hoU.lt b hb
              have hTl : ∀ b ∈ T, b < wr.heap.size := fun b hb => hT.lt b hb
              have hdis : ∀ b ∈ U2, b ∉ R := fun b h1 h2 => by have := hUl b h1; have := hRb b h2; omega
              have hs8 := hb8.size
              clear hcell hbx hoU hT hT1 hb9 hb8 hR
              go_wp2_with (at_builtin; refine wpList_append_rows rfl (.tmp 26) (.tmp 32) rfl _ U2 _ rfl hU9 ⟨w8.heap.size, 0, none⟩ _ _ R rfl HC9.out hR9 hdis hdl ?_)
              intro g2 cap2 U3 w10 hU10 hU3 hon
              have hT10 := hT9.alike (w' := w10) fun b hbb => hon.block b (hT9.lt b hbb) (fun h => (hUT b h).2 hbb)
              have hT110 := hT19.alike (w' := w10) fun b hbb => hon.block b (hT19.lt b hbb) (fun h => (hUT b h).2 (hs1 b hbb))
              have hb10 := Only.below hbw9 hon hs9 (fun b h => (hUT b h).1)
              have hUT3 : ∀ b ∈ U3, w.heap.size ≤ b ∧ b ∉ T := fun b h => by
                rcases hU3 b h with h1 | h1 | h1
                · exact hUT b h1
                · have h2 := hRb b h1
                  exact ⟨by omega, fun h3 => by have := hTl b h3; omega⟩
                · have h1' : b = w8.heap.size + 1 := by simpa using h1
                  exact ⟨by omega, fun h3 => by have := hTl b h3; omega⟩
              have hlen : Hid ((D ++ extTo p q).length + 1 = (D ++ extTo p (q + 1)).length) := Lib.hid (by rw [List.length_append, List.length_append, hel.out, extTo_len]; omega)
              rw [← hen.out] at hU10
              clear hU9 hT9 hT19 hbw9 hon hU3 hUT hRb hR9 hdis HC9 hen hUl hTl
              go_wp2
              refine ⟨⟨q + 1, U3, by omega, by go_num, hU10, hT10, hT110, hUT3, hb10⟩, ?_⟩
              simp only [intOf]
              omega
            · have e : q = (mm + 1).toNat := by omega
              subst e
              rw [HEA.out, ← HFN.out] at hoU
              clear hT1 HEA HFN
              go_wp2
              refine ⟨⟨j + 1, U2, by omega, by go_num, hoU, hT, hUT, hb⟩, ?_⟩
              simp only [intOf]
              omega
        · have e : j = P.length := by omega
          subst e
          rw [List.take_length, ← HP.out] at hoU
          clear hT HP HRW
          go_wp2
          refine ⟨⟨k + 1, U, by omega, by go_num, hoU, fun b h => (hUT b h).1, hb⟩, ?_⟩
          simp only [intOf]
          omega
    · have e : k = L := by omega
      subst e
      have hpost : RowsOut (plainW k) w (.returned u3) wr := ⟨_, T, rfl, hT, hTb, hb⟩
      clear hT hTb hb
      go_wp2
      go_ret
      exact hpost
end Go.Proofs.Ythacnbeckhdhiaa
end

section
namespace Go.Proofs.Ythacnbeckhdhiaa
open Go.RowKit Go.Sort
set_option linter.unusedVariables false
theorem pw_step (L : Nat) : (plainW (L + 1)).length ≤ (plainW L).length * (L + 1) := by
  rw [pw_next]
  refine flat_len fun a ha => ?_
  rw [pw_all] at ha
  obtain ⟨e1, e2⟩ := (mem_allP (k := 0) (by omega)).1 ha
  have := newN_pat e2
  rw [extP_len]
  omega
theorem pw_120 {L : Nat} (h : L ≤ 5) : (plainW L).length ≤ 120 := by
  have h0 : (plainW 0).length = 1 := rfl
  have h1 : (plainW 1).length ≤ (plainW 0).length * 1 := pw_step 0
  have h2 : (plainW 2).length ≤ (plainW 1).length * 2 := pw_step 1
  have h3 : (plainW 3).length ≤ (plainW 2).length * 3 := pw_step 2
  have h4 : (plainW 4).length ≤ (plainW 3).length * 4 := pw_step 3
  have h5 : (plainW 5).length ≤ (plainW 4).length * 5 := pw_step 4
  have hc : L = 0 ∨ L = 1 ∨ L = 2 ∨ L = 3 ∨ L = 4 ∨ L = 5 := by omega
  rcases hc with rfl | rfl | rfl | rfl | rfl | rfl
  all_goals omega
theorem valW_ok (t : Mach) {n : Int} (h0 : 0 ≤ n) (h9 : n ≤ 9) {L : Nat} (hL : L ≤ 5) {p : List Int} (hp : p ∈ plainW L) : 0 ≤ valW t n p ∧ valW t n p ≤ 1000000000000000 := by
  rw [pw_all] at hp
  obtain ⟨e1, e2⟩ := (mem_allP (k := 0) (by omega)).1 hp
  have := newN_pat e2
  have h1 := prodN_small5 (n := n) (k := 0) (by omega) h0 (by omega) (j := (newN 0 p - 0).toNat) (by omega)
  unfold valW
  split
  · exact h1
  · omega
def parW (t : Mach) (n : Int) (P : List (List Int)) (k : Nat) : Int := sumI ((P.take k).map (valW t n))
theorem parW_next (t : Mach) (n : Int) {P : List (List Int)} {k : Nat} (h : k < P.length) : parW t n P (k + 1) = parW t n P k + valW t n (rwAt P k) := by
  unfold parW
  rw [rw_take_next h, List.map_append, sumI_append]
  show _ + (_ + 0) = _
  omega
theorem parW_bound (t : Mach) {n : Int} (h0 : 0 ≤ n) (h9 : n ≤ 9) {L : Nat} (hL : L ≤ 5) (k : Nat) : 0 ≤ parW t n (plainW L) k ∧ parW t n (plainW L) k ≤ 120000000000000000 := by
  have hb := sumI_bound (f := valW t n) (l := (plainW L).take k) (B := 1000000000000000) fun x hx => valW_ok t h0 h9 hL (List.mem_of_mem_take hx)
  have hl := pw_120 hL
  have h2 : ((plainW L).take k).length ≤ (plainW L).length := by rw [List.length_take]; omega
  unfold parW
  generalize ((plainW L).take k).length = z at *
  omega
theorem parW_all (t : Mach) (n : Int) (L : Nat) : parW t n (plainW L) (plainW L).length = cntP t n L := by
  unfold parW cntP
  rw [List.take_length]

set_option maxRecDepth 100000 in
set_option maxHeartbeats 4000000 in
theorem countWords_impl (t : Mach) (hf : FitM t) (l n : Int) (x : Value) (w : World) (hx : MachIx w x t) :
    Calls Try.prog 10 #[x, .int .i64 l, .int .i64 n] w fun e w' => e = .returned (.int .i64 (cwR t l n)) ∧ Below w.heap.size w w' := by
  have hX := Lib.hid hx
  obtain ⟨A, c, B, d, rfl, hbools, hrest⟩ := hx
  obtain ⟨W, hW⟩ : ∃ W, W = w.alloc (.cells #[.int .i64 t.st, .int .i64 t.rg, .slice A t.ac.length c, .slice B t.mv.length d] 27) := ⟨_, rfl⟩
  have hbW : Below w.heap.size w W := by rw [hW]; exact (Below.refl _ _).alloc (Nat.le_refl _) _
  have hkW : W.heap[w.heap.size]? = some (.cells #[.int .i64 t.st, .int .i64 t.rg, .slice A t.ac.length c, .slice B t.mv.length d] 27) := by rw [hW]; exact heap_alloc_new w _
  obtain ⟨d0, d1, d2, d3⟩ := MachK.row4 hkW
  have hlt0 : w.heap.size < W.heap.size := MachK.box_lt hkW
  have HCC : Hid (∀ w' : World, Below W.heap.size W w' → w'.cell? ⟨w.heap.size, 0, none⟩ = some (.int .i64 t.st) ∧ w'.cell? ⟨w.heap.size, 1, none⟩ = some (.int .i64 t.rg) ∧ w'.cell? ⟨w.heap.size, 2, none⟩ = some (.slice A t.ac.length c) ∧ w'.cell? ⟨w.heap.size, 3, none⟩ = some (.slice B t.mv.length d)) :=
    Lib.hid fun w' h => ⟨(h.cell (p := ⟨w.heap.size, 0, none⟩) hlt0).trans d0, (h.cell (p := ⟨w.heap.size, 1, none⟩) hlt0).trans d1, (h.cell (p := ⟨w.heap.size, 2, none⟩) hlt0).trans d2, (h.cell (p := ⟨w.heap.size, 3, none⟩) hlt0).trans d3⟩
  have HW := Lib.hid hW
  have HBW := Lib.hid hbW
  clear hkW hW
  have hm := isMachine_impl t (by unfold FitM at hf; omega) _ W (hX.out.below hbW).in_
  have HAO := Lib.hid (fun (g : Good t) (A0 : Option Addr) (c0 : Nat) (p : List Int) (hp : p.length ≤ 1000) (W' : World) (h : Below W.heap.size W W') (hA : IntsAt W' A0 p) => acceptsOver_any t g _ A0 c0 p W' (hX.out.below (HBW.out.trans (h.mono HBW.out.size))) hA hp)
  clear hbW hbools hrest
  by_cases hmb : machB t = true
  case neg =>
    have hmb : machB t = false := by simpa using hmb
    rw [cwR_no (by simp [cwB, hmb])]
    rw [hmb] at hm
    go_enter Try.func10, Try.ntmps10
    go_wp2_with fail
    rw [← HW.out]
    (with_reducible refine hm.mono ?_)
    rintro e w1 ⟨rfl, hb1⟩
    have hbz := HBW.out.trans (hb1.mono HBW.out.size)
    clear hm d0 d1 d2 d3
    go_wp2
    go_ret
    exact ⟨rfl, hbz⟩
  by_cases hl0 : l < 0
  case pos =>
    rw [cwR_no (by simp [cwB, show ¬ 0 ≤ l by omega])]
    rw [hmb] at hm
    go_enter Try.func10, Try.ntmps10
    go_wp2_with fail
    rw [← HW.out]
    (with_reducible refine hm.mono ?_)
    rintro e w1 ⟨rfl, hb1⟩
    have hbz := HBW.out.trans (hb1.mono HBW.out.size)
    clear hm d0 d1 d2 d3
    go_wp2
    go_ret
    exact ⟨rfl, hbz⟩
  by_cases hl5 : 5 < l
  case pos =>
    rw [cwR_no (by simp [cwB, show ¬ l ≤ 5 by omega])]
    rw [hmb] at hm
    go_enter Try.func10, Try.ntmps10
    go_wp2_with fail
    rw [← HW.out]
    (with_reducible refine hm.mono ?_)
    rintro e w1 ⟨rfl, hb1⟩
    have hbz := HBW.out.trans (hb1.mono HBW.out.size)
    clear hm d0 d1 d2 d3
    go_wp2
    go_ret
    exact ⟨rfl, hbz⟩
  by_cases hn0 : n < 0
  case pos =>
    rw [cwR_no (by simp [cwB, show ¬ 0 ≤ n by omega])]
    rw [hmb] at hm
    go_enter Try.func10, Try.ntmps10
    go_wp2_with fail
    rw [← HW.out]
    (with_reducible refine hm.mono ?_)
    rintro e w1 ⟨rfl, hb1⟩
    have hbz := HBW.out.trans (hb1.mono HBW.out.size)
    clear hm d0 d1 d2 d3
    go_wp2
    go_ret
    exact ⟨rfl, hbz⟩
  by_cases hn9 : 9 < n
  case pos =>
    rw [cwR_no (by simp [cwB, show ¬ n ≤ 9 by omega])]
    rw [hmb] at hm
    go_enter Try.func10, Try.ntmps10
    go_wp2_with fail
    rw [← HW.out]
    (with_reducible refine hm.mono ?_)
    rintro e w1 ⟨rfl, hb1⟩
    have hbz := HBW.out.trans (hb1.mono HBW.out.size)
    clear hm d0 d1 d2 d3
    go_wp2
    go_ret
    exact ⟨rfl, hbz⟩
  rw [cwR_yes hmb (by omega) (by omega)]
  obtain ⟨L, rfl⟩ : ∃ L : Nat, l = (L : Int) := ⟨l.toNat, by omega⟩
  have hL : L ≤ 5 := by omega
  rw [show (L : Int).toNat = L from rfl]
  have HEND := Lib.hid ((parW_all t n L).trans (count_eq t (good_of hmb) n (by omega) L))
  rw [← HEND.out]
  have HPW := Lib.hid (fun W => plainWords_any L hL W)
  have HPB := Lib.hid (fun k => parW_bound t (n := n) (by omega) (by omega) hL k)
  have HPN := Lib.hid (fun (k : Nat) (h : k < (plainW L).length) => parW_next t n h)
  have HPR := Lib.hid (fun (k : Nat) (h : k < (plainW L).length) => pw_row h)
  have hP1 := pw_120 hL
  have HG := Lib.hid (good_of hmb)
  rw [hmb] at hm
  clear hmb HEND
  generalize plainW L = P at HPW HPB HPN HPR hP1 ⊢
  go_enter Try.func10, Try.ntmps10
  go_wp2_with fail
  rw [← HW.out]
  (with_reducible refine hm.mono ?_)
  rintro e w1 ⟨rfl, hb1⟩
  have hpw := HPW.out w1
  clear hm d0 d1 d2 d3 HPW
  go_wp2_with (go_at_call 20; (with_reducible refine hpw.mono ?_); rintro e w2 ⟨v2, T, rfl, hT, hTb, hb2⟩; obtain ⟨A2, c2, rfl⟩ := RowsIn.form (ls := P) hT.at_)
  have hbz := hb1.trans (hb2.mono hb1.size)
  clear hpw hb2 hTb
  go_loopw [7, 9, 32] (fun v7 _ i wr => ∃ k : Nat, k ≤ P.length ∧ i = .int .i64 k ∧ v7 = .int .i64 (parW t n P k) ∧ Below w2.heap.size w2 wr) (fun _ _ i _ => P.length - (intOf i).toNat)
  case atStart => exact ⟨0, Nat.zero_le _, rfl, rfl, Below.refl _ _⟩
  case round =>
    obtain ⟨k, hk, rfl, rfl, hb⟩ := hrel
    have hbW := hbz.trans (hb.mono hbz.size)
    by_cases hlt : k < P.length
    · obtain ⟨b1, o1, A1, c1, T1, rfl, hb1', d1, ⟨hA1, hz1⟩, hT1, hs1⟩ := own_rowAt (hT.keep hb) hlt
      obtain ⟨hpl, hpp⟩ := HPR.out k hlt
      have hpn := HPN.out k hlt
      have hpb := HPB.out k
      have hpb2 := HPB.out (k + 1)
      have hao := HAO.out HG.out A1 c1 (rwAt P k) (by omega) wr hbW hA1
      have HCW := Lib.hid (fun (W' : World) (h : IntsAt W' A1 (rwAt P k)) => countWith_any A1 c1 (rwAt P k) 0 n W' h hpp (by omega) (by omega) (by omega) (by omega) (by omega))
      obtain ⟨e0, e1, e2, e3⟩ := HCC.out wr hbW
      unfold valW at hpn
      generalize rwAt P k = p at *
      by_cases ha : lastB t p = true
      · rw [if_pos ha] at hpn
        rw [ha] at hao
        generalize waysP n 0 p = y at *
        generalize parW t n P k = z at *
        have HPNX := Lib.hid hpn
        rw [hpn] at hpb2
        clear hpn
        clear HPB HPN HPR hpp ha hT hpl
        go_wp2_with (first | (go_at_call 19; (with_reducible refine hao.mono ?_); rintro e w3 ⟨rfl, hb3⟩; have hcw := HCW.out w3 (hA1.below hb3)) | (go_at_call 21; (with_reducible refine hcw.mono ?_); rintro e w4 ⟨rfl, rfl⟩))
        refine ⟨⟨k + 1, by omega, by go_num, by rw [HPNX.out], hb.trans (hb3.mono hb.size)⟩, ?_⟩
        simp only [intOf]
        omega
      · have ha : lastB t p = false := by simpa using ha
        rw [if_neg (by rw [ha]; decide)] at hpn
        rw [ha] at hao
        generalize parW t n P k = z at *
        have HPNX := Lib.hid hpn
        clear hpn
        clear HPB HPN HPR hpp ha hT hpl HCW
        go_wp2_with (go_at_call 19; (with_reducible refine hao.mono ?_); rintro e w3 ⟨rfl, hb3⟩)
        refine ⟨⟨k + 1, by omega, by go_num, by rw [HPNX.out, Int.add_zero], hb.trans (hb3.mono hb.size)⟩, ?_⟩
        simp only [intOf]
        omega
    · have e : k = P.length := by omega
      subst e
      have hend := HBW.out.trans (hbW.mono HBW.out.size)
      clear hT HPB HPN HPR hb hbW
      go_wp2
      go_ret
      exact ⟨rfl, hend⟩
end Go.Proofs.Ythacnbeckhdhiaa
end

