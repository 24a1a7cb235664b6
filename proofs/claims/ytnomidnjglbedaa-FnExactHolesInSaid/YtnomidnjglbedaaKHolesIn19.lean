/-
  The holes of a list of equations, in the program, as a contract. The holes of a list of equations, in the model, as a contract.
-/
import Derived.Test.YtnomidnjglbedaaKHolesIn14
import Derived.Test.YtnomidnjglbedaaKHolesIn15
import Derived.Test.YtnomidnjglbedaaKHolesIn18
import Derived.Test.YtnomidnjglbedaaKHolesIn12
section
namespace Go.Proofs.Ytnomidnjglbedaa
open Go.RowKit Go.Sort
set_option linter.unusedVariables false

def rawE : List REquation → List Int
  | [] => []
  | r :: rs => (holesL r.f0 ++ holesL r.f1) ++ rawE rs
theorem rawE_append : ∀ a b : List REquation, rawE (a ++ b) = rawE a ++ rawE b
  | [], b => by simp [rawE]
  | r :: rs, b => by rw [List.cons_append, rawE, rawE, rawE_append rs b]; simp only [List.append_assoc]
theorem rawE_next {rs : List REquation} {k : Nat} (h : k < rs.length) : rawE (rs.take (k + 1)) = rawE (rs.take k) ++ (holesL (atREquation rs k).f0 ++ holesL (atREquation rs k).f1) := by
  rw [takeREquation_next h, rawE_append]; simp [rawE]
theorem holesL_le (t : Tm) : (holesL t).length ≤ 60 := by
  by_cases h : isTermB t = true
  · exact holesL_len h
  · rw [holesL, if_neg h]; simp
theorem rawE_len : ∀ rs : List REquation, (rawE rs).length ≤ 120 * rs.length
  | [] => by simp [rawE]
  | r :: rs => by
    have h1 := holesL_le r.f0
    have h2 := holesL_le r.f1
    have h3 := rawE_len rs
    rw [rawE]
    simp only [List.length_append, List.length_cons]
    omega
theorem rawE_take (rs : List REquation) (k : Nat) : (rawE (rs.take k)).length ≤ 120 * rs.length := by
  have h1 := rawE_len (rs.take k)
  have h2 : (rs.take k).length ≤ rs.length := by rw [List.length_take]; omega
  omega
/-- The holes of a list of equations. -/
def holesE (rs : List REquation) : List Int := if probB rs then insAll [] (rawE rs) else []

theorem hz_own {w : World} {base size n len d : Nat} {e : TypeId} {B : Option Addr} {xs : List Value} (h : w.ownsRow base e size (.slice B n d) len xs) : B = none → d = 0 := by
  rintro rfl
  rcases h.2 with ⟨e1, _⟩ | ⟨g, cap, cur, e1, _⟩
  · injection e1
  · cases e1
theorem ints_ownE {w : World} {base g cap : Nat} {L : List Int} (h : w.ownsRow base 3 1 (.slice (some ⟨g, 0, none⟩) L.length cap) L.length (icells L)) : IntsAt w (some ⟨g, 0, none⟩) L := by
  obtain ⟨A, c, e, hh⟩ := own_intsAt h
  simp only [Value.slice.injEq] at e
  rw [e.1]
  exact hh
theorem cat3 {w : World} {A B C : Option Addr} {a b c : Nat} {x y z : List Int} {T : TypeId} (hA : IntsAt w A x) (hB : IntsAt w B y) (hC : IntsAt w C z) (ha : A = none → a = 0) (hb : B = none → b = 0) (hc : C = none → c = 0) :
    CatAt (w.alloc (.cells #[.slice A x.length a, .slice B y.length b, .slice C z.length c] T)) (some ⟨w.heap.size, 0, none⟩) [x, y, z] := by
  intro _
  have hbe : Below w.heap.size w (w.alloc (.cells #[.slice A x.length a, .slice B y.length b, .slice C z.length c] T)) := (Below.refl _ _).alloc (Nat.le_refl _) _
  have hk := heap_alloc_new w (.cells #[.slice A x.length a, .slice B y.length b, .slice C z.length c] T)
  refine ⟨w.heap.size, 0, rfl, by simp, fun i hi => ?_⟩
  rcases i with _ | _ | _ | i
  · exact ⟨A, a, by rw [cell_of_row _ _ _ _ _ _ hk]; rfl, hA.below hbe, ha⟩
  · exact ⟨B, b, by rw [cell_of_row _ _ _ _ _ _ hk]; rfl, hB.below hbe, hb⟩
  · exact ⟨C, c, by rw [cell_of_row _ _ _ _ _ _ hk]; rfl, hC.below hbe, hc⟩
  · simp at hi; omega

theorem compact_none (w : World) : Calls Try.prog 114 #[.slice none 0 0] w fun e w' => e = .returned (.slice none 0 0) ∧ w = w' := by
  go_enter Try.func114, Try.ntmps114
  go_wp2
  go_ret
  exact ⟨rfl, rfl⟩

set_option maxRecDepth 100000 in
set_option maxHeartbeats 2000000 in
theorem ascending_rows (base : Nat) (v : Value) (Z : List Int) (w : World) (ho : w.ownsRow base 3 1 v Z.length (icells Z)) (hbs : base ≤ w.heap.size) (hzl : Z.length ≤ 1099511627776) :
    Calls Try.prog 75 #[v] w fun e w' => ∃ v', e = .returned v' ∧ w'.ownsRow base 3 1 v' (insAll [] Z).length (icells (insAll [] Z)) ∧ Below base w w' := by
  rcases ho.2 with ⟨rfl, h0⟩ | ⟨g, cap, cur, rfl, hg, _⟩
  · have e : Z = [] := List.eq_nil_of_length_eq_zero h0
    subst e
    have hs := fun W => Try.slices_Sort_int_none none 0 W
    have hc := compact_none
    go_enter Try.func75, Try.ntmps75
    go_wp2_with (first
      | (go_at_call 113; refine (hs _).mono ?_; rintro e w2 ⟨rfl, rfl⟩)
      | (go_at_call 114; refine (hc _).mono ?_; rintro e w2 ⟨rfl, rfl⟩))
    go_ret
    exact ⟨_, rfl, ⟨rfl, .inl ⟨rfl, rfl⟩⟩, Below.refl _ _⟩
  · refine (ascending_any base g cap Z w ho hzl).mono ?_
    rintro e w' ⟨rfl, ho1, hg1⟩
    exact ⟨_, rfl, ho1, (Below.refl _ _).grown hg1 hbs (fun k hk => by have := (ho.lt k hk).1; exact this)⟩

set_option maxRecDepth 100000 in
set_option maxHeartbeats 8000000 in
theorem holesIn_impl (rs : List REquation) (x : Value) (w : World) (hx : REquationsIn w x rs) (hl : rs.length ≤ 1048576) (hcn : ∀ k, k < rs.length → cntREquation (atREquation rs k) ≤ 1048576) :
    Calls Try.prog 41 #[x] w (NewInts (holesE rs) w) := by
  have hX := hx
  obtain ⟨C, cc, rfl, hg⟩ := hx
  have hb0 : Below w.heap.size w (w.alloc (.cells #[] 3)) := (Below.refl _ _).alloc (Nat.le_refl _) _
  have ho0 : (w.alloc (.cells #[] 3)).ownsRow w.heap.size 3 1 (.slice (some ⟨w.heap.size, 0, none⟩) 0 0) 0 [] := World.ownsRow_lit w #[] 0 (Nat.le_refl _) (by decide) rfl
  have hpr := isProb_impl rs _ _ (hX.below hb0) hl hcn
  cases hp : probB rs with
  | false =>
    have hn : Hid (holesE rs = []) := Lib.hid (by unfold holesE; rw [hp]; rfl)
    rw [hn.out]
    rw [hp] at hpr
    clear hX hg hcn hn hp
    go_enter Try.func41, Try.ntmps41
    go_wp2_with (go_at_call 38; refine hpr.mono ?_; rintro e w2 ⟨rfl, hb2⟩)
    go_ret
    exact ⟨_, rfl, own_below ho0 hb2, hb0.trans (hb2.mono hb0.size)⟩
  | true =>
    have hn : Hid (holesE rs = insAll [] (rawE rs)) := Lib.hid (by unfold holesE; rw [hp]; rfl)
    have h8 : rs.length ≤ 8 := by unfold probB at hp; simp at hp; exact hp.2
    have HR := Lib.hid (rawE_take rs)
    have HNX := Lib.hid (fun k (h : k < rs.length) => rawE_next h)
    rw [hp] at hpr
    go_enter Try.func41, Try.ntmps41
    go_wp2_with (go_at_call 38; refine hpr.mono ?_; rintro e w2 ⟨rfl, hb2⟩)
    have ho2 := own_below ho0 hb2
    have hb3 := hb0.trans (hb2.mono hb0.size)
    clear ho0 hb0 hb2 hpr hp
    go_loopw [3, 5, 13] (fun v3 _ i wr => ∃ k : Nat, k ≤ rs.length ∧ i = .int .i64 k ∧ wr.ownsRow w.heap.size 3 1 v3 (rawE (rs.take k)).length (icells (rawE (rs.take k))) ∧ Below w.heap.size w wr) (fun _ _ i _ => rs.length - (intOf i).toNat)
    case atStart => exact ⟨0, Nat.zero_le _, rfl, ho2, hb3⟩
    case round =>
      clear ho2 hb3
      obtain ⟨k, hk, rfl, ho, hb⟩ := hrel
      by_cases hlt : k < rs.length
      · obtain ⟨b1, o1, rfl, hb1, hget⟩ := hg (by omega)
        obtain ⟨A0, c0, B0, d0, A1, c1, B1, d1, e0, e1, e2, e3, e4, e5, e6, e7, ht0, ht1⟩ := (hget k hlt).below hb1 hb
        have hcnt := hcn k hlt
        have hrl := HR.out k
        have hnx : Hid ((rawE (rs.take k)) ++ (holesL (atREquation rs k).f0 ++ holesL (atREquation rs k).f1) = rawE (rs.take (k + 1))) := Lib.hid (HNX.out k hlt).symm
        obtain ⟨A2, c2, rfl, hA2⟩ := own_intsAt ho
        have hz2 := hz_own ho
        generalize atREquation rs k = r at e0 e1 e2 e3 e4 e5 e6 e7 ht0 ht1 hcnt hnx
        generalize rawE (rs.take k) = R1 at *
        have hl0 := holesL_le r.f0
        have hl1 := holesL_le r.f1
        have hbx : Below wr.heap.size wr (wr.alloc (.cells #[.int .i64 r.f0.op, .int .i64 r.f0.num, .slice A0 r.f0.perm.length c0, .slice B0 r.f0.kids.length d0, .int .i64 r.f1.op, .int .i64 r.f1.num, .slice A1 r.f1.perm.length c1, .slice B1 r.f1.kids.length d1] 115)) := (Below.refl _ _).alloc (Nat.le_refl _) _
        have hdw : Below (wr.alloc (.cells #[.int .i64 r.f0.op, .int .i64 r.f0.num, .slice A0 r.f0.perm.length c0, .slice B0 r.f0.kids.length d0, .int .i64 r.f1.op, .int .i64 r.f1.num, .slice A1 r.f1.perm.length c1, .slice B1 r.f1.kids.length d1] 115)).heap.size (wr.alloc (.cells #[.int .i64 r.f0.op, .int .i64 r.f0.num, .slice A0 r.f0.perm.length c0, .slice B0 r.f0.kids.length d0, .int .i64 r.f1.op, .int .i64 r.f1.num, .slice A1 r.f1.perm.length c1, .slice B1 r.f1.kids.length d1] 115)) (wr.alloc (.cells #[.int .i64 r.f0.op, .int .i64 r.f0.num, .slice A0 r.f0.perm.length c0, .slice B0 r.f0.kids.length d0, .int .i64 r.f1.op, .int .i64 r.f1.num, .slice A1 r.f1.perm.length c1, .slice B1 r.f1.kids.length d1] 115)).drew := ⟨rfl, rfl, rfl, Nat.le_refl _, fun _ _ => rfl⟩
        have hbd := hbx.trans (hdw.mono hbx.size)
        have hk1 := heap_alloc_new wr (.cells #[.int .i64 r.f0.op, .int .i64 r.f0.num, .slice A0 r.f0.perm.length c0, .slice B0 r.f0.kids.length d0, .int .i64 r.f1.op, .int .i64 r.f1.num, .slice A1 r.f1.perm.length c1, .slice B1 r.f1.kids.length d1] 115)
        have HB : Hid (∀ w' : World, Below (wr.alloc (.cells #[.int .i64 r.f0.op, .int .i64 r.f0.num, .slice A0 r.f0.perm.length c0, .slice B0 r.f0.kids.length d0, .int .i64 r.f1.op, .int .i64 r.f1.num, .slice A1 r.f1.perm.length c1, .slice B1 r.f1.kids.length d1] 115)).heap.size (wr.alloc (.cells #[.int .i64 r.f0.op, .int .i64 r.f0.num, .slice A0 r.f0.perm.length c0, .slice B0 r.f0.kids.length d0, .int .i64 r.f1.op, .int .i64 r.f1.num, .slice A1 r.f1.perm.length c1, .slice B1 r.f1.kids.length d1] 115)) w' → w'.cell? ⟨wr.heap.size, 0, none⟩ = some (.int .i64 r.f0.op) ∧ w'.cell? ⟨wr.heap.size, 1, none⟩ = some (.int .i64 r.f0.num) ∧ w'.cell? ⟨wr.heap.size, 2, none⟩ = some (.slice A0 r.f0.perm.length c0) ∧ w'.cell? ⟨wr.heap.size, 3, none⟩ = some (.slice B0 r.f0.kids.length d0) ∧ w'.cell? ⟨wr.heap.size, 4, none⟩ = some (.int .i64 r.f1.op) ∧ w'.cell? ⟨wr.heap.size, 5, none⟩ = some (.int .i64 r.f1.num) ∧ w'.cell? ⟨wr.heap.size, 6, none⟩ = some (.slice A1 r.f1.perm.length c1) ∧ w'.cell? ⟨wr.heap.size, 7, none⟩ = some (.slice B1 r.f1.kids.length d1)) := Lib.hid (fun w' h => by
          have hk2 := (h.block wr.heap.size (by rw [World.size_alloc]; exact Nat.lt_succ_self _)).trans hk1
          refine ⟨?_, ?_, ?_, ?_, ?_, ?_, ?_, ?_⟩ <;> rw [cell_of_row _ _ _ _ _ _ hk2] <;> rfl)
        have hto0 := holes_impl r.f0 _ (wr.alloc (.cells #[.int .i64 r.f0.op, .int .i64 r.f0.num, .slice A0 r.f0.perm.length c0, .slice B0 r.f0.kids.length d0, .int .i64 r.f1.op, .int .i64 r.f1.num, .slice A1 r.f1.perm.length c1, .slice B1 r.f1.kids.length d1] 115)).drew (ht0.below hbd) (fit_of r.f0 (by unfold cntREquation at hcnt; omega))
        have hto1 := fun W (h : Below wr.heap.size wr W) => holes_impl r.f1 _ W (ht1.below h) (fit_of r.f1 (by unfold cntREquation at hcnt; omega))
        have hcat := fun W (hW : Below wr.heap.size wr W) (g0 q0 g1 q1 : Nat) (h0 : IntsAt W (some ⟨g0, 0, none⟩) (holesL r.f0)) (h1 : IntsAt W (some ⟨g1, 0, none⟩) (holesL r.f1)) => concat_any (some ⟨W.heap.size, 0, none⟩) 3 [R1, holesL r.f0, holesL r.f1] _ (cat3 (T := 36) (a := c2) (b := q0) (c := q1) (hA2.below hW) h0 h1 hz2 (fun h => by cases h) (fun h => by cases h)) (by simp) (by simp [sumR]; omega)
        have hfl : [R1, holesL r.f0, holesL r.f1].flatten = R1 ++ (holesL r.f0 ++ holesL r.f1) := by simp
        rw [hfl, hnx.out] at hcat
        clear hfl
        generalize holesL r.f0 = H0 at *
        generalize holesL r.f1 = H1 at *
        have HBD := Lib.hid hbd
        have HDW := Lib.hid hdw
        obtain ⟨m0, m1, m2, m3, m4, m5, m6, m7⟩ := HB.out (wr.alloc (.cells #[.int .i64 r.f0.op, .int .i64 r.f0.num, .slice A0 r.f0.perm.length c0, .slice B0 r.f0.kids.length d0, .int .i64 r.f1.op, .int .i64 r.f1.num, .slice A1 r.f1.perm.length c1, .slice B1 r.f1.kids.length d1] 115)).drew HDW.out
        clear hget hcnt hk1 ht0 ht1 hdw hbd hbx
        go_wp2
        go_region_held3 (fun w' => w'.cell? ⟨wr.heap.size, 0, none⟩ = some (.int .i64 r.f0.op) ∧ w'.cell? ⟨wr.heap.size, 1, none⟩ = some (.int .i64 r.f0.num) ∧ w'.cell? ⟨wr.heap.size, 2, none⟩ = some (.slice A0 r.f0.perm.length c0) ∧ w'.cell? ⟨wr.heap.size, 3, none⟩ = some (.slice B0 r.f0.kids.length d0) ∧ w'.cell? ⟨wr.heap.size, 4, none⟩ = some (.int .i64 r.f1.op) ∧ w'.cell? ⟨wr.heap.size, 5, none⟩ = some (.int .i64 r.f1.num) ∧ w'.cell? ⟨wr.heap.size, 6, none⟩ = some (.slice A1 r.f1.perm.length c1) ∧ w'.cell? ⟨wr.heap.size, 7, none⟩ = some (.slice B1 r.f1.kids.length d1))
          (first | (with_reducible exact ⟨by assumption, by assumption, by assumption, by assumption, by assumption, by assumption, by assumption, by assumption⟩) | ((try dsimp only); exact ⟨by assumption, by assumption, by assumption, by assumption, by assumption, by assumption, by assumption, by assumption⟩) | go_keep)
          (first
            | (go_at_call_of 29 A0; refine hto0.mono ?_; rintro e w4 ⟨g4, q4, rfl, ho4, hb4⟩; have hc4 := HDW.out.trans (hb4.mono HDW.out.size); have hd4 := HBD.out.trans (hb4.mono HBD.out.size); have hto2 := hto1 w4 hd4; obtain ⟨n0, n1, n2, n3, n4, n5, n6, n7⟩ := HB.out w4 hc4)
            | (go_at_call_of 29 A1; refine hto2.mono ?_; rintro e w5 ⟨g5, q5, rfl, ho5, hb5⟩; have hc5 := hc4.trans (hb5.mono hc4.size); have hd5 := hd4.trans (hb5.mono hd4.size); have hcc := hcat w5 hd5 g4 q4 g5 q5 ((ints_ownE ho4).below hb5) (ints_ownE ho5); obtain ⟨p0, p1, p2, p3, p4, p5, p6, p7⟩ := HB.out w5 hc5)
            | (go_at_call 87; refine hcc.mono ?_; rintro e w6 ⟨v6, rfl, ho6, hb6⟩; have hc6 := (hc5.alloc hc5.size _).trans (hb6.mono (hc5.alloc hc5.size _).size); have hd6 := (hd5.alloc hd5.size _).trans (hb6.mono (hd5.alloc hd5.size _).size); have ho7 := own_le ho6 (show wr.heap.size ≤ _ from (hd5.alloc hd5.size _).size); obtain ⟨s0, s1, s2, s3, s4, s5, s6, s7⟩ := HB.out w6 hc6)
            | fail)
        have hb7 : Below w.heap.size w w6 := hb.trans (hd6.mono hb.size)
        have ho8 := own_le ho7 hb.size
        have HO8 := Lib.hid ho8
        clear hto0 hto1 hto2 hcat hcc ho ho4 ho5 ho6 ho7 ho8 hb4 hb5 hb6 hc4 hc5 hc6 hd4 hd5 hd6 HB HBD HDW hA2 hz2 hb e0 e1 e2 e3 e4 e5 e6 e7 m0 m1 m2 m3 m4 m5 m6 m7 n0 n1 n2 n3 n4 n5 n6 n7 p0 p1 p2 p3 p4 p5 p6 p7 s0 s1 s2 s3 s4 s5 s6 s7
        go_wp2
        refine ⟨⟨k + 1, by omega, by go_num, HO8.out, hb7⟩, ?_⟩
        simp only [intOf]
        omega
      · have e : k = rs.length := by omega
        subst e
        rw [List.take_length] at ho
        have hrl := rawE_len rs
        have hasc := ascending_rows w.heap.size _ (rawE rs) wr ho hb.size (by omega)
        clear hg hX hcn ho
        go_wp2_with (go_at_call 75; refine hasc.mono ?_; rintro e w6 ⟨v6, rfl, ho6, hb6⟩)
        have hb7 := hb.trans hb6
        clear hasc
        go_wp2
        go_ret
        exact ⟨v6, rfl, by rw [hn.out]; exact ho6, hb7⟩
end Go.Proofs.Ytnomidnjglbedaa
end

section
namespace Go.Proofs.Ytnomidnjglbedaa
open Go.RowKit Go.Sort
set_option linter.unusedVariables false

theorem step_append_ints {w : World} {ops : Array Oper} {o : Oper} {a : Act} {K : Act → World → Prop} {Q : Exit → Act → World → Prop} {E : Prop} (hgd : o.guard = none) (s x : Operand)
    (ho : o.op = .call { callee := .builtin .append, args := #[s, x], argTypes := #[36, 36] })
    (base : Nat) (v : Value) (n : Nat) (xs : List Value) (hs : a.eval s = v) (hown : w.ownsRow base 3 1 v n xs) (ad : Addr) (c : Nat) (l : List Int) (hx : a.eval x = .slice (some ad) l.length c) (hA : IntsAt w (some ad) l) (h63 : n + l.length ≤ 1099511627776) (hbase : base ≤ w.heap.size)
    (h : ∀ v' w', w'.ownsRow base 3 1 v' (n + l.length) (xs ++ icells l) → w.grownBy w' v.ownBlock → K (a.put o.dst v') w') :
    if Region.wanted o (yielded ops a.tmps) = true then Oper.wp Try.prog o a w K Q else E := by
  have hw : Region.wanted o (yielded ops a.tmps) = true := by simp [Region.wanted, hgd]
  rw [if_pos hw]
  obtain ⟨i0, hi0, hz0, hz1, hz2⟩ := info_parts int_infoM
  obtain ⟨v', w', hr, h2, h3, _⟩ := run_append_own (P := Try.prog) w base 36 o.type 3 i0 (.int .i64 0) 1 8 Try.underlying36 hi0 hz0 hz1 hz2 rfl (by decide) v n xs hown ad l.length c (icells l) (by rw [icells_len, Nat.mul_one]) (ints_news hA) (icells_one l) (by unfold maxLen; omega) (by omega) hbase
  unfold Oper.wp execOp
  simp only [ho, resolve, invoke, builtin, Sem.run_bind, Sem.run_pure, Result.andThen_ok, List.map_toArray, List.map_cons, List.map_nil, hs, hx, hr]
  exact h v' w' h2 h3

def onlyIf (q : Bool) (l : List Int) : List Int := if q then l else []
theorem onlyIf_len (q : Bool) (l : List Int) : (onlyIf q l).length ≤ l.length := by cases q <;> simp [onlyIf]
theorem onlyIf_app (q : Bool) (a b : List Int) : onlyIf q (a ++ b) = onlyIf q a ++ onlyIf q b := by cases q <;> simp [onlyIf]
theorem holesE_eq (rs : List REquation) : holesE rs = insAll [] (onlyIf (probB rs) (rawE rs)) := by unfold holesE onlyIf; split <;> rfl
theorem holesE_len (rs : List REquation) : (holesE rs).length ≤ 960 := by
  unfold holesE
  split
  · rename_i hp
    have h8 : rs.length ≤ 8 := by unfold probB at hp; simp at hp; exact hp.2
    have h1 := length_insAll [] (rawE rs)
    have h2 := rawE_len rs
    rw [List.length_nil] at h1
    omega
  · simp
theorem insAll_app3 (a b c : List Int) : insAll a (b ++ c) = insAll (insAll a b) c := by unfold insAll; rw [List.foldl_append]

set_option maxRecDepth 100000 in
set_option maxHeartbeats 16000000 in
theorem holesIn_spec (rs : List REquation) (x : Value) (w : World) (hx : REquationsIn w x rs) (hl : rs.length ≤ 1048576) (hcn : ∀ k, k < rs.length → cntREquation (atREquation rs k) ≤ 1048576) :
    Calls Try.prog 40 #[x] w (NewInts (holesE rs) w) := by
  have hX := hx
  obtain ⟨C, cc, rfl, hg⟩ := hx
  have hb0 : Below w.heap.size w (w.alloc (.cells #[] 3)) := (Below.refl _ _).alloc (Nat.le_refl _) _
  have ho0 : OwnI (w.alloc (.cells #[] 3)) w.heap.size (.slice (some ⟨w.heap.size, 0, none⟩) 0 0) (insAll [] (onlyIf (probB rs) (rawE (rs.take 0)))) := ⟨w.heap.size, 0, by cases probB rs <;> rfl, by cases probB rs <;> exact Nat.le_refl _, by cases probB rs <;> exact World.ownsRow_lit w #[] 0 (Nat.le_refl _) (by decide) rfl⟩
  have hpr := fun W (h : Below w.heap.size w W) => isProb_spec rs _ W (hX.below h) hl hcn
  have hn := Lib.hid (holesE_eq rs)
  have HR := Lib.hid (rawE_take rs)
  have HNX := Lib.hid (fun k (h : k < rs.length) => rawE_next h)
  generalize probB rs = q at *
  go_enter Try.func40, Try.ntmps40
  go_wp2
  go_loopw [3, 11] (fun v3 i wr => ∃ k : Nat, k ≤ rs.length ∧ i = .int .i64 k ∧ OwnI wr w.heap.size v3 (insAll [] (onlyIf q (rawE (rs.take k)))) ∧ Below w.heap.size w wr) (fun _ i _ => rs.length - (intOf i).toNat)
  case atStart => exact ⟨0, Nat.zero_le _, rfl, ho0, hb0⟩
  case round =>
    clear ho0 hb0
    obtain ⟨k, hk, rfl, ⟨g, cap, rfl, hcap, ho⟩, hb⟩ := hrel
    by_cases hlt : k < rs.length
    · obtain ⟨b1, o1, rfl, hb1, hget⟩ := hg (by omega)
      obtain ⟨A0, c0, B0, d0, A1, c1, B1, d1, e0, e1, e2, e3, e4, e5, e6, e7, ht0, ht1⟩ := (hget k hlt).below hb1 hb
      have hcnt := hcn k hlt
      have hrl := HR.out k
      have hXl := length_insAll [] (onlyIf q (rawE (rs.take k)))
      have hXo := onlyIf_len q (rawE (rs.take k))
      have hKa := Lib.hid (asc_insAll [] (onlyIf q (rawE (rs.take k))) List.Pairwise.nil)
      have hnx : Hid (insAll (insAll [] (onlyIf q (rawE (rs.take k)))) (onlyIf q (holesL (atREquation rs k).f0 ++ holesL (atREquation rs k).f1)) = insAll [] (onlyIf q (rawE (rs.take (k + 1))))) := Lib.hid (by rw [HNX.out k hlt, onlyIf_app q (rawE (rs.take k))]; exact (insAll_app3 _ _ _).symm)
      generalize atREquation rs k = r at e0 e1 e2 e3 e4 e5 e6 e7 ht0 ht1 hcnt hnx
      generalize insAll [] (onlyIf q (rawE (rs.take k))) = X at *
      rw [List.length_nil] at hXl
      have hl0 := holesL_le r.f0
      have hl1 := holesL_le r.f1
      have hbx : Below wr.heap.size wr (wr.alloc (.cells #[.int .i64 r.f0.op, .int .i64 r.f0.num, .slice A0 r.f0.perm.length c0, .slice B0 r.f0.kids.length d0, .int .i64 r.f1.op, .int .i64 r.f1.num, .slice A1 r.f1.perm.length c1, .slice B1 r.f1.kids.length d1] 115)) := (Below.refl _ _).alloc (Nat.le_refl _) _
      have hdw : Below (wr.alloc (.cells #[.int .i64 r.f0.op, .int .i64 r.f0.num, .slice A0 r.f0.perm.length c0, .slice B0 r.f0.kids.length d0, .int .i64 r.f1.op, .int .i64 r.f1.num, .slice A1 r.f1.perm.length c1, .slice B1 r.f1.kids.length d1] 115)).heap.size (wr.alloc (.cells #[.int .i64 r.f0.op, .int .i64 r.f0.num, .slice A0 r.f0.perm.length c0, .slice B0 r.f0.kids.length d0, .int .i64 r.f1.op, .int .i64 r.f1.num, .slice A1 r.f1.perm.length c1, .slice B1 r.f1.kids.length d1] 115)) (wr.alloc (.cells #[.int .i64 r.f0.op, .int .i64 r.f0.num, .slice A0 r.f0.perm.length c0, .slice B0 r.f0.kids.length d0, .int .i64 r.f1.op, .int .i64 r.f1.num, .slice A1 r.f1.perm.length c1, .slice B1 r.f1.kids.length d1] 115)).drew := ⟨rfl, rfl, rfl, Nat.le_refl _, fun _ _ => rfl⟩
      have hbd := hbx.trans (hdw.mono hbx.size)
      have hk1 := heap_alloc_new wr (.cells #[.int .i64 r.f0.op, .int .i64 r.f0.num, .slice A0 r.f0.perm.length c0, .slice B0 r.f0.kids.length d0, .int .i64 r.f1.op, .int .i64 r.f1.num, .slice A1 r.f1.perm.length c1, .slice B1 r.f1.kids.length d1] 115)
      have HB : Hid (∀ w' : World, Below (wr.alloc (.cells #[.int .i64 r.f0.op, .int .i64 r.f0.num, .slice A0 r.f0.perm.length c0, .slice B0 r.f0.kids.length d0, .int .i64 r.f1.op, .int .i64 r.f1.num, .slice A1 r.f1.perm.length c1, .slice B1 r.f1.kids.length d1] 115)).heap.size (wr.alloc (.cells #[.int .i64 r.f0.op, .int .i64 r.f0.num, .slice A0 r.f0.perm.length c0, .slice B0 r.f0.kids.length d0, .int .i64 r.f1.op, .int .i64 r.f1.num, .slice A1 r.f1.perm.length c1, .slice B1 r.f1.kids.length d1] 115)) w' → w'.cell? ⟨wr.heap.size, 0, none⟩ = some (.int .i64 r.f0.op) ∧ w'.cell? ⟨wr.heap.size, 1, none⟩ = some (.int .i64 r.f0.num) ∧ w'.cell? ⟨wr.heap.size, 2, none⟩ = some (.slice A0 r.f0.perm.length c0) ∧ w'.cell? ⟨wr.heap.size, 3, none⟩ = some (.slice B0 r.f0.kids.length d0) ∧ w'.cell? ⟨wr.heap.size, 4, none⟩ = some (.int .i64 r.f1.op) ∧ w'.cell? ⟨wr.heap.size, 5, none⟩ = some (.int .i64 r.f1.num) ∧ w'.cell? ⟨wr.heap.size, 6, none⟩ = some (.slice A1 r.f1.perm.length c1) ∧ w'.cell? ⟨wr.heap.size, 7, none⟩ = some (.slice B1 r.f1.kids.length d1)) := Lib.hid (fun w' h => by
        have hk2 := (h.block wr.heap.size (by rw [World.size_alloc]; exact Nat.lt_succ_self _)).trans hk1
        refine ⟨?_, ?_, ?_, ?_, ?_, ?_, ?_, ?_⟩ <;> rw [cell_of_row _ _ _ _ _ _ hk2] <;> rfl)
      have hto0 := holes_spec r.f0 _ (wr.alloc (.cells #[.int .i64 r.f0.op, .int .i64 r.f0.num, .slice A0 r.f0.perm.length c0, .slice B0 r.f0.kids.length d0, .int .i64 r.f1.op, .int .i64 r.f1.num, .slice A1 r.f1.perm.length c1, .slice B1 r.f1.kids.length d1] 115)).drew (ht0.below hbd) (by unfold cntREquation at hcnt; omega)
      have hto1 := fun W (h : Below wr.heap.size wr W) => holes_spec r.f1 _ W (ht1.below h) (by unfold cntREquation at hcnt; omega)
      have hap : Hid (icells (holesL r.f0) ++ icells (holesL r.f1) = icells (holesL r.f0 ++ holesL r.f1)) := Lib.hid (by simp [icells])
      have hal : Hid ((holesL r.f0).length + (holesL r.f1).length = (holesL r.f0 ++ holesL r.f1).length) := Lib.hid (by rw [List.length_append])
      have hYl : (holesL r.f0 ++ holesL r.f1).length ≤ 120 := by rw [List.length_append]; omega
      generalize hY : holesL r.f0 ++ holesL r.f1 = Y at hnx hap hal hYl
      clear hY
      generalize holesL r.f0 = H0 at *
      generalize holesL r.f1 = H1 at *
      have HBD := Lib.hid hbd
      have HDW := Lib.hid hdw
      obtain ⟨m0, m1, m2, m3, m4, m5, m6, m7⟩ := HB.out (wr.alloc (.cells #[.int .i64 r.f0.op, .int .i64 r.f0.num, .slice A0 r.f0.perm.length c0, .slice B0 r.f0.kids.length d0, .int .i64 r.f1.op, .int .i64 r.f1.num, .slice A1 r.f1.perm.length c1, .slice B1 r.f1.kids.length d1] 115)).drew HDW.out
      clear hget hcnt hk1 ht0 ht1 hdw hbd hbx
      go_wp2
      go_region_held3 (fun w' => w'.cell? ⟨wr.heap.size, 0, none⟩ = some (.int .i64 r.f0.op) ∧ w'.cell? ⟨wr.heap.size, 1, none⟩ = some (.int .i64 r.f0.num) ∧ w'.cell? ⟨wr.heap.size, 2, none⟩ = some (.slice A0 r.f0.perm.length c0) ∧ w'.cell? ⟨wr.heap.size, 3, none⟩ = some (.slice B0 r.f0.kids.length d0) ∧ w'.cell? ⟨wr.heap.size, 4, none⟩ = some (.int .i64 r.f1.op) ∧ w'.cell? ⟨wr.heap.size, 5, none⟩ = some (.int .i64 r.f1.num) ∧ w'.cell? ⟨wr.heap.size, 6, none⟩ = some (.slice A1 r.f1.perm.length c1) ∧ w'.cell? ⟨wr.heap.size, 7, none⟩ = some (.slice B1 r.f1.kids.length d1))
        (first | (with_reducible exact ⟨by assumption, by assumption, by assumption, by assumption, by assumption, by assumption, by assumption, by assumption⟩) | ((try dsimp only); exact ⟨by assumption, by assumption, by assumption, by assumption, by assumption, by assumption, by assumption, by assumption⟩) | go_keep)
        (first
          | (go_at_call_of 28 A0; refine hto0.mono ?_; rintro e w4 ⟨g4, q4, rfl, ho4, hb4⟩; have hc4 := HDW.out.trans (hb4.mono HDW.out.size); have hd4 := HBD.out.trans (hb4.mono HBD.out.size); have hto2 := hto1 w4 hd4; obtain ⟨n0, n1, n2, n3, n4, n5, n6, n7⟩ := HB.out w4 hc4)
          | (go_at_call_of 28 A1; refine hto2.mono ?_; rintro e w5 ⟨g5, q5, rfl, ho5, hb5⟩; have hc5 := hc4.trans (hb5.mono hc4.size); have hd5 := hd4.trans (hb5.mono hd4.size); have hi5 := ints_ownE ho5; have ho45 := own_below ho4 hb5; have hs5 := hb5.size; have hs4 := hb4.size; obtain ⟨p0, p1, p2, p3, p4, p5, p6, p7⟩ := HB.out w5 hc5)
          | (refine step_append_ints (by rfl) _ _ (by rfl) (wr.alloc (.cells #[.int .i64 r.f0.op, .int .i64 r.f0.num, .slice A0 r.f0.perm.length c0, .slice B0 r.f0.kids.length d0, .int .i64 r.f1.op, .int .i64 r.f1.num, .slice A1 r.f1.perm.length c1, .slice B1 r.f1.kids.length d1] 115)).drew.heap.size _ H0.length _ (by rfl) ho45 ⟨g5, 0, none⟩ q5 H1 (by rfl) hi5 (by omega) (Nat.le_trans hs4 hs5) ?_; intro v6 w6 ho6 hg6; rw [hal.out, hap.out] at ho6; obtain ⟨A6, c6, rfl, hA6⟩ := own_intsAt ho6; have hc6 := below_own hc5 ho45 (Nat.le_refl _) (Nat.le_trans hs4 hs5) hg6; have hd6 := below_own hd5 ho45 HBD.out.size hd5.size hg6; obtain ⟨s0, s1, s2, s3, s4, s5, s6, s7⟩ := HB.out w6 hc6)
          | fail)
      have hst2 : OwnI w6 w.heap.size (.slice (some ⟨g, 0, none⟩) X.length cap) (insAll X (onlyIf q (Y.take 0))) := by
        have e : insAll X (onlyIf q (Y.take 0)) = X := by cases q <;> rfl
        rw [e]
        exact ⟨g, cap, rfl, hcap, own_below ho hd6⟩
      have hbs : Below w.heap.size w w6 := hb.trans (hd6.mono hb.size)
      generalize X.length = N at hst2 ⊢
      clear hto0 hto1 hto2 ho ho4 ho5 ho6 ho45 hb4 hb5 hc4 hc5 hc6 hd4 hd5 hd6 hs4 hs5 hg6 hi5 HB HBD HDW hb e0 e1 e2 e3 e4 e5 e6 e7 m0 m1 m2 m3 m4 m5 m6 m7 n0 n1 n2 n3 n4 n5 n6 n7 p0 p1 p2 p3 p4 p5 p6 p7 s0 s1 s2 s3 s4 s5 s6 s7 hap hal
      go_wp2
      go_loopw [3, 7, 23] (fun v _ i wr => ∃ j : Nat, j ≤ Y.length ∧ i = .int .i64 j ∧ OwnI wr w.heap.size v (insAll X (onlyIf q (Y.take j))) ∧ Below w.heap.size w wr ∧ Below w6.heap.size w6 wr) (fun _ _ i _ => Y.length - (intOf i).toNat)
      case atStart => exact ⟨0, Nat.zero_le _, rfl, hst2, hbs, Below.refl _ _⟩
      case round =>
        clear hst2 hbs
        obtain ⟨j, hj, rfl, ⟨g3, cap3, rfl, hcap3, ho3⟩, hb4, hb5⟩ := hrel
        by_cases hlj : j < Y.length
        · obtain ⟨b4, o4, rfl, hlt4, hc4⟩ := hA6.below hb5 (by omega)
          have d4 := hc4 j hlj
          have hpq := hpr _ hb4
          have hlen := length_insAll X (onlyIf q (Y.take j))
          have hlo := onlyIf_len q (Y.take j)
          rw [List.length_take] at hlo
          cases q with
          | false =>
            have e1 : insAll X (onlyIf false (Y.take (j + 1))) = insAll X (onlyIf false (Y.take j)) := rfl
            have hov2 : OwnI wr w.heap.size (.slice (some ⟨g3, 0, none⟩) (insAll X (onlyIf false (Y.take j))).length cap3) (insAll X (onlyIf false (Y.take (j + 1)))) := ⟨g3, cap3, rfl, hcap3, ho3⟩
            have HOV := Lib.hid hov2
            generalize (insAll X (onlyIf false (Y.take j))).length = M at HOV ⊢
            generalize itAt Y j = a at d4
            clear hc4 ho3 hcap3 e1 hov2 hlen hlo
            go_wp2_with (go_at_call 36; refine hpq.mono ?_; rintro e w7 ⟨rfl, hb7⟩)
            obtain ⟨g9, cap9, e9, hcap9, ho9⟩ := HOV.out
            refine ⟨⟨j + 1, by omega, by go_num, ⟨g9, cap9, e9, hcap9, own_below ho9 hb7⟩, hb4.trans (hb7.mono hb4.size), hb5.trans (hb7.mono hb5.size)⟩, ?_⟩
            simp only [intOf]
            omega
          | true =>
            have hnext : Hid (insAll X (onlyIf true (Y.take (j + 1))) = insL (insAll X (onlyIf true (Y.take j))) (itAt Y j)) := insAll_next X hlj
            have hins := fun W (h : Below wr.heap.size wr W) => l1Insert_any w.heap.size g3 cap3 _ (itAt Y j) W (own_below ho3 h) hcap3 (by omega) (asc_insAll _ _ hKa.out)
            generalize insAll X (onlyIf true (Y.take j)) = Z at hins hnext hlen hcap3 ⊢
            generalize itAt Y j = a at d4 hins hnext
            clear ho3 hc4 hlen hlo
            go_wp2_with (go_at_call 36; refine hpq.mono ?_; rintro e w7 ⟨rfl, hb7⟩; have hin7 := hins w7 hb7)
            refine hin7.mono ?_
            rintro e w8 hpost
            obtain ⟨v8, rfl, hv8, hb8⟩ := insPost_own hpost
            rw [← hnext.out] at hv8
            have hb9 := hb7.trans (hb8.mono hb7.size)
            have hbA := hb4.trans (hb9.mono hb4.size)
            have hbB := hb5.trans (hb9.mono hb5.size)
            clear hpost hins hin7 hnext hb4 hb5 hb7 hb8 hb9 d4 hpq
            go_wp2
            refine ⟨⟨j + 1, by omega, by go_num, hv8, hbA, hbB⟩, ?_⟩
            simp only [intOf]
            omega
        · have hov2 : OwnI wr w.heap.size (.slice (some ⟨g3, 0, none⟩) (insAll X (onlyIf q (Y.take j))).length cap3) (insAll [] (onlyIf q (rawE (rs.take (k + 1))))) := by
            rw [← hnx.out, List.take_of_length_le (show Y.length ≤ j by omega)] at *
            exact ⟨g3, cap3, rfl, hcap3, ho3⟩
          generalize (insAll X (onlyIf q (Y.take j))).length = M at hov2 ⊢
          clear ho3 hcap3 hA6 hb5 hnx hKa
          go_wp2
          refine ⟨⟨k + 1, by omega, by go_num, hov2, hb4⟩, ?_⟩
          simp only [intOf]
          omega
    · have e : k = rs.length := by omega
      subst e
      rw [List.take_length, ← hn.out] at ho hcap ⊢
      clear hg hX hcn hcap hpr
      go_wp2
      go_ret
      exact ⟨_, rfl, ho, hb⟩
end Go.Proofs.Ytnomidnjglbedaa
end

