/-
  The comparison of two forms without holes, in the program, as contracts. Canonical terms: plain words. The canonical form of a form, in the program, as a contract.
-/
import Derived.Test.YtbfkfklaplgebaaGreatKCanonicalTerm17
import Derived.Test.YtbfkfklaplgebaaGreatKCanonicalTerm18
import Derived.Test.YtbfkfklaplgebaaGreatKCanonicalTerm19
import Derived.Test.YtbfkfklaplgebaaGreatKCanonicalTerm11
import Derived.Test.YtbfkfklaplgebaaGreatKCanonicalTerm6
section
namespace Go.Proofs.YtbfkfklaplgebaaGreat
open Go.RowKit Go.Sort Go.ChangeShapes Go.WideShapes
set_option linter.unusedVariables false
attribute [local go_sem] ask_atom_atom ask_atom_node ask_atom_bind ask_atom_hole ask_node_atom ask_node_node ask_node_bind ask_node_hole ask_bind_atom ask_bind_node ask_bind_bind ask_bind_hole ask_hole_atom ask_hole_node ask_hole_bind ask_hole_hole

theorem gfield_bind (n : Int) (T : TypeId) (x : Value) (w : World) : (Instr.field 147 (.agg #[.int .i64 n, .iface T x]) 1).run Tryz.prog w = .ok (.iface T x) w := by kernel_rfl
attribute [local go_sem] gfield_bind

theorem gty_1 (m : Int) : fty (.mk 1 m [] []) = 139 := rfl
theorem gty_2 (m : Int) (ks : List Tm) : fty (.mk 2 m [] ks) = 143 := rfl
theorem gty_3 (m : Int) (k : Tm) : fty (.mk 3 m [] [k]) = 147 := rfl
mutual
theorem holesB_act (p : List (Int × Int)) : ∀ t : Tm, holesB (actT p t) = holesB t
  | .mk o n q ks => by rw [actT, holesB, holesB, holesBs_act p ks]
theorem holesBs_act (p : List (Int × Int)) : ∀ ts : List Tm, holesBs (actTs p ts) = holesBs ts
  | [] => by simp [actTs]
  | t :: r => by rw [actTs, holesBs, holesBs, holesB_act p t, holesBs_act p r]
end
theorem ground_no {t : Tm} (h : groundB t = true) : holesB t = false := by
  unfold groundB at h
  simp only [Bool.and_eq_true] at h
  simpa using h.2
theorem noHole_kid {t : Tm} {i : Nat} (h : holesB t = false) (hi : i < t.kids.length) : holesB (tmAt t.kids i) = false := by
  cases hk : holesB (tmAt t.kids i) with
  | false => rfl
  | true =>
    rw [holesB_eq, holesBs_yes hi hk] at h
    simp at h

end Go.Proofs.YtbfkfklaplgebaaGreat
end

section
namespace Go.Proofs.YtbfkfklaplgebaaGreat
open Go.RowKit Go.Sort
set_option linter.unusedVariables false

/-- The canonical term, of a term with N nodes at most. -/
def canN : Nat → Tm → Tm
  | 0, t => t
  | N + 1, .mk o n p ks => if o = 3 then .mk 3 (leastF (freeT (.mk o n p ks))) p (ks.map fun k => canN N (actT (swapL n (leastF (freeT (.mk o n p ks)))) k)) else .mk o n p (ks.map (canN N))
theorem canN_3 (N : Nat) (n : Int) (k : Tm) : canN (N + 1) (.mk 3 n [] [k]) = .mk 3 (leastF (freeT (.mk 3 n [] [k]))) [] [canN N (actT (swapL n (leastF (freeT (.mk 3 n [] [k])))) k)] := by simp [canN]
theorem canN_2 (N : Nat) (n : Int) (ks : List Tm) : canN (N + 1) (.mk 2 n [] ks) = .mk 2 n [] (ks.map (canN N)) := by simp [canN]
theorem canN_1 (N : Nat) (n : Int) : canN (N + 1) (.mk 1 n [] []) = .mk 1 n [] [] := by simp [canN]

theorem tmAt_map (f : Tm → Tm) : ∀ {ks : List Tm} {i : Nat}, i < ks.length → tmAt (ks.map f) i = f (tmAt ks i)
  | [], i, h => by simp at h
  | t :: r, 0, _ => by rw [List.map_cons, tmAt_cons_zero, tmAt_cons_zero]
  | t :: r, i + 1, h => by rw [List.map_cons, tmAt_cons_succ, tmAt_cons_succ, tmAt_map f (ks := r) (by simpa using h)]
theorem szTs_map {f : Tm → Tm} : ∀ {ks : List Tm}, (∀ k, szT (f k) = szT k) → szTs (ks.map f) = szTs ks
  | [], _ => rfl
  | t :: r, h => by rw [List.map_cons, szTs, szTs, h t, szTs_map h]
theorem szT_canN : ∀ (N : Nat) (t : Tm), szT (canN N t) = szT t
  | 0, t => rfl
  | N + 1, .mk o n p ks => by
    unfold canN
    split
    · rw [szT, szT, szTs_map (fun k => by rw [szT_canN N, szT_actT])]
    · rw [szT, szT, szTs_map (fun k => szT_canN N k)]
theorem okPs_map {M L : Nat} {f : Tm → Tm} : ∀ {ks : List Tm}, (∀ k, OkP M k → OkP L (f k)) → OkPs M ks → OkPs L (ks.map f)
  | [], _, _ => trivial
  | t :: r, h, hk => ⟨h t hk.1, okPs_map h hk.2⟩
theorem okP_canN : ∀ (N M : Nat) (t : Tm), OkP M t → OkP (M + 2 * N) (canN N t)
  | 0, M, t, h => h
  | N + 1, M, .mk o n p ks, h => by
    unfold canN
    split
    · exact ⟨h.1, by have := h.2.1; omega, okPs_map (M := M) (fun k hk => okP_le (by have := sw_len n (leastF (freeT (.mk o n p ks))); omega) (okP_canN N (M + (swapL n (leastF (freeT (.mk o n p ks)))).length) _ (okP_act _ hk))) h.2.2⟩
    · exact ⟨h.1, by have := h.2.1; omega, okPs_map (M := M) (fun k hk => okP_le (by omega) (okP_canN N M k hk)) h.2.2⟩
end Go.Proofs.YtbfkfklaplgebaaGreat
end

section
namespace Go.Proofs.YtbfkfklaplgebaaGreat
open Go.RowKit Go.Sort Go.ChangeShapes Go.WideShapes
set_option linter.unusedVariables false
attribute [local go_sem] ask_atom_atom ask_atom_node ask_atom_bind ask_atom_hole ask_node_atom ask_node_node ask_node_bind ask_node_hole ask_bind_atom ask_bind_node ask_bind_bind ask_bind_hole ask_hole_atom ask_hole_node ask_hole_bind ask_hole_hole

set_option maxRecDepth 100000 in
set_option maxHeartbeats 2000000 in
theorem can_atom (n : Int) (w : World) : Calls Tryz.prog 62 #[.iface 139 (.agg #[.int .i64 n])] w (FormPost 0 (.mk 1 n [] []) w) := by
  have hpost : FormPost 0 (.mk 1 n [] []) w (.returned (.iface 139 (.agg #[.int .i64 n]))) w := ⟨_, rfl, form_atom (t := .mk 1 n [] []) rfl, Below.refl _ _⟩
  go_enter Tryz.func62, Tryz.ntmps62
  go_wp2
  go_ret
  exact hpost

set_option maxRecDepth 100000 in
set_option maxHeartbeats 2000000 in
theorem can_node (N : Nat) (n : Int) (b off c0 : Nat) (xs : List Value) (ks : List Tm) (q : Nat → Prop) (w : World) (hbl : b < w.heap.size) (hc : ∀ j u, xs[j]? = some u → w.cell? ⟨b, off + j, none⟩ = some u) (hxs : FsIn w q xs ks) (hlen : ks.length ≤ 1048576)
    (ih : ∀ i, i < ks.length → ∀ (w' : World) (T : TypeId) (y : Value), FIn w' q (.iface T y) (tmAt ks i) → Calls Tryz.prog 62 #[.iface T y] w' (FormPost 0 (canN N (tmAt ks i)) w')) :
    Calls Tryz.prog 62 #[.iface 143 (.agg #[.int .i64 n, .slice (some ⟨b, off, none⟩) ks.length c0])] w (FormPost 0 (.mk 2 n [] (ks.map (canN N))) w) := by
  have hb0 : Below w.heap.size w (w.alloc (.cells #[.int .i64 n, .slice (some ⟨b, off, none⟩) ks.length c0] 143)) := (Below.refl _ _).alloc (Nat.le_refl _) _
  have eg : ∀ args w, (callFunc 62 args).run Tryz.prog w = .ok (.enter 62 args) w := enters_of Tryz.func62 (by kernel_rfl) rfl
  have hwk := withKids_any n b off c0 xs ks (ks.map (canN N)) q _ 0 62 #[] (by simp) (Nat.zero_le _) eg (Nat.lt_of_lt_of_le hbl hb0.size)
    (fun j u hj => (hb0.cell (p := ⟨b, off + j, none⟩) hbl).trans (hc j u hj)) (hxs.over ⟨hb0.size, fun b _ hl => hb0.block b hl, fun _ h _ => h⟩) hlen
    (fun i hi w' T y hb hf => by
      rw [tmAt_map (canN N) hi]
      have e : (#[Value.iface T y] ++ #[] : Array Value) = #[.iface T y] := by simp
      rw [e]
      exact ih i hi w' T y hf)
  have HB := Lib.hid hb0
  clear hc hxs ih eg hb0 hbl
  generalize hrs : ks.map (canN N) = rs at hwk ⊢
  clear hrs
  go_enter Tryz.func62, Tryz.ntmps62
  go_wp2_with fail
  refine hwk.mono ?_
  rintro e w2 ⟨g, cap, rfl, hf, hb2⟩
  have hpost : FormPost 0 (.mk 2 n [] rs) w (.returned (.iface 143 (.agg #[.int .i64 n, .slice (some ⟨g, 0, none⟩) rs.length cap]))) w2 :=
    ⟨_, rfl, hf.kind fun b _ h => since_le h HB.out.size, HB.out.trans (hb2.mono HB.out.size)⟩
  clear hwk HB hf hb2
  go_wp2
  go_ret
  exact hpost

set_option maxRecDepth 100000 in
set_option maxHeartbeats 4000000 in
theorem can_bind (N : Nat) (n : Int) (v : Value) (k : Tm) (q : Nat → Prop) (w : World) (hv : FIn w q v k) (hsz : szT k ≤ 1048000) (hP : OkP 1048576 k)
    (ih : ∀ (w' : World) (T : TypeId) (y : Value), FIn w' AnyB (.iface T y) (actT (swapL n (leastF (freeT (.mk 3 n [] [k])))) k) → Calls Tryz.prog 62 #[.iface T y] w' (FormPost 0 (canN N (actT (swapL n (leastF (freeT (.mk 3 n [] [k])))) k)) w')) :
    Calls Tryz.prog 62 #[.iface 147 (.agg #[.int .i64 n, v])] w (FormPost 0 (canN (N + 1) (.mk 3 n [] [k])) w) := by
  rw [canN_3]
  obtain ⟨fx, rfl⟩ := hv.iface
  have hszb : szT (.mk 3 n [] [k]) = 1 + szT k := by simp [szT, szTs]
  have hb0 : Below w.heap.size w (w.alloc (.cells #[.int .i64 n, .iface (fty k) fx] 147)) := (Below.refl _ w).alloc (Nat.le_refl _) _
  have h1 := heap_alloc_new w (.cells #[.int .i64 n, .iface (fty k) fx] 147)
  have HFREE := Lib.hid (fun (W : World) (hW : FIn W q (.iface (fty k) fx) k) => (show Calls Tryz.prog 114 #[.agg #[.int .i64 n, .iface (fty k) fx]] W (InsPost W.heap.size (freeT (.mk 3 n [] [k])) W) from free_any (szT (.mk 3 n [] [k])) (.mk 3 n [] [k]) (Nat.le_refl _) (by omega) q W (.agg #[.int .i64 n, .iface (fty k) fx]) (.bind _ hW)))
  have hfl := freeT_len (.mk 3 n [] [k])
  have HREN := Lib.hid (fun (a : Int) (W : World) (hW : FIn W q (.iface (fty k) fx) k) => renamed_any n a _ k q W hW (by omega) hP)
  have HIH := Lib.hid ih
  have HV := Lib.hid (fun (W : World) (h : Below w.heap.size w W) => hv.keep h)
  generalize hFF : freeT (.mk 3 n [] [k]) = F at *
  have hls : F.length ≤ 1099511627776 := by omega
  generalize hAA : leastF F = a at *
  have HAA := Lib.hid hAA
  generalize canN N (actT (swapL n a) k) = r at *
  have HREN1 := Lib.hid (HREN.out a)
  generalize actT (swapL n a) k = l2 at *
  generalize fty k = T at *
  clear hv ih hsz hP hszb hfl hFF hAA HREN
  go_enter Tryz.func62, Tryz.ntmps62
  go_wp2
  generalize w.alloc (.cells #[.int .i64 n, .iface T fx] 147) = W at hb0 h1 ⊢
  have hlW : w.heap.size < W.heap.size := (Array.getElem?_eq_some_iff.1 h1).1
  have hdw : Below W.heap.size W W.drew := ⟨rfl, rfl, rfl, Nat.le_refl _, fun _ _ => rfl⟩
  have HB := Lib.hid (hb0.trans (hdw.mono hb0.size))
  have h1d : W.drew.heap[w.heap.size]? = _ := h1
  have hlt : w.heap.size < W.drew.heap.size := hlW
  obtain ⟨m0, m1, _, _⟩ := row2 h1d
  have H1 := Lib.hid h1d
  have HC := Lib.hid (fun (w' : World) (h : Below W.drew.heap.size W.drew w') => row2 ((h.block w.heap.size hlt).trans H1.out))
  have hf0 := HFREE.out W.drew (HV.out _ HB.out)
  clear h1 h1d hdw hb0
  go_region_with
    (first
      | (go_at_call 114; refine hf0.mono ?_; rintro e w2 ⟨g2, cap2, rfl, ho2, hb2⟩; have hia : IntsAt w2 (some ⟨g2, 0, none⟩) F := (by obtain ⟨Aq, cq, eq, hh⟩ := own_intsAt ho2; simp only [Value.slice.injEq] at eq; rw [eq.1]; exact hh); have hle := least_impl (some ⟨g2, 0, none⟩) cap2 F w2 hia hls; rw [HAA.out] at hle; obtain ⟨a0, a1, _, _⟩ := HC.out w2 hb2)
      | (go_at_call 113; refine hle.mono ?_; rintro e w3 ⟨rfl, hb3⟩; have hg3 := hb2.trans (hb3.mono hb2.size); obtain ⟨b0, b1, _, _⟩ := HC.out w3 hg3; have hrn := HREN1.out w3 (HV.out _ (HB.out.trans (hg3.mono HB.out.size))))
      | (go_at_call 112; refine hrn.mono ?_; rintro e w4 ⟨y, rfl, hy, hb4⟩; obtain ⟨fy, rfl⟩ := hy.iface; have hg4 := hg3.trans (hb4.mono hg3.size); obtain ⟨d0, d1, d2, d3⟩ := HC.out w4 hg4)
      | fail)
  all_goals
    have H4 := (hg4.block w.heap.size hlt).trans H1.out
    have k5 := set2_block (a := .int .i64 a) (b := .iface (fty l2) fy) H4
    have hl3 : w.heap.size < w3.heap.size := Nat.lt_of_lt_of_le hlt hg3.size
    have hy5 := ((hy.setOther ⟨w.heap.size, 0, none⟩ (.int .i64 a) (fun b hb e => by have e' : b = w.heap.size := e; omega)).setOther ⟨w.heap.size, 1, none⟩ (.iface (fty l2) fy) (fun b hb e => by have e' : b = w.heap.size := e; omega)).any
    have hb5 := ((HB.out.trans (hg4.mono HB.out.size)).setCell (p := ⟨w.heap.size, 0, none⟩) (Nat.le_refl w.heap.size) (.int .i64 a)).setCell (p := ⟨w.heap.size, 1, none⟩) (Nat.le_refl w.heap.size) (.iface (fty l2) fy)
    clear hf0 hle hrn ho2 hia hb2 hb3 hb4 hg3 hg4 hy a0 a1 b0 b1 d0 d1 d2 d3 m0 m1 H4 HC H1 HREN1 HFREE HV hl3
    generalize (w4.setCell ⟨w.heap.size, 0, none⟩ (.int .i64 a)).setCell ⟨w.heap.size, 1, none⟩ (.iface (fty l2) fy) = W5 at k5 hy5 hb5 ⊢
    have hdw : Below W5.heap.size W5 W5.drew := ⟨rfl, rfl, rfl, Nat.le_refl _, fun _ _ => rfl⟩
    have hk5 : W5.drew.heap[w.heap.size]? = _ := k5
    have hl5 : w.heap.size < W5.drew.heap.size := (Array.getElem?_eq_some_iff.1 hk5).1
    obtain ⟨t0, t1, _, _⟩ := row2 hk5
    have HK5 := Lib.hid hk5
    have HB5 := Lib.hid (hb5.trans (hdw.mono hb5.size))
    have hcn := HIH.out W5.drew _ _ (hy5.keep hdw)
    clear hdw hk5 k5 hy5 hb5
    go_wp2
    go_region_held3 (fun w' => w'.cell? ⟨w.heap.size, 0, none⟩ = some (.int .i64 a) ∧ w'.cell? ⟨w.heap.size, 1, none⟩ = some (.iface (fty l2) fy))
      (first | (with_reducible exact ⟨by assumption, by assumption⟩) | ((try dsimp only); exact ⟨by assumption, by assumption⟩) | go_keep)
      (first
        | (go_at_call 62; refine hcn.mono ?_; rintro e w6 ⟨v6, rfl, hv6, hb6⟩; obtain ⟨f6, rfl⟩ := hv6.iface; obtain ⟨u0, u1, _, _⟩ := row2 ((hb6.block w.heap.size hl5).trans HK5.out))
        | fail)
    have hpost : FormPost 0 (.mk 3 a [] [r]) w (.returned (.iface 147 (.agg #[.int .i64 a, .iface (fty r) f6]))) w6 :=
      ⟨_, rfl, .bind _ (hv6.kind fun b _ h => since_le h HB5.out.size), HB5.out.trans (hb6.mono HB5.out.size)⟩
    clear hcn hv6 hb6 HB5 HK5 HIH t0 t1 u0 u1
    go_wp2
    go_ret
    exact hpost

/-- The canonical form of a form without holes. -/
theorem canonical_any : ∀ (N : Nat) (t : Tm), szT t ≤ N → N ≤ 1000 → holesB t = false → ∀ M : Nat, M + 2 * N ≤ 1048576 → OkP M t → ∀ (q : Nat → Prop) (w : World) (T : TypeId) (y : Value), FIn w q (.iface T y) t → Calls Tryz.prog 62 #[.iface T y] w (FormPost 0 (canN N t) w) := by
  intro N
  induction N with
  | zero => intro t h; rw [szT_eq] at h; omega
  | succ N ih =>
    intro t hN h1000 hH M hM hP q w T y h
    obtain ⟨fx, e⟩ := h.iface
    injection e with e1 e2
    subst e1; subst e2
    rcases form_cases h with ⟨n, rfl, rfl⟩ | ⟨n, b, off, c', xs, ks, rfl, rfl, _, hb, hc, hxs⟩ | ⟨n, v, k, rfl, rfl, hk⟩ | ⟨n, A', c', r, rfl, rfl, hr, _⟩
    · rw [canN_1, gty_1]
      exact can_atom n w
    · rw [canN_2, gty_2]
      rw [szT_eq, kids_mk] at hN
      have hkl := len_szTs ks
      refine can_node N n b off c' xs ks q w hb hc hxs (by omega) fun i hi w' T y hy => ih (tmAt ks i) (by have := szT_at hi; omega) (by omega) (noHole_kid hH hi) M (by omega) (okP_at hP.2.2 hi) q w' T y hy
    · rw [gty_3]
      have hszk : szT (.mk 3 n [] [k]) = 1 + szT k := by simp [szT, szTs]
      rw [hszk] at hN
      have hHk : holesB k = false := noHole_kid (t := .mk 3 n [] [k]) (i := 0) hH (by simp [kids_mk])
      exact can_bind N n v k q w hk (by omega) (okP_le (by omega) hP.2.2.1) fun w' T y hy => ih _ (by rw [szT_actT]; omega) (by omega) (by rw [holesB_act]; exact hHk) (M + 2) (by omega) (okP_le (by have := sw_len n (leastF (freeT (.mk 3 n [] [k]))); omega) (okP_act _ hP.2.2.1)) AnyB w' T y hy
    · rw [holesB_eq, op_mk] at hH
      simp at hH


set_option maxRecDepth 100000 in
set_option maxHeartbeats 4000000 in
theorem canonicalTerm_impl (t : Tm) (x : Value) (w : World) (hx : TmIn w x t) (hc : cntT t ≤ 1048576) :
    Calls Tryz.prog 17 #[x] w (TmOutB (orT (canN 60 t) (groundB t)) (groundB t) w) := by
  have hf := fit_of t hc
  have hx' := hx
  obtain ⟨A, c, kv, rfl, hp, hk⟩ := hx
  obtain ⟨B, d, rfl⟩ := hk.form
  have hb0 : Below w.heap.size w ((w.alloc (.cells #[.int .i64 t.op, .int .i64 t.num, .slice A t.perm.length c, .slice B t.kids.length d] 31)).alloc (.cells #[.int .i64 0, .int .i64 0, .slice none 0 0, .slice none 0 0] 31)) := ((Below.refl _ _).alloc (Nat.le_refl _) _).alloc (by simp) _
  have hsz : ((w.alloc (.cells #[.int .i64 t.op, .int .i64 t.num, .slice A t.perm.length c, .slice B t.kids.length d] 31)).alloc (.cells #[.int .i64 0, .int .i64 0, .slice none 0 0, .slice none 0 0] 31)).heap.size = w.heap.size + 2 := by simp
  have HSZ := Lib.hid hsz
  obtain ⟨hres, hbox⟩ := box_row (Below.refl _ ((w.alloc (.cells #[.int .i64 t.op, .int .i64 t.num, .slice A t.perm.length c, .slice B t.kids.length d] 31)).alloc (.cells #[.int .i64 0, .int .i64 0, .slice none 0 0, .slice none 0 0] 31)))
  have HBX := Lib.hid hbox
  have HRS := Lib.hid hres
  clear hk hp hsz hbox hres
  have hgr := ground_impl t _ _ (hx'.below hb0) hf
  cases hg : groundB t with
  | false =>
    rw [hg] at hgr
    clear hx' hf hc
    go_enter Tryz.func17, Tryz.ntmps17
    go_wp2_with fail
    refine hgr.mono ?_
    rintro e w2 ⟨rfl, hb2⟩
    have hres2 := (hb2.block (w.heap.size + 1) (by rw [HSZ.out]; omega)).trans HRS.out
    have r0 : w2.cell? ⟨w.heap.size + 1, 0, none⟩ = some (.int .i64 0) := by rw [cell_of_row _ (w.heap.size + 1) 0 _ _ _ hres2]; rfl
    have r1 : w2.cell? ⟨w.heap.size + 1, 1, none⟩ = some (.int .i64 0) := by rw [cell_of_row _ (w.heap.size + 1) 1 _ _ _ hres2]; rfl
    have r2 : w2.cell? ⟨w.heap.size + 1, 2, none⟩ = some (.slice none 0 0) := by rw [cell_of_row _ (w.heap.size + 1) 2 _ _ _ hres2]; rfl
    have r3 : w2.cell? ⟨w.heap.size + 1, 3, none⟩ = some (.slice none 0 0) := by rw [cell_of_row _ (w.heap.size + 1) 3 _ _ _ hres2]; rfl
    have z0 : w2.frozen? ⟨w.heap.size + 1, 0, none⟩ = false := frozen_of_row _ (w.heap.size + 1) 0 _ _ hres2
    have z1 : w2.frozen? ⟨w.heap.size + 1, 1, none⟩ = false := frozen_of_row _ (w.heap.size + 1) 1 _ _ hres2
    have z2 : w2.frozen? ⟨w.heap.size + 1, 2, none⟩ = false := frozen_of_row _ (w.heap.size + 1) 2 _ _ hres2
    have z3 : w2.frozen? ⟨w.heap.size + 1, 3, none⟩ = false := frozen_of_row _ (w.heap.size + 1) 3 _ _ hres2
    have hbz := hb0.trans (hb2.mono hb0.size)
    have hpost : TmOutB tm0 false w (.returned (.tuple #[.agg #[.int .i64 0, .int .i64 0, .slice none 0 0, .slice none 0 0], .bool false])) ((((w2.setCell ⟨w.heap.size + 1, 0, none⟩ (.int .i64 0)).setCell ⟨w.heap.size + 1, 1, none⟩ (.int .i64 0)).setCell ⟨w.heap.size + 1, 2, none⟩ (.slice none 0 0)).setCell ⟨w.heap.size + 1, 3, none⟩ (.slice none 0 0)) :=
      ⟨none, 0, none, 0, _, rfl, own_four own_none own_nokids (fun b hb => by simp at hb), fun b hb => by simp at hb, set4_below hbz (by omega) _ _ _ _⟩
    clear hgr hb0 hb2 hres2 hbz HBX HRS HSZ
    go_wp2
    exact bodyPost_ret (v := .tuple #[.agg #[.int .i64 0, .int .i64 0, .slice none 0 0, .slice none 0 0], .bool false]) (by simp [results, Tryz.results17, go_sem, r0, r1, r2, r3]) rfl (by rw [orT_no]; exact hpost)
  | true =>
    rw [hg] at hgr
    have ht := ground_term hg
    have hfo := formOf_term t ht
    have hszt := term_size ht
    have hok := okP_good (term_good ht)
    have hcn := fun (W : World) (q : Nat → Prop) (T : TypeId) (y : Value) (hW : FIn W q (.iface T y) t) => canonical_any 60 t hszt (by decide) (ground_no hg) 40 (by decide) hok q W T y hW
    have hok2 := okP_canN 60 40 t hok
    have hszr := szT_canN 60 t
    rw [show orT (canN 60 t) true = canN 60 t from rfl]
    generalize canN 60 t = r at *
    have htm := fun (W : World) (q : Nat → Prop) (y : Value) (hW : FIn W q (.iface (fty r) y) r) => term_any (szT r) r (Nat.le_refl _) (by omega) (okP_le (by decide) hok2) q W y hW
    have hm := askTerm r
    have hn := enterTerm r
    clear hg ht hf hc hok hok2 hszr
    go_enter Tryz.func17, Tryz.ntmps17
    go_wp2_with fail
    refine hgr.mono ?_
    rintro e w2 ⟨rfl, hb2⟩
    have hbz2 := hb0.trans (hb2.mono hb0.size)
    have hbox2 := (hb2.block w.heap.size (by rw [HSZ.out]; omega)).trans HBX.out
    have b0 : w2.cell? ⟨w.heap.size, 0, none⟩ = some (.int .i64 t.op) := by rw [cell_of_row _ w.heap.size 0 _ _ _ hbox2]; rfl
    have b1 : w2.cell? ⟨w.heap.size, 1, none⟩ = some (.int .i64 t.num) := by rw [cell_of_row _ w.heap.size 1 _ _ _ hbox2]; rfl
    have b2 : w2.cell? ⟨w.heap.size, 2, none⟩ = some (.slice A t.perm.length c) := by rw [cell_of_row _ w.heap.size 2 _ _ _ hbox2]; rfl
    have b3 : w2.cell? ⟨w.heap.size, 3, none⟩ = some (.slice B t.kids.length d) := by rw [cell_of_row _ w.heap.size 3 _ _ _ hbox2]; rfl
    have hres2 := (hb2.block (w.heap.size + 1) (by rw [HSZ.out]; omega)).trans HRS.out
    have hlt2 : w.heap.size + 1 < w2.heap.size := by have := hb2.size; rw [HSZ.out] at this; omega
    have hfo2 := hfo w2 _ (hx'.below hbz2)
    clear hgr hfo hx' hbox2 hb2 hb0 HBX HRS HSZ
    go_wp2_with fail
    refine hfo2.mono ?_
    rintro e w4 ⟨fv, rfl, hfv, hb4⟩
    obtain ⟨fx, rfl⟩ := hfv.iface
    have hcn4 := hcn w4 _ _ fx hfv
    have hbz4 := hbz2.trans (hb4.mono hbz2.size)
    have hres4 := (hb4.block (w.heap.size + 1) hlt2).trans hres2
    have hlt4 := Nat.lt_of_lt_of_le hlt2 hb4.size
    generalize fty t = T at *
    clear hfo2 hcn hfv hb4 hbz2 hres2 b0 b1 b2 b3
    go_wp2_with fail
    refine hcn4.mono ?_
    rintro e w5 ⟨gv, rfl, hgv, hb5⟩
    obtain ⟨gx, rfl⟩ := hgv.iface
    have htm5 := htm w5 _ gx hgv
    have hbz5 := hbz4.trans (hb5.mono hbz4.size)
    have hres5 := (hb5.block (w.heap.size + 1) hlt4).trans hres4
    have hlt5 := Nat.lt_of_lt_of_le hlt4 hb5.size
    generalize termF r = F at hm hn htm5
    generalize fty r = T2 at *
    clear hcn4 htm hgv hb5 hbz4 hres4
    go_wp2_with fail
    refine htm5.mono ?_
    rintro e w6 ⟨A6, c6, B6, d6, S6, rfl, hL6, hS6, hb6⟩
    have hres6 := (hb6.block (w.heap.size + 1) hlt5).trans hres5
    have hbz6 := hbz5.trans (hb6.mono hbz5.size)
    have r0 : w6.cell? ⟨w.heap.size + 1, 0, none⟩ = some (.int .i64 0) := by rw [cell_of_row _ (w.heap.size + 1) 0 _ _ _ hres6]; rfl
    have r1 : w6.cell? ⟨w.heap.size + 1, 1, none⟩ = some (.int .i64 0) := by rw [cell_of_row _ (w.heap.size + 1) 1 _ _ _ hres6]; rfl
    have r2 : w6.cell? ⟨w.heap.size + 1, 2, none⟩ = some (.slice none 0 0) := by rw [cell_of_row _ (w.heap.size + 1) 2 _ _ _ hres6]; rfl
    have r3 : w6.cell? ⟨w.heap.size + 1, 3, none⟩ = some (.slice none 0 0) := by rw [cell_of_row _ (w.heap.size + 1) 3 _ _ _ hres6]; rfl
    have z0 : w6.frozen? ⟨w.heap.size + 1, 0, none⟩ = false := frozen_of_row _ (w.heap.size + 1) 0 _ _ hres6
    have z1 : w6.frozen? ⟨w.heap.size + 1, 1, none⟩ = false := frozen_of_row _ (w.heap.size + 1) 1 _ _ hres6
    have z2 : w6.frozen? ⟨w.heap.size + 1, 2, none⟩ = false := frozen_of_row _ (w.heap.size + 1) 2 _ _ hres6
    have z3 : w6.frozen? ⟨w.heap.size + 1, 3, none⟩ = false := frozen_of_row _ (w.heap.size + 1) 3 _ _ hres6
    have hpost : TmOutB r true w (.returned (.tuple #[.agg #[.int .i64 r.op, .int .i64 r.num, .slice A6 r.perm.length c6, .slice B6 r.kids.length d6], .bool true])) ((((w6.setCell ⟨w.heap.size + 1, 0, none⟩ (.int .i64 r.op)).setCell ⟨w.heap.size + 1, 1, none⟩ (.int .i64 r.num)).setCell ⟨w.heap.size + 1, 2, none⟩ (.slice A6 r.perm.length c6)).setCell ⟨w.heap.size + 1, 3, none⟩ (.slice B6 r.kids.length d6)) :=
      ⟨A6, c6, B6, d6, S6, rfl, set4_own hL6 (fun b hb => by have := hS6 b hb; omega) _ _ _ _, fun b hb => by have := hS6 b hb; omega, set4_below hbz6 (by omega) _ _ _ _⟩
    clear htm5 hm hn hL6 hS6 hb6 hres5 hres6 hbz5 hbz6
    go_wp2
    exact bodyPost_ret (v := .tuple #[.agg #[.int .i64 r.op, .int .i64 r.num, .slice A6 r.perm.length c6, .slice B6 r.kids.length d6], .bool true]) (by simp [results, Tryz.results17, go_sem, r0, r1, r2, r3]) rfl hpost

end Go.Proofs.YtbfkfklaplgebaaGreat
end

