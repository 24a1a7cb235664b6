/-
  The comparison of two forms without holes, in the program, as contracts. Canonical terms: plain words. The canonical form of a form, in the program, as a contract.
-/
import Derived.Test.YtddmoempagcjeaaGreatKCanonicalTerm17
import Derived.Test.YtddmoempagcjeaaGreatKCanonicalTerm18
import Derived.Test.YtddmoempagcjeaaGreatKCanonicalTerm19
import Derived.Test.YtddmoempagcjeaaGreatKCanonicalTerm11
import Derived.Test.YtddmoempagcjeaaGreatKCanonicalTerm6
section
namespace Go.Proofs.YtddmoempagcjeaaGreat
open Go.RowKit Go.Sort Go.ChangeShapes Go.WideShapes
set_option linter.unusedVariables false
attribute [local go_sem] ask_atom_atom ask_atom_node ask_atom_bind ask_atom_hole ask_node_atom ask_node_node ask_node_bind ask_node_hole ask_bind_atom ask_bind_node ask_bind_bind ask_bind_hole ask_hole_atom ask_hole_node ask_hole_bind ask_hole_hole

def frG (n : Int) (t : Tm) : Bool := !hasB (freeT t) n
def hoG (_ : Int) (_ : List (Int × Int)) (_ : Int) (_ : List (Int × Int)) : Bool := false

theorem gfield_bind (n : Int) (T : TypeId) (x : Value) (w : World) : (Instr.field 105 (.agg #[.int .i64 n, .iface T x]) 1).run Tryz.prog w = .ok (.iface T x) w := by kernel_rfl
attribute [local go_sem] gfield_bind

theorem gty_1 (m : Int) : fty (.mk 1 m [] []) = 100 := rfl
theorem gty_2 (m : Int) (ks : List Tm) : fty (.mk 2 m [] ks) = 103 := rfl
theorem gty_3 (m : Int) (k : Tm) : fty (.mk 3 m [] [k]) = 105 := rfl
theorem gty_4 (m : Int) (p : List (Int × Int)) : fty (.mk 4 m p []) = 75 := rfl
theorem gOk_1 (n : Int) (t : Tm) : eqOk frG hoG (.mk 1 n [] []) t = (decide (t.op = 1) && (n == t.num)) := by simp [eqOk]
theorem gOk_2 (n : Int) (ks : List Tm) (t : Tm) : eqOk frG hoG (.mk 2 n [] ks) t = (decide (t.op = 2) && ((n == t.num) && eqOks frG hoG ks t.kids)) := by simp [eqOk]
theorem gOk_3 (n : Int) (k : Tm) (t : Tm) : eqOk frG hoG (.mk 3 n [] [k]) t = (decide (t.op = 3) && (if n = t.num then eqOks frG hoG [k] t.kids else frG n (tmAt t.kids 0) && eqOks frG hoG [k] [actT (swapL t.num n) (tmAt t.kids 0)])) := by simp [eqOk]
theorem gOks_one (k l : Tm) : eqOks frG hoG [k] [l] = eqOk frG hoG k l := by simp [eqOks]

mutual
theorem holesB_act (p : List (Int × Int)) : ∀ t : Tm, holesB (actT p t) = holesB t
  | .mk o n q ks => by rw [actT, holesB, holesB, holesBs_act p ks]
theorem holesBs_act (p : List (Int × Int)) : ∀ ts : List Tm, holesBs (actTs p ts) = holesBs ts
  | [] => by simp [actTs]
  | t :: r => by rw [actTs, holesBs, holesBs, holesB_act p t, holesBs_act p r]
end
theorem ground_no {t : Tm} (h : groundB t = true) : holesB t = false := by
  unfold groundB at h
  simp only [Bool.and_eq_true] at h
  simpa using h.2
theorem noHole_kid {t : Tm} {i : Nat} (h : holesB t = false) (hi : i < t.kids.length) : holesB (tmAt t.kids i) = false := by
  cases hk : holesB (tmAt t.kids i) with
  | false => rfl
  | true =>
    rw [holesB_eq, holesBs_yes hi hk] at h
    simp at h

set_option maxRecDepth 100000 in
theorem lit1_any (t : Tm) (q : Nat → Prop) (a : Int) (fv : Value) (w : World) (hf : FIn w q fv t) (hsz : szT t ≤ 1048576) :
    Calls Tryz.prog 51 #[.int .i64 a, fv] w (BoolPost (frG a t) w) := by
  have h := isFreeIn_any t q a fv w hf hsz
  obtain ⟨fx, rfl⟩ := hf.iface
  unfold frG
  clear hf hsz
  generalize hasB (freeT t) a = r at h ⊢
  generalize fty t = T at *
  go_enter Tryz.func51, Tryz.ntmps51
  go_wp2_with fail
  refine h.mono ?_
  rintro e w2 ⟨rfl, hb⟩
  clear h
  cases r with
  | true =>
    go_wp2
    go_ret
    exact ⟨rfl, hb⟩
  | false =>
    go_wp2
    go_ret
    exact ⟨rfl, hb⟩

theorem bel3 (w : World) (o1 o2 o3 : Obj) : Below w.heap.size w (((w.alloc o1).alloc o2).alloc o3) :=
  (((Below.refl _ w).alloc (Nat.le_refl _) _).alloc (by simp) _).alloc (by simp; omega) _

set_option maxRecDepth 100000 in
set_option maxHeartbeats 2000000 in
theorem gAtom (n : Int) (u : Value) (t : Tm) (w : World) (hu : FIn w AnyB u t) :
    Calls Tryz.prog 55 #[(.agg #[.func (.func 51) #[] #[], .func (.func 53) #[] #[]]), .iface 100 (.agg #[.int .i64 n]), u] w (BoolPost (eqOk frG hoG (.mk 1 n [] []) t) w) := by
  rw [gOk_1]
  obtain ⟨fx, rfl⟩ := hu.iface
  rcases form_cases hu with ⟨m, rfl, rfl⟩ | ⟨m, b1, off, c, xs, ks, rfl, rfl, _, _, _, _⟩ | ⟨m, v, k, rfl, rfl, _⟩ | ⟨m, A, c, p, rfl, rfl, _, _⟩
  · rw [op_mk, num_mk, gty_1]
    clear hu
    by_cases h : n = m
    · subst h
      rw [show (decide ((1 : Int) = 1) && (n == n)) = true by simp]
      go_enter Tryz.func55, Tryz.ntmps55
      go_wp2
      go_ret
      exact ⟨rfl, bel3 _ _ _ _⟩
    · have hq : (n == m) = false := by simp [h]
      rw [show (decide ((1 : Int) = 1) && (n == m)) = false by simp [h]]
      go_enter Tryz.func55, Tryz.ntmps55
      go_wp2
      go_ret
      exact ⟨rfl, bel3 _ _ _ _⟩
  all_goals
    rw [op_mk]
    first | rw [gty_2] | rw [gty_3] | rw [gty_4]
    rw [show (decide (_ = (1 : Int)) && _) = false by simp]
    clear hu
    go_enter Tryz.func55, Tryz.ntmps55
    go_wp2
    go_ret
    exact ⟨rfl, bel3 _ _ _ _⟩

set_option maxRecDepth 100000 in
set_option maxHeartbeats 2000000 in
theorem gEqual (b1 o1 c1 b2 o2 c2 : Nat) (xs ys : List Value) (ks ls : List Tm) (w : World)
    (hbl1 : b1 < w.heap.size) (hc1 : ∀ j u, xs[j]? = some u → w.cell? ⟨b1, o1 + j, none⟩ = some u) (hxs : FsIn w AnyB xs ks)
    (hbl2 : b2 < w.heap.size) (hc2 : ∀ j u, ys[j]? = some u → w.cell? ⟨b2, o2 + j, none⟩ = some u) (hys : FsIn w AnyB ys ls)
    (hl1 : ks.length ≤ 1048576) (hl2 : ls.length ≤ 1048576)
    (ih : ∀ i, i < ks.length → i < ls.length → ∀ (w' : World) (v u : Value), FIn w' AnyB v (tmAt ks i) → FIn w' AnyB u (tmAt ls i) → Calls Tryz.prog 55 #[(.agg #[.func (.func 51) #[] #[], .func (.func 53) #[] #[]]), v, u] w' (BoolPost (eqOk frG hoG (tmAt ks i) (tmAt ls i)) w')) :
    Calls Tryz.prog 91 #[.slice (some ⟨b1, o1, none⟩) ks.length c1, .slice (some ⟨b2, o2, none⟩) ls.length c2, .func (.func 55) #[(.agg #[.func (.func 51) #[] #[], .func (.func 53) #[] #[]])] #[]] w (BoolPost (eqOks frG hoG ks ls) w) := by
  by_cases hlen : ks.length = ls.length
  · have hq0 : (ks.length != ls.length) = false := by simp [hlen]
    have hq1 : ((ks.length : Int) != (ls.length : Int)) = false := by simp [hlen]
    have hq2 : ((ks.length : Int) == (ls.length : Int)) = true := by simp [hlen]
    have HLEN := Lib.hid hlen
    clear hlen
    go_enter Tryz.func91, Tryz.ntmps91
    go_wp2
    go_loopw [7, 8, 9, 17] (fun _ _ _ i wr => ∃ k : Nat, k ≤ ks.length ∧ i = .int .i64 k ∧ Hid (eqOks frG hoG (ks.take k) (ls.take k) = true) ∧ Below w.heap.size w wr) (fun _ _ _ i _ => ks.length - (intOf i).toNat)
    case atStart => exact ⟨0, Nat.zero_le _, rfl, Lib.hid (by simp [eqOks]), Below.refl _ _⟩
    case round =>
      obtain ⟨k, hk, rfl, hq, hb⟩ := hrel
      by_cases hlt : k < ks.length
      · have hlt2 : k < ls.length := by have := HLEN.out; omega
        obtain ⟨u, hu, hfu⟩ := hxs.get k hlt
        obtain ⟨v, hv, hfv⟩ := hys.get k hlt2
        have d1 := (hb.cell (p := ⟨b1, o1 + k, none⟩) hbl1).trans (hc1 k _ hu)
        have d2 := (hb.cell (p := ⟨b2, o2 + k, none⟩) hbl2).trans (hc2 k _ hv)
        have hct := ih k hlt hlt2 wr u v (hfu.keep hb) (hfv.keep hb)
        obtain ⟨fx, rfl⟩ := hfu.iface
        obtain ⟨fy, rfl⟩ := hfv.iface
        have HN2 := Lib.hid (eqOks_take frG hoG hlt hlt2)
        have HN4 := Lib.hid (fun h => eqOks_no frG hoG hlt hlt2 h)
        generalize fty (tmAt ks k) = T1 at hct d1
        generalize fty (tmAt ls k) = T2 at hct d2
        generalize eqOk frG hoG (tmAt ks k) (tmAt ls k) = ok at hct HN2 HN4
        clear hu hv hfu hfv hc1 hc2 hxs hys ih
        cases ok with
        | true =>
          have hq3 : Hid (eqOks frG hoG (ks.take (k + 1)) (ls.take (k + 1)) = true) := Lib.hid (by rw [HN2.out, hq.out]; rfl)
          go_wp2_with (go_at_call 55; refine hct.mono ?_; rintro e w2 ⟨rfl, hb2⟩)
          have hb3 := hb.trans (hb2.mono hb.size)
          clear hct hb2 d1 d2 HN2 HN4 hb hq
          refine ⟨⟨k + 1, by omega, by go_num, hq3, hb3⟩, ?_⟩
          simp only [intOf]
          omega
        | false =>
          have hno : Hid (eqOks frG hoG ks ls = false) := Lib.hid (HN4.out rfl)
          go_wp2_with (go_at_call 55; refine hct.mono ?_; rintro e w2 ⟨rfl, hb2⟩)
          have hpost : BoolPost (eqOks frG hoG ks ls) w (.returned (.bool false)) w2 := ⟨by rw [hno.out], hb.trans (hb2.mono hb.size)⟩
          clear hct hb2 d1 d2 HN2 HN4 hb hq hno
          go_ret
          exact hpost
      · have e : k = ks.length := by omega
        have e2 : k = ls.length := by have := HLEN.out; omega
        have hq' := hq.out
        rw [List.take_of_length_le (show ks.length ≤ k by omega), List.take_of_length_le (show ls.length ≤ k by omega)] at hq'
        have hpost : BoolPost (eqOks frG hoG ks ls) w (.returned (.bool true)) wr := ⟨by rw [hq'], hb⟩
        clear hq hq' hb hc1 hc2 hxs hys ih
        go_wp2
        go_ret
        exact hpost
  · have hq1 : ((ks.length : Int) != (ls.length : Int)) = true := by simp; omega
    have hno := eqOks_len frG hoG (ks := ks) (ls := ls) hlen
    have hpost : BoolPost (eqOks frG hoG ks ls) w (.returned (.bool false)) w := ⟨by rw [hno], Below.refl _ _⟩
    have hlen' : ¬ (ks.length : Int) = (ls.length : Int) := by omega
    clear hc1 hc2 hxs hys ih hno hlen
    go_enter Tryz.func91, Tryz.ntmps91
    go_wp2
    go_ret
    exact hpost

set_option maxRecDepth 100000 in
set_option maxHeartbeats 2000000 in
theorem gNode (n : Int) (b1 o1 c1 : Nat) (xs : List Value) (ks : List Tm) (u : Value) (t : Tm) (w : World) (hu : FIn w AnyB u t)
    (hbl1 : b1 < w.heap.size) (hc1 : ∀ j u, xs[j]? = some u → w.cell? ⟨b1, o1 + j, none⟩ = some u) (hxs : FsIn w AnyB xs ks)
    (hl1 : ks.length ≤ 1048576) (hl2 : szT t ≤ 1048576)
    (ih : ∀ i, i < ks.length → i < t.kids.length → ∀ (w' : World) (v u : Value), FIn w' AnyB v (tmAt ks i) → FIn w' AnyB u (tmAt t.kids i) → Calls Tryz.prog 55 #[(.agg #[.func (.func 51) #[] #[], .func (.func 53) #[] #[]]), v, u] w' (BoolPost (eqOk frG hoG (tmAt ks i) (tmAt t.kids i)) w')) :
    Calls Tryz.prog 55 #[(.agg #[.func (.func 51) #[] #[], .func (.func 53) #[] #[]]), .iface 103 (.agg #[.int .i64 n, .slice (some ⟨b1, o1, none⟩) ks.length c1]), u] w (BoolPost (eqOk frG hoG (.mk 2 n [] ks) t) w) := by
  rw [gOk_2]
  obtain ⟨fx, rfl⟩ := hu.iface
  rcases form_cases hu with ⟨m, rfl, rfl⟩ | ⟨m, b2, o2, c2, ys, ls, rfl, rfl, hb2, hbl2, hc2, hys⟩ | ⟨m, v, k, rfl, rfl, _⟩ | ⟨m, B, d, q, rfl, rfl, _, _⟩
  case inr.inl =>
    rw [op_mk, num_mk, kids_mk]
    rw [kids_mk] at ih
    rw [gty_2]
    by_cases h : n = m
    · subst h
      rw [show (decide ((2 : Int) = 2) && ((n == n) && eqOks frG hoG ks ls)) = eqOks frG hoG ks ls by simp]
      rw [szT_eq, kids_mk] at hl2
      have hb := bel3 w (.cells #[.func (.func 51) #[] #[], .func (.func 53) #[] #[]] 78) (.cells #[.int .i64 n, .slice (some ⟨b1, o1, none⟩) ks.length c1] 103) (.cells #[.int .i64 n, .slice (some ⟨b2, o2, none⟩) ls.length c2] 103)
      have hov : Over w _ AnyB AnyB := ⟨hb.size, fun x _ hx => hb.block x hx, fun _ h _ => h⟩
      have hct := gEqual b1 o1 c1 b2 o2 c2 xs ys ks ls _ (Nat.lt_of_lt_of_le hbl1 hb.size) (fun j u hj => (hb.cell (p := ⟨b1, o1 + j, none⟩) hbl1).trans (hc1 j u hj)) (hxs.over hov)
        (Nat.lt_of_lt_of_le hbl2 hb.size) (fun j u hj => (hb.cell (p := ⟨b2, o2 + j, none⟩) hbl2).trans (hc2 j u hj)) (hys.over hov) hl1 (by have := len_szTs ls; omega) ih
      have HG := Lib.hid hb
      generalize eqOks frG hoG ks ls = r at hct ⊢
      have hnn : (n == n) = true := by simp
      clear hu hbl1 hc1 hxs hb2 hbl2 hc2 hys hl1 hl2 ih hb hov
      go_enter Tryz.func55, Tryz.ntmps55
      go_wp2_with (go_at_call 91; refine hct.mono ?_; rintro e w2 ⟨rfl, hb2⟩)
      go_ret
      exact ⟨rfl, HG.out.trans (hb2.mono HG.out.size)⟩
    · have hq : (n == m) = false := by simp [h]
      rw [show (decide ((2 : Int) = 2) && ((n == m) && eqOks frG hoG ks ls)) = false by simp [hq]]
      clear hu hbl1 hc1 hxs hb2 hbl2 hc2 hys hl1 hl2 ih
      go_enter Tryz.func55, Tryz.ntmps55
      go_wp2
      go_ret
      exact ⟨rfl, bel3 _ _ _ _⟩
  all_goals
    rw [op_mk]
    first | rw [gty_1] | rw [gty_3] | rw [gty_4]
    rw [show (decide (_ = (2 : Int)) && _) = false by simp]
    clear hu hbl1 hc1 hxs hl1 hl2 ih
    go_enter Tryz.func55, Tryz.ntmps55
    go_wp2
    go_ret
    exact ⟨rfl, bel3 _ _ _ _⟩

def gbOk (n : Int) (k : Tm) (m : Int) (l : Tm) : Bool := if n = m then eqOk frG hoG k l else frG n l && eqOk frG hoG k (actT (swapL m n) l)

set_option maxRecDepth 100000 in
set_option maxHeartbeats 4000000 in
theorem gBinders (n m : Int) (v u : Value) (k l : Tm) (w : World) (hv : FIn w AnyB v k) (hu : FIn w AnyB u l) (hsz : szT l ≤ 1048576) (hP : OkP 1048576 l)
    (ihE : n = m → ∀ (w' : World) (v u : Value), FIn w' AnyB v k → FIn w' AnyB u l → Calls Tryz.prog 55 #[(.agg #[.func (.func 51) #[] #[], .func (.func 53) #[] #[]]), v, u] w' (BoolPost (eqOk frG hoG k l) w'))
    (ihN : n ≠ m → ∀ (w' : World) (v u : Value), FIn w' AnyB v k → FIn w' AnyB u (actT (swapL m n) l) → Calls Tryz.prog 55 #[(.agg #[.func (.func 51) #[] #[], .func (.func 53) #[] #[]]), v, u] w' (BoolPost (eqOk frG hoG k (actT (swapL m n) l)) w')) :
    Calls Tryz.prog 92 #[(.agg #[.func (.func 51) #[] #[], .func (.func 53) #[] #[]]), .agg #[.int .i64 n, v], .agg #[.int .i64 m, u]] w (BoolPost (gbOk n k m l) w) := by
  obtain ⟨fx, rfl⟩ := hv.iface
  obtain ⟨fy, rfl⟩ := hu.iface
  have hb := bel3 w (.cells #[.func (.func 51) #[] #[], .func (.func 53) #[] #[]] 78) (.cells #[.int .i64 n, .iface (fty k) fx] 105) (.cells #[.int .i64 m, .iface (fty l) fy] 105)
  have k0 : (((w.alloc (.cells #[.func (.func 51) #[] #[], .func (.func 53) #[] #[]] 78)).alloc (.cells #[.int .i64 n, .iface (fty k) fx] 105)).alloc (.cells #[.int .i64 m, .iface (fty l) fy] 105)).heap[w.heap.size]? = some (.cells #[.func (.func 51) #[] #[], .func (.func 53) #[] #[]] 78 (0, 0)) :=
    (Below.heap_alloc _ _ _ (by simp; omega)).trans ((Below.heap_alloc _ _ _ (by simp)).trans (heap_alloc_new w _))
  have k1 : (((w.alloc (.cells #[.func (.func 51) #[] #[], .func (.func 53) #[] #[]] 78)).alloc (.cells #[.int .i64 n, .iface (fty k) fx] 105)).alloc (.cells #[.int .i64 m, .iface (fty l) fy] 105)).heap[w.heap.size + 1]? = some (.cells #[.int .i64 n, .iface (fty k) fx] 105 (0, 0)) := by
    have h := heap_alloc_new (w.alloc (.cells #[.func (.func 51) #[] #[], .func (.func 53) #[] #[]] 78)) (.cells #[.int .i64 n, .iface (fty k) fx] 105)
    rw [World.size_alloc] at h
    exact (Below.heap_alloc _ _ _ (by simp)).trans h
  have k2 : (((w.alloc (.cells #[.func (.func 51) #[] #[], .func (.func 53) #[] #[]] 78)).alloc (.cells #[.int .i64 n, .iface (fty k) fx] 105)).alloc (.cells #[.int .i64 m, .iface (fty l) fy] 105)).heap[w.heap.size + 1 + 1]? = some (.cells #[.int .i64 m, .iface (fty l) fy] 105 (0, 0)) := by
    have h := heap_alloc_new ((w.alloc (.cells #[.func (.func 51) #[] #[], .func (.func 53) #[] #[]] 78)).alloc (.cells #[.int .i64 n, .iface (fty k) fx] 105)) (.cells #[.int .i64 m, .iface (fty l) fy] 105)
    rw [World.size_alloc, World.size_alloc] at h
    exact h
  have hv3 := hv.keep hb
  have hu3 := hu.keep hb
  have HG := Lib.hid hb
  have hsz3 : (((w.alloc (.cells #[.func (.func 51) #[] #[], .func (.func 53) #[] #[]] 78)).alloc (.cells #[.int .i64 n, .iface (fty k) fx] 105)).alloc (.cells #[.int .i64 m, .iface (fty l) fy] 105)).heap.size = w.heap.size + 3 := by simp
  obtain ⟨c0, c1, _, _⟩ := row2 k0
  obtain ⟨c2, c3, _, _⟩ := row2 k1
  obtain ⟨c4, c5, _, _⟩ := row2 k2
  by_cases hnm : n = m
  · subst hnm
    have hr : gbOk n k n l = eqOk frG hoG k l := by unfold gbOk; rw [if_pos rfl]
    rw [hr]
    have hct := ihE rfl _ _ _ hv3 hu3
    have hq : (n == n) = true := by simp
    generalize eqOk frG hoG k l = r at hct ⊢
    generalize fty k = T1 at *
    generalize fty l = T2 at *
    clear hv hu hv3 hu3 ihE ihN hr hP k0 k1 k2 hb hsz3
    go_enter Tryz.func92, Tryz.ntmps92
    go_wp2_with (go_at_call 55; refine hct.mono ?_; rintro e w2 ⟨rfl, hb2⟩)
    go_ret
    exact ⟨rfl, HG.out.trans (hb2.mono HG.out.size)⟩
  · have hr : gbOk n k m l = (frG n l && eqOk frG hoG k (actT (swapL m n) l)) := by unfold gbOk; rw [if_neg hnm]
    rw [hr]
    have hq : (n == m) = false := by simp [hnm]
    have hadd := fun (W : World) (hW : FIn W AnyB (.iface (fty l) fy) l) => lit1_any l AnyB n _ W hW hsz
    have hren := fun (W : World) (hW : FIn W AnyB (.iface (fty l) fy) l) => renamed_any m n _ l _ W hW hsz hP
    have hih := fun (W : World) (y : Value) hV hU => ihN hnm W (.iface (fty k) fx) y hV hU
    generalize frG n l = o1 at *
    generalize eqOk frG hoG k (actT (swapL m n) l) = r at *
    generalize actT (swapL m n) l = l2 at *
    generalize fty k = T1 at *
    generalize fty l = T2 at *
    clear hv hu ihE ihN hr hP k0 k1 k2 hsz
    go_enter Tryz.func92, Tryz.ntmps92
    go_wp2
    generalize (((w.alloc (.cells #[.func (.func 51) #[] #[], .func (.func 53) #[] #[]] 78)).alloc (.cells #[.int .i64 n, .iface (T1) fx] 105)).alloc (.cells #[.int .i64 m, .iface (T2) fy] 105)) = W at hb hv3 hu3 HG hsz3 c0 c1 c2 c3 c4 c5 ⊢
    have hdw : Below W.heap.size W W.drew := ⟨rfl, rfl, rfl, Nat.le_refl _, fun _ _ => rfl⟩
    have hcadd := hadd W.drew (hu3.keep hdw)
    have HC : Hid (∀ w2, Below W.drew.heap.size W.drew w2 → w2.cell? ⟨w.heap.size, 0, none⟩ = some (.func (.func 51) #[] #[]) ∧ w2.cell? ⟨w.heap.size, 1, none⟩ = some (.func (.func 53) #[] #[]) ∧ w2.cell? ⟨w.heap.size + 1, 0, none⟩ = some (.int .i64 n) ∧ w2.cell? ⟨w.heap.size + 1, 1, none⟩ = some (.iface T1 fx) ∧ w2.cell? ⟨w.heap.size + 1 + 1, 0, none⟩ = some (.int .i64 m) ∧ w2.cell? ⟨w.heap.size + 1 + 1, 1, none⟩ = some (.iface T2 fy)) := Lib.hid fun w2 hg => ⟨(hg.cell (p := ⟨w.heap.size, 0, none⟩) (show w.heap.size < W.drew.heap.size from by show w.heap.size < W.heap.size; omega)).trans c0, (hg.cell (p := ⟨w.heap.size, 1, none⟩) (show w.heap.size < W.drew.heap.size from by show w.heap.size < W.heap.size; omega)).trans c1, (hg.cell (p := ⟨w.heap.size + 1, 0, none⟩) (show w.heap.size + 1 < W.drew.heap.size from by show w.heap.size + 1 < W.heap.size; omega)).trans c2, (hg.cell (p := ⟨w.heap.size + 1, 1, none⟩) (show w.heap.size + 1 < W.drew.heap.size from by show w.heap.size + 1 < W.heap.size; omega)).trans c3, (hg.cell (p := ⟨w.heap.size + 1 + 1, 0, none⟩) (show w.heap.size + 1 + 1 < W.drew.heap.size from by show w.heap.size + 1 + 1 < W.heap.size; omega)).trans c4, (hg.cell (p := ⟨w.heap.size + 1 + 1, 1, none⟩) (show w.heap.size + 1 + 1 < W.drew.heap.size from by show w.heap.size + 1 + 1 < W.heap.size; omega)).trans c5⟩
    have HV : Hid (∀ w2, Below W.drew.heap.size W.drew w2 → FIn w2 AnyB (.iface T1 fx) k ∧ FIn w2 AnyB (.iface T2 fy) l) := Lib.hid fun w2 hg =>
      ⟨(hv3.keep hdw).keep hg, (hu3.keep hdw).keep hg⟩
    obtain ⟨m0, m1, m2, m3, m4, m5⟩ := HC.out W.drew (Below.refl _ _)
    have HGW : Hid (∀ w2, Below W.drew.heap.size W.drew w2 → Below w.heap.size w w2) := Lib.hid fun w2 hg => (HG.out.trans (hdw.mono HG.out.size)).trans (hg.mono (Nat.le_trans HG.out.size hdw.size))
    have HREN := Lib.hid hren
    have HIH := Lib.hid hih
    clear hadd hren hih hb hv3 hu3 HG hsz3 c0 c1 c2 c3 c4 c5 hdw
    cases o1 with
    | true =>
      go_region_held3 (fun w' => w'.cell? ⟨w.heap.size, 0, none⟩ = some (.func (.func 51) #[] #[]) ∧ w'.cell? ⟨w.heap.size, 1, none⟩ = some (.func (.func 53) #[] #[]) ∧ w'.cell? ⟨w.heap.size + 1, 0, none⟩ = some (.int .i64 n) ∧ w'.cell? ⟨w.heap.size + 1, 1, none⟩ = some (.iface T1 fx) ∧ w'.cell? ⟨w.heap.size + 1 + 1, 0, none⟩ = some (.int .i64 m) ∧ w'.cell? ⟨w.heap.size + 1 + 1, 1, none⟩ = some (.iface T2 fy))
        (first | (with_reducible exact ⟨by assumption, by assumption, by assumption, by assumption, by assumption, by assumption⟩) | ((try dsimp only); exact ⟨by assumption, by assumption, by assumption, by assumption, by assumption, by assumption⟩) | go_keep)
        (first
          | (go_at_call 51; refine hcadd.mono ?_; rintro e w2 ⟨rfl, g4⟩; obtain ⟨a0, a1, a2, a3, a4, a5⟩ := HC.out w2 g4; have hcr := HREN.out w2 (HV.out w2 g4).2)
          | (go_at_call 96; refine hcr.mono ?_; rintro e w3 ⟨y, rfl, hy, hb3⟩; obtain ⟨fz, rfl⟩ := hy.iface; have hg3 := g4.trans (hb3.mono g4.size); obtain ⟨r0, r1, r2, r3, r4, r5⟩ := HC.out w3 hg3; have hct := HIH.out w3 _ (HV.out w3 hg3).1 hy.any)
          | (go_at_call 55; refine hct.mono ?_; rintro e w4 ⟨rfl, j4⟩; have hg4 := hg3.trans (j4.mono hg3.size); obtain ⟨s0, s1, s2, s3, s4, s5⟩ := HC.out w4 hg4)
          | fail)
      have hpost : BoolPost (true && r) w (.returned (.bool r)) w4 := ⟨by rw [Bool.true_and], HGW.out w4 hg4⟩
      clear hcadd hcr hct HC HV HGW HREN HIH g4 hy hb3 hg3 j4 hg4 m0 m1 m2 m3 m4 m5 a0 a1 a2 a3 a4 a5 r0 r1 r2 r3 r4 r5 s0 s1 s2 s3 s4 s5
      go_wp2
      go_ret
      exact hpost
    | false =>
      refine wp_region_held_drew (S := (fun w' => w'.cell? ⟨w.heap.size, 0, none⟩ = some (.func (.func 51) #[] #[]) ∧ w'.cell? ⟨w.heap.size, 1, none⟩ = some (.func (.func 53) #[] #[]) ∧ w'.cell? ⟨w.heap.size + 1, 0, none⟩ = some (.int .i64 n) ∧ w'.cell? ⟨w.heap.size + 1, 1, none⟩ = some (.iface T1 fx) ∧ w'.cell? ⟨w.heap.size + 1 + 1, 0, none⟩ = some (.int .i64 m) ∧ w'.cell? ⟨w.heap.size + 1 + 1, 1, none⟩ = some (.iface T2 fy))) (by kernel_rfl) ⟨m0, m1, m2, m3, m4, m5⟩ (fun hHeld => ?_)
      refine wpAnyH_take (i := 0) (v := ?vv0) rfl (by kernel_rfl) (by kernel_rfl) (by kernel_rfl) (fun _ _ _ h => h) (Or.inl ⟨by rfl, ?hy0⟩) (by assumption) ?rest0
      case hy0 => (intro w hSw; (try dsimp only at hSw); go_simp; (try with_reducible rfl))
      (try simp only [Act.put, List.getElem_toArray, List.getElem_cons_zero, List.setIfInBounds_toArray, List.set_cons_zero, List.set_cons_succ])
      refine wpAnyH_take (i := 1) (v := ?vv1) rfl (by kernel_rfl) (by kernel_rfl) (by kernel_rfl) (fun _ _ _ h => h) (Or.inl ⟨by rfl, ?hy1⟩) (by assumption) ?rest1
      case hy1 => (intro w hSw; (try dsimp only at hSw); go_simp; (try with_reducible rfl))
      (try simp only [Act.put, List.getElem_toArray, List.getElem_cons_zero, List.getElem_cons_succ, List.setIfInBounds_toArray, List.set_cons_zero, List.set_cons_succ])
      refine wpAnyH_take (i := 2) (v := ?vv2) rfl (by kernel_rfl) (by kernel_rfl) (by kernel_rfl) (fun _ _ _ h => h) (Or.inl ⟨by rfl, ?hy2⟩) (by assumption) ?rest2
      case hy2 => (intro w hSw; (try dsimp only at hSw); go_simp; (try with_reducible rfl))
      (try simp only [Act.put, List.getElem_toArray, List.getElem_cons_zero, List.getElem_cons_succ, List.setIfInBounds_toArray, List.set_cons_zero, List.set_cons_succ])
      refine wpAnyH_take (i := 3) (v := ?vv3) rfl (by kernel_rfl) (by kernel_rfl) (by kernel_rfl) (fun _ _ _ h => h) (Or.inl ⟨by rfl, ?hy3⟩) (by assumption) ?rest3
      case hy3 => (intro w hSw; (try dsimp only at hSw); go_simp; (try with_reducible rfl))
      (try simp only [Act.put, List.getElem_toArray, List.getElem_cons_zero, List.getElem_cons_succ, List.setIfInBounds_toArray, List.set_cons_zero, List.set_cons_succ])
      refine wpAnyH_take (i := 4) (v := ?vv4) rfl (by kernel_rfl) (by kernel_rfl) (by kernel_rfl) (fun _ _ _ h => h) (Or.inl ⟨by rfl, ?hy4⟩) (by assumption) ?rest4
      case hy4 => (intro w hSw; (try dsimp only at hSw); go_simp; (try with_reducible rfl))
      (try simp only [Act.put, List.getElem_toArray, List.getElem_cons_zero, List.getElem_cons_succ, List.setIfInBounds_toArray, List.set_cons_zero, List.set_cons_succ])
      refine wpAnyH_take (i := 5) (v := ?vv5) rfl (by kernel_rfl) (by kernel_rfl) (by kernel_rfl) (fun _ _ _ h => h) (Or.inl ⟨by rfl, ?hy5⟩) (by assumption) ?rest5
      case hy5 => (intro w hSw; (try dsimp only at hSw); go_simp; (try with_reducible rfl))
      (try simp only [Act.put, List.getElem_toArray, List.getElem_cons_zero, List.getElem_cons_succ, List.setIfInBounds_toArray, List.set_cons_zero, List.set_cons_succ])
      refine wpAnyH_ready (rs := [6]) (by kernel_rfl) (by simp) ?_
      refine AllReadyH.cons rfl (fun K hK => ?_) AllReadyH.nil
      go_simp
      go_at_call 51
      refine hcadd.mono ?_
      rintro e w2 ⟨rfl, g4⟩
      (try go_wp2_with fail)
      refine hK.out _ _ (HC.out w2 g4) (fun hHeld => ?_)
      clear hK K
      (try simp only [Act.put, List.getElem_toArray, List.getElem_cons_zero, List.getElem_cons_succ, List.setIfInBounds_toArray, List.set_cons_zero, List.set_cons_succ])
      refine wpAnyH_take (i := 7) (v := ?vv7) rfl (by kernel_rfl) (by kernel_rfl) (by kernel_rfl) (fun _ _ _ h => h) (Or.inl ⟨by rfl, ?hy7⟩) (by assumption) ?rest7
      case hy7 => (intro w hSw; (try dsimp only at hSw); go_simp; (try with_reducible rfl))
      (try simp only [Act.put, List.getElem_toArray, List.getElem_cons_zero, List.getElem_cons_succ, List.setIfInBounds_toArray, List.set_cons_zero, List.set_cons_succ])
      refine wpAnyH_take (i := 8) rfl (by kernel_rfl) (by kernel_rfl) (by kernel_rfl) (fun _ _ _ h => h) (Or.inr ⟨by rfl, rfl⟩) (by assumption) ?_
      (try simp only [Act.put, List.getElem_toArray, List.getElem_cons_zero, List.getElem_cons_succ, List.setIfInBounds_toArray, List.set_cons_zero, List.set_cons_succ])
      refine wpAnyH_take (i := 9) rfl (by kernel_rfl) (by kernel_rfl) (by kernel_rfl) (fun _ _ _ h => h) (Or.inr ⟨by rfl, rfl⟩) (by assumption) ?_
      (try simp only [Act.put, List.getElem_toArray, List.getElem_cons_zero, List.getElem_cons_succ, List.setIfInBounds_toArray, List.set_cons_zero, List.set_cons_succ])
      refine wpAnyH_take (i := 10) rfl (by kernel_rfl) (by kernel_rfl) (by kernel_rfl) (fun _ _ _ h => h) (Or.inr ⟨by rfl, rfl⟩) (by assumption) ?_
      (try simp only [Act.put, List.getElem_toArray, List.getElem_cons_zero, List.getElem_cons_succ, List.setIfInBounds_toArray, List.set_cons_zero, List.set_cons_succ])
      refine wpAnyH_take (i := 11) rfl (by kernel_rfl) (by kernel_rfl) (by kernel_rfl) (fun _ _ _ h => h) (Or.inr ⟨by rfl, rfl⟩) (by assumption) ?_
      (try simp only [Act.put, List.getElem_toArray, List.getElem_cons_zero, List.getElem_cons_succ, List.setIfInBounds_toArray, List.set_cons_zero, List.set_cons_succ])
      refine wpAnyH_take (i := 12) rfl (by kernel_rfl) (by kernel_rfl) (by kernel_rfl) (fun _ _ _ h => h) (Or.inr ⟨by rfl, rfl⟩) (by assumption) ?_
      (try simp only [Act.put, List.getElem_toArray, List.getElem_cons_zero, List.getElem_cons_succ, List.setIfInBounds_toArray, List.set_cons_zero, List.set_cons_succ])
      refine wpAnyH_take (i := 13) rfl (by kernel_rfl) (by kernel_rfl) (by kernel_rfl) (fun _ _ _ h => h) (Or.inr ⟨by rfl, rfl⟩) (by assumption) ?_
      (try simp only [Act.put, List.getElem_toArray, List.getElem_cons_zero, List.getElem_cons_succ, List.setIfInBounds_toArray, List.set_cons_zero, List.set_cons_succ])
      refine wpAnyH_take (i := 14) rfl (by kernel_rfl) (by kernel_rfl) (by kernel_rfl) (fun _ _ _ h => h) (Or.inr ⟨by rfl, rfl⟩) (by assumption) ?_
      (try simp only [Act.put, List.getElem_toArray, List.getElem_cons_zero, List.getElem_cons_succ, List.setIfInBounds_toArray, List.set_cons_zero, List.set_cons_succ])
      refine wpAnyH_take (i := 15) rfl (by kernel_rfl) (by kernel_rfl) (by kernel_rfl) (fun _ _ _ h => h) (Or.inr ⟨by rfl, rfl⟩) (by assumption) ?_
      (try simp only [Act.put, List.getElem_toArray, List.getElem_cons_zero, List.getElem_cons_succ, List.setIfInBounds_toArray, List.set_cons_zero, List.set_cons_succ])
      refine wpAnyH_take (i := 16) rfl (by kernel_rfl) (by kernel_rfl) (by kernel_rfl) (fun _ _ _ h => h) (Or.inr ⟨by rfl, rfl⟩) (by assumption) ?_
      (try simp only [Act.put, List.getElem_toArray, List.getElem_cons_zero, List.getElem_cons_succ, List.setIfInBounds_toArray, List.set_cons_zero, List.set_cons_succ])
      refine wpAnyH_take (i := 17) (v := ?vv17) rfl (by kernel_rfl) (by kernel_rfl) (by kernel_rfl) (fun _ _ _ h => h) (Or.inl ⟨by rfl, ?hy17⟩) (by assumption) ?rest17
      case hy17 => (intro w hSw; (try dsimp only at hSw); go_simp; (try with_reducible rfl))
      (try simp only [Act.put, List.getElem_toArray, List.getElem_cons_zero, List.getElem_cons_succ, List.setIfInBounds_toArray, List.set_cons_zero, List.set_cons_succ])
      refine wpAnyH_take (i := 18) (v := ?vv18) rfl (by kernel_rfl) (by kernel_rfl) (by kernel_rfl) (fun _ _ _ h => h) (Or.inl ⟨by rfl, ?hy18⟩) (by assumption) ?rest18
      case hy18 => (intro w hSw; (try dsimp only at hSw); go_simp; (try with_reducible rfl))
      (try simp only [Act.put, List.getElem_toArray, List.getElem_cons_zero, List.getElem_cons_succ, List.setIfInBounds_toArray, List.set_cons_zero, List.set_cons_succ])
      refine wpAnyH_done (by kernel_rfl) ?_ _
      have hpost : BoolPost (false && r) w (.returned (.bool false)) w2 := ⟨by rw [Bool.false_and], HGW.out w2 g4⟩
      clear hcadd HC HV HGW HREN HIH g4 m0 m1 m2 m3 m4 m5
      go_wp2
      go_ret
      exact hpost

set_option maxRecDepth 100000 in
set_option maxHeartbeats 2000000 in
theorem gBind (n : Int) (v : Value) (k : Tm) (u : Value) (t : Tm) (w : World) (hv : FIn w AnyB v k) (hu : FIn w AnyB u t) (hsz : szT t ≤ 1048576) (hP : OkP 1048576 t)
    (ihE : ∀ m l, t = .mk 3 m [] [l] → n = m → ∀ (w' : World) (v u : Value), FIn w' AnyB v k → FIn w' AnyB u l → Calls Tryz.prog 55 #[(.agg #[.func (.func 51) #[] #[], .func (.func 53) #[] #[]]), v, u] w' (BoolPost (eqOk frG hoG k l) w'))
    (ihN : ∀ m l, t = .mk 3 m [] [l] → n ≠ m → ∀ (w' : World) (v u : Value), FIn w' AnyB v k → FIn w' AnyB u (actT (swapL m n) l) → Calls Tryz.prog 55 #[(.agg #[.func (.func 51) #[] #[], .func (.func 53) #[] #[]]), v, u] w' (BoolPost (eqOk frG hoG k (actT (swapL m n) l)) w')) :
    Calls Tryz.prog 55 #[(.agg #[.func (.func 51) #[] #[], .func (.func 53) #[] #[]]), .iface 105 (.agg #[.int .i64 n, v]), u] w (BoolPost (eqOk frG hoG (.mk 3 n [] [k]) t) w) := by
  rw [gOk_3]
  obtain ⟨fx, rfl⟩ := hu.iface
  rcases form_cases hu with ⟨m, rfl, rfl⟩ | ⟨m, b1, off, c1, xs, ks, rfl, rfl, _, _, _, _⟩ | ⟨m, y, l, rfl, rfl, hl⟩ | ⟨m, B, d, q, rfl, rfl, _, _⟩
  case inr.inr.inl =>
    rw [op_mk, num_mk, kids_mk, gOks_one, gOks_one, tmAt_cons_zero]
    rw [gty_3]
    rw [show (decide ((3 : Int) = 3) && (if n = m then eqOk frG hoG k l else frG n l && eqOk frG hoG k (actT (swapL m n) l))) = gbOk n k m l by simp [gbOk]]
    have hszl : szT (.mk 3 m [] [l]) = 1 + szT l := by simp [szT, szTs]
    rw [hszl] at hsz
    have hb := bel3 w (.cells #[.func (.func 51) #[] #[], .func (.func 53) #[] #[]] 78) (.cells #[.int .i64 n, v] 105) (.cells #[.int .i64 m, y] 105)
    have hct := gBinders n m v y k l _ (hv.keep hb) (hl.keep hb) (by omega) hP.2.2.1 (ihE m l rfl) (ihN m l rfl)
    have HG := Lib.hid hb
    obtain ⟨fv, rfl⟩ := hv.iface
    obtain ⟨fy, rfl⟩ := hl.iface
    generalize gbOk n k m l = r at hct ⊢
    generalize fty k = T1 at *
    generalize fty l = T2 at *
    clear hu hv hl hP hb ihE ihN hszl hsz
    go_enter Tryz.func55, Tryz.ntmps55
    go_wp2_with (go_at_call 92; refine hct.mono ?_; rintro e w2 ⟨rfl, hb2⟩)
    go_ret
    exact ⟨rfl, HG.out.trans (hb2.mono HG.out.size)⟩
  all_goals
    obtain ⟨fv, rfl⟩ := hv.iface
    rw [op_mk]
    first | rw [gty_1] | rw [gty_2] | rw [gty_4]
    rw [show (decide (_ = (3 : Int)) && _) = false by simp]
    generalize fty k = T1 at *
    clear hu hv hP ihE ihN
    go_enter Tryz.func55, Tryz.ntmps55
    go_wp2
    go_ret
    exact ⟨rfl, bel3 _ _ _ _⟩

/-- Every two forms, of which the first one has no hole, are compared. -/
theorem gSame : ∀ (N : Nat) (s : Tm), szT s ≤ N → holesB s = false → ∀ (M : Nat) (t : Tm), M + 2 * N ≤ 1048576 → OkP M t → szT t ≤ 1048576 → ∀ (w' : World) (v u : Value), FIn w' AnyB v s → FIn w' AnyB u t → Calls Tryz.prog 55 #[(.agg #[.func (.func 51) #[] #[], .func (.func 53) #[] #[]]), v, u] w' (BoolPost (eqOk frG hoG s t) w') := by
  intro N
  induction N with
  | zero => intro s h; rw [szT_eq] at h; omega
  | succ N ih =>
    intro s hN hH M t hM hP hszt w v u hv hu
    obtain ⟨fx, rfl⟩ := hv.iface
    have hPt : OkP 1048576 t := okP_le (by omega) hP
    rcases form_cases hv with ⟨m, rfl, rfl⟩ | ⟨m, b1, off, c1, xs, ks, rfl, rfl, hb1, hbl1, hc1, hxs⟩ | ⟨m, y, k, rfl, rfl, hk⟩ | ⟨m, A, d, p, rfl, rfl, hp, _⟩
    · rw [gty_1]; exact gAtom m u t w hu
    · rw [gty_2]
      rw [szT_eq, kids_mk] at hN
      have hlen := len_szTs ks
      refine gNode m b1 off c1 xs ks u t w hu hbl1 hc1 hxs (by omega) hszt (fun i hi hj => ?_)
      have h1 := szT_at hi
      have h2 := szT_at hj
      have h3 : szT t = 1 + szTs t.kids := szT_eq t
      have hPk : OkP M (tmAt t.kids i) := by
        cases t with
        | mk o n q ls => exact okP_at hP.2.2 hj
      exact ih (tmAt ks i) (by omega) (noHole_kid hH hi) M (tmAt t.kids i) (by omega) hPk (by omega)
    · rw [gty_3]
      have hszk : szT (.mk 3 m [] [k]) = 1 + szT k := by simp [szT, szTs]
      rw [hszk] at hN
      have hHk : holesB k = false := noHole_kid (t := .mk 3 m [] [k]) (i := 0) hH (by simp [kids_mk])
      refine gBind m y k u t w hk hu hszt hPt (fun m' l e _ => ?_) (fun m' l e _ => ?_)
      · subst e
        have hszl : szT (.mk 3 m' [] [l]) = 1 + szT l := by simp [szT, szTs]
        exact ih k (by omega) hHk M l (by omega) hP.2.2.1 (by omega)
      · subst e
        have hszl : szT (.mk 3 m' [] [l]) = 1 + szT l := by simp [szT, szTs]
        have h2 := swapL_len m' m
        exact ih k (by omega) hHk (M + 2) _ (by omega) (okP_le (by omega) (okP_act (swapL m' m) hP.2.2.1)) (by rw [szT_actT]; omega)
    · rw [holesB_eq, op_mk] at hH
      simp at hH

end Go.Proofs.YtddmoempagcjeaaGreat
end

section
namespace Go.Proofs.YtddmoempagcjeaaGreat
open Go.RowKit Go.Sort
set_option linter.unusedVariables false

/-- The canonical term, of a term with N nodes at most. -/
def canN : Nat → Tm → Tm
  | 0, t => t
  | N + 1, .mk o n p ks => if o = 3 then .mk 3 (leastF (freeT (.mk o n p ks))) p (ks.map fun k => canN N (actT (swapL n (leastF (freeT (.mk o n p ks)))) k)) else .mk o n p (ks.map (canN N))
theorem canN_3 (N : Nat) (n : Int) (k : Tm) : canN (N + 1) (.mk 3 n [] [k]) = .mk 3 (leastF (freeT (.mk 3 n [] [k]))) [] [canN N (actT (swapL n (leastF (freeT (.mk 3 n [] [k])))) k)] := by simp [canN]
theorem canN_2 (N : Nat) (n : Int) (ks : List Tm) : canN (N + 1) (.mk 2 n [] ks) = .mk 2 n [] (ks.map (canN N)) := by simp [canN]
theorem canN_1 (N : Nat) (n : Int) : canN (N + 1) (.mk 1 n [] []) = .mk 1 n [] [] := by simp [canN]

theorem tmAt_map (f : Tm → Tm) : ∀ {ks : List Tm} {i : Nat}, i < ks.length → tmAt (ks.map f) i = f (tmAt ks i)
  | [], i, h => by simp at h
  | t :: r, 0, _ => by rw [List.map_cons, tmAt_cons_zero, tmAt_cons_zero]
  | t :: r, i + 1, h => by rw [List.map_cons, tmAt_cons_succ, tmAt_cons_succ, tmAt_map f (ks := r) (by simpa using h)]
theorem szTs_map {f : Tm → Tm} : ∀ {ks : List Tm}, (∀ k, szT (f k) = szT k) → szTs (ks.map f) = szTs ks
  | [], _ => rfl
  | t :: r, h => by rw [List.map_cons, szTs, szTs, h t, szTs_map h]
theorem szT_canN : ∀ (N : Nat) (t : Tm), szT (canN N t) = szT t
  | 0, t => rfl
  | N + 1, .mk o n p ks => by
    unfold canN
    split
    · rw [szT, szT, szTs_map (fun k => by rw [szT_canN N, szT_actT])]
    · rw [szT, szT, szTs_map (fun k => szT_canN N k)]
theorem okPs_map {M L : Nat} {f : Tm → Tm} : ∀ {ks : List Tm}, (∀ k, OkP M k → OkP L (f k)) → OkPs M ks → OkPs L (ks.map f)
  | [], _, _ => trivial
  | t :: r, h, hk => ⟨h t hk.1, okPs_map h hk.2⟩
theorem okP_canN : ∀ (N M : Nat) (t : Tm), OkP M t → OkP (M + 2 * N) (canN N t)
  | 0, M, t, h => h
  | N + 1, M, .mk o n p ks, h => by
    unfold canN
    split
    · exact ⟨h.1, by have := h.2.1; omega, okPs_map (M := M) (fun k hk => okP_le (by have := sw_len n (leastF (freeT (.mk o n p ks))); omega) (okP_canN N (M + (swapL n (leastF (freeT (.mk o n p ks)))).length) _ (okP_act _ hk))) h.2.2⟩
    · exact ⟨h.1, by have := h.2.1; omega, okPs_map (M := M) (fun k hk => okP_le (by omega) (okP_canN N M k hk)) h.2.2⟩
end Go.Proofs.YtddmoempagcjeaaGreat
end

section
namespace Go.Proofs.YtddmoempagcjeaaGreat
open Go.RowKit Go.Sort Go.ChangeShapes Go.WideShapes
set_option linter.unusedVariables false
attribute [local go_sem] ask_atom_atom ask_atom_node ask_atom_bind ask_atom_hole ask_node_atom ask_node_node ask_node_bind ask_node_hole ask_bind_atom ask_bind_node ask_bind_bind ask_bind_hole ask_hole_atom ask_hole_node ask_hole_bind ask_hole_hole

set_option maxRecDepth 100000 in
set_option maxHeartbeats 2000000 in
theorem can_atom (n : Int) (w : World) : Calls Tryz.prog 57 #[.iface 100 (.agg #[.int .i64 n])] w (FormPost 0 (.mk 1 n [] []) w) := by
  have hpost : FormPost 0 (.mk 1 n [] []) w (.returned (.iface 100 (.agg #[.int .i64 n]))) w := ⟨_, rfl, form_atom (t := .mk 1 n [] []) rfl, Below.refl _ _⟩
  go_enter Tryz.func57, Tryz.ntmps57
  go_wp2
  go_ret
  exact hpost

set_option maxRecDepth 100000 in
set_option maxHeartbeats 2000000 in
theorem can_node (N : Nat) (n : Int) (b off c0 : Nat) (xs : List Value) (ks : List Tm) (q : Nat → Prop) (w : World) (hbl : b < w.heap.size) (hc : ∀ j u, xs[j]? = some u → w.cell? ⟨b, off + j, none⟩ = some u) (hxs : FsIn w q xs ks) (hlen : ks.length ≤ 1048576)
    (ih : ∀ i, i < ks.length → ∀ (w' : World) (T : TypeId) (y : Value), FIn w' q (.iface T y) (tmAt ks i) → Calls Tryz.prog 57 #[.iface T y] w' (FormPost 0 (canN N (tmAt ks i)) w')) :
    Calls Tryz.prog 57 #[.iface 103 (.agg #[.int .i64 n, .slice (some ⟨b, off, none⟩) ks.length c0])] w (FormPost 0 (.mk 2 n [] (ks.map (canN N))) w) := by
  have hb0 : Below w.heap.size w (w.alloc (.cells #[.int .i64 n, .slice (some ⟨b, off, none⟩) ks.length c0] 103)) := (Below.refl _ _).alloc (Nat.le_refl _) _
  have eg : ∀ args w, (callFunc 57 args).run Tryz.prog w = .ok (.enter 57 args) w := enters_of Tryz.func57 (by kernel_rfl) rfl
  have hwk := withKids_any n b off c0 xs ks (ks.map (canN N)) q _ 0 57 #[] (by simp) (Nat.zero_le _) eg (Nat.lt_of_lt_of_le hbl hb0.size)
    (fun j u hj => (hb0.cell (p := ⟨b, off + j, none⟩) hbl).trans (hc j u hj)) (hxs.over ⟨hb0.size, fun b _ hl => hb0.block b hl, fun _ h _ => h⟩) hlen
    (fun i hi w' T y hb hf => by
      rw [tmAt_map (canN N) hi]
      have e : (#[Value.iface T y] ++ #[] : Array Value) = #[.iface T y] := by simp
      rw [e]
      exact ih i hi w' T y hf)
  have HB := Lib.hid hb0
  clear hc hxs ih eg hb0 hbl
  generalize hrs : ks.map (canN N) = rs at hwk ⊢
  clear hrs
  go_enter Tryz.func57, Tryz.ntmps57
  go_wp2_with fail
  refine hwk.mono ?_
  rintro e w2 ⟨g, cap, rfl, hf, hb2⟩
  have hpost : FormPost 0 (.mk 2 n [] rs) w (.returned (.iface 103 (.agg #[.int .i64 n, .slice (some ⟨g, 0, none⟩) rs.length cap]))) w2 :=
    ⟨_, rfl, hf.kind fun b _ h => since_le h HB.out.size, HB.out.trans (hb2.mono HB.out.size)⟩
  clear hwk HB hf hb2
  go_wp2
  go_ret
  exact hpost

set_option maxRecDepth 100000 in
set_option maxHeartbeats 4000000 in
theorem can_bind (N : Nat) (n : Int) (v : Value) (k : Tm) (q : Nat → Prop) (w : World) (hv : FIn w q v k) (hsz : szT k ≤ 1048000) (hP : OkP 1048576 k)
    (ih : ∀ (w' : World) (T : TypeId) (y : Value), FIn w' AnyB (.iface T y) (actT (swapL n (leastF (freeT (.mk 3 n [] [k])))) k) → Calls Tryz.prog 57 #[.iface T y] w' (FormPost 0 (canN N (actT (swapL n (leastF (freeT (.mk 3 n [] [k])))) k)) w')) :
    Calls Tryz.prog 57 #[.iface 105 (.agg #[.int .i64 n, v])] w (FormPost 0 (canN (N + 1) (.mk 3 n [] [k])) w) := by
  rw [canN_3]
  obtain ⟨fx, rfl⟩ := hv.iface
  have hszb : szT (.mk 3 n [] [k]) = 1 + szT k := by simp [szT, szTs]
  have hb0 : Below w.heap.size w (w.alloc (.cells #[.int .i64 n, .iface (fty k) fx] 105)) := (Below.refl _ w).alloc (Nat.le_refl _) _
  have h1 := heap_alloc_new w (.cells #[.int .i64 n, .iface (fty k) fx] 105)
  have HFREE := Lib.hid (fun (W : World) (hW : FIn W q (.iface (fty k) fx) k) => (show Calls Tryz.prog 98 #[.agg #[.int .i64 n, .iface (fty k) fx]] W (InsPost W.heap.size (freeT (.mk 3 n [] [k])) W) from free_any (szT (.mk 3 n [] [k])) (.mk 3 n [] [k]) (Nat.le_refl _) (by omega) q W (.agg #[.int .i64 n, .iface (fty k) fx]) (.bind _ hW)))
  have hfl := freeT_len (.mk 3 n [] [k])
  have HREN := Lib.hid (fun (a : Int) (W : World) (hW : FIn W q (.iface (fty k) fx) k) => renamed_any n a _ k q W hW (by omega) hP)
  have HIH := Lib.hid ih
  have HV := Lib.hid (fun (W : World) (h : Below w.heap.size w W) => hv.keep h)
  generalize hFF : freeT (.mk 3 n [] [k]) = F at *
  have hls : F.length ≤ 1099511627776 := by omega
  generalize hAA : leastF F = a at *
  have HAA := Lib.hid hAA
  generalize canN N (actT (swapL n a) k) = r at *
  have HREN1 := Lib.hid (HREN.out a)
  generalize actT (swapL n a) k = l2 at *
  generalize fty k = T at *
  clear hv ih hsz hP hszb hfl hFF hAA HREN
  go_enter Tryz.func57, Tryz.ntmps57
  go_wp2
  generalize w.alloc (.cells #[.int .i64 n, .iface T fx] 105) = W at hb0 h1 ⊢
  have hlW : w.heap.size < W.heap.size := (Array.getElem?_eq_some_iff.1 h1).1
  have hdw : Below W.heap.size W W.drew := ⟨rfl, rfl, rfl, Nat.le_refl _, fun _ _ => rfl⟩
  have HB := Lib.hid (hb0.trans (hdw.mono hb0.size))
  have h1d : W.drew.heap[w.heap.size]? = _ := h1
  have hlt : w.heap.size < W.drew.heap.size := hlW
  obtain ⟨m0, m1, _, _⟩ := row2 h1d
  have H1 := Lib.hid h1d
  have HC := Lib.hid (fun (w' : World) (h : Below W.drew.heap.size W.drew w') => row2 ((h.block w.heap.size hlt).trans H1.out))
  have hf0 := HFREE.out W.drew (HV.out _ HB.out)
  clear h1 h1d hdw hb0
  go_region_with
    (first
      | (go_at_call 98; refine hf0.mono ?_; rintro e w2 ⟨g2, cap2, rfl, ho2, hb2⟩; have hia : IntsAt w2 (some ⟨g2, 0, none⟩) F := (by obtain ⟨Aq, cq, eq, hh⟩ := own_intsAt ho2; simp only [Value.slice.injEq] at eq; rw [eq.1]; exact hh); have hle := least_impl (some ⟨g2, 0, none⟩) cap2 F w2 hia hls; rw [HAA.out] at hle; obtain ⟨a0, a1, _, _⟩ := HC.out w2 hb2)
      | (go_at_call 97; refine hle.mono ?_; rintro e w3 ⟨rfl, hb3⟩; have hg3 := hb2.trans (hb3.mono hb2.size); obtain ⟨b0, b1, _, _⟩ := HC.out w3 hg3; have hrn := HREN1.out w3 (HV.out _ (HB.out.trans (hg3.mono HB.out.size))))
      | (go_at_call 96; refine hrn.mono ?_; rintro e w4 ⟨y, rfl, hy, hb4⟩; obtain ⟨fy, rfl⟩ := hy.iface; have hg4 := hg3.trans (hb4.mono hg3.size); obtain ⟨d0, d1, d2, d3⟩ := HC.out w4 hg4)
      | fail)
  all_goals
    have H4 := (hg4.block w.heap.size hlt).trans H1.out
    have k5 := set2_block (a := .int .i64 a) (b := .iface (fty l2) fy) H4
    have hl3 : w.heap.size < w3.heap.size := Nat.lt_of_lt_of_le hlt hg3.size
    have hy5 := ((hy.setOther ⟨w.heap.size, 0, none⟩ (.int .i64 a) (fun b hb e => by have e' : b = w.heap.size := e; omega)).setOther ⟨w.heap.size, 1, none⟩ (.iface (fty l2) fy) (fun b hb e => by have e' : b = w.heap.size := e; omega)).any
    have hb5 := ((HB.out.trans (hg4.mono HB.out.size)).setCell (p := ⟨w.heap.size, 0, none⟩) (Nat.le_refl w.heap.size) (.int .i64 a)).setCell (p := ⟨w.heap.size, 1, none⟩) (Nat.le_refl w.heap.size) (.iface (fty l2) fy)
    clear hf0 hle hrn ho2 hia hb2 hb3 hb4 hg3 hg4 hy a0 a1 b0 b1 d0 d1 d2 d3 m0 m1 H4 HC H1 HREN1 HFREE HV hl3
    generalize (w4.setCell ⟨w.heap.size, 0, none⟩ (.int .i64 a)).setCell ⟨w.heap.size, 1, none⟩ (.iface (fty l2) fy) = W5 at k5 hy5 hb5 ⊢
    have hdw : Below W5.heap.size W5 W5.drew := ⟨rfl, rfl, rfl, Nat.le_refl _, fun _ _ => rfl⟩
    have hk5 : W5.drew.heap[w.heap.size]? = _ := k5
    have hl5 : w.heap.size < W5.drew.heap.size := (Array.getElem?_eq_some_iff.1 hk5).1
    obtain ⟨t0, t1, _, _⟩ := row2 hk5
    have HK5 := Lib.hid hk5
    have HB5 := Lib.hid (hb5.trans (hdw.mono hb5.size))
    have hcn := HIH.out W5.drew _ _ (hy5.keep hdw)
    clear hdw hk5 k5 hy5 hb5
    go_wp2
    go_region_held3 (fun w' => w'.cell? ⟨w.heap.size, 0, none⟩ = some (.int .i64 a) ∧ w'.cell? ⟨w.heap.size, 1, none⟩ = some (.iface (fty l2) fy))
      (first | (with_reducible exact ⟨by assumption, by assumption⟩) | ((try dsimp only); exact ⟨by assumption, by assumption⟩) | go_keep)
      (first
        | (go_at_call 57; refine hcn.mono ?_; rintro e w6 ⟨v6, rfl, hv6, hb6⟩; obtain ⟨f6, rfl⟩ := hv6.iface; obtain ⟨u0, u1, _, _⟩ := row2 ((hb6.block w.heap.size hl5).trans HK5.out))
        | fail)
    have hpost : FormPost 0 (.mk 3 a [] [r]) w (.returned (.iface 105 (.agg #[.int .i64 a, .iface (fty r) f6]))) w6 :=
      ⟨_, rfl, .bind _ (hv6.kind fun b _ h => since_le h HB5.out.size), HB5.out.trans (hb6.mono HB5.out.size)⟩
    clear hcn hv6 hb6 HB5 HK5 HIH t0 t1 u0 u1
    go_wp2
    go_ret
    exact hpost

/-- The canonical form of a form without holes. -/
theorem canonical_any : ∀ (N : Nat) (t : Tm), szT t ≤ N → N ≤ 1000 → holesB t = false → ∀ M : Nat, M + 2 * N ≤ 1048576 → OkP M t → ∀ (q : Nat → Prop) (w : World) (T : TypeId) (y : Value), FIn w q (.iface T y) t → Calls Tryz.prog 57 #[.iface T y] w (FormPost 0 (canN N t) w) := by
  intro N
  induction N with
  | zero => intro t h; rw [szT_eq] at h; omega
  | succ N ih =>
    intro t hN h1000 hH M hM hP q w T y h
    obtain ⟨fx, e⟩ := h.iface
    injection e with e1 e2
    subst e1; subst e2
    rcases form_cases h with ⟨n, rfl, rfl⟩ | ⟨n, b, off, c', xs, ks, rfl, rfl, _, hb, hc, hxs⟩ | ⟨n, v, k, rfl, rfl, hk⟩ | ⟨n, A', c', r, rfl, rfl, hr, _⟩
    · rw [canN_1, gty_1]
      exact can_atom n w
    · rw [canN_2, gty_2]
      rw [szT_eq, kids_mk] at hN
      have hkl := len_szTs ks
      refine can_node N n b off c' xs ks q w hb hc hxs (by omega) fun i hi w' T y hy => ih (tmAt ks i) (by have := szT_at hi; omega) (by omega) (noHole_kid hH hi) M (by omega) (okP_at hP.2.2 hi) q w' T y hy
    · rw [gty_3]
      have hszk : szT (.mk 3 n [] [k]) = 1 + szT k := by simp [szT, szTs]
      rw [hszk] at hN
      have hHk : holesB k = false := noHole_kid (t := .mk 3 n [] [k]) (i := 0) hH (by simp [kids_mk])
      exact can_bind N n v k q w hk (by omega) (okP_le (by omega) hP.2.2.1) fun w' T y hy => ih _ (by rw [szT_actT]; omega) (by omega) (by rw [holesB_act]; exact hHk) (M + 2) (by omega) (okP_le (by have := sw_len n (leastF (freeT (.mk 3 n [] [k]))); omega) (okP_act _ hP.2.2.1)) AnyB w' T y hy
    · rw [holesB_eq, op_mk] at hH
      simp at hH


theorem can_orT {t : Tm} (h : groundB t = false) : groundB t = false ∧ orT (canN 60 t) (groundB t) = tm0 := by rw [h]; exact ⟨rfl, orT_no _⟩

set_option maxRecDepth 100000 in
set_option maxHeartbeats 4000000 in
theorem canonicalTerm_impl (t : Tm) (x : Value) (w : World) (hx : TmIn w x t) (hc : cntT t ≤ 1048576) :
    Calls Tryz.prog 26 #[x] w (TmOutB (orT (canN 60 t) (groundB t)) (groundB t) w) := by
  have hf := fit_of t hc
  have hx' := hx
  obtain ⟨A, c, kv, rfl, hp, hk⟩ := hx
  obtain ⟨B, d, rfl⟩ := hk.form
  have hb0 : Below w.heap.size w ((w.alloc (.cells #[.int .i64 t.op, .int .i64 t.num, .slice A t.perm.length c, .slice B t.kids.length d] 35)).alloc (.cells #[.int .i64 0, .int .i64 0, .slice none 0 0, .slice none 0 0] 35)) := ((Below.refl _ _).alloc (Nat.le_refl _) _).alloc (by simp) _
  have hsz : ((w.alloc (.cells #[.int .i64 t.op, .int .i64 t.num, .slice A t.perm.length c, .slice B t.kids.length d] 35)).alloc (.cells #[.int .i64 0, .int .i64 0, .slice none 0 0, .slice none 0 0] 35)).heap.size = w.heap.size + 2 := by simp
  have HSZ := Lib.hid hsz
  obtain ⟨hres, hbox⟩ := box_row (Below.refl _ ((w.alloc (.cells #[.int .i64 t.op, .int .i64 t.num, .slice A t.perm.length c, .slice B t.kids.length d] 35)).alloc (.cells #[.int .i64 0, .int .i64 0, .slice none 0 0, .slice none 0 0] 35)))
  have HBX := Lib.hid hbox
  have HRS := Lib.hid hres
  clear hk hp hsz hbox hres
  have hgr := ground_impl t _ _ (hx'.below hb0) hf
  cases hg : groundB t with
  | false =>
    rw [hg] at hgr
    clear hx' hf hc
    go_enter Tryz.func26, Tryz.ntmps26
    go_wp2_with fail
    refine hgr.mono ?_
    rintro e w2 ⟨rfl, hb2⟩
    have hres2 := (hb2.block (w.heap.size + 1) (by rw [HSZ.out]; omega)).trans HRS.out
    have r0 : w2.cell? ⟨w.heap.size + 1, 0, none⟩ = some (.int .i64 0) := by rw [cell_of_row _ (w.heap.size + 1) 0 _ _ _ hres2]; rfl
    have r1 : w2.cell? ⟨w.heap.size + 1, 1, none⟩ = some (.int .i64 0) := by rw [cell_of_row _ (w.heap.size + 1) 1 _ _ _ hres2]; rfl
    have r2 : w2.cell? ⟨w.heap.size + 1, 2, none⟩ = some (.slice none 0 0) := by rw [cell_of_row _ (w.heap.size + 1) 2 _ _ _ hres2]; rfl
    have r3 : w2.cell? ⟨w.heap.size + 1, 3, none⟩ = some (.slice none 0 0) := by rw [cell_of_row _ (w.heap.size + 1) 3 _ _ _ hres2]; rfl
    have z0 : w2.frozen? ⟨w.heap.size + 1, 0, none⟩ = false := frozen_of_row _ (w.heap.size + 1) 0 _ _ hres2
    have z1 : w2.frozen? ⟨w.heap.size + 1, 1, none⟩ = false := frozen_of_row _ (w.heap.size + 1) 1 _ _ hres2
    have z2 : w2.frozen? ⟨w.heap.size + 1, 2, none⟩ = false := frozen_of_row _ (w.heap.size + 1) 2 _ _ hres2
    have z3 : w2.frozen? ⟨w.heap.size + 1, 3, none⟩ = false := frozen_of_row _ (w.heap.size + 1) 3 _ _ hres2
    have hbz := hb0.trans (hb2.mono hb0.size)
    have hpost : TmOutB tm0 false w (.returned (.tuple #[.agg #[.int .i64 0, .int .i64 0, .slice none 0 0, .slice none 0 0], .bool false])) ((((w2.setCell ⟨w.heap.size + 1, 0, none⟩ (.int .i64 0)).setCell ⟨w.heap.size + 1, 1, none⟩ (.int .i64 0)).setCell ⟨w.heap.size + 1, 2, none⟩ (.slice none 0 0)).setCell ⟨w.heap.size + 1, 3, none⟩ (.slice none 0 0)) :=
      ⟨none, 0, none, 0, _, rfl, own_four own_none own_nokids (fun b hb => by simp at hb), fun b hb => by simp at hb, set4_below hbz (by omega) _ _ _ _⟩
    clear hgr hb0 hb2 hres2 hbz HBX HRS HSZ
    go_wp2
    exact bodyPost_ret (v := .tuple #[.agg #[.int .i64 0, .int .i64 0, .slice none 0 0, .slice none 0 0], .bool false]) (by simp [results, Tryz.results26, go_sem, r0, r1, r2, r3]) rfl (by rw [orT_no]; exact hpost)
  | true =>
    rw [hg] at hgr
    have ht := ground_term hg
    have hfo := formOf_term t ht
    have hszt := term_size ht
    have hok := okP_good (term_good ht)
    have hcn := fun (W : World) (q : Nat → Prop) (T : TypeId) (y : Value) (hW : FIn W q (.iface T y) t) => canonical_any 60 t hszt (by decide) (ground_no hg) 40 (by decide) hok q W T y hW
    have hok2 := okP_canN 60 40 t hok
    have hszr := szT_canN 60 t
    rw [show orT (canN 60 t) true = canN 60 t from rfl]
    generalize canN 60 t = r at *
    have htm := fun (W : World) (q : Nat → Prop) (y : Value) (hW : FIn W q (.iface (fty r) y) r) => term_any (szT r) r (Nat.le_refl _) (by omega) (okP_le (by decide) hok2) q W y hW
    have hm := askTerm r
    have hn := enterTerm r
    clear hg ht hf hc hok hok2 hszr
    go_enter Tryz.func26, Tryz.ntmps26
    go_wp2_with fail
    refine hgr.mono ?_
    rintro e w2 ⟨rfl, hb2⟩
    have hbz2 := hb0.trans (hb2.mono hb0.size)
    have hbox2 := (hb2.block w.heap.size (by rw [HSZ.out]; omega)).trans HBX.out
    have b0 : w2.cell? ⟨w.heap.size, 0, none⟩ = some (.int .i64 t.op) := by rw [cell_of_row _ w.heap.size 0 _ _ _ hbox2]; rfl
    have b1 : w2.cell? ⟨w.heap.size, 1, none⟩ = some (.int .i64 t.num) := by rw [cell_of_row _ w.heap.size 1 _ _ _ hbox2]; rfl
    have b2 : w2.cell? ⟨w.heap.size, 2, none⟩ = some (.slice A t.perm.length c) := by rw [cell_of_row _ w.heap.size 2 _ _ _ hbox2]; rfl
    have b3 : w2.cell? ⟨w.heap.size, 3, none⟩ = some (.slice B t.kids.length d) := by rw [cell_of_row _ w.heap.size 3 _ _ _ hbox2]; rfl
    have hres2 := (hb2.block (w.heap.size + 1) (by rw [HSZ.out]; omega)).trans HRS.out
    have hlt2 : w.heap.size + 1 < w2.heap.size := by have := hb2.size; rw [HSZ.out] at this; omega
    have hfo2 := hfo w2 _ (hx'.below hbz2)
    clear hgr hfo hx' hbox2 hb2 hb0 HBX HRS HSZ
    go_wp2_with fail
    refine hfo2.mono ?_
    rintro e w4 ⟨fv, rfl, hfv, hb4⟩
    obtain ⟨fx, rfl⟩ := hfv.iface
    have hcn4 := hcn w4 _ _ fx hfv
    have hbz4 := hbz2.trans (hb4.mono hbz2.size)
    have hres4 := (hb4.block (w.heap.size + 1) hlt2).trans hres2
    have hlt4 := Nat.lt_of_lt_of_le hlt2 hb4.size
    generalize fty t = T at *
    clear hfo2 hcn hfv hb4 hbz2 hres2 b0 b1 b2 b3
    go_wp2_with fail
    refine hcn4.mono ?_
    rintro e w5 ⟨gv, rfl, hgv, hb5⟩
    obtain ⟨gx, rfl⟩ := hgv.iface
    have htm5 := htm w5 _ gx hgv
    have hbz5 := hbz4.trans (hb5.mono hbz4.size)
    have hres5 := (hb5.block (w.heap.size + 1) hlt4).trans hres4
    have hlt5 := Nat.lt_of_lt_of_le hlt4 hb5.size
    generalize termF r = F at hm hn htm5
    generalize fty r = T2 at *
    clear hcn4 htm hgv hb5 hbz4 hres4
    go_wp2_with fail
    refine htm5.mono ?_
    rintro e w6 ⟨A6, c6, B6, d6, S6, rfl, hL6, hS6, hb6⟩
    have hres6 := (hb6.block (w.heap.size + 1) hlt5).trans hres5
    have hbz6 := hbz5.trans (hb6.mono hbz5.size)
    have r0 : w6.cell? ⟨w.heap.size + 1, 0, none⟩ = some (.int .i64 0) := by rw [cell_of_row _ (w.heap.size + 1) 0 _ _ _ hres6]; rfl
    have r1 : w6.cell? ⟨w.heap.size + 1, 1, none⟩ = some (.int .i64 0) := by rw [cell_of_row _ (w.heap.size + 1) 1 _ _ _ hres6]; rfl
    have r2 : w6.cell? ⟨w.heap.size + 1, 2, none⟩ = some (.slice none 0 0) := by rw [cell_of_row _ (w.heap.size + 1) 2 _ _ _ hres6]; rfl
    have r3 : w6.cell? ⟨w.heap.size + 1, 3, none⟩ = some (.slice none 0 0) := by rw [cell_of_row _ (w.heap.size + 1) 3 _ _ _ hres6]; rfl
    have z0 : w6.frozen? ⟨w.heap.size + 1, 0, none⟩ = false := frozen_of_row _ (w.heap.size + 1) 0 _ _ hres6
    have z1 : w6.frozen? ⟨w.heap.size + 1, 1, none⟩ = false := frozen_of_row _ (w.heap.size + 1) 1 _ _ hres6
    have z2 : w6.frozen? ⟨w.heap.size + 1, 2, none⟩ = false := frozen_of_row _ (w.heap.size + 1) 2 _ _ hres6
    have z3 : w6.frozen? ⟨w.heap.size + 1, 3, none⟩ = false := frozen_of_row _ (w.heap.size + 1) 3 _ _ hres6
    have hpost : TmOutB r true w (.returned (.tuple #[.agg #[.int .i64 r.op, .int .i64 r.num, .slice A6 r.perm.length c6, .slice B6 r.kids.length d6], .bool true])) ((((w6.setCell ⟨w.heap.size + 1, 0, none⟩ (.int .i64 r.op)).setCell ⟨w.heap.size + 1, 1, none⟩ (.int .i64 r.num)).setCell ⟨w.heap.size + 1, 2, none⟩ (.slice A6 r.perm.length c6)).setCell ⟨w.heap.size + 1, 3, none⟩ (.slice B6 r.kids.length d6)) :=
      ⟨A6, c6, B6, d6, S6, rfl, set4_own hL6 (fun b hb => by have := hS6 b hb; omega) _ _ _ _, fun b hb => by have := hS6 b hb; omega, set4_below hbz6 (by omega) _ _ _ _⟩
    clear htm5 hm hn hL6 hS6 hb6 hres5 hres6 hbz5 hbz6
    go_wp2
    exact bodyPost_ret (v := .tuple #[.agg #[.int .i64 r.op, .int .i64 r.num, .slice A6 r.perm.length c6, .slice B6 r.kids.length d6], .bool true]) (by simp [results, Tryz.results26, go_sem, r0, r1, r2, r3]) rfl hpost

end Go.Proofs.YtddmoempagcjeaaGreat
end

