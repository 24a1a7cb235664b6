/-
  The comparison of two forms without holes, in the program, as contracts. Canonical terms: plain words. Paths, and terms that come of terms: plain words, no program is walked here. A term put in the place of an atom: plain words, no program is walked here. A form put in the place of an atom, in the program, as contracts. A form put in the place of an atom, in the program, as contracts: the walk over the form. The canonical form of a form, in the program, as a contract.
-/
import Derived.Test.YtlhjgjfnmejiaaaGreatKComesOf16
import Derived.Test.YtlhjgjfnmejiaaaGreatKComesOf23
import Derived.Test.YtlhjgjfnmejiaaaGreatKComesOf24
import Derived.Test.YtlhjgjfnmejiaaaGreatKComesOf13
import Derived.Test.YtlhjgjfnmejiaaaGreatKComesOf7
import Derived.Test.YtlhjgjfnmejiaaaGreatKComesOf9
import Derived.Test.YtlhjgjfnmejiaaaGreatKComesOf17
section
namespace Go.Proofs.YtlhjgjfnmejiaaaGreat
open Go.RowKit Go.Sort Go.ChangeShapes Go.WideShapes
set_option linter.unusedVariables false
attribute [local go_sem] ask_atom_atom ask_atom_node ask_atom_bind ask_atom_hole ask_node_atom ask_node_node ask_node_bind ask_node_hole ask_bind_atom ask_bind_node ask_bind_bind ask_bind_hole ask_hole_atom ask_hole_node ask_hole_bind ask_hole_hole

def frG (n : Int) (t : Tm) : Bool := !hasB (freeT t) n
def hoG (_ : Int) (_ : List (Int × Int)) (_ : Int) (_ : List (Int × Int)) : Bool := false

theorem gfield_bind (n : Int) (T : TypeId) (x : Value) (w : World) : (Instr.field 159 (.agg #[.int .i64 n, .iface T x]) 1).run Tryz.prog w = .ok (.iface T x) w := by kernel_rfl
attribute [local go_sem] gfield_bind

theorem gty_1 (m : Int) : fty (.mk 1 m [] []) = 153 := rfl
theorem gty_2 (m : Int) (ks : List Tm) : fty (.mk 2 m [] ks) = 156 := rfl
theorem gty_3 (m : Int) (k : Tm) : fty (.mk 3 m [] [k]) = 159 := rfl
theorem gty_4 (m : Int) (p : List (Int × Int)) : fty (.mk 4 m p []) = 135 := rfl
theorem gOk_1 (n : Int) (t : Tm) : eqOk frG hoG (.mk 1 n [] []) t = (decide (t.op = 1) && (n == t.num)) := by simp [eqOk]
theorem gOk_2 (n : Int) (ks : List Tm) (t : Tm) : eqOk frG hoG (.mk 2 n [] ks) t = (decide (t.op = 2) && ((n == t.num) && eqOks frG hoG ks t.kids)) := by simp [eqOk]
theorem gOk_3 (n : Int) (k : Tm) (t : Tm) : eqOk frG hoG (.mk 3 n [] [k]) t = (decide (t.op = 3) && (if n = t.num then eqOks frG hoG [k] t.kids else frG n (tmAt t.kids 0) && eqOks frG hoG [k] [actT (swapL t.num n) (tmAt t.kids 0)])) := by simp [eqOk]
theorem gOks_one (k l : Tm) : eqOks frG hoG [k] [l] = eqOk frG hoG k l := by simp [eqOks]

mutual
theorem holesB_act (p : List (Int × Int)) : ∀ t : Tm, holesB (actT p t) = holesB t
  | .mk o n q ks => by rw [actT, holesB, holesB, holesBs_act p ks]
theorem holesBs_act (p : List (Int × Int)) : ∀ ts : List Tm, holesBs (actTs p ts) = holesBs ts
  | [] => by simp [actTs]
  | t :: r => by rw [actTs, holesBs, holesBs, holesB_act p t, holesBs_act p r]
end
theorem ground_no {t : Tm} (h : groundB t = true) : holesB t = false := by
  unfold groundB at h
  simp only [Bool.and_eq_true] at h
  simpa using h.2
theorem noHole_kid {t : Tm} {i : Nat} (h : holesB t = false) (hi : i < t.kids.length) : holesB (tmAt t.kids i) = false := by
  cases hk : holesB (tmAt t.kids i) with
  | false => rfl
  | true =>
    rw [holesB_eq, holesBs_yes hi hk] at h
    simp at h

set_option maxRecDepth 100000 in
theorem lit1_any (t : Tm) (q : Nat → Prop) (a : Int) (fv : Value) (w : World) (hf : FIn w q fv t) (hsz : szT t ≤ 1048576) :
    Calls Tryz.prog 98 #[.int .i64 a, fv] w (BoolPost (frG a t) w) := by
  have h := isFreeIn_any t q a fv w hf hsz
  obtain ⟨fx, rfl⟩ := hf.iface
  unfold frG
  clear hf hsz
  generalize hasB (freeT t) a = r at h ⊢
  generalize fty t = T at *
  go_enter Tryz.func98, Tryz.ntmps98
  go_wp2_with fail
  refine h.mono ?_
  rintro e w2 ⟨rfl, hb⟩
  clear h
  cases r with
  | true =>
    go_wp2
    go_ret
    exact ⟨rfl, hb⟩
  | false =>
    go_wp2
    go_ret
    exact ⟨rfl, hb⟩

theorem bel3 (w : World) (o1 o2 o3 : Obj) : Below w.heap.size w (((w.alloc o1).alloc o2).alloc o3) :=
  (((Below.refl _ w).alloc (Nat.le_refl _) _).alloc (by simp) _).alloc (by simp; omega) _

set_option maxRecDepth 100000 in
set_option maxHeartbeats 2000000 in
theorem gAtom (n : Int) (u : Value) (t : Tm) (w : World) (hu : FIn w AnyB u t) :
    Calls Tryz.prog 101 #[(.agg #[.func (.func 98) #[] #[], .func (.func 100) #[] #[]]), .iface 153 (.agg #[.int .i64 n]), u] w (BoolPost (eqOk frG hoG (.mk 1 n [] []) t) w) := by
  rw [gOk_1]
  obtain ⟨fx, rfl⟩ := hu.iface
  rcases form_cases hu with ⟨m, rfl, rfl⟩ | ⟨m, b1, off, c, xs, ks, rfl, rfl, _, _, _, _⟩ | ⟨m, v, k, rfl, rfl, _⟩ | ⟨m, A, c, p, rfl, rfl, _, _⟩
  · rw [op_mk, num_mk, gty_1]
    clear hu
    by_cases h : n = m
    · subst h
      rw [show (decide ((1 : Int) = 1) && (n == n)) = true by simp]
      go_enter Tryz.func101, Tryz.ntmps101
      go_wp2
      go_ret
      exact ⟨rfl, bel3 _ _ _ _⟩
    · have hq : (n == m) = false := by simp [h]
      rw [show (decide ((1 : Int) = 1) && (n == m)) = false by simp [h]]
      go_enter Tryz.func101, Tryz.ntmps101
      go_wp2
      go_ret
      exact ⟨rfl, bel3 _ _ _ _⟩
  all_goals
    rw [op_mk]
    first | rw [gty_2] | rw [gty_3] | rw [gty_4]
    rw [show (decide (_ = (1 : Int)) && _) = false by simp]
    clear hu
    go_enter Tryz.func101, Tryz.ntmps101
    go_wp2
    go_ret
    exact ⟨rfl, bel3 _ _ _ _⟩

set_option maxRecDepth 100000 in
set_option maxHeartbeats 2000000 in
theorem gEqual (b1 o1 c1 b2 o2 c2 : Nat) (xs ys : List Value) (ks ls : List Tm) (w : World)
    (hbl1 : b1 < w.heap.size) (hc1 : ∀ j u, xs[j]? = some u → w.cell? ⟨b1, o1 + j, none⟩ = some u) (hxs : FsIn w AnyB xs ks)
    (hbl2 : b2 < w.heap.size) (hc2 : ∀ j u, ys[j]? = some u → w.cell? ⟨b2, o2 + j, none⟩ = some u) (hys : FsIn w AnyB ys ls)
    (hl1 : ks.length ≤ 1048576) (hl2 : ls.length ≤ 1048576)
    (ih : ∀ i, i < ks.length → i < ls.length → ∀ (w' : World) (v u : Value), FIn w' AnyB v (tmAt ks i) → FIn w' AnyB u (tmAt ls i) → Calls Tryz.prog 101 #[(.agg #[.func (.func 98) #[] #[], .func (.func 100) #[] #[]]), v, u] w' (BoolPost (eqOk frG hoG (tmAt ks i) (tmAt ls i)) w')) :
    Calls Tryz.prog 144 #[.slice (some ⟨b1, o1, none⟩) ks.length c1, .slice (some ⟨b2, o2, none⟩) ls.length c2, .func (.func 101) #[(.agg #[.func (.func 98) #[] #[], .func (.func 100) #[] #[]])] #[]] w (BoolPost (eqOks frG hoG ks ls) w) := by
  by_cases hlen : ks.length = ls.length
  · have hq0 : (ks.length != ls.length) = false := by simp [hlen]
    have hq1 : ((ks.length : Int) != (ls.length : Int)) = false := by simp [hlen]
    have hq2 : ((ks.length : Int) == (ls.length : Int)) = true := by simp [hlen]
    have HLEN := Lib.hid hlen
    clear hlen
    go_enter Tryz.func144, Tryz.ntmps144
    go_wp2
    go_loopw [7, 8, 9, 17] (fun _ _ _ i wr => ∃ k : Nat, k ≤ ks.length ∧ i = .int .i64 k ∧ Hid (eqOks frG hoG (ks.take k) (ls.take k) = true) ∧ Below w.heap.size w wr) (fun _ _ _ i _ => ks.length - (intOf i).toNat)
    case atStart => exact ⟨0, Nat.zero_le _, rfl, Lib.hid (by simp [eqOks]), Below.refl _ _⟩
    case round =>
      obtain ⟨k, hk, rfl, hq, hb⟩ := hrel
      by_cases hlt : k < ks.length
      · have hlt2 : k < ls.length := by have := HLEN.out; omega
        obtain ⟨u, hu, hfu⟩ := hxs.get k hlt
        obtain ⟨v, hv, hfv⟩ := hys.get k hlt2
        have d1 := (hb.cell (p := ⟨b1, o1 + k, none⟩) hbl1).trans (hc1 k _ hu)
        have d2 := (hb.cell (p := ⟨b2, o2 + k, none⟩) hbl2).trans (hc2 k _ hv)
        have hct := ih k hlt hlt2 wr u v (hfu.keep hb) (hfv.keep hb)
        obtain ⟨fx, rfl⟩ := hfu.iface
        obtain ⟨fy, rfl⟩ := hfv.iface
        have HN2 := Lib.hid (eqOks_take frG hoG hlt hlt2)
        have HN4 := Lib.hid (fun h => eqOks_no frG hoG hlt hlt2 h)
        generalize fty (tmAt ks k) = T1 at hct d1
        generalize fty (tmAt ls k) = T2 at hct d2
        generalize eqOk frG hoG (tmAt ks k) (tmAt ls k) = ok at hct HN2 HN4
        clear hu hv hfu hfv hc1 hc2 hxs hys ih
        cases ok with
        | true =>
          have hq3 : Hid (eqOks frG hoG (ks.take (k + 1)) (ls.take (k + 1)) = true) := Lib.hid (by rw [HN2.out, hq.out]; rfl)
          go_wp2_with (go_at_call 101; refine hct.mono ?_; rintro e w2 ⟨rfl, hb2⟩)
          have hb3 := hb.trans (hb2.mono hb.size)
          clear hct hb2 d1 d2 HN2 HN4 hb hq
          refine ⟨⟨k + 1, by omega, by go_num, hq3, hb3⟩, ?_⟩
          simp only [intOf]
          omega
        | false =>
          have hno : Hid (eqOks frG hoG ks ls = false) := Lib.hid (HN4.out rfl)
          go_wp2_with (go_at_call 101; refine hct.mono ?_; rintro e w2 ⟨rfl, hb2⟩)
          have hpost : BoolPost (eqOks frG hoG ks ls) w (.returned (.bool false)) w2 := ⟨by rw [hno.out], hb.trans (hb2.mono hb.size)⟩
          clear hct hb2 d1 d2 HN2 HN4 hb hq hno
          go_ret
          exact hpost
      · have e : k = ks.length := by omega
        have e2 : k = ls.length := by have := HLEN.out; omega
        have hq' := hq.out
        rw [List.take_of_length_le (show ks.length ≤ k by omega), List.take_of_length_le (show ls.length ≤ k by omega)] at hq'
        have hpost : BoolPost (eqOks frG hoG ks ls) w (.returned (.bool true)) wr := ⟨by rw [hq'], hb⟩
        clear hq hq' hb hc1 hc2 hxs hys ih
        go_wp2
        go_ret
        exact hpost
  · have hq1 : ((ks.length : Int) != (ls.length : Int)) = true := by simp; omega
    have hno := eqOks_len frG hoG (ks := ks) (ls := ls) hlen
    have hpost : BoolPost (eqOks frG hoG ks ls) w (.returned (.bool false)) w := ⟨by rw [hno], Below.refl _ _⟩
    have hlen' : ¬ (ks.length : Int) = (ls.length : Int) := by omega
    clear hc1 hc2 hxs hys ih hno hlen
    go_enter Tryz.func144, Tryz.ntmps144
    go_wp2
    go_ret
    exact hpost

set_option maxRecDepth 100000 in
set_option maxHeartbeats 2000000 in
theorem gNode (n : Int) (b1 o1 c1 : Nat) (xs : List Value) (ks : List Tm) (u : Value) (t : Tm) (w : World) (hu : FIn w AnyB u t)
    (hbl1 : b1 < w.heap.size) (hc1 : ∀ j u, xs[j]? = some u → w.cell? ⟨b1, o1 + j, none⟩ = some u) (hxs : FsIn w AnyB xs ks)
    (hl1 : ks.length ≤ 1048576) (hl2 : szT t ≤ 1048576)
    (ih : ∀ i, i < ks.length → i < t.kids.length → ∀ (w' : World) (v u : Value), FIn w' AnyB v (tmAt ks i) → FIn w' AnyB u (tmAt t.kids i) → Calls Tryz.prog 101 #[(.agg #[.func (.func 98) #[] #[], .func (.func 100) #[] #[]]), v, u] w' (BoolPost (eqOk frG hoG (tmAt ks i) (tmAt t.kids i)) w')) :
    Calls Tryz.prog 101 #[(.agg #[.func (.func 98) #[] #[], .func (.func 100) #[] #[]]), .iface 156 (.agg #[.int .i64 n, .slice (some ⟨b1, o1, none⟩) ks.length c1]), u] w (BoolPost (eqOk frG hoG (.mk 2 n [] ks) t) w) := by
  rw [gOk_2]
  obtain ⟨fx, rfl⟩ := hu.iface
  rcases form_cases hu with ⟨m, rfl, rfl⟩ | ⟨m, b2, o2, c2, ys, ls, rfl, rfl, hb2, hbl2, hc2, hys⟩ | ⟨m, v, k, rfl, rfl, _⟩ | ⟨m, B, d, q, rfl, rfl, _, _⟩
  case inr.inl =>
    rw [op_mk, num_mk, kids_mk]
    rw [kids_mk] at ih
    rw [gty_2]
    by_cases h : n = m
    · subst h
      rw [show (decide ((2 : Int) = 2) && ((n == n) && eqOks frG hoG ks ls)) = eqOks frG hoG ks ls by simp]
      rw [szT_eq, kids_mk] at hl2
      have hb := bel3 w (.cells #[.func (.func 98) #[] #[], .func (.func 100) #[] #[]] 139) (.cells #[.int .i64 n, .slice (some ⟨b1, o1, none⟩) ks.length c1] 156) (.cells #[.int .i64 n, .slice (some ⟨b2, o2, none⟩) ls.length c2] 156)
      have hov : Over w _ AnyB AnyB := ⟨hb.size, fun x _ hx => hb.block x hx, fun _ h _ => h⟩
      have hct := gEqual b1 o1 c1 b2 o2 c2 xs ys ks ls _ (Nat.lt_of_lt_of_le hbl1 hb.size) (fun j u hj => (hb.cell (p := ⟨b1, o1 + j, none⟩) hbl1).trans (hc1 j u hj)) (hxs.over hov)
        (Nat.lt_of_lt_of_le hbl2 hb.size) (fun j u hj => (hb.cell (p := ⟨b2, o2 + j, none⟩) hbl2).trans (hc2 j u hj)) (hys.over hov) hl1 (by have := len_szTs ls; omega) ih
      have HG := Lib.hid hb
      generalize eqOks frG hoG ks ls = r at hct ⊢
      have hnn : (n == n) = true := by simp
      clear hu hbl1 hc1 hxs hb2 hbl2 hc2 hys hl1 hl2 ih hb hov
      go_enter Tryz.func101, Tryz.ntmps101
      go_wp2_with (go_at_call 144; refine hct.mono ?_; rintro e w2 ⟨rfl, hb2⟩)
      go_ret
      exact ⟨rfl, HG.out.trans (hb2.mono HG.out.size)⟩
    · have hq : (n == m) = false := by simp [h]
      rw [show (decide ((2 : Int) = 2) && ((n == m) && eqOks frG hoG ks ls)) = false by simp [hq]]
      clear hu hbl1 hc1 hxs hb2 hbl2 hc2 hys hl1 hl2 ih
      go_enter Tryz.func101, Tryz.ntmps101
      go_wp2
      go_ret
      exact ⟨rfl, bel3 _ _ _ _⟩
  all_goals
    rw [op_mk]
    first | rw [gty_1] | rw [gty_3] | rw [gty_4]
    rw [show (decide (_ = (2 : Int)) && _) = false by simp]
    clear hu hbl1 hc1 hxs hl1 hl2 ih
    go_enter Tryz.func101, Tryz.ntmps101
    go_wp2
    go_ret
    exact ⟨rfl, bel3 _ _ _ _⟩

def gbOk (n : Int) (k : Tm) (m : Int) (l : Tm) : Bool := if n = m then eqOk frG hoG k l else frG n l && eqOk frG hoG k (actT (swapL m n) l)

set_option maxRecDepth 100000 in
set_option maxHeartbeats 4000000 in
theorem gBinders (n m : Int) (v u : Value) (k l : Tm) (w : World) (hv : FIn w AnyB v k) (hu : FIn w AnyB u l) (hsz : szT l ≤ 1048576) (hP : OkP 1048576 l)
    (ihE : n = m → ∀ (w' : World) (v u : Value), FIn w' AnyB v k → FIn w' AnyB u l → Calls Tryz.prog 101 #[(.agg #[.func (.func 98) #[] #[], .func (.func 100) #[] #[]]), v, u] w' (BoolPost (eqOk frG hoG k l) w'))
    (ihN : n ≠ m → ∀ (w' : World) (v u : Value), FIn w' AnyB v k → FIn w' AnyB u (actT (swapL m n) l) → Calls Tryz.prog 101 #[(.agg #[.func (.func 98) #[] #[], .func (.func 100) #[] #[]]), v, u] w' (BoolPost (eqOk frG hoG k (actT (swapL m n) l)) w')) :
    Calls Tryz.prog 145 #[(.agg #[.func (.func 98) #[] #[], .func (.func 100) #[] #[]]), .agg #[.int .i64 n, v], .agg #[.int .i64 m, u]] w (BoolPost (gbOk n k m l) w) := by
  obtain ⟨fx, rfl⟩ := hv.iface
  obtain ⟨fy, rfl⟩ := hu.iface
  have hb := bel3 w (.cells #[.func (.func 98) #[] #[], .func (.func 100) #[] #[]] 139) (.cells #[.int .i64 n, .iface (fty k) fx] 159) (.cells #[.int .i64 m, .iface (fty l) fy] 159)
  have k0 : (((w.alloc (.cells #[.func (.func 98) #[] #[], .func (.func 100) #[] #[]] 139)).alloc (.cells #[.int .i64 n, .iface (fty k) fx] 159)).alloc (.cells #[.int .i64 m, .iface (fty l) fy] 159)).heap[w.heap.size]? = some (.cells #[.func (.func 98) #[] #[], .func (.func 100) #[] #[]] 139 (0, 0)) :=
    (Below.heap_alloc _ _ _ (by simp; omega)).trans ((Below.heap_alloc _ _ _ (by simp)).trans (heap_alloc_new w _))
  have k1 : (((w.alloc (.cells #[.func (.func 98) #[] #[], .func (.func 100) #[] #[]] 139)).alloc (.cells #[.int .i64 n, .iface (fty k) fx] 159)).alloc (.cells #[.int .i64 m, .iface (fty l) fy] 159)).heap[w.heap.size + 1]? = some (.cells #[.int .i64 n, .iface (fty k) fx] 159 (0, 0)) := by
    have h := heap_alloc_new (w.alloc (.cells #[.func (.func 98) #[] #[], .func (.func 100) #[] #[]] 139)) (.cells #[.int .i64 n, .iface (fty k) fx] 159)
    rw [World.size_alloc] at h
    exact (Below.heap_alloc _ _ _ (by simp)).trans h
  have k2 : (((w.alloc (.cells #[.func (.func 98) #[] #[], .func (.func 100) #[] #[]] 139)).alloc (.cells #[.int .i64 n, .iface (fty k) fx] 159)).alloc (.cells #[.int .i64 m, .iface (fty l) fy] 159)).heap[w.heap.size + 1 + 1]? = some (.cells #[.int .i64 m, .iface (fty l) fy] 159 (0, 0)) := by
    have h := heap_alloc_new ((w.alloc (.cells #[.func (.func 98) #[] #[], .func (.func 100) #[] #[]] 139)).alloc (.cells #[.int .i64 n, .iface (fty k) fx] 159)) (.cells #[.int .i64 m, .iface (fty l) fy] 159)
    rw [World.size_alloc, World.size_alloc] at h
    exact h
  have hv3 := hv.keep hb
  have hu3 := hu.keep hb
  have HG := Lib.hid hb
  have hsz3 : (((w.alloc (.cells #[.func (.func 98) #[] #[], .func (.func 100) #[] #[]] 139)).alloc (.cells #[.int .i64 n, .iface (fty k) fx] 159)).alloc (.cells #[.int .i64 m, .iface (fty l) fy] 159)).heap.size = w.heap.size + 3 := by simp
  obtain ⟨c0, c1, _, _⟩ := row2 k0
  obtain ⟨c2, c3, _, _⟩ := row2 k1
  obtain ⟨c4, c5, _, _⟩ := row2 k2
  by_cases hnm : n = m
  · subst hnm
    have hr : gbOk n k n l = eqOk frG hoG k l := by unfold gbOk; rw [if_pos rfl]
    rw [hr]
    have hct := ihE rfl _ _ _ hv3 hu3
    have hq : (n == n) = true := by simp
    generalize eqOk frG hoG k l = r at hct ⊢
    generalize fty k = T1 at *
    generalize fty l = T2 at *
    clear hv hu hv3 hu3 ihE ihN hr hP k0 k1 k2 hb hsz3
    go_enter Tryz.func145, Tryz.ntmps145
    go_wp2_with (go_at_call 101; refine hct.mono ?_; rintro e w2 ⟨rfl, hb2⟩)
    go_ret
    exact ⟨rfl, HG.out.trans (hb2.mono HG.out.size)⟩
  · have hr : gbOk n k m l = (frG n l && eqOk frG hoG k (actT (swapL m n) l)) := by unfold gbOk; rw [if_neg hnm]
    rw [hr]
    have hq : (n == m) = false := by simp [hnm]
    have hadd := fun (W : World) (hW : FIn W AnyB (.iface (fty l) fy) l) => lit1_any l AnyB n _ W hW hsz
    have hren := fun (W : World) (hW : FIn W AnyB (.iface (fty l) fy) l) => renamed_any m n _ l _ W hW hsz hP
    have hih := fun (W : World) (y : Value) hV hU => ihN hnm W (.iface (fty k) fx) y hV hU
    generalize frG n l = o1 at *
    generalize eqOk frG hoG k (actT (swapL m n) l) = r at *
    generalize actT (swapL m n) l = l2 at *
    generalize fty k = T1 at *
    generalize fty l = T2 at *
    clear hv hu ihE ihN hr hP k0 k1 k2 hsz
    go_enter Tryz.func145, Tryz.ntmps145
    go_wp2
    generalize (((w.alloc (.cells #[.func (.func 98) #[] #[], .func (.func 100) #[] #[]] 139)).alloc (.cells #[.int .i64 n, .iface (T1) fx] 159)).alloc (.cells #[.int .i64 m, .iface (T2) fy] 159)) = W at hb hv3 hu3 HG hsz3 c0 c1 c2 c3 c4 c5 ⊢
    have hdw : Below W.heap.size W W.drew := ⟨rfl, rfl, rfl, Nat.le_refl _, fun _ _ => rfl⟩
    have hcadd := hadd W.drew (hu3.keep hdw)
    have HC : Hid (∀ w2, Below W.drew.heap.size W.drew w2 → w2.cell? ⟨w.heap.size, 0, none⟩ = some (.func (.func 98) #[] #[]) ∧ w2.cell? ⟨w.heap.size, 1, none⟩ = some (.func (.func 100) #[] #[]) ∧ w2.cell? ⟨w.heap.size + 1, 0, none⟩ = some (.int .i64 n) ∧ w2.cell? ⟨w.heap.size + 1, 1, none⟩ = some (.iface T1 fx) ∧ w2.cell? ⟨w.heap.size + 1 + 1, 0, none⟩ = some (.int .i64 m) ∧ w2.cell? ⟨w.heap.size + 1 + 1, 1, none⟩ = some (.iface T2 fy)) := Lib.hid fun w2 hg => ⟨(hg.cell (p := ⟨w.heap.size, 0, none⟩) (show w.heap.size < W.drew.heap.size from by show w.heap.size < W.heap.size; omega)).trans c0, (hg.cell (p := ⟨w.heap.size, 1, none⟩) (show w.heap.size < W.drew.heap.size from by show w.heap.size < W.heap.size; omega)).trans c1, (hg.cell (p := ⟨w.heap.size + 1, 0, none⟩) (show w.heap.size + 1 < W.drew.heap.size from by show w.heap.size + 1 < W.heap.size; omega)).trans c2, (hg.cell (p := ⟨w.heap.size + 1, 1, none⟩) (show w.heap.size + 1 < W.drew.heap.size from by show w.heap.size + 1 < W.heap.size; omega)).trans c3, (hg.cell (p := ⟨w.heap.size + 1 + 1, 0, none⟩) (show w.heap.size + 1 + 1 < W.drew.heap.size from by show w.heap.size + 1 + 1 < W.heap.size; omega)).trans c4, (hg.cell (p := ⟨w.heap.size + 1 + 1, 1, none⟩) (show w.heap.size + 1 + 1 < W.drew.heap.size from by show w.heap.size + 1 + 1 < W.heap.size; omega)).trans c5⟩
    have HV : Hid (∀ w2, Below W.drew.heap.size W.drew w2 → FIn w2 AnyB (.iface T1 fx) k ∧ FIn w2 AnyB (.iface T2 fy) l) := Lib.hid fun w2 hg =>
      ⟨(hv3.keep hdw).keep hg, (hu3.keep hdw).keep hg⟩
    obtain ⟨m0, m1, m2, m3, m4, m5⟩ := HC.out W.drew (Below.refl _ _)
    have HGW : Hid (∀ w2, Below W.drew.heap.size W.drew w2 → Below w.heap.size w w2) := Lib.hid fun w2 hg => (HG.out.trans (hdw.mono HG.out.size)).trans (hg.mono (Nat.le_trans HG.out.size hdw.size))
    have HREN := Lib.hid hren
    have HIH := Lib.hid hih
    clear hadd hren hih hb hv3 hu3 HG hsz3 c0 c1 c2 c3 c4 c5 hdw
    cases o1 with
    | true =>
      go_region_held3 (fun w' => w'.cell? ⟨w.heap.size, 0, none⟩ = some (.func (.func 98) #[] #[]) ∧ w'.cell? ⟨w.heap.size, 1, none⟩ = some (.func (.func 100) #[] #[]) ∧ w'.cell? ⟨w.heap.size + 1, 0, none⟩ = some (.int .i64 n) ∧ w'.cell? ⟨w.heap.size + 1, 1, none⟩ = some (.iface T1 fx) ∧ w'.cell? ⟨w.heap.size + 1 + 1, 0, none⟩ = some (.int .i64 m) ∧ w'.cell? ⟨w.heap.size + 1 + 1, 1, none⟩ = some (.iface T2 fy))
        (first | (with_reducible exact ⟨by assumption, by assumption, by assumption, by assumption, by assumption, by assumption⟩) | ((try dsimp only); exact ⟨by assumption, by assumption, by assumption, by assumption, by assumption, by assumption⟩) | go_keep)
        (first
          | (go_at_call 98; refine hcadd.mono ?_; rintro e w2 ⟨rfl, g4⟩; obtain ⟨a0, a1, a2, a3, a4, a5⟩ := HC.out w2 g4; have hcr := HREN.out w2 (HV.out w2 g4).2)
          | (go_at_call 151; refine hcr.mono ?_; rintro e w3 ⟨y, rfl, hy, hb3⟩; obtain ⟨fz, rfl⟩ := hy.iface; have hg3 := g4.trans (hb3.mono g4.size); obtain ⟨r0, r1, r2, r3, r4, r5⟩ := HC.out w3 hg3; have hct := HIH.out w3 _ (HV.out w3 hg3).1 hy.any)
          | (go_at_call 101; refine hct.mono ?_; rintro e w4 ⟨rfl, j4⟩; have hg4 := hg3.trans (j4.mono hg3.size); obtain ⟨s0, s1, s2, s3, s4, s5⟩ := HC.out w4 hg4)
          | fail)
      have hpost : BoolPost (true && r) w (.returned (.bool r)) w4 := ⟨by rw [Bool.true_and], HGW.out w4 hg4⟩
      clear hcadd hcr hct HC HV HGW HREN HIH g4 hy hb3 hg3 j4 hg4 m0 m1 m2 m3 m4 m5 a0 a1 a2 a3 a4 a5 r0 r1 r2 r3 r4 r5 s0 s1 s2 s3 s4 s5
      go_wp2
      go_ret
      exact hpost
    | false =>
      refine wp_region_held_drew (S := (fun w' => w'.cell? ⟨w.heap.size, 0, none⟩ = some (.func (.func 98) #[] #[]) ∧ w'.cell? ⟨w.heap.size, 1, none⟩ = some (.func (.func 100) #[] #[]) ∧ w'.cell? ⟨w.heap.size + 1, 0, none⟩ = some (.int .i64 n) ∧ w'.cell? ⟨w.heap.size + 1, 1, none⟩ = some (.iface T1 fx) ∧ w'.cell? ⟨w.heap.size + 1 + 1, 0, none⟩ = some (.int .i64 m) ∧ w'.cell? ⟨w.heap.size + 1 + 1, 1, none⟩ = some (.iface T2 fy))) (by kernel_rfl) ⟨m0, m1, m2, m3, m4, m5⟩ (fun hHeld => ?_)
      refine wpAnyH_take (i := 0) (v := ?vv0) rfl (by kernel_rfl) (by kernel_rfl) (by kernel_rfl) (fun _ _ _ h => h) (Or.inl ⟨by rfl, ?hy0⟩) (by assumption) ?rest0
      case hy0 => (intro w hSw; (try dsimp only at hSw); go_simp; (try with_reducible rfl))
      (try simp only [Act.put, List.getElem_toArray, List.getElem_cons_zero, List.setIfInBounds_toArray, List.set_cons_zero, List.set_cons_succ])
      refine wpAnyH_take (i := 1) (v := ?vv1) rfl (by kernel_rfl) (by kernel_rfl) (by kernel_rfl) (fun _ _ _ h => h) (Or.inl ⟨by rfl, ?hy1⟩) (by assumption) ?rest1
      case hy1 => (intro w hSw; (try dsimp only at hSw); go_simp; (try with_reducible rfl))
      (try simp only [Act.put, List.getElem_toArray, List.getElem_cons_zero, List.getElem_cons_succ, List.setIfInBounds_toArray, List.set_cons_zero, List.set_cons_succ])
      refine wpAnyH_take (i := 2) (v := ?vv2) rfl (by kernel_rfl) (by kernel_rfl) (by kernel_rfl) (fun _ _ _ h => h) (Or.inl ⟨by rfl, ?hy2⟩) (by assumption) ?rest2
      case hy2 => (intro w hSw; (try dsimp only at hSw); go_simp; (try with_reducible rfl))
      (try simp only [Act.put, List.getElem_toArray, List.getElem_cons_zero, List.getElem_cons_succ, List.setIfInBounds_toArray, List.set_cons_zero, List.set_cons_succ])
      refine wpAnyH_take (i := 3) (v := ?vv3) rfl (by kernel_rfl) (by kernel_rfl) (by kernel_rfl) (fun _ _ _ h => h) (Or.inl ⟨by rfl, ?hy3⟩) (by assumption) ?rest3
      case hy3 => (intro w hSw; (try dsimp only at hSw); go_simp; (try with_reducible rfl))
      (try simp only [Act.put, List.getElem_toArray, List.getElem_cons_zero, List.getElem_cons_succ, List.setIfInBounds_toArray, List.set_cons_zero, List.set_cons_succ])
      refine wpAnyH_take (i := 4) (v := ?vv4) rfl (by kernel_rfl) (by kernel_rfl) (by kernel_rfl) (fun _ _ _ h => h) (Or.inl ⟨by rfl, ?hy4⟩) (by assumption) ?rest4
      case hy4 => (intro w hSw; (try dsimp only at hSw); go_simp; (try with_reducible rfl))
      (try simp only [Act.put, List.getElem_toArray, List.getElem_cons_zero, List.getElem_cons_succ, List.setIfInBounds_toArray, List.set_cons_zero, List.set_cons_succ])
      refine wpAnyH_take (i := 5) (v := ?vv5) rfl (by kernel_rfl) (by kernel_rfl) (by kernel_rfl) (fun _ _ _ h => h) (Or.inl ⟨by rfl, ?hy5⟩) (by assumption) ?rest5
      case hy5 => (intro w hSw; (try dsimp only at hSw); go_simp; (try with_reducible rfl))
      (try simp only [Act.put, List.getElem_toArray, List.getElem_cons_zero, List.getElem_cons_succ, List.setIfInBounds_toArray, List.set_cons_zero, List.set_cons_succ])
      refine wpAnyH_ready (rs := [6]) (by kernel_rfl) (by simp) ?_
      refine AllReadyH.cons rfl (fun K hK => ?_) AllReadyH.nil
      go_simp
      go_at_call 98
      refine hcadd.mono ?_
      rintro e w2 ⟨rfl, g4⟩
      (try go_wp2_with fail)
      refine hK.out _ _ (HC.out w2 g4) (fun hHeld => ?_)
      clear hK K
      (try simp only [Act.put, List.getElem_toArray, List.getElem_cons_zero, List.getElem_cons_succ, List.setIfInBounds_toArray, List.set_cons_zero, List.set_cons_succ])
      refine wpAnyH_take (i := 7) (v := ?vv7) rfl (by kernel_rfl) (by kernel_rfl) (by kernel_rfl) (fun _ _ _ h => h) (Or.inl ⟨by rfl, ?hy7⟩) (by assumption) ?rest7
      case hy7 => (intro w hSw; (try dsimp only at hSw); go_simp; (try with_reducible rfl))
      (try simp only [Act.put, List.getElem_toArray, List.getElem_cons_zero, List.getElem_cons_succ, List.setIfInBounds_toArray, List.set_cons_zero, List.set_cons_succ])
      refine wpAnyH_take (i := 8) rfl (by kernel_rfl) (by kernel_rfl) (by kernel_rfl) (fun _ _ _ h => h) (Or.inr ⟨by rfl, rfl⟩) (by assumption) ?_
      (try simp only [Act.put, List.getElem_toArray, List.getElem_cons_zero, List.getElem_cons_succ, List.setIfInBounds_toArray, List.set_cons_zero, List.set_cons_succ])
      refine wpAnyH_take (i := 9) rfl (by kernel_rfl) (by kernel_rfl) (by kernel_rfl) (fun _ _ _ h => h) (Or.inr ⟨by rfl, rfl⟩) (by assumption) ?_
      (try simp only [Act.put, List.getElem_toArray, List.getElem_cons_zero, List.getElem_cons_succ, List.setIfInBounds_toArray, List.set_cons_zero, List.set_cons_succ])
      refine wpAnyH_take (i := 10) rfl (by kernel_rfl) (by kernel_rfl) (by kernel_rfl) (fun _ _ _ h => h) (Or.inr ⟨by rfl, rfl⟩) (by assumption) ?_
      (try simp only [Act.put, List.getElem_toArray, List.getElem_cons_zero, List.getElem_cons_succ, List.setIfInBounds_toArray, List.set_cons_zero, List.set_cons_succ])
      refine wpAnyH_take (i := 11) rfl (by kernel_rfl) (by kernel_rfl) (by kernel_rfl) (fun _ _ _ h => h) (Or.inr ⟨by rfl, rfl⟩) (by assumption) ?_
      (try simp only [Act.put, List.getElem_toArray, List.getElem_cons_zero, List.getElem_cons_succ, List.setIfInBounds_toArray, List.set_cons_zero, List.set_cons_succ])
      refine wpAnyH_take (i := 12) rfl (by kernel_rfl) (by kernel_rfl) (by kernel_rfl) (fun _ _ _ h => h) (Or.inr ⟨by rfl, rfl⟩) (by assumption) ?_
      (try simp only [Act.put, List.getElem_toArray, List.getElem_cons_zero, List.getElem_cons_succ, List.setIfInBounds_toArray, List.set_cons_zero, List.set_cons_succ])
      refine wpAnyH_take (i := 13) rfl (by kernel_rfl) (by kernel_rfl) (by kernel_rfl) (fun _ _ _ h => h) (Or.inr ⟨by rfl, rfl⟩) (by assumption) ?_
      (try simp only [Act.put, List.getElem_toArray, List.getElem_cons_zero, List.getElem_cons_succ, List.setIfInBounds_toArray, List.set_cons_zero, List.set_cons_succ])
      refine wpAnyH_take (i := 14) rfl (by kernel_rfl) (by kernel_rfl) (by kernel_rfl) (fun _ _ _ h => h) (Or.inr ⟨by rfl, rfl⟩) (by assumption) ?_
      (try simp only [Act.put, List.getElem_toArray, List.getElem_cons_zero, List.getElem_cons_succ, List.setIfInBounds_toArray, List.set_cons_zero, List.set_cons_succ])
      refine wpAnyH_take (i := 15) rfl (by kernel_rfl) (by kernel_rfl) (by kernel_rfl) (fun _ _ _ h => h) (Or.inr ⟨by rfl, rfl⟩) (by assumption) ?_
      (try simp only [Act.put, List.getElem_toArray, List.getElem_cons_zero, List.getElem_cons_succ, List.setIfInBounds_toArray, List.set_cons_zero, List.set_cons_succ])
      refine wpAnyH_take (i := 16) rfl (by kernel_rfl) (by kernel_rfl) (by kernel_rfl) (fun _ _ _ h => h) (Or.inr ⟨by rfl, rfl⟩) (by assumption) ?_
      (try simp only [Act.put, List.getElem_toArray, List.getElem_cons_zero, List.getElem_cons_succ, List.setIfInBounds_toArray, List.set_cons_zero, List.set_cons_succ])
      refine wpAnyH_take (i := 17) (v := ?vv17) rfl (by kernel_rfl) (by kernel_rfl) (by kernel_rfl) (fun _ _ _ h => h) (Or.inl ⟨by rfl, ?hy17⟩) (by assumption) ?rest17
      case hy17 => (intro w hSw; (try dsimp only at hSw); go_simp; (try with_reducible rfl))
      (try simp only [Act.put, List.getElem_toArray, List.getElem_cons_zero, List.getElem_cons_succ, List.setIfInBounds_toArray, List.set_cons_zero, List.set_cons_succ])
      refine wpAnyH_take (i := 18) (v := ?vv18) rfl (by kernel_rfl) (by kernel_rfl) (by kernel_rfl) (fun _ _ _ h => h) (Or.inl ⟨by rfl, ?hy18⟩) (by assumption) ?rest18
      case hy18 => (intro w hSw; (try dsimp only at hSw); go_simp; (try with_reducible rfl))
      (try simp only [Act.put, List.getElem_toArray, List.getElem_cons_zero, List.getElem_cons_succ, List.setIfInBounds_toArray, List.set_cons_zero, List.set_cons_succ])
      refine wpAnyH_done (by kernel_rfl) ?_ _
      have hpost : BoolPost (false && r) w (.returned (.bool false)) w2 := ⟨by rw [Bool.false_and], HGW.out w2 g4⟩
      clear hcadd HC HV HGW HREN HIH g4 m0 m1 m2 m3 m4 m5
      go_wp2
      go_ret
      exact hpost

set_option maxRecDepth 100000 in
set_option maxHeartbeats 2000000 in
theorem gBind (n : Int) (v : Value) (k : Tm) (u : Value) (t : Tm) (w : World) (hv : FIn w AnyB v k) (hu : FIn w AnyB u t) (hsz : szT t ≤ 1048576) (hP : OkP 1048576 t)
    (ihE : ∀ m l, t = .mk 3 m [] [l] → n = m → ∀ (w' : World) (v u : Value), FIn w' AnyB v k → FIn w' AnyB u l → Calls Tryz.prog 101 #[(.agg #[.func (.func 98) #[] #[], .func (.func 100) #[] #[]]), v, u] w' (BoolPost (eqOk frG hoG k l) w'))
    (ihN : ∀ m l, t = .mk 3 m [] [l] → n ≠ m → ∀ (w' : World) (v u : Value), FIn w' AnyB v k → FIn w' AnyB u (actT (swapL m n) l) → Calls Tryz.prog 101 #[(.agg #[.func (.func 98) #[] #[], .func (.func 100) #[] #[]]), v, u] w' (BoolPost (eqOk frG hoG k (actT (swapL m n) l)) w')) :
    Calls Tryz.prog 101 #[(.agg #[.func (.func 98) #[] #[], .func (.func 100) #[] #[]]), .iface 159 (.agg #[.int .i64 n, v]), u] w (BoolPost (eqOk frG hoG (.mk 3 n [] [k]) t) w) := by
  rw [gOk_3]
  obtain ⟨fx, rfl⟩ := hu.iface
  rcases form_cases hu with ⟨m, rfl, rfl⟩ | ⟨m, b1, off, c1, xs, ks, rfl, rfl, _, _, _, _⟩ | ⟨m, y, l, rfl, rfl, hl⟩ | ⟨m, B, d, q, rfl, rfl, _, _⟩
  case inr.inr.inl =>
    rw [op_mk, num_mk, kids_mk, gOks_one, gOks_one, tmAt_cons_zero]
    rw [gty_3]
    rw [show (decide ((3 : Int) = 3) && (if n = m then eqOk frG hoG k l else frG n l && eqOk frG hoG k (actT (swapL m n) l))) = gbOk n k m l by simp [gbOk]]
    have hszl : szT (.mk 3 m [] [l]) = 1 + szT l := by simp [szT, szTs]
    rw [hszl] at hsz
    have hb := bel3 w (.cells #[.func (.func 98) #[] #[], .func (.func 100) #[] #[]] 139) (.cells #[.int .i64 n, v] 159) (.cells #[.int .i64 m, y] 159)
    have hct := gBinders n m v y k l _ (hv.keep hb) (hl.keep hb) (by omega) hP.2.2.1 (ihE m l rfl) (ihN m l rfl)
    have HG := Lib.hid hb
    obtain ⟨fv, rfl⟩ := hv.iface
    obtain ⟨fy, rfl⟩ := hl.iface
    generalize gbOk n k m l = r at hct ⊢
    generalize fty k = T1 at *
    generalize fty l = T2 at *
    clear hu hv hl hP hb ihE ihN hszl hsz
    go_enter Tryz.func101, Tryz.ntmps101
    go_wp2_with (go_at_call 145; refine hct.mono ?_; rintro e w2 ⟨rfl, hb2⟩)
    go_ret
    exact ⟨rfl, HG.out.trans (hb2.mono HG.out.size)⟩
  all_goals
    obtain ⟨fv, rfl⟩ := hv.iface
    rw [op_mk]
    first | rw [gty_1] | rw [gty_2] | rw [gty_4]
    rw [show (decide (_ = (3 : Int)) && _) = false by simp]
    generalize fty k = T1 at *
    clear hu hv hP ihE ihN
    go_enter Tryz.func101, Tryz.ntmps101
    go_wp2
    go_ret
    exact ⟨rfl, bel3 _ _ _ _⟩

/-- Every two forms, of which the first one has no hole, are compared. -/
theorem gSame : ∀ (N : Nat) (s : Tm), szT s ≤ N → holesB s = false → ∀ (M : Nat) (t : Tm), M + 2 * N ≤ 1048576 → OkP M t → szT t ≤ 1048576 → ∀ (w' : World) (v u : Value), FIn w' AnyB v s → FIn w' AnyB u t → Calls Tryz.prog 101 #[(.agg #[.func (.func 98) #[] #[], .func (.func 100) #[] #[]]), v, u] w' (BoolPost (eqOk frG hoG s t) w') := by
  intro N
  induction N with
  | zero => intro s h; rw [szT_eq] at h; omega
  | succ N ih =>
    intro s hN hH M t hM hP hszt w v u hv hu
    obtain ⟨fx, rfl⟩ := hv.iface
    have hPt : OkP 1048576 t := okP_le (by omega) hP
    rcases form_cases hv with ⟨m, rfl, rfl⟩ | ⟨m, b1, off, c1, xs, ks, rfl, rfl, hb1, hbl1, hc1, hxs⟩ | ⟨m, y, k, rfl, rfl, hk⟩ | ⟨m, A, d, p, rfl, rfl, hp, _⟩
    · rw [gty_1]; exact gAtom m u t w hu
    · rw [gty_2]
      rw [szT_eq, kids_mk] at hN
      have hlen := len_szTs ks
      refine gNode m b1 off c1 xs ks u t w hu hbl1 hc1 hxs (by omega) hszt (fun i hi hj => ?_)
      have h1 := szT_at hi
      have h2 := szT_at hj
      have h3 : szT t = 1 + szTs t.kids := szT_eq t
      have hPk : OkP M (tmAt t.kids i) := by
        cases t with
        | mk o n q ls => exact okP_at hP.2.2 hj
      exact ih (tmAt ks i) (by omega) (noHole_kid hH hi) M (tmAt t.kids i) (by omega) hPk (by omega)
    · rw [gty_3]
      have hszk : szT (.mk 3 m [] [k]) = 1 + szT k := by simp [szT, szTs]
      rw [hszk] at hN
      have hHk : holesB k = false := noHole_kid (t := .mk 3 m [] [k]) (i := 0) hH (by simp [kids_mk])
      refine gBind m y k u t w hk hu hszt hPt (fun m' l e _ => ?_) (fun m' l e _ => ?_)
      · subst e
        have hszl : szT (.mk 3 m' [] [l]) = 1 + szT l := by simp [szT, szTs]
        exact ih k (by omega) hHk M l (by omega) hP.2.2.1 (by omega)
      · subst e
        have hszl : szT (.mk 3 m' [] [l]) = 1 + szT l := by simp [szT, szTs]
        have h2 := swapL_len m' m
        exact ih k (by omega) hHk (M + 2) _ (by omega) (okP_le (by omega) (okP_act (swapL m' m) hP.2.2.1)) (by rw [szT_actT]; omega)
    · rw [holesB_eq, op_mk] at hH
      simp at hH

end Go.Proofs.YtlhjgjfnmejiaaaGreat
end

section
namespace Go.Proofs.YtlhjgjfnmejiaaaGreat
open Go.RowKit Go.Sort
set_option linter.unusedVariables false

theorem tmAt_map (f : Tm → Tm) : ∀ {ks : List Tm} {i : Nat}, i < ks.length → tmAt (ks.map f) i = f (tmAt ks i)
  | [], i, h => by simp at h
  | t :: r, 0, _ => by rw [List.map_cons, tmAt_cons_zero, tmAt_cons_zero]
  | t :: r, i + 1, h => by rw [List.map_cons, tmAt_cons_succ, tmAt_cons_succ, tmAt_map f (ks := r) (by simpa using h)]
end Go.Proofs.YtlhjgjfnmejiaaaGreat
end

section
namespace Go.Proofs.YtlhjgjfnmejiaaaGreat
open Go.RowKit Go.Sort
set_option linter.unusedVariables false

/-- Bounds of what is a term. -/
theorem cnt_term {t : Tm} (h : isTermB t = true) : cntT t ≤ 10000 := by
  have h1 := cnt_ok (okP_good (term_good h))
  have h2 : (40 + 1) * szT t ≤ 41 * 60 := Nat.mul_le_mul (by decide) (term_size h)
  omega
/-- Acting with nothing changes no term. -/
theorem imgL_nil (n : Int) : imgL [] n = n := imgL_out (by simp [froms])
theorem thenL_nil {q : List (Int × Int)} (h : permB q = true) : thenL [] q = q := by
  have hp := isP_of h
  refine same_img (asc_thenL [] q) hp.asc (moves_thenL [] q) hp.mv fun a => ?_
  rw [img_thenL, imgL_nil]
mutual
theorem actT_nil : ∀ {t : Tm}, goodT t = true → actT [] t = t
  | .mk o n p ks, h => by
    rw [goodT_eq, Bool.and_eq_true] at h
    rw [actT, actTs_nil (ts := ks) h.2, imgL_nil, ite_self]
    by_cases h4 : o = 4
    · rw [if_pos h4]
      have h1 := h.1
      unfold shapeB at h1
      rw [op_mk, if_neg (by omega), if_neg (by omega), if_neg (by omega), if_pos h4] at h1
      simp only [Bool.and_eq_true] at h1
      rw [thenL_nil (q := p) h1.2.1]
    · rw [if_neg h4]
theorem actTs_nil : ∀ {ts : List Tm}, goodTs ts = true → actTs [] ts = ts
  | [], _ => rfl
  | t :: r, h => by
    rw [goodTs, Bool.and_eq_true] at h
    rw [actTs, actT_nil h.1, actTs_nil h.2]
end
end Go.Proofs.YtlhjgjfnmejiaaaGreat
end

section
namespace Go.Proofs.YtlhjgjfnmejiaaaGreat
open Go.RowKit Go.Sort
set_option linter.unusedVariables false

end Go.Proofs.YtlhjgjfnmejiaaaGreat
end

section
namespace Go.Proofs.YtlhjgjfnmejiaaaGreat
open Go.RowKit Go.Sort Go.ChangeShapes Go.WideShapes
set_option linter.unusedVariables false
attribute [local go_sem] ask_atom_atom ask_atom_node ask_atom_bind ask_atom_hole ask_node_atom ask_node_node ask_node_bind ask_node_hole ask_bind_atom ask_bind_node ask_bind_bind ask_bind_hole ask_hole_atom ask_hole_node ask_hole_bind ask_hole_hole

end Go.Proofs.YtlhjgjfnmejiaaaGreat
end

section
namespace Go.Proofs.YtlhjgjfnmejiaaaGreat
open Go.RowKit Go.Sort Go.ChangeShapes Go.WideShapes
set_option linter.unusedVariables false
attribute [local go_sem] ask_atom_atom ask_atom_node ask_atom_bind ask_atom_hole ask_node_atom ask_node_node ask_node_bind ask_node_hole ask_bind_atom ask_bind_node ask_bind_bind ask_bind_hole ask_hole_atom ask_hole_node ask_hole_bind ask_hole_hole

end Go.Proofs.YtlhjgjfnmejiaaaGreat
end

section
namespace Go.Proofs.YtlhjgjfnmejiaaaGreat
open Go.RowKit Go.Sort Go.ChangeShapes Go.WideShapes
set_option linter.unusedVariables false
attribute [local go_sem] ask_atom_atom ask_atom_node ask_atom_bind ask_atom_hole ask_node_atom ask_node_node ask_node_bind ask_node_hole ask_bind_atom ask_bind_node ask_bind_bind ask_bind_hole ask_hole_atom ask_hole_node ask_hole_bind ask_hole_hole

end Go.Proofs.YtlhjgjfnmejiaaaGreat
end

