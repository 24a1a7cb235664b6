/-
  Acting with a permutation on a form, in the program, as contracts. A term like another one, with other kids; what acting makes of a term: in the model, as contracts.
-/
import Derived.Test.YtbfkfklaplgebaaKActOn12
import Derived.Test.YtbfkfklaplgebaaKActOn16
import Derived.Test.YtbfkfklaplgebaaKActOn11
import Derived.Test.YtbfkfklaplgebaaKActOn14
import Derived.Test.YtbfkfklaplgebaaKActOn15
section
namespace Go.Proofs.Ytbfkfklaplgebaa
open Go.RowKit Go.Sort
set_option linter.unusedVariables false

theorem actF_1 (n : Int) : actF (.mk 1 n [] []) = 151 := rfl
theorem actF_2 (n : Int) (ks : List Tm) : actF (.mk 2 n [] ks) = 156 := rfl
theorem actF_3 (n : Int) (ks : List Tm) : actF (.mk 3 n [] ks) = 162 := rfl
theorem actF_4 (n : Int) (p : List (Int × Int)) : actF (.mk 4 n p []) = 169 := rfl

set_option maxRecDepth 100000 in
theorem act_atom (n : Int) (A : Option Addr) (c : Nat) (p : List (Int × Int)) (w : World) (hp : PairsAt w A p) (hl : p.length ≤ 1048576) (ha : Asc p) :
    Calls Try.prog 151 #[.agg #[.int .i64 n], .slice A p.length c] w (FormPost 0 (.mk 1 (imgL p n) [] []) w) := by
  have hb0 : Below w.heap.size w (w.alloc (.cells #[.int .i64 n] 91)) := (Below.refl _ _).alloc (Nat.le_refl _) _
  have him := imageIn_any A c p n _ (hp.below hb0) (by omega) ha
  have HA := Lib.hid ha
  clear ha
  generalize imgL p n = m at him ⊢
  go_enter Try.func151, Try.ntmps151
  go_wp2_with fail
  refine him.mono ?_
  rintro e w1 ⟨rfl, hb1⟩
  have hpost : FormPost 0 (.mk 1 m [] []) w (.returned (.iface 91 (.agg #[.int .i64 m]))) w1 := ⟨_, rfl, .atom m, hb0.trans (hb1.mono hb0.size)⟩
  clear him hb0 hb1
  go_wp2
  go_ret
  exact hpost

set_option maxRecDepth 100000 in
set_option maxHeartbeats 2000000 in
theorem act_hole (n : Int) (B : Option Addr) (d : Nat) (r : List (Int × Int)) (A : Option Addr) (c : Nat) (p : List (Int × Int)) (w : World) (hp : PairsAt w A p) (hl : p.length ≤ 1048576) (ha : Asc p)
    (hr : PairsAt w B r) (hlr : r.length ≤ 1048576) (har : Asc r) :
    Calls Try.prog 169 #[.agg #[.int .i64 n, .slice B r.length d], .slice A p.length c] w (FormPost 0 (.mk 4 n (thenL p r) []) w) := by
  have hb0 : Below w.heap.size w (w.alloc (.cells #[.int .i64 n, .slice B r.length d] 98)) := (Below.refl _ _).alloc (Nat.le_refl _) _
  have hdw : Below (w.alloc (.cells #[.int .i64 n, .slice B r.length d] 98)).heap.size (w.alloc (.cells #[.int .i64 n, .slice B r.length d] 98)) (w.alloc (.cells #[.int .i64 n, .slice B r.length d] 98)).drew := ⟨rfl, rfl, rfl, Nat.le_refl _, fun _ _ => rfl⟩
  have hbd := hb0.trans (hdw.mono hb0.size)
  have hco := composed_any A B c d p r _ (hp.below hbd) (hr.below hbd) hl hlr ha har
  obtain ⟨b0, b1⟩ := box2 hdw
  have hsz : w.heap.size < (w.alloc (.cells #[.int .i64 n, .slice B r.length d] 98)).drew.heap.size := by
    have := hdw.size
    rw [World.size_alloc] at this
    omega
  have HB := Lib.hid hbd
  clear ha har hb0 hdw hbd hp hr
  generalize thenL p r = L at hco ⊢
  go_enter Try.func169, Try.ntmps169
  go_wp2
  go_region_held3 (fun w' => w'.cell? ⟨w.heap.size, 0, none⟩ = some (.int .i64 n) ∧ w'.cell? ⟨w.heap.size, 1, none⟩ = some (.slice B r.length d))
    (first | ((try dsimp only); exact ⟨by assumption, by assumption⟩) | go_keep)
    ((go_at_call 173; refine hco.mono ?_; rintro e w2 ⟨g2, cap2, rfl, ho2, hb2⟩; have b0' := (hb2.cell (p := ⟨w.heap.size, 0, none⟩) hsz).trans b0; have b1' := (hb2.cell (p := ⟨w.heap.size, 1, none⟩) hsz).trans b1))
  have hpost : FormPost 0 (.mk 4 n L []) w (.returned (.iface 98 (.agg #[.int .i64 n, .slice (some ⟨g2, 0, none⟩) L.length cap2]))) w2 := by
    obtain ⟨A', c', e, hpa⟩ := own_pairsAt ho2
    simp only [Value.slice.injEq] at e
    refine ⟨_, rfl, .hole n rfl (by rw [e.1]; exact hpa) (fun b off _ hA => ?_), HB.out.trans (hb2.mono HB.out.size)⟩
    simp only [Option.some.injEq, Addr.mk.injEq] at hA
    have h1 := (ho2.lt g2 rfl).1
    have h2 := HB.out.size
    exact .inr (by omega)
  clear hco b0 b1 b0' b1' HB ho2 hb2
  go_wp2
  go_ret
  exact hpost

set_option maxRecDepth 100000 in
set_option maxHeartbeats 2000000 in
theorem act_bind (n : Int) (fx : Value) (k : Tm) (A : Option Addr) (c : Nat) (p : List (Int × Int)) (w : World) (hp : PairsAt w A p) (hl : p.length ≤ 1048576) (ha : Asc p)
    (ih : ∀ w' : World, Below w.heap.size w w' → Calls Try.prog (actF k) #[fx, .slice A p.length c] w' (FormPost 0 (actT p k) w')) :
    Calls Try.prog 162 #[.agg #[.int .i64 n, .iface (fty k) fx], .slice A p.length c] w (FormPost 0 (.mk 3 (imgL p n) [] [actT p k]) w) := by
  have hm := askAct k
  have hn := enterAct k
  generalize actF k = F at hm hn ih
  generalize fty k = T at *
  generalize actT p k = r at *
  have hb0 : Below w.heap.size w (w.alloc (.cells #[.int .i64 n, .iface T fx] 96)) := (Below.refl _ _).alloc (Nat.le_refl _) _
  have hdw : Below (w.alloc (.cells #[.int .i64 n, .iface T fx] 96)).heap.size (w.alloc (.cells #[.int .i64 n, .iface T fx] 96)) (w.alloc (.cells #[.int .i64 n, .iface T fx] 96)).drew := ⟨rfl, rfl, rfl, Nat.le_refl _, fun _ _ => rfl⟩
  have hbd := hb0.trans (hdw.mono hb0.size)
  have him := imageIn_any A c p n _ (hp.below hbd) (by omega) ha
  obtain ⟨b0, b1⟩ := box2 hdw
  have hsz : w.heap.size < (w.alloc (.cells #[.int .i64 n, .iface T fx] 96)).drew.heap.size := by
    have := hdw.size
    rw [World.size_alloc] at this
    omega
  have HB := Lib.hid hbd
  have HI : Hid (∀ w', Below w.heap.size w w' → Calls Try.prog F #[fx, .slice A p.length c] w' (FormPost 0 r w')) := Lib.hid ih
  clear ha hb0 hdw hbd hp ih
  generalize imgL p n = m at him ⊢
  go_enter Try.func162, Try.ntmps162
  go_wp2
  go_region_held3 (fun w' => w'.cell? ⟨w.heap.size, 0, none⟩ = some (.int .i64 n) ∧ w'.cell? ⟨w.heap.size, 1, none⟩ = some (.iface T fx))
    (first | ((try dsimp only); exact ⟨by assumption, by assumption⟩) | go_keep)
    (first
      | (go_at_call 155; refine him.mono ?_; rintro e w2 ⟨rfl, hb2⟩; have b0' := (hb2.cell (p := ⟨w.heap.size, 0, none⟩) hsz).trans b0; have b1' := (hb2.cell (p := ⟨w.heap.size, 1, none⟩) hsz).trans b1; have hsz2 := Nat.lt_of_lt_of_le hsz hb2.size; have HB2 := Lib.hid (HB.out.trans (hb2.mono HB.out.size)))
      | (refine (HI.out w2 HB2.out).mono ?_; rintro e w3 ⟨fv, rfl, hfv, hb3⟩; obtain ⟨fy, rfl⟩ := hfv.iface; have b0'' := (hb3.cell (p := ⟨w.heap.size, 0, none⟩) hsz2).trans b0'; have b1'' := (hb3.cell (p := ⟨w.heap.size, 1, none⟩) hsz2).trans b1'))
  have hpost : FormPost 0 (.mk 3 m [] [r]) w (.returned (.iface 96 (.agg #[.int .i64 m, .iface (fty r) fy]))) w3 :=
    ⟨_, rfl, .bind m (hfv.kind fun b _ h => since_le h HB2.out.size), HB2.out.trans (hb3.mono HB2.out.size)⟩
  clear him HI HB HB2 b0 b1 b0' b1' b0'' b1'' hfv hb2 hb3 hm hn
  go_wp2
  go_ret
  exact hpost

set_option maxRecDepth 100000 in
theorem act_one (B : Nat) (T : TypeId) (fx : Value) (F : FuncId) (R : Ending → World → Prop) (A : Option Addr) (c : Nat) (p : List (Int × Int)) (w : World) (hc : w.cell? ⟨B, 0, none⟩ = some (.slice A p.length c))
    (hm : ∀ (v : Value) (w : World), (method 280 T v "loop.example/g03112/impl.acted").run Try.prog w = .ok (F, v) w) (hn : ∀ (args : Array Value) (w : World), (callFunc F args).run Try.prog w = .ok (.enter F args) w) (ih : Calls Try.prog F #[fx, .slice A p.length c] w (fun e w' => (∃ U y, e = .returned (.iface U y)) ∧ R e w')) :
    Calls Try.prog 161 (#[.iface T fx] ++ #[.pointer (some ⟨B, 0, none⟩)]) w R := by
  show Calls Try.prog 161 #[.iface T fx, .pointer (some ⟨B, 0, none⟩)] w R
  go_enter Try.func161, Try.ntmps161
  go_wp2_with fail
  refine ih.mono ?_
  rintro e w2 ⟨⟨U, y, rfl⟩, hR⟩
  have HR := Lib.hid hR
  clear hR ih
  go_wp2
  exact HR.out

set_option maxRecDepth 100000 in
set_option maxHeartbeats 2000000 in
theorem act_node (n : Int) (b off c0 : Nat) (xs : List Value) (ks : List Tm) (q : Nat → Prop) (A : Option Addr) (c : Nat) (p : List (Int × Int)) (w : World) (hbl : b < w.heap.size) (hc : ∀ j u, xs[j]? = some u → w.cell? ⟨b, off + j, none⟩ = some u) (hxs : FsIn w q xs ks) (hlen : ks.length ≤ 1048576)
    (ih : ∀ i, i < ks.length → ∀ (w' : World) (y : Value), Below w.heap.size w w' → FIn w' q (.iface (fty (tmAt ks i)) y) (tmAt ks i) → Calls Try.prog (actF (tmAt ks i)) #[y, .slice A p.length c] w' (FormPost 0 (actT p (tmAt ks i)) w')) :
    Calls Try.prog 156 #[.agg #[.int .i64 n, .slice (some ⟨b, off, none⟩) ks.length c0], .slice A p.length c] w (FormPost 0 (.mk 2 n [] (actTs p ks)) w) := by
  have hb0 : Below w.heap.size w ((w.alloc (.cells #[.int .i64 n, .slice (some ⟨b, off, none⟩) ks.length c0] 94)).alloc (.cells #[.slice A p.length c] 28)) := ((Below.refl _ _).alloc (Nat.le_refl _) _).alloc (by simp) _
  have hcell : ((w.alloc (.cells #[.int .i64 n, .slice (some ⟨b, off, none⟩) ks.length c0] 94)).alloc (.cells #[.slice A p.length c] 28)).cell? ⟨w.heap.size + 1, 0, none⟩ = some (.slice A p.length c) := by simp
  have eg : ∀ args w, (callFunc 161 args).run Try.prog w = .ok (.enter 161 args) w := enters_of Try.func161 (by kernel_rfl) rfl
  have hwk := withKids_any n b off c0 xs ks (actTs p ks) q _ 0 161 #[.pointer (some ⟨w.heap.size + 1, 0, none⟩)] (actTs_len p ks) (Nat.zero_le _) eg (Nat.lt_of_lt_of_le hbl hb0.size)
    (fun j u hj => (hb0.cell (p := ⟨b, off + j, none⟩) hbl).trans (hc j u hj)) (hxs.over ⟨hb0.size, fun b _ hl => hb0.block b hl, fun _ h _ => h⟩) hlen
    (fun i hi w' T y hb hf => by
      obtain ⟨y', e⟩ := hf.iface
      injection e with e1 e2
      subst e1; subst e2
      have hb' := hb0.trans (hb.mono hb0.size)
      refine act_one (w.heap.size + 1) _ y (actF (tmAt ks i)) _ A c p w' ((hb.cell (p := ⟨w.heap.size + 1, 0, none⟩) (by simp)).trans hcell) (askAct _) (enterAct _) ((ih i hi w' y hb' hf).mono ?_)
      rintro e w2 ⟨v, rfl, hv, hb2⟩
      obtain ⟨fy, rfl⟩ := hv.iface
      rw [actTs_at p hi]
      exact ⟨⟨_, _, rfl⟩, _, rfl, hv, hb2⟩)
  have HB := Lib.hid hb0
  clear hc hxs ih hcell eg hb0 hbl
  have hal := actTs_len p ks
  generalize actTs p ks = rs at hwk ⊢
  clear hal
  go_enter Try.func156, Try.ntmps156
  go_wp2_with fail
  refine hwk.mono ?_
  rintro e w2 ⟨g, cap, rfl, hf, hb2⟩
  have hpost : FormPost 0 (.mk 2 n [] rs) w (.returned (.iface 94 (.agg #[.int .i64 n, .slice (some ⟨g, 0, none⟩) rs.length cap]))) w2 :=
    ⟨_, rfl, hf.kind fun b _ h => since_le h HB.out.size, HB.out.trans (hb2.mono HB.out.size)⟩
  clear hwk HB hf hb2
  go_wp2
  go_ret
  exact hpost

/-- What acting makes of a form. -/
theorem act_any : ∀ (N : Nat) (t : Tm), szT t ≤ N → N ≤ 1048576 → OkP 1048576 t → ∀ (q : Nat → Prop) (w : World) (fx : Value) (A : Option Addr) (c : Nat) (p : List (Int × Int)), PairsAt w A p → p.length ≤ 1048576 → Asc p → FIn w q (.iface (fty t) fx) t →
    Calls Try.prog (actF t) #[fx, .slice A p.length c] w (FormPost 0 (actT p t) w) := by
  intro N
  induction N with
  | zero => intro t h; rw [szT_eq] at h; omega
  | succ N ih =>
    intro t hN hM hok q w fx A c p hp hl ha h
    rcases form_cases h with ⟨n, rfl, rfl⟩ | ⟨n, b, off, c', xs, ks, rfl, rfl, _, hb, hc, hxs⟩ | ⟨n, v, k, rfl, rfl, hk⟩ | ⟨n, A', c', r, rfl, rfl, hr, _⟩
    · rw [actT_1, actF_1]
      exact act_atom n A c p w hp hl ha
    · rw [actT_2, actF_2]
      rw [szT_eq, kids_mk] at hN
      have hkl := len_szTs ks
      refine act_node n b off c' xs ks q A c p w hb hc hxs (by omega) fun i hi w' y hb' hy => ih _ ?_ (by omega) (okP_at hok.2.2 hi) q w' y A c p (hp.below hb') hl ha hy
      have := szT_at hi
      omega
    · rw [actT_3, actF_3]
      obtain ⟨fx, rfl⟩ := hk.iface
      rw [szT_eq, kids_mk, szTs, szTs] at hN
      exact act_bind n fx k A c p w hp hl ha fun w' hb => ih k (by omega) (by omega) hok.2.2.1 q w' fx A c p (hp.below hb) hl ha (hk.keep hb)
    · rw [actT_4, actF_4]
      exact act_hole n A' c' r A c p w hp hl ha hr hok.2.1 hok.1
end Go.Proofs.Ytbfkfklaplgebaa
end

section
namespace Go.Proofs.Ytbfkfklaplgebaa
open Go.RowKit Go.Sort
set_option linter.unusedVariables false

/-- A term with pairs of its own, and kids that were handed in. -/
def WithPost (t : Tm) (n : Int) (kv : Value) (w : World) (e : Ending) (w' : World) : Prop :=
  ∃ A1 c1 S, e = .returned (.agg #[.int .i64 t.op, .int .i64 n, .slice A1 t.perm.length c1, kv]) ∧ Own w' S (.slice A1 t.perm.length c1) (pairMem t.perm) ∧ (∀ b ∈ S, w.heap.size ≤ b) ∧ Below w.heap.size w w'

theorem own_plus {w : World} {base : Nat} {e : TypeId} {v : Value} {l : List (Int × Int)} (h : w.ownsRow base e 2 v (0 + l.length) ([] ++ cellsOf l)) : w.ownsRow base e 2 v l.length (cellsOf l) := by
  rw [Nat.zero_add, List.nil_append] at h
  exact h

set_option maxRecDepth 100000 in
set_option maxHeartbeats 4000000 in
theorem l2With_any (t : Tm) (n : Int) (A B : Option Addr) (c d : Nat) (Ak : Option Addr) (m ck : Nat) (w : World) (hp : PairsAt w A t.perm) (hl : t.perm.length ≤ 1048576) :
    Calls Try.prog 60 #[.agg #[.int .i64 t.op, .int .i64 t.num, .slice A t.perm.length c, .slice B t.kids.length d], .int .i64 n, .slice Ak m ck] w (WithPost t n (.slice Ak m ck) w) := by
  obtain ⟨i0, hi0, hz0, hz1, hz2⟩ := info_parts pair_infoT
  have HS := Lib.hid hz2
  clear hz2
  have hb0 : Below w.heap.size w ((w.alloc (.cells #[.int .i64 t.op, .int .i64 t.num, .slice A t.perm.length c, .slice B t.kids.length d] 31)).alloc (.cells #[.int .i64 0, .int .i64 0, .slice none 0 0, .slice none 0 0] 31)) := ((Below.refl _ _).alloc (Nat.le_refl _) _).alloc (by simp) _
  have hdw : Below ((w.alloc (.cells #[.int .i64 t.op, .int .i64 t.num, .slice A t.perm.length c, .slice B t.kids.length d] 31)).alloc (.cells #[.int .i64 0, .int .i64 0, .slice none 0 0, .slice none 0 0] 31)).heap.size ((w.alloc (.cells #[.int .i64 t.op, .int .i64 t.num, .slice A t.perm.length c, .slice B t.kids.length d] 31)).alloc (.cells #[.int .i64 0, .int .i64 0, .slice none 0 0, .slice none 0 0] 31)) ((w.alloc (.cells #[.int .i64 t.op, .int .i64 t.num, .slice A t.perm.length c, .slice B t.kids.length d] 31)).alloc (.cells #[.int .i64 0, .int .i64 0, .slice none 0 0, .slice none 0 0] 31)).drew := ⟨rfl, rfl, rfl, Nat.le_refl _, fun _ _ => rfl⟩
  have hbd := hb0.trans (hdw.mono hb0.size)
  obtain ⟨hr', ha'⟩ := box_row hdw
  have b0 : ((w.alloc (.cells #[.int .i64 t.op, .int .i64 t.num, .slice A t.perm.length c, .slice B t.kids.length d] 31)).alloc (.cells #[.int .i64 0, .int .i64 0, .slice none 0 0, .slice none 0 0] 31)).drew.cell? ⟨w.heap.size, 0, none⟩ = some (.int .i64 t.op) := by rw [cell_of_row _ w.heap.size 0 _ _ _ ha']; rfl
  have b2 : ((w.alloc (.cells #[.int .i64 t.op, .int .i64 t.num, .slice A t.perm.length c, .slice B t.kids.length d] 31)).alloc (.cells #[.int .i64 0, .int .i64 0, .slice none 0 0, .slice none 0 0] 31)).drew.cell? ⟨w.heap.size, 2, none⟩ = some (.slice A t.perm.length c) := by rw [cell_of_row _ w.heap.size 2 _ _ _ ha']; rfl
  have r0' : ((w.alloc (.cells #[.int .i64 t.op, .int .i64 t.num, .slice A t.perm.length c, .slice B t.kids.length d] 31)).alloc (.cells #[.int .i64 0, .int .i64 0, .slice none 0 0, .slice none 0 0] 31)).drew.cell? ⟨w.heap.size + 1, 0, none⟩ = some (.int .i64 0) := by rw [cell_of_row _ (w.heap.size + 1) 0 _ _ _ hr']; rfl
  have r1' : ((w.alloc (.cells #[.int .i64 t.op, .int .i64 t.num, .slice A t.perm.length c, .slice B t.kids.length d] 31)).alloc (.cells #[.int .i64 0, .int .i64 0, .slice none 0 0, .slice none 0 0] 31)).drew.cell? ⟨w.heap.size + 1, 1, none⟩ = some (.int .i64 0) := by rw [cell_of_row _ (w.heap.size + 1) 1 _ _ _ hr']; rfl
  have r2' : ((w.alloc (.cells #[.int .i64 t.op, .int .i64 t.num, .slice A t.perm.length c, .slice B t.kids.length d] 31)).alloc (.cells #[.int .i64 0, .int .i64 0, .slice none 0 0, .slice none 0 0] 31)).drew.cell? ⟨w.heap.size + 1, 2, none⟩ = some (.slice none 0 0) := by rw [cell_of_row _ (w.heap.size + 1) 2 _ _ _ hr']; rfl
  have r3' : ((w.alloc (.cells #[.int .i64 t.op, .int .i64 t.num, .slice A t.perm.length c, .slice B t.kids.length d] 31)).alloc (.cells #[.int .i64 0, .int .i64 0, .slice none 0 0, .slice none 0 0] 31)).drew.cell? ⟨w.heap.size + 1, 3, none⟩ = some (.slice none 0 0) := by rw [cell_of_row _ (w.heap.size + 1) 3 _ _ _ hr']; rfl
  have z0' : ((w.alloc (.cells #[.int .i64 t.op, .int .i64 t.num, .slice A t.perm.length c, .slice B t.kids.length d] 31)).alloc (.cells #[.int .i64 0, .int .i64 0, .slice none 0 0, .slice none 0 0] 31)).drew.frozen? ⟨w.heap.size + 1, 0, none⟩ = false := frozen_of_row _ (w.heap.size + 1) 0 _ _ hr'
  have z1' : ((w.alloc (.cells #[.int .i64 t.op, .int .i64 t.num, .slice A t.perm.length c, .slice B t.kids.length d] 31)).alloc (.cells #[.int .i64 0, .int .i64 0, .slice none 0 0, .slice none 0 0] 31)).drew.frozen? ⟨w.heap.size + 1, 1, none⟩ = false := frozen_of_row _ (w.heap.size + 1) 1 _ _ hr'
  have z2' : ((w.alloc (.cells #[.int .i64 t.op, .int .i64 t.num, .slice A t.perm.length c, .slice B t.kids.length d] 31)).alloc (.cells #[.int .i64 0, .int .i64 0, .slice none 0 0, .slice none 0 0] 31)).drew.frozen? ⟨w.heap.size + 1, 2, none⟩ = false := frozen_of_row _ (w.heap.size + 1) 2 _ _ hr'
  have z3' : ((w.alloc (.cells #[.int .i64 t.op, .int .i64 t.num, .slice A t.perm.length c, .slice B t.kids.length d] 31)).alloc (.cells #[.int .i64 0, .int .i64 0, .slice none 0 0, .slice none 0 0] 31)).drew.frozen? ⟨w.heap.size + 1, 3, none⟩ = false := frozen_of_row _ (w.heap.size + 1) 3 _ _ hr'
  have hszd : ((w.alloc (.cells #[.int .i64 t.op, .int .i64 t.num, .slice A t.perm.length c, .slice B t.kids.length d] 31)).alloc (.cells #[.int .i64 0, .int .i64 0, .slice none 0 0, .slice none 0 0] 31)).drew.heap.size = w.heap.size + 2 := by
    show ((w.alloc (.cells #[.int .i64 t.op, .int .i64 t.num, .slice A t.perm.length c, .slice B t.kids.length d] 31)).alloc (.cells #[.int .i64 0, .int .i64 0, .slice none 0 0, .slice none 0 0] 31)).heap.size = _
    simp
  have hsz1 : w.heap.size + 1 < ((w.alloc (.cells #[.int .i64 t.op, .int .i64 t.num, .slice A t.perm.length c, .slice B t.kids.length d] 31)).alloc (.cells #[.int .i64 0, .int .i64 0, .slice none 0 0, .slice none 0 0] 31)).drew.heap.size := by omega
  have hsz : w.heap.size < ((w.alloc (.cells #[.int .i64 t.op, .int .i64 t.num, .slice A t.perm.length c, .slice B t.kids.length d] 31)).alloc (.cells #[.int .i64 0, .int .i64 0, .slice none 0 0, .slice none 0 0] 31)).drew.heap.size := by omega
  have hal : Below ((w.alloc (.cells #[.int .i64 t.op, .int .i64 t.num, .slice A t.perm.length c, .slice B t.kids.length d] 31)).alloc (.cells #[.int .i64 0, .int .i64 0, .slice none 0 0, .slice none 0 0] 31)).drew.heap.size ((w.alloc (.cells #[.int .i64 t.op, .int .i64 t.num, .slice A t.perm.length c, .slice B t.kids.length d] 31)).alloc (.cells #[.int .i64 0, .int .i64 0, .slice none 0 0, .slice none 0 0] 31)).drew (((w.alloc (.cells #[.int .i64 t.op, .int .i64 t.num, .slice A t.perm.length c, .slice B t.kids.length d] 31)).alloc (.cells #[.int .i64 0, .int .i64 0, .slice none 0 0, .slice none 0 0] 31)).drew.alloc (.cells #[] 58)) := (Below.refl _ _).alloc (Nat.le_refl _) _
  have ho : (((w.alloc (.cells #[.int .i64 t.op, .int .i64 t.num, .slice A t.perm.length c, .slice B t.kids.length d] 31)).alloc (.cells #[.int .i64 0, .int .i64 0, .slice none 0 0, .slice none 0 0] 31)).drew.alloc (.cells #[] 58)).ownsRow (w.heap.size + 2) 58 2 (.slice (some ⟨w.heap.size + 2, 0, none⟩) 0 0) 0 [] := by
    have h9 := World.ownsRow_lit (base := w.heap.size + 2) (e := 58) (size := 2) ((w.alloc (.cells #[.int .i64 t.op, .int .i64 t.num, .slice A t.perm.length c, .slice B t.kids.length d] 31)).alloc (.cells #[.int .i64 0, .int .i64 0, .slice none 0 0, .slice none 0 0] 31)).drew #[] 0 (by omega) (by decide) rfl
    rw [hszd] at h9
    exact h9
  have hpp := (hp.below hbd).below hal
  have HO := Lib.hid ho
  have HAL := Lib.hid hal
  have HB := Lib.hid hbd
  have HZ := Lib.hid hszd
  have hne0 : w.heap.size ≠ w.heap.size + 2 := by omega
  clear hr' ha' hb0 hdw hbd hp ho hal hszd
  go_enter Try.func60, Try.ntmps60
  go_wp2
  go_region_held3 (fun w' => w'.cell? ⟨w.heap.size, 0, none⟩ = some (.int .i64 t.op) ∧ w'.cell? ⟨w.heap.size, 2, none⟩ = some (.slice A t.perm.length c))
    (first | ((try dsimp only); (with_reducible exact ⟨by assumption, by assumption⟩)) | go_keep)
    ((refine step_append_pairs (by rfl) _ _ _ (by rfl) (w.heap.size + 2) 58 i0 _ Try.underlying28 hi0 hz0 hz1 HS.out rfl _ 0 _ (by rfl) HO.out A c t.perm (by rfl) hpp (by omega) (by simp) ?_; intro v4 w4 ho4 hg4; have hb4 := below_own HAL.out HO.out (Nat.le_of_eq HZ.out) HAL.out.size hg4; have b0' := (hb4.cell (p := ⟨w.heap.size, 0, none⟩) hsz).trans b0; have b2' := (hb4.cell (p := ⟨w.heap.size, 2, none⟩) hsz).trans b2; have r0 := (hb4.cell (p := ⟨w.heap.size + 1, 0, none⟩) hsz1).trans r0'; have r1 := (hb4.cell (p := ⟨w.heap.size + 1, 1, none⟩) hsz1).trans r1'; have r2 := (hb4.cell (p := ⟨w.heap.size + 1, 2, none⟩) hsz1).trans r2'; have r3 := (hb4.cell (p := ⟨w.heap.size + 1, 3, none⟩) hsz1).trans r3'; have z0 := (hb4.frozen (p := ⟨w.heap.size + 1, 0, none⟩) hsz1).trans z0'; have z1 := (hb4.frozen (p := ⟨w.heap.size + 1, 1, none⟩) hsz1).trans z1'; have z2 := (hb4.frozen (p := ⟨w.heap.size + 1, 2, none⟩) hsz1).trans z2'; have z3 := (hb4.frozen (p := ⟨w.heap.size + 1, 3, none⟩) hsz1).trans z3'; have ho5 := own_plus ho4; obtain ⟨A1, c1, rfl, _⟩ := own_pairsAt ho5))
  obtain ⟨S, hS, hSb, _⟩ := own_pairMem ho5
  have hs1 := HB.out.size
  have hpost : WithPost t n (.slice Ak m ck) w (.returned (.agg #[.int .i64 t.op, .int .i64 n, .slice A1 t.perm.length c1, .slice Ak m ck])) ((((w4.setCell ⟨w.heap.size + 1, 0, none⟩ (.int .i64 t.op)).setCell ⟨w.heap.size + 1, 1, none⟩ (.int .i64 n)).setCell ⟨w.heap.size + 1, 2, none⟩ (.slice A1 t.perm.length c1)).setCell ⟨w.heap.size + 1, 3, none⟩ (.slice Ak m ck)) := by
    have hne : ∀ b ∈ S, b ≠ w.heap.size + 1 := fun b hb => by have := hSb b hb; omega
    exact ⟨A1, c1, S, rfl, (((hS.setCell_other ⟨w.heap.size + 1, 0, none⟩ (.int .i64 t.op) hne).setCell_other ⟨w.heap.size + 1, 1, none⟩ (.int .i64 n) hne).setCell_other ⟨w.heap.size + 1, 2, none⟩ (.slice A1 t.perm.length c1) hne).setCell_other ⟨w.heap.size + 1, 3, none⟩ (.slice Ak m ck) hne,
      fun b hb => by have := hSb b hb; omega, set4_below (HB.out.trans (hb4.mono hs1)) (by omega) _ _ _ _⟩
  clear ho4 hg4 hb4 ho5 hS hSb hs1 HB HO HAL HZ hpp b0 b2 b0' b2' r0' r1' r2' r3' z0' z1' z2' z3'
  go_wp2
  exact bodyPost_ret (v := .agg #[.int .i64 t.op, .int .i64 n, .slice A1 t.perm.length c1, .slice Ak m ck]) (by simp [results, Try.results60, go_sem, r0, r1, r2, r3]) rfl hpost

theorem actT_13 {t : Tm} (p : List (Int × Int)) (h : t.op = 1 ∨ t.op = 3) : actT p t = .mk t.op (imgL p t.num) t.perm (actTs p t.kids) := by
  cases t with
  | mk o n r ks =>
    simp only [op_mk] at h
    rw [actT, if_pos h, if_neg (by omega)]; rfl
theorem actT_44 {t : Tm} (p : List (Int × Int)) (h : t.op = 4) : actT p t = .mk t.op t.num (thenL p t.perm) (actTs p t.kids) := by
  cases t with
  | mk o n r ks =>
    simp only [op_mk] at h
    rw [actT, if_neg (by omega), if_pos h]; rfl
theorem actT_00 {t : Tm} (p : List (Int × Int)) (h1 : ¬ t.op = 1) (h3 : ¬ t.op = 3) (h4 : ¬ t.op = 4) : actT p t = .mk t.op t.num t.perm (actTs p t.kids) := by
  cases t with
  | mk o n r ks =>
    simp only [op_mk] at h1 h3 h4
    rw [actT, if_neg (by omega), if_neg h4]; rfl

/-- A term put together of parts that are all of the call's own, in the result's box. -/
theorem act_done {w w5 : World} {R : Nat} {r : Tm} {o n : Int} {p : List (Int × Int)} {ks : List Tm} (hr : r = .mk o n p ks) {A1 : Option Addr} {c1 g cap : Nat} {S S2 : List Nat} {xs : List Value}
    (hS : Own w5 S (.slice A1 p.length c1) (pairMem p)) (hSb : ∀ b ∈ S, R < b) (ho : w5.ownsRow (R + 1) 31 4 (.slice (some ⟨g, 0, none⟩) ks.length cap) ks.length xs) (hx : OwnL w5 S2 xs (encTs ks)) (hg : g ∉ S2) (hS2 : ∀ b ∈ S2, R < b)
    (hd : ∀ b ∈ S, b ∉ g :: S2) (hR : w.heap.size ≤ R) (hb : Below w.heap.size w w5) :
    TmOut r w (.returned (.agg #[.int .i64 o, .int .i64 n, .slice A1 p.length c1, .slice (some ⟨g, 0, none⟩) ks.length cap])) ((((w5.setCell ⟨R, 0, none⟩ (.int .i64 o)).setCell ⟨R, 1, none⟩ (.int .i64 n)).setCell ⟨R, 2, none⟩ (.slice A1 p.length c1)).setCell ⟨R, 3, none⟩ (.slice (some ⟨g, 0, none⟩) ks.length cap)) := by
  subst hr
  have hk4 := own_of_terms (ts := ks) rfl (own_le ho (Nat.zero_le _)) hx hg
  have hL := own_four (o := o) (n := n) hS hk4 hd
  have hgR := (ho.lt g rfl).1
  have hLb : ∀ b ∈ S ++ ((g :: S2) ++ []), R < b := fun b hb => by
    simp only [List.append_nil, List.mem_append, List.mem_cons] at hb
    rcases hb with hb | rfl | hb
    · exact hSb b hb
    · omega
    · exact hS2 b hb
  exact ⟨A1, c1, some ⟨g, 0, none⟩, cap, _, rfl, set4_own hL (fun b hb => by have := hLb b hb; omega) _ _ _ _, fun b hb => by have := hLb b hb; omega, set4_below hb hR _ _ _ _⟩

/-- The result's box holds what was put into it. -/
theorem set4_cells {w : World} {R : Nat} {o0 o1 o2 o3 : Value} (h0 : w.cell? ⟨R, 0, none⟩ = some o0) (h1 : w.cell? ⟨R, 1, none⟩ = some o1) (h2 : w.cell? ⟨R, 2, none⟩ = some o2) (h3 : w.cell? ⟨R, 3, none⟩ = some o3) (hR : R < w.heap.size) (X : Obj) (a b c d : Value) :
    (((((w.setCell ⟨R, 0, none⟩ a).setCell ⟨R, 1, none⟩ b).setCell ⟨R, 2, none⟩ c).setCell ⟨R, 3, none⟩ d).alloc X).cell? ⟨R, 0, none⟩ = some a ∧ (((((w.setCell ⟨R, 0, none⟩ a).setCell ⟨R, 1, none⟩ b).setCell ⟨R, 2, none⟩ c).setCell ⟨R, 3, none⟩ d).alloc X).cell? ⟨R, 1, none⟩ = some b ∧ (((((w.setCell ⟨R, 0, none⟩ a).setCell ⟨R, 1, none⟩ b).setCell ⟨R, 2, none⟩ c).setCell ⟨R, 3, none⟩ d).alloc X).cell? ⟨R, 2, none⟩ = some c ∧ (((((w.setCell ⟨R, 0, none⟩ a).setCell ⟨R, 1, none⟩ b).setCell ⟨R, 2, none⟩ c).setCell ⟨R, 3, none⟩ d).alloc X).cell? ⟨R, 3, none⟩ = some d := by
  have hsz : ((((w.setCell ⟨R, 0, none⟩ a).setCell ⟨R, 1, none⟩ b).setCell ⟨R, 2, none⟩ c).setCell ⟨R, 3, none⟩ d).heap.size = w.heap.size := by simp
  have hbx : Below ((((w.setCell ⟨R, 0, none⟩ a).setCell ⟨R, 1, none⟩ b).setCell ⟨R, 2, none⟩ c).setCell ⟨R, 3, none⟩ d).heap.size ((((w.setCell ⟨R, 0, none⟩ a).setCell ⟨R, 1, none⟩ b).setCell ⟨R, 2, none⟩ c).setCell ⟨R, 3, none⟩ d) (((((w.setCell ⟨R, 0, none⟩ a).setCell ⟨R, 1, none⟩ b).setCell ⟨R, 2, none⟩ c).setCell ⟨R, 3, none⟩ d).alloc X) := (Below.refl _ _).alloc (Nat.le_refl _) _
  refine ⟨?_, ?_, ?_, ?_⟩
  · exact (hbx.cell (p := ⟨R, 0, none⟩) (by rw [hsz]; exact hR)).trans (by simp [go_sem, h0])
  · exact (hbx.cell (p := ⟨R, 1, none⟩) (by rw [hsz]; exact hR)).trans (by simp [go_sem, h1])
  · exact (hbx.cell (p := ⟨R, 2, none⟩) (by rw [hsz]; exact hR)).trans (by simp [go_sem, h2])
  · exact (hbx.cell (p := ⟨R, 3, none⟩) (by rw [hsz]; exact hR)).trans (by simp [go_sem, h3])

/-- What a call has answered, later on. -/
theorem TmOut.later {t : Tm} {w w1 w2 : World} {e : Ending} (h : TmOut t w e w1) (hb : Below w1.heap.size w1 w2) : TmOut t w e w2 := by
  obtain ⟨A1, c1, A2, c2, S, he, hL, hS, hb1⟩ := h
  exact ⟨A1, c1, A2, c2, S, he, hL.alike fun b hb' => hb.block b (hL.lt b hb'), hS, hb1.trans (hb.mono hb1.size)⟩

set_option maxRecDepth 100000 in
set_option maxHeartbeats 8000000 in
theorem l2Act_step (t : Tm) (x : Value) (P : Option Addr) (cp : Nat) (p : List (Int × Int)) (w : World) (hx : TmIn w x t) (hP : PairsAt w P p) (hlp : p.length ≤ 1048576) (hl : t.perm.length ≤ 1048576) (hkl : t.kids.length ≤ 1048576)
    (ih : ∀ i, i < t.kids.length → ∀ (w' : World) (y : Value), TmIn w' y (tmAt t.kids i) → PairsAt w' P p → Calls Try.prog 33 #[.slice P p.length cp, y] w' (TmOut (actT p (tmAt t.kids i)) w')) :
    Calls Try.prog 33 #[.slice P p.length cp, x] w (TmOut (actT p t) w) := by
  obtain ⟨i0, hi0, hz0, hz1, hz2⟩ := info_parts term_infoR
  have HS := Lib.hid hz2
  clear hz2
  obtain ⟨A, c, kv, rfl, hp, hk⟩ := hx
  obtain ⟨B, d, rfl⟩ := hk.form
  have hb0 : Below w.heap.size w ((w.alloc (.cells #[.int .i64 t.op, .int .i64 t.num, .slice A t.perm.length c, .slice B t.kids.length d] 31)).alloc (.cells #[.int .i64 0, .int .i64 0, .slice none 0 0, .slice none 0 0] 31)) := ((Below.refl _ _).alloc (Nat.le_refl _) _).alloc (by simp) _
  go_enter Try.func33, Try.ntmps33
  go_wp2
  go_loopw [5, 14] (fun v i wr => ∃ k : Nat, k ≤ t.kids.length ∧ i = .int .i64 k ∧ TRow wr (w.heap.size + 2) v k (actTs p (t.kids.take k)) ∧ Below ((w.alloc (.cells #[.int .i64 t.op, .int .i64 t.num, .slice A t.perm.length c, .slice B t.kids.length d] 31)).alloc (.cells #[.int .i64 0, .int .i64 0, .slice none 0 0, .slice none 0 0] 31)).heap.size ((w.alloc (.cells #[.int .i64 t.op, .int .i64 t.num, .slice A t.perm.length c, .slice B t.kids.length d] 31)).alloc (.cells #[.int .i64 0, .int .i64 0, .slice none 0 0, .slice none 0 0] 31)) wr) (fun _ i _ => t.kids.length - (intOf i).toNat)
  case atStart =>
    refine ⟨0, Nat.zero_le _, rfl, ⟨w.heap.size + 2, 0, [], [], rfl, ?_, .nil, by simp, by simp⟩, (Below.refl _ _).alloc (Nat.le_refl _) _⟩
    have h9 := World.ownsRow_lit (base := ((w.alloc (.cells #[.int .i64 t.op, .int .i64 t.num, .slice A t.perm.length c, .slice B t.kids.length d] 31)).alloc (.cells #[.int .i64 0, .int .i64 0, .slice none 0 0, .slice none 0 0] 31)).heap.size) (e := 31) (size := 4) ((w.alloc (.cells #[.int .i64 t.op, .int .i64 t.num, .slice A t.perm.length c, .slice B t.kids.length d] 31)).alloc (.cells #[.int .i64 0, .int .i64 0, .slice none 0 0, .slice none 0 0] 31)) #[] 0 (Nat.le_refl _) (by decide) rfl
    rw [World.size_alloc, World.size_alloc] at h9
    exact h9
  case round =>
    obtain ⟨k, hk', rfl, ⟨g, cap, ys, S, rfl, ho, hys, hgS, hSB⟩, hbw⟩ := hrel
    have hb := hb0.trans (hbw.mono hb0.size)
    by_cases hlt : k < t.kids.length
    · obtain ⟨b, off, A1, c1, B1, e1, rfl, hbl, d0, d1, d2, d3, hy⟩ := kid_cells hk hlt
      rw [← hb.cell (p := ⟨b, _, none⟩) hbl] at d0 d1 d2 d3
      have hbx : Below wr.heap.size wr (wr.alloc (.cells #[.int .i64 (tmAt t.kids k).op, .int .i64 (tmAt t.kids k).num, .slice A1 (tmAt t.kids k).perm.length c1, .slice B1 (tmAt t.kids k).kids.length e1] 31)) := (Below.refl _ _).alloc (Nat.le_refl _) _
      have hbz := hb.trans (hbx.mono hb.size)
      have hct := ih k hlt _ _ (hy.below hbz) (hP.below hbz)
      have hnx := Lib.hid (actTs_next (p := p) hlt)
      have hox := own_below ho hbx
      have hysx := hys.alike (w' := wr.alloc (.cells #[.int .i64 (tmAt t.kids k).op, .int .i64 (tmAt t.kids k).num, .slice A1 (tmAt t.kids k).perm.length c1, .slice B1 (tmAt t.kids k).kids.length e1] 31)) (fun b hb => hbx.block b (hys.lt b hb))
      have hbr := hbw.trans (hbx.mono hbw.size)
      generalize actT p (tmAt t.kids k) = r at hct hnx
      generalize tmAt t.kids k = u at d0 d1 d2 d3 hct hbx hox hbr hysx
      clear hy hbl hb hbz hbw ih hk ho hys hP hp
      go_wp2_with fail
      refine hct.mono ?_
      rintro e w2 ⟨A3, c3, A4, c4, T1, rfl, hT1, hTC, hb2⟩
      have hb3 : Below w2.heap.size w2 (w2.alloc (.cells #[.int .i64 r.op, .int .i64 r.num, .slice A3 r.perm.length c3, .slice A4 r.kids.length c4] 31)) := (Below.refl _ _).alloc (Nat.le_refl _) _
      have hb13 := hb2.trans (hb3.mono hb2.size)
      have ho3 := own_below (own_below hox hb2) hb3
      have hbr3 := (hbr.trans (hb2.mono hbr.size)).trans (hb3.mono (Nat.le_trans hbr.size hb2.size))
      obtain ⟨e0, e1', e2, e3⟩ := box4 (Below.refl _ (w2.alloc (.cells #[.int .i64 r.op, .int .i64 r.num, .slice A3 r.perm.length c3, .slice A4 r.kids.length c4] 31)))
      have HC := Lib.hid (four_cells e0 e1' e2 e3)
      have HF1 := Lib.hid (four_one r.op r.num A3 A4 r.perm.length c3 r.kids.length c4)
      have hsz3 := hbr3.size
      have HR : Hid (∀ g1 cap1 w4, w4.ownsRow (w.heap.size + 2) 31 4 (.slice (some ⟨g1, 0, none⟩) (k + 1) cap1) (k + 1) (ys ++ [.int .i64 r.op, .int .i64 r.num, .slice A3 r.perm.length c3, .slice A4 r.kids.length c4]) → (w2.alloc (.cells #[.int .i64 r.op, .int .i64 r.num, .slice A3 r.perm.length c3, .slice A4 r.kids.length c4] 31)).grownBy w4 (some g) → (some g = some g1 ∨ g1 = (w2.alloc (.cells #[.int .i64 r.op, .int .i64 r.num, .slice A3 r.perm.length c3, .slice A4 r.kids.length c4] 31)).heap.size) → TRow w4 (w.heap.size + 2) (.slice (some ⟨g1, 0, none⟩) (k + 1) cap1) (k + 1) (actTs p (t.kids.take k) ++ [r])) :=
        Lib.hid (fun g1 cap1 w4 h1 h2 h3 => trow_next (Nat.le_refl _) hox hysx hgS hSB hb13 hT1 hTC hb3 h1 h2 h3)
      have hsz4 : w.heap.size + 2 ≤ (w2.alloc (.cells #[.int .i64 r.op, .int .i64 r.num, .slice A3 r.perm.length c3, .slice A4 r.kids.length c4] 31)).heap.size := by
        have := hb13.size; have := (hox.lt g rfl).2; have := (hox.lt g rfl).1; omega
      clear e0 e1' e2 e3 hox hysx hgS hSB hb2 hb3 hb13 hT1 hTC hct hbr hbx d0 d1 d2 d3
      generalize hH : (w2.alloc (.cells #[.int .i64 r.op, .int .i64 r.num, .slice A3 r.perm.length c3, .slice A4 r.kids.length c4] 31)).heap.size = H at hsz4
      have HH := Lib.hid hH
      clear hH
      go_wp2_with (at_builtin; refine wpList_append_lies _ rfl (.tmp 18) (.tmp 22) 29 rfl (w.heap.size + 2) 31 i0 (.agg #[.int .i64 0, .int .i64 0, .slice none 0 0, .slice none 0 0]) 4 64 Try.underlying29 hi0 hz0 hz1 HS.out rfl (by decide) _ k _ rfl ho3 ⟨w2.heap.size, 0, none⟩ 1 1 [.int .i64 r.op, .int .i64 r.num, .slice A3 r.perm.length c3, .slice A4 r.kids.length c4] rfl rfl HC.out HF1.out (by decide) ?c3 ?c4 ?c5 H HH.out ?_)
      case c3 => unfold maxLen; omega
      case c4 => omega
      case c5 => rw [HH.out]; exact hsz4
      intro g1 cap1 w4 ho4 hg4 hcase _
      rw [← HH.out] at hcase
      have hrow := HR.out g1 cap1 w4 ho4 hg4 hcase
      rw [← hnx.out] at hrow
      have hb4 := below_own hbr3 ho3 (by rw [World.size_alloc, World.size_alloc]; omega) hsz3 hg4
      clear ho4 hg4 hcase HR ho3 hbr3 HC HF1 hsz3 hsz4 HH hnx
      go_wp2
      refine ⟨⟨k + 1, by omega, by go_num, hrow, hb4⟩, ?_⟩
      simp only [intOf]
      omega
    · have e : k = (actTs p t.kids).length := by rw [actTs_len]; omega
      rw [List.take_of_length_le (show t.kids.length ≤ k by omega)] at hys
      subst e
      obtain ⟨hres, hbox⟩ := box_row hbw
      have b0 : wr.cell? ⟨w.heap.size, 0, none⟩ = some (.int .i64 t.op) := by rw [cell_of_row _ w.heap.size 0 _ _ _ hbox]; rfl
      have b1 : wr.cell? ⟨w.heap.size, 1, none⟩ = some (.int .i64 t.num) := by rw [cell_of_row _ w.heap.size 1 _ _ _ hbox]; rfl
      have b2 : wr.cell? ⟨w.heap.size, 2, none⟩ = some (.slice A t.perm.length c) := by rw [cell_of_row _ w.heap.size 2 _ _ _ hbox]; rfl
      have b3 : wr.cell? ⟨w.heap.size, 3, none⟩ = some (.slice B t.kids.length d) := by rw [cell_of_row _ w.heap.size 3 _ _ _ hbox]; rfl
      generalize hK : actTs p t.kids = K at *
      clear hk'
      by_cases hop1 : t.op = 1
      · have q1 : (t.op == 1) = true := by simp [hop1]
        have q4 : (t.op == 4) = false := by simp [hop1]
        have HOP : t.op = 1 ∨ t.op = 3 := .inl hop1
        clear hop1
        have hwi := l2With_any t (imgL p t.num) A B c d (some ⟨g, 0, none⟩) K.length cap wr (hp.below hb) hl
        have HT := Lib.hid (actT_13 p HOP)
        clear HOP
        rw [hK] at HT
        have HIM := l1Image_any P cp p t.num wr (hP.below hb) (by omega)
        generalize imgL p t.num = N0 at hwi HT HIM
        clear hK
        go_wp2_with fail
        refine HIM.mono ?_
        rintro e w' ⟨rfl, rfl⟩
        clear HIM
        go_wp2_with fail
        refine hwi.mono ?_
        rintro e w5 ⟨A1, c1, S1, rfl, hS1, hS1b, hb5⟩
        have hb6 : Below w5.heap.size w5 (w5.alloc (.cells #[.int .i64 t.op, .int .i64 N0, .slice A1 t.perm.length c1, .slice (some ⟨g, 0, none⟩) K.length cap] 31)) := (Below.refl _ _).alloc (Nat.le_refl _) _
        have hb56 := hb5.trans (hb6.mono hb5.size)
        have hsr := hbw.size
        rw [World.size_alloc, World.size_alloc] at hsr
        have hbox6 := (hb5.block w.heap.size (by omega)).trans hbox
        have hres6 := (hb5.block (w.heap.size + 1) (by omega)).trans hres
        have e0 : w5.cell? ⟨w.heap.size, 0, none⟩ = some (.int .i64 t.op) := by rw [cell_of_row _ w.heap.size 0 _ _ _ hbox6]; rfl
        have e2 : w5.cell? ⟨w.heap.size, 2, none⟩ = some (.slice A t.perm.length c) := by rw [cell_of_row _ w.heap.size 2 _ _ _ hbox6]; rfl
        have ho5 := own_below ho hb5
        have hys5 := hys.alike (w' := w5) (fun b hb => hb5.block b (hys.lt b hb))
        have hbz5 := hb.trans (hb5.mono hb.size)
        have hS16 := hS1.alike (w' := w5.alloc (.cells #[.int .i64 t.op, .int .i64 N0, .slice A1 t.perm.length c1, .slice (some ⟨g, 0, none⟩) K.length cap] 31)) (fun b hb => hb6.block b (hS1.lt b hb))
        have ho6 := own_below (own_below ho hb5) hb6
        have hys6 := hys.alike (w' := w5.alloc (.cells #[.int .i64 t.op, .int .i64 N0, .slice A1 t.perm.length c1, .slice (some ⟨g, 0, none⟩) K.length cap] 31)) (fun b hb => hb56.block b (hys.lt b hb))
        have hbz := hb.trans (hb56.mono hb.size)
        have hSg : ∀ b ∈ S1, b ∉ g :: S := fun b h1 h2 => by
          have h3 := hS1b b h1
          rcases List.mem_cons.1 h2 with h4 | h4
          · have := (ho.lt g rfl).2; omega
          · have := hys.lt b h4; omega
        have hlt5 : w.heap.size + 1 < w5.heap.size := by have := hb5.size; omega
        have hlt50 : w.heap.size < w5.heap.size := by omega
        have hpost := TmOut.later (act_done (w := w) (w5 := w5) (R := w.heap.size + 1) (r := actT p t) HT.out hS1 (fun b hb => by have := hS1b b hb; omega) ho5 hys5 hgS (fun b hb => by have := hSB b hb; omega) hSg (by omega) hbz5) ((Below.refl _ _).alloc (Nat.le_refl _) (.cells #[.int .i64 t.op, .int .i64 N0, .slice A1 t.perm.length c1, .slice (some ⟨g, 0, none⟩) K.length cap] 31))
        have r0 : w5.cell? ⟨w.heap.size + 1, 0, none⟩ = some (.int .i64 0) := by rw [cell_of_row _ (w.heap.size + 1) 0 _ _ _ hres6]; rfl
        have r1 : w5.cell? ⟨w.heap.size + 1, 1, none⟩ = some (.int .i64 0) := by rw [cell_of_row _ (w.heap.size + 1) 1 _ _ _ hres6]; rfl
        have r2 : w5.cell? ⟨w.heap.size + 1, 2, none⟩ = some (.slice none 0 0) := by rw [cell_of_row _ (w.heap.size + 1) 2 _ _ _ hres6]; rfl
        have r3 : w5.cell? ⟨w.heap.size + 1, 3, none⟩ = some (.slice none 0 0) := by rw [cell_of_row _ (w.heap.size + 1) 3 _ _ _ hres6]; rfl
        have z0 : w5.frozen? ⟨w.heap.size + 1, 0, none⟩ = false := frozen_of_row _ (w.heap.size + 1) 0 _ _ hres6
        have z1 : w5.frozen? ⟨w.heap.size + 1, 1, none⟩ = false := frozen_of_row _ (w.heap.size + 1) 1 _ _ hres6
        have z2 : w5.frozen? ⟨w.heap.size + 1, 2, none⟩ = false := frozen_of_row _ (w.heap.size + 1) 2 _ _ hres6
        have z3 : w5.frozen? ⟨w.heap.size + 1, 3, none⟩ = false := frozen_of_row _ (w.heap.size + 1) 3 _ _ hres6
        clear ho5 hys5 hbz5 hwi hS1 hS1b hb5 hb6 hb56 hsr hbox6 hres6 hS16 ho6 hys6 hbz hSg hbox hres ho hys hgS hSB hbw hb hp hP ih hk HT hb0
        go_wp2
        obtain ⟨f0, f1, f2, f3⟩ := set4_cells r0 r1 r2 r3 hlt5 (.cells #[.int .i64 t.op, .int .i64 N0, .slice A1 t.perm.length c1, .slice (some ⟨g, 0, none⟩) K.length cap] 31) (.int .i64 t.op) (.int .i64 N0) (.slice A1 t.perm.length c1) (.slice (some ⟨g, 0, none⟩) K.length cap)
        exact bodyPost_ret (v := .agg #[.int .i64 t.op, .int .i64 N0, .slice A1 t.perm.length c1, .slice (some ⟨g, 0, none⟩) K.length cap]) (by simp [results, Try.results33, go_sem, f0, f1, f2, f3]) rfl hpost
      have q1 : (t.op == 1) = false := by simp [hop1]
      by_cases hop3 : t.op = 3
      · have q3 : (t.op == 3) = true := by simp [hop3]
        have q4 : (t.op == 4) = false := by simp [hop3]
        have HOP : t.op = 1 ∨ t.op = 3 := .inr hop3
        clear hop1 hop3
        have hwi := l2With_any t (imgL p t.num) A B c d (some ⟨g, 0, none⟩) K.length cap wr (hp.below hb) hl
        have HT := Lib.hid (actT_13 p HOP)
        clear HOP
        rw [hK] at HT
        have HIM := l1Image_any P cp p t.num wr (hP.below hb) (by omega)
        generalize imgL p t.num = N0 at hwi HT HIM
        clear hK
        go_wp2_with fail
        refine HIM.mono ?_
        rintro e w' ⟨rfl, rfl⟩
        clear HIM
        go_wp2_with fail
        refine hwi.mono ?_
        rintro e w5 ⟨A1, c1, S1, rfl, hS1, hS1b, hb5⟩
        have hb6 : Below w5.heap.size w5 (w5.alloc (.cells #[.int .i64 t.op, .int .i64 N0, .slice A1 t.perm.length c1, .slice (some ⟨g, 0, none⟩) K.length cap] 31)) := (Below.refl _ _).alloc (Nat.le_refl _) _
        have hb56 := hb5.trans (hb6.mono hb5.size)
        have hsr := hbw.size
        rw [World.size_alloc, World.size_alloc] at hsr
        have hbox6 := (hb5.block w.heap.size (by omega)).trans hbox
        have hres6 := (hb5.block (w.heap.size + 1) (by omega)).trans hres
        have e0 : w5.cell? ⟨w.heap.size, 0, none⟩ = some (.int .i64 t.op) := by rw [cell_of_row _ w.heap.size 0 _ _ _ hbox6]; rfl
        have e2 : w5.cell? ⟨w.heap.size, 2, none⟩ = some (.slice A t.perm.length c) := by rw [cell_of_row _ w.heap.size 2 _ _ _ hbox6]; rfl
        have ho5 := own_below ho hb5
        have hys5 := hys.alike (w' := w5) (fun b hb => hb5.block b (hys.lt b hb))
        have hbz5 := hb.trans (hb5.mono hb.size)
        have hS16 := hS1.alike (w' := w5.alloc (.cells #[.int .i64 t.op, .int .i64 N0, .slice A1 t.perm.length c1, .slice (some ⟨g, 0, none⟩) K.length cap] 31)) (fun b hb => hb6.block b (hS1.lt b hb))
        have ho6 := own_below (own_below ho hb5) hb6
        have hys6 := hys.alike (w' := w5.alloc (.cells #[.int .i64 t.op, .int .i64 N0, .slice A1 t.perm.length c1, .slice (some ⟨g, 0, none⟩) K.length cap] 31)) (fun b hb => hb56.block b (hys.lt b hb))
        have hbz := hb.trans (hb56.mono hb.size)
        have hSg : ∀ b ∈ S1, b ∉ g :: S := fun b h1 h2 => by
          have h3 := hS1b b h1
          rcases List.mem_cons.1 h2 with h4 | h4
          · have := (ho.lt g rfl).2; omega
          · have := hys.lt b h4; omega
        have hlt5 : w.heap.size + 1 < w5.heap.size := by have := hb5.size; omega
        have hlt50 : w.heap.size < w5.heap.size := by omega
        have hpost := TmOut.later (act_done (w := w) (w5 := w5) (R := w.heap.size + 1) (r := actT p t) HT.out hS1 (fun b hb => by have := hS1b b hb; omega) ho5 hys5 hgS (fun b hb => by have := hSB b hb; omega) hSg (by omega) hbz5) ((Below.refl _ _).alloc (Nat.le_refl _) (.cells #[.int .i64 t.op, .int .i64 N0, .slice A1 t.perm.length c1, .slice (some ⟨g, 0, none⟩) K.length cap] 31))
        have r0 : w5.cell? ⟨w.heap.size + 1, 0, none⟩ = some (.int .i64 0) := by rw [cell_of_row _ (w.heap.size + 1) 0 _ _ _ hres6]; rfl
        have r1 : w5.cell? ⟨w.heap.size + 1, 1, none⟩ = some (.int .i64 0) := by rw [cell_of_row _ (w.heap.size + 1) 1 _ _ _ hres6]; rfl
        have r2 : w5.cell? ⟨w.heap.size + 1, 2, none⟩ = some (.slice none 0 0) := by rw [cell_of_row _ (w.heap.size + 1) 2 _ _ _ hres6]; rfl
        have r3 : w5.cell? ⟨w.heap.size + 1, 3, none⟩ = some (.slice none 0 0) := by rw [cell_of_row _ (w.heap.size + 1) 3 _ _ _ hres6]; rfl
        have z0 : w5.frozen? ⟨w.heap.size + 1, 0, none⟩ = false := frozen_of_row _ (w.heap.size + 1) 0 _ _ hres6
        have z1 : w5.frozen? ⟨w.heap.size + 1, 1, none⟩ = false := frozen_of_row _ (w.heap.size + 1) 1 _ _ hres6
        have z2 : w5.frozen? ⟨w.heap.size + 1, 2, none⟩ = false := frozen_of_row _ (w.heap.size + 1) 2 _ _ hres6
        have z3 : w5.frozen? ⟨w.heap.size + 1, 3, none⟩ = false := frozen_of_row _ (w.heap.size + 1) 3 _ _ hres6
        clear ho5 hys5 hbz5 hwi hS1 hS1b hb5 hb6 hb56 hsr hbox6 hres6 hS16 ho6 hys6 hbz hSg hbox hres ho hys hgS hSB hbw hb hp hP ih hk HT hb0
        go_wp2
        obtain ⟨f0, f1, f2, f3⟩ := set4_cells r0 r1 r2 r3 hlt5 (.cells #[.int .i64 t.op, .int .i64 N0, .slice A1 t.perm.length c1, .slice (some ⟨g, 0, none⟩) K.length cap] 31) (.int .i64 t.op) (.int .i64 N0) (.slice A1 t.perm.length c1) (.slice (some ⟨g, 0, none⟩) K.length cap)
        exact bodyPost_ret (v := .agg #[.int .i64 t.op, .int .i64 N0, .slice A1 t.perm.length c1, .slice (some ⟨g, 0, none⟩) K.length cap]) (by simp [results, Try.results33, go_sem, f0, f1, f2, f3]) rfl hpost
      have q3 : (t.op == 3) = false := by simp [hop3]
      by_cases hop4 : t.op = 4
      · have q4 : (t.op == 4) = true := by simp [hop4]
        have hwi := l2With_any t (t.num) A B c d (some ⟨g, 0, none⟩) K.length cap wr (hp.below hb) hl
        have HT := Lib.hid (actT_44 p hop4)
        rw [hK] at HT
        clear hK hop1 hop3 hop4
        go_wp2_with fail
        refine hwi.mono ?_
        rintro e w5 ⟨A1, c1, S1, rfl, hS1, hS1b, hb5⟩
        have hb6 : Below w5.heap.size w5 (w5.alloc (.cells #[.int .i64 t.op, .int .i64 t.num, .slice A1 t.perm.length c1, .slice (some ⟨g, 0, none⟩) K.length cap] 31)) := (Below.refl _ _).alloc (Nat.le_refl _) _
        have hb56 := hb5.trans (hb6.mono hb5.size)
        have hsr := hbw.size
        rw [World.size_alloc, World.size_alloc] at hsr
        have hbox6 := (hb5.block w.heap.size (by omega)).trans hbox
        have hres6 := (hb5.block (w.heap.size + 1) (by omega)).trans hres
        have e0 : w5.cell? ⟨w.heap.size, 0, none⟩ = some (.int .i64 t.op) := by rw [cell_of_row _ w.heap.size 0 _ _ _ hbox6]; rfl
        have e2 : w5.cell? ⟨w.heap.size, 2, none⟩ = some (.slice A t.perm.length c) := by rw [cell_of_row _ w.heap.size 2 _ _ _ hbox6]; rfl
        have ho5 := own_below ho hb5
        have hys5 := hys.alike (w' := w5) (fun b hb => hb5.block b (hys.lt b hb))
        have hbz5 := hb.trans (hb5.mono hb.size)
        have hS16 := hS1.alike (w' := w5.alloc (.cells #[.int .i64 t.op, .int .i64 t.num, .slice A1 t.perm.length c1, .slice (some ⟨g, 0, none⟩) K.length cap] 31)) (fun b hb => hb6.block b (hS1.lt b hb))
        have ho6 := own_below (own_below ho hb5) hb6
        have hys6 := hys.alike (w' := w5.alloc (.cells #[.int .i64 t.op, .int .i64 t.num, .slice A1 t.perm.length c1, .slice (some ⟨g, 0, none⟩) K.length cap] 31)) (fun b hb => hb56.block b (hys.lt b hb))
        have hbz := hb.trans (hb56.mono hb.size)
        have hSg : ∀ b ∈ S1, b ∉ g :: S := fun b h1 h2 => by
          have h3 := hS1b b h1
          rcases List.mem_cons.1 h2 with h4 | h4
          · have := (ho.lt g rfl).2; omega
          · have := hys.lt b h4; omega
        have hlt5 : w.heap.size + 1 < w5.heap.size := by have := hb5.size; omega
        have hlt50 : w.heap.size < w5.heap.size := by omega
        have hle5 : wr.heap.size ≤ w5.heap.size := hb5.size
        have hth := l1Then_any P A cp c p t.perm (w5.alloc (.cells #[.int .i64 t.op, .int .i64 t.num, .slice A1 t.perm.length c1, .slice (some ⟨g, 0, none⟩) K.length cap] 31)) (hP.below hbz) (hp.below hbz) hlp hl
        have hlt6 : w5.heap.size < (w5.alloc (.cells #[.int .i64 t.op, .int .i64 t.num, .slice A1 t.perm.length c1, .slice (some ⟨g, 0, none⟩) K.length cap] 31)).heap.size := by rw [World.size_alloc]; omega
        generalize thenL p t.perm = L at hth HT
        clear hwi hS1 hS16 hS1b hb5 hSg
        go_wp2_with fail
        refine hth.mono ?_
        rintro e w7 ⟨g7, cap7, rfl, ho7, hb7⟩
        obtain ⟨d0, d1, d2, d3⟩ := box4 hb7
        have hrow9 := (hb7.block w5.heap.size hlt6).trans (heap_alloc_new w5 (.cells #[.int .i64 t.op, .int .i64 t.num, .slice A1 t.perm.length c1, .slice (some ⟨g, 0, none⟩) K.length cap] 31))
        have y2 : w7.frozen? ⟨w5.heap.size, 2, none⟩ = false := frozen_of_row _ w5.heap.size 2 _ _ hrow9
        have hlt61 := Nat.lt_trans hlt5 hlt6
        have hres7 := (hb7.block (w.heap.size + 1) hlt61).trans ((hb6.block (w.heap.size + 1) hlt5).trans hres6)
        obtain ⟨S7, hS7, hS7b, hS7e⟩ := own_pairMem ho7
        have hn5 : ∀ b ∈ S7, b ≠ w5.heap.size := fun b hb => by have := hS7b b hb; omega
        have hS8 := hS7.setCell_other ⟨w5.heap.size, 2, none⟩ (.slice (some ⟨g7, 0, none⟩) L.length cap7) hn5
        have hg5 : g < w5.heap.size := Nat.lt_of_lt_of_le (ho.lt g rfl).2 hle5
        have ho8 : (w7.setCell ⟨w5.heap.size, 2, none⟩ (.slice (some ⟨g7, 0, none⟩) L.length cap7)).ownsRow (w.heap.size + 2) 31 4 (.slice (some ⟨g, 0, none⟩) K.length cap) K.length ys := ownsRow_alike (own_below ho6 hb7) (Below.heap_setCell w7 ⟨w5.heap.size, 2, none⟩ _ g (Nat.ne_of_lt hg5))
        have hys7 := hys6.alike (w' := w7) (fun b hb => hb7.block b (hys6.lt b hb))
        have hys8 := hys7.setOther ⟨w5.heap.size, 2, none⟩ (.slice (some ⟨g7, 0, none⟩) L.length cap7) (fun b hb => Nat.ne_of_lt (Nat.lt_of_lt_of_le (hys.lt b hb) hle5))
        have hbz8 := (hbz.trans (hb7.mono hbz.size)).setCell (p := ⟨w5.heap.size, 2, none⟩) (show w.heap.size ≤ w5.heap.size by omega) (.slice (some ⟨g7, 0, none⟩) L.length cap7)
        have hSg : ∀ b ∈ S7, b ∉ g :: S := fun b h1 h2 => by
          have h3 := hS7b b h1
          rcases List.mem_cons.1 h2 with h4 | h4
          · omega
          · have := hys.lt b h4; omega
        have hpost := act_done (w := w) (w5 := w7.setCell ⟨w5.heap.size, 2, none⟩ (.slice (some ⟨g7, 0, none⟩) L.length cap7)) (R := w.heap.size + 1) (r := actT p t) HT.out hS8 (fun b hb => by have := hS7b b hb; omega) ho8 hys8 hgS (fun b hb => by have := hSB b hb; omega) hSg (by omega) hbz8
        have r0 : w7.cell? ⟨w.heap.size + 1, 0, none⟩ = some (.int .i64 0) := by rw [cell_of_row _ (w.heap.size + 1) 0 _ _ _ hres7]; rfl
        have r1 : w7.cell? ⟨w.heap.size + 1, 1, none⟩ = some (.int .i64 0) := by rw [cell_of_row _ (w.heap.size + 1) 1 _ _ _ hres7]; rfl
        have r2 : w7.cell? ⟨w.heap.size + 1, 2, none⟩ = some (.slice none 0 0) := by rw [cell_of_row _ (w.heap.size + 1) 2 _ _ _ hres7]; rfl
        have r3 : w7.cell? ⟨w.heap.size + 1, 3, none⟩ = some (.slice none 0 0) := by rw [cell_of_row _ (w.heap.size + 1) 3 _ _ _ hres7]; rfl
        have z0 : w7.frozen? ⟨w.heap.size + 1, 0, none⟩ = false := frozen_of_row _ (w.heap.size + 1) 0 _ _ hres7
        have z1 : w7.frozen? ⟨w.heap.size + 1, 1, none⟩ = false := frozen_of_row _ (w.heap.size + 1) 1 _ _ hres7
        have z2 : w7.frozen? ⟨w.heap.size + 1, 2, none⟩ = false := frozen_of_row _ (w.heap.size + 1) 2 _ _ hres7
        have z3 : w7.frozen? ⟨w.heap.size + 1, 3, none⟩ = false := frozen_of_row _ (w.heap.size + 1) 3 _ _ hres7
        clear ho5 hys5 hbz5 hth hb6 hb56 hsr hbox6 hres6 ho6 hys6 hbz hSg hbox hres ho hys hgS hSB hbw hb hp hP ih hk HT hb0 hrow9 hres7 ho7 hb7 hS7 hS7b hS7e hn5 hS8 ho8 hys7 hys8 hbz8
        go_wp2
        exact bodyPost_ret (v := .agg #[.int .i64 t.op, .int .i64 t.num, .slice (some ⟨g7, 0, none⟩) L.length cap7, .slice (some ⟨g, 0, none⟩) K.length cap]) (by simp [results, Try.results33, go_sem, r0, r1, r2, r3]) rfl hpost
      · have q4 : (t.op == 4) = false := by simp [hop4]
        have hwi := l2With_any t (t.num) A B c d (some ⟨g, 0, none⟩) K.length cap wr (hp.below hb) hl
        have HT := Lib.hid (actT_00 p hop1 hop3 hop4)
        rw [hK] at HT
        clear hK hop1 hop3 hop4
        go_wp2_with fail
        refine hwi.mono ?_
        rintro e w5 ⟨A1, c1, S1, rfl, hS1, hS1b, hb5⟩
        have hb6 : Below w5.heap.size w5 (w5.alloc (.cells #[.int .i64 t.op, .int .i64 t.num, .slice A1 t.perm.length c1, .slice (some ⟨g, 0, none⟩) K.length cap] 31)) := (Below.refl _ _).alloc (Nat.le_refl _) _
        have hb56 := hb5.trans (hb6.mono hb5.size)
        have hsr := hbw.size
        rw [World.size_alloc, World.size_alloc] at hsr
        have hbox6 := (hb5.block w.heap.size (by omega)).trans hbox
        have hres6 := (hb5.block (w.heap.size + 1) (by omega)).trans hres
        have e0 : w5.cell? ⟨w.heap.size, 0, none⟩ = some (.int .i64 t.op) := by rw [cell_of_row _ w.heap.size 0 _ _ _ hbox6]; rfl
        have e2 : w5.cell? ⟨w.heap.size, 2, none⟩ = some (.slice A t.perm.length c) := by rw [cell_of_row _ w.heap.size 2 _ _ _ hbox6]; rfl
        have ho5 := own_below ho hb5
        have hys5 := hys.alike (w' := w5) (fun b hb => hb5.block b (hys.lt b hb))
        have hbz5 := hb.trans (hb5.mono hb.size)
        have hS16 := hS1.alike (w' := w5.alloc (.cells #[.int .i64 t.op, .int .i64 t.num, .slice A1 t.perm.length c1, .slice (some ⟨g, 0, none⟩) K.length cap] 31)) (fun b hb => hb6.block b (hS1.lt b hb))
        have ho6 := own_below (own_below ho hb5) hb6
        have hys6 := hys.alike (w' := w5.alloc (.cells #[.int .i64 t.op, .int .i64 t.num, .slice A1 t.perm.length c1, .slice (some ⟨g, 0, none⟩) K.length cap] 31)) (fun b hb => hb56.block b (hys.lt b hb))
        have hbz := hb.trans (hb56.mono hb.size)
        have hSg : ∀ b ∈ S1, b ∉ g :: S := fun b h1 h2 => by
          have h3 := hS1b b h1
          rcases List.mem_cons.1 h2 with h4 | h4
          · have := (ho.lt g rfl).2; omega
          · have := hys.lt b h4; omega
        have hlt5 : w.heap.size + 1 < w5.heap.size := by have := hb5.size; omega
        have hlt50 : w.heap.size < w5.heap.size := by omega
        have hpost := TmOut.later (act_done (w := w) (w5 := w5) (R := w.heap.size + 1) (r := actT p t) HT.out hS1 (fun b hb => by have := hS1b b hb; omega) ho5 hys5 hgS (fun b hb => by have := hSB b hb; omega) hSg (by omega) hbz5) ((Below.refl _ _).alloc (Nat.le_refl _) (.cells #[.int .i64 t.op, .int .i64 t.num, .slice A1 t.perm.length c1, .slice (some ⟨g, 0, none⟩) K.length cap] 31))
        have r0 : w5.cell? ⟨w.heap.size + 1, 0, none⟩ = some (.int .i64 0) := by rw [cell_of_row _ (w.heap.size + 1) 0 _ _ _ hres6]; rfl
        have r1 : w5.cell? ⟨w.heap.size + 1, 1, none⟩ = some (.int .i64 0) := by rw [cell_of_row _ (w.heap.size + 1) 1 _ _ _ hres6]; rfl
        have r2 : w5.cell? ⟨w.heap.size + 1, 2, none⟩ = some (.slice none 0 0) := by rw [cell_of_row _ (w.heap.size + 1) 2 _ _ _ hres6]; rfl
        have r3 : w5.cell? ⟨w.heap.size + 1, 3, none⟩ = some (.slice none 0 0) := by rw [cell_of_row _ (w.heap.size + 1) 3 _ _ _ hres6]; rfl
        have z0 : w5.frozen? ⟨w.heap.size + 1, 0, none⟩ = false := frozen_of_row _ (w.heap.size + 1) 0 _ _ hres6
        have z1 : w5.frozen? ⟨w.heap.size + 1, 1, none⟩ = false := frozen_of_row _ (w.heap.size + 1) 1 _ _ hres6
        have z2 : w5.frozen? ⟨w.heap.size + 1, 2, none⟩ = false := frozen_of_row _ (w.heap.size + 1) 2 _ _ hres6
        have z3 : w5.frozen? ⟨w.heap.size + 1, 3, none⟩ = false := frozen_of_row _ (w.heap.size + 1) 3 _ _ hres6
        clear ho5 hys5 hbz5 hwi hS1 hS1b hb5 hb6 hb56 hsr hbox6 hres6 hS16 ho6 hys6 hbz hSg hbox hres ho hys hgS hSB hbw hb hp hP ih hk HT hb0
        go_wp2
        obtain ⟨f0, f1, f2, f3⟩ := set4_cells r0 r1 r2 r3 hlt5 (.cells #[.int .i64 t.op, .int .i64 t.num, .slice A1 t.perm.length c1, .slice (some ⟨g, 0, none⟩) K.length cap] 31) (.int .i64 t.op) (.int .i64 t.num) (.slice A1 t.perm.length c1) (.slice (some ⟨g, 0, none⟩) K.length cap)
        exact bodyPost_ret (v := .agg #[.int .i64 t.op, .int .i64 t.num, .slice A1 t.perm.length c1, .slice (some ⟨g, 0, none⟩) K.length cap]) (by simp [results, Try.results33, go_sem, f0, f1, f2, f3]) rfl hpost

/-- What acting makes of a term, in the model. -/
theorem l2Act_any : ∀ (N : Nat) (t : Tm), szT t ≤ N → N ≤ 1048576 → OkP 1048576 t → ∀ (w : World) (x : Value) (P : Option Addr) (cp : Nat) (p : List (Int × Int)), TmIn w x t → PairsAt w P p → p.length ≤ 1048576 →
    Calls Try.prog 33 #[.slice P p.length cp, x] w (TmOut (actT p t) w) := by
  intro N
  induction N with
  | zero => intro t h; rw [szT_eq] at h; omega
  | succ N ih =>
    intro t hN hM hok w x P cp p hx hP hlp
    have hkl := len_szTs t.kids
    rw [szT_eq] at hN
    have hok' : Asc t.perm ∧ t.perm.length ≤ 1048576 ∧ OkPs 1048576 t.kids := by
      cases t with
      | mk o n r ks => exact hok
    refine l2Act_step t x P cp p w hx hP hlp hok'.2.1 (by omega) fun i hi w' y hy hP' => ih _ ?_ (by omega) (okP_at hok'.2.2 hi) w' y P cp p hy hP' hlp
    have := szT_at hi
    omega
end Go.Proofs.Ytbfkfklaplgebaa
end

