/-
  Acting with a permutation on a form, in the program, as contracts.
-/
import Derived.Test.YtgdaefmmljgjkaaTermFI
import Derived.Test.YtgdaefmmljgjkaaActT
import Derived.Test.YtgdaefmmljgjkaaComposed
import Derived.Test.YtgdaefmmljgjkaaFreeI
namespace Go.Proofs.Ytgdaefmmljgjkaa
open Go.RowKit Go.Sort
set_option linter.unusedVariables false

theorem actF_1 (n : Int) : actF (.mk 1 n [] []) = 158 := rfl
theorem actF_2 (n : Int) (ks : List Tm) : actF (.mk 2 n [] ks) = 163 := rfl
theorem actF_3 (n : Int) (ks : List Tm) : actF (.mk 3 n [] ks) = 169 := rfl
theorem actF_4 (n : Int) (p : List (Int × Int)) : actF (.mk 4 n p []) = 176 := rfl

set_option maxRecDepth 100000 in
theorem act_atom (n : Int) (A : Option Addr) (c : Nat) (p : List (Int × Int)) (w : World) (hp : PairsAt w A p) (hl : p.length ≤ 1048576) (ha : Asc p) :
    Calls Try.prog 158 #[.agg #[.int .i64 n], .slice A p.length c] w (FormPost 0 (.mk 1 (imgL p n) [] []) w) := by
  have hb0 : Below w.heap.size w (w.alloc (.cells #[.int .i64 n] 101)) := (Below.refl _ _).alloc (Nat.le_refl _) _
  have him := imageIn_any A c p n _ (hp.below hb0) (by omega) ha
  have HA := Lib.hid ha
  clear ha
  generalize imgL p n = m at him ⊢
  go_enter Try.func158, Try.ntmps158
  go_wp2_with fail
  refine him.mono ?_
  rintro e w1 ⟨rfl, hb1⟩
  have hpost : FormPost 0 (.mk 1 m [] []) w (.returned (.iface 101 (.agg #[.int .i64 m]))) w1 := ⟨_, rfl, .atom m, hb0.trans (hb1.mono hb0.size)⟩
  clear him hb0 hb1
  go_wp2
  go_ret
  exact hpost

set_option maxRecDepth 100000 in
set_option maxHeartbeats 2000000 in
theorem act_hole (n : Int) (B : Option Addr) (d : Nat) (r : List (Int × Int)) (A : Option Addr) (c : Nat) (p : List (Int × Int)) (w : World) (hp : PairsAt w A p) (hl : p.length ≤ 1048576) (ha : Asc p)
    (hr : PairsAt w B r) (hlr : r.length ≤ 1048576) (har : Asc r) :
    Calls Try.prog 176 #[.agg #[.int .i64 n, .slice B r.length d], .slice A p.length c] w (FormPost 0 (.mk 4 n (thenL p r) []) w) := by
  have hb0 : Below w.heap.size w (w.alloc (.cells #[.int .i64 n, .slice B r.length d] 108)) := (Below.refl _ _).alloc (Nat.le_refl _) _
  have hdw : Below (w.alloc (.cells #[.int .i64 n, .slice B r.length d] 108)).heap.size (w.alloc (.cells #[.int .i64 n, .slice B r.length d] 108)) (w.alloc (.cells #[.int .i64 n, .slice B r.length d] 108)).drew := ⟨rfl, rfl, rfl, Nat.le_refl _, fun _ _ => rfl⟩
  have hbd := hb0.trans (hdw.mono hb0.size)
  have hco := composed_any A B c d p r _ (hp.below hbd) (hr.below hbd) hl hlr ha har
  obtain ⟨b0, b1⟩ := box2 hdw
  have hsz : w.heap.size < (w.alloc (.cells #[.int .i64 n, .slice B r.length d] 108)).drew.heap.size := by
    have := hdw.size
    rw [World.size_alloc] at this
    omega
  have HB := Lib.hid hbd
  clear ha har hb0 hdw hbd hp hr
  generalize thenL p r = L at hco ⊢
  go_enter Try.func176, Try.ntmps176
  go_wp2
  go_region_held3 (fun w' => w'.cell? ⟨w.heap.size, 0, none⟩ = some (.int .i64 n) ∧ w'.cell? ⟨w.heap.size, 1, none⟩ = some (.slice B r.length d))
    (first | ((try dsimp only); exact ⟨by assumption, by assumption⟩) | go_keep)
    ((go_at_call 180; refine hco.mono ?_; rintro e w2 ⟨g2, cap2, rfl, ho2, hb2⟩; have b0' := (hb2.cell (p := ⟨w.heap.size, 0, none⟩) hsz).trans b0; have b1' := (hb2.cell (p := ⟨w.heap.size, 1, none⟩) hsz).trans b1))
  have hpost : FormPost 0 (.mk 4 n L []) w (.returned (.iface 108 (.agg #[.int .i64 n, .slice (some ⟨g2, 0, none⟩) L.length cap2]))) w2 := by
    obtain ⟨A', c', e, hpa⟩ := own_pairsAt ho2
    simp only [Value.slice.injEq] at e
    refine ⟨_, rfl, .hole n rfl (by rw [e.1]; exact hpa) (fun b off _ hA => ?_), HB.out.trans (hb2.mono HB.out.size)⟩
    simp only [Option.some.injEq, Addr.mk.injEq] at hA
    have h1 := (ho2.lt g2 rfl).1
    have h2 := HB.out.size
    exact .inr (by omega)
  clear hco b0 b1 b0' b1' HB ho2 hb2
  go_wp2
  go_ret
  exact hpost

set_option maxRecDepth 100000 in
set_option maxHeartbeats 2000000 in
theorem act_bind (n : Int) (fx : Value) (k : Tm) (A : Option Addr) (c : Nat) (p : List (Int × Int)) (w : World) (hp : PairsAt w A p) (hl : p.length ≤ 1048576) (ha : Asc p)
    (ih : ∀ w' : World, Below w.heap.size w w' → Calls Try.prog (actF k) #[fx, .slice A p.length c] w' (FormPost 0 (actT p k) w')) :
    Calls Try.prog 169 #[.agg #[.int .i64 n, .iface (fty k) fx], .slice A p.length c] w (FormPost 0 (.mk 3 (imgL p n) [] [actT p k]) w) := by
  have hm := askAct k
  have hn := enterAct k
  generalize actF k = F at hm hn ih
  generalize fty k = T at *
  generalize actT p k = r at *
  have hb0 : Below w.heap.size w (w.alloc (.cells #[.int .i64 n, .iface T fx] 106)) := (Below.refl _ _).alloc (Nat.le_refl _) _
  have hdw : Below (w.alloc (.cells #[.int .i64 n, .iface T fx] 106)).heap.size (w.alloc (.cells #[.int .i64 n, .iface T fx] 106)) (w.alloc (.cells #[.int .i64 n, .iface T fx] 106)).drew := ⟨rfl, rfl, rfl, Nat.le_refl _, fun _ _ => rfl⟩
  have hbd := hb0.trans (hdw.mono hb0.size)
  have him := imageIn_any A c p n _ (hp.below hbd) (by omega) ha
  obtain ⟨b0, b1⟩ := box2 hdw
  have hsz : w.heap.size < (w.alloc (.cells #[.int .i64 n, .iface T fx] 106)).drew.heap.size := by
    have := hdw.size
    rw [World.size_alloc] at this
    omega
  have HB := Lib.hid hbd
  have HI : Hid (∀ w', Below w.heap.size w w' → Calls Try.prog F #[fx, .slice A p.length c] w' (FormPost 0 r w')) := Lib.hid ih
  clear ha hb0 hdw hbd hp ih
  generalize imgL p n = m at him ⊢
  go_enter Try.func169, Try.ntmps169
  go_wp2
  go_region_held3 (fun w' => w'.cell? ⟨w.heap.size, 0, none⟩ = some (.int .i64 n) ∧ w'.cell? ⟨w.heap.size, 1, none⟩ = some (.iface T fx))
    (first | ((try dsimp only); exact ⟨by assumption, by assumption⟩) | go_keep)
    (first
      | (go_at_call 162; refine him.mono ?_; rintro e w2 ⟨rfl, hb2⟩; have b0' := (hb2.cell (p := ⟨w.heap.size, 0, none⟩) hsz).trans b0; have b1' := (hb2.cell (p := ⟨w.heap.size, 1, none⟩) hsz).trans b1; have hsz2 := Nat.lt_of_lt_of_le hsz hb2.size; have HB2 := Lib.hid (HB.out.trans (hb2.mono HB.out.size)))
      | (refine (HI.out w2 HB2.out).mono ?_; rintro e w3 ⟨fv, rfl, hfv, hb3⟩; obtain ⟨fy, rfl⟩ := hfv.iface; have b0'' := (hb3.cell (p := ⟨w.heap.size, 0, none⟩) hsz2).trans b0'; have b1'' := (hb3.cell (p := ⟨w.heap.size, 1, none⟩) hsz2).trans b1'))
  have hpost : FormPost 0 (.mk 3 m [] [r]) w (.returned (.iface 106 (.agg #[.int .i64 m, .iface (fty r) fy]))) w3 :=
    ⟨_, rfl, .bind m (hfv.kind fun b _ h => since_le h HB2.out.size), HB2.out.trans (hb3.mono HB2.out.size)⟩
  clear him HI HB HB2 b0 b1 b0' b1' b0'' b1'' hfv hb2 hb3 hm hn
  go_wp2
  go_ret
  exact hpost

set_option maxRecDepth 100000 in
theorem act_one (B : Nat) (T : TypeId) (fx : Value) (F : FuncId) (R : Ending → World → Prop) (A : Option Addr) (c : Nat) (p : List (Int × Int)) (w : World) (hc : w.cell? ⟨B, 0, none⟩ = some (.slice A p.length c))
    (hm : ∀ (v : Value) (w : World), (method 292 T v "loop.example/g03112/impl.acted").run Try.prog w = .ok (F, v) w) (hn : ∀ (args : Array Value) (w : World), (callFunc F args).run Try.prog w = .ok (.enter F args) w) (ih : Calls Try.prog F #[fx, .slice A p.length c] w (fun e w' => (∃ U y, e = .returned (.iface U y)) ∧ R e w')) :
    Calls Try.prog 168 (#[.iface T fx] ++ #[.pointer (some ⟨B, 0, none⟩)]) w R := by
  show Calls Try.prog 168 #[.iface T fx, .pointer (some ⟨B, 0, none⟩)] w R
  go_enter Try.func168, Try.ntmps168
  go_wp2_with fail
  refine ih.mono ?_
  rintro e w2 ⟨⟨U, y, rfl⟩, hR⟩
  have HR := Lib.hid hR
  clear hR ih
  go_wp2
  exact HR.out

set_option maxRecDepth 100000 in
set_option maxHeartbeats 2000000 in
theorem act_node (n : Int) (b off c0 : Nat) (xs : List Value) (ks : List Tm) (q : Nat → Prop) (A : Option Addr) (c : Nat) (p : List (Int × Int)) (w : World) (hbl : b < w.heap.size) (hc : ∀ j u, xs[j]? = some u → w.cell? ⟨b, off + j, none⟩ = some u) (hxs : FsIn w q xs ks) (hlen : ks.length ≤ 1048576)
    (ih : ∀ i, i < ks.length → ∀ (w' : World) (y : Value), Below w.heap.size w w' → FIn w' q (.iface (fty (tmAt ks i)) y) (tmAt ks i) → Calls Try.prog (actF (tmAt ks i)) #[y, .slice A p.length c] w' (FormPost 0 (actT p (tmAt ks i)) w')) :
    Calls Try.prog 163 #[.agg #[.int .i64 n, .slice (some ⟨b, off, none⟩) ks.length c0], .slice A p.length c] w (FormPost 0 (.mk 2 n [] (actTs p ks)) w) := by
  have hb0 : Below w.heap.size w ((w.alloc (.cells #[.int .i64 n, .slice (some ⟨b, off, none⟩) ks.length c0] 104)).alloc (.cells #[.slice A p.length c] 29)) := ((Below.refl _ _).alloc (Nat.le_refl _) _).alloc (by simp) _
  have hcell : ((w.alloc (.cells #[.int .i64 n, .slice (some ⟨b, off, none⟩) ks.length c0] 104)).alloc (.cells #[.slice A p.length c] 29)).cell? ⟨w.heap.size + 1, 0, none⟩ = some (.slice A p.length c) := by simp
  have eg : ∀ args w, (callFunc 168 args).run Try.prog w = .ok (.enter 168 args) w := enters_of Try.func168 (by kernel_rfl) rfl
  have hwk := withKids_any n b off c0 xs ks (actTs p ks) q _ 0 168 #[.pointer (some ⟨w.heap.size + 1, 0, none⟩)] (actTs_len p ks) (Nat.zero_le _) eg (Nat.lt_of_lt_of_le hbl hb0.size)
    (fun j u hj => (hb0.cell (p := ⟨b, off + j, none⟩) hbl).trans (hc j u hj)) (hxs.over ⟨hb0.size, fun b _ hl => hb0.block b hl, fun _ h _ => h⟩) hlen
    (fun i hi w' T y hb hf => by
      obtain ⟨y', e⟩ := hf.iface
      injection e with e1 e2
      subst e1; subst e2
      have hb' := hb0.trans (hb.mono hb0.size)
      refine act_one (w.heap.size + 1) _ y (actF (tmAt ks i)) _ A c p w' ((hb.cell (p := ⟨w.heap.size + 1, 0, none⟩) (by simp)).trans hcell) (askAct _) (enterAct _) ((ih i hi w' y hb' hf).mono ?_)
      rintro e w2 ⟨v, rfl, hv, hb2⟩
      obtain ⟨fy, rfl⟩ := hv.iface
      rw [actTs_at p hi]
      exact ⟨⟨_, _, rfl⟩, _, rfl, hv, hb2⟩)
  have HB := Lib.hid hb0
  clear hc hxs ih hcell eg hb0 hbl
  have hal := actTs_len p ks
  generalize actTs p ks = rs at hwk ⊢
  clear hal
  go_enter Try.func163, Try.ntmps163
  go_wp2_with fail
  refine hwk.mono ?_
  rintro e w2 ⟨g, cap, rfl, hf, hb2⟩
  have hpost : FormPost 0 (.mk 2 n [] rs) w (.returned (.iface 104 (.agg #[.int .i64 n, .slice (some ⟨g, 0, none⟩) rs.length cap]))) w2 :=
    ⟨_, rfl, hf.kind fun b _ h => since_le h HB.out.size, HB.out.trans (hb2.mono HB.out.size)⟩
  clear hwk HB hf hb2
  go_wp2
  go_ret
  exact hpost

/-- What acting makes of a form. -/
theorem act_any : ∀ (N : Nat) (t : Tm), szT t ≤ N → N ≤ 1048576 → OkP 1048576 t → ∀ (q : Nat → Prop) (w : World) (fx : Value) (A : Option Addr) (c : Nat) (p : List (Int × Int)), PairsAt w A p → p.length ≤ 1048576 → Asc p → FIn w q (.iface (fty t) fx) t →
    Calls Try.prog (actF t) #[fx, .slice A p.length c] w (FormPost 0 (actT p t) w) := by
  intro N
  induction N with
  | zero => intro t h; rw [szT_eq] at h; omega
  | succ N ih =>
    intro t hN hM hok q w fx A c p hp hl ha h
    rcases form_cases h with ⟨n, rfl, rfl⟩ | ⟨n, b, off, c', xs, ks, rfl, rfl, _, hb, hc, hxs⟩ | ⟨n, v, k, rfl, rfl, hk⟩ | ⟨n, A', c', r, rfl, rfl, hr, _⟩
    · rw [actT_1, actF_1]
      exact act_atom n A c p w hp hl ha
    · rw [actT_2, actF_2]
      rw [szT_eq, kids_mk] at hN
      have hkl := len_szTs ks
      refine act_node n b off c' xs ks q A c p w hb hc hxs (by omega) fun i hi w' y hb' hy => ih _ ?_ (by omega) (okP_at hok.2.2 hi) q w' y A c p (hp.below hb') hl ha hy
      have := szT_at hi
      omega
    · rw [actT_3, actF_3]
      obtain ⟨fx, rfl⟩ := hk.iface
      rw [szT_eq, kids_mk, szTs, szTs] at hN
      exact act_bind n fx k A c p w hp hl ha fun w' hb => ih k (by omega) (by omega) hok.2.2.1 q w' fx A c p (hp.below hb) hl ha (hk.keep hb)
    · rw [actT_4, actF_4]
      exact act_hole n A' c' r A c p w hp hl ha hr hok.2.1 hok.1
end Go.Proofs.Ytgdaefmmljgjkaa
