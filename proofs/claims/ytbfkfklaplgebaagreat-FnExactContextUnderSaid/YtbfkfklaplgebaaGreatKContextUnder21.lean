/-
  A node with what a function makes of each kid, in the program, as a contract. The term of a form, in the program, as contracts. The term of a form, unless it would be none: in the program, as a contract. Acting with a permutation on a form, in the program, as contracts. A binder with another atom in the place of its own, in the program, as a contract. A node with what a function makes of each kid, in the program, as a contract: the function may give back forms that were there, of a kind. A term like another one, with other kids; what acting makes of a term: in the model, as contracts.
-/
import Derived.Test.YtbfkfklaplgebaaGreatKContextUnder13
import Derived.Test.YtbfkfklaplgebaaGreatKContextUnder19
import Derived.Test.YtbfkfklaplgebaaGreatKContextUnder12
import Derived.Test.YtbfkfklaplgebaaGreatKContextUnder9
import Derived.Test.YtbfkfklaplgebaaGreatKContextUnder18
import Derived.Test.YtbfkfklaplgebaaGreatKContextUnder16
section
namespace Go.Proofs.YtbfkfklaplgebaaGreat
section
open Go.RowKit Go.Sort
set_option linter.unusedVariables false

/-- A node that has been made. -/
def NodePost (B : Nat) (n : Int) (rs : List Tm) (w : World) (e : Ending) (w' : World) : Prop :=
  ∃ g cap, e = .returned (.agg #[.int .i64 n, .slice (some ⟨g, 0, none⟩) rs.length cap]) ∧ FIn w' (Since B w.heap.size) (.iface 143 (.agg #[.int .i64 n, .slice (some ⟨g, 0, none⟩) rs.length cap])) (.mk 2 n [] rs) ∧ Below w.heap.size w w'

theorem box2 {a b : Value} {T : TypeId} {w w1 : World} (hb : Below (w.alloc (.cells #[a, b] T)).heap.size (w.alloc (.cells #[a, b] T)) w1) :
    w1.cell? ⟨w.heap.size, 0, none⟩ = some a ∧ w1.cell? ⟨w.heap.size, 1, none⟩ = some b := by
  have h := (hb.block w.heap.size (by simp)).trans (heap_alloc_new w _)
  refine ⟨?_, ?_⟩ <;> rw [cell_of_row w1 w.heap.size _ _ _ _ h] <;> rfl

theorem tmAt_take_snoc {rs : List Tm} {k : Nat} (h : k < rs.length) : rs.take (k + 1) = rs.take k ++ [tmAt rs k] := tm_take_next h

set_option maxRecDepth 100000 in
set_option maxHeartbeats 4000000 in
theorem withKids_any (n : Int) (b off c : Nat) (xs : List Value) (ks rs : List Tm) (q : Nat → Prop) (w : World) (B0 G : Nat) (lb : Array Value) (hrs : rs.length = ks.length) (hB0 : B0 ≤ w.heap.size)
    (eg : ∀ args w, (callFunc G args).run Tryz.prog w = .ok (.enter G args) w)
    (hbl : b < w.heap.size) (hc : ∀ j u, xs[j]? = some u → w.cell? ⟨b, off + j, none⟩ = some u) (hxs : FsIn w q xs ks) (hlen : ks.length ≤ 1048576)
    (hk : ∀ i, i < ks.length → ∀ (w' : World) (T : TypeId) (y : Value), Below w.heap.size w w' → FIn w' q (.iface T y) (tmAt ks i) → Calls Tryz.prog G (#[.iface T y] ++ lb) w' (FormPost B0 (tmAt rs i) w')) :
    Calls Tryz.prog 111 #[.agg #[.int .i64 n, .slice (some ⟨b, off, none⟩) ks.length c], .func (.func G) #[] lb] w (NodePost B0 n rs w) := by
  obtain ⟨i0, hi0, hz0, hz1, hz2⟩ := info_parts form_info
  have HS := Lib.hid hz2
  clear hz2
  have hb0 : Below w.heap.size w ((w.alloc (.cells #[.int .i64 n, .slice (some ⟨b, off, none⟩) ks.length c] 143)).alloc (.cells #[.int .i64 0, .slice none 0 0] 143)) := ((Below.refl _ _).alloc (Nat.le_refl _) _).alloc (by simp) _
  have HRS := Lib.hid hrs
  clear hrs
  go_enter Tryz.func111, Tryz.ntmps111
  go_wp2
  go_loopw [5, 12] (fun v i wr => ∃ k : Nat, k ≤ ks.length ∧ i = .int .i64 k ∧ FRow wr B0 (w.heap.size + 2) v k (rs.take k) ∧ Below ((w.alloc (.cells #[.int .i64 n, .slice (some ⟨b, off, none⟩) ks.length c] 143)).alloc (.cells #[.int .i64 0, .slice none 0 0] 143)).heap.size ((w.alloc (.cells #[.int .i64 n, .slice (some ⟨b, off, none⟩) ks.length c] 143)).alloc (.cells #[.int .i64 0, .slice none 0 0] 143)) wr) (fun _ i _ => ks.length - (intOf i).toNat)
  case atStart =>
    refine ⟨0, Nat.zero_le _, rfl, ⟨w.heap.size + 2, 0, [], rfl, ?_, .nil⟩, (Below.refl _ _).alloc (Nat.le_refl _) _⟩
    have h9 := World.ownsRow_lit (base := ((w.alloc (.cells #[.int .i64 n, .slice (some ⟨b, off, none⟩) ks.length c] 143)).alloc (.cells #[.int .i64 0, .slice none 0 0] 143)).heap.size) (e := 80) (size := 1) ((w.alloc (.cells #[.int .i64 n, .slice (some ⟨b, off, none⟩) ks.length c] 143)).alloc (.cells #[.int .i64 0, .slice none 0 0] 143)) #[] 0 (Nat.le_refl _) (by decide) rfl
    rw [World.size_alloc, World.size_alloc] at h9
    exact h9
  case round =>
    obtain ⟨k, hk', rfl, ⟨g, cap, ys, rfl, ho, hys⟩, hbw⟩ := hrel
    have hb := hb0.trans (hbw.mono hb0.size)
    by_cases hlt : k < ks.length
    · obtain ⟨u, hu, hfu⟩ := hxs.get k hlt
      obtain ⟨fx, rfl⟩ := hfu.iface
      have d0 := (hb.cell (p := ⟨b, off + k, none⟩) hbl).trans (hc k _ hu)
      have hct := hk k hlt wr _ fx hb (hfu.keep hb)
      have hnx := Lib.hid (tmAt_take_snoc (show k < rs.length by rw [HRS.out]; exact hlt))
      have hbws := hbw.size
      generalize tmAt rs k = r at hct hnx
      generalize fty (tmAt ks k) = T at hfu hu d0 hct
      clear hu hfu hb hk hxs hc
      go_wp2_with fail
      refine hct.mono ?_
      rintro e w2 ⟨fv, rfl, hfv, hb2⟩
      obtain ⟨fy, rfl⟩ := hfv.iface
      generalize fty r = fT at hfv
      have hb3 : Below w2.heap.size w2 (w2.alloc (.cells #[.iface fT fy] 80)) := (Below.refl _ _).alloc (Nat.le_refl _) _
      have hb13 := hb2.trans (hb3.mono hb2.size)
      have ho3 := own_below (own_below ho hb2) hb3
      have hbr3 := (hbw.trans (hb2.mono hbw.size)).trans (hb3.mono (Nat.le_trans hbw.size hb2.size))
      have hcell : (w2.alloc (.cells #[.iface fT fy] 80)).cell? ⟨w2.heap.size, 0, none⟩ = some (.iface fT fy) := by simp
      have HC := Lib.hid (one_cell hcell)
      have HF1 := Lib.hid (form_one hfv)
      have hsz3 := hbr3.size
      have HR : Hid (∀ g1 cap1 w4, w4.ownsRow (w.heap.size + 2) 80 1 (.slice (some ⟨g1, 0, none⟩) (k + 1) cap1) (k + 1) (ys ++ [.iface fT fy]) → (w2.alloc (.cells #[.iface fT fy] 80)).grownBy w4 (some g) → (some g = some g1 ∨ g1 = (w2.alloc (.cells #[.iface fT fy] 80)).heap.size) → FRow w4 B0 (w.heap.size + 2) (.slice (some ⟨g1, 0, none⟩) (k + 1) cap1) (k + 1) (rs.take k ++ [r])) :=
        Lib.hid (fun g1 cap1 w4 h1 h2 h3 => frow_next (by omega) (Nat.le_refl _) ho hys hb13 hfv hb3 h1 h2 h3)
      have hsz4 : w.heap.size + 2 ≤ (w2.alloc (.cells #[.iface fT fy] 80)).heap.size := by
        have := hb13.size; have := (ho.lt g rfl).2; have := (ho.lt g rfl).1; omega
      clear hcell ho hys hb2 hb3 hb13 hfv hct hbw d0
      generalize hH : (w2.alloc (.cells #[.iface fT fy] 80)).heap.size = H at hsz4
      have HH := Lib.hid hH
      clear hH
      go_wp2_with (at_builtin; refine wpList_append_lies _ rfl (.tmp 16) (.tmp 20) 141 rfl (w.heap.size + 2) 80 i0 .nilIface 1 16 Tryz.underlying141 hi0 hz0 hz1 HS.out rfl (by decide) _ k _ rfl ho3 ⟨w2.heap.size, 0, none⟩ 1 1 [.iface fT fy] rfl rfl HC.out HF1.out (by decide) ?c3 ?c4 ?c5 H HH.out ?_)
      case c3 => unfold maxLen; omega
      case c4 => omega
      case c5 => rw [HH.out]; exact hsz4
      intro g1 cap1 w4 ho4 hg4 hcase _
      rw [← HH.out] at hcase
      have hrow := HR.out g1 cap1 w4 ho4 hg4 hcase
      rw [← hnx.out] at hrow
      have hb4 := below_own hbr3 ho3 (by rw [World.size_alloc, World.size_alloc]; omega) hsz3 hg4
      clear ho4 hg4 hcase HR ho3 hbr3 HC HF1 hsz3 hsz4 HH hnx
      go_wp2
      refine ⟨⟨k + 1, by omega, by go_num, hrow, hb4⟩, ?_⟩
      simp only [intOf]
      omega
    · have e : k = rs.length := by rw [HRS.out]; omega
      subst e
      have ht := ho.lt g rfl
      have hr := heap_alloc_new (w.alloc (.cells #[.int .i64 n, .slice (some ⟨b, off, none⟩) ks.length c] 143)) (.cells #[.int .i64 0, .slice none 0 0] 143)
      rw [World.size_alloc] at hr
      have ha : ((w.alloc (.cells #[.int .i64 n, .slice (some ⟨b, off, none⟩) ks.length c] 143)).alloc (.cells #[.int .i64 0, .slice none 0 0] 143)).heap[w.heap.size]? = some (.cells #[.int .i64 n, .slice (some ⟨b, off, none⟩) ks.length c] 143) := (Below.heap_alloc _ _ _ (by simp)).trans (heap_alloc_new w (.cells #[.int .i64 n, .slice (some ⟨b, off, none⟩) ks.length c] 143))
      have hsz : ((w.alloc (.cells #[.int .i64 n, .slice (some ⟨b, off, none⟩) ks.length c] 143)).alloc (.cells #[.int .i64 0, .slice none 0 0] 143)).heap.size = w.heap.size + 2 := by simp
      have ha' := (hbw.block w.heap.size (by rw [hsz]; omega)).trans ha
      have hr' := (hbw.block (w.heap.size + 1) (by rw [hsz]; omega)).trans hr
      have c0 : wr.cell? ⟨w.heap.size, 0, none⟩ = some (.int .i64 n) := by rw [cell_of_row wr w.heap.size 0 _ _ _ ha']; rfl
      have r0 : wr.cell? ⟨w.heap.size + 1, 0, none⟩ = some (.int .i64 0) := by rw [cell_of_row wr (w.heap.size + 1) 0 _ _ _ hr']; rfl
      have r1 : wr.cell? ⟨w.heap.size + 1, 1, none⟩ = some (.slice none 0 0) := by rw [cell_of_row wr (w.heap.size + 1) 1 _ _ _ hr']; rfl
      have z0 : wr.frozen? ⟨w.heap.size + 1, 0, none⟩ = false := frozen_of_row wr (w.heap.size + 1) 0 _ _ hr'
      have z1 : wr.frozen? ⟨w.heap.size + 1, 1, none⟩ = false := frozen_of_row wr (w.heap.size + 1) 1 _ _ hr'
      have hfin : FIn wr (fun b => Since B0 (w.heap.size + 2) b) (.iface 143 (.agg #[.int .i64 n, .slice (some ⟨g, 0, none⟩) rs.length cap])) (.mk 2 n [] rs) := by
        rw [List.take_length] at hys
        exact form_node (t := .mk 2 n [] rs) rfl rfl ho (hys.kinds fun b _ h => h.1) (.inr ht.1)
      have hn : ∀ b, Since B0 (w.heap.size + 2) b → b ≠ w.heap.size + 1 := by
        intro b hs
        rcases hs with h | h <;> omega
      have hpost : NodePost B0 n rs w (.returned (.agg #[.int .i64 n, .slice (some ⟨g, 0, none⟩) rs.length cap])) ((wr.setCell ⟨w.heap.size + 1, 0, none⟩ (.int .i64 n)).setCell ⟨w.heap.size + 1, 1, none⟩ (.slice (some ⟨g, 0, none⟩) rs.length cap)) :=
        ⟨g, cap, rfl, (((hfin.setOther ⟨w.heap.size + 1, 0, none⟩ (.int .i64 n) hn).setOther ⟨w.heap.size + 1, 1, none⟩ (.slice (some ⟨g, 0, none⟩) rs.length cap) hn).kind fun b _ h => since_le h (by omega)),
          (hb.setCell (by simp) _).setCell (by simp) _⟩
      clear ha hr ha' hr' hfin hn hys ho hb hk hxs hc hsz HRS hbw ht
      go_wp2
      exact bodyPost_ret (v := .agg #[.int .i64 n, .slice (some ⟨g, 0, none⟩) rs.length cap]) (by simp [results, Tryz.results111, go_sem, r0, r1]) rfl hpost
end

section
open Go.RowKit Go.Sort
set_option linter.unusedVariables false

end

section
open Go.RowKit Go.Sort
set_option linter.unusedVariables false

mutual
theorem cnt_ok {M : Nat} : ∀ {t : Tm}, OkP M t → cntT t + 1 ≤ (M + 1) * szT t
  | .mk o n p ks, h => by
    have h1 := cnts_ok h.2.2
    have h2 := h.2.1
    rw [cntT, szT, Nat.mul_add, Nat.mul_one]
    omega
theorem cnts_ok {M : Nat} : ∀ {ts : List Tm}, OkPs M ts → ts.length + sumT ts ≤ (M + 1) * szTs ts
  | [], _ => by simp [sumT, szTs]
  | t :: r, h => by
    have h1 := cnt_ok h.1
    have h2 := cnts_ok h.2
    rw [sumT, szTs, List.length_cons, Nat.mul_add]
    omega
end

end
end Go.Proofs.YtbfkfklaplgebaaGreat
end

section
namespace Go.Proofs.YtbfkfklaplgebaaGreat
open Go.RowKit Go.Sort
set_option linter.unusedVariables false

theorem actF_1 (n : Int) : actF (.mk 1 n [] []) = 231 := rfl
theorem actF_2 (n : Int) (ks : List Tm) : actF (.mk 2 n [] ks) = 235 := rfl
theorem actF_3 (n : Int) (ks : List Tm) : actF (.mk 3 n [] ks) = 240 := rfl
theorem actF_4 (n : Int) (p : List (Int × Int)) : actF (.mk 4 n p []) = 224 := rfl

set_option maxRecDepth 100000 in
theorem act_atom (n : Int) (A : Option Addr) (c : Nat) (p : List (Int × Int)) (w : World) (hp : PairsAt w A p) (hl : p.length ≤ 1048576) (ha : Asc p) :
    Calls Tryz.prog 231 #[.agg #[.int .i64 n], .slice A p.length c] w (FormPost 0 (.mk 1 (imgL p n) [] []) w) := by
  have hb0 : Below w.heap.size w (w.alloc (.cells #[.int .i64 n] 139)) := (Below.refl _ _).alloc (Nat.le_refl _) _
  have him := imageIn_any A c p n _ (hp.below hb0) (by omega) ha
  have HA := Lib.hid ha
  clear ha
  generalize imgL p n = m at him ⊢
  go_enter Tryz.func231, Tryz.ntmps231
  go_wp2_with fail
  refine him.mono ?_
  rintro e w1 ⟨rfl, hb1⟩
  have hpost : FormPost 0 (.mk 1 m [] []) w (.returned (.iface 139 (.agg #[.int .i64 m]))) w1 := ⟨_, rfl, .atom m, hb0.trans (hb1.mono hb0.size)⟩
  clear him hb0 hb1
  go_wp2
  go_ret
  exact hpost

set_option maxRecDepth 100000 in
set_option maxHeartbeats 2000000 in
theorem act_hole (n : Int) (B : Option Addr) (d : Nat) (r : List (Int × Int)) (A : Option Addr) (c : Nat) (p : List (Int × Int)) (w : World) (hp : PairsAt w A p) (hl : p.length ≤ 1048576) (ha : Asc p)
    (hr : PairsAt w B r) (hlr : r.length ≤ 1048576) (har : Asc r) :
    Calls Tryz.prog 224 #[.agg #[.int .i64 n, .slice B r.length d], .slice A p.length c] w (FormPost 0 (.mk 4 n (thenL p r) []) w) := by
  have hb0 : Below w.heap.size w (w.alloc (.cells #[.int .i64 n, .slice B r.length d] 83)) := (Below.refl _ _).alloc (Nat.le_refl _) _
  have hdw : Below (w.alloc (.cells #[.int .i64 n, .slice B r.length d] 83)).heap.size (w.alloc (.cells #[.int .i64 n, .slice B r.length d] 83)) (w.alloc (.cells #[.int .i64 n, .slice B r.length d] 83)).drew := ⟨rfl, rfl, rfl, Nat.le_refl _, fun _ _ => rfl⟩
  have hbd := hb0.trans (hdw.mono hb0.size)
  have hco := composed_any A B c d p r _ (hp.below hbd) (hr.below hbd) hl hlr ha har
  obtain ⟨b0, b1⟩ := box2 hdw
  have hsz : w.heap.size < (w.alloc (.cells #[.int .i64 n, .slice B r.length d] 83)).drew.heap.size := by
    have := hdw.size
    rw [World.size_alloc] at this
    omega
  have HB := Lib.hid hbd
  clear ha har hb0 hdw hbd hp hr
  generalize thenL p r = L at hco ⊢
  go_enter Tryz.func224, Tryz.ntmps224
  go_wp2
  go_region_held3 (fun w' => w'.cell? ⟨w.heap.size, 0, none⟩ = some (.int .i64 n) ∧ w'.cell? ⟨w.heap.size, 1, none⟩ = some (.slice B r.length d))
    (first | ((try dsimp only); exact ⟨by assumption, by assumption⟩) | go_keep)
    ((go_at_call 228; refine hco.mono ?_; rintro e w2 ⟨g2, cap2, rfl, ho2, hb2⟩; have b0' := (hb2.cell (p := ⟨w.heap.size, 0, none⟩) hsz).trans b0; have b1' := (hb2.cell (p := ⟨w.heap.size, 1, none⟩) hsz).trans b1))
  have hpost : FormPost 0 (.mk 4 n L []) w (.returned (.iface 83 (.agg #[.int .i64 n, .slice (some ⟨g2, 0, none⟩) L.length cap2]))) w2 := by
    obtain ⟨A', c', e, hpa⟩ := own_pairsAt ho2
    simp only [Value.slice.injEq] at e
    refine ⟨_, rfl, .hole n rfl (by rw [e.1]; exact hpa) (fun b off _ hA => ?_), HB.out.trans (hb2.mono HB.out.size)⟩
    simp only [Option.some.injEq, Addr.mk.injEq] at hA
    have h1 := (ho2.lt g2 rfl).1
    have h2 := HB.out.size
    exact .inr (by omega)
  clear hco b0 b1 b0' b1' HB ho2 hb2
  go_wp2
  go_ret
  exact hpost

set_option maxRecDepth 100000 in
set_option maxHeartbeats 2000000 in
theorem act_bind (n : Int) (fx : Value) (k : Tm) (A : Option Addr) (c : Nat) (p : List (Int × Int)) (w : World) (hp : PairsAt w A p) (hl : p.length ≤ 1048576) (ha : Asc p)
    (ih : ∀ w' : World, Below w.heap.size w w' → Calls Tryz.prog (actF k) #[fx, .slice A p.length c] w' (FormPost 0 (actT p k) w')) :
    Calls Tryz.prog 240 #[.agg #[.int .i64 n, .iface (fty k) fx], .slice A p.length c] w (FormPost 0 (.mk 3 (imgL p n) [] [actT p k]) w) := by
  have hm := askAct k
  have hn := enterAct k
  generalize actF k = F at hm hn ih
  generalize fty k = T at *
  generalize actT p k = r at *
  have hb0 : Below w.heap.size w (w.alloc (.cells #[.int .i64 n, .iface T fx] 147)) := (Below.refl _ _).alloc (Nat.le_refl _) _
  have hdw : Below (w.alloc (.cells #[.int .i64 n, .iface T fx] 147)).heap.size (w.alloc (.cells #[.int .i64 n, .iface T fx] 147)) (w.alloc (.cells #[.int .i64 n, .iface T fx] 147)).drew := ⟨rfl, rfl, rfl, Nat.le_refl _, fun _ _ => rfl⟩
  have hbd := hb0.trans (hdw.mono hb0.size)
  have him := imageIn_any A c p n _ (hp.below hbd) (by omega) ha
  obtain ⟨b0, b1⟩ := box2 hdw
  have hsz : w.heap.size < (w.alloc (.cells #[.int .i64 n, .iface T fx] 147)).drew.heap.size := by
    have := hdw.size
    rw [World.size_alloc] at this
    omega
  have HB := Lib.hid hbd
  have HI : Hid (∀ w', Below w.heap.size w w' → Calls Tryz.prog F #[fx, .slice A p.length c] w' (FormPost 0 r w')) := Lib.hid ih
  clear ha hb0 hdw hbd hp ih
  generalize imgL p n = m at him ⊢
  go_enter Tryz.func240, Tryz.ntmps240
  go_wp2
  go_region_held3 (fun w' => w'.cell? ⟨w.heap.size, 0, none⟩ = some (.int .i64 n) ∧ w'.cell? ⟨w.heap.size, 1, none⟩ = some (.iface T fx))
    (first | ((try dsimp only); exact ⟨by assumption, by assumption⟩) | go_keep)
    (first
      | (go_at_call 172; refine him.mono ?_; rintro e w2 ⟨rfl, hb2⟩; have b0' := (hb2.cell (p := ⟨w.heap.size, 0, none⟩) hsz).trans b0; have b1' := (hb2.cell (p := ⟨w.heap.size, 1, none⟩) hsz).trans b1; have hsz2 := Nat.lt_of_lt_of_le hsz hb2.size; have HB2 := Lib.hid (HB.out.trans (hb2.mono HB.out.size)))
      | (refine (HI.out w2 HB2.out).mono ?_; rintro e w3 ⟨fv, rfl, hfv, hb3⟩; obtain ⟨fy, rfl⟩ := hfv.iface; have b0'' := (hb3.cell (p := ⟨w.heap.size, 0, none⟩) hsz2).trans b0'; have b1'' := (hb3.cell (p := ⟨w.heap.size, 1, none⟩) hsz2).trans b1'))
  have hpost : FormPost 0 (.mk 3 m [] [r]) w (.returned (.iface 147 (.agg #[.int .i64 m, .iface (fty r) fy]))) w3 :=
    ⟨_, rfl, .bind m (hfv.kind fun b _ h => since_le h HB2.out.size), HB2.out.trans (hb3.mono HB2.out.size)⟩
  clear him HI HB HB2 b0 b1 b0' b1' b0'' b1'' hfv hb2 hb3 hm hn
  go_wp2
  go_ret
  exact hpost

set_option maxRecDepth 100000 in
theorem act_one (B : Nat) (T : TypeId) (fx : Value) (F : FuncId) (R : Ending → World → Prop) (A : Option Addr) (c : Nat) (p : List (Int × Int)) (w : World) (hc : w.cell? ⟨B, 0, none⟩ = some (.slice A p.length c))
    (hm : ∀ (v : Value) (w : World), (method 350 T v "loop.example/g03112/impl.acted").run Tryz.prog w = .ok (F, v) w) (hn : ∀ (args : Array Value) (w : World), (callFunc F args).run Tryz.prog w = .ok (.enter F args) w) (ih : Calls Tryz.prog F #[fx, .slice A p.length c] w (fun e w' => (∃ U y, e = .returned (.iface U y)) ∧ R e w')) :
    Calls Tryz.prog 239 (#[.iface T fx] ++ #[.pointer (some ⟨B, 0, none⟩)]) w R := by
  show Calls Tryz.prog 239 #[.iface T fx, .pointer (some ⟨B, 0, none⟩)] w R
  go_enter Tryz.func239, Tryz.ntmps239
  go_wp2_with fail
  refine ih.mono ?_
  rintro e w2 ⟨⟨U, y, rfl⟩, hR⟩
  have HR := Lib.hid hR
  clear hR ih
  go_wp2
  exact HR.out

set_option maxRecDepth 100000 in
set_option maxHeartbeats 2000000 in
theorem act_node (n : Int) (b off c0 : Nat) (xs : List Value) (ks : List Tm) (q : Nat → Prop) (A : Option Addr) (c : Nat) (p : List (Int × Int)) (w : World) (hbl : b < w.heap.size) (hc : ∀ j u, xs[j]? = some u → w.cell? ⟨b, off + j, none⟩ = some u) (hxs : FsIn w q xs ks) (hlen : ks.length ≤ 1048576)
    (ih : ∀ i, i < ks.length → ∀ (w' : World) (y : Value), Below w.heap.size w w' → FIn w' q (.iface (fty (tmAt ks i)) y) (tmAt ks i) → Calls Tryz.prog (actF (tmAt ks i)) #[y, .slice A p.length c] w' (FormPost 0 (actT p (tmAt ks i)) w')) :
    Calls Tryz.prog 235 #[.agg #[.int .i64 n, .slice (some ⟨b, off, none⟩) ks.length c0], .slice A p.length c] w (FormPost 0 (.mk 2 n [] (actTs p ks)) w) := by
  have hb0 : Below w.heap.size w ((w.alloc (.cells #[.int .i64 n, .slice (some ⟨b, off, none⟩) ks.length c0] 143)).alloc (.cells #[.slice A p.length c] 28)) := ((Below.refl _ _).alloc (Nat.le_refl _) _).alloc (by simp) _
  have hcell : ((w.alloc (.cells #[.int .i64 n, .slice (some ⟨b, off, none⟩) ks.length c0] 143)).alloc (.cells #[.slice A p.length c] 28)).cell? ⟨w.heap.size + 1, 0, none⟩ = some (.slice A p.length c) := by simp
  have eg : ∀ args w, (callFunc 239 args).run Tryz.prog w = .ok (.enter 239 args) w := enters_of Tryz.func239 (by kernel_rfl) rfl
  have hwk := withKids_any n b off c0 xs ks (actTs p ks) q _ 0 239 #[.pointer (some ⟨w.heap.size + 1, 0, none⟩)] (actTs_len p ks) (Nat.zero_le _) eg (Nat.lt_of_lt_of_le hbl hb0.size)
    (fun j u hj => (hb0.cell (p := ⟨b, off + j, none⟩) hbl).trans (hc j u hj)) (hxs.over ⟨hb0.size, fun b _ hl => hb0.block b hl, fun _ h _ => h⟩) hlen
    (fun i hi w' T y hb hf => by
      obtain ⟨y', e⟩ := hf.iface
      injection e with e1 e2
      subst e1; subst e2
      have hb' := hb0.trans (hb.mono hb0.size)
      refine act_one (w.heap.size + 1) _ y (actF (tmAt ks i)) _ A c p w' ((hb.cell (p := ⟨w.heap.size + 1, 0, none⟩) (by simp)).trans hcell) (askAct _) (enterAct _) ((ih i hi w' y hb' hf).mono ?_)
      rintro e w2 ⟨v, rfl, hv, hb2⟩
      obtain ⟨fy, rfl⟩ := hv.iface
      rw [actTs_at p hi]
      exact ⟨⟨_, _, rfl⟩, _, rfl, hv, hb2⟩)
  have HB := Lib.hid hb0
  clear hc hxs ih hcell eg hb0 hbl
  have hal := actTs_len p ks
  generalize actTs p ks = rs at hwk ⊢
  clear hal
  go_enter Tryz.func235, Tryz.ntmps235
  go_wp2_with fail
  refine hwk.mono ?_
  rintro e w2 ⟨g, cap, rfl, hf, hb2⟩
  have hpost : FormPost 0 (.mk 2 n [] rs) w (.returned (.iface 143 (.agg #[.int .i64 n, .slice (some ⟨g, 0, none⟩) rs.length cap]))) w2 :=
    ⟨_, rfl, hf.kind fun b _ h => since_le h HB.out.size, HB.out.trans (hb2.mono HB.out.size)⟩
  clear hwk HB hf hb2
  go_wp2
  go_ret
  exact hpost

/-- What acting makes of a form. -/
theorem act_any : ∀ (N : Nat) (t : Tm), szT t ≤ N → N ≤ 1048576 → OkP 1048576 t → ∀ (q : Nat → Prop) (w : World) (fx : Value) (A : Option Addr) (c : Nat) (p : List (Int × Int)), PairsAt w A p → p.length ≤ 1048576 → Asc p → FIn w q (.iface (fty t) fx) t →
    Calls Tryz.prog (actF t) #[fx, .slice A p.length c] w (FormPost 0 (actT p t) w) := by
  intro N
  induction N with
  | zero => intro t h; rw [szT_eq] at h; omega
  | succ N ih =>
    intro t hN hM hok q w fx A c p hp hl ha h
    rcases form_cases h with ⟨n, rfl, rfl⟩ | ⟨n, b, off, c', xs, ks, rfl, rfl, _, hb, hc, hxs⟩ | ⟨n, v, k, rfl, rfl, hk⟩ | ⟨n, A', c', r, rfl, rfl, hr, _⟩
    · rw [actT_1, actF_1]
      exact act_atom n A c p w hp hl ha
    · rw [actT_2, actF_2]
      rw [szT_eq, kids_mk] at hN
      have hkl := len_szTs ks
      refine act_node n b off c' xs ks q A c p w hb hc hxs (by omega) fun i hi w' y hb' hy => ih _ ?_ (by omega) (okP_at hok.2.2 hi) q w' y A c p (hp.below hb') hl ha hy
      have := szT_at hi
      omega
    · rw [actT_3, actF_3]
      obtain ⟨fx, rfl⟩ := hk.iface
      rw [szT_eq, kids_mk, szTs, szTs] at hN
      exact act_bind n fx k A c p w hp hl ha fun w' hb => ih k (by omega) (by omega) hok.2.2.1 q w' fx A c p (hp.below hb) hl ha (hk.keep hb)
    · rw [actT_4, actF_4]
      exact act_hole n A' c' r A c p w hp hl ha hr hok.2.1 hok.1
end Go.Proofs.YtbfkfklaplgebaaGreat
end

section
namespace Go.Proofs.YtbfkfklaplgebaaGreat
open Go.RowKit Go.Sort
set_option linter.unusedVariables false

theorem row2 {w : World} {g : Nat} {a b : Value} {T : TypeId} (h : w.heap[g]? = some (.cells #[a, b] T (0, 0))) : w.cell? ⟨g, 0, none⟩ = some a ∧ w.cell? ⟨g, 1, none⟩ = some b ∧ w.frozen? ⟨g, 0, none⟩ = false ∧ w.frozen? ⟨g, 1, none⟩ = false :=
  ⟨by rw [cell_of_row _ _ _ _ _ _ h]; rfl, by rw [cell_of_row _ _ _ _ _ _ h]; rfl, frozen_of_row _ _ 0 _ _ h, frozen_of_row _ _ 1 _ _ h⟩

end Go.Proofs.YtbfkfklaplgebaaGreat
end

section
namespace Go.Proofs.YtbfkfklaplgebaaGreat
open Go.RowKit Go.Sort
set_option linter.unusedVariables false

/-- Blocks of a kind, and new ones. -/
def SinceQ (p : Nat → Prop) (C b : Nat) : Prop := p b ∨ C ≤ b
theorem sinceQ_le {p : Nat → Prop} {C D b : Nat} (h : SinceQ p C b) (hD : D ≤ C) : SinceQ p D b := h.imp id fun h => Nat.le_trans hD h
/-- What a call answers that makes a form. -/
def FormQ (p : Nat → Prop) (t : Tm) (w : World) (e : Ending) (w' : World) : Prop := ∃ v, e = .returned v ∧ FIn w' (SinceQ p w.heap.size) v t ∧ Below w.heap.size w w'
/-- A node that has been made. -/
def NodeQ (p : Nat → Prop) (n : Int) (rs : List Tm) (w : World) (e : Ending) (w' : World) : Prop :=
  ∃ g cap, e = .returned (.agg #[.int .i64 n, .slice (some ⟨g, 0, none⟩) rs.length cap]) ∧ FIn w' (SinceQ p w.heap.size) (.iface 143 (.agg #[.int .i64 n, .slice (some ⟨g, 0, none⟩) rs.length cap])) (.mk 2 n [] rs) ∧ Below w.heap.size w w'
/-- A row of the call's own that holds forms; what they reach lies in blocks of a kind, or in new ones, and not in the row itself. -/
def FRowQ (w : World) (p : Nat → Prop) (B : Nat) (v : Value) (k : Nat) (ts : List Tm) : Prop :=
  ∃ g cap xs, v = .slice (some ⟨g, 0, none⟩) k cap ∧ w.ownsRow B 80 1 v k xs ∧ FsIn w (fun b => SinceQ p B b ∧ b ≠ g) xs ts
theorem frowQ_next {wr w2 w3 w4 : World} {p : Nat → Prop} {B C g cap g1 cap1 k : Nat} {xs : List Value} {ts : List Tm} {v : Value} {t : Tm}
    (hB : ∀ b, p b → b < B) (hC : wr.heap.size ≤ C) (ho : wr.ownsRow B 80 1 (.slice (some ⟨g, 0, none⟩) k cap) k xs)
    (hx : FsIn wr (fun b => SinceQ p B b ∧ b ≠ g) xs ts) (h13 : Below wr.heap.size wr w3) (hv : FIn w2 (SinceQ p C) v t) (h23 : Below w2.heap.size w2 w3)
    (ho4 : w4.ownsRow B 80 1 (.slice (some ⟨g1, 0, none⟩) (k + 1) cap1) (k + 1) (xs ++ [v]))
    (hg : w3.grownBy w4 (some g)) (hcase : some g = some g1 ∨ g1 = w3.heap.size) :
    FRowQ w4 p B (.slice (some ⟨g1, 0, none⟩) (k + 1) cap1) (k + 1) (ts ++ [t]) := by
  obtain ⟨hg1, hg2⟩ := ho.lt g rfl
  have hsz : w3.heap.size ≤ w4.heap.size := hg.size
  have hbl : ∀ b, b < w3.heap.size → b ≠ g → w4.heap[b]? = w3.heap[b]? := fun b h1 h2 => hg.block b h1 (fun e => by injection e with e; exact h2 e)
  have hne : ∀ b, b < w3.heap.size → b ≠ g → b ≠ g1 := by
    intro b h1 h2 e
    rcases hcase with h | h
    · injection h with h
      omega
    · omega
  have hs13 := h13.size
  have hs23 := h23.size
  refine ⟨g1, cap1, xs ++ [v], rfl, ho4, FsIn.snoc ?_ ?_⟩
  · refine hx.over ⟨by omega, fun b hq hl => ?_, fun b hq hl => ?_⟩
    · exact (hbl b (by omega) hq.2).trans (h13.block b hl)
    · exact ⟨hq.1, hne b (by omega) hq.2⟩
  · have hk : ∀ b, SinceQ p C b → b ≠ g := by
      intro b hs e
      subst e
      rcases hs with h | h
      · have := hB b h; omega
      · omega
    refine hv.over ⟨by omega, fun b hq hl => ?_, fun b hq hl => ?_⟩
    · exact (hbl b (by omega) (hk b hq)).trans (h23.block b hl)
    · refine ⟨?_, hne b (by omega) (hk b hq)⟩
      rcases hq with h | h
      · exact .inl h
      · exact .inr (by omega)

set_option maxRecDepth 100000 in
set_option maxHeartbeats 4000000 in
theorem withKidsM_any (n : Int) (b off c : Nat) (xs : List Value) (ks rs : List Tm) (q : Nat → Prop) (w : World) (p : Nat → Prop) (G : Nat) (m : Value) (hrs : rs.length = ks.length) (hB0 : ∀ b, p b → b < w.heap.size)
    (eg : ∀ args w, (callFunc G args).run Tryz.prog w = .ok (.enter G args) w)
    (hbl : b < w.heap.size) (hc : ∀ j u, xs[j]? = some u → w.cell? ⟨b, off + j, none⟩ = some u) (hxs : FsIn w q xs ks) (hlen : ks.length ≤ 1048576)
    (hk : ∀ i, i < ks.length → ∀ (w' : World) (T : TypeId) (y : Value), Below w.heap.size w w' → FIn w' q (.iface T y) (tmAt ks i) → Calls Tryz.prog G #[m, .iface T y] w' (FormQ p (tmAt rs i) w')) :
    Calls Tryz.prog 111 #[.agg #[.int .i64 n, .slice (some ⟨b, off, none⟩) ks.length c], .func (.func G) #[m] #[]] w (NodeQ p n rs w) := by
  obtain ⟨i0, hi0, hz0, hz1, hz2⟩ := info_parts form_info
  have HS := Lib.hid hz2
  clear hz2
  have hb0 : Below w.heap.size w ((w.alloc (.cells #[.int .i64 n, .slice (some ⟨b, off, none⟩) ks.length c] 143)).alloc (.cells #[.int .i64 0, .slice none 0 0] 143)) := ((Below.refl _ _).alloc (Nat.le_refl _) _).alloc (by simp) _
  have HRS := Lib.hid hrs
  clear hrs
  go_enter Tryz.func111, Tryz.ntmps111
  go_wp2
  go_loopw [5, 12] (fun v i wr => ∃ k : Nat, k ≤ ks.length ∧ i = .int .i64 k ∧ FRowQ wr p (w.heap.size + 2) v k (rs.take k) ∧ Below ((w.alloc (.cells #[.int .i64 n, .slice (some ⟨b, off, none⟩) ks.length c] 143)).alloc (.cells #[.int .i64 0, .slice none 0 0] 143)).heap.size ((w.alloc (.cells #[.int .i64 n, .slice (some ⟨b, off, none⟩) ks.length c] 143)).alloc (.cells #[.int .i64 0, .slice none 0 0] 143)) wr) (fun _ i _ => ks.length - (intOf i).toNat)
  case atStart =>
    refine ⟨0, Nat.zero_le _, rfl, ⟨w.heap.size + 2, 0, [], rfl, ?_, .nil⟩, (Below.refl _ _).alloc (Nat.le_refl _) _⟩
    have h9 := World.ownsRow_lit (base := ((w.alloc (.cells #[.int .i64 n, .slice (some ⟨b, off, none⟩) ks.length c] 143)).alloc (.cells #[.int .i64 0, .slice none 0 0] 143)).heap.size) (e := 80) (size := 1) ((w.alloc (.cells #[.int .i64 n, .slice (some ⟨b, off, none⟩) ks.length c] 143)).alloc (.cells #[.int .i64 0, .slice none 0 0] 143)) #[] 0 (Nat.le_refl _) (by decide) rfl
    rw [World.size_alloc, World.size_alloc] at h9
    exact h9
  case round =>
    obtain ⟨k, hk', rfl, ⟨g, cap, ys, rfl, ho, hys⟩, hbw⟩ := hrel
    have hb := hb0.trans (hbw.mono hb0.size)
    by_cases hlt : k < ks.length
    · obtain ⟨u, hu, hfu⟩ := hxs.get k hlt
      obtain ⟨fx, rfl⟩ := hfu.iface
      have d0 := (hb.cell (p := ⟨b, off + k, none⟩) hbl).trans (hc k _ hu)
      have hct := hk k hlt wr _ fx hb (hfu.keep hb)
      have hnx := Lib.hid (tmAt_take_snoc (show k < rs.length by rw [HRS.out]; exact hlt))
      have hbws := hbw.size
      generalize tmAt rs k = r at hct hnx
      generalize fty (tmAt ks k) = T at hfu hu d0 hct
      clear hu hfu hb hk hxs hc
      go_wp2_with fail
      refine hct.mono ?_
      rintro e w2 ⟨fv, rfl, hfv, hb2⟩
      obtain ⟨fy, rfl⟩ := hfv.iface
      generalize fty r = fT at hfv
      have hb3 : Below w2.heap.size w2 (w2.alloc (.cells #[.iface fT fy] 80)) := (Below.refl _ _).alloc (Nat.le_refl _) _
      have hb13 := hb2.trans (hb3.mono hb2.size)
      have ho3 := own_below (own_below ho hb2) hb3
      have hbr3 := (hbw.trans (hb2.mono hbw.size)).trans (hb3.mono (Nat.le_trans hbw.size hb2.size))
      have hcell : (w2.alloc (.cells #[.iface fT fy] 80)).cell? ⟨w2.heap.size, 0, none⟩ = some (.iface fT fy) := by simp
      have HC := Lib.hid (one_cell hcell)
      have HF1 := Lib.hid (form_one hfv)
      have hsz3 := hbr3.size
      have HR : Hid (∀ g1 cap1 w4, w4.ownsRow (w.heap.size + 2) 80 1 (.slice (some ⟨g1, 0, none⟩) (k + 1) cap1) (k + 1) (ys ++ [.iface fT fy]) → (w2.alloc (.cells #[.iface fT fy] 80)).grownBy w4 (some g) → (some g = some g1 ∨ g1 = (w2.alloc (.cells #[.iface fT fy] 80)).heap.size) → FRowQ w4 p (w.heap.size + 2) (.slice (some ⟨g1, 0, none⟩) (k + 1) cap1) (k + 1) (rs.take k ++ [r])) :=
        Lib.hid (fun g1 cap1 w4 h1 h2 h3 => frowQ_next (fun b h => by have := hB0 b h; omega) (Nat.le_refl _) ho hys hb13 hfv hb3 h1 h2 h3)
      have hsz4 : w.heap.size + 2 ≤ (w2.alloc (.cells #[.iface fT fy] 80)).heap.size := by
        have := hb13.size; have := (ho.lt g rfl).2; have := (ho.lt g rfl).1; omega
      clear hcell ho hys hb2 hb3 hb13 hfv hct hbw d0
      generalize hH : (w2.alloc (.cells #[.iface fT fy] 80)).heap.size = H at hsz4
      have HH := Lib.hid hH
      clear hH
      go_wp2_with (at_builtin; refine wpList_append_lies _ rfl (.tmp 16) (.tmp 20) 141 rfl (w.heap.size + 2) 80 i0 .nilIface 1 16 Tryz.underlying141 hi0 hz0 hz1 HS.out rfl (by decide) _ k _ rfl ho3 ⟨w2.heap.size, 0, none⟩ 1 1 [.iface fT fy] rfl rfl HC.out HF1.out (by decide) ?c3 ?c4 ?c5 H HH.out ?_)
      case c3 => unfold maxLen; omega
      case c4 => omega
      case c5 => rw [HH.out]; exact hsz4
      intro g1 cap1 w4 ho4 hg4 hcase _
      rw [← HH.out] at hcase
      have hrow := HR.out g1 cap1 w4 ho4 hg4 hcase
      rw [← hnx.out] at hrow
      have hb4 := below_own hbr3 ho3 (by rw [World.size_alloc, World.size_alloc]; omega) hsz3 hg4
      clear ho4 hg4 hcase HR ho3 hbr3 HC HF1 hsz3 hsz4 HH hnx
      go_wp2
      refine ⟨⟨k + 1, by omega, by go_num, hrow, hb4⟩, ?_⟩
      simp only [intOf]
      omega
    · have e : k = rs.length := by rw [HRS.out]; omega
      subst e
      have ht := ho.lt g rfl
      have hr := heap_alloc_new (w.alloc (.cells #[.int .i64 n, .slice (some ⟨b, off, none⟩) ks.length c] 143)) (.cells #[.int .i64 0, .slice none 0 0] 143)
      rw [World.size_alloc] at hr
      have ha : ((w.alloc (.cells #[.int .i64 n, .slice (some ⟨b, off, none⟩) ks.length c] 143)).alloc (.cells #[.int .i64 0, .slice none 0 0] 143)).heap[w.heap.size]? = some (.cells #[.int .i64 n, .slice (some ⟨b, off, none⟩) ks.length c] 143) := (Below.heap_alloc _ _ _ (by simp)).trans (heap_alloc_new w (.cells #[.int .i64 n, .slice (some ⟨b, off, none⟩) ks.length c] 143))
      have hsz : ((w.alloc (.cells #[.int .i64 n, .slice (some ⟨b, off, none⟩) ks.length c] 143)).alloc (.cells #[.int .i64 0, .slice none 0 0] 143)).heap.size = w.heap.size + 2 := by simp
      have ha' := (hbw.block w.heap.size (by rw [hsz]; omega)).trans ha
      have hr' := (hbw.block (w.heap.size + 1) (by rw [hsz]; omega)).trans hr
      have c0 : wr.cell? ⟨w.heap.size, 0, none⟩ = some (.int .i64 n) := by rw [cell_of_row wr w.heap.size 0 _ _ _ ha']; rfl
      have r0 : wr.cell? ⟨w.heap.size + 1, 0, none⟩ = some (.int .i64 0) := by rw [cell_of_row wr (w.heap.size + 1) 0 _ _ _ hr']; rfl
      have r1 : wr.cell? ⟨w.heap.size + 1, 1, none⟩ = some (.slice none 0 0) := by rw [cell_of_row wr (w.heap.size + 1) 1 _ _ _ hr']; rfl
      have z0 : wr.frozen? ⟨w.heap.size + 1, 0, none⟩ = false := frozen_of_row wr (w.heap.size + 1) 0 _ _ hr'
      have z1 : wr.frozen? ⟨w.heap.size + 1, 1, none⟩ = false := frozen_of_row wr (w.heap.size + 1) 1 _ _ hr'
      have hfin : FIn wr (fun b => SinceQ p (w.heap.size + 2) b) (.iface 143 (.agg #[.int .i64 n, .slice (some ⟨g, 0, none⟩) rs.length cap])) (.mk 2 n [] rs) := by
        rw [List.take_length] at hys
        exact form_node (t := .mk 2 n [] rs) rfl rfl ho (hys.kinds fun b _ h => h.1) (.inr ht.1)
      have hn : ∀ b, SinceQ p (w.heap.size + 2) b → b ≠ w.heap.size + 1 := by
        intro b hs
        rcases hs with h | h
        · have := hB0 b h; omega
        · omega
      have hpost : NodeQ p n rs w (.returned (.agg #[.int .i64 n, .slice (some ⟨g, 0, none⟩) rs.length cap])) ((wr.setCell ⟨w.heap.size + 1, 0, none⟩ (.int .i64 n)).setCell ⟨w.heap.size + 1, 1, none⟩ (.slice (some ⟨g, 0, none⟩) rs.length cap)) :=
        ⟨g, cap, rfl, (((hfin.setOther ⟨w.heap.size + 1, 0, none⟩ (.int .i64 n) hn).setOther ⟨w.heap.size + 1, 1, none⟩ (.slice (some ⟨g, 0, none⟩) rs.length cap) hn).kind fun b _ h => sinceQ_le h (by omega)),
          (hb.setCell (by simp) _).setCell (by simp) _⟩
      clear ha hr ha' hr' hfin hn hys ho hb hk hxs hc hsz HRS hbw ht
      go_wp2
      exact bodyPost_ret (v := .agg #[.int .i64 n, .slice (some ⟨g, 0, none⟩) rs.length cap]) (by simp [results, Tryz.results111, go_sem, r0, r1]) rfl hpost

end Go.Proofs.YtbfkfklaplgebaaGreat
end

section
namespace Go.Proofs.YtbfkfklaplgebaaGreat
open Go.RowKit Go.Sort
set_option linter.unusedVariables false

/-- What a call has answered, later on. -/
theorem TmOut.later {t : Tm} {w w1 w2 : World} {e : Ending} (h : TmOut t w e w1) (hb : Below w1.heap.size w1 w2) : TmOut t w e w2 := by
  obtain ⟨A1, c1, A2, c2, S, he, hL, hS, hb1⟩ := h
  exact ⟨A1, c1, A2, c2, S, he, hL.alike fun b hb' => hb.block b (hL.lt b hb'), hS, hb1.trans (hb.mono hb1.size)⟩

end Go.Proofs.YtbfkfklaplgebaaGreat
end

