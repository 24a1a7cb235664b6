/-
  A node with what a function makes of each kid, in the program, as a contract. The term of a form, in the program, as contracts. The term of a form, unless it would be none: in the program, as a contract.
-/
import Derived.Test.YtbfkfklaplgebaaKActOn12
import Derived.Test.YtbfkfklaplgebaaKActOn15
import Derived.Test.YtbfkfklaplgebaaKActOn11
import Derived.Test.YtbfkfklaplgebaaKActOn9
namespace Go.Proofs.Ytbfkfklaplgebaa
section
open Go.RowKit Go.Sort
set_option linter.unusedVariables false

/-- A node that has been made. -/
def NodePost (B : Nat) (n : Int) (rs : List Tm) (w : World) (e : Ending) (w' : World) : Prop :=
  ∃ g cap, e = .returned (.agg #[.int .i64 n, .slice (some ⟨g, 0, none⟩) rs.length cap]) ∧ FIn w' (Since B w.heap.size) (.iface 94 (.agg #[.int .i64 n, .slice (some ⟨g, 0, none⟩) rs.length cap])) (.mk 2 n [] rs) ∧ Below w.heap.size w w'

theorem box2 {a b : Value} {T : TypeId} {w w1 : World} (hb : Below (w.alloc (.cells #[a, b] T)).heap.size (w.alloc (.cells #[a, b] T)) w1) :
    w1.cell? ⟨w.heap.size, 0, none⟩ = some a ∧ w1.cell? ⟨w.heap.size, 1, none⟩ = some b := by
  have h := (hb.block w.heap.size (by simp)).trans (heap_alloc_new w _)
  refine ⟨?_, ?_⟩ <;> rw [cell_of_row w1 w.heap.size _ _ _ _ h] <;> rfl

theorem tmAt_take_snoc {rs : List Tm} {k : Nat} (h : k < rs.length) : rs.take (k + 1) = rs.take k ++ [tmAt rs k] := tm_take_next h

set_option maxRecDepth 100000 in
set_option maxHeartbeats 4000000 in
theorem withKids_any (n : Int) (b off c : Nat) (xs : List Value) (ks rs : List Tm) (q : Nat → Prop) (w : World) (B0 G : Nat) (lb : Array Value) (hrs : rs.length = ks.length) (hB0 : B0 ≤ w.heap.size)
    (eg : ∀ args w, (callFunc G args).run Try.prog w = .ok (.enter G args) w)
    (hbl : b < w.heap.size) (hc : ∀ j u, xs[j]? = some u → w.cell? ⟨b, off + j, none⟩ = some u) (hxs : FsIn w q xs ks) (hlen : ks.length ≤ 1048576)
    (hk : ∀ i, i < ks.length → ∀ (w' : World) (T : TypeId) (y : Value), Below w.heap.size w w' → FIn w' q (.iface T y) (tmAt ks i) → Calls Try.prog G (#[.iface T y] ++ lb) w' (FormPost B0 (tmAt rs i) w')) :
    Calls Try.prog 160 #[.agg #[.int .i64 n, .slice (some ⟨b, off, none⟩) ks.length c], .func (.func G) #[] lb] w (NodePost B0 n rs w) := by
  obtain ⟨i0, hi0, hz0, hz1, hz2⟩ := info_parts form_info
  have HS := Lib.hid hz2
  clear hz2
  have hb0 : Below w.heap.size w ((w.alloc (.cells #[.int .i64 n, .slice (some ⟨b, off, none⟩) ks.length c] 94)).alloc (.cells #[.int .i64 0, .slice none 0 0] 94)) := ((Below.refl _ _).alloc (Nat.le_refl _) _).alloc (by simp) _
  have HRS := Lib.hid hrs
  clear hrs
  go_enter Try.func160, Try.ntmps160
  go_wp2
  go_loopw [5, 12] (fun v i wr => ∃ k : Nat, k ≤ ks.length ∧ i = .int .i64 k ∧ FRow wr B0 (w.heap.size + 2) v k (rs.take k) ∧ Below ((w.alloc (.cells #[.int .i64 n, .slice (some ⟨b, off, none⟩) ks.length c] 94)).alloc (.cells #[.int .i64 0, .slice none 0 0] 94)).heap.size ((w.alloc (.cells #[.int .i64 n, .slice (some ⟨b, off, none⟩) ks.length c] 94)).alloc (.cells #[.int .i64 0, .slice none 0 0] 94)) wr) (fun _ i _ => ks.length - (intOf i).toNat)
  case atStart =>
    refine ⟨0, Nat.zero_le _, rfl, ⟨w.heap.size + 2, 0, [], rfl, ?_, .nil⟩, (Below.refl _ _).alloc (Nat.le_refl _) _⟩
    have h9 := World.ownsRow_lit (base := ((w.alloc (.cells #[.int .i64 n, .slice (some ⟨b, off, none⟩) ks.length c] 94)).alloc (.cells #[.int .i64 0, .slice none 0 0] 94)).heap.size) (e := 64) (size := 1) ((w.alloc (.cells #[.int .i64 n, .slice (some ⟨b, off, none⟩) ks.length c] 94)).alloc (.cells #[.int .i64 0, .slice none 0 0] 94)) #[] 0 (Nat.le_refl _) (by decide) rfl
    rw [World.size_alloc, World.size_alloc] at h9
    exact h9
  case round =>
    obtain ⟨k, hk', rfl, ⟨g, cap, ys, rfl, ho, hys⟩, hbw⟩ := hrel
    have hb := hb0.trans (hbw.mono hb0.size)
    by_cases hlt : k < ks.length
    · obtain ⟨u, hu, hfu⟩ := hxs.get k hlt
      obtain ⟨fx, rfl⟩ := hfu.iface
      have d0 := (hb.cell (p := ⟨b, off + k, none⟩) hbl).trans (hc k _ hu)
      have hct := hk k hlt wr _ fx hb (hfu.keep hb)
      have hnx := Lib.hid (tmAt_take_snoc (show k < rs.length by rw [HRS.out]; exact hlt))
      have hbws := hbw.size
      generalize tmAt rs k = r at hct hnx
      generalize fty (tmAt ks k) = T at hfu hu d0 hct
      clear hu hfu hb hk hxs hc
      go_wp2_with fail
      refine hct.mono ?_
      rintro e w2 ⟨fv, rfl, hfv, hb2⟩
      obtain ⟨fy, rfl⟩ := hfv.iface
      generalize fty r = fT at hfv
      have hb3 : Below w2.heap.size w2 (w2.alloc (.cells #[.iface fT fy] 64)) := (Below.refl _ _).alloc (Nat.le_refl _) _
      have hb13 := hb2.trans (hb3.mono hb2.size)
      have ho3 := own_below (own_below ho hb2) hb3
      have hbr3 := (hbw.trans (hb2.mono hbw.size)).trans (hb3.mono (Nat.le_trans hbw.size hb2.size))
      have hcell : (w2.alloc (.cells #[.iface fT fy] 64)).cell? ⟨w2.heap.size, 0, none⟩ = some (.iface fT fy) := by simp
      have HC := Lib.hid (one_cell hcell)
      have HF1 := Lib.hid (form_one hfv)
      have hsz3 := hbr3.size
      have HR : Hid (∀ g1 cap1 w4, w4.ownsRow (w.heap.size + 2) 64 1 (.slice (some ⟨g1, 0, none⟩) (k + 1) cap1) (k + 1) (ys ++ [.iface fT fy]) → (w2.alloc (.cells #[.iface fT fy] 64)).grownBy w4 (some g) → (some g = some g1 ∨ g1 = (w2.alloc (.cells #[.iface fT fy] 64)).heap.size) → FRow w4 B0 (w.heap.size + 2) (.slice (some ⟨g1, 0, none⟩) (k + 1) cap1) (k + 1) (rs.take k ++ [r])) :=
        Lib.hid (fun g1 cap1 w4 h1 h2 h3 => frow_next (by omega) (Nat.le_refl _) ho hys hb13 hfv hb3 h1 h2 h3)
      have hsz4 : w.heap.size + 2 ≤ (w2.alloc (.cells #[.iface fT fy] 64)).heap.size := by
        have := hb13.size; have := (ho.lt g rfl).2; have := (ho.lt g rfl).1; omega
      clear hcell ho hys hb2 hb3 hb13 hfv hct hbw d0
      generalize hH : (w2.alloc (.cells #[.iface fT fy] 64)).heap.size = H at hsz4
      have HH := Lib.hid hH
      clear hH
      go_wp2_with (at_builtin; refine wpList_append_lies _ rfl (.tmp 16) (.tmp 20) 92 rfl (w.heap.size + 2) 64 i0 .nilIface 1 16 Try.underlying92 hi0 hz0 hz1 HS.out rfl (by decide) _ k _ rfl ho3 ⟨w2.heap.size, 0, none⟩ 1 1 [.iface fT fy] rfl rfl HC.out HF1.out (by decide) ?c3 ?c4 ?c5 H HH.out ?_)
      case c3 => unfold maxLen; omega
      case c4 => omega
      case c5 => rw [HH.out]; exact hsz4
      intro g1 cap1 w4 ho4 hg4 hcase _
      rw [← HH.out] at hcase
      have hrow := HR.out g1 cap1 w4 ho4 hg4 hcase
      rw [← hnx.out] at hrow
      have hb4 := below_own hbr3 ho3 (by rw [World.size_alloc, World.size_alloc]; omega) hsz3 hg4
      clear ho4 hg4 hcase HR ho3 hbr3 HC HF1 hsz3 hsz4 HH hnx
      go_wp2
      refine ⟨⟨k + 1, by omega, by go_num, hrow, hb4⟩, ?_⟩
      simp only [intOf]
      omega
    · have e : k = rs.length := by rw [HRS.out]; omega
      subst e
      have ht := ho.lt g rfl
      have hr := heap_alloc_new (w.alloc (.cells #[.int .i64 n, .slice (some ⟨b, off, none⟩) ks.length c] 94)) (.cells #[.int .i64 0, .slice none 0 0] 94)
      rw [World.size_alloc] at hr
      have ha : ((w.alloc (.cells #[.int .i64 n, .slice (some ⟨b, off, none⟩) ks.length c] 94)).alloc (.cells #[.int .i64 0, .slice none 0 0] 94)).heap[w.heap.size]? = some (.cells #[.int .i64 n, .slice (some ⟨b, off, none⟩) ks.length c] 94) := (Below.heap_alloc _ _ _ (by simp)).trans (heap_alloc_new w (.cells #[.int .i64 n, .slice (some ⟨b, off, none⟩) ks.length c] 94))
      have hsz : ((w.alloc (.cells #[.int .i64 n, .slice (some ⟨b, off, none⟩) ks.length c] 94)).alloc (.cells #[.int .i64 0, .slice none 0 0] 94)).heap.size = w.heap.size + 2 := by simp
      have ha' := (hbw.block w.heap.size (by rw [hsz]; omega)).trans ha
      have hr' := (hbw.block (w.heap.size + 1) (by rw [hsz]; omega)).trans hr
      have c0 : wr.cell? ⟨w.heap.size, 0, none⟩ = some (.int .i64 n) := by rw [cell_of_row wr w.heap.size 0 _ _ _ ha']; rfl
      have r0 : wr.cell? ⟨w.heap.size + 1, 0, none⟩ = some (.int .i64 0) := by rw [cell_of_row wr (w.heap.size + 1) 0 _ _ _ hr']; rfl
      have r1 : wr.cell? ⟨w.heap.size + 1, 1, none⟩ = some (.slice none 0 0) := by rw [cell_of_row wr (w.heap.size + 1) 1 _ _ _ hr']; rfl
      have z0 : wr.frozen? ⟨w.heap.size + 1, 0, none⟩ = false := frozen_of_row wr (w.heap.size + 1) 0 _ _ hr'
      have z1 : wr.frozen? ⟨w.heap.size + 1, 1, none⟩ = false := frozen_of_row wr (w.heap.size + 1) 1 _ _ hr'
      have hfin : FIn wr (fun b => Since B0 (w.heap.size + 2) b) (.iface 94 (.agg #[.int .i64 n, .slice (some ⟨g, 0, none⟩) rs.length cap])) (.mk 2 n [] rs) := by
        rw [List.take_length] at hys
        exact form_node (t := .mk 2 n [] rs) rfl rfl ho (hys.kinds fun b _ h => h.1) (.inr ht.1)
      have hn : ∀ b, Since B0 (w.heap.size + 2) b → b ≠ w.heap.size + 1 := by
        intro b hs
        rcases hs with h | h <;> omega
      have hpost : NodePost B0 n rs w (.returned (.agg #[.int .i64 n, .slice (some ⟨g, 0, none⟩) rs.length cap])) ((wr.setCell ⟨w.heap.size + 1, 0, none⟩ (.int .i64 n)).setCell ⟨w.heap.size + 1, 1, none⟩ (.slice (some ⟨g, 0, none⟩) rs.length cap)) :=
        ⟨g, cap, rfl, (((hfin.setOther ⟨w.heap.size + 1, 0, none⟩ (.int .i64 n) hn).setOther ⟨w.heap.size + 1, 1, none⟩ (.slice (some ⟨g, 0, none⟩) rs.length cap) hn).kind fun b _ h => since_le h (by omega)),
          (hb.setCell (by simp) _).setCell (by simp) _⟩
      clear ha hr ha' hr' hfin hn hys ho hb hk hxs hc hsz HRS hbw ht
      go_wp2
      exact bodyPost_ret (v := .agg #[.int .i64 n, .slice (some ⟨g, 0, none⟩) rs.length cap]) (by simp [results, Try.results160, go_sem, r0, r1]) rfl hpost
end

section
open Go.RowKit Go.Sort
set_option linter.unusedVariables false

theorem termF_1 (n : Int) : termF (.mk 1 n [] []) = 153 := rfl
theorem termF_2 (n : Int) (ks : List Tm) : termF (.mk 2 n [] ks) = 158 := rfl
theorem termF_3 (n : Int) (ks : List Tm) : termF (.mk 3 n [] ks) = 164 := rfl
theorem termF_4 (n : Int) (p : List (Int × Int)) : termF (.mk 4 n p []) = 171 := rfl

/-- The four cells of a term of the call's own. -/
theorem own_four {w : World} {o n : Int} {p : List (Int × Int)} {ks : List Tm} {pv kv : Value} {S T : List Nat} (h : Own w S pv (pairMem p)) (k : Own w T kv (tmsMem ks)) (hd : ∀ b ∈ S, b ∉ T) : OwnL w (S ++ (T ++ [])) [.int .i64 o, .int .i64 n, pv, kv] (encT (.mk o n p ks)) :=
  ownL_term (t := .mk o n p ks) h k hd

theorem own_none {w : World} : Own w [] (.slice none 0 0) (pairMem []) := .nil _ _
theorem own_nokids {w : World} : Own w [] (.slice none 0 0) (tmsMem []) := .nil _ _

/-- The result's box gets its four cells. -/
theorem set4_own {w : World} {S : List Nat} {vs : List Value} {ms : List Mem} {R : Nat} (h : OwnL w S vs ms) (hR : ∀ b ∈ S, b ≠ R) (a b c d : Value) :
    OwnL ((((w.setCell ⟨R, 0, none⟩ a).setCell ⟨R, 1, none⟩ b).setCell ⟨R, 2, none⟩ c).setCell ⟨R, 3, none⟩ d) S vs ms :=
  (((h.setOther ⟨R, 0, none⟩ a hR).setOther ⟨R, 1, none⟩ b hR).setOther ⟨R, 2, none⟩ c hR).setOther ⟨R, 3, none⟩ d hR
theorem set4_below {w0 w : World} {B R : Nat} (h : Below B w0 w) (hR : B ≤ R) (a b c d : Value) :
    Below B w0 ((((w.setCell ⟨R, 0, none⟩ a).setCell ⟨R, 1, none⟩ b).setCell ⟨R, 2, none⟩ c).setCell ⟨R, 3, none⟩ d) :=
  (((h.setCell hR _).setCell hR _).setCell hR _).setCell hR _

set_option maxRecDepth 100000 in
theorem term_atom (n : Int) (w : World) : Calls Try.prog 153 #[.agg #[.int .i64 n]] w (TmOut (.mk 1 n [] []) w) := by
  have hpost : TmOut (.mk 1 n [] []) w (.returned (.agg #[.int .i64 1, .int .i64 n, .slice none 0 0, .slice none 0 0])) ((w.alloc (.cells #[.int .i64 n] 91)).alloc (.cells #[.int .i64 1, .int .i64 n, .slice none 0 0, .slice none 0 0] 31)) :=
    ⟨none, 0, none, 0, _, rfl, own_four own_none own_nokids (fun b hb => by simp at hb), fun b hb => by simp at hb, ((Below.refl _ _).alloc (Nat.le_refl _) _).alloc (by simp) _⟩
  go_enter Try.func153, Try.ntmps153
  go_wp2
  exact bodyPost_ret (v := .agg #[.int .i64 1, .int .i64 n, .slice none 0 0, .slice none 0 0]) (by simp [results, Try.results153, go_sem]) rfl hpost

set_option maxRecDepth 100000 in
set_option maxHeartbeats 4000000 in
theorem term_node (n : Int) (b off c : Nat) (xs : List Value) (ks : List Tm) (q : Nat → Prop) (w : World) (hbl : b < w.heap.size) (hc : ∀ j u, xs[j]? = some u → w.cell? ⟨b, off + j, none⟩ = some u) (hxs : FsIn w q xs ks) (hlen : ks.length ≤ 1048576)
    (ih : ∀ i, i < ks.length → ∀ (w' : World) (y : Value), FIn w' q (.iface (fty (tmAt ks i)) y) (tmAt ks i) → Calls Try.prog (termF (tmAt ks i)) #[y] w' (TmOut (tmAt ks i) w')) :
    Calls Try.prog 158 #[.agg #[.int .i64 n, .slice (some ⟨b, off, none⟩) ks.length c]] w (TmOut (.mk 2 n [] ks) w) := by
  obtain ⟨i0, hi0, hz0, hz1, hz2⟩ := info_parts term_infoR
  have HS := Lib.hid hz2
  clear hz2
  have hb0 : Below w.heap.size w ((w.alloc (.cells #[.int .i64 n, .slice (some ⟨b, off, none⟩) ks.length c] 94)).alloc (.cells #[.int .i64 0, .int .i64 0, .slice none 0 0, .slice none 0 0] 31)) := ((Below.refl _ _).alloc (Nat.le_refl _) _).alloc (by simp) _
  go_enter Try.func158, Try.ntmps158
  go_wp2
  go_loopw [3, 10] (fun v i wr => ∃ k : Nat, k ≤ ks.length ∧ i = .int .i64 k ∧ TRow wr (w.heap.size + 2) v k (ks.take k) ∧ Below ((w.alloc (.cells #[.int .i64 n, .slice (some ⟨b, off, none⟩) ks.length c] 94)).alloc (.cells #[.int .i64 0, .int .i64 0, .slice none 0 0, .slice none 0 0] 31)).heap.size ((w.alloc (.cells #[.int .i64 n, .slice (some ⟨b, off, none⟩) ks.length c] 94)).alloc (.cells #[.int .i64 0, .int .i64 0, .slice none 0 0, .slice none 0 0] 31)) wr) (fun _ i _ => ks.length - (intOf i).toNat)
  case atStart =>
    refine ⟨0, Nat.zero_le _, rfl, ⟨w.heap.size + 2, 0, [], [], rfl, ?_, .nil, by simp, by simp⟩, (Below.refl _ _).alloc (Nat.le_refl _) _⟩
    have h9 := World.ownsRow_lit (base := ((w.alloc (.cells #[.int .i64 n, .slice (some ⟨b, off, none⟩) ks.length c] 94)).alloc (.cells #[.int .i64 0, .int .i64 0, .slice none 0 0, .slice none 0 0] 31)).heap.size) (e := 31) (size := 4) ((w.alloc (.cells #[.int .i64 n, .slice (some ⟨b, off, none⟩) ks.length c] 94)).alloc (.cells #[.int .i64 0, .int .i64 0, .slice none 0 0, .slice none 0 0] 31)) #[] 0 (Nat.le_refl _) (by decide) rfl
    rw [World.size_alloc, World.size_alloc] at h9
    exact h9
  case round =>
    obtain ⟨k, hk', rfl, ⟨g, cap, ys, S, rfl, ho, hys, hgS, hSB⟩, hbw⟩ := hrel
    have hb := hb0.trans (hbw.mono hb0.size)
    by_cases hlt : k < ks.length
    · obtain ⟨u, hu, hfu⟩ := hxs.get k hlt
      obtain ⟨fx, rfl⟩ := hfu.iface
      have d0 := (hb.cell (p := ⟨b, off + k, none⟩) hbl).trans (hc k _ hu)
      have hct := ih k hlt wr fx (hfu.keep hb)
      have hnx := Lib.hid (tm_take_next hlt)
      have hm := askTerm (tmAt ks k)
      have hn := enterTerm (tmAt ks k)
      have hbws := hbw.size
      generalize termF (tmAt ks k) = F at hm hn hct
      generalize fty (tmAt ks k) = T at hm hfu hu d0
      generalize tmAt ks k = r at hct hnx
      clear hu hfu hb ih hxs hc
      go_wp2_with fail
      refine hct.mono ?_
      rintro e w2 ⟨A1, c1, A2, c2, T1, rfl, hT1, hTC, hb2⟩
      have hb3 : Below w2.heap.size w2 (w2.alloc (.cells #[.int .i64 r.op, .int .i64 r.num, .slice A1 r.perm.length c1, .slice A2 r.kids.length c2] 31)) := (Below.refl _ _).alloc (Nat.le_refl _) _
      have hb13 := hb2.trans (hb3.mono hb2.size)
      have ho3 := own_below (own_below ho hb2) hb3
      have hbr3 := (hbw.trans (hb2.mono hbw.size)).trans (hb3.mono (Nat.le_trans hbw.size hb2.size))
      obtain ⟨e0, e1, e2, e3⟩ := box4 (Below.refl _ (w2.alloc (.cells #[.int .i64 r.op, .int .i64 r.num, .slice A1 r.perm.length c1, .slice A2 r.kids.length c2] 31)))
      have HC := Lib.hid (four_cells e0 e1 e2 e3)
      have HF1 := Lib.hid (four_one r.op r.num A1 A2 r.perm.length c1 r.kids.length c2)
      have hsz3 := hbr3.size
      have HR : Hid (∀ g1 cap1 w4, w4.ownsRow (w.heap.size + 2) 31 4 (.slice (some ⟨g1, 0, none⟩) (k + 1) cap1) (k + 1) (ys ++ [.int .i64 r.op, .int .i64 r.num, .slice A1 r.perm.length c1, .slice A2 r.kids.length c2]) → (w2.alloc (.cells #[.int .i64 r.op, .int .i64 r.num, .slice A1 r.perm.length c1, .slice A2 r.kids.length c2] 31)).grownBy w4 (some g) → (some g = some g1 ∨ g1 = (w2.alloc (.cells #[.int .i64 r.op, .int .i64 r.num, .slice A1 r.perm.length c1, .slice A2 r.kids.length c2] 31)).heap.size) → TRow w4 (w.heap.size + 2) (.slice (some ⟨g1, 0, none⟩) (k + 1) cap1) (k + 1) (ks.take k ++ [r])) :=
        Lib.hid (fun g1 cap1 w4 h1 h2 h3 => trow_next (Nat.le_refl _) ho hys hgS hSB hb13 hT1 hTC hb3 h1 h2 h3)
      have hsz4 : w.heap.size + 2 ≤ (w2.alloc (.cells #[.int .i64 r.op, .int .i64 r.num, .slice A1 r.perm.length c1, .slice A2 r.kids.length c2] 31)).heap.size := by
        have := hb13.size; have := (ho.lt g rfl).2; have := (ho.lt g rfl).1; omega
      clear e0 e1 e2 e3 ho hys hgS hSB hb2 hb3 hb13 hT1 hTC hct hbw d0
      generalize hH : (w2.alloc (.cells #[.int .i64 r.op, .int .i64 r.num, .slice A1 r.perm.length c1, .slice A2 r.kids.length c2] 31)).heap.size = H at hsz4
      have HH := Lib.hid hH
      clear hH
      go_wp2_with (at_builtin; refine wpList_append_lies _ rfl (.tmp 14) (.tmp 17) 29 rfl (w.heap.size + 2) 31 i0 (.agg #[.int .i64 0, .int .i64 0, .slice none 0 0, .slice none 0 0]) 4 64 Try.underlying29 hi0 hz0 hz1 HS.out rfl (by decide) _ k _ rfl ho3 ⟨w2.heap.size, 0, none⟩ 1 1 [.int .i64 r.op, .int .i64 r.num, .slice A1 r.perm.length c1, .slice A2 r.kids.length c2] rfl rfl HC.out HF1.out (by decide) ?c3 ?c4 ?c5 H HH.out ?_)
      case c3 => unfold maxLen; omega
      case c4 => omega
      case c5 => rw [HH.out]; exact hsz4
      intro g1 cap1 w4 ho4 hg4 hcase _
      rw [← HH.out] at hcase
      have hrow := HR.out g1 cap1 w4 ho4 hg4 hcase
      rw [← hnx.out] at hrow
      have hb4 := below_own hbr3 ho3 (by rw [World.size_alloc, World.size_alloc]; omega) hsz3 hg4
      clear ho4 hg4 hcase HR ho3 hbr3 HC HF1 hsz3 hsz4 HH hnx
      go_wp2
      refine ⟨⟨k + 1, by omega, by go_num, hrow, hb4⟩, ?_⟩
      simp only [intOf]
      omega
    · have e : k = ks.length := by omega
      subst e
      rw [List.take_length] at hys
      have ht := ho.lt g rfl
      have hr := heap_alloc_new (w.alloc (.cells #[.int .i64 n, .slice (some ⟨b, off, none⟩) ks.length c] 94)) (.cells #[.int .i64 0, .int .i64 0, .slice none 0 0, .slice none 0 0] 31)
      rw [World.size_alloc] at hr
      have ha : ((w.alloc (.cells #[.int .i64 n, .slice (some ⟨b, off, none⟩) ks.length c] 94)).alloc (.cells #[.int .i64 0, .int .i64 0, .slice none 0 0, .slice none 0 0] 31)).heap[w.heap.size]? = some (.cells #[.int .i64 n, .slice (some ⟨b, off, none⟩) ks.length c] 94) := (Below.heap_alloc _ _ _ (by simp)).trans (heap_alloc_new w (.cells #[.int .i64 n, .slice (some ⟨b, off, none⟩) ks.length c] 94))
      have hsz : ((w.alloc (.cells #[.int .i64 n, .slice (some ⟨b, off, none⟩) ks.length c] 94)).alloc (.cells #[.int .i64 0, .int .i64 0, .slice none 0 0, .slice none 0 0] 31)).heap.size = w.heap.size + 2 := by simp
      have ha' := (hbw.block w.heap.size (by rw [hsz]; omega)).trans ha
      have hr' := (hbw.block (w.heap.size + 1) (by rw [hsz]; omega)).trans hr
      have c0 : wr.cell? ⟨w.heap.size, 0, none⟩ = some (.int .i64 n) := by rw [cell_of_row wr w.heap.size 0 _ _ _ ha']; rfl
      have r0 : wr.cell? ⟨w.heap.size + 1, 0, none⟩ = some (.int .i64 0) := by rw [cell_of_row wr (w.heap.size + 1) 0 _ _ _ hr']; rfl
      have r1 : wr.cell? ⟨w.heap.size + 1, 1, none⟩ = some (.int .i64 0) := by rw [cell_of_row wr (w.heap.size + 1) 1 _ _ _ hr']; rfl
      have r2 : wr.cell? ⟨w.heap.size + 1, 2, none⟩ = some (.slice none 0 0) := by rw [cell_of_row wr (w.heap.size + 1) 2 _ _ _ hr']; rfl
      have r3 : wr.cell? ⟨w.heap.size + 1, 3, none⟩ = some (.slice none 0 0) := by rw [cell_of_row wr (w.heap.size + 1) 3 _ _ _ hr']; rfl
      have z0 : wr.frozen? ⟨w.heap.size + 1, 0, none⟩ = false := frozen_of_row wr (w.heap.size + 1) 0 _ _ hr'
      have z1 : wr.frozen? ⟨w.heap.size + 1, 1, none⟩ = false := frozen_of_row wr (w.heap.size + 1) 1 _ _ hr'
      have z2 : wr.frozen? ⟨w.heap.size + 1, 2, none⟩ = false := frozen_of_row wr (w.heap.size + 1) 2 _ _ hr'
      have z3 : wr.frozen? ⟨w.heap.size + 1, 3, none⟩ = false := frozen_of_row wr (w.heap.size + 1) 3 _ _ hr'
      have hk4 := own_of_terms (ts := ks) rfl (own_le ho (Nat.zero_le _)) hys hgS
      have hL := own_four (o := 2) (n := n) own_none hk4 (fun b hb => by simp at hb)
      have hLb : ∀ b ∈ [] ++ ((g :: S) ++ []), w.heap.size + 2 ≤ b := fun b hb => by
        simp only [List.nil_append, List.append_nil, List.mem_cons] at hb
        rcases hb with rfl | hb
        · exact ht.1
        · exact hSB b hb
      have hpost : TmOut (.mk 2 n [] ks) w (.returned (.agg #[.int .i64 2, .int .i64 n, .slice none 0 0, .slice (some ⟨g, 0, none⟩) ks.length cap])) ((((wr.setCell ⟨w.heap.size + 1, 0, none⟩ (.int .i64 2)).setCell ⟨w.heap.size + 1, 1, none⟩ (.int .i64 n)).setCell ⟨w.heap.size + 1, 2, none⟩ (.slice none 0 0)).setCell ⟨w.heap.size + 1, 3, none⟩ (.slice (some ⟨g, 0, none⟩) ks.length cap)) :=
        ⟨none, 0, some ⟨g, 0, none⟩, cap, _, rfl, set4_own hL (fun b hb => by have := hLb b hb; omega) _ _ _ _, fun b hb => by have := hLb b hb; omega, set4_below hb (by omega) _ _ _ _⟩
      clear ha hr ha' hr' hk4 hL hLb hys ho hb ih hxs hc hsz hbw ht hgS hSB
      go_wp2
      exact bodyPost_ret (v := .agg #[.int .i64 2, .int .i64 n, .slice none 0 0, .slice (some ⟨g, 0, none⟩) ks.length cap]) (by simp [results, Try.results158, go_sem, r0, r1, r2, r3]) rfl hpost

theorem box_row {w w1 : World} {a : Obj} {o0 o1 o2 o3 : Value} {T : TypeId} (hb : Below ((w.alloc a).alloc (.cells #[o0, o1, o2, o3] T)).heap.size ((w.alloc a).alloc (.cells #[o0, o1, o2, o3] T)) w1) : w1.heap[w.heap.size + 1]? = some (.cells #[o0, o1, o2, o3] T) ∧ w1.heap[w.heap.size]? = some a := by
  have hr := heap_alloc_new (w.alloc a) (.cells #[o0, o1, o2, o3] T)
  rw [World.size_alloc] at hr
  have hsz : ((w.alloc a).alloc (.cells #[o0, o1, o2, o3] T)).heap.size = w.heap.size + 2 := by simp
  have ha : ((w.alloc a).alloc (.cells #[o0, o1, o2, o3] T)).heap[w.heap.size]? = some a := (Below.heap_alloc _ _ _ (by simp)).trans (heap_alloc_new w a)
  exact ⟨(hb.block (w.heap.size + 1) (by rw [hsz]; omega)).trans hr, (hb.block w.heap.size (by rw [hsz]; omega)).trans ha⟩

set_option maxRecDepth 100000 in
set_option maxHeartbeats 4000000 in
theorem term_bind (n : Int) (fx : Value) (k : Tm) (w : World)
    (ih : ∀ w' : World, Below w.heap.size w w' → Calls Try.prog (termF k) #[fx] w' (TmOut k w')) :
    Calls Try.prog 164 #[.agg #[.int .i64 n, .iface (fty k) fx]] w (TmOut (.mk 3 n [] [k]) w) := by
  have hm := askTerm k
  have hn := enterTerm k
  generalize termF k = F at hm hn ih
  generalize fty k = T at *
  have hb0 : Below w.heap.size w ((w.alloc (.cells #[.int .i64 n, .iface T fx] 96)).alloc (.cells #[.int .i64 0, .int .i64 0, .slice none 0 0, .slice none 0 0] 31)) := ((Below.refl _ _).alloc (Nat.le_refl _) _).alloc (by simp) _
  have hdw : Below ((w.alloc (.cells #[.int .i64 n, .iface T fx] 96)).alloc (.cells #[.int .i64 0, .int .i64 0, .slice none 0 0, .slice none 0 0] 31)).heap.size ((w.alloc (.cells #[.int .i64 n, .iface T fx] 96)).alloc (.cells #[.int .i64 0, .int .i64 0, .slice none 0 0, .slice none 0 0] 31)) ((w.alloc (.cells #[.int .i64 n, .iface T fx] 96)).alloc (.cells #[.int .i64 0, .int .i64 0, .slice none 0 0, .slice none 0 0] 31)).drew := ⟨rfl, rfl, rfl, Nat.le_refl _, fun _ _ => rfl⟩
  have hbd := hb0.trans (hdw.mono hb0.size)
  have hct := ih _ hbd
  obtain ⟨hr', ha'⟩ := box_row hdw
  have b0 : ((w.alloc (.cells #[.int .i64 n, .iface T fx] 96)).alloc (.cells #[.int .i64 0, .int .i64 0, .slice none 0 0, .slice none 0 0] 31)).drew.cell? ⟨w.heap.size, 0, none⟩ = some (.int .i64 n) := by rw [cell_of_row _ w.heap.size 0 _ _ _ ha']; rfl
  have b1 : ((w.alloc (.cells #[.int .i64 n, .iface T fx] 96)).alloc (.cells #[.int .i64 0, .int .i64 0, .slice none 0 0, .slice none 0 0] 31)).drew.cell? ⟨w.heap.size, 1, none⟩ = some (.iface T fx) := by rw [cell_of_row _ w.heap.size 1 _ _ _ ha']; rfl
  have r0 : ((w.alloc (.cells #[.int .i64 n, .iface T fx] 96)).alloc (.cells #[.int .i64 0, .int .i64 0, .slice none 0 0, .slice none 0 0] 31)).drew.cell? ⟨w.heap.size + 1, 0, none⟩ = some (.int .i64 0) := by rw [cell_of_row _ (w.heap.size + 1) 0 _ _ _ hr']; rfl
  have r1 : ((w.alloc (.cells #[.int .i64 n, .iface T fx] 96)).alloc (.cells #[.int .i64 0, .int .i64 0, .slice none 0 0, .slice none 0 0] 31)).drew.cell? ⟨w.heap.size + 1, 1, none⟩ = some (.int .i64 0) := by rw [cell_of_row _ (w.heap.size + 1) 1 _ _ _ hr']; rfl
  have r2 : ((w.alloc (.cells #[.int .i64 n, .iface T fx] 96)).alloc (.cells #[.int .i64 0, .int .i64 0, .slice none 0 0, .slice none 0 0] 31)).drew.cell? ⟨w.heap.size + 1, 2, none⟩ = some (.slice none 0 0) := by rw [cell_of_row _ (w.heap.size + 1) 2 _ _ _ hr']; rfl
  have r3 : ((w.alloc (.cells #[.int .i64 n, .iface T fx] 96)).alloc (.cells #[.int .i64 0, .int .i64 0, .slice none 0 0, .slice none 0 0] 31)).drew.cell? ⟨w.heap.size + 1, 3, none⟩ = some (.slice none 0 0) := by rw [cell_of_row _ (w.heap.size + 1) 3 _ _ _ hr']; rfl
  have z0 : ((w.alloc (.cells #[.int .i64 n, .iface T fx] 96)).alloc (.cells #[.int .i64 0, .int .i64 0, .slice none 0 0, .slice none 0 0] 31)).drew.frozen? ⟨w.heap.size + 1, 0, none⟩ = false := frozen_of_row _ (w.heap.size + 1) 0 _ _ hr'
  have z1 : ((w.alloc (.cells #[.int .i64 n, .iface T fx] 96)).alloc (.cells #[.int .i64 0, .int .i64 0, .slice none 0 0, .slice none 0 0] 31)).drew.frozen? ⟨w.heap.size + 1, 1, none⟩ = false := frozen_of_row _ (w.heap.size + 1) 1 _ _ hr'
  have z2 : ((w.alloc (.cells #[.int .i64 n, .iface T fx] 96)).alloc (.cells #[.int .i64 0, .int .i64 0, .slice none 0 0, .slice none 0 0] 31)).drew.frozen? ⟨w.heap.size + 1, 2, none⟩ = false := frozen_of_row _ (w.heap.size + 1) 2 _ _ hr'
  have z3 : ((w.alloc (.cells #[.int .i64 n, .iface T fx] 96)).alloc (.cells #[.int .i64 0, .int .i64 0, .slice none 0 0, .slice none 0 0] 31)).drew.frozen? ⟨w.heap.size + 1, 3, none⟩ = false := frozen_of_row _ (w.heap.size + 1) 3 _ _ hr'
  have hsz1 : w.heap.size + 1 < ((w.alloc (.cells #[.int .i64 n, .iface T fx] 96)).alloc (.cells #[.int .i64 0, .int .i64 0, .slice none 0 0, .slice none 0 0] 31)).drew.heap.size := by
    have := hdw.size
    rw [World.size_alloc, World.size_alloc] at this
    omega
  have hsz : w.heap.size < ((w.alloc (.cells #[.int .i64 n, .iface T fx] 96)).alloc (.cells #[.int .i64 0, .int .i64 0, .slice none 0 0, .slice none 0 0] 31)).drew.heap.size := by omega
  have HB := Lib.hid hbd
  clear ih hr' ha' hb0 hdw hbd
  go_enter Try.func164, Try.ntmps164
  go_wp2
  go_region_held3 (fun w' => w'.cell? ⟨w.heap.size, 0, none⟩ = some (.int .i64 n) ∧ w'.cell? ⟨w.heap.size, 1, none⟩ = some (.iface T fx))
    (first | ((try dsimp only); (with_reducible exact ⟨by assumption, by assumption⟩)) | go_keep)
    ((refine hct.mono ?_; rintro e w2 ⟨A1, c1, A2, c2, T1, rfl, hT1, hTC, hb2⟩; have hlt2 := Nat.lt_of_lt_of_le hsz1 hb2.size; have hne2 : w.heap.size + 1 ≠ w2.heap.size := Nat.ne_of_lt hlt2; have hne1 : w.heap.size ≠ w2.heap.size := Nat.ne_of_lt (Nat.lt_of_succ_lt hlt2); have b0' := (hb2.cell (p := ⟨w.heap.size, 0, none⟩) hsz).trans b0; have b1' := (hb2.cell (p := ⟨w.heap.size, 1, none⟩) hsz).trans b1; have r0' := (hb2.cell (p := ⟨w.heap.size + 1, 0, none⟩) hsz1).trans r0; have r1' := (hb2.cell (p := ⟨w.heap.size + 1, 1, none⟩) hsz1).trans r1; have r2' := (hb2.cell (p := ⟨w.heap.size + 1, 2, none⟩) hsz1).trans r2; have r3' := (hb2.cell (p := ⟨w.heap.size + 1, 3, none⟩) hsz1).trans r3; have z0' := (hb2.frozen (p := ⟨w.heap.size + 1, 0, none⟩) hsz1).trans z0; have z1' := (hb2.frozen (p := ⟨w.heap.size + 1, 1, none⟩) hsz1).trans z1; have z2' := (hb2.frozen (p := ⟨w.heap.size + 1, 2, none⟩) hsz1).trans z2; have z3' := (hb2.frozen (p := ⟨w.heap.size + 1, 3, none⟩) hsz1).trans z3))
  have hs1 := HB.out.size
  have hTb : ∀ b ∈ T1, w.heap.size + 2 ≤ b := fun b hb => by
    have h1 := hTC b hb
    omega
  have hpost : TmOut (.mk 3 n [] [k]) w (.returned (.agg #[.int .i64 3, .int .i64 n, .slice none 0 0, .slice (some ⟨w2.heap.size, 0, none⟩) 1 1])) (((((w2.setCell ⟨w.heap.size + 1, 0, none⟩ (.int .i64 3)).setCell ⟨w.heap.size + 1, 1, none⟩ (.int .i64 n)).setCell ⟨w.heap.size + 1, 2, none⟩ (.slice none 0 0)).setCell ⟨w.heap.size + 1, 3, none⟩ (.slice (some ⟨w2.heap.size, 0, none⟩) 1 1)).alloc (.cells #[.int .i64 k.op, .int .i64 k.num, .slice A1 k.perm.length c1, .slice A2 k.kids.length c2] 31)) := by
    have hTl : ∀ b ∈ T1, b < w2.heap.size := fun b hb => hT1.lt b hb
    have hL4 : OwnL ((((w2.setCell ⟨w.heap.size + 1, 0, none⟩ (.int .i64 3)).setCell ⟨w.heap.size + 1, 1, none⟩ (.int .i64 n)).setCell ⟨w.heap.size + 1, 2, none⟩ (.slice none 0 0)).setCell ⟨w.heap.size + 1, 3, none⟩ (.slice (some ⟨w2.heap.size, 0, none⟩) 1 1)) T1 [.int .i64 k.op, .int .i64 k.num, .slice A1 k.perm.length c1, .slice A2 k.kids.length c2] (encT k) := set4_own hT1 (fun b hb => by have := hTb b hb; omega) _ _ _ _
    have hsz4 : ((((w2.setCell ⟨w.heap.size + 1, 0, none⟩ (.int .i64 3)).setCell ⟨w.heap.size + 1, 1, none⟩ (.int .i64 n)).setCell ⟨w.heap.size + 1, 2, none⟩ (.slice none 0 0)).setCell ⟨w.heap.size + 1, 3, none⟩ (.slice (some ⟨w2.heap.size, 0, none⟩) 1 1)).heap.size = w2.heap.size := by simp
    have hL5 := hL4.alike (w' := ((((w2.setCell ⟨w.heap.size + 1, 0, none⟩ (.int .i64 3)).setCell ⟨w.heap.size + 1, 1, none⟩ (.int .i64 n)).setCell ⟨w.heap.size + 1, 2, none⟩ (.slice none 0 0)).setCell ⟨w.heap.size + 1, 3, none⟩ (.slice (some ⟨w2.heap.size, 0, none⟩) 1 1)).alloc (.cells #[.int .i64 k.op, .int .i64 k.num, .slice A1 k.perm.length c1, .slice A2 k.kids.length c2] 31)) (fun b hb => Below.heap_alloc _ _ _ (by rw [hsz4]; exact hTl b hb))
    have h9 := World.ownsRow_lit (base := 0) (e := 31) (size := 4) ((((w2.setCell ⟨w.heap.size + 1, 0, none⟩ (.int .i64 3)).setCell ⟨w.heap.size + 1, 1, none⟩ (.int .i64 n)).setCell ⟨w.heap.size + 1, 2, none⟩ (.slice none 0 0)).setCell ⟨w.heap.size + 1, 3, none⟩ (.slice (some ⟨w2.heap.size, 0, none⟩) 1 1)) #[.int .i64 k.op, .int .i64 k.num, .slice A1 k.perm.length c1, .slice A2 k.kids.length c2] 1 (Nat.zero_le _) (by decide) rfl
    rw [hsz4] at h9
    have hk4 := own_of_terms (ts := [k]) rfl h9 (by rw [encTs, encTs, List.append_nil]; exact hL5) (fun hm => by have := hTl _ hm; omega)
    have hL := own_four (o := 3) (n := n) own_none hk4 (fun b hb => by simp at hb)
    have hbel := set4_below (HB.out.trans (hb2.mono hs1)) (show w.heap.size ≤ w.heap.size + 1 by omega) (.int .i64 3) (.int .i64 n) (.slice none 0 0) (.slice (some ⟨w2.heap.size, 0, none⟩) 1 1)
    refine ⟨none, 0, some ⟨w2.heap.size, 0, none⟩, 1, _, rfl, hL, fun b hb => ?_, hbel.alloc hbel.size _⟩
    simp only [List.nil_append, List.append_nil, List.mem_cons] at hb
    rcases hb with rfl | hb
    · omega
    · have := hTb b hb; omega
  have hsz4 : ((((w2.setCell ⟨w.heap.size + 1, 0, none⟩ (.int .i64 3)).setCell ⟨w.heap.size + 1, 1, none⟩ (.int .i64 n)).setCell ⟨w.heap.size + 1, 2, none⟩ (.slice none 0 0)).setCell ⟨w.heap.size + 1, 3, none⟩ (.slice (some ⟨w2.heap.size, 0, none⟩) 1 1)).heap.size = w2.heap.size := by simp
  have hbx : Below ((((w2.setCell ⟨w.heap.size + 1, 0, none⟩ (.int .i64 3)).setCell ⟨w.heap.size + 1, 1, none⟩ (.int .i64 n)).setCell ⟨w.heap.size + 1, 2, none⟩ (.slice none 0 0)).setCell ⟨w.heap.size + 1, 3, none⟩ (.slice (some ⟨w2.heap.size, 0, none⟩) 1 1)).heap.size ((((w2.setCell ⟨w.heap.size + 1, 0, none⟩ (.int .i64 3)).setCell ⟨w.heap.size + 1, 1, none⟩ (.int .i64 n)).setCell ⟨w.heap.size + 1, 2, none⟩ (.slice none 0 0)).setCell ⟨w.heap.size + 1, 3, none⟩ (.slice (some ⟨w2.heap.size, 0, none⟩) 1 1)) (((((w2.setCell ⟨w.heap.size + 1, 0, none⟩ (.int .i64 3)).setCell ⟨w.heap.size + 1, 1, none⟩ (.int .i64 n)).setCell ⟨w.heap.size + 1, 2, none⟩ (.slice none 0 0)).setCell ⟨w.heap.size + 1, 3, none⟩ (.slice (some ⟨w2.heap.size, 0, none⟩) 1 1)).alloc (.cells #[.int .i64 k.op, .int .i64 k.num, .slice A1 k.perm.length c1, .slice A2 k.kids.length c2] 31)) := (Below.refl _ _).alloc (Nat.le_refl _) _
  have f0 : (((((w2.setCell ⟨w.heap.size + 1, 0, none⟩ (.int .i64 3)).setCell ⟨w.heap.size + 1, 1, none⟩ (.int .i64 n)).setCell ⟨w.heap.size + 1, 2, none⟩ (.slice none 0 0)).setCell ⟨w.heap.size + 1, 3, none⟩ (.slice (some ⟨w2.heap.size, 0, none⟩) 1 1)).alloc (.cells #[.int .i64 k.op, .int .i64 k.num, .slice A1 k.perm.length c1, .slice A2 k.kids.length c2] 31)).cell? ⟨w.heap.size + 1, 0, none⟩ = some (.int .i64 3) := (hbx.cell (p := ⟨w.heap.size + 1, 0, none⟩) (by rw [hsz4]; exact hlt2)).trans (by simp [go_sem, r0'])
  have f1 : (((((w2.setCell ⟨w.heap.size + 1, 0, none⟩ (.int .i64 3)).setCell ⟨w.heap.size + 1, 1, none⟩ (.int .i64 n)).setCell ⟨w.heap.size + 1, 2, none⟩ (.slice none 0 0)).setCell ⟨w.heap.size + 1, 3, none⟩ (.slice (some ⟨w2.heap.size, 0, none⟩) 1 1)).alloc (.cells #[.int .i64 k.op, .int .i64 k.num, .slice A1 k.perm.length c1, .slice A2 k.kids.length c2] 31)).cell? ⟨w.heap.size + 1, 1, none⟩ = some (.int .i64 n) := (hbx.cell (p := ⟨w.heap.size + 1, 1, none⟩) (by rw [hsz4]; exact hlt2)).trans (by simp [go_sem, r1'])
  have f2 : (((((w2.setCell ⟨w.heap.size + 1, 0, none⟩ (.int .i64 3)).setCell ⟨w.heap.size + 1, 1, none⟩ (.int .i64 n)).setCell ⟨w.heap.size + 1, 2, none⟩ (.slice none 0 0)).setCell ⟨w.heap.size + 1, 3, none⟩ (.slice (some ⟨w2.heap.size, 0, none⟩) 1 1)).alloc (.cells #[.int .i64 k.op, .int .i64 k.num, .slice A1 k.perm.length c1, .slice A2 k.kids.length c2] 31)).cell? ⟨w.heap.size + 1, 2, none⟩ = some (.slice none 0 0) := (hbx.cell (p := ⟨w.heap.size + 1, 2, none⟩) (by rw [hsz4]; exact hlt2)).trans (by simp [go_sem, r2'])
  have f3 : (((((w2.setCell ⟨w.heap.size + 1, 0, none⟩ (.int .i64 3)).setCell ⟨w.heap.size + 1, 1, none⟩ (.int .i64 n)).setCell ⟨w.heap.size + 1, 2, none⟩ (.slice none 0 0)).setCell ⟨w.heap.size + 1, 3, none⟩ (.slice (some ⟨w2.heap.size, 0, none⟩) 1 1)).alloc (.cells #[.int .i64 k.op, .int .i64 k.num, .slice A1 k.perm.length c1, .slice A2 k.kids.length c2] 31)).cell? ⟨w.heap.size + 1, 3, none⟩ = some (.slice (some ⟨w2.heap.size, 0, none⟩) 1 1) := (hbx.cell (p := ⟨w.heap.size + 1, 3, none⟩) (by rw [hsz4]; exact hlt2)).trans (by simp [go_sem, r3'])
  clear hsz4 hbx hT1 hTC hb2 HB hTb hs1 hm hn hct b0 b1 r0 r1 r2 r3 z0 z1 z2 z3
  go_wp2
  exact bodyPost_ret (v := .agg #[.int .i64 3, .int .i64 n, .slice none 0 0, .slice (some ⟨w2.heap.size, 0, none⟩) 1 1]) (by simp [results, Try.results164, go_sem, f0, f1, f2, f3]) rfl hpost

set_option maxRecDepth 100000 in
set_option maxHeartbeats 4000000 in
theorem term_hole (n : Int) (A : Option Addr) (c : Nat) (p : List (Int × Int)) (w : World) (hp : PairsAt w A p) (hl : p.length ≤ 1048576) :
    Calls Try.prog 171 #[.agg #[.int .i64 n, .slice A p.length c]] w (TmOut (.mk 4 n p []) w) := by
  have hb0 : Below w.heap.size w ((w.alloc (.cells #[.int .i64 n, .slice A p.length c] 98)).alloc (.cells #[.int .i64 0, .int .i64 0, .slice none 0 0, .slice none 0 0] 31)) := ((Below.refl _ _).alloc (Nat.le_refl _) _).alloc (by simp) _
  have hdw : Below ((w.alloc (.cells #[.int .i64 n, .slice A p.length c] 98)).alloc (.cells #[.int .i64 0, .int .i64 0, .slice none 0 0, .slice none 0 0] 31)).heap.size ((w.alloc (.cells #[.int .i64 n, .slice A p.length c] 98)).alloc (.cells #[.int .i64 0, .int .i64 0, .slice none 0 0, .slice none 0 0] 31)) ((w.alloc (.cells #[.int .i64 n, .slice A p.length c] 98)).alloc (.cells #[.int .i64 0, .int .i64 0, .slice none 0 0, .slice none 0 0] 31)).drew := ⟨rfl, rfl, rfl, Nat.le_refl _, fun _ _ => rfl⟩
  have hbd := hb0.trans (hdw.mono hb0.size)
  have hct := clone_any A c p _ (hp.below hbd) hl
  obtain ⟨hr', ha'⟩ := box_row hdw
  have b0 : ((w.alloc (.cells #[.int .i64 n, .slice A p.length c] 98)).alloc (.cells #[.int .i64 0, .int .i64 0, .slice none 0 0, .slice none 0 0] 31)).drew.cell? ⟨w.heap.size, 0, none⟩ = some (.int .i64 n) := by rw [cell_of_row _ w.heap.size 0 _ _ _ ha']; rfl
  have b1 : ((w.alloc (.cells #[.int .i64 n, .slice A p.length c] 98)).alloc (.cells #[.int .i64 0, .int .i64 0, .slice none 0 0, .slice none 0 0] 31)).drew.cell? ⟨w.heap.size, 1, none⟩ = some (.slice A p.length c) := by rw [cell_of_row _ w.heap.size 1 _ _ _ ha']; rfl
  have r0 : ((w.alloc (.cells #[.int .i64 n, .slice A p.length c] 98)).alloc (.cells #[.int .i64 0, .int .i64 0, .slice none 0 0, .slice none 0 0] 31)).drew.cell? ⟨w.heap.size + 1, 0, none⟩ = some (.int .i64 0) := by rw [cell_of_row _ (w.heap.size + 1) 0 _ _ _ hr']; rfl
  have r1 : ((w.alloc (.cells #[.int .i64 n, .slice A p.length c] 98)).alloc (.cells #[.int .i64 0, .int .i64 0, .slice none 0 0, .slice none 0 0] 31)).drew.cell? ⟨w.heap.size + 1, 1, none⟩ = some (.int .i64 0) := by rw [cell_of_row _ (w.heap.size + 1) 1 _ _ _ hr']; rfl
  have r2 : ((w.alloc (.cells #[.int .i64 n, .slice A p.length c] 98)).alloc (.cells #[.int .i64 0, .int .i64 0, .slice none 0 0, .slice none 0 0] 31)).drew.cell? ⟨w.heap.size + 1, 2, none⟩ = some (.slice none 0 0) := by rw [cell_of_row _ (w.heap.size + 1) 2 _ _ _ hr']; rfl
  have r3 : ((w.alloc (.cells #[.int .i64 n, .slice A p.length c] 98)).alloc (.cells #[.int .i64 0, .int .i64 0, .slice none 0 0, .slice none 0 0] 31)).drew.cell? ⟨w.heap.size + 1, 3, none⟩ = some (.slice none 0 0) := by rw [cell_of_row _ (w.heap.size + 1) 3 _ _ _ hr']; rfl
  have z0 : ((w.alloc (.cells #[.int .i64 n, .slice A p.length c] 98)).alloc (.cells #[.int .i64 0, .int .i64 0, .slice none 0 0, .slice none 0 0] 31)).drew.frozen? ⟨w.heap.size + 1, 0, none⟩ = false := frozen_of_row _ (w.heap.size + 1) 0 _ _ hr'
  have z1 : ((w.alloc (.cells #[.int .i64 n, .slice A p.length c] 98)).alloc (.cells #[.int .i64 0, .int .i64 0, .slice none 0 0, .slice none 0 0] 31)).drew.frozen? ⟨w.heap.size + 1, 1, none⟩ = false := frozen_of_row _ (w.heap.size + 1) 1 _ _ hr'
  have z2 : ((w.alloc (.cells #[.int .i64 n, .slice A p.length c] 98)).alloc (.cells #[.int .i64 0, .int .i64 0, .slice none 0 0, .slice none 0 0] 31)).drew.frozen? ⟨w.heap.size + 1, 2, none⟩ = false := frozen_of_row _ (w.heap.size + 1) 2 _ _ hr'
  have z3 : ((w.alloc (.cells #[.int .i64 n, .slice A p.length c] 98)).alloc (.cells #[.int .i64 0, .int .i64 0, .slice none 0 0, .slice none 0 0] 31)).drew.frozen? ⟨w.heap.size + 1, 3, none⟩ = false := frozen_of_row _ (w.heap.size + 1) 3 _ _ hr'
  have hsz1 : w.heap.size + 1 < ((w.alloc (.cells #[.int .i64 n, .slice A p.length c] 98)).alloc (.cells #[.int .i64 0, .int .i64 0, .slice none 0 0, .slice none 0 0] 31)).drew.heap.size := by
    have := hdw.size
    rw [World.size_alloc, World.size_alloc] at this
    omega
  have hsz : w.heap.size < ((w.alloc (.cells #[.int .i64 n, .slice A p.length c] 98)).alloc (.cells #[.int .i64 0, .int .i64 0, .slice none 0 0, .slice none 0 0] 31)).drew.heap.size := by omega
  have HB := Lib.hid hbd
  clear hr' ha' hb0 hdw hbd hp
  go_enter Try.func171, Try.ntmps171
  go_wp2
  go_region_held3 (fun w' => w'.cell? ⟨w.heap.size, 0, none⟩ = some (.int .i64 n) ∧ w'.cell? ⟨w.heap.size, 1, none⟩ = some (.slice A p.length c))
    (first | ((try dsimp only); (with_reducible exact ⟨by assumption, by assumption⟩)) | go_keep)
    ((refine hct.mono ?_; rintro e w2 ⟨A1, c1, rfl, hown, hb2⟩; have hlt2 := Nat.lt_of_lt_of_le hsz1 hb2.size; have b0' := (hb2.cell (p := ⟨w.heap.size, 0, none⟩) hsz).trans b0; have b1' := (hb2.cell (p := ⟨w.heap.size, 1, none⟩) hsz).trans b1; have r0' := (hb2.cell (p := ⟨w.heap.size + 1, 0, none⟩) hsz1).trans r0; have r1' := (hb2.cell (p := ⟨w.heap.size + 1, 1, none⟩) hsz1).trans r1; have r2' := (hb2.cell (p := ⟨w.heap.size + 1, 2, none⟩) hsz1).trans r2; have r3' := (hb2.cell (p := ⟨w.heap.size + 1, 3, none⟩) hsz1).trans r3; have z0' := (hb2.frozen (p := ⟨w.heap.size + 1, 0, none⟩) hsz1).trans z0; have z1' := (hb2.frozen (p := ⟨w.heap.size + 1, 1, none⟩) hsz1).trans z1; have z2' := (hb2.frozen (p := ⟨w.heap.size + 1, 2, none⟩) hsz1).trans z2; have z3' := (hb2.frozen (p := ⟨w.heap.size + 1, 3, none⟩) hsz1).trans z3))
  have hs1 := HB.out.size
  have hpost : TmOut (.mk 4 n p []) w (.returned (.agg #[.int .i64 4, .int .i64 n, .slice A1 p.length c1, .slice none 0 0])) ((((w2.setCell ⟨w.heap.size + 1, 0, none⟩ (.int .i64 4)).setCell ⟨w.heap.size + 1, 1, none⟩ (.int .i64 n)).setCell ⟨w.heap.size + 1, 2, none⟩ (.slice A1 p.length c1)).setCell ⟨w.heap.size + 1, 3, none⟩ (.slice none 0 0)) := by
    obtain ⟨S, hS, hSb, _⟩ := own_pairMem hown
    have hL := own_four (o := 4) (n := n) hS own_nokids (fun b _ h => by simp at h)
    have hSb2 : ∀ b ∈ S ++ ([] ++ []), w.heap.size + 2 ≤ b := fun b hb => by
      simp only [List.append_nil] at hb
      have h1 := hSb b hb
      omega
    exact ⟨A1, c1, none, 0, _, rfl, set4_own hL (fun b hb => by have := hSb2 b hb; omega) _ _ _ _, fun b hb => by have := hSb2 b hb; omega, set4_below (HB.out.trans (hb2.mono hs1)) (by omega) _ _ _ _⟩
  clear hown hb2 HB hs1 hct b0 b1 r0 r1 r2 r3 z0 z1 z2 z3
  go_wp2
  exact bodyPost_ret (v := .agg #[.int .i64 4, .int .i64 n, .slice A1 p.length c1, .slice none 0 0]) (by simp [results, Try.results171, go_sem, r0', r1', r2', r3']) rfl hpost

/-- The term of a form. -/
theorem term_any : ∀ (N : Nat) (t : Tm), szT t ≤ N → N ≤ 1048576 → OkP 1048576 t → ∀ (q : Nat → Prop) (w : World) (fx : Value), FIn w q (.iface (fty t) fx) t → Calls Try.prog (termF t) #[fx] w (TmOut t w) := by
  intro N
  induction N with
  | zero => intro t h; rw [szT_eq] at h; omega
  | succ N ih =>
    intro t hN hM hok q w fx h
    rcases form_cases h with ⟨n, rfl, rfl⟩ | ⟨n, b, off, c, xs, ks, rfl, rfl, _, hb, hc, hxs⟩ | ⟨n, v, k, rfl, rfl, hk⟩ | ⟨n, A, c, p, rfl, rfl, hp, _⟩
    · rw [termF_1]
      exact term_atom n w
    · rw [termF_2]
      rw [szT_eq, kids_mk] at hN
      have hkl := len_szTs ks
      refine term_node n b off c xs ks q w hb hc hxs (by omega) fun i hi w' y hy => ih _ ?_ (by omega) (okP_at hok.2.2 hi) q w' y hy
      have := szT_at hi
      omega
    · rw [termF_3]
      obtain ⟨fx, rfl⟩ := hk.iface
      rw [szT_eq, kids_mk, szTs, szTs] at hN
      exact term_bind n fx k w fun w' hb => ih k (by omega) (by omega) hok.2.2.1 q w' fx (hk.keep hb)
    · rw [termF_4]
      exact term_hole n A c p w hp hok.2.1
end

section
open Go.RowKit Go.Sort
set_option linter.unusedVariables false

/-- A term whose slices are of the call's own, and a word. -/
def TmOutB (t : Tm) (b : Bool) (w : World) (e : Ending) (w' : World) : Prop :=
  ∃ A1 c1 A2 c2 S, e = .returned (.tuple #[.agg #[.int .i64 t.op, .int .i64 t.num, .slice A1 t.perm.length c1, .slice A2 t.kids.length c2], .bool b]) ∧
    OwnL w' S [.int .i64 t.op, .int .i64 t.num, .slice A1 t.perm.length c1, .slice A2 t.kids.length c2] (encT t) ∧ (∀ b ∈ S, w.heap.size ≤ b) ∧ Below w.heap.size w w'

/-- A term, or nothing. -/
def orT (t : Tm) (b : Bool) : Tm := if b then t else tm0
theorem orT_yes (t : Tm) : orT t true = t := rfl
theorem orT_no (t : Tm) : orT t false = tm0 := rfl

mutual
theorem cnt_ok {M : Nat} : ∀ {t : Tm}, OkP M t → cntT t + 1 ≤ (M + 1) * szT t
  | .mk o n p ks, h => by
    have h1 := cnts_ok h.2.2
    have h2 := h.2.1
    rw [cntT, szT, Nat.mul_add, Nat.mul_one]
    omega
theorem cnts_ok {M : Nat} : ∀ {ts : List Tm}, OkPs M ts → ts.length + sumT ts ≤ (M + 1) * szTs ts
  | [], _ => by simp [sumT, szTs]
  | t :: r, h => by
    have h1 := cnt_ok h.1
    have h2 := cnts_ok h.2
    rw [sumT, szTs, List.length_cons, Nat.mul_add]
    omega
end

theorem tm_box {w : World} {t : Tm} {A1 A2 : Option Addr} {c1 c2 : Nat} {S : List Nat} (h : OwnL w S [.int .i64 t.op, .int .i64 t.num, .slice A1 t.perm.length c1, .slice A2 t.kids.length c2] (encT t)) :
    TmIn w (.agg #[.int .i64 t.op, .int .i64 t.num, .slice A1 t.perm.length c1, .slice A2 t.kids.length c2]) t := tmOut_in h

set_option maxRecDepth 100000 in
set_option maxHeartbeats 4000000 in
theorem ifAny_any (t : Tm) (q : Nat → Prop) (fv : Value) (w : World) (hf : FIn w q fv t) (hsz : szT t ≤ 1048576) (hok : OkP 1048576 t) (hfit : Fit t) :
    Calls Try.prog 38 #[fv] w (TmOutB (orT t (isTermB t)) (isTermB t) w) := by
  obtain ⟨fx, rfl⟩ := hf.iface
  have hb0 : Below w.heap.size w (w.alloc (.cells #[.int .i64 0, .int .i64 0, .slice none 0 0, .slice none 0 0] 31)) := (Below.refl _ _).alloc (Nat.le_refl _) _
  have hct := term_any (szT t) t (Nat.le_refl _) hsz hok q _ fx (hf.keep hb0)
  have hm := askTerm t
  have hn := enterTerm t
  have HF := Lib.hid hfit
  generalize termF t = F at hm hn hct
  generalize fty t = T at *
  clear hf hok hfit
  go_enter Try.func38, Try.ntmps38
  go_wp2_with fail
  refine hct.mono ?_
  rintro e w2 ⟨A1, c1, A2, c2, S, rfl, hL, hSC, hb2⟩
  have hb02 := hb0.trans (hb2.mono hb0.size)
  have hbx : Below w2.heap.size w2 (w2.alloc (.cells #[.int .i64 t.op, .int .i64 t.num, .slice A1 t.perm.length c1, .slice A2 t.kids.length c2] 31)) := (Below.refl _ _).alloc (Nat.le_refl _) _
  have hrow2 := (hb2.block w.heap.size (by simp)).trans (heap_alloc_new w (.cells #[.int .i64 0, .int .i64 0, .slice none 0 0, .slice none 0 0] 31))
  have hlt2 : w.heap.size < w2.heap.size := by have := hb2.size; rw [World.size_alloc] at this; omega
  have hist := isTerm_impl t _ _ ((tm_box hL).below hbx) HF.out
  have hSR : ∀ b ∈ S, w.heap.size + 1 ≤ b := fun b hb => by have := hSC b hb; rw [World.size_alloc] at this; exact this
  clear hct hm hn hb2 hb0 hSC
  by_cases ht : isTermB t = true
  · have HT := Lib.hid ht
    rw [ht] at hist
    clear ht
    go_wp2_with fail
    refine hist.mono ?_
    rintro e w3 ⟨rfl, hb3⟩
    obtain ⟨d0, d1, d2, d3⟩ := box4 hb3
    have hb23 := hbx.trans (hb3.mono hbx.size)
    have hrow := (hb23.block w.heap.size hlt2).trans hrow2
    have r0 : w3.cell? ⟨w.heap.size, 0, none⟩ = some (.int .i64 0) := by rw [cell_of_row _ w.heap.size 0 _ _ _ hrow]; rfl
    have r1 : w3.cell? ⟨w.heap.size, 1, none⟩ = some (.int .i64 0) := by rw [cell_of_row _ w.heap.size 1 _ _ _ hrow]; rfl
    have r2 : w3.cell? ⟨w.heap.size, 2, none⟩ = some (.slice none 0 0) := by rw [cell_of_row _ w.heap.size 2 _ _ _ hrow]; rfl
    have r3 : w3.cell? ⟨w.heap.size, 3, none⟩ = some (.slice none 0 0) := by rw [cell_of_row _ w.heap.size 3 _ _ _ hrow]; rfl
    have z0 : w3.frozen? ⟨w.heap.size, 0, none⟩ = false := frozen_of_row _ w.heap.size 0 _ _ hrow
    have z1 : w3.frozen? ⟨w.heap.size, 1, none⟩ = false := frozen_of_row _ w.heap.size 1 _ _ hrow
    have z2 : w3.frozen? ⟨w.heap.size, 2, none⟩ = false := frozen_of_row _ w.heap.size 2 _ _ hrow
    have z3 : w3.frozen? ⟨w.heap.size, 3, none⟩ = false := frozen_of_row _ w.heap.size 3 _ _ hrow
    have hL3 := hL.alike (w' := w3) (fun b hb => hb23.block b (hL.lt b hb))
    have hpost : TmOutB t true w (.returned (.tuple #[.agg #[.int .i64 t.op, .int .i64 t.num, .slice A1 t.perm.length c1, .slice A2 t.kids.length c2], .bool true])) ((((w3.setCell ⟨w.heap.size, 0, none⟩ (.int .i64 t.op)).setCell ⟨w.heap.size, 1, none⟩ (.int .i64 t.num)).setCell ⟨w.heap.size, 2, none⟩ (.slice A1 t.perm.length c1)).setCell ⟨w.heap.size, 3, none⟩ (.slice A2 t.kids.length c2)) :=
      ⟨A1, c1, A2, c2, S, rfl, set4_own hL3 (fun b hb => by have := hSR b hb; omega) _ _ _ _, fun b hb => by have := hSR b hb; omega, set4_below (hb02.trans (hb23.mono hb02.size)) (Nat.le_refl _) _ _ _ _⟩
    clear hist hL hSR hrow2 hrow hL3 hb02 hb23 hbx hb3 HF
    go_wp2
    exact bodyPost_ret (v := .tuple #[.agg #[.int .i64 t.op, .int .i64 t.num, .slice A1 t.perm.length c1, .slice A2 t.kids.length c2], .bool true]) (by simp [results, Try.results38, go_sem, r0, r1, r2, r3]) rfl (by rw [HT.out, orT_yes]; exact hpost)
  · have ht' : isTermB t = false := by simpa using ht
    have HT := Lib.hid ht'
    rw [ht'] at hist
    clear ht ht'
    go_wp2_with fail
    refine hist.mono ?_
    rintro e w3 ⟨rfl, hb3⟩
    have hb23 := hbx.trans (hb3.mono hbx.size)
    have hrow := (hb23.block w.heap.size hlt2).trans hrow2
    have r0 : w3.cell? ⟨w.heap.size, 0, none⟩ = some (.int .i64 0) := by rw [cell_of_row _ w.heap.size 0 _ _ _ hrow]; rfl
    have r1 : w3.cell? ⟨w.heap.size, 1, none⟩ = some (.int .i64 0) := by rw [cell_of_row _ w.heap.size 1 _ _ _ hrow]; rfl
    have r2 : w3.cell? ⟨w.heap.size, 2, none⟩ = some (.slice none 0 0) := by rw [cell_of_row _ w.heap.size 2 _ _ _ hrow]; rfl
    have r3 : w3.cell? ⟨w.heap.size, 3, none⟩ = some (.slice none 0 0) := by rw [cell_of_row _ w.heap.size 3 _ _ _ hrow]; rfl
    have z0 : w3.frozen? ⟨w.heap.size, 0, none⟩ = false := frozen_of_row _ w.heap.size 0 _ _ hrow
    have z1 : w3.frozen? ⟨w.heap.size, 1, none⟩ = false := frozen_of_row _ w.heap.size 1 _ _ hrow
    have z2 : w3.frozen? ⟨w.heap.size, 2, none⟩ = false := frozen_of_row _ w.heap.size 2 _ _ hrow
    have z3 : w3.frozen? ⟨w.heap.size, 3, none⟩ = false := frozen_of_row _ w.heap.size 3 _ _ hrow
    have hpost : TmOutB tm0 false w (.returned (.tuple #[.agg #[.int .i64 0, .int .i64 0, .slice none 0 0, .slice none 0 0], .bool false])) ((((w3.setCell ⟨w.heap.size, 0, none⟩ (.int .i64 0)).setCell ⟨w.heap.size, 1, none⟩ (.int .i64 0)).setCell ⟨w.heap.size, 2, none⟩ (.slice none 0 0)).setCell ⟨w.heap.size, 3, none⟩ (.slice none 0 0)) :=
      ⟨none, 0, none, 0, _, rfl, own_four own_none own_nokids (fun b hb => by simp at hb), fun b hb => by simp at hb, set4_below (hb02.trans (hb23.mono hb02.size)) (Nat.le_refl _) _ _ _ _⟩
    clear hist hL hSR hrow2 hrow hb02 hb23 hbx hb3 HF
    go_wp2
    exact bodyPost_ret (v := .tuple #[.agg #[.int .i64 0, .int .i64 0, .slice none 0 0, .slice none 0 0], .bool false]) (by simp [results, Try.results38, go_sem, r0, r1, r2, r3]) rfl (by rw [HT.out, orT_no]; exact hpost)
end
end Go.Proofs.Ytbfkfklaplgebaa
