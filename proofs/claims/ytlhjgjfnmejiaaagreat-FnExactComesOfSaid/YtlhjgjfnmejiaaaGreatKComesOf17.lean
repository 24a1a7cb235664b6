/-
  A node with what a function makes of each kid, in the program, as a contract. The term of a form, in the program, as contracts. The term of a form, unless it would be none: in the program, as a contract. Acting with a permutation on a form, in the program, as contracts. A node with what a function makes of each kid, in the program, as a contract: the function may give back forms that were there, of a kind. A term like another one, with other kids; what acting makes of a term: in the model, as contracts.
-/
import Derived.Test.YtlhjgjfnmejiaaaGreatKComesOf13
import Derived.Test.YtlhjgjfnmejiaaaGreatKComesOf16
import Derived.Test.YtlhjgjfnmejiaaaGreatKComesOf12
import Derived.Test.YtlhjgjfnmejiaaaGreatKComesOf9
import Derived.Test.YtlhjgjfnmejiaaaGreatKComesOf15
section
namespace Go.Proofs.YtlhjgjfnmejiaaaGreat
section
open Go.RowKit Go.Sort
set_option linter.unusedVariables false

/-- A node that has been made. -/
def NodePost (B : Nat) (n : Int) (rs : List Tm) (w : World) (e : Ending) (w' : World) : Prop :=
  ∃ g cap, e = .returned (.agg #[.int .i64 n, .slice (some ⟨g, 0, none⟩) rs.length cap]) ∧ FIn w' (Since B w.heap.size) (.iface 156 (.agg #[.int .i64 n, .slice (some ⟨g, 0, none⟩) rs.length cap])) (.mk 2 n [] rs) ∧ Below w.heap.size w w'

theorem box2 {a b : Value} {T : TypeId} {w w1 : World} (hb : Below (w.alloc (.cells #[a, b] T)).heap.size (w.alloc (.cells #[a, b] T)) w1) :
    w1.cell? ⟨w.heap.size, 0, none⟩ = some a ∧ w1.cell? ⟨w.heap.size, 1, none⟩ = some b := by
  have h := (hb.block w.heap.size (by simp)).trans (heap_alloc_new w _)
  refine ⟨?_, ?_⟩ <;> rw [cell_of_row w1 w.heap.size _ _ _ _ h] <;> rfl

theorem tmAt_take_snoc {rs : List Tm} {k : Nat} (h : k < rs.length) : rs.take (k + 1) = rs.take k ++ [tmAt rs k] := tm_take_next h

set_option maxRecDepth 100000 in
set_option maxHeartbeats 4000000 in
theorem withKids_any (n : Int) (b off c : Nat) (xs : List Value) (ks rs : List Tm) (q : Nat → Prop) (w : World) (B0 G : Nat) (lb : Array Value) (hrs : rs.length = ks.length) (hB0 : B0 ≤ w.heap.size)
    (eg : ∀ args w, (callFunc G args).run Tryz.prog w = .ok (.enter G args) w)
    (hbl : b < w.heap.size) (hc : ∀ j u, xs[j]? = some u → w.cell? ⟨b, off + j, none⟩ = some u) (hxs : FsIn w q xs ks) (hlen : ks.length ≤ 1048576)
    (hk : ∀ i, i < ks.length → ∀ (w' : World) (T : TypeId) (y : Value), Below w.heap.size w w' → FIn w' q (.iface T y) (tmAt ks i) → Calls Tryz.prog G (#[.iface T y] ++ lb) w' (FormPost B0 (tmAt rs i) w')) :
    Calls Tryz.prog 112 #[.agg #[.int .i64 n, .slice (some ⟨b, off, none⟩) ks.length c], .func (.func G) #[] lb] w (NodePost B0 n rs w) := by
  obtain ⟨i0, hi0, hz0, hz1, hz2⟩ := info_parts form_info
  have HS := Lib.hid hz2
  clear hz2
  have hb0 : Below w.heap.size w ((w.alloc (.cells #[.int .i64 n, .slice (some ⟨b, off, none⟩) ks.length c] 156)).alloc (.cells #[.int .i64 0, .slice none 0 0] 156)) := ((Below.refl _ _).alloc (Nat.le_refl _) _).alloc (by simp) _
  have HRS := Lib.hid hrs
  clear hrs
  go_enter Tryz.func112, Tryz.ntmps112
  go_wp2
  go_loopw [5, 12] (fun v i wr => ∃ k : Nat, k ≤ ks.length ∧ i = .int .i64 k ∧ FRow wr B0 (w.heap.size + 2) v k (rs.take k) ∧ Below ((w.alloc (.cells #[.int .i64 n, .slice (some ⟨b, off, none⟩) ks.length c] 156)).alloc (.cells #[.int .i64 0, .slice none 0 0] 156)).heap.size ((w.alloc (.cells #[.int .i64 n, .slice (some ⟨b, off, none⟩) ks.length c] 156)).alloc (.cells #[.int .i64 0, .slice none 0 0] 156)) wr) (fun _ i _ => ks.length - (intOf i).toNat)
  case atStart =>
    refine ⟨0, Nat.zero_le _, rfl, ⟨w.heap.size + 2, 0, [], rfl, ?_, .nil⟩, (Below.refl _ _).alloc (Nat.le_refl _) _⟩
    have h9 := World.ownsRow_lit (base := ((w.alloc (.cells #[.int .i64 n, .slice (some ⟨b, off, none⟩) ks.length c] 156)).alloc (.cells #[.int .i64 0, .slice none 0 0] 156)).heap.size) (e := 94) (size := 1) ((w.alloc (.cells #[.int .i64 n, .slice (some ⟨b, off, none⟩) ks.length c] 156)).alloc (.cells #[.int .i64 0, .slice none 0 0] 156)) #[] 0 (Nat.le_refl _) (by decide) rfl
    rw [World.size_alloc, World.size_alloc] at h9
    exact h9
  case round =>
    obtain ⟨k, hk', rfl, ⟨g, cap, ys, rfl, ho, hys⟩, hbw⟩ := hrel
    have hb := hb0.trans (hbw.mono hb0.size)
    by_cases hlt : k < ks.length
    · obtain ⟨u, hu, hfu⟩ := hxs.get k hlt
      obtain ⟨fx, rfl⟩ := hfu.iface
      have d0 := (hb.cell (p := ⟨b, off + k, none⟩) hbl).trans (hc k _ hu)
      have hct := hk k hlt wr _ fx hb (hfu.keep hb)
      have hnx := Lib.hid (tmAt_take_snoc (show k < rs.length by rw [HRS.out]; exact hlt))
      have hbws := hbw.size
      generalize tmAt rs k = r at hct hnx
      generalize fty (tmAt ks k) = T at hfu hu d0 hct
      clear hu hfu hb hk hxs hc
      go_wp2_with fail
      refine hct.mono ?_
      rintro e w2 ⟨fv, rfl, hfv, hb2⟩
      obtain ⟨fy, rfl⟩ := hfv.iface
      generalize fty r = fT at hfv
      have hb3 : Below w2.heap.size w2 (w2.alloc (.cells #[.iface fT fy] 94)) := (Below.refl _ _).alloc (Nat.le_refl _) _
      have hb13 := hb2.trans (hb3.mono hb2.size)
      have ho3 := own_below (own_below ho hb2) hb3
      have hbr3 := (hbw.trans (hb2.mono hbw.size)).trans (hb3.mono (Nat.le_trans hbw.size hb2.size))
      have hcell : (w2.alloc (.cells #[.iface fT fy] 94)).cell? ⟨w2.heap.size, 0, none⟩ = some (.iface fT fy) := by simp
      have HC := Lib.hid (one_cell hcell)
      have HF1 := Lib.hid (form_one hfv)
      have hsz3 := hbr3.size
      have HR : Hid (∀ g1 cap1 w4, w4.ownsRow (w.heap.size + 2) 94 1 (.slice (some ⟨g1, 0, none⟩) (k + 1) cap1) (k + 1) (ys ++ [.iface fT fy]) → (w2.alloc (.cells #[.iface fT fy] 94)).grownBy w4 (some g) → (some g = some g1 ∨ g1 = (w2.alloc (.cells #[.iface fT fy] 94)).heap.size) → FRow w4 B0 (w.heap.size + 2) (.slice (some ⟨g1, 0, none⟩) (k + 1) cap1) (k + 1) (rs.take k ++ [r])) :=
        Lib.hid (fun g1 cap1 w4 h1 h2 h3 => frow_next (by omega) (Nat.le_refl _) ho hys hb13 hfv hb3 h1 h2 h3)
      have hsz4 : w.heap.size + 2 ≤ (w2.alloc (.cells #[.iface fT fy] 94)).heap.size := by
        have := hb13.size; have := (ho.lt g rfl).2; have := (ho.lt g rfl).1; omega
      clear hcell ho hys hb2 hb3 hb13 hfv hct hbw d0
      generalize hH : (w2.alloc (.cells #[.iface fT fy] 94)).heap.size = H at hsz4
      have HH := Lib.hid hH
      clear hH
      go_wp2_with (at_builtin; refine wpList_append_lies _ rfl (.tmp 16) (.tmp 20) 154 rfl (w.heap.size + 2) 94 i0 .nilIface 1 16 Tryz.underlying154 hi0 hz0 hz1 HS.out rfl (by decide) _ k _ rfl ho3 ⟨w2.heap.size, 0, none⟩ 1 1 [.iface fT fy] rfl rfl HC.out HF1.out (by decide) ?c3 ?c4 ?c5 H HH.out ?_)
      case c3 => unfold maxLen; omega
      case c4 => omega
      case c5 => rw [HH.out]; exact hsz4
      intro g1 cap1 w4 ho4 hg4 hcase _
      rw [← HH.out] at hcase
      have hrow := HR.out g1 cap1 w4 ho4 hg4 hcase
      rw [← hnx.out] at hrow
      have hb4 := below_own hbr3 ho3 (by rw [World.size_alloc, World.size_alloc]; omega) hsz3 hg4
      clear ho4 hg4 hcase HR ho3 hbr3 HC HF1 hsz3 hsz4 HH hnx
      go_wp2
      refine ⟨⟨k + 1, by omega, by go_num, hrow, hb4⟩, ?_⟩
      simp only [intOf]
      omega
    · have e : k = rs.length := by rw [HRS.out]; omega
      subst e
      have ht := ho.lt g rfl
      have hr := heap_alloc_new (w.alloc (.cells #[.int .i64 n, .slice (some ⟨b, off, none⟩) ks.length c] 156)) (.cells #[.int .i64 0, .slice none 0 0] 156)
      rw [World.size_alloc] at hr
      have ha : ((w.alloc (.cells #[.int .i64 n, .slice (some ⟨b, off, none⟩) ks.length c] 156)).alloc (.cells #[.int .i64 0, .slice none 0 0] 156)).heap[w.heap.size]? = some (.cells #[.int .i64 n, .slice (some ⟨b, off, none⟩) ks.length c] 156) := (Below.heap_alloc _ _ _ (by simp)).trans (heap_alloc_new w (.cells #[.int .i64 n, .slice (some ⟨b, off, none⟩) ks.length c] 156))
      have hsz : ((w.alloc (.cells #[.int .i64 n, .slice (some ⟨b, off, none⟩) ks.length c] 156)).alloc (.cells #[.int .i64 0, .slice none 0 0] 156)).heap.size = w.heap.size + 2 := by simp
      have ha' := (hbw.block w.heap.size (by rw [hsz]; omega)).trans ha
      have hr' := (hbw.block (w.heap.size + 1) (by rw [hsz]; omega)).trans hr
      have c0 : wr.cell? ⟨w.heap.size, 0, none⟩ = some (.int .i64 n) := by rw [cell_of_row wr w.heap.size 0 _ _ _ ha']; rfl
      have r0 : wr.cell? ⟨w.heap.size + 1, 0, none⟩ = some (.int .i64 0) := by rw [cell_of_row wr (w.heap.size + 1) 0 _ _ _ hr']; rfl
      have r1 : wr.cell? ⟨w.heap.size + 1, 1, none⟩ = some (.slice none 0 0) := by rw [cell_of_row wr (w.heap.size + 1) 1 _ _ _ hr']; rfl
      have z0 : wr.frozen? ⟨w.heap.size + 1, 0, none⟩ = false := frozen_of_row wr (w.heap.size + 1) 0 _ _ hr'
      have z1 : wr.frozen? ⟨w.heap.size + 1, 1, none⟩ = false := frozen_of_row wr (w.heap.size + 1) 1 _ _ hr'
      have hfin : FIn wr (fun b => Since B0 (w.heap.size + 2) b) (.iface 156 (.agg #[.int .i64 n, .slice (some ⟨g, 0, none⟩) rs.length cap])) (.mk 2 n [] rs) := by
        rw [List.take_length] at hys
        exact form_node (t := .mk 2 n [] rs) rfl rfl ho (hys.kinds fun b _ h => h.1) (.inr ht.1)
      have hn : ∀ b, Since B0 (w.heap.size + 2) b → b ≠ w.heap.size + 1 := by
        intro b hs
        rcases hs with h | h <;> omega
      have hpost : NodePost B0 n rs w (.returned (.agg #[.int .i64 n, .slice (some ⟨g, 0, none⟩) rs.length cap])) ((wr.setCell ⟨w.heap.size + 1, 0, none⟩ (.int .i64 n)).setCell ⟨w.heap.size + 1, 1, none⟩ (.slice (some ⟨g, 0, none⟩) rs.length cap)) :=
        ⟨g, cap, rfl, (((hfin.setOther ⟨w.heap.size + 1, 0, none⟩ (.int .i64 n) hn).setOther ⟨w.heap.size + 1, 1, none⟩ (.slice (some ⟨g, 0, none⟩) rs.length cap) hn).kind fun b _ h => since_le h (by omega)),
          (hb.setCell (by simp) _).setCell (by simp) _⟩
      clear ha hr ha' hr' hfin hn hys ho hb hk hxs hc hsz HRS hbw ht
      go_wp2
      exact bodyPost_ret (v := .agg #[.int .i64 n, .slice (some ⟨g, 0, none⟩) rs.length cap]) (by simp [results, Tryz.results112, go_sem, r0, r1]) rfl hpost
end

section
open Go.RowKit Go.Sort
set_option linter.unusedVariables false

theorem termF_1 (n : Int) : termF (.mk 1 n [] []) = 248 := rfl
theorem termF_2 (n : Int) (ks : List Tm) : termF (.mk 2 n [] ks) = 252 := rfl
theorem termF_3 (n : Int) (ks : List Tm) : termF (.mk 3 n [] ks) = 257 := rfl
theorem termF_4 (n : Int) (p : List (Int × Int)) : termF (.mk 4 n p []) = 239 := rfl

/-- The four cells of a term of the call's own. -/
theorem own_four {w : World} {o n : Int} {p : List (Int × Int)} {ks : List Tm} {pv kv : Value} {S T : List Nat} (h : Own w S pv (pairMem p)) (k : Own w T kv (tmsMem ks)) (hd : ∀ b ∈ S, b ∉ T) : OwnL w (S ++ (T ++ [])) [.int .i64 o, .int .i64 n, pv, kv] (encT (.mk o n p ks)) :=
  ownL_term (t := .mk o n p ks) h k hd

theorem own_none {w : World} : Own w [] (.slice none 0 0) (pairMem []) := .nil _ _
theorem own_nokids {w : World} : Own w [] (.slice none 0 0) (tmsMem []) := .nil _ _

/-- The result's box gets its four cells. -/
theorem set4_own {w : World} {S : List Nat} {vs : List Value} {ms : List Mem} {R : Nat} (h : OwnL w S vs ms) (hR : ∀ b ∈ S, b ≠ R) (a b c d : Value) :
    OwnL ((((w.setCell ⟨R, 0, none⟩ a).setCell ⟨R, 1, none⟩ b).setCell ⟨R, 2, none⟩ c).setCell ⟨R, 3, none⟩ d) S vs ms :=
  (((h.setOther ⟨R, 0, none⟩ a hR).setOther ⟨R, 1, none⟩ b hR).setOther ⟨R, 2, none⟩ c hR).setOther ⟨R, 3, none⟩ d hR
theorem set4_below {w0 w : World} {B R : Nat} (h : Below B w0 w) (hR : B ≤ R) (a b c d : Value) :
    Below B w0 ((((w.setCell ⟨R, 0, none⟩ a).setCell ⟨R, 1, none⟩ b).setCell ⟨R, 2, none⟩ c).setCell ⟨R, 3, none⟩ d) :=
  (((h.setCell hR _).setCell hR _).setCell hR _).setCell hR _

set_option maxRecDepth 100000 in
theorem term_atom (n : Int) (w : World) : Calls Tryz.prog 248 #[.agg #[.int .i64 n]] w (TmOut (.mk 1 n [] []) w) := by
  have hpost : TmOut (.mk 1 n [] []) w (.returned (.agg #[.int .i64 1, .int .i64 n, .slice none 0 0, .slice none 0 0])) ((w.alloc (.cells #[.int .i64 n] 153)).alloc (.cells #[.int .i64 1, .int .i64 n, .slice none 0 0, .slice none 0 0] 46)) :=
    ⟨none, 0, none, 0, _, rfl, own_four own_none own_nokids (fun b hb => by simp at hb), fun b hb => by simp at hb, ((Below.refl _ _).alloc (Nat.le_refl _) _).alloc (by simp) _⟩
  go_enter Tryz.func248, Tryz.ntmps248
  go_wp2
  exact bodyPost_ret (v := .agg #[.int .i64 1, .int .i64 n, .slice none 0 0, .slice none 0 0]) (by simp [results, Tryz.results248, go_sem]) rfl hpost

set_option maxRecDepth 100000 in
set_option maxHeartbeats 4000000 in
theorem term_node (n : Int) (b off c : Nat) (xs : List Value) (ks : List Tm) (q : Nat → Prop) (w : World) (hbl : b < w.heap.size) (hc : ∀ j u, xs[j]? = some u → w.cell? ⟨b, off + j, none⟩ = some u) (hxs : FsIn w q xs ks) (hlen : ks.length ≤ 1048576)
    (ih : ∀ i, i < ks.length → ∀ (w' : World) (y : Value), FIn w' q (.iface (fty (tmAt ks i)) y) (tmAt ks i) → Calls Tryz.prog (termF (tmAt ks i)) #[y] w' (TmOut (tmAt ks i) w')) :
    Calls Tryz.prog 252 #[.agg #[.int .i64 n, .slice (some ⟨b, off, none⟩) ks.length c]] w (TmOut (.mk 2 n [] ks) w) := by
  obtain ⟨i0, hi0, hz0, hz1, hz2⟩ := info_parts term_infoR
  have HS := Lib.hid hz2
  clear hz2
  have hb0 : Below w.heap.size w ((w.alloc (.cells #[.int .i64 n, .slice (some ⟨b, off, none⟩) ks.length c] 156)).alloc (.cells #[.int .i64 0, .int .i64 0, .slice none 0 0, .slice none 0 0] 46)) := ((Below.refl _ _).alloc (Nat.le_refl _) _).alloc (by simp) _
  go_enter Tryz.func252, Tryz.ntmps252
  go_wp2
  go_loopw [3, 10] (fun v i wr => ∃ k : Nat, k ≤ ks.length ∧ i = .int .i64 k ∧ TRow wr (w.heap.size + 2) v k (ks.take k) ∧ Below ((w.alloc (.cells #[.int .i64 n, .slice (some ⟨b, off, none⟩) ks.length c] 156)).alloc (.cells #[.int .i64 0, .int .i64 0, .slice none 0 0, .slice none 0 0] 46)).heap.size ((w.alloc (.cells #[.int .i64 n, .slice (some ⟨b, off, none⟩) ks.length c] 156)).alloc (.cells #[.int .i64 0, .int .i64 0, .slice none 0 0, .slice none 0 0] 46)) wr) (fun _ i _ => ks.length - (intOf i).toNat)
  case atStart =>
    refine ⟨0, Nat.zero_le _, rfl, ⟨w.heap.size + 2, 0, [], [], rfl, ?_, .nil, by simp, by simp⟩, (Below.refl _ _).alloc (Nat.le_refl _) _⟩
    have h9 := World.ownsRow_lit (base := ((w.alloc (.cells #[.int .i64 n, .slice (some ⟨b, off, none⟩) ks.length c] 156)).alloc (.cells #[.int .i64 0, .int .i64 0, .slice none 0 0, .slice none 0 0] 46)).heap.size) (e := 46) (size := 4) ((w.alloc (.cells #[.int .i64 n, .slice (some ⟨b, off, none⟩) ks.length c] 156)).alloc (.cells #[.int .i64 0, .int .i64 0, .slice none 0 0, .slice none 0 0] 46)) #[] 0 (Nat.le_refl _) (by decide) rfl
    rw [World.size_alloc, World.size_alloc] at h9
    exact h9
  case round =>
    obtain ⟨k, hk', rfl, ⟨g, cap, ys, S, rfl, ho, hys, hgS, hSB⟩, hbw⟩ := hrel
    have hb := hb0.trans (hbw.mono hb0.size)
    by_cases hlt : k < ks.length
    · obtain ⟨u, hu, hfu⟩ := hxs.get k hlt
      obtain ⟨fx, rfl⟩ := hfu.iface
      have d0 := (hb.cell (p := ⟨b, off + k, none⟩) hbl).trans (hc k _ hu)
      have hct := ih k hlt wr fx (hfu.keep hb)
      have hnx := Lib.hid (tm_take_next hlt)
      have hm := askTerm (tmAt ks k)
      have hn := enterTerm (tmAt ks k)
      have hbws := hbw.size
      generalize termF (tmAt ks k) = F at hm hn hct
      generalize fty (tmAt ks k) = T at hm hfu hu d0
      generalize tmAt ks k = r at hct hnx
      clear hu hfu hb ih hxs hc
      go_wp2_with fail
      refine hct.mono ?_
      rintro e w2 ⟨A1, c1, A2, c2, T1, rfl, hT1, hTC, hb2⟩
      have hb3 : Below w2.heap.size w2 (w2.alloc (.cells #[.int .i64 r.op, .int .i64 r.num, .slice A1 r.perm.length c1, .slice A2 r.kids.length c2] 46)) := (Below.refl _ _).alloc (Nat.le_refl _) _
      have hb13 := hb2.trans (hb3.mono hb2.size)
      have ho3 := own_below (own_below ho hb2) hb3
      have hbr3 := (hbw.trans (hb2.mono hbw.size)).trans (hb3.mono (Nat.le_trans hbw.size hb2.size))
      obtain ⟨e0, e1, e2, e3⟩ := box4 (Below.refl _ (w2.alloc (.cells #[.int .i64 r.op, .int .i64 r.num, .slice A1 r.perm.length c1, .slice A2 r.kids.length c2] 46)))
      have HC := Lib.hid (four_cells e0 e1 e2 e3)
      have HF1 := Lib.hid (four_one r.op r.num A1 A2 r.perm.length c1 r.kids.length c2)
      have hsz3 := hbr3.size
      have HR : Hid (∀ g1 cap1 w4, w4.ownsRow (w.heap.size + 2) 46 4 (.slice (some ⟨g1, 0, none⟩) (k + 1) cap1) (k + 1) (ys ++ [.int .i64 r.op, .int .i64 r.num, .slice A1 r.perm.length c1, .slice A2 r.kids.length c2]) → (w2.alloc (.cells #[.int .i64 r.op, .int .i64 r.num, .slice A1 r.perm.length c1, .slice A2 r.kids.length c2] 46)).grownBy w4 (some g) → (some g = some g1 ∨ g1 = (w2.alloc (.cells #[.int .i64 r.op, .int .i64 r.num, .slice A1 r.perm.length c1, .slice A2 r.kids.length c2] 46)).heap.size) → TRow w4 (w.heap.size + 2) (.slice (some ⟨g1, 0, none⟩) (k + 1) cap1) (k + 1) (ks.take k ++ [r])) :=
        Lib.hid (fun g1 cap1 w4 h1 h2 h3 => trow_next (Nat.le_refl _) ho hys hgS hSB hb13 hT1 hTC hb3 h1 h2 h3)
      have hsz4 : w.heap.size + 2 ≤ (w2.alloc (.cells #[.int .i64 r.op, .int .i64 r.num, .slice A1 r.perm.length c1, .slice A2 r.kids.length c2] 46)).heap.size := by
        have := hb13.size; have := (ho.lt g rfl).2; have := (ho.lt g rfl).1; omega
      clear e0 e1 e2 e3 ho hys hgS hSB hb2 hb3 hb13 hT1 hTC hct hbw d0
      generalize hH : (w2.alloc (.cells #[.int .i64 r.op, .int .i64 r.num, .slice A1 r.perm.length c1, .slice A2 r.kids.length c2] 46)).heap.size = H at hsz4
      have HH := Lib.hid hH
      clear hH
      go_wp2_with (at_builtin; refine wpList_append_lies _ rfl (.tmp 14) (.tmp 17) 44 rfl (w.heap.size + 2) 46 i0 (.agg #[.int .i64 0, .int .i64 0, .slice none 0 0, .slice none 0 0]) 4 64 Tryz.underlying44 hi0 hz0 hz1 HS.out rfl (by decide) _ k _ rfl ho3 ⟨w2.heap.size, 0, none⟩ 1 1 [.int .i64 r.op, .int .i64 r.num, .slice A1 r.perm.length c1, .slice A2 r.kids.length c2] rfl rfl HC.out HF1.out (by decide) ?c3 ?c4 ?c5 H HH.out ?_)
      case c3 => unfold maxLen; omega
      case c4 => omega
      case c5 => rw [HH.out]; exact hsz4
      intro g1 cap1 w4 ho4 hg4 hcase _
      rw [← HH.out] at hcase
      have hrow := HR.out g1 cap1 w4 ho4 hg4 hcase
      rw [← hnx.out] at hrow
      have hb4 := below_own hbr3 ho3 (by rw [World.size_alloc, World.size_alloc]; omega) hsz3 hg4
      clear ho4 hg4 hcase HR ho3 hbr3 HC HF1 hsz3 hsz4 HH hnx
      go_wp2
      refine ⟨⟨k + 1, by omega, by go_num, hrow, hb4⟩, ?_⟩
      simp only [intOf]
      omega
    · have e : k = ks.length := by omega
      subst e
      rw [List.take_length] at hys
      have ht := ho.lt g rfl
      have hr := heap_alloc_new (w.alloc (.cells #[.int .i64 n, .slice (some ⟨b, off, none⟩) ks.length c] 156)) (.cells #[.int .i64 0, .int .i64 0, .slice none 0 0, .slice none 0 0] 46)
      rw [World.size_alloc] at hr
      have ha : ((w.alloc (.cells #[.int .i64 n, .slice (some ⟨b, off, none⟩) ks.length c] 156)).alloc (.cells #[.int .i64 0, .int .i64 0, .slice none 0 0, .slice none 0 0] 46)).heap[w.heap.size]? = some (.cells #[.int .i64 n, .slice (some ⟨b, off, none⟩) ks.length c] 156) := (Below.heap_alloc _ _ _ (by simp)).trans (heap_alloc_new w (.cells #[.int .i64 n, .slice (some ⟨b, off, none⟩) ks.length c] 156))
      have hsz : ((w.alloc (.cells #[.int .i64 n, .slice (some ⟨b, off, none⟩) ks.length c] 156)).alloc (.cells #[.int .i64 0, .int .i64 0, .slice none 0 0, .slice none 0 0] 46)).heap.size = w.heap.size + 2 := by simp
      have ha' := (hbw.block w.heap.size (by rw [hsz]; omega)).trans ha
      have hr' := (hbw.block (w.heap.size + 1) (by rw [hsz]; omega)).trans hr
      have c0 : wr.cell? ⟨w.heap.size, 0, none⟩ = some (.int .i64 n) := by rw [cell_of_row wr w.heap.size 0 _ _ _ ha']; rfl
      have r0 : wr.cell? ⟨w.heap.size + 1, 0, none⟩ = some (.int .i64 0) := by rw [cell_of_row wr (w.heap.size + 1) 0 _ _ _ hr']; rfl
      have r1 : wr.cell? ⟨w.heap.size + 1, 1, none⟩ = some (.int .i64 0) := by rw [cell_of_row wr (w.heap.size + 1) 1 _ _ _ hr']; rfl
      have r2 : wr.cell? ⟨w.heap.size + 1, 2, none⟩ = some (.slice none 0 0) := by rw [cell_of_row wr (w.heap.size + 1) 2 _ _ _ hr']; rfl
      have r3 : wr.cell? ⟨w.heap.size + 1, 3, none⟩ = some (.slice none 0 0) := by rw [cell_of_row wr (w.heap.size + 1) 3 _ _ _ hr']; rfl
      have z0 : wr.frozen? ⟨w.heap.size + 1, 0, none⟩ = false := frozen_of_row wr (w.heap.size + 1) 0 _ _ hr'
      have z1 : wr.frozen? ⟨w.heap.size + 1, 1, none⟩ = false := frozen_of_row wr (w.heap.size + 1) 1 _ _ hr'
      have z2 : wr.frozen? ⟨w.heap.size + 1, 2, none⟩ = false := frozen_of_row wr (w.heap.size + 1) 2 _ _ hr'
      have z3 : wr.frozen? ⟨w.heap.size + 1, 3, none⟩ = false := frozen_of_row wr (w.heap.size + 1) 3 _ _ hr'
      have hk4 := own_of_terms (ts := ks) rfl (own_le ho (Nat.zero_le _)) hys hgS
      have hL := own_four (o := 2) (n := n) own_none hk4 (fun b hb => by simp at hb)
      have hLb : ∀ b ∈ [] ++ ((g :: S) ++ []), w.heap.size + 2 ≤ b := fun b hb => by
        simp only [List.nil_append, List.append_nil, List.mem_cons] at hb
        rcases hb with rfl | hb
        · exact ht.1
        · exact hSB b hb
      have hpost : TmOut (.mk 2 n [] ks) w (.returned (.agg #[.int .i64 2, .int .i64 n, .slice none 0 0, .slice (some ⟨g, 0, none⟩) ks.length cap])) ((((wr.setCell ⟨w.heap.size + 1, 0, none⟩ (.int .i64 2)).setCell ⟨w.heap.size + 1, 1, none⟩ (.int .i64 n)).setCell ⟨w.heap.size + 1, 2, none⟩ (.slice none 0 0)).setCell ⟨w.heap.size + 1, 3, none⟩ (.slice (some ⟨g, 0, none⟩) ks.length cap)) :=
        ⟨none, 0, some ⟨g, 0, none⟩, cap, _, rfl, set4_own hL (fun b hb => by have := hLb b hb; omega) _ _ _ _, fun b hb => by have := hLb b hb; omega, set4_below hb (by omega) _ _ _ _⟩
      clear ha hr ha' hr' hk4 hL hLb hys ho hb ih hxs hc hsz hbw ht hgS hSB
      go_wp2
      exact bodyPost_ret (v := .agg #[.int .i64 2, .int .i64 n, .slice none 0 0, .slice (some ⟨g, 0, none⟩) ks.length cap]) (by simp [results, Tryz.results252, go_sem, r0, r1, r2, r3]) rfl hpost

theorem box_row {w w1 : World} {a : Obj} {o0 o1 o2 o3 : Value} {T : TypeId} (hb : Below ((w.alloc a).alloc (.cells #[o0, o1, o2, o3] T)).heap.size ((w.alloc a).alloc (.cells #[o0, o1, o2, o3] T)) w1) : w1.heap[w.heap.size + 1]? = some (.cells #[o0, o1, o2, o3] T) ∧ w1.heap[w.heap.size]? = some a := by
  have hr := heap_alloc_new (w.alloc a) (.cells #[o0, o1, o2, o3] T)
  rw [World.size_alloc] at hr
  have hsz : ((w.alloc a).alloc (.cells #[o0, o1, o2, o3] T)).heap.size = w.heap.size + 2 := by simp
  have ha : ((w.alloc a).alloc (.cells #[o0, o1, o2, o3] T)).heap[w.heap.size]? = some a := (Below.heap_alloc _ _ _ (by simp)).trans (heap_alloc_new w a)
  exact ⟨(hb.block (w.heap.size + 1) (by rw [hsz]; omega)).trans hr, (hb.block w.heap.size (by rw [hsz]; omega)).trans ha⟩

set_option maxRecDepth 100000 in
set_option maxHeartbeats 4000000 in
theorem term_bind (n : Int) (fx : Value) (k : Tm) (w : World)
    (ih : ∀ w' : World, Below w.heap.size w w' → Calls Tryz.prog (termF k) #[fx] w' (TmOut k w')) :
    Calls Tryz.prog 257 #[.agg #[.int .i64 n, .iface (fty k) fx]] w (TmOut (.mk 3 n [] [k]) w) := by
  have hm := askTerm k
  have hn := enterTerm k
  generalize termF k = F at hm hn ih
  generalize fty k = T at *
  have hb0 : Below w.heap.size w ((w.alloc (.cells #[.int .i64 n, .iface T fx] 159)).alloc (.cells #[.int .i64 0, .int .i64 0, .slice none 0 0, .slice none 0 0] 46)) := ((Below.refl _ _).alloc (Nat.le_refl _) _).alloc (by simp) _
  have hdw : Below ((w.alloc (.cells #[.int .i64 n, .iface T fx] 159)).alloc (.cells #[.int .i64 0, .int .i64 0, .slice none 0 0, .slice none 0 0] 46)).heap.size ((w.alloc (.cells #[.int .i64 n, .iface T fx] 159)).alloc (.cells #[.int .i64 0, .int .i64 0, .slice none 0 0, .slice none 0 0] 46)) ((w.alloc (.cells #[.int .i64 n, .iface T fx] 159)).alloc (.cells #[.int .i64 0, .int .i64 0, .slice none 0 0, .slice none 0 0] 46)).drew := ⟨rfl, rfl, rfl, Nat.le_refl _, fun _ _ => rfl⟩
  have hbd := hb0.trans (hdw.mono hb0.size)
  have hct := ih _ hbd
  obtain ⟨hr', ha'⟩ := box_row hdw
  have b0 : ((w.alloc (.cells #[.int .i64 n, .iface T fx] 159)).alloc (.cells #[.int .i64 0, .int .i64 0, .slice none 0 0, .slice none 0 0] 46)).drew.cell? ⟨w.heap.size, 0, none⟩ = some (.int .i64 n) := by rw [cell_of_row _ w.heap.size 0 _ _ _ ha']; rfl
  have b1 : ((w.alloc (.cells #[.int .i64 n, .iface T fx] 159)).alloc (.cells #[.int .i64 0, .int .i64 0, .slice none 0 0, .slice none 0 0] 46)).drew.cell? ⟨w.heap.size, 1, none⟩ = some (.iface T fx) := by rw [cell_of_row _ w.heap.size 1 _ _ _ ha']; rfl
  have r0 : ((w.alloc (.cells #[.int .i64 n, .iface T fx] 159)).alloc (.cells #[.int .i64 0, .int .i64 0, .slice none 0 0, .slice none 0 0] 46)).drew.cell? ⟨w.heap.size + 1, 0, none⟩ = some (.int .i64 0) := by rw [cell_of_row _ (w.heap.size + 1) 0 _ _ _ hr']; rfl
  have r1 : ((w.alloc (.cells #[.int .i64 n, .iface T fx] 159)).alloc (.cells #[.int .i64 0, .int .i64 0, .slice none 0 0, .slice none 0 0] 46)).drew.cell? ⟨w.heap.size + 1, 1, none⟩ = some (.int .i64 0) := by rw [cell_of_row _ (w.heap.size + 1) 1 _ _ _ hr']; rfl
  have r2 : ((w.alloc (.cells #[.int .i64 n, .iface T fx] 159)).alloc (.cells #[.int .i64 0, .int .i64 0, .slice none 0 0, .slice none 0 0] 46)).drew.cell? ⟨w.heap.size + 1, 2, none⟩ = some (.slice none 0 0) := by rw [cell_of_row _ (w.heap.size + 1) 2 _ _ _ hr']; rfl
  have r3 : ((w.alloc (.cells #[.int .i64 n, .iface T fx] 159)).alloc (.cells #[.int .i64 0, .int .i64 0, .slice none 0 0, .slice none 0 0] 46)).drew.cell? ⟨w.heap.size + 1, 3, none⟩ = some (.slice none 0 0) := by rw [cell_of_row _ (w.heap.size + 1) 3 _ _ _ hr']; rfl
  have z0 : ((w.alloc (.cells #[.int .i64 n, .iface T fx] 159)).alloc (.cells #[.int .i64 0, .int .i64 0, .slice none 0 0, .slice none 0 0] 46)).drew.frozen? ⟨w.heap.size + 1, 0, none⟩ = false := frozen_of_row _ (w.heap.size + 1) 0 _ _ hr'
  have z1 : ((w.alloc (.cells #[.int .i64 n, .iface T fx] 159)).alloc (.cells #[.int .i64 0, .int .i64 0, .slice none 0 0, .slice none 0 0] 46)).drew.frozen? ⟨w.heap.size + 1, 1, none⟩ = false := frozen_of_row _ (w.heap.size + 1) 1 _ _ hr'
  have z2 : ((w.alloc (.cells #[.int .i64 n, .iface T fx] 159)).alloc (.cells #[.int .i64 0, .int .i64 0, .slice none 0 0, .slice none 0 0] 46)).drew.frozen? ⟨w.heap.size + 1, 2, none⟩ = false := frozen_of_row _ (w.heap.size + 1) 2 _ _ hr'
  have z3 : ((w.alloc (.cells #[.int .i64 n, .iface T fx] 159)).alloc (.cells #[.int .i64 0, .int .i64 0, .slice none 0 0, .slice none 0 0] 46)).drew.frozen? ⟨w.heap.size + 1, 3, none⟩ = false := frozen_of_row _ (w.heap.size + 1) 3 _ _ hr'
  have hsz1 : w.heap.size + 1 < ((w.alloc (.cells #[.int .i64 n, .iface T fx] 159)).alloc (.cells #[.int .i64 0, .int .i64 0, .slice none 0 0, .slice none 0 0] 46)).drew.heap.size := by
    have := hdw.size
    rw [World.size_alloc, World.size_alloc] at this
    omega
  have hsz : w.heap.size < ((w.alloc (.cells #[.int .i64 n, .iface T fx] 159)).alloc (.cells #[.int .i64 0, .int .i64 0, .slice none 0 0, .slice none 0 0] 46)).drew.heap.size := by omega
  have HB := Lib.hid hbd
  clear ih hr' ha' hb0 hdw hbd
  go_enter Tryz.func257, Tryz.ntmps257
  go_wp2
  go_region_held3 (fun w' => w'.cell? ⟨w.heap.size, 0, none⟩ = some (.int .i64 n) ∧ w'.cell? ⟨w.heap.size, 1, none⟩ = some (.iface T fx))
    (first | ((try dsimp only); (with_reducible exact ⟨by assumption, by assumption⟩)) | go_keep)
    ((refine hct.mono ?_; rintro e w2 ⟨A1, c1, A2, c2, T1, rfl, hT1, hTC, hb2⟩; have hlt2 := Nat.lt_of_lt_of_le hsz1 hb2.size; have hne2 : w.heap.size + 1 ≠ w2.heap.size := Nat.ne_of_lt hlt2; have hne1 : w.heap.size ≠ w2.heap.size := Nat.ne_of_lt (Nat.lt_of_succ_lt hlt2); have b0' := (hb2.cell (p := ⟨w.heap.size, 0, none⟩) hsz).trans b0; have b1' := (hb2.cell (p := ⟨w.heap.size, 1, none⟩) hsz).trans b1; have r0' := (hb2.cell (p := ⟨w.heap.size + 1, 0, none⟩) hsz1).trans r0; have r1' := (hb2.cell (p := ⟨w.heap.size + 1, 1, none⟩) hsz1).trans r1; have r2' := (hb2.cell (p := ⟨w.heap.size + 1, 2, none⟩) hsz1).trans r2; have r3' := (hb2.cell (p := ⟨w.heap.size + 1, 3, none⟩) hsz1).trans r3; have z0' := (hb2.frozen (p := ⟨w.heap.size + 1, 0, none⟩) hsz1).trans z0; have z1' := (hb2.frozen (p := ⟨w.heap.size + 1, 1, none⟩) hsz1).trans z1; have z2' := (hb2.frozen (p := ⟨w.heap.size + 1, 2, none⟩) hsz1).trans z2; have z3' := (hb2.frozen (p := ⟨w.heap.size + 1, 3, none⟩) hsz1).trans z3))
  have hs1 := HB.out.size
  have hTb : ∀ b ∈ T1, w.heap.size + 2 ≤ b := fun b hb => by
    have h1 := hTC b hb
    omega
  have hpost : TmOut (.mk 3 n [] [k]) w (.returned (.agg #[.int .i64 3, .int .i64 n, .slice none 0 0, .slice (some ⟨w2.heap.size, 0, none⟩) 1 1])) (((((w2.setCell ⟨w.heap.size + 1, 0, none⟩ (.int .i64 3)).setCell ⟨w.heap.size + 1, 1, none⟩ (.int .i64 n)).setCell ⟨w.heap.size + 1, 2, none⟩ (.slice none 0 0)).setCell ⟨w.heap.size + 1, 3, none⟩ (.slice (some ⟨w2.heap.size, 0, none⟩) 1 1)).alloc (.cells #[.int .i64 k.op, .int .i64 k.num, .slice A1 k.perm.length c1, .slice A2 k.kids.length c2] 46)) := by
    have hTl : ∀ b ∈ T1, b < w2.heap.size := fun b hb => hT1.lt b hb
    have hL4 : OwnL ((((w2.setCell ⟨w.heap.size + 1, 0, none⟩ (.int .i64 3)).setCell ⟨w.heap.size + 1, 1, none⟩ (.int .i64 n)).setCell ⟨w.heap.size + 1, 2, none⟩ (.slice none 0 0)).setCell ⟨w.heap.size + 1, 3, none⟩ (.slice (some ⟨w2.heap.size, 0, none⟩) 1 1)) T1 [.int .i64 k.op, .int .i64 k.num, .slice A1 k.perm.length c1, .slice A2 k.kids.length c2] (encT k) := set4_own hT1 (fun b hb => by have := hTb b hb; omega) _ _ _ _
    have hsz4 : ((((w2.setCell ⟨w.heap.size + 1, 0, none⟩ (.int .i64 3)).setCell ⟨w.heap.size + 1, 1, none⟩ (.int .i64 n)).setCell ⟨w.heap.size + 1, 2, none⟩ (.slice none 0 0)).setCell ⟨w.heap.size + 1, 3, none⟩ (.slice (some ⟨w2.heap.size, 0, none⟩) 1 1)).heap.size = w2.heap.size := by simp
    have hL5 := hL4.alike (w' := ((((w2.setCell ⟨w.heap.size + 1, 0, none⟩ (.int .i64 3)).setCell ⟨w.heap.size + 1, 1, none⟩ (.int .i64 n)).setCell ⟨w.heap.size + 1, 2, none⟩ (.slice none 0 0)).setCell ⟨w.heap.size + 1, 3, none⟩ (.slice (some ⟨w2.heap.size, 0, none⟩) 1 1)).alloc (.cells #[.int .i64 k.op, .int .i64 k.num, .slice A1 k.perm.length c1, .slice A2 k.kids.length c2] 46)) (fun b hb => Below.heap_alloc _ _ _ (by rw [hsz4]; exact hTl b hb))
    have h9 := World.ownsRow_lit (base := 0) (e := 46) (size := 4) ((((w2.setCell ⟨w.heap.size + 1, 0, none⟩ (.int .i64 3)).setCell ⟨w.heap.size + 1, 1, none⟩ (.int .i64 n)).setCell ⟨w.heap.size + 1, 2, none⟩ (.slice none 0 0)).setCell ⟨w.heap.size + 1, 3, none⟩ (.slice (some ⟨w2.heap.size, 0, none⟩) 1 1)) #[.int .i64 k.op, .int .i64 k.num, .slice A1 k.perm.length c1, .slice A2 k.kids.length c2] 1 (Nat.zero_le _) (by decide) rfl
    rw [hsz4] at h9
    have hk4 := own_of_terms (ts := [k]) rfl h9 (by rw [encTs, encTs, List.append_nil]; exact hL5) (fun hm => by have := hTl _ hm; omega)
    have hL := own_four (o := 3) (n := n) own_none hk4 (fun b hb => by simp at hb)
    have hbel := set4_below (HB.out.trans (hb2.mono hs1)) (show w.heap.size ≤ w.heap.size + 1 by omega) (.int .i64 3) (.int .i64 n) (.slice none 0 0) (.slice (some ⟨w2.heap.size, 0, none⟩) 1 1)
    refine ⟨none, 0, some ⟨w2.heap.size, 0, none⟩, 1, _, rfl, hL, fun b hb => ?_, hbel.alloc hbel.size _⟩
    simp only [List.nil_append, List.append_nil, List.mem_cons] at hb
    rcases hb with rfl | hb
    · omega
    · have := hTb b hb; omega
  have hsz4 : ((((w2.setCell ⟨w.heap.size + 1, 0, none⟩ (.int .i64 3)).setCell ⟨w.heap.size + 1, 1, none⟩ (.int .i64 n)).setCell ⟨w.heap.size + 1, 2, none⟩ (.slice none 0 0)).setCell ⟨w.heap.size + 1, 3, none⟩ (.slice (some ⟨w2.heap.size, 0, none⟩) 1 1)).heap.size = w2.heap.size := by simp
  have hbx : Below ((((w2.setCell ⟨w.heap.size + 1, 0, none⟩ (.int .i64 3)).setCell ⟨w.heap.size + 1, 1, none⟩ (.int .i64 n)).setCell ⟨w.heap.size + 1, 2, none⟩ (.slice none 0 0)).setCell ⟨w.heap.size + 1, 3, none⟩ (.slice (some ⟨w2.heap.size, 0, none⟩) 1 1)).heap.size ((((w2.setCell ⟨w.heap.size + 1, 0, none⟩ (.int .i64 3)).setCell ⟨w.heap.size + 1, 1, none⟩ (.int .i64 n)).setCell ⟨w.heap.size + 1, 2, none⟩ (.slice none 0 0)).setCell ⟨w.heap.size + 1, 3, none⟩ (.slice (some ⟨w2.heap.size, 0, none⟩) 1 1)) (((((w2.setCell ⟨w.heap.size + 1, 0, none⟩ (.int .i64 3)).setCell ⟨w.heap.size + 1, 1, none⟩ (.int .i64 n)).setCell ⟨w.heap.size + 1, 2, none⟩ (.slice none 0 0)).setCell ⟨w.heap.size + 1, 3, none⟩ (.slice (some ⟨w2.heap.size, 0, none⟩) 1 1)).alloc (.cells #[.int .i64 k.op, .int .i64 k.num, .slice A1 k.perm.length c1, .slice A2 k.kids.length c2] 46)) := (Below.refl _ _).alloc (Nat.le_refl _) _
  have f0 : (((((w2.setCell ⟨w.heap.size + 1, 0, none⟩ (.int .i64 3)).setCell ⟨w.heap.size + 1, 1, none⟩ (.int .i64 n)).setCell ⟨w.heap.size + 1, 2, none⟩ (.slice none 0 0)).setCell ⟨w.heap.size + 1, 3, none⟩ (.slice (some ⟨w2.heap.size, 0, none⟩) 1 1)).alloc (.cells #[.int .i64 k.op, .int .i64 k.num, .slice A1 k.perm.length c1, .slice A2 k.kids.length c2] 46)).cell? ⟨w.heap.size + 1, 0, none⟩ = some (.int .i64 3) := (hbx.cell (p := ⟨w.heap.size + 1, 0, none⟩) (by rw [hsz4]; exact hlt2)).trans (by simp [go_sem, r0'])
  have f1 : (((((w2.setCell ⟨w.heap.size + 1, 0, none⟩ (.int .i64 3)).setCell ⟨w.heap.size + 1, 1, none⟩ (.int .i64 n)).setCell ⟨w.heap.size + 1, 2, none⟩ (.slice none 0 0)).setCell ⟨w.heap.size + 1, 3, none⟩ (.slice (some ⟨w2.heap.size, 0, none⟩) 1 1)).alloc (.cells #[.int .i64 k.op, .int .i64 k.num, .slice A1 k.perm.length c1, .slice A2 k.kids.length c2] 46)).cell? ⟨w.heap.size + 1, 1, none⟩ = some (.int .i64 n) := (hbx.cell (p := ⟨w.heap.size + 1, 1, none⟩) (by rw [hsz4]; exact hlt2)).trans (by simp [go_sem, r1'])
  have f2 : (((((w2.setCell ⟨w.heap.size + 1, 0, none⟩ (.int .i64 3)).setCell ⟨w.heap.size + 1, 1, none⟩ (.int .i64 n)).setCell ⟨w.heap.size + 1, 2, none⟩ (.slice none 0 0)).setCell ⟨w.heap.size + 1, 3, none⟩ (.slice (some ⟨w2.heap.size, 0, none⟩) 1 1)).alloc (.cells #[.int .i64 k.op, .int .i64 k.num, .slice A1 k.perm.length c1, .slice A2 k.kids.length c2] 46)).cell? ⟨w.heap.size + 1, 2, none⟩ = some (.slice none 0 0) := (hbx.cell (p := ⟨w.heap.size + 1, 2, none⟩) (by rw [hsz4]; exact hlt2)).trans (by simp [go_sem, r2'])
  have f3 : (((((w2.setCell ⟨w.heap.size + 1, 0, none⟩ (.int .i64 3)).setCell ⟨w.heap.size + 1, 1, none⟩ (.int .i64 n)).setCell ⟨w.heap.size + 1, 2, none⟩ (.slice none 0 0)).setCell ⟨w.heap.size + 1, 3, none⟩ (.slice (some ⟨w2.heap.size, 0, none⟩) 1 1)).alloc (.cells #[.int .i64 k.op, .int .i64 k.num, .slice A1 k.perm.length c1, .slice A2 k.kids.length c2] 46)).cell? ⟨w.heap.size + 1, 3, none⟩ = some (.slice (some ⟨w2.heap.size, 0, none⟩) 1 1) := (hbx.cell (p := ⟨w.heap.size + 1, 3, none⟩) (by rw [hsz4]; exact hlt2)).trans (by simp [go_sem, r3'])
  clear hsz4 hbx hT1 hTC hb2 HB hTb hs1 hm hn hct b0 b1 r0 r1 r2 r3 z0 z1 z2 z3
  go_wp2
  exact bodyPost_ret (v := .agg #[.int .i64 3, .int .i64 n, .slice none 0 0, .slice (some ⟨w2.heap.size, 0, none⟩) 1 1]) (by simp [results, Tryz.results257, go_sem, f0, f1, f2, f3]) rfl hpost

set_option maxRecDepth 100000 in
set_option maxHeartbeats 4000000 in
theorem term_hole (n : Int) (A : Option Addr) (c : Nat) (p : List (Int × Int)) (w : World) (hp : PairsAt w A p) (hl : p.length ≤ 1048576) :
    Calls Tryz.prog 239 #[.agg #[.int .i64 n, .slice A p.length c]] w (TmOut (.mk 4 n p []) w) := by
  have hb0 : Below w.heap.size w ((w.alloc (.cells #[.int .i64 n, .slice A p.length c] 135)).alloc (.cells #[.int .i64 0, .int .i64 0, .slice none 0 0, .slice none 0 0] 46)) := ((Below.refl _ _).alloc (Nat.le_refl _) _).alloc (by simp) _
  have hdw : Below ((w.alloc (.cells #[.int .i64 n, .slice A p.length c] 135)).alloc (.cells #[.int .i64 0, .int .i64 0, .slice none 0 0, .slice none 0 0] 46)).heap.size ((w.alloc (.cells #[.int .i64 n, .slice A p.length c] 135)).alloc (.cells #[.int .i64 0, .int .i64 0, .slice none 0 0, .slice none 0 0] 46)) ((w.alloc (.cells #[.int .i64 n, .slice A p.length c] 135)).alloc (.cells #[.int .i64 0, .int .i64 0, .slice none 0 0, .slice none 0 0] 46)).drew := ⟨rfl, rfl, rfl, Nat.le_refl _, fun _ _ => rfl⟩
  have hbd := hb0.trans (hdw.mono hb0.size)
  have hct := clone_any A c p _ (hp.below hbd) hl
  obtain ⟨hr', ha'⟩ := box_row hdw
  have b0 : ((w.alloc (.cells #[.int .i64 n, .slice A p.length c] 135)).alloc (.cells #[.int .i64 0, .int .i64 0, .slice none 0 0, .slice none 0 0] 46)).drew.cell? ⟨w.heap.size, 0, none⟩ = some (.int .i64 n) := by rw [cell_of_row _ w.heap.size 0 _ _ _ ha']; rfl
  have b1 : ((w.alloc (.cells #[.int .i64 n, .slice A p.length c] 135)).alloc (.cells #[.int .i64 0, .int .i64 0, .slice none 0 0, .slice none 0 0] 46)).drew.cell? ⟨w.heap.size, 1, none⟩ = some (.slice A p.length c) := by rw [cell_of_row _ w.heap.size 1 _ _ _ ha']; rfl
  have r0 : ((w.alloc (.cells #[.int .i64 n, .slice A p.length c] 135)).alloc (.cells #[.int .i64 0, .int .i64 0, .slice none 0 0, .slice none 0 0] 46)).drew.cell? ⟨w.heap.size + 1, 0, none⟩ = some (.int .i64 0) := by rw [cell_of_row _ (w.heap.size + 1) 0 _ _ _ hr']; rfl
  have r1 : ((w.alloc (.cells #[.int .i64 n, .slice A p.length c] 135)).alloc (.cells #[.int .i64 0, .int .i64 0, .slice none 0 0, .slice none 0 0] 46)).drew.cell? ⟨w.heap.size + 1, 1, none⟩ = some (.int .i64 0) := by rw [cell_of_row _ (w.heap.size + 1) 1 _ _ _ hr']; rfl
  have r2 : ((w.alloc (.cells #[.int .i64 n, .slice A p.length c] 135)).alloc (.cells #[.int .i64 0, .int .i64 0, .slice none 0 0, .slice none 0 0] 46)).drew.cell? ⟨w.heap.size + 1, 2, none⟩ = some (.slice none 0 0) := by rw [cell_of_row _ (w.heap.size + 1) 2 _ _ _ hr']; rfl
  have r3 : ((w.alloc (.cells #[.int .i64 n, .slice A p.length c] 135)).alloc (.cells #[.int .i64 0, .int .i64 0, .slice none 0 0, .slice none 0 0] 46)).drew.cell? ⟨w.heap.size + 1, 3, none⟩ = some (.slice none 0 0) := by rw [cell_of_row _ (w.heap.size + 1) 3 _ _ _ hr']; rfl
  have z0 : ((w.alloc (.cells #[.int .i64 n, .slice A p.length c] 135)).alloc (.cells #[.int .i64 0, .int .i64 0, .slice none 0 0, .slice none 0 0] 46)).drew.frozen? ⟨w.heap.size + 1, 0, none⟩ = false := frozen_of_row _ (w.heap.size + 1) 0 _ _ hr'
  have z1 : ((w.alloc (.cells #[.int .i64 n, .slice A p.length c] 135)).alloc (.cells #[.int .i64 0, .int .i64 0, .slice none 0 0, .slice none 0 0] 46)).drew.frozen? ⟨w.heap.size + 1, 1, none⟩ = false := frozen_of_row _ (w.heap.size + 1) 1 _ _ hr'
  have z2 : ((w.alloc (.cells #[.int .i64 n, .slice A p.length c] 135)).alloc (.cells #[.int .i64 0, .int .i64 0, .slice none 0 0, .slice none 0 0] 46)).drew.frozen? ⟨w.heap.size + 1, 2, none⟩ = false := frozen_of_row _ (w.heap.size + 1) 2 _ _ hr'
  have z3 : ((w.alloc (.cells #[.int .i64 n, .slice A p.length c] 135)).alloc (.cells #[.int .i64 0, .int .i64 0, .slice none 0 0, .slice none 0 0] 46)).drew.frozen? ⟨w.heap.size + 1, 3, none⟩ = false := frozen_of_row _ (w.heap.size + 1) 3 _ _ hr'
  have hsz1 : w.heap.size + 1 < ((w.alloc (.cells #[.int .i64 n, .slice A p.length c] 135)).alloc (.cells #[.int .i64 0, .int .i64 0, .slice none 0 0, .slice none 0 0] 46)).drew.heap.size := by
    have := hdw.size
    rw [World.size_alloc, World.size_alloc] at this
    omega
  have hsz : w.heap.size < ((w.alloc (.cells #[.int .i64 n, .slice A p.length c] 135)).alloc (.cells #[.int .i64 0, .int .i64 0, .slice none 0 0, .slice none 0 0] 46)).drew.heap.size := by omega
  have HB := Lib.hid hbd
  clear hr' ha' hb0 hdw hbd hp
  go_enter Tryz.func239, Tryz.ntmps239
  go_wp2
  go_region_held3 (fun w' => w'.cell? ⟨w.heap.size, 0, none⟩ = some (.int .i64 n) ∧ w'.cell? ⟨w.heap.size, 1, none⟩ = some (.slice A p.length c))
    (first | ((try dsimp only); (with_reducible exact ⟨by assumption, by assumption⟩)) | go_keep)
    ((refine hct.mono ?_; rintro e w2 ⟨A1, c1, rfl, hown, hb2⟩; have hlt2 := Nat.lt_of_lt_of_le hsz1 hb2.size; have b0' := (hb2.cell (p := ⟨w.heap.size, 0, none⟩) hsz).trans b0; have b1' := (hb2.cell (p := ⟨w.heap.size, 1, none⟩) hsz).trans b1; have r0' := (hb2.cell (p := ⟨w.heap.size + 1, 0, none⟩) hsz1).trans r0; have r1' := (hb2.cell (p := ⟨w.heap.size + 1, 1, none⟩) hsz1).trans r1; have r2' := (hb2.cell (p := ⟨w.heap.size + 1, 2, none⟩) hsz1).trans r2; have r3' := (hb2.cell (p := ⟨w.heap.size + 1, 3, none⟩) hsz1).trans r3; have z0' := (hb2.frozen (p := ⟨w.heap.size + 1, 0, none⟩) hsz1).trans z0; have z1' := (hb2.frozen (p := ⟨w.heap.size + 1, 1, none⟩) hsz1).trans z1; have z2' := (hb2.frozen (p := ⟨w.heap.size + 1, 2, none⟩) hsz1).trans z2; have z3' := (hb2.frozen (p := ⟨w.heap.size + 1, 3, none⟩) hsz1).trans z3))
  have hs1 := HB.out.size
  have hpost : TmOut (.mk 4 n p []) w (.returned (.agg #[.int .i64 4, .int .i64 n, .slice A1 p.length c1, .slice none 0 0])) ((((w2.setCell ⟨w.heap.size + 1, 0, none⟩ (.int .i64 4)).setCell ⟨w.heap.size + 1, 1, none⟩ (.int .i64 n)).setCell ⟨w.heap.size + 1, 2, none⟩ (.slice A1 p.length c1)).setCell ⟨w.heap.size + 1, 3, none⟩ (.slice none 0 0)) := by
    obtain ⟨S, hS, hSb, _⟩ := own_pairMem hown
    have hL := own_four (o := 4) (n := n) hS own_nokids (fun b _ h => by simp at h)
    have hSb2 : ∀ b ∈ S ++ ([] ++ []), w.heap.size + 2 ≤ b := fun b hb => by
      simp only [List.append_nil] at hb
      have h1 := hSb b hb
      omega
    exact ⟨A1, c1, none, 0, _, rfl, set4_own hL (fun b hb => by have := hSb2 b hb; omega) _ _ _ _, fun b hb => by have := hSb2 b hb; omega, set4_below (HB.out.trans (hb2.mono hs1)) (by omega) _ _ _ _⟩
  clear hown hb2 HB hs1 hct b0 b1 r0 r1 r2 r3 z0 z1 z2 z3
  go_wp2
  exact bodyPost_ret (v := .agg #[.int .i64 4, .int .i64 n, .slice A1 p.length c1, .slice none 0 0]) (by simp [results, Tryz.results239, go_sem, r0', r1', r2', r3']) rfl hpost

/-- The term of a form. -/
theorem term_any : ∀ (N : Nat) (t : Tm), szT t ≤ N → N ≤ 1048576 → OkP 1048576 t → ∀ (q : Nat → Prop) (w : World) (fx : Value), FIn w q (.iface (fty t) fx) t → Calls Tryz.prog (termF t) #[fx] w (TmOut t w) := by
  intro N
  induction N with
  | zero => intro t h; rw [szT_eq] at h; omega
  | succ N ih =>
    intro t hN hM hok q w fx h
    rcases form_cases h with ⟨n, rfl, rfl⟩ | ⟨n, b, off, c, xs, ks, rfl, rfl, _, hb, hc, hxs⟩ | ⟨n, v, k, rfl, rfl, hk⟩ | ⟨n, A, c, p, rfl, rfl, hp, _⟩
    · rw [termF_1]
      exact term_atom n w
    · rw [termF_2]
      rw [szT_eq, kids_mk] at hN
      have hkl := len_szTs ks
      refine term_node n b off c xs ks q w hb hc hxs (by omega) fun i hi w' y hy => ih _ ?_ (by omega) (okP_at hok.2.2 hi) q w' y hy
      have := szT_at hi
      omega
    · rw [termF_3]
      obtain ⟨fx, rfl⟩ := hk.iface
      rw [szT_eq, kids_mk, szTs, szTs] at hN
      exact term_bind n fx k w fun w' hb => ih k (by omega) (by omega) hok.2.2.1 q w' fx (hk.keep hb)
    · rw [termF_4]
      exact term_hole n A c p w hp hok.2.1
end

section
open Go.RowKit Go.Sort
set_option linter.unusedVariables false

/-- A term whose slices are of the call's own, and a word. -/
def TmOutB (t : Tm) (b : Bool) (w : World) (e : Ending) (w' : World) : Prop :=
  ∃ A1 c1 A2 c2 S, e = .returned (.tuple #[.agg #[.int .i64 t.op, .int .i64 t.num, .slice A1 t.perm.length c1, .slice A2 t.kids.length c2], .bool b]) ∧
    OwnL w' S [.int .i64 t.op, .int .i64 t.num, .slice A1 t.perm.length c1, .slice A2 t.kids.length c2] (encT t) ∧ (∀ b ∈ S, w.heap.size ≤ b) ∧ Below w.heap.size w w'

/-- A term, or nothing. -/
def orT (t : Tm) (b : Bool) : Tm := if b then t else tm0
theorem orT_yes (t : Tm) : orT t true = t := rfl
theorem orT_no (t : Tm) : orT t false = tm0 := rfl

mutual
theorem cnt_ok {M : Nat} : ∀ {t : Tm}, OkP M t → cntT t + 1 ≤ (M + 1) * szT t
  | .mk o n p ks, h => by
    have h1 := cnts_ok h.2.2
    have h2 := h.2.1
    rw [cntT, szT, Nat.mul_add, Nat.mul_one]
    omega
theorem cnts_ok {M : Nat} : ∀ {ts : List Tm}, OkPs M ts → ts.length + sumT ts ≤ (M + 1) * szTs ts
  | [], _ => by simp [sumT, szTs]
  | t :: r, h => by
    have h1 := cnt_ok h.1
    have h2 := cnts_ok h.2
    rw [sumT, szTs, List.length_cons, Nat.mul_add]
    omega
end

theorem tm_box {w : World} {t : Tm} {A1 A2 : Option Addr} {c1 c2 : Nat} {S : List Nat} (h : OwnL w S [.int .i64 t.op, .int .i64 t.num, .slice A1 t.perm.length c1, .slice A2 t.kids.length c2] (encT t)) :
    TmIn w (.agg #[.int .i64 t.op, .int .i64 t.num, .slice A1 t.perm.length c1, .slice A2 t.kids.length c2]) t := tmOut_in h

set_option maxRecDepth 100000 in
set_option maxHeartbeats 4000000 in
theorem ifAny_any (t : Tm) (q : Nat → Prop) (fv : Value) (w : World) (hf : FIn w q fv t) (hsz : szT t ≤ 1048576) (hok : OkP 1048576 t) (hfit : Fit t) :
    Calls Tryz.prog 58 #[fv] w (TmOutB (orT t (isTermB t)) (isTermB t) w) := by
  obtain ⟨fx, rfl⟩ := hf.iface
  have hb0 : Below w.heap.size w (w.alloc (.cells #[.int .i64 0, .int .i64 0, .slice none 0 0, .slice none 0 0] 46)) := (Below.refl _ _).alloc (Nat.le_refl _) _
  have hct := term_any (szT t) t (Nat.le_refl _) hsz hok q _ fx (hf.keep hb0)
  have hm := askTerm t
  have hn := enterTerm t
  have HF := Lib.hid hfit
  generalize termF t = F at hm hn hct
  generalize fty t = T at *
  clear hf hok hfit
  go_enter Tryz.func58, Tryz.ntmps58
  go_wp2_with fail
  refine hct.mono ?_
  rintro e w2 ⟨A1, c1, A2, c2, S, rfl, hL, hSC, hb2⟩
  have hb02 := hb0.trans (hb2.mono hb0.size)
  have hbx : Below w2.heap.size w2 (w2.alloc (.cells #[.int .i64 t.op, .int .i64 t.num, .slice A1 t.perm.length c1, .slice A2 t.kids.length c2] 46)) := (Below.refl _ _).alloc (Nat.le_refl _) _
  have hrow2 := (hb2.block w.heap.size (by simp)).trans (heap_alloc_new w (.cells #[.int .i64 0, .int .i64 0, .slice none 0 0, .slice none 0 0] 46))
  have hlt2 : w.heap.size < w2.heap.size := by have := hb2.size; rw [World.size_alloc] at this; omega
  have hist := isTerm_impl t _ _ ((tm_box hL).below hbx) HF.out
  have hSR : ∀ b ∈ S, w.heap.size + 1 ≤ b := fun b hb => by have := hSC b hb; rw [World.size_alloc] at this; exact this
  clear hct hm hn hb2 hb0 hSC
  by_cases ht : isTermB t = true
  · have HT := Lib.hid ht
    rw [ht] at hist
    clear ht
    go_wp2_with fail
    refine hist.mono ?_
    rintro e w3 ⟨rfl, hb3⟩
    obtain ⟨d0, d1, d2, d3⟩ := box4 hb3
    have hb23 := hbx.trans (hb3.mono hbx.size)
    have hrow := (hb23.block w.heap.size hlt2).trans hrow2
    have r0 : w3.cell? ⟨w.heap.size, 0, none⟩ = some (.int .i64 0) := by rw [cell_of_row _ w.heap.size 0 _ _ _ hrow]; rfl
    have r1 : w3.cell? ⟨w.heap.size, 1, none⟩ = some (.int .i64 0) := by rw [cell_of_row _ w.heap.size 1 _ _ _ hrow]; rfl
    have r2 : w3.cell? ⟨w.heap.size, 2, none⟩ = some (.slice none 0 0) := by rw [cell_of_row _ w.heap.size 2 _ _ _ hrow]; rfl
    have r3 : w3.cell? ⟨w.heap.size, 3, none⟩ = some (.slice none 0 0) := by rw [cell_of_row _ w.heap.size 3 _ _ _ hrow]; rfl
    have z0 : w3.frozen? ⟨w.heap.size, 0, none⟩ = false := frozen_of_row _ w.heap.size 0 _ _ hrow
    have z1 : w3.frozen? ⟨w.heap.size, 1, none⟩ = false := frozen_of_row _ w.heap.size 1 _ _ hrow
    have z2 : w3.frozen? ⟨w.heap.size, 2, none⟩ = false := frozen_of_row _ w.heap.size 2 _ _ hrow
    have z3 : w3.frozen? ⟨w.heap.size, 3, none⟩ = false := frozen_of_row _ w.heap.size 3 _ _ hrow
    have hL3 := hL.alike (w' := w3) (fun b hb => hb23.block b (hL.lt b hb))
    have hpost : TmOutB t true w (.returned (.tuple #[.agg #[.int .i64 t.op, .int .i64 t.num, .slice A1 t.perm.length c1, .slice A2 t.kids.length c2], .bool true])) ((((w3.setCell ⟨w.heap.size, 0, none⟩ (.int .i64 t.op)).setCell ⟨w.heap.size, 1, none⟩ (.int .i64 t.num)).setCell ⟨w.heap.size, 2, none⟩ (.slice A1 t.perm.length c1)).setCell ⟨w.heap.size, 3, none⟩ (.slice A2 t.kids.length c2)) :=
      ⟨A1, c1, A2, c2, S, rfl, set4_own hL3 (fun b hb => by have := hSR b hb; omega) _ _ _ _, fun b hb => by have := hSR b hb; omega, set4_below (hb02.trans (hb23.mono hb02.size)) (Nat.le_refl _) _ _ _ _⟩
    clear hist hL hSR hrow2 hrow hL3 hb02 hb23 hbx hb3 HF
    go_wp2
    exact bodyPost_ret (v := .tuple #[.agg #[.int .i64 t.op, .int .i64 t.num, .slice A1 t.perm.length c1, .slice A2 t.kids.length c2], .bool true]) (by simp [results, Tryz.results58, go_sem, r0, r1, r2, r3]) rfl (by rw [HT.out, orT_yes]; exact hpost)
  · have ht' : isTermB t = false := by simpa using ht
    have HT := Lib.hid ht'
    rw [ht'] at hist
    clear ht ht'
    go_wp2_with fail
    refine hist.mono ?_
    rintro e w3 ⟨rfl, hb3⟩
    have hb23 := hbx.trans (hb3.mono hbx.size)
    have hrow := (hb23.block w.heap.size hlt2).trans hrow2
    have r0 : w3.cell? ⟨w.heap.size, 0, none⟩ = some (.int .i64 0) := by rw [cell_of_row _ w.heap.size 0 _ _ _ hrow]; rfl
    have r1 : w3.cell? ⟨w.heap.size, 1, none⟩ = some (.int .i64 0) := by rw [cell_of_row _ w.heap.size 1 _ _ _ hrow]; rfl
    have r2 : w3.cell? ⟨w.heap.size, 2, none⟩ = some (.slice none 0 0) := by rw [cell_of_row _ w.heap.size 2 _ _ _ hrow]; rfl
    have r3 : w3.cell? ⟨w.heap.size, 3, none⟩ = some (.slice none 0 0) := by rw [cell_of_row _ w.heap.size 3 _ _ _ hrow]; rfl
    have z0 : w3.frozen? ⟨w.heap.size, 0, none⟩ = false := frozen_of_row _ w.heap.size 0 _ _ hrow
    have z1 : w3.frozen? ⟨w.heap.size, 1, none⟩ = false := frozen_of_row _ w.heap.size 1 _ _ hrow
    have z2 : w3.frozen? ⟨w.heap.size, 2, none⟩ = false := frozen_of_row _ w.heap.size 2 _ _ hrow
    have z3 : w3.frozen? ⟨w.heap.size, 3, none⟩ = false := frozen_of_row _ w.heap.size 3 _ _ hrow
    have hpost : TmOutB tm0 false w (.returned (.tuple #[.agg #[.int .i64 0, .int .i64 0, .slice none 0 0, .slice none 0 0], .bool false])) ((((w3.setCell ⟨w.heap.size, 0, none⟩ (.int .i64 0)).setCell ⟨w.heap.size, 1, none⟩ (.int .i64 0)).setCell ⟨w.heap.size, 2, none⟩ (.slice none 0 0)).setCell ⟨w.heap.size, 3, none⟩ (.slice none 0 0)) :=
      ⟨none, 0, none, 0, _, rfl, own_four own_none own_nokids (fun b hb => by simp at hb), fun b hb => by simp at hb, set4_below (hb02.trans (hb23.mono hb02.size)) (Nat.le_refl _) _ _ _ _⟩
    clear hist hL hSR hrow2 hrow hb02 hb23 hbx hb3 HF
    go_wp2
    exact bodyPost_ret (v := .tuple #[.agg #[.int .i64 0, .int .i64 0, .slice none 0 0, .slice none 0 0], .bool false]) (by simp [results, Tryz.results58, go_sem, r0, r1, r2, r3]) rfl (by rw [HT.out, orT_no]; exact hpost)
end
end Go.Proofs.YtlhjgjfnmejiaaaGreat
end

section
namespace Go.Proofs.YtlhjgjfnmejiaaaGreat
open Go.RowKit Go.Sort
set_option linter.unusedVariables false

theorem actF_1 (n : Int) : actF (.mk 1 n [] []) = 246 := rfl
theorem actF_2 (n : Int) (ks : List Tm) : actF (.mk 2 n [] ks) = 250 := rfl
theorem actF_3 (n : Int) (ks : List Tm) : actF (.mk 3 n [] ks) = 255 := rfl
theorem actF_4 (n : Int) (p : List (Int × Int)) : actF (.mk 4 n p []) = 237 := rfl

set_option maxRecDepth 100000 in
theorem act_atom (n : Int) (A : Option Addr) (c : Nat) (p : List (Int × Int)) (w : World) (hp : PairsAt w A p) (hl : p.length ≤ 1048576) (ha : Asc p) :
    Calls Tryz.prog 246 #[.agg #[.int .i64 n], .slice A p.length c] w (FormPost 0 (.mk 1 (imgL p n) [] []) w) := by
  have hb0 : Below w.heap.size w (w.alloc (.cells #[.int .i64 n] 153)) := (Below.refl _ _).alloc (Nat.le_refl _) _
  have him := imageIn_any A c p n _ (hp.below hb0) (by omega) ha
  have HA := Lib.hid ha
  clear ha
  generalize imgL p n = m at him ⊢
  go_enter Tryz.func246, Tryz.ntmps246
  go_wp2_with fail
  refine him.mono ?_
  rintro e w1 ⟨rfl, hb1⟩
  have hpost : FormPost 0 (.mk 1 m [] []) w (.returned (.iface 153 (.agg #[.int .i64 m]))) w1 := ⟨_, rfl, .atom m, hb0.trans (hb1.mono hb0.size)⟩
  clear him hb0 hb1
  go_wp2
  go_ret
  exact hpost

set_option maxRecDepth 100000 in
set_option maxHeartbeats 2000000 in
theorem act_hole (n : Int) (B : Option Addr) (d : Nat) (r : List (Int × Int)) (A : Option Addr) (c : Nat) (p : List (Int × Int)) (w : World) (hp : PairsAt w A p) (hl : p.length ≤ 1048576) (ha : Asc p)
    (hr : PairsAt w B r) (hlr : r.length ≤ 1048576) (har : Asc r) :
    Calls Tryz.prog 237 #[.agg #[.int .i64 n, .slice B r.length d], .slice A p.length c] w (FormPost 0 (.mk 4 n (thenL p r) []) w) := by
  have hb0 : Below w.heap.size w (w.alloc (.cells #[.int .i64 n, .slice B r.length d] 135)) := (Below.refl _ _).alloc (Nat.le_refl _) _
  have hdw : Below (w.alloc (.cells #[.int .i64 n, .slice B r.length d] 135)).heap.size (w.alloc (.cells #[.int .i64 n, .slice B r.length d] 135)) (w.alloc (.cells #[.int .i64 n, .slice B r.length d] 135)).drew := ⟨rfl, rfl, rfl, Nat.le_refl _, fun _ _ => rfl⟩
  have hbd := hb0.trans (hdw.mono hb0.size)
  have hco := composed_any A B c d p r _ (hp.below hbd) (hr.below hbd) hl hlr ha har
  obtain ⟨b0, b1⟩ := box2 hdw
  have hsz : w.heap.size < (w.alloc (.cells #[.int .i64 n, .slice B r.length d] 135)).drew.heap.size := by
    have := hdw.size
    rw [World.size_alloc] at this
    omega
  have HB := Lib.hid hbd
  clear ha har hb0 hdw hbd hp hr
  generalize thenL p r = L at hco ⊢
  go_enter Tryz.func237, Tryz.ntmps237
  go_wp2
  go_region_held3 (fun w' => w'.cell? ⟨w.heap.size, 0, none⟩ = some (.int .i64 n) ∧ w'.cell? ⟨w.heap.size, 1, none⟩ = some (.slice B r.length d))
    (first | ((try dsimp only); exact ⟨by assumption, by assumption⟩) | go_keep)
    ((go_at_call 241; refine hco.mono ?_; rintro e w2 ⟨g2, cap2, rfl, ho2, hb2⟩; have b0' := (hb2.cell (p := ⟨w.heap.size, 0, none⟩) hsz).trans b0; have b1' := (hb2.cell (p := ⟨w.heap.size, 1, none⟩) hsz).trans b1))
  have hpost : FormPost 0 (.mk 4 n L []) w (.returned (.iface 135 (.agg #[.int .i64 n, .slice (some ⟨g2, 0, none⟩) L.length cap2]))) w2 := by
    obtain ⟨A', c', e, hpa⟩ := own_pairsAt ho2
    simp only [Value.slice.injEq] at e
    refine ⟨_, rfl, .hole n rfl (by rw [e.1]; exact hpa) (fun b off _ hA => ?_), HB.out.trans (hb2.mono HB.out.size)⟩
    simp only [Option.some.injEq, Addr.mk.injEq] at hA
    have h1 := (ho2.lt g2 rfl).1
    have h2 := HB.out.size
    exact .inr (by omega)
  clear hco b0 b1 b0' b1' HB ho2 hb2
  go_wp2
  go_ret
  exact hpost

set_option maxRecDepth 100000 in
set_option maxHeartbeats 2000000 in
theorem act_bind (n : Int) (fx : Value) (k : Tm) (A : Option Addr) (c : Nat) (p : List (Int × Int)) (w : World) (hp : PairsAt w A p) (hl : p.length ≤ 1048576) (ha : Asc p)
    (ih : ∀ w' : World, Below w.heap.size w w' → Calls Tryz.prog (actF k) #[fx, .slice A p.length c] w' (FormPost 0 (actT p k) w')) :
    Calls Tryz.prog 255 #[.agg #[.int .i64 n, .iface (fty k) fx], .slice A p.length c] w (FormPost 0 (.mk 3 (imgL p n) [] [actT p k]) w) := by
  have hm := askAct k
  have hn := enterAct k
  generalize actF k = F at hm hn ih
  generalize fty k = T at *
  generalize actT p k = r at *
  have hb0 : Below w.heap.size w (w.alloc (.cells #[.int .i64 n, .iface T fx] 159)) := (Below.refl _ _).alloc (Nat.le_refl _) _
  have hdw : Below (w.alloc (.cells #[.int .i64 n, .iface T fx] 159)).heap.size (w.alloc (.cells #[.int .i64 n, .iface T fx] 159)) (w.alloc (.cells #[.int .i64 n, .iface T fx] 159)).drew := ⟨rfl, rfl, rfl, Nat.le_refl _, fun _ _ => rfl⟩
  have hbd := hb0.trans (hdw.mono hb0.size)
  have him := imageIn_any A c p n _ (hp.below hbd) (by omega) ha
  obtain ⟨b0, b1⟩ := box2 hdw
  have hsz : w.heap.size < (w.alloc (.cells #[.int .i64 n, .iface T fx] 159)).drew.heap.size := by
    have := hdw.size
    rw [World.size_alloc] at this
    omega
  have HB := Lib.hid hbd
  have HI : Hid (∀ w', Below w.heap.size w w' → Calls Tryz.prog F #[fx, .slice A p.length c] w' (FormPost 0 r w')) := Lib.hid ih
  clear ha hb0 hdw hbd hp ih
  generalize imgL p n = m at him ⊢
  go_enter Tryz.func255, Tryz.ntmps255
  go_wp2
  go_region_held3 (fun w' => w'.cell? ⟨w.heap.size, 0, none⟩ = some (.int .i64 n) ∧ w'.cell? ⟨w.heap.size, 1, none⟩ = some (.iface T fx))
    (first | ((try dsimp only); exact ⟨by assumption, by assumption⟩) | go_keep)
    (first
      | (go_at_call 244; refine him.mono ?_; rintro e w2 ⟨rfl, hb2⟩; have b0' := (hb2.cell (p := ⟨w.heap.size, 0, none⟩) hsz).trans b0; have b1' := (hb2.cell (p := ⟨w.heap.size, 1, none⟩) hsz).trans b1; have hsz2 := Nat.lt_of_lt_of_le hsz hb2.size; have HB2 := Lib.hid (HB.out.trans (hb2.mono HB.out.size)))
      | (refine (HI.out w2 HB2.out).mono ?_; rintro e w3 ⟨fv, rfl, hfv, hb3⟩; obtain ⟨fy, rfl⟩ := hfv.iface; have b0'' := (hb3.cell (p := ⟨w.heap.size, 0, none⟩) hsz2).trans b0'; have b1'' := (hb3.cell (p := ⟨w.heap.size, 1, none⟩) hsz2).trans b1'))
  have hpost : FormPost 0 (.mk 3 m [] [r]) w (.returned (.iface 159 (.agg #[.int .i64 m, .iface (fty r) fy]))) w3 :=
    ⟨_, rfl, .bind m (hfv.kind fun b _ h => since_le h HB2.out.size), HB2.out.trans (hb3.mono HB2.out.size)⟩
  clear him HI HB HB2 b0 b1 b0' b1' b0'' b1'' hfv hb2 hb3 hm hn
  go_wp2
  go_ret
  exact hpost

set_option maxRecDepth 100000 in
theorem act_one (B : Nat) (T : TypeId) (fx : Value) (F : FuncId) (R : Ending → World → Prop) (A : Option Addr) (c : Nat) (p : List (Int × Int)) (w : World) (hc : w.cell? ⟨B, 0, none⟩ = some (.slice A p.length c))
    (hm : ∀ (v : Value) (w : World), (method 381 T v "loop.example/g03112/impl.acted").run Tryz.prog w = .ok (F, v) w) (hn : ∀ (args : Array Value) (w : World), (callFunc F args).run Tryz.prog w = .ok (.enter F args) w) (ih : Calls Tryz.prog F #[fx, .slice A p.length c] w (fun e w' => (∃ U y, e = .returned (.iface U y)) ∧ R e w')) :
    Calls Tryz.prog 254 (#[.iface T fx] ++ #[.pointer (some ⟨B, 0, none⟩)]) w R := by
  show Calls Tryz.prog 254 #[.iface T fx, .pointer (some ⟨B, 0, none⟩)] w R
  go_enter Tryz.func254, Tryz.ntmps254
  go_wp2_with fail
  refine ih.mono ?_
  rintro e w2 ⟨⟨U, y, rfl⟩, hR⟩
  have HR := Lib.hid hR
  clear hR ih
  go_wp2
  exact HR.out

set_option maxRecDepth 100000 in
set_option maxHeartbeats 2000000 in
theorem act_node (n : Int) (b off c0 : Nat) (xs : List Value) (ks : List Tm) (q : Nat → Prop) (A : Option Addr) (c : Nat) (p : List (Int × Int)) (w : World) (hbl : b < w.heap.size) (hc : ∀ j u, xs[j]? = some u → w.cell? ⟨b, off + j, none⟩ = some u) (hxs : FsIn w q xs ks) (hlen : ks.length ≤ 1048576)
    (ih : ∀ i, i < ks.length → ∀ (w' : World) (y : Value), Below w.heap.size w w' → FIn w' q (.iface (fty (tmAt ks i)) y) (tmAt ks i) → Calls Tryz.prog (actF (tmAt ks i)) #[y, .slice A p.length c] w' (FormPost 0 (actT p (tmAt ks i)) w')) :
    Calls Tryz.prog 250 #[.agg #[.int .i64 n, .slice (some ⟨b, off, none⟩) ks.length c0], .slice A p.length c] w (FormPost 0 (.mk 2 n [] (actTs p ks)) w) := by
  have hb0 : Below w.heap.size w ((w.alloc (.cells #[.int .i64 n, .slice (some ⟨b, off, none⟩) ks.length c0] 156)).alloc (.cells #[.slice A p.length c] 43)) := ((Below.refl _ _).alloc (Nat.le_refl _) _).alloc (by simp) _
  have hcell : ((w.alloc (.cells #[.int .i64 n, .slice (some ⟨b, off, none⟩) ks.length c0] 156)).alloc (.cells #[.slice A p.length c] 43)).cell? ⟨w.heap.size + 1, 0, none⟩ = some (.slice A p.length c) := by simp
  have eg : ∀ args w, (callFunc 254 args).run Tryz.prog w = .ok (.enter 254 args) w := enters_of Tryz.func254 (by kernel_rfl) rfl
  have hwk := withKids_any n b off c0 xs ks (actTs p ks) q _ 0 254 #[.pointer (some ⟨w.heap.size + 1, 0, none⟩)] (actTs_len p ks) (Nat.zero_le _) eg (Nat.lt_of_lt_of_le hbl hb0.size)
    (fun j u hj => (hb0.cell (p := ⟨b, off + j, none⟩) hbl).trans (hc j u hj)) (hxs.over ⟨hb0.size, fun b _ hl => hb0.block b hl, fun _ h _ => h⟩) hlen
    (fun i hi w' T y hb hf => by
      obtain ⟨y', e⟩ := hf.iface
      injection e with e1 e2
      subst e1; subst e2
      have hb' := hb0.trans (hb.mono hb0.size)
      refine act_one (w.heap.size + 1) _ y (actF (tmAt ks i)) _ A c p w' ((hb.cell (p := ⟨w.heap.size + 1, 0, none⟩) (by simp)).trans hcell) (askAct _) (enterAct _) ((ih i hi w' y hb' hf).mono ?_)
      rintro e w2 ⟨v, rfl, hv, hb2⟩
      obtain ⟨fy, rfl⟩ := hv.iface
      rw [actTs_at p hi]
      exact ⟨⟨_, _, rfl⟩, _, rfl, hv, hb2⟩)
  have HB := Lib.hid hb0
  clear hc hxs ih hcell eg hb0 hbl
  have hal := actTs_len p ks
  generalize actTs p ks = rs at hwk ⊢
  clear hal
  go_enter Tryz.func250, Tryz.ntmps250
  go_wp2_with fail
  refine hwk.mono ?_
  rintro e w2 ⟨g, cap, rfl, hf, hb2⟩
  have hpost : FormPost 0 (.mk 2 n [] rs) w (.returned (.iface 156 (.agg #[.int .i64 n, .slice (some ⟨g, 0, none⟩) rs.length cap]))) w2 :=
    ⟨_, rfl, hf.kind fun b _ h => since_le h HB.out.size, HB.out.trans (hb2.mono HB.out.size)⟩
  clear hwk HB hf hb2
  go_wp2
  go_ret
  exact hpost

/-- What acting makes of a form. -/
theorem act_any : ∀ (N : Nat) (t : Tm), szT t ≤ N → N ≤ 1048576 → OkP 1048576 t → ∀ (q : Nat → Prop) (w : World) (fx : Value) (A : Option Addr) (c : Nat) (p : List (Int × Int)), PairsAt w A p → p.length ≤ 1048576 → Asc p → FIn w q (.iface (fty t) fx) t →
    Calls Tryz.prog (actF t) #[fx, .slice A p.length c] w (FormPost 0 (actT p t) w) := by
  intro N
  induction N with
  | zero => intro t h; rw [szT_eq] at h; omega
  | succ N ih =>
    intro t hN hM hok q w fx A c p hp hl ha h
    rcases form_cases h with ⟨n, rfl, rfl⟩ | ⟨n, b, off, c', xs, ks, rfl, rfl, _, hb, hc, hxs⟩ | ⟨n, v, k, rfl, rfl, hk⟩ | ⟨n, A', c', r, rfl, rfl, hr, _⟩
    · rw [actT_1, actF_1]
      exact act_atom n A c p w hp hl ha
    · rw [actT_2, actF_2]
      rw [szT_eq, kids_mk] at hN
      have hkl := len_szTs ks
      refine act_node n b off c' xs ks q A c p w hb hc hxs (by omega) fun i hi w' y hb' hy => ih _ ?_ (by omega) (okP_at hok.2.2 hi) q w' y A c p (hp.below hb') hl ha hy
      have := szT_at hi
      omega
    · rw [actT_3, actF_3]
      obtain ⟨fx, rfl⟩ := hk.iface
      rw [szT_eq, kids_mk, szTs, szTs] at hN
      exact act_bind n fx k A c p w hp hl ha fun w' hb => ih k (by omega) (by omega) hok.2.2.1 q w' fx A c p (hp.below hb) hl ha (hk.keep hb)
    · rw [actT_4, actF_4]
      exact act_hole n A' c' r A c p w hp hl ha hr hok.2.1 hok.1
end Go.Proofs.YtlhjgjfnmejiaaaGreat
end

section
namespace Go.Proofs.YtlhjgjfnmejiaaaGreat
open Go.RowKit Go.Sort
set_option linter.unusedVariables false

/-- Blocks of a kind, and new ones. -/
def SinceQ (p : Nat → Prop) (C b : Nat) : Prop := p b ∨ C ≤ b
theorem sinceQ_le {p : Nat → Prop} {C D b : Nat} (h : SinceQ p C b) (hD : D ≤ C) : SinceQ p D b := h.imp id fun h => Nat.le_trans hD h
/-- What a call answers that makes a form. -/
def FormQ (p : Nat → Prop) (t : Tm) (w : World) (e : Ending) (w' : World) : Prop := ∃ v, e = .returned v ∧ FIn w' (SinceQ p w.heap.size) v t ∧ Below w.heap.size w w'
/-- A node that has been made. -/
def NodeQ (p : Nat → Prop) (n : Int) (rs : List Tm) (w : World) (e : Ending) (w' : World) : Prop :=
  ∃ g cap, e = .returned (.agg #[.int .i64 n, .slice (some ⟨g, 0, none⟩) rs.length cap]) ∧ FIn w' (SinceQ p w.heap.size) (.iface 156 (.agg #[.int .i64 n, .slice (some ⟨g, 0, none⟩) rs.length cap])) (.mk 2 n [] rs) ∧ Below w.heap.size w w'
/-- A row of the call's own that holds forms; what they reach lies in blocks of a kind, or in new ones, and not in the row itself. -/
def FRowQ (w : World) (p : Nat → Prop) (B : Nat) (v : Value) (k : Nat) (ts : List Tm) : Prop :=
  ∃ g cap xs, v = .slice (some ⟨g, 0, none⟩) k cap ∧ w.ownsRow B 94 1 v k xs ∧ FsIn w (fun b => SinceQ p B b ∧ b ≠ g) xs ts
theorem frowQ_next {wr w2 w3 w4 : World} {p : Nat → Prop} {B C g cap g1 cap1 k : Nat} {xs : List Value} {ts : List Tm} {v : Value} {t : Tm}
    (hB : ∀ b, p b → b < B) (hC : wr.heap.size ≤ C) (ho : wr.ownsRow B 94 1 (.slice (some ⟨g, 0, none⟩) k cap) k xs)
    (hx : FsIn wr (fun b => SinceQ p B b ∧ b ≠ g) xs ts) (h13 : Below wr.heap.size wr w3) (hv : FIn w2 (SinceQ p C) v t) (h23 : Below w2.heap.size w2 w3)
    (ho4 : w4.ownsRow B 94 1 (.slice (some ⟨g1, 0, none⟩) (k + 1) cap1) (k + 1) (xs ++ [v]))
    (hg : w3.grownBy w4 (some g)) (hcase : some g = some g1 ∨ g1 = w3.heap.size) :
    FRowQ w4 p B (.slice (some ⟨g1, 0, none⟩) (k + 1) cap1) (k + 1) (ts ++ [t]) := by
  obtain ⟨hg1, hg2⟩ := ho.lt g rfl
  have hsz : w3.heap.size ≤ w4.heap.size := hg.size
  have hbl : ∀ b, b < w3.heap.size → b ≠ g → w4.heap[b]? = w3.heap[b]? := fun b h1 h2 => hg.block b h1 (fun e => by injection e with e; exact h2 e)
  have hne : ∀ b, b < w3.heap.size → b ≠ g → b ≠ g1 := by
    intro b h1 h2 e
    rcases hcase with h | h
    · injection h with h
      omega
    · omega
  have hs13 := h13.size
  have hs23 := h23.size
  refine ⟨g1, cap1, xs ++ [v], rfl, ho4, FsIn.snoc ?_ ?_⟩
  · refine hx.over ⟨by omega, fun b hq hl => ?_, fun b hq hl => ?_⟩
    · exact (hbl b (by omega) hq.2).trans (h13.block b hl)
    · exact ⟨hq.1, hne b (by omega) hq.2⟩
  · have hk : ∀ b, SinceQ p C b → b ≠ g := by
      intro b hs e
      subst e
      rcases hs with h | h
      · have := hB b h; omega
      · omega
    refine hv.over ⟨by omega, fun b hq hl => ?_, fun b hq hl => ?_⟩
    · exact (hbl b (by omega) (hk b hq)).trans (h23.block b hl)
    · refine ⟨?_, hne b (by omega) (hk b hq)⟩
      rcases hq with h | h
      · exact .inl h
      · exact .inr (by omega)

set_option maxRecDepth 100000 in
set_option maxHeartbeats 4000000 in
theorem withKidsM_any (n : Int) (b off c : Nat) (xs : List Value) (ks rs : List Tm) (q : Nat → Prop) (w : World) (p : Nat → Prop) (G : Nat) (m : Value) (hrs : rs.length = ks.length) (hB0 : ∀ b, p b → b < w.heap.size)
    (eg : ∀ args w, (callFunc G args).run Tryz.prog w = .ok (.enter G args) w)
    (hbl : b < w.heap.size) (hc : ∀ j u, xs[j]? = some u → w.cell? ⟨b, off + j, none⟩ = some u) (hxs : FsIn w q xs ks) (hlen : ks.length ≤ 1048576)
    (hk : ∀ i, i < ks.length → ∀ (w' : World) (T : TypeId) (y : Value), Below w.heap.size w w' → FIn w' q (.iface T y) (tmAt ks i) → Calls Tryz.prog G #[m, .iface T y] w' (FormQ p (tmAt rs i) w')) :
    Calls Tryz.prog 112 #[.agg #[.int .i64 n, .slice (some ⟨b, off, none⟩) ks.length c], .func (.func G) #[m] #[]] w (NodeQ p n rs w) := by
  obtain ⟨i0, hi0, hz0, hz1, hz2⟩ := info_parts form_info
  have HS := Lib.hid hz2
  clear hz2
  have hb0 : Below w.heap.size w ((w.alloc (.cells #[.int .i64 n, .slice (some ⟨b, off, none⟩) ks.length c] 156)).alloc (.cells #[.int .i64 0, .slice none 0 0] 156)) := ((Below.refl _ _).alloc (Nat.le_refl _) _).alloc (by simp) _
  have HRS := Lib.hid hrs
  clear hrs
  go_enter Tryz.func112, Tryz.ntmps112
  go_wp2
  go_loopw [5, 12] (fun v i wr => ∃ k : Nat, k ≤ ks.length ∧ i = .int .i64 k ∧ FRowQ wr p (w.heap.size + 2) v k (rs.take k) ∧ Below ((w.alloc (.cells #[.int .i64 n, .slice (some ⟨b, off, none⟩) ks.length c] 156)).alloc (.cells #[.int .i64 0, .slice none 0 0] 156)).heap.size ((w.alloc (.cells #[.int .i64 n, .slice (some ⟨b, off, none⟩) ks.length c] 156)).alloc (.cells #[.int .i64 0, .slice none 0 0] 156)) wr) (fun _ i _ => ks.length - (intOf i).toNat)
  case atStart =>
    refine ⟨0, Nat.zero_le _, rfl, ⟨w.heap.size + 2, 0, [], rfl, ?_, .nil⟩, (Below.refl _ _).alloc (Nat.le_refl _) _⟩
    have h9 := World.ownsRow_lit (base := ((w.alloc (.cells #[.int .i64 n, .slice (some ⟨b, off, none⟩) ks.length c] 156)).alloc (.cells #[.int .i64 0, .slice none 0 0] 156)).heap.size) (e := 94) (size := 1) ((w.alloc (.cells #[.int .i64 n, .slice (some ⟨b, off, none⟩) ks.length c] 156)).alloc (.cells #[.int .i64 0, .slice none 0 0] 156)) #[] 0 (Nat.le_refl _) (by decide) rfl
    rw [World.size_alloc, World.size_alloc] at h9
    exact h9
  case round =>
    obtain ⟨k, hk', rfl, ⟨g, cap, ys, rfl, ho, hys⟩, hbw⟩ := hrel
    have hb := hb0.trans (hbw.mono hb0.size)
    by_cases hlt : k < ks.length
    · obtain ⟨u, hu, hfu⟩ := hxs.get k hlt
      obtain ⟨fx, rfl⟩ := hfu.iface
      have d0 := (hb.cell (p := ⟨b, off + k, none⟩) hbl).trans (hc k _ hu)
      have hct := hk k hlt wr _ fx hb (hfu.keep hb)
      have hnx := Lib.hid (tmAt_take_snoc (show k < rs.length by rw [HRS.out]; exact hlt))
      have hbws := hbw.size
      generalize tmAt rs k = r at hct hnx
      generalize fty (tmAt ks k) = T at hfu hu d0 hct
      clear hu hfu hb hk hxs hc
      go_wp2_with fail
      refine hct.mono ?_
      rintro e w2 ⟨fv, rfl, hfv, hb2⟩
      obtain ⟨fy, rfl⟩ := hfv.iface
      generalize fty r = fT at hfv
      have hb3 : Below w2.heap.size w2 (w2.alloc (.cells #[.iface fT fy] 94)) := (Below.refl _ _).alloc (Nat.le_refl _) _
      have hb13 := hb2.trans (hb3.mono hb2.size)
      have ho3 := own_below (own_below ho hb2) hb3
      have hbr3 := (hbw.trans (hb2.mono hbw.size)).trans (hb3.mono (Nat.le_trans hbw.size hb2.size))
      have hcell : (w2.alloc (.cells #[.iface fT fy] 94)).cell? ⟨w2.heap.size, 0, none⟩ = some (.iface fT fy) := by simp
      have HC := Lib.hid (one_cell hcell)
      have HF1 := Lib.hid (form_one hfv)
      have hsz3 := hbr3.size
      have HR : Hid (∀ g1 cap1 w4, w4.ownsRow (w.heap.size + 2) 94 1 (.slice (some ⟨g1, 0, none⟩) (k + 1) cap1) (k + 1) (ys ++ [.iface fT fy]) → (w2.alloc (.cells #[.iface fT fy] 94)).grownBy w4 (some g) → (some g = some g1 ∨ g1 = (w2.alloc (.cells #[.iface fT fy] 94)).heap.size) → FRowQ w4 p (w.heap.size + 2) (.slice (some ⟨g1, 0, none⟩) (k + 1) cap1) (k + 1) (rs.take k ++ [r])) :=
        Lib.hid (fun g1 cap1 w4 h1 h2 h3 => frowQ_next (fun b h => by have := hB0 b h; omega) (Nat.le_refl _) ho hys hb13 hfv hb3 h1 h2 h3)
      have hsz4 : w.heap.size + 2 ≤ (w2.alloc (.cells #[.iface fT fy] 94)).heap.size := by
        have := hb13.size; have := (ho.lt g rfl).2; have := (ho.lt g rfl).1; omega
      clear hcell ho hys hb2 hb3 hb13 hfv hct hbw d0
      generalize hH : (w2.alloc (.cells #[.iface fT fy] 94)).heap.size = H at hsz4
      have HH := Lib.hid hH
      clear hH
      go_wp2_with (at_builtin; refine wpList_append_lies _ rfl (.tmp 16) (.tmp 20) 154 rfl (w.heap.size + 2) 94 i0 .nilIface 1 16 Tryz.underlying154 hi0 hz0 hz1 HS.out rfl (by decide) _ k _ rfl ho3 ⟨w2.heap.size, 0, none⟩ 1 1 [.iface fT fy] rfl rfl HC.out HF1.out (by decide) ?c3 ?c4 ?c5 H HH.out ?_)
      case c3 => unfold maxLen; omega
      case c4 => omega
      case c5 => rw [HH.out]; exact hsz4
      intro g1 cap1 w4 ho4 hg4 hcase _
      rw [← HH.out] at hcase
      have hrow := HR.out g1 cap1 w4 ho4 hg4 hcase
      rw [← hnx.out] at hrow
      have hb4 := below_own hbr3 ho3 (by rw [World.size_alloc, World.size_alloc]; omega) hsz3 hg4
      clear ho4 hg4 hcase HR ho3 hbr3 HC HF1 hsz3 hsz4 HH hnx
      go_wp2
      refine ⟨⟨k + 1, by omega, by go_num, hrow, hb4⟩, ?_⟩
      simp only [intOf]
      omega
    · have e : k = rs.length := by rw [HRS.out]; omega
      subst e
      have ht := ho.lt g rfl
      have hr := heap_alloc_new (w.alloc (.cells #[.int .i64 n, .slice (some ⟨b, off, none⟩) ks.length c] 156)) (.cells #[.int .i64 0, .slice none 0 0] 156)
      rw [World.size_alloc] at hr
      have ha : ((w.alloc (.cells #[.int .i64 n, .slice (some ⟨b, off, none⟩) ks.length c] 156)).alloc (.cells #[.int .i64 0, .slice none 0 0] 156)).heap[w.heap.size]? = some (.cells #[.int .i64 n, .slice (some ⟨b, off, none⟩) ks.length c] 156) := (Below.heap_alloc _ _ _ (by simp)).trans (heap_alloc_new w (.cells #[.int .i64 n, .slice (some ⟨b, off, none⟩) ks.length c] 156))
      have hsz : ((w.alloc (.cells #[.int .i64 n, .slice (some ⟨b, off, none⟩) ks.length c] 156)).alloc (.cells #[.int .i64 0, .slice none 0 0] 156)).heap.size = w.heap.size + 2 := by simp
      have ha' := (hbw.block w.heap.size (by rw [hsz]; omega)).trans ha
      have hr' := (hbw.block (w.heap.size + 1) (by rw [hsz]; omega)).trans hr
      have c0 : wr.cell? ⟨w.heap.size, 0, none⟩ = some (.int .i64 n) := by rw [cell_of_row wr w.heap.size 0 _ _ _ ha']; rfl
      have r0 : wr.cell? ⟨w.heap.size + 1, 0, none⟩ = some (.int .i64 0) := by rw [cell_of_row wr (w.heap.size + 1) 0 _ _ _ hr']; rfl
      have r1 : wr.cell? ⟨w.heap.size + 1, 1, none⟩ = some (.slice none 0 0) := by rw [cell_of_row wr (w.heap.size + 1) 1 _ _ _ hr']; rfl
      have z0 : wr.frozen? ⟨w.heap.size + 1, 0, none⟩ = false := frozen_of_row wr (w.heap.size + 1) 0 _ _ hr'
      have z1 : wr.frozen? ⟨w.heap.size + 1, 1, none⟩ = false := frozen_of_row wr (w.heap.size + 1) 1 _ _ hr'
      have hfin : FIn wr (fun b => SinceQ p (w.heap.size + 2) b) (.iface 156 (.agg #[.int .i64 n, .slice (some ⟨g, 0, none⟩) rs.length cap])) (.mk 2 n [] rs) := by
        rw [List.take_length] at hys
        exact form_node (t := .mk 2 n [] rs) rfl rfl ho (hys.kinds fun b _ h => h.1) (.inr ht.1)
      have hn : ∀ b, SinceQ p (w.heap.size + 2) b → b ≠ w.heap.size + 1 := by
        intro b hs
        rcases hs with h | h
        · have := hB0 b h; omega
        · omega
      have hpost : NodeQ p n rs w (.returned (.agg #[.int .i64 n, .slice (some ⟨g, 0, none⟩) rs.length cap])) ((wr.setCell ⟨w.heap.size + 1, 0, none⟩ (.int .i64 n)).setCell ⟨w.heap.size + 1, 1, none⟩ (.slice (some ⟨g, 0, none⟩) rs.length cap)) :=
        ⟨g, cap, rfl, (((hfin.setOther ⟨w.heap.size + 1, 0, none⟩ (.int .i64 n) hn).setOther ⟨w.heap.size + 1, 1, none⟩ (.slice (some ⟨g, 0, none⟩) rs.length cap) hn).kind fun b _ h => sinceQ_le h (by omega)),
          (hb.setCell (by simp) _).setCell (by simp) _⟩
      clear ha hr ha' hr' hfin hn hys ho hb hk hxs hc hsz HRS hbw ht
      go_wp2
      exact bodyPost_ret (v := .agg #[.int .i64 n, .slice (some ⟨g, 0, none⟩) rs.length cap]) (by simp [results, Tryz.results112, go_sem, r0, r1]) rfl hpost

end Go.Proofs.YtlhjgjfnmejiaaaGreat
end

section
namespace Go.Proofs.YtlhjgjfnmejiaaaGreat
open Go.RowKit Go.Sort
set_option linter.unusedVariables false

/-- A term with pairs of its own, and kids that were handed in. -/
def WithPost (t : Tm) (n : Int) (kv : Value) (w : World) (e : Ending) (w' : World) : Prop :=
  ∃ A1 c1 S, e = .returned (.agg #[.int .i64 t.op, .int .i64 n, .slice A1 t.perm.length c1, kv]) ∧ Own w' S (.slice A1 t.perm.length c1) (pairMem t.perm) ∧ (∀ b ∈ S, w.heap.size ≤ b) ∧ Below w.heap.size w w'

theorem own_plus {w : World} {base : Nat} {e : TypeId} {v : Value} {l : List (Int × Int)} (h : w.ownsRow base e 2 v (0 + l.length) ([] ++ cellsOf l)) : w.ownsRow base e 2 v l.length (cellsOf l) := by
  rw [Nat.zero_add, List.nil_append] at h
  exact h

set_option maxRecDepth 100000 in
set_option maxHeartbeats 4000000 in
theorem l2With_any (t : Tm) (n : Int) (A B : Option Addr) (c d : Nat) (Ak : Option Addr) (m ck : Nat) (w : World) (hp : PairsAt w A t.perm) (hl : t.perm.length ≤ 1048576) :
    Calls Tryz.prog 88 #[.agg #[.int .i64 t.op, .int .i64 t.num, .slice A t.perm.length c, .slice B t.kids.length d], .int .i64 n, .slice Ak m ck] w (WithPost t n (.slice Ak m ck) w) := by
  obtain ⟨i0, hi0, hz0, hz1, hz2⟩ := info_parts pair_infoT
  have HS := Lib.hid hz2
  clear hz2
  have hb0 : Below w.heap.size w ((w.alloc (.cells #[.int .i64 t.op, .int .i64 t.num, .slice A t.perm.length c, .slice B t.kids.length d] 46)).alloc (.cells #[.int .i64 0, .int .i64 0, .slice none 0 0, .slice none 0 0] 46)) := ((Below.refl _ _).alloc (Nat.le_refl _) _).alloc (by simp) _
  have hdw : Below ((w.alloc (.cells #[.int .i64 t.op, .int .i64 t.num, .slice A t.perm.length c, .slice B t.kids.length d] 46)).alloc (.cells #[.int .i64 0, .int .i64 0, .slice none 0 0, .slice none 0 0] 46)).heap.size ((w.alloc (.cells #[.int .i64 t.op, .int .i64 t.num, .slice A t.perm.length c, .slice B t.kids.length d] 46)).alloc (.cells #[.int .i64 0, .int .i64 0, .slice none 0 0, .slice none 0 0] 46)) ((w.alloc (.cells #[.int .i64 t.op, .int .i64 t.num, .slice A t.perm.length c, .slice B t.kids.length d] 46)).alloc (.cells #[.int .i64 0, .int .i64 0, .slice none 0 0, .slice none 0 0] 46)).drew := ⟨rfl, rfl, rfl, Nat.le_refl _, fun _ _ => rfl⟩
  have hbd := hb0.trans (hdw.mono hb0.size)
  obtain ⟨hr', ha'⟩ := box_row hdw
  have b0 : ((w.alloc (.cells #[.int .i64 t.op, .int .i64 t.num, .slice A t.perm.length c, .slice B t.kids.length d] 46)).alloc (.cells #[.int .i64 0, .int .i64 0, .slice none 0 0, .slice none 0 0] 46)).drew.cell? ⟨w.heap.size, 0, none⟩ = some (.int .i64 t.op) := by rw [cell_of_row _ w.heap.size 0 _ _ _ ha']; rfl
  have b2 : ((w.alloc (.cells #[.int .i64 t.op, .int .i64 t.num, .slice A t.perm.length c, .slice B t.kids.length d] 46)).alloc (.cells #[.int .i64 0, .int .i64 0, .slice none 0 0, .slice none 0 0] 46)).drew.cell? ⟨w.heap.size, 2, none⟩ = some (.slice A t.perm.length c) := by rw [cell_of_row _ w.heap.size 2 _ _ _ ha']; rfl
  have r0' : ((w.alloc (.cells #[.int .i64 t.op, .int .i64 t.num, .slice A t.perm.length c, .slice B t.kids.length d] 46)).alloc (.cells #[.int .i64 0, .int .i64 0, .slice none 0 0, .slice none 0 0] 46)).drew.cell? ⟨w.heap.size + 1, 0, none⟩ = some (.int .i64 0) := by rw [cell_of_row _ (w.heap.size + 1) 0 _ _ _ hr']; rfl
  have r1' : ((w.alloc (.cells #[.int .i64 t.op, .int .i64 t.num, .slice A t.perm.length c, .slice B t.kids.length d] 46)).alloc (.cells #[.int .i64 0, .int .i64 0, .slice none 0 0, .slice none 0 0] 46)).drew.cell? ⟨w.heap.size + 1, 1, none⟩ = some (.int .i64 0) := by rw [cell_of_row _ (w.heap.size + 1) 1 _ _ _ hr']; rfl
  have r2' : ((w.alloc (.cells #[.int .i64 t.op, .int .i64 t.num, .slice A t.perm.length c, .slice B t.kids.length d] 46)).alloc (.cells #[.int .i64 0, .int .i64 0, .slice none 0 0, .slice none 0 0] 46)).drew.cell? ⟨w.heap.size + 1, 2, none⟩ = some (.slice none 0 0) := by rw [cell_of_row _ (w.heap.size + 1) 2 _ _ _ hr']; rfl
  have r3' : ((w.alloc (.cells #[.int .i64 t.op, .int .i64 t.num, .slice A t.perm.length c, .slice B t.kids.length d] 46)).alloc (.cells #[.int .i64 0, .int .i64 0, .slice none 0 0, .slice none 0 0] 46)).drew.cell? ⟨w.heap.size + 1, 3, none⟩ = some (.slice none 0 0) := by rw [cell_of_row _ (w.heap.size + 1) 3 _ _ _ hr']; rfl
  have z0' : ((w.alloc (.cells #[.int .i64 t.op, .int .i64 t.num, .slice A t.perm.length c, .slice B t.kids.length d] 46)).alloc (.cells #[.int .i64 0, .int .i64 0, .slice none 0 0, .slice none 0 0] 46)).drew.frozen? ⟨w.heap.size + 1, 0, none⟩ = false := frozen_of_row _ (w.heap.size + 1) 0 _ _ hr'
  have z1' : ((w.alloc (.cells #[.int .i64 t.op, .int .i64 t.num, .slice A t.perm.length c, .slice B t.kids.length d] 46)).alloc (.cells #[.int .i64 0, .int .i64 0, .slice none 0 0, .slice none 0 0] 46)).drew.frozen? ⟨w.heap.size + 1, 1, none⟩ = false := frozen_of_row _ (w.heap.size + 1) 1 _ _ hr'
  have z2' : ((w.alloc (.cells #[.int .i64 t.op, .int .i64 t.num, .slice A t.perm.length c, .slice B t.kids.length d] 46)).alloc (.cells #[.int .i64 0, .int .i64 0, .slice none 0 0, .slice none 0 0] 46)).drew.frozen? ⟨w.heap.size + 1, 2, none⟩ = false := frozen_of_row _ (w.heap.size + 1) 2 _ _ hr'
  have z3' : ((w.alloc (.cells #[.int .i64 t.op, .int .i64 t.num, .slice A t.perm.length c, .slice B t.kids.length d] 46)).alloc (.cells #[.int .i64 0, .int .i64 0, .slice none 0 0, .slice none 0 0] 46)).drew.frozen? ⟨w.heap.size + 1, 3, none⟩ = false := frozen_of_row _ (w.heap.size + 1) 3 _ _ hr'
  have hszd : ((w.alloc (.cells #[.int .i64 t.op, .int .i64 t.num, .slice A t.perm.length c, .slice B t.kids.length d] 46)).alloc (.cells #[.int .i64 0, .int .i64 0, .slice none 0 0, .slice none 0 0] 46)).drew.heap.size = w.heap.size + 2 := by
    show ((w.alloc (.cells #[.int .i64 t.op, .int .i64 t.num, .slice A t.perm.length c, .slice B t.kids.length d] 46)).alloc (.cells #[.int .i64 0, .int .i64 0, .slice none 0 0, .slice none 0 0] 46)).heap.size = _
    simp
  have hsz1 : w.heap.size + 1 < ((w.alloc (.cells #[.int .i64 t.op, .int .i64 t.num, .slice A t.perm.length c, .slice B t.kids.length d] 46)).alloc (.cells #[.int .i64 0, .int .i64 0, .slice none 0 0, .slice none 0 0] 46)).drew.heap.size := by omega
  have hsz : w.heap.size < ((w.alloc (.cells #[.int .i64 t.op, .int .i64 t.num, .slice A t.perm.length c, .slice B t.kids.length d] 46)).alloc (.cells #[.int .i64 0, .int .i64 0, .slice none 0 0, .slice none 0 0] 46)).drew.heap.size := by omega
  have hal : Below ((w.alloc (.cells #[.int .i64 t.op, .int .i64 t.num, .slice A t.perm.length c, .slice B t.kids.length d] 46)).alloc (.cells #[.int .i64 0, .int .i64 0, .slice none 0 0, .slice none 0 0] 46)).drew.heap.size ((w.alloc (.cells #[.int .i64 t.op, .int .i64 t.num, .slice A t.perm.length c, .slice B t.kids.length d] 46)).alloc (.cells #[.int .i64 0, .int .i64 0, .slice none 0 0, .slice none 0 0] 46)).drew (((w.alloc (.cells #[.int .i64 t.op, .int .i64 t.num, .slice A t.perm.length c, .slice B t.kids.length d] 46)).alloc (.cells #[.int .i64 0, .int .i64 0, .slice none 0 0, .slice none 0 0] 46)).drew.alloc (.cells #[] 148)) := (Below.refl _ _).alloc (Nat.le_refl _) _
  have ho : (((w.alloc (.cells #[.int .i64 t.op, .int .i64 t.num, .slice A t.perm.length c, .slice B t.kids.length d] 46)).alloc (.cells #[.int .i64 0, .int .i64 0, .slice none 0 0, .slice none 0 0] 46)).drew.alloc (.cells #[] 148)).ownsRow (w.heap.size + 2) 148 2 (.slice (some ⟨w.heap.size + 2, 0, none⟩) 0 0) 0 [] := by
    have h9 := World.ownsRow_lit (base := w.heap.size + 2) (e := 148) (size := 2) ((w.alloc (.cells #[.int .i64 t.op, .int .i64 t.num, .slice A t.perm.length c, .slice B t.kids.length d] 46)).alloc (.cells #[.int .i64 0, .int .i64 0, .slice none 0 0, .slice none 0 0] 46)).drew #[] 0 (by omega) (by decide) rfl
    rw [hszd] at h9
    exact h9
  have hpp := (hp.below hbd).below hal
  have HO := Lib.hid ho
  have HAL := Lib.hid hal
  have HB := Lib.hid hbd
  have HZ := Lib.hid hszd
  have hne0 : w.heap.size ≠ w.heap.size + 2 := by omega
  clear hr' ha' hb0 hdw hbd hp ho hal hszd
  go_enter Tryz.func88, Tryz.ntmps88
  go_wp2
  go_region_held3 (fun w' => w'.cell? ⟨w.heap.size, 0, none⟩ = some (.int .i64 t.op) ∧ w'.cell? ⟨w.heap.size, 2, none⟩ = some (.slice A t.perm.length c))
    (first | ((try dsimp only); (with_reducible exact ⟨by assumption, by assumption⟩)) | go_keep)
    ((refine step_append_pairs (by rfl) _ _ _ (by rfl) (w.heap.size + 2) 148 i0 _ Tryz.underlying43 hi0 hz0 hz1 HS.out rfl _ 0 _ (by rfl) HO.out A c t.perm (by rfl) hpp (by omega) (by simp) ?_; intro v4 w4 ho4 hg4; have hb4 := below_own HAL.out HO.out (Nat.le_of_eq HZ.out) HAL.out.size hg4; have b0' := (hb4.cell (p := ⟨w.heap.size, 0, none⟩) hsz).trans b0; have b2' := (hb4.cell (p := ⟨w.heap.size, 2, none⟩) hsz).trans b2; have r0 := (hb4.cell (p := ⟨w.heap.size + 1, 0, none⟩) hsz1).trans r0'; have r1 := (hb4.cell (p := ⟨w.heap.size + 1, 1, none⟩) hsz1).trans r1'; have r2 := (hb4.cell (p := ⟨w.heap.size + 1, 2, none⟩) hsz1).trans r2'; have r3 := (hb4.cell (p := ⟨w.heap.size + 1, 3, none⟩) hsz1).trans r3'; have z0 := (hb4.frozen (p := ⟨w.heap.size + 1, 0, none⟩) hsz1).trans z0'; have z1 := (hb4.frozen (p := ⟨w.heap.size + 1, 1, none⟩) hsz1).trans z1'; have z2 := (hb4.frozen (p := ⟨w.heap.size + 1, 2, none⟩) hsz1).trans z2'; have z3 := (hb4.frozen (p := ⟨w.heap.size + 1, 3, none⟩) hsz1).trans z3'; have ho5 := own_plus ho4; obtain ⟨A1, c1, rfl, _⟩ := own_pairsAt ho5))
  obtain ⟨S, hS, hSb, _⟩ := own_pairMem ho5
  have hs1 := HB.out.size
  have hpost : WithPost t n (.slice Ak m ck) w (.returned (.agg #[.int .i64 t.op, .int .i64 n, .slice A1 t.perm.length c1, .slice Ak m ck])) ((((w4.setCell ⟨w.heap.size + 1, 0, none⟩ (.int .i64 t.op)).setCell ⟨w.heap.size + 1, 1, none⟩ (.int .i64 n)).setCell ⟨w.heap.size + 1, 2, none⟩ (.slice A1 t.perm.length c1)).setCell ⟨w.heap.size + 1, 3, none⟩ (.slice Ak m ck)) := by
    have hne : ∀ b ∈ S, b ≠ w.heap.size + 1 := fun b hb => by have := hSb b hb; omega
    exact ⟨A1, c1, S, rfl, (((hS.setCell_other ⟨w.heap.size + 1, 0, none⟩ (.int .i64 t.op) hne).setCell_other ⟨w.heap.size + 1, 1, none⟩ (.int .i64 n) hne).setCell_other ⟨w.heap.size + 1, 2, none⟩ (.slice A1 t.perm.length c1) hne).setCell_other ⟨w.heap.size + 1, 3, none⟩ (.slice Ak m ck) hne,
      fun b hb => by have := hSb b hb; omega, set4_below (HB.out.trans (hb4.mono hs1)) (by omega) _ _ _ _⟩
  clear ho4 hg4 hb4 ho5 hS hSb hs1 HB HO HAL HZ hpp b0 b2 b0' b2' r0' r1' r2' r3' z0' z1' z2' z3'
  go_wp2
  exact bodyPost_ret (v := .agg #[.int .i64 t.op, .int .i64 n, .slice A1 t.perm.length c1, .slice Ak m ck]) (by simp [results, Tryz.results88, go_sem, r0, r1, r2, r3]) rfl hpost

theorem actT_13 {t : Tm} (p : List (Int × Int)) (h : t.op = 1 ∨ t.op = 3) : actT p t = .mk t.op (imgL p t.num) t.perm (actTs p t.kids) := by
  cases t with
  | mk o n r ks =>
    simp only [op_mk] at h
    rw [actT, if_pos h, if_neg (by omega)]; rfl
theorem actT_44 {t : Tm} (p : List (Int × Int)) (h : t.op = 4) : actT p t = .mk t.op t.num (thenL p t.perm) (actTs p t.kids) := by
  cases t with
  | mk o n r ks =>
    simp only [op_mk] at h
    rw [actT, if_neg (by omega), if_pos h]; rfl
theorem actT_00 {t : Tm} (p : List (Int × Int)) (h1 : ¬ t.op = 1) (h3 : ¬ t.op = 3) (h4 : ¬ t.op = 4) : actT p t = .mk t.op t.num t.perm (actTs p t.kids) := by
  cases t with
  | mk o n r ks =>
    simp only [op_mk] at h1 h3 h4
    rw [actT, if_neg (by omega), if_neg h4]; rfl

/-- A term put together of parts that are all of the call's own, in the result's box. -/
theorem act_done {w w5 : World} {R : Nat} {r : Tm} {o n : Int} {p : List (Int × Int)} {ks : List Tm} (hr : r = .mk o n p ks) {A1 : Option Addr} {c1 g cap : Nat} {S S2 : List Nat} {xs : List Value}
    (hS : Own w5 S (.slice A1 p.length c1) (pairMem p)) (hSb : ∀ b ∈ S, R < b) (ho : w5.ownsRow (R + 1) 46 4 (.slice (some ⟨g, 0, none⟩) ks.length cap) ks.length xs) (hx : OwnL w5 S2 xs (encTs ks)) (hg : g ∉ S2) (hS2 : ∀ b ∈ S2, R < b)
    (hd : ∀ b ∈ S, b ∉ g :: S2) (hR : w.heap.size ≤ R) (hb : Below w.heap.size w w5) :
    TmOut r w (.returned (.agg #[.int .i64 o, .int .i64 n, .slice A1 p.length c1, .slice (some ⟨g, 0, none⟩) ks.length cap])) ((((w5.setCell ⟨R, 0, none⟩ (.int .i64 o)).setCell ⟨R, 1, none⟩ (.int .i64 n)).setCell ⟨R, 2, none⟩ (.slice A1 p.length c1)).setCell ⟨R, 3, none⟩ (.slice (some ⟨g, 0, none⟩) ks.length cap)) := by
  subst hr
  have hk4 := own_of_terms (ts := ks) rfl (own_le ho (Nat.zero_le _)) hx hg
  have hL := own_four (o := o) (n := n) hS hk4 hd
  have hgR := (ho.lt g rfl).1
  have hLb : ∀ b ∈ S ++ ((g :: S2) ++ []), R < b := fun b hb => by
    simp only [List.append_nil, List.mem_append, List.mem_cons] at hb
    rcases hb with hb | rfl | hb
    · exact hSb b hb
    · omega
    · exact hS2 b hb
  exact ⟨A1, c1, some ⟨g, 0, none⟩, cap, _, rfl, set4_own hL (fun b hb => by have := hLb b hb; omega) _ _ _ _, fun b hb => by have := hLb b hb; omega, set4_below hb hR _ _ _ _⟩

/-- The result's box holds what was put into it. -/
theorem set4_cells {w : World} {R : Nat} {o0 o1 o2 o3 : Value} (h0 : w.cell? ⟨R, 0, none⟩ = some o0) (h1 : w.cell? ⟨R, 1, none⟩ = some o1) (h2 : w.cell? ⟨R, 2, none⟩ = some o2) (h3 : w.cell? ⟨R, 3, none⟩ = some o3) (hR : R < w.heap.size) (X : Obj) (a b c d : Value) :
    (((((w.setCell ⟨R, 0, none⟩ a).setCell ⟨R, 1, none⟩ b).setCell ⟨R, 2, none⟩ c).setCell ⟨R, 3, none⟩ d).alloc X).cell? ⟨R, 0, none⟩ = some a ∧ (((((w.setCell ⟨R, 0, none⟩ a).setCell ⟨R, 1, none⟩ b).setCell ⟨R, 2, none⟩ c).setCell ⟨R, 3, none⟩ d).alloc X).cell? ⟨R, 1, none⟩ = some b ∧ (((((w.setCell ⟨R, 0, none⟩ a).setCell ⟨R, 1, none⟩ b).setCell ⟨R, 2, none⟩ c).setCell ⟨R, 3, none⟩ d).alloc X).cell? ⟨R, 2, none⟩ = some c ∧ (((((w.setCell ⟨R, 0, none⟩ a).setCell ⟨R, 1, none⟩ b).setCell ⟨R, 2, none⟩ c).setCell ⟨R, 3, none⟩ d).alloc X).cell? ⟨R, 3, none⟩ = some d := by
  have hsz : ((((w.setCell ⟨R, 0, none⟩ a).setCell ⟨R, 1, none⟩ b).setCell ⟨R, 2, none⟩ c).setCell ⟨R, 3, none⟩ d).heap.size = w.heap.size := by simp
  have hbx : Below ((((w.setCell ⟨R, 0, none⟩ a).setCell ⟨R, 1, none⟩ b).setCell ⟨R, 2, none⟩ c).setCell ⟨R, 3, none⟩ d).heap.size ((((w.setCell ⟨R, 0, none⟩ a).setCell ⟨R, 1, none⟩ b).setCell ⟨R, 2, none⟩ c).setCell ⟨R, 3, none⟩ d) (((((w.setCell ⟨R, 0, none⟩ a).setCell ⟨R, 1, none⟩ b).setCell ⟨R, 2, none⟩ c).setCell ⟨R, 3, none⟩ d).alloc X) := (Below.refl _ _).alloc (Nat.le_refl _) _
  refine ⟨?_, ?_, ?_, ?_⟩
  · exact (hbx.cell (p := ⟨R, 0, none⟩) (by rw [hsz]; exact hR)).trans (by simp [go_sem, h0])
  · exact (hbx.cell (p := ⟨R, 1, none⟩) (by rw [hsz]; exact hR)).trans (by simp [go_sem, h1])
  · exact (hbx.cell (p := ⟨R, 2, none⟩) (by rw [hsz]; exact hR)).trans (by simp [go_sem, h2])
  · exact (hbx.cell (p := ⟨R, 3, none⟩) (by rw [hsz]; exact hR)).trans (by simp [go_sem, h3])

/-- What a call has answered, later on. -/
theorem TmOut.later {t : Tm} {w w1 w2 : World} {e : Ending} (h : TmOut t w e w1) (hb : Below w1.heap.size w1 w2) : TmOut t w e w2 := by
  obtain ⟨A1, c1, A2, c2, S, he, hL, hS, hb1⟩ := h
  exact ⟨A1, c1, A2, c2, S, he, hL.alike fun b hb' => hb.block b (hL.lt b hb'), hS, hb1.trans (hb.mono hb1.size)⟩

set_option maxRecDepth 100000 in
set_option maxHeartbeats 8000000 in
theorem l2Act_step (t : Tm) (x : Value) (P : Option Addr) (cp : Nat) (p : List (Int × Int)) (w : World) (hx : TmIn w x t) (hP : PairsAt w P p) (hlp : p.length ≤ 1048576) (hl : t.perm.length ≤ 1048576) (hkl : t.kids.length ≤ 1048576)
    (ih : ∀ i, i < t.kids.length → ∀ (w' : World) (y : Value), TmIn w' y (tmAt t.kids i) → PairsAt w' P p → Calls Tryz.prog 87 #[.slice P p.length cp, y] w' (TmOut (actT p (tmAt t.kids i)) w')) :
    Calls Tryz.prog 87 #[.slice P p.length cp, x] w (TmOut (actT p t) w) := by
  obtain ⟨i0, hi0, hz0, hz1, hz2⟩ := info_parts term_infoR
  have HS := Lib.hid hz2
  clear hz2
  obtain ⟨A, c, kv, rfl, hp, hk⟩ := hx
  obtain ⟨B, d, rfl⟩ := hk.form
  have hb0 : Below w.heap.size w ((w.alloc (.cells #[.int .i64 t.op, .int .i64 t.num, .slice A t.perm.length c, .slice B t.kids.length d] 46)).alloc (.cells #[.int .i64 0, .int .i64 0, .slice none 0 0, .slice none 0 0] 46)) := ((Below.refl _ _).alloc (Nat.le_refl _) _).alloc (by simp) _
  go_enter Tryz.func87, Tryz.ntmps87
  go_wp2
  go_loopw [5, 14] (fun v i wr => ∃ k : Nat, k ≤ t.kids.length ∧ i = .int .i64 k ∧ TRow wr (w.heap.size + 2) v k (actTs p (t.kids.take k)) ∧ Below ((w.alloc (.cells #[.int .i64 t.op, .int .i64 t.num, .slice A t.perm.length c, .slice B t.kids.length d] 46)).alloc (.cells #[.int .i64 0, .int .i64 0, .slice none 0 0, .slice none 0 0] 46)).heap.size ((w.alloc (.cells #[.int .i64 t.op, .int .i64 t.num, .slice A t.perm.length c, .slice B t.kids.length d] 46)).alloc (.cells #[.int .i64 0, .int .i64 0, .slice none 0 0, .slice none 0 0] 46)) wr) (fun _ i _ => t.kids.length - (intOf i).toNat)
  case atStart =>
    refine ⟨0, Nat.zero_le _, rfl, ⟨w.heap.size + 2, 0, [], [], rfl, ?_, .nil, by simp, by simp⟩, (Below.refl _ _).alloc (Nat.le_refl _) _⟩
    have h9 := World.ownsRow_lit (base := ((w.alloc (.cells #[.int .i64 t.op, .int .i64 t.num, .slice A t.perm.length c, .slice B t.kids.length d] 46)).alloc (.cells #[.int .i64 0, .int .i64 0, .slice none 0 0, .slice none 0 0] 46)).heap.size) (e := 46) (size := 4) ((w.alloc (.cells #[.int .i64 t.op, .int .i64 t.num, .slice A t.perm.length c, .slice B t.kids.length d] 46)).alloc (.cells #[.int .i64 0, .int .i64 0, .slice none 0 0, .slice none 0 0] 46)) #[] 0 (Nat.le_refl _) (by decide) rfl
    rw [World.size_alloc, World.size_alloc] at h9
    exact h9
  case round =>
    obtain ⟨k, hk', rfl, ⟨g, cap, ys, S, rfl, ho, hys, hgS, hSB⟩, hbw⟩ := hrel
    have hb := hb0.trans (hbw.mono hb0.size)
    by_cases hlt : k < t.kids.length
    · obtain ⟨b, off, A1, c1, B1, e1, rfl, hbl, d0, d1, d2, d3, hy⟩ := kid_cells hk hlt
      rw [← hb.cell (p := ⟨b, _, none⟩) hbl] at d0 d1 d2 d3
      have hbx : Below wr.heap.size wr (wr.alloc (.cells #[.int .i64 (tmAt t.kids k).op, .int .i64 (tmAt t.kids k).num, .slice A1 (tmAt t.kids k).perm.length c1, .slice B1 (tmAt t.kids k).kids.length e1] 46)) := (Below.refl _ _).alloc (Nat.le_refl _) _
      have hbz := hb.trans (hbx.mono hb.size)
      have hct := ih k hlt _ _ (hy.below hbz) (hP.below hbz)
      have hnx := Lib.hid (actTs_next (p := p) hlt)
      have hox := own_below ho hbx
      have hysx := hys.alike (w' := wr.alloc (.cells #[.int .i64 (tmAt t.kids k).op, .int .i64 (tmAt t.kids k).num, .slice A1 (tmAt t.kids k).perm.length c1, .slice B1 (tmAt t.kids k).kids.length e1] 46)) (fun b hb => hbx.block b (hys.lt b hb))
      have hbr := hbw.trans (hbx.mono hbw.size)
      generalize actT p (tmAt t.kids k) = r at hct hnx
      generalize tmAt t.kids k = u at d0 d1 d2 d3 hct hbx hox hbr hysx
      clear hy hbl hb hbz hbw ih hk ho hys hP hp
      go_wp2_with fail
      refine hct.mono ?_
      rintro e w2 ⟨A3, c3, A4, c4, T1, rfl, hT1, hTC, hb2⟩
      have hb3 : Below w2.heap.size w2 (w2.alloc (.cells #[.int .i64 r.op, .int .i64 r.num, .slice A3 r.perm.length c3, .slice A4 r.kids.length c4] 46)) := (Below.refl _ _).alloc (Nat.le_refl _) _
      have hb13 := hb2.trans (hb3.mono hb2.size)
      have ho3 := own_below (own_below hox hb2) hb3
      have hbr3 := (hbr.trans (hb2.mono hbr.size)).trans (hb3.mono (Nat.le_trans hbr.size hb2.size))
      obtain ⟨e0, e1', e2, e3⟩ := box4 (Below.refl _ (w2.alloc (.cells #[.int .i64 r.op, .int .i64 r.num, .slice A3 r.perm.length c3, .slice A4 r.kids.length c4] 46)))
      have HC := Lib.hid (four_cells e0 e1' e2 e3)
      have HF1 := Lib.hid (four_one r.op r.num A3 A4 r.perm.length c3 r.kids.length c4)
      have hsz3 := hbr3.size
      have HR : Hid (∀ g1 cap1 w4, w4.ownsRow (w.heap.size + 2) 46 4 (.slice (some ⟨g1, 0, none⟩) (k + 1) cap1) (k + 1) (ys ++ [.int .i64 r.op, .int .i64 r.num, .slice A3 r.perm.length c3, .slice A4 r.kids.length c4]) → (w2.alloc (.cells #[.int .i64 r.op, .int .i64 r.num, .slice A3 r.perm.length c3, .slice A4 r.kids.length c4] 46)).grownBy w4 (some g) → (some g = some g1 ∨ g1 = (w2.alloc (.cells #[.int .i64 r.op, .int .i64 r.num, .slice A3 r.perm.length c3, .slice A4 r.kids.length c4] 46)).heap.size) → TRow w4 (w.heap.size + 2) (.slice (some ⟨g1, 0, none⟩) (k + 1) cap1) (k + 1) (actTs p (t.kids.take k) ++ [r])) :=
        Lib.hid (fun g1 cap1 w4 h1 h2 h3 => trow_next (Nat.le_refl _) hox hysx hgS hSB hb13 hT1 hTC hb3 h1 h2 h3)
      have hsz4 : w.heap.size + 2 ≤ (w2.alloc (.cells #[.int .i64 r.op, .int .i64 r.num, .slice A3 r.perm.length c3, .slice A4 r.kids.length c4] 46)).heap.size := by
        have := hb13.size; have := (hox.lt g rfl).2; have := (hox.lt g rfl).1; omega
      clear e0 e1' e2 e3 hox hysx hgS hSB hb2 hb3 hb13 hT1 hTC hct hbr hbx d0 d1 d2 d3
      generalize hH : (w2.alloc (.cells #[.int .i64 r.op, .int .i64 r.num, .slice A3 r.perm.length c3, .slice A4 r.kids.length c4] 46)).heap.size = H at hsz4
      have HH := Lib.hid hH
      clear hH
      go_wp2_with (at_builtin; refine wpList_append_lies _ rfl (.tmp 18) (.tmp 22) 44 rfl (w.heap.size + 2) 46 i0 (.agg #[.int .i64 0, .int .i64 0, .slice none 0 0, .slice none 0 0]) 4 64 Tryz.underlying44 hi0 hz0 hz1 HS.out rfl (by decide) _ k _ rfl ho3 ⟨w2.heap.size, 0, none⟩ 1 1 [.int .i64 r.op, .int .i64 r.num, .slice A3 r.perm.length c3, .slice A4 r.kids.length c4] rfl rfl HC.out HF1.out (by decide) ?c3 ?c4 ?c5 H HH.out ?_)
      case c3 => unfold maxLen; omega
      case c4 => omega
      case c5 => rw [HH.out]; exact hsz4
      intro g1 cap1 w4 ho4 hg4 hcase _
      rw [← HH.out] at hcase
      have hrow := HR.out g1 cap1 w4 ho4 hg4 hcase
      rw [← hnx.out] at hrow
      have hb4 := below_own hbr3 ho3 (by rw [World.size_alloc, World.size_alloc]; omega) hsz3 hg4
      clear ho4 hg4 hcase HR ho3 hbr3 HC HF1 hsz3 hsz4 HH hnx
      go_wp2
      refine ⟨⟨k + 1, by omega, by go_num, hrow, hb4⟩, ?_⟩
      simp only [intOf]
      omega
    · have e : k = (actTs p t.kids).length := by rw [actTs_len]; omega
      rw [List.take_of_length_le (show t.kids.length ≤ k by omega)] at hys
      subst e
      obtain ⟨hres, hbox⟩ := box_row hbw
      have b0 : wr.cell? ⟨w.heap.size, 0, none⟩ = some (.int .i64 t.op) := by rw [cell_of_row _ w.heap.size 0 _ _ _ hbox]; rfl
      have b1 : wr.cell? ⟨w.heap.size, 1, none⟩ = some (.int .i64 t.num) := by rw [cell_of_row _ w.heap.size 1 _ _ _ hbox]; rfl
      have b2 : wr.cell? ⟨w.heap.size, 2, none⟩ = some (.slice A t.perm.length c) := by rw [cell_of_row _ w.heap.size 2 _ _ _ hbox]; rfl
      have b3 : wr.cell? ⟨w.heap.size, 3, none⟩ = some (.slice B t.kids.length d) := by rw [cell_of_row _ w.heap.size 3 _ _ _ hbox]; rfl
      generalize hK : actTs p t.kids = K at *
      clear hk'
      by_cases hop1 : t.op = 1
      · have q1 : (t.op == 1) = true := by simp [hop1]
        have q4 : (t.op == 4) = false := by simp [hop1]
        have HOP : t.op = 1 ∨ t.op = 3 := .inl hop1
        clear hop1
        have hwi := l2With_any t (imgL p t.num) A B c d (some ⟨g, 0, none⟩) K.length cap wr (hp.below hb) hl
        have HT := Lib.hid (actT_13 p HOP)
        clear HOP
        rw [hK] at HT
        have HIM := l1Image_any P cp p t.num wr (hP.below hb) (by omega)
        generalize imgL p t.num = N0 at hwi HT HIM
        clear hK
        go_wp2_with fail
        refine HIM.mono ?_
        rintro e w' ⟨rfl, rfl⟩
        clear HIM
        go_wp2_with fail
        refine hwi.mono ?_
        rintro e w5 ⟨A1, c1, S1, rfl, hS1, hS1b, hb5⟩
        have hb6 : Below w5.heap.size w5 (w5.alloc (.cells #[.int .i64 t.op, .int .i64 N0, .slice A1 t.perm.length c1, .slice (some ⟨g, 0, none⟩) K.length cap] 46)) := (Below.refl _ _).alloc (Nat.le_refl _) _
        have hb56 := hb5.trans (hb6.mono hb5.size)
        have hsr := hbw.size
        rw [World.size_alloc, World.size_alloc] at hsr
        have hbox6 := (hb5.block w.heap.size (by omega)).trans hbox
        have hres6 := (hb5.block (w.heap.size + 1) (by omega)).trans hres
        have e0 : w5.cell? ⟨w.heap.size, 0, none⟩ = some (.int .i64 t.op) := by rw [cell_of_row _ w.heap.size 0 _ _ _ hbox6]; rfl
        have e2 : w5.cell? ⟨w.heap.size, 2, none⟩ = some (.slice A t.perm.length c) := by rw [cell_of_row _ w.heap.size 2 _ _ _ hbox6]; rfl
        have ho5 := own_below ho hb5
        have hys5 := hys.alike (w' := w5) (fun b hb => hb5.block b (hys.lt b hb))
        have hbz5 := hb.trans (hb5.mono hb.size)
        have hS16 := hS1.alike (w' := w5.alloc (.cells #[.int .i64 t.op, .int .i64 N0, .slice A1 t.perm.length c1, .slice (some ⟨g, 0, none⟩) K.length cap] 46)) (fun b hb => hb6.block b (hS1.lt b hb))
        have ho6 := own_below (own_below ho hb5) hb6
        have hys6 := hys.alike (w' := w5.alloc (.cells #[.int .i64 t.op, .int .i64 N0, .slice A1 t.perm.length c1, .slice (some ⟨g, 0, none⟩) K.length cap] 46)) (fun b hb => hb56.block b (hys.lt b hb))
        have hbz := hb.trans (hb56.mono hb.size)
        have hSg : ∀ b ∈ S1, b ∉ g :: S := fun b h1 h2 => by
          have h3 := hS1b b h1
          rcases List.mem_cons.1 h2 with h4 | h4
          · have := (ho.lt g rfl).2; omega
          · have := hys.lt b h4; omega
        have hlt5 : w.heap.size + 1 < w5.heap.size := by have := hb5.size; omega
        have hlt50 : w.heap.size < w5.heap.size := by omega
        have hpost := TmOut.later (act_done (w := w) (w5 := w5) (R := w.heap.size + 1) (r := actT p t) HT.out hS1 (fun b hb => by have := hS1b b hb; omega) ho5 hys5 hgS (fun b hb => by have := hSB b hb; omega) hSg (by omega) hbz5) ((Below.refl _ _).alloc (Nat.le_refl _) (.cells #[.int .i64 t.op, .int .i64 N0, .slice A1 t.perm.length c1, .slice (some ⟨g, 0, none⟩) K.length cap] 46))
        have r0 : w5.cell? ⟨w.heap.size + 1, 0, none⟩ = some (.int .i64 0) := by rw [cell_of_row _ (w.heap.size + 1) 0 _ _ _ hres6]; rfl
        have r1 : w5.cell? ⟨w.heap.size + 1, 1, none⟩ = some (.int .i64 0) := by rw [cell_of_row _ (w.heap.size + 1) 1 _ _ _ hres6]; rfl
        have r2 : w5.cell? ⟨w.heap.size + 1, 2, none⟩ = some (.slice none 0 0) := by rw [cell_of_row _ (w.heap.size + 1) 2 _ _ _ hres6]; rfl
        have r3 : w5.cell? ⟨w.heap.size + 1, 3, none⟩ = some (.slice none 0 0) := by rw [cell_of_row _ (w.heap.size + 1) 3 _ _ _ hres6]; rfl
        have z0 : w5.frozen? ⟨w.heap.size + 1, 0, none⟩ = false := frozen_of_row _ (w.heap.size + 1) 0 _ _ hres6
        have z1 : w5.frozen? ⟨w.heap.size + 1, 1, none⟩ = false := frozen_of_row _ (w.heap.size + 1) 1 _ _ hres6
        have z2 : w5.frozen? ⟨w.heap.size + 1, 2, none⟩ = false := frozen_of_row _ (w.heap.size + 1) 2 _ _ hres6
        have z3 : w5.frozen? ⟨w.heap.size + 1, 3, none⟩ = false := frozen_of_row _ (w.heap.size + 1) 3 _ _ hres6
        clear ho5 hys5 hbz5 hwi hS1 hS1b hb5 hb6 hb56 hsr hbox6 hres6 hS16 ho6 hys6 hbz hSg hbox hres ho hys hgS hSB hbw hb hp hP ih hk HT hb0
        go_wp2
        obtain ⟨f0, f1, f2, f3⟩ := set4_cells r0 r1 r2 r3 hlt5 (.cells #[.int .i64 t.op, .int .i64 N0, .slice A1 t.perm.length c1, .slice (some ⟨g, 0, none⟩) K.length cap] 46) (.int .i64 t.op) (.int .i64 N0) (.slice A1 t.perm.length c1) (.slice (some ⟨g, 0, none⟩) K.length cap)
        exact bodyPost_ret (v := .agg #[.int .i64 t.op, .int .i64 N0, .slice A1 t.perm.length c1, .slice (some ⟨g, 0, none⟩) K.length cap]) (by simp [results, Tryz.results87, go_sem, f0, f1, f2, f3]) rfl hpost
      have q1 : (t.op == 1) = false := by simp [hop1]
      by_cases hop3 : t.op = 3
      · have q3 : (t.op == 3) = true := by simp [hop3]
        have q4 : (t.op == 4) = false := by simp [hop3]
        have HOP : t.op = 1 ∨ t.op = 3 := .inr hop3
        clear hop1 hop3
        have hwi := l2With_any t (imgL p t.num) A B c d (some ⟨g, 0, none⟩) K.length cap wr (hp.below hb) hl
        have HT := Lib.hid (actT_13 p HOP)
        clear HOP
        rw [hK] at HT
        have HIM := l1Image_any P cp p t.num wr (hP.below hb) (by omega)
        generalize imgL p t.num = N0 at hwi HT HIM
        clear hK
        go_wp2_with fail
        refine HIM.mono ?_
        rintro e w' ⟨rfl, rfl⟩
        clear HIM
        go_wp2_with fail
        refine hwi.mono ?_
        rintro e w5 ⟨A1, c1, S1, rfl, hS1, hS1b, hb5⟩
        have hb6 : Below w5.heap.size w5 (w5.alloc (.cells #[.int .i64 t.op, .int .i64 N0, .slice A1 t.perm.length c1, .slice (some ⟨g, 0, none⟩) K.length cap] 46)) := (Below.refl _ _).alloc (Nat.le_refl _) _
        have hb56 := hb5.trans (hb6.mono hb5.size)
        have hsr := hbw.size
        rw [World.size_alloc, World.size_alloc] at hsr
        have hbox6 := (hb5.block w.heap.size (by omega)).trans hbox
        have hres6 := (hb5.block (w.heap.size + 1) (by omega)).trans hres
        have e0 : w5.cell? ⟨w.heap.size, 0, none⟩ = some (.int .i64 t.op) := by rw [cell_of_row _ w.heap.size 0 _ _ _ hbox6]; rfl
        have e2 : w5.cell? ⟨w.heap.size, 2, none⟩ = some (.slice A t.perm.length c) := by rw [cell_of_row _ w.heap.size 2 _ _ _ hbox6]; rfl
        have ho5 := own_below ho hb5
        have hys5 := hys.alike (w' := w5) (fun b hb => hb5.block b (hys.lt b hb))
        have hbz5 := hb.trans (hb5.mono hb.size)
        have hS16 := hS1.alike (w' := w5.alloc (.cells #[.int .i64 t.op, .int .i64 N0, .slice A1 t.perm.length c1, .slice (some ⟨g, 0, none⟩) K.length cap] 46)) (fun b hb => hb6.block b (hS1.lt b hb))
        have ho6 := own_below (own_below ho hb5) hb6
        have hys6 := hys.alike (w' := w5.alloc (.cells #[.int .i64 t.op, .int .i64 N0, .slice A1 t.perm.length c1, .slice (some ⟨g, 0, none⟩) K.length cap] 46)) (fun b hb => hb56.block b (hys.lt b hb))
        have hbz := hb.trans (hb56.mono hb.size)
        have hSg : ∀ b ∈ S1, b ∉ g :: S := fun b h1 h2 => by
          have h3 := hS1b b h1
          rcases List.mem_cons.1 h2 with h4 | h4
          · have := (ho.lt g rfl).2; omega
          · have := hys.lt b h4; omega
        have hlt5 : w.heap.size + 1 < w5.heap.size := by have := hb5.size; omega
        have hlt50 : w.heap.size < w5.heap.size := by omega
        have hpost := TmOut.later (act_done (w := w) (w5 := w5) (R := w.heap.size + 1) (r := actT p t) HT.out hS1 (fun b hb => by have := hS1b b hb; omega) ho5 hys5 hgS (fun b hb => by have := hSB b hb; omega) hSg (by omega) hbz5) ((Below.refl _ _).alloc (Nat.le_refl _) (.cells #[.int .i64 t.op, .int .i64 N0, .slice A1 t.perm.length c1, .slice (some ⟨g, 0, none⟩) K.length cap] 46))
        have r0 : w5.cell? ⟨w.heap.size + 1, 0, none⟩ = some (.int .i64 0) := by rw [cell_of_row _ (w.heap.size + 1) 0 _ _ _ hres6]; rfl
        have r1 : w5.cell? ⟨w.heap.size + 1, 1, none⟩ = some (.int .i64 0) := by rw [cell_of_row _ (w.heap.size + 1) 1 _ _ _ hres6]; rfl
        have r2 : w5.cell? ⟨w.heap.size + 1, 2, none⟩ = some (.slice none 0 0) := by rw [cell_of_row _ (w.heap.size + 1) 2 _ _ _ hres6]; rfl
        have r3 : w5.cell? ⟨w.heap.size + 1, 3, none⟩ = some (.slice none 0 0) := by rw [cell_of_row _ (w.heap.size + 1) 3 _ _ _ hres6]; rfl
        have z0 : w5.frozen? ⟨w.heap.size + 1, 0, none⟩ = false := frozen_of_row _ (w.heap.size + 1) 0 _ _ hres6
        have z1 : w5.frozen? ⟨w.heap.size + 1, 1, none⟩ = false := frozen_of_row _ (w.heap.size + 1) 1 _ _ hres6
        have z2 : w5.frozen? ⟨w.heap.size + 1, 2, none⟩ = false := frozen_of_row _ (w.heap.size + 1) 2 _ _ hres6
        have z3 : w5.frozen? ⟨w.heap.size + 1, 3, none⟩ = false := frozen_of_row _ (w.heap.size + 1) 3 _ _ hres6
        clear ho5 hys5 hbz5 hwi hS1 hS1b hb5 hb6 hb56 hsr hbox6 hres6 hS16 ho6 hys6 hbz hSg hbox hres ho hys hgS hSB hbw hb hp hP ih hk HT hb0
        go_wp2
        obtain ⟨f0, f1, f2, f3⟩ := set4_cells r0 r1 r2 r3 hlt5 (.cells #[.int .i64 t.op, .int .i64 N0, .slice A1 t.perm.length c1, .slice (some ⟨g, 0, none⟩) K.length cap] 46) (.int .i64 t.op) (.int .i64 N0) (.slice A1 t.perm.length c1) (.slice (some ⟨g, 0, none⟩) K.length cap)
        exact bodyPost_ret (v := .agg #[.int .i64 t.op, .int .i64 N0, .slice A1 t.perm.length c1, .slice (some ⟨g, 0, none⟩) K.length cap]) (by simp [results, Tryz.results87, go_sem, f0, f1, f2, f3]) rfl hpost
      have q3 : (t.op == 3) = false := by simp [hop3]
      by_cases hop4 : t.op = 4
      · have q4 : (t.op == 4) = true := by simp [hop4]
        have hwi := l2With_any t (t.num) A B c d (some ⟨g, 0, none⟩) K.length cap wr (hp.below hb) hl
        have HT := Lib.hid (actT_44 p hop4)
        rw [hK] at HT
        clear hK hop1 hop3 hop4
        go_wp2_with fail
        refine hwi.mono ?_
        rintro e w5 ⟨A1, c1, S1, rfl, hS1, hS1b, hb5⟩
        have hb6 : Below w5.heap.size w5 (w5.alloc (.cells #[.int .i64 t.op, .int .i64 t.num, .slice A1 t.perm.length c1, .slice (some ⟨g, 0, none⟩) K.length cap] 46)) := (Below.refl _ _).alloc (Nat.le_refl _) _
        have hb56 := hb5.trans (hb6.mono hb5.size)
        have hsr := hbw.size
        rw [World.size_alloc, World.size_alloc] at hsr
        have hbox6 := (hb5.block w.heap.size (by omega)).trans hbox
        have hres6 := (hb5.block (w.heap.size + 1) (by omega)).trans hres
        have e0 : w5.cell? ⟨w.heap.size, 0, none⟩ = some (.int .i64 t.op) := by rw [cell_of_row _ w.heap.size 0 _ _ _ hbox6]; rfl
        have e2 : w5.cell? ⟨w.heap.size, 2, none⟩ = some (.slice A t.perm.length c) := by rw [cell_of_row _ w.heap.size 2 _ _ _ hbox6]; rfl
        have ho5 := own_below ho hb5
        have hys5 := hys.alike (w' := w5) (fun b hb => hb5.block b (hys.lt b hb))
        have hbz5 := hb.trans (hb5.mono hb.size)
        have hS16 := hS1.alike (w' := w5.alloc (.cells #[.int .i64 t.op, .int .i64 t.num, .slice A1 t.perm.length c1, .slice (some ⟨g, 0, none⟩) K.length cap] 46)) (fun b hb => hb6.block b (hS1.lt b hb))
        have ho6 := own_below (own_below ho hb5) hb6
        have hys6 := hys.alike (w' := w5.alloc (.cells #[.int .i64 t.op, .int .i64 t.num, .slice A1 t.perm.length c1, .slice (some ⟨g, 0, none⟩) K.length cap] 46)) (fun b hb => hb56.block b (hys.lt b hb))
        have hbz := hb.trans (hb56.mono hb.size)
        have hSg : ∀ b ∈ S1, b ∉ g :: S := fun b h1 h2 => by
          have h3 := hS1b b h1
          rcases List.mem_cons.1 h2 with h4 | h4
          · have := (ho.lt g rfl).2; omega
          · have := hys.lt b h4; omega
        have hlt5 : w.heap.size + 1 < w5.heap.size := by have := hb5.size; omega
        have hlt50 : w.heap.size < w5.heap.size := by omega
        have hle5 : wr.heap.size ≤ w5.heap.size := hb5.size
        have hth := l1Then_any P A cp c p t.perm (w5.alloc (.cells #[.int .i64 t.op, .int .i64 t.num, .slice A1 t.perm.length c1, .slice (some ⟨g, 0, none⟩) K.length cap] 46)) (hP.below hbz) (hp.below hbz) hlp hl
        have hlt6 : w5.heap.size < (w5.alloc (.cells #[.int .i64 t.op, .int .i64 t.num, .slice A1 t.perm.length c1, .slice (some ⟨g, 0, none⟩) K.length cap] 46)).heap.size := by rw [World.size_alloc]; omega
        generalize thenL p t.perm = L at hth HT
        clear hwi hS1 hS16 hS1b hb5 hSg
        go_wp2_with fail
        refine hth.mono ?_
        rintro e w7 ⟨g7, cap7, rfl, ho7, hb7⟩
        obtain ⟨d0, d1, d2, d3⟩ := box4 hb7
        have hrow9 := (hb7.block w5.heap.size hlt6).trans (heap_alloc_new w5 (.cells #[.int .i64 t.op, .int .i64 t.num, .slice A1 t.perm.length c1, .slice (some ⟨g, 0, none⟩) K.length cap] 46))
        have y2 : w7.frozen? ⟨w5.heap.size, 2, none⟩ = false := frozen_of_row _ w5.heap.size 2 _ _ hrow9
        have hlt61 := Nat.lt_trans hlt5 hlt6
        have hres7 := (hb7.block (w.heap.size + 1) hlt61).trans ((hb6.block (w.heap.size + 1) hlt5).trans hres6)
        obtain ⟨S7, hS7, hS7b, hS7e⟩ := own_pairMem ho7
        have hn5 : ∀ b ∈ S7, b ≠ w5.heap.size := fun b hb => by have := hS7b b hb; omega
        have hS8 := hS7.setCell_other ⟨w5.heap.size, 2, none⟩ (.slice (some ⟨g7, 0, none⟩) L.length cap7) hn5
        have hg5 : g < w5.heap.size := Nat.lt_of_lt_of_le (ho.lt g rfl).2 hle5
        have ho8 : (w7.setCell ⟨w5.heap.size, 2, none⟩ (.slice (some ⟨g7, 0, none⟩) L.length cap7)).ownsRow (w.heap.size + 2) 46 4 (.slice (some ⟨g, 0, none⟩) K.length cap) K.length ys := ownsRow_alike (own_below ho6 hb7) (Below.heap_setCell w7 ⟨w5.heap.size, 2, none⟩ _ g (Nat.ne_of_lt hg5))
        have hys7 := hys6.alike (w' := w7) (fun b hb => hb7.block b (hys6.lt b hb))
        have hys8 := hys7.setOther ⟨w5.heap.size, 2, none⟩ (.slice (some ⟨g7, 0, none⟩) L.length cap7) (fun b hb => Nat.ne_of_lt (Nat.lt_of_lt_of_le (hys.lt b hb) hle5))
        have hbz8 := (hbz.trans (hb7.mono hbz.size)).setCell (p := ⟨w5.heap.size, 2, none⟩) (show w.heap.size ≤ w5.heap.size by omega) (.slice (some ⟨g7, 0, none⟩) L.length cap7)
        have hSg : ∀ b ∈ S7, b ∉ g :: S := fun b h1 h2 => by
          have h3 := hS7b b h1
          rcases List.mem_cons.1 h2 with h4 | h4
          · omega
          · have := hys.lt b h4; omega
        have hpost := act_done (w := w) (w5 := w7.setCell ⟨w5.heap.size, 2, none⟩ (.slice (some ⟨g7, 0, none⟩) L.length cap7)) (R := w.heap.size + 1) (r := actT p t) HT.out hS8 (fun b hb => by have := hS7b b hb; omega) ho8 hys8 hgS (fun b hb => by have := hSB b hb; omega) hSg (by omega) hbz8
        have r0 : w7.cell? ⟨w.heap.size + 1, 0, none⟩ = some (.int .i64 0) := by rw [cell_of_row _ (w.heap.size + 1) 0 _ _ _ hres7]; rfl
        have r1 : w7.cell? ⟨w.heap.size + 1, 1, none⟩ = some (.int .i64 0) := by rw [cell_of_row _ (w.heap.size + 1) 1 _ _ _ hres7]; rfl
        have r2 : w7.cell? ⟨w.heap.size + 1, 2, none⟩ = some (.slice none 0 0) := by rw [cell_of_row _ (w.heap.size + 1) 2 _ _ _ hres7]; rfl
        have r3 : w7.cell? ⟨w.heap.size + 1, 3, none⟩ = some (.slice none 0 0) := by rw [cell_of_row _ (w.heap.size + 1) 3 _ _ _ hres7]; rfl
        have z0 : w7.frozen? ⟨w.heap.size + 1, 0, none⟩ = false := frozen_of_row _ (w.heap.size + 1) 0 _ _ hres7
        have z1 : w7.frozen? ⟨w.heap.size + 1, 1, none⟩ = false := frozen_of_row _ (w.heap.size + 1) 1 _ _ hres7
        have z2 : w7.frozen? ⟨w.heap.size + 1, 2, none⟩ = false := frozen_of_row _ (w.heap.size + 1) 2 _ _ hres7
        have z3 : w7.frozen? ⟨w.heap.size + 1, 3, none⟩ = false := frozen_of_row _ (w.heap.size + 1) 3 _ _ hres7
        clear ho5 hys5 hbz5 hth hb6 hb56 hsr hbox6 hres6 ho6 hys6 hbz hSg hbox hres ho hys hgS hSB hbw hb hp hP ih hk HT hb0 hrow9 hres7 ho7 hb7 hS7 hS7b hS7e hn5 hS8 ho8 hys7 hys8 hbz8
        go_wp2
        exact bodyPost_ret (v := .agg #[.int .i64 t.op, .int .i64 t.num, .slice (some ⟨g7, 0, none⟩) L.length cap7, .slice (some ⟨g, 0, none⟩) K.length cap]) (by simp [results, Tryz.results87, go_sem, r0, r1, r2, r3]) rfl hpost
      · have q4 : (t.op == 4) = false := by simp [hop4]
        have hwi := l2With_any t (t.num) A B c d (some ⟨g, 0, none⟩) K.length cap wr (hp.below hb) hl
        have HT := Lib.hid (actT_00 p hop1 hop3 hop4)
        rw [hK] at HT
        clear hK hop1 hop3 hop4
        go_wp2_with fail
        refine hwi.mono ?_
        rintro e w5 ⟨A1, c1, S1, rfl, hS1, hS1b, hb5⟩
        have hb6 : Below w5.heap.size w5 (w5.alloc (.cells #[.int .i64 t.op, .int .i64 t.num, .slice A1 t.perm.length c1, .slice (some ⟨g, 0, none⟩) K.length cap] 46)) := (Below.refl _ _).alloc (Nat.le_refl _) _
        have hb56 := hb5.trans (hb6.mono hb5.size)
        have hsr := hbw.size
        rw [World.size_alloc, World.size_alloc] at hsr
        have hbox6 := (hb5.block w.heap.size (by omega)).trans hbox
        have hres6 := (hb5.block (w.heap.size + 1) (by omega)).trans hres
        have e0 : w5.cell? ⟨w.heap.size, 0, none⟩ = some (.int .i64 t.op) := by rw [cell_of_row _ w.heap.size 0 _ _ _ hbox6]; rfl
        have e2 : w5.cell? ⟨w.heap.size, 2, none⟩ = some (.slice A t.perm.length c) := by rw [cell_of_row _ w.heap.size 2 _ _ _ hbox6]; rfl
        have ho5 := own_below ho hb5
        have hys5 := hys.alike (w' := w5) (fun b hb => hb5.block b (hys.lt b hb))
        have hbz5 := hb.trans (hb5.mono hb.size)
        have hS16 := hS1.alike (w' := w5.alloc (.cells #[.int .i64 t.op, .int .i64 t.num, .slice A1 t.perm.length c1, .slice (some ⟨g, 0, none⟩) K.length cap] 46)) (fun b hb => hb6.block b (hS1.lt b hb))
        have ho6 := own_below (own_below ho hb5) hb6
        have hys6 := hys.alike (w' := w5.alloc (.cells #[.int .i64 t.op, .int .i64 t.num, .slice A1 t.perm.length c1, .slice (some ⟨g, 0, none⟩) K.length cap] 46)) (fun b hb => hb56.block b (hys.lt b hb))
        have hbz := hb.trans (hb56.mono hb.size)
        have hSg : ∀ b ∈ S1, b ∉ g :: S := fun b h1 h2 => by
          have h3 := hS1b b h1
          rcases List.mem_cons.1 h2 with h4 | h4
          · have := (ho.lt g rfl).2; omega
          · have := hys.lt b h4; omega
        have hlt5 : w.heap.size + 1 < w5.heap.size := by have := hb5.size; omega
        have hlt50 : w.heap.size < w5.heap.size := by omega
        have hpost := TmOut.later (act_done (w := w) (w5 := w5) (R := w.heap.size + 1) (r := actT p t) HT.out hS1 (fun b hb => by have := hS1b b hb; omega) ho5 hys5 hgS (fun b hb => by have := hSB b hb; omega) hSg (by omega) hbz5) ((Below.refl _ _).alloc (Nat.le_refl _) (.cells #[.int .i64 t.op, .int .i64 t.num, .slice A1 t.perm.length c1, .slice (some ⟨g, 0, none⟩) K.length cap] 46))
        have r0 : w5.cell? ⟨w.heap.size + 1, 0, none⟩ = some (.int .i64 0) := by rw [cell_of_row _ (w.heap.size + 1) 0 _ _ _ hres6]; rfl
        have r1 : w5.cell? ⟨w.heap.size + 1, 1, none⟩ = some (.int .i64 0) := by rw [cell_of_row _ (w.heap.size + 1) 1 _ _ _ hres6]; rfl
        have r2 : w5.cell? ⟨w.heap.size + 1, 2, none⟩ = some (.slice none 0 0) := by rw [cell_of_row _ (w.heap.size + 1) 2 _ _ _ hres6]; rfl
        have r3 : w5.cell? ⟨w.heap.size + 1, 3, none⟩ = some (.slice none 0 0) := by rw [cell_of_row _ (w.heap.size + 1) 3 _ _ _ hres6]; rfl
        have z0 : w5.frozen? ⟨w.heap.size + 1, 0, none⟩ = false := frozen_of_row _ (w.heap.size + 1) 0 _ _ hres6
        have z1 : w5.frozen? ⟨w.heap.size + 1, 1, none⟩ = false := frozen_of_row _ (w.heap.size + 1) 1 _ _ hres6
        have z2 : w5.frozen? ⟨w.heap.size + 1, 2, none⟩ = false := frozen_of_row _ (w.heap.size + 1) 2 _ _ hres6
        have z3 : w5.frozen? ⟨w.heap.size + 1, 3, none⟩ = false := frozen_of_row _ (w.heap.size + 1) 3 _ _ hres6
        clear ho5 hys5 hbz5 hwi hS1 hS1b hb5 hb6 hb56 hsr hbox6 hres6 hS16 ho6 hys6 hbz hSg hbox hres ho hys hgS hSB hbw hb hp hP ih hk HT hb0
        go_wp2
        obtain ⟨f0, f1, f2, f3⟩ := set4_cells r0 r1 r2 r3 hlt5 (.cells #[.int .i64 t.op, .int .i64 t.num, .slice A1 t.perm.length c1, .slice (some ⟨g, 0, none⟩) K.length cap] 46) (.int .i64 t.op) (.int .i64 t.num) (.slice A1 t.perm.length c1) (.slice (some ⟨g, 0, none⟩) K.length cap)
        exact bodyPost_ret (v := .agg #[.int .i64 t.op, .int .i64 t.num, .slice A1 t.perm.length c1, .slice (some ⟨g, 0, none⟩) K.length cap]) (by simp [results, Tryz.results87, go_sem, f0, f1, f2, f3]) rfl hpost

/-- What acting makes of a term, in the model. -/
theorem l2Act_any : ∀ (N : Nat) (t : Tm), szT t ≤ N → N ≤ 1048576 → OkP 1048576 t → ∀ (w : World) (x : Value) (P : Option Addr) (cp : Nat) (p : List (Int × Int)), TmIn w x t → PairsAt w P p → p.length ≤ 1048576 →
    Calls Tryz.prog 87 #[.slice P p.length cp, x] w (TmOut (actT p t) w) := by
  intro N
  induction N with
  | zero => intro t h; rw [szT_eq] at h; omega
  | succ N ih =>
    intro t hN hM hok w x P cp p hx hP hlp
    have hkl := len_szTs t.kids
    rw [szT_eq] at hN
    have hok' : Asc t.perm ∧ t.perm.length ≤ 1048576 ∧ OkPs 1048576 t.kids := by
      cases t with
      | mk o n r ks => exact hok
    refine l2Act_step t x P cp p w hx hP hlp hok'.2.1 (by omega) fun i hi w' y hy hP' => ih _ ?_ (by omega) (okP_at hok'.2.2 hi) w' y P cp p hy hP' hlp
    have := szT_at hi
    omega
end Go.Proofs.YtlhjgjfnmejiaaaGreat
end

