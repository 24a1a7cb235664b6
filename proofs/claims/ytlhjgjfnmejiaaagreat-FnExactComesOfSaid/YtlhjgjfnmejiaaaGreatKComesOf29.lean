/-
  needs.addFresh in the program: what must be known for an atom to be fresh for a form is put into a set; as contracts.
-/
import Derived.Test.YtlhjgjfnmejiaaaGreatKComesOf21
import Derived.Test.YtlhjgjfnmejiaaaGreatKComesOf13
import Derived.Test.YtlhjgjfnmejiaaaGreatKComesOf28
import Derived.Carry
namespace Go.Proofs.YtlhjgjfnmejiaaaGreat
open Go.RowKit Go.Sort Go.ChangeShapes Go.WideShapes Go.WideMaps Go.Maps
set_option linter.unusedVariables false
attribute [local go_sem] ask_atom_atom ask_atom_node ask_atom_bind ask_atom_hole ask_node_atom ask_node_node ask_node_bind ask_node_hole ask_bind_atom ask_bind_node ask_bind_bind ask_bind_hole ask_hole_atom ask_hole_node ask_hole_bind ask_hole_hole

/-- What a call leaves that puts elements into a set: a beginning of d; all of d where it answers true. -/
def AddPost (b n : Nat) (S d : List (Int × Int)) (ok r : Bool) (w : World) (e : Ending) (w' : World) : Prop :=
  ∃ d', e = .returned (.bool r) ∧ SetAt w' b (n + d'.length) (S ++ d') ∧ d' <+: d ∧ (ok = true → d' = d) ∧ w.grownBy w' (some b)

/-- A store into the set, run. -/
theorem set_run {w : World} {b n : Nat} {S : List (Int × Int)} (hs : SetAt w b n S) (hn : n < maxLen) (y z : Int) (hok : okF (y, z)) :
    ∃ w', (Instr.mapUpdate 131 (.map (some b)) (.agg #[.int .i64 y, .int .i64 z]) (.bool true)).run Tryz.prog w = .ok () w' ∧ SetAt w' b (n + 1) (S ++ [(y, z)]) ∧ w.grownBy w' (some b) := by
  obtain ⟨D, ho, hd⟩ := hs
  obtain ⟨w', hrun, h1, h2⟩ := ho.store frKeyed Tryz.underlying131 hn (keyF_of w hok) (plainElem_bool Tryz.underlying4 true)
  exact ⟨w', hrun, ⟨_, h1, SetAt.put_ w (ho.tidy frKeyed) ho.isMap hok hd⟩, h2.grown⟩

set_option maxRecDepth 100000 in
set_option maxHeartbeats 1000000 in
/-- The atom that becomes a. -/
theorem sourceIn_any (A : Option Addr) (c : Nat) (l : List (Int × Int)) (a : Int) (w : World) (hA : PairsAt w A l) (hl : l.length ≤ 1099511627776) :
    Calls Tryz.prog 138 #[.slice A l.length c, .int .i64 a] w fun e w' => e = .returned (.int .i64 (backL l a)) ∧ Below w.heap.size w w' := by
  go_enter Tryz.func138, Tryz.ntmps138
  go_wp2
  go_loopw [9] (fun i wr => ∃ k : Nat, k ≤ l.length ∧ i = .int .i64 k ∧ Hid (∀ j, j < k → (prAt l j).2 ≠ a) ∧ Below w.heap.size w wr) (fun i _ => l.length - (intOf i).toNat)
  case atStart => exact ⟨0, Nat.zero_le _, rfl, fun j hj => absurd hj (by omega), Below.refl _ _⟩
  case round =>
    obtain ⟨k, hk, rfl, hq, hb⟩ := hrel
    by_cases hlt : k < l.length
    · obtain ⟨b1, o1, rfl, hb1, hc1⟩ := hA (by omega)
      obtain ⟨c1, c2⟩ := hc1 k hlt
      rw [← hb.cell (p := ⟨b1, _, none⟩) hb1] at c1 c2
      have hbW : Below w.heap.size w (wr.alloc (.cells #[.int .i64 (prAt l k).1, .int .i64 (prAt l k).2] 148)) := hb.alloc hb.size _
      clear hc1 hA
      by_cases he : ((prAt l k).2 == a) = true
      · have hres : Hid (backL l a = (prAt l k).1) := backL_at l a k hlt hq.out (by simpa using he)
        generalize prAt l k = p at c1 c2 he hres hbW
        clear hq
        go_wp2
        go_ret
        exact ⟨int_end hres.out.symm, hbW⟩
      · have he' : ((prAt l k).2 == a) = false := by simpa using he
        have hn : Hid (∀ j, j < k + 1 → (prAt l j).2 ≠ a) := by
          intro j hj
          by_cases e : j = k
          · rw [e]; simpa using he'
          · exact hq.out j (by omega)
        generalize prAt l k = p at c1 c2 he he' hbW
        clear hq he
        go_wp2
        refine ⟨⟨k + 1, by omega, by go_num, hn, hbW⟩, ?_⟩
        simp only [intOf]
        omega
    · have hres : Hid (backL l a = a) := backL_none l a fun j hj => hq.out j (by omega)
      clear hq hA
      go_wp2
      go_ret
      exact ⟨int_end hres.out.symm, hb⟩

theorem prefix_nil_add {w w' : World} {b n : Nat} {S d : List (Int × Int)} {ok r : Bool} (hs : SetAt w' b n S) (hg : w.grownBy w' (some b)) (hok : ok = true → d = []) : AddPost b n S d ok r w (.returned (.bool r)) w' :=
  ⟨[], rfl, by simpa using hs, List.nil_prefix, fun h => (hok h).symm, hg⟩

set_option maxRecDepth 100000 in
theorem addFresh_atom (b n0 : Nat) (S : List (Int × Int)) (a n : Int) (w : World) (hs : SetAt w b n0 S) :
    Calls Tryz.prog 93 #[.map (some b), .int .i64 a, .iface 153 (.agg #[.int .i64 n])] w (AddPost b n0 S [] (n != a) (n != a) w) := by
  have hs3 := ((hs.alloc (.cells #[.map (some b)] 131)).alloc (.cells #[.int .i64 a] 3)).alloc (.cells #[.int .i64 n] 153)
  have hg3 : w.grownBy (((w.alloc (.cells #[.map (some b)] 131)).alloc (.cells #[.int .i64 a] 3)).alloc (.cells #[.int .i64 n] 153)) (some b) :=
    grownBy_trans (grownBy_trans (World.grownBy_alloc _ _ _) (World.grownBy_alloc _ _ _)) (World.grownBy_alloc _ _ _)
  have hpost := prefix_nil_add (d := []) (ok := n != a) (r := n != a) hs3 hg3 (fun _ => rfl)
  clear hs hs3 hg3
  by_cases h : n = a
  · subst h
    have hh : (n != n) = false := by simp
    rw [hh] at hpost ⊢
    go_enter Tryz.func93, Tryz.ntmps93
    go_wp2
    go_ret
    exact hpost
  · have hh : (n != a) = true := by simp [h]
    rw [hh] at hpost ⊢
    go_enter Tryz.func93, Tryz.ntmps93
    go_wp2
    go_ret
    exact hpost

set_option maxRecDepth 100000 in
set_option maxHeartbeats 2000000 in
theorem addFresh_hole (b n0 : Nat) (S : List (Int × Int)) (a n : Int) (A : Option Addr) (c : Nat) (p : List (Int × Int)) (w : World) (hs : SetAt w b n0 S) (hn : n0 ≤ 1048576) (hp : PairsAt w A p) (hpl : p.length ≤ 1048576) (hok : okF (backL p a, n)) :
    Calls Tryz.prog 93 #[.map (some b), .int .i64 a, .iface 135 (.agg #[.int .i64 n, .slice A p.length c])] w (AddPost b n0 S [(backL p a, n)] true true w) := by
  have hsrc := fun W hW => sourceIn_any A c p a W hW (by omega)
  generalize backL p a = y at hok hsrc ⊢
  have hb3 : Below w.heap.size w (((w.alloc (.cells #[.map (some b)] 131)).alloc (.cells #[.int .i64 a] 3)).alloc (.cells #[.int .i64 n, .slice A p.length c] 135)) := (((Below.refl _ w).alloc (Nat.le_refl _) _).alloc (by simp) _).alloc (by simp; omega) _
  have hs3 := ((hs.alloc (.cells #[.map (some b)] 131)).alloc (.cells #[.int .i64 a] 3)).alloc (.cells #[.int .i64 n, .slice A p.length c] 135)
  obtain ⟨m0, a0, x0, x1⟩ := boxes3 w (.map (some b)) (.int .i64 a) (.int .i64 n) (.slice A p.length c) 131 3 135
  have hsz : (((w.alloc (.cells #[.map (some b)] 131)).alloc (.cells #[.int .i64 a] 3)).alloc (.cells #[.int .i64 n, .slice A p.length c] 135)).heap.size = w.heap.size + 3 := by simp
  have hp3 := hp.below hb3
  go_enter Tryz.func93, Tryz.ntmps93
  go_wp2
  generalize ((w.alloc (.cells #[.map (some b)] 131)).alloc (.cells #[.int .i64 a] 3)).alloc (.cells #[.int .i64 n, .slice A p.length c] 135) = W at hb3 hs3 m0 a0 x0 x1 hsz hp3 ⊢
  have hbl := hs.lt
  have hsd : SetAt W.drew b n0 S := hs3.below ⟨rfl, rfl, rfl, Nat.le_refl _, fun _ _ => rfl⟩
  have hgd : W.grownBy W.drew (some b) := ⟨rfl, rfl, rfl, Nat.le_refl _, fun _ _ _ => rfl⟩
  have m1 : W.drew.cell? ⟨w.heap.size, 0, none⟩ = some (.map (some b)) := m0
  have a1 : W.drew.cell? ⟨w.heap.size + 1, 0, none⟩ = some (.int .i64 a) := a0
  have y0 : W.drew.cell? ⟨w.heap.size + 2, 0, none⟩ = some (.int .i64 n) := x0
  have y1 : W.drew.cell? ⟨w.heap.size + 2, 1, none⟩ = some (.slice A p.length c) := x1
  have hct := hsrc W.drew (hp3.below ⟨rfl, rfl, rfl, Nat.le_refl _, fun _ _ => rfl⟩)
  have hszd : W.drew.heap.size = w.heap.size + 3 := hsz
  have hgW : w.grownBy W.drew (some b) := grownBy_trans (grown_of_below hb3 _) hgd
  have HK := Lib.hid hok
  have HS := Lib.hid hsd
  have HG := Lib.hid hgW
  clear hsrc m0 a0 x0 x1 hs hs3 hp hp3 hok hb3 hgd hsd hgW
  have HT : Hid (∀ w2, Below W.drew.heap.size W.drew w2 → (w2.cell? ⟨w.heap.size, 0, none⟩ = some (.map (some b)) ∧ w2.cell? ⟨w.heap.size + 1, 0, none⟩ = some (.int .i64 a) ∧ w2.cell? ⟨w.heap.size + 1 + 1, 0, none⟩ = some (.int .i64 n) ∧ w2.cell? ⟨w.heap.size + 1 + 1, 1, none⟩ = some (.slice A p.length c)) ∧ ∃ w5, (Instr.mapUpdate 131 (.map (some b)) (.agg #[.int .i64 y, .int .i64 n]) (.bool true)).run Tryz.prog w2 = .ok () w5 ∧ (w5.cell? ⟨w.heap.size, 0, none⟩ = some (.map (some b)) ∧ w5.cell? ⟨w.heap.size + 1, 0, none⟩ = some (.int .i64 a) ∧ w5.cell? ⟨w.heap.size + 1 + 1, 0, none⟩ = some (.int .i64 n) ∧ w5.cell? ⟨w.heap.size + 1 + 1, 1, none⟩ = some (.slice A p.length c)) ∧ SetAt w5 b (n0 + 1) (S ++ [(y, n)]) ∧ w.grownBy w5 (some b)) := Lib.hid fun w2 hb2 => by
    have m2 := (hb2.cell (p := ⟨w.heap.size, 0, none⟩) (show w.heap.size < W.drew.heap.size by omega)).trans m1
    have a2 := (hb2.cell (p := ⟨w.heap.size + 1, 0, none⟩) (show w.heap.size + 1 < W.drew.heap.size by omega)).trans a1
    have z0 := (hb2.cell (p := ⟨w.heap.size + 2, 0, none⟩) (show w.heap.size + 2 < W.drew.heap.size by omega)).trans y0
    have z1 := (hb2.cell (p := ⟨w.heap.size + 2, 1, none⟩) (show w.heap.size + 2 < W.drew.heap.size by omega)).trans y1
    refine ⟨⟨m2, a2, z0, z1⟩, ?_⟩
    obtain ⟨w5, hrun, hs5, hg5⟩ := set_run (HS.out.below hb2) (by unfold maxLen; omega) y n HK.out
    have ne (k : Nat) : some (w.heap.size + k) ≠ some b := fun e => by injection e with e; omega
    exact ⟨w5, hrun, ⟨hg5.cell m2 (ne 0), hg5.cell a2 (ne 1), hg5.cell z0 (ne 2), hg5.cell z1 (ne 2)⟩, hs5, grownBy_trans HG.out (grownBy_trans (grown_of_below hb2 _) hg5)⟩
  replace y0 : W.drew.cell? ⟨w.heap.size + 1 + 1, 0, none⟩ = some (.int .i64 n) := y0
  replace y1 : W.drew.cell? ⟨w.heap.size + 1 + 1, 1, none⟩ = some (.slice A p.length c) := y1
  clear HS HG HK
  go_region_held3 (fun w' => w'.cell? ⟨w.heap.size, 0, none⟩ = some (.map (some b)) ∧ w'.cell? ⟨w.heap.size + 1, 0, none⟩ = some (.int .i64 a) ∧ w'.cell? ⟨w.heap.size + 1 + 1, 0, none⟩ = some (.int .i64 n) ∧ w'.cell? ⟨w.heap.size + 1 + 1, 1, none⟩ = some (.slice A p.length c))
    (first | (with_reducible exact ⟨by assumption, by assumption, by assumption, by assumption⟩) | ((try dsimp only); exact ⟨by assumption, by assumption, by assumption, by assumption⟩) | go_keep)
    ((go_at_call 138; refine hct.mono ?_; rintro e w2 ⟨rfl, hb2⟩; obtain ⟨⟨m2, a2, z0, z1⟩, w5, hrun, ⟨m5, a5, x0, x1⟩, hs5, hg5⟩ := HT.out w2 hb2))
  have hpost : AddPost b n0 S [(y, n)] true true w (.returned (.bool true)) w5 :=
    ⟨[(y, n)], rfl, hs5, List.prefix_rfl, fun _ => rfl, hg5⟩
  clear hct HT hs5 hg5 hb2 m1 a1 y0 y1 m2 a2 z0 z1 m5 a5 x0 x1 hrun
  go_wp2
  go_ret
  exact hpost

/-- The function literal: whether the atom can't be fresh for a kid. -/
theorem addFreshLit (b n0 : Nat) (S d : List (Int × Int)) (ok : Bool) (a : Int) (v : Value) (B3 B4 : Nat) (w : World) (m0 : w.cell? ⟨B3, 0, none⟩ = some (.map (some b))) (a0 : w.cell? ⟨B4, 0, none⟩ = some (.int .i64 a))
    (hct : Calls Tryz.prog 93 #[.map (some b), .int .i64 a, v] w (AddPost b n0 S d ok ok w)) :
    Calls Tryz.prog 137 #[v, .pointer (some ⟨B3, 0, none⟩), .pointer (some ⟨B4, 0, none⟩)] w (AddPost b n0 S d ok (!ok) w) := by
  go_enter Tryz.func137, Tryz.ntmps137
  go_wp2_with fail
  refine hct.mono ?_
  rintro e w2 ⟨d', rfl, h1, h2, h3, h4⟩
  have hpost : AddPost b n0 S d ok (!ok) w (.returned (.bool (!ok))) w2 := ⟨d', rfl, h1, h2, h3, h4⟩
  clear hct h1 h2 h3 h4
  go_wp2
  go_ret
  exact hpost

/-- What looking through the kids leaves. -/
def LookPost (b n0 : Nat) (S d : List (Int × Int)) (ok : Bool) (w : World) (e : Ending) (w' : World) : Prop :=
  ∃ (i : Int) (d' : List (Int × Int)), e = .returned (.int .i64 i) ∧ SetAt w' b (n0 + d'.length) (S ++ d') ∧ d' <+: d ∧ ((0 ≤ i ∧ ok = false) ∨ (i < 0 ∧ ok = true ∧ d' = d)) ∧ w.grownBy w' (some b)

theorem over_but {w w' : World} {b : Nat} (hg : w.grownBy w' (some b)) : Over w w' (fun x => x ≠ b) (fun x => x ≠ b) :=
  ⟨hg.size, fun x hx hl => hg.block x hl (fun e => hx (by injection e)), fun _ h _ => h⟩

set_option maxRecDepth 100000 in
set_option maxHeartbeats 2000000 in
theorem indexFresh_any (b n0 : Nat) (S : List (Int × Int)) (a : Int) (B3 B4 b1 off c : Nat) (xs : List Value) (ks : List Tm) (w : World) (hs : SetAt w b n0 S) (m0 : w.cell? ⟨B3, 0, none⟩ = some (.map (some b))) (a0 : w.cell? ⟨B4, 0, none⟩ = some (.int .i64 a))
    (hb1 : b1 ≠ b) (hbl : b1 < w.heap.size) (hc : ∀ j u, xs[j]? = some u → w.cell? ⟨b1, off + j, none⟩ = some u) (hxs : FsIn w (fun x => x ≠ b) xs ks) (hl : ks.length ≤ 1048576)
    (ih : ∀ i, i < ks.length → ∀ (w' : World) (v : Value) (S' : List (Int × Int)), FIn w' (fun x => x ≠ b) v (tmAt ks i) → SetAt w' b (n0 + (ndTs a (ks.take i)).length) S' → Calls Tryz.prog 93 #[.map (some b), .int .i64 a, v] w' (AddPost b (n0 + (ndTs a (ks.take i)).length) S' (ndT a (tmAt ks i)) (okT a (tmAt ks i)) (okT a (tmAt ks i)) w')) :
    Calls Tryz.prog 167 #[.slice (some ⟨b1, off, none⟩) ks.length c, .func (.func 137) #[] #[.pointer (some ⟨B3, 0, none⟩), .pointer (some ⟨B4, 0, none⟩)]] w (LookPost b n0 S (ndTs a ks) (okTs a ks) w) := by
  have hB3 : B3 ≠ b := hs.noCell m0
  have hB4 : B4 ≠ b := hs.noCell a0
  have hg0 : w.grownBy w (some b) := grown_of_below (Below.refl _ _) _
  go_enter Tryz.func167, Tryz.ntmps167
  go_wp2
  go_loopw [5, 8] (fun _ i wr => ∃ k : Nat, k ≤ ks.length ∧ i = .int .i64 k ∧ Hid (okTs a (ks.take k) = true) ∧ SetAt wr b (n0 + (ndTs a (ks.take k)).length) (S ++ ndTs a (ks.take k)) ∧ w.grownBy wr (some b)) (fun _ i _ => ks.length - (intOf i).toNat)
  case atStart => exact ⟨0, Nat.zero_le _, rfl, Lib.hid (by simp [okTs]), by simpa [ndTs] using hs, hg0⟩
  case round =>
    obtain ⟨k, hk, rfl, hq, hsr, hg⟩ := hrel
    by_cases hlt : k < ks.length
    · obtain ⟨u, hu, hfu⟩ := hxs.get k hlt
      have d0 := hg.cell (a := ⟨b1, off + k, none⟩) (hc k _ hu) (fun e => hb1 (by injection e))
      have m1 := hg.cell (a := ⟨B3, 0, none⟩) m0 (fun e => hB3 (by injection e))
      have a1 := hg.cell (a := ⟨B4, 0, none⟩) a0 (fun e => hB4 (by injection e))
      have hct := ih k hlt wr u _ (hfu.over (over_but hg)) hsr
      have hone := hfu.one
      obtain ⟨fx, rfl⟩ := hfu.iface
      have hlit := addFreshLit b _ _ _ _ a _ B3 B4 wr m1 a1 hct
      have hn1 := Lib.hid (ndTs_next a hlt)
      have hn2 := Lib.hid (okTs_next a hlt)
      have hn3 := Lib.hid (ndTs_split a hlt)
      have hn4 := Lib.hid (fun h => okTs_no a hlt h)
      generalize fty (tmAt ks k) = T at hlit d0
      generalize ndT a (tmAt ks k) = d at hlit hn1 hn3
      generalize okT a (tmAt ks k) = ok at hlit hn2 hn4
      generalize hX : ndTs a (ks.take k) = X at hlit hn1 hn3
      clear hct hu hfu hone hc hxs ih hs m0 a0 m1 a1 hg0 hsr hX
      cases ok with
      | true =>
        have hq2 : Hid (okTs a (ks.take (k + 1)) = true) := Lib.hid (by rw [hn2.out, hq.out]; rfl)
        go_wp2_with (go_at_call 137; refine hlit.mono ?_; rintro e w2 ⟨d', rfl, h1, h2, h3, h4⟩)
        have e1 : d' = d := by simpa using h3
        subst e1
        have hs2 : SetAt w2 b (n0 + (ndTs a (ks.take (k + 1))).length) (S ++ ndTs a (ks.take (k + 1))) := by
          rw [hn1.out, List.length_append, ← Nat.add_assoc, ← List.append_assoc]
          exact h1
        have hg2 := grownBy_trans hg h4
        clear hlit h1 h2 h3 h4 d0 hn1 hn2 hn3 hn4 hg hq
        refine ⟨⟨k + 1, by omega, by go_num, hq2, hs2, hg2⟩, ?_⟩
        simp only [intOf]
        omega
      | false =>
        have hno : Hid (okTs a ks = false) := Lib.hid (hn4.out rfl)
        go_wp2_with (go_at_call 137; refine hlit.mono ?_; rintro e w2 ⟨d', rfl, h1, h2, h3, h4⟩)
        have hpost : LookPost b n0 S (ndTs a ks) (okTs a ks) w (.returned (.int .i64 k)) w2 := by
          refine ⟨k, X ++ d', rfl, ?_, ?_, .inl ⟨by omega, hno.out⟩, grownBy_trans hg h4⟩
          · rw [List.length_append, ← Nat.add_assoc, ← List.append_assoc]; exact h1
          · rw [hn3.out]
            exact (List.prefix_append_right_inj _).2 (h2.trans (List.prefix_append _ _))
        clear hlit h1 h2 h3 h4 d0 hn1 hn2 hn3 hn4 hg hq hno
        go_ret
        exact hpost
    · have e : k = ks.length := by omega
      rw [e, List.take_length] at hq hsr
      have hpost : LookPost b n0 S (ndTs a ks) (okTs a ks) w (.returned (.int .i64 (-1))) wr :=
        ⟨-1, _, rfl, hsr, List.prefix_rfl, .inr ⟨by decide, hq.out, rfl⟩, hg⟩
      clear hq hsr hg hs m0 a0 hc hxs ih
      go_wp2
      go_ret
      exact hpost

set_option maxRecDepth 100000 in
set_option maxHeartbeats 1000000 in
theorem addFresh_node (b n0 : Nat) (S : List (Int × Int)) (a n : Int) (b1 off c : Nat) (xs : List Value) (ks : List Tm) (w : World) (hs : SetAt w b n0 S)
    (hb1 : b1 ≠ b) (hbl : b1 < w.heap.size) (hc : ∀ j u, xs[j]? = some u → w.cell? ⟨b1, off + j, none⟩ = some u) (hxs : FsIn w (fun x => x ≠ b) xs ks) (hl : ks.length ≤ 1048576)
    (ih : ∀ i, i < ks.length → ∀ (w' : World) (v : Value) (S' : List (Int × Int)), FIn w' (fun x => x ≠ b) v (tmAt ks i) → SetAt w' b (n0 + (ndTs a (ks.take i)).length) S' → Calls Tryz.prog 93 #[.map (some b), .int .i64 a, v] w' (AddPost b (n0 + (ndTs a (ks.take i)).length) S' (ndT a (tmAt ks i)) (okT a (tmAt ks i)) (okT a (tmAt ks i)) w')) :
    Calls Tryz.prog 93 #[.map (some b), .int .i64 a, .iface 156 (.agg #[.int .i64 n, .slice (some ⟨b1, off, none⟩) ks.length c])] w (AddPost b n0 S (ndTs a ks) (okTs a ks) (okTs a ks) w) := by
  have hb3 : Below w.heap.size w (((w.alloc (.cells #[.map (some b)] 131)).alloc (.cells #[.int .i64 a] 3)).alloc (.cells #[.int .i64 n, .slice (some ⟨b1, off, none⟩) ks.length c] 156)) := (((Below.refl _ w).alloc (Nat.le_refl _) _).alloc (by simp) _).alloc (by simp; omega) _
  have hs3 := ((hs.alloc (.cells #[.map (some b)] 131)).alloc (.cells #[.int .i64 a] 3)).alloc (.cells #[.int .i64 n, .slice (some ⟨b1, off, none⟩) ks.length c] 156)
  obtain ⟨m0, a0, _, _⟩ := boxes3 w (.map (some b)) (.int .i64 a) (.int .i64 n) (.slice (some ⟨b1, off, none⟩) ks.length c) 131 3 156
  have hlk := indexFresh_any b n0 S a w.heap.size (w.heap.size + 1) b1 off c xs ks _ hs3 m0 a0 hb1 (Nat.lt_of_lt_of_le hbl hb3.size) (fun j u hj => (hb3.cell (p := ⟨b1, off + j, none⟩) hbl).trans (hc j u hj)) (hxs.over ⟨hb3.size, fun x _ hx => hb3.block x hx, fun _ h _ => h⟩) hl ih
  have HG : Hid (w.grownBy (((w.alloc (.cells #[.map (some b)] 131)).alloc (.cells #[.int .i64 a] 3)).alloc (.cells #[.int .i64 n, .slice (some ⟨b1, off, none⟩) ks.length c] 156)) (some b)) := Lib.hid (grown_of_below hb3 _)
  have hcon : Calls Tryz.prog 136 #[.slice (some ⟨b1, off, none⟩) ks.length c, .func (.func 137) #[] #[.pointer (some ⟨w.heap.size, 0, none⟩), .pointer (some ⟨w.heap.size + 1, 0, none⟩)]] (((w.alloc (.cells #[.map (some b)] 131)).alloc (.cells #[.int .i64 a] 3)).alloc (.cells #[.int .i64 n, .slice (some ⟨b1, off, none⟩) ks.length c] 156))
      (AddPost b n0 S (ndTs a ks) (okTs a ks) (!okTs a ks) (((w.alloc (.cells #[.map (some b)] 131)).alloc (.cells #[.int .i64 a] 3)).alloc (.cells #[.int .i64 n, .slice (some ⟨b1, off, none⟩) ks.length c] 156))) := by
    clear hs hs3 m0 a0 hc hxs ih HG hb3
    generalize ((w.alloc (.cells #[.map (some b)] 131)).alloc (.cells #[.int .i64 a] 3)).alloc (.cells #[.int .i64 n, .slice (some ⟨b1, off, none⟩) ks.length c] 156) = W at hlk ⊢
    generalize ndTs a ks = d at hlk ⊢
    generalize okTs a ks = ok at hlk ⊢
    go_enter Tryz.func136, Tryz.ntmps136
    go_wp2_with fail
    refine hlk.mono ?_
    rintro e w2 ⟨i, d', rfl, h1, h2, h3, h4⟩
    clear hlk
    rcases h3 with ⟨hi, rfl⟩ | ⟨hi, rfl, rfl⟩
    · have hpost : AddPost b n0 S d false true W (.returned (.bool true)) w2 := ⟨d', rfl, h1, h2, (fun h => by cases h), h4⟩
      clear h1 h2 h4
      go_wp2
      go_ret
      exact hpost
    · have hi' : ¬ 0 ≤ i := by omega
      have hpost : AddPost b n0 S d' true false W (.returned (.bool false)) w2 := ⟨d', rfl, h1, h2, fun _ => rfl, h4⟩
      have hd : decide (0 ≤ i) = false := decide_eq_false hi'
      clear h1 h2 h4
      go_wp2
      go_ret
      first | exact hpost | (rw [hd]; exact hpost) | (simpa [hi'] using hpost)
  clear hlk hs hs3 m0 a0 hc hxs ih hb3
  generalize ndTs a ks = d at hcon ⊢
  generalize okTs a ks = ok at hcon ⊢
  go_enter Tryz.func93, Tryz.ntmps93
  go_wp2_with fail
  refine hcon.mono ?_
  rintro e w2 ⟨d', rfl, h1, h2, h3, h4⟩
  have hpost : AddPost b n0 S d ok ok w (.returned (.bool ok)) w2 := ⟨d', rfl, h1, h2, h3, grownBy_trans HG.out h4⟩
  clear hcon h1 h2 h3 h4 HG
  cases ok with
  | true =>
    go_wp2
    go_ret
    exact hpost
  | false =>
    go_wp2
    go_ret
    exact hpost

set_option maxRecDepth 100000 in
set_option maxHeartbeats 1000000 in
theorem addFresh_bind (b n0 : Nat) (S : List (Int × Int)) (a n : Int) (v : Value) (k : Tm) (w : World) (hs : SetAt w b n0 S) (hv : FIn w (fun x => x ≠ b) v k)
    (ih : n ≠ a → ∀ w' : World, FIn w' (fun x => x ≠ b) v k → SetAt w' b n0 S → Calls Tryz.prog 93 #[.map (some b), .int .i64 a, v] w' (AddPost b n0 S (ndT a k) (okT a k) (okT a k) w')) :
    Calls Tryz.prog 93 #[.map (some b), .int .i64 a, .iface 159 (.agg #[.int .i64 n, v])] w (AddPost b n0 S (ndT a (.mk 3 n [] [k])) (okT a (.mk 3 n [] [k])) (okT a (.mk 3 n [] [k])) w) := by
  obtain ⟨fx, rfl⟩ := hv.iface
  have hb3 : Below w.heap.size w (((w.alloc (.cells #[.map (some b)] 131)).alloc (.cells #[.int .i64 a] 3)).alloc (.cells #[.int .i64 n, .iface (fty k) fx] 159)) := (((Below.refl _ w).alloc (Nat.le_refl _) _).alloc (by simp) _).alloc (by simp; omega) _
  have hs3 := ((hs.alloc (.cells #[.map (some b)] 131)).alloc (.cells #[.int .i64 a] 3)).alloc (.cells #[.int .i64 n, .iface (fty k) fx] 159)
  have hct' := fun hne => ih hne _ (hv.keep hb3) hs3
  have HG := Lib.hid (grown_of_below hb3 (some b))
  have h3 := Lib.hid (ndT_3 a n k)
  have h4 := Lib.hid (okT_3 a n k)
  generalize fty k = T at hct' hs3 hb3 HG ⊢
  by_cases h : n = a
  · subst h
    rw [h3.out, h4.out, if_pos rfl]
    have he : (n == n || okT n k) = true := by simp
    rw [he]
    have hpost := prefix_nil_add (d := []) (ok := true) (r := true) hs3 HG.out (fun _ => rfl)
    clear hs hv ih hb3 hs3 hct' HG h3 h4 he
    go_enter Tryz.func93, Tryz.ntmps93
    go_wp2
    go_ret
    exact hpost
  · have he : (n == a || okT a k) = okT a k := by simp [h]
    have hna : (n == a) = false := by simp [h]
    rw [h3.out, h4.out, if_neg h, he]
    have hct := hct' h
    clear hs hv ih hb3 hs3 h3 h4 he hct'
    generalize ndT a k = d at hct ⊢
    generalize okT a k = ok at hct ⊢
    go_enter Tryz.func93, Tryz.ntmps93
    go_wp2_with fail
    refine hct.mono ?_
    rintro e w2 ⟨d', rfl, h1, h2, h3, h4⟩
    have hpost : AddPost b n0 S d ok ok w (.returned (.bool ok)) w2 := ⟨d', rfl, h1, h2, h3, grownBy_trans HG.out h4⟩
    clear hct h1 h2 h3 h4 HG
    go_wp2
    go_ret
    exact hpost

/-- needs.addFresh at every form. -/
theorem addFresh_any (b : Nat) (a : Int) (M : Nat) (hM : M ≤ 1048576) : ∀ (N : Nat) (t : Tm), szT t ≤ N → OkP M t → (∀ x ∈ ndT a t, okF x) → ∀ (n0 : Nat) (S : List (Int × Int)) (w : World) (v : Value), n0 + szT t ≤ 1048576 → FIn w (fun x => x ≠ b) v t → SetAt w b n0 S →
    Calls Tryz.prog 93 #[.map (some b), .int .i64 a, v] w (AddPost b n0 S (ndT a t) (okT a t) (okT a t) w) := by
  intro N
  induction N with
  | zero => intro t h; rw [szT_eq] at h; omega
  | succ N ih =>
    intro t hN hP hok n0 S w v hn h hs
    obtain ⟨fx, rfl⟩ := h.iface
    rcases form_cases h with ⟨n, rfl, rfl⟩ | ⟨n, b1, off, c, xs, ks, rfl, rfl, hq, hbl, hc, hxs⟩ | ⟨n, v, k, rfl, rfl, hk⟩ | ⟨n, A, c, p, rfl, rfl, hp, _⟩
    · rw [ndT_1, okT_1]
      exact addFresh_atom b n0 S a n w hs
    · rw [ndT_2] at hok ⊢
      rw [okT_2]
      rw [szT_eq, kids_mk] at hN hn
      have hkl := len_szTs ks
      refine addFresh_node b n0 S a n b1 off c xs ks w hs hq hbl hc hxs (by omega) fun i hi w' v' S' hv' hs' => ?_
      have h1 := szT_at hi
      have h2 := ndTs_len a (ks.take i)
      have h3 := szTs_before hi
      exact ih _ (by omega) (okPs_at hP.2.2 hi) (fun x hx => hok x (ndTs_kid hi hx)) _ S' w' v' (by omega) hv' hs'
    · rw [szT_eq, kids_mk, szTs, szTs] at hN hn
      refine addFresh_bind b n0 S a n v k w hs hk fun hna w' hv' hs' => ?_
      rw [ndT_3, if_neg hna] at hok
      exact ih k (by omega) hP.2.2.1 hok n0 S w' v (by omega) hv' hs'
    · rw [ndT_4] at hok ⊢
      rw [okT_4]
      exact addFresh_hole b n0 S a n A c p w hs (by omega) hp (Nat.le_trans hP.2.1 hM) (hok _ (by simp))

end Go.Proofs.YtlhjgjfnmejiaaaGreat
