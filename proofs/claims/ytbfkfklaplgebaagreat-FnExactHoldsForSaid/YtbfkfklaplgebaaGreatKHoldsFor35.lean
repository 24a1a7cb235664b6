/-
  The comparison of two forms with a set of elements, in the program, as contracts. The comparison of two forms with a set of elements, by their kinds, in the program, as contracts. The comparison of two forms with a set of elements: binders, and every two forms, in the program, as contracts. The comparison of two forms with a set of elements: every two forms, in the program, as a contract.
-/
import Derived.Test.YtbfkfklaplgebaaGreatKHoldsFor29
import Derived.Test.YtbfkfklaplgebaaGreatKHoldsFor23
import Derived.Test.YtbfkfklaplgebaaGreatKHoldsFor24
import Derived.Test.YtbfkfklaplgebaaGreatKHoldsFor15
section
namespace Go.Proofs.YtbfkfklaplgebaaGreat
open Go.RowKit Go.Sort Go.ChangeShapes Go.WideShapes Go.WideMaps Go.Maps
set_option linter.unusedVariables false
attribute [local go_sem] ask_atom_atom ask_atom_node ask_atom_bind ask_atom_hole ask_node_atom ask_node_node ask_node_bind ask_node_hole ask_bind_atom ask_bind_node ask_bind_bind ask_bind_hole ask_hole_atom ask_hole_node ask_hole_bind ask_hole_hole

theorem map_take_next {L : List Int} {k : Nat} (h : k < L.length) (n : Int) : (L.take (k + 1)).map (fun a => (a, n)) = (L.take k).map (fun a => (a, n)) ++ [(itAt L k, n)] := by
  rw [itake_next h, List.map_append]; rfl

set_option maxRecDepth 100000 in
set_option maxHeartbeats 2000000 in
theorem addSameHoles_any (b n0 : Nat) (S : List (Int × Int)) (n m : Int) (A B : Option Addr) (c d : Nat) (p q : List (Int × Int)) (w : World) (hs : SetAt w b n0 S) (hp : PairsAt w A p) (hq : PairsAt w B q) (hlp : p.length ≤ 1048576) (hlq : q.length ≤ 1048576) (h1 : Asc p) (h2 : Asc q)
    (hn : n0 + (hoNd n p m q).length ≤ 1048576) (hok : ∀ x ∈ hoNd n p m q, okF x) :
    Calls Tryz.prog 122 #[.map (some b), .agg #[.int .i64 n, .slice A p.length c], .agg #[.int .i64 m, .slice B q.length d]] w (AddPost b n0 S (hoNd n p m q) (n == m) (n == m) w) := by
  by_cases hnm : n = m
  · subst hnm
    have hr : (n == n) = true := by simp
    have hl : hoNd n p n q = (differL p q).map (fun a => (a, n)) := by simp [hoNd]
    rw [hl] at hn hok ⊢
    rw [hr]
    rw [List.length_map] at hn
    have hb2 : Below w.heap.size w ((w.alloc (.cells #[.int .i64 n, .slice A p.length c] 83)).alloc (.cells #[.int .i64 n, .slice B q.length d] 83)) := ((Below.refl _ w).alloc (Nat.le_refl _) _).alloc (by simp) _
    have hs2 := (hs.alloc (.cells #[.int .i64 n, .slice A p.length c] 83)).alloc (.cells #[.int .i64 n, .slice B q.length d] 83)
    have hdi := differenceIn_any A B c d p q _ (hp.below hb2) (hq.below hb2) hlp hlq h1 h2
    have k0 : ((w.alloc (.cells #[.int .i64 n, .slice A p.length c] 83)).alloc (.cells #[.int .i64 n, .slice B q.length d] 83)).heap[w.heap.size]? = some (.cells #[.int .i64 n, .slice A p.length c] 83 (0, 0)) :=
      (Below.heap_alloc _ _ _ (by simp)).trans (heap_alloc_new w _)
    have hsz : ((w.alloc (.cells #[.int .i64 n, .slice A p.length c] 83)).alloc (.cells #[.int .i64 n, .slice B q.length d] 83)).heap.size = w.heap.size + 2 := by simp
    obtain ⟨u0, u1, _, _⟩ := row2 k0
    have k1 := heap_alloc_new (w.alloc (.cells #[.int .i64 n, .slice A p.length c] 83)) (.cells #[.int .i64 n, .slice B q.length d] 83)
    rw [World.size_alloc] at k1
    obtain ⟨v0, v1, _, _⟩ := row2 k1
    have HG := Lib.hid (grown_of_below hb2 (some b))
    have hbl := hs.lt
    generalize differL p q = L at hdi hn hok ⊢
    have HOK := Lib.hid hok
    clear hp hq h1 h2 hl hr k1 hs hok hb2
    go_enter Tryz.func122, Tryz.ntmps122
    go_wp2_with fail
    generalize (w.alloc (.cells #[.int .i64 n, .slice A p.length c] 83)).alloc (.cells #[.int .i64 n, .slice B q.length d] 83) = W at hs2 hdi k0 hsz u0 u1 v0 v1 HG ⊢
    refine hdi.mono ?_
    rintro e w3 ⟨v3, rfl, ho3, hb3⟩
    have hs3 := hs2.below hb3
    have hg3 : w.grownBy w3 (some b) := grownBy_trans HG.out (grown_of_below hb3 _)
    have k3 := (hb3.block w.heap.size (by omega)).trans k0
    obtain ⟨z0, _, _, _⟩ := row2 k3
    obtain ⟨G, gc, rfl, hI⟩ := own_intsAt ho3
    clear hdi hs2 k0 u0 u1 v0 v1 HG hb3 ho3 k3
    go_wp2
    go_loopw [8, 20] (fun _ i wr => ∃ k : Nat, k ≤ L.length ∧ i = .int .i64 k ∧ SetAt wr b (n0 + ((L.take k).map (fun a => (a, n))).length) (S ++ (L.take k).map (fun a => (a, n))) ∧ w.grownBy wr (some b) ∧ w3.grownBy wr (some b)) (fun _ i _ => L.length - (intOf i).toNat)
    case atStart => exact ⟨0, Nat.zero_le _, rfl, by simpa using hs3, hg3, grown_of_below (Below.refl _ _) _⟩
    case round =>
      obtain ⟨k, hk, rfl, hsk, hg, hgr⟩ := hrel
      by_cases hlt : k < L.length
      · obtain ⟨g, off, rfl, hgl, hc⟩ := hI (by omega)
        have c0 := hc k hlt
        have hne : g ≠ b := hs3.noCell c0
        have hne2 : w.heap.size ≠ b := hs3.noCell z0
        have c1 := hgr.cell (a := ⟨g, off + k, none⟩) c0 (fun e => hne (by injection e))
        have z1 := hgr.cell (a := ⟨w.heap.size, 0, none⟩) z0 (fun e => hne2 (by injection e))
        have hnx := Lib.hid (map_take_next hlt n)
        have hokk : okF (itAt L k, n) := HOK.out _ (List.mem_map.2 ⟨itAt L k, by rw [itAt_get L k hlt]; exact List.getElem_mem hlt, rfl⟩)
        have hlen : ((L.take k).map (fun a => (a, n))).length = k := by rw [List.length_map, List.length_take]; omega
        generalize itAt L k = y at c0 c1 hnx hokk
        rw [hlen] at hsk
        generalize (L.take k).map (fun a => (a, n)) = M at hsk hnx
        have hn2 : n0 + k < maxLen := by unfold maxLen; omega
        clear hc hI c0 z0 hs3 hg3 HOK hlen
        go_wp2_with (at_mapUpdate; refine wpList_mapUpdate_set _ rfl _ _ _ 98 rfl Tryz.underlying98 b (n0 + k) (S ++ M) rfl hsk hn2 (y, n) rfl hokk rfl ?_)
        intro w5 hs5 hg5
        have hs6 : SetAt w5 b (n0 + ((L.take (k + 1)).map (fun a => (a, n))).length) (S ++ (L.take (k + 1)).map (fun a => (a, n))) := by
          have e1 : ((L.take (k + 1)).map (fun a => (a, n))).length = k + 1 := by rw [List.length_map, List.length_take]; omega
          rw [e1, hnx.out, ← Nat.add_assoc]
          exact hs5
        have hg6 := grownBy_trans hg hg5
        have hgr6 := grownBy_trans hgr hg5
        clear hsk hs5 hg5 hg hgr c1 z1 hnx
        go_wp2
        refine ⟨⟨k + 1, by omega, by go_num, hs6, hg6, hgr6⟩, ?_⟩
        simp only [intOf]
        omega
      · have e : k = L.length := by omega
        rw [e, List.take_length] at hsk
        have hpost : AddPost b n0 S (L.map (fun a => (a, n))) true true w (.returned (.bool true)) wr := ⟨_, rfl, hsk, List.prefix_rfl, fun _ => rfl, hg⟩
        clear hsk hg hgr hI z0 hs3 hg3 HOK
        go_wp2
        go_ret
        exact hpost
  · have hr : (n == m) = false := by simp [hnm]
    have hl : hoNd n p m q = [] := by simp [hoNd, hnm]
    rw [hl, hr]
    have hx : (n != m) = true := by simp [hnm]
    have hs2 := (hs.alloc (.cells #[.int .i64 n, .slice A p.length c] 83)).alloc (.cells #[.int .i64 m, .slice B q.length d] 83)
    have hpost := prefix_nil_add (d := []) (ok := false) (r := false) hs2 (grownBy_trans (World.grownBy_alloc _ _ _) (World.grownBy_alloc _ _ _)) (fun _ => rfl)
    have k0 : ((w.alloc (.cells #[.int .i64 n, .slice A p.length c] 83)).alloc (.cells #[.int .i64 m, .slice B q.length d] 83)).heap[w.heap.size]? = some (.cells #[.int .i64 n, .slice A p.length c] 83 (0, 0)) :=
      (Below.heap_alloc _ _ _ (by simp)).trans (heap_alloc_new w _)
    obtain ⟨u0, u1, _, _⟩ := row2 k0
    clear hs hs2 hp hq h1 h2 hl hr hok k0
    go_enter Tryz.func122, Tryz.ntmps122
    go_wp2
    go_ret
    exact hpost

set_option maxRecDepth 100000 in
set_option maxHeartbeats 2000000 in
theorem equalFunc_any (b n0 : Nat) (S : List (Int × Int)) (b1 o1 c1 b2 o2 c2 : Nat) (xs ys : List Value) (ks ls : List Tm) (w : World) (hs : SetAt w b n0 S)
    (hb1 : b1 ≠ b) (hbl1 : b1 < w.heap.size) (hc1 : ∀ j u, xs[j]? = some u → w.cell? ⟨b1, o1 + j, none⟩ = some u) (hxs : FsIn w (fun x => x ≠ b) xs ks)
    (hb2 : b2 ≠ b) (hbl2 : b2 < w.heap.size) (hc2 : ∀ j u, ys[j]? = some u → w.cell? ⟨b2, o2 + j, none⟩ = some u) (hys : FsIn w (fun x => x ≠ b) ys ls)
    (hl1 : ks.length ≤ 1048576) (hl2 : ls.length ≤ 1048576) (hn : n0 + (eqNds ndT hoNd ks ls).length + szTs ls ≤ 1048576) (hok : ∀ x ∈ eqNds ndT hoNd ks ls, okF x)
    (ih : ∀ i, i < ks.length → i < ls.length → ∀ (w' : World) (v u : Value) (n1 : Nat) (S' : List (Int × Int)), FIn w' (fun x => x ≠ b) v (tmAt ks i) → FIn w' (fun x => x ≠ b) u (tmAt ls i) → SetAt w' b n1 S' → n1 + (eqNd ndT hoNd (tmAt ks i) (tmAt ls i)).length + szT (tmAt ls i) ≤ 1048576 → (∀ x ∈ eqNd ndT hoNd (tmAt ks i) (tmAt ls i), okF x) → Calls Tryz.prog 57 #[(.agg #[.func (.func 92) #[.map (some b)] #[], .func (.func 122) #[.map (some b)] #[]]), v, u] w' (AddPost b n1 S' (eqNd ndT hoNd (tmAt ks i) (tmAt ls i)) (eqOk okT hoOk (tmAt ks i) (tmAt ls i)) (eqOk okT hoOk (tmAt ks i) (tmAt ls i)) w')) :
    Calls Tryz.prog 106 #[.slice (some ⟨b1, o1, none⟩) ks.length c1, .slice (some ⟨b2, o2, none⟩) ls.length c2, .func (.func 57) #[(.agg #[.func (.func 92) #[.map (some b)] #[], .func (.func 122) #[.map (some b)] #[]])] #[]] w (AddPost b n0 S (eqNds ndT hoNd ks ls) (eqOks okT hoOk ks ls) (eqOks okT hoOk ks ls) w) := by
  have hg0 : w.grownBy w (some b) := grown_of_below (Below.refl _ _) _
  by_cases hlen : ks.length = ls.length
  · have hq0 : (ks.length != ls.length) = false := by simp [hlen]
    have hq1 : ((ks.length : Int) != (ls.length : Int)) = false := by simp [hlen]
    have hq2 : ((ks.length : Int) == (ls.length : Int)) = true := by simp [hlen]
    have HLEN := Lib.hid hlen
    clear hlen
    go_enter Tryz.func106, Tryz.ntmps106
    go_wp2
    go_loopw [7, 8, 9, 17] (fun _ _ _ i wr => ∃ k : Nat, k ≤ ks.length ∧ i = .int .i64 k ∧ Hid (eqOks okT hoOk (ks.take k) (ls.take k) = true) ∧ SetAt wr b (n0 + (eqNds ndT hoNd (ks.take k) (ls.take k)).length) (S ++ eqNds ndT hoNd (ks.take k) (ls.take k)) ∧ w.grownBy wr (some b)) (fun _ _ _ i _ => ks.length - (intOf i).toNat)
    case atStart => exact ⟨0, Nat.zero_le _, rfl, Lib.hid (by simp [eqOks]), by simpa [eqNds] using hs, hg0⟩
    case round =>
      obtain ⟨k, hk, rfl, hq, hsr, hg⟩ := hrel
      by_cases hlt : k < ks.length
      · have hlt2 : k < ls.length := by have := HLEN.out; omega
        obtain ⟨u, hu, hfu⟩ := hxs.get k hlt
        obtain ⟨v, hv, hfv⟩ := hys.get k hlt2
        have d1 := hg.cell (a := ⟨b1, o1 + k, none⟩) (hc1 k _ hu) (fun e => hb1 (by injection e))
        have d2 := hg.cell (a := ⟨b2, o2 + k, none⟩) (hc2 k _ hv) (fun e => hb2 (by injection e))
        have hpre : eqNds ndT hoNd (ks.take (k + 1)) (ls.take (k + 1)) <+: eqNds ndT hoNd ks ls := eqNds_prefix _ _ (k + 1)
        have hn1 := eqNds_take ndT hoNd hlt hlt2
        rw [hn1] at hpre
        have hsub : ∀ x ∈ eqNd ndT hoNd (tmAt ks k) (tmAt ls k), okF x := fun x hx => hok x (hpre.subset (List.mem_append_right _ hx))
        have hle := hpre.length_le
        rw [List.length_append] at hle
        have hszk := szT_at hlt2
        have hct := ih k hlt hlt2 wr u v _ _ (hfu.over (over_but hg)) (hfv.over (over_but hg)) hsr (by omega) hsub
        obtain ⟨fx, rfl⟩ := hfu.iface
        obtain ⟨fy, rfl⟩ := hfv.iface
        have HN1 := Lib.hid hn1
        have HPR := Lib.hid hpre
        have HN2 := Lib.hid (eqOks_take okT hoOk hlt hlt2)
        have HN4 := Lib.hid (fun h => eqOks_no okT hoOk hlt hlt2 h)
        generalize fty (tmAt ks k) = T1 at hct d1
        generalize fty (tmAt ls k) = T2 at hct d2
        generalize eqNd ndT hoNd (tmAt ks k) (tmAt ls k) = dd at hct HN1 HPR
        generalize eqOk okT hoOk (tmAt ks k) (tmAt ls k) = ok at hct HN2 HN4
        generalize hX : eqNds ndT hoNd (ks.take k) (ls.take k) = X at hct HN1 HPR
        clear hu hv hfu hfv hc1 hc2 hxs hys ih hs hg0 hsr hX hn1 hpre hsub hle hok
        cases ok with
        | true =>
          have hq3 : Hid (eqOks okT hoOk (ks.take (k + 1)) (ls.take (k + 1)) = true) := Lib.hid (by rw [HN2.out, hq.out]; rfl)
          go_wp2_with (go_at_call 57; refine hct.mono ?_; rintro e w2 ⟨d', rfl, h1, h2, h3, h4⟩)
          have e1 : d' = dd := by simpa using h3
          subst e1
          have hs2 : SetAt w2 b (n0 + (eqNds ndT hoNd (ks.take (k + 1)) (ls.take (k + 1))).length) (S ++ eqNds ndT hoNd (ks.take (k + 1)) (ls.take (k + 1))) := by
            rw [HN1.out, List.length_append, ← Nat.add_assoc, ← List.append_assoc]
            exact h1
          have hg2 := grownBy_trans hg h4
          clear hct h1 h2 h3 h4 d1 d2 HN1 HN2 HN4 HPR hg hq
          refine ⟨⟨k + 1, by omega, by go_num, hq3, hs2, hg2⟩, ?_⟩
          simp only [intOf]
          omega
        | false =>
          have hno : Hid (eqOks okT hoOk ks ls = false) := Lib.hid (HN4.out rfl)
          go_wp2_with (go_at_call 57; refine hct.mono ?_; rintro e w2 ⟨d', rfl, h1, h2, h3, h4⟩)
          have hpost : AddPost b n0 S (eqNds ndT hoNd ks ls) (eqOks okT hoOk ks ls) (eqOks okT hoOk ks ls) w (.returned (.bool false)) w2 := by
            rw [hno.out]
            refine ⟨X ++ d', rfl, ?_, ?_, (fun h => by cases h), grownBy_trans hg h4⟩
            · rw [List.length_append, ← Nat.add_assoc, ← List.append_assoc]; exact h1
            · exact ((List.prefix_append_right_inj X).2 h2).trans HPR.out
          clear hct h1 h2 h3 h4 d1 d2 HN1 HN2 HN4 HPR hg hq hno
          go_ret
          exact hpost
      · have e : k = ks.length := by omega
        have e2 : k = ls.length := by have := HLEN.out; omega
        have hq' := hq.out
        rw [List.take_of_length_le (show ks.length ≤ k by omega), List.take_of_length_le (show ls.length ≤ k by omega)] at hq' hsr
        have hpost : AddPost b n0 S (eqNds ndT hoNd ks ls) (eqOks okT hoOk ks ls) (eqOks okT hoOk ks ls) w (.returned (.bool true)) wr := by
          rw [hq']
          exact ⟨_, rfl, hsr, List.prefix_rfl, fun _ => rfl, hg⟩
        clear hq hq' hsr hg hs hc1 hc2 hxs hys ih
        go_wp2
        go_ret
        exact hpost
  · have hq1 : ((ks.length : Int) != (ls.length : Int)) = true := by simp; omega
    have hno := eqOks_len okT hoOk (ks := ks) (ls := ls) hlen
    have hpost : AddPost b n0 S (eqNds ndT hoNd ks ls) (eqOks okT hoOk ks ls) (eqOks okT hoOk ks ls) w (.returned (.bool false)) w := by
      rw [hno]
      exact ⟨[], rfl, by simpa using hs, List.nil_prefix, (fun h => by cases h), hg0⟩
    have hlen' : ¬ (ks.length : Int) = (ls.length : Int) := by omega
    clear hs hc1 hc2 hxs hys ih hno hlen hg0
    go_enter Tryz.func106, Tryz.ntmps106
    go_wp2
    go_ret
    exact hpost

end Go.Proofs.YtbfkfklaplgebaaGreat
end

section
namespace Go.Proofs.YtbfkfklaplgebaaGreat
open Go.RowKit Go.Sort Go.ChangeShapes Go.WideShapes Go.WideMaps Go.Maps
set_option linter.unusedVariables false
attribute [local go_sem] ask_atom_atom ask_atom_node ask_atom_bind ask_atom_hole ask_node_atom ask_node_node ask_node_bind ask_node_hole ask_bind_atom ask_bind_node ask_bind_bind ask_bind_hole ask_hole_atom ask_hole_node ask_hole_bind ask_hole_hole

theorem grown3 (w : World) (o1 o2 o3 : Obj) (row : Option Nat) : w.grownBy (((w.alloc o1).alloc o2).alloc o3) row :=
  grownBy_trans (grownBy_trans (World.grownBy_alloc _ _ _) (World.grownBy_alloc _ _ _)) (World.grownBy_alloc _ _ _)
theorem below3 (w : World) (o1 o2 o3 : Obj) : Below w.heap.size w (((w.alloc o1).alloc o2).alloc o3) :=
  (((Below.refl _ w).alloc (Nat.le_refl _) _).alloc (by simp) _).alloc (by simp; omega) _

theorem fty_1 (m : Int) : fty (.mk 1 m [] []) = 139 := rfl
theorem fty_2 (m : Int) (ks : List Tm) : fty (.mk 2 m [] ks) = 143 := rfl
theorem fty_3 (m : Int) (k : Tm) : fty (.mk 3 m [] [k]) = 147 := rfl
theorem fty_4 (m : Int) (p : List (Int × Int)) : fty (.mk 4 m p []) = 83 := rfl

theorem eqNd_1 (n : Int) (t : Tm) : eqNd ndT hoNd (.mk 1 n [] []) t = [] := by simp [eqNd]
theorem eqOk_1 (n : Int) (t : Tm) : eqOk okT hoOk (.mk 1 n [] []) t = (decide (t.op = 1) && (n == t.num)) := by simp [eqOk]
theorem eqOk_2 (n : Int) (ks : List Tm) (t : Tm) : eqOk okT hoOk (.mk 2 n [] ks) t = (decide (t.op = 2) && ((n == t.num) && eqOks okT hoOk ks t.kids)) := by simp [eqOk]
theorem eqNd_2 (n : Int) (ks : List Tm) (t : Tm) : eqNd ndT hoNd (.mk 2 n [] ks) t = if t.op = 2 ∧ n = t.num then eqNds ndT hoNd ks t.kids else [] := by simp [eqNd]
theorem eqOk_4 (n : Int) (p : List (Int × Int)) (t : Tm) : eqOk okT hoOk (.mk 4 n p []) t = (decide (t.op = 4) && hoOk n p t.num t.perm) := by simp [eqOk]
theorem eqNd_4 (n : Int) (p : List (Int × Int)) (t : Tm) : eqNd ndT hoNd (.mk 4 n p []) t = if t.op = 4 then hoNd n p t.num t.perm else [] := by simp [eqNd]
theorem eqOk_3 (n : Int) (k : Tm) (t : Tm) : eqOk okT hoOk (.mk 3 n [] [k]) t = (decide (t.op = 3) && (if n = t.num then eqOks okT hoOk [k] t.kids else okT n (tmAt t.kids 0) && eqOks okT hoOk [k] [actT (swapL t.num n) (tmAt t.kids 0)])) := by simp [eqOk]
theorem eqNd_3 (n : Int) (k : Tm) (t : Tm) : eqNd ndT hoNd (.mk 3 n [] [k]) t = if t.op = 3 then (if n = t.num then eqNds ndT hoNd [k] t.kids else ndT n (tmAt t.kids 0) ++ eqNds ndT hoNd [k] [actT (swapL t.num n) (tmAt t.kids 0)]) else [] := by simp [eqNd]
theorem eqOks_one (k l : Tm) : eqOks okT hoOk [k] [l] = eqOk okT hoOk k l := by simp [eqOks]
theorem eqNds_one (k l : Tm) : eqNds ndT hoNd [k] [l] = eqNd ndT hoNd k l := by simp [eqNds]

set_option maxRecDepth 100000 in
set_option maxHeartbeats 2000000 in
theorem same_atom (b n0 : Nat) (S : List (Int × Int)) (n : Int) (u : Value) (t : Tm) (w : World) (hs : SetAt w b n0 S) (hu : FIn w (fun x => x ≠ b) u t) :
    Calls Tryz.prog 57 #[(.agg #[.func (.func 92) #[.map (some b)] #[], .func (.func 122) #[.map (some b)] #[]]), .iface 139 (.agg #[.int .i64 n]), u] w (AddPost b n0 S (eqNd ndT hoNd (.mk 1 n [] []) t) (eqOk okT hoOk (.mk 1 n [] []) t) (eqOk okT hoOk (.mk 1 n [] []) t) w) := by
  rw [eqNd_1, eqOk_1]
  obtain ⟨fx, rfl⟩ := hu.iface
  have HS := Lib.hid hs
  rcases form_cases hu with ⟨m, rfl, rfl⟩ | ⟨m, b1, off, c, xs, ks, rfl, rfl, _, _, _, _⟩ | ⟨m, v, k, rfl, rfl, _⟩ | ⟨m, A, c, p, rfl, rfl, _, _⟩
  · rw [op_mk, num_mk, fty_1]
    clear hs hu
    by_cases h : n = m
    · subst h
      rw [show (decide ((1 : Int) = 1) && (n == n)) = true by simp]
      go_enter Tryz.func57, Tryz.ntmps57
      go_wp2
      go_ret
      exact prefix_nil_add (((HS.out.alloc _).alloc _).alloc _) (grown3 _ _ _ _ _) (fun _ => rfl)
    · have hq : (n == m) = false := by simp [h]
      rw [show (decide ((1 : Int) = 1) && (n == m)) = false by simp [h]]
      go_enter Tryz.func57, Tryz.ntmps57
      go_wp2
      go_ret
      exact prefix_nil_add (((HS.out.alloc _).alloc _).alloc _) (grown3 _ _ _ _ _) (fun _ => rfl)
  all_goals
    rw [op_mk]
    first | rw [fty_2] | rw [fty_3] | rw [fty_4]
    rw [show (decide (_ = (1 : Int)) && _) = false by simp]
    clear hs hu
    go_enter Tryz.func57, Tryz.ntmps57
    go_wp2
    go_ret
    exact prefix_nil_add (((HS.out.alloc _).alloc _).alloc _) (grown3 _ _ _ _ _) (fun _ => rfl)

set_option maxRecDepth 100000 in
set_option maxHeartbeats 2000000 in
theorem same_hole (b n0 : Nat) (S : List (Int × Int)) (n : Int) (A : Option Addr) (c : Nat) (p : List (Int × Int)) (u : Value) (t : Tm) (w : World) (hs : SetAt w b n0 S) (hu : FIn w (fun x => x ≠ b) u t)
    (hp : PairsAt w A p) (hlp : p.length ≤ 1048576) (h1 : Asc p) (hP : OkP 1048576 t) (hn : n0 + (eqNd ndT hoNd (.mk 4 n p []) t).length ≤ 1048576) (hok : ∀ x ∈ eqNd ndT hoNd (.mk 4 n p []) t, okF x) :
    Calls Tryz.prog 57 #[(.agg #[.func (.func 92) #[.map (some b)] #[], .func (.func 122) #[.map (some b)] #[]]), .iface 83 (.agg #[.int .i64 n, .slice A p.length c]), u] w (AddPost b n0 S (eqNd ndT hoNd (.mk 4 n p []) t) (eqOk okT hoOk (.mk 4 n p []) t) (eqOk okT hoOk (.mk 4 n p []) t) w) := by
  rw [eqNd_4] at hn hok ⊢
  rw [eqOk_4]
  obtain ⟨fx, rfl⟩ := hu.iface
  have HS := Lib.hid hs
  rcases form_cases hu with ⟨m, rfl, rfl⟩ | ⟨m, b1, off, c1, xs, ks, rfl, rfl, _, _, _, _⟩ | ⟨m, v, k, rfl, rfl, _⟩ | ⟨m, B, d, q, rfl, rfl, hq, _⟩
  case inr.inr.inr =>
    rw [op_mk, if_pos rfl, num_mk, perm_mk] at hn hok ⊢
    rw [fty_4]
    rw [show (decide ((4 : Int) = 4) && hoOk n p m q) = (n == m) by simp [hoOk]]
    have hb := below3 w (.cells #[.func (.func 92) #[.map (some b)] #[], .func (.func 122) #[.map (some b)] #[]] 86) (.cells #[.int .i64 n, .slice A p.length c] 83) (.cells #[.int .i64 m, .slice B q.length d] 83)
    have hct := addSameHoles_any b n0 S n m A B c d p q _ (((hs.alloc _).alloc _).alloc _) (hp.below hb) (hq.below hb) hlp hP.2.1 h1 hP.1 hn hok
    have HG := Lib.hid (grown_of_below hb (some b))
    generalize hoNd n p m q = dd at hct ⊢
    generalize (n == m) = r at hct ⊢
    clear hs hu hp hq h1 hP hn hok hb HS
    go_enter Tryz.func57, Tryz.ntmps57
    go_wp2_with (go_at_call 122; refine hct.mono ?_; rintro e w2 ⟨d', rfl, g1, g2, g3, g4⟩)
    go_ret
    exact ⟨d', rfl, g1, g2, g3, grownBy_trans HG.out g4⟩
  all_goals
    rw [op_mk] at hn hok ⊢
    first | rw [fty_1] | rw [fty_2] | rw [fty_3]
    rw [if_neg (by decide)]
    rw [show (decide (_ = (4 : Int)) && _) = false by simp]
    clear hs hu hp h1 hP hn hok
    go_enter Tryz.func57, Tryz.ntmps57
    go_wp2
    go_ret
    exact prefix_nil_add (((HS.out.alloc _).alloc _).alloc _) (grown3 _ _ _ _ _) (fun _ => rfl)

set_option maxRecDepth 100000 in
set_option maxHeartbeats 2000000 in
theorem same_node (b n0 : Nat) (S : List (Int × Int)) (n : Int) (b1 o1 c1 : Nat) (xs : List Value) (ks : List Tm) (u : Value) (t : Tm) (w : World) (hs : SetAt w b n0 S) (hu : FIn w (fun x => x ≠ b) u t)
    (hb1 : b1 ≠ b) (hbl1 : b1 < w.heap.size) (hc1 : ∀ j u, xs[j]? = some u → w.cell? ⟨b1, o1 + j, none⟩ = some u) (hxs : FsIn w (fun x => x ≠ b) xs ks)
    (hl1 : ks.length ≤ 1048576) (hl2 : szT t ≤ 1048576) (hn : n0 + (eqNd ndT hoNd (.mk 2 n [] ks) t).length + szT t ≤ 1048576) (hok : ∀ x ∈ eqNd ndT hoNd (.mk 2 n [] ks) t, okF x)
    (ih : ∀ i, i < ks.length → i < t.kids.length → ∀ (w' : World) (v u : Value) (n1 : Nat) (S' : List (Int × Int)), FIn w' (fun x => x ≠ b) v (tmAt ks i) → FIn w' (fun x => x ≠ b) u (tmAt t.kids i) → SetAt w' b n1 S' → n1 + (eqNd ndT hoNd (tmAt ks i) (tmAt t.kids i)).length + szT (tmAt t.kids i) ≤ 1048576 → (∀ x ∈ eqNd ndT hoNd (tmAt ks i) (tmAt t.kids i), okF x) → Calls Tryz.prog 57 #[(.agg #[.func (.func 92) #[.map (some b)] #[], .func (.func 122) #[.map (some b)] #[]]), v, u] w' (AddPost b n1 S' (eqNd ndT hoNd (tmAt ks i) (tmAt t.kids i)) (eqOk okT hoOk (tmAt ks i) (tmAt t.kids i)) (eqOk okT hoOk (tmAt ks i) (tmAt t.kids i)) w')) :
    Calls Tryz.prog 57 #[(.agg #[.func (.func 92) #[.map (some b)] #[], .func (.func 122) #[.map (some b)] #[]]), .iface 143 (.agg #[.int .i64 n, .slice (some ⟨b1, o1, none⟩) ks.length c1]), u] w (AddPost b n0 S (eqNd ndT hoNd (.mk 2 n [] ks) t) (eqOk okT hoOk (.mk 2 n [] ks) t) (eqOk okT hoOk (.mk 2 n [] ks) t) w) := by
  rw [eqNd_2] at hn hok ⊢
  rw [eqOk_2]
  obtain ⟨fx, rfl⟩ := hu.iface
  have HS := Lib.hid hs
  rcases form_cases hu with ⟨m, rfl, rfl⟩ | ⟨m, b2, o2, c2, ys, ls, rfl, rfl, hb2, hbl2, hc2, hys⟩ | ⟨m, v, k, rfl, rfl, _⟩ | ⟨m, B, d, q, rfl, rfl, _, _⟩
  case inr.inl =>
    rw [op_mk, num_mk, kids_mk] at hn hok ⊢
    rw [kids_mk] at ih
    rw [fty_2]
    by_cases h : n = m
    · subst h
      rw [if_pos ⟨rfl, rfl⟩] at hn hok ⊢
      rw [show (decide ((2 : Int) = 2) && ((n == n) && eqOks okT hoOk ks ls)) = eqOks okT hoOk ks ls by simp]
      rw [szT_eq, kids_mk] at hl2 hn
      have hb := below3 w (.cells #[.func (.func 92) #[.map (some b)] #[], .func (.func 122) #[.map (some b)] #[]] 86) (.cells #[.int .i64 n, .slice (some ⟨b1, o1, none⟩) ks.length c1] 143) (.cells #[.int .i64 n, .slice (some ⟨b2, o2, none⟩) ls.length c2] 143)
      have hov : Over w _ (fun x => x ≠ b) (fun x => x ≠ b) := ⟨hb.size, fun x _ hx => hb.block x hx, fun _ h _ => h⟩
      have hct := equalFunc_any b n0 S b1 o1 c1 b2 o2 c2 xs ys ks ls _ (((hs.alloc _).alloc _).alloc _) hb1 (Nat.lt_of_lt_of_le hbl1 hb.size) (fun j u hj => (hb.cell (p := ⟨b1, o1 + j, none⟩) hbl1).trans (hc1 j u hj)) (hxs.over hov)
        hb2 (Nat.lt_of_lt_of_le hbl2 hb.size) (fun j u hj => (hb.cell (p := ⟨b2, o2 + j, none⟩) hbl2).trans (hc2 j u hj)) (hys.over hov) hl1 (by have := len_szTs ls; omega) (by omega) hok ih
      have HG := Lib.hid (grown_of_below hb (some b))
      generalize eqNds ndT hoNd ks ls = dd at hct ⊢
      generalize eqOks okT hoOk ks ls = r at hct ⊢
      have hnn : (n == n) = true := by simp
      clear hs hu hb1 hbl1 hc1 hxs hb2 hbl2 hc2 hys hl1 hl2 hn hok ih hb hov HS
      go_enter Tryz.func57, Tryz.ntmps57
      go_wp2_with (go_at_call 106; refine hct.mono ?_; rintro e w2 ⟨d', rfl, g1, g2, g3, g4⟩)
      go_ret
      exact ⟨d', rfl, g1, g2, g3, grownBy_trans HG.out g4⟩
    · have hq : (n == m) = false := by simp [h]
      rw [if_neg (fun e => h e.2)]
      rw [show (decide ((2 : Int) = 2) && ((n == m) && eqOks okT hoOk ks ls)) = false by simp [hq]]
      clear hs hu hb1 hbl1 hc1 hxs hb2 hbl2 hc2 hys hl1 hl2 hn hok ih
      go_enter Tryz.func57, Tryz.ntmps57
      go_wp2
      go_ret
      exact prefix_nil_add (((HS.out.alloc _).alloc _).alloc _) (grown3 _ _ _ _ _) (fun _ => rfl)
  all_goals
    rw [op_mk] at hn hok ⊢
    first | rw [fty_1] | rw [fty_3] | rw [fty_4]
    rw [if_neg (fun e => absurd e.1 (by decide))]
    rw [show (decide (_ = (2 : Int)) && _) = false by simp]
    clear hs hu hb1 hbl1 hc1 hxs hl1 hl2 hn hok ih
    go_enter Tryz.func57, Tryz.ntmps57
    go_wp2
    go_ret
    exact prefix_nil_add (((HS.out.alloc _).alloc _).alloc _) (grown3 _ _ _ _ _) (fun _ => rfl)

end Go.Proofs.YtbfkfklaplgebaaGreat
end

section
namespace Go.Proofs.YtbfkfklaplgebaaGreat
open Go.RowKit Go.Sort Go.ChangeShapes Go.WideShapes Go.WideMaps Go.Maps
set_option linter.unusedVariables false
attribute [local go_sem] ask_atom_atom ask_atom_node ask_atom_bind ask_atom_hole ask_node_atom ask_node_node ask_node_bind ask_node_hole ask_bind_atom ask_bind_node ask_bind_bind ask_bind_hole ask_hole_atom ask_hole_node ask_hole_bind ask_hole_hole

theorem field_bind (n : Int) (T : TypeId) (x : Value) (w : World) : (Instr.field 147 (.agg #[.int .i64 n, .iface T x]) 1).run Tryz.prog w = .ok (.iface T x) w := by kernel_rfl
attribute [local go_sem] field_bind

def bNd (n : Int) (k : Tm) (m : Int) (l : Tm) : List (Int × Int) := if n = m then eqNd ndT hoNd k l else ndT n l ++ eqNd ndT hoNd k (actT (swapL m n) l)
def bOk (n : Int) (k : Tm) (m : Int) (l : Tm) : Bool := if n = m then eqOk okT hoOk k l else okT n l && eqOk okT hoOk k (actT (swapL m n) l)

set_option maxRecDepth 100000 in
set_option maxHeartbeats 4000000 in
theorem bindersSame_any (b n0 : Nat) (S : List (Int × Int)) (n m : Int) (v u : Value) (k l : Tm) (w : World) (hs : SetAt w b n0 S) (hv : FIn w (fun x => x ≠ b) v k) (hu : FIn w (fun x => x ≠ b) u l)
    (hsz : szT l ≤ 1048576) (hP : OkP 1048576 l) (hn : n0 + (bNd n k m l).length + szT l ≤ 1048576) (hok : ∀ x ∈ bNd n k m l, okF x)
    (ihE : n = m → ∀ (w' : World) (v u : Value) (n1 : Nat) (S' : List (Int × Int)), FIn w' (fun x => x ≠ b) v k → FIn w' (fun x => x ≠ b) u l → SetAt w' b n1 S' → n1 + (eqNd ndT hoNd k l).length + szT l ≤ 1048576 → (∀ x ∈ eqNd ndT hoNd k l, okF x) → Calls Tryz.prog 57 #[(.agg #[.func (.func 92) #[.map (some b)] #[], .func (.func 122) #[.map (some b)] #[]]), v, u] w' (AddPost b n1 S' (eqNd ndT hoNd k l) (eqOk okT hoOk k l) (eqOk okT hoOk k l) w')) (ihN : n ≠ m → ∀ (w' : World) (v u : Value) (n1 : Nat) (S' : List (Int × Int)), FIn w' (fun x => x ≠ b) v k → FIn w' (fun x => x ≠ b) u (actT (swapL m n) l) → SetAt w' b n1 S' → n1 + (eqNd ndT hoNd k (actT (swapL m n) l)).length + szT (actT (swapL m n) l) ≤ 1048576 → (∀ x ∈ eqNd ndT hoNd k (actT (swapL m n) l), okF x) → Calls Tryz.prog 57 #[(.agg #[.func (.func 92) #[.map (some b)] #[], .func (.func 122) #[.map (some b)] #[]]), v, u] w' (AddPost b n1 S' (eqNd ndT hoNd k (actT (swapL m n) l)) (eqOk okT hoOk k (actT (swapL m n) l)) (eqOk okT hoOk k (actT (swapL m n) l)) w')) :
    Calls Tryz.prog 107 #[(.agg #[.func (.func 92) #[.map (some b)] #[], .func (.func 122) #[.map (some b)] #[]]), .agg #[.int .i64 n, v], .agg #[.int .i64 m, u]] w (AddPost b n0 S (bNd n k m l) (bOk n k m l) (bOk n k m l) w) := by
  obtain ⟨fx, rfl⟩ := hv.iface
  obtain ⟨fy, rfl⟩ := hu.iface
  have hb := below3 w (.cells #[.func (.func 92) #[.map (some b)] #[], .func (.func 122) #[.map (some b)] #[]] 86) (.cells #[.int .i64 n, .iface (fty k) fx] 147) (.cells #[.int .i64 m, .iface (fty l) fy] 147)
  have k0 : (((w.alloc (.cells #[.func (.func 92) #[.map (some b)] #[], .func (.func 122) #[.map (some b)] #[]] 86)).alloc (.cells #[.int .i64 n, .iface (fty k) fx] 147)).alloc (.cells #[.int .i64 m, .iface (fty l) fy] 147)).heap[w.heap.size]? = some (.cells #[.func (.func 92) #[.map (some b)] #[], .func (.func 122) #[.map (some b)] #[]] 86 (0, 0)) :=
    (Below.heap_alloc _ _ _ (by simp; omega)).trans ((Below.heap_alloc _ _ _ (by simp)).trans (heap_alloc_new w _))
  have k1 : (((w.alloc (.cells #[.func (.func 92) #[.map (some b)] #[], .func (.func 122) #[.map (some b)] #[]] 86)).alloc (.cells #[.int .i64 n, .iface (fty k) fx] 147)).alloc (.cells #[.int .i64 m, .iface (fty l) fy] 147)).heap[w.heap.size + 1]? = some (.cells #[.int .i64 n, .iface (fty k) fx] 147 (0, 0)) := by
    have h := heap_alloc_new (w.alloc (.cells #[.func (.func 92) #[.map (some b)] #[], .func (.func 122) #[.map (some b)] #[]] 86)) (.cells #[.int .i64 n, .iface (fty k) fx] 147)
    rw [World.size_alloc] at h
    exact (Below.heap_alloc _ _ _ (by simp)).trans h
  have k2 : (((w.alloc (.cells #[.func (.func 92) #[.map (some b)] #[], .func (.func 122) #[.map (some b)] #[]] 86)).alloc (.cells #[.int .i64 n, .iface (fty k) fx] 147)).alloc (.cells #[.int .i64 m, .iface (fty l) fy] 147)).heap[w.heap.size + 1 + 1]? = some (.cells #[.int .i64 m, .iface (fty l) fy] 147 (0, 0)) := by
    have h := heap_alloc_new ((w.alloc (.cells #[.func (.func 92) #[.map (some b)] #[], .func (.func 122) #[.map (some b)] #[]] 86)).alloc (.cells #[.int .i64 n, .iface (fty k) fx] 147)) (.cells #[.int .i64 m, .iface (fty l) fy] 147)
    rw [World.size_alloc, World.size_alloc] at h
    exact h
  have hs3 : SetAt (((w.alloc (.cells #[.func (.func 92) #[.map (some b)] #[], .func (.func 122) #[.map (some b)] #[]] 86)).alloc (.cells #[.int .i64 n, .iface (fty k) fx] 147)).alloc (.cells #[.int .i64 m, .iface (fty l) fy] 147)) b n0 S := ((hs.alloc _).alloc _).alloc _
  have hv3 := hv.keep hb
  have hu3 := hu.keep hb
  have HG := Lib.hid (grown_of_below hb (some b))
  have hbl := hs.lt
  have hsz3 : (((w.alloc (.cells #[.func (.func 92) #[.map (some b)] #[], .func (.func 122) #[.map (some b)] #[]] 86)).alloc (.cells #[.int .i64 n, .iface (fty k) fx] 147)).alloc (.cells #[.int .i64 m, .iface (fty l) fy] 147)).heap.size = w.heap.size + 3 := by simp
  by_cases hnm : n = m
  · subst hnm
    have hd : bNd n k n l = eqNd ndT hoNd k l := by unfold bNd; rw [if_pos rfl]
    have hr : bOk n k n l = eqOk okT hoOk k l := by unfold bOk; rw [if_pos rfl]
    rw [hd] at hn hok ⊢
    rw [hr]
    have hct := ihE rfl _ _ _ n0 S hv3 hu3 hs3 hn hok
    have hq : (n == n) = true := by simp
    obtain ⟨c0, c1, _, _⟩ := row2 k0
    obtain ⟨c2, c3, _, _⟩ := row2 k1
    obtain ⟨c4, c5, _, _⟩ := row2 k2
    generalize eqNd ndT hoNd k l = dd at hct ⊢
    generalize eqOk okT hoOk k l = r at hct ⊢
    generalize fty k = T1 at *
    generalize fty l = T2 at *
    clear hs hv hu hv3 hu3 ihE ihN hn hok hd hr hP k0 k1 k2 hs3 hb hsz3
    go_enter Tryz.func107, Tryz.ntmps107
    go_wp2_with (go_at_call 57; refine hct.mono ?_; rintro e w2 ⟨d', rfl, g1, g2, g3, g4⟩)
    go_ret
    exact ⟨d', rfl, g1, g2, g3, grownBy_trans HG.out g4⟩
  · have hd : bNd n k m l = ndT n l ++ eqNd ndT hoNd k (actT (swapL m n) l) := by unfold bNd; rw [if_neg hnm]
    have hr : bOk n k m l = (okT n l && eqOk okT hoOk k (actT (swapL m n) l)) := by unfold bOk; rw [if_neg hnm]
    rw [hd] at hn hok ⊢
    rw [hr]
    rw [List.length_append] at hn
    have hq : (n == m) = false := by simp [hnm]
    have hadd := fun (W : World) (hW : FIn W (fun x => x ≠ b) (.iface (fty l) fy) l) (hS : SetAt W b n0 S) => addFresh_any b n 1048576 (Nat.le_refl _) (szT l) l (Nat.le_refl _) hP (fun x hx => hok x (List.mem_append_left _ hx)) n0 S W _ (by omega) hW hS
    have hren := fun (W : World) (hW : FIn W (fun x => x ≠ b) (.iface (fty l) fy) l) => renamed_any m n _ l _ W hW hsz hP
    have hih := fun (W : World) (y : Value) (S' : List (Int × Int)) hV hU (hS : SetAt W b (n0 + (ndT n l).length) S') => ihN hnm W (.iface (fty k) fx) y _ S' hV hU hS (by rw [szT_actT]; omega) (fun x hx => hok x (List.mem_append_right _ hx))
    obtain ⟨c0, c1, _, _⟩ := row2 k0
    obtain ⟨c2, c3, _, _⟩ := row2 k1
    obtain ⟨c4, c5, _, _⟩ := row2 k2
    generalize ndT n l = d1 at *
    generalize okT n l = o1 at *
    generalize eqNd ndT hoNd k (actT (swapL m n) l) = dd at *
    generalize eqOk okT hoOk k (actT (swapL m n) l) = r at *
    generalize actT (swapL m n) l = l2 at *
    generalize fty k = T1 at *
    generalize fty l = T2 at *
    clear hs hv hu ihE ihN hn hok hd hr hP k0 k1 k2 hsz
    go_enter Tryz.func107, Tryz.ntmps107
    go_wp2
    generalize ((w.alloc (.cells #[.func (.func 92) #[.map (some b)] #[], .func (.func 122) #[.map (some b)] #[]] 86)).alloc (.cells #[.int .i64 n, .iface T1 fx] 147)).alloc (.cells #[.int .i64 m, .iface T2 fy] 147) = W at hb hs3 hv3 hu3 HG hsz3 c0 c1 c2 c3 c4 c5 ⊢
    have hdw : Below W.heap.size W W.drew := ⟨rfl, rfl, rfl, Nat.le_refl _, fun _ _ => rfl⟩
    have hg0 : W.grownBy W.drew (some b) := grown_of_below hdw _
    have hcadd := hadd W.drew (hu3.over (over_but hg0)) (hs3.below hdw)
    have ne (j : Nat) : some (w.heap.size + j) ≠ some b := fun e => by injection e with e; omega
    have HC : Hid (∀ w2, W.drew.grownBy w2 (some b) → w2.cell? ⟨w.heap.size, 0, none⟩ = some (.func (.func 92) #[.map (some b)] #[]) ∧ w2.cell? ⟨w.heap.size, 1, none⟩ = some (.func (.func 122) #[.map (some b)] #[]) ∧ w2.cell? ⟨w.heap.size + 1, 0, none⟩ = some (.int .i64 n) ∧ w2.cell? ⟨w.heap.size + 1, 1, none⟩ = some (.iface T1 fx) ∧ w2.cell? ⟨w.heap.size + 1 + 1, 0, none⟩ = some (.int .i64 m) ∧ w2.cell? ⟨w.heap.size + 1 + 1, 1, none⟩ = some (.iface T2 fy)) := Lib.hid fun w2 hg =>
      ⟨hg.cell (a := ⟨w.heap.size, 0, none⟩) c0 (ne 0), hg.cell (a := ⟨w.heap.size, 1, none⟩) c1 (ne 0), hg.cell (a := ⟨w.heap.size + 1, 0, none⟩) c2 (ne 1), hg.cell (a := ⟨w.heap.size + 1, 1, none⟩) c3 (ne 1), hg.cell (a := ⟨w.heap.size + 1 + 1, 0, none⟩) c4 (ne 2), hg.cell (a := ⟨w.heap.size + 1 + 1, 1, none⟩) c5 (ne 2)⟩
    have HV : Hid (∀ w2, W.drew.grownBy w2 (some b) → FIn w2 (fun x => x ≠ b) (.iface T1 fx) k ∧ FIn w2 (fun x => x ≠ b) (.iface T2 fy) l) := Lib.hid fun w2 hg =>
      ⟨hv3.over (over_but (grownBy_trans hg0 hg)), hu3.over (over_but (grownBy_trans hg0 hg))⟩
    obtain ⟨m0, m1, m2, m3, m4, m5⟩ := HC.out W.drew (grown_of_below (Below.refl _ _) _)
    have HGW : Hid (∀ w2, W.drew.grownBy w2 (some b) → w.grownBy w2 (some b)) := Lib.hid fun w2 hg => grownBy_trans HG.out (grownBy_trans hg0 hg)
    have HREN := Lib.hid hren
    have HIH := Lib.hid hih
    clear hadd hren hih hb hs3 hv3 hu3 HG hsz3 c0 c1 c2 c3 c4 c5 hdw hg0
    cases o1 with
    | true =>
      go_region_held3 (fun w' => w'.cell? ⟨w.heap.size, 0, none⟩ = some (.func (.func 92) #[.map (some b)] #[]) ∧ w'.cell? ⟨w.heap.size, 1, none⟩ = some (.func (.func 122) #[.map (some b)] #[]) ∧ w'.cell? ⟨w.heap.size + 1, 0, none⟩ = some (.int .i64 n) ∧ w'.cell? ⟨w.heap.size + 1, 1, none⟩ = some (.iface T1 fx) ∧ w'.cell? ⟨w.heap.size + 1 + 1, 0, none⟩ = some (.int .i64 m) ∧ w'.cell? ⟨w.heap.size + 1 + 1, 1, none⟩ = some (.iface T2 fy))
        (first | (with_reducible exact ⟨by assumption, by assumption, by assumption, by assumption, by assumption, by assumption⟩) | ((try dsimp only); exact ⟨by assumption, by assumption, by assumption, by assumption, by assumption, by assumption⟩) | go_keep)
        (first
          | (go_at_call 92; refine hcadd.mono ?_; rintro e w2 ⟨d', rfl, g1, g2, g3, g4⟩; have e1 := g3 rfl; subst e1; obtain ⟨a0, a1, a2, a3, a4, a5⟩ := HC.out w2 g4; have hcr := HREN.out w2 (HV.out w2 g4).2)
          | (go_at_call 112; refine hcr.mono ?_; rintro e w3 ⟨y, rfl, hy, hb3⟩; obtain ⟨fz, rfl⟩ := hy.iface; have hg3 := grownBy_trans g4 (grown_of_below hb3 _); obtain ⟨r0, r1, r2, r3, r4, r5⟩ := HC.out w3 hg3; have hbs := g1.lt; have hct := HIH.out w3 _ _ (HV.out w3 hg3).1 (hy.kind (fun x _ hx => by omega)) (g1.below hb3))
          | (go_at_call 57; refine hct.mono ?_; rintro e w4 ⟨d2, rfl, j1, j2, j3, j4⟩; have hg4 := grownBy_trans hg3 j4; obtain ⟨s0, s1, s2, s3, s4, s5⟩ := HC.out w4 hg4)
          | fail)
      have hpost : AddPost b n0 S (d' ++ dd) (true && r) (true && r) w (.returned (.bool r)) w4 := by
        rw [Bool.true_and]
        refine ⟨d' ++ d2, rfl, ?_, (List.prefix_append_right_inj d').2 j2, (fun h => by rw [j3 h]), HGW.out w4 hg4⟩
        rw [List.length_append, ← Nat.add_assoc, ← List.append_assoc]
        exact j1
      clear hcadd hcr hct HC HV HGW HREN HIH g1 g2 g3 g4 hy hb3 hg3 j1 j2 j3 j4 hg4 m0 m1 m2 m3 m4 m5 a0 a1 a2 a3 a4 a5 r0 r1 r2 r3 r4 r5 s0 s1 s2 s3 s4 s5
      go_wp2
      go_ret
      exact hpost
    | false =>
      refine wp_region_held_drew (S := (fun w' => w'.cell? ⟨w.heap.size, 0, none⟩ = some (.func (.func 92) #[.map (some b)] #[]) ∧ w'.cell? ⟨w.heap.size, 1, none⟩ = some (.func (.func 122) #[.map (some b)] #[]) ∧ w'.cell? ⟨w.heap.size + 1, 0, none⟩ = some (.int .i64 n) ∧ w'.cell? ⟨w.heap.size + 1, 1, none⟩ = some (.iface T1 fx) ∧ w'.cell? ⟨w.heap.size + 1 + 1, 0, none⟩ = some (.int .i64 m) ∧ w'.cell? ⟨w.heap.size + 1 + 1, 1, none⟩ = some (.iface T2 fy))) (by kernel_rfl) ⟨m0, m1, m2, m3, m4, m5⟩ (fun hHeld => ?_)
      refine wpAnyH_take (i := 0) (v := ?vv0) rfl (by kernel_rfl) (by kernel_rfl) (by kernel_rfl) (fun _ _ _ h => h) (Or.inl ⟨by rfl, ?hy0⟩) (by assumption) ?rest0
      case hy0 => (intro w hSw; (try dsimp only at hSw); go_simp; (try with_reducible rfl))
      (try simp only [Act.put, List.getElem_toArray, List.getElem_cons_zero, List.setIfInBounds_toArray, List.set_cons_zero, List.set_cons_succ])
      refine wpAnyH_take (i := 1) (v := ?vv1) rfl (by kernel_rfl) (by kernel_rfl) (by kernel_rfl) (fun _ _ _ h => h) (Or.inl ⟨by rfl, ?hy1⟩) (by assumption) ?rest1
      case hy1 => (intro w hSw; (try dsimp only at hSw); go_simp; (try with_reducible rfl))
      (try simp only [Act.put, List.getElem_toArray, List.getElem_cons_zero, List.getElem_cons_succ, List.setIfInBounds_toArray, List.set_cons_zero, List.set_cons_succ])
      refine wpAnyH_take (i := 2) (v := ?vv2) rfl (by kernel_rfl) (by kernel_rfl) (by kernel_rfl) (fun _ _ _ h => h) (Or.inl ⟨by rfl, ?hy2⟩) (by assumption) ?rest2
      case hy2 => (intro w hSw; (try dsimp only at hSw); go_simp; (try with_reducible rfl))
      (try simp only [Act.put, List.getElem_toArray, List.getElem_cons_zero, List.getElem_cons_succ, List.setIfInBounds_toArray, List.set_cons_zero, List.set_cons_succ])
      refine wpAnyH_take (i := 3) (v := ?vv3) rfl (by kernel_rfl) (by kernel_rfl) (by kernel_rfl) (fun _ _ _ h => h) (Or.inl ⟨by rfl, ?hy3⟩) (by assumption) ?rest3
      case hy3 => (intro w hSw; (try dsimp only at hSw); go_simp; (try with_reducible rfl))
      (try simp only [Act.put, List.getElem_toArray, List.getElem_cons_zero, List.getElem_cons_succ, List.setIfInBounds_toArray, List.set_cons_zero, List.set_cons_succ])
      refine wpAnyH_take (i := 4) (v := ?vv4) rfl (by kernel_rfl) (by kernel_rfl) (by kernel_rfl) (fun _ _ _ h => h) (Or.inl ⟨by rfl, ?hy4⟩) (by assumption) ?rest4
      case hy4 => (intro w hSw; (try dsimp only at hSw); go_simp; (try with_reducible rfl))
      (try simp only [Act.put, List.getElem_toArray, List.getElem_cons_zero, List.getElem_cons_succ, List.setIfInBounds_toArray, List.set_cons_zero, List.set_cons_succ])
      refine wpAnyH_take (i := 5) (v := ?vv5) rfl (by kernel_rfl) (by kernel_rfl) (by kernel_rfl) (fun _ _ _ h => h) (Or.inl ⟨by rfl, ?hy5⟩) (by assumption) ?rest5
      case hy5 => (intro w hSw; (try dsimp only at hSw); go_simp; (try with_reducible rfl))
      (try simp only [Act.put, List.getElem_toArray, List.getElem_cons_zero, List.getElem_cons_succ, List.setIfInBounds_toArray, List.set_cons_zero, List.set_cons_succ])
      refine wpAnyH_ready (rs := [6]) (by kernel_rfl) (by simp) ?_
      refine AllReadyH.cons rfl (fun K hK => ?_) AllReadyH.nil
      go_simp
      go_at_call 92
      refine hcadd.mono ?_
      rintro e w2 ⟨d', rfl, g1, g2, g3, g4⟩
      (try go_wp2_with fail)
      refine hK.out _ _ (HC.out w2 g4) (fun hHeld => ?_)
      clear hK K
      (try simp only [Act.put, List.getElem_toArray, List.getElem_cons_zero, List.getElem_cons_succ, List.setIfInBounds_toArray, List.set_cons_zero, List.set_cons_succ])
      refine wpAnyH_take (i := 7) (v := ?vv7) rfl (by kernel_rfl) (by kernel_rfl) (by kernel_rfl) (fun _ _ _ h => h) (Or.inl ⟨by rfl, ?hy7⟩) (by assumption) ?rest7
      case hy7 => (intro w hSw; (try dsimp only at hSw); go_simp; (try with_reducible rfl))
      (try simp only [Act.put, List.getElem_toArray, List.getElem_cons_zero, List.getElem_cons_succ, List.setIfInBounds_toArray, List.set_cons_zero, List.set_cons_succ])
      refine wpAnyH_take (i := 8) rfl (by kernel_rfl) (by kernel_rfl) (by kernel_rfl) (fun _ _ _ h => h) (Or.inr ⟨by rfl, rfl⟩) (by assumption) ?_
      (try simp only [Act.put, List.getElem_toArray, List.getElem_cons_zero, List.getElem_cons_succ, List.setIfInBounds_toArray, List.set_cons_zero, List.set_cons_succ])
      refine wpAnyH_take (i := 9) rfl (by kernel_rfl) (by kernel_rfl) (by kernel_rfl) (fun _ _ _ h => h) (Or.inr ⟨by rfl, rfl⟩) (by assumption) ?_
      (try simp only [Act.put, List.getElem_toArray, List.getElem_cons_zero, List.getElem_cons_succ, List.setIfInBounds_toArray, List.set_cons_zero, List.set_cons_succ])
      refine wpAnyH_take (i := 10) rfl (by kernel_rfl) (by kernel_rfl) (by kernel_rfl) (fun _ _ _ h => h) (Or.inr ⟨by rfl, rfl⟩) (by assumption) ?_
      (try simp only [Act.put, List.getElem_toArray, List.getElem_cons_zero, List.getElem_cons_succ, List.setIfInBounds_toArray, List.set_cons_zero, List.set_cons_succ])
      refine wpAnyH_take (i := 11) rfl (by kernel_rfl) (by kernel_rfl) (by kernel_rfl) (fun _ _ _ h => h) (Or.inr ⟨by rfl, rfl⟩) (by assumption) ?_
      (try simp only [Act.put, List.getElem_toArray, List.getElem_cons_zero, List.getElem_cons_succ, List.setIfInBounds_toArray, List.set_cons_zero, List.set_cons_succ])
      refine wpAnyH_take (i := 12) rfl (by kernel_rfl) (by kernel_rfl) (by kernel_rfl) (fun _ _ _ h => h) (Or.inr ⟨by rfl, rfl⟩) (by assumption) ?_
      (try simp only [Act.put, List.getElem_toArray, List.getElem_cons_zero, List.getElem_cons_succ, List.setIfInBounds_toArray, List.set_cons_zero, List.set_cons_succ])
      refine wpAnyH_take (i := 13) rfl (by kernel_rfl) (by kernel_rfl) (by kernel_rfl) (fun _ _ _ h => h) (Or.inr ⟨by rfl, rfl⟩) (by assumption) ?_
      (try simp only [Act.put, List.getElem_toArray, List.getElem_cons_zero, List.getElem_cons_succ, List.setIfInBounds_toArray, List.set_cons_zero, List.set_cons_succ])
      refine wpAnyH_take (i := 14) rfl (by kernel_rfl) (by kernel_rfl) (by kernel_rfl) (fun _ _ _ h => h) (Or.inr ⟨by rfl, rfl⟩) (by assumption) ?_
      (try simp only [Act.put, List.getElem_toArray, List.getElem_cons_zero, List.getElem_cons_succ, List.setIfInBounds_toArray, List.set_cons_zero, List.set_cons_succ])
      refine wpAnyH_take (i := 15) rfl (by kernel_rfl) (by kernel_rfl) (by kernel_rfl) (fun _ _ _ h => h) (Or.inr ⟨by rfl, rfl⟩) (by assumption) ?_
      (try simp only [Act.put, List.getElem_toArray, List.getElem_cons_zero, List.getElem_cons_succ, List.setIfInBounds_toArray, List.set_cons_zero, List.set_cons_succ])
      refine wpAnyH_take (i := 16) rfl (by kernel_rfl) (by kernel_rfl) (by kernel_rfl) (fun _ _ _ h => h) (Or.inr ⟨by rfl, rfl⟩) (by assumption) ?_
      (try simp only [Act.put, List.getElem_toArray, List.getElem_cons_zero, List.getElem_cons_succ, List.setIfInBounds_toArray, List.set_cons_zero, List.set_cons_succ])
      refine wpAnyH_take (i := 17) (v := ?vv17) rfl (by kernel_rfl) (by kernel_rfl) (by kernel_rfl) (fun _ _ _ h => h) (Or.inl ⟨by rfl, ?hy17⟩) (by assumption) ?rest17
      case hy17 => (intro w hSw; (try dsimp only at hSw); go_simp; (try with_reducible rfl))
      (try simp only [Act.put, List.getElem_toArray, List.getElem_cons_zero, List.getElem_cons_succ, List.setIfInBounds_toArray, List.set_cons_zero, List.set_cons_succ])
      refine wpAnyH_take (i := 18) (v := ?vv18) rfl (by kernel_rfl) (by kernel_rfl) (by kernel_rfl) (fun _ _ _ h => h) (Or.inl ⟨by rfl, ?hy18⟩) (by assumption) ?rest18
      case hy18 => (intro w hSw; (try dsimp only at hSw); go_simp; (try with_reducible rfl))
      (try simp only [Act.put, List.getElem_toArray, List.getElem_cons_zero, List.getElem_cons_succ, List.setIfInBounds_toArray, List.set_cons_zero, List.set_cons_succ])
      refine wpAnyH_done (by kernel_rfl) ?_ _
      have hpost : AddPost b n0 S (d1 ++ dd) (false && r) (false && r) w (.returned (.bool false)) w2 :=
        ⟨d', rfl, g1, g2.trans (List.prefix_append _ _), (fun h => by simp at h), HGW.out w2 g4⟩
      clear hcadd HC HV HGW HREN HIH g1 g2 g3 g4 m0 m1 m2 m3 m4 m5
      go_wp2
      go_ret
      exact hpost

end Go.Proofs.YtbfkfklaplgebaaGreat
end

section
namespace Go.Proofs.YtbfkfklaplgebaaGreat
open Go.RowKit Go.Sort Go.ChangeShapes Go.WideShapes Go.WideMaps Go.Maps
set_option linter.unusedVariables false
attribute [local go_sem] ask_atom_atom ask_atom_node ask_atom_bind ask_atom_hole ask_node_atom ask_node_node ask_node_bind ask_node_hole ask_bind_atom ask_bind_node ask_bind_bind ask_bind_hole ask_hole_atom ask_hole_node ask_hole_bind ask_hole_hole

set_option maxRecDepth 100000 in
set_option maxHeartbeats 2000000 in
theorem same_bind (b n0 : Nat) (S : List (Int × Int)) (n : Int) (v : Value) (k : Tm) (u : Value) (t : Tm) (w : World) (hs : SetAt w b n0 S) (hv : FIn w (fun x => x ≠ b) v k) (hu : FIn w (fun x => x ≠ b) u t)
    (hsz : szT t ≤ 1048576) (hP : OkP 1048576 t) (hn : n0 + (eqNd ndT hoNd (.mk 3 n [] [k]) t).length + szT t ≤ 1048576) (hok : ∀ x ∈ eqNd ndT hoNd (.mk 3 n [] [k]) t, okF x)
    (ihE : ∀ m l, t = .mk 3 m [] [l] → n = m → ∀ (w' : World) (v u : Value) (n1 : Nat) (S' : List (Int × Int)), FIn w' (fun x => x ≠ b) v k → FIn w' (fun x => x ≠ b) u l → SetAt w' b n1 S' → n1 + (eqNd ndT hoNd k l).length + szT l ≤ 1048576 → (∀ x ∈ eqNd ndT hoNd k l, okF x) → Calls Tryz.prog 57 #[(.agg #[.func (.func 92) #[.map (some b)] #[], .func (.func 122) #[.map (some b)] #[]]), v, u] w' (AddPost b n1 S' (eqNd ndT hoNd k l) (eqOk okT hoOk k l) (eqOk okT hoOk k l) w')) (ihN : ∀ m l, t = .mk 3 m [] [l] → n ≠ m → ∀ (w' : World) (v u : Value) (n1 : Nat) (S' : List (Int × Int)), FIn w' (fun x => x ≠ b) v k → FIn w' (fun x => x ≠ b) u (actT (swapL m n) l) → SetAt w' b n1 S' → n1 + (eqNd ndT hoNd k (actT (swapL m n) l)).length + szT (actT (swapL m n) l) ≤ 1048576 → (∀ x ∈ eqNd ndT hoNd k (actT (swapL m n) l), okF x) → Calls Tryz.prog 57 #[(.agg #[.func (.func 92) #[.map (some b)] #[], .func (.func 122) #[.map (some b)] #[]]), v, u] w' (AddPost b n1 S' (eqNd ndT hoNd k (actT (swapL m n) l)) (eqOk okT hoOk k (actT (swapL m n) l)) (eqOk okT hoOk k (actT (swapL m n) l)) w')) :
    Calls Tryz.prog 57 #[(.agg #[.func (.func 92) #[.map (some b)] #[], .func (.func 122) #[.map (some b)] #[]]), .iface 147 (.agg #[.int .i64 n, v]), u] w (AddPost b n0 S (eqNd ndT hoNd (.mk 3 n [] [k]) t) (eqOk okT hoOk (.mk 3 n [] [k]) t) (eqOk okT hoOk (.mk 3 n [] [k]) t) w) := by
  rw [eqNd_3] at hn hok ⊢
  rw [eqOk_3]
  obtain ⟨fx, rfl⟩ := hu.iface
  have HS := Lib.hid hs
  rcases form_cases hu with ⟨m, rfl, rfl⟩ | ⟨m, b1, off, c1, xs, ks, rfl, rfl, _, _, _, _⟩ | ⟨m, y, l, rfl, rfl, hl⟩ | ⟨m, B, d, q, rfl, rfl, _, _⟩
  case inr.inr.inl =>
    rw [op_mk, if_pos rfl, num_mk, kids_mk, eqNds_one, eqNds_one, tmAt_cons_zero] at hn hok ⊢
    rw [fty_3]
    rw [show (decide ((3 : Int) = 3) && (if n = m then eqOks okT hoOk [k] [l] else okT n l && eqOks okT hoOk [k] [actT (swapL m n) l])) = bOk n k m l by simp [bOk, eqOks_one]]
    have hd : (if n = m then eqNd ndT hoNd k l else ndT n l ++ eqNd ndT hoNd k (actT (swapL m n) l)) = bNd n k m l := rfl
    rw [hd] at hn hok ⊢
    have hszl : szT (.mk 3 m [] [l]) = 1 + szT l := by simp [szT, szTs]
    rw [hszl] at hn hsz
    have hb := below3 w (.cells #[.func (.func 92) #[.map (some b)] #[], .func (.func 122) #[.map (some b)] #[]] 86) (.cells #[.int .i64 n, v] 147) (.cells #[.int .i64 m, y] 147)
    have hct := bindersSame_any b n0 S n m v y k l _ (((hs.alloc _).alloc _).alloc _) (hv.keep hb) (hl.keep hb) (by omega) hP.2.2.1 (by omega) hok (ihE m l rfl) (ihN m l rfl)
    have HG := Lib.hid (grown_of_below hb (some b))
    obtain ⟨fv, rfl⟩ := hv.iface
    obtain ⟨fy, rfl⟩ := hl.iface
    generalize bNd n k m l = dd at hct ⊢
    generalize bOk n k m l = r at hct ⊢
    generalize fty k = T1 at *
    generalize fty l = T2 at *
    clear hs hu hv hl hP hn hok hb HS ihE ihN hd hszl hsz
    go_enter Tryz.func57, Tryz.ntmps57
    go_wp2_with (go_at_call 107; refine hct.mono ?_; rintro e w2 ⟨d', rfl, g1, g2, g3, g4⟩)
    go_ret
    exact ⟨d', rfl, g1, g2, g3, grownBy_trans HG.out g4⟩
  all_goals
    obtain ⟨fv, rfl⟩ := hv.iface
    rw [op_mk] at hn hok ⊢
    first | rw [fty_1] | rw [fty_2] | rw [fty_4]
    rw [if_neg (by decide)]
    rw [show (decide (_ = (3 : Int)) && _) = false by simp]
    generalize fty k = T1 at *
    clear hs hu hv hP hn hok ihE ihN
    go_enter Tryz.func57, Tryz.ntmps57
    go_wp2
    go_ret
    exact prefix_nil_add (((HS.out.alloc _).alloc _).alloc _) (grown3 _ _ _ _ _) (fun _ => rfl)

/-- Every two forms are compared; what must be known goes into the set. -/
theorem same_any (b : Nat) : ∀ (N : Nat) (s : Tm), szT s ≤ N → ∀ (M : Nat) (t : Tm), M + 2 * N ≤ 1048576 → OkP M t → OkP 1048576 s → szT t ≤ 1048576 → ∀ (w' : World) (v u : Value) (n1 : Nat) (S' : List (Int × Int)), FIn w' (fun x => x ≠ b) v s → FIn w' (fun x => x ≠ b) u t → SetAt w' b n1 S' → n1 + (eqNd ndT hoNd s t).length + szT t ≤ 1048576 → (∀ x ∈ eqNd ndT hoNd s t, okF x) → Calls Tryz.prog 57 #[(.agg #[.func (.func 92) #[.map (some b)] #[], .func (.func 122) #[.map (some b)] #[]]), v, u] w' (AddPost b n1 S' (eqNd ndT hoNd s t) (eqOk okT hoOk s t) (eqOk okT hoOk s t) w') := by
  intro N
  induction N with
  | zero => intro s h; rw [szT_eq] at h; omega
  | succ N ih =>
    intro s hN M t hM hP hS hszt w v u n0 S hv hu hs hn hok
    obtain ⟨fx, rfl⟩ := hv.iface
    have hPt : OkP 1048576 t := okP_le (by omega) hP
    rcases form_cases hv with ⟨m, rfl, rfl⟩ | ⟨m, b1, off, c1, xs, ks, rfl, rfl, hb1, hbl1, hc1, hxs⟩ | ⟨m, y, k, rfl, rfl, hk⟩ | ⟨m, A, d, p, rfl, rfl, hp, _⟩
    · rw [fty_1]; exact same_atom b n0 S m u t w hs hu
    · rw [fty_2]
      rw [szT_eq, kids_mk] at hN
      have hlen := len_szTs ks
      refine same_node b n0 S m b1 off c1 xs ks u t w hs hu hb1 hbl1 hc1 hxs (by omega) hszt hn hok (fun i hi hj => ?_)
      have h1 := szT_at hi
      have h2 := szT_at hj
      have h3 : szT t = 1 + szTs t.kids := szT_eq t
      have hPk : OkP M (tmAt t.kids i) := by
        cases t with
        | mk o n q ls => exact okPs_at hP.2.2 hj
      exact ih (tmAt ks i) (by omega) M (tmAt t.kids i) (by omega) hPk (okPs_at hS.2.2 hi) (by omega)
    · rw [fty_3]
      have hszk : szT (.mk 3 m [] [k]) = 1 + szT k := by simp [szT, szTs]
      rw [hszk] at hN
      refine same_bind b n0 S m y k u t w hs hk hu hszt hPt hn hok (fun m' l e _ => ?_) (fun m' l e _ => ?_)
      · subst e
        have hszl : szT (.mk 3 m' [] [l]) = 1 + szT l := by simp [szT, szTs]
        exact ih k (by omega) M l (by omega) hP.2.2.1 hS.2.2.1 (by omega)
      · subst e
        have hszl : szT (.mk 3 m' [] [l]) = 1 + szT l := by simp [szT, szTs]
        have h2 := swapL_len m' m
        exact ih k (by omega) (M + 2) _ (by omega) (okP_le (by omega) (okP_act (swapL m' m) hP.2.2.1)) hS.2.2.1 (by rw [szT_actT]; omega)
    · rw [fty_4]
      exact same_hole b n0 S m A d p u t w hs hu hp hS.2.1 hS.1 hPt (by omega) hok

end Go.Proofs.YtbfkfklaplgebaaGreat
end

