/-
  The atoms to which two permutations give different ones: the program's loop, as a contract.
-/
import Derived.Test.YtianehmfdcdojaaDiffer
namespace Go.Proofs.Ytianehmfdcdojaa
open Go.RowKit Go.Sort

set_option maxRecDepth 100000 in
set_option maxHeartbeats 4000000 in
theorem differenceIn_any (A1 A2 : Option Addr) (d1 d2 : Nat) (p q : List (Int × Int)) (w : World) (hp : PairsAt w A1 p) (hq : PairsAt w A2 q) (hlp : p.length ≤ 1048576) (hlq : q.length ≤ 1048576) (h1 : permB p = true) (h2 : permB q = true) :
    Calls Try.prog 15 #[.slice A1 p.length d1, .slice A2 q.length d2] w (NewInts (differL p q) w) := by
  obtain ⟨i0, hi0, hz0, hz1, hz2⟩ := info_parts int_infoM
  have HS := Lib.hid hz2
  clear hz2
  have hb0 : Below w.heap.size w (w.alloc (.cells #[] 3)) := (Below.refl _ _).alloc (Nat.le_refl _) _
  have ho0 : (w.alloc (.cells #[] 3)).ownsRow w.heap.size 3 1 (.slice (some ⟨w.heap.size, 0, none⟩) 0 0) 0 (icells []) := World.ownsRow_lit w #[] 0 (Nat.le_refl _) (by decide) rfl
  have hat := fun W hP hQ => movedEither_any A1 A2 d1 d2 p q W hP hQ hlp hlq
  have HA1 := Lib.hid (asc_of_order (permB_parts h1).2.1)
  have HA2 := Lib.hid (asc_of_order (permB_parts h2).2.1)
  clear h1 h2
  have hal := atomsL_len p q
  go_enter Try.func15, Try.ntmps15
  have hat' := hat _ (hp.below hb0) (hq.below hb0)
  clear hat
  go_wp2_with fail
  refine hat'.mono ?_
  rintro e w3 hpost3
  obtain ⟨g, cap, rfl, hgs3, hgb, hia, hb3⟩ := insPost_ints hpost3
  have ho2 := own_below ho0 hb3
  have hbz := hb0.trans (hb3.mono hb0.size)
  have HD : Hid (differL p q = (atomsL p q).filter (difB p q)) := rfl
  generalize atomsL p q = X at hia hal HD ⊢
  have hsz0 : w.heap.size < (w.alloc (.cells #[] 3)).heap.size := (ho0.lt w.heap.size rfl).2
  clear hat' ho0 hb0 hb3 hpost3
  go_wp2
  have hv0 : (Value.slice (some ⟨w.heap.size, 0, none⟩) 0 0).ownBlock ≠ some g := by
    simp only [Value.ownBlock, ne_eq, Option.some.injEq]
    omega
  go_loopw [5, 7, 13] (fun v _ i wr => ∃ k : Nat, k ≤ X.length ∧ i = .int .i64 k ∧ wr.ownsRow w.heap.size 3 1 v ((X.take k).filter (difB p q)).length (icells ((X.take k).filter (difB p q))) ∧ v.ownBlock ≠ some g ∧ IntsAt wr (some ⟨g, 0, none⟩) X ∧ g < wr.heap.size ∧ Below w.heap.size w wr) (fun _ _ i _ => X.length - (intOf i).toNat)
  case atStart => exact ⟨0, Nat.zero_le _, rfl, ho2, hv0, hia, hgs3, hbz⟩
  case round =>
    clear ho2 hv0 hia hbz hgs3
    obtain ⟨k, hk, rfl, ho, hv, hix, hgx, hb⟩ := hrel
    by_cases hlt : k < X.length
    · have hcell := hix (by omega)
      obtain ⟨b, off, e, hbl, hcell⟩ := hcell
      simp only [Option.some.injEq, Addr.mk.injEq, and_true] at e
      obtain ⟨rfl, rfl⟩ := e
      have c1 := hcell k hlt
      rw [Nat.zero_add] at c1
      have hnx := filter_next (f := difB p q) hlt
      have hfl : ((X.take k).filter (difB p q)).length ≤ X.length := take_filter_len
      generalize hF : (X.take k).filter (difB p q) = F at ho hnx hfl
      clear hF
      generalize hx : itAt X k = x at c1 hnx
      have HX := Lib.hid hx
      have hcp := imageIn_any A1 d1 p x wr (hp.below hb) (by omega) HA1.out
      have hcq := fun W hW => imageIn_any A2 d2 q x W hW (by omega) HA2.out
      clear hcell hx hbl
      by_cases hd : difB p q x = true
      · have hnx' : Hid ((X.take (k + 1)).filter (difB p q) = F ++ [x]) := by show (X.take (k + 1)).filter (difB p q) = F ++ [x]; rw [hnx, if_pos hd]
        clear hnx
        unfold difB at hd
        generalize imgL p x = ip at hcp hd
        generalize imgL q x = iq at hcq hd
        go_wp2_with fail
        refine hcp.mono ?_
        rintro e wq1 ⟨rfl, hq1⟩
        have hbq1 := hb.trans (hq1.mono hb.size)
        have hcq' := hcq wq1 (hq.below hbq1)
        clear hcp hcq
        go_wp2_with fail
        refine hcq'.mono ?_
        rintro e w3 ⟨rfl, hq2⟩
        have hbq : Below wr.heap.size wr w3 := hq1.trans (hq2.mono hq1.size)
        have hb3 := hb.trans (hbq.mono hb.size)
        have ho3 := own_below ho hbq
        have hi3 := hix.below hbq
        have hg3 : g < w3.heap.size := Nat.lt_of_lt_of_le hgx hbq.size
        clear hcq' hq1 hq2 hbq1 hbq ho hb hix hgx
        obtain ⟨b', off', e, hbl, hcell⟩ := hi3 (by omega)
        simp only [Option.some.injEq, Addr.mk.injEq, and_true] at e
        obtain ⟨rfl, rfl⟩ := e
        have e1 := hcell k hlt
        rw [Nat.zero_add, HX.out] at e1
        have hba : Below w.heap.size w (w3.alloc (.cells #[.int .i64 x] 3)) := hb3.alloc hb3.size _
        have hoa := ho3.alloc (.cells #[.int .i64 x] 3)
        have hcx : (w3.alloc (.cells #[.int .i64 x] 3)).cell? ⟨w3.heap.size, 0, none⟩ = some (.int .i64 x) := by simp
        have HC := Lib.hid (one_cell hcx)
        have hia4 : IntsAt (w3.alloc (.cells #[.int .i64 x] 3)) (some ⟨g, 0, none⟩) X := hi3.below ((Below.refl _ _).alloc (Nat.le_refl _) _)
        clear hcx ho3 hcell hbl hi3
        go_wp2_with (at_builtin; refine wpList_append_own_at _ rfl (.tmp 24) (.tmp 26) 27 rfl w.heap.size 3 i0 (.int .i64 0) 1 8 Try.underlying27 hi0 hz0 hz1 HS.out rfl (by decide) _ F.length _ rfl hoa ⟨w3.heap.size, 0, none⟩ 1 1 [.int .i64 x] rfl rfl HC.out (int_one _) ?c3 ?c4 ?c5 ?_)
        case c3 => unfold maxLen; omega
        case c4 => omega
        case c5 => exact hba.size
        intro v5 w5 ho5 hg5 _ hat5
        have ho6 : w5.ownsRow w.heap.size 3 1 v5 ((X.take (k + 1)).filter (difB p q)).length (icells ((X.take (k + 1)).filter (difB p q))) := by
          rw [hnx'.out, List.length_append, icells_append]
          exact ho5
        have hv5 : v5.ownBlock ≠ some g := by
          rcases hat5 with e | e
          · rw [e]; exact hv
          · rw [e]
            simp only [ne_eq, Option.some.injEq]
            omega
        have hi6 : IntsAt w5 (some ⟨g, 0, none⟩) X := by
          intro hp0
          obtain ⟨b', off', e, hbl, hcell⟩ := hia4 hp0
          simp only [Option.some.injEq, Addr.mk.injEq, and_true] at e
          obtain ⟨rfl, rfl⟩ := e
          exact ⟨g, 0, rfl, Nat.lt_of_lt_of_le hbl hg5.size, fun i hi => hg5.cell (a := ⟨g, 0 + i, none⟩) (hcell i hi) (fun e => hv e.symm)⟩
        have hg6 : g < w5.heap.size := by have := hg5.size; simp only [World.size_alloc] at this; omega
        have hb6 : Below w.heap.size w w5 := below_own hba hoa (Nat.le_refl _) hba.size hg5
        clear ho5 hg5 hat5 hba hoa HC hia4 hb3 hg3 hv
        go_wp2
        refine ⟨⟨k + 1, by omega, by go_num, ho6, hv5, hi6, hg6, hb6⟩, ?_⟩
        simp only [intOf]
        omega
      · have hd' : difB p q x = false := by simpa using hd
        have hnx' : Hid ((X.take (k + 1)).filter (difB p q) = F) := by show (X.take (k + 1)).filter (difB p q) = F; rw [hnx, hd']; simp
        clear hnx hd
        have hd := hd'
        clear hd'
        unfold difB at hd
        generalize imgL p x = ip at hcp hd
        generalize imgL q x = iq at hcq hd
        go_wp2_with fail
        refine hcp.mono ?_
        rintro e wq1 ⟨rfl, hq1⟩
        have hbq1 := hb.trans (hq1.mono hb.size)
        have hcq' := hcq wq1 (hq.below hbq1)
        clear hcp hcq
        go_wp2_with fail
        refine hcq'.mono ?_
        rintro e w3 ⟨rfl, hq2⟩
        have hbq : Below wr.heap.size wr w3 := hq1.trans (hq2.mono hq1.size)
        have hb3 := hb.trans (hbq.mono hb.size)
        have ho3 := own_below ho hbq
        have hi3 := hix.below hbq
        have hg3 : g < w3.heap.size := Nat.lt_of_lt_of_le hgx hbq.size
        clear hcq' hq1 hq2 hbq1 hbq ho hb hix hgx
        rw [← hnx'.out] at ho3
        clear hnx' hfl
        go_wp2
        refine ⟨⟨k + 1, by omega, by go_num, ho3, hv, hi3, hg3, hb3⟩, ?_⟩
        simp only [intOf]
        omega
    · have hpost : NewInts (differL p q) w (.returned _) wr := ⟨_, rfl, by rw [HD.out, ← List.take_of_length_le (show X.length ≤ k by omega)]; exact ho, hb⟩
      clear ho hix hv hb
      go_wp2
      go_ret
      exact hpost

end Go.Proofs.Ytianehmfdcdojaa
