/-
  Drawn permutations and atoms, in the model, as contracts.
-/
import Derived.Test.YtcginiklekdbgaaKRun12
import Derived.Test.YtcginiklekdbgaaKRun3
import Derived.Test.YtcginiklekdbgaaKRun13
namespace Go.Proofs.Ytcginiklekdbgaa
open Go.RowKit Go.Sort

theorem isP_nil : IsP [] := ⟨by simp [froms, AscP], fun _ h => by simp at h, fun _ h => by simp [froms] at h, by simp [froms, tos]⟩

theorem isP_two {a b : Int} (h0 : 0 ≤ a) (h1 : b ≤ 999) (h : a < b) : IsP [(a, b), (b, a)] := by
  refine ⟨?_, ?_, ?_, ?_⟩
  · simp [froms, AscP, h]
  · intro x hx
    simp at hx
    rcases hx with rfl | rfl
    · show a ≠ b; omega
    · show b ≠ a; omega
  · intro x hx
    simp [froms] at hx
    omega
  · exact List.Perm.swap b a []

theorem isP_swap (a b : Int) : IsP (swapL a b) := by
  unfold swapL
  split
  · exact isP_nil
  · split
    · exact isP_two (by omega) (by omega) (by omega)
    · exact isP_two (by omega) (by omega) (by omega)

theorem swapL_len (a b : Int) : (swapL a b).length ≤ 2 := by
  unfold swapL
  split
  · simp
  · split <;> simp

theorem cur_neP {w : World} {base C n : Nat} {B : Nat} {v : Value} {xs : List Value} (hc : Cur w B C) (h : w.ownsRow base 74 2 v n xs) : v.ownBlock ≠ some C := by
  obtain ⟨A, m, c, i, x, hblk, _⟩ := hc
  intro e
  rcases h.2 with ⟨rfl, _⟩ | ⟨g, cap, cur, rfl, _, hg, _⟩
  · simp [Value.ownBlock] at e
  · simp [Value.ownBlock] at e
    subst e
    rw [hblk] at hg
    simp at hg

theorem own_drewP {w w' : World} {base C n B : Nat} {v : Value} {xs : List Value} (h : w.ownsRow base 74 2 v n xs) (hc : Cur w B C) (hd : Drew B C w w') : w'.ownsRow base 74 2 v n xs :=
  h.kept hd.2 (.inr (cur_neP hc h))

theorem drew_below {w w' : World} {B C : Nat} (hc : Cur w B C) (h : Below w.heap.size w w') : Drew B C w w' :=
  ⟨hc.keep fun k hk => h.block k hk, grown_of_below h _⟩

theorem Cur.base {w : World} {B C : Nat} (h : Cur w B C) : B ≤ C := by obtain ⟨_, _, _, _, _, _, _, _, h, _⟩ := h; exact h

/-- A drawn permutation of a few atoms, in a row of the call's own. -/
def PermDraw (B C : Nat) (w : World) (e : Ending) (w' : World) : Prop :=
  ∃ (p : List (Int × Int)) (v : Value), e = .returned v ∧ IsP p ∧ p.length ≤ 8 ∧ w'.ownsRow w.heap.size 74 2 v p.length (cellsOf p) ∧ Drew B C w w'

set_option maxRecDepth 100000 in
set_option maxHeartbeats 2000000 in
theorem l1Perm_any (B C : Nat) (w : World) (hc : Cur w B C) :
    Calls Try.prog 22 #[.pointer (some ⟨C, 0, none⟩)] w (PermDraw B C w) := by
  have hd0 := (Drew.of hc).alloc (.cells #[] 74)
  have ho0 : (w.alloc (.cells #[] 74)).ownsRow w.heap.size 74 2 (.slice (some ⟨w.heap.size, 0, none⟩) 0 0) 0 (cellsOf []) := World.ownsRow_lit w #[] 0 (Nat.le_refl _) (by decide) rfl
  have hbl := l1Below_int B C 5 _ hd0.1 (by omega) (by omega)
  go_enter Try.func22, Try.ntmps22
  go_wp2_with fail
  refine hbl.mono ?_
  rintro e w1 ⟨x, hx, rfl, hd1⟩
  have ho1 := own_drewP ho0 hd0.1 hd1
  have hd2 := hd0.trans hd1
  clear hbl ho0 hd0 hd1
  generalize (Value.slice (some ⟨w.heap.size, 0, none⟩) 0 0) = v1 at ho1 ⊢
  go_wp2
  go_loopw [3, 4] (fun v n wr => ∃ (m : Nat) (q : List (Int × Int)), n = .int .i64 m ∧ IsP q ∧ q.length + 2 * m ≤ 8 ∧ wr.ownsRow w.heap.size 74 2 v q.length (cellsOf q) ∧ Drew B C w wr) (fun _ n _ => (intOf n).toNat)
  case atStart => exact ⟨x, [], rfl, isP_nil, by simp; omega, ho1, hd2⟩
  case round =>
    clear ho1 hd2
    obtain ⟨m, q, rfl, hq, hm, ho, hd⟩ := hrel
    have HQ := Lib.hid hq
    clear hq
    by_cases hz : m = 0
    · have hpost : PermDraw B C w (.returned _) wr := ⟨q, _, rfl, HQ.out, by omega, ho, hd⟩
      have hz' : m ≤ 0 := by omega
      clear ho hd hz
      go_wp2
      go_ret
      exact hpost
    · obtain ⟨j, rfl⟩ : ∃ j, m = j + 1 := ⟨m - 1, by omega⟩
      have ha := atomDraw_any B C wr hd.1
      go_wp2_with fail
      refine ha.mono ?_
      rintro e w3 ⟨a, hra, rfl, hd3⟩
      have ho3 := own_drewP ho hd.1 hd3
      have hd4 := hd.trans hd3
      have hb := atomDraw_any B C w3 hd4.1
      clear ha ho hd hd3 hz
      go_wp2_with fail
      refine hb.mono ?_
      rintro e w5 ⟨b, hrb, rfl, hd5⟩
      have ho5 := own_drewP ho3 hd4.1 hd5
      have hd6 := hd4.trans hd5
      have hs := swapOf_spec a b w5
      clear hb ho3 hd4 hd5
      go_wp2_with fail
      refine hs.mono ?_
      rintro e w7 ⟨v7, rfl, ho7, hb7⟩
      have ho8 := own_below ho5 hb7
      have hd8 := hd6.trans (drew_below hd6.1 hb7)
      have hl2 := swapL_len a b
      have HSW := Lib.hid (isP_swap a b)
      generalize swapL a b = s at ho7 hl2 HSW
      obtain ⟨A7, c7, rfl, hp7⟩ := own_pairsAt ho7
      obtain ⟨A8, c8, e8, hp8⟩ := own_pairsAt ho8
      subst e8
      have ht := l1Then_any A7 A8 c7 c8 s q w7 hp7 hp8 (by omega) (by omega)
      have hlen := thenL_len s q
      have HT := Lib.hid (isP_thenL HSW.out HQ.out)
      generalize thenL s q = t at ht hlen HT
      clear hs ho5 hd6 ho7 ho8 hp7 hp8
      go_wp2_with fail
      refine ht.mono ?_
      rintro e w9 ⟨g, cap, rfl, ho9, hb9⟩
      have hd10 := hd8.trans (drew_below hd8.1 hb9)
      have ho10 := own_le ho9 hd8.2.size
      clear ht ho9 hd8 hb9 hb7
      go_wp2
      refine ⟨⟨j, t, by go_num, HT.out, by omega, ho10, hd10⟩, ?_⟩
      simp only [intOf]
      omega

theorem BytesIn.below {w w' : World} {A : Option Addr} {n : Nat} (h : BytesIn w A n) (hb : Below w.heap.size w w') : BytesIn w' A n := by
  intro j hj
  obtain ⟨b, off, x, e, hlt, hx, hc⟩ := h j hj
  exact ⟨b, off, x, e, Nat.lt_of_lt_of_le hlt hb.size, hx, (hb.cell (p := ⟨b, off + j, none⟩) hlt).trans hc⟩

/-- Three drawn permutations. -/
def PermDraws (w : World) (e : Ending) (w' : World) : Prop :=
  ∃ (p q r : List (Int × Int)) (A1 A2 A3 : Option Addr) (c1 c2 c3 : Nat), e = .returned (.tuple #[.slice A1 p.length c1, .slice A2 q.length c2, .slice A3 r.length c3]) ∧
    (IsP p ∧ p.length ≤ 8) ∧ (IsP q ∧ q.length ≤ 8) ∧ (IsP r ∧ r.length ≤ 8) ∧ PairsAt w' A1 p ∧ PairsAt w' A2 q ∧ PairsAt w' A3 r ∧ Below w.heap.size w w'

theorem below_drew {w w1 w' : World} {C : Nat} (hb : Below w.heap.size w w1) (hd : Drew w.heap.size C w1 w') : Below w.heap.size w w' :=
  hb.grown hd.2 hb.size fun k hk => by injection hk with hk; have := hd.1.base; omega

set_option maxRecDepth 100000 in
set_option maxHeartbeats 2000000 in
theorem drawPermutations_any (A : Option Addr) (n c : Nat) (w : World) (hA : BytesIn w A n) (hn : n ≤ 1048576) :
    Calls Try.prog 8 #[.slice A n c] w (PermDraws w) := by
  have hnew := l1New_any A n c w hA hn
  clear hA
  go_enter Try.func8, Try.ntmps8
  go_wp2_with fail
  refine hnew.mono ?_
  rintro e w1 ⟨C, rfl, hc1, hb1⟩
  have h1 := l1Perm_any w.heap.size C w1 hc1
  clear hnew
  go_wp2_with fail
  refine h1.mono ?_
  rintro e w2 ⟨p, v2, rfl, hP, hlp, ho2, hd2⟩
  have h2 := l1Perm_any w.heap.size C w2 hd2.1
  clear h1
  go_wp2_with fail
  refine h2.mono ?_
  rintro e w3 ⟨q, v3, rfl, hQ, hlq, ho3, hd3⟩
  have ho4 := own_drewP ho2 hd2.1 hd3
  have hd4 := hd2.trans hd3
  have h3 := l1Perm_any w.heap.size C w3 hd4.1
  clear h2 ho2 hd2
  go_wp2_with fail
  refine h3.mono ?_
  rintro e w5 ⟨r, v5, rfl, hR, hlr, ho5, hd5⟩
  have ho6 := own_drewP ho4 hd4.1 hd5
  have ho7 := own_drewP ho3 hd3.1 hd5
  have hd6 := hd4.trans hd5
  have hbw := below_drew hb1 hd6
  obtain ⟨A1, c1, rfl, hp1⟩ := own_pairsAt ho6
  obtain ⟨A2, c2, rfl, hp2⟩ := own_pairsAt ho7
  obtain ⟨A3, c3, rfl, hp3⟩ := own_pairsAt ho5
  have hpost : PermDraws w (.returned (.tuple #[.slice A1 p.length c1, .slice A2 q.length c2, .slice A3 r.length c3])) w5 := ⟨p, q, r, A1, A2, A3, c1, c2, c3, rfl, ⟨hP, hlp⟩, ⟨hQ, hlq⟩, ⟨hR, hlr⟩, hp1, hp2, hp3, hbw⟩
  clear h3 ho3 ho4 ho5 ho6 ho7 hd3 hd4 hd5 hd6 hp1 hp2 hp3 hbw hc1 hb1 hP hQ hR
  go_wp2
  go_ret3
  exact hpost

end Go.Proofs.Ytcginiklekdbgaa
