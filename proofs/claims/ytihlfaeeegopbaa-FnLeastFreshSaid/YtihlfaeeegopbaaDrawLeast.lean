/-
  A drawn list of numbers; whether a list has a number: in the laws, as contracts.
-/
import Derived.Test.YtihlfaeeegopbaaLeastI
import Derived.Test.YtihlfaeeegopbaaCur
import Derived.Test.YtihlfaeeegopbaaMoved
namespace Go.Proofs.Ytihlfaeeegopbaa
open Go.RowKit Go.Sort

set_option maxHeartbeats 400000 in
theorem lawHas_any (A : Option Addr) (c : Nat) (l : List Int) (a : Int) (w : World) (hA : IntsAt w A l) (hl : l.length ≤ 1099511627776) :
    Calls Try.prog 24 #[.slice A l.length c, .int .i64 a] w fun e w' => e = .returned (.bool (hasB l a)) ∧ w = w' := by
  go_enter Try.func24, Try.ntmps24
  go_wp2
  go_loop [5] (fun i => ∃ k : Nat, k ≤ l.length ∧ i = .int .i64 k ∧ Hid (∀ j, j < k → itAt l j ≠ a)) (fun i => l.length - (intOf i).toNat)
  case atStart => exact ⟨0, Nat.zero_le _, rfl, fun j hj => absurd hj (by omega)⟩
  case round =>
    obtain ⟨k, hk, rfl, hq⟩ := hrel
    by_cases hlt : k < l.length
    · obtain ⟨b1, o1, rfl, hb1, hc1⟩ := hA (by omega)
      have c1 := hc1 k hlt
      clear hc1 hA
      by_cases he : (itAt l k == a) = true
      · have hres : Hid (hasB l a = true) := by
          show hasB l a = true
          unfold hasB
          rw [List.contains_iff_mem]
          have e : itAt l k = a := by simpa using he
          rw [← e, itAt_get l k hlt]
          exact List.getElem_mem hlt
        generalize itAt l k = x at c1 he
        clear hq
        go_wp2
        go_ret
        exact ⟨bool_end hres.out.symm, rfl⟩
      · have he' : (itAt l k == a) = false := by simpa using he
        have hn : Hid (∀ j, j < k + 1 → itAt l j ≠ a) := by
          intro j hj
          by_cases e : j = k
          · rw [e]; simpa using he'
          · exact hq.out j (by omega)
        generalize itAt l k = x at c1 he he'
        clear hq he
        go_wp2
        go_round
        case rel => exact ⟨k + 1, by omega, by go_num, hn⟩
        case measure => simp [intOf]; omega
    · have hres : Hid (hasB l a = false) := by
        show hasB l a = false
        unfold hasB
        rw [← Bool.not_eq_true, List.contains_iff_mem]
        intro hmem
        obtain ⟨j, hj, e⟩ := List.getElem_of_mem hmem
        exact hq.out j (by omega) (by rw [itAt_get l j hj]; exact e)
      clear hq hA
      go_wp2
      go_ret
      exact ⟨bool_end hres.out.symm, rfl⟩


/-- A slice of the call's own that holds some numbers. -/
def SomeInts (most : Nat) (w : World) (e : Ending) (w' : World) : Prop :=
  ∃ (l : List Int) (v : Value), e = .returned v ∧ l.length ≤ most ∧ w'.ownsRow w.heap.size 3 1 v l.length (icells l) ∧ Below w.heap.size w w'

theorem cur_ne {w : World} {base C n : Nat} {B : Nat} {v : Value} {xs : List Value} (hc : Cur w B C) (h : w.ownsRow base 3 1 v n xs) : v.ownBlock ≠ some C := by
  obtain ⟨A, m, c, i, x, hblk, _⟩ := hc
  intro e
  rcases h.2 with ⟨rfl, _⟩ | ⟨g, cap, cur, rfl, _, hg, _⟩
  · simp [Value.ownBlock] at e
  · simp [Value.ownBlock] at e
    subst e
    rw [hblk] at hg
    simp at hg

theorem Cur.grown {w w' : World} {B C : Nat} {row : Option Nat} (h : Cur w B C) (hg : w.grownBy w' row) (hne : row ≠ some C) (hr : ∀ k, row = some k → B ≤ k) : Cur w' B C := by
  obtain ⟨A, n, c, i, x, hblk, hi, hn, hB, hby⟩ := h
  have hC : C < w.heap.size := (Array.getElem?_eq_some_iff.1 hblk).1
  exact ⟨A, n, c, i, x, (hg.block C hC (fun e => hne e.symm)).trans hblk, hi, hn, hB, hby.keep fun k hk => hg.block k (by omega) (fun e => by have := hr k e.symm; omega)⟩

theorem own_take {w : World} {base : Nat} {e : TypeId} {g n cap m : Nat} {xs : List Value} (h : w.ownsRow base e 1 (.slice (some ⟨g, 0, none⟩) n cap) n xs) (hm : m ≤ n) :
    w.ownsRow base e 1 (.slice (some ⟨g, 0, none⟩) m cap) m (xs.take m) := by
  have h1 := h.1
  rcases h.2 with ⟨h', _⟩ | ⟨g', cap', cur, h', hb, hg, hnc, hcm, hcs, ht⟩
  · simp at h'
  · simp only [Value.slice.injEq, Option.some.injEq, Addr.mk.injEq, and_true, true_and] at h'
    obtain ⟨rfl, rfl⟩ := h'
    refine ⟨by rw [List.length_take]; omega, .inr ⟨g, cap, cur, rfl, hb, hg, by omega, hcm, hcs, ?_⟩⟩
    rw [← ht, List.take_take]
    congr 1
    omega

/-- One number more behind a row, the cursor as it was. -/
def Grows (w0 : World) (C : Nat) (l : List Int) (v : Value) (w : World) : Prop :=
  w.ownsRow w0.heap.size 3 1 v l.length (icells l) ∧ Cur w w0.heap.size C ∧ Below w0.heap.size w0 w

theorem grows_more {w0 w w' : World} {C : Nat} {l : List Int} {v v' : Value} {x : Int} (h : Grows w0 C l v w) (ho : w'.ownsRow w0.heap.size 3 1 v' (l.length + 1) (icells l ++ [.int .i64 x])) (hg : w.grownBy w' v.ownBlock) : Grows w0 C (l ++ [x]) v' w' :=
  ⟨by rw [List.length_append, icells_append]; exact ho, h.2.1.grown hg (cur_ne h.2.1 h.1) (fun k hk => (h.1.lt k hk).1), below_own h.2.2 h.1 (Nat.le_refl _) h.2.2.size hg⟩

theorem grows_alloc {w0 w : World} {C : Nat} {l : List Int} {v : Value} (h : Grows w0 C l v w) (o : Obj) : Grows w0 C l v (w.alloc o) :=
  ⟨h.1.alloc o, h.2.1.alloc o, h.2.2.alloc h.2.2.size o⟩

theorem grows_drew {w0 w w' : World} {C : Nat} {l : List Int} {v : Value} (h : Grows w0 C l v w) (hd : Drew w0.heap.size C w w') : Grows w0 C l v w' := by
  have hC : w0.heap.size ≤ C := by obtain ⟨_, _, _, _, _, _, _, _, h, _⟩ := hd.1; exact h
  exact ⟨h.1.kept hd.2 (.inr (cur_ne h.2.1 h.1)), hd.1, h.2.2.grown hd.2 h.2.2.size (fun k hk => by injection hk with hk; omega)⟩

set_option maxRecDepth 100000 in
set_option maxHeartbeats 2000000 in
theorem drawLeast_any (A : Option Addr) (n c : Nat) (w : World) (hA : BytesIn w A n) (hn : n ≤ 1048576) :
    Calls Try.prog 34 #[.slice A n c] w (SomeInts 2000 w) := by
  obtain ⟨i0, hi0, hz0, hz1, hz2⟩ := info_parts int_infoM
  have HS := Lib.hid hz2
  clear hz2
  have hnew := l1New_any A n c w hA hn
  clear hA
  go_enter Try.func34, Try.ntmps34
  go_wp2_with fail
  refine hnew.mono ?_
  rintro e w1 ⟨C, rfl, hc1, hb1⟩
  have hg2 : Grows w C [] (.slice (some ⟨w1.heap.size, 0, none⟩) 0 0) (w1.alloc (.cells #[] 3)) :=
    ⟨own_le (World.ownsRow_lit w1 #[] 0 (Nat.le_refl _) (by decide) rfl) hb1.size, hc1.alloc _, hb1.alloc hb1.size _⟩
  have hbl := l1Below_int w.heap.size C 9 _ hg2.2.1 (by omega) (by omega)
  clear hnew hb1 hc1
  go_wp2_with fail
  refine hbl.mono ?_
  rintro e w3 ⟨x, hx, rfl, hd3⟩
  have hg3 := grows_drew hg2 hd3
  clear hbl hg2 hd3
  generalize (Value.slice (some ⟨w1.heap.size, 0, none⟩) 0 0) = v3 at hg3 ⊢
  go_wp2
  go_loopw [4, 5] (fun v n wr => ∃ (m : Nat) (l : List Int), n = .int .i64 m ∧ l.length + m ≤ 8 ∧ Grows w C l v wr) (fun _ n _ => (intOf n).toNat)
  case atStart => exact ⟨x, [], rfl, by simp; omega, hg3⟩
  case round =>
    clear hg3
    obtain ⟨m, l, rfl, hm, hg⟩ := hrel
    by_cases hz : m = 0
    · subst hz
      obtain ⟨wo, rfl⟩ : ∃ wo : World, wo = wr := ⟨_, rfl⟩
      have hon := l1Once_any w.heap.size C 12 wo hg.2.1 (by omega) (by omega)
      go_wp2_with fail
      refine hon.mono ?_
      rintro e w6 ⟨b, rfl, hd6⟩
      have hg6 := grows_drew hg hd6
      clear hon hg hd6
      cases b with
      | false =>
        go_wp2
        go_ret
        exact ⟨l, _, rfl, by omega, hg6.1, hg6.2.2⟩
      | true =>
        go_wp2
        go_loopw [4, 6] (fun v i wr => ∃ (k : Nat) (l2 : List Int), k ≤ 1000 ∧ i = .int .i64 k ∧ l2.length = l.length + k ∧ Grows w C l2 v wr) (fun _ i _ => 1000 - (intOf i).toNat)
        case atStart => exact ⟨0, l, by omega, rfl, rfl, hg6⟩
        case round =>
          obtain ⟨wi, rfl⟩ : ∃ wi : World, wi = wr := ⟨_, rfl⟩
          clear hg6
          obtain ⟨k, l2, hk, rfl, hl2, hg⟩ := hrel
          have HL2 := Lib.hid hl2
          have hle2 : l2.length ≤ 1010 := by omega
          have hge2 : k ≤ l2.length := by omega
          clear hl2
          by_cases hlt : k < 1000
          · have hga := grows_alloc hg (.cells #[.int .i64 k] 3)
            have hcell : (wi.alloc (.cells #[.int .i64 k] 3)).cell? ⟨wi.heap.size, 0, none⟩ = some (.int .i64 k) := by simp
            have HC := Lib.hid (one_cell hcell)
            clear hg hcell
            go_wp2_with (at_builtin; refine wpList_append_own _ rfl (.tmp 27) (.tmp 29) 35 rfl w.heap.size 3 i0 (.int .i64 0) 1 8 Try.underlying35 hi0 hz0 hz1 HS.out rfl (by decide) _ l2.length _ rfl hga.1 ⟨wi.heap.size, 0, none⟩ 1 1 [.int .i64 k] rfl rfl HC.out (int_one _) ?c3 ?c4 ?c5 ?_)
            case c3 => unfold maxLen; omega
            case c4 => omega
            case c5 => exact hga.2.2.size
            intro v5 w5 ho5 hg5 _
            have hgm := Lib.hid (grows_more hga ho5 hg5)
            have hln : Hid ((l2 ++ [(k : Int)]).length = l.length + (k + 1)) := by show (l2 ++ [(k : Int)]).length = l.length + (k + 1); rw [List.length_append, HL2.out]; rfl
            clear ho5 hg5 hga HC
            go_wp2
            refine ⟨⟨k + 1, l2 ++ [(k : Int)], by omega, by go_num, hln.out, hgm.out⟩, ?_⟩
            simp only [intOf]
            omega
          · rcases hg.1.2 with ⟨_, h0⟩ | ⟨g, cap, cur, rfl, _, _, hcap, _⟩
            · omega
            · have hbl2 := l1Below_int w.heap.size C 2 wi hg.2.1 (by omega) (by omega)
              go_wp2_with fail
              refine hbl2.mono ?_
              rintro e w7 ⟨y, hy, rfl, hd7⟩
              have hg7 := grows_drew hg hd7
              have hot := own_take hg7.1 (show l2.length - y ≤ l2.length by omega)
              have hic : Hid ((icells l2).take (l2.length - y) = icells (l2.take (l2.length - y))) := by show (icells l2).take (l2.length - y) = icells (l2.take (l2.length - y)); unfold icells; rw [List.map_take]
              rw [hic.out] at hot
              have hlt2 : Hid ((l2.take (l2.length - y)).length = l2.length - y) := by show (l2.take (l2.length - y)).length = l2.length - y; rw [List.length_take]; omega
              have hpost : SomeInts 2000 w (.returned (.slice (some ⟨g, 0, none⟩) (l2.length - y) cap)) w7 := ⟨l2.take (l2.length - y), _, rfl, by rw [hlt2.out]; omega, by rw [hlt2.out]; exact hot, hg7.2.2⟩
              clear hbl2 hg hd7 hg7 hot
              go_wp2
              go_ret
              exact hpost
    · obtain ⟨j, rfl⟩ : ∃ j, m = j + 1 := ⟨m - 1, by omega⟩
      have hnm := l1Name_any w.heap.size C wr hg.2.1
      clear hz
      go_wp2_with fail
      refine hnm.mono ?_
      rintro e w4 ⟨y, rfl, hd4⟩
      have hg4 := grows_drew hg hd4
      have hga := grows_alloc hg4 (.cells #[.int .i64 y] 3)
      have hcell : (w4.alloc (.cells #[.int .i64 y] 3)).cell? ⟨w4.heap.size, 0, none⟩ = some (.int .i64 y) := by simp
      have HC := Lib.hid (one_cell hcell)
      clear hnm hg hd4 hg4 hcell
      go_wp2_with (at_builtin; refine wpList_append_own _ rfl (.tmp 16) (.tmp 19) 35 rfl w.heap.size 3 i0 (.int .i64 0) 1 8 Try.underlying35 hi0 hz0 hz1 HS.out rfl (by decide) _ l.length _ rfl hga.1 ⟨w4.heap.size, 0, none⟩ 1 1 [.int .i64 y] rfl rfl HC.out (int_one _) ?c3 ?c4 ?c5 ?_)
      case c3 => unfold maxLen; omega
      case c4 => omega
      case c5 => exact hga.2.2.size
      intro v5 w5 ho5 hg5 _
      have hgm := Lib.hid (grows_more hga ho5 hg5)
      have hln : (l ++ [y]).length = l.length + 1 := by simp
      clear ho5 hg5 hga HC
      go_wp2
      refine ⟨⟨j, l ++ [y], by go_num, by omega, hgm.out⟩, ?_⟩
      simp only [intOf]
      omega

end Go.Proofs.Ytihlfaeeegopbaa
