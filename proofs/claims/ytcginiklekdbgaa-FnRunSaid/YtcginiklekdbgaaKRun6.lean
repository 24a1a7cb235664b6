/-
  What the laws' own act makes of a list of atoms, as a contract. Constants, tuples and patterns in the program, as contracts.
-/
import Derived.Test.YtcginiklekdbgaaKRun3
import Derived.Deep.AppendLies
import Derived.BigQuiet
import Derived.WalkSpells
import Derived.Lib.QuietBelow
section
namespace Go.Proofs.Ytcginiklekdbgaa
open Go.RowKit Go.Sort
set_option linter.unusedVariables false

set_option maxRecDepth 100000 in
set_option maxHeartbeats 2000000 in
theorem lawAct_any (A B : Option Addr) (c d : Nat) (p : List (Int × Int)) (l : List Int) (w : World) (hA : PairsAt w A p) (hB : IntsAt w B l) (hp : p.length ≤ 1048576) (hl : l.length ≤ 1048576) (hpb : permB p = true) (ha : ∀ a ∈ l, atomB a = true) :
    Calls Try.prog 10 #[.slice A p.length c, .slice B l.length d] w (NewInts (imsL p l) w) := by
  obtain ⟨i0, hi0, hzz, hz1, hz2⟩ := info_parts DrawN.int_info
  have HS := Lib.hid hz2
  clear hz2
  have nrb : Below w.heap.size w (w.alloc (.cells #[] 3)) := (Below.refl _ _).alloc (Nat.le_refl _) _
  have nro : (w.alloc (.cells #[] 3)).ownsRow w.heap.size 3 1 (.slice (some ⟨w.heap.size, 0, none⟩) 0 0) 0 [] := World.ownsRow_lit w #[] 0 (Nat.le_refl _) (by decide) rfl
  go_enter Try.func10, Try.ntmps10
  go_wp2
  go_loopw [5, 6] (fun v i wr => ∃ k : Nat, k ≤ l.length ∧ i = .int .i64 k ∧ wr.ownsRow w.heap.size 3 1 v k (icells (imsL p (l.take k))) ∧ Below w.heap.size w wr) (fun _ i _ => l.length - (intOf i).toNat)
  case atStart => exact ⟨0, Nat.zero_le _, rfl, nro, nrb⟩
  case round =>
    clear nro nrb
    obtain ⟨k, hk, rfl, ho, hb⟩ := hrel
    by_cases hlt : k < l.length
    · obtain ⟨b1, o1, rfl, hb1, hc1⟩ := hB (by omega)
      have c1 := hc1 k hlt
      rw [← hb.cell (p := ⟨b1, _, none⟩) hb1] at c1
      have hat := ha (itAt l k) (by rw [itAt_get _ _ hlt]; exact List.getElem_mem hlt)
      have HN := Lib.hid (imsL_next (p := p) hlt)
      have him := imageOf_impl A c p (itAt l k) wr (hA.below hb) (by omega)
      rw [imageF_yes hpb hat] at him
      generalize itAt l k = a at c1 him HN
      generalize imgL p a = y at him HN
      clear hc1 hat
      have hki : (k : Int) < (l.length : Int) := by omega
      go_wp2_with fail
      refine him.mono ?_
      rintro e w2 ⟨rfl, hb2⟩
      have ho1 := own_below ho hb2
      have hb12 := hb.trans (hb2.mono hb.size)
      have hb3 : Below w2.heap.size w2 (w2.alloc (.cells #[.int .i64 y] 3)) := (Below.refl _ _).alloc (Nat.le_refl _) _
      have ho2 := own_below ho1 hb3
      have hb4 := hb12.trans (hb3.mono hb12.size)
      have hcell : (w2.alloc (.cells #[.int .i64 y] 3)).cell? ⟨w2.heap.size, 0, none⟩ = some (.int .i64 y) := by simp
      have HC := Lib.hid (DrawN.one_cell hcell)
      have hsz2 : w.heap.size ≤ (w2.alloc (.cells #[.int .i64 y] 3)).heap.size := by have := hb12.size; simp; omega
      clear hcell ho ho1 hb3 hb hb2 hb12 him c1
      go_wp2_with (at_builtin; refine wpList_append_lies _ rfl (.tmp 14) (.tmp 21) 30 rfl w.heap.size 3 i0 (.int .i64 0) 1 8 Try.underlying30 hi0 hzz hz1 HS.out rfl (by decide) _ k _ rfl ho2 ⟨w2.heap.size, 0, none⟩ 1 1 [.int .i64 y] rfl rfl HC.out (DrawN.int_one _) (by decide) ?c3 ?c4 ?c5 _ rfl ?_)
      case c3 => unfold maxLen; omega
      case c4 => omega
      case c5 => exact hsz2
      intro g cap w3 ho7 hg7 hcase _
      have hb5 : Below w.heap.size w w3 := below_own hb4 ho2 (Nat.le_refl _) hsz2 hg7
      have ho8 : w3.ownsRow w.heap.size 3 1 (.slice (some ⟨g, 0, none⟩) (k + 1) cap) (k + 1) (icells (imsL p (l.take (k + 1)))) := by
        rw [HN.out, icells_append]
        exact ho7
      clear ho7 hg7 hcase ho2 hb4 HC hsz2
      go_wp2
      refine ⟨⟨k + 1, by omega, by go_num, ho8, hb5⟩, ?_⟩
      simp only [intOf]
      omega
    · have e : k = l.length := by omega
      subst e
      rw [List.take_length] at ho
      have ho3 : wr.ownsRow w.heap.size 3 1 u5 (imsL p l).length (icells (imsL p l)) := by rw [imsL_len]; exact ho
      clear ho
      go_wp2
      go_ret
      exact ⟨_, rfl, ho3, hb⟩
end Go.Proofs.Ytcginiklekdbgaa
end

section
namespace Go.Proofs.Ytcginiklekdbgaa
open Go.RowKit Go.Sort
set_option linter.unusedVariables false

/-- Two values do not own one block. -/
def Apart (v u : Value) : Prop := ∀ k, v.ownBlock = some k → u.ownBlock ≠ some k
theorem Apart.symm {v u : Value} (h : Apart v u) : Apart u v := fun k h1 h2 => h k h2 h1

theorem notAtom_any (n : Int) (w : World) :
    Calls Try.prog 57 #[.int .i64 n] w fun e w' => e = .returned (.bool (!atomB n)) ∧ w = w' := by
  have hc := isAtom_any n w
  generalize atomB n = r at hc ⊢
  go_enter Try.func57, Try.ntmps57
  go_wp2_with fail
  refine hc.mono ?_
  rintro e w2 ⟨rfl, rfl⟩
  clear hc
  go_wp2
  go_ret
  exact ⟨rfl, rfl⟩

theorem next_all {p : Nat → Bool} {k : Nat} (h : ∀ j, j < k → p j = true) (hk : p k = true) : ∀ j, j < k + 1 → p j = true := by
  intro j hj
  rcases Nat.lt_or_ge j k with h1 | h1
  · exact h j h1
  · rw [show j = k by omega]; exact hk

set_option maxRecDepth 100000 in
set_option maxHeartbeats 2000000 in
theorem indexNotAtom_any (A : Option Addr) (c : Nat) (p : List Int) (w : World) (hA : IntsAt w A p) (hp : p.length ≤ 1099511627776) :
    Calls Try.prog 67 #[.slice A p.length c, .func (.func 57) #[] #[]] w
      fun e w' => (∃ i : Int, e = .returned (.int .i64 i) ∧ ((0 ≤ i ∧ atomsB p = false) ∨ (i < 0 ∧ atomsB p = true))) ∧ w = w' := by
  go_enter Try.func67, Try.ntmps67
  go_wp2
  go_loopw [5, 8] (fun _ i wr => ∃ k : Nat, k ≤ p.length ∧ i = .int .i64 k ∧ Hid (∀ j, j < k → atomB (itAt p j) = true) ∧ w = wr) (fun _ i _ => p.length - (intOf i).toNat)
  case atStart => exact ⟨0, Nat.zero_le _, rfl, Lib.hid (fun j hj => absurd hj (by omega)), rfl⟩
  case round =>
    obtain ⟨k, hk, rfl, hn, rfl⟩ := hrel
    by_cases hlt : k < p.length
    · obtain ⟨b1, o1, rfl, hb1, hc1⟩ := hA (by omega)
      have c1 := hc1 k hlt
      have hcall := notAtom_any (itAt p k) w
      by_cases hx : atomB (itAt p k) = true
      · rw [hx] at hcall
        have hn2 := Lib.hid (next_all (p := fun j => atomB (itAt p j)) hn.out hx)
        clear hc1 hA hn hx
        generalize itAt p k = p1 at c1 hcall
        go_wp2_with (go_at_call 57; refine hcall.mono ?_; rintro e w2 ⟨rfl, rfl⟩)
        clear hcall c1
        refine ⟨⟨k + 1, by omega, by go_num, hn2, by first | rfl | trivial⟩, ?_⟩
        simp only [intOf]
        omega
      · have hx' : atomB (itAt p k) = false := by simpa using hx
        rw [hx'] at hcall
        have hn2 := Lib.hid (atomsB_no hlt hx')
        clear hc1 hA hn hx hx'
        generalize itAt p k = p1 at c1 hcall
        go_wp2_with (go_at_call 57; refine hcall.mono ?_; rintro e w2 ⟨rfl, rfl⟩)
        clear hcall c1
        go_ret
        exact ⟨⟨_, rfl, Or.inl ⟨by omega, hn2.out⟩⟩, rfl⟩
    · have hn2 := Lib.hid (atomsB_yes (l := p) fun j hj => hn.out j (by omega))
      clear hn hA
      go_wp2
      go_ret
      exact ⟨⟨_, rfl, Or.inr ⟨by decide, hn2.out⟩⟩, rfl⟩

theorem containsNotAtom_any (A : Option Addr) (c : Nat) (p : List Int) (w : World) (hA : IntsAt w A p) (hp : p.length ≤ 1099511627776) :
    Calls Try.prog 56 #[.slice A p.length c, .func (.func 57) #[] #[]] w
      fun e w' => e = .returned (.bool (!atomsB p)) ∧ w = w' := by
  have hi := indexNotAtom_any A c p w hA hp
  clear hA
  generalize atomsB p = r at hi ⊢
  go_enter Try.func56, Try.ntmps56
  go_wp2_with fail
  refine hi.mono ?_
  rintro e w2 ⟨⟨i, rfl, h⟩, rfl⟩
  clear hi
  rcases h with ⟨h, rfl⟩ | ⟨h, rfl⟩
  · go_wp2
    go_ret
    exact ⟨rfl, rfl⟩
  · have h' : ¬ 0 ≤ i := by omega
    go_wp2
    go_ret
    exact ⟨bool_end (by first | rfl | (simp; omega)), rfl⟩

theorem areAtoms_any (A : Option Addr) (c : Nat) (p : List Int) (w : World) (hA : IntsAt w A p) (hp : p.length ≤ 1099511627776) :
    Calls Try.prog 41 #[.slice A p.length c] w fun e w' => e = .returned (.bool (atomsB p)) ∧ w = w' := by
  have hi := containsNotAtom_any A c p w hA hp
  clear hA
  generalize atomsB p = r at hi ⊢
  go_enter Try.func41, Try.ntmps41
  go_wp2_with fail
  refine hi.mono ?_
  rintro e w2 ⟨rfl, rfl⟩
  clear hi
  go_wp2
  go_ret
  exact ⟨bool_end (by cases r <;> rfl), rfl⟩

end Go.Proofs.Ytcginiklekdbgaa
end

