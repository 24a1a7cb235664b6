/-
  Terms as the program holds them while it works on them; plain words, no program is walked here. Rows of forms that a call makes: plain words. The form of a term, in the program, as a contract. The methods of forms: which function is called, as closed facts. Of which kind a form is: what a type switch finds, as closed facts. Three blocks that a call lays first: what lies in them.
-/
import Derived.Test.YtlhjgjfnmejiaaaGreatKComesOf4
import Derived.Test.YtlhjgjfnmejiaaaGreatKComesOf12
import Derived.Test.YtlhjgjfnmejiaaaGreatKComesOf7
import Derived.Deep.AppendLies
import Derived.Deep.RegionHeld3
section
namespace Go.Proofs.YtlhjgjfnmejiaaaGreat
section
open Go.RowKit
set_option linter.unusedVariables false

mutual
/-- An interface value reads as a term; what it reaches lies in blocks of a kind. -/
inductive FIn (w : World) (q : Nat → Prop) : Value → Tm → Prop
  | atom (n : Int) : FIn w q (.iface 153 (.agg #[.int .i64 n])) (.mk 1 n [] [])
  | node (n : Int) {b off m c : Nat} {xs : List Value} {ks : List Tm} (hm : m = ks.length) (hq : q b) (hb : b < w.heap.size) (hc : ∀ j u, xs[j]? = some u → w.cell? ⟨b, off + j, none⟩ = some u) (h : FsIn w q xs ks) :
      FIn w q (.iface 156 (.agg #[.int .i64 n, .slice (some ⟨b, off, none⟩) m c])) (.mk 2 n [] ks)
  | bind (n : Int) {v : Value} {k : Tm} (h : FIn w q v k) : FIn w q (.iface 159 (.agg #[.int .i64 n, v])) (.mk 3 n [] [k])
  | hole (n : Int) {A : Option Addr} {m c : Nat} {p : List (Int × Int)} (hm : m = p.length) (h : PairsAt w A p) (hq : ∀ b off, 0 < p.length → A = some ⟨b, off, none⟩ → q b) : FIn w q (.iface 135 (.agg #[.int .i64 n, .slice A m c])) (.mk 4 n p [])
inductive FsIn (w : World) (q : Nat → Prop) : List Value → List Tm → Prop
  | nil : FsIn w q [] []
  | cons {v : Value} {t : Tm} {vs : List Value} {ts : List Tm} (h : FIn w q v t) (k : FsIn w q vs ts) : FsIn w q (v :: vs) (t :: ts)
end

/-- In another world the blocks of a kind are as they were, and of another kind. -/
structure Over (w w' : World) (q q' : Nat → Prop) : Prop where
  size : w.heap.size ≤ w'.heap.size
  block : ∀ b, q b → b < w.heap.size → w'.heap[b]? = w.heap[b]?
  kind : ∀ b, q b → b < w.heap.size → q' b

theorem Over.pairs {w w' : World} {q q' : Nat → Prop} (hb : Over w w' q q') {A : Option Addr} {l : List (Int × Int)} (h : PairsAt w A l) (hq : ∀ b off, 0 < l.length → A = some ⟨b, off, none⟩ → q b) : PairsAt w' A l := by
  intro hl
  obtain ⟨b, off, rfl, hlt, hc⟩ := h hl
  have hw := hb.block b (hq b off hl rfl) hlt
  refine ⟨b, off, rfl, Nat.lt_of_lt_of_le hlt hb.size, fun i hi => ?_⟩
  obtain ⟨h1, h2⟩ := hc i hi
  exact ⟨(World.cell?_of_block (w := w) (a := ⟨b, off + i * 2, none⟩) hw).trans h1, (World.cell?_of_block (w := w) (a := ⟨b, off + i * 2 + 1, none⟩) hw).trans h2⟩

mutual
theorem FIn.over {w w' : World} {q q' : Nat → Prop} (hb : Over w w' q q') : ∀ {v : Value} {t : Tm}, FIn w q v t → FIn w' q' v t
  | _, _, .atom n => .atom n
  | _, _, .node (b := b) (off := off) n hm hq hlt hc h => .node n hm (hb.kind b hq hlt) (Nat.lt_of_lt_of_le hlt hb.size) (fun j u hj => (World.cell?_of_block (w := w) (a := ⟨b, off + j, none⟩) (hb.block b hq hlt)).trans (hc j u hj)) (h.over hb)
  | _, _, .bind n h => .bind n (h.over hb)
  | _, _, .hole n hm h hq => .hole n hm (hb.pairs h hq) (fun b off hl hA => by
      obtain ⟨b', off', e, hlt, _⟩ := h hl
      rw [hA] at e
      injection e with e
      injection e with e
      subst e
      exact hb.kind b (hq b off hl hA) hlt)
theorem FsIn.over {w w' : World} {q q' : Nat → Prop} (hb : Over w w' q q') : ∀ {vs : List Value} {ts : List Tm}, FsIn w q vs ts → FsIn w' q' vs ts
  | _, _, .nil => .nil
  | _, _, .cons h k => .cons (h.over hb) (k.over hb)
end

theorem FsIn.len {w : World} {q : Nat → Prop} : ∀ {vs : List Value} {ts : List Tm}, FsIn w q vs ts → vs.length = ts.length
  | _, _, .nil => rfl
  | _, _, .cons _ k => by rw [List.length_cons, List.length_cons, k.len]
theorem FsIn.get {w : World} {q : Nat → Prop} : ∀ {vs : List Value} {ts : List Tm}, FsIn w q vs ts → ∀ i : Nat, i < ts.length → ∃ u, vs[i]? = some u ∧ FIn w q u (tmAt ts i)
  | _, _, .nil, i, h => by simp at h
  | _, _, .cons (v := v) h _, 0, _ => ⟨v, rfl, h⟩
  | _, _, .cons _ k, i + 1, h => by
    obtain ⟨u, hu, hf⟩ := k.get i (by simpa using h)
    exact ⟨u, by simpa using hu, by rw [tmAt_cons_succ]; exact hf⟩
theorem FsIn.snoc {w : World} {q : Nat → Prop} : ∀ {vs : List Value} {ts : List Tm} {v : Value} {t : Tm}, FsIn w q vs ts → FIn w q v t → FsIn w q (vs ++ [v]) (ts ++ [t])
  | _, _, _, _, .nil, h => .cons h .nil
  | _, _, _, _, .cons h0 k, h => .cons h0 (k.snoc h)

/-- What was there and what is new. -/
def Since (B C : Nat) (b : Nat) : Prop := b < B ∨ C ≤ b
/-- Every block. -/
def AnyB (_ : Nat) : Prop := True

theorem FIn.old {w w' : World} {q : Nat → Prop} {v : Value} {t : Tm} (h : FIn w q v t) (hb : Below w.heap.size w w') : FIn w' (fun b => b < w.heap.size) v t :=
  h.over ⟨hb.size, fun b _ hl => hb.block b hl, fun _ _ hl => hl⟩
theorem FIn.keep {w w' : World} {q : Nat → Prop} {v : Value} {t : Tm} (h : FIn w q v t) (hb : Below w.heap.size w w') : FIn w' q v t :=
  h.over ⟨hb.size, fun b _ hl => hb.block b hl, fun _ h _ => h⟩
theorem FIn.kind {w : World} {q q' : Nat → Prop} {v : Value} {t : Tm} (h : FIn w q v t) (hk : ∀ b, b < w.heap.size → q b → q' b) : FIn w q' v t :=
  h.over ⟨Nat.le_refl _, fun _ _ _ => rfl, fun b h hl => hk b hl h⟩
theorem FsIn.kinds {w : World} {q q' : Nat → Prop} {v : List Value} {t : List Tm} (h : FsIn w q v t) (hk : ∀ b, b < w.heap.size → q b → q' b) : FsIn w q' v t :=
  h.over ⟨Nat.le_refl _, fun _ _ _ => rfl, fun b h hl => hk b hl h⟩
theorem FIn.any {w : World} {q : Nat → Prop} {v : Value} {t : Tm} (h : FIn w q v t) : FIn w AnyB v t := h.kind fun _ _ _ => trivial

theorem FIn.setOther {w : World} {q : Nat → Prop} {v : Value} {t : Tm} (h : FIn w q v t) (a : Addr) (u : Value) (hn : ∀ b, q b → b ≠ a.block) : FIn (w.setCell a u) q v t :=
  h.over ⟨by simp, fun b hq _ => Below.heap_setCell w a u b (hn b hq), fun _ h _ => h⟩

/-- The dynamic type of a form. -/
def fty (t : Tm) : TypeId := if t.op = 1 then 153 else if t.op = 2 then 156 else if t.op = 3 then 159 else 135

theorem FIn.iface {w : World} {q : Nat → Prop} {v : Value} {t : Tm} (h : FIn w q v t) : ∃ x, v = .iface (fty t) x := by
  cases h with
  | atom n => exact ⟨_, rfl⟩
  | node n => exact ⟨_, rfl⟩
  | bind n => exact ⟨_, rfl⟩
  | hole n => exact ⟨_, rfl⟩

/-- It is one cell. -/
theorem FIn.one {w : World} {q : Nat → Prop} {v : Value} {t : Tm} (h : FIn w q v t) : v.oneCell' = true := by
  obtain ⟨x, rfl⟩ := h.iface
  rfl

/-- What a call answers that makes a form. -/
def FormPost (B : Nat) (t : Tm) (w : World) (e : Ending) (w' : World) : Prop := ∃ v, e = .returned v ∧ FIn w' (Since B w.heap.size) v t ∧ Below w.heap.size w w'

theorem addr_add (g j : Nat) : (⟨g, 0, none⟩ : Addr).add j = ⟨g, j, none⟩ := by unfold Addr.add; split <;> simp_all
theorem form_atom {w : World} {q : Nat → Prop} {t : Tm} (h : t = .mk 1 t.num [] []) : FIn w q (.iface 153 (.agg #[.int .i64 t.num])) t := by
  rw [h]; exact .atom _
theorem form_bind' {w : World} {q : Nat → Prop} {v : Value} {t k : Tm} (h : t = .mk 3 t.num [] [k]) (hv : FIn w q v k) : FIn w q (.iface 159 (.agg #[.int .i64 t.num, v])) t := by
  rw [h]; exact .bind _ hv
theorem form_hole {w : World} {q : Nat → Prop} {A : Option Addr} {c : Nat} {t : Tm} (h : t = .mk 4 t.num t.perm []) (hp : PairsAt w A t.perm) (hq : ∀ b off, 0 < t.perm.length → A = some ⟨b, off, none⟩ → q b) : FIn w q (.iface 135 (.agg #[.int .i64 t.num, .slice A t.perm.length c])) t := by
  generalize t.perm = p at h hp hq ⊢
  rw [h]; exact .hole _ rfl hp hq
theorem form_node {w : World} {q : Nat → Prop} {base g n c : Nat} {xs : List Value} {t : Tm} (h : t = .mk 2 t.num [] t.kids) (hn : n = t.kids.length) (ho : w.ownsRow base 94 1 (.slice (some ⟨g, 0, none⟩) n c) n xs) (hx : FsIn w q xs t.kids) (hq : q g) : FIn w q (.iface 156 (.agg #[.int .i64 t.num, .slice (some ⟨g, 0, none⟩) n c])) t := by
  have hlt := (ho.lt g rfl).2
  have hc : ∀ j u, xs[j]? = some u → w.cell? ⟨g, 0 + j, none⟩ = some u := fun j u hj => by
    rw [Nat.zero_add]
    have := ho.cells (g := g) rfl j u hj
    rwa [addr_add] at this
  generalize t.kids = ks at h hn hx
  rw [h]; exact .node _ hn hq hlt hc hx
end

section
open Go.RowKit Go.Sort
set_option linter.unusedVariables false

/-- A row of the call's own that holds forms; what they reach lies in blocks of a kind, and not in the row itself. -/
def FRow (w : World) (B0 B : Nat) (v : Value) (k : Nat) (ts : List Tm) : Prop :=
  ∃ g cap xs, v = .slice (some ⟨g, 0, none⟩) k cap ∧ w.ownsRow B 94 1 v k xs ∧ FsIn w (fun b => Since B0 B b ∧ b ≠ g) xs ts

theorem since_le {B C D b : Nat} (h : Since B C b) (hD : D ≤ C) : Since B D b := h.imp id fun h => Nat.le_trans hD h
/-- One more form behind a row. -/
theorem frow_next {wr w2 w3 w4 : World} {B0 B C g cap g1 cap1 k : Nat} {xs : List Value} {ts : List Tm} {v : Value} {t : Tm}
    (hB : B0 ≤ B) (hC : wr.heap.size ≤ C) (ho : wr.ownsRow B 94 1 (.slice (some ⟨g, 0, none⟩) k cap) k xs)
    (hx : FsIn wr (fun b => Since B0 B b ∧ b ≠ g) xs ts) (h13 : Below wr.heap.size wr w3) (hv : FIn w2 (Since B0 C) v t) (h23 : Below w2.heap.size w2 w3)
    (ho4 : w4.ownsRow B 94 1 (.slice (some ⟨g1, 0, none⟩) (k + 1) cap1) (k + 1) (xs ++ [v]))
    (hg : w3.grownBy w4 (some g)) (hcase : some g = some g1 ∨ g1 = w3.heap.size) :
    FRow w4 B0 B (.slice (some ⟨g1, 0, none⟩) (k + 1) cap1) (k + 1) (ts ++ [t]) := by
  obtain ⟨hg1, hg2⟩ := ho.lt g rfl
  have hsz : w3.heap.size ≤ w4.heap.size := hg.size
  have hbl : ∀ b, b < w3.heap.size → b ≠ g → w4.heap[b]? = w3.heap[b]? := fun b h1 h2 => hg.block b h1 (fun e => by injection e with e; exact h2 e)
  have hne : ∀ b, b < w3.heap.size → b ≠ g → b ≠ g1 := by
    intro b h1 h2 e
    rcases hcase with h | h
    · injection h with h
      omega
    · omega
  have hs13 := h13.size
  have hs23 := h23.size
  refine ⟨g1, cap1, xs ++ [v], rfl, ho4, FsIn.snoc ?_ ?_⟩
  · refine hx.over ⟨by omega, fun b hq hl => ?_, fun b hq hl => ?_⟩
    · exact (hbl b (by omega) hq.2).trans (h13.block b hl)
    · exact ⟨hq.1, hne b (by omega) hq.2⟩
  · have hk : ∀ b, Since B0 C b → b ≠ g := by
      intro b hs e
      subst e
      rcases hs with h | h <;> omega
    refine hv.over ⟨by omega, fun b hq hl => ?_, fun b hq hl => ?_⟩
    · exact (hbl b (by omega) (hk b hq)).trans (h23.block b hl)
    · refine ⟨?_, hne b (by omega) (hk b hq)⟩
      rcases hq with h | h
      · exact .inl h
      · exact .inr (by omega)

theorem form_info : (Tryz.prog.info? 94).map (fun i => (i.zero, i.size, i.bytes)) = some (some .nilIface, 1, 16) := by kernel_rfl

theorem form_one {w : World} {q : Nat → Prop} {v : Value} {t : Tm} (h : FIn w q v t) : ∀ u ∈ [v], u.oneCell' = true := by
  intro u hu
  simp only [List.mem_singleton] at hu
  subst hu
  exact h.one

theorem good1 {t : Tm} (h : goodT t = true) (ho : t.op = 1) : t = .mk 1 t.num [] [] := by
  rw [goodT_eq, Bool.and_eq_true, shapeB, if_pos ho] at h
  simp only [Bool.and_eq_true, decide_eq_true_eq] at h
  cases t with
  | mk o n p ks =>
    obtain ⟨⟨_, h1, h2⟩, _⟩ := h
    simp only [op_mk, num_mk, perm_mk, kids_mk] at *
    rw [ho, List.length_eq_zero_iff.1 h1, List.length_eq_zero_iff.1 h2]
theorem good2 {t : Tm} (h : goodT t = true) (ho : t.op = 2) : t = .mk 2 t.num [] t.kids ∧ t.kids.length ≤ 3 := by
  rw [goodT_eq, Bool.and_eq_true, shapeB, if_neg (by omega), if_pos ho] at h
  simp only [Bool.and_eq_true, decide_eq_true_eq] at h
  cases t with
  | mk o n p ks =>
    obtain ⟨⟨_, h1, h2⟩, _⟩ := h
    simp only [op_mk, num_mk, perm_mk, kids_mk] at *
    rw [ho, List.length_eq_zero_iff.1 h1]
    exact ⟨rfl, by omega⟩
theorem good3 {t : Tm} (h : goodT t = true) (ho : t.op = 3) : t = .mk 3 t.num [] [tmAt t.kids 0] ∧ t.kids.length = 1 := by
  rw [goodT_eq, Bool.and_eq_true, shapeB, if_neg (by omega), if_neg (by omega), if_pos ho] at h
  simp only [Bool.and_eq_true, decide_eq_true_eq] at h
  cases t with
  | mk o n p ks =>
    obtain ⟨⟨_, h1, h2⟩, _⟩ := h
    simp only [op_mk, num_mk, perm_mk, kids_mk] at *
    obtain ⟨k, rfl⟩ := List.length_eq_one_iff.1 h2
    rw [ho, List.length_eq_zero_iff.1 h1]
    exact ⟨rfl, rfl⟩
theorem good4 {t : Tm} (h : goodT t = true) (h1 : ¬ t.op = 1) (h2 : ¬ t.op = 2) (h3 : ¬ t.op = 3) : t = .mk 4 t.num t.perm [] ∧ t.perm.length ≤ 40 := by
  rw [goodT_eq, Bool.and_eq_true, shapeB, if_neg h1, if_neg h2, if_neg h3] at h
  by_cases ho : t.op = 4
  · rw [if_pos ho] at h
    simp only [Bool.and_eq_true, decide_eq_true_eq] at h
    cases t with
    | mk o n p ks =>
      obtain ⟨⟨_, h4, h5⟩, _⟩ := h
      simp only [op_mk, num_mk, perm_mk, kids_mk] at *
      rw [ho, List.length_eq_zero_iff.1 h5]
      exact ⟨rfl, (permB_parts h4).1⟩
  · rw [if_neg ho] at h
    simp at h
end

section
open Go.RowKit Go.Sort
set_option linter.unusedVariables false

/-- A kid of a term, as its cells give it. -/
theorem kid_cells {w : World} {B : Option Addr} {n d : Nat} {ts : List Tm} (h : TmsIn w (.slice B n d) ts) {k : Nat} (hk : k < ts.length) :
    ∃ b off A1 c1 B1 e1, B = some ⟨b, off, none⟩ ∧ b < w.heap.size ∧
      w.cell? ⟨b, off + k * 4, none⟩ = some (.int .i64 (tmAt ts k).op) ∧ w.cell? ⟨b, off + k * 4 + 1, none⟩ = some (.int .i64 (tmAt ts k).num) ∧
      w.cell? ⟨b, off + k * 4 + 2, none⟩ = some (.slice A1 (tmAt ts k).perm.length c1) ∧ w.cell? ⟨b, off + k * 4 + 3, none⟩ = some (.slice B1 (tmAt ts k).kids.length e1) ∧
      TmIn w (.agg #[.int .i64 (tmAt ts k).op, .int .i64 (tmAt ts k).num, .slice A1 (tmAt ts k).perm.length c1, .slice B1 (tmAt ts k).kids.length e1]) (tmAt ts k) := by
  obtain ⟨b, off, rfl, hbl, hget⟩ := h.get (by omega)
  obtain ⟨A1, c1, kv1, d0, d1, d2, d3, hp1, hk1⟩ := hget k hk
  obtain ⟨B1, e1, rfl⟩ := hk1.form
  exact ⟨b, off, A1, c1, B1, e1, rfl, hbl, d0, d1, d2, d3, A1, c1, _, rfl, hp1, hk1⟩

set_option maxRecDepth 100000 in
set_option maxHeartbeats 4000000 in
theorem formOf_step (t : Tm) (x : Value) (w0 w : World) (hx : TmIn w0 x t) (hw : Below w0.heap.size w0 w) (hg : goodT t = true)
    (ih : ∀ i, i < t.kids.length → ∀ (w' : World) (y : Value), TmIn w0 y (tmAt t.kids i) → Below w0.heap.size w0 w' → Calls Tryz.prog 60 #[y] w' (FormPost w0.heap.size (tmAt t.kids i) w')) :
    Calls Tryz.prog 60 #[x] w (FormPost w0.heap.size t w) := by
  obtain ⟨i0, hi0, hz0, hz1, hz2⟩ := info_parts form_info
  have HS := Lib.hid hz2
  clear hz2
  obtain ⟨A, c, kv, rfl, hp, hk⟩ := hx
  obtain ⟨B, d, rfl⟩ := hk.form
  have hb0 : Below w.heap.size w (w.alloc (.cells #[.int .i64 t.op, .int .i64 t.num, .slice A t.perm.length c, .slice B t.kids.length d] 46)) := (Below.refl _ _).alloc (Nat.le_refl _) _
  go_enter Tryz.func60, Tryz.ntmps60
  by_cases hop1 : t.op = 1
  · have q1 : (t.op == 1) = true := by simp [hop1]
    have hpost : FormPost w0.heap.size t w (.returned (.iface 153 (.agg #[.int .i64 t.num]))) (w.alloc (.cells #[.int .i64 t.op, .int .i64 t.num, .slice A t.perm.length c, .slice B t.kids.length d] 46)) :=
      ⟨_, rfl, form_atom (good1 hg hop1), hb0⟩
    clear hop1 hk hp hb0
    go_wp2
    go_ret
    exact hpost
  have q1 : (t.op == 1) = false := by simp [hop1]
  by_cases hop2 : t.op = 2
  · have q2 : (t.op == 2) = true := by simp [hop2]
    obtain ⟨hT, hl3⟩ := good2 hg hop2
    have HT := Lib.hid hT
    have hsB : w0.heap.size ≤ w.heap.size := hw.size
    have HW := Lib.hid hw
    clear hop1 hop2 hp hT hw hg
    go_wp2
    go_loopw [3, 20] (fun v i wr => ∃ k : Nat, k ≤ t.kids.length ∧ i = .int .i64 k ∧ FRow wr w0.heap.size (w.heap.size + 1) v k (t.kids.take k) ∧ Below (w.alloc (.cells #[.int .i64 t.op, .int .i64 t.num, .slice A t.perm.length c, .slice B t.kids.length d] 46)).heap.size (w.alloc (.cells #[.int .i64 t.op, .int .i64 t.num, .slice A t.perm.length c, .slice B t.kids.length d] 46)) wr) (fun _ i _ => t.kids.length - (intOf i).toNat)
    case atStart =>
      refine ⟨0, Nat.zero_le _, rfl, ?_, (Below.refl _ _).alloc (Nat.le_refl _) _⟩
      refine ⟨w.heap.size + 1, 0, [], rfl, ?_, .nil⟩
      have h9 := World.ownsRow_lit (base := (w.alloc (.cells #[.int .i64 t.op, .int .i64 t.num, .slice A t.perm.length c, .slice B t.kids.length d] 46)).heap.size) (e := 94) (size := 1) (w.alloc (.cells #[.int .i64 t.op, .int .i64 t.num, .slice A t.perm.length c, .slice B t.kids.length d] 46)) #[] 0 (Nat.le_refl _) (by decide) rfl
      rw [World.size_alloc] at h9
      exact own_le h9 (by omega)
    case round =>
      obtain ⟨k, hk', rfl, ⟨g, cap, xs, rfl, ho, hxs⟩, hbw⟩ := hrel
      have hb := hb0.trans (hbw.mono hb0.size)
      have hbW := HW.out.trans (hb.mono HW.out.size)
      by_cases hlt : k < t.kids.length
      · obtain ⟨b, off, A1, c1, B1, e1, rfl, hbl, d0, d1, d2, d3, hy⟩ := kid_cells hk hlt
        rw [← hbW.cell (p := ⟨b, _, none⟩) hbl] at d0 d1 d2 d3
        have hbx : Below wr.heap.size wr (wr.alloc (.cells #[.int .i64 (tmAt t.kids k).op, .int .i64 (tmAt t.kids k).num, .slice A1 (tmAt t.kids k).perm.length c1, .slice B1 (tmAt t.kids k).kids.length e1] 46)) := (Below.refl _ _).alloc (Nat.le_refl _) _
        have hct := ih k hlt _ _ hy (hbW.trans (hbx.mono hbW.size))
        have hnx := Lib.hid (tm_take_next hlt)
        have hox := own_below ho hbx
        have hbr := hbw.trans (hbx.mono hbw.size)
        have hszr : wr.heap.size ≤ wr.heap.size + 1 := Nat.le_succ _
        generalize tmAt t.kids k = u at d0 d1 d2 d3 hct hbx hnx hox hbr
        clear hy hbl hb hbW hbw ih hk
        go_wp2_with fail
        refine hct.mono ?_
        rintro e w2 ⟨fv, rfl, hfv, hb2⟩
        obtain ⟨fx, rfl⟩ := hfv.iface
        generalize fty u = fT at hfv
        have hb3 : Below w2.heap.size w2 (w2.alloc (.cells #[.iface fT fx] 94)) := (Below.refl _ _).alloc (Nat.le_refl _) _
        have hb13 := (hbx.trans (hb2.mono hbx.size)).trans (hb3.mono (Nat.le_trans hbx.size hb2.size))
        have ho3 := own_below (own_below hox hb2) hb3
        have hbr3 := (hbr.trans (hb2.mono hbr.size)).trans (hb3.mono (Nat.le_trans hbr.size hb2.size))
        have hcell : (w2.alloc (.cells #[.iface fT fx] 94)).cell? ⟨w2.heap.size, 0, none⟩ = some (.iface fT fx) := by simp
        have HC := Lib.hid (one_cell hcell)
        have HF1 := Lib.hid (form_one hfv)
        have hsz3 := hbr3.size
        have HR : Hid (∀ g1 cap1 w4, w4.ownsRow (w.heap.size + 1) 94 1 (.slice (some ⟨g1, 0, none⟩) (k + 1) cap1) (k + 1) (xs ++ [.iface fT fx]) → (w2.alloc (.cells #[.iface fT fx] 94)).grownBy w4 (some g) → (some g = some g1 ∨ g1 = (w2.alloc (.cells #[.iface fT fx] 94)).heap.size) → FRow w4 w0.heap.size (w.heap.size + 1) (.slice (some ⟨g1, 0, none⟩) (k + 1) cap1) (k + 1) (t.kids.take k ++ [u])) :=
          Lib.hid (fun g1 cap1 w4 h1 h2 h3 => frow_next (by omega) (by rw [World.size_alloc] ; omega) ho hxs hb13 hfv hb3 h1 h2 h3)
        have hsz4 : w.heap.size + 1 ≤ (w2.alloc (.cells #[.iface fT fx] 94)).heap.size := by
          have := hb13.size; have := (ho.lt g rfl).2; have := (ho.lt g rfl).1; omega
        clear hcell ho hxs hbx hb2 hb3 hb13 hfv hct hox hbr d0 d1 d2 d3
        generalize hH : (w2.alloc (.cells #[.iface fT fx] 94)).heap.size = H at hsz4
        have HH := Lib.hid hH
        clear hH
        go_wp2_with (at_builtin; refine wpList_append_lies _ rfl (.tmp 24) (.tmp 27) 154 rfl (w.heap.size + 1) 94 i0 .nilIface 1 16 Tryz.underlying154 hi0 hz0 hz1 HS.out rfl (by decide) _ k _ rfl ho3 ⟨w2.heap.size, 0, none⟩ 1 1 [.iface fT fx] rfl rfl HC.out HF1.out (by decide) ?c3 ?c4 ?c5 H HH.out ?_)
        case c3 => unfold maxLen; omega
        case c4 => omega
        case c5 => rw [HH.out]; exact hsz4
        intro g1 cap1 w4 ho4 hg4 hcase _
        rw [← HH.out] at hcase
        have hrow := HR.out g1 cap1 w4 ho4 hg4 hcase
        rw [← hnx.out] at hrow
        have hb4 := below_own hbr3 ho3 (by rw [World.size_alloc]; omega) hsz3 hg4
        clear ho4 hg4 hcase HR ho3 hbr3 HC HF1 hsz3 hsz4 HH hnx
        go_wp2
        refine ⟨⟨k + 1, by omega, by go_num, hrow, hb4⟩, ?_⟩
        simp only [intOf]
        omega
      · have e : k = t.kids.length := by omega
        have hpost : FormPost w0.heap.size t w (.returned (.iface 156 (.agg #[.int .i64 t.num, .slice (some ⟨g, 0, none⟩) k cap]))) wr := by
          rw [List.take_of_length_le (by omega)] at hxs
          exact ⟨_, rfl, form_node HT.out e ho (hxs.kinds fun b _ h => since_le h.1 (Nat.le_succ _)) (.inr (Nat.le_of_succ_le (ho.lt g rfl).1)), hb⟩
        obtain ⟨b0, b1, b2, b3⟩ := box4 hbw
        clear ho hxs hb hbW hbw ih hk e HT
        go_wp2
        go_ret
        exact hpost
  have q2 : (t.op == 2) = false := by simp [hop2]
  by_cases hop3 : t.op = 3
  · have q3 : (t.op == 3) = true := by simp [hop3]
    obtain ⟨hT, hl1⟩ := good3 hg hop3
    have HT := Lib.hid hT
    have hpos : 0 < t.kids.length := by omega
    obtain ⟨b, off, A1, c1, B1, e1, rfl, hbl, d0, d1, d2, d3, hy⟩ := kid_cells hk hpos
    have hdw : Below (w.alloc (.cells #[.int .i64 t.op, .int .i64 t.num, .slice A t.perm.length c, .slice (some ⟨b, off, none⟩) t.kids.length d] 46)).heap.size (w.alloc (.cells #[.int .i64 t.op, .int .i64 t.num, .slice A t.perm.length c, .slice (some ⟨b, off, none⟩) t.kids.length d] 46)) (w.alloc (.cells #[.int .i64 t.op, .int .i64 t.num, .slice A t.perm.length c, .slice (some ⟨b, off, none⟩) t.kids.length d] 46)).drew := ⟨rfl, rfl, rfl, Nat.le_refl _, fun _ _ => rfl⟩
    have hbd := hb0.trans (hdw.mono hb0.size)
    have hbW := hw.trans (hbd.mono hw.size)
    rw [← hbW.cell (p := ⟨b, _, none⟩) hbl] at d0 d1 d2 d3
    rw [Nat.zero_mul, Nat.add_zero] at d0 d1 d2 d3
    have hct := ih 0 hpos _ _ hy hbW
    have b1 : (w.alloc (.cells #[.int .i64 t.op, .int .i64 t.num, .slice A t.perm.length c, .slice (some ⟨b, off, none⟩) t.kids.length d] 46)).drew.cell? ⟨w.heap.size, 1, none⟩ = some (.int .i64 t.num) := by rw [hdw.cell (by simp)]; exact (box4 (Below.refl _ _)).2.1
    have b3 : (w.alloc (.cells #[.int .i64 t.op, .int .i64 t.num, .slice A t.perm.length c, .slice (some ⟨b, off, none⟩) t.kids.length d] 46)).drew.cell? ⟨w.heap.size, 3, none⟩ = some (.slice (some ⟨b, off, none⟩) t.kids.length d) := by rw [hdw.cell (by simp)]; exact (box4 (Below.refl _ _)).2.2.2
    have hsz : w.heap.size < (w.alloc (.cells #[.int .i64 t.op, .int .i64 t.num, .slice A t.perm.length c, .slice (some ⟨b, off, none⟩) t.kids.length d] 46)).drew.heap.size := by
      have := hdw.size
      rw [World.size_alloc] at this
      omega
    have hbl2 := Nat.lt_of_lt_of_le hbl hbW.size
    have HB := Lib.hid hbd
    clear hop1 hop2 hop3 hp hT hw hg hl1 hk hy hbl ih hb0 hbW hdw hbd
    generalize tmAt t.kids 0 = u at d0 d1 d2 d3 hct HT
    go_wp2
    go_region_held3 (fun w' => w'.cell? ⟨w.heap.size, 1, none⟩ = some (.int .i64 t.num) ∧ w'.cell? ⟨w.heap.size, 3, none⟩ = some (.slice (some ⟨b, off, none⟩) t.kids.length d) ∧ w'.cell? ⟨b, off, none⟩ = some (.int .i64 u.op) ∧ w'.cell? ⟨b, off + 1, none⟩ = some (.int .i64 u.num) ∧ w'.cell? ⟨b, off + 2, none⟩ = some (.slice A1 u.perm.length c1) ∧ w'.cell? ⟨b, off + 3, none⟩ = some (.slice B1 u.kids.length e1))
      (first | ((try dsimp only); exact ⟨by assumption, by assumption, by assumption, by assumption, by assumption, by assumption⟩) | go_keep)
      ((go_at_call 60; refine hct.mono ?_; rintro e w2 ⟨fv, rfl, hfv, hb2⟩; obtain ⟨fx, rfl⟩ := hfv.iface; have b1' := (hb2.cell (p := ⟨w.heap.size, 1, none⟩) hsz).trans b1; have b3' := (hb2.cell (p := ⟨w.heap.size, 3, none⟩) hsz).trans b3; have d0' := (hb2.cell (p := ⟨b, off, none⟩) hbl2).trans d0; have d1' := (hb2.cell (p := ⟨b, off + 1, none⟩) hbl2).trans d1; have d2' := (hb2.cell (p := ⟨b, off + 2, none⟩) hbl2).trans d2; have d3' := (hb2.cell (p := ⟨b, off + 3, none⟩) hbl2).trans d3))
    have hpost : FormPost w0.heap.size t w (.returned (.iface 159 (.agg #[.int .i64 t.num, .iface (fty u) fx]))) w2 :=
      ⟨_, rfl, form_bind' HT.out (hfv.kind fun b _ h => since_le h HB.out.size), HB.out.trans (hb2.mono HB.out.size)⟩
    clear hct b1 b3 d0 d1 d2 d3 hfv hb2 b1' b3' d0' d1' d2' d3' HB HT
    go_wp2
    go_ret
    exact hpost
  · have q3 : (t.op == 3) = false := by simp [hop3]
    obtain ⟨hT, hl40⟩ := good4 hg hop1 hop2 hop3
    have hpost : FormPost w0.heap.size t w (.returned (.iface 135 (.agg #[.int .i64 t.num, .slice A t.perm.length c]))) (w.alloc (.cells #[.int .i64 t.op, .int .i64 t.num, .slice A t.perm.length c, .slice B t.kids.length d] 46)) := by
      refine ⟨_, rfl, form_hole hT ((hp.below hw).below hb0) fun b off hl hA => ?_, hb0⟩
      obtain ⟨b', off', e, hlt, _⟩ := hp hl
      rw [hA] at e
      injection e with e
      injection e with e
      subst e
      exact .inl hlt
    clear hop1 hop2 hop3 hk hp hb0 hT
    go_wp2
    go_ret
    exact hpost

theorem formOf_any : ∀ (N : Nat) (t : Tm), szT t ≤ N → goodT t = true → ∀ (w0 w : World) (x : Value), TmIn w0 x t → Below w0.heap.size w0 w → Calls Tryz.prog 60 #[x] w (FormPost w0.heap.size t w) := by
  intro N
  induction N with
  | zero => intro t h; rw [szT_eq] at h; omega
  | succ N ih =>
    intro t hN hg w0 w x hx hw
    refine formOf_step t x w0 w hx hw hg fun i hi w' y hy hw' => ?_
    have h1 := szT_at hi
    rw [szT_eq] at hN
    rw [goodT_eq, Bool.and_eq_true] at hg
    exact ih _ (by omega) (goodTs_at hg.2 hi) w0 w' y hy hw'

/-- The form of what is a term. -/
theorem formOf_term (t : Tm) (ht : isTermB t = true) (w : World) (x : Value) (hx : TmIn w x t) : Calls Tryz.prog 60 #[x] w (FormPost w.heap.size t w) := by
  rw [isTermB, Bool.and_eq_true] at ht
  exact formOf_any _ t (Nat.le_refl _) ht.1 w w x hx (Below.refl _ _)
end
section
open Go.RowKit Go.Sort
set_option linter.unusedVariables false

theorem form_cases {w : World} {q : Nat → Prop} {fx : Value} {t : Tm} (h : FIn w q (.iface (fty t) fx) t) :
    (∃ n, t = .mk 1 n [] [] ∧ fx = .agg #[.int .i64 n]) ∨
    (∃ n b off c xs ks, t = .mk 2 n [] ks ∧ fx = .agg #[.int .i64 n, .slice (some ⟨b, off, none⟩) ks.length c] ∧ q b ∧ b < w.heap.size ∧ (∀ j u, xs[j]? = some u → w.cell? ⟨b, off + j, none⟩ = some u) ∧ FsIn w q xs ks) ∨
    (∃ n v k, t = .mk 3 n [] [k] ∧ fx = .agg #[.int .i64 n, v] ∧ FIn w q v k) ∨
    (∃ n A c p, t = .mk 4 n p [] ∧ fx = .agg #[.int .i64 n, .slice A p.length c] ∧ PairsAt w A p ∧ ∀ b off, 0 < p.length → A = some ⟨b, off, none⟩ → q b) := by
  generalize hv : Value.iface (fty t) fx = v at h
  cases h with
  | atom n => injection hv with _ h; exact .inl ⟨n, rfl, h⟩
  | node n hm hq hb hc h => injection hv with _ h'; subst hm; exact .inr (.inl ⟨n, _, _, _, _, _, rfl, h', hq, hb, hc, h⟩)
  | bind n h => injection hv with _ h'; exact .inr (.inr (.inl ⟨n, _, _, rfl, h', h⟩))
  | hole n hm h hq => injection hv with _ h'; subst hm; exact .inr (.inr (.inr ⟨n, _, _, _, rfl, h', h, hq⟩))

end
end Go.Proofs.YtlhjgjfnmejiaaaGreat
end

section
namespace Go.Proofs.YtlhjgjfnmejiaaaGreat
section
open Go.RowKit Go.Sort
set_option linter.unusedVariables false

/-- The free atoms of a form, by its kind. -/
def freeF (t : Tm) : FuncId := if t.op = 1 then 247 else if t.op = 2 then 251 else if t.op = 3 then 256 else 238
theorem askFree (t : Tm) (v : Value) (w : World) : (method 381 (fty t) v "loop.example/g03112/impl.free").run Tryz.prog w = .ok (freeF t, v) w := by
  unfold fty freeF
  split
  · kernel_rfl
  split
  · kernel_rfl
  split
  · kernel_rfl
  · kernel_rfl
theorem enterFree (t : Tm) (args : Array Value) (w : World) : (callFunc (freeF t) args).run Tryz.prog w = .ok (.enter (freeF t) args) w := by
  unfold freeF
  split
  · kernel_rfl
  split
  · kernel_rfl
  split
  · kernel_rfl
  · kernel_rfl

/-- What acting makes of a form, by its kind. -/
def actF (t : Tm) : FuncId := if t.op = 1 then 246 else if t.op = 2 then 250 else if t.op = 3 then 255 else 237
theorem askAct (t : Tm) (v : Value) (w : World) : (method 381 (fty t) v "loop.example/g03112/impl.acted").run Tryz.prog w = .ok (actF t, v) w := by
  unfold fty actF
  split
  · kernel_rfl
  split
  · kernel_rfl
  split
  · kernel_rfl
  · kernel_rfl
theorem enterAct (t : Tm) (args : Array Value) (w : World) : (callFunc (actF t) args).run Tryz.prog w = .ok (.enter (actF t) args) w := by
  unfold actF
  split
  · kernel_rfl
  split
  · kernel_rfl
  split
  · kernel_rfl
  · kernel_rfl

/-- The term of a form, by its kind. -/
def termF (t : Tm) : FuncId := if t.op = 1 then 248 else if t.op = 2 then 252 else if t.op = 3 then 257 else 239
theorem askTerm (t : Tm) (v : Value) (w : World) : (method 381 (fty t) v "loop.example/g03112/impl.term").run Tryz.prog w = .ok (termF t, v) w := by
  unfold fty termF
  split
  · kernel_rfl
  split
  · kernel_rfl
  split
  · kernel_rfl
  · kernel_rfl
theorem enterTerm (t : Tm) (args : Array Value) (w : World) : (callFunc (termF t) args).run Tryz.prog w = .ok (.enter (termF t) args) w := by
  unfold termF
  split
  · kernel_rfl
  split
  · kernel_rfl
  split
  · kernel_rfl
  · kernel_rfl
end
end Go.Proofs.YtlhjgjfnmejiaaaGreat
end

section
namespace Go.Proofs.YtlhjgjfnmejiaaaGreat
open Go.RowKit
set_option linter.unusedVariables false

theorem ask_atom_atom (v : Value) (w : World) : (Instr.typeAssert (.iface 153 v) 94 153 true).run Tryz.prog w = .ok (.tuple #[v, .bool true]) w := by kernel_rfl
theorem ask_atom_node (v : Value) (w : World) : (Instr.typeAssert (.iface 153 v) 94 156 true).run Tryz.prog w = .ok (.tuple #[.agg #[.int .i64 0, .slice none 0 0], .bool false]) w := by kernel_rfl
theorem ask_atom_bind (v : Value) (w : World) : (Instr.typeAssert (.iface 153 v) 94 159 true).run Tryz.prog w = .ok (.tuple #[.agg #[.int .i64 0, .nilIface], .bool false]) w := by kernel_rfl
theorem ask_atom_hole (v : Value) (w : World) : (Instr.typeAssert (.iface 153 v) 94 135 true).run Tryz.prog w = .ok (.tuple #[.agg #[.int .i64 0, .slice none 0 0], .bool false]) w := by kernel_rfl
theorem ask_node_atom (v : Value) (w : World) : (Instr.typeAssert (.iface 156 v) 94 153 true).run Tryz.prog w = .ok (.tuple #[.agg #[.int .i64 0], .bool false]) w := by kernel_rfl
theorem ask_node_node (v : Value) (w : World) : (Instr.typeAssert (.iface 156 v) 94 156 true).run Tryz.prog w = .ok (.tuple #[v, .bool true]) w := by kernel_rfl
theorem ask_node_bind (v : Value) (w : World) : (Instr.typeAssert (.iface 156 v) 94 159 true).run Tryz.prog w = .ok (.tuple #[.agg #[.int .i64 0, .nilIface], .bool false]) w := by kernel_rfl
theorem ask_node_hole (v : Value) (w : World) : (Instr.typeAssert (.iface 156 v) 94 135 true).run Tryz.prog w = .ok (.tuple #[.agg #[.int .i64 0, .slice none 0 0], .bool false]) w := by kernel_rfl
theorem ask_bind_atom (v : Value) (w : World) : (Instr.typeAssert (.iface 159 v) 94 153 true).run Tryz.prog w = .ok (.tuple #[.agg #[.int .i64 0], .bool false]) w := by kernel_rfl
theorem ask_bind_node (v : Value) (w : World) : (Instr.typeAssert (.iface 159 v) 94 156 true).run Tryz.prog w = .ok (.tuple #[.agg #[.int .i64 0, .slice none 0 0], .bool false]) w := by kernel_rfl
theorem ask_bind_bind (v : Value) (w : World) : (Instr.typeAssert (.iface 159 v) 94 159 true).run Tryz.prog w = .ok (.tuple #[v, .bool true]) w := by kernel_rfl
theorem ask_bind_hole (v : Value) (w : World) : (Instr.typeAssert (.iface 159 v) 94 135 true).run Tryz.prog w = .ok (.tuple #[.agg #[.int .i64 0, .slice none 0 0], .bool false]) w := by kernel_rfl
theorem ask_hole_atom (v : Value) (w : World) : (Instr.typeAssert (.iface 135 v) 94 153 true).run Tryz.prog w = .ok (.tuple #[.agg #[.int .i64 0], .bool false]) w := by kernel_rfl
theorem ask_hole_node (v : Value) (w : World) : (Instr.typeAssert (.iface 135 v) 94 156 true).run Tryz.prog w = .ok (.tuple #[.agg #[.int .i64 0, .slice none 0 0], .bool false]) w := by kernel_rfl
theorem ask_hole_bind (v : Value) (w : World) : (Instr.typeAssert (.iface 135 v) 94 159 true).run Tryz.prog w = .ok (.tuple #[.agg #[.int .i64 0, .nilIface], .bool false]) w := by kernel_rfl
theorem ask_hole_hole (v : Value) (w : World) : (Instr.typeAssert (.iface 135 v) 94 135 true).run Tryz.prog w = .ok (.tuple #[v, .bool true]) w := by kernel_rfl

theorem boxes3 (w : World) (m a u v : Value) (T1 T2 T3 : TypeId) :
    (((w.alloc (.cells #[m] T1)).alloc (.cells #[a] T2)).alloc (.cells #[u, v] T3)).cell? ⟨w.heap.size, 0, none⟩ = some m ∧ (((w.alloc (.cells #[m] T1)).alloc (.cells #[a] T2)).alloc (.cells #[u, v] T3)).cell? ⟨w.heap.size + 1, 0, none⟩ = some a ∧
    (((w.alloc (.cells #[m] T1)).alloc (.cells #[a] T2)).alloc (.cells #[u, v] T3)).cell? ⟨w.heap.size + 2, 0, none⟩ = some u ∧ (((w.alloc (.cells #[m] T1)).alloc (.cells #[a] T2)).alloc (.cells #[u, v] T3)).cell? ⟨w.heap.size + 2, 1, none⟩ = some v := by
  have h1 : (((w.alloc (.cells #[m] T1)).alloc (.cells #[a] T2)).alloc (.cells #[u, v] T3)).heap[w.heap.size]? = some (.cells #[m] T1 (0, 0)) :=
    (Below.heap_alloc _ _ _ (by simp; omega)).trans ((Below.heap_alloc _ _ _ (by simp)).trans (heap_alloc_new w _))
  have h2 : (((w.alloc (.cells #[m] T1)).alloc (.cells #[a] T2)).alloc (.cells #[u, v] T3)).heap[w.heap.size + 1]? = some (.cells #[a] T2 (0, 0)) := by
    have h := heap_alloc_new (w.alloc (.cells #[m] T1)) (.cells #[a] T2)
    rw [World.size_alloc] at h
    exact (Below.heap_alloc _ _ _ (by simp)).trans h
  have h3 : (((w.alloc (.cells #[m] T1)).alloc (.cells #[a] T2)).alloc (.cells #[u, v] T3)).heap[w.heap.size + 2]? = some (.cells #[u, v] T3 (0, 0)) := by
    have h := heap_alloc_new ((w.alloc (.cells #[m] T1)).alloc (.cells #[a] T2)) (.cells #[u, v] T3)
    rw [World.size_alloc, World.size_alloc] at h
    exact h
  refine ⟨?_, ?_, ?_, ?_⟩
  · rw [cell_of_row _ _ _ _ _ _ h1]; rfl
  · rw [cell_of_row _ _ _ _ _ _ h2]; rfl
  · rw [cell_of_row _ _ _ _ _ _ h3]; rfl
  · rw [cell_of_row _ _ _ _ _ _ h3]; rfl

end Go.Proofs.YtlhjgjfnmejiaaaGreat
end

