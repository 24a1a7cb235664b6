/-
  Terms as the program holds them while it works on them; plain words, no program is walked here. Rows of forms that a call makes: plain words. The form of a term, in the program, as a contract. Function terms in the program, as contracts. Function terms in the model, as contracts.
-/
import Derived.Test.YtihijigbdpjcoaaGreatKIndexOf2
import Derived.Test.YtihijigbdpjcoaaGreatKIndexOf10
import Derived.Test.YtihijigbdpjcoaaGreatKIndexOf3
import Derived.Deep.AppendLies
import Derived.Deep.RegionHeld3
section
namespace Go.Proofs.YtihijigbdpjcoaaGreat
section
open Go.RowKit
set_option linter.unusedVariables false

mutual
/-- An interface value reads as a term; what it reaches lies in blocks of a kind. -/
inductive FIn (w : World) (q : Nat → Prop) : Value → Tm → Prop
  | atom (n : Int) : FIn w q (.iface 117 (.agg #[.int .i64 n])) (.mk 1 n [] [])
  | node (n : Int) {b off m c : Nat} {xs : List Value} {ks : List Tm} (hm : m = ks.length) (hq : q b) (hb : b < w.heap.size) (hc : ∀ j u, xs[j]? = some u → w.cell? ⟨b, off + j, none⟩ = some u) (h : FsIn w q xs ks) :
      FIn w q (.iface 120 (.agg #[.int .i64 n, .slice (some ⟨b, off, none⟩) m c])) (.mk 2 n [] ks)
  | bind (n : Int) {v : Value} {k : Tm} (h : FIn w q v k) : FIn w q (.iface 124 (.agg #[.int .i64 n, v])) (.mk 3 n [] [k])
  | hole (n : Int) {A : Option Addr} {m c : Nat} {p : List (Int × Int)} (hm : m = p.length) (h : PairsAt w A p) (hq : ∀ b off, 0 < p.length → A = some ⟨b, off, none⟩ → q b) : FIn w q (.iface 128 (.agg #[.int .i64 n, .slice A m c])) (.mk 4 n p [])
inductive FsIn (w : World) (q : Nat → Prop) : List Value → List Tm → Prop
  | nil : FsIn w q [] []
  | cons {v : Value} {t : Tm} {vs : List Value} {ts : List Tm} (h : FIn w q v t) (k : FsIn w q vs ts) : FsIn w q (v :: vs) (t :: ts)
end

/-- In another world the blocks of a kind are as they were, and of another kind. -/
structure Over (w w' : World) (q q' : Nat → Prop) : Prop where
  size : w.heap.size ≤ w'.heap.size
  block : ∀ b, q b → b < w.heap.size → w'.heap[b]? = w.heap[b]?
  kind : ∀ b, q b → b < w.heap.size → q' b

theorem Over.pairs {w w' : World} {q q' : Nat → Prop} (hb : Over w w' q q') {A : Option Addr} {l : List (Int × Int)} (h : PairsAt w A l) (hq : ∀ b off, 0 < l.length → A = some ⟨b, off, none⟩ → q b) : PairsAt w' A l := by
  intro hl
  obtain ⟨b, off, rfl, hlt, hc⟩ := h hl
  have hw := hb.block b (hq b off hl rfl) hlt
  refine ⟨b, off, rfl, Nat.lt_of_lt_of_le hlt hb.size, fun i hi => ?_⟩
  obtain ⟨h1, h2⟩ := hc i hi
  exact ⟨(World.cell?_of_block (w := w) (a := ⟨b, off + i * 2, none⟩) hw).trans h1, (World.cell?_of_block (w := w) (a := ⟨b, off + i * 2 + 1, none⟩) hw).trans h2⟩

mutual
theorem FIn.over {w w' : World} {q q' : Nat → Prop} (hb : Over w w' q q') : ∀ {v : Value} {t : Tm}, FIn w q v t → FIn w' q' v t
  | _, _, .atom n => .atom n
  | _, _, .node (b := b) (off := off) n hm hq hlt hc h => .node n hm (hb.kind b hq hlt) (Nat.lt_of_lt_of_le hlt hb.size) (fun j u hj => (World.cell?_of_block (w := w) (a := ⟨b, off + j, none⟩) (hb.block b hq hlt)).trans (hc j u hj)) (h.over hb)
  | _, _, .bind n h => .bind n (h.over hb)
  | _, _, .hole n hm h hq => .hole n hm (hb.pairs h hq) (fun b off hl hA => by
      obtain ⟨b', off', e, hlt, _⟩ := h hl
      rw [hA] at e
      injection e with e
      injection e with e
      subst e
      exact hb.kind b (hq b off hl hA) hlt)
theorem FsIn.over {w w' : World} {q q' : Nat → Prop} (hb : Over w w' q q') : ∀ {vs : List Value} {ts : List Tm}, FsIn w q vs ts → FsIn w' q' vs ts
  | _, _, .nil => .nil
  | _, _, .cons h k => .cons (h.over hb) (k.over hb)
end

theorem FsIn.len {w : World} {q : Nat → Prop} : ∀ {vs : List Value} {ts : List Tm}, FsIn w q vs ts → vs.length = ts.length
  | _, _, .nil => rfl
  | _, _, .cons _ k => by rw [List.length_cons, List.length_cons, k.len]
theorem FsIn.get {w : World} {q : Nat → Prop} : ∀ {vs : List Value} {ts : List Tm}, FsIn w q vs ts → ∀ i : Nat, i < ts.length → ∃ u, vs[i]? = some u ∧ FIn w q u (tmAt ts i)
  | _, _, .nil, i, h => by simp at h
  | _, _, .cons (v := v) h _, 0, _ => ⟨v, rfl, h⟩
  | _, _, .cons _ k, i + 1, h => by
    obtain ⟨u, hu, hf⟩ := k.get i (by simpa using h)
    exact ⟨u, by simpa using hu, by rw [tmAt_cons_succ]; exact hf⟩
/-- Every block. -/
def AnyB (_ : Nat) : Prop := True

theorem FIn.old {w w' : World} {q : Nat → Prop} {v : Value} {t : Tm} (h : FIn w q v t) (hb : Below w.heap.size w w') : FIn w' (fun b => b < w.heap.size) v t :=
  h.over ⟨hb.size, fun b _ hl => hb.block b hl, fun _ _ hl => hl⟩
theorem FIn.keep {w w' : World} {q : Nat → Prop} {v : Value} {t : Tm} (h : FIn w q v t) (hb : Below w.heap.size w w') : FIn w' q v t :=
  h.over ⟨hb.size, fun b _ hl => hb.block b hl, fun _ h _ => h⟩
theorem FIn.kind {w : World} {q q' : Nat → Prop} {v : Value} {t : Tm} (h : FIn w q v t) (hk : ∀ b, b < w.heap.size → q b → q' b) : FIn w q' v t :=
  h.over ⟨Nat.le_refl _, fun _ _ _ => rfl, fun b h hl => hk b hl h⟩
theorem FIn.any {w : World} {q : Nat → Prop} {v : Value} {t : Tm} (h : FIn w q v t) : FIn w AnyB v t := h.kind fun _ _ _ => trivial

theorem FIn.setOther {w : World} {q : Nat → Prop} {v : Value} {t : Tm} (h : FIn w q v t) (a : Addr) (u : Value) (hn : ∀ b, q b → b ≠ a.block) : FIn (w.setCell a u) q v t :=
  h.over ⟨by simp, fun b hq _ => Below.heap_setCell w a u b (hn b hq), fun _ h _ => h⟩

/-- The dynamic type of a form. -/
def fty (t : Tm) : TypeId := if t.op = 1 then 117 else if t.op = 2 then 120 else if t.op = 3 then 124 else 128

theorem FIn.iface {w : World} {q : Nat → Prop} {v : Value} {t : Tm} (h : FIn w q v t) : ∃ x, v = .iface (fty t) x := by
  cases h with
  | atom n => exact ⟨_, rfl⟩
  | node n => exact ⟨_, rfl⟩
  | bind n => exact ⟨_, rfl⟩
  | hole n => exact ⟨_, rfl⟩

/-- It is one cell. -/
theorem FIn.one {w : World} {q : Nat → Prop} {v : Value} {t : Tm} (h : FIn w q v t) : v.oneCell' = true := by
  obtain ⟨x, rfl⟩ := h.iface
  rfl

end

section
open Go.RowKit Go.Sort
set_option linter.unusedVariables false

theorem good1 {t : Tm} (h : goodT t = true) (ho : t.op = 1) : t = .mk 1 t.num [] [] := by
  rw [goodT_eq, Bool.and_eq_true, shapeB, if_pos ho] at h
  simp only [Bool.and_eq_true, decide_eq_true_eq] at h
  cases t with
  | mk o n p ks =>
    obtain ⟨⟨_, h1, h2⟩, _⟩ := h
    simp only [op_mk, num_mk, perm_mk, kids_mk] at *
    rw [ho, List.length_eq_zero_iff.1 h1, List.length_eq_zero_iff.1 h2]
theorem good2 {t : Tm} (h : goodT t = true) (ho : t.op = 2) : t = .mk 2 t.num [] t.kids ∧ t.kids.length ≤ 3 := by
  rw [goodT_eq, Bool.and_eq_true, shapeB, if_neg (by omega), if_pos ho] at h
  simp only [Bool.and_eq_true, decide_eq_true_eq] at h
  cases t with
  | mk o n p ks =>
    obtain ⟨⟨_, h1, h2⟩, _⟩ := h
    simp only [op_mk, num_mk, perm_mk, kids_mk] at *
    rw [ho, List.length_eq_zero_iff.1 h1]
    exact ⟨rfl, by omega⟩
theorem good3 {t : Tm} (h : goodT t = true) (ho : t.op = 3) : t = .mk 3 t.num [] [tmAt t.kids 0] ∧ t.kids.length = 1 := by
  rw [goodT_eq, Bool.and_eq_true, shapeB, if_neg (by omega), if_neg (by omega), if_pos ho] at h
  simp only [Bool.and_eq_true, decide_eq_true_eq] at h
  cases t with
  | mk o n p ks =>
    obtain ⟨⟨_, h1, h2⟩, _⟩ := h
    simp only [op_mk, num_mk, perm_mk, kids_mk] at *
    obtain ⟨k, rfl⟩ := List.length_eq_one_iff.1 h2
    rw [ho, List.length_eq_zero_iff.1 h1]
    exact ⟨rfl, rfl⟩
end

section
open Go.RowKit Go.Sort
set_option linter.unusedVariables false

/-- A kid of a term, as its cells give it. -/
theorem kid_cells {w : World} {B : Option Addr} {n d : Nat} {ts : List Tm} (h : TmsIn w (.slice B n d) ts) {k : Nat} (hk : k < ts.length) :
    ∃ b off A1 c1 B1 e1, B = some ⟨b, off, none⟩ ∧ b < w.heap.size ∧
      w.cell? ⟨b, off + k * 4, none⟩ = some (.int .i64 (tmAt ts k).op) ∧ w.cell? ⟨b, off + k * 4 + 1, none⟩ = some (.int .i64 (tmAt ts k).num) ∧
      w.cell? ⟨b, off + k * 4 + 2, none⟩ = some (.slice A1 (tmAt ts k).perm.length c1) ∧ w.cell? ⟨b, off + k * 4 + 3, none⟩ = some (.slice B1 (tmAt ts k).kids.length e1) ∧
      TmIn w (.agg #[.int .i64 (tmAt ts k).op, .int .i64 (tmAt ts k).num, .slice A1 (tmAt ts k).perm.length c1, .slice B1 (tmAt ts k).kids.length e1]) (tmAt ts k) := by
  obtain ⟨b, off, rfl, hbl, hget⟩ := h.get (by omega)
  obtain ⟨A1, c1, kv1, d0, d1, d2, d3, hp1, hk1⟩ := hget k hk
  obtain ⟨B1, e1, rfl⟩ := hk1.form
  exact ⟨b, off, A1, c1, B1, e1, rfl, hbl, d0, d1, d2, d3, A1, c1, _, rfl, hp1, hk1⟩

end
section
open Go.RowKit Go.Sort
set_option linter.unusedVariables false

end
end Go.Proofs.YtihijigbdpjcoaaGreat
end

section
namespace Go.Proofs.YtihijigbdpjcoaaGreat
open Go.RowKit Go.Sort
set_option linter.unusedVariables false

namespace Args8
theorem box_lt {w : World} {g : Nat} {o : Obj} (h : w.heap[g]? = some o) : g < w.heap.size := (Array.getElem?_eq_some_iff.1 h).1
theorem row4 {w : World} {g : Nat} {a b c d : Value} {T : TypeId} (h : w.heap[g]? = some (.cells #[a, b, c, d] T (0, 0))) : w.cell? ⟨g, 0, none⟩ = some a ∧ w.cell? ⟨g, 1, none⟩ = some b ∧ w.cell? ⟨g, 2, none⟩ = some c ∧ w.cell? ⟨g, 3, none⟩ = some d := by
  refine ⟨?_, ?_, ?_, ?_⟩ <;> rw [cell_of_row w g _ _ _ _ h] <;> rfl
theorem second (w : World) (a : Obj) (c : Array Value) (T : TypeId) : ((w.alloc a).alloc (.cells c T)).heap[w.heap.size + 1]? = some (.cells c T (0, 0)) := by
  have h := heap_alloc_new (w.alloc a) (.cells c T)
  rw [World.size_alloc] at h
  exact h
end Args8

/-- The one kid and its one kid, as their cells give them. -/
theorem lam_cells {w : World} {B : Option Addr} {n d : Nat} {ts : List Tm} (h : TmsIn w (.slice B n d) ts) (hp : 0 < ts.length) :
    ∃ b off A1 c1 B1 e1, B = some ⟨b, off, none⟩ ∧ b < w.heap.size ∧
      w.cell? ⟨b, off, none⟩ = some (.int .i64 (tmAt ts 0).op) ∧ w.cell? ⟨b, off + 1, none⟩ = some (.int .i64 (tmAt ts 0).num) ∧
      w.cell? ⟨b, off + 2, none⟩ = some (.slice A1 (tmAt ts 0).perm.length c1) ∧ w.cell? ⟨b, off + 3, none⟩ = some (.slice B1 (tmAt ts 0).kids.length e1) ∧
      TmIn w (.agg #[.int .i64 (tmAt ts 0).op, .int .i64 (tmAt ts 0).num, .slice A1 (tmAt ts 0).perm.length c1, .slice B1 (tmAt ts 0).kids.length e1]) (tmAt ts 0) ∧ TmsIn w (.slice B1 (tmAt ts 0).kids.length e1) (tmAt ts 0).kids := by
  obtain ⟨b, off, rfl, hbl, hget⟩ := h.get hp
  obtain ⟨A1, c1, kv1, d0, d1, d2, d3, hp1, hk1⟩ := hget 0 hp
  obtain ⟨B1, e1, rfl⟩ := hk1.form
  rw [Nat.zero_mul, Nat.add_zero] at d0 d1 d2 d3
  exact ⟨b, off, A1, c1, B1, e1, rfl, hbl, d0, d1, d2, d3, ⟨A1, c1, _, rfl, hp1, hk1⟩, hk1⟩

set_option maxRecDepth 100000 in
theorem isFun_op (o n : Int) (B : Option Addr) (kl : Nat) (A : Option Addr) (pl c d : Nat) (w : World) (h : ¬ o = 2) :
    Calls Tryz.prog 70 #[.agg #[.int .i64 o, .int .i64 n, .slice A pl c, .slice B kl d]] w (BoolPost false w) := by
  have hb0 : Below w.heap.size w (w.alloc (.cells #[.int .i64 o, .int .i64 n, .slice A pl c, .slice B kl d] 35)) := (Below.refl _ _).alloc (Nat.le_refl _) _
  have t1 : (o == 2) = false := by simpa using h
  clear h
  go_enter Tryz.func70, Tryz.ntmps70
  go_wp2
  go_ret
  exact ⟨rfl, hb0⟩

set_option maxRecDepth 100000 in
theorem isFun_num (n : Int) (B : Option Addr) (kl : Nat) (A : Option Addr) (pl c d : Nat) (w : World) (h : ¬ n = 1) :
    Calls Tryz.prog 70 #[.agg #[.int .i64 2, .int .i64 n, .slice A pl c, .slice B kl d]] w (BoolPost false w) := by
  have hb0 : Below w.heap.size w (w.alloc (.cells #[.int .i64 2, .int .i64 n, .slice A pl c, .slice B kl d] 35)) := (Below.refl _ _).alloc (Nat.le_refl _) _
  have t1 : (n == 1) = false := by simpa using h
  clear h
  go_enter Tryz.func70, Tryz.ntmps70
  go_wp2
  go_ret
  exact ⟨rfl, hb0⟩

set_option maxRecDepth 100000 in
theorem isFun_no (k : Int) (b off : Nat) (A : Option Addr) (pl c d : Nat) (w : World) (hb : b < w.heap.size) (hc : w.cell? ⟨b, off, none⟩ = some (.int .i64 k)) (h : ¬ k = 3) :
    Calls Tryz.prog 70 #[.agg #[.int .i64 2, .int .i64 1, .slice A pl c, .slice (some ⟨b, off, none⟩) 1 d]] w (BoolPost false w) := by
  have hb0 : Below w.heap.size w (w.alloc (.cells #[.int .i64 2, .int .i64 1, .slice A pl c, .slice (some ⟨b, off, none⟩) 1 d] 35)) := (Below.refl _ _).alloc (Nat.le_refl _) _
  have t1 : (k == 3) = false := by simpa using h
  have d0 := (hb0.cell (p := ⟨b, off, none⟩) hb).trans hc
  clear h hc
  go_enter Tryz.func70, Tryz.ntmps70
  go_wp2
  go_ret
  exact ⟨rfl, hb0⟩

set_option maxRecDepth 100000 in
theorem isFun_yes (b off : Nat) (A : Option Addr) (pl c d : Nat) (w : World) (hb : b < w.heap.size) (hc : w.cell? ⟨b, off, none⟩ = some (.int .i64 3)) :
    Calls Tryz.prog 70 #[.agg #[.int .i64 2, .int .i64 1, .slice A pl c, .slice (some ⟨b, off, none⟩) 1 d]] w (BoolPost true w) := by
  have hb0 : Below w.heap.size w (w.alloc (.cells #[.int .i64 2, .int .i64 1, .slice A pl c, .slice (some ⟨b, off, none⟩) 1 d] 35)) := (Below.refl _ _).alloc (Nat.le_refl _) _
  have d0 := (hb0.cell (p := ⟨b, off, none⟩) hb).trans hc
  clear hc
  go_enter Tryz.func70, Tryz.ntmps70
  go_wp2
  go_ret
  exact ⟨rfl, hb0⟩

set_option maxRecDepth 100000 in
theorem isApp_op (o n : Int) (B : Option Addr) (kl : Nat) (A : Option Addr) (pl c d : Nat) (w : World) (h : ¬ o = 2) :
    Calls Tryz.prog 74 #[.agg #[.int .i64 o, .int .i64 n, .slice A pl c, .slice B kl d]] w (BoolPost false w) := by
  have hb0 : Below w.heap.size w (w.alloc (.cells #[.int .i64 o, .int .i64 n, .slice A pl c, .slice B kl d] 35)) := (Below.refl _ _).alloc (Nat.le_refl _) _
  have t1 : (o == 2) = false := by simpa using h
  clear h
  go_enter Tryz.func74, Tryz.ntmps74
  go_wp2
  go_ret
  exact ⟨rfl, hb0⟩

set_option maxRecDepth 100000 in
theorem isApp_num (n : Int) (B : Option Addr) (kl : Nat) (A : Option Addr) (pl c d : Nat) (w : World) (h : ¬ n = 2) :
    Calls Tryz.prog 74 #[.agg #[.int .i64 2, .int .i64 n, .slice A pl c, .slice B kl d]] w (BoolPost false w) := by
  have hb0 : Below w.heap.size w (w.alloc (.cells #[.int .i64 2, .int .i64 n, .slice A pl c, .slice B kl d] 35)) := (Below.refl _ _).alloc (Nat.le_refl _) _
  have t1 : (n == 2) = false := by simpa using h
  clear h
  go_enter Tryz.func74, Tryz.ntmps74
  go_wp2
  go_ret
  exact ⟨rfl, hb0⟩

set_option maxRecDepth 100000 in
theorem isApp_yes (B : Option Addr) (kl : Nat) (A : Option Addr) (pl c d : Nat) (w : World)  :
    Calls Tryz.prog 74 #[.agg #[.int .i64 2, .int .i64 2, .slice A pl c, .slice B kl d]] w (BoolPost true w) := by
  have hb0 : Below w.heap.size w (w.alloc (.cells #[.int .i64 2, .int .i64 2, .slice A pl c, .slice B kl d] 35)) := (Below.refl _ _).alloc (Nat.le_refl _) _
  go_enter Tryz.func74, Tryz.ntmps74
  go_wp2
  go_ret
  exact ⟨rfl, hb0⟩

set_option maxRecDepth 100000 in
theorem bodyOf_any (o n : Int) (A : Option Addr) (pl c d b off b2 off2 kl kl2 d2 : Nat) (u0 u1 : Int) (A3 B3 : Option Addr) (pl3 c3 kl3 d3 : Nat) (w : World) (hb : b < w.heap.size) (hb2 : b2 < w.heap.size) (hkl : 0 < kl) (hkl2 : 0 < kl2)
    (hc : w.cell? ⟨b, off + 3, none⟩ = some (.slice (some ⟨b2, off2, none⟩) kl2 d2))
    (h0 : w.cell? ⟨b2, off2, none⟩ = some (.int .i64 u0)) (h1 : w.cell? ⟨b2, off2 + 1, none⟩ = some (.int .i64 u1)) (h2 : w.cell? ⟨b2, off2 + 2, none⟩ = some (.slice A3 pl3 c3)) (h3 : w.cell? ⟨b2, off2 + 3, none⟩ = some (.slice B3 kl3 d3)) :
    Calls Tryz.prog 71 #[.agg #[.int .i64 o, .int .i64 n, .slice A pl c, .slice (some ⟨b, off, none⟩) kl d]] w
      fun e w' => e = .returned (.agg #[.int .i64 u0, .int .i64 u1, .slice A3 pl3 c3, .slice B3 kl3 d3]) ∧ Below w.heap.size w w' := by
  have hb0 : Below w.heap.size w (w.alloc (.cells #[.int .i64 o, .int .i64 n, .slice A pl c, .slice (some ⟨b, off, none⟩) kl d] 35)) := (Below.refl _ _).alloc (Nat.le_refl _) _
  have k1 : (0 : Int) < (kl : Int) := by omega
  have k2 : (0 : Int) < (kl2 : Int) := by omega
  have hbz : Below w.heap.size w ((w.alloc (.cells #[.int .i64 o, .int .i64 n, .slice A pl c, .slice (some ⟨b, off, none⟩) kl d] 35)).alloc (.cells #[.int .i64 0, .int .i64 0, .slice none 0 0, .slice none 0 0] 35)) := hb0.alloc (by simp) _
  have e0 := (hbz.cell (p := ⟨b, off + 3, none⟩) hb).trans hc
  have f0 := (hbz.cell (p := ⟨b2, off2, none⟩) hb2).trans h0
  have f1 := (hbz.cell (p := ⟨b2, off2 + 1, none⟩) hb2).trans h1
  have f2 := (hbz.cell (p := ⟨b2, off2 + 2, none⟩) hb2).trans h2
  have f3 := (hbz.cell (p := ⟨b2, off2 + 3, none⟩) hb2).trans h3
  have hres := Args8.second w (.cells #[.int .i64 o, .int .i64 n, .slice A pl c, .slice (some ⟨b, off, none⟩) kl d] 35) #[.int .i64 u0, .int .i64 u1, .slice A3 pl3 c3, .slice B3 kl3 d3] 35
  obtain ⟨r0, r1, r2, r3⟩ := Args8.row4 hres
  have z0 := frozen_of_row _ _ 0 _ _ hres
  have z1 := frozen_of_row _ _ 1 _ _ hres
  have z2 := frozen_of_row _ _ 2 _ _ hres
  have z3 := frozen_of_row _ _ 3 _ _ hres
  have hpost : Below w.heap.size w ((w.alloc (.cells #[.int .i64 o, .int .i64 n, .slice A pl c, .slice (some ⟨b, off, none⟩) kl d] 35)).alloc (.cells #[.int .i64 u0, .int .i64 u1, .slice A3 pl3 c3, .slice B3 kl3 d3] 35)) := hb0.alloc (by simp) _
  clear hc h0 h1 h2 h3 hres hbz hb0
  go_enter Tryz.func71, Tryz.ntmps71
  go_wp2
  exact bodyPost_ret (v := .agg #[.int .i64 u0, .int .i64 u1, .slice A3 pl3 c3, .slice B3 kl3 d3]) (by simp [results, Tryz.results71, go_sem, r0, r1, r2, r3]) rfl ⟨rfl, hpost⟩

set_option maxRecDepth 100000 in
theorem ofFun_leaf (o n : Int) (A B : Option Addr) (pl c kl d : Nat) (w : World) (q : Bool) (h : ¬ o = 2) (hq : (o == 1) = q) :
    Calls Tryz.prog 69 #[.agg #[.int .i64 o, .int .i64 n, .slice A pl c, .slice B kl d]] w (BoolPost q w) := by
  have hb0 : Below w.heap.size w (w.alloc (.cells #[.int .i64 o, .int .i64 n, .slice A pl c, .slice B kl d] 35)) := (Below.refl _ _).alloc (Nat.le_refl _) _
  have h1 := fun W => isFun_op o n B kl A pl c d W h
  have h2 := fun W => isApp_op o n B kl A pl c d W h
  clear h
  have h10 := h1 (w.alloc (.cells #[.int .i64 o, .int .i64 n, .slice A pl c, .slice B kl d] 35))
  clear h1
  go_enter Tryz.func69, Tryz.ntmps69
  go_wp2_with fail
  refine h10.mono ?_
  rintro e w1 ⟨rfl, hb1⟩
  obtain ⟨b0, b1, b2, b3⟩ := box4 hb1
  have hs1 := hb0.trans (hb1.mono hb0.size)
  have h20 := h2 w1
  have hkk := (hb1.block w.heap.size (by simp)).trans (heap_alloc_new w _)
  clear h10 h2 hb1 hb0
  go_wp2_with fail
  refine h20.mono ?_
  rintro e w2 ⟨rfl, hb2⟩
  have hk2 := (hb2.block w.heap.size (Args8.box_lt hkk)).trans hkk
  obtain ⟨g0, g1, g2, g3⟩ := Args8.row4 hk2
  have hs2 := hs1.trans (hb2.mono hs1.size)
  clear h20 hb2 hs1 b0 b1 b2 b3 hkk hk2
  go_wp2
  go_ret
  exact ⟨rfl, hs2⟩

set_option maxRecDepth 100000 in
theorem ofFun_sym (n : Int) (A B : Option Addr) (pl c kl d : Nat) (w : World) (h1 : ¬ n = 1) (h2 : ¬ n = 2) :
    Calls Tryz.prog 69 #[.agg #[.int .i64 2, .int .i64 n, .slice A pl c, .slice B kl d]] w (BoolPost false w) := by
  have hb0 : Below w.heap.size w (w.alloc (.cells #[.int .i64 2, .int .i64 n, .slice A pl c, .slice B kl d] 35)) := (Below.refl _ _).alloc (Nat.le_refl _) _
  have h1 := fun W => isFun_num n B kl A pl c d W h1
  have h2 := fun W => isApp_num n B kl A pl c d W h2
  have h10 := h1 (w.alloc (.cells #[.int .i64 2, .int .i64 n, .slice A pl c, .slice B kl d] 35))
  clear h1
  go_enter Tryz.func69, Tryz.ntmps69
  go_wp2_with fail
  refine h10.mono ?_
  rintro e w1 ⟨rfl, hb1⟩
  obtain ⟨b0, b1, b2, b3⟩ := box4 hb1
  have hs1 := hb0.trans (hb1.mono hb0.size)
  have h20 := h2 w1
  have hkk := (hb1.block w.heap.size (by simp)).trans (heap_alloc_new w _)
  clear h10 h2 hb1 hb0
  go_wp2_with fail
  refine h20.mono ?_
  rintro e w2 ⟨rfl, hb2⟩
  have hk2 := (hb2.block w.heap.size (Args8.box_lt hkk)).trans hkk
  obtain ⟨g0, g1, g2, g3⟩ := Args8.row4 hk2
  have hs2 := hs1.trans (hb2.mono hs1.size)
  clear h20 hb2 hs1 b0 b1 b2 b3 hkk hk2
  go_wp2
  go_ret
  exact ⟨rfl, hs2⟩

set_option maxRecDepth 100000 in
theorem ofFun_nolam (k : Int) (b off : Nat) (A : Option Addr) (pl c d : Nat) (w : World) (hb : b < w.heap.size) (hc : w.cell? ⟨b, off, none⟩ = some (.int .i64 k)) (hk : ¬ k = 3) :
    Calls Tryz.prog 69 #[.agg #[.int .i64 2, .int .i64 1, .slice A pl c, .slice (some ⟨b, off, none⟩) 1 d]] w (BoolPost false w) := by
  have hb0 : Below w.heap.size w (w.alloc (.cells #[.int .i64 2, .int .i64 1, .slice A pl c, .slice (some ⟨b, off, none⟩) 1 d] 35)) := (Below.refl _ _).alloc (Nat.le_refl _) _
  have h1 := fun (W : World) (hW : Below w.heap.size w W) => isFun_no k b off A pl c d W (Nat.lt_of_lt_of_le hb hW.size) ((hW.cell (p := ⟨b, off, none⟩) hb).trans hc) hk
  have h2 := fun W => isApp_num 1 (some ⟨b, off, none⟩) 1 A pl c d W (by decide)
  have h10 := h1 _ hb0 --(w.alloc (.cells #[.int .i64 2, .int .i64 1, .slice A pl c, .slice (some ⟨b, off, none⟩) 1 d] 35))
  clear h1 hc hk
  go_enter Tryz.func69, Tryz.ntmps69
  go_wp2_with fail
  refine h10.mono ?_
  rintro e w1 ⟨rfl, hb1⟩
  obtain ⟨b0, b1, b2, b3⟩ := box4 hb1
  have hs1 := hb0.trans (hb1.mono hb0.size)
  have h20 := h2 w1
  have hkk := (hb1.block w.heap.size (by simp)).trans (heap_alloc_new w _)
  clear h10 h2 hb1 hb0
  go_wp2_with fail
  refine h20.mono ?_
  rintro e w2 ⟨rfl, hb2⟩
  have hk2 := (hb2.block w.heap.size (Args8.box_lt hkk)).trans hkk
  obtain ⟨g0, g1, g2, g3⟩ := Args8.row4 hk2
  have hs2 := hs1.trans (hb2.mono hs1.size)
  clear h20 hb2 hs1 b0 b1 b2 b3 hkk hk2
  go_wp2
  go_ret
  exact ⟨rfl, hs2⟩

set_option maxRecDepth 100000 in
set_option maxHeartbeats 1000000 in
theorem ofFun_lam (a : Int) (v : Tm) (kv : Value) (A : Option Addr) (pl c : Nat) (q : Bool) (w : World) (hk : TmsIn w kv [.mk 3 a [] [v]])
    (ih : ∀ (w' : World) (y : Value), TmIn w' y v → Calls Tryz.prog 69 #[y] w' (BoolPost q w')) :
    Calls Tryz.prog 69 #[.agg #[.int .i64 2, .int .i64 1, .slice A pl c, kv]] w (BoolPost q w) := by
  obtain ⟨B, d, rfl⟩ := hk.form
  obtain ⟨b, off, A1, c1, B1, e1, rfl, hbl, d0, d1, d2, d3, hy, hk1⟩ := lam_cells hk (by simp)
  rw [tmAt_cons_zero] at d0 d1 d2 d3 hy hk1
  simp only [op_mk, num_mk, perm_mk, kids_mk] at d0 d1 d2 d3 hk1
  obtain ⟨b2, off2, A3, c3, B3, e3, rfl, hbl2, f0, f1, f2, f3, hz, hk3⟩ := lam_cells hk1 (by simp)
  rw [tmAt_cons_zero] at f0 f1 f2 f3 hz
  simp only [List.length_cons, List.length_nil, Nat.zero_add] at d3 ⊢
  have hb0 : Below w.heap.size w (w.alloc (.cells #[.int .i64 2, .int .i64 1, .slice A pl c, .slice (some ⟨b, off, none⟩) 1 d] 35)) := (Below.refl _ _).alloc (Nat.le_refl _) _
  have h10 := isFun_yes b off A pl c d _ (Nat.lt_of_lt_of_le hbl hb0.size) ((hb0.cell (p := ⟨b, off, none⟩) hbl).trans d0)
  have h2 := fun (W : World) (hW : Below w.heap.size w W) => bodyOf_any 2 1 A pl c d b off b2 off2 1 1 e1 v.op v.num A3 B3 v.perm.length c3 v.kids.length e3 W (Nat.lt_of_lt_of_le hbl hW.size) (Nat.lt_of_lt_of_le hbl2 hW.size) (by decide) (by decide)
    ((hW.cell (p := ⟨b, off + 3, none⟩) hbl).trans d3) ((hW.cell (p := ⟨b2, off2, none⟩) hbl2).trans f0) ((hW.cell (p := ⟨b2, off2 + 1, none⟩) hbl2).trans f1) ((hW.cell (p := ⟨b2, off2 + 2, none⟩) hbl2).trans f2) ((hW.cell (p := ⟨b2, off2 + 3, none⟩) hbl2).trans f3)
  have h3 := fun (W : World) (hW : Below w.heap.size w W) => ih W _ (hz.below hW)
  clear ih hz hk hk1 hk3 hy d0 d1 d2 d3 f0 f1 f2 f3
  go_enter Tryz.func69, Tryz.ntmps69
  go_wp2_with fail
  refine h10.mono ?_
  rintro e w1 ⟨rfl, hb1⟩
  obtain ⟨b0, b1, b2, b3⟩ := box4 hb1
  have hs1 := hb0.trans (hb1.mono hb0.size)
  have h20 := h2 w1 hs1
  clear h10 h2 hb1 hb0
  go_wp2_with fail
  refine h20.mono ?_
  rintro e w2 ⟨rfl, hb2⟩
  have hs2 := hs1.trans (hb2.mono hs1.size)
  have h30 := h3 w2 hs2
  clear h20 hb2 hs1 b0 b1 b2 b3 h3
  go_wp2_with fail
  refine h30.mono ?_
  rintro e w3 ⟨rfl, hb3⟩
  have hpost : BoolPost q w (.returned (.bool q)) w3 := ⟨rfl, hs2.trans (hb3.mono hs2.size)⟩
  clear h30 hb3 hs2
  go_wp2
  go_ret
  exact hpost

set_option maxRecDepth 100000 in
set_option maxHeartbeats 1000000 in
theorem ofFun_app (s t : Tm) (kv : Value) (A : Option Addr) (pl c : Nat) (p q : Bool) (w : World) (hk : TmsIn w kv [s, t])
    (ih1 : ∀ (w' : World) (y : Value), TmIn w' y s → Calls Tryz.prog 69 #[y] w' (BoolPost p w'))
    (ih2 : ∀ (w' : World) (y : Value), TmIn w' y t → Calls Tryz.prog 69 #[y] w' (BoolPost q w')) :
    Calls Tryz.prog 69 #[.agg #[.int .i64 2, .int .i64 2, .slice A pl c, kv]] w (BoolPost (p && q) w) := by
  obtain ⟨B, d, rfl⟩ := hk.form
  obtain ⟨b, off, A1, c1, B1, e1, rfl, hbl, d0, d1, d2, d3, hy⟩ := kid_cells hk (k := 0) (by simp)
  obtain ⟨b', off', A2, c2, B2, e2, eB, _, f0, f1, f2, f3, hz⟩ := kid_cells hk (k := 1) (by simp)
  injection eB with eB
  injection eB with eB1 eB2
  subst eB1
  subst eB2
  rw [Nat.zero_mul, Nat.add_zero] at d0 d1 d2 d3
  rw [Nat.one_mul] at f0 f1 f2 f3
  have e0 : tmAt [s, t] 0 = s := rfl
  have e9 : tmAt [s, t] 1 = t := rfl
  rw [e0] at d0 d1 d2 d3 hy
  rw [e9] at f0 f1 f2 f3 hz
  simp only [List.length_cons, List.length_nil, Nat.zero_add] at ⊢
  have hb0 : Below w.heap.size w (w.alloc (.cells #[.int .i64 2, .int .i64 2, .slice A pl c, .slice (some ⟨b, off, none⟩) (1 + 1) d] 35)) := (Below.refl _ _).alloc (Nat.le_refl _) _
  have h1 := fun W => isFun_num 2 (some ⟨b, off, none⟩) (1 + 1) A pl c d W (by decide)
  have h2 := fun W => isApp_yes (some ⟨b, off, none⟩) (1 + 1) A pl c d W
  have hD := Lib.hid (fun (W : World) (hW : Below w.heap.size w W) => (⟨(hW.cell (p := ⟨b, off, none⟩) hbl).trans d0, (hW.cell (p := ⟨b, off + 1, none⟩) hbl).trans d1, (hW.cell (p := ⟨b, off + 2, none⟩) hbl).trans d2, (hW.cell (p := ⟨b, off + 3, none⟩) hbl).trans d3⟩ : W.cell? ⟨b, off, none⟩ = _ ∧ W.cell? ⟨b, off + 1, none⟩ = _ ∧ W.cell? ⟨b, off + 2, none⟩ = _ ∧ W.cell? ⟨b, off + 3, none⟩ = _))
  have hF := Lib.hid (fun (W : World) (hW : Below w.heap.size w W) => (⟨(hW.cell (p := ⟨b, off + 4, none⟩) hbl).trans f0, (hW.cell (p := ⟨b, off + 4 + 1, none⟩) hbl).trans f1, (hW.cell (p := ⟨b, off + 4 + 2, none⟩) hbl).trans f2, (hW.cell (p := ⟨b, off + 4 + 3, none⟩) hbl).trans f3⟩ : W.cell? ⟨b, off + 4, none⟩ = _ ∧ W.cell? ⟨b, off + 4 + 1, none⟩ = _ ∧ W.cell? ⟨b, off + 4 + 2, none⟩ = _ ∧ W.cell? ⟨b, off + 4 + 3, none⟩ = _))
  have h3 := fun (W : World) (hW : Below w.heap.size w W) => ih1 W _ (hy.below hW)
  have h4 := fun (W : World) (hW : Below w.heap.size w W) => ih2 W _ (hz.below hW)
  have h10 := h1 (w.alloc (.cells #[.int .i64 2, .int .i64 2, .slice A pl c, .slice (some ⟨b, off, none⟩) (1 + 1) d] 35))
  clear ih1 ih2 hy hz hk d0 d1 d2 d3 f0 f1 f2 f3 h1 e0 e9
  go_enter Tryz.func69, Tryz.ntmps69
  go_wp2_with fail
  refine h10.mono ?_
  rintro e w1 ⟨rfl, hb1⟩
  obtain ⟨b0, b1, b2, b3⟩ := box4 hb1
  have hs1 := hb0.trans (hb1.mono hb0.size)
  have h20 := h2 w1
  have hkk := (hb1.block w.heap.size (by simp)).trans (heap_alloc_new w _)
  clear h10 h2 hb1 hb0
  go_wp2_with fail
  refine h20.mono ?_
  rintro e w2 ⟨rfl, hb2⟩
  have hk2 := (hb2.block w.heap.size (Args8.box_lt hkk)).trans hkk
  obtain ⟨g0, g1, g2, g3⟩ := Args8.row4 hk2
  have hs2 := hs1.trans (hb2.mono hs1.size)
  obtain ⟨d0, d1, d2, d3⟩ := hD.out w2 hs2
  have h30 := h3 w2 hs2
  clear h20 hb2 hs1 b0 b1 b2 b3 hkk hD h3
  cases p with
  | false =>
    go_wp2_with fail
    refine h30.mono ?_
    rintro e w3 ⟨rfl, hb3⟩
    have hpost : BoolPost (false && q) w (.returned (.bool false)) w3 := ⟨rfl, hs2.trans (hb3.mono hs2.size)⟩
    clear h30 hb3 hs2 g0 g1 g2 g3 d0 d1 d2 d3 hF h4 hk2
    go_wp2
    go_ret
    exact hpost
  | true =>
    go_wp2_with fail
    refine h30.mono ?_
    rintro e w3 ⟨rfl, hb3⟩
    have hk3 := (hb3.block w.heap.size (Args8.box_lt hk2)).trans hk2
    have hs3 := hs2.trans (hb3.mono hs2.size)
    clear h30 hb3 hs2 g0 g1 g2 g3 d0 d1 d2 d3 hk2
    obtain ⟨g0, g1, g2, g3⟩ := Args8.row4 hk3
    obtain ⟨f0, f1, f2, f3⟩ := hF.out w3 hs3
    have h40 := h4 w3 hs3
    clear hF h4 hk3
    go_wp2_with fail
    refine h40.mono ?_
    rintro e w4 ⟨rfl, hb4⟩
    have hpost : BoolPost (true && q) w (.returned (.bool q)) w4 := ⟨by simp, hs3.trans (hb4.mono hs3.size)⟩
    clear h40 hb4 hs3 g0 g1 g2 g3 f0 f1 f2 f3
    go_wp2
    go_ret
    exact hpost

/-- What a good term is, for the question whether it is one of functions. -/
theorem fun_cases {t : Tm} (h : goodT t = true) :
    (t.op ≠ 2 ∧ funB t = decide (t.op = 1)) ∨ (t.op = 2 ∧ t.num ≠ 1 ∧ t.num ≠ 2 ∧ funB t = false) ∨
    (∃ k, t = .mk 2 1 [] [k] ∧ k.op ≠ 3 ∧ funB t = false) ∨ (∃ a v, t = .mk 2 1 [] [.mk 3 a [] [v]] ∧ goodT v = true) ∨
    (∃ s u, t = .mk 2 2 [] [s, u] ∧ goodT s = true ∧ goodT u = true) := by
  have hg := h
  rw [goodT_eq, Bool.and_eq_true] at hg
  by_cases h1 : t.op = 1
  · refine .inl ⟨by omega, ?_⟩
    rw [decide_eq_true h1, good1 h h1]
    exact funB_var _
  by_cases h2 : t.op = 2
  · obtain ⟨e, hl⟩ := good2 h h2
    have hs := hg.1
    rw [shapeB, if_neg h1, if_pos h2] at hs
    simp only [Bool.and_eq_true, decide_eq_true_eq] at hs
    obtain ⟨hn, _, hkl⟩ := hs
    by_cases n1 : t.num = 1
    · have hl1 : t.kids.length = 1 := by omega
      obtain ⟨k, hk⟩ := List.length_eq_one_iff.1 hl1
      rw [n1, hk] at e
      have hgk : goodT k = true := by have h9 := hg.2; rw [hk] at h9; simpa [goodTs] using h9
      by_cases h3 : k.op = 3
      · obtain ⟨e3, _⟩ := good3 hgk h3
        refine .inr (.inr (.inr (.inl ⟨k.num, tmAt k.kids 0, ?_, ?_⟩)))
        · rw [e, ← e3]
        · rw [goodT_eq, e3] at hgk
          simp only [kids_mk, goodTs, Bool.and_eq_true] at hgk
          exact hgk.2.1
      · refine .inr (.inr (.inl ⟨k, e, h3, funB_no (fun h => absurd h h1) (fun _ _ => ?_) (fun _ => by omega)⟩))
        rw [hk]; exact h3
    by_cases n2 : t.num = 2
    · have hl2 : t.kids.length = 2 := by omega
      match hk : t.kids, hl2 with
      | [s, u], _ =>
        rw [n2, hk] at e
        have h9 := hg.2
        rw [hk] at h9
        simp only [goodTs, Bool.and_true, Bool.and_eq_true] at h9
        exact .inr (.inr (.inr (.inr ⟨s, u, e, h9.1, h9.2⟩)))
    · exact .inr (.inl ⟨h2, n1, n2, funB_no (fun h => absurd h h1) (fun _ h => absurd h n1) (fun _ => n2)⟩)
  · refine .inl ⟨h2, ?_⟩
    rw [decide_eq_false h1]
    exact funB_no (fun h => absurd h h1) (fun h => absurd h h2) (fun h => absurd h h2)

theorem ofFun_any : ∀ (N : Nat) (t : Tm), szT t ≤ N → goodT t = true → ∀ (w : World) (x : Value), TmIn w x t → Calls Tryz.prog 69 #[x] w (BoolPost (funB t) w) := by
  intro N
  induction N with
  | zero => intro t h; rw [szT_eq] at h; omega
  | succ N ih =>
    intro t hN hg w x hx
    obtain ⟨A, c, kv, rfl, hp, hk⟩ := hx
    rcases fun_cases hg with ⟨h2, hf⟩ | ⟨h2, n1, n2, hf⟩ | ⟨k, rfl, h3, hf⟩ | ⟨a, v, rfl, hv⟩ | ⟨s, u, rfl, hs, hu⟩
    · rw [hf]
      obtain ⟨B, d, rfl⟩ := hk.form
      exact ofFun_leaf _ _ A B _ _ _ _ w _ h2 (by by_cases h : t.op = 1 <;> simp [h])
    · rw [hf]
      obtain ⟨B, d, rfl⟩ := hk.form
      rw [h2]
      exact ofFun_sym _ A B _ _ _ _ w n1 n2
    · rw [hf]
      obtain ⟨B, d, rfl⟩ := hk.form
      obtain ⟨b, off, A1, c1, B1, e1, rfl, hbl, d0, d1, d2, d3, hy, hk1⟩ := lam_cells hk (by simp [kids_mk])
      exact ofFun_nolam k.op b off A _ _ _ w hbl d0 h3
    · rw [funB_lam]
      refine ofFun_lam a v kv A _ _ _ w hk fun w' y hy => ih v ?_ hv w' y hy
      simp [szT, szTs] at hN; omega
    · rw [funB_app]
      simp [szT, szTs] at hN
      exact ofFun_app s u kv A _ _ _ _ w hk (fun w' y hy => ih s (by omega) hs w' y hy) (fun w' y hy => ih u (by omega) hu w' y hy)
end Go.Proofs.YtihijigbdpjcoaaGreat
end

section
namespace Go.Proofs.YtihijigbdpjcoaaGreat
open Go.RowKit Go.Sort
set_option linter.unusedVariables false

set_option maxRecDepth 100000 in
theorem good8_one (n : Int) (A B : Option Addr) (pl c kl d : Nat) (w : World)  :
    Calls Tryz.prog 66 #[.agg #[.int .i64 1, .int .i64 n, .slice A pl c, .slice B kl d]] w (BoolPost true w) := by
  have hb0 : Below w.heap.size w (w.alloc (.cells #[.int .i64 1, .int .i64 n, .slice A pl c, .slice B kl d] 35)) := (Below.refl _ _).alloc (Nat.le_refl _) _
  go_enter Tryz.func66, Tryz.ntmps66
  go_wp2
  go_ret
  exact ⟨rfl, hb0⟩

set_option maxRecDepth 100000 in
theorem good8_no (o n : Int) (A B : Option Addr) (pl c kl d : Nat) (w : World) (h : ¬ o = 2) (h1 : ¬ o = 1) :
    Calls Tryz.prog 66 #[.agg #[.int .i64 o, .int .i64 n, .slice A pl c, .slice B kl d]] w (BoolPost false w) := by
  have hb0 : Below w.heap.size w (w.alloc (.cells #[.int .i64 o, .int .i64 n, .slice A pl c, .slice B kl d] 35)) := (Below.refl _ _).alloc (Nat.le_refl _) _
  have t1 : (o == 1) = false := by simpa using h1
  have t2 : (o != 2) = true := by simpa using h
  clear h h1
  go_enter Tryz.func66, Tryz.ntmps66
  go_wp2
  go_ret
  exact ⟨rfl, hb0⟩

set_option maxRecDepth 100000 in
theorem good8_sym (n : Int) (A B : Option Addr) (pl c kl d : Nat) (w : World) (h1 : ¬ n = 1) (h2 : ¬ n = 2) :
    Calls Tryz.prog 66 #[.agg #[.int .i64 2, .int .i64 n, .slice A pl c, .slice B kl d]] w (BoolPost false w) := by
  have hb0 : Below w.heap.size w (w.alloc (.cells #[.int .i64 2, .int .i64 n, .slice A pl c, .slice B kl d] 35)) := (Below.refl _ _).alloc (Nat.le_refl _) _
  have t1 : (n == 1) = false := by simpa using h1
  have t2 : (n == 2) = false := by simpa using h2
  clear h1 h2
  go_enter Tryz.func66, Tryz.ntmps66
  go_wp2
  go_ret
  exact ⟨rfl, hb0⟩

set_option maxRecDepth 100000 in
theorem good8_nolam (k : Int) (b off : Nat) (A : Option Addr) (pl c d : Nat) (w : World) (hb : b < w.heap.size) (hc : w.cell? ⟨b, off, none⟩ = some (.int .i64 k)) (h : ¬ k = 3) :
    Calls Tryz.prog 66 #[.agg #[.int .i64 2, .int .i64 1, .slice A pl c, .slice (some ⟨b, off, none⟩) 1 d]] w (BoolPost false w) := by
  have hb0 : Below w.heap.size w (w.alloc (.cells #[.int .i64 2, .int .i64 1, .slice A pl c, .slice (some ⟨b, off, none⟩) 1 d] 35)) := (Below.refl _ _).alloc (Nat.le_refl _) _
  have t1 : (k == 3) = false := by simpa using h
  have d0 := (hb0.cell (p := ⟨b, off, none⟩) hb).trans hc
  clear h hc
  go_enter Tryz.func66, Tryz.ntmps66
  go_wp2
  go_ret
  exact ⟨rfl, hb0⟩

set_option maxRecDepth 100000 in
set_option maxHeartbeats 1000000 in
theorem good8_lam (a : Int) (v : Tm) (kv : Value) (A : Option Addr) (pl c : Nat) (q : Bool) (w : World) (hk : TmsIn w kv [.mk 3 a [] [v]])
    (ih : ∀ (w' : World) (y : Value), TmIn w' y v → Calls Tryz.prog 66 #[y] w' (BoolPost q w')) :
    Calls Tryz.prog 66 #[.agg #[.int .i64 2, .int .i64 1, .slice A pl c, kv]] w (BoolPost q w) := by
  obtain ⟨B, d, rfl⟩ := hk.form
  obtain ⟨b, off, A1, c1, B1, e1, rfl, hbl, d0, d1, d2, d3, hy, hk1⟩ := lam_cells hk (by simp)
  rw [tmAt_cons_zero] at d0 d1 d2 d3 hy hk1
  simp only [op_mk, num_mk, perm_mk, kids_mk] at d0 d1 d2 d3 hk1
  obtain ⟨b2, off2, A3, c3, B3, e3, rfl, hbl2, f0, f1, f2, f3, hz, hk3⟩ := lam_cells hk1 (by simp)
  rw [tmAt_cons_zero] at f0 f1 f2 f3 hz
  simp only [List.length_cons, List.length_nil, Nat.zero_add] at d3 ⊢
  have hb0 : Below w.heap.size w (w.alloc (.cells #[.int .i64 2, .int .i64 1, .slice A pl c, .slice (some ⟨b, off, none⟩) 1 d] 35)) := (Below.refl _ _).alloc (Nat.le_refl _) _
  have h30 := ih _ _ (hz.below hb0)
  rw [← hb0.cell (p := ⟨b, _, none⟩) hbl] at d0 d1 d2 d3
  rw [← hb0.cell (p := ⟨b2, _, none⟩) hbl2] at f0 f1 f2 f3
  clear ih hz hk hk1 hk3 hy
  go_enter Tryz.func66, Tryz.ntmps66
  go_wp2_with fail
  refine h30.mono ?_
  rintro e w3 ⟨rfl, hb3⟩
  have hpost : BoolPost q w (.returned (.bool q)) w3 := ⟨rfl, hb0.trans (hb3.mono hb0.size)⟩
  clear h30 hb3 hb0 d0 d1 d2 d3 f0 f1 f2 f3
  go_wp2
  go_ret
  exact hpost

set_option maxRecDepth 100000 in
set_option maxHeartbeats 1000000 in
theorem good8_app (s t : Tm) (kv : Value) (A : Option Addr) (pl c : Nat) (p q : Bool) (w : World) (hk : TmsIn w kv [s, t])
    (ih1 : ∀ (w' : World) (y : Value), TmIn w' y s → Calls Tryz.prog 66 #[y] w' (BoolPost p w'))
    (ih2 : ∀ (w' : World) (y : Value), TmIn w' y t → Calls Tryz.prog 66 #[y] w' (BoolPost q w')) :
    Calls Tryz.prog 66 #[.agg #[.int .i64 2, .int .i64 2, .slice A pl c, kv]] w (BoolPost (p && q) w) := by
  obtain ⟨B, d, rfl⟩ := hk.form
  obtain ⟨b, off, A1, c1, B1, e1, rfl, hbl, d0, d1, d2, d3, hy⟩ := kid_cells hk (k := 0) (by simp)
  obtain ⟨b', off', A2, c2, B2, e2, eB, _, f0, f1, f2, f3, hz⟩ := kid_cells hk (k := 1) (by simp)
  injection eB with eB
  injection eB with eB1 eB2
  subst eB1
  subst eB2
  rw [Nat.zero_mul, Nat.add_zero] at d0 d1 d2 d3
  rw [Nat.one_mul] at f0 f1 f2 f3
  have e0 : tmAt [s, t] 0 = s := rfl
  have e9 : tmAt [s, t] 1 = t := rfl
  rw [e0] at d0 d1 d2 d3 hy
  rw [e9] at f0 f1 f2 f3 hz
  simp only [List.length_cons, List.length_nil, Nat.zero_add] at ⊢
  have hb0 : Below w.heap.size w (w.alloc (.cells #[.int .i64 2, .int .i64 2, .slice A pl c, .slice (some ⟨b, off, none⟩) (1 + 1) d] 35)) := (Below.refl _ _).alloc (Nat.le_refl _) _
  have hF := Lib.hid (fun (W : World) (hW : Below w.heap.size w W) => (⟨(hW.cell (p := ⟨b, off + 4, none⟩) hbl).trans f0, (hW.cell (p := ⟨b, off + 4 + 1, none⟩) hbl).trans f1, (hW.cell (p := ⟨b, off + 4 + 2, none⟩) hbl).trans f2, (hW.cell (p := ⟨b, off + 4 + 3, none⟩) hbl).trans f3⟩ : W.cell? ⟨b, off + 4, none⟩ = _ ∧ W.cell? ⟨b, off + 4 + 1, none⟩ = _ ∧ W.cell? ⟨b, off + 4 + 2, none⟩ = _ ∧ W.cell? ⟨b, off + 4 + 3, none⟩ = _))
  have h30 := ih1 _ _ (hy.below hb0)
  have h4 := fun (W : World) (hW : Below w.heap.size w W) => ih2 W _ (hz.below hW)
  have hkk := heap_alloc_new w (.cells #[.int .i64 2, .int .i64 2, .slice A pl c, .slice (some ⟨b, off, none⟩) (1 + 1) d] 35)
  rw [← hb0.cell (p := ⟨b, _, none⟩) hbl] at d0 d1 d2 d3
  clear ih1 ih2 hy hz hk f0 f1 f2 f3 e0 e9
  go_enter Tryz.func66, Tryz.ntmps66
  cases p with
  | false =>
    go_wp2_with fail
    refine h30.mono ?_
    rintro e w3 ⟨rfl, hb3⟩
    have hpost : BoolPost (false && q) w (.returned (.bool false)) w3 := ⟨rfl, hb0.trans (hb3.mono hb0.size)⟩
    clear h30 hb3 hb0 d0 d1 d2 d3 hF h4 hkk
    go_wp2
    go_ret
    exact hpost
  | true =>
    go_wp2_with fail
    refine h30.mono ?_
    rintro e w3 ⟨rfl, hb3⟩
    have hk3 := (hb3.block w.heap.size (by simp)).trans hkk
    have hs3 := hb0.trans (hb3.mono hb0.size)
    clear h30 hb3 hb0 d0 d1 d2 d3 hkk
    obtain ⟨g0, g1, g2, g3⟩ := Args8.row4 hk3
    obtain ⟨f0, f1, f2, f3⟩ := hF.out w3 hs3
    have h40 := h4 w3 hs3
    clear hF h4 hk3
    go_wp2_with fail
    refine h40.mono ?_
    rintro e w4 ⟨rfl, hb4⟩
    have hpost : BoolPost (true && q) w (.returned (.bool q)) w4 := ⟨by simp, hs3.trans (hb4.mono hs3.size)⟩
    clear h40 hb4 hs3 g0 g1 g2 g3 f0 f1 f2 f3
    go_wp2
    go_ret
    exact hpost

theorem good8_any : ∀ (N : Nat) (t : Tm), szT t ≤ N → goodT t = true → ∀ (w : World) (x : Value), TmIn w x t → Calls Tryz.prog 66 #[x] w (BoolPost (funB t) w) := by
  intro N
  induction N with
  | zero => intro t h; rw [szT_eq] at h; omega
  | succ N ih =>
    intro t hN hg w x hx
    obtain ⟨A, c, kv, rfl, hp, hk⟩ := hx
    rcases fun_cases hg with ⟨h2, hf⟩ | ⟨h2, n1, n2, hf⟩ | ⟨k, rfl, h3, hf⟩ | ⟨a, v, rfl, hv⟩ | ⟨s, u, rfl, hs, hu⟩
    · rw [hf]
      obtain ⟨B, d, rfl⟩ := hk.form
      by_cases h1 : t.op = 1
      · rw [decide_eq_true h1, h1]
        exact good8_one _ A B _ _ _ _ w
      · rw [decide_eq_false h1]
        exact good8_no _ _ A B _ _ _ _ w h2 h1
    · rw [hf]
      obtain ⟨B, d, rfl⟩ := hk.form
      rw [h2]
      exact good8_sym _ A B _ _ _ _ w n1 n2
    · rw [hf]
      obtain ⟨B, d, rfl⟩ := hk.form
      obtain ⟨b, off, A1, c1, B1, e1, rfl, hbl, d0, d1, d2, d3, hy, hk1⟩ := lam_cells hk (by simp [kids_mk])
      exact good8_nolam k.op b off A _ _ _ w hbl d0 h3
    · rw [funB_lam]
      refine good8_lam a v kv A _ _ _ w hk fun w' y hy => ih v ?_ hv w' y hy
      simp [szT, szTs] at hN; omega
    · rw [funB_app]
      simp [szT, szTs] at hN
      exact good8_app s u kv A _ _ _ _ w hk (fun w' y hy => ih s (by omega) hs w' y hy) (fun w' y hy => ih u (by omega) hu w' y hy)
end Go.Proofs.YtihijigbdpjcoaaGreat
end

