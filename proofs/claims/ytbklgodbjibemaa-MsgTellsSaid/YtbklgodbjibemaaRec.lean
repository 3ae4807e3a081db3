/- Messages and pairs as rows of cells that nobody opens: what a load, a store, a part of one does; the worlds behind which what lay lies. -/
import Derived.Test.YtbklgodbjibemaaChecked
import Derived.Test.YtbklgodbjibemaaMade
import Derived.WalkKit
import Derived.WalkLawsBesides
import Derived.Laws.NewFold
import Derived.BigQuiet
import Derived.Deep.QuietTactic
import Derived.Deep.MidRow
import Derived.Deep.WholeRow
import Derived.Lib.Small
import Derived.Lib.Walk
import Derived.Lib.Hide
import Derived.Handy
set_option linter.unusedVariables false
set_option linter.unusedSimpArgs false
namespace Go.Proofs.Ytbklgodbjibemaa
open Go.RowKit

theorem ret_i {a b : Int} (h : a = b) : Ending.returned (.int .i64 a) = .returned (.int .i64 b) := by rw [h]
theorem ret_b {a b : Bool} (h : a = b) : Ending.returned (.bool a) = .returned (.bool b) := by rw [h]

/-- A pair. -/
structure It where
  key : ByteArray
  val : Int
  ver : Int
  gone : Bool
/-- A message, but its list. -/
structure M where
  kind : Int
  call : Int
  frm : Int
  to : Int
  key : Int
  slow : Bool
  done : Bool
  place : Int
  pred : Int
  it : It
  code : Int

def It.c (x : It) : Array Value := #[.string x.key, .int .i64 x.val, .int .i64 x.ver, .bool x.gone]
def M.c (m : M) (l : Value) : Array Value := #[.int .u8 m.kind, .int .i64 m.call, .int .i64 m.frm, .int .i64 m.to, .int .i64 m.key, .bool m.slow, .bool m.done, .int .i64 m.place, .int .i64 m.pred, l, .string m.it.key, .int .i64 m.it.val, .int .i64 m.it.ver, .bool m.it.gone, .int .i64 m.code]
/-- What Same compares besides lists. -/
def M.f (m : M) : Array Value := #[.int .u8 m.kind, .int .i64 m.call, .int .i64 m.frm, .int .i64 m.to, .int .i64 m.key, .int .i64 m.place, .int .i64 m.pred, .bool m.slow, .bool m.done, .string m.it.key, .int .i64 m.it.val, .int .i64 m.it.ver, .bool m.it.gone, .int .i64 m.code]

section
variable (m : M) (x : It) (l : Value)
@[go_sem] theorem It.n : x.c.size = 4 := rfl
@[go_sem] theorem It.c0 : x.c[0]? = some (.string x.key) := rfl
@[go_sem] theorem It.c1 : x.c[1]? = some (.int .i64 x.val) := rfl
@[go_sem] theorem It.c2 : x.c[2]? = some (.int .i64 x.ver) := rfl
@[go_sem] theorem It.c3 : x.c[3]? = some (.bool x.gone) := rfl
@[go_sem] theorem M.n : (m.c l).size = 15 := rfl
@[go_sem] theorem M.c0 : (m.c l)[0]? = some (.int .u8 m.kind) := rfl
@[go_sem] theorem M.c1 : (m.c l)[1]? = some (.int .i64 m.call) := rfl
@[go_sem] theorem M.c2 : (m.c l)[2]? = some (.int .i64 m.frm) := rfl
@[go_sem] theorem M.c3 : (m.c l)[3]? = some (.int .i64 m.to) := rfl
@[go_sem] theorem M.c4 : (m.c l)[4]? = some (.int .i64 m.key) := rfl
@[go_sem] theorem M.c5 : (m.c l)[5]? = some (.bool m.slow) := rfl
@[go_sem] theorem M.c6 : (m.c l)[6]? = some (.bool m.done) := rfl
@[go_sem] theorem M.c7 : (m.c l)[7]? = some (.int .i64 m.place) := rfl
@[go_sem] theorem M.c8 : (m.c l)[8]? = some (.int .i64 m.pred) := rfl
@[go_sem] theorem M.c9 : (m.c l)[9]? = some l := rfl
@[go_sem] theorem M.c10 : (m.c l)[10]? = some (.string m.it.key) := rfl
@[go_sem] theorem M.c11 : (m.c l)[11]? = some (.int .i64 m.it.val) := rfl
@[go_sem] theorem M.c12 : (m.c l)[12]? = some (.int .i64 m.it.ver) := rfl
@[go_sem] theorem M.c13 : (m.c l)[13]? = some (.bool m.it.gone) := rfl
@[go_sem] theorem M.c14 : (m.c l)[14]? = some (.int .i64 m.code) := rfl
@[go_sem] theorem M.fn : m.f.size = 14 := rfl
end

theorem box_below (w : World) (o : Obj) : Below w.heap.size w (w.alloc o) := (Below.refl _ w).alloc (Nat.le_refl _) o

/-! ### Rows -/
/-- The block b is the row c. -/
def Rw (w : World) (b : Nat) (t : TypeId) (c : Array Value) : Prop := w.heap[b]? = some (.cells c t (0, 0))
theorem Rw.new (w : World) (c : Array Value) (t : TypeId) : Rw (w.alloc (.cells c t)) w.heap.size t c := heap_alloc_last w _
theorem Rw.lt {w : World} {b : Nat} {t : TypeId} {c : Array Value} (h : Rw w b t c) : b < w.heap.size := (Array.getElem?_eq_some_iff.1 h).1
theorem Rw.alloc {w : World} {b : Nat} {t : TypeId} {c : Array Value} (h : Rw w b t c) (o : Obj) : Rw (w.alloc o) b t c := by
  have := h.lt
  unfold Rw at *
  simp only [World.alloc, Array.getElem?_push]
  rw [if_neg (by omega)]; exact h
theorem Rw.below {w w' : World} {b : Nat} {t : TypeId} {c : Array Value} (h : Rw w b t c) (hb : Below w.heap.size w w') : Rw w' b t c := (hb.block b h.lt).trans h
theorem Rw.drew {w : World} {b : Nat} {t : TypeId} {c : Array Value} (h : Rw w b t c) : Rw w.drew b t c := h
theorem Rw.cell {w : World} {b : Nat} {t : TypeId} {c : Array Value} (h : Rw w b t c) (j : Nat) : w.cell? ⟨b, j, none⟩ = c[j]? := cell_of_row w b j c t (0, 0) h
theorem Rw.free {w : World} {b : Nat} {t : TypeId} {c : Array Value} (h : Rw w b t c) (j : Nat) : w.frozen? ⟨b, j, none⟩ = false := by
  unfold Rw at h
  unfold World.frozen?
  rw [h]
  simp
theorem Rw.range {w : World} {b : Nat} {t : TypeId} {c : Array Value} (h : Rw w b t c) (o : Nat) (cs : List Value) (hc : ∀ j v, cs[j]? = some v → c[o + j]? = some v) : w.rangeAt b o cs := fun j v hv => by
  rw [h.cell]; exact hc j v hv
theorem Rw.set {w : World} {b : Nat} {t : TypeId} {c : Array Value} (h : Rw w b t c) (j : Nat) (v : Value) : Rw (w.setCell ⟨b, j, none⟩ v) b t (c.setIfInBounds j v) := by
  have hb := h.lt
  unfold Rw at *
  simp [World.setCell, Array.getElem?_modify, h]
theorem Rw.set_other {w : World} {b g : Nat} {t : TypeId} {c : Array Value} (h : Rw w b t c) (hne : b ≠ g) (j : Nat) (v : Value) : Rw (w.setCell ⟨g, j, none⟩ v) b t c :=
  (Below.heap_setCell w ⟨g, j, none⟩ v b hne).trans h
theorem Rw.setRow {w : World} {b : Nat} {t : TypeId} {c c' : Array Value} (h : Rw w b t c) : Rw (w.setRow b c') b t c' := setRow_heap w b c c' t (0, 0) h
theorem Rw.setRow_other {w : World} {b g : Nat} {t : TypeId} {c c' : Array Value} (h : Rw w b t c) (hne : b ≠ g) : Rw (w.setRow g c') b t c := (Go.setRow_other w g b c' hne).trans h
theorem below_setRow {W w : World} (h : Below W.heap.size W w) {g : Nat} (hg : W.heap.size ≤ g) (c : Array Value) : Below W.heap.size W (w.setRow g c) :=
  ⟨h.os, h.tape, h.output, Nat.le_trans h.size (by simp [World.setRow]), fun k hk => (Go.setRow_other w g k c (by omega)).trans (h.block k hk)⟩

/-! ### Worlds behind one: what lay lies -/
structure Wd (W : World) where
  w : World
  below : Below W.heap.size W w
theorem Wd.ex {W w : World} (h : Below W.heap.size W w) : ∃ x : Wd W, w = x.w := ⟨⟨w, h⟩, rfl⟩
theorem Wd.row {W : World} {b : Nat} {t : TypeId} {c : Array Value} (h : Rw W b t c) (x : Wd W) : Rw x.w b t c := h.below x.below
theorem Wd.sl {W : World} {v : Value} {xs : List Value} (h : Sl W v xs) (x : Wd W) : Sl x.w v xs := h.below x.below
theorem Wd.drew {W : World} (x : Wd W) : ∃ y : Wd W, x.w.drew = y.w := ⟨⟨x.w.drew, x.below.drew⟩, rfl⟩
theorem Wd.on {W : World} (x : Wd W) {w : World} (h : Below x.w.heap.size x.w w) : ∃ y : Wd W, w = y.w := ⟨⟨w, x.below.trans (h.mono x.below.size)⟩, rfl⟩
/-- A contract for any world, as it is met. -/
theorem Wd.call {P : Program} {f : FuncId} {args : Array Value} {v : Value} {W : World} (x : Wd W) (h : Calls P f args x.w fun e w' => e = .returned v ∧ Below x.w.heap.size x.w w') :
    Calls P f args x.w fun e w' => e = .returned v ∧ ∃ y : Wd W, w' = y.w := h.mono fun e w' ⟨he, hb⟩ => ⟨he, x.on hb⟩

/-! ### Whole loads and stores -/
section
variable {P : Program} {ops : Array Oper} {rest : List Oper} {o : Oper} {a : Act} {w : World} {Q : Exit → Act → World → Prop} {b : Nat} {t ty : TypeId} {c : Array Value} {d : TypeDesc}
/-- What a type is, for a whole load or store of one. -/
structure Agg (P : Program) (ty : TypeId) (n : Nat) : Prop where
  hu : ∃ d, P.underlying ty = some d ∧ d.isRow = true
  hi : (P.info? ty).map (·.size) = some n

theorem run_loadR (A : Agg P ty c.size) (h : Rw w b t c) : (Instr.loadAt ty (.pointer (some ⟨b, 0, none⟩))).run P w = .ok (.agg c) w := by
  obtain ⟨d, hu, hd⟩ := A.hu
  have := run_loadAt_mid w b 0 ty c.toList d (h.range 0 c.toList (fun j v hv => by simpa using hv)) hu hd (by rw [A.hi]; simp)
  simpa using this
theorem run_loadP {o : Nat} {cs : Array Value} (A : Agg P ty cs.size) (h : Rw w b t c) (hc : ∀ j v, cs[j]? = some v → c[o + j]? = some v) : (Instr.loadAt ty (.pointer (some ⟨b, o, none⟩))).run P w = .ok (.agg cs) w := by
  obtain ⟨d, hu, hd⟩ := A.hu
  have := run_loadAt_mid w b o ty cs.toList d (h.range o cs.toList (fun j v hv => hc j v (by simpa using hv))) hu hd (by rw [A.hi]; simp)
  simpa using this

theorem wpList_loadR (hw : Region.wanted o (yielded ops a.tmps) = true) (x : Operand) (ho : o.op = .load ty x) {p : Addr} (hx : a.eval x = .pointer (some p)) {v : Value} (hr : (Instr.loadAt ty (.pointer (some p))).run P w = .ok v w)
    (h : wpList P ops Q rest (a.put o.dst v) w) : wpList P ops Q (o :: rest) a w := by
  refine wpList_step fun K hK => ?_
  rw [if_pos hw]
  unfold Oper.wp execOp
  simp only [ho, hx, Sem.run_bind, Sem.run_pure, Result.andThen_ok, hr]
  exact hK _ _ h
/-- The same, the row ahead: an address that does not fit fails at once. -/
theorem wpList_loadW (h0 : Rw w b t c) (A : Agg P ty c.size) (hw : Region.wanted o (yielded ops a.tmps) = true) (x : Operand) (ho : o.op = .load ty x) (hx : a.eval x = .pointer (some ⟨b, 0, none⟩))
    (h : wpList P ops Q rest (a.put o.dst (.agg c)) w) : wpList P ops Q (o :: rest) a w := wpList_loadR hw x ho hx (run_loadR A h0) h
theorem wpList_loadPt (h0 : Rw w b t c) {q : Nat} {cs : Array Value} (hc : ∀ j v, cs[j]? = some v → c[q + j]? = some v) (A : Agg P ty cs.size) (hw : Region.wanted o (yielded ops a.tmps) = true) (x : Operand) (ho : o.op = .load ty x) (hx : a.eval x = .pointer (some ⟨b, q, none⟩))
    (h : wpList P ops Q rest (a.put o.dst (.agg cs)) w) : wpList P ops Q (o :: rest) a w := wpList_loadR hw x ho hx (run_loadP A h0 hc) h
theorem wpList_buildR (hw : Region.wanted o (yielded ops a.tmps) = true) (parts : List (Nat × Operand)) (ho : o.op = .build ty parts.toArray) {vals : List (Nat × Value)} (hv : parts.map (fun p => (p.1, a.eval p.2)) = vals) {v : Value} (hr : (Instr.build ty vals.toArray).run P w = .ok v w)
    (h : wpList P ops Q rest (a.put o.dst v) w) : wpList P ops Q (o :: rest) a w := by
  refine wpList_step fun K hK => ?_
  rw [if_pos hw]
  unfold Oper.wp execOp
  subst hv
  simp only [ho, Sem.run_bind, Sem.run_pure, Result.andThen_ok, List.map_toArray, hr]
  exact hK _ _ h
theorem run_storeR (hi : (P.info? ty).map (·.size) = some c.size) {c0 : Array Value} (h0 : Rw w b t c0) (hs : c0.size = c.size) (h1 : c.all (·.oneCell') = true) :
    (Instr.storeAt ty (.pointer (some ⟨b, 0, none⟩)) (.agg c)).run P w = .ok () (w.setRow b c) := by
  simp only [Instr.storeAt, Instr.sureAddr, Sem.run_bind, Sem.run_pure, Result.andThen]
  exact run_storeVar_row w b t ty c0 c h0 hi hs h1
theorem wpList_storeR (hw : Region.wanted o (yielded ops a.tmps) = true) (x y : Operand) (ho : o.op = .store ty x y) (hx : a.eval x = .pointer (some ⟨b, 0, none⟩)) (hy : a.eval y = .agg c) (hi : (P.info? ty).map (·.size) = some c.size) {c0 : Array Value} (h0 : Rw w b t c0) (hs : c0.size = c.size) (h1 : c.all (·.oneCell') = true)
    (h : wpList P ops Q rest (a.put o.dst undef) (w.setRow b c)) : wpList P ops Q (o :: rest) a w := by
  refine wpList_step fun K hK => ?_
  rw [if_pos hw]
  unfold Oper.wp execOp
  simp only [ho, hx, hy, Sem.run_bind, Sem.run_pure, Result.andThen_ok, run_storeR hi h0 hs h1]
  exact hK _ _ h
end

/-! ### The parts of a message, written -/
section
variable (m : M) (x : It) (l v : Value)
theorem M.set1 (n : Int) : (m.c l).setIfInBounds 1 (.int .i64 n) = ({ m with call := n } : M).c l := rfl
theorem M.set4 (n : Int) : (m.c l).setIfInBounds 4 (.int .i64 n) = ({ m with key := n } : M).c l := rfl
theorem M.set5 (n : Bool) : (m.c l).setIfInBounds 5 (.bool n) = ({ m with slow := n } : M).c l := rfl
theorem M.set9 : (m.c l).setIfInBounds 9 v = m.c v := rfl
end

theorem agg27 : Agg Try.prog 27 15 := ⟨⟨_, Try.underlying27, rfl⟩, by kernel_rfl⟩
theorem agg24 : Agg Try.prog 24 4 := ⟨⟨_, Try.underlying24, rfl⟩, by kernel_rfl⟩
theorem agg50 : Agg Try.prog 50 14 := ⟨⟨_, Try.underlying50, rfl⟩, by kernel_rfl⟩

/-! ### What is built -/
def noIt : It := ⟨ByteArray.empty, 0, 0, false⟩
def noM : M := ⟨0, 0, 0, 0, 0, false, false, 0, 0, noIt, 0⟩
@[reducible] def nilS : Value := .slice none 0 0
def M.head (k c f t : Int) : M := { noM with kind := k, call := c, frm := f, to := t }
def allOne (c : Array Value) : Prop := c.all (·.oneCell') = true
theorem run_build0 (w : World) : (Instr.build 27 #[]).run Try.prog w = .ok (.agg (noM.c nilS)) w := run_build w 27 _ _ (by kernel_rfl)
theorem run_build4 (k c f t : Int) (w : World) : (Instr.build 27 #[(0, .int .u8 k), (1, .int .i64 c), (2, .int .i64 f), (3, .int .i64 t)]).run Try.prog w = .ok (.agg ((M.head k c f t).c nilS)) w := run_build w 27 _ _ (by kernel_rfl)
theorem run_buildHop (k c f t y : Int) (s : Bool) (w : World) : (Instr.build 27 #[(0, .int .u8 k), (1, .int .i64 c), (2, .int .i64 f), (3, .int .i64 t), (4, .int .i64 y), (5, .bool s)]).run Try.prog w = .ok (.agg (({ M.head k c f t with key := y, slow := s } : M).c nilS)) w := run_build w 27 _ _ (by kernel_rfl)
theorem run_buildState (k c f t p : Int) (A : Option Addr) (n q : Nat) (w : World) : (Instr.build 27 #[(0, .int .u8 k), (1, .int .i64 c), (2, .int .i64 f), (3, .int .i64 t), (8, .int .i64 p), (9, .slice A n q)]).run Try.prog w = .ok (.agg (({ M.head k c f t with pred := p } : M).c (.slice A n q))) w := run_build w 27 _ _ (by kernel_rfl)
theorem run_buildI0 (w : World) : (Instr.build 24 #[]).run Try.prog w = .ok (.agg noIt.c) w := run_build w 24 _ _ (by kernel_rfl)
theorem run_buildI1 (s : ByteArray) (w : World) : (Instr.build 24 #[(0, .string s)]).run Try.prog w = .ok (.agg ({ noIt with key := s } : It).c) w := run_build w 24 _ _ (by kernel_rfl)
theorem run_buildF (m : M) (w : World) : (Instr.build 50 #[(0, .int .u8 m.kind), (1, .int .i64 m.call), (2, .int .i64 m.frm), (3, .int .i64 m.to), (4, .int .i64 m.key), (5, .int .i64 m.place), (6, .int .i64 m.pred), (7, .bool m.slow), (8, .bool m.done), (9, .agg m.it.c), (10, .int .i64 m.code)]).run Try.prog w = .ok (.agg m.f) w := run_build w 50 _ _ (by kernel_rfl)

end Go.Proofs.Ytbklgodbjibemaa
