/- Messages and pairs as rows of cells that nobody opens: what a load, a store, a part of one does; the worlds behind which what lay lies. Contracts of msg's small functions, and of the document's own: for any message, any pair, any numbers. Two pairs, two messages, compared as structs. Lists of numbers: two the same, one in it, all others and unlike; the document's own: for any lists. What is laid flat, laid bare, filled; what is great: for any message. What a message of its kind may have, and it bare of that: 'only', 'bare': for any message. A message bare of what its kind may have: the document's own 'bare': for any message. -/
import Derived.Test.YtaacjpcckinaiaaGreatChecked
import Derived.Test.YtaacjpcckinaiaaGreatMade
import Derived.WalkKit
import Derived.WalkLawsBesides
import Derived.Laws.NewFold
import Derived.BigQuiet
import Derived.Deep.QuietTactic
import Derived.Deep.MidRow
import Derived.Deep.WholeRow
import Derived.Lib.Small
import Derived.Lib.Walk
import Derived.Lib.Hide
import Derived.Handy
import Derived.Laws.StructEq
import Derived.StillTailTactics
set_option linter.unusedVariables false
set_option maxRecDepth 100000
set_option linter.unusedSimpArgs false
namespace Go.Proofs.YtaacjpcckinaiaaGreat.Ms
open Go.RowKit

theorem ret_i {a b : Int} (h : a = b) : Ending.returned (.int .i64 a) = .returned (.int .i64 b) := by rw [h]
theorem ret_b {a b : Bool} (h : a = b) : Ending.returned (.bool a) = .returned (.bool b) := by rw [h]

/-- A pair. -/
structure It where
  key : ByteArray
  val : Int
  ver : Int
  gone : Bool
/-- A message, but its list. -/
structure M where
  kind : Int
  call : Int
  frm : Int
  to : Int
  key : Int
  slow : Bool
  done : Bool
  place : Int
  pred : Int
  it : It
  code : Int

def It.c (x : It) : Array Value := #[.string x.key, .int .i64 x.val, .int .i64 x.ver, .bool x.gone]
def M.c (m : M) (l : Value) : Array Value := #[.int .u8 m.kind, .int .i64 m.call, .int .i64 m.frm, .int .i64 m.to, .int .i64 m.key, .bool m.slow, .bool m.done, .int .i64 m.place, .int .i64 m.pred, l, .string m.it.key, .int .i64 m.it.val, .int .i64 m.it.ver, .bool m.it.gone, .int .i64 m.code]
/-- What Same compares besides lists. -/
def M.f (m : M) : Array Value := #[.int .u8 m.kind, .int .i64 m.call, .int .i64 m.frm, .int .i64 m.to, .int .i64 m.key, .int .i64 m.place, .int .i64 m.pred, .bool m.slow, .bool m.done, .string m.it.key, .int .i64 m.it.val, .int .i64 m.it.ver, .bool m.it.gone, .int .i64 m.code]

section
variable (m : M) (x : It) (l : Value)
@[go_sem] theorem It.n : x.c.size = 4 := rfl
@[go_sem] theorem It.c0 : x.c[0]? = some (.string x.key) := rfl
@[go_sem] theorem It.c1 : x.c[1]? = some (.int .i64 x.val) := rfl
@[go_sem] theorem It.c2 : x.c[2]? = some (.int .i64 x.ver) := rfl
@[go_sem] theorem It.c3 : x.c[3]? = some (.bool x.gone) := rfl
@[go_sem] theorem M.n : (m.c l).size = 15 := rfl
@[go_sem] theorem M.c0 : (m.c l)[0]? = some (.int .u8 m.kind) := rfl
@[go_sem] theorem M.c1 : (m.c l)[1]? = some (.int .i64 m.call) := rfl
@[go_sem] theorem M.c2 : (m.c l)[2]? = some (.int .i64 m.frm) := rfl
@[go_sem] theorem M.c3 : (m.c l)[3]? = some (.int .i64 m.to) := rfl
@[go_sem] theorem M.c4 : (m.c l)[4]? = some (.int .i64 m.key) := rfl
@[go_sem] theorem M.c5 : (m.c l)[5]? = some (.bool m.slow) := rfl
@[go_sem] theorem M.c6 : (m.c l)[6]? = some (.bool m.done) := rfl
@[go_sem] theorem M.c7 : (m.c l)[7]? = some (.int .i64 m.place) := rfl
@[go_sem] theorem M.c8 : (m.c l)[8]? = some (.int .i64 m.pred) := rfl
@[go_sem] theorem M.c9 : (m.c l)[9]? = some l := rfl
@[go_sem] theorem M.c10 : (m.c l)[10]? = some (.string m.it.key) := rfl
@[go_sem] theorem M.c11 : (m.c l)[11]? = some (.int .i64 m.it.val) := rfl
@[go_sem] theorem M.c12 : (m.c l)[12]? = some (.int .i64 m.it.ver) := rfl
@[go_sem] theorem M.c13 : (m.c l)[13]? = some (.bool m.it.gone) := rfl
@[go_sem] theorem M.c14 : (m.c l)[14]? = some (.int .i64 m.code) := rfl
@[go_sem] theorem M.fn : m.f.size = 14 := rfl
end

theorem box_below (w : World) (o : Obj) : Below w.heap.size w (w.alloc o) := (Below.refl _ w).alloc (Nat.le_refl _) o

/-! ### Rows -/
/-- The block b is the row c. -/
def Rw (w : World) (b : Nat) (t : TypeId) (c : Array Value) : Prop := w.heap[b]? = some (.cells c t (0, 0))
theorem Rw.new (w : World) (c : Array Value) (t : TypeId) : Rw (w.alloc (.cells c t)) w.heap.size t c := heap_alloc_last w _
theorem Rw.lt {w : World} {b : Nat} {t : TypeId} {c : Array Value} (h : Rw w b t c) : b < w.heap.size := (Array.getElem?_eq_some_iff.1 h).1
theorem Rw.alloc {w : World} {b : Nat} {t : TypeId} {c : Array Value} (h : Rw w b t c) (o : Obj) : Rw (w.alloc o) b t c := by
  have := h.lt
  unfold Rw at *
  simp only [World.alloc, Array.getElem?_push]
  rw [if_neg (by omega)]; exact h
theorem Rw.below {w w' : World} {b : Nat} {t : TypeId} {c : Array Value} (h : Rw w b t c) (hb : Below w.heap.size w w') : Rw w' b t c := (hb.block b h.lt).trans h
theorem Rw.drew {w : World} {b : Nat} {t : TypeId} {c : Array Value} (h : Rw w b t c) : Rw w.drew b t c := h
theorem Rw.cell {w : World} {b : Nat} {t : TypeId} {c : Array Value} (h : Rw w b t c) (j : Nat) : w.cell? ⟨b, j, none⟩ = c[j]? := cell_of_row w b j c t (0, 0) h
theorem Rw.free {w : World} {b : Nat} {t : TypeId} {c : Array Value} (h : Rw w b t c) (j : Nat) : w.frozen? ⟨b, j, none⟩ = false := by
  unfold Rw at h
  unfold World.frozen?
  rw [h]
  simp
theorem Rw.range {w : World} {b : Nat} {t : TypeId} {c : Array Value} (h : Rw w b t c) (o : Nat) (cs : List Value) (hc : ∀ j v, cs[j]? = some v → c[o + j]? = some v) : w.rangeAt b o cs := fun j v hv => by
  rw [h.cell]; exact hc j v hv
theorem Rw.set {w : World} {b : Nat} {t : TypeId} {c : Array Value} (h : Rw w b t c) (j : Nat) (v : Value) : Rw (w.setCell ⟨b, j, none⟩ v) b t (c.setIfInBounds j v) := by
  have hb := h.lt
  unfold Rw at *
  simp [World.setCell, Array.getElem?_modify, h]
theorem Rw.set_other {w : World} {b g : Nat} {t : TypeId} {c : Array Value} (h : Rw w b t c) (hne : b ≠ g) (j : Nat) (v : Value) : Rw (w.setCell ⟨g, j, none⟩ v) b t c :=
  (Below.heap_setCell w ⟨g, j, none⟩ v b hne).trans h
theorem Rw.setRow {w : World} {b : Nat} {t : TypeId} {c c' : Array Value} (h : Rw w b t c) : Rw (w.setRow b c') b t c' := setRow_heap w b c c' t (0, 0) h
theorem Rw.setRow_other {w : World} {b g : Nat} {t : TypeId} {c c' : Array Value} (h : Rw w b t c) (hne : b ≠ g) : Rw (w.setRow g c') b t c := (Go.setRow_other w g b c' hne).trans h
theorem below_setRow {W w : World} (h : Below W.heap.size W w) {g : Nat} (hg : W.heap.size ≤ g) (c : Array Value) : Below W.heap.size W (w.setRow g c) :=
  ⟨h.os, h.tape, h.output, Nat.le_trans h.size (by simp [World.setRow]), fun k hk => (Go.setRow_other w g k c (by omega)).trans (h.block k hk)⟩

/-! ### Worlds behind one: what lay lies -/
structure Wd (W : World) where
  w : World
  below : Below W.heap.size W w
theorem Wd.ex {W w : World} (h : Below W.heap.size W w) : ∃ x : Wd W, w = x.w := ⟨⟨w, h⟩, rfl⟩
theorem Wd.row {W : World} {b : Nat} {t : TypeId} {c : Array Value} (h : Rw W b t c) (x : Wd W) : Rw x.w b t c := h.below x.below
theorem Wd.sl {W : World} {v : Value} {xs : List Value} (h : Sl W v xs) (x : Wd W) : Sl x.w v xs := h.below x.below
theorem Wd.drew {W : World} (x : Wd W) : ∃ y : Wd W, x.w.drew = y.w := ⟨⟨x.w.drew, x.below.drew⟩, rfl⟩
theorem Wd.on {W : World} (x : Wd W) {w : World} (h : Below x.w.heap.size x.w w) : ∃ y : Wd W, w = y.w := ⟨⟨w, x.below.trans (h.mono x.below.size)⟩, rfl⟩
/-- A contract for any world, as it is met. -/
theorem Wd.call {P : Program} {f : FuncId} {args : Array Value} {v : Value} {W : World} (x : Wd W) (h : Calls P f args x.w fun e w' => e = .returned v ∧ Below x.w.heap.size x.w w') :
    Calls P f args x.w fun e w' => e = .returned v ∧ ∃ y : Wd W, w' = y.w := h.mono fun e w' ⟨he, hb⟩ => ⟨he, x.on hb⟩

/-! ### Whole loads and stores -/
section
variable {P : Program} {ops : Array Oper} {rest : List Oper} {o : Oper} {a : Act} {w : World} {Q : Exit → Act → World → Prop} {b : Nat} {t ty : TypeId} {c : Array Value} {d : TypeDesc}
/-- What a type is, for a whole load or store of one. -/
structure Agg (P : Program) (ty : TypeId) (n : Nat) : Prop where
  hu : ∃ d, P.underlying ty = some d ∧ d.isRow = true
  hi : (P.info? ty).map (·.size) = some n

theorem run_loadR (A : Agg P ty c.size) (h : Rw w b t c) : (Instr.loadAt ty (.pointer (some ⟨b, 0, none⟩))).run P w = .ok (.agg c) w := by
  obtain ⟨d, hu, hd⟩ := A.hu
  have := run_loadAt_mid w b 0 ty c.toList d (h.range 0 c.toList (fun j v hv => by simpa using hv)) hu hd (by rw [A.hi]; simp)
  simpa using this
theorem run_loadP {o : Nat} {cs : Array Value} (A : Agg P ty cs.size) (h : Rw w b t c) (hc : ∀ j v, cs[j]? = some v → c[o + j]? = some v) : (Instr.loadAt ty (.pointer (some ⟨b, o, none⟩))).run P w = .ok (.agg cs) w := by
  obtain ⟨d, hu, hd⟩ := A.hu
  have := run_loadAt_mid w b o ty cs.toList d (h.range o cs.toList (fun j v hv => hc j v (by simpa using hv))) hu hd (by rw [A.hi]; simp)
  simpa using this

theorem wpList_loadR (hw : Region.wanted o (yielded ops a.tmps) = true) (x : Operand) (ho : o.op = .load ty x) {p : Addr} (hx : a.eval x = .pointer (some p)) {v : Value} (hr : (Instr.loadAt ty (.pointer (some p))).run P w = .ok v w)
    (h : wpList P ops Q rest (a.put o.dst v) w) : wpList P ops Q (o :: rest) a w := by
  refine wpList_step fun K hK => ?_
  rw [if_pos hw]
  unfold Oper.wp execOp
  simp only [ho, hx, Sem.run_bind, Sem.run_pure, Result.andThen_ok, hr]
  exact hK _ _ h
/-- The same, the row ahead: an address that does not fit fails at once. -/
theorem wpList_loadW (h0 : Rw w b t c) (A : Agg P ty c.size) (hw : Region.wanted o (yielded ops a.tmps) = true) (x : Operand) (ho : o.op = .load ty x) (hx : a.eval x = .pointer (some ⟨b, 0, none⟩))
    (h : wpList P ops Q rest (a.put o.dst (.agg c)) w) : wpList P ops Q (o :: rest) a w := wpList_loadR hw x ho hx (run_loadR A h0) h
theorem wpList_loadPt (h0 : Rw w b t c) {q : Nat} {cs : Array Value} (hc : ∀ j v, cs[j]? = some v → c[q + j]? = some v) (A : Agg P ty cs.size) (hw : Region.wanted o (yielded ops a.tmps) = true) (x : Operand) (ho : o.op = .load ty x) (hx : a.eval x = .pointer (some ⟨b, q, none⟩))
    (h : wpList P ops Q rest (a.put o.dst (.agg cs)) w) : wpList P ops Q (o :: rest) a w := wpList_loadR hw x ho hx (run_loadP A h0 hc) h
theorem wpList_buildR (hw : Region.wanted o (yielded ops a.tmps) = true) (parts : List (Nat × Operand)) (ho : o.op = .build ty parts.toArray) {vals : List (Nat × Value)} (hv : parts.map (fun p => (p.1, a.eval p.2)) = vals) {v : Value} (hr : (Instr.build ty vals.toArray).run P w = .ok v w)
    (h : wpList P ops Q rest (a.put o.dst v) w) : wpList P ops Q (o :: rest) a w := by
  refine wpList_step fun K hK => ?_
  rw [if_pos hw]
  unfold Oper.wp execOp
  subst hv
  simp only [ho, Sem.run_bind, Sem.run_pure, Result.andThen_ok, List.map_toArray, hr]
  exact hK _ _ h
theorem run_storeR (hi : (P.info? ty).map (·.size) = some c.size) {c0 : Array Value} (h0 : Rw w b t c0) (hs : c0.size = c.size) (h1 : c.all (·.oneCell') = true) :
    (Instr.storeAt ty (.pointer (some ⟨b, 0, none⟩)) (.agg c)).run P w = .ok () (w.setRow b c) := by
  simp only [Instr.storeAt, Instr.sureAddr, Sem.run_bind, Sem.run_pure, Result.andThen]
  exact run_storeVar_row w b t ty c0 c h0 hi hs h1
theorem wpList_storeR (hw : Region.wanted o (yielded ops a.tmps) = true) (x y : Operand) (ho : o.op = .store ty x y) (hx : a.eval x = .pointer (some ⟨b, 0, none⟩)) (hy : a.eval y = .agg c) (hi : (P.info? ty).map (·.size) = some c.size) {c0 : Array Value} (h0 : Rw w b t c0) (hs : c0.size = c.size) (h1 : c.all (·.oneCell') = true)
    (h : wpList P ops Q rest (a.put o.dst undef) (w.setRow b c)) : wpList P ops Q (o :: rest) a w := by
  refine wpList_step fun K hK => ?_
  rw [if_pos hw]
  unfold Oper.wp execOp
  simp only [ho, hx, hy, Sem.run_bind, Sem.run_pure, Result.andThen_ok, run_storeR hi h0 hs h1]
  exact hK _ _ h
end

/-! ### The parts of a message, written -/
section
variable (m : M) (x : It) (l v : Value)
theorem M.set1 (n : Int) : (m.c l).setIfInBounds 1 (.int .i64 n) = ({ m with call := n } : M).c l := rfl
theorem M.set4 (n : Int) : (m.c l).setIfInBounds 4 (.int .i64 n) = ({ m with key := n } : M).c l := rfl
theorem M.set5 (n : Bool) : (m.c l).setIfInBounds 5 (.bool n) = ({ m with slow := n } : M).c l := rfl
theorem M.set9 : (m.c l).setIfInBounds 9 v = m.c v := rfl
end

theorem agg27 : Agg Tryz.prog 27 15 := ⟨⟨_, Tryz.underlying27, rfl⟩, by kernel_rfl⟩
theorem agg24 : Agg Tryz.prog 24 4 := ⟨⟨_, Tryz.underlying24, rfl⟩, by kernel_rfl⟩
theorem agg50 : Agg Tryz.prog 100 14 := ⟨⟨_, Tryz.underlying100, rfl⟩, by kernel_rfl⟩

/-! ### What is built -/
def noIt : It := ⟨ByteArray.empty, 0, 0, false⟩
def noM : M := ⟨0, 0, 0, 0, 0, false, false, 0, 0, noIt, 0⟩
@[reducible] def nilS : Value := .slice none 0 0
def M.head (k c f t : Int) : M := { noM with kind := k, call := c, frm := f, to := t }
def allOne (c : Array Value) : Prop := c.all (·.oneCell') = true
theorem run_build0 (w : World) : (Instr.build 27 #[]).run Tryz.prog w = .ok (.agg (noM.c nilS)) w := run_build w 27 _ _ (by kernel_rfl)
theorem run_build4 (k c f t : Int) (w : World) : (Instr.build 27 #[(0, .int .u8 k), (1, .int .i64 c), (2, .int .i64 f), (3, .int .i64 t)]).run Tryz.prog w = .ok (.agg ((M.head k c f t).c nilS)) w := run_build w 27 _ _ (by kernel_rfl)
theorem run_buildHop (k c f t y : Int) (s : Bool) (w : World) : (Instr.build 27 #[(0, .int .u8 k), (1, .int .i64 c), (2, .int .i64 f), (3, .int .i64 t), (4, .int .i64 y), (5, .bool s)]).run Tryz.prog w = .ok (.agg (({ M.head k c f t with key := y, slow := s } : M).c nilS)) w := run_build w 27 _ _ (by kernel_rfl)
theorem run_buildState (k c f t p : Int) (A : Option Addr) (n q : Nat) (w : World) : (Instr.build 27 #[(0, .int .u8 k), (1, .int .i64 c), (2, .int .i64 f), (3, .int .i64 t), (8, .int .i64 p), (9, .slice A n q)]).run Tryz.prog w = .ok (.agg (({ M.head k c f t with pred := p } : M).c (.slice A n q))) w := run_build w 27 _ _ (by kernel_rfl)
theorem run_buildI0 (w : World) : (Instr.build 24 #[]).run Tryz.prog w = .ok (.agg noIt.c) w := run_build w 24 _ _ (by kernel_rfl)
theorem run_buildI1 (s : ByteArray) (w : World) : (Instr.build 24 #[(0, .string s)]).run Tryz.prog w = .ok (.agg ({ noIt with key := s } : It).c) w := run_build w 24 _ _ (by kernel_rfl)
theorem run_buildF (m : M) (w : World) : (Instr.build 100 #[(0, .int .u8 m.kind), (1, .int .i64 m.call), (2, .int .i64 m.frm), (3, .int .i64 m.to), (4, .int .i64 m.key), (5, .int .i64 m.place), (6, .int .i64 m.pred), (7, .bool m.slow), (8, .bool m.done), (9, .agg m.it.c), (10, .int .i64 m.code)]).run Tryz.prog w = .ok (.agg m.f) w := run_build w 100 _ _ (by kernel_rfl)

end Go.Proofs.YtaacjpcckinaiaaGreat.Ms
set_option linter.unusedVariables false
set_option maxRecDepth 100000
set_option linter.unusedSimpArgs false
namespace Go.Proofs.YtaacjpcckinaiaaGreat.Ms
open Go.RowKit

theorem M.item (m : M) (l : Value) : ∀ j v, m.it.c[j]? = some v → (m.c l)[10 + j]? = some v := by
  intro j v h
  match j, h with
  | 0, h => exact h
  | 1, h => exact h
  | 2, h => exact h
  | 3, h => exact h

def placeB (p : Int) : Bool := decide (0 ≤ p) && decide (p < 65536)
def keyB (s : ByteArray) : Bool := decide (0 < s.size) && decide (s.size ≤ 20)
def valB (n : Int) : Bool := decide (0 ≤ n) && decide (n ≤ 1048576)
def pairB (x : It) : Bool := keyB x.key && valB x.val && valB x.ver
def asksB (m : M) : Bool := decide (0 < m.kind) && decide (m.kind ≤ 6)
def askerI (m : M) : Int := if asksB m then m.frm else m.to
def callOk (id n : Int) : Bool := placeB id && decide (1 ≤ n) && decide (n ≤ 1048576)
def told (m : M) : M := if asksB m then M.head (6 + m.kind) m.call m.to m.frm else noM
def callC (id n : Int) : Int := if callOk id n then id * 1048576 + n else 0
def callE (id n : Int) : Int := if callOk id n then 0 else 2
theorem callOk_iff {id n : Int} : callOk id n = true ↔ placeB id = true ∧ 1 ≤ n ∧ n ≤ 1048576 := by simp [callOk, and_assoc]
theorem call_yes {id n : Int} (h : callOk id n = true) : Value.tuple #[.int .i64 (callC id n), .int .i64 (callE id n)] = .tuple #[.int .i64 (id * 1048576 + n), .int .i64 0] := by simp [callC, callE, h]
theorem call_no {id n : Int} (h : ¬ callOk id n = true) : Value.tuple #[.int .i64 (callC id n), .int .i64 (callE id n)] = .tuple #[.int .i64 0, .int .i64 2] := by simp [callC, callE, h]
theorem place_iff {p : Int} : placeB p = true ↔ 0 ≤ p ∧ p < 65536 := by simp [placeB]

theorem Asks_any (m : M) (l : Value) (w : World) : Calls Tryz.prog 79 #[.agg (m.c l)] w fun e w' => e = .returned (.bool (asksB m)) ∧ Below w.heap.size w w' := by
  unfold asksB
  go_enter Tryz.func79, Tryz.ntmps79
  go_wp2_with fail
  all_goals (go_ret; exact ⟨ret_b (by simp; try omega), box_below _ _⟩)
theorem rAsks_any (m : M) (l : Value) (w : World) : Calls Tryz.prog 59 #[.agg (m.c l)] w fun e w' => e = .returned (.bool (asksB m)) ∧ Below w.heap.size w w' := by
  unfold asksB
  go_enter Tryz.func59, Tryz.ntmps59
  go_wp2_with fail
  all_goals (go_ret; exact ⟨ret_b (by rw [Bool.eq_iff_iff]; simp; try omega), box_below _ _⟩)
theorem Asker_any (m : M) (l : Value) (w : World) : Calls Tryz.prog 68 #[.agg (m.c l)] w fun e w' => e = .returned (.int .i64 (askerI m)) ∧ Below w.heap.size w w' := by
  unfold askerI
  obtain ⟨b, hk⟩ : ∃ b, asksB m = b := ⟨_, rfl⟩
  have k0 := fun w => Asks_any m l w
  rw [hk] at k0 ⊢
  have h0 := Rw.new w (m.c l) 27
  go_enter Tryz.func68, Tryz.ntmps68
  go_wp2_with (refine wpList_loadR rfl _ rfl rfl (run_loadR (c := m.c l) agg27 h0) ?_)
  refine (k0 _).mono ?_; rintro e w1 ⟨rfl, hb⟩
  have h1 := h0.below hb
  have hc := h1.cell
  have hB := (box_below w _).trans (hb.mono (Nat.le_of_lt (by simp)))
  clear hb h0 h1
  cases b
  all_goals (go_wp2_with fail; go_ret; exact ⟨rfl, hB⟩)
theorem rAsker_any (m : M) (l : Value) (w : World) : Calls Tryz.prog 40 #[.agg (m.c l)] w fun e w' => e = .returned (.int .i64 (askerI m)) ∧ Below w.heap.size w w' := by
  unfold askerI
  obtain ⟨b, hk⟩ : ∃ b, asksB m = b := ⟨_, rfl⟩
  have k0 := fun w => rAsks_any m l w
  rw [hk] at k0 ⊢
  have h0 := Rw.new w (m.c l) 27
  go_enter Tryz.func40, Tryz.ntmps40
  go_wp2_with (refine wpList_loadR rfl _ rfl rfl (run_loadR (c := m.c l) agg27 h0) ?_)
  refine (k0 _).mono ?_; rintro e w1 ⟨rfl, hb⟩
  have h1 := h0.below hb
  have hc := h1.cell
  have hB := (box_below w _).trans (hb.mono (Nat.le_of_lt (by simp)))
  clear hb h0 h1
  cases b
  all_goals (go_wp2_with fail; go_ret; exact ⟨rfl, hB⟩)

theorem place_any (p : Int) (w : World) : Calls Tryz.prog 66 #[.int .i64 p] w fun e w' => e = .returned (.bool (placeB p)) ∧ w' = w := by
  unfold placeB
  go_enter Tryz.func66, Tryz.ntmps66
  go_wp2_with fail
  all_goals (go_ret; exact ⟨ret_b (by rw [Bool.eq_iff_iff]; simp; try omega), rfl⟩)
theorem rplace_any (p : Int) (w : World) : Calls Tryz.prog 39 #[.int .i64 p] w fun e w' => e = .returned (.bool (placeB p)) ∧ w' = w := by
  unfold placeB
  go_enter Tryz.func39, Tryz.ntmps39
  go_wp2_with fail
  all_goals (go_ret; exact ⟨ret_b (by rw [Bool.eq_iff_iff]; simp; try omega), rfl⟩)
theorem key_any (s : ByteArray) (w : World) : Calls Tryz.prog 82 #[.string s] w fun e w' => e = .returned (.bool (keyB s)) ∧ w' = w := by
  unfold keyB
  go_enter Tryz.func82, Tryz.ntmps82
  go_wp2_with fail
  all_goals (go_ret; exact ⟨ret_b (by rw [Bool.eq_iff_iff]; simp; try omega), rfl⟩)
theorem value_any (p : Int) (w : World) : Calls Tryz.prog 104 #[.int .i64 p] w fun e w' => e = .returned (.bool (valB p)) ∧ w' = w := by
  unfold valB
  go_enter Tryz.func104, Tryz.ntmps104
  go_wp2_with fail
  all_goals (go_ret; exact ⟨ret_b (by rw [Bool.eq_iff_iff]; simp; try omega), rfl⟩)
theorem callOf_any (id c : Int) (hid : placeB id = true) (w : World) : Calls Tryz.prog 67 #[.int .i64 id, .int .i64 c] w fun e w' => e = .returned (.bool (decide (id * 1048576 < c) && decide (c ≤ (id + 1) * 1048576))) ∧ w' = w := by
  obtain ⟨h1, h2⟩ := place_iff.1 hid
  go_enter Tryz.func67, Tryz.ntmps67
  go_wp2_with fail
  all_goals (go_ret; exact ⟨ret_b (by rw [Bool.eq_iff_iff]; simp; try omega), rfl⟩)
theorem Pair_any (x : It) (w : World) : Calls Tryz.prog 81 #[.agg x.c] w fun e w' => e = .returned (.bool (pairB x)) ∧ Below w.heap.size w w' := by
  unfold pairB
  obtain ⟨b1, h1⟩ : ∃ b, keyB x.key = b := ⟨_, rfl⟩
  obtain ⟨b2, h2⟩ : ∃ b, valB x.val = b := ⟨_, rfl⟩
  obtain ⟨b3, h3⟩ : ∃ b, valB x.ver = b := ⟨_, rfl⟩
  have k1 := fun w => key_any x.key w
  have k2 := fun w => value_any x.val w
  have k3 := fun w => value_any x.ver w
  rw [h1] at k1
  rw [h2] at k2
  rw [h3] at k3
  rw [h1, h2, h3]
  go_enter Tryz.func81, Tryz.ntmps81
  go_wp2_with fail
  refine (k1 _).mono ?_; rintro e w1 ⟨rfl, rfl⟩
  cases b1
  · go_wp2_with fail
    go_ret
    exact ⟨rfl, box_below _ _⟩
  · go_wp2_with fail
    refine (k2 _).mono ?_; rintro e w1 ⟨rfl, rfl⟩
    cases b2
    · go_wp2_with fail
      go_ret
      exact ⟨rfl, box_below _ _⟩
    · go_wp2_with fail
      refine (k3 _).mono ?_; rintro e w1 ⟨rfl, rfl⟩
      go_wp2_with fail
      go_ret
      exact ⟨rfl, box_below _ _⟩
theorem rPair_any (x : It) (w : World) : Calls Tryz.prog 60 #[.agg x.c] w fun e w' => e = .returned (.bool (pairB x)) ∧ Below w.heap.size w w' := by
  have hp : pairB x = (decide (1 ≤ (x.key.size : Int)) && decide ((x.key.size : Int) ≤ 20) && decide (0 ≤ x.val) && decide (x.val ≤ 1048576) && decide (0 ≤ x.ver) && decide (x.ver ≤ 1048576)) := by
    unfold pairB keyB valB
    rw [Bool.eq_iff_iff]
    simp only [Bool.and_eq_true, decide_eq_true_eq]
    omega
  rw [hp]
  go_enter Tryz.func60, Tryz.ntmps60
  by_cases h1 : 1 ≤ (x.key.size : Int)
  · by_cases h2 : (x.key.size : Int) ≤ 20
    · by_cases h3 : 0 ≤ x.val
      · by_cases h4 : x.val ≤ 1048576
        · by_cases h5 : 0 ≤ x.ver
          · go_wp2_with fail
            all_goals (go_ret; exact ⟨ret_b (by simp [*] <;> omega), box_below _ _⟩)
          · go_wp2_with fail
            all_goals (go_ret; exact ⟨ret_b (by simp [*] <;> omega), box_below _ _⟩)
        · go_wp2_with fail
          all_goals (go_ret; exact ⟨ret_b (by simp [*] <;> omega), box_below _ _⟩)
      · go_wp2_with fail
        all_goals (go_ret; exact ⟨ret_b (by simp [*] <;> omega), box_below _ _⟩)
    · go_wp2_with fail
      all_goals (go_ret; exact ⟨ret_b (by simp [*] <;> omega), box_below _ _⟩)
  · go_wp2_with fail
    all_goals (go_ret; exact ⟨ret_b (by simp [*] <;> omega), box_below _ _⟩)
theorem M.one (m : M) {l : Value} (hl : l.oneCell' = true) : (m.c l).all (·.oneCell') = true := by
  rw [Array.all_eq_true_iff_forall_mem]
  intro v hv
  simp only [M.c, List.mem_toArray, List.mem_cons, List.not_mem_nil, or_false] at hv
  rcases hv with rfl | rfl | rfl | rfl | rfl | rfl | rfl | rfl | rfl | rfl | rfl | rfl | rfl | rfl | rfl
  all_goals first | exact hl | rfl
theorem two_boxes (w : World) (c z : Array Value) (t u : TypeId) : Rw ((w.alloc (.cells c t)).alloc (.cells z u)) w.heap.size t c ∧ Rw ((w.alloc (.cells c t)).alloc (.cells z u)) (w.heap.size + 1) u z ∧ Below w.heap.size w ((w.alloc (.cells c t)).alloc (.cells z u)) := by
  refine ⟨(Rw.new w c t).alloc _, ?_, (box_below w _).alloc (by simp) _⟩
  have := Rw.new (w.alloc (.cells c t)) z u
  rwa [World.size_alloc] at this
end Go.Proofs.YtaacjpcckinaiaaGreat.Ms
set_option linter.unusedVariables false
set_option maxRecDepth 100000
set_option linter.unusedSimpArgs false
namespace Go.Proofs.YtaacjpcckinaiaaGreat.Ms
open Go.RowKit Go.Shelf

def itEq (x y : It) : Bool := x.key.toList == y.key.toList && (x.val == y.val && (x.ver == y.ver && x.gone == y.gone))
def mEq (x y : M) : Bool := x.kind == y.kind && (x.call == y.call && (x.frm == y.frm && (x.to == y.to && (x.key == y.key && (x.place == y.place && (x.pred == y.pred && (x.slow == y.slow && (x.done == y.done && (itEq x.it y.it && x.code == y.code)))))))))
theorem bytes_inj {a b : ByteArray} (h : a.toList = b.toList) : a = b := by
  rw [ByteArray.toList_eq, ByteArray.toList_eq] at h
  exact ByteArray.ext (Array.toList_inj.1 h)
theorem itEq_iff {x y : It} : itEq x y = true ↔ x = y := by
  obtain ⟨a, b, c, d⟩ := x
  obtain ⟨a', b', c', d'⟩ := y
  simp only [itEq, Bool.and_eq_true, beq_iff_eq, It.mk.injEq]
  exact ⟨fun ⟨h1, h2⟩ => ⟨bytes_inj h1, h2⟩, fun ⟨h1, h2⟩ => ⟨by rw [h1], h2⟩⟩
theorem mEq_iff {x y : M} : mEq x y = true ↔ x = y := by
  obtain ⟨a, b, c, d, e, f, g, h, i, j, k⟩ := x
  obtain ⟨a', b', c', d', e', f', g', h', i', j', k'⟩ := y
  simp only [mEq, Bool.and_eq_true, beq_iff_eq, M.mk.injEq, itEq_iff]
  constructor
  · rintro ⟨h1, h2, h3, h4, h5, h6, h7, h8, h9, h10, h11⟩
    exact ⟨h1, h2, h3, h4, h5, h8, h9, h6, h7, h10, h11⟩
  · rintro ⟨h1, h2, h3, h4, h5, h8, h9, h6, h7, h10, h11⟩
    exact ⟨h1, h2, h3, h4, h5, h6, h7, h8, h9, h10, h11⟩

section
variable (w : World)
theorem st24 : Tryz.prog.stoodInHeld 24 = false := by kernel_rfl
theorem st50 : Tryz.prog.stoodInHeld 100 = false := by kernel_rfl
theorem eg24 : Tryz.prog.eqGuardType Tryz.prog.depth 24 = false := by kernel_rfl
theorem eg50 : Tryz.prog.eqGuardType Tryz.prog.depth 100 = false := by kernel_rfl
theorem equalIn_I (d : Nat) (x y : It) : (Op.equalIn (d + 1 + 1) 24 (.agg x.c) (.agg y.c)).run Tryz.prog w = .ok (itEq x y) w := by
  rw [run_equalIn_agg w (d + 1) 24 x.c y.c (by rw [Program.fieldsOf, Tryz.underlying24]) st24]
  rw [Program.fieldsOf, Tryz.underlying24]
  unfold itEq
  obtain ⟨b1, h1⟩ : ∃ b, (x.key.toList == y.key.toList) = b := ⟨_, rfl⟩
  obtain ⟨b2, h2⟩ : ∃ b, (x.val == y.val) = b := ⟨_, rfl⟩
  obtain ⟨b3, h3⟩ : ∃ b, (x.ver == y.ver) = b := ⟨_, rfl⟩
  obtain ⟨b4, h4⟩ : ∃ b, (x.gone == y.gone) = b := ⟨_, rfl⟩
  rw [h1, h2, h3, h4]
  cases b1 <;> cases b2 <;> cases b3 <;> cases b4 <;> simp [go_sem, part, isAgg, h1, h2, h3, h4]
@[go_sem] theorem M.fl0 (m : M) : m.f[0]? = some (.int .u8 m.kind) := rfl
@[go_sem] theorem M.fl1 (m : M) : m.f[1]? = some (.int .i64 m.call) := rfl
@[go_sem] theorem M.fl2 (m : M) : m.f[2]? = some (.int .i64 m.frm) := rfl
@[go_sem] theorem M.fl3 (m : M) : m.f[3]? = some (.int .i64 m.to) := rfl
@[go_sem] theorem M.fl4 (m : M) : m.f[4]? = some (.int .i64 m.key) := rfl
@[go_sem] theorem M.fl5 (m : M) : m.f[5]? = some (.int .i64 m.place) := rfl
@[go_sem] theorem M.fl6 (m : M) : m.f[6]? = some (.int .i64 m.pred) := rfl
@[go_sem] theorem M.fl7 (m : M) : m.f[7]? = some (.bool m.slow) := rfl
@[go_sem] theorem M.fl8 (m : M) : m.f[8]? = some (.bool m.done) := rfl
@[go_sem] theorem M.fl13 (m : M) : m.f[13]? = some (.int .i64 m.code) := rfl
@[go_sem] theorem M.fl9 (m : M) : m.f.extract 9 13 = m.it.c := rfl
theorem eqF_step {P : Program} {w : World} {d : Nat} {xs ys : Array Value} {f : Field} {fs : List Field} {a b : Value} {r s : Bool} (hn : f.name ≠ "_") (hx : (part f.type xs f.offset).run P w = .ok a w) (hy : (part f.type ys f.offset).run P w = .ok b w)
    (he : (Op.equalIn d f.type a b).run P w = .ok r w) (hs : (Op.eqFields d xs ys fs).run P w = .ok s w) : (Op.eqFields d xs ys (f :: fs)).run P w = .ok (r && s) w := by
  simp only [Op.eqFields, hn, ne_eq, not_false_eq_true, if_true, Sem.run_bind, hx, hy, he, Result.andThen_ok]
  cases r
  · simp
  · simpa using hs
theorem part_1 {P : Program} {w : World} {t : TypeId} {xs : Array Value} {off : Nat} {v : Value} (ht : (isAgg t).run P w = .ok false w) (h : xs[off]? = some v) : (part t xs off).run P w = .ok v w := by
  simp [part, ht, h]
theorem part_I (m : M) : (part 24 m.f 9).run Tryz.prog w = .ok (.agg m.it.c) w := by
  have h : (isAgg 24).run Tryz.prog w = .ok true w := by simp [isAgg, run_underlying Tryz.underlying24 w]
  have hs : (sizeOf 24).run Tryz.prog w = .ok 4 w := by
    have h := agg24.hi
    cases hq : Tryz.prog.info? 24 with
    | none => rw [hq] at h; cases h
    | some i =>
      rw [hq] at h
      have h : i.size = 4 := by simpa using h
      simp [sizeOf, typeInfo, hq, h]
  simp [part, h, hs, M.fl9]
theorem notAgg3 : (isAgg 3).run Tryz.prog w = .ok false w := by simp [isAgg, run_underlying Tryz.underlying3 w]
theorem notAgg4 : (isAgg 4).run Tryz.prog w = .ok false w := by simp [isAgg, run_underlying Tryz.underlying4 w]
theorem notAgg5 : (isAgg 5).run Tryz.prog w = .ok false w := by simp [isAgg, run_underlying Tryz.underlying5 w]
theorem notAgg25 : (isAgg 25).run Tryz.prog w = .ok false w := by simp [isAgg, run_underlying Tryz.underlying25 w]
theorem equalIn_F (d : Nat) (x y : M) : (Op.equalIn (d + 1 + 1 + 1) 100 (.agg x.f) (.agg y.f)).run Tryz.prog w = .ok (mEq x y) w := by
  rw [run_equalIn_agg w (d + 1 + 1) 100 x.f y.f (by rw [Program.fieldsOf, Tryz.underlying100]) st50]
  rw [Program.fieldsOf, Tryz.underlying100]
  have hm : mEq x y = (x.kind == y.kind && (x.call == y.call && (x.frm == y.frm && (x.to == y.to && (x.key == y.key && (x.place == y.place && (x.pred == y.pred && (x.slow == y.slow && (x.done == y.done && (itEq x.it y.it && (x.code == y.code && true))))))))))) := by unfold mEq; rw [Bool.and_true]
  rw [hm]
  refine eqF_step (by decide) (part_1 (notAgg5 w) (M.fl0 x)) (part_1 (notAgg5 w) (M.fl0 y)) (run_equalIn_int w _ 5 .u8 .u8 _ _ Tryz.underlying5) ?_
  refine eqF_step (by decide) (part_1 (notAgg3 w) (M.fl1 x)) (part_1 (notAgg3 w) (M.fl1 y)) (run_equalIn_int w _ 3 .i64 .i64 _ _ Tryz.underlying3) ?_
  refine eqF_step (by decide) (part_1 (notAgg3 w) (M.fl2 x)) (part_1 (notAgg3 w) (M.fl2 y)) (run_equalIn_int w _ 3 .i64 .i64 _ _ Tryz.underlying3) ?_
  refine eqF_step (by decide) (part_1 (notAgg3 w) (M.fl3 x)) (part_1 (notAgg3 w) (M.fl3 y)) (run_equalIn_int w _ 3 .i64 .i64 _ _ Tryz.underlying3) ?_
  refine eqF_step (by decide) (part_1 (notAgg3 w) (M.fl4 x)) (part_1 (notAgg3 w) (M.fl4 y)) (run_equalIn_int w _ 3 .i64 .i64 _ _ Tryz.underlying3) ?_
  refine eqF_step (by decide) (part_1 (notAgg3 w) (M.fl5 x)) (part_1 (notAgg3 w) (M.fl5 y)) (run_equalIn_int w _ 3 .i64 .i64 _ _ Tryz.underlying3) ?_
  refine eqF_step (by decide) (part_1 (notAgg3 w) (M.fl6 x)) (part_1 (notAgg3 w) (M.fl6 y)) (run_equalIn_int w _ 3 .i64 .i64 _ _ Tryz.underlying3) ?_
  refine eqF_step (by decide) (part_1 (notAgg4 w) (M.fl7 x)) (part_1 (notAgg4 w) (M.fl7 y)) (run_equalIn_bool' w _ 4 _ _ Tryz.underlying4) ?_
  refine eqF_step (by decide) (part_1 (notAgg4 w) (M.fl8 x)) (part_1 (notAgg4 w) (M.fl8 y)) (run_equalIn_bool' w _ 4 _ _ Tryz.underlying4) ?_
  refine eqF_step (by decide) (part_I w x) (part_I w y) (equalIn_I w d x.it y.it) ?_
  refine eqF_step (by decide) (part_1 (notAgg25 w) (M.fl13 x)) (part_1 (notAgg25 w) (M.fl13 y)) (run_equalIn_int w _ 25 .i64 .i64 _ _ Tryz.underlying25) ?_
  simp [Op.eqFields]
theorem run_eqI (x y : It) : (binOp .eql 24 (.agg x.c) (.agg y.c)).run Tryz.prog w = .ok (.bool (itEq x y)) w := by
  rw [run_eql_struct, equalIn_I w 9998 x y]; rfl
theorem run_eqF (x y : M) : (binOp .eql 100 (.agg x.f) (.agg y.f)).run Tryz.prog w = .ok (.bool (mEq x y)) w := by
  rw [run_eql_struct, equalIn_F w 9997 x y]; rfl
end

section
variable {P : Program} {ops : Array Oper} {rest : List Oper} {o : Oper} {a : Act} {w : World} {Q : Exit → Act → World → Prop}
theorem exec_eqA {ty : TypeId} (x y : Operand) (ho : o.op = .binOp .eql ty x y ty) {c c' : Array Value} (hx : a.eval x = .agg c) (hy : a.eval y = .agg c') (hg : P.eqGuardType P.depth ty = false) {v : Value} (hr : (binOp .eql ty (.agg c) (.agg c')).run P w = .ok v w) :
    (execOp a.eval o).run P w = .ok (.value v) w := by
  unfold execOp
  simp only [ho, hx, hy, Sem.run_bind, Sem.run_pure, Result.andThen_ok, run_eqGuard_agg w .eql ty x y c c' hg, hr]
theorem wpList_eqR (hw : Region.wanted o (yielded ops a.tmps) = true) {ty : TypeId} (x y : Operand) (ho : o.op = .binOp .eql ty x y ty) {c c' : Array Value} (hx : a.eval x = .agg c) (hy : a.eval y = .agg c') (hg : P.eqGuardType P.depth ty = false) {v : Value} (hr : (binOp .eql ty (.agg c) (.agg c')).run P w = .ok v w)
    (h : wpList P ops Q rest (a.put o.dst v) w) : wpList P ops Q (o :: rest) a w := by
  refine wpList_step fun K hK => ?_
  rw [if_pos hw]
  unfold Oper.wp
  rw [exec_eqA x y ho hx hy hg hr]
  exact hK _ _ h
end
end Go.Proofs.YtaacjpcckinaiaaGreat.Ms
set_option linter.unusedVariables false
set_option maxRecDepth 100000
set_option linter.unusedSimpArgs false
namespace Go.Proofs.YtaacjpcckinaiaaGreat.Ms
open Go.RowKit Go.Shelf

theorem el22 : ElOf Tryz.prog 22 3 (.int .i64 0) 8 := ⟨Tryz.underlying22, by kernel_rfl, rfl, by decide⟩
theorem iv_take (l : List Int) (k : Nat) : (iv l).take k = iv (l.take k) := by simp [iv, List.map_take]
theorem iv_drop (l : List Int) (k : Nat) : (iv l).drop k = iv (l.drop k) := by simp [iv, List.map_drop]
theorem _root_.Go.Proofs.YtaacjpcckinaiaaGreat.Sl.ints {w : World} {v : Value} {l : List Int} (H : Sl w v (iv l)) : (v = .slice none 0 0 ∧ l = []) ∨ ∃ b off c, v = .slice (some ⟨b, off, none⟩) l.length c ∧ l.length ≤ c ∧ (c : Int) ≤ 9223372036854775807 ∧ b < w.heap.size ∧ ∀ j (hj : j < l.length), w.cell? ⟨b, off + j, none⟩ = some (.int .i64 l[j]) := by
  rcases H with ⟨rfl, h0⟩ | ⟨b, off, c, rfl, h1, h2, h3, h4⟩
  · exact .inl ⟨rfl, List.eq_nil_of_length_eq_zero (by rw [← iv_length, h0]; rfl)⟩
  · rw [iv_length] at *
    exact .inr ⟨b, off, c, rfl, h1, by unfold maxLen at h2; omega, h3, fun j hj => h4 j _ (iv_get l j hj)⟩

set_option maxHeartbeats 1000000 in
theorem Equal_len (A B : Option Addr) (n m c d : Nat) (w : World) (h : n ≠ m) : Calls Tryz.prog 77 #[.slice A n c, .slice B m d] w fun e w' => e = .returned (.bool false) ∧ w = w' := by
  have hz : ((n : Int) != m) = true := by rw [bne_iff_ne]; omega
  clear h
  go_enter Tryz.func77, Tryz.ntmps77
  go_wp2
  go_ret
  exact ⟨rfl, rfl⟩

set_option maxHeartbeats 1000000 in
theorem Equal_zero (A B : Option Addr) (c d : Nat) (w : World) : Calls Tryz.prog 77 #[.slice A 0 c, .slice B 0 d] w fun e w' => e = .returned (.bool true) ∧ w = w' := by
  go_enter Tryz.func77, Tryz.ntmps77
  go_wp2
  go_loop [13] (fun i => i = .int .i64 0) (fun _ => 0)
  case atStart => rfl
  case round =>
    obtain rfl := hrel
    go_wp2
    go_ret
    exact ⟨rfl, rfl⟩

set_option maxRecDepth 100000 in
set_option maxHeartbeats 1000000 in
theorem Equal_loop (b off c b2 off2 d : Nat) (la lb : List Int) (w : World) (hl : la.length = lb.length) (hm : (la.length : Int) ≤ 9223372036854775807) (h1 : ∀ j (hj : j < la.length), w.cell? ⟨b, off + j, none⟩ = some (.int .i64 la[j])) (h2 : ∀ j (hj : j < lb.length), w.cell? ⟨b2, off2 + j, none⟩ = some (.int .i64 lb[j])) :
    Calls Tryz.prog 77 #[.slice (some ⟨b, off, none⟩) la.length c, .slice (some ⟨b2, off2, none⟩) la.length d] w fun e w' => e = .returned (.bool (decide (la = lb))) ∧ ∃ n, w' = w.drewN n := by
  have H1 := Lib.hid h1
  have H2 := Lib.hid h2
  have HL := Lib.hid hl
  clear h1 h2 hl
  have hz : ((la.length : Int) != la.length) = false := by simp
  go_enter Tryz.func77, Tryz.ntmps77
  go_wp2
  go_loopw [13] (fun i W => ∃ k : Nat, k ≤ la.length ∧ i = .int .i64 k ∧ la.take k = lb.take k ∧ ∃ n, W = w.drewN n) (fun i _ => la.length - (intOf i).toNat)
  case atStart => exact ⟨0, by omega, rfl, by simp, 0, rfl⟩
  case round =>
    obtain ⟨k, hk, rfl, ht, nq, rfl⟩ := hrel
    have HT := Lib.hid ht
    clear ht
    by_cases hlt : k < la.length
    · have hc1 := H1.out k hlt
      have hc2 := H2.out k (by rw [← HL.out]; exact hlt)
      by_cases he : la[k] = lb[k]'(by rw [← HL.out]; exact hlt)
      · have hn : (la[k] != lb[k]'(by rw [← HL.out]; exact hlt)) = false := by simp [he]
        have HE := Lib.hid he
        clear he
        go_wp2
        go_quiet (fail)
        go_wp2
        go_roundw
        case rel =>
          refine ⟨k + 1, by omega, by go_num, ?_, _, by first | rfl | exact World.drewN_drewN _ _ _⟩
          · rw [List.take_succ_eq_append_getElem hlt, List.take_succ_eq_append_getElem (by rw [← HL.out]; exact hlt), HT.out, HE.out]
        case measure => simp [intOf]; omega
      · have hn : (la[k] != lb[k]'(by rw [← HL.out]; exact hlt)) = true := by simp [he]
        have HE := Lib.hid he
        clear he
        go_wp2
        go_quiet (fail)
        go_wp2
        go_ret
        refine ⟨?_, _, by first | rfl | exact World.drewN_drewN _ _ _⟩
        · have : ¬ la = lb := fun e => HE.out (by simp [e])
          simp [this]
    · obtain rfl : k = la.length := by omega
      go_wp2
      go_ret
      refine ⟨?_, nq, rfl⟩
      have h1 := HT.out
      rw [List.take_length, HL.out, List.take_length] at h1
      simp [h1]

theorem Equal_any (va vb : Value) (la lb : List Int) (w : World) (h1 : Sl w va (iv la)) (h2 : Sl w vb (iv lb)) :
    Calls Tryz.prog 77 #[va, vb] w fun e w' => e = .returned (.bool (decide (la = lb))) ∧ Below w.heap.size w w' := by
  by_cases hl : la.length = lb.length
  · rcases h1.ints with ⟨rfl, rfl⟩ | ⟨b, off, c, rfl, hc, hcm, h3, h4⟩
    · have hb0 : lb = [] := List.eq_nil_of_length_eq_zero hl.symm
      subst hb0
      obtain ⟨B, d, rfl⟩ := h2.form
      refine (Equal_zero none B 0 d w).mono ?_
      rintro e w' ⟨rfl, rfl⟩
      exact ⟨rfl, Below.refl _ _⟩
    · rcases h2.ints with ⟨rfl, rfl⟩ | ⟨b2, off2, d, rfl, _, _, h5, h6⟩
      · have ha0 : la = [] := List.eq_nil_of_length_eq_zero hl
        subst ha0
        refine (Equal_zero _ none c 0 w).mono ?_
        rintro e w' ⟨rfl, rfl⟩
        exact ⟨rfl, Below.refl _ _⟩
      · rw [← hl]
        refine (Equal_loop b off c b2 off2 d la lb w hl (by omega) h4 h6).mono ?_
        rintro e w' ⟨rfl, n, rfl⟩
        exact ⟨rfl, below_drewN n⟩
  · obtain ⟨A, c, rfl⟩ := h1.form
    obtain ⟨B, d, rfl⟩ := h2.form
    refine (Equal_len A B _ _ c d w (by rw [iv_length, iv_length]; exact hl)).mono ?_
    rintro e w' ⟨rfl, rfl⟩
    have : ¬ la = lb := fun e => hl (by rw [e])
    exact ⟨by simp [this], Below.refl _ _⟩

/-! ### Is one of them -/
set_option maxRecDepth 100000 in
set_option maxHeartbeats 1000000 in
theorem Index_any (v : Value) (l : List Int) (p : Int) (w : World) (h : Sl w v (iv l)) :
    Calls Tryz.prog 103 #[v, .int .i64 p] w fun e w' => ∃ r : Int, e = .returned (.int .i64 r) ∧ decide (0 ≤ r) = decide (p ∈ l) ∧ w = w' := by
  rcases h.ints with ⟨rfl, rfl⟩ | ⟨b, off, c, rfl, hc, hcm, h3, h4⟩
  · go_enter Tryz.func103, Tryz.ntmps103
    go_wp2
    go_loop [8] (fun i => i = .int .i64 0) (fun _ => 0)
    case atStart => rfl
    case round =>
      obtain rfl := hrel
      go_wp2
      go_ret
      exact ⟨_, rfl, by simp, rfl⟩
  · have H4 := Lib.hid h4
    clear h4 h h3
    go_enter Tryz.func103, Tryz.ntmps103
    go_wp2
    go_loop [8] (fun i => ∃ k : Nat, k ≤ l.length ∧ i = .int .i64 k ∧ p ∉ l.take k) (fun i => l.length - (intOf i).toNat)
    case atStart => exact ⟨0, by omega, rfl, by simp⟩
    case round =>
      obtain ⟨k, hk, rfl, ht⟩ := hrel
      have HT := Lib.hid ht
      clear ht
      by_cases hlt : k < l.length
      · have hc1 := H4.out k hlt
        by_cases he : p = l[k]
        · have hn : (p == l[k]) = true := by simp [he]
          have HE := Lib.hid he
          clear he
          go_wp2
          go_ret
          refine ⟨_, rfl, ?_, rfl⟩
          have : p ∈ l := by rw [HE.out]; exact List.getElem_mem hlt
          simp [this]
        · have hn : (p == l[k]) = false := by simp [he]
          have HE := Lib.hid he
          clear he
          go_wp2
          go_round
          case rel =>
            refine ⟨k + 1, by omega, by go_num, ?_⟩
            rw [List.take_succ_eq_append_getElem hlt, List.mem_append]
            rintro (h | h)
            · exact HT.out h
            · simp at h; exact HE.out h
          case measure => simp [intOf]; omega
      · obtain rfl : k = l.length := by omega
        go_wp2
        go_ret
        refine ⟨_, rfl, ?_, rfl⟩
        have := HT.out
        rw [List.take_length] at this
        simp [this]
theorem Contains_any (v : Value) (l : List Int) (p : Int) (w : World) (h : Sl w v (iv l)) :
    Calls Tryz.prog 80 #[v, .int .i64 p] w fun e w' => e = .returned (.bool (decide (p ∈ l))) ∧ w = w' := by
  go_enter Tryz.func80, Tryz.ntmps80
  go_wp2_with fail
  refine (Index_any v l p w h).mono ?_; rintro e w1 ⟨r, rfl, hr, rfl⟩
  go_wp2_with fail
  go_ret
  exact ⟨rfl, rfl⟩

/-! ### Others, unlike -/
def othersP (id : Int) (l : List Int) : Prop := id ∉ l ∧ l.Nodup
instance (id : Int) (l : List Int) : Decidable (othersP id l) := by unfold othersP; exact inferInstance
theorem othersP_succ (id : Int) (l : List Int) (k : Nat) (hk : k < l.length) : othersP id (l.take (k + 1)) ↔ othersP id (l.take k) ∧ l[k] ≠ id ∧ l[k] ∉ l.take k := by
  unfold othersP
  rw [List.take_succ_eq_append_getElem hk, List.nodup_append]
  simp only [List.mem_append, List.mem_singleton, List.nodup_cons, List.not_mem_nil, not_false_eq_true, List.nodup_nil, and_self, true_and]
  constructor
  · rintro ⟨h1, h2, h3⟩
    exact ⟨⟨fun h => h1 (.inl h), h2⟩, fun h => h1 (.inr h.symm), fun h => h3 _ h _ rfl rfl⟩
  · rintro ⟨⟨h1, h2⟩, h3, h4⟩
    exact ⟨fun h => h.elim h1 (fun e => h3 e.symm), h2, fun a ha b hb e => h4 (by rw [← hb, ← e]; exact ha)⟩
theorem othersP_take (id : Int) (l : List Int) (k : Nat) (h : othersP id l) : othersP id (l.take k) := ⟨fun hm => h.1 (List.mem_of_mem_take hm), h.2.sublist (List.take_sublist k l)⟩

set_option maxRecDepth 100000 in
set_option maxHeartbeats 1000000 in
theorem others_any (id : Int) (v : Value) (l : List Int) (w : World) (h : Sl w v (iv l)) :
    Calls Tryz.prog 69 #[.int .i64 id, v] w fun e w' => e = .returned (.bool (decide (othersP id l))) ∧ w = w' := by
  have HS := Lib.hid h
  rcases h.ints with ⟨rfl, rfl⟩ | ⟨b, off, c, rfl, hc, hcm, h3, h4⟩
  · go_enter Tryz.func69, Tryz.ntmps69
    go_wp2
    go_loop [9] (fun i => i = .int .i64 0) (fun _ => 0)
    case atStart => rfl
    case round =>
      obtain rfl := hrel
      go_wp2
      go_ret
      exact ⟨ret_b (by simp [othersP]), rfl⟩
  · have H4 := Lib.hid h4
    clear h4 h h3
    go_enter Tryz.func69, Tryz.ntmps69
    go_wp2
    go_loop [9] (fun i => ∃ k : Nat, k ≤ l.length ∧ i = .int .i64 k ∧ othersP id (l.take k)) (fun i => l.length - (intOf i).toNat)
    case atStart => exact ⟨0, by omega, rfl, by simp [othersP]⟩
    case round =>
      obtain ⟨k, hk, rfl, ht⟩ := hrel
      have HT := Lib.hid ht
      clear ht
      by_cases hlt : k < l.length
      · have hc1 := H4.out k hlt
        have HI := Lib.hid (othersP_succ id l k hlt)
        by_cases he : l[k] = id
        · have hn : (l[k] == id) = true := by simp [he]
          have HE := Lib.hid he
          clear he
          go_wp2
          go_ret
          refine ⟨?_, rfl⟩
          have : ¬ othersP id l := fun h => (HI.out.1 (othersP_take id l _ h)).2.1 HE.out
          simp [this]
        · have hn : (l[k] == id) = false := by simp [he]
          have HE := Lib.hid he
          clear he
          have hcut := fun A c' (hs : Sl w (.slice A (k - 0) c') (((iv l).take k).drop 0)) => Contains_any (.slice A (k - 0) c') (l.take k) l[k] w (by rw [List.drop_zero, iv_take] at hs; exact hs)
          have HC := Lib.hid hcut
          clear hcut
          go_wp2_with (with_reducible show wpList _ _ _ (Oper.mk _ (Op.slice _ _ _ _ _) _ _ _ _ :: _) _ _
                       refine wpList_cutw el22 rfl _ _ _ rfl _ _ rfl HS.out 0 k (by omega) (by rw [iv_length]; exact hk) (.inr ⟨rfl, rfl⟩) (.inl rfl) ?_
                       intro A6 c6 s6)
          refine (HC.out _ _ s6).mono ?_; rintro e w1 ⟨rfl, rfl⟩
          by_cases hm : l[k] ∈ l.take k
          · rw [decide_eq_true hm]
            have HM := Lib.hid hm
            clear hm
            go_wp2_with fail
            go_ret
            refine ⟨?_, rfl⟩
            have : ¬ othersP id l := fun h => (HI.out.1 (othersP_take id l _ h)).2.2 HM.out
            simp [this]
          · rw [decide_eq_false hm]
            have HM := Lib.hid hm
            clear hm
            go_wp2_with fail
            go_round
            case rel => exact ⟨k + 1, by omega, by go_num, HI.out.2 ⟨HT.out, HE.out, HM.out⟩⟩
            case measure => simp [intOf]; omega
      · obtain rfl : k = l.length := by omega
        go_wp2
        go_ret
        have := HT.out
        rw [List.take_length] at this
        exact ⟨by simp [this], rfl⟩
end Go.Proofs.YtaacjpcckinaiaaGreat.Ms
set_option linter.unusedVariables false
set_option maxRecDepth 100000
set_option linter.unusedSimpArgs false
namespace Go.Proofs.YtaacjpcckinaiaaGreat.Ms
open Go.RowKit Go.Shelf

set_option maxHeartbeats 1000000 in
theorem flatOf_any (m : M) (l : Value) (w : World) : Calls Tryz.prog 76 #[.agg (m.c l)] w fun e w' => e = .returned (.agg m.f) ∧ Below w.heap.size w w' := by
  obtain ⟨h0, g0, hB0⟩ := two_boxes w (m.c l) (M.f noM) 27 100
  have hB2 := fun c => below_setRow hB0 (g := w.heap.size + 1) (by omega) c
  go_enter Tryz.func76, Tryz.ntmps76
  go_wp2_with (first
    | (refine wpList_loadR (ty := 24) (v := .agg m.it.c) rfl _ rfl rfl (run_loadP agg24 h0 (m.item l)) ?_)
    | (with_reducible show wpList _ _ _ (Oper.mk _ (Op.build _ _) _ _ _ _ :: _) _ _
       refine wpList_buildR (vals := [(0, .int .u8 m.kind), (1, .int .i64 m.call), (2, .int .i64 m.frm), (3, .int .i64 m.to), (4, .int .i64 m.key), (5, .int .i64 m.place), (6, .int .i64 m.pred), (7, .bool m.slow), (8, .bool m.done), (9, .agg m.it.c), (10, .int .i64 m.code)]) rfl _ rfl (by simp [Act.eval]) (run_buildF m _) ?_)
    | (with_reducible show wpList _ _ _ (Oper.mk _ (Op.store _ _ _) _ _ _ _ :: _) _ _
       refine wpList_storeR (c := m.f) rfl _ _ rfl rfl rfl agg50.hi g0 rfl (by simp [M.f, Value.oneCell']) ?_))
  exact bodyPost_ret (results_cell_row rfl _ _ _ _ _ _ _ rfl g0.setRow Tryz.underlying100 rfl agg50.hi) rfl ⟨rfl, hB2 _⟩
end Go.Proofs.YtaacjpcckinaiaaGreat.Ms
set_option linter.unusedVariables false
set_option maxRecDepth 100000
set_option linter.unusedSimpArgs false
namespace Go.Proofs.YtaacjpcckinaiaaGreat.Ms
open Go.RowKit Go.Shelf

/-! ### Rows of the call's own, written -/
/-- Three rows that were made one behind the other, and all that lay lies. -/
structure S3 (w0 w : World) (c1 c2 c3 : Array Value) : Prop where
  r1 : Rw w w0.heap.size 27 c1
  r2 : Rw w (w0.heap.size + 1) 27 c2
  r3 : Rw w (w0.heap.size + 1 + 1) 27 c3
  below : Below w0.heap.size w0 w
theorem S3.new (w : World) (c1 c2 c3 : Array Value) : S3 w (((w.alloc (.cells c1 27)).alloc (.cells c2 27)).alloc (.cells c3 27)) c1 c2 c3 := by
  obtain ⟨h1, h2, h3⟩ := two_boxes w c1 c2 27 27
  refine ⟨h1.alloc _, h2.alloc _, ?_, h3.alloc (by simp; omega) _⟩
  have := Rw.new ((w.alloc (.cells c1 27)).alloc (.cells c2 27)) c3 27
  rwa [World.size_alloc, World.size_alloc] at this
section
variable {w0 w : World} {c1 c2 c3 : Array Value} (h : S3 w0 w c1 c2 c3)
include h
theorem S3.drew : S3 w0 w.drew c1 c2 c3 := ⟨h.r1, h.r2, h.r3, h.below.drew⟩
theorem S3.set3 (j : Nat) (v : Value) : S3 w0 (w.setCell ⟨w0.heap.size + 1 + 1, j, none⟩ v) c1 c2 (c3.setIfInBounds j v) :=
  ⟨h.r1.set_other (by omega) j v, h.r2.set_other (by omega) j v, h.r3.set j v, h.below.setCell (p := ⟨w0.heap.size + 1 + 1, j, none⟩) (by show w0.heap.size ≤ w0.heap.size + 1 + 1; omega) v⟩
theorem S3.set1 (j : Nat) (v : Value) : S3 w0 (w.setCell ⟨w0.heap.size, j, none⟩ v) (c1.setIfInBounds j v) c2 c3 :=
  ⟨h.r1.set j v, h.r2.set_other (by omega) j v, h.r3.set_other (by omega) j v, h.below.setCell (p := ⟨w0.heap.size, j, none⟩) (Nat.le_refl _) v⟩
theorem S3.row2 (c : Array Value) : S3 w0 (w.setRow (w0.heap.size + 1) c) c1 c c3 :=
  ⟨h.r1.setRow_other (by omega), h.r2.setRow, h.r3.setRow_other (by omega), below_setRow h.below (by omega) c⟩
theorem S3.row3 (c : Array Value) : S3 w0 (w.setRow (w0.heap.size + 1 + 1) c) c1 c2 c :=
  ⟨h.r1.setRow_other (by omega), h.r2.setRow_other (by omega), h.r3.setRow, below_setRow h.below (by omega) c⟩
end
theorem S3.it3 {w0 w : World} {c1 c2 : Array Value} {m : M} {l : Value} (h : S3 w0 w c1 c2 (m.c l)) (x : It) : S3 w0 (w.setCells (w0.heap.size + 1 + 1) 10 x.c.toList) c1 c2 (({ m with it := x } : M).c l) := by
  have := (((h.set3 10 (.string x.key)).set3 11 (.int .i64 x.val)).set3 12 (.int .i64 x.ver)).set3 13 (.bool x.gone)
  exact this
theorem S3.it1 {w0 w : World} {c2 c3 : Array Value} {m : M} {l : Value} (h : S3 w0 w (m.c l) c2 c3) (x : It) : S3 w0 (w.setCells w0.heap.size 10 x.c.toList) (({ m with it := x } : M).c l) c2 c3 := by
  have := (((h.set1 10 (.string x.key)).set1 11 (.int .i64 x.val)).set1 12 (.int .i64 x.ver)).set1 13 (.bool x.gone)
  exact this

section
variable {P : Program} {ops : Array Oper} {rest : List Oper} {o : Oper} {a : Act} {w : World} {Q : Exit → Act → World → Prop} {b : Nat} {t ty : TypeId} {c : Array Value}
theorem wpList_store1 (h0 : Rw w b t c) (hi : (P.info? ty).map (·.size) = some 1) (hw : Region.wanted o (yielded ops a.tmps) = true) (x y : Operand) (ho : o.op = .store ty x y) {j : Nat} (hx : a.eval x = .pointer (some ⟨b, j, none⟩)) {v : Value} (hy : a.eval y = v)
    (hj : j < c.size) (hv : v.cells = #[v]) (h1 : v.oneCell' = true)
    (h : wpList P ops Q rest (a.put o.dst undef) (w.setCell ⟨b, j, none⟩ v)) : wpList P ops Q (o :: rest) a w := by
  refine wpList_step fun K hK => ?_
  rw [if_pos hw]
  unfold Oper.wp execOp
  have hr : (Instr.storeAt ty (.pointer (some ⟨b, j, none⟩)) v).run P w = .ok () (w.setCell ⟨b, j, none⟩ v) := by
    simp only [Instr.storeAt, Instr.sureAddr, Sem.run_bind, Sem.run_pure, Result.andThen]
    cases hq : P.info? ty with
    | none => simp [hq] at hi
    | some i =>
      have hs : i.size = 1 := by simpa [hq] using hi
      have hadd : (⟨b, j, none⟩ : Addr).add 0 = ⟨b, j, none⟩ := by rw [add_plain, Nat.add_zero]
      have hst := run_store P w ⟨b, j, none⟩ v .plain h1
      have hc : w.cell? ⟨b, j, none⟩ = some c[j] := by rw [h0.cell]; exact Array.getElem?_eq_getElem hj
      unfold stored at hst
      rw [hc] at hst
      simp only [h0.free, Bool.false_eq_true, if_false] at hst
      simp [storeVar, sizeOf, typeInfo, hq, hv, hs, storeCells, hadd, hst]
  simp only [ho, hx, hy, Sem.run_bind, Sem.run_pure, Result.andThen_ok, hr]
  exact hK _ _ h
theorem gen_world {w0 : World} {c1 c2 c3 : Array Value} (S : S3 w0 w c1 c2 c3) (h : ∀ W, S3 w0 W c1 c2 c3 → wpList P ops Q rest a W) : wpList P ops Q rest a w := h w S
theorem wpList_storeI (h0 : Rw w b t c) {x : It} (hi : (P.info? ty).map (·.size) = some 4) (hw : Region.wanted o (yielded ops a.tmps) = true) (p y : Operand) (ho : o.op = .store ty p y) (hx : a.eval p = .pointer (some ⟨b, 10, none⟩)) (hy : a.eval y = .agg x.c) (hj : 14 ≤ c.size)
    (h : wpList P ops Q rest (a.put o.dst undef) (w.setCells b 10 x.c.toList)) : wpList P ops Q (o :: rest) a w := by
  refine wpList_step fun K hK => ?_
  rw [if_pos hw]
  unfold Oper.wp execOp
  have hr := run_storeAt_mid (P := P) w b 10 ty x.c (fun j hj2 => ⟨by rw [h0.cell]; have : j < 4 := hj2; rw [Array.getElem?_eq_getElem (by omega)]; rfl, h0.free _⟩) hi (by
    rw [Array.all_eq_true_iff_forall_mem]
    intro v hv
    simp only [It.c, List.mem_toArray, List.mem_cons, List.not_mem_nil, or_false] at hv
    rcases hv with rfl | rfl | rfl | rfl <;> rfl)
  simp only [ho, hx, hy, Sem.run_bind, Sem.run_pure, Result.andThen_ok, hr]
  exact hK _ _ h
end

def headM (m : M) : M := M.head m.kind m.call m.frm m.to
def onlyM (m : M) : M :=
  if m.kind = 4 then { headM m with key := m.key, slow := m.slow } else if m.kind = 5 then { headM m with it := m.it } else if m.kind = 6 then { headM m with it := { noIt with key := m.it.key } }
  else if m.kind = 7 then { headM m with pred := m.pred } else if m.kind = 10 then { headM m with place := m.place, done := m.done } else if m.kind = 11 then { headM m with code := m.code }
  else if m.kind = 12 then { headM m with code := m.code, it := m.it } else headM m
def onlyL (m : M) (l : Value) : Value := if m.kind = 7 then l else nilS

set_option maxRecDepth 100000 in
set_option maxHeartbeats 2000000 in
theorem only_4 (m : M) (A : Option Addr) (n c : Nat) (w : World) (hk : m.kind = 4) : Calls Tryz.prog 64 #[.agg (m.c (.slice A n c))] w fun e w' => e = .returned (.agg (({ headM m with key := m.key, slow := m.slow } : M).c (nilS))) ∧ Below w.heap.size w w' := by
  have S := S3.new w (m.c (.slice A n c)) (noM.c nilS) (noM.c nilS)
  have IT := Lib.hid (m.item (.slice A n c))
  have e4 : (m.kind == 4) = true := by rw [hk]; rfl
  have e5 : (m.kind == 5) = false := by rw [hk]; rfl
  have e6 : (m.kind == 6) = false := by rw [hk]; rfl
  have e7 : (m.kind == 7) = false := by rw [hk]; rfl
  have e10 : (m.kind == 10) = false := by rw [hk]; rfl
  have e11 : (m.kind == 11) = false := by rw [hk]; rfl
  have e12 : (m.kind == 12) = false := by rw [hk]; rfl
  clear hk
  go_enter Tryz.func64, Tryz.ntmps64
  go_wp2_with (with_reducible show wpList _ _ _ (Oper.mk _ (Op.store 27 _ _) _ _ _ _ :: _) _ _
               refine wpList_storeR (c := (headM m).c nilS) rfl _ _ rfl rfl rfl agg27.hi S.r3 rfl (M.one _ rfl) ?_
               refine gen_world (S.row3 ((headM m).c nilS)) ?_
               clear S
               intro W S
               have c1 := S.r1.cell)
  have c3 := S.r3.cell
  have f3 := S.r3.free
  go_region
  all_goals
    have S' : S3 w _ _ _ (({ headM m with key := m.key, slow := m.slow } : M).c (nilS)) := (((S.set3 4 (.int .i64 m.key)).set3 5 (.bool m.slow))).drew
    clear c3 f3 c1
    go_wp2_with (first
      | (with_reducible show wpList _ _ _ (Oper.mk _ (Op.load 27 _) _ _ _ _ :: _) _ _
         refine wpList_loadW (c := ({ headM m with key := m.key, slow := m.slow } : M).c (nilS)) S'.r3 agg27 rfl _ rfl rfl ?_)
      | (with_reducible show wpList _ _ _ (Oper.mk _ (Op.store 27 _ _) _ _ _ _ :: _) _ _
         refine wpList_storeR (c := ({ headM m with key := m.key, slow := m.slow } : M).c (nilS)) rfl _ _ rfl rfl rfl agg27.hi S'.r2 rfl (M.one _ rfl) ?_
         refine gen_world (S'.row2 (({ headM m with key := m.key, slow := m.slow } : M).c (nilS))) ?_
         clear S
         intro W S))
    exact bodyPost_ret (results_cell_row rfl _ _ _ _ _ _ _ rfl S.r2 Tryz.underlying27 rfl agg27.hi) rfl ⟨rfl, S.below⟩
set_option maxRecDepth 100000 in
set_option maxHeartbeats 2000000 in
theorem only_7 (m : M) (A : Option Addr) (n c : Nat) (w : World) (hk : m.kind = 7) : Calls Tryz.prog 64 #[.agg (m.c (.slice A n c))] w fun e w' => e = .returned (.agg (({ headM m with pred := m.pred } : M).c (.slice A n c))) ∧ Below w.heap.size w w' := by
  have S := S3.new w (m.c (.slice A n c)) (noM.c nilS) (noM.c nilS)
  have IT := Lib.hid (m.item (.slice A n c))
  have e4 : (m.kind == 4) = false := by rw [hk]; rfl
  have e5 : (m.kind == 5) = false := by rw [hk]; rfl
  have e6 : (m.kind == 6) = false := by rw [hk]; rfl
  have e7 : (m.kind == 7) = true := by rw [hk]; rfl
  have e10 : (m.kind == 10) = false := by rw [hk]; rfl
  have e11 : (m.kind == 11) = false := by rw [hk]; rfl
  have e12 : (m.kind == 12) = false := by rw [hk]; rfl
  clear hk
  go_enter Tryz.func64, Tryz.ntmps64
  go_wp2_with (with_reducible show wpList _ _ _ (Oper.mk _ (Op.store 27 _ _) _ _ _ _ :: _) _ _
               refine wpList_storeR (c := (headM m).c nilS) rfl _ _ rfl rfl rfl agg27.hi S.r3 rfl (M.one _ rfl) ?_
               refine gen_world (S.row3 ((headM m).c nilS)) ?_
               clear S
               intro W S
               have c1 := S.r1.cell)
  have c3 := S.r3.cell
  have f3 := S.r3.free
  go_region
  all_goals
    have S' : S3 w _ _ _ (({ headM m with pred := m.pred } : M).c (.slice A n c)) := (((S.set3 8 (.int .i64 m.pred)).set3 9 (.slice A n c))).drew
    clear c3 f3 c1
    go_wp2_with (first
      | (with_reducible show wpList _ _ _ (Oper.mk _ (Op.load 27 _) _ _ _ _ :: _) _ _
         refine wpList_loadW (c := ({ headM m with pred := m.pred } : M).c (.slice A n c)) S'.r3 agg27 rfl _ rfl rfl ?_)
      | (with_reducible show wpList _ _ _ (Oper.mk _ (Op.store 27 _ _) _ _ _ _ :: _) _ _
         refine wpList_storeR (c := ({ headM m with pred := m.pred } : M).c (.slice A n c)) rfl _ _ rfl rfl rfl agg27.hi S'.r2 rfl (M.one _ rfl) ?_
         refine gen_world (S'.row2 (({ headM m with pred := m.pred } : M).c (.slice A n c))) ?_
         clear S
         intro W S))
    exact bodyPost_ret (results_cell_row rfl _ _ _ _ _ _ _ rfl S.r2 Tryz.underlying27 rfl agg27.hi) rfl ⟨rfl, S.below⟩
set_option maxRecDepth 100000 in
set_option maxHeartbeats 2000000 in
theorem only_10 (m : M) (A : Option Addr) (n c : Nat) (w : World) (hk : m.kind = 10) : Calls Tryz.prog 64 #[.agg (m.c (.slice A n c))] w fun e w' => e = .returned (.agg (({ headM m with place := m.place, done := m.done } : M).c (nilS))) ∧ Below w.heap.size w w' := by
  have S := S3.new w (m.c (.slice A n c)) (noM.c nilS) (noM.c nilS)
  have IT := Lib.hid (m.item (.slice A n c))
  have e4 : (m.kind == 4) = false := by rw [hk]; rfl
  have e5 : (m.kind == 5) = false := by rw [hk]; rfl
  have e6 : (m.kind == 6) = false := by rw [hk]; rfl
  have e7 : (m.kind == 7) = false := by rw [hk]; rfl
  have e10 : (m.kind == 10) = true := by rw [hk]; rfl
  have e11 : (m.kind == 11) = false := by rw [hk]; rfl
  have e12 : (m.kind == 12) = false := by rw [hk]; rfl
  clear hk
  go_enter Tryz.func64, Tryz.ntmps64
  go_wp2_with (with_reducible show wpList _ _ _ (Oper.mk _ (Op.store 27 _ _) _ _ _ _ :: _) _ _
               refine wpList_storeR (c := (headM m).c nilS) rfl _ _ rfl rfl rfl agg27.hi S.r3 rfl (M.one _ rfl) ?_
               refine gen_world (S.row3 ((headM m).c nilS)) ?_
               clear S
               intro W S
               have c1 := S.r1.cell)
  have c3 := S.r3.cell
  have f3 := S.r3.free
  go_region
  all_goals
    have S' : S3 w _ _ _ (({ headM m with place := m.place, done := m.done } : M).c (nilS)) := (((S.set3 7 (.int .i64 m.place)).set3 6 (.bool m.done))).drew
    clear c3 f3 c1
    go_wp2_with (first
      | (with_reducible show wpList _ _ _ (Oper.mk _ (Op.load 27 _) _ _ _ _ :: _) _ _
         refine wpList_loadW (c := ({ headM m with place := m.place, done := m.done } : M).c (nilS)) S'.r3 agg27 rfl _ rfl rfl ?_)
      | (with_reducible show wpList _ _ _ (Oper.mk _ (Op.store 27 _ _) _ _ _ _ :: _) _ _
         refine wpList_storeR (c := ({ headM m with place := m.place, done := m.done } : M).c (nilS)) rfl _ _ rfl rfl rfl agg27.hi S'.r2 rfl (M.one _ rfl) ?_
         refine gen_world (S'.row2 (({ headM m with place := m.place, done := m.done } : M).c (nilS))) ?_
         clear S
         intro W S))
    exact bodyPost_ret (results_cell_row rfl _ _ _ _ _ _ _ rfl S.r2 Tryz.underlying27 rfl agg27.hi) rfl ⟨rfl, S.below⟩
set_option maxRecDepth 100000 in
set_option maxHeartbeats 2000000 in
theorem only_12 (m : M) (A : Option Addr) (n c : Nat) (w : World) (hk : m.kind = 12) : Calls Tryz.prog 64 #[.agg (m.c (.slice A n c))] w fun e w' => e = .returned (.agg (({ headM m with code := m.code, it := m.it } : M).c (nilS))) ∧ Below w.heap.size w w' := by
  have S := S3.new w (m.c (.slice A n c)) (noM.c nilS) (noM.c nilS)
  have IT := Lib.hid (m.item (.slice A n c))
  have e4 : (m.kind == 4) = false := by rw [hk]; rfl
  have e5 : (m.kind == 5) = false := by rw [hk]; rfl
  have e6 : (m.kind == 6) = false := by rw [hk]; rfl
  have e7 : (m.kind == 7) = false := by rw [hk]; rfl
  have e10 : (m.kind == 10) = false := by rw [hk]; rfl
  have e11 : (m.kind == 11) = false := by rw [hk]; rfl
  have e12 : (m.kind == 12) = true := by rw [hk]; rfl
  clear hk
  go_enter Tryz.func64, Tryz.ntmps64
  go_wp2_with (with_reducible show wpList _ _ _ (Oper.mk _ (Op.store 27 _ _) _ _ _ _ :: _) _ _
               refine wpList_storeR (c := (headM m).c nilS) rfl _ _ rfl rfl rfl agg27.hi S.r3 rfl (M.one _ rfl) ?_
               refine gen_world (S.row3 ((headM m).c nilS)) ?_
               clear S
               intro W S
               have c1 := S.r1.cell)
  have c3 := S.r3.cell
  have f3 := S.r3.free
  go_region
  all_goals
    have S' : S3 w _ _ _ (({ headM m with code := m.code, it := m.it } : M).c (nilS)) := ((((((S.set3 14 (.int .i64 m.code)).set3 10 (.string m.it.key)).set3 11 (.int .i64 m.it.val)).set3 12 (.int .i64 m.it.ver)).set3 13 (.bool m.it.gone))).drew
    clear c3 f3 c1
    go_wp2_with (first
      | (with_reducible show wpList _ _ _ (Oper.mk _ (Op.load 27 _) _ _ _ _ :: _) _ _
         refine wpList_loadW (c := ({ headM m with code := m.code, it := m.it } : M).c (nilS)) S'.r3 agg27 rfl _ rfl rfl ?_)
      | (with_reducible show wpList _ _ _ (Oper.mk _ (Op.store 27 _ _) _ _ _ _ :: _) _ _
         refine wpList_storeR (c := ({ headM m with code := m.code, it := m.it } : M).c (nilS)) rfl _ _ rfl rfl rfl agg27.hi S'.r2 rfl (M.one _ rfl) ?_
         refine gen_world (S'.row2 (({ headM m with code := m.code, it := m.it } : M).c (nilS))) ?_
         clear S
         intro W S))
    exact bodyPost_ret (results_cell_row rfl _ _ _ _ _ _ _ rfl S.r2 Tryz.underlying27 rfl agg27.hi) rfl ⟨rfl, S.below⟩
set_option maxRecDepth 100000 in
set_option maxHeartbeats 2000000 in
theorem only_5 (m : M) (A : Option Addr) (n c : Nat) (w : World) (hk : m.kind = 5) : Calls Tryz.prog 64 #[.agg (m.c (.slice A n c))] w fun e w' => e = .returned (.agg (({ headM m with it := m.it } : M).c (nilS))) ∧ Below w.heap.size w w' := by
  have S := S3.new w (m.c (.slice A n c)) (noM.c nilS) (noM.c nilS)
  have IT := Lib.hid (m.item (.slice A n c))
  have e4 : (m.kind == 4) = false := by rw [hk]; rfl
  have e5 : (m.kind == 5) = true := by rw [hk]; rfl
  have e6 : (m.kind == 6) = false := by rw [hk]; rfl
  have e7 : (m.kind == 7) = false := by rw [hk]; rfl
  have e10 : (m.kind == 10) = false := by rw [hk]; rfl
  have e11 : (m.kind == 11) = false := by rw [hk]; rfl
  have e12 : (m.kind == 12) = false := by rw [hk]; rfl
  clear hk
  go_enter Tryz.func64, Tryz.ntmps64
  go_wp2_with (first
    | (with_reducible show wpList _ _ _ (Oper.mk _ (Op.store 27 _ _) _ _ _ _ :: _) _ _
       refine wpList_storeR (c := (headM m).c nilS) rfl _ _ rfl rfl rfl agg27.hi S.r3 rfl (M.one _ rfl) ?_
       refine gen_world (S.row3 ((headM m).c nilS)) ?_
       clear S
       intro W S
       have c1 := S.r1.cell)
    | (with_reducible show wpList _ _ _ (Oper.mk _ (Op.load 24 _) _ _ _ _ :: _) _ _
       refine wpList_loadPt S.r1 IT.out agg24 rfl _ rfl rfl ?_)
    | (with_reducible show wpList _ _ _ (Oper.mk _ (Op.load 27 _) _ _ _ _ :: _) _ _
       refine wpList_loadW (c := ({ headM m with it := m.it } : M).c (nilS)) S.r3 agg27 rfl _ rfl rfl ?_)
    | (with_reducible show wpList _ _ _ (Oper.mk _ (Op.store 27 _ _) _ _ _ _ :: _) _ _
       refine wpList_storeR (c := ({ headM m with it := m.it } : M).c (nilS)) rfl _ _ rfl rfl rfl agg27.hi S.r2 rfl (M.one _ rfl) ?_
       refine gen_world (S.row2 (({ headM m with it := m.it } : M).c (nilS))) ?_
       clear S c1
       intro W S)
    | (with_reducible show wpList _ _ _ (Oper.mk _ (Op.store 24 _ _) _ _ _ _ :: _) _ _
       refine wpList_storeI S.r3 (x := m.it) agg24.hi rfl _ _ rfl rfl rfl (by show 14 ≤ 15; decide) ?_
       refine gen_world (c3 := ({ headM m with it := m.it } : M).c (nilS)) (S.it3 m.it) ?_
       clear S c1
       intro W S
       have c1 := S.r1.cell))
  exact bodyPost_ret (results_cell_row rfl _ _ _ _ _ _ _ rfl S.r2 Tryz.underlying27 rfl agg27.hi) rfl ⟨rfl, S.below⟩
set_option maxRecDepth 100000 in
set_option maxHeartbeats 2000000 in
theorem only_6 (m : M) (A : Option Addr) (n c : Nat) (w : World) (hk : m.kind = 6) : Calls Tryz.prog 64 #[.agg (m.c (.slice A n c))] w fun e w' => e = .returned (.agg (({ headM m with it := { noIt with key := m.it.key } } : M).c (nilS))) ∧ Below w.heap.size w w' := by
  have S := S3.new w (m.c (.slice A n c)) (noM.c nilS) (noM.c nilS)
  have IT := Lib.hid (m.item (.slice A n c))
  have e4 : (m.kind == 4) = false := by rw [hk]; rfl
  have e5 : (m.kind == 5) = false := by rw [hk]; rfl
  have e6 : (m.kind == 6) = true := by rw [hk]; rfl
  have e7 : (m.kind == 7) = false := by rw [hk]; rfl
  have e10 : (m.kind == 10) = false := by rw [hk]; rfl
  have e11 : (m.kind == 11) = false := by rw [hk]; rfl
  have e12 : (m.kind == 12) = false := by rw [hk]; rfl
  clear hk
  go_enter Tryz.func64, Tryz.ntmps64
  go_wp2_with (first
    | (with_reducible show wpList _ _ _ (Oper.mk _ (Op.store 27 _ _) _ _ _ _ :: _) _ _
       refine wpList_storeR (c := (headM m).c nilS) rfl _ _ rfl rfl rfl agg27.hi S.r3 rfl (M.one _ rfl) ?_
       refine gen_world (S.row3 ((headM m).c nilS)) ?_
       clear S
       intro W S
       have c1 := S.r1.cell)
    | (with_reducible show wpList _ _ _ (Oper.mk _ (Op.load 24 _) _ _ _ _ :: _) _ _
       refine wpList_loadPt S.r1 IT.out agg24 rfl _ rfl rfl ?_)
    | (with_reducible show wpList _ _ _ (Oper.mk _ (Op.load 27 _) _ _ _ _ :: _) _ _
       refine wpList_loadW (c := ({ headM m with it := { noIt with key := m.it.key } } : M).c (nilS)) S.r3 agg27 rfl _ rfl rfl ?_)
    | (with_reducible show wpList _ _ _ (Oper.mk _ (Op.store 27 _ _) _ _ _ _ :: _) _ _
       refine wpList_storeR (c := ({ headM m with it := { noIt with key := m.it.key } } : M).c (nilS)) rfl _ _ rfl rfl rfl agg27.hi S.r2 rfl (M.one _ rfl) ?_
       refine gen_world (S.row2 (({ headM m with it := { noIt with key := m.it.key } } : M).c (nilS))) ?_
       clear S c1
       intro W S)
    | (with_reducible show wpList _ _ _ (Oper.mk _ (Op.store 9 _ _) _ _ _ _ :: _) _ _
       refine wpList_store1 S.r3 (by kernel_rfl) rfl _ _ rfl (j := 10) rfl (v := .string m.it.key) rfl (by show 10 < 15; decide) rfl rfl ?_
       refine gen_world (c3 := ({ headM m with it := { noIt with key := m.it.key } } : M).c (nilS)) (S.set3 10 (.string m.it.key)) ?_
       clear S c1
       intro W S
       have c1 := S.r1.cell))
  exact bodyPost_ret (results_cell_row rfl _ _ _ _ _ _ _ rfl S.r2 Tryz.underlying27 rfl agg27.hi) rfl ⟨rfl, S.below⟩
set_option maxRecDepth 100000 in
set_option maxHeartbeats 2000000 in
theorem only_11 (m : M) (A : Option Addr) (n c : Nat) (w : World) (hk : m.kind = 11) : Calls Tryz.prog 64 #[.agg (m.c (.slice A n c))] w fun e w' => e = .returned (.agg (({ headM m with code := m.code } : M).c (nilS))) ∧ Below w.heap.size w w' := by
  have S := S3.new w (m.c (.slice A n c)) (noM.c nilS) (noM.c nilS)
  have IT := Lib.hid (m.item (.slice A n c))
  have e4 : (m.kind == 4) = false := by rw [hk]; rfl
  have e5 : (m.kind == 5) = false := by rw [hk]; rfl
  have e6 : (m.kind == 6) = false := by rw [hk]; rfl
  have e7 : (m.kind == 7) = false := by rw [hk]; rfl
  have e10 : (m.kind == 10) = false := by rw [hk]; rfl
  have e11 : (m.kind == 11) = true := by rw [hk]; rfl
  have e12 : (m.kind == 12) = false := by rw [hk]; rfl
  clear hk
  go_enter Tryz.func64, Tryz.ntmps64
  go_wp2_with (first
    | (with_reducible show wpList _ _ _ (Oper.mk _ (Op.store 27 _ _) _ _ _ _ :: _) _ _
       refine wpList_storeR (c := (headM m).c nilS) rfl _ _ rfl rfl rfl agg27.hi S.r3 rfl (M.one _ rfl) ?_
       refine gen_world (S.row3 ((headM m).c nilS)) ?_
       clear S
       intro W S
       have c1 := S.r1.cell)
    | (with_reducible show wpList _ _ _ (Oper.mk _ (Op.load 24 _) _ _ _ _ :: _) _ _
       refine wpList_loadPt S.r1 IT.out agg24 rfl _ rfl rfl ?_)
    | (with_reducible show wpList _ _ _ (Oper.mk _ (Op.load 27 _) _ _ _ _ :: _) _ _
       refine wpList_loadW (c := ({ headM m with code := m.code } : M).c (nilS)) S.r3 agg27 rfl _ rfl rfl ?_)
    | (with_reducible show wpList _ _ _ (Oper.mk _ (Op.store 27 _ _) _ _ _ _ :: _) _ _
       refine wpList_storeR (c := ({ headM m with code := m.code } : M).c (nilS)) rfl _ _ rfl rfl rfl agg27.hi S.r2 rfl (M.one _ rfl) ?_
       refine gen_world (S.row2 (({ headM m with code := m.code } : M).c (nilS))) ?_
       clear S c1
       intro W S)
    | (with_reducible show wpList _ _ _ (Oper.mk _ (Op.store 25 _ _) _ _ _ _ :: _) _ _
       refine wpList_store1 S.r3 (by kernel_rfl) rfl _ _ rfl (j := 14) rfl (v := .int .i64 m.code) rfl (by show 14 < 15; decide) rfl rfl ?_
       refine gen_world (c3 := ({ headM m with code := m.code } : M).c (nilS)) (S.set3 14 (.int .i64 m.code)) ?_
       clear S c1
       intro W S
       have c1 := S.r1.cell))
  exact bodyPost_ret (results_cell_row rfl _ _ _ _ _ _ _ rfl S.r2 Tryz.underlying27 rfl agg27.hi) rfl ⟨rfl, S.below⟩
set_option maxRecDepth 100000 in
set_option maxHeartbeats 2000000 in
theorem only_x (m : M) (A : Option Addr) (n c : Nat) (w : World) (hk : m.kind ≠ 4 ∧ m.kind ≠ 5 ∧ m.kind ≠ 6 ∧ m.kind ≠ 7 ∧ m.kind ≠ 10 ∧ m.kind ≠ 11 ∧ m.kind ≠ 12) : Calls Tryz.prog 64 #[.agg (m.c (.slice A n c))] w fun e w' => e = .returned (.agg ((headM m : M).c (nilS))) ∧ Below w.heap.size w w' := by
  have S := S3.new w (m.c (.slice A n c)) (noM.c nilS) (noM.c nilS)
  have IT := Lib.hid (m.item (.slice A n c))
  have e4 : (m.kind == 4) = false := by simp [hk]
  have e5 : (m.kind == 5) = false := by simp [hk]
  have e6 : (m.kind == 6) = false := by simp [hk]
  have e7 : (m.kind == 7) = false := by simp [hk]
  have e10 : (m.kind == 10) = false := by simp [hk]
  have e11 : (m.kind == 11) = false := by simp [hk]
  have e12 : (m.kind == 12) = false := by simp [hk]
  clear hk
  go_enter Tryz.func64, Tryz.ntmps64
  go_wp2_with (first
    | (with_reducible show wpList _ _ _ (Oper.mk _ (Op.store 27 _ _) _ _ _ _ :: _) _ _
       refine wpList_storeR (c := (headM m).c nilS) rfl _ _ rfl rfl rfl agg27.hi S.r3 rfl (M.one _ rfl) ?_
       refine gen_world (S.row3 ((headM m).c nilS)) ?_
       clear S
       intro W S
       have c1 := S.r1.cell)
    | (with_reducible show wpList _ _ _ (Oper.mk _ (Op.load 24 _) _ _ _ _ :: _) _ _
       refine wpList_loadPt S.r1 IT.out agg24 rfl _ rfl rfl ?_)
    | (with_reducible show wpList _ _ _ (Oper.mk _ (Op.load 27 _) _ _ _ _ :: _) _ _
       refine wpList_loadW (c := (headM m : M).c (nilS)) S.r3 agg27 rfl _ rfl rfl ?_)
    | (with_reducible show wpList _ _ _ (Oper.mk _ (Op.store 27 _ _) _ _ _ _ :: _) _ _
       refine wpList_storeR (c := (headM m : M).c (nilS)) rfl _ _ rfl rfl rfl agg27.hi S.r2 rfl (M.one _ rfl) ?_
       refine gen_world (S.row2 ((headM m : M).c (nilS))) ?_
       clear S c1
       intro W S))
  exact bodyPost_ret (results_cell_row rfl _ _ _ _ _ _ _ rfl S.r2 Tryz.underlying27 rfl agg27.hi) rfl ⟨rfl, S.below⟩
theorem only_any (m : M) (A : Option Addr) (n c : Nat) (w : World) : Calls Tryz.prog 64 #[.agg (m.c (.slice A n c))] w fun e w' => e = .returned (.agg ((onlyM m).c (onlyL m (.slice A n c)))) ∧ Below w.heap.size w w' := by
  by_cases h4 : m.kind = 4
  · have := only_4 m A n c w h4; simpa [onlyM, onlyL, h4] using this
  by_cases h5 : m.kind = 5
  · have := only_5 m A n c w h5; simpa [onlyM, onlyL, h5] using this
  by_cases h6 : m.kind = 6
  · have := only_6 m A n c w h6; simpa [onlyM, onlyL, h6] using this
  by_cases h7 : m.kind = 7
  · have := only_7 m A n c w h7; simpa [onlyM, onlyL, h7] using this
  by_cases h10 : m.kind = 10
  · have := only_10 m A n c w h10; simpa [onlyM, onlyL, h10] using this
  by_cases h11 : m.kind = 11
  · have := only_11 m A n c w h11; simpa [onlyM, onlyL, h11] using this
  by_cases h12 : m.kind = 12
  · have := only_12 m A n c w h12; simpa [onlyM, onlyL, h12] using this
  have := only_x m A n c w ⟨h4, h5, h6, h7, h10, h11, h12⟩
  simpa [onlyM, onlyL, h4, h5, h6, h7, h10, h11, h12] using this
end Go.Proofs.YtaacjpcckinaiaaGreat.Ms
set_option linter.unusedVariables false
set_option maxRecDepth 100000
set_option linter.unusedSimpArgs false
namespace Go.Proofs.YtaacjpcckinaiaaGreat.Ms
open Go.RowKit Go.Shelf

def bareM (m : M) : M :=
  if m.kind = 4 then { m with key := 0, slow := false } else if m.kind = 5 then { m with it := noIt } else if m.kind = 6 then { m with it := noIt }
  else if m.kind = 7 then { m with pred := 0 } else if m.kind = 10 then { m with place := 0, done := false } else if m.kind = 11 then { m with code := 0 }
  else if m.kind = 12 then { m with code := 0, it := noIt } else m
def bareL (m : M) (l : Value) : Value := if m.kind = 7 then nilS else l

/-- Two rows of the call's own, and all that lay lies. -/
structure S2 (w0 w : World) (c1 c2 : Array Value) : Prop where
  r1 : Rw w w0.heap.size 27 c1
  r2 : Rw w (w0.heap.size + 1) 27 c2
  below : Below w0.heap.size w0 w
theorem S2.new (w : World) (c1 c2 : Array Value) : S2 w ((w.alloc (.cells c1 27)).alloc (.cells c2 27)) c1 c2 := by
  obtain ⟨h1, h2, h3⟩ := two_boxes w c1 c2 27 27
  exact ⟨h1, h2, h3⟩
section
variable {w0 w : World} {c1 c2 : Array Value} (h : S2 w0 w c1 c2)
include h
theorem S2.set1 (j : Nat) (v : Value) : S2 w0 (w.setCell ⟨w0.heap.size, j, none⟩ v) (c1.setIfInBounds j v) c2 :=
  ⟨h.r1.set j v, h.r2.set_other (by omega) j v, h.below.setCell (p := ⟨w0.heap.size, j, none⟩) (Nat.le_refl _) v⟩
theorem S2.row2 (c : Array Value) : S2 w0 (w.setRow (w0.heap.size + 1) c) c1 c :=
  ⟨h.r1.setRow_other (by omega), h.r2.setRow, below_setRow h.below (by omega) c⟩
end
theorem S2.it1 {w0 w : World} {c2 : Array Value} {m : M} {l : Value} (h : S2 w0 w (m.c l) c2) (x : It) : S2 w0 (w.setCells w0.heap.size 10 x.c.toList) (({ m with it := x } : M).c l) c2 := by
  have := (((h.set1 10 (.string x.key)).set1 11 (.int .i64 x.val)).set1 12 (.int .i64 x.ver)).set1 13 (.bool x.gone)
  exact this
section
variable {P : Program} {ops : Array Oper} {rest : List Oper} {a : Act} {w : World} {Q : Exit → Act → World → Prop}
theorem gen_world2 {w0 : World} {c1 c2 : Array Value} (S : S2 w0 w c1 c2) (h : ∀ W, S2 w0 W c1 c2 → wpList P ops Q rest a W) : wpList P ops Q rest a w := h w S
end

set_option maxRecDepth 100000 in
set_option maxHeartbeats 2000000 in
theorem bare_4 (m : M) (A : Option Addr) (n c : Nat) (w : World) (hk : m.kind = 4) : Calls Tryz.prog 41 #[.agg (m.c (.slice A n c))] w fun e w' => e = .returned (.agg (({ m with key := 0, slow := false } : M).c (.slice A n c))) ∧ Below w.heap.size w w' := by
  have S := S2.new w (m.c (.slice A n c)) (noM.c nilS)
  have e4 : (m.kind == 4) = true := by rw [hk]; rfl
  have e5 : (m.kind == 5) = false := by rw [hk]; rfl
  have e6 : (m.kind == 6) = false := by rw [hk]; rfl
  have e7 : (m.kind == 7) = false := by rw [hk]; rfl
  have e10 : (m.kind == 10) = false := by rw [hk]; rfl
  have e11 : (m.kind == 11) = false := by rw [hk]; rfl
  have e12 : (m.kind == 12) = false := by rw [hk]; rfl
  clear hk
  go_enter Tryz.func41, Tryz.ntmps41
  go_wp2_with (first
    | (with_reducible show wpList _ _ _ (Oper.mk _ (Op.load 27 _) _ _ _ _ :: _) _ _
       refine wpList_loadW (c := ({ m with key := 0, slow := false } : M).c (.slice A n c)) S.r1 agg27 rfl _ rfl rfl ?_)
    | (with_reducible show wpList _ _ _ (Oper.mk _ (Op.store 27 _ _) _ _ _ _ :: _) _ _
       refine wpList_storeR (c := ({ m with key := 0, slow := false } : M).c (.slice A n c)) rfl _ _ rfl rfl rfl agg27.hi S.r2 rfl (M.one _ rfl) ?_
       refine gen_world2 (S.row2 (({ m with key := 0, slow := false } : M).c (.slice A n c))) ?_
       clear S
       intro W S)
    | (with_reducible show wpList _ _ _ (Oper.mk _ (Op.store 3 _ _) _ _ _ _ :: _) _ _
       refine wpList_store1 S.r1 (by kernel_rfl) rfl _ _ rfl (j := 4) rfl (v := .int .i64 0) rfl (by show 4 < 15; decide) rfl rfl ?_
       refine gen_world2 (c1 := ({ m with key := 0 } : M).c (.slice A n c)) (S.set1 4 (.int .i64 0)) ?_
       clear S
       intro W S)
    | (with_reducible show wpList _ _ _ (Oper.mk _ (Op.store 4 _ _) _ _ _ _ :: _) _ _
       refine wpList_store1 S.r1 (by kernel_rfl) rfl _ _ rfl (j := 5) rfl (v := .bool false) rfl (by show 5 < 15; decide) rfl rfl ?_
       refine gen_world2 (c1 := ({ m with key := 0, slow := false } : M).c (.slice A n c)) (S.set1 5 (.bool false)) ?_
       clear S
       intro W S))
  exact bodyPost_ret (results_cell_row rfl _ _ _ _ _ _ _ rfl S.r2 Tryz.underlying27 rfl agg27.hi) rfl ⟨rfl, S.below⟩
set_option maxRecDepth 100000 in
set_option maxHeartbeats 2000000 in
theorem bare_5 (m : M) (A : Option Addr) (n c : Nat) (w : World) (hk : m.kind = 5) : Calls Tryz.prog 41 #[.agg (m.c (.slice A n c))] w fun e w' => e = .returned (.agg (({ m with it := noIt } : M).c (.slice A n c))) ∧ Below w.heap.size w w' := by
  have S := S2.new w (m.c (.slice A n c)) (noM.c nilS)
  have e4 : (m.kind == 4) = false := by rw [hk]; rfl
  have e5 : (m.kind == 5) = true := by rw [hk]; rfl
  have e6 : (m.kind == 6) = false := by rw [hk]; rfl
  have e7 : (m.kind == 7) = false := by rw [hk]; rfl
  have e10 : (m.kind == 10) = false := by rw [hk]; rfl
  have e11 : (m.kind == 11) = false := by rw [hk]; rfl
  have e12 : (m.kind == 12) = false := by rw [hk]; rfl
  clear hk
  go_enter Tryz.func41, Tryz.ntmps41
  go_wp2_with (first
    | (with_reducible show wpList _ _ _ (Oper.mk _ (Op.load 27 _) _ _ _ _ :: _) _ _
       refine wpList_loadW (c := ({ m with it := noIt } : M).c (.slice A n c)) S.r1 agg27 rfl _ rfl rfl ?_)
    | (with_reducible show wpList _ _ _ (Oper.mk _ (Op.store 27 _ _) _ _ _ _ :: _) _ _
       refine wpList_storeR (c := ({ m with it := noIt } : M).c (.slice A n c)) rfl _ _ rfl rfl rfl agg27.hi S.r2 rfl (M.one _ rfl) ?_
       refine gen_world2 (S.row2 (({ m with it := noIt } : M).c (.slice A n c))) ?_
       clear S
       intro W S)
    | (with_reducible show wpList _ _ _ (Oper.mk _ (Op.store 24 _ _) _ _ _ _ :: _) _ _
       refine wpList_storeI S.r1 (x := noIt) agg24.hi rfl _ _ rfl rfl rfl (by show 14 ≤ 15; decide) ?_
       refine gen_world2 (c1 := ({ m with it := noIt } : M).c (.slice A n c)) (S.it1 noIt) ?_
       clear S
       intro W S))
  exact bodyPost_ret (results_cell_row rfl _ _ _ _ _ _ _ rfl S.r2 Tryz.underlying27 rfl agg27.hi) rfl ⟨rfl, S.below⟩
set_option maxRecDepth 100000 in
set_option maxHeartbeats 2000000 in
theorem bare_6 (m : M) (A : Option Addr) (n c : Nat) (w : World) (hk : m.kind = 6) : Calls Tryz.prog 41 #[.agg (m.c (.slice A n c))] w fun e w' => e = .returned (.agg (({ m with it := noIt } : M).c (.slice A n c))) ∧ Below w.heap.size w w' := by
  have S := S2.new w (m.c (.slice A n c)) (noM.c nilS)
  have e4 : (m.kind == 4) = false := by rw [hk]; rfl
  have e5 : (m.kind == 5) = false := by rw [hk]; rfl
  have e6 : (m.kind == 6) = true := by rw [hk]; rfl
  have e7 : (m.kind == 7) = false := by rw [hk]; rfl
  have e10 : (m.kind == 10) = false := by rw [hk]; rfl
  have e11 : (m.kind == 11) = false := by rw [hk]; rfl
  have e12 : (m.kind == 12) = false := by rw [hk]; rfl
  clear hk
  go_enter Tryz.func41, Tryz.ntmps41
  go_wp2_with (first
    | (with_reducible show wpList _ _ _ (Oper.mk _ (Op.load 27 _) _ _ _ _ :: _) _ _
       refine wpList_loadW (c := ({ m with it := noIt } : M).c (.slice A n c)) S.r1 agg27 rfl _ rfl rfl ?_)
    | (with_reducible show wpList _ _ _ (Oper.mk _ (Op.store 27 _ _) _ _ _ _ :: _) _ _
       refine wpList_storeR (c := ({ m with it := noIt } : M).c (.slice A n c)) rfl _ _ rfl rfl rfl agg27.hi S.r2 rfl (M.one _ rfl) ?_
       refine gen_world2 (S.row2 (({ m with it := noIt } : M).c (.slice A n c))) ?_
       clear S
       intro W S)
    | (with_reducible show wpList _ _ _ (Oper.mk _ (Op.store 24 _ _) _ _ _ _ :: _) _ _
       refine wpList_storeI S.r1 (x := noIt) agg24.hi rfl _ _ rfl rfl rfl (by show 14 ≤ 15; decide) ?_
       refine gen_world2 (c1 := ({ m with it := noIt } : M).c (.slice A n c)) (S.it1 noIt) ?_
       clear S
       intro W S))
  exact bodyPost_ret (results_cell_row rfl _ _ _ _ _ _ _ rfl S.r2 Tryz.underlying27 rfl agg27.hi) rfl ⟨rfl, S.below⟩
set_option maxRecDepth 100000 in
set_option maxHeartbeats 2000000 in
theorem bare_7 (m : M) (A : Option Addr) (n c : Nat) (w : World) (hk : m.kind = 7) : Calls Tryz.prog 41 #[.agg (m.c (.slice A n c))] w fun e w' => e = .returned (.agg (({ m with pred := 0 } : M).c (nilS))) ∧ Below w.heap.size w w' := by
  have S := S2.new w (m.c (.slice A n c)) (noM.c nilS)
  have e4 : (m.kind == 4) = false := by rw [hk]; rfl
  have e5 : (m.kind == 5) = false := by rw [hk]; rfl
  have e6 : (m.kind == 6) = false := by rw [hk]; rfl
  have e7 : (m.kind == 7) = true := by rw [hk]; rfl
  have e10 : (m.kind == 10) = false := by rw [hk]; rfl
  have e11 : (m.kind == 11) = false := by rw [hk]; rfl
  have e12 : (m.kind == 12) = false := by rw [hk]; rfl
  clear hk
  go_enter Tryz.func41, Tryz.ntmps41
  go_wp2_with (first
    | (with_reducible show wpList _ _ _ (Oper.mk _ (Op.load 27 _) _ _ _ _ :: _) _ _
       refine wpList_loadW (c := ({ m with pred := 0 } : M).c (nilS)) S.r1 agg27 rfl _ rfl rfl ?_)
    | (with_reducible show wpList _ _ _ (Oper.mk _ (Op.store 27 _ _) _ _ _ _ :: _) _ _
       refine wpList_storeR (c := ({ m with pred := 0 } : M).c (nilS)) rfl _ _ rfl rfl rfl agg27.hi S.r2 rfl (M.one _ rfl) ?_
       refine gen_world2 (S.row2 (({ m with pred := 0 } : M).c (nilS))) ?_
       clear S
       intro W S)
    | (with_reducible show wpList _ _ _ (Oper.mk _ (Op.store 3 _ _) _ _ _ _ :: _) _ _
       refine wpList_store1 S.r1 (by kernel_rfl) rfl _ _ rfl (j := 8) rfl (v := .int .i64 0) rfl (by show 8 < 15; decide) rfl rfl ?_
       refine gen_world2 (c1 := ({ m with pred := 0 } : M).c (.slice A n c)) (S.set1 8 (.int .i64 0)) ?_
       clear S
       intro W S)
    | (with_reducible show wpList _ _ _ (Oper.mk _ (Op.store 22 _ _) _ _ _ _ :: _) _ _
       refine wpList_store1 S.r1 (by kernel_rfl) rfl _ _ rfl (j := 9) rfl (v := nilS) rfl (by show 9 < 15; decide) rfl rfl ?_
       refine gen_world2 (c1 := ({ m with pred := 0 } : M).c (nilS)) (S.set1 9 (nilS)) ?_
       clear S
       intro W S))
  exact bodyPost_ret (results_cell_row rfl _ _ _ _ _ _ _ rfl S.r2 Tryz.underlying27 rfl agg27.hi) rfl ⟨rfl, S.below⟩
set_option maxRecDepth 100000 in
set_option maxHeartbeats 2000000 in
theorem bare_10 (m : M) (A : Option Addr) (n c : Nat) (w : World) (hk : m.kind = 10) : Calls Tryz.prog 41 #[.agg (m.c (.slice A n c))] w fun e w' => e = .returned (.agg (({ m with place := 0, done := false } : M).c (.slice A n c))) ∧ Below w.heap.size w w' := by
  have S := S2.new w (m.c (.slice A n c)) (noM.c nilS)
  have e4 : (m.kind == 4) = false := by rw [hk]; rfl
  have e5 : (m.kind == 5) = false := by rw [hk]; rfl
  have e6 : (m.kind == 6) = false := by rw [hk]; rfl
  have e7 : (m.kind == 7) = false := by rw [hk]; rfl
  have e10 : (m.kind == 10) = true := by rw [hk]; rfl
  have e11 : (m.kind == 11) = false := by rw [hk]; rfl
  have e12 : (m.kind == 12) = false := by rw [hk]; rfl
  clear hk
  go_enter Tryz.func41, Tryz.ntmps41
  go_wp2_with (first
    | (with_reducible show wpList _ _ _ (Oper.mk _ (Op.load 27 _) _ _ _ _ :: _) _ _
       refine wpList_loadW (c := ({ m with place := 0, done := false } : M).c (.slice A n c)) S.r1 agg27 rfl _ rfl rfl ?_)
    | (with_reducible show wpList _ _ _ (Oper.mk _ (Op.store 27 _ _) _ _ _ _ :: _) _ _
       refine wpList_storeR (c := ({ m with place := 0, done := false } : M).c (.slice A n c)) rfl _ _ rfl rfl rfl agg27.hi S.r2 rfl (M.one _ rfl) ?_
       refine gen_world2 (S.row2 (({ m with place := 0, done := false } : M).c (.slice A n c))) ?_
       clear S
       intro W S)
    | (with_reducible show wpList _ _ _ (Oper.mk _ (Op.store 3 _ _) _ _ _ _ :: _) _ _
       refine wpList_store1 S.r1 (by kernel_rfl) rfl _ _ rfl (j := 7) rfl (v := .int .i64 0) rfl (by show 7 < 15; decide) rfl rfl ?_
       refine gen_world2 (c1 := ({ m with place := 0 } : M).c (.slice A n c)) (S.set1 7 (.int .i64 0)) ?_
       clear S
       intro W S)
    | (with_reducible show wpList _ _ _ (Oper.mk _ (Op.store 4 _ _) _ _ _ _ :: _) _ _
       refine wpList_store1 S.r1 (by kernel_rfl) rfl _ _ rfl (j := 6) rfl (v := .bool false) rfl (by show 6 < 15; decide) rfl rfl ?_
       refine gen_world2 (c1 := ({ m with place := 0, done := false } : M).c (.slice A n c)) (S.set1 6 (.bool false)) ?_
       clear S
       intro W S))
  exact bodyPost_ret (results_cell_row rfl _ _ _ _ _ _ _ rfl S.r2 Tryz.underlying27 rfl agg27.hi) rfl ⟨rfl, S.below⟩
set_option maxRecDepth 100000 in
set_option maxHeartbeats 2000000 in
theorem bare_11 (m : M) (A : Option Addr) (n c : Nat) (w : World) (hk : m.kind = 11) : Calls Tryz.prog 41 #[.agg (m.c (.slice A n c))] w fun e w' => e = .returned (.agg (({ m with code := 0 } : M).c (.slice A n c))) ∧ Below w.heap.size w w' := by
  have S := S2.new w (m.c (.slice A n c)) (noM.c nilS)
  have e4 : (m.kind == 4) = false := by rw [hk]; rfl
  have e5 : (m.kind == 5) = false := by rw [hk]; rfl
  have e6 : (m.kind == 6) = false := by rw [hk]; rfl
  have e7 : (m.kind == 7) = false := by rw [hk]; rfl
  have e10 : (m.kind == 10) = false := by rw [hk]; rfl
  have e11 : (m.kind == 11) = true := by rw [hk]; rfl
  have e12 : (m.kind == 12) = false := by rw [hk]; rfl
  clear hk
  go_enter Tryz.func41, Tryz.ntmps41
  go_wp2_with (first
    | (with_reducible show wpList _ _ _ (Oper.mk _ (Op.load 27 _) _ _ _ _ :: _) _ _
       refine wpList_loadW (c := ({ m with code := 0 } : M).c (.slice A n c)) S.r1 agg27 rfl _ rfl rfl ?_)
    | (with_reducible show wpList _ _ _ (Oper.mk _ (Op.store 27 _ _) _ _ _ _ :: _) _ _
       refine wpList_storeR (c := ({ m with code := 0 } : M).c (.slice A n c)) rfl _ _ rfl rfl rfl agg27.hi S.r2 rfl (M.one _ rfl) ?_
       refine gen_world2 (S.row2 (({ m with code := 0 } : M).c (.slice A n c))) ?_
       clear S
       intro W S)
    | (with_reducible show wpList _ _ _ (Oper.mk _ (Op.store 25 _ _) _ _ _ _ :: _) _ _
       refine wpList_store1 S.r1 (by kernel_rfl) rfl _ _ rfl (j := 14) rfl (v := .int .i64 0) rfl (by show 14 < 15; decide) rfl rfl ?_
       refine gen_world2 (c1 := ({ m with code := 0 } : M).c (.slice A n c)) (S.set1 14 (.int .i64 0)) ?_
       clear S
       intro W S))
  exact bodyPost_ret (results_cell_row rfl _ _ _ _ _ _ _ rfl S.r2 Tryz.underlying27 rfl agg27.hi) rfl ⟨rfl, S.below⟩
set_option maxRecDepth 100000 in
set_option maxHeartbeats 2000000 in
theorem bare_12 (m : M) (A : Option Addr) (n c : Nat) (w : World) (hk : m.kind = 12) : Calls Tryz.prog 41 #[.agg (m.c (.slice A n c))] w fun e w' => e = .returned (.agg (({ m with code := 0, it := noIt } : M).c (.slice A n c))) ∧ Below w.heap.size w w' := by
  have S := S2.new w (m.c (.slice A n c)) (noM.c nilS)
  have e4 : (m.kind == 4) = false := by rw [hk]; rfl
  have e5 : (m.kind == 5) = false := by rw [hk]; rfl
  have e6 : (m.kind == 6) = false := by rw [hk]; rfl
  have e7 : (m.kind == 7) = false := by rw [hk]; rfl
  have e10 : (m.kind == 10) = false := by rw [hk]; rfl
  have e11 : (m.kind == 11) = false := by rw [hk]; rfl
  have e12 : (m.kind == 12) = true := by rw [hk]; rfl
  clear hk
  go_enter Tryz.func41, Tryz.ntmps41
  go_wp2_with (first
    | (with_reducible show wpList _ _ _ (Oper.mk _ (Op.load 27 _) _ _ _ _ :: _) _ _
       refine wpList_loadW (c := ({ m with code := 0, it := noIt } : M).c (.slice A n c)) S.r1 agg27 rfl _ rfl rfl ?_)
    | (with_reducible show wpList _ _ _ (Oper.mk _ (Op.store 27 _ _) _ _ _ _ :: _) _ _
       refine wpList_storeR (c := ({ m with code := 0, it := noIt } : M).c (.slice A n c)) rfl _ _ rfl rfl rfl agg27.hi S.r2 rfl (M.one _ rfl) ?_
       refine gen_world2 (S.row2 (({ m with code := 0, it := noIt } : M).c (.slice A n c))) ?_
       clear S
       intro W S)
    | (with_reducible show wpList _ _ _ (Oper.mk _ (Op.store 25 _ _) _ _ _ _ :: _) _ _
       refine wpList_store1 S.r1 (by kernel_rfl) rfl _ _ rfl (j := 14) rfl (v := .int .i64 0) rfl (by show 14 < 15; decide) rfl rfl ?_
       refine gen_world2 (c1 := ({ m with code := 0 } : M).c (.slice A n c)) (S.set1 14 (.int .i64 0)) ?_
       clear S
       intro W S)
    | (with_reducible show wpList _ _ _ (Oper.mk _ (Op.store 24 _ _) _ _ _ _ :: _) _ _
       refine wpList_storeI S.r1 (x := noIt) agg24.hi rfl _ _ rfl rfl rfl (by show 14 ≤ 15; decide) ?_
       refine gen_world2 (c1 := ({ m with code := 0, it := noIt } : M).c (.slice A n c)) (S.it1 noIt) ?_
       clear S
       intro W S))
  exact bodyPost_ret (results_cell_row rfl _ _ _ _ _ _ _ rfl S.r2 Tryz.underlying27 rfl agg27.hi) rfl ⟨rfl, S.below⟩
set_option maxRecDepth 100000 in
set_option maxHeartbeats 2000000 in
theorem bare_x (m : M) (A : Option Addr) (n c : Nat) (w : World) (hk : m.kind ≠ 4 ∧ m.kind ≠ 5 ∧ m.kind ≠ 6 ∧ m.kind ≠ 7 ∧ m.kind ≠ 10 ∧ m.kind ≠ 11 ∧ m.kind ≠ 12) : Calls Tryz.prog 41 #[.agg (m.c (.slice A n c))] w fun e w' => e = .returned (.agg ((m : M).c (.slice A n c))) ∧ Below w.heap.size w w' := by
  have S := S2.new w (m.c (.slice A n c)) (noM.c nilS)
  have e4 : (m.kind == 4) = false := by simp [hk]
  have e5 : (m.kind == 5) = false := by simp [hk]
  have e6 : (m.kind == 6) = false := by simp [hk]
  have e7 : (m.kind == 7) = false := by simp [hk]
  have e10 : (m.kind == 10) = false := by simp [hk]
  have e11 : (m.kind == 11) = false := by simp [hk]
  have e12 : (m.kind == 12) = false := by simp [hk]
  clear hk
  go_enter Tryz.func41, Tryz.ntmps41
  go_wp2_with (first
    | (with_reducible show wpList _ _ _ (Oper.mk _ (Op.load 27 _) _ _ _ _ :: _) _ _
       refine wpList_loadW (c := (m : M).c (.slice A n c)) S.r1 agg27 rfl _ rfl rfl ?_)
    | (with_reducible show wpList _ _ _ (Oper.mk _ (Op.store 27 _ _) _ _ _ _ :: _) _ _
       refine wpList_storeR (c := (m : M).c (.slice A n c)) rfl _ _ rfl rfl rfl agg27.hi S.r2 rfl (M.one _ rfl) ?_
       refine gen_world2 (S.row2 ((m : M).c (.slice A n c))) ?_
       clear S
       intro W S))
  exact bodyPost_ret (results_cell_row rfl _ _ _ _ _ _ _ rfl S.r2 Tryz.underlying27 rfl agg27.hi) rfl ⟨rfl, S.below⟩
theorem bare_any (m : M) (A : Option Addr) (n c : Nat) (w : World) : Calls Tryz.prog 41 #[.agg (m.c (.slice A n c))] w fun e w' => e = .returned (.agg ((bareM m).c (bareL m (.slice A n c)))) ∧ Below w.heap.size w w' := by
  by_cases h4 : m.kind = 4
  · have := bare_4 m A n c w h4; simpa [bareM, bareL, h4] using this
  by_cases h5 : m.kind = 5
  · have := bare_5 m A n c w h5; simpa [bareM, bareL, h5] using this
  by_cases h6 : m.kind = 6
  · have := bare_6 m A n c w h6; simpa [bareM, bareL, h6] using this
  by_cases h7 : m.kind = 7
  · have := bare_7 m A n c w h7; simpa [bareM, bareL, h7] using this
  by_cases h10 : m.kind = 10
  · have := bare_10 m A n c w h10; simpa [bareM, bareL, h10] using this
  by_cases h11 : m.kind = 11
  · have := bare_11 m A n c w h11; simpa [bareM, bareL, h11] using this
  by_cases h12 : m.kind = 12
  · have := bare_12 m A n c w h12; simpa [bareM, bareL, h12] using this
  have := bare_x m A n c w ⟨h4, h5, h6, h7, h10, h11, h12⟩
  simpa [bareM, bareL, h4, h5, h6, h7, h10, h11, h12] using this
end Go.Proofs.YtaacjpcckinaiaaGreat.Ms
