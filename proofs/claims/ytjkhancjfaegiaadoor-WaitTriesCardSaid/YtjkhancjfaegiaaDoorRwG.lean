/- Rows of cells that nobody opens: what a load, a store, a part of one does; the worlds behind which what lay lies. No program is named here. -/
import Derived.Test.YtjkhancjfaegiaaDoorMade
import Derived.WalkKit
import Derived.WalkLawsBesides
import Derived.Laws.NewFold
import Derived.BigQuiet
import Derived.Deep.QuietTactic
import Derived.Deep.MidRow
import Derived.Deep.WholeRow
import Derived.Lib.Small
import Derived.Lib.Walk
import Derived.Lib.Hide
import Derived.Handy
set_option linter.unusedVariables false
set_option maxRecDepth 100000
set_option linter.unusedSimpArgs false
namespace Go.Proofs.YtjkhancjfaegiaaDoor.Ms
open Go.RowKit Go.Shelf

theorem ret_i {a b : Int} (h : a = b) : Ending.returned (.int .i64 a) = .returned (.int .i64 b) := by rw [h]
theorem ret_b {a b : Bool} (h : a = b) : Ending.returned (.bool a) = .returned (.bool b) := by rw [h]

theorem box_below (w : World) (o : Obj) : Below w.heap.size w (w.alloc o) := (Below.refl _ w).alloc (Nat.le_refl _) o

/-! ### Rows -/
/-- The block b is the row c. -/
def Rw (w : World) (b : Nat) (t : TypeId) (c : Array Value) : Prop := w.heap[b]? = some (.cells c t (0, 0))
theorem Rw.new (w : World) (c : Array Value) (t : TypeId) : Rw (w.alloc (.cells c t)) w.heap.size t c := heap_alloc_last w _
theorem Rw.lt {w : World} {b : Nat} {t : TypeId} {c : Array Value} (h : Rw w b t c) : b < w.heap.size := (Array.getElem?_eq_some_iff.1 h).1
theorem Rw.alloc {w : World} {b : Nat} {t : TypeId} {c : Array Value} (h : Rw w b t c) (o : Obj) : Rw (w.alloc o) b t c := by
  have := h.lt
  unfold Rw at *
  simp only [World.alloc, Array.getElem?_push]
  rw [if_neg (by omega)]; exact h
theorem Rw.below {w w' : World} {b : Nat} {t : TypeId} {c : Array Value} (h : Rw w b t c) (hb : Below w.heap.size w w') : Rw w' b t c := (hb.block b h.lt).trans h
theorem Rw.drew {w : World} {b : Nat} {t : TypeId} {c : Array Value} (h : Rw w b t c) : Rw w.drew b t c := h
theorem Rw.cell {w : World} {b : Nat} {t : TypeId} {c : Array Value} (h : Rw w b t c) (j : Nat) : w.cell? ⟨b, j, none⟩ = c[j]? := cell_of_row w b j c t (0, 0) h
theorem Rw.free {w : World} {b : Nat} {t : TypeId} {c : Array Value} (h : Rw w b t c) (j : Nat) : w.frozen? ⟨b, j, none⟩ = false := by
  unfold Rw at h
  unfold World.frozen?
  rw [h]
  simp
theorem Rw.range {w : World} {b : Nat} {t : TypeId} {c : Array Value} (h : Rw w b t c) (o : Nat) (cs : List Value) (hc : ∀ j v, cs[j]? = some v → c[o + j]? = some v) : w.rangeAt b o cs := fun j v hv => by
  rw [h.cell]; exact hc j v hv
theorem Rw.set {w : World} {b : Nat} {t : TypeId} {c : Array Value} (h : Rw w b t c) (j : Nat) (v : Value) : Rw (w.setCell ⟨b, j, none⟩ v) b t (c.setIfInBounds j v) := by
  have hb := h.lt
  unfold Rw at *
  simp [World.setCell, Array.getElem?_modify, h]
theorem Rw.set_other {w : World} {b g : Nat} {t : TypeId} {c : Array Value} (h : Rw w b t c) (hne : b ≠ g) (j : Nat) (v : Value) : Rw (w.setCell ⟨g, j, none⟩ v) b t c :=
  (Below.heap_setCell w ⟨g, j, none⟩ v b hne).trans h
theorem Rw.setRow {w : World} {b : Nat} {t : TypeId} {c c' : Array Value} (h : Rw w b t c) : Rw (w.setRow b c') b t c' := setRow_heap w b c c' t (0, 0) h
theorem Rw.setRow_other {w : World} {b g : Nat} {t : TypeId} {c c' : Array Value} (h : Rw w b t c) (hne : b ≠ g) : Rw (w.setRow g c') b t c := (Go.setRow_other w g b c' hne).trans h
theorem below_setRow {W w : World} (h : Below W.heap.size W w) {g : Nat} (hg : W.heap.size ≤ g) (c : Array Value) : Below W.heap.size W (w.setRow g c) :=
  ⟨h.os, h.tape, h.output, Nat.le_trans h.size (by simp [World.setRow]), fun k hk => (Go.setRow_other w g k c (by omega)).trans (h.block k hk)⟩

/-! ### Worlds behind one: what lay lies -/
structure Wd (W : World) where
  w : World
  below : Below W.heap.size W w
theorem Wd.ex {W w : World} (h : Below W.heap.size W w) : ∃ x : Wd W, w = x.w := ⟨⟨w, h⟩, rfl⟩
theorem Wd.row {W : World} {b : Nat} {t : TypeId} {c : Array Value} (h : Rw W b t c) (x : Wd W) : Rw x.w b t c := h.below x.below
theorem Wd.sl {W : World} {v : Value} {xs : List Value} (h : Sl W v xs) (x : Wd W) : Sl x.w v xs := h.below x.below
theorem Wd.drew {W : World} (x : Wd W) : ∃ y : Wd W, x.w.drew = y.w := ⟨⟨x.w.drew, x.below.drew⟩, rfl⟩
theorem Wd.on {W : World} (x : Wd W) {w : World} (h : Below x.w.heap.size x.w w) : ∃ y : Wd W, w = y.w := ⟨⟨w, x.below.trans (h.mono x.below.size)⟩, rfl⟩
/-- A contract for any world, as it is met. -/
theorem Wd.call {P : Program} {f : FuncId} {args : Array Value} {v : Value} {W : World} (x : Wd W) (h : Calls P f args x.w fun e w' => e = .returned v ∧ Below x.w.heap.size x.w w') :
    Calls P f args x.w fun e w' => e = .returned v ∧ ∃ y : Wd W, w' = y.w := h.mono fun e w' ⟨he, hb⟩ => ⟨he, x.on hb⟩

/-! ### Whole loads and stores -/
section
variable {P : Program} {ops : Array Oper} {rest : List Oper} {o : Oper} {a : Act} {w : World} {Q : Exit → Act → World → Prop} {b : Nat} {t ty : TypeId} {c : Array Value} {d : TypeDesc}
/-- What a type is, for a whole load or store of one. -/
structure Agg (P : Program) (ty : TypeId) (n : Nat) : Prop where
  hu : ∃ d, P.underlying ty = some d ∧ d.isRow = true
  hi : (P.info? ty).map (·.size) = some n

theorem run_loadR (A : Agg P ty c.size) (h : Rw w b t c) : (Instr.loadAt ty (.pointer (some ⟨b, 0, none⟩))).run P w = .ok (.agg c) w := by
  obtain ⟨d, hu, hd⟩ := A.hu
  have := run_loadAt_mid w b 0 ty c.toList d (h.range 0 c.toList (fun j v hv => by simpa using hv)) hu hd (by rw [A.hi]; simp)
  simpa using this
theorem run_loadP {o : Nat} {cs : Array Value} (A : Agg P ty cs.size) (h : Rw w b t c) (hc : ∀ j v, cs[j]? = some v → c[o + j]? = some v) : (Instr.loadAt ty (.pointer (some ⟨b, o, none⟩))).run P w = .ok (.agg cs) w := by
  obtain ⟨d, hu, hd⟩ := A.hu
  have := run_loadAt_mid w b o ty cs.toList d (h.range o cs.toList (fun j v hv => hc j v (by simpa using hv))) hu hd (by rw [A.hi]; simp)
  simpa using this

theorem wpList_loadR (hw : Region.wanted o (yielded ops a.tmps) = true) (x : Operand) (ho : o.op = .load ty x) {p : Addr} (hx : a.eval x = .pointer (some p)) {v : Value} (hr : (Instr.loadAt ty (.pointer (some p))).run P w = .ok v w)
    (h : wpList P ops Q rest (a.put o.dst v) w) : wpList P ops Q (o :: rest) a w := by
  refine wpList_step fun K hK => ?_
  rw [if_pos hw]
  unfold Oper.wp execOp
  simp only [ho, hx, Sem.run_bind, Sem.run_pure, Result.andThen_ok, hr]
  exact hK _ _ h
/-- The same, the row ahead: an address that does not fit fails at once. -/
theorem wpList_loadW (h0 : Rw w b t c) (A : Agg P ty c.size) (hw : Region.wanted o (yielded ops a.tmps) = true) (x : Operand) (ho : o.op = .load ty x) (hx : a.eval x = .pointer (some ⟨b, 0, none⟩))
    (h : wpList P ops Q rest (a.put o.dst (.agg c)) w) : wpList P ops Q (o :: rest) a w := wpList_loadR hw x ho hx (run_loadR A h0) h
theorem wpList_loadPt (h0 : Rw w b t c) {q : Nat} {cs : Array Value} (hc : ∀ j v, cs[j]? = some v → c[q + j]? = some v) (A : Agg P ty cs.size) (hw : Region.wanted o (yielded ops a.tmps) = true) (x : Operand) (ho : o.op = .load ty x) (hx : a.eval x = .pointer (some ⟨b, q, none⟩))
    (h : wpList P ops Q rest (a.put o.dst (.agg cs)) w) : wpList P ops Q (o :: rest) a w := wpList_loadR hw x ho hx (run_loadP A h0 hc) h
theorem wpList_buildR (hw : Region.wanted o (yielded ops a.tmps) = true) (parts : List (Nat × Operand)) (ho : o.op = .build ty parts.toArray) {vals : List (Nat × Value)} (hv : parts.map (fun p => (p.1, a.eval p.2)) = vals) {v : Value} (hr : (Instr.build ty vals.toArray).run P w = .ok v w)
    (h : wpList P ops Q rest (a.put o.dst v) w) : wpList P ops Q (o :: rest) a w := by
  refine wpList_step fun K hK => ?_
  rw [if_pos hw]
  unfold Oper.wp execOp
  subst hv
  simp only [ho, Sem.run_bind, Sem.run_pure, Result.andThen_ok, List.map_toArray, hr]
  exact hK _ _ h
theorem run_storeR (hi : (P.info? ty).map (·.size) = some c.size) {c0 : Array Value} (h0 : Rw w b t c0) (hs : c0.size = c.size) (h1 : c.all (·.oneCell') = true) :
    (Instr.storeAt ty (.pointer (some ⟨b, 0, none⟩)) (.agg c)).run P w = .ok () (w.setRow b c) := by
  simp only [Instr.storeAt, Instr.sureAddr, Sem.run_bind, Sem.run_pure, Result.andThen]
  exact run_storeVar_row w b t ty c0 c h0 hi hs h1
theorem wpList_storeR (hw : Region.wanted o (yielded ops a.tmps) = true) (x y : Operand) (ho : o.op = .store ty x y) (hx : a.eval x = .pointer (some ⟨b, 0, none⟩)) (hy : a.eval y = .agg c) (hi : (P.info? ty).map (·.size) = some c.size) {c0 : Array Value} (h0 : Rw w b t c0) (hs : c0.size = c.size) (h1 : c.all (·.oneCell') = true)
    (h : wpList P ops Q rest (a.put o.dst undef) (w.setRow b c)) : wpList P ops Q (o :: rest) a w := by
  refine wpList_step fun K hK => ?_
  rw [if_pos hw]
  unfold Oper.wp execOp
  simp only [ho, hx, hy, Sem.run_bind, Sem.run_pure, Result.andThen_ok, run_storeR hi h0 hs h1]
  exact hK _ _ h
end

section
variable {P : Program} {ops : Array Oper} {rest : List Oper} {o : Oper} {a : Act} {w : World} {Q : Exit → Act → World → Prop} {b : Nat} {t ty : TypeId} {c : Array Value}
theorem wpList_store1 (h0 : Rw w b t c) (hi : (P.info? ty).map (·.size) = some 1) (hw : Region.wanted o (yielded ops a.tmps) = true) (x y : Operand) (ho : o.op = .store ty x y) {j : Nat} (hx : a.eval x = .pointer (some ⟨b, j, none⟩)) {v : Value} (hy : a.eval y = v)
    (hj : j < c.size) (hv : v.cells = #[v]) (h1 : v.oneCell' = true)
    (h : wpList P ops Q rest (a.put o.dst undef) (w.setCell ⟨b, j, none⟩ v)) : wpList P ops Q (o :: rest) a w := by
  refine wpList_step fun K hK => ?_
  rw [if_pos hw]
  unfold Oper.wp execOp
  have hr : (Instr.storeAt ty (.pointer (some ⟨b, j, none⟩)) v).run P w = .ok () (w.setCell ⟨b, j, none⟩ v) := by
    simp only [Instr.storeAt, Instr.sureAddr, Sem.run_bind, Sem.run_pure, Result.andThen]
    cases hq : P.info? ty with
    | none => simp [hq] at hi
    | some i =>
      have hs : i.size = 1 := by simpa [hq] using hi
      have hadd : (⟨b, j, none⟩ : Addr).add 0 = ⟨b, j, none⟩ := by rw [add_plain, Nat.add_zero]
      have hst := run_store P w ⟨b, j, none⟩ v .plain h1
      have hc : w.cell? ⟨b, j, none⟩ = some c[j] := by rw [h0.cell]; exact Array.getElem?_eq_getElem hj
      unfold stored at hst
      rw [hc] at hst
      simp only [h0.free, Bool.false_eq_true, if_false] at hst
      simp [storeVar, sizeOf, typeInfo, hq, hv, hs, storeCells, hadd, hst]
  simp only [ho, hx, hy, Sem.run_bind, Sem.run_pure, Result.andThen_ok, hr]
  exact hK _ _ h
end
theorem two_boxes (w : World) (c z : Array Value) (t u : TypeId) : Rw ((w.alloc (.cells c t)).alloc (.cells z u)) w.heap.size t c ∧ Rw ((w.alloc (.cells c t)).alloc (.cells z u)) (w.heap.size + 1) u z ∧ Below w.heap.size w ((w.alloc (.cells c t)).alloc (.cells z u)) := by
  refine ⟨(Rw.new w c t).alloc _, ?_, (box_below w _).alloc (by simp) _⟩
  have := Rw.new (w.alloc (.cells c t)) z u
  rwa [World.size_alloc] at this
theorem gen_w {P : Program} {ops : Array Oper} {rest : List Oper} {a : Act} {w : World} {Q : Exit → Act → World → Prop} (p : World → Prop) (hp : p w) (h : ∀ W, p W → wpList P ops Q rest a W) : wpList P ops Q rest a w := h w hp

/-- A whole store, as one operation. -/
theorem wp_storeRow {P : Program} {ty : TypeId} {o : Oper} {a : Act} {w : World} {K : Act → World → Prop} {Q : Exit → Act → World → Prop} {b : Nat} {t : TypeId} {c : Array Value} (x y : Operand) (ho : o.op = .store ty x y) (hx : a.eval x = .pointer (some ⟨b, 0, none⟩)) (hy : a.eval y = .agg c) (hi : (P.info? ty).map (·.size) = some c.size) {c0 : Array Value} (h0 : Rw w b t c0) (hs : c0.size = c.size) (h1 : c.all (·.oneCell') = true)
    (h : K (a.put o.dst undef) (w.setRow b c)) : o.wp P a w K Q := by
  unfold Oper.wp execOp
  simp only [ho, hx, hy, Sem.run_bind, Sem.run_pure, Result.andThen_ok, run_storeR hi h0 hs h1]
  exact h
theorem gen_exit {Q : Exit → Act → World → Prop} {e : Exit} {a : Act} {w : World} (p : World → Prop) (hp : p w) (h : ∀ X, p X → Q e a X) : Q e a w := h w hp
theorem gen_code {P : Program} {c : Code} {Q : Exit → Act → World → Prop} {a : Act} {w : World} (p : World → Prop) (hp : p w) (h : ∀ X, p X → c.wp P Q a X) : c.wp P Q a w := h w hp
end Go.Proofs.YtjkhancjfaegiaaDoor.Ms
