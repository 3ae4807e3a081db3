/- Arrays of four ints compared. -/
import Derived.Laws.StructEq
import Derived.ChangeKeysEq
import Derived.Test.YtjkhancjfaegiaaDoorTPlan
set_option linter.unusedVariables false
set_option linter.unusedSimpArgs false
namespace Go.Proofs.YtjkhancjfaegiaaDoor
open Go.RowKit Go.Shelf

section
variable {P : Program} {ops : Array Oper} {rest : List Oper} {o : Oper} {a : Act} {w : World} {Q : Exit → Act → World → Prop}
theorem exec_eqArr {ty : TypeId} (x y : Operand) (ho : o.op = .binOp .eql ty x y ty) {c c' : Array Value} (hx : a.eval x = .agg c) (hy : a.eval y = .agg c') (hg : P.eqGuardType P.depth ty = false) {v : Value} (hr : (binOp .eql ty (.agg c) (.agg c')).run P w = .ok v w) :
    (execOp a.eval o).run P w = .ok (.value v) w := by
  unfold execOp
  simp only [ho, hx, hy, Sem.run_bind, Sem.run_pure, Result.andThen_ok, run_eqGuard_agg w .eql ty x y c c' hg, hr]
theorem wpList_eqArr (hw : Region.wanted o (yielded ops a.tmps) = true) {ty : TypeId} (x y : Operand) (ho : o.op = .binOp .eql ty x y ty) {c c' : Array Value} (hx : a.eval x = .agg c) (hy : a.eval y = .agg c') (hg : P.eqGuardType P.depth ty = false) {v : Value} (hr : (binOp .eql ty (.agg c) (.agg c')).run P w = .ok v w)
    (h : wpList P ops Q rest (a.put o.dst v) w) : wpList P ops Q (o :: rest) a w := by
  refine wpList_step fun K hK => ?_
  rw [if_pos hw]
  unfold Oper.wp
  rw [exec_eqArr x y ho hx hy hg hr]
  exact hK _ _ h
end
theorem egP : Tryd.prog.eqGuardType Tryd.prog.depth 24 = false := by kernel_rfl
theorem cellsInt : Tryd.prog.cellsOf 3 = 1 := by kernel_rfl
theorem infoInt : ∃ i, Tryd.prog.info? 3 = some i := Option.isSome_iff_exists.1 (show (Tryd.prog.info? 3).isSome = true by kernel_rfl)
theorem run_same4 (w : World) (a b c d : Int) : (binOp .eql 24 (.agg #[.int .i64 a, .int .i64 b, .int .i64 c, .int .i64 d]) (.agg #[.int .i64 a, .int .i64 b, .int .i64 c, .int .i64 d])).run Tryd.prog w = .ok (.bool true) w := by
  obtain ⟨i, hi⟩ := infoInt
  have hu : Tryd.prog.underlying 24 = some (.array 4 3) := Tryd.underlying24
  rw [run_eql_struct, show (10000 : Nat) = 9998 + 1 + 1 from rfl, run_equalIn_array w 9999 _ _ hu hi, cellsInt]
  have hn : ∀ w, (isAgg 3).run Tryd.prog w = .ok false w := fun w => by simp [isAgg, run_underlying Tryd.underlying3 w]
  simp [Op.eqItems, List.range, List.range.loop, part, hn, run_equalIn_int w 9998 3 .i64 .i64 _ _ Tryd.underlying3]
end Go.Proofs.YtjkhancjfaegiaaDoor
