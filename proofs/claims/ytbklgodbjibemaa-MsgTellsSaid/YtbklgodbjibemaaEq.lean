/- Two pairs, two messages, compared as structs. -/
import Derived.Laws.StructEq
import Derived.Test.YtbklgodbjibemaaLeaf
set_option linter.unusedVariables false
set_option linter.unusedSimpArgs false
namespace Go.Proofs.Ytbklgodbjibemaa
open Go.RowKit Go.Shelf

def itEq (x y : It) : Bool := x.key.toList == y.key.toList && (x.val == y.val && (x.ver == y.ver && x.gone == y.gone))
def mEq (x y : M) : Bool := x.kind == y.kind && (x.call == y.call && (x.frm == y.frm && (x.to == y.to && (x.key == y.key && (x.place == y.place && (x.pred == y.pred && (x.slow == y.slow && (x.done == y.done && (itEq x.it y.it && x.code == y.code)))))))))
theorem bytes_inj {a b : ByteArray} (h : a.toList = b.toList) : a = b := by
  rw [ByteArray.toList_eq, ByteArray.toList_eq] at h
  exact ByteArray.ext (Array.toList_inj.1 h)
theorem itEq_iff {x y : It} : itEq x y = true ↔ x = y := by
  obtain ⟨a, b, c, d⟩ := x
  obtain ⟨a', b', c', d'⟩ := y
  simp only [itEq, Bool.and_eq_true, beq_iff_eq, It.mk.injEq]
  exact ⟨fun ⟨h1, h2⟩ => ⟨bytes_inj h1, h2⟩, fun ⟨h1, h2⟩ => ⟨by rw [h1], h2⟩⟩
theorem mEq_iff {x y : M} : mEq x y = true ↔ x = y := by
  obtain ⟨a, b, c, d, e, f, g, h, i, j, k⟩ := x
  obtain ⟨a', b', c', d', e', f', g', h', i', j', k'⟩ := y
  simp only [mEq, Bool.and_eq_true, beq_iff_eq, M.mk.injEq, itEq_iff]
  constructor
  · rintro ⟨h1, h2, h3, h4, h5, h6, h7, h8, h9, h10, h11⟩
    exact ⟨h1, h2, h3, h4, h5, h8, h9, h6, h7, h10, h11⟩
  · rintro ⟨h1, h2, h3, h4, h5, h8, h9, h6, h7, h10, h11⟩
    exact ⟨h1, h2, h3, h4, h5, h6, h7, h8, h9, h10, h11⟩

section
variable (w : World)
theorem st24 : Try.prog.stoodInHeld 24 = false := by kernel_rfl
theorem st50 : Try.prog.stoodInHeld 50 = false := by kernel_rfl
theorem eg24 : Try.prog.eqGuardType Try.prog.depth 24 = false := by kernel_rfl
theorem eg50 : Try.prog.eqGuardType Try.prog.depth 50 = false := by kernel_rfl
theorem equalIn_I (d : Nat) (x y : It) : (Op.equalIn (d + 1 + 1) 24 (.agg x.c) (.agg y.c)).run Try.prog w = .ok (itEq x y) w := by
  rw [run_equalIn_agg w (d + 1) 24 x.c y.c (by rw [Program.fieldsOf, Try.underlying24]) st24]
  rw [Program.fieldsOf, Try.underlying24]
  unfold itEq
  obtain ⟨b1, h1⟩ : ∃ b, (x.key.toList == y.key.toList) = b := ⟨_, rfl⟩
  obtain ⟨b2, h2⟩ : ∃ b, (x.val == y.val) = b := ⟨_, rfl⟩
  obtain ⟨b3, h3⟩ : ∃ b, (x.ver == y.ver) = b := ⟨_, rfl⟩
  obtain ⟨b4, h4⟩ : ∃ b, (x.gone == y.gone) = b := ⟨_, rfl⟩
  rw [h1, h2, h3, h4]
  cases b1 <;> cases b2 <;> cases b3 <;> cases b4 <;> simp [go_sem, part, isAgg, h1, h2, h3, h4]
@[go_sem] theorem M.fl0 (m : M) : m.f[0]? = some (.int .u8 m.kind) := rfl
@[go_sem] theorem M.fl1 (m : M) : m.f[1]? = some (.int .i64 m.call) := rfl
@[go_sem] theorem M.fl2 (m : M) : m.f[2]? = some (.int .i64 m.frm) := rfl
@[go_sem] theorem M.fl3 (m : M) : m.f[3]? = some (.int .i64 m.to) := rfl
@[go_sem] theorem M.fl4 (m : M) : m.f[4]? = some (.int .i64 m.key) := rfl
@[go_sem] theorem M.fl5 (m : M) : m.f[5]? = some (.int .i64 m.place) := rfl
@[go_sem] theorem M.fl6 (m : M) : m.f[6]? = some (.int .i64 m.pred) := rfl
@[go_sem] theorem M.fl7 (m : M) : m.f[7]? = some (.bool m.slow) := rfl
@[go_sem] theorem M.fl8 (m : M) : m.f[8]? = some (.bool m.done) := rfl
@[go_sem] theorem M.fl13 (m : M) : m.f[13]? = some (.int .i64 m.code) := rfl
@[go_sem] theorem M.fl9 (m : M) : m.f.extract 9 13 = m.it.c := rfl
theorem eqF_step {P : Program} {w : World} {d : Nat} {xs ys : Array Value} {f : Field} {fs : List Field} {a b : Value} {r s : Bool} (hn : f.name ≠ "_") (hx : (part f.type xs f.offset).run P w = .ok a w) (hy : (part f.type ys f.offset).run P w = .ok b w)
    (he : (Op.equalIn d f.type a b).run P w = .ok r w) (hs : (Op.eqFields d xs ys fs).run P w = .ok s w) : (Op.eqFields d xs ys (f :: fs)).run P w = .ok (r && s) w := by
  simp only [Op.eqFields, hn, ne_eq, not_false_eq_true, if_true, Sem.run_bind, hx, hy, he, Result.andThen_ok]
  cases r
  · simp
  · simpa using hs
theorem part_1 {P : Program} {w : World} {t : TypeId} {xs : Array Value} {off : Nat} {v : Value} (ht : (isAgg t).run P w = .ok false w) (h : xs[off]? = some v) : (part t xs off).run P w = .ok v w := by
  simp [part, ht, h]
theorem part_I (m : M) : (part 24 m.f 9).run Try.prog w = .ok (.agg m.it.c) w := by
  have h : (isAgg 24).run Try.prog w = .ok true w := by simp [isAgg, run_underlying Try.underlying24 w]
  have hs : (sizeOf 24).run Try.prog w = .ok 4 w := by
    have h := agg24.hi
    cases hq : Try.prog.info? 24 with
    | none => rw [hq] at h; cases h
    | some i =>
      rw [hq] at h
      have h : i.size = 4 := by simpa using h
      simp [sizeOf, typeInfo, hq, h]
  simp [part, h, hs, M.fl9]
theorem notAgg3 : (isAgg 3).run Try.prog w = .ok false w := by simp [isAgg, run_underlying Try.underlying3 w]
theorem notAgg4 : (isAgg 4).run Try.prog w = .ok false w := by simp [isAgg, run_underlying Try.underlying4 w]
theorem notAgg5 : (isAgg 5).run Try.prog w = .ok false w := by simp [isAgg, run_underlying Try.underlying5 w]
theorem notAgg25 : (isAgg 25).run Try.prog w = .ok false w := by simp [isAgg, run_underlying Try.underlying25 w]
theorem equalIn_F (d : Nat) (x y : M) : (Op.equalIn (d + 1 + 1 + 1) 50 (.agg x.f) (.agg y.f)).run Try.prog w = .ok (mEq x y) w := by
  rw [run_equalIn_agg w (d + 1 + 1) 50 x.f y.f (by rw [Program.fieldsOf, Try.underlying50]) st50]
  rw [Program.fieldsOf, Try.underlying50]
  have hm : mEq x y = (x.kind == y.kind && (x.call == y.call && (x.frm == y.frm && (x.to == y.to && (x.key == y.key && (x.place == y.place && (x.pred == y.pred && (x.slow == y.slow && (x.done == y.done && (itEq x.it y.it && (x.code == y.code && true))))))))))) := by unfold mEq; rw [Bool.and_true]
  rw [hm]
  refine eqF_step (by decide) (part_1 (notAgg5 w) (M.fl0 x)) (part_1 (notAgg5 w) (M.fl0 y)) (run_equalIn_int w _ 5 .u8 .u8 _ _ Try.underlying5) ?_
  refine eqF_step (by decide) (part_1 (notAgg3 w) (M.fl1 x)) (part_1 (notAgg3 w) (M.fl1 y)) (run_equalIn_int w _ 3 .i64 .i64 _ _ Try.underlying3) ?_
  refine eqF_step (by decide) (part_1 (notAgg3 w) (M.fl2 x)) (part_1 (notAgg3 w) (M.fl2 y)) (run_equalIn_int w _ 3 .i64 .i64 _ _ Try.underlying3) ?_
  refine eqF_step (by decide) (part_1 (notAgg3 w) (M.fl3 x)) (part_1 (notAgg3 w) (M.fl3 y)) (run_equalIn_int w _ 3 .i64 .i64 _ _ Try.underlying3) ?_
  refine eqF_step (by decide) (part_1 (notAgg3 w) (M.fl4 x)) (part_1 (notAgg3 w) (M.fl4 y)) (run_equalIn_int w _ 3 .i64 .i64 _ _ Try.underlying3) ?_
  refine eqF_step (by decide) (part_1 (notAgg3 w) (M.fl5 x)) (part_1 (notAgg3 w) (M.fl5 y)) (run_equalIn_int w _ 3 .i64 .i64 _ _ Try.underlying3) ?_
  refine eqF_step (by decide) (part_1 (notAgg3 w) (M.fl6 x)) (part_1 (notAgg3 w) (M.fl6 y)) (run_equalIn_int w _ 3 .i64 .i64 _ _ Try.underlying3) ?_
  refine eqF_step (by decide) (part_1 (notAgg4 w) (M.fl7 x)) (part_1 (notAgg4 w) (M.fl7 y)) (run_equalIn_bool' w _ 4 _ _ Try.underlying4) ?_
  refine eqF_step (by decide) (part_1 (notAgg4 w) (M.fl8 x)) (part_1 (notAgg4 w) (M.fl8 y)) (run_equalIn_bool' w _ 4 _ _ Try.underlying4) ?_
  refine eqF_step (by decide) (part_I w x) (part_I w y) (equalIn_I w d x.it y.it) ?_
  refine eqF_step (by decide) (part_1 (notAgg25 w) (M.fl13 x)) (part_1 (notAgg25 w) (M.fl13 y)) (run_equalIn_int w _ 25 .i64 .i64 _ _ Try.underlying25) ?_
  simp [Op.eqFields]
theorem run_eqI (x y : It) : (binOp .eql 24 (.agg x.c) (.agg y.c)).run Try.prog w = .ok (.bool (itEq x y)) w := by
  rw [run_eql_struct, equalIn_I w 9998 x y]; rfl
theorem run_eqF (x y : M) : (binOp .eql 50 (.agg x.f) (.agg y.f)).run Try.prog w = .ok (.bool (mEq x y)) w := by
  rw [run_eql_struct, equalIn_F w 9997 x y]; rfl
end

section
variable {P : Program} {ops : Array Oper} {rest : List Oper} {o : Oper} {a : Act} {w : World} {Q : Exit → Act → World → Prop}
theorem exec_eqA {ty : TypeId} (x y : Operand) (ho : o.op = .binOp .eql ty x y ty) {c c' : Array Value} (hx : a.eval x = .agg c) (hy : a.eval y = .agg c') (hg : P.eqGuardType P.depth ty = false) {v : Value} (hr : (binOp .eql ty (.agg c) (.agg c')).run P w = .ok v w) :
    (execOp a.eval o).run P w = .ok (.value v) w := by
  unfold execOp
  simp only [ho, hx, hy, Sem.run_bind, Sem.run_pure, Result.andThen_ok, run_eqGuard_agg w .eql ty x y c c' hg, hr]
theorem wpList_eqR (hw : Region.wanted o (yielded ops a.tmps) = true) {ty : TypeId} (x y : Operand) (ho : o.op = .binOp .eql ty x y ty) {c c' : Array Value} (hx : a.eval x = .agg c) (hy : a.eval y = .agg c') (hg : P.eqGuardType P.depth ty = false) {v : Value} (hr : (binOp .eql ty (.agg c) (.agg c')).run P w = .ok v w)
    (h : wpList P ops Q rest (a.put o.dst v) w) : wpList P ops Q (o :: rest) a w := by
  refine wpList_step fun K hK => ?_
  rw [if_pos hw]
  unfold Oper.wp
  rw [exec_eqA x y ho hx hy hg hr]
  exact hK _ _ h
end
end Go.Proofs.Ytbklgodbjibemaa
