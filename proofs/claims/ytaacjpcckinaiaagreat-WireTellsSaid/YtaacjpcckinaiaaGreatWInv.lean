/- Operations of a region that draws, one by one: what they yield, kept. -/
import Derived.Test.YtaacjpcckinaiaaGreatAnyInv
import Derived.Test.YtaacjpcckinaiaaGreatWTake
set_option linter.unusedVariables false
set_option maxRecDepth 100000
set_option linter.unusedSimpArgs false
namespace Go.Proofs.YtaacjpcckinaiaaGreat
open Go.RowKit Go.Shelf Ms

section
variable {P : Program} {ops : Array Oper} {Q : Exit → Act → World → Prop} {R : Nat → Value → World → Prop} {C : World → Prop} {k i : Nat} {o : Oper} {a : Act} {w : World}
theorem owed_pure {v : Value} (hr : (execOp a.eval o).run P w = .ok (.value v) w) (hC : C w) (hR : R i v w) : o.wp P a w (Owed R C k i o a w) Q := by
  unfold Oper.wp
  rw [hr]
  exact ⟨v, rfl, hC, hR, fun _ _ _ h => h⟩
theorem owed_run {v : Value} {w' : World} (hr : (execOp a.eval o).run P w = .ok (.value v) w') (hb : Below w.heap.size w w') (hS : ∀ W', Below w.heap.size w W' → C W' ∧ ∀ j u, j < k → R j u w → R j u W') (hR : R i v w') : o.wp P a w (Owed R C k i o a w) Q := by
  unfold Oper.wp
  rw [hr]
  exact ⟨v, rfl, (hS _ hb).1, hR, (hS _ hb).2⟩
theorem owed_call {f : FuncId} {xs : Array Operand} {ts : Array TypeId} {vals : Array Value} (ho : o.op = .call { callee := .value (.func f), args := xs, argTypes := ts }) (hf : ∀ args w, (callFunc f args).run P w = .ok (.enter f args) w) (hx : xs.map a.eval = vals)
    (hS : ∀ W', Below w.heap.size w W' → C W' ∧ ∀ j u, j < k → R j u w → R j u W') (hc : Calls P f vals w fun e w' => ∃ v, e = .returned v ∧ R i v w' ∧ Below w.heap.size w w') : o.wp P a w (Owed R C k i o a w) Q := by
  unfold Oper.wp execOp
  have hev : a.eval (.func f) = .func (.func f) #[] #[] := rfl
  simp only [ho, resolve, invoke, Sem.run_bind, Sem.run_pure, Result.andThen_ok, hx, hev, Deferred.ofValue, Array.append_empty, Array.empty_append, hf]
  refine hc.mono ?_
  rintro e w' ⟨v, rfl, hR, hb⟩
  exact ⟨v, rfl, (hS _ hb).1, hR, (hS _ hb).2⟩
end
end Go.Proofs.YtaacjpcckinaiaaGreat
