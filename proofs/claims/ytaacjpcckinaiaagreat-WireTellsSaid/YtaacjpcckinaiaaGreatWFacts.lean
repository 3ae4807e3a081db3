/- A list of facts about the slots of a region that draws its order. -/
import Derived.Test.YtaacjpcckinaiaaGreatWWake
set_option linter.unusedVariables false
set_option maxRecDepth 100000
set_option linter.unusedSimpArgs false
namespace Go.Proofs.YtaacjpcckinaiaaGreat
open Go.RowKit Go.Shelf Ms

theorem exec_loadR {P : Program} {o : Oper} {a : Act} {ty : TypeId} {w : World} {v : Value} (x : Operand) (ho : o.op = .load ty x) {p : Addr} (hx : a.eval x = .pointer (some p)) (hr : (Instr.loadAt ty (.pointer (some p))).run P w = .ok v w) : (execOp a.eval o).run P w = .ok (.value v) w := by
  unfold execOp
  simp only [ho, hx, Sem.run_bind, Sem.run_pure, Result.andThen_ok, hr]
/-- What is said of a slot. -/
inductive Fd where
  | val : Value → Fd
  | bytes : List UInt8 → Fd
def Fd.sem : Fd → Value → World → Prop
  | .val x, v, _ => v = x
  | .bytes l, v, W => Sl W v (bv l)
theorem Fd.behind (c : Fd) {v : Value} {W W' : World} (hb : Below W.heap.size W W') (h : c.sem v W) : c.sem v W' := by
  cases c with
  | val x => exact h
  | bytes l => exact Sl.below h hb
def RD (fs : List Fd) (i : Nat) (v : Value) (W : World) : Prop := (fs.getD i (.val v)).sem v W
theorem RD.behind {fs : List Fd} {w W : World} (hC : Below w.heap.size w W) (k : Nat) : ∀ W', Below W.heap.size W W' → Below w.heap.size w W' ∧ ∀ j u, j < k → RD fs j u W → RD fs j u W' := by
  intro W' hb
  refine ⟨hC.trans (hb.mono hC.size), fun j u _ h => ?_⟩
  unfold RD at h ⊢
  cases hf : fs[j]? with
  | none => simp [hf, Fd.sem]
  | some c => simp [hf] at h ⊢; exact Fd.behind c hb h

end Go.Proofs.YtaacjpcckinaiaaGreat
