/- What is laid flat, laid bare, filled; what is great: for any message. -/
import Derived.Test.YtbklgodbjibemaaLeaf
import Derived.Test.YtbklgodbjibemaaList
set_option linter.unusedVariables false
set_option linter.unusedSimpArgs false
namespace Go.Proofs.Ytbklgodbjibemaa
open Go.RowKit Go.Shelf

theorem great_any (m : M) (A : Option Addr) (n c : Nat) (w : World) : Calls Try.prog 8 #[.agg (m.c (.slice A n c))] w fun e w' => e = .returned (.bool (decide (30 < n) || decide (100 < m.it.key.size))) ∧ Below w.heap.size w w' := by
  go_enter Try.func8, Try.ntmps8
  go_wp2_with fail
  all_goals (go_ret; exact ⟨ret_b (by rw [Bool.eq_iff_iff]; simp; try omega), box_below _ _⟩)

set_option maxHeartbeats 1000000 in
theorem flatOf_any (m : M) (l : Value) (w : World) : Calls Try.prog 36 #[.agg (m.c l)] w fun e w' => e = .returned (.agg m.f) ∧ Below w.heap.size w w' := by
  obtain ⟨h0, g0, hB0⟩ := two_boxes w (m.c l) (M.f noM) 27 50
  have hB2 := fun c => below_setRow hB0 (g := w.heap.size + 1) (by omega) c
  go_enter Try.func36, Try.ntmps36
  go_wp2_with (first
    | (refine wpList_loadR (ty := 24) (v := .agg m.it.c) rfl _ rfl rfl (run_loadP agg24 h0 (m.item l)) ?_)
    | (with_reducible show wpList _ _ _ (Oper.mk _ (Op.build _ _) _ _ _ _ :: _) _ _
       refine wpList_buildR (vals := [(0, .int .u8 m.kind), (1, .int .i64 m.call), (2, .int .i64 m.frm), (3, .int .i64 m.to), (4, .int .i64 m.key), (5, .int .i64 m.place), (6, .int .i64 m.pred), (7, .bool m.slow), (8, .bool m.done), (9, .agg m.it.c), (10, .int .i64 m.code)]) rfl _ rfl (by simp [Act.eval]) (run_buildF m _) ?_)
    | (with_reducible show wpList _ _ _ (Oper.mk _ (Op.store _ _ _) _ _ _ _ :: _) _ _
       refine wpList_storeR (c := m.f) rfl _ _ rfl rfl rfl agg50.hi g0 rfl (by simp [M.f, Value.oneCell']) ?_))
  exact bodyPost_ret (results_cell_row rfl _ _ _ _ _ _ _ rfl g0.setRow Try.underlying50 rfl agg50.hi) rfl ⟨rfl, hB2 _⟩
end Go.Proofs.Ytbklgodbjibemaa
