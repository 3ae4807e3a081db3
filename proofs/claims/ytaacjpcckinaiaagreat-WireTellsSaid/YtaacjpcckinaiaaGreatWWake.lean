/- What the document says of a ping; what is too great; whether bytes are the same. -/
import Derived.Test.YtaacjpcckinaiaaGreatWTop
import Derived.Test.YtaacjpcckinaiaaGreatMsgB
set_option linter.unusedVariables false
set_option maxRecDepth 100000
set_option linter.unusedSimpArgs false
namespace Go.Proofs.YtaacjpcckinaiaaGreat
open Go.RowKit Go.Shelf Ms

def gr (m : M) (l : List Int) : Bool := decide (40 < l.length) || decide (300 < m.it.key.size)
theorem great_any (m : M) (A : Option Addr) (n c : Nat) (w : World) : Calls Tryz.prog 8 #[.agg (m.c (.slice A n c))] w fun e w' => e = .returned (.bool (decide (40 < n) || decide (300 < m.it.key.size))) ∧ Below w.heap.size w w' := by
  go_enter Tryz.func8, Tryz.ntmps8
  go_wp2_with fail
  all_goals (go_ret; exact ⟨ret_b (by rw [Bool.eq_iff_iff]; simp; try omega), box_below _ _⟩)

set_option maxHeartbeats 1000000 in
theorem same_any (va vb : Value) (la lb : List UInt8) (w : World) (h1 : Sl w va (bv la)) (h2 : Sl w vb (bv lb)) :
    Calls Tryz.prog 14 #[va, vb] w fun e w' => e = .returned (.bool (decide (la = lb))) ∧ w = w' := by
  have r1 := run_str (P := Tryz.prog) 28 9 5 Tryz.underlying28 Tryz.underlying5 Tryz.underlying9 va la h1
  have r2 := run_str (P := Tryz.prog) 28 9 5 Tryz.underlying28 Tryz.underlying5 Tryz.underlying9 vb lb h2
  go_enter Tryz.func14, Tryz.ntmps14
  go_wp2
  go_ret
  refine ⟨ret_b ?_, rfl⟩
  rw [Bool.eq_iff_iff, beq_iff_eq, decide_eq_true_iff]
/-- The ping. -/
def pm : M := M.head 2 1048577 1 2
def pB : List UInt8 := [1, 2, 3, 16, 0, 1, 1, 1, 1, 2]
theorem pm_right : rightB pm [] = true := by
  rw [← right_eq, rightD_iff, places_all]
  refine ⟨by decide, ⟨by decide, rfl, rfl⟩, ⟨by decide, by decide, by decide, by decide, .inr (by decide), by simp⟩, by decide, by decide, by decide⟩
theorem no_right : rightB noM [] = false := by
  rw [← right_eq, Bool.eq_false_iff]
  intro h
  rw [rightD_iff] at h
  exact absurd h.1.1 (by decide)
theorem pm_pay : payB pm [] = pB := by decide +kernel
theorem pm_read : readR pB = (pm, [], 0) := readR_some (readF_iff.2 ⟨pm_right, pm_pay⟩)
theorem take_put {m : M} {l : List Int} (h : rightB m l = true) : takeR (putR m l) = (m, l, 0) := by
  have hl := payB_len h
  have hc : Frm.closeB (payB m l) = Frm.frm (payB m l) := by unfold Frm.closeB; rw [if_neg (by omega)]
  have hf := Frm.isFr_frm (payB m l) (by omega)
  have ho : Frm.openE (Frm.frm (payB m l)) = 0 := by unfold Frm.openE; rw [if_neg (by have := hf.1; omega), if_pos hf]
  have hp : Frm.openP (Frm.frm (payB m l)) = payB m l := by unfold Frm.openP; rw [if_pos hf, Frm.mid_frm]
  unfold takeR putR
  rw [if_pos h, hc, if_pos ho, hp]
  exact readR_some (readF_iff.2 ⟨h, rfl⟩)
theorem pm_put_len : (putR pm []).length = 18 := by
  have hc : Frm.closeB (payB pm []) = Frm.frm (payB pm []) := by unfold Frm.closeB; rw [if_neg (by have := payB_len pm_right; omega)]
  unfold putR
  rw [if_pos pm_right, hc, Frm.frm_length, pm_pay]
  rfl
theorem short_take : takeR [71, 1, 0, 0] = (noM, [], 11) := by
  have : Frm.openE [71, 1, 0, 0] = 11 := by decide +kernel
  unfold takeR
  rw [this, if_neg (by decide)]
theorem zero_read : readR [0, 0, 0, 0] = (noM, [], 12) := readR_none (by kernel_rfl)

theorem ping_any (w : World) : Calls Tryz.prog 23 #[] w fun e w' => e = .returned (.agg (pm.c nilS)) ∧ Below w.heap.size w w' := by
  have R0 := Rw.new w (noM.c nilS) 27
  go_enter Tryz.func23, Tryz.ntmps23
  go_wp2_with (with_reducible show wpList _ _ _ (Oper.mk _ (Op.store _ (.tmp 0) _) _ _ _ _ :: _) _ _
               refine wpList_storeR (c := pm.c nilS) rfl _ _ rfl rfl rfl agg27.hi R0 rfl (M.one _ rfl) ?_)
  exact bodyPost_ret (results_cell_row rfl _ _ _ _ _ _ _ rfl (R0.setRow (c' := pm.c nilS)) Tryz.underlying27 rfl agg27.hi) rfl ⟨rfl, below_setRow (box_below w _) (Nat.le_refl _) _⟩
end Go.Proofs.YtaacjpcckinaiaaGreat
