/- The document's own bytes of a number, of a truth, of a pair. -/
import Derived.Test.YtaacjpcckinaiaaGreatWTop
import Derived.Test.YtaacjpcckinaiaaGreatWFacts
import Derived.Test.YtaacjpcckinaiaaGreatWRefMath
import Derived.Deep.RegionHeld3
import Derived.Deep.RegionWith
set_option linter.unusedVariables false
set_option maxRecDepth 100000
set_option linter.unusedSimpArgs false
namespace Go.Proofs.YtaacjpcckinaiaaGreat
open Go.RowKit Go.Shelf Ms

theorem number_any (n : Int) (w : World) : Calls Tryz.prog 27 #[.int .i64 n] w fun e w' => ∃ v, e = .returned v ∧ Made w w' 5 v (bv (Num.putB n)) := by
  go_enter Tryz.func27, Tryz.ntmps27
  go_wp2_with fail
  refine (Num.refPut_own n _).mono ?_; rintro e w1 ⟨v, rfl, ho, hb⟩
  go_wp2
  go_ret
  exact ⟨v, rfl, ho, hb⟩
theorem bit_any (b : Bool) (w : World) : Calls Tryz.prog 28 #[.bool b] w fun e w' => e = .returned (.int .i64 (b2i b)) ∧ w = w' := by
  go_enter Tryz.func28, Tryz.ntmps28
  cases b <;>
  · go_wp2
    go_ret
    exact ⟨rfl, rfl⟩
theorem putB_7 (n : Int) : (bv (Num.putB n)).length ≤ 7 := by
  rw [bv_length]
  unfold Num.putB
  split
  · exact nB_7 n (by omega)
  · simp
theorem textB_256 (S : ByteArray) : (bv (Num.textB S.data.toList)).length ≤ 256 := by
  rw [bv_length]
  unfold Num.textB
  split
  · simp
  · rw [List.length_cons]; omega

set_option maxHeartbeats 4000000 in
theorem pair_own (x : It) (w : World) : Calls Tryz.prog 29 #[.agg x.c] w fun e w' => ∃ v, e = .returned v ∧ Sl w' v (bv (Num.textB x.key.data.toList ++ Num.putB x.val ++ Num.putB x.ver ++ Num.putB (b2i x.gone))) ∧ Below w.heap.size w w' := by
  have R0 := Rw.new w x.c 24
  have B0 := box_below w (.cells x.c 24)
  generalize hW : w.alloc (.cells x.c 24) = W at R0 B0
  have HLT := Lib.hid R0.lt
  have c0 := R0.cell
  have HK := Lib.hid (fun (X : World) (hb : Below W.heap.size W X) => (R0.below hb).cell)
  have L1 := Lib.hid (putB_7 x.val)
  have L2 := Lib.hid (putB_7 x.ver)
  have L3 := Lib.hid (putB_7 (b2i x.gone))
  have L0 := Lib.hid (textB_256 x.key)
  go_enter Tryz.func29, Tryz.ntmps29
  go_wp2_with fail
  refine (Num.refText_own x.key _).mono ?_; rintro e w1 ⟨v3, rfl, ho, hb⟩
  have hT : Made W w1 5 v3 (bv (Num.textB x.key.data.toList)) := ⟨ho, hb⟩
  clear ho hb
  go_wp2_with fail
  have hS : ∀ X, Below W.heap.size W X → Below W.heap.size W X ∧ X.cell? ⟨w.heap.size, 1, none⟩ = some (.int .i64 x.val) ∧ X.cell? ⟨w.heap.size, 2, none⟩ = some (.int .i64 x.ver) := fun X hb => ⟨hb, HK.out X hb 1, HK.out X hb 2⟩
  have HS := Lib.hid hS
  clear hS
  go_region_held3 (fun X => Below W.heap.size W X ∧ X.cell? ⟨w.heap.size, 1, none⟩ = some (.int .i64 x.val) ∧ X.cell? ⟨w.heap.size, 2, none⟩ = some (.int .i64 x.ver))
    (first
      | exact HS.out _ hT.drew.below
      | assumption
      | exact HS.out _ (Made.below (by assumption)))
    (first
      | (go_at_call_of 27 (x.val); refine (number_any _ _).mono ?_; rintro e w2 ⟨va, rfl, ha⟩; have h1 := hT.drew.behind ha.below)
      | (refine step_more Frm.el23 rfl (.tmp 11) (.tmp 14) rfl rfl h1 rfl ha.sl (bv_one _) (by have := L0.out; have := L1.out; omega) ?_; intro v4 w3 h2)
      | (go_at_call_of 27 (x.ver); refine (number_any _ _).mono ?_; rintro e w4 ⟨vb, rfl, hb⟩; have h3 := h2.behind hb.below)
      | (refine step_more Frm.el23 rfl (.tmp 15) (.tmp 18) rfl rfl h3 rfl hb.sl (bv_one _) (by have := L0.out; have := L1.out; have := L2.out; simp only [List.length_append]; omega) ?_; intro v5 w5 h4))
  have c5 := HK.out _ h4.below
  go_wp2_with fail
  refine (bit_any x.gone _).mono ?_; rintro e w' ⟨rfl, rfl⟩
  go_wp2_with fail
  refine (number_any _ _).mono ?_; rintro e w6 ⟨vc, rfl, hc⟩
  have h5 := h4.behind hc.below
  go_wp2_with (at_builtin; refine wpList_more Frm.el23 rfl (.tmp 20) (.tmp 24) rfl rfl h5 rfl hc.sl (bv_one _) (by have := L0.out; have := L1.out; have := L2.out; have := L3.out; simp only [List.length_append]; omega) ?_; intro v7 w7 h6)
  go_ret
  refine ⟨v7, rfl, ?_, B0.trans (h6.below.mono B0.size)⟩
  rw [bv_append, bv_append, bv_append]
  exact h6.sl
end Go.Proofs.YtaacjpcckinaiaaGreat
