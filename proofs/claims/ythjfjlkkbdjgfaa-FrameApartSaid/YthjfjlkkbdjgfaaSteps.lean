/- 'FrameSteps': the walk of the law: unlike states are unlike still. -/
import Derived.Test.YthjfjlkkbdjgfaaWakes
set_option linter.unusedVariables false
set_option linter.unusedSimpArgs false
namespace Go.Proofs.Ythjfjlkkbdjgfaa
open Go.RowKit Go.Shelf

theorem word_wf {a : Int} (h : (Lit.int .u32 a).wf = true) : ∃ s : BitVec 32, a = (s.toNat : Int) := by
  simp [Lit.wf, IntKind.has, IntKind.min, IntKind.max, IntKind.bits, IntKind.signed] at h
  refine ⟨BitVec.ofNat 32 a.toNat, ?_⟩
  rw [BitVec.toNat_ofNat]
  omega
theorem bv_beq (s t : BitVec 32) : (((s.toNat : Int)) == (t.toNat : Int)) = decide (s = t) := by
  rw [Bool.eq_iff_iff, beq_iff_eq, decide_eq_true_iff, Int.natCast_inj, BitVec.toNat_inj]

set_option maxRecDepth 100000 in
set_option maxHeartbeats 2000000 in
theorem steps_walk (W : World) (a : Int) (w1 : (Lit.int .u32 a).wf = true) (c : Int) (w2 : (Lit.int .u32 c).wf = true) (b : Bool) :
    Calls Try.prog 7 #[.int .u32 a, .int .u32 c, .bool b] W fun e w' => e = .returned (.bool true) ∧ Below W.heap.size W w' := by
  obtain ⟨s, rfl⟩ := word_wf w1
  obtain ⟨t, rfl⟩ := word_wf w2
  have h1 := fun w => Step_any s b w
  have h2 := fun w => Step_any t b w
  have h3 := fun w => Step_any s true w
  have h4 := fun w => Step_any s false w
  have e1 : (((stp s b).toNat : Int) == ((stp t b).toNat : Int)) = (((s.toNat : Int)) == (t.toNat : Int)) := by
    rw [bv_beq, bv_beq, decide_eq_decide]
    exact stp_inj
  have e2 : bits .xor .u32 ((stp s false).toNat : Int) 1 = ((stp s true).toNat : Int) := by
    have := u32_xor_bv (stp s false) 1#32
    rw [show ((1#32).toNat : Int) = 1 from rfl] at this
    rw [this, stp_one]
  clear w1 w2
  generalize (stp s b).toNat = x1 at *
  generalize (stp t b).toNat = x2 at *
  generalize (stp s true).toNat = x3 at *
  generalize (stp s false).toNat = x4 at *
  generalize s.toNat = sn at *
  generalize t.toNat = tn at *
  obtain ⟨q, hq⟩ : ∃ q, ((sn : Int) == (tn : Int)) = q := ⟨_, rfl⟩
  rw [hq] at e1
  have hqq : (q == q) = true := by simp
  go_enter Try.func7, Try.ntmps7
  go_wp2_with fail
  refine (h1 _).mono ?_; rintro e w' ⟨rfl, rfl⟩
  go_wp2_with fail
  refine (h2 _).mono ?_; rintro e w' ⟨rfl, rfl⟩
  go_wp2_with fail
  refine (h3 _).mono ?_; rintro e w' ⟨rfl, rfl⟩
  go_wp2_with fail
  refine (h4 _).mono ?_; rintro e w' ⟨rfl, rfl⟩
  go_wp2_with fail
  refine (wakes_any _).mono ?_; rintro e w1 ⟨rfl, hb⟩
  go_wp2
  go_ret
  exact ⟨rfl, hb⟩
end Go.Proofs.Ythjfjlkkbdjgfaa
