/- For any deeds, the statement BagCounts holds: whatever is done what was sent is on its way, was taken, or is lost; never are there more than MaxBag; a datagram is harmed once at most. No conditions but those of the row. -/
import Derived.Test.YtdoigpifkdkjpaaRows
import Derived.Test.YtdoigpifkdkjpaaBCountAny
import Derived.Test.YtdoigpifkdkjpaaRow
import Derived.Test.YtdoigpifkdkjpaaBDd
set_option linter.unusedVariables false
set_option linter.unusedSimpArgs false
namespace Go.Proofs.Ytdoigpifkdkjpaa
open Go.ChangeShapes Go.WideShapes Go.ChangeAt Go.RowKit Ms

theorem BagCounts_own : ownKnob Try.prog.godebug = none := by kernel_rfl
theorem BagCounts_laid : laidOutB Try.prog = true := by kernel_rfl
set_option maxRecDepth 100000 in
theorem BagCounts_lifted (os : Os) (started : os.Started) (H : Type) (enc : TypeId × Value → H) :
    ReturnsInHanded {} Try.checked os 4 .any (Rows.bagCountsSpec.pre6 enc Try.prog Try.f4 Rows.bagCountsRow.domain false) (Rows.bagCountsSpec.post enc Try.prog Try.f4 false true false false) := by
  refine returnsInHanded_of_change (C := Try.checked) BagCounts_own started (by kernel_rfl) Try.func4
    (ChangeSpec.witness6 (enc := enc) (C := Try.checked) false ⟨#[], #[.slice none 0 0], []⟩ 8 (by kernel_rfl) (by kernel_rfl) (by kernel_rfl) (by kernel_rfl)) ?_
  intro W base args ds gs before hval0 hW hcnd _
  have hval : ∀ (j : Nat) t v, Try.f4.params[j]? = some t → args[j]? = some v → Value.okWide Try.prog W .any base t v := hval0
  have hW' := hW
  obtain ⟨p, q, hA0, hV, rfl, hfz, hnd⟩ := hW
  have hA : DataW.TrodAll enc Try.prog W 0 (fun _ => true) true Try.f4.params.toList args.toList ds p := hA0
  have hA' := hA
  rw [Try.params4] at hA hval
  obtain ⟨v0, vs0, d0, ds0, p0, q0, hargs, rfl, rfl, h0, r0⟩ := trodAll_cons hA
  obtain ⟨rfl, rfl, rfl⟩ := trodAll_nil r0
  obtain rfl : args = #[v0] := by cases args; simp_all
  obtain ⟨rfl, rfl⟩ := trodVars_none hV
  obtain ⟨l0, hs0, w0⟩ := open_deeds (hval 0 43 v0 rfl rfl) h0
  clear hA0 hval0
  simp only [List.append_nil] at hW' hA'
  refine (BagCounts_walk W v0 l0 hs0 w0).mono fun e W' ⟨he, hb⟩ => ?_
  subst he
  exact ⟨_, rfl, law_post BagCounts_laid (by kernel_rfl) Try.underlying4 rfl rfl (by rw [Try.params4]; decide +kernel) hW' hA' hb⟩

theorem BagCounts_holds : Rows.BagCountsSaid :=
  OpenClaim.holds_of_wide 4 Try.f4 rfl rfl rfl rfl rfl rfl rfl ⟨rfl, rfl, rfl, rfl, rfl⟩ rfl rfl rfl rfl rfl (by kernel_rfl) Try.func4 (by kernel_rfl)
    (of_decide_eq_true (by kernel_rfl)) (by unfold Func.isWrapper; first | (rw [if_pos (by decide +kernel)]; kernel_rfl) | (rw [if_neg (by decide +kernel)]; exact ⟨rfl, rfl⟩))
    (fun os started H enc _ => BagCounts_lifted os started H enc)
end Go.Proofs.Ytdoigpifkdkjpaa
