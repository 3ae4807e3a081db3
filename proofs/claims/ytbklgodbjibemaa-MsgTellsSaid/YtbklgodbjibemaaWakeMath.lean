/- The messages of the laws' first look, reckoned: plain mathematics. -/
import Derived.Test.YtbklgodbjibemaaRightMath
import Derived.Test.YtbklgodbjibemaaOwn
set_option linter.unusedVariables false
set_option linter.unusedSimpArgs false
namespace Go.Proofs.Ytbklgodbjibemaa
open Go.RowKit

/-- The hop that is asked, what is told to it, the state that is told. -/
def wm5 : M := { M.head 4 2097155 2 9 with key := 65535, slow := true }
def wm6 : M := M.head 10 2097155 9 2
def wm7 : M := { M.head 7 2097155 9 2 with pred := -1 }
def wia : It := { noIt with key := ⟨#[97]⟩ }
theorem w_told : told wm5 = wm6 := by simp [told, wm5, wm6, asksB, M.head]
theorem w_asks5 : asksB wm5 = true := by decide
theorem w_asks6 : asksB wm6 = false := by decide
theorem w_asker5 : askerI wm5 = 2 := by decide
theorem w_asker6 : askerI wm6 = 2 := by decide
theorem w_same : same wm6 wm6 [] [] = true := by rw [same_iff]; exact ⟨rfl, rfl⟩
theorem w_same7 : same wm7 wm7 [4, 2] [4, 2] = true := by rw [same_iff]; exact ⟨rfl, rfl⟩
theorem w_right5 : rightD wm5 [] = true := by
  rw [rightD_iff, places_all, w_asker5]
  refine ⟨by decide, ⟨by decide, rfl, rfl⟩, ⟨by decide, by decide, by decide, by decide, .inr (by decide), by simp⟩, by decide, by decide, by decide⟩
theorem w_right6 : rightD wm6 [] = true := by
  rw [rightD_iff, places_all, w_asker6]
  refine ⟨by decide, ⟨by decide, rfl, rfl⟩, ⟨by decide, by decide, by decide, by decide, .inr (by decide), by simp⟩, by decide, by decide, by decide⟩
theorem w_right7 : rightD wm7 [4, 2] = true := by
  rw [rightD_iff, places_all]
  refine ⟨by decide, ⟨by decide, rfl, rfl⟩, ⟨by decide, by decide, by decide, by decide, .inl rfl, by decide⟩, by decide, by decide, by decide⟩
theorem w_right0 : rightD noM [] = false := by
  rw [Bool.eq_false_iff]
  intro h
  rw [rightD_iff] at h
  exact absurd h.1.1 (by decide)
theorem w_pair1 : pairB wia = true := by decide
theorem w_pair0 : pairB noIt = false := by decide
theorem w_call3 : callOk 2 3 = true := by decide
theorem w_call0 : ¬ callOk 2 0 = true := by decide
end Go.Proofs.Ytbklgodbjibemaa
