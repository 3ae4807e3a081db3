/- The table of waits lies in its variable where the row's condition is met; a world that meets it. -/
import Derived.Test.YtjkhancjfaegiaaDoorRows
import Derived.Test.YtjkhancjfaegiaaDoorTWait
import Derived.Lib.LaidTab
import Derived.LaidMore
set_option linter.unusedVariables false
set_option linter.unusedSimpArgs false
namespace Go.Proofs.YtjkhancjfaegiaaDoor
open Go.RowKit

theorem gWaits : Tryd.prog.globalNamed "garland/wait.waits" = some 0 := by kernel_rfl
theorem tWaits : (Tryd.prog.globals[0]?).map (·.type) = some 24 := by kernel_rfl
/-- The waits, as a list. -/
def waitL : List Int := [0, 1, 2, 4]
theorem laid_is : Rows.laid_garland_wait_waits (H := Unit) = Lib.tabData .i64 waitL := by rfl
theorem tab_of_laid {W : World} (h : laidMetH Tryd.prog [("garland/wait.waits", Rows.laid_garland_wait_waits)] W) : TabW W := by
  rw [MakeChecks.laidMetH_plain _ _ _ (by kernel_rfl), laid_is] at h
  have hT := Lib.tabIs_of_head gWaits tWaits Tryd.underlying24 Tryd.underlying3 (by kernel_rfl) (by kernel_rfl) h
  exact ⟨hT.cell gWaits 0 (by decide), hT.cell gWaits 1 (by decide), hT.cell gWaits 2 (by decide), hT.cell gWaits 3 (by decide)⟩
theorem door_met (os : Os) (args : Array Value) : laidMetH Tryd.prog [("garland/wait.waits", Rows.laid_garland_wait_waits)] ((World.doorLaid Tryd.prog 400 os).forCall (fun _ _ => 0) ⟨#[], args, []⟩).memory :=
  laidMetH_of_parts3 (fuel := 8) (laidMet_of_run' 8 (by kernel_rfl) (by kernel_rfl)) (by kernel_rfl) (by kernel_rfl)
end Go.Proofs.YtjkhancjfaegiaaDoor
