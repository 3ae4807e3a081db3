/- The table of starts lies in its variable where the row's condition is met; a world that meets it. -/
import Derived.Test.YtnbabohhmcbhcaaDoorRows
import Derived.Test.YtnbabohhmcbhcaaDoorStart
import Derived.Lib.LaidTab
import Derived.LaidMore
set_option linter.unusedVariables false
set_option linter.unusedSimpArgs false
namespace Go.Proofs.YtnbabohhmcbhcaaDoor
open Go.RowKit

theorem gStarts : Tryd.prog.globalNamed "garland/arc.starts" = some 0 := by kernel_rfl
theorem tStarts : (Tryd.prog.globals[0]?).map (·.type) = some 37 := by kernel_rfl
/-- The starts, as a list. -/
def startL : List Int := (List.range 16).map fun i => (2 : Int) ^ i
theorem laid_is : Rows.laid_garland_arc_starts (H := Unit) = Lib.tabData .i64 startL := by rfl
theorem tab_of_laid {W : World} (h : laidMetH Tryd.prog [("garland/arc.starts", Rows.laid_garland_arc_starts)] W) : Tab W := by
  rw [MakeChecks.laidMetH_plain _ _ _ (by kernel_rfl), laid_is] at h
  have hT := Lib.tabIs_of_head gStarts tStarts Tryd.underlying37 Tryd.underlying3 (by kernel_rfl) (by kernel_rfl) h
  intro i hi
  have := hT.cell gStarts i (by simp [startL]; omega)
  rw [this]
  have e : startL.getD i 0 = 2 ^ i := by
    unfold startL
    rw [List.getD_eq_getElem?_getD, List.getElem?_map, List.getElem?_range hi]
    rfl
  rw [e]
theorem door_met (os : Os) (args : Array Value) : laidMetH Tryd.prog [("garland/arc.starts", Rows.laid_garland_arc_starts)] ((World.doorLaid Tryd.prog 400 os).forCall (fun _ _ => 0) ⟨#[], args, []⟩).memory :=
  laidMetH_of_parts3 (fuel := 8) (laidMet_of_run' 8 (by kernel_rfl) (by kernel_rfl)) (by kernel_rfl) (by kernel_rfl)
end Go.Proofs.YtnbabohhmcbhcaaDoor
