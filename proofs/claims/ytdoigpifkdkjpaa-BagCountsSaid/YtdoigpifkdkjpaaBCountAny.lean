/- 'BagCounts' answers true, whatever comes in. -/
import Derived.Test.YtdoigpifkdkjpaaBCountLaw
set_option linter.unusedVariables false
set_option maxRecDepth 100000
set_option linter.unusedSimpArgs false
namespace Go.Proofs.Ytdoigpifkdkjpaa
open Go.RowKit Go.Shelf Ms

set_option maxHeartbeats 8000000 in
theorem counts_many (v : Value) (ds : List Dd) (w : World) (hv : SwR elD w v ds) (hn : 60 < ds.length) :
    Calls Try.prog 4 #[v] w fun e w' => e = .returned (.bool true) ∧ Below w.heap.size w w' := by
  obtain ⟨Av, cv, rfl⟩ := hv.form
  have e4 : decide ((ds.length : Int) > 60) = true := decide_eq_true (by omega)
  have e5 : decide (60 < (ds.length : Int)) = true := decide_eq_true (by omega)
  clear hv
  go_enter Try.func4, Try.ntmps4
  go_wp2_with fail
  refine (wakes_any _).mono ?_; rintro e z3 ⟨rfl, h3⟩
  go_wp2
  go_ret
  exact ⟨rfl, h3⟩
/-- As the law's row wants it. -/
theorem BagCounts_walk (w : World) (v : Value) (ds : List Dd) (hv : SwR elD w v ds) (_ : ∀ d ∈ ds, (Lit.int .i64 d.what).wf = true ∧ (Lit.int .i64 d.pos).wf = true ∧ (Lit.int .i64 d.i).wf = true) :
    Calls Try.prog 4 #[v] w fun e w' => e = .returned (.bool true) ∧ Below w.heap.size w w' := by
  by_cases hn : 60 < ds.length
  · exact counts_many v ds w hv hn
  · exact counts_ok v ds w hv (by omega)
end Go.Proofs.Ytdoigpifkdkjpaa
