/- What leaves by panic, and what comes of it: 'must', 'left', the deferred closures. -/
import Derived.Test.YtaacjpcckinaiaaGreatChecked
import Derived.Test.YtaacjpcckinaiaaGreatRngP
import Derived.Test.YtaacjpcckinaiaaGreatMsgA
import Derived.Laws.Pointers
set_option linter.unusedVariables false
set_option maxRecDepth 100000
set_option linter.unusedSimpArgs false
namespace Go.Proofs.YtaacjpcckinaiaaGreat
open Go.RowKit Go.Shelf

/-- What is wrong, as it is left by panic. -/
def wrong (e : Int) : List PanicEntry := [{ v := .iface 25 (.int .i64 e), recovered := false }]

theorem must_yes (e : Int) (w : World) : Calls Tryz.prog 45 #[.bool true, .int .i64 e] w fun x w' => x = .returned (.tuple #[]) ∧ w = w' := by
  go_enter Tryz.func45, Tryz.ntmps45
  go_wp2
  go_end0
  exact ⟨rfl, rfl⟩
theorem must_no (e : Int) (w : World) : Calls Tryz.prog 45 #[.bool false, .int .i64 e] w fun x w' => x = .panicked (wrong e) ∧ w = w' := by
  go_enter Tryz.func45, Tryz.ntmps45
  go_wp2
  exact ⟨rfl, rfl, rfl⟩
theorem left_nil (w : World) : Calls Tryz.prog 25 #[.nilIface] w fun x w' => x = .returned (.int .i64 0) ∧ w = w' := by
  have h1 : ∀ w, (Instr.typeAssert .nilIface 20 25 true).run Tryz.prog w = .ok (.tuple #[.int .i64 0, .bool false]) w := fun _ => by kernel_rfl
  have h2 : ∀ w, (binOp .neq 20 .nilIface .nilIface).run Tryz.prog w = .ok (.bool false) w := fun _ => rfl
  go_enter Tryz.func25, Tryz.ntmps25
  go_wp2
  go_ret
  exact ⟨rfl, rfl⟩
theorem left_wrong (e : Int) (w : World) : Calls Tryz.prog 25 #[.iface 25 (.int .i64 e)] w fun x w' => x = .returned (.int .i64 e) ∧ w = w' := by
  have h1 : ∀ w, (Instr.typeAssert (.iface 25 (.int .i64 e)) 20 25 true).run Tryz.prog w = .ok (.tuple #[.int .i64 e, .bool true]) w := fun _ => by kernel_rfl
  go_enter Tryz.func25, Tryz.ntmps25
  go_wp2
  go_ret
  exact ⟨rfl, rfl⟩
theorem catchPayload_wrong (p : Addr) (x : Value) (e : Int) (older : List PanicEntry) (w : World) (hc : w.cell? p = some x) (hz : w.frozen? p = false) :
    CallsD Tryz.prog 24 #[.pointer (some p)] (.panicking ({ v := .iface 25 (.int .i64 e), recovered := false } :: older)) w fun e' u' w' =>
      e' = .returned (.tuple #[]) ∧ u' = .panicking ({ v := .iface 25 (.int .i64 e), recovered := true } :: older) ∧ w' = w.setCell p (.int .i64 e) := by
  refine callsD_of_wpS Tryz.func24 rfl fun c₀ cs hu => ?_
  apply wpS_region
  simp [wpOpsS, go_sem, recoverD, hu, Tryz.ntmps24]
  refine (left_wrong e w).mono ?_
  rintro e' w' ⟨rfl, rfl⟩
  simp [wpOpsS, go_sem, hc, hz, bodyPostS, results, Tryz.results24]
theorem catchPayload_idle (p : Addr) (x : Value) (w : World) (hc : w.cell? p = some x) (hz : w.frozen? p = false) :
    CallsD Tryz.prog 24 #[.pointer (some p)] .returning w fun e' u' w' => e' = .returned (.tuple #[]) ∧ u' = .returning ∧ w' = w.setCell p (.int .i64 0) := by
  refine callsD_of_wpS Tryz.func24 rfl fun c₀ cs hu => ?_
  apply wpS_region
  simp [wpOpsS, go_sem, recoverD, hu, Tryz.ntmps24]
  refine (left_nil w).mono ?_
  rintro e' w' ⟨rfl, rfl⟩
  simp [wpOpsS, go_sem, hc, hz, bodyPostS, results, Tryz.results24]
  cases c₀
  simp_all
theorem catchRead_wrong (p : Addr) (x : Value) (e : Int) (older : List PanicEntry) (w : World) (hc : w.cell? p = some x) (hz : w.frozen? p = false) :
    CallsD Tryz.prog 32 #[.pointer (some p)] (.panicking ({ v := .iface 25 (.int .i64 e), recovered := false } :: older)) w fun e' u' w' =>
      e' = .returned (.tuple #[]) ∧ u' = .panicking ({ v := .iface 25 (.int .i64 e), recovered := true } :: older) ∧ w' = w.setCell p (.int .i64 e) := by
  refine callsD_of_wpS Tryz.func32 rfl fun c₀ cs hu => ?_
  apply wpS_region
  simp [wpOpsS, go_sem, recoverD, hu, Tryz.ntmps32]
  refine (left_wrong e w).mono ?_
  rintro e' w' ⟨rfl, rfl⟩
  simp [wpOpsS, go_sem, hc, hz, bodyPostS, results, Tryz.results32]
theorem catchRead_idle (p : Addr) (x : Value) (w : World) (hc : w.cell? p = some x) (hz : w.frozen? p = false) :
    CallsD Tryz.prog 32 #[.pointer (some p)] .returning w fun e' u' w' => e' = .returned (.tuple #[]) ∧ u' = .returning ∧ w' = w.setCell p (.int .i64 0) := by
  refine callsD_of_wpS Tryz.func32 rfl fun c₀ cs hu => ?_
  apply wpS_region
  simp [wpOpsS, go_sem, recoverD, hu, Tryz.ntmps32]
  refine (left_nil w).mono ?_
  rintro e' w' ⟨rfl, rfl⟩
  simp [wpOpsS, go_sem, hc, hz, bodyPostS, results, Tryz.results32]
  cases c₀
  simp_all
end Go.Proofs.YtaacjpcckinaiaaGreat
