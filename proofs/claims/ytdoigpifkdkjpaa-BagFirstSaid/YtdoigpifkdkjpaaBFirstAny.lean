/- 'BagFirst' answers true, whatever comes in. -/
import Derived.Test.YtdoigpifkdkjpaaBFirstLaw
set_option linter.unusedVariables false
set_option maxRecDepth 100000
set_option linter.unusedSimpArgs false
namespace Go.Proofs.Ytdoigpifkdkjpaa
open Go.RowKit Go.Shelf Ms

set_option maxHeartbeats 8000000 in
theorem first_many (v : Value) (ls : List Gr) (i : Int) (w : World) (hv : SwG w v ls) (hn : 30 < ls.length) :
    Calls Try.prog 5 #[v, .int .i64 i] w fun e w' => e = .returned (.bool true) ∧ Below w.heap.size w w' := by
  obtain ⟨Av, cv, rfl⟩ := hv.form
  have e4 : decide ((ls.length : Int) > 30) = true := decide_eq_true (by omega)
  have e5 : decide (30 < (ls.length : Int)) = true := decide_eq_true (by omega)
  clear hv
  go_enter Try.func5, Try.ntmps5
  go_wp2_with fail
  refine (wakes_any _).mono ?_; rintro e z3 ⟨rfl, h3⟩
  go_wp2
  go_ret
  exact ⟨rfl, h3⟩
set_option maxHeartbeats 8000000 in
theorem first_long (v : Value) (ls : List Gr) (i : Int) (w : World) (hv : SwG w v ls) (hn : ls.length ≤ 30) (hb : ¬ ∀ g ∈ ls, g.bytes.length ≤ 120) :
    Calls Try.prog 5 #[v, .int .i64 i] w fun e w' => e = .returned (.bool true) ∧ Below w.heap.size w w' := by
  obtain ⟨Av, cv, rfl⟩ := hv.form
  have HV := Lib.hid hv
  have HN := Lib.hid hn
  have HB := Lib.hid hb
  have e4 : decide ((ls.length : Int) > 30) = false := decide_eq_false (by omega)
  have e5 : decide (30 < (ls.length : Int)) = false := decide_eq_false (by omega)
  clear hv hn hb
  go_enter Try.func5, Try.ntmps5
  go_wp2_with fail
  go_loopw [5] (fun t W => ∃ m : Nat, m ≤ ls.length ∧ t = .int .i64 (m : Int) ∧ (∀ g ∈ ls.take m, g.bytes.length ≤ 120) ∧ W = w) (fun t _ => ls.length - (intOf t).toNat)
  case atStart => exact ⟨0, Nat.zero_le _, rfl, by simp, rfl⟩
  case round =>
    obtain ⟨m, hm, rfl, hall, hW⟩ := hrel
    subst wr
    have HA := Lib.hid hall
    clear hall
    have hnn := HN.out
    by_cases hml : m < ls.length
    · obtain ⟨b1, o1, rfl, hb1, x0, ⟨u1, y1, s1⟩, z1⟩ := HV.out.at_ m hml
      obtain ⟨A1, q1, rfl⟩ := s1.form
      rw [bv_length] at *
      have HG := Lib.hid (show ls.take (m + 1) = ls.take m ++ [ls[m]] from List.take_succ_eq_append_getElem hml)
      generalize ls[m] = g at *
      clear s1
      by_cases hg : g.bytes.length ≤ 120
      · have d3 : decide (120 < (g.bytes.length : Int)) = false := decide_eq_false (by omega)
        have d4 : decide ((g.bytes.length : Int) > 120) = false := decide_eq_false (by omega)
        go_wp2
        go_roundw
        case rel => exact ⟨m + 1, by omega, by go_num, by
          rw [HG.out]
          intro x hx
          rcases List.mem_append.1 hx with h | h
          · exact HA.out x h
          · simp at h; subst h; exact hg, by first | rfl | trivial⟩
        case measure => simp [intOf]; omega
      · have d3 : decide (120 < (g.bytes.length : Int)) = true := decide_eq_true (by omega)
        have d4 : decide ((g.bytes.length : Int) > 120) = true := decide_eq_true (by omega)
        go_wp2_with fail
        refine (wakes_any _).mono ?_; rintro e z3 ⟨rfl, h3⟩
        have G3 := Lib.hid h3
        clear h3 x0 y1 z1
        go_wp2
        go_ret
        exact ⟨rfl, G3.out⟩
    · obtain rfl : m = ls.length := by omega
      have h1 := HA.out
      rw [List.take_length] at h1
      exact absurd h1 HB.out
theorem BagFirst_any (v : Value) (ls : List Gr) (i : Int) (w : World) (hv : SwG w v ls) (hi : (Lit.int .i64 i).wf = true) :
    Calls Try.prog 5 #[v, .int .i64 i] w fun e w' => e = .returned (.bool true) ∧ Below w.heap.size w w' := by
  by_cases hn : 30 < ls.length
  · exact first_many v ls i w hv hn
  · by_cases hb : ∀ g ∈ ls, g.bytes.length ≤ 120
    · exact first_ok v ls i w hv (by omega) hb hi
    · exact first_long v ls i w hv (by omega) hb
/-- As the law's row wants it. -/
theorem BagFirst_walk (w : World) (v : Value) (ls : List Gr) (hv : SwG w v ls) (_ : ∀ g ∈ ls, (Lit.int .i64 g.to).wf = true) (i : Int) (hi : (Lit.int .i64 i).wf = true) :
    Calls Try.prog 5 #[v, .int .i64 i] w fun e w' => e = .returned (.bool true) ∧ Below w.heap.size w w' := BagFirst_any v ls i w hv hi
end Go.Proofs.Ytdoigpifkdkjpaa
