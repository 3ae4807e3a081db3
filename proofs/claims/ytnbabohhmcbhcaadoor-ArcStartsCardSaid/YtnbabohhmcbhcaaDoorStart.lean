/- 'Start', and the document's own: a place's starts, for any numbers; the table that lies ahead. -/
import Derived.Test.YtnbabohhmcbhcaaDoorLeaf
import Derived.Lib.LaidTab
import Derived.IntWalk
import Derived.LoopNIn
import Derived.LoopIn
set_option linter.unusedVariables false
set_option linter.unusedSimpArgs false
namespace Go.Proofs.YtnbabohhmcbhcaaDoor
open Go.RowKit

/-- The table of starts lies in its variable. -/
def Tab (w : World) : Prop := ∀ i : Nat, i < 16 → w.cell? ⟨0, i, none⟩ = some (.int .i64 (2 ^ i))
theorem Tab.below {w w' : World} (h : Tab w) (h0 : 0 < w.heap.size) (hb : Below w.heap.size w w') : Tab w' := fun i hi => (hb.cell (p := ⟨0, i, none⟩) h0).trans (h i hi)
theorem Tab.size {w : World} (h : Tab w) : 0 < w.heap.size := by
  have := h 0 (by decide)
  rcases Nat.eq_zero_or_pos w.heap.size with e | e
  · exfalso
    unfold World.cell? at this
    simp [Array.getElem?_eq_none (show w.heap.size ≤ 0 by omega)] at this
  · exact e

/-- A start. -/
def stI (a i : Int) : Int := if 0 ≤ i ∧ i < 16 then pl (pl a + 2 ^ i.toNat) else pl a
theorem pow_16 (i : Nat) (h : i < 16) : (1 : Int) ≤ 2 ^ i ∧ (2 : Int) ^ i ≤ 32768 := by
  have h1 : 2 ^ i ≤ 2 ^ 15 := Nat.pow_le_pow_right (by decide) (by omega)
  have h2 : 1 ≤ 2 ^ i := Nat.one_le_two_pow
  have h3 : ((2 ^ i : Nat) : Int) = (2 : Int) ^ i := by push_cast; rfl
  constructor <;> omega

/-- A callee that leaves the world alone, in a region that draws its order: W is V, so many draws on. -/
theorem still {P : Program} {f : FuncId} {args : Array Value} {W V : World} {v : Value} (h : Calls P f args W fun e w' => e = .returned v ∧ W = w') (hm : ∃ m, W = V.drewN m) :
    Calls P f args W fun e w'' => e = .returned v ∧ ∃ m, w'' = V.drewN m := by
  refine h.mono ?_
  rintro e w' ⟨rfl, rfl⟩
  exact ⟨rfl, hm⟩

set_option maxHeartbeats 1000000 in
theorem start_any (a i : Int) (w : World) (ha : Num a) (hi : Num i) (hT : Tab w) : Calls Tryd.prog 20 #[.int .i64 a, .int .i64 i] w fun e w' => e = .returned (.int .i64 (stI a i)) ∧ ∃ m, w' = w.drewN m := by
  have h1 := fun w => place_any a w ha
  unfold stI
  by_cases h : 0 ≤ i ∧ i < 16
  · rw [if_pos h]
    obtain ⟨hi0, hi1⟩ := h
    obtain ⟨k, rfl⟩ := Int.eq_ofNat_of_zero_le hi0
    have hk : k < 16 := by omega
    have hc := hT k hk
    have hp := pow_16 k hk
    rw [Int.toNat_natCast]
    have k1 := pl_bd a
    generalize (2 : Int) ^ k = t at *
    have h2 := fun w => place_any (pl a + t) w ⟨by omega, by omega⟩
    generalize pl a = p at *
    have hs : IntKind.i64.wrap (p + t) = p + t := IntWalk.i64_in _ ⟨by omega, by omega⟩
    clear hT ha hi
    go_enter Tryd.func20, Tryd.ntmps20
    go_wp2_with fail
    go_quiet ((go_at_call 12; first | exact still (h1 _) ⟨_, rfl⟩ | exact still (h2 _) ⟨_, rfl⟩))
    go_wp2
    go_ret
    exact ⟨rfl, _, rfl⟩
  · rw [if_neg h]
    generalize pl a = p at *
    clear hT ha hi
    by_cases h0 : i < 0
    · clear h
      go_enter Tryd.func20, Tryd.ntmps20
      go_wp2_with (go_at_call 12; refine (h1 _).mono ?_; rintro e w' ⟨rfl, rfl⟩)
      go_ret
      exact ⟨rfl, 0, rfl⟩
    · have h16 : 16 ≤ i := by omega
      replace h0 : 0 ≤ i := by omega
      clear h
      go_enter Tryd.func20, Tryd.ntmps20
      go_wp2_with (go_at_call 12; refine (h1 _).mono ?_; rintro e w' ⟨rfl, rfl⟩)
      go_ret
      exact ⟨rfl, 0, rfl⟩

set_option maxHeartbeats 1000000 in
theorem start_ref (a i : Int) (w : World) (ha : Num a) (hi : Num i) : Calls Tryd.prog 21 #[.int .i64 a, .int .i64 i] w fun e w' => e = .returned (.int .i64 (stI a i)) ∧ w = w' := by
  have h1 := fun w => place_ref a w ha
  unfold stI
  by_cases h : 0 ≤ i ∧ i < 16
  · rw [if_pos h]
    obtain ⟨hi0, hi1⟩ := h
    obtain ⟨k, rfl⟩ := Int.eq_ofNat_of_zero_le hi0
    have hk : k < 16 := by omega
    have hp := pow_16 k hk
    rw [Int.toNat_natCast]
    have k1 := pl_bd a
    have h2 := fun w => place_ref (pl a + 2 ^ k) w ⟨by omega, by omega⟩
    generalize pl a = p at *
    clear ha hi
    go_enter Tryd.func21, Tryd.ntmps21
    go_wp2
    go_loop [5, 6] (fun t i => ∃ j : Nat, j ≤ k ∧ i = .int .i64 j ∧ t = .int .i64 (2 ^ j)) (fun _ i => k - (intOf i).toNat)
    case atStart => exact ⟨0, Nat.zero_le _, rfl, rfl⟩
    case round =>
      obtain ⟨j, hj, rfl, rfl⟩ := hrel
      have hpj := pow_16 j (by omega)
      by_cases hlt : j < k
      · have e2 : (2 : Int) ^ (j + 1) = 2 * 2 ^ j := by rw [Int.pow_succ]; omega
        have E2 := Lib.hid e2
        clear e2
        generalize (2 : Int) ^ j = t at *
        go_wp2
        go_round
        case rel => exact ⟨j + 1, by omega, by go_num, by rw [E2.out]⟩
        case measure => simp [intOf]; omega
      · obtain rfl : j = k := by omega
        go_wp2_with fail
        refine (h1 _).mono ?_; rintro e w' ⟨rfl, rfl⟩
        go_wp2_with fail
        refine (h2 _).mono ?_; rintro e w' ⟨rfl, rfl⟩
        go_wp2
        go_ret
        exact ⟨rfl, rfl⟩
  · rw [if_neg h]
    generalize pl a = p at *
    clear ha hi
    by_cases h0 : i < 0
    · clear h
      go_enter Tryd.func21, Tryd.ntmps21
      go_wp2_with (go_at_call 13; refine (h1 _).mono ?_; rintro e w' ⟨rfl, rfl⟩)
      go_ret
      exact ⟨rfl, rfl⟩
    · have h16 : 16 ≤ i := by omega
      replace h0 : 0 ≤ i := by omega
      clear h
      go_enter Tryd.func21, Tryd.ntmps21
      go_wp2_with (go_at_call 13; refine (h1 _).mono ?_; rintro e w' ⟨rfl, rfl⟩)
      go_ret
      exact ⟨rfl, rfl⟩
end Go.Proofs.YtnbabohhmcbhcaaDoor
