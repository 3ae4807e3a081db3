/- Rising, as mathematics: parts of what rises rise, each is between the one ahead and those behind. -/
import Derived.Test.YtnbabohhmcbhcaaDoorRises
set_option linter.unusedVariables false
set_option linter.unusedSimpArgs false
namespace Go.Proofs.YtnbabohhmcbhcaaDoor
open Go.RowKit

/-- How far the one ahead of number k is; 0 of the first. -/
def ahead (a : Int) (l : List Int) (k : Nat) : Int := (rAt a (l.take k)).2
theorem ris_take_succ (a : Int) (l : List Int) (k : Nat) (h : k < l.length) : ris a (l.take (k + 1)) = (ris a (l.take k) && decide (ahead a l k < far a l[k])) := by
  unfold ris ahead
  rw [List.take_succ_eq_append_getElem h, rAt_snoc]
  rfl
theorem ahead_zero (a : Int) (l : List Int) : ahead a l 0 = 0 := by unfold ahead; simp [rAt_nil]
theorem ahead_succ (a : Int) (l : List Int) (k : Nat) (h : k < l.length) : ahead a l (k + 1) = far a l[k] := by
  unfold ahead
  rw [List.take_succ_eq_append_getElem h, rAt_snoc]
  rfl
theorem ahead_bd (a : Int) (l : List Int) (k : Nat) : 0 ≤ ahead a l k := (rAt_bd a _).1
theorem ris_part (a : Int) (pre l : List Int) (hp : pre <+: l) (h : ris a l = true) : ris a pre = true := by
  cases h2 : ris a pre
  · have := rAt_no a pre l hp h2
    unfold ris at h
    rw [this] at h
    cases h
  · rfl
theorem ris_take (a : Int) (l : List Int) (k : Nat) (h : ris a l = true) : ris a (l.take k) = true := ris_part a _ l (List.take_prefix _ _) h
theorem ris_less (a : Int) (l : List Int) (k : Nat) (hk : k < l.length) (h : ris a l = true) : ahead a l k < far a l[k] := by
  have := ris_take a l (k + 1) h
  rw [ris_take_succ a l k hk] at this
  simp at this
  exact this.2
/-- From another beginning: what rises above more rises above less. -/
theorem ris_from (a : Int) (l : List Int) (st st' : Bool × Int) (h1 : st'.1 = true) (h2 : st'.2 ≤ st.2) (h : (l.foldl (rStep a) st).1 = true) : (l.foldl (rStep a) st').1 = true := by
  cases l with
  | nil => exact h1
  | cons x l =>
    have e : ∀ st : Bool × Int, (x :: l).foldl (rStep a) st = l.foldl (rStep a) (rStep a st x) := fun _ => rfl
    rw [e] at h ⊢
    have hs : (rStep a st x).1 = true := by
      cases h3 : (rStep a st x).1
      · exfalso
        have no : ∀ (l : List Int) (st : Bool × Int), st.1 = false → (l.foldl (rStep a) st).1 = false := by
          intro l
          induction l with
          | nil => exact fun st h => h
          | cons y l ih => exact fun st h => ih _ (by unfold rStep; rw [h]; rfl)
        rw [no l _ h3] at h
        cases h
      · rfl
    have : rStep a st' x = rStep a st x := by
      unfold rStep at hs ⊢
      simp at hs
      rw [h1]
      rw [hs.1, decide_eq_true hs.2, decide_eq_true (by omega)]
    rw [this]
    exact h
theorem ris_drop (a : Int) (l : List Int) (k : Nat) (h : ris a l = true) : ris a (l.drop k) = true := by
  have e : rAt a l = (l.drop k).foldl (rStep a) (rAt a (l.take k)) := by
    unfold rAt
    rw [← List.foldl_append, List.take_append_drop]
  unfold ris at h ⊢
  rw [e] at h
  exact ris_from a _ _ _ rfl (rAt_bd a _).1 h
theorem in_rises (a : Int) (l : List Int) (j : Nat) (h1 : j + 1 < l.length) (h : ris a l = true) : inB a (l[j]'(by omega)) l[j + 1] = true ∧ ris a [l[j + 1], l[j]'(by omega)] = false := by
  have h2 := ris_less a l (j + 1) h1 h
  have h3 := ris_less a l j (by omega) h
  have h4 := ahead_bd a l j
  rw [ahead_succ a l j (by omega)] at h2
  constructor
  · unfold inB rnd
    rw [if_pos (by omega)]
    exact decide_eq_true ⟨by omega, h2⟩
  · show (rStep a (rStep a (true, 0) _) _).1 = false
    unfold rStep
    simp
    omega
end Go.Proofs.YtnbabohhmcbhcaaDoor
