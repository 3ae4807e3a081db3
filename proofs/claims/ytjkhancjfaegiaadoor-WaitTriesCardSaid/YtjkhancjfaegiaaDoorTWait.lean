/- What waits are: 'Wait', 'waiting' and its closure, 'Due', 'Over', 'Left', and the document's own: for any numbers; the table that lies ahead. -/
import Derived.Test.YtjkhancjfaegiaaDoorChecked
import Derived.Test.YtjkhancjfaegiaaDoorRwG
import Derived.Test.YtjkhancjfaegiaaDoorFen
import Derived.Lib.LaidTab
set_option linter.unusedVariables false
set_option maxRecDepth 100000
set_option linter.unusedSimpArgs false
namespace Go.Proofs.YtjkhancjfaegiaaDoor
open Go.RowKit Go.Shelf Ms

/-- The table of waits lies in its variable. -/
def TabW (w : World) : Prop := w.cell? ⟨0, 0, none⟩ = some (.int .i64 0) ∧ w.cell? ⟨0, 1, none⟩ = some (.int .i64 1) ∧ w.cell? ⟨0, 2, none⟩ = some (.int .i64 2) ∧ w.cell? ⟨0, 3, none⟩ = some (.int .i64 4)
theorem TabW.size {w : World} (h : TabW w) : 0 < w.heap.size := by
  have := h.1
  rcases Nat.eq_zero_or_pos w.heap.size with e | e
  · exfalso
    unfold World.cell? at this
    simp [Array.getElem?_eq_none (show w.heap.size ≤ 0 by omega)] at this
  · exact e
theorem TabW.below {w w' : World} {n : Nat} (h : TabW w) (h0 : 0 < n) (hb : Below n w w') : TabW w' :=
  ⟨(hb.cell (p := ⟨0, 0, none⟩) h0).trans h.1, (hb.cell (p := ⟨0, 1, none⟩) h0).trans h.2.1, (hb.cell (p := ⟨0, 2, none⟩) h0).trans h.2.2.1, (hb.cell (p := ⟨0, 3, none⟩) h0).trans h.2.2.2⟩

/-- The wait behind so many tries. -/
def wN (t : Int) : Int := if t < 1 then 0 else if t = 1 then 1 else if t = 2 then 2 else 4
theorem wN_bd (t : Int) : 0 ≤ wN t ∧ wN t ≤ 4 := by
  unfold wN
  split
  · omega
  · split
    · omega
    · split <;> omega
def Num (n : Int) : Prop := -9223372036854775808 ≤ n ∧ n ≤ 9223372036854775807
theorem num_wf {n : Int} (h : (Lit.int .i64 n).wf = true) : Num n := bounds_i64 h
theorem wr_eq (n : Int) : wrap64 n = (n + 9223372036854775808) % 18446744073709551616 - 9223372036854775808 := by unfold wrap64; rfl
theorem wr_num (n : Int) : Num (wrap64 n) := by rw [wr_eq]; constructor <;> omega
def passB (s t n : Int) : Bool := decide (wN t ≤ wrap64 (n - s))
def dueB (s t n : Int) : Bool := decide (1 ≤ t) && decide (t < 3) && passB s t n
def overB (s t n : Int) : Bool := decide (3 ≤ t) && passB s t n
def leftI (s t n : Int) : Int := max (wrap64 (wN t - wrap64 (n - s))) 0

set_option maxHeartbeats 1000000 in
theorem Wait_any (t : Int) (w : World) (hT : TabW w) : Calls Tryd.prog 8 #[.int .i64 t] w fun e w' => e = .returned (.int .i64 (wN t)) ∧ w = w' := by
  obtain ⟨h0, h1, h2, h3⟩ := hT
  by_cases a : t < 1
  · rw [show wN t = 0 from if_pos a]
    go_enter Tryd.func8, Tryd.ntmps8
    go_wp2
    go_ret
    exact ⟨rfl, rfl⟩
  · by_cases b : 3 < t
    · rw [show wN t = 4 by unfold wN; rw [if_neg (by omega), if_neg (by omega), if_neg (by omega)]]
      go_enter Tryd.func8, Tryd.ntmps8
      go_wp2
      go_ret
      exact ⟨rfl, rfl⟩
    · have : t = 1 ∨ t = 2 ∨ t = 3 := by omega
      clear a b
      rcases this with rfl | rfl | rfl
      · rw [show wN 1 = 1 by decide]
        go_enter Tryd.func8, Tryd.ntmps8
        go_wp2
        go_ret
        exact ⟨rfl, rfl⟩
      · rw [show wN 2 = 2 by decide]
        go_enter Tryd.func8, Tryd.ntmps8
        go_wp2
        go_ret
        exact ⟨rfl, rfl⟩
      · rw [show wN 3 = 4 by decide]
        go_enter Tryd.func8, Tryd.ntmps8
        go_wp2
        go_ret
        exact ⟨rfl, rfl⟩

theorem Wait_ref (t : Int) (w : World) : Calls Tryd.prog 9 #[.int .i64 t] w fun e w' => e = .returned (.int .i64 (wN t)) ∧ w = w' := by
  by_cases a : t < 1
  · rw [show wN t = 0 from if_pos a]
    go_enter Tryd.func9, Tryd.ntmps9
    go_wp2
    go_ret
    exact ⟨rfl, rfl⟩
  · by_cases b : t = 1
    · subst b
      rw [show wN 1 = 1 by decide]
      go_enter Tryd.func9, Tryd.ntmps9
      go_wp2
      go_ret
      exact ⟨rfl, rfl⟩
    · by_cases c : t = 2
      · subst c
        rw [show wN 2 = 2 by decide]
        go_enter Tryd.func9, Tryd.ntmps9
        go_wp2
        go_ret
        exact ⟨rfl, rfl⟩
      · rw [show wN t = 4 by unfold wN; rw [if_neg a, if_neg b, if_neg c]]
        have b' : (t == 1) = false := by simpa using b
        have c' : (t == 2) = false := by simpa using c
        go_enter Tryd.func9, Tryd.ntmps9
        go_wp2
        go_ret
        exact ⟨rfl, rfl⟩

theorem passed_any (s t n : Int) (b c : Nat) (w : World) (hb : w.cell? ⟨b, 0, none⟩ = some (.int .i64 s)) (hc : w.cell? ⟨c, 0, none⟩ = some (.int .i64 (wN t))) :
    Calls Tryd.prog 21 #[.int .i64 n, .pointer (some ⟨b, 0, none⟩), .pointer (some ⟨c, 0, none⟩)] w fun e w' => e = .returned (.bool (passB s t n)) ∧ w = w' := by
  unfold passB
  generalize wN t = v at *
  go_enter Tryd.func21, Tryd.ntmps21
  go_wp2
  go_ret
  exact ⟨by simp, rfl⟩

theorem waiting_any (s t : Int) (w : World) (hT : TabW w) : Calls Tryd.prog 19 #[.int .i64 s, .int .i64 t] w fun e w' => e = .returned (.func (.func 21) #[] #[.pointer (some ⟨w.heap.size, 0, none⟩), .pointer (some ⟨w.heap.size + 1, 0, none⟩)]) ∧
    w'.cell? ⟨w.heap.size, 0, none⟩ = some (.int .i64 s) ∧ w'.cell? ⟨w.heap.size + 1, 0, none⟩ = some (.int .i64 (wN t)) ∧ Below w.heap.size w w' := by
  have h0 := hT.size
  have h1 := fun w' (h : Below w.heap.size w w') => Wait_any t w' (hT.below h0 h)
  clear hT
  generalize wN t = v at *
  go_enter Tryd.func19, Tryd.ntmps19
  go_wp2_with fail
  refine (h1 _ (box_below w _)).mono ?_; rintro e w' ⟨rfl, rfl⟩
  go_wp2
  obtain ⟨r1, r2, B0⟩ := two_boxes w #[.int .i64 s] #[.int .i64 v] 3 3
  go_ret
  exact ⟨rfl, r1.cell 0, r2.cell 0, B0⟩

set_option maxHeartbeats 1000000 in
theorem Due_any (s t n : Int) (w : World) (hT : TabW w) : Calls Tryd.prog 10 #[.int .i64 s, .int .i64 t, .int .i64 n] w fun e w' => e = .returned (.bool (dueB s t n)) ∧ Below w.heap.size w w' := by
  have h1 := waiting_any s t w hT
  unfold dueB
  have h2 := fun b c w hb hc => passed_any s t n b c w hb hc
  generalize passB s t n = p at *
  generalize wN t = v at *
  by_cases a : 1 ≤ t
  · by_cases b : t < 3
    · rw [decide_eq_true a, decide_eq_true b]
      go_enter Tryd.func10, Tryd.ntmps10
      go_wp2_with fail
      refine h1.mono ?_; rintro e w' ⟨rfl, c1, c2, hb⟩
      go_wp2_with fail
      refine (h2 _ _ _ c1 c2).mono ?_; rintro e w' ⟨rfl, rfl⟩
      go_wp2
      go_ret
      exact ⟨by simp, hb⟩
    · rw [decide_eq_true a, decide_eq_false b]
      go_enter Tryd.func10, Tryd.ntmps10
      go_wp2_with fail
      refine h1.mono ?_; rintro e w' ⟨rfl, c1, c2, hb⟩
      go_wp2
      go_ret
      exact ⟨by simp, hb⟩
  · rw [decide_eq_false a]
    go_enter Tryd.func10, Tryd.ntmps10
    go_wp2_with fail
    refine h1.mono ?_; rintro e w' ⟨rfl, c1, c2, hb⟩
    go_wp2
    go_ret
    exact ⟨by simp, hb⟩

theorem Over_any (s t n : Int) (w : World) (hT : TabW w) : Calls Tryd.prog 12 #[.int .i64 s, .int .i64 t, .int .i64 n] w fun e w' => e = .returned (.bool (overB s t n)) ∧ Below w.heap.size w w' := by
  have h1 := waiting_any s t w hT
  unfold overB
  have h2 := fun b c w hb hc => passed_any s t n b c w hb hc
  generalize passB s t n = p at *
  generalize wN t = v at *
  by_cases a : 3 ≤ t
  · rw [decide_eq_true a]
    go_enter Tryd.func12, Tryd.ntmps12
    go_wp2_with fail
    refine h1.mono ?_; rintro e w' ⟨rfl, c1, c2, hb⟩
    go_wp2_with fail
    refine (h2 _ _ _ c1 c2).mono ?_; rintro e w' ⟨rfl, rfl⟩
    go_wp2
    go_ret
    exact ⟨by simp, hb⟩
  · rw [decide_eq_false a]
    go_enter Tryd.func12, Tryd.ntmps12
    go_wp2_with fail
    refine h1.mono ?_; rintro e w' ⟨rfl, c1, c2, hb⟩
    go_wp2
    go_ret
    exact ⟨by simp, hb⟩

theorem Due_ref (s t n : Int) (w : World) : Calls Tryd.prog 11 #[.int .i64 s, .int .i64 t, .int .i64 n] w fun e w' => e = .returned (.bool (dueB s t n)) ∧ w = w' := by
  have h1 := fun w => Wait_ref t w
  unfold dueB passB
  by_cases a : t = 1
  · subst a
    generalize wN 1 = v at *
    go_enter Tryd.func11, Tryd.ntmps11
    go_wp2_with fail
    refine (h1 _).mono ?_; rintro e w' ⟨rfl, rfl⟩
    go_wp2
    go_ret
    exact ⟨by simp, rfl⟩
  · by_cases b : t = 2
    · subst b
      generalize wN 2 = v at *
      go_enter Tryd.func11, Tryd.ntmps11
      go_wp2_with fail
      refine (h1 _).mono ?_; rintro e w' ⟨rfl, rfl⟩
      go_wp2
      go_ret
      exact ⟨by simp, rfl⟩
    · have a' : (t == 1) = false := by simpa using a
      have b' : (t == 2) = false := by simpa using b
      have c : (decide (1 ≤ t) && decide (t < 3)) = false := by simp; omega
      rw [c]
      generalize wN t = v at *
      go_enter Tryd.func11, Tryd.ntmps11
      go_wp2
      go_ret
      exact ⟨by simp, rfl⟩

theorem Over_ref (s t n : Int) (w : World) : Calls Tryd.prog 13 #[.int .i64 s, .int .i64 t, .int .i64 n] w fun e w' => e = .returned (.bool (overB s t n)) ∧ w = w' := by
  unfold overB passB
  by_cases a : 3 ≤ t
  · rw [decide_eq_true a, show wN t = 4 by unfold wN; rw [if_neg (by omega), if_neg (by omega), if_neg (by omega)]]
    go_enter Tryd.func13, Tryd.ntmps13
    go_wp2
    go_ret
    exact ⟨by simp, rfl⟩
  · rw [decide_eq_false a]
    go_enter Tryd.func13, Tryd.ntmps13
    go_wp2
    go_ret
    exact ⟨by simp, rfl⟩

theorem Left_any (s t n : Int) (w : World) (hT : TabW w) : Calls Tryd.prog 16 #[.int .i64 s, .int .i64 t, .int .i64 n] w fun e w' => e = .returned (.int .i64 (leftI s t n)) ∧ w = w' := by
  have h1 := Wait_any t w hT
  unfold leftI
  generalize wN t = v at *
  clear hT
  by_cases a : wrap64 (v - wrap64 (n - s)) < 0
  · rw [Int.max_eq_right (by omega)]
    go_enter Tryd.func16, Tryd.ntmps16
    go_wp2_with fail
    refine h1.mono ?_; rintro e w' ⟨rfl, rfl⟩
    go_wp2
    go_ret
    exact ⟨rfl, rfl⟩
  · rw [Int.max_eq_left (by omega)]
    go_enter Tryd.func16, Tryd.ntmps16
    go_wp2_with fail
    refine h1.mono ?_; rintro e w' ⟨rfl, rfl⟩
    go_wp2
    go_ret
    exact ⟨rfl, rfl⟩

theorem Left_ref (s t n : Int) (w : World) : Calls Tryd.prog 17 #[.int .i64 s, .int .i64 t, .int .i64 n] w fun e w' => e = .returned (.int .i64 (leftI s t n)) ∧ w = w' := by
  have h1 := Wait_ref t w
  unfold leftI
  generalize wN t = v at *
  go_enter Tryd.func17, Tryd.ntmps17
  go_wp2_with fail
  refine h1.mono ?_; rintro e w' ⟨rfl, rfl⟩
  go_wp2
  go_ret
  exact ⟨rfl, rfl⟩
end Go.Proofs.YtjkhancjfaegiaaDoor
