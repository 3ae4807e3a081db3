/- 'ArcRound': ways go on; there and back is once round; of three places one lies between the others: for any three numbers, the table of starts laid. -/
import Derived.Test.YtnbabohhmcbhcaaDoorWakes
set_option linter.unusedVariables false
set_option linter.unusedSimpArgs false
namespace Go.Proofs.YtnbabohhmcbhcaaDoor
open Go.RowKit Go.Shelf

set_option maxRecDepth 100000 in
set_option maxHeartbeats 4000000 in
theorem round_walk (W : World) (hT : Tab W) (a : Int) (w0 : (Lit.int .i64 a).wf = true) (b : Int) (w1 : (Lit.int .i64 b).wf = true) (c : Int) (w2 : (Lit.int .i64 c).wf = true) :
    Calls Tryd.prog 4 #[.int .i64 a, .int .i64 b, .int .i64 c] W fun e w' => e = .returned (.bool true) ∧ Below W.heap.size W w' := by
  have ha : Num a := bounds_i64 w0
  have hb : Num b := bounds_i64 w1
  have hc : Num c := bounds_i64 w2
  have h0 : Num 0 := ⟨by omega, by omega⟩
  clear w0 w1 w2
  have f1 := fun w => far_any a b w ha hb
  have f2 := fun w => far_any b c w hb hc
  have f3 := fun w => far_any a c w ha hc
  have f4 := fun w => far_any a a w ha ha
  have f5 := fun w => far_any 0 a w h0 ha
  have f6 := fun w => far_any b a w hb ha
  have p1 := fun w => place_any a w ha
  have i1 := fun w => in_any a c b w ha hc hb
  have i2 := fun w => in_any a b c w ha hb hc
  have i3 := fun w => in_any b c a w hb hc ha
  have u1 := fun w => upTo_any a c b w ha hc hb
  have k1 := far_bd a b
  have k2 := far_bd b c
  have k3 := far_bd a c
  have m1 : far a b + far b c = far a c ∨ far a b + far b c = far a c + 65536 := by unfold far; omega
  rw [show far a a = 0 by unfold far; omega] at f4
  rw [show far 0 a = pl a by unfold far pl; omega] at f5
  have m2 : far b a = if far a b = 0 then 0 else 65536 - far a b := by unfold far; split <;> omega
  rw [m2] at f6
  have WK := Lib.hid (wakes_any W hT)
  clear ha hb hc h0 hT
  by_cases hx : far a b = 0
  · have e1 : inB a c b = decide (far a c ≠ 0) := by
      unfold inB rnd
      rw [hx, if_neg (by omega)]
      rw [decide_eq_decide]
      omega
    rw [e1] at i1
    rw [if_pos hx] at f6
    rw [hx] at f1 m1
    clear hx m2 e1 i2 i3 u1 k1
    have hyz : far b c = far a c := by omega
    rw [hyz] at f2
    clear m1 hyz k2
    generalize far a c = z at *
    generalize pl a = p at *
    by_cases hz : z = 0
    · subst hz
      rw [show decide ((0 : Int) ≠ 0) = false by decide] at i1
      go_enter Tryd.func4, Tryd.ntmps4
      go_wp2_with fail
      refine (f1 _).mono ?_; rintro e w' ⟨rfl, rfl⟩
      go_wp2_with fail
      refine (f2 _).mono ?_; rintro e w' ⟨rfl, rfl⟩
      go_wp2_with fail
      refine (f3 _).mono ?_; rintro e w' ⟨rfl, rfl⟩
      go_wp2_with fail
      refine (f4 _).mono ?_; rintro e w' ⟨rfl, rfl⟩
      go_wp2_with fail
      refine (f5 _).mono ?_; rintro e w' ⟨rfl, rfl⟩
      go_wp2_with fail
      refine (p1 _).mono ?_; rintro e w' ⟨rfl, rfl⟩
      go_wp2_with fail
      refine (f6 _).mono ?_; rintro e w' ⟨rfl, rfl⟩
      go_wp2_with fail
      refine (i1 _).mono ?_; rintro e w' ⟨rfl, rfl⟩
      go_wp2_with fail
      refine WK.out.mono ?_; rintro e w' ⟨rfl, hb⟩
      go_wp2
      go_ret
      exact ⟨rfl, hb⟩
    · rw [show decide (z ≠ 0) = true by simpa using hz] at i1
      have hz1 : (z != 0) = true := by simpa using hz
      go_enter Tryd.func4, Tryd.ntmps4
      go_wp2_with fail
      refine (f1 _).mono ?_; rintro e w' ⟨rfl, rfl⟩
      go_wp2_with fail
      refine (f2 _).mono ?_; rintro e w' ⟨rfl, rfl⟩
      go_wp2_with fail
      refine (f3 _).mono ?_; rintro e w' ⟨rfl, rfl⟩
      go_wp2_with fail
      refine (f4 _).mono ?_; rintro e w' ⟨rfl, rfl⟩
      go_wp2_with fail
      refine (f5 _).mono ?_; rintro e w' ⟨rfl, rfl⟩
      go_wp2_with fail
      refine (p1 _).mono ?_; rintro e w' ⟨rfl, rfl⟩
      go_wp2_with fail
      refine (f6 _).mono ?_; rintro e w' ⟨rfl, rfl⟩
      go_wp2_with fail
      refine (i1 _).mono ?_; rintro e w' ⟨rfl, rfl⟩
      go_wp2_with fail
      refine WK.out.mono ?_; rintro e w' ⟨rfl, hb⟩
      go_wp2
      go_ret
      exact ⟨rfl, hb⟩
  · rw [if_neg hx] at f6
    have hx0 : (far a b == 0) = false := by simpa using hx
    have hx1 : (far a b != 0) = true := by simpa using hx
    have ez : pl b = pl c ↔ far b c = 0 := by unfold pl far; omega
    have ec : pl c = pl b ↔ far b c = 0 := by unfold pl far; omega
    have fc : far c b = if far b c = 0 then 0 else 65536 - far b c := by unfold far; split <;> omega
    have ga : far b a = 65536 - far a b := by rw [m2, if_neg hx]
    have gc : rnd a b = far a b := if_pos (by omega)
    by_cases hyz : far b c = 0 ∨ far a c = 0
    · have e1 : inB a c b = false := by
        unfold inB
        rw [gc]
        exact decide_eq_false (by rintro ⟨h1, h2⟩; rcases hyz with h | h <;> omega)
      have e2 : upB a c b = decide (far b c = 0) := by
        unfold upB
        rw [e1, Bool.false_or, decide_eq_decide, ec]
      rw [e1] at i1
      rw [e2] at u1
      clear e1 e2 ez ec fc ga gc m2 i2 i3
      generalize far a c = z at *
      generalize pl a = p at *
      generalize far a b = x at *
      generalize far b c = y at *
      have s1 : (x + (65536 - x) != 65536) = false := by simp; omega
      rcases m1 with m | m
      · subst m
        by_cases hy : y = 0
        · subst hy
          go_enter Tryd.func4, Tryd.ntmps4
          go_wp2_with fail
          refine (f1 _).mono ?_; rintro e w' ⟨rfl, rfl⟩
          go_wp2_with fail
          refine (f2 _).mono ?_; rintro e w' ⟨rfl, rfl⟩
          go_wp2_with fail
          refine (f3 _).mono ?_; rintro e w' ⟨rfl, rfl⟩
          go_wp2_with fail
          refine (f4 _).mono ?_; rintro e w' ⟨rfl, rfl⟩
          go_wp2_with fail
          refine (f5 _).mono ?_; rintro e w' ⟨rfl, rfl⟩
          go_wp2_with fail
          refine (p1 _).mono ?_; rintro e w' ⟨rfl, rfl⟩
          go_wp2_with fail
          refine (f6 _).mono ?_; rintro e w' ⟨rfl, rfl⟩
          go_wp2_with fail
          refine (i1 _).mono ?_; rintro e w' ⟨rfl, rfl⟩
          go_wp2_with fail
          refine (u1 _).mono ?_; rintro e w' ⟨rfl, rfl⟩
          go_wp2_with fail
          refine WK.out.mono ?_; rintro e w' ⟨rfl, hb⟩
          go_wp2
          go_ret
          exact ⟨rfl, hb⟩
        · exfalso; omega
      · have hs1 : (x + y != z) = true := by simp; omega
        have hs2 : (x + y != z + 65536) = false := by simp; omega
        have hz : z = 0 := by omega
        have hy : (y == 0) = false := by simp; omega
        have hy2 : decide (y = 0) = false := by simp; omega
        rw [hy2] at u1
        subst hz
        go_enter Tryd.func4, Tryd.ntmps4
        go_wp2_with fail
        refine (f1 _).mono ?_; rintro e w' ⟨rfl, rfl⟩
        go_wp2_with fail
        refine (f2 _).mono ?_; rintro e w' ⟨rfl, rfl⟩
        go_wp2_with fail
        refine (f3 _).mono ?_; rintro e w' ⟨rfl, rfl⟩
        go_wp2_with fail
        refine (f4 _).mono ?_; rintro e w' ⟨rfl, rfl⟩
        go_wp2_with fail
        refine (f5 _).mono ?_; rintro e w' ⟨rfl, rfl⟩
        go_wp2_with fail
        refine (p1 _).mono ?_; rintro e w' ⟨rfl, rfl⟩
        go_wp2_with fail
        refine (f6 _).mono ?_; rintro e w' ⟨rfl, rfl⟩
        go_wp2_with fail
        refine (i1 _).mono ?_; rintro e w' ⟨rfl, rfl⟩
        go_wp2_with fail
        refine (u1 _).mono ?_; rintro e w' ⟨rfl, rfl⟩
        go_wp2_with fail
        refine WK.out.mono ?_; rintro e w' ⟨rfl, hb⟩
        go_wp2
        go_ret
        exact ⟨rfl, hb⟩
    · have hy : ¬ far b c = 0 := fun h => hyz (.inl h)
      have hz : ¬ far a c = 0 := fun h => hyz (.inr h)
      have gb : rnd a c = far a c := if_pos (by omega)
      have gd : rnd b a = far b a := if_pos (by omega)
      have e1 : inB a c b = decide (far a b + far b c = far a c + 65536) := by
        unfold inB
        rw [gc, decide_eq_decide]
        omega
      have e2 : inB a b c = decide (far a b + far b c = far a c) := by
        unfold inB
        rw [gb, decide_eq_decide]
        omega
      have e3 : inB b c a = decide (far a b + far b c = far a c) := by
        unfold inB
        rw [gd, ga, decide_eq_decide]
        omega
      rw [e1] at i1
      rw [e2] at i2
      rw [e3] at i3
      have hy0 : (far b c == 0) = false := by simpa using hy
      have hz0 : (far a c == 0) = false := by simpa using hz
      clear e1 e2 e3 ez ec fc ga gc gb gd m2 u1 hyz hy hz hx
      generalize far a c = z at *
      generalize pl a = p at *
      generalize far a b = x at *
      generalize far b c = y at *
      have s1 : (x + (65536 - x) != 65536) = false := by simp; omega
      rcases m1 with m | m
      · rw [show decide (x + y = z + 65536) = false by simp; omega] at i1
        rw [show decide (x + y = z) = true by simp; omega] at i2 i3
        have hs1 : (x + y != z) = false := by simp; omega
        have hs2 : (x + y == z) = true := by simp; omega
        clear m
        go_enter Tryd.func4, Tryd.ntmps4
        go_wp2_with fail
        refine (f1 _).mono ?_; rintro e w' ⟨rfl, rfl⟩
        go_wp2_with fail
        refine (f2 _).mono ?_; rintro e w' ⟨rfl, rfl⟩
        go_wp2_with fail
        refine (f3 _).mono ?_; rintro e w' ⟨rfl, rfl⟩
        go_wp2_with fail
        refine (f4 _).mono ?_; rintro e w' ⟨rfl, rfl⟩
        go_wp2_with fail
        refine (f5 _).mono ?_; rintro e w' ⟨rfl, rfl⟩
        go_wp2_with fail
        refine (p1 _).mono ?_; rintro e w' ⟨rfl, rfl⟩
        go_wp2_with fail
        refine (f6 _).mono ?_; rintro e w' ⟨rfl, rfl⟩
        go_wp2_with fail
        refine (i2 _).mono ?_; rintro e w' ⟨rfl, rfl⟩
        go_wp2_with fail
        refine (i1 _).mono ?_; rintro e w' ⟨rfl, rfl⟩
        go_wp2_with fail
        refine (i2 _).mono ?_; rintro e w' ⟨rfl, rfl⟩
        go_wp2_with fail
        refine (i3 _).mono ?_; rintro e w' ⟨rfl, rfl⟩
        go_wp2_with fail
        refine (i2 _).mono ?_; rintro e w' ⟨rfl, rfl⟩
        go_wp2_with fail
        refine WK.out.mono ?_; rintro e w' ⟨rfl, hb⟩
        go_wp2
        go_ret
        exact ⟨rfl, hb⟩
      · rw [show decide (x + y = z + 65536) = true by simp; omega] at i1
        rw [show decide (x + y = z) = false by simp; omega] at i2 i3
        have hs1 : (x + y != z) = true := by simp; omega
        have hs2 : (x + y != z + 65536) = false := by simp; omega
        have hs3 : (x + y == z) = false := by simp; omega
        clear m
        go_enter Tryd.func4, Tryd.ntmps4
        go_wp2_with fail
        refine (f1 _).mono ?_; rintro e w' ⟨rfl, rfl⟩
        go_wp2_with fail
        refine (f2 _).mono ?_; rintro e w' ⟨rfl, rfl⟩
        go_wp2_with fail
        refine (f3 _).mono ?_; rintro e w' ⟨rfl, rfl⟩
        go_wp2_with fail
        refine (f4 _).mono ?_; rintro e w' ⟨rfl, rfl⟩
        go_wp2_with fail
        refine (f5 _).mono ?_; rintro e w' ⟨rfl, rfl⟩
        go_wp2_with fail
        refine (p1 _).mono ?_; rintro e w' ⟨rfl, rfl⟩
        go_wp2_with fail
        refine (f6 _).mono ?_; rintro e w' ⟨rfl, rfl⟩
        go_wp2_with fail
        refine (i2 _).mono ?_; rintro e w' ⟨rfl, rfl⟩
        go_wp2_with fail
        refine (i1 _).mono ?_; rintro e w' ⟨rfl, rfl⟩
        go_wp2_with fail
        refine (i2 _).mono ?_; rintro e w' ⟨rfl, rfl⟩
        go_wp2_with fail
        refine (i3 _).mono ?_; rintro e w' ⟨rfl, rfl⟩
        go_wp2_with fail
        refine (i2 _).mono ?_; rintro e w' ⟨rfl, rfl⟩
        go_wp2_with fail
        refine WK.out.mono ?_; rintro e w' ⟨rfl, hb⟩
        go_wp2
        go_ret
        exact ⟨rfl, hb⟩
end Go.Proofs.YtnbabohhmcbhcaaDoor
