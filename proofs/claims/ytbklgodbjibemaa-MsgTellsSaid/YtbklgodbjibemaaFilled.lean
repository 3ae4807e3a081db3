/- Whether what a kind has is as it is to be: 'isFilled', and the document's own 'has': for any message. -/
import Derived.Test.YtbklgodbjibemaaSame
import Derived.Test.YtbklgodbjibemaaRList
set_option linter.unusedVariables false
set_option linter.unusedSimpArgs false
namespace Go.Proofs.Ytbklgodbjibemaa
open Go.RowKit Go.Shelf

def getB (m : M) : Bool := m.code == 0 && pairB m.it || m.code == 201 && itEq m.it noIt
def filledB (m : M) : Bool :=
  if m.kind = 5 then pairB m.it else if m.kind = 6 then keyB m.it.key else if m.kind = 11 then m.code == 0 || m.code == 200 else if m.kind = 12 then getB m else true
set_option maxRecDepth 100000 in
set_option maxHeartbeats 2000000 in
theorem filled_5 (m : M) (A : Option Addr) (n c : Nat) (w : World) (hk : m.kind = 5) : Calls Try.prog 33 #[.agg (m.c (.slice A n c))] w fun e w' => e = .returned (.bool (pairB m.it)) ∧ Below w.heap.size w w' := by
  have R := Lib.hid (Rw.new w (m.c (.slice A n c)) 27)
  have IT := Lib.hid (m.item (.slice A n c))
  have HB := Lib.hid (box_below w (.cells (m.c (.slice A n c)) 27))
  have e5 : (m.kind == 5) = true := by rw [hk]; rfl
  have e6 : (m.kind == 6) = false := by rw [hk]; rfl
  have e11 : (m.kind == 11) = false := by rw [hk]; rfl
  have e12 : (m.kind == 12) = false := by rw [hk]; rfl
  clear hk
  go_enter Try.func33, Try.ntmps33
  go_wp2_with (first
    | (with_reducible show wpList _ _ _ (Oper.mk _ (Op.load 24 _) _ _ _ _ :: _) _ _
       refine wpList_loadPt R.out IT.out agg24 rfl _ rfl rfl ?_))
  refine (Pair_any m.it _).mono ?_; rintro e w1 ⟨rfl, hb⟩
  go_wp2_with fail
  go_ret
  exact ⟨rfl, HB.out.trans (hb.mono HB.out.size)⟩
set_option maxRecDepth 100000 in
set_option maxHeartbeats 2000000 in
theorem filled_6 (m : M) (A : Option Addr) (n c : Nat) (w : World) (hk : m.kind = 6) : Calls Try.prog 33 #[.agg (m.c (.slice A n c))] w fun e w' => e = .returned (.bool (keyB m.it.key)) ∧ Below w.heap.size w w' := by
  have R := Lib.hid (Rw.new w (m.c (.slice A n c)) 27)
  have IT := Lib.hid (m.item (.slice A n c))
  have HB := Lib.hid (box_below w (.cells (m.c (.slice A n c)) 27))
  have e5 : (m.kind == 5) = false := by rw [hk]; rfl
  have e6 : (m.kind == 6) = true := by rw [hk]; rfl
  have e11 : (m.kind == 11) = false := by rw [hk]; rfl
  have e12 : (m.kind == 12) = false := by rw [hk]; rfl
  clear hk
  go_enter Try.func33, Try.ntmps33
  go_wp2_with (first
    | (with_reducible show wpList _ _ _ (Oper.mk _ (Op.load 24 _) _ _ _ _ :: _) _ _
       refine wpList_loadPt R.out IT.out agg24 rfl _ rfl rfl ?_))
  refine (key_any m.it.key _).mono ?_; rintro e w1 ⟨rfl, rfl⟩
  go_wp2_with fail
  go_ret
  exact ⟨rfl, HB.out⟩
set_option maxRecDepth 100000 in
set_option maxHeartbeats 2000000 in
theorem filled_11 (m : M) (A : Option Addr) (n c : Nat) (w : World) (hk : m.kind = 11) : Calls Try.prog 33 #[.agg (m.c (.slice A n c))] w fun e w' => e = .returned (.bool (m.code == 0 || m.code == 200)) ∧ Below w.heap.size w w' := by
  have R := Lib.hid (Rw.new w (m.c (.slice A n c)) 27)
  have IT := Lib.hid (m.item (.slice A n c))
  have HB := Lib.hid (box_below w (.cells (m.c (.slice A n c)) 27))
  have e5 : (m.kind == 5) = false := by rw [hk]; rfl
  have e6 : (m.kind == 6) = false := by rw [hk]; rfl
  have e11 : (m.kind == 11) = true := by rw [hk]; rfl
  have e12 : (m.kind == 12) = false := by rw [hk]; rfl
  clear hk
  obtain ⟨b0, h0⟩ : ∃ b, (m.code == 0) = b := ⟨_, rfl⟩
  obtain ⟨b1, h1⟩ : ∃ b, (m.code == 200) = b := ⟨_, rfl⟩
  rw [h0, h1]
  go_enter Try.func33, Try.ntmps33
  cases b0
  · go_wp2_with fail
    go_ret
    exact ⟨by simp, HB.out⟩
  · go_wp2_with fail
    go_ret
    exact ⟨rfl, HB.out⟩
set_option maxRecDepth 100000 in
set_option maxHeartbeats 2000000 in
theorem filled_12 (m : M) (A : Option Addr) (n c : Nat) (w : World) (hk : m.kind = 12) : Calls Try.prog 33 #[.agg (m.c (.slice A n c))] w fun e w' => e = .returned (.bool (getB m)) ∧ Below w.heap.size w w' := by
  have R := Lib.hid (Rw.new w (m.c (.slice A n c)) 27)
  have IT := Lib.hid (m.item (.slice A n c))
  have HB := Lib.hid (box_below w (.cells (m.c (.slice A n c)) 27))
  have e5 : (m.kind == 5) = false := by rw [hk]; rfl
  have e6 : (m.kind == 6) = false := by rw [hk]; rfl
  have e11 : (m.kind == 11) = false := by rw [hk]; rfl
  have e12 : (m.kind == 12) = true := by rw [hk]; rfl
  clear hk
  unfold getB
  obtain ⟨b0, h0⟩ : ∃ b, (m.code == 0) = b := ⟨_, rfl⟩
  obtain ⟨b1, h1⟩ : ∃ b, (m.code == 201) = b := ⟨_, rfl⟩
  obtain ⟨b2, h2⟩ : ∃ b, itEq m.it noIt = b := ⟨_, rfl⟩
  obtain ⟨b3, h3⟩ : ∃ b, pairB m.it = b := ⟨_, rfl⟩
  have k1 := fun w => Pair_any m.it w
  have HE := fun w => run_eqI w m.it noIt
  rw [h3] at k1
  rw [h2] at HE
  rw [h0, h1, h2, h3]
  have HE := Lib.hid HE
  have R1 := R
  clear h2 h3
  go_enter Try.func33, Try.ntmps33
  cases b0
  · cases b1
    · go_wp2_with (first
    | (with_reducible show wpList _ _ _ (Oper.mk _ (Op.load 24 _) _ _ _ _ :: _) _ _
       refine wpList_loadPt R.out IT.out agg24 rfl _ rfl rfl ?_)
    | (with_reducible show wpList _ _ _ (Oper.mk _ (Op.binOp _ 24 _ _ _) _ _ _ _ :: _) _ _
       refine wpList_eqR rfl _ _ rfl rfl rfl eg24 (HE.out _) ?_))
      go_ret
      exact ⟨by simp, HB.out⟩
    · go_wp2_with (first
    | (with_reducible show wpList _ _ _ (Oper.mk _ (Op.load 24 _) _ _ _ _ :: _) _ _
       refine wpList_loadPt R.out IT.out agg24 rfl _ rfl rfl ?_)
    | (with_reducible show wpList _ _ _ (Oper.mk _ (Op.binOp _ 24 _ _ _) _ _ _ _ :: _) _ _
       refine wpList_eqR rfl _ _ rfl rfl rfl eg24 (HE.out _) ?_))
      go_ret
      exact ⟨by simp, HB.out⟩
  · go_wp2_with (first
    | (with_reducible show wpList _ _ _ (Oper.mk _ (Op.load 24 _) _ _ _ _ :: _) _ _
       refine wpList_loadPt R.out IT.out agg24 rfl _ rfl rfl ?_)
    | (with_reducible show wpList _ _ _ (Oper.mk _ (Op.binOp _ 24 _ _ _) _ _ _ _ :: _) _ _
       refine wpList_eqR rfl _ _ rfl rfl rfl eg24 (HE.out _) ?_))
    refine (k1 _).mono ?_; rintro e w1 ⟨rfl, hb⟩
    have R1 := Lib.hid (R.out.below hb)
    have c1 := R1.out.cell
    cases b3
    · cases b1
      · go_wp2_with (first
    | (with_reducible show wpList _ _ _ (Oper.mk _ (Op.load 24 _) _ _ _ _ :: _) _ _
       refine wpList_loadPt R1.out IT.out agg24 rfl _ rfl rfl ?_)
    | (with_reducible show wpList _ _ _ (Oper.mk _ (Op.binOp _ 24 _ _ _) _ _ _ _ :: _) _ _
       refine wpList_eqR rfl _ _ rfl rfl rfl eg24 (HE.out _) ?_))
        go_ret
        exact ⟨by simp, HB.out.trans (hb.mono HB.out.size)⟩
      · go_wp2_with (first
    | (with_reducible show wpList _ _ _ (Oper.mk _ (Op.load 24 _) _ _ _ _ :: _) _ _
       refine wpList_loadPt R1.out IT.out agg24 rfl _ rfl rfl ?_)
    | (with_reducible show wpList _ _ _ (Oper.mk _ (Op.binOp _ 24 _ _ _) _ _ _ _ :: _) _ _
       refine wpList_eqR rfl _ _ rfl rfl rfl eg24 (HE.out _) ?_))
        go_ret
        exact ⟨by simp, HB.out.trans (hb.mono HB.out.size)⟩
    · go_wp2_with (first
    | (with_reducible show wpList _ _ _ (Oper.mk _ (Op.load 24 _) _ _ _ _ :: _) _ _
       refine wpList_loadPt R1.out IT.out agg24 rfl _ rfl rfl ?_)
    | (with_reducible show wpList _ _ _ (Oper.mk _ (Op.binOp _ 24 _ _ _) _ _ _ _ :: _) _ _
       refine wpList_eqR rfl _ _ rfl rfl rfl eg24 (HE.out _) ?_))
      go_ret
      exact ⟨by simp, HB.out.trans (hb.mono HB.out.size)⟩
set_option maxRecDepth 100000 in
set_option maxHeartbeats 2000000 in
theorem filled_x (m : M) (A : Option Addr) (n c : Nat) (w : World) (hk : m.kind ≠ 5 ∧ m.kind ≠ 6 ∧ m.kind ≠ 11 ∧ m.kind ≠ 12) : Calls Try.prog 33 #[.agg (m.c (.slice A n c))] w fun e w' => e = .returned (.bool (true)) ∧ Below w.heap.size w w' := by
  have R := Lib.hid (Rw.new w (m.c (.slice A n c)) 27)
  have IT := Lib.hid (m.item (.slice A n c))
  have HB := Lib.hid (box_below w (.cells (m.c (.slice A n c)) 27))
  have e5 : (m.kind == 5) = false := by simp [hk]
  have e6 : (m.kind == 6) = false := by simp [hk]
  have e11 : (m.kind == 11) = false := by simp [hk]
  have e12 : (m.kind == 12) = false := by simp [hk]
  clear hk
  go_enter Try.func33, Try.ntmps33
  go_wp2_with fail
  go_ret
  exact ⟨rfl, HB.out⟩
theorem filled_any (m : M) (A : Option Addr) (n c : Nat) (w : World) : Calls Try.prog 33 #[.agg (m.c (.slice A n c))] w fun e w' => e = .returned (.bool (filledB m)) ∧ Below w.heap.size w w' := by
  by_cases h5 : m.kind = 5
  · have := filled_5 m A n c w h5; simpa only [filledB, h5, if_true] using this
  by_cases h6 : m.kind = 6
  · have := filled_6 m A n c w h6; rw [filledB, if_neg h5, if_pos h6]; exact this
  by_cases h11 : m.kind = 11
  · have := filled_11 m A n c w h11; rw [filledB, if_neg h5, if_neg h6, if_pos h11]; exact this
  by_cases h12 : m.kind = 12
  · have := filled_12 m A n c w h12; rw [filledB, if_neg h5, if_neg h6, if_neg h11, if_pos h12]; exact this
  have := filled_x m A n c w ⟨h5, h6, h11, h12⟩
  rw [filledB, if_neg h5, if_neg h6, if_neg h11, if_neg h12]; exact this
end Go.Proofs.Ytbklgodbjibemaa
