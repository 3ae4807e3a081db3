/- The document's own 'has': for any message. -/
import Derived.Test.YtbklgodbjibemaaFilled
set_option linter.unusedVariables false
set_option linter.unusedSimpArgs false
namespace Go.Proofs.Ytbklgodbjibemaa
open Go.RowKit Go.Shelf

def hasB (m : M) (l : List Int) : Bool :=
  if m.kind = 4 then placeB m.key else if m.kind = 5 then pairB m.it else if m.kind = 6 then pairB m.it && itEq m.it { noIt with key := m.it.key }
  else if m.kind = 7 then (m.pred == -1 || placeB m.pred) && decide (listP m.frm l ∧ l.length ≤ 3) else if m.kind = 10 then placeB m.place
  else if m.kind = 11 then m.code == 0 || m.code == 200 else if m.kind = 12 then getB m else true
set_option maxRecDepth 100000 in
set_option maxHeartbeats 2000000 in
theorem has_4 (m : M) (A : Option Addr) (n c : Nat) (l : List Int) (w : World) (hs : Sl w (.slice A n c) (iv l)) (hk : m.kind = 4) : Calls Try.prog 35 #[.agg (m.c (.slice A n c))] w fun e w' => e = .returned (.bool (placeB m.key)) ∧ Below w.heap.size w w' := by
  have R := Lib.hid (Rw.new w (m.c (.slice A n c)) 27)
  have IT := Lib.hid (m.item (.slice A n c))
  have HB := Lib.hid (box_below w (.cells (m.c (.slice A n c)) 27))
  have HS := Lib.hid hs
  clear hs
  have e4 : (m.kind == 4) = true := by rw [hk]; rfl
  have e5 : (m.kind == 5) = false := by rw [hk]; rfl
  have e6 : (m.kind == 6) = false := by rw [hk]; rfl
  have e7 : (m.kind == 7) = false := by rw [hk]; rfl
  have e10 : (m.kind == 10) = false := by rw [hk]; rfl
  have e11 : (m.kind == 11) = false := by rw [hk]; rfl
  have e12 : (m.kind == 12) = false := by rw [hk]; rfl
  clear hk
  go_enter Try.func35, Try.ntmps35
  go_wp2_with fail
  refine (rplace_any m.key _).mono ?_; rintro e w1 ⟨rfl, rfl⟩
  go_wp2_with fail
  go_ret
  exact ⟨rfl, HB.out⟩
set_option maxRecDepth 100000 in
set_option maxHeartbeats 2000000 in
theorem has_5 (m : M) (A : Option Addr) (n c : Nat) (l : List Int) (w : World) (hs : Sl w (.slice A n c) (iv l)) (hk : m.kind = 5) : Calls Try.prog 35 #[.agg (m.c (.slice A n c))] w fun e w' => e = .returned (.bool (pairB m.it)) ∧ Below w.heap.size w w' := by
  have R := Lib.hid (Rw.new w (m.c (.slice A n c)) 27)
  have IT := Lib.hid (m.item (.slice A n c))
  have HB := Lib.hid (box_below w (.cells (m.c (.slice A n c)) 27))
  have HS := Lib.hid hs
  clear hs
  have e4 : (m.kind == 4) = false := by rw [hk]; rfl
  have e5 : (m.kind == 5) = true := by rw [hk]; rfl
  have e6 : (m.kind == 6) = false := by rw [hk]; rfl
  have e7 : (m.kind == 7) = false := by rw [hk]; rfl
  have e10 : (m.kind == 10) = false := by rw [hk]; rfl
  have e11 : (m.kind == 11) = false := by rw [hk]; rfl
  have e12 : (m.kind == 12) = false := by rw [hk]; rfl
  clear hk
  go_enter Try.func35, Try.ntmps35
  go_wp2_with (first
    | (with_reducible show wpList _ _ _ (Oper.mk _ (Op.load 24 _) _ _ _ _ :: _) _ _
       refine wpList_loadPt R.out IT.out agg24 rfl _ rfl rfl ?_))
  refine (rPair_any m.it _).mono ?_; rintro e w1 ⟨rfl, hb⟩
  go_wp2_with fail
  go_ret
  exact ⟨rfl, HB.out.trans (hb.mono HB.out.size)⟩
set_option maxRecDepth 100000 in
set_option maxHeartbeats 2000000 in
theorem has_6 (m : M) (A : Option Addr) (n c : Nat) (l : List Int) (w : World) (hs : Sl w (.slice A n c) (iv l)) (hk : m.kind = 6) : Calls Try.prog 35 #[.agg (m.c (.slice A n c))] w fun e w' => e = .returned (.bool (pairB m.it && itEq m.it { noIt with key := m.it.key })) ∧ Below w.heap.size w w' := by
  have R := Lib.hid (Rw.new w (m.c (.slice A n c)) 27)
  have IT := Lib.hid (m.item (.slice A n c))
  have HB := Lib.hid (box_below w (.cells (m.c (.slice A n c)) 27))
  have HS := Lib.hid hs
  clear hs
  have e4 : (m.kind == 4) = false := by rw [hk]; rfl
  have e5 : (m.kind == 5) = false := by rw [hk]; rfl
  have e6 : (m.kind == 6) = true := by rw [hk]; rfl
  have e7 : (m.kind == 7) = false := by rw [hk]; rfl
  have e10 : (m.kind == 10) = false := by rw [hk]; rfl
  have e11 : (m.kind == 11) = false := by rw [hk]; rfl
  have e12 : (m.kind == 12) = false := by rw [hk]; rfl
  clear hk
  obtain ⟨b2, h2⟩ : ∃ b, itEq m.it { noIt with key := m.it.key } = b := ⟨_, rfl⟩
  obtain ⟨b3, h3⟩ : ∃ b, pairB m.it = b := ⟨_, rfl⟩
  have k1 := fun w => rPair_any m.it w
  have HE := fun w => run_eqI w m.it { noIt with key := m.it.key }
  rw [h3] at k1
  rw [h2] at HE
  rw [h2, h3]
  have HE := Lib.hid HE
  clear h2 h3
  go_enter Try.func35, Try.ntmps35
  go_wp2_with (first
    | (with_reducible show wpList _ _ _ (Oper.mk _ (Op.load 24 _) _ _ _ _ :: _) _ _
       refine wpList_loadPt R.out IT.out agg24 rfl _ rfl rfl ?_))
  refine (k1 _).mono ?_; rintro e w1 ⟨rfl, hb⟩
  have R1 := Lib.hid (R.out.below hb)
  have c1 := R1.out.cell
  cases b3
  · go_wp2_with fail
    go_ret
    exact ⟨by simp, HB.out.trans (hb.mono HB.out.size)⟩
  · go_wp2_with (first
      | (with_reducible show wpList _ _ _ (Oper.mk _ (Op.load 24 _) _ _ _ _ :: _) _ _
         refine wpList_loadPt R1.out IT.out agg24 rfl _ rfl rfl ?_)
      | (with_reducible show wpList _ _ _ (Oper.mk _ (Op.binOp _ 24 _ _ _) _ _ _ _ :: _) _ _
         refine wpList_eqR rfl _ _ rfl rfl rfl eg24 (HE.out _) ?_))
    go_ret
    exact ⟨by simp, HB.out.trans (hb.mono HB.out.size)⟩
set_option maxRecDepth 100000 in
set_option maxHeartbeats 2000000 in
theorem has_7 (m : M) (A : Option Addr) (n c : Nat) (l : List Int) (w : World) (hs : Sl w (.slice A n c) (iv l)) (hk : m.kind = 7) : Calls Try.prog 35 #[.agg (m.c (.slice A n c))] w fun e w' => e = .returned (.bool ((m.pred == -1 || placeB m.pred) && decide (listP m.frm l ∧ l.length ≤ 3))) ∧ Below w.heap.size w w' := by
  have R := Lib.hid (Rw.new w (m.c (.slice A n c)) 27)
  have IT := Lib.hid (m.item (.slice A n c))
  have HB := Lib.hid (box_below w (.cells (m.c (.slice A n c)) 27))
  have HS := Lib.hid hs
  clear hs
  have e4 : (m.kind == 4) = false := by rw [hk]; rfl
  have e5 : (m.kind == 5) = false := by rw [hk]; rfl
  have e6 : (m.kind == 6) = false := by rw [hk]; rfl
  have e7 : (m.kind == 7) = true := by rw [hk]; rfl
  have e10 : (m.kind == 10) = false := by rw [hk]; rfl
  have e11 : (m.kind == 11) = false := by rw [hk]; rfl
  have e12 : (m.kind == 12) = false := by rw [hk]; rfl
  clear hk
  obtain ⟨b0, h0⟩ : ∃ b, (m.pred == -1) = b := ⟨_, rfl⟩
  obtain ⟨b1, h1⟩ : ∃ b, placeB m.pred = b := ⟨_, rfl⟩
  obtain ⟨b2, h2⟩ : ∃ b, decide (listP m.frm l ∧ l.length ≤ 3) = b := ⟨_, rfl⟩
  have k1 := fun w => rplace_any m.pred w
  have k2 := fun w h => rlist_any m.frm (.slice A n c) l w h
  rw [h1] at k1
  rw [h2] at k2
  rw [h0, h1, h2]
  have HK1 := Lib.hid k1
  have HK2 := Lib.hid k2
  clear h1 h2 k1 k2
  go_enter Try.func35, Try.ntmps35
  cases b0
  · go_wp2_with fail
    refine (HK1.out _).mono ?_; rintro e w1 ⟨rfl, rfl⟩
    cases b1
    · go_wp2_with fail
      go_ret
      exact ⟨by simp, HB.out⟩
    · go_wp2_with fail
      refine (HK2.out _ (HS.out.alloc _)).mono ?_; rintro e w1 ⟨rfl, hb⟩
      go_wp2_with fail
      go_ret
      exact ⟨by simp, HB.out.trans (hb.mono HB.out.size)⟩
  · go_wp2_with fail
    refine (HK2.out _ (HS.out.alloc _)).mono ?_; rintro e w1 ⟨rfl, hb⟩
    go_wp2_with fail
    go_ret
    exact ⟨by simp, HB.out.trans (hb.mono HB.out.size)⟩
set_option maxRecDepth 100000 in
set_option maxHeartbeats 2000000 in
theorem has_10 (m : M) (A : Option Addr) (n c : Nat) (l : List Int) (w : World) (hs : Sl w (.slice A n c) (iv l)) (hk : m.kind = 10) : Calls Try.prog 35 #[.agg (m.c (.slice A n c))] w fun e w' => e = .returned (.bool (placeB m.place)) ∧ Below w.heap.size w w' := by
  have R := Lib.hid (Rw.new w (m.c (.slice A n c)) 27)
  have IT := Lib.hid (m.item (.slice A n c))
  have HB := Lib.hid (box_below w (.cells (m.c (.slice A n c)) 27))
  have HS := Lib.hid hs
  clear hs
  have e4 : (m.kind == 4) = false := by rw [hk]; rfl
  have e5 : (m.kind == 5) = false := by rw [hk]; rfl
  have e6 : (m.kind == 6) = false := by rw [hk]; rfl
  have e7 : (m.kind == 7) = false := by rw [hk]; rfl
  have e10 : (m.kind == 10) = true := by rw [hk]; rfl
  have e11 : (m.kind == 11) = false := by rw [hk]; rfl
  have e12 : (m.kind == 12) = false := by rw [hk]; rfl
  clear hk
  go_enter Try.func35, Try.ntmps35
  go_wp2_with fail
  refine (rplace_any m.place _).mono ?_; rintro e w1 ⟨rfl, rfl⟩
  go_wp2_with fail
  go_ret
  exact ⟨rfl, HB.out⟩
set_option maxRecDepth 100000 in
set_option maxHeartbeats 2000000 in
theorem has_11 (m : M) (A : Option Addr) (n c : Nat) (l : List Int) (w : World) (hs : Sl w (.slice A n c) (iv l)) (hk : m.kind = 11) : Calls Try.prog 35 #[.agg (m.c (.slice A n c))] w fun e w' => e = .returned (.bool (m.code == 0 || m.code == 200)) ∧ Below w.heap.size w w' := by
  have R := Lib.hid (Rw.new w (m.c (.slice A n c)) 27)
  have IT := Lib.hid (m.item (.slice A n c))
  have HB := Lib.hid (box_below w (.cells (m.c (.slice A n c)) 27))
  have HS := Lib.hid hs
  clear hs
  have e4 : (m.kind == 4) = false := by rw [hk]; rfl
  have e5 : (m.kind == 5) = false := by rw [hk]; rfl
  have e6 : (m.kind == 6) = false := by rw [hk]; rfl
  have e7 : (m.kind == 7) = false := by rw [hk]; rfl
  have e10 : (m.kind == 10) = false := by rw [hk]; rfl
  have e11 : (m.kind == 11) = true := by rw [hk]; rfl
  have e12 : (m.kind == 12) = false := by rw [hk]; rfl
  clear hk
  obtain ⟨b0, h0⟩ : ∃ b, (m.code == 0) = b := ⟨_, rfl⟩
  obtain ⟨b1, h1⟩ : ∃ b, (m.code == 200) = b := ⟨_, rfl⟩
  rw [h0, h1]
  go_enter Try.func35, Try.ntmps35
  cases b0
  · go_wp2_with fail
    go_ret
    exact ⟨by simp, HB.out⟩
  · go_wp2_with fail
    go_ret
    exact ⟨rfl, HB.out⟩
set_option maxRecDepth 100000 in
set_option maxHeartbeats 2000000 in
theorem has_12 (m : M) (A : Option Addr) (n c : Nat) (l : List Int) (w : World) (hs : Sl w (.slice A n c) (iv l)) (hk : m.kind = 12) : Calls Try.prog 35 #[.agg (m.c (.slice A n c))] w fun e w' => e = .returned (.bool (getB m)) ∧ Below w.heap.size w w' := by
  have R := Lib.hid (Rw.new w (m.c (.slice A n c)) 27)
  have IT := Lib.hid (m.item (.slice A n c))
  have HB := Lib.hid (box_below w (.cells (m.c (.slice A n c)) 27))
  have HS := Lib.hid hs
  clear hs
  have e4 : (m.kind == 4) = false := by rw [hk]; rfl
  have e5 : (m.kind == 5) = false := by rw [hk]; rfl
  have e6 : (m.kind == 6) = false := by rw [hk]; rfl
  have e7 : (m.kind == 7) = false := by rw [hk]; rfl
  have e10 : (m.kind == 10) = false := by rw [hk]; rfl
  have e11 : (m.kind == 11) = false := by rw [hk]; rfl
  have e12 : (m.kind == 12) = true := by rw [hk]; rfl
  clear hk
  unfold getB
  obtain ⟨b0, h0⟩ : ∃ b, (m.code == 0) = b := ⟨_, rfl⟩
  obtain ⟨b1, h1⟩ : ∃ b, (m.code == 201) = b := ⟨_, rfl⟩
  obtain ⟨b2, h2⟩ : ∃ b, itEq m.it noIt = b := ⟨_, rfl⟩
  obtain ⟨b3, h3⟩ : ∃ b, pairB m.it = b := ⟨_, rfl⟩
  have k1 := fun w => rPair_any m.it w
  have HE := fun w => run_eqI w m.it noIt
  rw [h3] at k1
  rw [h2] at HE
  rw [h0, h1, h2, h3]
  have HE := Lib.hid HE
  have R1 := R
  clear h2 h3
  go_enter Try.func35, Try.ntmps35
  cases b0
  · cases b1
    · go_wp2_with (first
    | (with_reducible show wpList _ _ _ (Oper.mk _ (Op.load 24 _) _ _ _ _ :: _) _ _
       refine wpList_loadPt R.out IT.out agg24 rfl _ rfl rfl ?_)
    | (with_reducible show wpList _ _ _ (Oper.mk _ (Op.binOp _ 24 _ _ _) _ _ _ _ :: _) _ _
       refine wpList_eqR rfl _ _ rfl rfl rfl eg24 (HE.out _) ?_))
      go_ret
      exact ⟨by simp, HB.out⟩
    · go_wp2_with (first
    | (with_reducible show wpList _ _ _ (Oper.mk _ (Op.load 24 _) _ _ _ _ :: _) _ _
       refine wpList_loadPt R.out IT.out agg24 rfl _ rfl rfl ?_)
    | (with_reducible show wpList _ _ _ (Oper.mk _ (Op.binOp _ 24 _ _ _) _ _ _ _ :: _) _ _
       refine wpList_eqR rfl _ _ rfl rfl rfl eg24 (HE.out _) ?_))
      go_ret
      exact ⟨by simp, HB.out⟩
  · go_wp2_with (first
    | (with_reducible show wpList _ _ _ (Oper.mk _ (Op.load 24 _) _ _ _ _ :: _) _ _
       refine wpList_loadPt R.out IT.out agg24 rfl _ rfl rfl ?_)
    | (with_reducible show wpList _ _ _ (Oper.mk _ (Op.binOp _ 24 _ _ _) _ _ _ _ :: _) _ _
       refine wpList_eqR rfl _ _ rfl rfl rfl eg24 (HE.out _) ?_))
    refine (k1 _).mono ?_; rintro e w1 ⟨rfl, hb⟩
    have R1 := Lib.hid (R.out.below hb)
    have c1 := R1.out.cell
    cases b3
    · cases b1
      · go_wp2_with (first
    | (with_reducible show wpList _ _ _ (Oper.mk _ (Op.load 24 _) _ _ _ _ :: _) _ _
       refine wpList_loadPt R1.out IT.out agg24 rfl _ rfl rfl ?_)
    | (with_reducible show wpList _ _ _ (Oper.mk _ (Op.binOp _ 24 _ _ _) _ _ _ _ :: _) _ _
       refine wpList_eqR rfl _ _ rfl rfl rfl eg24 (HE.out _) ?_))
        go_ret
        exact ⟨by simp, HB.out.trans (hb.mono HB.out.size)⟩
      · go_wp2_with (first
    | (with_reducible show wpList _ _ _ (Oper.mk _ (Op.load 24 _) _ _ _ _ :: _) _ _
       refine wpList_loadPt R1.out IT.out agg24 rfl _ rfl rfl ?_)
    | (with_reducible show wpList _ _ _ (Oper.mk _ (Op.binOp _ 24 _ _ _) _ _ _ _ :: _) _ _
       refine wpList_eqR rfl _ _ rfl rfl rfl eg24 (HE.out _) ?_))
        go_ret
        exact ⟨by simp, HB.out.trans (hb.mono HB.out.size)⟩
    · go_wp2_with (first
    | (with_reducible show wpList _ _ _ (Oper.mk _ (Op.load 24 _) _ _ _ _ :: _) _ _
       refine wpList_loadPt R1.out IT.out agg24 rfl _ rfl rfl ?_)
    | (with_reducible show wpList _ _ _ (Oper.mk _ (Op.binOp _ 24 _ _ _) _ _ _ _ :: _) _ _
       refine wpList_eqR rfl _ _ rfl rfl rfl eg24 (HE.out _) ?_))
      go_ret
      exact ⟨by simp, HB.out.trans (hb.mono HB.out.size)⟩
set_option maxRecDepth 100000 in
set_option maxHeartbeats 2000000 in
theorem has_x (m : M) (A : Option Addr) (n c : Nat) (l : List Int) (w : World) (hs : Sl w (.slice A n c) (iv l)) (hk : m.kind ≠ 4 ∧ m.kind ≠ 5 ∧ m.kind ≠ 6 ∧ m.kind ≠ 7 ∧ m.kind ≠ 10 ∧ m.kind ≠ 11 ∧ m.kind ≠ 12) : Calls Try.prog 35 #[.agg (m.c (.slice A n c))] w fun e w' => e = .returned (.bool (true)) ∧ Below w.heap.size w w' := by
  have R := Lib.hid (Rw.new w (m.c (.slice A n c)) 27)
  have IT := Lib.hid (m.item (.slice A n c))
  have HB := Lib.hid (box_below w (.cells (m.c (.slice A n c)) 27))
  have HS := Lib.hid hs
  clear hs
  have e4 : (m.kind == 4) = false := by simp [hk]
  have e5 : (m.kind == 5) = false := by simp [hk]
  have e6 : (m.kind == 6) = false := by simp [hk]
  have e7 : (m.kind == 7) = false := by simp [hk]
  have e10 : (m.kind == 10) = false := by simp [hk]
  have e11 : (m.kind == 11) = false := by simp [hk]
  have e12 : (m.kind == 12) = false := by simp [hk]
  clear hk
  go_enter Try.func35, Try.ntmps35
  go_wp2_with fail
  go_ret
  exact ⟨rfl, HB.out⟩
theorem has_any (m : M) (A : Option Addr) (n c : Nat) (l : List Int) (w : World) (hs : Sl w (.slice A n c) (iv l)) : Calls Try.prog 35 #[.agg (m.c (.slice A n c))] w fun e w' => e = .returned (.bool (hasB m l)) ∧ Below w.heap.size w w' := by
  by_cases h4 : m.kind = 4
  · have := has_4 m A n c l w hs h4; rw [hasB, if_pos h4]; exact this
  by_cases h5 : m.kind = 5
  · have := has_5 m A n c l w hs h5; rw [hasB, if_neg h4, if_pos h5]; exact this
  by_cases h6 : m.kind = 6
  · have := has_6 m A n c l w hs h6; rw [hasB, if_neg h4, if_neg h5, if_pos h6]; exact this
  by_cases h7 : m.kind = 7
  · have := has_7 m A n c l w hs h7; rw [hasB, if_neg h4, if_neg h5, if_neg h6, if_pos h7]; exact this
  by_cases h10 : m.kind = 10
  · have := has_10 m A n c l w hs h10; rw [hasB, if_neg h4, if_neg h5, if_neg h6, if_neg h7, if_pos h10]; exact this
  by_cases h11 : m.kind = 11
  · have := has_11 m A n c l w hs h11; rw [hasB, if_neg h4, if_neg h5, if_neg h6, if_neg h7, if_neg h10, if_pos h11]; exact this
  by_cases h12 : m.kind = 12
  · have := has_12 m A n c l w hs h12; rw [hasB, if_neg h4, if_neg h5, if_neg h6, if_neg h7, if_neg h10, if_neg h11, if_pos h12]; exact this
  have := has_x m A n c l w hs ⟨h4, h5, h6, h7, h10, h11, h12⟩
  rw [hasB, if_neg h4, if_neg h5, if_neg h6, if_neg h7, if_neg h10, if_neg h11, if_neg h12]; exact this
end Go.Proofs.Ytbklgodbjibemaa
