/- 'WaitPlan': a call that is asked at each tick is tried, and over, as planned: from any time on, the table of waits laid. -/
import Derived.Test.YtjkhancjfaegiaaDoorTWakes
set_option linter.unusedVariables false
set_option maxRecDepth 100000
set_option linter.unusedSimpArgs false
namespace Go.Proofs.YtjkhancjfaegiaaDoor
open Go.RowKit Go.Shelf Ms

/-- When it was tried last, how often, when it was over: ahead of a tick. -/
def sS (b : Int) (k : Nat) : Int := if k ≤ 1 then b else if k ≤ 3 then wrap64 (b + 1) else wrap64 (b + 3)
def sT (k : Nat) : Int := if k ≤ 1 then 1 else if k ≤ 3 then 2 else 3
def sO (k : Nat) : Int := if k ≤ 7 then 0 else 7
theorem apart (b x y : Int) (hb : Num b) (hx : 0 ≤ x ∧ x ≤ 100) (hy : 0 ≤ y ∧ y ≤ 100) : wrap64 (wrap64 (b + x) - wrap64 (b + y)) = x - y := by
  unfold Num at hb
  rw [wr_eq (b + x), wr_eq (b + y), wr_eq]
  omega
theorem sS_is (b : Int) (k : Nat) (hb : Num b) : sS b k = wrap64 (b + (if k ≤ 1 then 0 else if k ≤ 3 then 1 else 3)) := by
  unfold sS
  split
  · rw [Int.add_zero]; exact (IntWalk.wrap64_in _ hb).symm
  · split <;> rfl
theorem plan_pass (b : Int) (k : Nat) (hb : Num b) (h : k ≤ 12) : passB (sS b k) (sT k) (wrap64 (b + k)) = decide (wN (sT k) ≤ k - (if k ≤ 1 then 0 else if k ≤ 3 then 1 else 3)) := by
  unfold passB
  rw [sS_is b k hb, apart b k _ hb ⟨by omega, by omega⟩ (by (repeat' split) <;> omega)]
theorem plan_due (b : Int) (k : Nat) (hb : Num b) (h1 : 1 ≤ k) (h : k ≤ 12) : dueB (sS b k) (sT k) (wrap64 (b + k)) = (decide (k = 1) || decide (k = 3)) := by
  unfold dueB
  rw [plan_pass b k hb h]
  have : k = 1 ∨ k = 2 ∨ k = 3 ∨ 4 ≤ k := by omega
  rcases this with rfl | rfl | rfl | h4
  · decide
  · decide
  · decide
  · have : sT k = 3 := by unfold sT; rw [if_neg (by omega), if_neg (by omega)]
    rw [this, decide_eq_false (show ¬ (3 : Int) < 3 by omega), decide_eq_false (show ¬ k = 1 by omega), decide_eq_false (show ¬ k = 3 by omega)]
    simp
theorem plan_over (b : Int) (k : Nat) (hb : Num b) (h1 : 1 ≤ k) (h : k ≤ 12) : overB (sS b k) (sT k) (wrap64 (b + k)) = decide (7 ≤ k) := by
  unfold overB
  rw [plan_pass b k hb h]
  have : k ≤ 3 ∨ 4 ≤ k := by omega
  rcases this with h3 | h4
  · have : sT k < 3 := by unfold sT; (repeat' split) <;> omega
    rw [decide_eq_false (show ¬ (3 : Int) ≤ sT k by omega), decide_eq_false (show ¬ 7 ≤ k by omega)]
    rfl
  · have : sT k = 3 := by unfold sT; rw [if_neg (by omega), if_neg (by omega)]
    rw [this, if_neg (by omega), if_neg (by omega), show wN 3 = 4 by decide, decide_eq_true (show (3 : Int) ≤ 3 by omega), Bool.true_and]
    by_cases h7 : 7 ≤ k
    · rw [decide_eq_true h7, decide_eq_true (by omega)]
    · rw [decide_eq_false h7, decide_eq_false (by omega)]
set_option maxHeartbeats 8000000 in
theorem plan_walk (W : World) (hT : TabW W) (b : Int) (w0 : (Lit.int .i64 b).wf = true) :
    Calls Tryd.prog 4 #[.int .i64 b] W fun e w' => e = .returned (.bool true) ∧ Below W.heap.size W w' := by
  have hb0 := num_wf w0
  have hT0 := hT.size
  have HT := Lib.hid hT
  have WK := Lib.hid wakes_any
  have H := Below.refl W.heap.size W
  have a0 := fun w h => Plan_any b w hb0 h
  rw [planC_is b hb0] at a0
  have e7 : wrap64 (wrap64 (b + 7) - b) = 7 := by unfold Num at hb0; rw [wr_eq (b + 7), wr_eq]; omega
  have e23 : (wrap64 (b + 2) == wrap64 (b + 3)) = false := by
    unfold Num at hb0
    simp only [beq_eq_false_iff_ne, ne_eq]
    rw [wr_eq (b + 2), wr_eq (b + 3)]
    omega
  have A1 := Lib.hid (fun (k : Nat) (h1 : 1 ≤ k) (h : k ≤ 12) (w : World) hw => (show Calls Tryd.prog 10 #[.int .i64 (sS b k), .int .i64 (sT k), .int .i64 (wrap64 (b + k))] w (fun e w' => e = .returned (.bool (decide (k = 1) || decide (k = 3))) ∧ Below w.heap.size w w') by
    have := Due_any (sS b k) (sT k) (wrap64 (b + k)) w hw
    rw [plan_due b k hb0 h1 h] at this
    exact this))
  have A2 := Lib.hid (fun (k : Nat) (h1 : 1 ≤ k) (h : k ≤ 12) (w : World) hw => (show Calls Tryd.prog 12 #[.int .i64 (sS b k), .int .i64 (sT k), .int .i64 (wrap64 (b + k))] w (fun e w' => e = .returned (.bool (decide (7 ≤ k))) ∧ Below w.heap.size w w') by
    have := Over_any (sS b k) (sT k) (wrap64 (b + k)) w hw
    rw [plan_over b k hb0 h1 h] at this
    exact this))
  have HE := Lib.hid (And.intro e7 e23)
  clear hT w0 e7 e23
  go_enter Tryd.func4, Tryd.ntmps4
  go_wp2_with fail
  refine (a0 _ (HT.out.below hT0 H)).mono ?_; rintro e w1 ⟨rfl, hb⟩
  replace H := H.trans (hb.mono H.size)
  clear hb a0
  go_wp2
  go_loopw [4, 5, 6, 7] (fun s t o i wr => ∃ (k : Nat) (sv tv ov : Int), 1 ≤ k ∧ k ≤ 13 ∧ s = .int .i64 sv ∧ t = .int .i64 tv ∧ o = .int .i64 ov ∧ i = .int .i64 k ∧ sv = sS b k ∧ tv = sT k ∧ ov = sO k ∧ Rw wr w1.heap.size 24 #[.int .i64 b, .int .i64 (wrap64 (b + 1)), .int .i64 (wrap64 (b + 3)), .int .i64 (wrap64 (b + 7))] ∧ Below W.heap.size W wr) (fun _ _ _ i _ => 13 - (intOf i).toNat)
  case atStart =>
    exact ⟨1, b, 1, 0, by omega, by omega, rfl, rfl, rfl, rfl, rfl, rfl, rfl, Rw.new _ _ _, H.alloc H.size _⟩
  case round =>
    obtain ⟨k, sv, tv, ov, hk1, hk2, rfl, rfl, rfl, rfl, hs, ht, ho, hR, H2⟩ := hrel
    have : k = 1 ∨ k = 2 ∨ k = 3 ∨ k = 4 ∨ k = 5 ∨ k = 6 ∨ k = 7 ∨ k = 8 ∨ k = 9 ∨ k = 10 ∨ k = 11 ∨ k = 12 ∨ k = 13 := by omega
    clear hk1 hk2
    rcases this with rfl | rfl | rfl | rfl | rfl | rfl | rfl | rfl | rfl | rfl | rfl | rfl | rfl
    · obtain rfl : tv = 1 := ht
      obtain rfl : ov = 0 := ho
      have a1 : ∀ w, TabW w → Calls Tryd.prog 10 #[.int .i64 sv, .int .i64 1, .int .i64 (wrap64 (b + 1))] w (fun e w' => e = .returned (.bool true) ∧ Below w.heap.size w w') := by rw [hs]; exact A1.out 1 (by decide) (by decide)
      have a2 : ∀ w, TabW w → Calls Tryd.prog 12 #[.int .i64 sv, .int .i64 1, .int .i64 (wrap64 (b + 1))] w (fun e w' => e = .returned (.bool false) ∧ Below w.heap.size w w') := by rw [hs]; exact A2.out 1 (by decide) (by decide)
      have HS := Lib.hid hs
      clear hs
      go_wp2_with fail
      refine (a1 _ (HT.out.below hT0 H2)).mono ?_; rintro e w2 ⟨rfl, hb⟩
      replace H2 := H2.trans (hb.mono H2.size)
      have hR2 := hR.below hb
      clear hb hR
      go_wp2_with fail
      refine (a2 _ (HT.out.below hT0 H2)).mono ?_; rintro e w3 ⟨rfl, hb⟩
      replace H2 := H2.trans (hb.mono H2.size)
      have hR3 := hR2.below hb
      clear hb hR2
      have c0 := hR3.cell 0
      have c1 := hR3.cell 1
      have c2 := hR3.cell 2
      have c3 := hR3.cell 3
      simp only [List.getElem?_toArray, List.getElem?_cons_zero, List.getElem?_cons_succ] at c0 c1 c2 c3
      have hR := Lib.hid hR3
      have e7 := HE.out.1
      have e23 := HE.out.2
      clear hR3
      go_wp2
      go_roundw
      case rel => exact ⟨2, _, _, _, by omega, by omega, rfl, rfl, rfl, by go_num, rfl, rfl, rfl, hR.out, H2⟩
      case measure => simp [intOf]
    · obtain rfl : tv = 2 := ht
      obtain rfl : ov = 0 := ho
      have a1 : ∀ w, TabW w → Calls Tryd.prog 10 #[.int .i64 sv, .int .i64 2, .int .i64 (wrap64 (b + 2))] w (fun e w' => e = .returned (.bool false) ∧ Below w.heap.size w w') := by rw [hs]; exact A1.out 2 (by decide) (by decide)
      have a2 : ∀ w, TabW w → Calls Tryd.prog 12 #[.int .i64 sv, .int .i64 2, .int .i64 (wrap64 (b + 2))] w (fun e w' => e = .returned (.bool false) ∧ Below w.heap.size w w') := by rw [hs]; exact A2.out 2 (by decide) (by decide)
      have HS := Lib.hid hs
      clear hs
      go_wp2_with fail
      refine (a1 _ (HT.out.below hT0 H2)).mono ?_; rintro e w2 ⟨rfl, hb⟩
      replace H2 := H2.trans (hb.mono H2.size)
      have hR2 := hR.below hb
      clear hb hR
      go_wp2_with fail
      refine (a2 _ (HT.out.below hT0 H2)).mono ?_; rintro e w3 ⟨rfl, hb⟩
      replace H2 := H2.trans (hb.mono H2.size)
      have hR3 := hR2.below hb
      clear hb hR2
      have c0 := hR3.cell 0
      have c1 := hR3.cell 1
      have c2 := hR3.cell 2
      have c3 := hR3.cell 3
      simp only [List.getElem?_toArray, List.getElem?_cons_zero, List.getElem?_cons_succ] at c0 c1 c2 c3
      have hR := Lib.hid hR3
      have e7 := HE.out.1
      have e23 := HE.out.2
      clear hR3
      go_wp2
      go_roundw
      case rel => exact ⟨3, _, _, _, by omega, by omega, rfl, rfl, rfl, by go_num, HS.out, rfl, rfl, hR.out, H2⟩
      case measure => simp [intOf]
    · obtain rfl : tv = 2 := ht
      obtain rfl : ov = 0 := ho
      have a1 : ∀ w, TabW w → Calls Tryd.prog 10 #[.int .i64 sv, .int .i64 2, .int .i64 (wrap64 (b + 3))] w (fun e w' => e = .returned (.bool true) ∧ Below w.heap.size w w') := by rw [hs]; exact A1.out 3 (by decide) (by decide)
      have a2 : ∀ w, TabW w → Calls Tryd.prog 12 #[.int .i64 sv, .int .i64 2, .int .i64 (wrap64 (b + 3))] w (fun e w' => e = .returned (.bool false) ∧ Below w.heap.size w w') := by rw [hs]; exact A2.out 3 (by decide) (by decide)
      have HS := Lib.hid hs
      clear hs
      go_wp2_with fail
      refine (a1 _ (HT.out.below hT0 H2)).mono ?_; rintro e w2 ⟨rfl, hb⟩
      replace H2 := H2.trans (hb.mono H2.size)
      have hR2 := hR.below hb
      clear hb hR
      go_wp2_with fail
      refine (a2 _ (HT.out.below hT0 H2)).mono ?_; rintro e w3 ⟨rfl, hb⟩
      replace H2 := H2.trans (hb.mono H2.size)
      have hR3 := hR2.below hb
      clear hb hR2
      have c0 := hR3.cell 0
      have c1 := hR3.cell 1
      have c2 := hR3.cell 2
      have c3 := hR3.cell 3
      simp only [List.getElem?_toArray, List.getElem?_cons_zero, List.getElem?_cons_succ] at c0 c1 c2 c3
      have hR := Lib.hid hR3
      have e7 := HE.out.1
      have e23 := HE.out.2
      clear hR3
      go_wp2
      go_roundw
      case rel => exact ⟨4, _, _, _, by omega, by omega, rfl, rfl, rfl, by go_num, rfl, rfl, rfl, hR.out, H2⟩
      case measure => simp [intOf]
    · obtain rfl : tv = 3 := ht
      obtain rfl : ov = 0 := ho
      have a1 : ∀ w, TabW w → Calls Tryd.prog 10 #[.int .i64 sv, .int .i64 3, .int .i64 (wrap64 (b + 4))] w (fun e w' => e = .returned (.bool false) ∧ Below w.heap.size w w') := by rw [hs]; exact A1.out 4 (by decide) (by decide)
      have a2 : ∀ w, TabW w → Calls Tryd.prog 12 #[.int .i64 sv, .int .i64 3, .int .i64 (wrap64 (b + 4))] w (fun e w' => e = .returned (.bool false) ∧ Below w.heap.size w w') := by rw [hs]; exact A2.out 4 (by decide) (by decide)
      have HS := Lib.hid hs
      clear hs
      go_wp2_with fail
      refine (a1 _ (HT.out.below hT0 H2)).mono ?_; rintro e w2 ⟨rfl, hb⟩
      replace H2 := H2.trans (hb.mono H2.size)
      have hR2 := hR.below hb
      clear hb hR
      go_wp2_with fail
      refine (a2 _ (HT.out.below hT0 H2)).mono ?_; rintro e w3 ⟨rfl, hb⟩
      replace H2 := H2.trans (hb.mono H2.size)
      have hR3 := hR2.below hb
      clear hb hR2
      have c0 := hR3.cell 0
      have c1 := hR3.cell 1
      have c2 := hR3.cell 2
      have c3 := hR3.cell 3
      simp only [List.getElem?_toArray, List.getElem?_cons_zero, List.getElem?_cons_succ] at c0 c1 c2 c3
      have hR := Lib.hid hR3
      have e7 := HE.out.1
      have e23 := HE.out.2
      clear hR3
      go_wp2
      go_roundw
      case rel => exact ⟨5, _, _, _, by omega, by omega, rfl, rfl, rfl, by go_num, HS.out, rfl, rfl, hR.out, H2⟩
      case measure => simp [intOf]
    · obtain rfl : tv = 3 := ht
      obtain rfl : ov = 0 := ho
      have a1 : ∀ w, TabW w → Calls Tryd.prog 10 #[.int .i64 sv, .int .i64 3, .int .i64 (wrap64 (b + 5))] w (fun e w' => e = .returned (.bool false) ∧ Below w.heap.size w w') := by rw [hs]; exact A1.out 5 (by decide) (by decide)
      have a2 : ∀ w, TabW w → Calls Tryd.prog 12 #[.int .i64 sv, .int .i64 3, .int .i64 (wrap64 (b + 5))] w (fun e w' => e = .returned (.bool false) ∧ Below w.heap.size w w') := by rw [hs]; exact A2.out 5 (by decide) (by decide)
      have HS := Lib.hid hs
      clear hs
      go_wp2_with fail
      refine (a1 _ (HT.out.below hT0 H2)).mono ?_; rintro e w2 ⟨rfl, hb⟩
      replace H2 := H2.trans (hb.mono H2.size)
      have hR2 := hR.below hb
      clear hb hR
      go_wp2_with fail
      refine (a2 _ (HT.out.below hT0 H2)).mono ?_; rintro e w3 ⟨rfl, hb⟩
      replace H2 := H2.trans (hb.mono H2.size)
      have hR3 := hR2.below hb
      clear hb hR2
      have c0 := hR3.cell 0
      have c1 := hR3.cell 1
      have c2 := hR3.cell 2
      have c3 := hR3.cell 3
      simp only [List.getElem?_toArray, List.getElem?_cons_zero, List.getElem?_cons_succ] at c0 c1 c2 c3
      have hR := Lib.hid hR3
      have e7 := HE.out.1
      have e23 := HE.out.2
      clear hR3
      go_wp2
      go_roundw
      case rel => exact ⟨6, _, _, _, by omega, by omega, rfl, rfl, rfl, by go_num, HS.out, rfl, rfl, hR.out, H2⟩
      case measure => simp [intOf]
    · obtain rfl : tv = 3 := ht
      obtain rfl : ov = 0 := ho
      have a1 : ∀ w, TabW w → Calls Tryd.prog 10 #[.int .i64 sv, .int .i64 3, .int .i64 (wrap64 (b + 6))] w (fun e w' => e = .returned (.bool false) ∧ Below w.heap.size w w') := by rw [hs]; exact A1.out 6 (by decide) (by decide)
      have a2 : ∀ w, TabW w → Calls Tryd.prog 12 #[.int .i64 sv, .int .i64 3, .int .i64 (wrap64 (b + 6))] w (fun e w' => e = .returned (.bool false) ∧ Below w.heap.size w w') := by rw [hs]; exact A2.out 6 (by decide) (by decide)
      have HS := Lib.hid hs
      clear hs
      go_wp2_with fail
      refine (a1 _ (HT.out.below hT0 H2)).mono ?_; rintro e w2 ⟨rfl, hb⟩
      replace H2 := H2.trans (hb.mono H2.size)
      have hR2 := hR.below hb
      clear hb hR
      go_wp2_with fail
      refine (a2 _ (HT.out.below hT0 H2)).mono ?_; rintro e w3 ⟨rfl, hb⟩
      replace H2 := H2.trans (hb.mono H2.size)
      have hR3 := hR2.below hb
      clear hb hR2
      have c0 := hR3.cell 0
      have c1 := hR3.cell 1
      have c2 := hR3.cell 2
      have c3 := hR3.cell 3
      simp only [List.getElem?_toArray, List.getElem?_cons_zero, List.getElem?_cons_succ] at c0 c1 c2 c3
      have hR := Lib.hid hR3
      have e7 := HE.out.1
      have e23 := HE.out.2
      clear hR3
      go_wp2
      go_roundw
      case rel => exact ⟨7, _, _, _, by omega, by omega, rfl, rfl, rfl, by go_num, HS.out, rfl, rfl, hR.out, H2⟩
      case measure => simp [intOf]
    · obtain rfl : tv = 3 := ht
      obtain rfl : ov = 0 := ho
      have a1 : ∀ w, TabW w → Calls Tryd.prog 10 #[.int .i64 sv, .int .i64 3, .int .i64 (wrap64 (b + 7))] w (fun e w' => e = .returned (.bool false) ∧ Below w.heap.size w w') := by rw [hs]; exact A1.out 7 (by decide) (by decide)
      have a2 : ∀ w, TabW w → Calls Tryd.prog 12 #[.int .i64 sv, .int .i64 3, .int .i64 (wrap64 (b + 7))] w (fun e w' => e = .returned (.bool true) ∧ Below w.heap.size w w') := by rw [hs]; exact A2.out 7 (by decide) (by decide)
      have HS := Lib.hid hs
      clear hs
      go_wp2_with fail
      refine (a1 _ (HT.out.below hT0 H2)).mono ?_; rintro e w2 ⟨rfl, hb⟩
      replace H2 := H2.trans (hb.mono H2.size)
      have hR2 := hR.below hb
      clear hb hR
      go_wp2_with fail
      refine (a2 _ (HT.out.below hT0 H2)).mono ?_; rintro e w3 ⟨rfl, hb⟩
      replace H2 := H2.trans (hb.mono H2.size)
      have hR3 := hR2.below hb
      clear hb hR2
      have c0 := hR3.cell 0
      have c1 := hR3.cell 1
      have c2 := hR3.cell 2
      have c3 := hR3.cell 3
      simp only [List.getElem?_toArray, List.getElem?_cons_zero, List.getElem?_cons_succ] at c0 c1 c2 c3
      have hR := Lib.hid hR3
      have e7 := HE.out.1
      have e23 := HE.out.2
      clear hR3
      go_wp2
      go_roundw
      case rel => exact ⟨8, _, _, _, by omega, by omega, rfl, rfl, rfl, by go_num, HS.out, rfl, rfl, hR.out, H2⟩
      case measure => simp [intOf]
    · obtain rfl : tv = 3 := ht
      obtain rfl : ov = 7 := ho
      have a1 : ∀ w, TabW w → Calls Tryd.prog 10 #[.int .i64 sv, .int .i64 3, .int .i64 (wrap64 (b + 8))] w (fun e w' => e = .returned (.bool false) ∧ Below w.heap.size w w') := by rw [hs]; exact A1.out 8 (by decide) (by decide)
      have a2 : ∀ w, TabW w → Calls Tryd.prog 12 #[.int .i64 sv, .int .i64 3, .int .i64 (wrap64 (b + 8))] w (fun e w' => e = .returned (.bool true) ∧ Below w.heap.size w w') := by rw [hs]; exact A2.out 8 (by decide) (by decide)
      have HS := Lib.hid hs
      clear hs
      go_wp2_with fail
      refine (a1 _ (HT.out.below hT0 H2)).mono ?_; rintro e w2 ⟨rfl, hb⟩
      replace H2 := H2.trans (hb.mono H2.size)
      have hR2 := hR.below hb
      clear hb hR
      go_wp2_with fail
      refine (a2 _ (HT.out.below hT0 H2)).mono ?_; rintro e w3 ⟨rfl, hb⟩
      replace H2 := H2.trans (hb.mono H2.size)
      have hR3 := hR2.below hb
      clear hb hR2
      have c0 := hR3.cell 0
      have c1 := hR3.cell 1
      have c2 := hR3.cell 2
      have c3 := hR3.cell 3
      simp only [List.getElem?_toArray, List.getElem?_cons_zero, List.getElem?_cons_succ] at c0 c1 c2 c3
      have hR := Lib.hid hR3
      have e7 := HE.out.1
      have e23 := HE.out.2
      clear hR3
      go_wp2
      go_roundw
      case rel => exact ⟨9, _, _, _, by omega, by omega, rfl, rfl, rfl, by go_num, HS.out, rfl, rfl, hR.out, H2⟩
      case measure => simp [intOf]
    · obtain rfl : tv = 3 := ht
      obtain rfl : ov = 7 := ho
      have a1 : ∀ w, TabW w → Calls Tryd.prog 10 #[.int .i64 sv, .int .i64 3, .int .i64 (wrap64 (b + 9))] w (fun e w' => e = .returned (.bool false) ∧ Below w.heap.size w w') := by rw [hs]; exact A1.out 9 (by decide) (by decide)
      have a2 : ∀ w, TabW w → Calls Tryd.prog 12 #[.int .i64 sv, .int .i64 3, .int .i64 (wrap64 (b + 9))] w (fun e w' => e = .returned (.bool true) ∧ Below w.heap.size w w') := by rw [hs]; exact A2.out 9 (by decide) (by decide)
      have HS := Lib.hid hs
      clear hs
      go_wp2_with fail
      refine (a1 _ (HT.out.below hT0 H2)).mono ?_; rintro e w2 ⟨rfl, hb⟩
      replace H2 := H2.trans (hb.mono H2.size)
      have hR2 := hR.below hb
      clear hb hR
      go_wp2_with fail
      refine (a2 _ (HT.out.below hT0 H2)).mono ?_; rintro e w3 ⟨rfl, hb⟩
      replace H2 := H2.trans (hb.mono H2.size)
      have hR3 := hR2.below hb
      clear hb hR2
      have c0 := hR3.cell 0
      have c1 := hR3.cell 1
      have c2 := hR3.cell 2
      have c3 := hR3.cell 3
      simp only [List.getElem?_toArray, List.getElem?_cons_zero, List.getElem?_cons_succ] at c0 c1 c2 c3
      have hR := Lib.hid hR3
      have e7 := HE.out.1
      have e23 := HE.out.2
      clear hR3
      go_wp2
      go_roundw
      case rel => exact ⟨10, _, _, _, by omega, by omega, rfl, rfl, rfl, by go_num, HS.out, rfl, rfl, hR.out, H2⟩
      case measure => simp [intOf]
    · obtain rfl : tv = 3 := ht
      obtain rfl : ov = 7 := ho
      have a1 : ∀ w, TabW w → Calls Tryd.prog 10 #[.int .i64 sv, .int .i64 3, .int .i64 (wrap64 (b + 10))] w (fun e w' => e = .returned (.bool false) ∧ Below w.heap.size w w') := by rw [hs]; exact A1.out 10 (by decide) (by decide)
      have a2 : ∀ w, TabW w → Calls Tryd.prog 12 #[.int .i64 sv, .int .i64 3, .int .i64 (wrap64 (b + 10))] w (fun e w' => e = .returned (.bool true) ∧ Below w.heap.size w w') := by rw [hs]; exact A2.out 10 (by decide) (by decide)
      have HS := Lib.hid hs
      clear hs
      go_wp2_with fail
      refine (a1 _ (HT.out.below hT0 H2)).mono ?_; rintro e w2 ⟨rfl, hb⟩
      replace H2 := H2.trans (hb.mono H2.size)
      have hR2 := hR.below hb
      clear hb hR
      go_wp2_with fail
      refine (a2 _ (HT.out.below hT0 H2)).mono ?_; rintro e w3 ⟨rfl, hb⟩
      replace H2 := H2.trans (hb.mono H2.size)
      have hR3 := hR2.below hb
      clear hb hR2
      have c0 := hR3.cell 0
      have c1 := hR3.cell 1
      have c2 := hR3.cell 2
      have c3 := hR3.cell 3
      simp only [List.getElem?_toArray, List.getElem?_cons_zero, List.getElem?_cons_succ] at c0 c1 c2 c3
      have hR := Lib.hid hR3
      have e7 := HE.out.1
      have e23 := HE.out.2
      clear hR3
      go_wp2
      go_roundw
      case rel => exact ⟨11, _, _, _, by omega, by omega, rfl, rfl, rfl, by go_num, HS.out, rfl, rfl, hR.out, H2⟩
      case measure => simp [intOf]
    · obtain rfl : tv = 3 := ht
      obtain rfl : ov = 7 := ho
      have a1 : ∀ w, TabW w → Calls Tryd.prog 10 #[.int .i64 sv, .int .i64 3, .int .i64 (wrap64 (b + 11))] w (fun e w' => e = .returned (.bool false) ∧ Below w.heap.size w w') := by rw [hs]; exact A1.out 11 (by decide) (by decide)
      have a2 : ∀ w, TabW w → Calls Tryd.prog 12 #[.int .i64 sv, .int .i64 3, .int .i64 (wrap64 (b + 11))] w (fun e w' => e = .returned (.bool true) ∧ Below w.heap.size w w') := by rw [hs]; exact A2.out 11 (by decide) (by decide)
      have HS := Lib.hid hs
      clear hs
      go_wp2_with fail
      refine (a1 _ (HT.out.below hT0 H2)).mono ?_; rintro e w2 ⟨rfl, hb⟩
      replace H2 := H2.trans (hb.mono H2.size)
      have hR2 := hR.below hb
      clear hb hR
      go_wp2_with fail
      refine (a2 _ (HT.out.below hT0 H2)).mono ?_; rintro e w3 ⟨rfl, hb⟩
      replace H2 := H2.trans (hb.mono H2.size)
      have hR3 := hR2.below hb
      clear hb hR2
      have c0 := hR3.cell 0
      have c1 := hR3.cell 1
      have c2 := hR3.cell 2
      have c3 := hR3.cell 3
      simp only [List.getElem?_toArray, List.getElem?_cons_zero, List.getElem?_cons_succ] at c0 c1 c2 c3
      have hR := Lib.hid hR3
      have e7 := HE.out.1
      have e23 := HE.out.2
      clear hR3
      go_wp2
      go_roundw
      case rel => exact ⟨12, _, _, _, by omega, by omega, rfl, rfl, rfl, by go_num, HS.out, rfl, rfl, hR.out, H2⟩
      case measure => simp [intOf]
    · obtain rfl : tv = 3 := ht
      obtain rfl : ov = 7 := ho
      have a1 : ∀ w, TabW w → Calls Tryd.prog 10 #[.int .i64 sv, .int .i64 3, .int .i64 (wrap64 (b + 12))] w (fun e w' => e = .returned (.bool false) ∧ Below w.heap.size w w') := by rw [hs]; exact A1.out 12 (by decide) (by decide)
      have a2 : ∀ w, TabW w → Calls Tryd.prog 12 #[.int .i64 sv, .int .i64 3, .int .i64 (wrap64 (b + 12))] w (fun e w' => e = .returned (.bool true) ∧ Below w.heap.size w w') := by rw [hs]; exact A2.out 12 (by decide) (by decide)
      have HS := Lib.hid hs
      clear hs
      go_wp2_with fail
      refine (a1 _ (HT.out.below hT0 H2)).mono ?_; rintro e w2 ⟨rfl, hb⟩
      replace H2 := H2.trans (hb.mono H2.size)
      have hR2 := hR.below hb
      clear hb hR
      go_wp2_with fail
      refine (a2 _ (HT.out.below hT0 H2)).mono ?_; rintro e w3 ⟨rfl, hb⟩
      replace H2 := H2.trans (hb.mono H2.size)
      have hR3 := hR2.below hb
      clear hb hR2
      have c0 := hR3.cell 0
      have c1 := hR3.cell 1
      have c2 := hR3.cell 2
      have c3 := hR3.cell 3
      simp only [List.getElem?_toArray, List.getElem?_cons_zero, List.getElem?_cons_succ] at c0 c1 c2 c3
      have hR := Lib.hid hR3
      have e7 := HE.out.1
      have e23 := HE.out.2
      clear hR3
      go_wp2
      go_roundw
      case rel => exact ⟨13, _, _, _, by omega, by omega, rfl, rfl, rfl, by go_num, HS.out, rfl, rfl, hR.out, H2⟩
      case measure => simp [intOf]
    · obtain rfl : tv = 3 := ht
      obtain rfl : ov = 7 := ho
      have c0 := hR.cell 0
      have c3 := hR.cell 3
      simp only [List.getElem?_toArray, List.getElem?_cons_zero, List.getElem?_cons_succ] at c0 c3
      have e7 := HE.out.1
      clear hR hs
      go_wp2_with fail
      refine (WK.out _ (HT.out.below hT0 H2)).mono ?_; rintro e w2 ⟨rfl, hb⟩
      replace H2 := H2.trans (hb.mono H2.size)
      clear hb
      go_wp2
      go_ret
      exact ⟨rfl, H2⟩
end Go.Proofs.YtjkhancjfaegiaaDoor
