/- 'WaitMoved': all times may be moved by as much; what was due, or over, stays so as time goes on: for any numbers, the table of waits laid. -/
import Derived.Test.YtjkhancjfaegiaaDoorTWakes
import Derived.Test.YtjkhancjfaegiaaDoorMinMax
set_option linter.unusedVariables false
set_option maxRecDepth 100000
set_option linter.unusedSimpArgs false
namespace Go.Proofs.YtjkhancjfaegiaaDoor
open Go.RowKit Go.Shelf Ms

theorem atI_moved (b y : Int) (j : Nat) (hb : Num b) (hy : Num y) (hby : Num (b + y)) (hj : j ≤ 4) : wrap64 (atI (b + y) j - atI b j) = y := by
  have := cS_bd j hj
  unfold Num at *
  unfold atI
  rw [wr_eq (b + y + cS j), wr_eq (b + cS j), wr_eq]
  omega
theorem pass_moved (s t n y : Int) : passB (s + y) t (n + y) = passB s t n := by unfold passB; rw [show n + y - (s + y) = n - s by omega]
theorem due_moved (s t n y : Int) : dueB (s + y) t (n + y) = dueB s t n := by unfold dueB; rw [pass_moved]
theorem over_moved (s t n y : Int) : overB (s + y) t (n + y) = overB s t n := by unfold overB; rw [pass_moved]
theorem left_moved (s t n y : Int) : leftI (s + y) t (n + y) = leftI s t n := by unfold leftI; rw [show n + y - (s + y) = n - s by omega]
theorem pass_later {s t n z : Int} (hs : -1099511627776 ≤ s ∧ s ≤ 1099511627776) (hn : -1099511627776 ≤ n ∧ n ≤ 1099511627776) (hz : 0 ≤ z ∧ z ≤ 1099511627776) (h : passB s t n = true) : passB s t (n + z) = true := by
  unfold passB at *
  rw [decide_eq_true_eq] at *
  rw [IntWalk.wrap64_in _ (by omega)] at *
  omega
theorem due_later {s t n z : Int} (hs : -1099511627776 ≤ s ∧ s ≤ 1099511627776) (hn : -1099511627776 ≤ n ∧ n ≤ 1099511627776) (hz : 0 ≤ z ∧ z ≤ 1099511627776) (h : dueB s t n = true) : dueB s t (n + z) = true := by
  unfold dueB at *
  rw [Bool.and_eq_true] at *
  exact ⟨h.1, pass_later hs hn hz h.2⟩
theorem over_later {s t n z : Int} (hs : -1099511627776 ≤ s ∧ s ≤ 1099511627776) (hn : -1099511627776 ≤ n ∧ n ≤ 1099511627776) (hz : 0 ≤ z ∧ z ≤ 1099511627776) (h : overB s t n = true) : overB s t (n + z) = true := by
  unfold overB at *
  rw [Bool.and_eq_true] at *
  exact ⟨h.1, pass_later hs hn hz h.2⟩

set_option maxHeartbeats 8000000 in
theorem moved_walk (W : World) (hT : TabW W) (s : Int) (w0 : (Lit.int .i64 s).wf = true) (t : Int) (w1 : (Lit.int .i64 t).wf = true) (n : Int) (w2 : (Lit.int .i64 n).wf = true) (y : Int) (w3 : (Lit.int .i64 y).wf = true) (z : Int) (w4 : (Lit.int .i64 z).wf = true) :
    Calls Tryd.prog 6 #[.int .i64 s, .int .i64 t, .int .i64 n, .int .i64 y, .int .i64 z] W fun e w' => e = .returned (.bool true) ∧ Below W.heap.size W w' := by
  have hs := num_wf w0
  have ht := num_wf w1
  have hn := num_wf w2
  have hy := num_wf w3
  have hz := num_wf w4
  unfold Num at hs ht hn hy hz
  have hT0 := hT.size
  have HT := Lib.hid hT
  have WK := Lib.hid wakes_any
  have H := Below.refl W.heap.size W
  clear hT w0 w1 w2 w3 w4
  by_cases c1 : min (min s n) y < -1099511627776
  · go_enter Tryd.func6, Tryd.ntmps6
    go_wp2_with fail
    refine (WK.out _ (HT.out.below hT0 H)).mono ?_; rintro e w1 ⟨rfl, hb⟩
    replace H := H.trans (hb.mono H.size)
    clear hb
    go_wp2
    go_ret
    exact ⟨rfl, H⟩
  by_cases c2 : 1099511627776 < max (max (max s n) y) z
  · go_enter Tryd.func6, Tryd.ntmps6
    go_wp2_with fail
    refine (WK.out _ (HT.out.below hT0 H)).mono ?_; rintro e w1 ⟨rfl, hb⟩
    replace H := H.trans (hb.mono H.size)
    clear hb
    go_wp2
    go_ret
    exact ⟨rfl, H⟩
  by_cases c3 : z < 0
  · go_enter Tryd.func6, Tryd.ntmps6
    go_wp2_with fail
    refine (WK.out _ (HT.out.below hT0 H)).mono ?_; rintro e w1 ⟨rfl, hb⟩
    replace H := H.trans (hb.mono H.size)
    clear hb
    go_wp2
    go_ret
    exact ⟨rfl, H⟩
  have b1 : -1099511627776 ≤ s ∧ s ≤ 1099511627776 := by omega
  have b2 : -1099511627776 ≤ n ∧ n ≤ 1099511627776 := by omega
  have b3 : -1099511627776 ≤ y ∧ y ≤ 1099511627776 := by omega
  have b4 : 0 ≤ z ∧ z ≤ 1099511627776 := by omega
  have a1 := fun w h => Due_any s t n w h
  have a2 := fun w h => Due_any (s + y) t (n + y) w h
  have a3 := fun w h => Over_any s t n w h
  have a4 := fun w h => Over_any (s + y) t (n + y) w h
  have a5 := fun w h => Left_any s t n w h
  have a6 := fun w h => Left_any (s + y) t (n + y) w h
  have a7 := fun w h => Due_any s t (n + z) w h
  have a8 := fun w h => Over_any s t (n + z) w h
  have a9 := fun w h => Plan_any s w ⟨by omega, by omega⟩ h
  have a10 := fun w h => Plan_any (s + y) w ⟨by omega, by omega⟩ h
  have hm := fun j hj => atI_moved s y j ⟨by omega, by omega⟩ ⟨by omega, by omega⟩ ⟨by omega, by omega⟩ hj
  have h1 := @due_later s t n z b1 b2 b4
  have h2 := @over_later s t n z b1 b2 b4
  rw [due_moved] at a2
  rw [over_moved] at a4
  rw [left_moved] at a6
  generalize dueB s t n = d at *
  generalize overB s t n = o at *
  generalize leftI s t n = l at *
  generalize dueB s t (n + z) = d' at *
  generalize overB s t (n + z) = o' at *
  have e1 := hm 1 (by omega)
  have e2 := hm 2 (by omega)
  have e3 := hm 3 (by omega)
  have e4 := hm 4 (by omega)
  unfold planC at a9 a10
  clear hm
  generalize atI s 1 = p1 at *
  generalize atI s 2 = p2 at *
  generalize atI s 3 = p3 at *
  generalize atI s 4 = p4 at *
  generalize atI (s + y) 1 = q1 at *
  generalize atI (s + y) 2 = q2 at *
  generalize atI (s + y) 3 = q3 at *
  generalize atI (s + y) 4 = q4 at *
  have HM := Lib.hid (And.intro e1 (And.intro e2 (And.intro e3 e4)))
  clear e1 e2 e3 e4
  cases d
  · cases o
    · go_enter Tryd.func6, Tryd.ntmps6
      go_wp2_with fail
      refine (a1 _ (HT.out.below hT0 H)).mono ?_; rintro e w1 ⟨rfl, hb⟩
      replace H := H.trans (hb.mono H.size)
      clear hb
      go_wp2_with fail
      refine (a2 _ (HT.out.below hT0 H)).mono ?_; rintro e w2 ⟨rfl, hb⟩
      replace H := H.trans (hb.mono H.size)
      clear hb
      go_wp2_with fail
      refine (a3 _ (HT.out.below hT0 H)).mono ?_; rintro e w3 ⟨rfl, hb⟩
      replace H := H.trans (hb.mono H.size)
      clear hb
      go_wp2_with fail
      refine (a4 _ (HT.out.below hT0 H)).mono ?_; rintro e w4 ⟨rfl, hb⟩
      replace H := H.trans (hb.mono H.size)
      clear hb
      go_wp2_with fail
      refine (a5 _ (HT.out.below hT0 H)).mono ?_; rintro e w' ⟨rfl, rfl⟩
      go_wp2_with fail
      refine (a6 _ (HT.out.below hT0 H)).mono ?_; rintro e w' ⟨rfl, rfl⟩
      go_wp2_with fail
      refine (a1 _ (HT.out.below hT0 H)).mono ?_; rintro e w5 ⟨rfl, hb⟩
      replace H := H.trans (hb.mono H.size)
      clear hb
      go_wp2_with fail
      refine (a3 _ (HT.out.below hT0 H)).mono ?_; rintro e w6 ⟨rfl, hb⟩
      replace H := H.trans (hb.mono H.size)
      clear hb
      go_wp2_with fail
      refine (a9 _ (HT.out.below hT0 H)).mono ?_; rintro e w8 ⟨rfl, hb⟩
      replace H := H.trans (hb.mono H.size)
      clear hb
      go_wp2_with fail
      refine (a10 _ (HT.out.below hT0 H)).mono ?_; rintro e w9 ⟨rfl, hb⟩
      replace H := H.trans (hb.mono H.size)
      clear hb
      go_wp2
      go_loopw [13] (fun i wr => ∃ k : Nat, k ≤ 4 ∧ i = .int .i64 k ∧ Rw wr w9.heap.size 24 #[.int .i64 p1, .int .i64 p2, .int .i64 p3, .int .i64 p4] ∧ Rw wr (w9.heap.size + 1) 24 #[.int .i64 q1, .int .i64 q2, .int .i64 q3, .int .i64 q4] ∧ Below W.heap.size W wr) (fun i _ => 4 - (intOf i).toNat)
      case atStart =>
        obtain ⟨r1, r2, B0⟩ := two_boxes w9 #[.int .i64 p1, .int .i64 p2, .int .i64 p3, .int .i64 p4] #[.int .i64 q1, .int .i64 q2, .int .i64 q3, .int .i64 q4] 24 24
        exact ⟨0, by omega, rfl, r1, r2, H.trans (B0.mono H.size)⟩
      case round =>
        obtain ⟨k, hk, rfl, r1, r2, H2⟩ := hrel
        have HR := Lib.hid (And.intro r1 (And.intro r2 H2))
        by_cases hlt : k < 4
        · have : k = 0 ∨ k = 1 ∨ k = 2 ∨ k = 3 := by omega
          clear hk hlt H2
          rcases this with rfl | rfl | rfl | rfl
          · have c1 := r1.cell 0
            have c2 := r2.cell 0
            have hE := HM.out.1
            simp only [List.getElem?_toArray, List.getElem?_cons_zero, List.getElem?_cons_succ] at c1 c2
            clear r1 r2
            go_wp2
            go_quiet (fail)
            go_wp2
            go_roundw
            case rel => exact ⟨1, by omega, by go_num, HR.out.1, HR.out.2.1, HR.out.2.2.trans ⟨rfl, rfl, rfl, Nat.le_refl _, fun _ _ => rfl⟩⟩
            case measure => simp [intOf]
          · have c1 := r1.cell 1
            have c2 := r2.cell 1
            have hE := HM.out.2.1
            simp only [List.getElem?_toArray, List.getElem?_cons_zero, List.getElem?_cons_succ] at c1 c2
            clear r1 r2
            go_wp2
            go_quiet (fail)
            go_wp2
            go_roundw
            case rel => exact ⟨2, by omega, by go_num, HR.out.1, HR.out.2.1, HR.out.2.2.trans ⟨rfl, rfl, rfl, Nat.le_refl _, fun _ _ => rfl⟩⟩
            case measure => simp [intOf]
          · have c1 := r1.cell 2
            have c2 := r2.cell 2
            have hE := HM.out.2.2.1
            simp only [List.getElem?_toArray, List.getElem?_cons_zero, List.getElem?_cons_succ] at c1 c2
            clear r1 r2
            go_wp2
            go_quiet (fail)
            go_wp2
            go_roundw
            case rel => exact ⟨3, by omega, by go_num, HR.out.1, HR.out.2.1, HR.out.2.2.trans ⟨rfl, rfl, rfl, Nat.le_refl _, fun _ _ => rfl⟩⟩
            case measure => simp [intOf]
          · have c1 := r1.cell 3
            have c2 := r2.cell 3
            have hE := HM.out.2.2.2
            simp only [List.getElem?_toArray, List.getElem?_cons_zero, List.getElem?_cons_succ] at c1 c2
            clear r1 r2
            go_wp2
            go_quiet (fail)
            go_wp2
            go_roundw
            case rel => exact ⟨4, by omega, by go_num, HR.out.1, HR.out.2.1, HR.out.2.2.trans ⟨rfl, rfl, rfl, Nat.le_refl _, fun _ _ => rfl⟩⟩
            case measure => simp [intOf]
        · obtain rfl : k = 4 := by omega
          clear r1 r2
          go_wp2_with fail
          refine (WK.out _ (HT.out.below hT0 H2)).mono ?_; rintro e w10 ⟨rfl, hb⟩
          replace H2 := H2.trans (hb.mono H2.size)
          clear hb
          go_wp2
          go_ret
          exact ⟨rfl, H2⟩
    · obtain rfl := h2 rfl
      go_enter Tryd.func6, Tryd.ntmps6
      go_wp2_with fail
      refine (a1 _ (HT.out.below hT0 H)).mono ?_; rintro e w1 ⟨rfl, hb⟩
      replace H := H.trans (hb.mono H.size)
      clear hb
      go_wp2_with fail
      refine (a2 _ (HT.out.below hT0 H)).mono ?_; rintro e w2 ⟨rfl, hb⟩
      replace H := H.trans (hb.mono H.size)
      clear hb
      go_wp2_with fail
      refine (a3 _ (HT.out.below hT0 H)).mono ?_; rintro e w3 ⟨rfl, hb⟩
      replace H := H.trans (hb.mono H.size)
      clear hb
      go_wp2_with fail
      refine (a4 _ (HT.out.below hT0 H)).mono ?_; rintro e w4 ⟨rfl, hb⟩
      replace H := H.trans (hb.mono H.size)
      clear hb
      go_wp2_with fail
      refine (a5 _ (HT.out.below hT0 H)).mono ?_; rintro e w' ⟨rfl, rfl⟩
      go_wp2_with fail
      refine (a6 _ (HT.out.below hT0 H)).mono ?_; rintro e w' ⟨rfl, rfl⟩
      go_wp2_with fail
      refine (a1 _ (HT.out.below hT0 H)).mono ?_; rintro e w5 ⟨rfl, hb⟩
      replace H := H.trans (hb.mono H.size)
      clear hb
      go_wp2_with fail
      refine (a3 _ (HT.out.below hT0 H)).mono ?_; rintro e w6 ⟨rfl, hb⟩
      replace H := H.trans (hb.mono H.size)
      clear hb
      go_wp2_with fail
      refine (a8 _ (HT.out.below hT0 H)).mono ?_; rintro e w6 ⟨rfl, hb⟩
      replace H := H.trans (hb.mono H.size)
      clear hb
      go_wp2_with fail
      refine (a9 _ (HT.out.below hT0 H)).mono ?_; rintro e w8 ⟨rfl, hb⟩
      replace H := H.trans (hb.mono H.size)
      clear hb
      go_wp2_with fail
      refine (a10 _ (HT.out.below hT0 H)).mono ?_; rintro e w9 ⟨rfl, hb⟩
      replace H := H.trans (hb.mono H.size)
      clear hb
      go_wp2
      go_loopw [13] (fun i wr => ∃ k : Nat, k ≤ 4 ∧ i = .int .i64 k ∧ Rw wr w9.heap.size 24 #[.int .i64 p1, .int .i64 p2, .int .i64 p3, .int .i64 p4] ∧ Rw wr (w9.heap.size + 1) 24 #[.int .i64 q1, .int .i64 q2, .int .i64 q3, .int .i64 q4] ∧ Below W.heap.size W wr) (fun i _ => 4 - (intOf i).toNat)
      case atStart =>
        obtain ⟨r1, r2, B0⟩ := two_boxes w9 #[.int .i64 p1, .int .i64 p2, .int .i64 p3, .int .i64 p4] #[.int .i64 q1, .int .i64 q2, .int .i64 q3, .int .i64 q4] 24 24
        exact ⟨0, by omega, rfl, r1, r2, H.trans (B0.mono H.size)⟩
      case round =>
        obtain ⟨k, hk, rfl, r1, r2, H2⟩ := hrel
        have HR := Lib.hid (And.intro r1 (And.intro r2 H2))
        by_cases hlt : k < 4
        · have : k = 0 ∨ k = 1 ∨ k = 2 ∨ k = 3 := by omega
          clear hk hlt H2
          rcases this with rfl | rfl | rfl | rfl
          · have c1 := r1.cell 0
            have c2 := r2.cell 0
            have hE := HM.out.1
            simp only [List.getElem?_toArray, List.getElem?_cons_zero, List.getElem?_cons_succ] at c1 c2
            clear r1 r2
            go_wp2
            go_quiet (fail)
            go_wp2
            go_roundw
            case rel => exact ⟨1, by omega, by go_num, HR.out.1, HR.out.2.1, HR.out.2.2.trans ⟨rfl, rfl, rfl, Nat.le_refl _, fun _ _ => rfl⟩⟩
            case measure => simp [intOf]
          · have c1 := r1.cell 1
            have c2 := r2.cell 1
            have hE := HM.out.2.1
            simp only [List.getElem?_toArray, List.getElem?_cons_zero, List.getElem?_cons_succ] at c1 c2
            clear r1 r2
            go_wp2
            go_quiet (fail)
            go_wp2
            go_roundw
            case rel => exact ⟨2, by omega, by go_num, HR.out.1, HR.out.2.1, HR.out.2.2.trans ⟨rfl, rfl, rfl, Nat.le_refl _, fun _ _ => rfl⟩⟩
            case measure => simp [intOf]
          · have c1 := r1.cell 2
            have c2 := r2.cell 2
            have hE := HM.out.2.2.1
            simp only [List.getElem?_toArray, List.getElem?_cons_zero, List.getElem?_cons_succ] at c1 c2
            clear r1 r2
            go_wp2
            go_quiet (fail)
            go_wp2
            go_roundw
            case rel => exact ⟨3, by omega, by go_num, HR.out.1, HR.out.2.1, HR.out.2.2.trans ⟨rfl, rfl, rfl, Nat.le_refl _, fun _ _ => rfl⟩⟩
            case measure => simp [intOf]
          · have c1 := r1.cell 3
            have c2 := r2.cell 3
            have hE := HM.out.2.2.2
            simp only [List.getElem?_toArray, List.getElem?_cons_zero, List.getElem?_cons_succ] at c1 c2
            clear r1 r2
            go_wp2
            go_quiet (fail)
            go_wp2
            go_roundw
            case rel => exact ⟨4, by omega, by go_num, HR.out.1, HR.out.2.1, HR.out.2.2.trans ⟨rfl, rfl, rfl, Nat.le_refl _, fun _ _ => rfl⟩⟩
            case measure => simp [intOf]
        · obtain rfl : k = 4 := by omega
          clear r1 r2
          go_wp2_with fail
          refine (WK.out _ (HT.out.below hT0 H2)).mono ?_; rintro e w10 ⟨rfl, hb⟩
          replace H2 := H2.trans (hb.mono H2.size)
          clear hb
          go_wp2
          go_ret
          exact ⟨rfl, H2⟩
  · obtain rfl := h1 rfl
    cases o
    · go_enter Tryd.func6, Tryd.ntmps6
      go_wp2_with fail
      refine (a1 _ (HT.out.below hT0 H)).mono ?_; rintro e w1 ⟨rfl, hb⟩
      replace H := H.trans (hb.mono H.size)
      clear hb
      go_wp2_with fail
      refine (a2 _ (HT.out.below hT0 H)).mono ?_; rintro e w2 ⟨rfl, hb⟩
      replace H := H.trans (hb.mono H.size)
      clear hb
      go_wp2_with fail
      refine (a3 _ (HT.out.below hT0 H)).mono ?_; rintro e w3 ⟨rfl, hb⟩
      replace H := H.trans (hb.mono H.size)
      clear hb
      go_wp2_with fail
      refine (a4 _ (HT.out.below hT0 H)).mono ?_; rintro e w4 ⟨rfl, hb⟩
      replace H := H.trans (hb.mono H.size)
      clear hb
      go_wp2_with fail
      refine (a5 _ (HT.out.below hT0 H)).mono ?_; rintro e w' ⟨rfl, rfl⟩
      go_wp2_with fail
      refine (a6 _ (HT.out.below hT0 H)).mono ?_; rintro e w' ⟨rfl, rfl⟩
      go_wp2_with fail
      refine (a1 _ (HT.out.below hT0 H)).mono ?_; rintro e w5 ⟨rfl, hb⟩
      replace H := H.trans (hb.mono H.size)
      clear hb
      go_wp2_with fail
      refine (a7 _ (HT.out.below hT0 H)).mono ?_; rintro e w5 ⟨rfl, hb⟩
      replace H := H.trans (hb.mono H.size)
      clear hb
      go_wp2_with fail
      refine (a3 _ (HT.out.below hT0 H)).mono ?_; rintro e w6 ⟨rfl, hb⟩
      replace H := H.trans (hb.mono H.size)
      clear hb
      go_wp2_with fail
      refine (a9 _ (HT.out.below hT0 H)).mono ?_; rintro e w8 ⟨rfl, hb⟩
      replace H := H.trans (hb.mono H.size)
      clear hb
      go_wp2_with fail
      refine (a10 _ (HT.out.below hT0 H)).mono ?_; rintro e w9 ⟨rfl, hb⟩
      replace H := H.trans (hb.mono H.size)
      clear hb
      go_wp2
      go_loopw [13] (fun i wr => ∃ k : Nat, k ≤ 4 ∧ i = .int .i64 k ∧ Rw wr w9.heap.size 24 #[.int .i64 p1, .int .i64 p2, .int .i64 p3, .int .i64 p4] ∧ Rw wr (w9.heap.size + 1) 24 #[.int .i64 q1, .int .i64 q2, .int .i64 q3, .int .i64 q4] ∧ Below W.heap.size W wr) (fun i _ => 4 - (intOf i).toNat)
      case atStart =>
        obtain ⟨r1, r2, B0⟩ := two_boxes w9 #[.int .i64 p1, .int .i64 p2, .int .i64 p3, .int .i64 p4] #[.int .i64 q1, .int .i64 q2, .int .i64 q3, .int .i64 q4] 24 24
        exact ⟨0, by omega, rfl, r1, r2, H.trans (B0.mono H.size)⟩
      case round =>
        obtain ⟨k, hk, rfl, r1, r2, H2⟩ := hrel
        have HR := Lib.hid (And.intro r1 (And.intro r2 H2))
        by_cases hlt : k < 4
        · have : k = 0 ∨ k = 1 ∨ k = 2 ∨ k = 3 := by omega
          clear hk hlt H2
          rcases this with rfl | rfl | rfl | rfl
          · have c1 := r1.cell 0
            have c2 := r2.cell 0
            have hE := HM.out.1
            simp only [List.getElem?_toArray, List.getElem?_cons_zero, List.getElem?_cons_succ] at c1 c2
            clear r1 r2
            go_wp2
            go_quiet (fail)
            go_wp2
            go_roundw
            case rel => exact ⟨1, by omega, by go_num, HR.out.1, HR.out.2.1, HR.out.2.2.trans ⟨rfl, rfl, rfl, Nat.le_refl _, fun _ _ => rfl⟩⟩
            case measure => simp [intOf]
          · have c1 := r1.cell 1
            have c2 := r2.cell 1
            have hE := HM.out.2.1
            simp only [List.getElem?_toArray, List.getElem?_cons_zero, List.getElem?_cons_succ] at c1 c2
            clear r1 r2
            go_wp2
            go_quiet (fail)
            go_wp2
            go_roundw
            case rel => exact ⟨2, by omega, by go_num, HR.out.1, HR.out.2.1, HR.out.2.2.trans ⟨rfl, rfl, rfl, Nat.le_refl _, fun _ _ => rfl⟩⟩
            case measure => simp [intOf]
          · have c1 := r1.cell 2
            have c2 := r2.cell 2
            have hE := HM.out.2.2.1
            simp only [List.getElem?_toArray, List.getElem?_cons_zero, List.getElem?_cons_succ] at c1 c2
            clear r1 r2
            go_wp2
            go_quiet (fail)
            go_wp2
            go_roundw
            case rel => exact ⟨3, by omega, by go_num, HR.out.1, HR.out.2.1, HR.out.2.2.trans ⟨rfl, rfl, rfl, Nat.le_refl _, fun _ _ => rfl⟩⟩
            case measure => simp [intOf]
          · have c1 := r1.cell 3
            have c2 := r2.cell 3
            have hE := HM.out.2.2.2
            simp only [List.getElem?_toArray, List.getElem?_cons_zero, List.getElem?_cons_succ] at c1 c2
            clear r1 r2
            go_wp2
            go_quiet (fail)
            go_wp2
            go_roundw
            case rel => exact ⟨4, by omega, by go_num, HR.out.1, HR.out.2.1, HR.out.2.2.trans ⟨rfl, rfl, rfl, Nat.le_refl _, fun _ _ => rfl⟩⟩
            case measure => simp [intOf]
        · obtain rfl : k = 4 := by omega
          clear r1 r2
          go_wp2_with fail
          refine (WK.out _ (HT.out.below hT0 H2)).mono ?_; rintro e w10 ⟨rfl, hb⟩
          replace H2 := H2.trans (hb.mono H2.size)
          clear hb
          go_wp2
          go_ret
          exact ⟨rfl, H2⟩
    · obtain rfl := h2 rfl
      go_enter Tryd.func6, Tryd.ntmps6
      go_wp2_with fail
      refine (a1 _ (HT.out.below hT0 H)).mono ?_; rintro e w1 ⟨rfl, hb⟩
      replace H := H.trans (hb.mono H.size)
      clear hb
      go_wp2_with fail
      refine (a2 _ (HT.out.below hT0 H)).mono ?_; rintro e w2 ⟨rfl, hb⟩
      replace H := H.trans (hb.mono H.size)
      clear hb
      go_wp2_with fail
      refine (a3 _ (HT.out.below hT0 H)).mono ?_; rintro e w3 ⟨rfl, hb⟩
      replace H := H.trans (hb.mono H.size)
      clear hb
      go_wp2_with fail
      refine (a4 _ (HT.out.below hT0 H)).mono ?_; rintro e w4 ⟨rfl, hb⟩
      replace H := H.trans (hb.mono H.size)
      clear hb
      go_wp2_with fail
      refine (a5 _ (HT.out.below hT0 H)).mono ?_; rintro e w' ⟨rfl, rfl⟩
      go_wp2_with fail
      refine (a6 _ (HT.out.below hT0 H)).mono ?_; rintro e w' ⟨rfl, rfl⟩
      go_wp2_with fail
      refine (a1 _ (HT.out.below hT0 H)).mono ?_; rintro e w5 ⟨rfl, hb⟩
      replace H := H.trans (hb.mono H.size)
      clear hb
      go_wp2_with fail
      refine (a7 _ (HT.out.below hT0 H)).mono ?_; rintro e w5 ⟨rfl, hb⟩
      replace H := H.trans (hb.mono H.size)
      clear hb
      go_wp2_with fail
      refine (a3 _ (HT.out.below hT0 H)).mono ?_; rintro e w6 ⟨rfl, hb⟩
      replace H := H.trans (hb.mono H.size)
      clear hb
      go_wp2_with fail
      refine (a8 _ (HT.out.below hT0 H)).mono ?_; rintro e w6 ⟨rfl, hb⟩
      replace H := H.trans (hb.mono H.size)
      clear hb
      go_wp2_with fail
      refine (a9 _ (HT.out.below hT0 H)).mono ?_; rintro e w8 ⟨rfl, hb⟩
      replace H := H.trans (hb.mono H.size)
      clear hb
      go_wp2_with fail
      refine (a10 _ (HT.out.below hT0 H)).mono ?_; rintro e w9 ⟨rfl, hb⟩
      replace H := H.trans (hb.mono H.size)
      clear hb
      go_wp2
      go_loopw [13] (fun i wr => ∃ k : Nat, k ≤ 4 ∧ i = .int .i64 k ∧ Rw wr w9.heap.size 24 #[.int .i64 p1, .int .i64 p2, .int .i64 p3, .int .i64 p4] ∧ Rw wr (w9.heap.size + 1) 24 #[.int .i64 q1, .int .i64 q2, .int .i64 q3, .int .i64 q4] ∧ Below W.heap.size W wr) (fun i _ => 4 - (intOf i).toNat)
      case atStart =>
        obtain ⟨r1, r2, B0⟩ := two_boxes w9 #[.int .i64 p1, .int .i64 p2, .int .i64 p3, .int .i64 p4] #[.int .i64 q1, .int .i64 q2, .int .i64 q3, .int .i64 q4] 24 24
        exact ⟨0, by omega, rfl, r1, r2, H.trans (B0.mono H.size)⟩
      case round =>
        obtain ⟨k, hk, rfl, r1, r2, H2⟩ := hrel
        have HR := Lib.hid (And.intro r1 (And.intro r2 H2))
        by_cases hlt : k < 4
        · have : k = 0 ∨ k = 1 ∨ k = 2 ∨ k = 3 := by omega
          clear hk hlt H2
          rcases this with rfl | rfl | rfl | rfl
          · have c1 := r1.cell 0
            have c2 := r2.cell 0
            have hE := HM.out.1
            simp only [List.getElem?_toArray, List.getElem?_cons_zero, List.getElem?_cons_succ] at c1 c2
            clear r1 r2
            go_wp2
            go_quiet (fail)
            go_wp2
            go_roundw
            case rel => exact ⟨1, by omega, by go_num, HR.out.1, HR.out.2.1, HR.out.2.2.trans ⟨rfl, rfl, rfl, Nat.le_refl _, fun _ _ => rfl⟩⟩
            case measure => simp [intOf]
          · have c1 := r1.cell 1
            have c2 := r2.cell 1
            have hE := HM.out.2.1
            simp only [List.getElem?_toArray, List.getElem?_cons_zero, List.getElem?_cons_succ] at c1 c2
            clear r1 r2
            go_wp2
            go_quiet (fail)
            go_wp2
            go_roundw
            case rel => exact ⟨2, by omega, by go_num, HR.out.1, HR.out.2.1, HR.out.2.2.trans ⟨rfl, rfl, rfl, Nat.le_refl _, fun _ _ => rfl⟩⟩
            case measure => simp [intOf]
          · have c1 := r1.cell 2
            have c2 := r2.cell 2
            have hE := HM.out.2.2.1
            simp only [List.getElem?_toArray, List.getElem?_cons_zero, List.getElem?_cons_succ] at c1 c2
            clear r1 r2
            go_wp2
            go_quiet (fail)
            go_wp2
            go_roundw
            case rel => exact ⟨3, by omega, by go_num, HR.out.1, HR.out.2.1, HR.out.2.2.trans ⟨rfl, rfl, rfl, Nat.le_refl _, fun _ _ => rfl⟩⟩
            case measure => simp [intOf]
          · have c1 := r1.cell 3
            have c2 := r2.cell 3
            have hE := HM.out.2.2.2
            simp only [List.getElem?_toArray, List.getElem?_cons_zero, List.getElem?_cons_succ] at c1 c2
            clear r1 r2
            go_wp2
            go_quiet (fail)
            go_wp2
            go_roundw
            case rel => exact ⟨4, by omega, by go_num, HR.out.1, HR.out.2.1, HR.out.2.2.trans ⟨rfl, rfl, rfl, Nat.le_refl _, fun _ _ => rfl⟩⟩
            case measure => simp [intOf]
        · obtain rfl : k = 4 := by omega
          clear r1 r2
          go_wp2_with fail
          refine (WK.out _ (HT.out.below hT0 H2)).mono ?_; rintro e w10 ⟨rfl, hb⟩
          replace H2 := H2.trans (hb.mono H2.size)
          clear hb
          go_wp2
          go_ret
          exact ⟨rfl, H2⟩
end Go.Proofs.YtjkhancjfaegiaaDoor
