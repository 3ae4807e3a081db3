/- Contracts of msg's small functions, and of the document's own: for any message, any pair, any numbers. -/
import Derived.Test.YtbklgodbjibemaaRec
set_option linter.unusedVariables false
set_option linter.unusedSimpArgs false
namespace Go.Proofs.Ytbklgodbjibemaa
open Go.RowKit

theorem M.item (m : M) (l : Value) : ∀ j v, m.it.c[j]? = some v → (m.c l)[10 + j]? = some v := by
  intro j v h
  match j, h with
  | 0, h => exact h
  | 1, h => exact h
  | 2, h => exact h
  | 3, h => exact h

def placeB (p : Int) : Bool := decide (0 ≤ p) && decide (p < 65536)
def keyB (s : ByteArray) : Bool := decide (0 < s.size) && decide (s.size ≤ 20)
def valB (n : Int) : Bool := decide (0 ≤ n) && decide (n ≤ 1048576)
def pairB (x : It) : Bool := keyB x.key && valB x.val && valB x.ver
def asksB (m : M) : Bool := decide (0 < m.kind) && decide (m.kind ≤ 6)
def askerI (m : M) : Int := if asksB m then m.frm else m.to
def callOk (id n : Int) : Bool := placeB id && decide (1 ≤ n) && decide (n ≤ 1048576)
def told (m : M) : M := if asksB m then M.head (6 + m.kind) m.call m.to m.frm else noM
def callC (id n : Int) : Int := if callOk id n then id * 1048576 + n else 0
def callE (id n : Int) : Int := if callOk id n then 0 else 2
theorem callOk_iff {id n : Int} : callOk id n = true ↔ placeB id = true ∧ 1 ≤ n ∧ n ≤ 1048576 := by simp [callOk, and_assoc]
theorem call_yes {id n : Int} (h : callOk id n = true) : Value.tuple #[.int .i64 (callC id n), .int .i64 (callE id n)] = .tuple #[.int .i64 (id * 1048576 + n), .int .i64 0] := by simp [callC, callE, h]
theorem call_no {id n : Int} (h : ¬ callOk id n = true) : Value.tuple #[.int .i64 (callC id n), .int .i64 (callE id n)] = .tuple #[.int .i64 0, .int .i64 2] := by simp [callC, callE, h]
theorem place_iff {p : Int} : placeB p = true ↔ 0 ≤ p ∧ p < 65536 := by simp [placeB]

theorem Asks_any (m : M) (l : Value) (w : World) : Calls Try.prog 16 #[.agg (m.c l)] w fun e w' => e = .returned (.bool (asksB m)) ∧ Below w.heap.size w w' := by
  unfold asksB
  go_enter Try.func16, Try.ntmps16
  go_wp2_with fail
  all_goals (go_ret; exact ⟨ret_b (by simp; try omega), box_below _ _⟩)
theorem rAsks_any (m : M) (l : Value) (w : World) : Calls Try.prog 17 #[.agg (m.c l)] w fun e w' => e = .returned (.bool (asksB m)) ∧ Below w.heap.size w w' := by
  unfold asksB
  go_enter Try.func17, Try.ntmps17
  go_wp2_with fail
  all_goals (go_ret; exact ⟨ret_b (by rw [Bool.eq_iff_iff]; simp; try omega), box_below _ _⟩)
theorem Asker_any (m : M) (l : Value) (w : World) : Calls Try.prog 18 #[.agg (m.c l)] w fun e w' => e = .returned (.int .i64 (askerI m)) ∧ Below w.heap.size w w' := by
  unfold askerI
  obtain ⟨b, hk⟩ : ∃ b, asksB m = b := ⟨_, rfl⟩
  have k0 := fun w => Asks_any m l w
  rw [hk] at k0 ⊢
  have h0 := Rw.new w (m.c l) 27
  go_enter Try.func18, Try.ntmps18
  go_wp2_with (refine wpList_loadR rfl _ rfl rfl (run_loadR (c := m.c l) agg27 h0) ?_)
  refine (k0 _).mono ?_; rintro e w1 ⟨rfl, hb⟩
  have h1 := h0.below hb
  have hc := h1.cell
  have hB := (box_below w _).trans (hb.mono (Nat.le_of_lt (by simp)))
  clear hb h0 h1
  cases b
  all_goals (go_wp2_with fail; go_ret; exact ⟨rfl, hB⟩)
theorem rAsker_any (m : M) (l : Value) (w : World) : Calls Try.prog 19 #[.agg (m.c l)] w fun e w' => e = .returned (.int .i64 (askerI m)) ∧ Below w.heap.size w w' := by
  unfold askerI
  obtain ⟨b, hk⟩ : ∃ b, asksB m = b := ⟨_, rfl⟩
  have k0 := fun w => rAsks_any m l w
  rw [hk] at k0 ⊢
  have h0 := Rw.new w (m.c l) 27
  go_enter Try.func19, Try.ntmps19
  go_wp2_with (refine wpList_loadR rfl _ rfl rfl (run_loadR (c := m.c l) agg27 h0) ?_)
  refine (k0 _).mono ?_; rintro e w1 ⟨rfl, hb⟩
  have h1 := h0.below hb
  have hc := h1.cell
  have hB := (box_below w _).trans (hb.mono (Nat.le_of_lt (by simp)))
  clear hb h0 h1
  cases b
  all_goals (go_wp2_with fail; go_ret; exact ⟨rfl, hB⟩)

theorem place_any (p : Int) (w : World) : Calls Try.prog 25 #[.int .i64 p] w fun e w' => e = .returned (.bool (placeB p)) ∧ w' = w := by
  unfold placeB
  go_enter Try.func25, Try.ntmps25
  go_wp2_with fail
  all_goals (go_ret; exact ⟨ret_b (by rw [Bool.eq_iff_iff]; simp; try omega), rfl⟩)
theorem rplace_any (p : Int) (w : World) : Calls Try.prog 26 #[.int .i64 p] w fun e w' => e = .returned (.bool (placeB p)) ∧ w' = w := by
  unfold placeB
  go_enter Try.func26, Try.ntmps26
  go_wp2_with fail
  all_goals (go_ret; exact ⟨ret_b (by rw [Bool.eq_iff_iff]; simp; try omega), rfl⟩)
theorem key_any (s : ByteArray) (w : World) : Calls Try.prog 27 #[.string s] w fun e w' => e = .returned (.bool (keyB s)) ∧ w' = w := by
  unfold keyB
  go_enter Try.func27, Try.ntmps27
  go_wp2_with fail
  all_goals (go_ret; exact ⟨ret_b (by rw [Bool.eq_iff_iff]; simp; try omega), rfl⟩)
theorem value_any (p : Int) (w : World) : Calls Try.prog 28 #[.int .i64 p] w fun e w' => e = .returned (.bool (valB p)) ∧ w' = w := by
  unfold valB
  go_enter Try.func28, Try.ntmps28
  go_wp2_with fail
  all_goals (go_ret; exact ⟨ret_b (by rw [Bool.eq_iff_iff]; simp; try omega), rfl⟩)
theorem callOf_any (id c : Int) (hid : placeB id = true) (w : World) : Calls Try.prog 31 #[.int .i64 id, .int .i64 c] w fun e w' => e = .returned (.bool (decide (id * 1048576 < c) && decide (c ≤ (id + 1) * 1048576))) ∧ w' = w := by
  obtain ⟨h1, h2⟩ := place_iff.1 hid
  go_enter Try.func31, Try.ntmps31
  go_wp2_with fail
  all_goals (go_ret; exact ⟨ret_b (by rw [Bool.eq_iff_iff]; simp; try omega), rfl⟩)
theorem Pair_any (x : It) (w : World) : Calls Try.prog 12 #[.agg x.c] w fun e w' => e = .returned (.bool (pairB x)) ∧ Below w.heap.size w w' := by
  unfold pairB
  obtain ⟨b1, h1⟩ : ∃ b, keyB x.key = b := ⟨_, rfl⟩
  obtain ⟨b2, h2⟩ : ∃ b, valB x.val = b := ⟨_, rfl⟩
  obtain ⟨b3, h3⟩ : ∃ b, valB x.ver = b := ⟨_, rfl⟩
  have k1 := fun w => key_any x.key w
  have k2 := fun w => value_any x.val w
  have k3 := fun w => value_any x.ver w
  rw [h1] at k1
  rw [h2] at k2
  rw [h3] at k3
  rw [h1, h2, h3]
  go_enter Try.func12, Try.ntmps12
  go_wp2_with fail
  refine (k1 _).mono ?_; rintro e w1 ⟨rfl, rfl⟩
  cases b1
  · go_wp2_with fail
    go_ret
    exact ⟨rfl, box_below _ _⟩
  · go_wp2_with fail
    refine (k2 _).mono ?_; rintro e w1 ⟨rfl, rfl⟩
    cases b2
    · go_wp2_with fail
      go_ret
      exact ⟨rfl, box_below _ _⟩
    · go_wp2_with fail
      refine (k3 _).mono ?_; rintro e w1 ⟨rfl, rfl⟩
      go_wp2_with fail
      go_ret
      exact ⟨rfl, box_below _ _⟩
theorem rPair_any (x : It) (w : World) : Calls Try.prog 13 #[.agg x.c] w fun e w' => e = .returned (.bool (pairB x)) ∧ Below w.heap.size w w' := by
  have hp : pairB x = (decide (1 ≤ (x.key.size : Int)) && decide ((x.key.size : Int) ≤ 20) && decide (0 ≤ x.val) && decide (x.val ≤ 1048576) && decide (0 ≤ x.ver) && decide (x.ver ≤ 1048576)) := by
    unfold pairB keyB valB
    rw [Bool.eq_iff_iff]
    simp only [Bool.and_eq_true, decide_eq_true_eq]
    omega
  rw [hp]
  go_enter Try.func13, Try.ntmps13
  by_cases h1 : 1 ≤ (x.key.size : Int)
  · by_cases h2 : (x.key.size : Int) ≤ 20
    · by_cases h3 : 0 ≤ x.val
      · by_cases h4 : x.val ≤ 1048576
        · by_cases h5 : 0 ≤ x.ver
          · go_wp2_with fail
            all_goals (go_ret; exact ⟨ret_b (by simp [*] <;> omega), box_below _ _⟩)
          · go_wp2_with fail
            all_goals (go_ret; exact ⟨ret_b (by simp [*] <;> omega), box_below _ _⟩)
        · go_wp2_with fail
          all_goals (go_ret; exact ⟨ret_b (by simp [*] <;> omega), box_below _ _⟩)
      · go_wp2_with fail
        all_goals (go_ret; exact ⟨ret_b (by simp [*] <;> omega), box_below _ _⟩)
    · go_wp2_with fail
      all_goals (go_ret; exact ⟨ret_b (by simp [*] <;> omega), box_below _ _⟩)
  · go_wp2_with fail
    all_goals (go_ret; exact ⟨ret_b (by simp [*] <;> omega), box_below _ _⟩)
theorem Call_any (id n : Int) (w : World) : Calls Try.prog 10 #[.int .i64 id, .int .i64 n] w fun e w' => e = .returned (.tuple #[.int .i64 (callC id n), .int .i64 (callE id n)]) ∧ w' = w := by
  obtain ⟨b1, h1⟩ : ∃ b, placeB id = b := ⟨_, rfl⟩
  have k1 := fun w => place_any id w
  rw [h1] at k1
  go_enter Try.func10, Try.ntmps10
  go_wp2_with fail
  refine wp_scope_fwd ?_
  go_wp2_with fail
  refine (k1 _).mono ?_; rintro e w1 ⟨rfl, rfl⟩
  cases b1
  · go_wp2_with fail
    go_step3; refine fwd_goto _ rfl ?_; go_wp2; refine nog_ret ?_
    exact bodyPost_ret (by simp [results, Try.results10, go_sem]; rfl) rfl ⟨by rw [call_no (by rw [callOk_iff, h1]; simp)], rfl⟩
  · have hb := place_iff.1 h1
    by_cases h2 : n < 1
    · go_wp2_with fail
      go_step3; refine fwd_goto _ rfl ?_; go_wp2; refine nog_ret ?_
      exact bodyPost_ret (by simp [results, Try.results10, go_sem]; rfl) rfl ⟨by rw [call_no (by rw [callOk_iff]; omega)], rfl⟩
    · by_cases h3 : 1048576 < n
      · go_wp2_with fail
        go_step3; refine fwd_goto _ rfl ?_; go_wp2; refine nog_ret ?_
        exact bodyPost_ret (by simp [results, Try.results10, go_sem]; rfl) rfl ⟨by rw [call_no (by rw [callOk_iff]; omega)], rfl⟩
      · go_wp2_with fail
        refine fwd_ret ?_
        exact bodyPost_ret (by simp [results, Try.results10, go_sem]; rfl) rfl ⟨by rw [call_yes (callOk_iff.2 ⟨h1, by omega, by omega⟩)], rfl⟩
theorem rCall_any (id n : Int) (w : World) : Calls Try.prog 11 #[.int .i64 id, .int .i64 n] w fun e w' => e = .returned (.tuple #[.int .i64 (callC id n), .int .i64 (callE id n)]) ∧ w' = w := by
  obtain ⟨b1, h1⟩ : ∃ b, placeB id = b := ⟨_, rfl⟩
  have k1 := fun w => rplace_any id w
  rw [h1] at k1
  go_enter Try.func11, Try.ntmps11
  go_wp2_with fail
  refine (k1 _).mono ?_; rintro e w1 ⟨rfl, rfl⟩
  cases b1
  · go_wp2_with fail
    exact bodyPost_ret (by simp [results, Try.results11, go_sem]; rfl) rfl ⟨by rw [call_no (by rw [callOk_iff, h1]; simp)], rfl⟩
  · have hb := place_iff.1 h1
    by_cases h2 : n < 1
    · go_wp2_with fail
      exact bodyPost_ret (by simp [results, Try.results11, go_sem]; rfl) rfl ⟨by rw [call_no (by rw [callOk_iff]; omega)], rfl⟩
    · by_cases h3 : 1048576 < n
      · go_wp2_with fail
        exact bodyPost_ret (by simp [results, Try.results11, go_sem]; rfl) rfl ⟨by rw [call_no (by rw [callOk_iff]; omega)], rfl⟩
      · go_wp2_with fail
        exact bodyPost_ret (by simp [results, Try.results11, go_sem]; rfl) rfl ⟨by rw [call_yes (callOk_iff.2 ⟨h1, by omega, by omega⟩)], rfl⟩

theorem M.one (m : M) {l : Value} (hl : l.oneCell' = true) : (m.c l).all (·.oneCell') = true := by
  rw [Array.all_eq_true_iff_forall_mem]
  intro v hv
  simp only [M.c, List.mem_toArray, List.mem_cons, List.not_mem_nil, or_false] at hv
  rcases hv with rfl | rfl | rfl | rfl | rfl | rfl | rfl | rfl | rfl | rfl | rfl | rfl | rfl | rfl | rfl
  all_goals first | exact hl | rfl
theorem two_boxes (w : World) (c z : Array Value) (t u : TypeId) : Rw ((w.alloc (.cells c t)).alloc (.cells z u)) w.heap.size t c ∧ Rw ((w.alloc (.cells c t)).alloc (.cells z u)) (w.heap.size + 1) u z ∧ Below w.heap.size w ((w.alloc (.cells c t)).alloc (.cells z u)) := by
  refine ⟨(Rw.new w c t).alloc _, ?_, (box_below w _).alloc (by simp) _⟩
  have := Rw.new (w.alloc (.cells c t)) z u
  rwa [World.size_alloc] at this
theorem Tell_any (m : M) (l : Value) (w : World) : Calls Try.prog 21 #[.agg (m.c l)] w fun e w' => e = .returned (.agg ((told m).c nilS)) ∧ Below w.heap.size w w' := by
  unfold told
  obtain ⟨b, hb⟩ : ∃ b, asksB m = b := ⟨_, rfl⟩
  have k0 := fun w => Asks_any m l w
  rw [hb] at k0 ⊢
  obtain ⟨h0, g0, hB0⟩ := two_boxes w (m.c l) (noM.c nilS) 27 27
  go_enter Try.func21, Try.ntmps21
  go_wp2_with fail
  refine wp_scope_fwd ?_
  go_wp2_with (refine wpList_loadR rfl _ rfl rfl (run_loadR (c := m.c l) agg27 h0) ?_)
  refine (k0 _).mono ?_; rintro e w1 ⟨rfl, hb1⟩
  have h1 := h0.below hb1
  have g1 := g0.below hb1
  have hc := h1.cell
  have hB1 : Below w.heap.size w w1 := hB0.trans (hb1.mono hB0.size)
  have hB2 := fun c => below_setRow hB1 (g := w.heap.size + 1) (by omega) c
  clear hb1 h0 g0 hB0
  cases b
  · go_wp2_with fail
    go_step3; refine fwd_goto _ rfl ?_
    go_wp2_with (refine wpList_storeR (c := noM.c nilS) rfl _ _ rfl rfl rfl agg27.hi g1 rfl (M.one _ rfl) ?_)
    refine nog_ret ?_
    exact bodyPost_ret (results_cell_row rfl _ _ _ _ _ _ _ rfl g1.setRow Try.underlying27 rfl agg27.hi) rfl ⟨rfl, hB2 _⟩
  · have hk : 0 < m.kind ∧ m.kind ≤ 6 := by simpa [asksB] using hb
    go_wp2_with (refine wpList_storeR (c := (M.head (6 + m.kind) m.call m.to m.frm).c nilS) rfl _ _ rfl rfl rfl agg27.hi g1 rfl (M.one _ rfl) ?_)
    refine fwd_ret ?_
    exact bodyPost_ret (results_cell_row rfl _ _ _ _ _ _ _ rfl g1.setRow Try.underlying27 rfl agg27.hi) rfl ⟨rfl, hB2 _⟩
theorem rTell_any (m : M) (l : Value) (w : World) : Calls Try.prog 22 #[.agg (m.c l)] w fun e w' => e = .returned (.agg ((told m).c nilS)) ∧ Below w.heap.size w w' := by
  unfold told
  obtain ⟨b, hb⟩ : ∃ b, asksB m = b := ⟨_, rfl⟩
  have k0 := fun w => rAsks_any m l w
  rw [hb] at k0 ⊢
  obtain ⟨h0, g0, hB0⟩ := two_boxes w (m.c l) (noM.c nilS) 27 27
  go_enter Try.func22, Try.ntmps22
  go_wp2_with (refine wpList_loadR rfl _ rfl rfl (run_loadR (c := m.c l) agg27 h0) ?_)
  refine (k0 _).mono ?_; rintro e w1 ⟨rfl, hb1⟩
  have h1 := h0.below hb1
  have g1 := g0.below hb1
  have hc := h1.cell
  have hB1 : Below w.heap.size w w1 := hB0.trans (hb1.mono hB0.size)
  have hB2 := fun c => below_setRow hB1 (g := w.heap.size + 1) (by omega) c
  clear hb1 h0 g0 hB0
  cases b
  · go_wp2_with (refine wpList_storeR (c := noM.c nilS) rfl _ _ rfl rfl rfl agg27.hi g1 rfl (M.one _ rfl) ?_)
    exact bodyPost_ret (results_cell_row rfl _ _ _ _ _ _ _ rfl g1.setRow Try.underlying27 rfl agg27.hi) rfl ⟨rfl, hB2 _⟩
  · have hk : 0 < m.kind ∧ m.kind ≤ 6 := by simpa [asksB] using hb
    go_wp2_with (refine wpList_storeR (c := (M.head (m.kind + 6) m.call m.to m.frm).c nilS) rfl _ _ rfl rfl rfl agg27.hi g1 rfl (M.one _ rfl) ?_)
    exact bodyPost_ret (results_cell_row rfl _ _ _ _ _ _ _ rfl g1.setRow Try.underlying27 rfl agg27.hi) rfl ⟨by rw [Int.add_comm], hB2 _⟩
end Go.Proofs.Ytbklgodbjibemaa
