/- 'Payload' and 'Read': what is left by panic is told as an error. -/
import Derived.Test.YtaacjpcckinaiaaGreatWLeaf
import Derived.Test.YtaacjpcckinaiaaGreatMsgA
set_option linter.unusedVariables false
set_option maxRecDepth 100000
set_option linter.unusedSimpArgs false
namespace Go.Proofs.YtaacjpcckinaiaaGreat
open Go.RowKit Go.Shelf Ms

theorem hmf : ∀ (fn : Fn) (first cap : Array Value) (w : World), (Instr.makeFunc fn first cap).run Tryz.prog w = .ok (.func fn first cap) w := fun _ _ _ _ => rfl
theorem setCell_past (w : World) (p : Addr) (u : Value) (k : Nat) (hk : k ≠ p.block) : (w.setCell p u).heap[k]? = w.heap[k]? := Below.heap_setCell w p u k hk
theorem setCell_size (w : World) (p : Addr) (u : Value) : (w.setCell p u).heap.size = w.heap.size := by simp [World.setCell]

set_option maxHeartbeats 1000000 in
theorem Payload_yes (m : M) (sl : Value) (B : List UInt8) (w : World) (hput : ∀ W, Below w.heap.size w W → Calls Tryz.prog 26 #[.agg (m.c sl)] W fun e w' => ∃ v, e = .returned v ∧ Slf W.heap.size w' v (bv B) ∧ Below W.heap.size W w') :
    Calls Tryz.prog 10 #[.agg (m.c sl)] w fun e w' => ∃ v, e = .returned (.tuple #[v, .int .i64 0]) ∧ Slf w.heap.size w' v (bv B) ∧ Below w.heap.size w w' := by
  have hmf := hmf
  obtain ⟨h0, g0, hB0⟩ := two_boxes w (m.c sl) #[.int .i64 0] 27 25
  go_enter_defers Tryz.func10, Tryz.ntmps10
  go_wp2_with (refine wpList_loadR rfl _ rfl rfl (run_loadR (c := m.c sl) agg27 h0) ?_)
  refine (hput _ hB0).mono ?_
  rintro e w1 ⟨v, rfl, hs, hb⟩
  have g1 := g0.below hb
  have hc : w1.cell? ⟨w.heap.size + 1, 0, none⟩ = some (.int .i64 0) := g1.cell 0
  have hz : w1.frozen? ⟨w.heap.size + 1, 0, none⟩ = false := g1.free 0
  have hB1 : Below w.heap.size w w1 := hB0.trans (hb.mono hB0.size)
  clear h0 g0 hB0 hb
  go_wp2
  refine leaves_cons (f := 24) (args := #[.pointer (some ⟨w.heap.size + 1, 0, none⟩)]) (by simp) (by simp [go_sem]) ?_
  refine (catchPayload_idle ⟨w.heap.size + 1, 0, none⟩ (.int .i64 0) _ ?_ ?_).mono ?_
  · simp [go_sem, hc]
  · simp [go_sem, hz]
  rintro e u' w'' ⟨rfl, rfl, rfl⟩
  simp only [World.size_alloc] at hs
  have hs2 := ((hs.set_ (b := w.heap.size + 1) (by omega) 0 (.int .i64 0)).set_ (b := w.heap.size + 1) (by omega) 0 (.int .i64 0)).mono (show w.heap.size ≤ w.heap.size + 1 + 1 by omega)
  have hB2 := (hB1.setCell (p := ⟨w.heap.size + 1, 0, none⟩) (by simp) (.int .i64 0)).setCell (p := ⟨w.heap.size + 1, 0, none⟩) (by simp) (.int .i64 0)
  simp [Leaves, settle, results, Tryz.results10, go_sem, hc]
  exact ⟨hs2, hB2⟩

set_option maxHeartbeats 1000000 in
theorem Payload_no (m : M) (sl : Value) (x : Int) (w : World) (hput : ∀ W, Below w.heap.size w W → Calls Tryz.prog 26 #[.agg (m.c sl)] W fun e w' => e = .panicked (wrong x) ∧ Below W.heap.size W w') :
    Calls Tryz.prog 10 #[.agg (m.c sl)] w fun e w' => e = .returned (.tuple #[.slice none 0 0, .int .i64 x]) ∧ Below w.heap.size w w' := by
  have hmf := hmf
  obtain ⟨h0, g0, hB0⟩ := two_boxes w (m.c sl) #[.int .i64 0] 27 25
  go_enter_defers Tryz.func10, Tryz.ntmps10
  go_wp2_with (refine wpList_loadR rfl _ rfl rfl (run_loadR (c := m.c sl) agg27 h0) ?_)
  refine (hput _ hB0).mono ?_
  rintro e w1 ⟨rfl, hb⟩
  have g1 := g0.below hb
  have hc : w1.cell? ⟨w.heap.size + 1, 0, none⟩ = some (.int .i64 0) := g1.cell 0
  have hz : w1.frozen? ⟨w.heap.size + 1, 0, none⟩ = false := g1.free 0
  have hB1 : Below w.heap.size w w1 := hB0.trans (hb.mono hB0.size)
  clear h0 g0 hB0 hb
  refine leaves_cons (f := 24) (args := #[.pointer (some ⟨w.heap.size + 1, 0, none⟩)]) (by simp) (by simp [go_sem]) ?_
  refine (catchPayload_wrong ⟨w.heap.size + 1, 0, none⟩ (.int .i64 0) x [] _ hc hz).mono ?_
  rintro e u' w'' ⟨rfl, rfl, rfl⟩
  have hB2 := hB1.setCell (p := ⟨w.heap.size + 1, 0, none⟩) (by simp) (.int .i64 x)
  simp [Leaves, settle, results, Tryz.results10, go_sem, hc]
  exact hB2

set_option maxHeartbeats 1000000 in
theorem Read_yes (v : Value) (m : M) (l : List Int) (w : World) (hread : ∀ W, Below w.heap.size w W → Calls Tryz.prog 33 #[v] W fun e w' => ∃ lv, e = .returned (.agg (m.c lv)) ∧ Slf W.heap.size w' lv (iv l) ∧ Below W.heap.size W w') :
    Calls Tryz.prog 12 #[v] w fun e w' => ∃ lv, e = .returned (.tuple #[.agg (m.c lv), .int .i64 0]) ∧ Slf w.heap.size w' lv (iv l) ∧ Below w.heap.size w w' := by
  have hmf := hmf
  obtain ⟨h0, g0, hB0⟩ := two_boxes w (noM.c nilS) #[.int .i64 0] 27 25
  go_enter_defers Tryz.func12, Tryz.ntmps12
  go_wp2_with fail
  refine (hread _ hB0).mono ?_
  rintro e w1 ⟨lv, rfl, hs, hb⟩
  obtain ⟨A, n, c, rfl⟩ := hs.sl.slice
  have r1 := h0.below hb
  have g1 := g0.below hb
  have hB1 : Below w.heap.size w w1 := hB0.trans (hb.mono hB0.size)
  simp only [World.size_alloc] at hs
  clear h0 g0 hB0 hb
  have g2 : Rw (w1.setRow w.heap.size (m.c (.slice A n c))) (w.heap.size + 1) 25 #[.int .i64 0] := g1.setRow_other (by omega)
  have r2 : Rw (w1.setRow w.heap.size (m.c (.slice A n c))) w.heap.size 27 (m.c (.slice A n c)) := r1.setRow
  have hc : (w1.setRow w.heap.size (m.c (.slice A n c))).cell? ⟨w.heap.size + 1, 0, none⟩ = some (.int .i64 0) := g2.cell 0
  have hz : (w1.setRow w.heap.size (m.c (.slice A n c))).frozen? ⟨w.heap.size + 1, 0, none⟩ = false := g2.free 0
  go_wp2_with (refine wpList_storeR (c := m.c (.slice A n c)) rfl _ _ rfl rfl rfl agg27.hi r1 rfl (M.one _ rfl) ?_)
  refine leaves_cons (f := 32) (args := #[.pointer (some ⟨w.heap.size + 1, 0, none⟩)]) (by simp) (by simp [go_sem]) ?_
  refine (catchRead_idle ⟨w.heap.size + 1, 0, none⟩ (.int .i64 0) _ ?_ ?_).mono ?_
  · simp [go_sem, hc]
  · simp [go_sem, hz]
  rintro e u' w'' ⟨rfl, rfl, rfl⟩
  obtain ⟨W, hW⟩ : ∃ W, ((w1.setRow w.heap.size (m.c (.slice A n c))).setCell ⟨w.heap.size + 1, 0, none⟩ (.int .i64 0)).setCell ⟨w.heap.size + 1, 0, none⟩ (.int .i64 0) = W := ⟨_, rfl⟩
  have hs2 : Slf (w.heap.size + 1 + 1) W (.slice A n c) (iv l) := by
    rw [← hW]
    exact ((hs.setRow_ (b := w.heap.size) (by omega) _).set_ (b := w.heap.size + 1) (by omega) 0 _).set_ (b := w.heap.size + 1) (by omega) 0 _
  have hB2 : Below w.heap.size w W := by
    rw [← hW]
    exact ((below_setRow hB1 (Nat.le_refl _) _).setCell (p := ⟨w.heap.size + 1, 0, none⟩) (by simp) (.int .i64 0)).setCell (p := ⟨w.heap.size + 1, 0, none⟩) (by simp) (.int .i64 0)
  have r3 : Rw W w.heap.size 27 (m.c (.slice A n c)) := by rw [← hW]; exact (r2.set_other (by omega) _ _).set_other (by omega) _ _
  have hl := run_loadVar_row (P := Tryz.prog) _ _ _ 27 _ _ _ r3 Tryz.underlying27 rfl agg27.hi
  have g3 : Rw W (w.heap.size + 1) 25 #[.int .i64 0] := by rw [← hW]; exact (g2.set 0 (.int .i64 0)).set 0 (.int .i64 0)
  have hc3 : W.cell? ⟨w.heap.size + 1, 0, none⟩ = some (.int .i64 0) := g3.cell 0
  rw [hW]
  clear hW hc hz r1 g1 g2 r2 hs
  simp only [Leaves, settle]
  refine ⟨.tuple #[.agg (m.c (.slice A n c)), .int .i64 0], ?_, _, rfl, hs2.mono (by omega), hB2⟩
  have hl2 : (loadVar 25 ⟨w.heap.size + 1, 0, none⟩).run Tryz.prog W = .ok (.int .i64 0) W := by simp [go_sem, hc3]
  simp [results, Tryz.results12, asAddr, hl, hl2]

set_option maxHeartbeats 1000000 in
theorem Read_no (v : Value) (x : Int) (w : World) (hread : ∀ W, Below w.heap.size w W → Calls Tryz.prog 33 #[v] W fun e w' => e = .panicked (wrong x) ∧ Below W.heap.size W w') :
    Calls Tryz.prog 12 #[v] w fun e w' => e = .returned (.tuple #[.agg (noM.c nilS), .int .i64 x]) ∧ Below w.heap.size w w' := by
  have hmf := hmf
  obtain ⟨h0, g0, hB0⟩ := two_boxes w (noM.c nilS) #[.int .i64 0] 27 25
  go_enter_defers Tryz.func12, Tryz.ntmps12
  go_wp2_with fail
  refine (hread _ hB0).mono ?_
  rintro e w1 ⟨rfl, hb⟩
  have r1 := h0.below hb
  have g1 := g0.below hb
  have hB1 : Below w.heap.size w w1 := hB0.trans (hb.mono hB0.size)
  clear h0 g0 hB0 hb
  refine leaves_cons (f := 32) (args := #[.pointer (some ⟨w.heap.size + 1, 0, none⟩)]) (by simp) (by simp [go_sem]) ?_
  refine (catchRead_wrong ⟨w.heap.size + 1, 0, none⟩ (.int .i64 0) x [] _ (g1.cell 0) (g1.free 0)).mono ?_
  rintro e u' w'' ⟨rfl, rfl, rfl⟩
  have r3 : Rw (w1.setCell ⟨w.heap.size + 1, 0, none⟩ (.int .i64 x)) w.heap.size 27 (noM.c nilS) := r1.set_other (by omega) _ _
  have hl := run_loadVar_row (P := Tryz.prog) _ _ _ 27 _ _ _ r3 Tryz.underlying27 rfl agg27.hi
  have g3 : Rw (w1.setCell ⟨w.heap.size + 1, 0, none⟩ (.int .i64 x)) (w.heap.size + 1) 25 #[.int .i64 x] := g1.set 0 _
  have hc3 : (w1.setCell ⟨w.heap.size + 1, 0, none⟩ (.int .i64 x)).cell? ⟨w.heap.size + 1, 0, none⟩ = some (.int .i64 x) := g3.cell 0
  have hB2 := hB1.setCell (p := ⟨w.heap.size + 1, 0, none⟩) (by simp) (.int .i64 x)
  simp only [Leaves, settle, List.dropWhile_nil]
  refine ⟨.tuple #[.agg (noM.c nilS), .int .i64 x], ?_, rfl, hB2⟩
  have hl2 : (loadVar 25 ⟨w.heap.size + 1, 0, none⟩).run Tryz.prog (w1.setCell ⟨w.heap.size + 1, 0, none⟩ (.int .i64 x)) = .ok (.int .i64 x) (w1.setCell ⟨w.heap.size + 1, 0, none⟩ (.int .i64 x)) := by simp [go_sem, hc3]
  simp [results, Tryz.results12, asAddr, hl, hl2]
end Go.Proofs.YtaacjpcckinaiaaGreat
