/- The parts of a message, made: numbers, truths, texts, lists, rows, and what stands beside a code. -/
import Derived.Test.YtaacjpcckinaiaaGreatWPay
set_option linter.unusedVariables false
set_option maxRecDepth 100000
set_option linter.unusedSimpArgs false
namespace Go.Proofs.YtaacjpcckinaiaaGreat
open Go.RowKit Go.Shelf Ms

@[reducible] def ptr (b : Nat) : Value := .pointer (some ⟨b, 0, none⟩)
/-- A part: its two functions, with what they have caught. -/
@[reducible] def partC (p t : FuncId) (cp ct : Array Value) : Array Value := #[.func (.func p) #[] cp, .func (.func t) #[] ct]
@[reducible] def partV (p t : FuncId) (cp ct : Array Value) : Value := .agg (partC p t cp ct)
abbrev nilP : Array Value := #[.nilFunc, .nilFunc]
theorem aggP : Agg Tryz.prog 71 2 := ⟨⟨_, Tryz.underlying71, rfl⟩, by kernel_rfl⟩
theorem part_one (p t : FuncId) (cp ct : Array Value) : (partC p t cp ct).all (·.oneCell') = true := by simp [Value.oneCell']
theorem run_buildP (p q : FuncId) (c d : Array Value) (w : World) : (Instr.build 71 #[(0, .func (.func p) #[] c), (1, .func (.func q) #[] d)]).run Tryz.prog w = .ok (.agg #[.func (.func p) #[] c, .func (.func q) #[] d]) w := run_build w 71 _ _ (by kernel_rfl)
theorem box_ (w : World) (v : Value) (t : TypeId) : Boxed (w.alloc (.cells #[v] t)) w.heap.size t v := Boxed.new w t v
theorem boxed_below {w w' : World} {b : Nat} {t : TypeId} {v : Value} (h : Boxed w b t v) (hb : Below w.heap.size w w') : Boxed w' b t v := (hb.block b h.lt).trans h
theorem three (w : World) (c1 c2 c3 : Array Value) (t1 t2 t3 : TypeId) : Rw (((w.alloc (.cells c1 t1)).alloc (.cells c2 t2)).alloc (.cells c3 t3)) w.heap.size t1 c1 ∧ Rw (((w.alloc (.cells c1 t1)).alloc (.cells c2 t2)).alloc (.cells c3 t3)) (w.heap.size + 1) t2 c2 ∧
    Rw (((w.alloc (.cells c1 t1)).alloc (.cells c2 t2)).alloc (.cells c3 t3)) (w.heap.size + 1 + 1) t3 c3 ∧ Below w.heap.size w (((w.alloc (.cells c1 t1)).alloc (.cells c2 t2)).alloc (.cells c3 t3)) := by
  obtain ⟨h1, h2, hb⟩ := two_boxes w c1 c2 t1 t2
  refine ⟨h1.alloc _, h2.alloc _, ?_, hb.alloc (by simp; omega) _⟩
  have := Rw.new ((w.alloc (.cells c1 t1)).alloc (.cells c2 t2)) c3 t3
  rwa [World.size_alloc, World.size_alloc] at this

set_option maxHeartbeats 1000000 in
theorem numI_any (p : Addr) (more : Int) (w : World) : Calls Tryz.prog 73 #[.pointer (some p), .int .i64 more] w fun e w' => ∃ g h,
    e = .returned (partV 87 88 #[ptr g, ptr h] #[ptr h, ptr g]) ∧ Boxed w' g 93 (.pointer (some p)) ∧ Boxed w' h 3 (.int .i64 more) ∧ Below w.heap.size w w' := by
  have hmf := hmf
  obtain ⟨h1, h2, h3, hB⟩ := three w #[.pointer (some p)] #[.int .i64 more] #[.nilFunc, .nilFunc] 93 3 71
  go_enter Tryz.func73, Tryz.ntmps73
  go_wp2_with (with_reducible show wpList _ _ _ (Oper.mk _ (Op.store _ _ _) _ _ _ _ :: _) _ _
               refine wpList_storeR (c := partC 87 88 #[ptr w.heap.size, ptr (w.heap.size + 1)] #[ptr (w.heap.size + 1), ptr w.heap.size]) rfl _ _ rfl rfl rfl aggP.hi h3 rfl (part_one _ _ _ _) ?_)
  exact bodyPost_ret (results_cell_row rfl _ _ _ _ _ _ _ rfl (h3.setRow (c' := partC 87 88 #[ptr w.heap.size, ptr (w.heap.size + 1)] #[ptr (w.heap.size + 1), ptr w.heap.size])) Tryz.underlying71 rfl aggP.hi) rfl ⟨w.heap.size, w.heap.size + 1, rfl, h1.setRow_other (by omega), h2.setRow_other (by omega), below_setRow hB (by omega) _⟩
set_option maxHeartbeats 1000000 in
theorem numU_any (p : Addr) (more : Int) (w : World) : Calls Tryz.prog 72 #[.pointer (some p), .int .i64 more] w fun e w' => ∃ g h,
    e = .returned (partV 83 85 #[ptr g, ptr h] #[ptr h, ptr g]) ∧ Boxed w' g 91 (.pointer (some p)) ∧ Boxed w' h 3 (.int .i64 more) ∧ Below w.heap.size w w' := by
  have hmf := hmf
  obtain ⟨h1, h2, h3, hB⟩ := three w #[.pointer (some p)] #[.int .i64 more] #[.nilFunc, .nilFunc] 91 3 71
  go_enter Tryz.func72, Tryz.ntmps72
  go_wp2_with (with_reducible show wpList _ _ _ (Oper.mk _ (Op.store _ _ _) _ _ _ _ :: _) _ _
               refine wpList_storeR (c := partC 83 85 #[ptr w.heap.size, ptr (w.heap.size + 1)] #[ptr (w.heap.size + 1), ptr w.heap.size]) rfl _ _ rfl rfl rfl aggP.hi h3 rfl (part_one _ _ _ _) ?_)
  exact bodyPost_ret (results_cell_row rfl _ _ _ _ _ _ _ rfl (h3.setRow (c' := partC 83 85 #[ptr w.heap.size, ptr (w.heap.size + 1)] #[ptr (w.heap.size + 1), ptr w.heap.size])) Tryz.underlying71 rfl aggP.hi) rfl ⟨w.heap.size, w.heap.size + 1, rfl, h1.setRow_other (by omega), h2.setRow_other (by omega), below_setRow hB (by omega) _⟩
set_option maxHeartbeats 1000000 in
theorem numE_any (p : Addr) (more : Int) (w : World) : Calls Tryz.prog 99 #[.pointer (some p), .int .i64 more] w fun e w' => ∃ g h,
    e = .returned (partV 119 120 #[ptr g, ptr h] #[ptr h, ptr g]) ∧ Boxed w' g 114 (.pointer (some p)) ∧ Boxed w' h 3 (.int .i64 more) ∧ Below w.heap.size w w' := by
  have hmf := hmf
  obtain ⟨h1, h2, h3, hB⟩ := three w #[.pointer (some p)] #[.int .i64 more] #[.nilFunc, .nilFunc] 114 3 71
  go_enter Tryz.func99, Tryz.ntmps99
  go_wp2_with (with_reducible show wpList _ _ _ (Oper.mk _ (Op.store _ _ _) _ _ _ _ :: _) _ _
               refine wpList_storeR (c := partC 119 120 #[ptr w.heap.size, ptr (w.heap.size + 1)] #[ptr (w.heap.size + 1), ptr w.heap.size]) rfl _ _ rfl rfl rfl aggP.hi h3 rfl (part_one _ _ _ _) ?_)
  exact bodyPost_ret (results_cell_row rfl _ _ _ _ _ _ _ rfl (h3.setRow (c' := partC 119 120 #[ptr w.heap.size, ptr (w.heap.size + 1)] #[ptr (w.heap.size + 1), ptr w.heap.size])) Tryz.underlying71 rfl aggP.hi) rfl ⟨w.heap.size, w.heap.size + 1, rfl, h1.setRow_other (by omega), h2.setRow_other (by omega), below_setRow hB (by omega) _⟩
set_option maxHeartbeats 1000000 in
theorem text_any (p : Addr) (w : World) : Calls Tryz.prog 94 #[.pointer (some p)] w fun e w' => ∃ g,
    e = .returned (partV 111 113 #[ptr g] #[ptr g]) ∧ Boxed w' g 110 (.pointer (some p)) ∧ Below w.heap.size w w' := by
  have hmf := hmf
  obtain ⟨h1, h3, hB⟩ := two_boxes w #[.pointer (some p)] #[.nilFunc, .nilFunc] 110 71
  go_enter Tryz.func94, Tryz.ntmps94
  go_wp2_with (with_reducible show wpList _ _ _ (Oper.mk _ (Op.store _ _ _) _ _ _ _ :: _) _ _
               refine wpList_storeR (c := partC 111 113 #[ptr w.heap.size] #[ptr w.heap.size]) rfl _ _ rfl rfl rfl aggP.hi h3 rfl (part_one _ _ _ _) ?_)
  exact bodyPost_ret (results_cell_row rfl _ _ _ _ _ _ _ rfl (h3.setRow (c' := partC 111 113 #[ptr w.heap.size] #[ptr w.heap.size])) Tryz.underlying71 rfl aggP.hi) rfl ⟨w.heap.size, rfl, h1.setRow_other (by omega), below_setRow hB (by omega) _⟩
set_option maxHeartbeats 1000000 in
theorem list_any (p : Addr) (w : World) : Calls Tryz.prog 96 #[.pointer (some p)] w fun e w' => ∃ g,
    e = .returned (partV 115 117 #[ptr g] #[ptr g]) ∧ Boxed w' g 112 (.pointer (some p)) ∧ Below w.heap.size w w' := by
  have hmf := hmf
  obtain ⟨h1, h3, hB⟩ := two_boxes w #[.pointer (some p)] #[.nilFunc, .nilFunc] 112 71
  go_enter Tryz.func96, Tryz.ntmps96
  go_wp2_with (with_reducible show wpList _ _ _ (Oper.mk _ (Op.store _ _ _) _ _ _ _ :: _) _ _
               refine wpList_storeR (c := partC 115 117 #[ptr w.heap.size] #[ptr w.heap.size]) rfl _ _ rfl rfl rfl aggP.hi h3 rfl (part_one _ _ _ _) ?_)
  exact bodyPost_ret (results_cell_row rfl _ _ _ _ _ _ _ rfl (h3.setRow (c' := partC 115 117 #[ptr w.heap.size] #[ptr w.heap.size])) Tryz.underlying71 rfl aggP.hi) rfl ⟨w.heap.size, rfl, h1.setRow_other (by omega), below_setRow hB (by omega) _⟩
set_option maxHeartbeats 1000000 in
theorem row_any (A : Option Addr) (n c : Nat) (w : World) : Calls Tryz.prog 110 #[.slice A n c] w fun e w' => ∃ g,
    e = .returned (partV 128 129 #[ptr g] #[ptr g]) ∧ Boxed w' g 94 (.slice A n c) ∧ Below w.heap.size w w' := by
  have hmf := hmf
  obtain ⟨h1, h3, hB⟩ := two_boxes w #[.slice A n c] #[.nilFunc, .nilFunc] 94 71
  go_enter Tryz.func110, Tryz.ntmps110
  go_wp2_with (with_reducible show wpList _ _ _ (Oper.mk _ (Op.store _ _ _) _ _ _ _ :: _) _ _
               refine wpList_storeR (c := partC 128 129 #[ptr w.heap.size] #[ptr w.heap.size]) rfl _ _ rfl rfl rfl aggP.hi h3 rfl (part_one _ _ _ _) ?_)
  exact bodyPost_ret (results_cell_row rfl _ _ _ _ _ _ _ rfl (h3.setRow (c' := partC 128 129 #[ptr w.heap.size] #[ptr w.heap.size])) Tryz.underlying71 rfl aggP.hi) rfl ⟨w.heap.size, rfl, h1.setRow_other (by omega), below_setRow hB (by omega) _⟩
set_option maxHeartbeats 1000000 in
theorem side_any (p : Addr) (f t : FuncId) (cp ct : Array Value) (w : World) : Calls Tryz.prog 101 #[.pointer (some p), partV f t cp ct] w fun e w' => ∃ g h,
    e = .returned (partV 121 122 #[ptr g, ptr h] #[ptr g, ptr h]) ∧ Boxed w' g 114 (.pointer (some p)) ∧ Rw w' h 71 (partC f t cp ct) ∧ Below w.heap.size w w' := by
  have hmf := hmf
  obtain ⟨h1, h2, h3, hB⟩ := three w #[.pointer (some p)] (partC f t cp ct) #[.nilFunc, .nilFunc] 114 71 71
  go_enter Tryz.func101, Tryz.ntmps101
  go_wp2_with (with_reducible show wpList _ _ _ (Oper.mk _ (Op.store _ _ _) _ _ _ _ :: _) _ _
               refine wpList_storeR (c := partC 121 122 #[ptr w.heap.size, ptr (w.heap.size + 1)] #[ptr w.heap.size, ptr (w.heap.size + 1)]) rfl _ _ rfl rfl rfl aggP.hi h3 rfl (part_one _ _ _ _) ?_)
  exact bodyPost_ret (results_cell_row rfl _ _ _ _ _ _ _ rfl (h3.setRow (c' := partC 121 122 #[ptr w.heap.size, ptr (w.heap.size + 1)] #[ptr w.heap.size, ptr (w.heap.size + 1)])) Tryz.underlying71 rfl aggP.hi) rfl ⟨w.heap.size, w.heap.size + 1, rfl, h1.setRow_other (by omega), h2.setRow_other (by omega), below_setRow hB (by omega) _⟩
end Go.Proofs.YtaacjpcckinaiaaGreat
