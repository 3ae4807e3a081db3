/- A truth as a part. -/
import Derived.Test.YtaacjpcckinaiaaGreatWPart
import Derived.Test.YtaacjpcckinaiaaGreatWMath
set_option linter.unusedVariables false
set_option maxRecDepth 100000
set_option linter.unusedSimpArgs false
namespace Go.Proofs.YtaacjpcckinaiaaGreat
open Go.RowKit Go.Shelf Ms

theorem hold_ {P : Program} {ops : Array Oper} {rest : List Oper} {a : Act} {w : World} {Q : Exit → Act → World → Prop} (h : wpList P ops Q rest a w ∧ True) : wpList P ops Q rest a w := h.1

set_option maxHeartbeats 2000000 in
theorem flag_any (p : Addr) (b : Bool) (w : World) (hp : p.block < w.heap.size) (hc : w.cell? p = some (.bool b)) : Calls Tryz.prog 90 #[.pointer (some p)] w fun e w' => ∃ g h n q f,
    e = .returned (partV 87 109 #[ptr g, ptr h] #[ptr q, ptr n, ptr f]) ∧ Boxed w' g 93 (ptr n) ∧ Boxed w' h 3 (.int .i64 0) ∧ Boxed w' n 3 (.int .i64 (b2i b)) ∧
    Rw w' q 71 (partC 87 88 #[ptr g, ptr h] #[ptr h, ptr g]) ∧ Boxed w' f 106 (.pointer (some p)) ∧ w.heap.size ≤ n ∧ Below w.heap.size w w' := by
  have hmf := hmf
  obtain ⟨h1, h2, h3, hB⟩ := three w #[.pointer (some p)] #[.nilFunc, .nilFunc] #[.int .i64 0] 106 71 3
  have hcp : (((w.alloc (.cells #[.pointer (some p)] 106)).alloc (.cells #[.nilFunc, .nilFunc] 71)).alloc (.cells #[.int .i64 0] 3)).cell? p = some (.bool b) := (hB.cell hp).trans hc
  cases b
  · go_enter Tryz.func90, Tryz.ntmps90
    go_wp2_with fail
    refine (numI_any _ _ _).mono ?_
    rintro e w1 ⟨g, h, rfl, hg, hh, hb1⟩
    have k1 := h1.below hb1
    have k2 := h2.below hb1
    have k3 := h3.below hb1
    have hB1 := hB.trans (hb1.mono hB.size)
    have hs1 := hB.size
    have hs2 := hb1.size
    have hgl := hg.lt
    have hhl := hh.lt
    simp only [World.size_alloc] at hs1 hs2
    have r0 := Rw.new w1 #[.nilFunc, .nilFunc] 71
    have r1 := r0.setRow (c' := partC 87 88 #[ptr g, ptr h] #[ptr h, ptr g])
    have hc1 := r1.cell 0
    have k2' : Rw ((w1.alloc (.cells #[.nilFunc, .nilFunc] 71)).setRow w1.heap.size (partC 87 88 #[ptr g, ptr h] #[ptr h, ptr g])) (w.heap.size + 1) 71 #[.nilFunc, .nilFunc] := (k2.alloc _).setRow_other (by omega)
    clear h1 h2 h3 hB hb1 hcp hc
    go_wp2_with (first
      | (with_reducible show wpList _ _ _ (Oper.mk _ (Op.store _ (.tmp 4) _) _ _ _ _ :: _) _ _
         refine wpList_storeR (c := partC 87 88 #[ptr g, ptr h] #[ptr h, ptr g]) rfl _ _ rfl rfl rfl aggP.hi r0 rfl (part_one _ _ _ _) ?_)
      | (with_reducible show wpList _ _ _ (Oper.mk _ (Op.store _ (.tmp 2) _) _ _ _ _ :: _) _ _
         refine wpList_storeR (c := partC 87 109 #[ptr g, ptr h] #[ptr w1.heap.size, ptr (w.heap.size + 1 + 1), ptr w.heap.size]) rfl _ _ rfl rfl rfl aggP.hi k2' rfl (part_one _ _ _ _) ?_))
    refine bodyPost_ret (results_cell_row rfl _ _ _ _ _ _ _ rfl (k2'.setRow (c' := partC 87 109 #[ptr g, ptr h] #[ptr w1.heap.size, ptr (w.heap.size + 1 + 1), ptr w.heap.size])) Tryz.underlying71 rfl aggP.hi) rfl ?_
    have up : ∀ {k : Nat} {t : TypeId} {c : Array Value}, Rw w1 k t c → k ≠ w.heap.size + 1 → Rw (((w1.alloc (.cells #[.nilFunc, .nilFunc] 71)).setRow w1.heap.size (partC 87 88 #[ptr g, ptr h] #[ptr h, ptr g])).setRow (w.heap.size + 1) (partC 87 109 #[ptr g, ptr h] #[ptr w1.heap.size, ptr (w.heap.size + 1 + 1), ptr w.heap.size])) k t c :=
      fun hr hne => ((hr.alloc _).setRow_other (by have := hr.lt; omega)).setRow_other hne
    refine ⟨g, h, w.heap.size + 1 + 1, w1.heap.size, w.heap.size, rfl, up hg ?_, up hh ?_, up k3 (by omega), r1.setRow_other (by omega), up k1 (by omega), by omega, below_setRow (below_setRow (hB1.alloc hB1.size _) (by omega) _) (by omega) _⟩
    · rintro rfl; have := hg.symm.trans k2; simp at this
    · rintro rfl; have := hh.symm.trans k2; simp at this
  · obtain ⟨h1, h2, h3, hB⟩ := three w #[.pointer (some p)] #[.nilFunc, .nilFunc] #[.int .i64 1] 106 71 3
    go_enter Tryz.func90, Tryz.ntmps90
    go_wp2_with fail
    refine (numI_any _ _ _).mono ?_
    rintro e w1 ⟨g, h, rfl, hg, hh, hb1⟩
    have k1 := h1.below hb1
    have k2 := h2.below hb1
    have k3 := h3.below hb1
    have hB1 := hB.trans (hb1.mono hB.size)
    have hs1 := hB.size
    have hs2 := hb1.size
    have hgl := hg.lt
    have hhl := hh.lt
    simp only [World.size_alloc] at hs1 hs2
    have r0 := Rw.new w1 #[.nilFunc, .nilFunc] 71
    have r1 := r0.setRow (c' := partC 87 88 #[ptr g, ptr h] #[ptr h, ptr g])
    have hc1 := r1.cell 0
    have k2' : Rw ((w1.alloc (.cells #[.nilFunc, .nilFunc] 71)).setRow w1.heap.size (partC 87 88 #[ptr g, ptr h] #[ptr h, ptr g])) (w.heap.size + 1) 71 #[.nilFunc, .nilFunc] := (k2.alloc _).setRow_other (by omega)
    clear h1 h2 h3 hB hb1 hcp hc
    go_wp2_with (first
      | (with_reducible show wpList _ _ _ (Oper.mk _ (Op.store _ (.tmp 4) _) _ _ _ _ :: _) _ _
         refine wpList_storeR (c := partC 87 88 #[ptr g, ptr h] #[ptr h, ptr g]) rfl _ _ rfl rfl rfl aggP.hi r0 rfl (part_one _ _ _ _) ?_)
      | (with_reducible show wpList _ _ _ (Oper.mk _ (Op.store _ (.tmp 2) _) _ _ _ _ :: _) _ _
         refine wpList_storeR (c := partC 87 109 #[ptr g, ptr h] #[ptr w1.heap.size, ptr (w.heap.size + 1 + 1), ptr w.heap.size]) rfl _ _ rfl rfl rfl aggP.hi k2' rfl (part_one _ _ _ _) ?_))
    refine bodyPost_ret (results_cell_row rfl _ _ _ _ _ _ _ rfl (k2'.setRow (c' := partC 87 109 #[ptr g, ptr h] #[ptr w1.heap.size, ptr (w.heap.size + 1 + 1), ptr w.heap.size])) Tryz.underlying71 rfl aggP.hi) rfl ?_
    have up : ∀ {k : Nat} {t : TypeId} {c : Array Value}, Rw w1 k t c → k ≠ w.heap.size + 1 → Rw (((w1.alloc (.cells #[.nilFunc, .nilFunc] 71)).setRow w1.heap.size (partC 87 88 #[ptr g, ptr h] #[ptr h, ptr g])).setRow (w.heap.size + 1) (partC 87 109 #[ptr g, ptr h] #[ptr w1.heap.size, ptr (w.heap.size + 1 + 1), ptr w.heap.size])) k t c :=
      fun hr hne => ((hr.alloc _).setRow_other (by have := hr.lt; omega)).setRow_other hne
    refine ⟨g, h, w.heap.size + 1 + 1, w1.heap.size, w.heap.size, rfl, up hg ?_, up hh ?_, up k3 (by omega), r1.setRow_other (by omega), up k1 (by omega), by omega, below_setRow (below_setRow (hB1.alloc hB1.size _) (by omega) _) (by omega) _⟩
    · rintro rfl; have := hg.symm.trans k2; simp at this
    · rintro rfl; have := hh.symm.trans k2; simp at this
end Go.Proofs.YtaacjpcckinaiaaGreat
