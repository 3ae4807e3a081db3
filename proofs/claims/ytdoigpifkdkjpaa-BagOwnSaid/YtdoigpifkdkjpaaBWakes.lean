/- What the document says of nothing, of two datagrams. -/
import Derived.Test.YtdoigpifkdkjpaaBRHarm
import Derived.Test.YtdoigpifkdkjpaaBSame
import Derived.Test.YtdoigpifkdkjpaaBOpen
set_option linter.unusedVariables false
set_option maxRecDepth 100000
set_option linter.unusedSimpArgs false
namespace Go.Proofs.Ytdoigpifkdkjpaa
open Go.RowKit Go.Shelf Ms

def gA : Gr := ⟨3, [1, 2], false⟩
def gB : Gr := ⟨4, [], false⟩
def gL : Gr := ⟨3, List.replicate 121 0, false⟩
def gH : Gr := ⟨3, [1, 10], true⟩
theorem wk_send : sendS ([], 0) [gA, gB, gL] = ([gA, gB], 1) := by
  simp [sendS, sentS, gA, gB, gL]
  decide
theorem wk_twice : twiceS [gA, gB] 1 0 = ([gA, gB, gA], 1, 0) := by
  simp [twiceS, pick, sentS, gA, gB]
theorem wk_harm : harmT [gA, gB, gA] 1 2 1 8 = ([gA, gB, gH], 1, 0) := by
  simp [harmT, pick, mayHarm, harmS, gA, gB, gH]
  decide
theorem wk_harm2 : harmT [gA, gB, gH] 1 2 0 8 = ([gA, gB, gH], 1, 2) := by
  simp [harmT, pick, mayHarm, gA, gB, gH]
theorem wk_take : takeS [gA, gB, gH] 2 = ([gA, gB], gH, true) := by
  simp [takeS, pick, butK]
theorem wk_take0 : takeS [] 0 = ([], noG, false) := by
  simp [takeS, pick]
theorem wk_drop : dropS [gA, gB] 1 1 = ([gA], 2, 0) := by
  simp [dropS, pick, butK]
  decide
theorem wk_for : forK [gA, gB, gH] 3 3 = [0, 2] := by
  decide
theorem wk_len : ∀ g ∈ [gA, gB, gH], g.bytes.length ≤ 1000 := by decide
section
variable {P : Program} {ops : Array Oper} {rest : List Oper} {o : Oper} {a : Act} {w : World} {Q : Exit → Act → World → Prop}
theorem wpList_buildS {ty : TypeId} {n : Nat} (hw : Region.wanted o (yielded ops a.tmps) = true) (parts : List (Nat × Operand)) (ho : o.op = .buildSlice ty n parts.toArray) {vals : List (Nat × Value)} (hv : parts.map (fun p => (p.1, a.eval p.2)) = vals) {v : Value} {w' : World} (hr : (Instr.buildSlice ty n vals.toArray).run P w = .ok v w')
    (h : wpList P ops Q rest (a.put o.dst v) w') : wpList P ops Q (o :: rest) a w := by
  refine wpList_step fun K hK => ?_
  rw [if_pos hw]
  unfold Oper.wp execOp
  subst hv
  simp only [ho, Sem.run_bind, Sem.run_pure, Result.andThen_ok, List.map_toArray, hr]
  exact hK _ _ h
end
theorem run_three (a b c : Gr) (u v x : Value) (w : World) : (Instr.buildSlice 22 3 #[(0, .agg (a.c u)), (1, .agg (b.c v)), (2, .agg (c.c x))]).run Try.prog w = .ok (.slice (some ⟨w.heap.size, 0, none⟩) 3 3) (w.alloc (.cells (cellsG [(a, u), (b, v), (c, x)]).toArray 29)) :=
  run_buildSlice w 22 29 3 _ _ _ _ (by kernel_rfl) rfl rfl (by decide) (by decide) (by kernel_rfl)
theorem run_two8 (m n : Int) (w : World) : (Instr.buildSlice 27 2 #[(0, .int .u8 m), (1, .int .u8 n)]).run Try.prog w = .ok (.slice (some ⟨w.heap.size, 0, none⟩) 2 2) (w.alloc (.cells #[.int .u8 m, .int .u8 n] 5)) :=
  run_buildSlice w 27 5 2 _ _ _ _ (by kernel_rfl) rfl rfl (by decide) (by decide) (by kernel_rfl)
/-- A row of structs that was written out. -/
theorem swG_lit (ps : List (Gr × Value)) (w : World) (h : ∀ q ∈ ps, Sw w q.2 (bv q.1.bytes)) (h0 : ps ≠ []) (hn : ps.length ≤ 1000) : SwG (w.alloc (.cells (cellsG ps).toArray 29)) (.slice (some ⟨w.heap.size, 0, none⟩) ps.length ps.length) (ps.map (·.1)) := by
  have hr := Rw.new w (cellsG ps).toArray 29
  refine .inr ⟨w.heap.size, 0, ps.length, by rw [List.length_map], by simpa using h0, by simp, by unfold maxLen; omega, by simp, fun j hj => ?_⟩
  have hj' : j < ps.length := by simpa using hj
  obtain ⟨c0, c1, c2⟩ := cellsG_get ps j hj'
  have key : ∀ k x, (cellsG ps)[k]? = some x → (w.alloc (.cells (cellsG ps).toArray 29)).cell? ⟨w.heap.size, k, none⟩ = some x := fun k x hx => by rw [hr.cell]; simpa using hx
  rw [Nat.zero_add, List.getElem_map]
  exact ⟨key _ _ c0, ⟨_, key _ _ c1, (h _ (List.getElem_mem hj')).below (box_below w _)⟩, key _ _ c2⟩

set_option maxHeartbeats 8000000 in
theorem wakes_any (w : World) : Calls Try.prog 9 #[] w fun e w' => e = .returned (.bool true) ∧ Below w.heap.size w w' := by
  go_enter Try.func9, Try.ntmps9
  simp only [List.append_eq, List.cons_append, List.nil_append]
  go_wp2_with fail
  refine (Take_any nilB 0 [] 0 w (SwG.nil_ w) (by simp) (by simp)).mono ?_; rintro e w1 ⟨A1, q1, d1, u1, rfl, hm1, ho1⟩
  rw [wk_take0] at ho1 ⊢
  have ob := gr_one' (g := noG) (Sw.of_sl (Sl.of_own ho1))
  have hb := hm1.below
  clear hm1 ho1
  obtain ⟨r1, r2, B1⟩ := two_boxes w1 (bagC nilB 0) (noG.c nilB) 24 29
  have HR := Lib.hid (And.intro r1 (And.intro r2 (And.intro B1 (And.intro ob hb))))
  clear r1 r2 B1 ob hb
  go_wp2_with (first
    | (with_reducible show wpList _ _ _ (Oper.mk _ (Op.store 24 (.tmp 1) _) _ _ _ _ :: _) _ _
       refine wpList_storeR (c := bagC (.slice A1 q1 d1) 0) rfl _ _ rfl rfl rfl aggB.hi HR.out.1 rfl (bag_one _ _ _ _) ?_)
    | (with_reducible show wpList _ _ _ (Oper.mk _ (Op.store 29 (.tmp 2) _) _ _ _ _ :: _) _ _
       refine wpList_storeR (c := noG.c u1) rfl _ _ rfl rfl rfl aggG.hi (HR.out.2.1.setRow_other (by omega)) rfl HR.out.2.2.2.1 ?_
       refine gen_w (fun X => Below w.heap.size w X) (below_setRow (below_setRow (HR.out.2.2.2.2.trans (HR.out.2.2.1.mono HR.out.2.2.2.2.size)) (by have := HR.out.2.2.2.2.size; omega) _) (by have := HR.out.2.2.2.2.size; omega) _) ?_
       clear HR
       rintro X hX
       have HX := Lib.hid hX
       clear hX)
    | (with_reducible show wpList _ _ _ (Oper.mk _ (Op.buildSlice 27 _ _) _ _ _ _ :: _) _ _
       refine wpList_buildS rfl [(0, .const (.int .u8 1)), (1, .const (.int .u8 2))] rfl rfl (run_two8 1 2 X) ?_)
    | (with_reducible show wpList _ _ _ (Oper.mk _ (Op.makeSlice _ _ _) _ _ _ _ :: _) _ _
       refine wpList_zeros elB rfl rfl _ _ rfl 121 rfl rfl (by decide) (by decide) ?_
       intro X2 hX2))
  have hsz : (X.alloc (.cells #[.int .u8 1, .int .u8 2] 5)).heap.size = X.heap.size + 1 := by simp
  have sA : Sw X2 (.slice (some ⟨X.heap.size, 0, none⟩) 2 2) (bv gA.bytes) := (Sw.of_sl (Sl.lit X (bv gA.bytes) 5 2 rfl (by decide))).below hX2.below
  have sL : Sw X2 (.slice (some ⟨X.heap.size + 1, 0, none⟩) 121 121) (bv gL.bytes) := by
    have h := Sw.of_sl hX2.sl
    rw [hsz] at h
    exact h
  have hs3 := swG_lit [(gA, .slice (some ⟨X.heap.size, 0, none⟩) 2 2), (gB, nilB), (gL, .slice (some ⟨X.heap.size + 1, 0, none⟩) 121 121)] X2 (by
    intro q hq
    simp at hq
    rcases hq with rfl | rfl | rfl
    · exact sA
    · exact .inl (Sl.nil_ X2)
    · exact sL) (by simp) (by simp)
  have hb3 : Below w.heap.size w X2 := HX.out.trans ((((box_below X (.cells #[.int .u8 1, .int .u8 2] 5)).trans (hX2.below.mono (by simp)))).mono HX.out.size)
  have hb3' := hb3.alloc hb3.size (.cells (cellsG [(gA, .slice (some ⟨X.heap.size, 0, none⟩) 2 2), (gB, nilB), (gL, .slice (some ⟨X.heap.size + 1, 0, none⟩) 121 121)]).toArray 29)
  clear hsz sA sL hX2 HX
  refine (Send_any nilB 0 [] (.slice (some ⟨X2.heap.size, 0, none⟩) 3 3) [gA, gB, gL] _ (SwG.nil_ _) hs3 (by simp) (by simp)).mono ?_; rintro e w4 ⟨A4, q4, d4, rfl, hm4⟩
  rw [wk_send] at hm4 ⊢
  dsimp only at hm4
  have s4 := hm4.swG
  have hb4 := hb3'.trans (hm4.below.mono hb3'.size)
  have F := Lib.hid (And.intro s4 hb4)
  clear s4 hb4 hm4 hb3 hb3' hs3
  have bX : Below w4.heap.size w4 ((w4.alloc (.cells (bagC nilB 0) 24)).setRow w4.heap.size (bagC (.slice A4 q4 d4) 1)) := below_setRow (box_below w4 _) (Nat.le_refl _) _
  go_wp2_with (first
    | (with_reducible show wpList _ _ _ (Oper.mk _ (Op.store 24 (.tmp 4) _) _ _ _ _ :: _) _ _
       refine wpList_storeR (c := bagC (.slice A4 q4 d4) 1) rfl _ _ rfl rfl rfl aggB.hi (Rw.new w4 (bagC nilB 0) 24) rfl (bag_one _ _ _ _) ?_
       refine gen_w (fun Z => SwG Z (.slice A4 q4 d4) [gA, gB] ∧ Rw Z w4.heap.size 24 (bagC (.slice A4 q4 d4) 1) ∧ Below w.heap.size w Z) ⟨(F.out.1).below bX, (Rw.new w4 (bagC nilB 0) 24).setRow, (F.out.2).trans ((bX).mono (F.out.2).size)⟩ ?_
       rintro X4 hF
       clear F bX
       have F := Lib.hid hF
       clear hF
       generalize w4.heap.size = b4 at *)
    | (with_reducible show wpList _ _ _ (Oper.mk _ (Op.load 24 (.tmp 4)) _ _ _ _ :: _) _ _
       refine wpList_loadW (F.out.2.1) aggB rfl _ rfl rfl ?_))
  refine (Twice_any _ 1 [gA, gB] 0 X4 (F.out.1) (by decide) (by decide)).mono ?_; rintro e w5 ⟨A5, q5, d5, rfl, hm⟩
  rw [wk_twice] at hm ⊢
  dsimp only at hm
  have F2 := Lib.hid (show SwG w5 (.slice A4 q4 d4) [gA, gB] ∧ Rw w5 b4 24 (bagC (.slice A4 q4 d4) 1) ∧ SwG w5 (.slice A5 q5 d5) [gA, gB, gA] ∧ Below w.heap.size w w5 from ⟨(F.out.1).below hm.below, (F.out.2.1).below hm.below, hm.swG, (F.out.2.2).trans ((hm.below).mono (F.out.2.2).size)⟩)
  clear F hm
  have F := F2
  clear F2
  have bX : Below w5.heap.size w5 ((w5.alloc (.cells (bagC nilB 0) 24)).setRow w5.heap.size (bagC (.slice A5 q5 d5) 1)) := below_setRow (box_below w5 _) (Nat.le_refl _) _
  go_wp2_with (first
    | (with_reducible show wpList _ _ _ (Oper.mk _ (Op.store 24 (.tmp 5) _) _ _ _ _ :: _) _ _
       refine wpList_storeR (c := bagC (.slice A5 q5 d5) 1) rfl _ _ rfl rfl rfl aggB.hi (Rw.new w5 (bagC nilB 0) 24) rfl (bag_one _ _ _ _) ?_
       refine gen_w (fun Z => SwG Z (.slice A4 q4 d4) [gA, gB] ∧ Rw Z b4 24 (bagC (.slice A4 q4 d4) 1) ∧ SwG Z (.slice A5 q5 d5) [gA, gB, gA] ∧ Rw Z w5.heap.size 24 (bagC (.slice A5 q5 d5) 1) ∧ Below w.heap.size w Z) ⟨(F.out.1).below bX, (F.out.2.1).below bX, (F.out.2.2.1).below bX, (Rw.new w5 (bagC nilB 0) 24).setRow, (F.out.2.2.2).trans ((bX).mono (F.out.2.2.2).size)⟩ ?_
       rintro X5 hF
       clear F bX
       have F := Lib.hid hF
       clear hF
       generalize w5.heap.size = b5 at *)
    | (with_reducible show wpList _ _ _ (Oper.mk _ (Op.load 24 (.tmp 5)) _ _ _ _ :: _) _ _
       refine wpList_loadW (F.out.2.2.2.1) aggB rfl _ rfl rfl ?_))
  refine (Harm_any _ 1 [gA, gB, gA] 2 1 8 X5 (F.out.2.2.1) (by decide) (by decide)).mono ?_; rintro e w7 ⟨A7, q7, d7, rfl, hm⟩
  rw [wk_harm] at hm ⊢
  dsimp only at hm
  have F2 := Lib.hid (show SwG w7 (.slice A4 q4 d4) [gA, gB] ∧ Rw w7 b4 24 (bagC (.slice A4 q4 d4) 1) ∧ SwG w7 (.slice A5 q5 d5) [gA, gB, gA] ∧ Rw w7 b5 24 (bagC (.slice A5 q5 d5) 1) ∧ SwG w7 (.slice A7 q7 d7) [gA, gB, gH] ∧ Below w.heap.size w w7 from ⟨(F.out.1).below hm.below, (F.out.2.1).below hm.below, (F.out.2.2.1).below hm.below, (F.out.2.2.2.1).below hm.below, hm.swG, (F.out.2.2.2.2).trans ((hm.below).mono (F.out.2.2.2.2).size)⟩)
  clear F hm
  have F := F2
  clear F2
  have bX : Below w7.heap.size w7 ((w7.alloc (.cells (bagC nilB 0) 24)).setRow w7.heap.size (bagC (.slice A7 q7 d7) 1)) := below_setRow (box_below w7 _) (Nat.le_refl _) _
  go_wp2_with (first
    | (with_reducible show wpList _ _ _ (Oper.mk _ (Op.store 24 (.tmp 7) _) _ _ _ _ :: _) _ _
       refine wpList_storeR (c := bagC (.slice A7 q7 d7) 1) rfl _ _ rfl rfl rfl aggB.hi (Rw.new w7 (bagC nilB 0) 24) rfl (bag_one _ _ _ _) ?_
       refine gen_w (fun Z => SwG Z (.slice A4 q4 d4) [gA, gB] ∧ Rw Z b4 24 (bagC (.slice A4 q4 d4) 1) ∧ SwG Z (.slice A5 q5 d5) [gA, gB, gA] ∧ Rw Z b5 24 (bagC (.slice A5 q5 d5) 1) ∧ SwG Z (.slice A7 q7 d7) [gA, gB, gH] ∧ Rw Z w7.heap.size 24 (bagC (.slice A7 q7 d7) 1) ∧ Below w.heap.size w Z) ⟨(F.out.1).below bX, (F.out.2.1).below bX, (F.out.2.2.1).below bX, (F.out.2.2.2.1).below bX, (F.out.2.2.2.2.1).below bX, (Rw.new w7 (bagC nilB 0) 24).setRow, (F.out.2.2.2.2.2).trans ((bX).mono (F.out.2.2.2.2.2).size)⟩ ?_
       rintro X7 hF
       clear F bX
       have F := Lib.hid hF
       clear hF
       generalize w7.heap.size = b7 at *)
    | (with_reducible show wpList _ _ _ (Oper.mk _ (Op.load 24 (.tmp 7)) _ _ _ _ :: _) _ _
       refine wpList_loadW (F.out.2.2.2.2.2.1) aggB rfl _ rfl rfl ?_))
  refine (Harm_any _ 1 [gA, gB, gH] 2 0 8 X7 (F.out.2.2.2.2.1) (by decide) (by decide)).mono ?_; rintro e w9 ⟨A9, q9, d9, rfl, hm⟩
  rw [wk_harm2] at hm ⊢
  dsimp only at hm
  have F2 := Lib.hid (show SwG w9 (.slice A4 q4 d4) [gA, gB] ∧ Rw w9 b4 24 (bagC (.slice A4 q4 d4) 1) ∧ SwG w9 (.slice A5 q5 d5) [gA, gB, gA] ∧ Rw w9 b5 24 (bagC (.slice A5 q5 d5) 1) ∧ SwG w9 (.slice A7 q7 d7) [gA, gB, gH] ∧ Rw w9 b7 24 (bagC (.slice A7 q7 d7) 1) ∧ SwG w9 (.slice A9 q9 d9) [gA, gB, gH] ∧ Below w.heap.size w w9 from ⟨(F.out.1).below hm.below, (F.out.2.1).below hm.below, (F.out.2.2.1).below hm.below, (F.out.2.2.2.1).below hm.below, (F.out.2.2.2.2.1).below hm.below, (F.out.2.2.2.2.2.1).below hm.below, hm.swG, (F.out.2.2.2.2.2.2).trans ((hm.below).mono (F.out.2.2.2.2.2.2).size)⟩)
  clear F hm
  have F := F2
  clear F2
  have bX : Below w9.heap.size w9 ((w9.alloc (.cells (bagC nilB 0) 24)).setRow w9.heap.size (bagC (.slice A9 q9 d9) 1)) := below_setRow (box_below w9 _) (Nat.le_refl _) _
  go_wp2_with (first
    | (with_reducible show wpList _ _ _ (Oper.mk _ (Op.store 24 (.tmp 9) _) _ _ _ _ :: _) _ _
       refine wpList_storeR (c := bagC (.slice A9 q9 d9) 1) rfl _ _ rfl rfl rfl aggB.hi (Rw.new w9 (bagC nilB 0) 24) rfl (bag_one _ _ _ _) ?_
       refine gen_w (fun Z => SwG Z (.slice A4 q4 d4) [gA, gB] ∧ Rw Z b4 24 (bagC (.slice A4 q4 d4) 1) ∧ SwG Z (.slice A5 q5 d5) [gA, gB, gA] ∧ Rw Z b5 24 (bagC (.slice A5 q5 d5) 1) ∧ SwG Z (.slice A7 q7 d7) [gA, gB, gH] ∧ Rw Z b7 24 (bagC (.slice A7 q7 d7) 1) ∧ SwG Z (.slice A9 q9 d9) [gA, gB, gH] ∧ Rw Z w9.heap.size 24 (bagC (.slice A9 q9 d9) 1) ∧ Below w.heap.size w Z) ⟨(F.out.1).below bX, (F.out.2.1).below bX, (F.out.2.2.1).below bX, (F.out.2.2.2.1).below bX, (F.out.2.2.2.2.1).below bX, (F.out.2.2.2.2.2.1).below bX, (F.out.2.2.2.2.2.2.1).below bX, (Rw.new w9 (bagC nilB 0) 24).setRow, (F.out.2.2.2.2.2.2.2).trans ((bX).mono (F.out.2.2.2.2.2.2.2).size)⟩ ?_
       rintro X9 hF
       clear F bX
       have F := Lib.hid hF
       clear hF
       generalize w9.heap.size = b9 at *)
    | (with_reducible show wpList _ _ _ (Oper.mk _ (Op.load 24 (.tmp 7)) _ _ _ _ :: _) _ _
       refine wpList_loadW (F.out.2.2.2.2.2.1) aggB rfl _ rfl rfl ?_))
  refine (Take_any _ 1 [gA, gB, gH] 2 X9 (F.out.2.2.2.2.1) (by decide) (by decide)).mono ?_; rintro e w11 ⟨A11, q11, d11, u12, rfl, hm, hu⟩
  rw [wk_take] at hm hu ⊢
  dsimp only at hm hu
  obtain ⟨A12, c12, rfl⟩ : ∃ A c, u12 = .slice A 2 c := (Sl.of_own hu).form
  have F2 := Lib.hid (show SwG w11 (.slice A4 q4 d4) [gA, gB] ∧ Rw w11 b4 24 (bagC (.slice A4 q4 d4) 1) ∧ SwG w11 (.slice A5 q5 d5) [gA, gB, gA] ∧ Rw w11 b5 24 (bagC (.slice A5 q5 d5) 1) ∧ SwG w11 (.slice A7 q7 d7) [gA, gB, gH] ∧ Rw w11 b7 24 (bagC (.slice A7 q7 d7) 1) ∧ SwG w11 (.slice A9 q9 d9) [gA, gB, gH] ∧ Rw w11 b9 24 (bagC (.slice A9 q9 d9) 1) ∧ SwG w11 (.slice A11 q11 d11) [gA, gB] ∧ Sl w11 (.slice A12 2 c12) (bv gH.bytes) ∧ Below w.heap.size w w11 from ⟨(F.out.1).below hm.below, (F.out.2.1).below hm.below, (F.out.2.2.1).below hm.below, (F.out.2.2.2.1).below hm.below, (F.out.2.2.2.2.1).below hm.below, (F.out.2.2.2.2.2.1).below hm.below, (F.out.2.2.2.2.2.2.1).below hm.below, (F.out.2.2.2.2.2.2.2.1).below hm.below, hm.swG, Sl.of_own hu, (F.out.2.2.2.2.2.2.2.2).trans ((hm.below).mono (F.out.2.2.2.2.2.2.2.2).size)⟩)
  clear F hm hu
  have F := F2
  clear F2
  obtain ⟨r1, r2, B1⟩ := two_boxes w11 (bagC nilB 0) (noG.c nilB) 24 29
  have bX : Below w11.heap.size w11 ((((w11.alloc (.cells (bagC nilB 0) 24)).alloc (.cells (noG.c nilB) 29)).setRow w11.heap.size (bagC (.slice A11 q11 d11) 1)).setRow (w11.heap.size + 1) (gH.c (.slice A12 2 c12))) := below_setRow (below_setRow B1 (Nat.le_refl _) _) (by omega) _
  have HRR := Lib.hid (And.intro r1 r2)
  clear r1 r2 B1
  go_wp2_with (first
    | (with_reducible show wpList _ _ _ (Oper.mk _ (Op.store 24 (.tmp 11) _) _ _ _ _ :: _) _ _
       refine wpList_storeR (c := bagC (.slice A11 q11 d11) 1) rfl _ _ rfl rfl rfl aggB.hi HRR.out.1 rfl (bag_one _ _ _ _) ?_)
    | (with_reducible show wpList _ _ _ (Oper.mk _ (Op.store 29 (.tmp 12) _) _ _ _ _ :: _) _ _
       refine wpList_storeR (c := gH.c (.slice A12 2 c12)) rfl _ _ rfl rfl rfl aggG.hi (HRR.out.2.setRow_other (by omega)) rfl (Gr.one _ _ _ _) ?_
       refine gen_w (fun Z => SwG Z (.slice A4 q4 d4) [gA, gB] ∧ Rw Z b4 24 (bagC (.slice A4 q4 d4) 1) ∧ SwG Z (.slice A5 q5 d5) [gA, gB, gA] ∧ Rw Z b5 24 (bagC (.slice A5 q5 d5) 1) ∧ SwG Z (.slice A7 q7 d7) [gA, gB, gH] ∧ Rw Z b7 24 (bagC (.slice A7 q7 d7) 1) ∧ SwG Z (.slice A9 q9 d9) [gA, gB, gH] ∧ Rw Z b9 24 (bagC (.slice A9 q9 d9) 1) ∧ SwG Z (.slice A11 q11 d11) [gA, gB] ∧ Sl Z (.slice A12 2 c12) (bv gH.bytes) ∧ Rw Z w11.heap.size 24 (bagC (.slice A11 q11 d11) 1) ∧ Rw Z (w11.heap.size + 1) 29 (gH.c (.slice A12 2 c12)) ∧ Below w.heap.size w Z) ⟨(F.out.1).below bX, (F.out.2.1).below bX, (F.out.2.2.1).below bX, (F.out.2.2.2.1).below bX, (F.out.2.2.2.2.1).below bX, (F.out.2.2.2.2.2.1).below bX, (F.out.2.2.2.2.2.2.1).below bX, (F.out.2.2.2.2.2.2.2.1).below bX, (F.out.2.2.2.2.2.2.2.2.1).below bX, (F.out.2.2.2.2.2.2.2.2.2.1).below bX, HRR.out.1.setRow.setRow_other (by omega), (HRR.out.2.setRow_other (by omega)).setRow, (F.out.2.2.2.2.2.2.2.2.2.2).trans ((bX).mono (F.out.2.2.2.2.2.2.2.2.2.2).size)⟩ ?_
       rintro X11 hF
       clear F bX HRR
       have F := Lib.hid hF
       clear hF
       generalize w11.heap.size = b11 at *)
    | (with_reducible show wpList _ _ _ (Oper.mk _ (Op.load 24 (.tmp 11)) _ _ _ _ :: _) _ _
       refine wpList_loadW (F.out.2.2.2.2.2.2.2.2.2.2.1) aggB rfl _ rfl rfl ?_))
  refine (Drop_any _ 1 [gA, gB] 1 X11 (F.out.2.2.2.2.2.2.2.2.1) (by decide) (by decide)).mono ?_; rintro e w14 ⟨A14, q14, d14, rfl, hm⟩
  rw [wk_drop] at hm ⊢
  dsimp only at hm
  have F2 := Lib.hid (show SwG w14 (.slice A4 q4 d4) [gA, gB] ∧ Rw w14 b4 24 (bagC (.slice A4 q4 d4) 1) ∧ SwG w14 (.slice A5 q5 d5) [gA, gB, gA] ∧ Rw w14 b5 24 (bagC (.slice A5 q5 d5) 1) ∧ SwG w14 (.slice A7 q7 d7) [gA, gB, gH] ∧ Rw w14 b7 24 (bagC (.slice A7 q7 d7) 1) ∧ SwG w14 (.slice A9 q9 d9) [gA, gB, gH] ∧ Rw w14 b9 24 (bagC (.slice A9 q9 d9) 1) ∧ SwG w14 (.slice A11 q11 d11) [gA, gB] ∧ Sl w14 (.slice A12 2 c12) (bv gH.bytes) ∧ Rw w14 b11 24 (bagC (.slice A11 q11 d11) 1) ∧ Rw w14 (b11 + 1) 29 (gH.c (.slice A12 2 c12)) ∧ SwG w14 (.slice A14 q14 d14) [gA] ∧ Below w.heap.size w w14 from ⟨(F.out.1).below hm.below, (F.out.2.1).below hm.below, (F.out.2.2.1).below hm.below, (F.out.2.2.2.1).below hm.below, (F.out.2.2.2.2.1).below hm.below, (F.out.2.2.2.2.2.1).below hm.below, (F.out.2.2.2.2.2.2.1).below hm.below, (F.out.2.2.2.2.2.2.2.1).below hm.below, (F.out.2.2.2.2.2.2.2.2.1).below hm.below, (F.out.2.2.2.2.2.2.2.2.2.1).below hm.below, (F.out.2.2.2.2.2.2.2.2.2.2.1).below hm.below, (F.out.2.2.2.2.2.2.2.2.2.2.2.1).below hm.below, hm.swG, (F.out.2.2.2.2.2.2.2.2.2.2.2.2).trans ((hm.below).mono (F.out.2.2.2.2.2.2.2.2.2.2.2.2).size)⟩)
  clear F hm
  have F := F2
  clear F2
  obtain rfl : q14 = 1 := by
    obtain ⟨_, _, h⟩ := (F.out.2.2.2.2.2.2.2.2.2.2.2.2.1).form
    injection h
  have bX : Below w14.heap.size w14 ((w14.alloc (.cells (bagC nilB 0) 24)).setRow w14.heap.size (bagC (.slice A14 1 d14) 2)) := below_setRow (box_below w14 _) (Nat.le_refl _) _
  go_wp2_with (first
    | (with_reducible show wpList _ _ _ (Oper.mk _ (Op.store 24 (.tmp 14) _) _ _ _ _ :: _) _ _
       refine wpList_storeR (c := bagC (.slice A14 1 d14) 2) rfl _ _ rfl rfl rfl aggB.hi (Rw.new w14 (bagC nilB 0) 24) rfl (bag_one _ _ _ _) ?_
       refine gen_w (fun Z => SwG Z (.slice A4 q4 d4) [gA, gB] ∧ Rw Z b4 24 (bagC (.slice A4 q4 d4) 1) ∧ SwG Z (.slice A5 q5 d5) [gA, gB, gA] ∧ Rw Z b5 24 (bagC (.slice A5 q5 d5) 1) ∧ SwG Z (.slice A7 q7 d7) [gA, gB, gH] ∧ Rw Z b7 24 (bagC (.slice A7 q7 d7) 1) ∧ SwG Z (.slice A9 q9 d9) [gA, gB, gH] ∧ Rw Z b9 24 (bagC (.slice A9 q9 d9) 1) ∧ SwG Z (.slice A11 q11 d11) [gA, gB] ∧ Sl Z (.slice A12 2 c12) (bv gH.bytes) ∧ Rw Z b11 24 (bagC (.slice A11 q11 d11) 1) ∧ Rw Z (b11 + 1) 29 (gH.c (.slice A12 2 c12)) ∧ SwG Z (.slice A14 1 d14) [gA] ∧ Rw Z w14.heap.size 24 (bagC (.slice A14 1 d14) 2) ∧ Below w.heap.size w Z) ⟨(F.out.1).below bX, (F.out.2.1).below bX, (F.out.2.2.1).below bX, (F.out.2.2.2.1).below bX, (F.out.2.2.2.2.1).below bX, (F.out.2.2.2.2.2.1).below bX, (F.out.2.2.2.2.2.2.1).below bX, (F.out.2.2.2.2.2.2.2.1).below bX, (F.out.2.2.2.2.2.2.2.2.1).below bX, (F.out.2.2.2.2.2.2.2.2.2.1).below bX, (F.out.2.2.2.2.2.2.2.2.2.2.1).below bX, (F.out.2.2.2.2.2.2.2.2.2.2.2.1).below bX, (F.out.2.2.2.2.2.2.2.2.2.2.2.2.1).below bX, (Rw.new w14 (bagC nilB 0) 24).setRow, (F.out.2.2.2.2.2.2.2.2.2.2.2.2.2).trans ((bX).mono (F.out.2.2.2.2.2.2.2.2.2.2.2.2.2).size)⟩ ?_
       rintro X14 hF
       clear F bX
       have F := Lib.hid hF
       clear hF
       generalize w14.heap.size = b14 at *)
    | (with_reducible show wpList _ _ _ (Oper.mk _ (Op.load 24 (.tmp 7)) _ _ _ _ :: _) _ _
       refine wpList_loadW (F.out.2.2.2.2.2.1) aggB rfl _ rfl rfl ?_))
  refine (For_any _ 1 [gA, gB, gH] 3 X14 (F.out.2.2.2.2.1) (by decide)).mono ?_; rintro e w16 ⟨v16, rfl, hm⟩
  have hm : Made X14 w16 3 v16 (iv [0, 2]) := hm
  obtain ⟨A16, c16, rfl⟩ : ∃ A c, v16 = .slice A 2 c := hm.sl.form
  have F2 := Lib.hid (show SwG w16 (.slice A4 q4 d4) [gA, gB] ∧ Rw w16 b4 24 (bagC (.slice A4 q4 d4) 1) ∧ SwG w16 (.slice A5 q5 d5) [gA, gB, gA] ∧ Rw w16 b5 24 (bagC (.slice A5 q5 d5) 1) ∧ SwG w16 (.slice A7 q7 d7) [gA, gB, gH] ∧ Rw w16 b7 24 (bagC (.slice A7 q7 d7) 1) ∧ SwG w16 (.slice A9 q9 d9) [gA, gB, gH] ∧ Rw w16 b9 24 (bagC (.slice A9 q9 d9) 1) ∧ SwG w16 (.slice A11 q11 d11) [gA, gB] ∧ Sl w16 (.slice A12 2 c12) (bv gH.bytes) ∧ Rw w16 b11 24 (bagC (.slice A11 q11 d11) 1) ∧ Rw w16 (b11 + 1) 29 (gH.c (.slice A12 2 c12)) ∧ SwG w16 (.slice A14 1 d14) [gA] ∧ Rw w16 b14 24 (bagC (.slice A14 1 d14) 2) ∧ Sl w16 (.slice A16 2 c16) (iv [0, 2]) ∧ Below w.heap.size w w16 from ⟨(F.out.1).below hm.below, (F.out.2.1).below hm.below, (F.out.2.2.1).below hm.below, (F.out.2.2.2.1).below hm.below, (F.out.2.2.2.2.1).below hm.below, (F.out.2.2.2.2.2.1).below hm.below, (F.out.2.2.2.2.2.2.1).below hm.below, (F.out.2.2.2.2.2.2.2.1).below hm.below, (F.out.2.2.2.2.2.2.2.2.1).below hm.below, (F.out.2.2.2.2.2.2.2.2.2.1).below hm.below, (F.out.2.2.2.2.2.2.2.2.2.2.1).below hm.below, (F.out.2.2.2.2.2.2.2.2.2.2.2.1).below hm.below, (F.out.2.2.2.2.2.2.2.2.2.2.2.2.1).below hm.below, (F.out.2.2.2.2.2.2.2.2.2.2.2.2.2.1).below hm.below, hm.sl, (F.out.2.2.2.2.2.2.2.2.2.2.2.2.2.2).trans ((hm.below).mono (F.out.2.2.2.2.2.2.2.2.2.2.2.2.2.2).size)⟩)
  clear F hm
  have F := F2
  clear F2
  obtain rfl : q4 = 2 := by
    obtain ⟨_, _, h⟩ := (F.out.1).form
    injection h
  have c12' := (F.out.2.2.2.2.2.2.2.2.2.2.2.1).cell
  have c14' := (F.out.2.2.2.2.2.2.2.2.2.2.2.2.2.1).cell
  have c4' := (F.out.2.1).cell
  obtain ⟨bb, ob, rfl, _, xb⟩ := (F.out.2.2.2.2.2.2.2.2.2.1).at_ 1 (by decide)
  obtain ⟨bi, oi, rfl, xi⟩ : ∃ b off, A16 = some ⟨b, off, none⟩ ∧ w16.cell? ⟨b, off + 1, none⟩ = some (.int .i64 2) := by
    have h := F.out.2.2.2.2.2.2.2.2.2.2.2.2.2.2.1
    obtain ⟨b, off, rfl⟩ := h.some_ (by decide)
    exact ⟨b, off, rfl, h.parts.2.2.2.2 1 _ rfl⟩
  have xb : w16.cell? ⟨bb, ob + 1, none⟩ = some (.int .u8 10) := xb
  go_wp2_with (first
    | (with_reducible show wpList _ _ _ (Oper.mk _ (Op.load 24 (.tmp 11)) _ _ _ _ :: _) _ _
       refine wpList_loadW (F.out.2.2.2.2.2.2.2.2.2.2.1) aggB rfl _ rfl rfl ?_)
    | (with_reducible show wpList _ _ _ (Oper.mk _ (Op.load 24 (.tmp 4)) _ _ _ _ :: _) _ _
       refine wpList_loadW (F.out.2.1) aggB rfl _ rfl rfl ?_))
  clear c12' c14' c4' xb xi
  have hd : decide ((1 : Int) = 1 ∧ [gA, gB] = [gA, gB]) = true := decide_eq_true ⟨rfl, rfl⟩
  refine (rsame_any _ _ 1 1 [gA, gB] [gA, gB] w16 (F.out.2.2.2.2.2.2.2.2.1) (F.out.1)).mono ?_; rintro e w17 ⟨rfl, hb⟩
  rw [hd]
  have F2 := Lib.hid (show SwG w17 (.slice A4 2 d4) [gA, gB] ∧ Rw w17 b4 24 (bagC (.slice A4 2 d4) 1) ∧ SwG w17 (.slice A5 q5 d5) [gA, gB, gA] ∧ Rw w17 b5 24 (bagC (.slice A5 q5 d5) 1) ∧ SwG w17 (.slice A7 q7 d7) [gA, gB, gH] ∧ Rw w17 b7 24 (bagC (.slice A7 q7 d7) 1) ∧ SwG w17 (.slice A9 q9 d9) [gA, gB, gH] ∧ Rw w17 b9 24 (bagC (.slice A9 q9 d9) 1) ∧ SwG w17 (.slice A11 q11 d11) [gA, gB] ∧ Sl w17 (.slice (some ⟨bb, ob, none⟩) 2 c12) (bv gH.bytes) ∧ Rw w17 b11 24 (bagC (.slice A11 q11 d11) 1) ∧ Rw w17 (b11 + 1) 29 (gH.c (.slice (some ⟨bb, ob, none⟩) 2 c12)) ∧ SwG w17 (.slice A14 1 d14) [gA] ∧ Rw w17 b14 24 (bagC (.slice A14 1 d14) 2) ∧ Sl w17 (.slice (some ⟨bi, oi, none⟩) 2 c16) (iv [0, 2]) ∧ Below w.heap.size w w17 from ⟨(F.out.1).below hb, (F.out.2.1).below hb, (F.out.2.2.1).below hb, (F.out.2.2.2.1).below hb, (F.out.2.2.2.2.1).below hb, (F.out.2.2.2.2.2.1).below hb, (F.out.2.2.2.2.2.2.1).below hb, (F.out.2.2.2.2.2.2.2.1).below hb, (F.out.2.2.2.2.2.2.2.2.1).below hb, (F.out.2.2.2.2.2.2.2.2.2.1).below hb, (F.out.2.2.2.2.2.2.2.2.2.2.1).below hb, (F.out.2.2.2.2.2.2.2.2.2.2.2.1).below hb, (F.out.2.2.2.2.2.2.2.2.2.2.2.2.1).below hb, (F.out.2.2.2.2.2.2.2.2.2.2.2.2.2.1).below hb, (F.out.2.2.2.2.2.2.2.2.2.2.2.2.2.2.1).below hb, (F.out.2.2.2.2.2.2.2.2.2.2.2.2.2.2.2).trans ((hb).mono (F.out.2.2.2.2.2.2.2.2.2.2.2.2.2.2.2).size)⟩)
  clear F hb hd
  have F := F2
  clear F2
  go_wp2_with (first
    | (with_reducible show wpList _ _ _ (Oper.mk _ (Op.load 24 (.tmp 11)) _ _ _ _ :: _) _ _
       refine wpList_loadW (F.out.2.2.2.2.2.2.2.2.2.2.1) aggB rfl _ rfl rfl ?_)
    | (with_reducible show wpList _ _ _ (Oper.mk _ (Op.load 24 (.tmp 4)) _ _ _ _ :: _) _ _
       refine wpList_loadW (F.out.2.1) aggB rfl _ rfl rfl ?_))
  have hd : decide ((1 : Int) = 1 ∧ [gA, gB] = [gA, gB]) = true := decide_eq_true ⟨rfl, rfl⟩
  refine (Same_any _ _ 1 1 [gA, gB] [gA, gB] w17 (F.out.2.2.2.2.2.2.2.2.1) (F.out.1)).mono ?_; rintro e w18 ⟨rfl, hb⟩
  rw [hd]
  have F2 := Lib.hid (show SwG w18 (.slice A4 2 d4) [gA, gB] ∧ Rw w18 b4 24 (bagC (.slice A4 2 d4) 1) ∧ SwG w18 (.slice A5 q5 d5) [gA, gB, gA] ∧ Rw w18 b5 24 (bagC (.slice A5 q5 d5) 1) ∧ SwG w18 (.slice A7 q7 d7) [gA, gB, gH] ∧ Rw w18 b7 24 (bagC (.slice A7 q7 d7) 1) ∧ SwG w18 (.slice A9 q9 d9) [gA, gB, gH] ∧ Rw w18 b9 24 (bagC (.slice A9 q9 d9) 1) ∧ SwG w18 (.slice A11 q11 d11) [gA, gB] ∧ Sl w18 (.slice (some ⟨bb, ob, none⟩) 2 c12) (bv gH.bytes) ∧ Rw w18 b11 24 (bagC (.slice A11 q11 d11) 1) ∧ Rw w18 (b11 + 1) 29 (gH.c (.slice (some ⟨bb, ob, none⟩) 2 c12)) ∧ SwG w18 (.slice A14 1 d14) [gA] ∧ Rw w18 b14 24 (bagC (.slice A14 1 d14) 2) ∧ Sl w18 (.slice (some ⟨bi, oi, none⟩) 2 c16) (iv [0, 2]) ∧ Below w.heap.size w w18 from ⟨(F.out.1).below hb, (F.out.2.1).below hb, (F.out.2.2.1).below hb, (F.out.2.2.2.1).below hb, (F.out.2.2.2.2.1).below hb, (F.out.2.2.2.2.2.1).below hb, (F.out.2.2.2.2.2.2.1).below hb, (F.out.2.2.2.2.2.2.2.1).below hb, (F.out.2.2.2.2.2.2.2.2.1).below hb, (F.out.2.2.2.2.2.2.2.2.2.1).below hb, (F.out.2.2.2.2.2.2.2.2.2.2.1).below hb, (F.out.2.2.2.2.2.2.2.2.2.2.2.1).below hb, (F.out.2.2.2.2.2.2.2.2.2.2.2.2.1).below hb, (F.out.2.2.2.2.2.2.2.2.2.2.2.2.2.1).below hb, (F.out.2.2.2.2.2.2.2.2.2.2.2.2.2.2.1).below hb, (F.out.2.2.2.2.2.2.2.2.2.2.2.2.2.2.2).trans ((hb).mono (F.out.2.2.2.2.2.2.2.2.2.2.2.2.2.2.2).size)⟩)
  clear F hb hd
  have F := F2
  clear F2
  go_wp2_with (first
    | (with_reducible show wpList _ _ _ (Oper.mk _ (Op.load 24 (.tmp 11)) _ _ _ _ :: _) _ _
       refine wpList_loadW (F.out.2.2.2.2.2.2.2.2.2.2.1) aggB rfl _ rfl rfl ?_)
    | (with_reducible show wpList _ _ _ (Oper.mk _ (Op.load 24 (.tmp 7)) _ _ _ _ :: _) _ _
       refine wpList_loadW (F.out.2.2.2.2.2.1) aggB rfl _ rfl rfl ?_))
  have hd : decide ((1 : Int) = 1 ∧ [gA, gB] = [gA, gB, gH]) = false := decide_eq_false (fun h => by have := congrArg List.length h.2; simp at this)
  refine (Same_any _ _ 1 1 [gA, gB] [gA, gB, gH] w18 (F.out.2.2.2.2.2.2.2.2.1) (F.out.2.2.2.2.1)).mono ?_; rintro e w19 ⟨rfl, hb⟩
  rw [hd]
  have F2 := Lib.hid (show SwG w19 (.slice A4 2 d4) [gA, gB] ∧ Rw w19 b4 24 (bagC (.slice A4 2 d4) 1) ∧ SwG w19 (.slice A5 q5 d5) [gA, gB, gA] ∧ Rw w19 b5 24 (bagC (.slice A5 q5 d5) 1) ∧ SwG w19 (.slice A7 q7 d7) [gA, gB, gH] ∧ Rw w19 b7 24 (bagC (.slice A7 q7 d7) 1) ∧ SwG w19 (.slice A9 q9 d9) [gA, gB, gH] ∧ Rw w19 b9 24 (bagC (.slice A9 q9 d9) 1) ∧ SwG w19 (.slice A11 q11 d11) [gA, gB] ∧ Sl w19 (.slice (some ⟨bb, ob, none⟩) 2 c12) (bv gH.bytes) ∧ Rw w19 b11 24 (bagC (.slice A11 q11 d11) 1) ∧ Rw w19 (b11 + 1) 29 (gH.c (.slice (some ⟨bb, ob, none⟩) 2 c12)) ∧ SwG w19 (.slice A14 1 d14) [gA] ∧ Rw w19 b14 24 (bagC (.slice A14 1 d14) 2) ∧ Sl w19 (.slice (some ⟨bi, oi, none⟩) 2 c16) (iv [0, 2]) ∧ Below w.heap.size w w19 from ⟨(F.out.1).below hb, (F.out.2.1).below hb, (F.out.2.2.1).below hb, (F.out.2.2.2.1).below hb, (F.out.2.2.2.2.1).below hb, (F.out.2.2.2.2.2.1).below hb, (F.out.2.2.2.2.2.2.1).below hb, (F.out.2.2.2.2.2.2.2.1).below hb, (F.out.2.2.2.2.2.2.2.2.1).below hb, (F.out.2.2.2.2.2.2.2.2.2.1).below hb, (F.out.2.2.2.2.2.2.2.2.2.2.1).below hb, (F.out.2.2.2.2.2.2.2.2.2.2.2.1).below hb, (F.out.2.2.2.2.2.2.2.2.2.2.2.2.1).below hb, (F.out.2.2.2.2.2.2.2.2.2.2.2.2.2.1).below hb, (F.out.2.2.2.2.2.2.2.2.2.2.2.2.2.2.1).below hb, (F.out.2.2.2.2.2.2.2.2.2.2.2.2.2.2.2).trans ((hb).mono (F.out.2.2.2.2.2.2.2.2.2.2.2.2.2.2.2).size)⟩)
  clear F hb hd
  have F := F2
  clear F2
  go_wp2
  go_ret
  exact ⟨rfl, F.out.2.2.2.2.2.2.2.2.2.2.2.2.2.2.2⟩
end Go.Proofs.Ytdoigpifkdkjpaa
