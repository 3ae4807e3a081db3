/- What a message of its kind may have, and it bare of that: 'only', 'bare': for any message. -/
import Derived.StillTailTactics
import Derived.Test.YtbklgodbjibemaaFlat
set_option linter.unusedVariables false
set_option linter.unusedSimpArgs false
namespace Go.Proofs.Ytbklgodbjibemaa
open Go.RowKit Go.Shelf

/-! ### Rows of the call's own, written -/
/-- Three rows that were made one behind the other, and all that lay lies. -/
structure S3 (w0 w : World) (c1 c2 c3 : Array Value) : Prop where
  r1 : Rw w w0.heap.size 27 c1
  r2 : Rw w (w0.heap.size + 1) 27 c2
  r3 : Rw w (w0.heap.size + 1 + 1) 27 c3
  below : Below w0.heap.size w0 w
theorem S3.new (w : World) (c1 c2 c3 : Array Value) : S3 w (((w.alloc (.cells c1 27)).alloc (.cells c2 27)).alloc (.cells c3 27)) c1 c2 c3 := by
  obtain ⟨h1, h2, h3⟩ := two_boxes w c1 c2 27 27
  refine ⟨h1.alloc _, h2.alloc _, ?_, h3.alloc (by simp; omega) _⟩
  have := Rw.new ((w.alloc (.cells c1 27)).alloc (.cells c2 27)) c3 27
  rwa [World.size_alloc, World.size_alloc] at this
section
variable {w0 w : World} {c1 c2 c3 : Array Value} (h : S3 w0 w c1 c2 c3)
include h
theorem S3.drew : S3 w0 w.drew c1 c2 c3 := ⟨h.r1, h.r2, h.r3, h.below.drew⟩
theorem S3.set3 (j : Nat) (v : Value) : S3 w0 (w.setCell ⟨w0.heap.size + 1 + 1, j, none⟩ v) c1 c2 (c3.setIfInBounds j v) :=
  ⟨h.r1.set_other (by omega) j v, h.r2.set_other (by omega) j v, h.r3.set j v, h.below.setCell (p := ⟨w0.heap.size + 1 + 1, j, none⟩) (by show w0.heap.size ≤ w0.heap.size + 1 + 1; omega) v⟩
theorem S3.set1 (j : Nat) (v : Value) : S3 w0 (w.setCell ⟨w0.heap.size, j, none⟩ v) (c1.setIfInBounds j v) c2 c3 :=
  ⟨h.r1.set j v, h.r2.set_other (by omega) j v, h.r3.set_other (by omega) j v, h.below.setCell (p := ⟨w0.heap.size, j, none⟩) (Nat.le_refl _) v⟩
theorem S3.row2 (c : Array Value) : S3 w0 (w.setRow (w0.heap.size + 1) c) c1 c c3 :=
  ⟨h.r1.setRow_other (by omega), h.r2.setRow, h.r3.setRow_other (by omega), below_setRow h.below (by omega) c⟩
theorem S3.row3 (c : Array Value) : S3 w0 (w.setRow (w0.heap.size + 1 + 1) c) c1 c2 c :=
  ⟨h.r1.setRow_other (by omega), h.r2.setRow_other (by omega), h.r3.setRow, below_setRow h.below (by omega) c⟩
end
theorem S3.it3 {w0 w : World} {c1 c2 : Array Value} {m : M} {l : Value} (h : S3 w0 w c1 c2 (m.c l)) (x : It) : S3 w0 (w.setCells (w0.heap.size + 1 + 1) 10 x.c.toList) c1 c2 (({ m with it := x } : M).c l) := by
  have := (((h.set3 10 (.string x.key)).set3 11 (.int .i64 x.val)).set3 12 (.int .i64 x.ver)).set3 13 (.bool x.gone)
  exact this
theorem S3.it1 {w0 w : World} {c2 c3 : Array Value} {m : M} {l : Value} (h : S3 w0 w (m.c l) c2 c3) (x : It) : S3 w0 (w.setCells w0.heap.size 10 x.c.toList) (({ m with it := x } : M).c l) c2 c3 := by
  have := (((h.set1 10 (.string x.key)).set1 11 (.int .i64 x.val)).set1 12 (.int .i64 x.ver)).set1 13 (.bool x.gone)
  exact this

section
variable {P : Program} {ops : Array Oper} {rest : List Oper} {o : Oper} {a : Act} {w : World} {Q : Exit → Act → World → Prop} {b : Nat} {t ty : TypeId} {c : Array Value}
theorem wpList_store1 (h0 : Rw w b t c) (hi : (P.info? ty).map (·.size) = some 1) (hw : Region.wanted o (yielded ops a.tmps) = true) (x y : Operand) (ho : o.op = .store ty x y) {j : Nat} (hx : a.eval x = .pointer (some ⟨b, j, none⟩)) {v : Value} (hy : a.eval y = v)
    (hj : j < c.size) (hv : v.cells = #[v]) (h1 : v.oneCell' = true)
    (h : wpList P ops Q rest (a.put o.dst undef) (w.setCell ⟨b, j, none⟩ v)) : wpList P ops Q (o :: rest) a w := by
  refine wpList_step fun K hK => ?_
  rw [if_pos hw]
  unfold Oper.wp execOp
  have hr : (Instr.storeAt ty (.pointer (some ⟨b, j, none⟩)) v).run P w = .ok () (w.setCell ⟨b, j, none⟩ v) := by
    simp only [Instr.storeAt, Instr.sureAddr, Sem.run_bind, Sem.run_pure, Result.andThen]
    cases hq : P.info? ty with
    | none => simp [hq] at hi
    | some i =>
      have hs : i.size = 1 := by simpa [hq] using hi
      have hadd : (⟨b, j, none⟩ : Addr).add 0 = ⟨b, j, none⟩ := by rw [add_plain, Nat.add_zero]
      have hst := run_store P w ⟨b, j, none⟩ v .plain h1
      have hc : w.cell? ⟨b, j, none⟩ = some c[j] := by rw [h0.cell]; exact Array.getElem?_eq_getElem hj
      unfold stored at hst
      rw [hc] at hst
      simp only [h0.free, Bool.false_eq_true, if_false] at hst
      simp [storeVar, sizeOf, typeInfo, hq, hv, hs, storeCells, hadd, hst]
  simp only [ho, hx, hy, Sem.run_bind, Sem.run_pure, Result.andThen_ok, hr]
  exact hK _ _ h
theorem gen_world {w0 : World} {c1 c2 c3 : Array Value} (S : S3 w0 w c1 c2 c3) (h : ∀ W, S3 w0 W c1 c2 c3 → wpList P ops Q rest a W) : wpList P ops Q rest a w := h w S
theorem wpList_storeI (h0 : Rw w b t c) {x : It} (hi : (P.info? ty).map (·.size) = some 4) (hw : Region.wanted o (yielded ops a.tmps) = true) (p y : Operand) (ho : o.op = .store ty p y) (hx : a.eval p = .pointer (some ⟨b, 10, none⟩)) (hy : a.eval y = .agg x.c) (hj : 14 ≤ c.size)
    (h : wpList P ops Q rest (a.put o.dst undef) (w.setCells b 10 x.c.toList)) : wpList P ops Q (o :: rest) a w := by
  refine wpList_step fun K hK => ?_
  rw [if_pos hw]
  unfold Oper.wp execOp
  have hr := run_storeAt_mid (P := P) w b 10 ty x.c (fun j hj2 => ⟨by rw [h0.cell]; have : j < 4 := hj2; rw [Array.getElem?_eq_getElem (by omega)]; rfl, h0.free _⟩) hi (by
    rw [Array.all_eq_true_iff_forall_mem]
    intro v hv
    simp only [It.c, List.mem_toArray, List.mem_cons, List.not_mem_nil, or_false] at hv
    rcases hv with rfl | rfl | rfl | rfl <;> rfl)
  simp only [ho, hx, hy, Sem.run_bind, Sem.run_pure, Result.andThen_ok, hr]
  exact hK _ _ h
end

def headM (m : M) : M := M.head m.kind m.call m.frm m.to
def onlyM (m : M) : M :=
  if m.kind = 4 then { headM m with key := m.key, slow := m.slow } else if m.kind = 5 then { headM m with it := m.it } else if m.kind = 6 then { headM m with it := { noIt with key := m.it.key } }
  else if m.kind = 7 then { headM m with pred := m.pred } else if m.kind = 10 then { headM m with place := m.place, done := m.done } else if m.kind = 11 then { headM m with code := m.code }
  else if m.kind = 12 then { headM m with code := m.code, it := m.it } else headM m
def onlyL (m : M) (l : Value) : Value := if m.kind = 7 then l else nilS

set_option maxRecDepth 100000 in
set_option maxHeartbeats 2000000 in
theorem only_4 (m : M) (A : Option Addr) (n c : Nat) (w : World) (hk : m.kind = 4) : Calls Try.prog 29 #[.agg (m.c (.slice A n c))] w fun e w' => e = .returned (.agg (({ headM m with key := m.key, slow := m.slow } : M).c (nilS))) ∧ Below w.heap.size w w' := by
  have S := S3.new w (m.c (.slice A n c)) (noM.c nilS) (noM.c nilS)
  have IT := Lib.hid (m.item (.slice A n c))
  have e4 : (m.kind == 4) = true := by rw [hk]; rfl
  have e5 : (m.kind == 5) = false := by rw [hk]; rfl
  have e6 : (m.kind == 6) = false := by rw [hk]; rfl
  have e7 : (m.kind == 7) = false := by rw [hk]; rfl
  have e10 : (m.kind == 10) = false := by rw [hk]; rfl
  have e11 : (m.kind == 11) = false := by rw [hk]; rfl
  have e12 : (m.kind == 12) = false := by rw [hk]; rfl
  clear hk
  go_enter Try.func29, Try.ntmps29
  go_wp2_with (with_reducible show wpList _ _ _ (Oper.mk _ (Op.store 27 _ _) _ _ _ _ :: _) _ _
               refine wpList_storeR (c := (headM m).c nilS) rfl _ _ rfl rfl rfl agg27.hi S.r3 rfl (M.one _ rfl) ?_
               refine gen_world (S.row3 ((headM m).c nilS)) ?_
               clear S
               intro W S
               have c1 := S.r1.cell)
  have c3 := S.r3.cell
  have f3 := S.r3.free
  go_region
  all_goals
    have S' : S3 w _ _ _ (({ headM m with key := m.key, slow := m.slow } : M).c (nilS)) := (((S.set3 4 (.int .i64 m.key)).set3 5 (.bool m.slow))).drew
    clear c3 f3 c1
    go_wp2_with (first
      | (with_reducible show wpList _ _ _ (Oper.mk _ (Op.load 27 _) _ _ _ _ :: _) _ _
         refine wpList_loadW (c := ({ headM m with key := m.key, slow := m.slow } : M).c (nilS)) S'.r3 agg27 rfl _ rfl rfl ?_)
      | (with_reducible show wpList _ _ _ (Oper.mk _ (Op.store 27 _ _) _ _ _ _ :: _) _ _
         refine wpList_storeR (c := ({ headM m with key := m.key, slow := m.slow } : M).c (nilS)) rfl _ _ rfl rfl rfl agg27.hi S'.r2 rfl (M.one _ rfl) ?_
         refine gen_world (S'.row2 (({ headM m with key := m.key, slow := m.slow } : M).c (nilS))) ?_
         clear S
         intro W S))
    exact bodyPost_ret (results_cell_row rfl _ _ _ _ _ _ _ rfl S.r2 Try.underlying27 rfl agg27.hi) rfl ⟨rfl, S.below⟩
set_option maxRecDepth 100000 in
set_option maxHeartbeats 2000000 in
theorem only_7 (m : M) (A : Option Addr) (n c : Nat) (w : World) (hk : m.kind = 7) : Calls Try.prog 29 #[.agg (m.c (.slice A n c))] w fun e w' => e = .returned (.agg (({ headM m with pred := m.pred } : M).c (.slice A n c))) ∧ Below w.heap.size w w' := by
  have S := S3.new w (m.c (.slice A n c)) (noM.c nilS) (noM.c nilS)
  have IT := Lib.hid (m.item (.slice A n c))
  have e4 : (m.kind == 4) = false := by rw [hk]; rfl
  have e5 : (m.kind == 5) = false := by rw [hk]; rfl
  have e6 : (m.kind == 6) = false := by rw [hk]; rfl
  have e7 : (m.kind == 7) = true := by rw [hk]; rfl
  have e10 : (m.kind == 10) = false := by rw [hk]; rfl
  have e11 : (m.kind == 11) = false := by rw [hk]; rfl
  have e12 : (m.kind == 12) = false := by rw [hk]; rfl
  clear hk
  go_enter Try.func29, Try.ntmps29
  go_wp2_with (with_reducible show wpList _ _ _ (Oper.mk _ (Op.store 27 _ _) _ _ _ _ :: _) _ _
               refine wpList_storeR (c := (headM m).c nilS) rfl _ _ rfl rfl rfl agg27.hi S.r3 rfl (M.one _ rfl) ?_
               refine gen_world (S.row3 ((headM m).c nilS)) ?_
               clear S
               intro W S
               have c1 := S.r1.cell)
  have c3 := S.r3.cell
  have f3 := S.r3.free
  go_region
  all_goals
    have S' : S3 w _ _ _ (({ headM m with pred := m.pred } : M).c (.slice A n c)) := (((S.set3 8 (.int .i64 m.pred)).set3 9 (.slice A n c))).drew
    clear c3 f3 c1
    go_wp2_with (first
      | (with_reducible show wpList _ _ _ (Oper.mk _ (Op.load 27 _) _ _ _ _ :: _) _ _
         refine wpList_loadW (c := ({ headM m with pred := m.pred } : M).c (.slice A n c)) S'.r3 agg27 rfl _ rfl rfl ?_)
      | (with_reducible show wpList _ _ _ (Oper.mk _ (Op.store 27 _ _) _ _ _ _ :: _) _ _
         refine wpList_storeR (c := ({ headM m with pred := m.pred } : M).c (.slice A n c)) rfl _ _ rfl rfl rfl agg27.hi S'.r2 rfl (M.one _ rfl) ?_
         refine gen_world (S'.row2 (({ headM m with pred := m.pred } : M).c (.slice A n c))) ?_
         clear S
         intro W S))
    exact bodyPost_ret (results_cell_row rfl _ _ _ _ _ _ _ rfl S.r2 Try.underlying27 rfl agg27.hi) rfl ⟨rfl, S.below⟩
set_option maxRecDepth 100000 in
set_option maxHeartbeats 2000000 in
theorem only_10 (m : M) (A : Option Addr) (n c : Nat) (w : World) (hk : m.kind = 10) : Calls Try.prog 29 #[.agg (m.c (.slice A n c))] w fun e w' => e = .returned (.agg (({ headM m with place := m.place, done := m.done } : M).c (nilS))) ∧ Below w.heap.size w w' := by
  have S := S3.new w (m.c (.slice A n c)) (noM.c nilS) (noM.c nilS)
  have IT := Lib.hid (m.item (.slice A n c))
  have e4 : (m.kind == 4) = false := by rw [hk]; rfl
  have e5 : (m.kind == 5) = false := by rw [hk]; rfl
  have e6 : (m.kind == 6) = false := by rw [hk]; rfl
  have e7 : (m.kind == 7) = false := by rw [hk]; rfl
  have e10 : (m.kind == 10) = true := by rw [hk]; rfl
  have e11 : (m.kind == 11) = false := by rw [hk]; rfl
  have e12 : (m.kind == 12) = false := by rw [hk]; rfl
  clear hk
  go_enter Try.func29, Try.ntmps29
  go_wp2_with (with_reducible show wpList _ _ _ (Oper.mk _ (Op.store 27 _ _) _ _ _ _ :: _) _ _
               refine wpList_storeR (c := (headM m).c nilS) rfl _ _ rfl rfl rfl agg27.hi S.r3 rfl (M.one _ rfl) ?_
               refine gen_world (S.row3 ((headM m).c nilS)) ?_
               clear S
               intro W S
               have c1 := S.r1.cell)
  have c3 := S.r3.cell
  have f3 := S.r3.free
  go_region
  all_goals
    have S' : S3 w _ _ _ (({ headM m with place := m.place, done := m.done } : M).c (nilS)) := (((S.set3 7 (.int .i64 m.place)).set3 6 (.bool m.done))).drew
    clear c3 f3 c1
    go_wp2_with (first
      | (with_reducible show wpList _ _ _ (Oper.mk _ (Op.load 27 _) _ _ _ _ :: _) _ _
         refine wpList_loadW (c := ({ headM m with place := m.place, done := m.done } : M).c (nilS)) S'.r3 agg27 rfl _ rfl rfl ?_)
      | (with_reducible show wpList _ _ _ (Oper.mk _ (Op.store 27 _ _) _ _ _ _ :: _) _ _
         refine wpList_storeR (c := ({ headM m with place := m.place, done := m.done } : M).c (nilS)) rfl _ _ rfl rfl rfl agg27.hi S'.r2 rfl (M.one _ rfl) ?_
         refine gen_world (S'.row2 (({ headM m with place := m.place, done := m.done } : M).c (nilS))) ?_
         clear S
         intro W S))
    exact bodyPost_ret (results_cell_row rfl _ _ _ _ _ _ _ rfl S.r2 Try.underlying27 rfl agg27.hi) rfl ⟨rfl, S.below⟩
set_option maxRecDepth 100000 in
set_option maxHeartbeats 2000000 in
theorem only_12 (m : M) (A : Option Addr) (n c : Nat) (w : World) (hk : m.kind = 12) : Calls Try.prog 29 #[.agg (m.c (.slice A n c))] w fun e w' => e = .returned (.agg (({ headM m with code := m.code, it := m.it } : M).c (nilS))) ∧ Below w.heap.size w w' := by
  have S := S3.new w (m.c (.slice A n c)) (noM.c nilS) (noM.c nilS)
  have IT := Lib.hid (m.item (.slice A n c))
  have e4 : (m.kind == 4) = false := by rw [hk]; rfl
  have e5 : (m.kind == 5) = false := by rw [hk]; rfl
  have e6 : (m.kind == 6) = false := by rw [hk]; rfl
  have e7 : (m.kind == 7) = false := by rw [hk]; rfl
  have e10 : (m.kind == 10) = false := by rw [hk]; rfl
  have e11 : (m.kind == 11) = false := by rw [hk]; rfl
  have e12 : (m.kind == 12) = true := by rw [hk]; rfl
  clear hk
  go_enter Try.func29, Try.ntmps29
  go_wp2_with (with_reducible show wpList _ _ _ (Oper.mk _ (Op.store 27 _ _) _ _ _ _ :: _) _ _
               refine wpList_storeR (c := (headM m).c nilS) rfl _ _ rfl rfl rfl agg27.hi S.r3 rfl (M.one _ rfl) ?_
               refine gen_world (S.row3 ((headM m).c nilS)) ?_
               clear S
               intro W S
               have c1 := S.r1.cell)
  have c3 := S.r3.cell
  have f3 := S.r3.free
  go_region
  all_goals
    have S' : S3 w _ _ _ (({ headM m with code := m.code, it := m.it } : M).c (nilS)) := ((((((S.set3 14 (.int .i64 m.code)).set3 10 (.string m.it.key)).set3 11 (.int .i64 m.it.val)).set3 12 (.int .i64 m.it.ver)).set3 13 (.bool m.it.gone))).drew
    clear c3 f3 c1
    go_wp2_with (first
      | (with_reducible show wpList _ _ _ (Oper.mk _ (Op.load 27 _) _ _ _ _ :: _) _ _
         refine wpList_loadW (c := ({ headM m with code := m.code, it := m.it } : M).c (nilS)) S'.r3 agg27 rfl _ rfl rfl ?_)
      | (with_reducible show wpList _ _ _ (Oper.mk _ (Op.store 27 _ _) _ _ _ _ :: _) _ _
         refine wpList_storeR (c := ({ headM m with code := m.code, it := m.it } : M).c (nilS)) rfl _ _ rfl rfl rfl agg27.hi S'.r2 rfl (M.one _ rfl) ?_
         refine gen_world (S'.row2 (({ headM m with code := m.code, it := m.it } : M).c (nilS))) ?_
         clear S
         intro W S))
    exact bodyPost_ret (results_cell_row rfl _ _ _ _ _ _ _ rfl S.r2 Try.underlying27 rfl agg27.hi) rfl ⟨rfl, S.below⟩
set_option maxRecDepth 100000 in
set_option maxHeartbeats 2000000 in
theorem only_5 (m : M) (A : Option Addr) (n c : Nat) (w : World) (hk : m.kind = 5) : Calls Try.prog 29 #[.agg (m.c (.slice A n c))] w fun e w' => e = .returned (.agg (({ headM m with it := m.it } : M).c (nilS))) ∧ Below w.heap.size w w' := by
  have S := S3.new w (m.c (.slice A n c)) (noM.c nilS) (noM.c nilS)
  have IT := Lib.hid (m.item (.slice A n c))
  have e4 : (m.kind == 4) = false := by rw [hk]; rfl
  have e5 : (m.kind == 5) = true := by rw [hk]; rfl
  have e6 : (m.kind == 6) = false := by rw [hk]; rfl
  have e7 : (m.kind == 7) = false := by rw [hk]; rfl
  have e10 : (m.kind == 10) = false := by rw [hk]; rfl
  have e11 : (m.kind == 11) = false := by rw [hk]; rfl
  have e12 : (m.kind == 12) = false := by rw [hk]; rfl
  clear hk
  go_enter Try.func29, Try.ntmps29
  go_wp2_with (first
    | (with_reducible show wpList _ _ _ (Oper.mk _ (Op.store 27 _ _) _ _ _ _ :: _) _ _
       refine wpList_storeR (c := (headM m).c nilS) rfl _ _ rfl rfl rfl agg27.hi S.r3 rfl (M.one _ rfl) ?_
       refine gen_world (S.row3 ((headM m).c nilS)) ?_
       clear S
       intro W S
       have c1 := S.r1.cell)
    | (with_reducible show wpList _ _ _ (Oper.mk _ (Op.load 24 _) _ _ _ _ :: _) _ _
       refine wpList_loadPt S.r1 IT.out agg24 rfl _ rfl rfl ?_)
    | (with_reducible show wpList _ _ _ (Oper.mk _ (Op.load 27 _) _ _ _ _ :: _) _ _
       refine wpList_loadW (c := ({ headM m with it := m.it } : M).c (nilS)) S.r3 agg27 rfl _ rfl rfl ?_)
    | (with_reducible show wpList _ _ _ (Oper.mk _ (Op.store 27 _ _) _ _ _ _ :: _) _ _
       refine wpList_storeR (c := ({ headM m with it := m.it } : M).c (nilS)) rfl _ _ rfl rfl rfl agg27.hi S.r2 rfl (M.one _ rfl) ?_
       refine gen_world (S.row2 (({ headM m with it := m.it } : M).c (nilS))) ?_
       clear S c1
       intro W S)
    | (with_reducible show wpList _ _ _ (Oper.mk _ (Op.store 24 _ _) _ _ _ _ :: _) _ _
       refine wpList_storeI S.r3 (x := m.it) agg24.hi rfl _ _ rfl rfl rfl (by show 14 ≤ 15; decide) ?_
       refine gen_world (c3 := ({ headM m with it := m.it } : M).c (nilS)) (S.it3 m.it) ?_
       clear S c1
       intro W S
       have c1 := S.r1.cell))
  exact bodyPost_ret (results_cell_row rfl _ _ _ _ _ _ _ rfl S.r2 Try.underlying27 rfl agg27.hi) rfl ⟨rfl, S.below⟩
set_option maxRecDepth 100000 in
set_option maxHeartbeats 2000000 in
theorem only_6 (m : M) (A : Option Addr) (n c : Nat) (w : World) (hk : m.kind = 6) : Calls Try.prog 29 #[.agg (m.c (.slice A n c))] w fun e w' => e = .returned (.agg (({ headM m with it := { noIt with key := m.it.key } } : M).c (nilS))) ∧ Below w.heap.size w w' := by
  have S := S3.new w (m.c (.slice A n c)) (noM.c nilS) (noM.c nilS)
  have IT := Lib.hid (m.item (.slice A n c))
  have e4 : (m.kind == 4) = false := by rw [hk]; rfl
  have e5 : (m.kind == 5) = false := by rw [hk]; rfl
  have e6 : (m.kind == 6) = true := by rw [hk]; rfl
  have e7 : (m.kind == 7) = false := by rw [hk]; rfl
  have e10 : (m.kind == 10) = false := by rw [hk]; rfl
  have e11 : (m.kind == 11) = false := by rw [hk]; rfl
  have e12 : (m.kind == 12) = false := by rw [hk]; rfl
  clear hk
  go_enter Try.func29, Try.ntmps29
  go_wp2_with (first
    | (with_reducible show wpList _ _ _ (Oper.mk _ (Op.store 27 _ _) _ _ _ _ :: _) _ _
       refine wpList_storeR (c := (headM m).c nilS) rfl _ _ rfl rfl rfl agg27.hi S.r3 rfl (M.one _ rfl) ?_
       refine gen_world (S.row3 ((headM m).c nilS)) ?_
       clear S
       intro W S
       have c1 := S.r1.cell)
    | (with_reducible show wpList _ _ _ (Oper.mk _ (Op.load 24 _) _ _ _ _ :: _) _ _
       refine wpList_loadPt S.r1 IT.out agg24 rfl _ rfl rfl ?_)
    | (with_reducible show wpList _ _ _ (Oper.mk _ (Op.load 27 _) _ _ _ _ :: _) _ _
       refine wpList_loadW (c := ({ headM m with it := { noIt with key := m.it.key } } : M).c (nilS)) S.r3 agg27 rfl _ rfl rfl ?_)
    | (with_reducible show wpList _ _ _ (Oper.mk _ (Op.store 27 _ _) _ _ _ _ :: _) _ _
       refine wpList_storeR (c := ({ headM m with it := { noIt with key := m.it.key } } : M).c (nilS)) rfl _ _ rfl rfl rfl agg27.hi S.r2 rfl (M.one _ rfl) ?_
       refine gen_world (S.row2 (({ headM m with it := { noIt with key := m.it.key } } : M).c (nilS))) ?_
       clear S c1
       intro W S)
    | (with_reducible show wpList _ _ _ (Oper.mk _ (Op.store 9 _ _) _ _ _ _ :: _) _ _
       refine wpList_store1 S.r3 (by kernel_rfl) rfl _ _ rfl (j := 10) rfl (v := .string m.it.key) rfl (by show 10 < 15; decide) rfl rfl ?_
       refine gen_world (c3 := ({ headM m with it := { noIt with key := m.it.key } } : M).c (nilS)) (S.set3 10 (.string m.it.key)) ?_
       clear S c1
       intro W S
       have c1 := S.r1.cell))
  exact bodyPost_ret (results_cell_row rfl _ _ _ _ _ _ _ rfl S.r2 Try.underlying27 rfl agg27.hi) rfl ⟨rfl, S.below⟩
set_option maxRecDepth 100000 in
set_option maxHeartbeats 2000000 in
theorem only_11 (m : M) (A : Option Addr) (n c : Nat) (w : World) (hk : m.kind = 11) : Calls Try.prog 29 #[.agg (m.c (.slice A n c))] w fun e w' => e = .returned (.agg (({ headM m with code := m.code } : M).c (nilS))) ∧ Below w.heap.size w w' := by
  have S := S3.new w (m.c (.slice A n c)) (noM.c nilS) (noM.c nilS)
  have IT := Lib.hid (m.item (.slice A n c))
  have e4 : (m.kind == 4) = false := by rw [hk]; rfl
  have e5 : (m.kind == 5) = false := by rw [hk]; rfl
  have e6 : (m.kind == 6) = false := by rw [hk]; rfl
  have e7 : (m.kind == 7) = false := by rw [hk]; rfl
  have e10 : (m.kind == 10) = false := by rw [hk]; rfl
  have e11 : (m.kind == 11) = true := by rw [hk]; rfl
  have e12 : (m.kind == 12) = false := by rw [hk]; rfl
  clear hk
  go_enter Try.func29, Try.ntmps29
  go_wp2_with (first
    | (with_reducible show wpList _ _ _ (Oper.mk _ (Op.store 27 _ _) _ _ _ _ :: _) _ _
       refine wpList_storeR (c := (headM m).c nilS) rfl _ _ rfl rfl rfl agg27.hi S.r3 rfl (M.one _ rfl) ?_
       refine gen_world (S.row3 ((headM m).c nilS)) ?_
       clear S
       intro W S
       have c1 := S.r1.cell)
    | (with_reducible show wpList _ _ _ (Oper.mk _ (Op.load 24 _) _ _ _ _ :: _) _ _
       refine wpList_loadPt S.r1 IT.out agg24 rfl _ rfl rfl ?_)
    | (with_reducible show wpList _ _ _ (Oper.mk _ (Op.load 27 _) _ _ _ _ :: _) _ _
       refine wpList_loadW (c := ({ headM m with code := m.code } : M).c (nilS)) S.r3 agg27 rfl _ rfl rfl ?_)
    | (with_reducible show wpList _ _ _ (Oper.mk _ (Op.store 27 _ _) _ _ _ _ :: _) _ _
       refine wpList_storeR (c := ({ headM m with code := m.code } : M).c (nilS)) rfl _ _ rfl rfl rfl agg27.hi S.r2 rfl (M.one _ rfl) ?_
       refine gen_world (S.row2 (({ headM m with code := m.code } : M).c (nilS))) ?_
       clear S c1
       intro W S)
    | (with_reducible show wpList _ _ _ (Oper.mk _ (Op.store 25 _ _) _ _ _ _ :: _) _ _
       refine wpList_store1 S.r3 (by kernel_rfl) rfl _ _ rfl (j := 14) rfl (v := .int .i64 m.code) rfl (by show 14 < 15; decide) rfl rfl ?_
       refine gen_world (c3 := ({ headM m with code := m.code } : M).c (nilS)) (S.set3 14 (.int .i64 m.code)) ?_
       clear S c1
       intro W S
       have c1 := S.r1.cell))
  exact bodyPost_ret (results_cell_row rfl _ _ _ _ _ _ _ rfl S.r2 Try.underlying27 rfl agg27.hi) rfl ⟨rfl, S.below⟩
set_option maxRecDepth 100000 in
set_option maxHeartbeats 2000000 in
theorem only_x (m : M) (A : Option Addr) (n c : Nat) (w : World) (hk : m.kind ≠ 4 ∧ m.kind ≠ 5 ∧ m.kind ≠ 6 ∧ m.kind ≠ 7 ∧ m.kind ≠ 10 ∧ m.kind ≠ 11 ∧ m.kind ≠ 12) : Calls Try.prog 29 #[.agg (m.c (.slice A n c))] w fun e w' => e = .returned (.agg ((headM m : M).c (nilS))) ∧ Below w.heap.size w w' := by
  have S := S3.new w (m.c (.slice A n c)) (noM.c nilS) (noM.c nilS)
  have IT := Lib.hid (m.item (.slice A n c))
  have e4 : (m.kind == 4) = false := by simp [hk]
  have e5 : (m.kind == 5) = false := by simp [hk]
  have e6 : (m.kind == 6) = false := by simp [hk]
  have e7 : (m.kind == 7) = false := by simp [hk]
  have e10 : (m.kind == 10) = false := by simp [hk]
  have e11 : (m.kind == 11) = false := by simp [hk]
  have e12 : (m.kind == 12) = false := by simp [hk]
  clear hk
  go_enter Try.func29, Try.ntmps29
  go_wp2_with (first
    | (with_reducible show wpList _ _ _ (Oper.mk _ (Op.store 27 _ _) _ _ _ _ :: _) _ _
       refine wpList_storeR (c := (headM m).c nilS) rfl _ _ rfl rfl rfl agg27.hi S.r3 rfl (M.one _ rfl) ?_
       refine gen_world (S.row3 ((headM m).c nilS)) ?_
       clear S
       intro W S
       have c1 := S.r1.cell)
    | (with_reducible show wpList _ _ _ (Oper.mk _ (Op.load 24 _) _ _ _ _ :: _) _ _
       refine wpList_loadPt S.r1 IT.out agg24 rfl _ rfl rfl ?_)
    | (with_reducible show wpList _ _ _ (Oper.mk _ (Op.load 27 _) _ _ _ _ :: _) _ _
       refine wpList_loadW (c := (headM m : M).c (nilS)) S.r3 agg27 rfl _ rfl rfl ?_)
    | (with_reducible show wpList _ _ _ (Oper.mk _ (Op.store 27 _ _) _ _ _ _ :: _) _ _
       refine wpList_storeR (c := (headM m : M).c (nilS)) rfl _ _ rfl rfl rfl agg27.hi S.r2 rfl (M.one _ rfl) ?_
       refine gen_world (S.row2 ((headM m : M).c (nilS))) ?_
       clear S c1
       intro W S))
  exact bodyPost_ret (results_cell_row rfl _ _ _ _ _ _ _ rfl S.r2 Try.underlying27 rfl agg27.hi) rfl ⟨rfl, S.below⟩
theorem only_any (m : M) (A : Option Addr) (n c : Nat) (w : World) : Calls Try.prog 29 #[.agg (m.c (.slice A n c))] w fun e w' => e = .returned (.agg ((onlyM m).c (onlyL m (.slice A n c)))) ∧ Below w.heap.size w w' := by
  by_cases h4 : m.kind = 4
  · have := only_4 m A n c w h4; simpa [onlyM, onlyL, h4] using this
  by_cases h5 : m.kind = 5
  · have := only_5 m A n c w h5; simpa [onlyM, onlyL, h5] using this
  by_cases h6 : m.kind = 6
  · have := only_6 m A n c w h6; simpa [onlyM, onlyL, h6] using this
  by_cases h7 : m.kind = 7
  · have := only_7 m A n c w h7; simpa [onlyM, onlyL, h7] using this
  by_cases h10 : m.kind = 10
  · have := only_10 m A n c w h10; simpa [onlyM, onlyL, h10] using this
  by_cases h11 : m.kind = 11
  · have := only_11 m A n c w h11; simpa [onlyM, onlyL, h11] using this
  by_cases h12 : m.kind = 12
  · have := only_12 m A n c w h12; simpa [onlyM, onlyL, h12] using this
  have := only_x m A n c w ⟨h4, h5, h6, h7, h10, h11, h12⟩
  simpa [onlyM, onlyL, h4, h5, h6, h7, h10, h11, h12] using this
end Go.Proofs.Ytbklgodbjibemaa
