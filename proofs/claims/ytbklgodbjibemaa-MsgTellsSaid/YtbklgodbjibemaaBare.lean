/- A message bare of what its kind may have: the document's own 'bare': for any message. -/
import Derived.Test.YtbklgodbjibemaaOnly
set_option linter.unusedVariables false
set_option linter.unusedSimpArgs false
namespace Go.Proofs.Ytbklgodbjibemaa
open Go.RowKit Go.Shelf

def bareM (m : M) : M :=
  if m.kind = 4 then { m with key := 0, slow := false } else if m.kind = 5 then { m with it := noIt } else if m.kind = 6 then { m with it := noIt }
  else if m.kind = 7 then { m with pred := 0 } else if m.kind = 10 then { m with place := 0, done := false } else if m.kind = 11 then { m with code := 0 }
  else if m.kind = 12 then { m with code := 0, it := noIt } else m
def bareL (m : M) (l : Value) : Value := if m.kind = 7 then nilS else l

/-- Two rows of the call's own, and all that lay lies. -/
structure S2 (w0 w : World) (c1 c2 : Array Value) : Prop where
  r1 : Rw w w0.heap.size 27 c1
  r2 : Rw w (w0.heap.size + 1) 27 c2
  below : Below w0.heap.size w0 w
theorem S2.new (w : World) (c1 c2 : Array Value) : S2 w ((w.alloc (.cells c1 27)).alloc (.cells c2 27)) c1 c2 := by
  obtain ⟨h1, h2, h3⟩ := two_boxes w c1 c2 27 27
  exact ⟨h1, h2, h3⟩
section
variable {w0 w : World} {c1 c2 : Array Value} (h : S2 w0 w c1 c2)
include h
theorem S2.set1 (j : Nat) (v : Value) : S2 w0 (w.setCell ⟨w0.heap.size, j, none⟩ v) (c1.setIfInBounds j v) c2 :=
  ⟨h.r1.set j v, h.r2.set_other (by omega) j v, h.below.setCell (p := ⟨w0.heap.size, j, none⟩) (Nat.le_refl _) v⟩
theorem S2.row2 (c : Array Value) : S2 w0 (w.setRow (w0.heap.size + 1) c) c1 c :=
  ⟨h.r1.setRow_other (by omega), h.r2.setRow, below_setRow h.below (by omega) c⟩
end
theorem S2.it1 {w0 w : World} {c2 : Array Value} {m : M} {l : Value} (h : S2 w0 w (m.c l) c2) (x : It) : S2 w0 (w.setCells w0.heap.size 10 x.c.toList) (({ m with it := x } : M).c l) c2 := by
  have := (((h.set1 10 (.string x.key)).set1 11 (.int .i64 x.val)).set1 12 (.int .i64 x.ver)).set1 13 (.bool x.gone)
  exact this
section
variable {P : Program} {ops : Array Oper} {rest : List Oper} {a : Act} {w : World} {Q : Exit → Act → World → Prop}
theorem gen_world2 {w0 : World} {c1 c2 : Array Value} (S : S2 w0 w c1 c2) (h : ∀ W, S2 w0 W c1 c2 → wpList P ops Q rest a W) : wpList P ops Q rest a w := h w S
end

set_option maxRecDepth 100000 in
set_option maxHeartbeats 2000000 in
theorem bare_4 (m : M) (A : Option Addr) (n c : Nat) (w : World) (hk : m.kind = 4) : Calls Try.prog 34 #[.agg (m.c (.slice A n c))] w fun e w' => e = .returned (.agg (({ m with key := 0, slow := false } : M).c (.slice A n c))) ∧ Below w.heap.size w w' := by
  have S := S2.new w (m.c (.slice A n c)) (noM.c nilS)
  have e4 : (m.kind == 4) = true := by rw [hk]; rfl
  have e5 : (m.kind == 5) = false := by rw [hk]; rfl
  have e6 : (m.kind == 6) = false := by rw [hk]; rfl
  have e7 : (m.kind == 7) = false := by rw [hk]; rfl
  have e10 : (m.kind == 10) = false := by rw [hk]; rfl
  have e11 : (m.kind == 11) = false := by rw [hk]; rfl
  have e12 : (m.kind == 12) = false := by rw [hk]; rfl
  clear hk
  go_enter Try.func34, Try.ntmps34
  go_wp2_with (first
    | (with_reducible show wpList _ _ _ (Oper.mk _ (Op.load 27 _) _ _ _ _ :: _) _ _
       refine wpList_loadW (c := ({ m with key := 0, slow := false } : M).c (.slice A n c)) S.r1 agg27 rfl _ rfl rfl ?_)
    | (with_reducible show wpList _ _ _ (Oper.mk _ (Op.store 27 _ _) _ _ _ _ :: _) _ _
       refine wpList_storeR (c := ({ m with key := 0, slow := false } : M).c (.slice A n c)) rfl _ _ rfl rfl rfl agg27.hi S.r2 rfl (M.one _ rfl) ?_
       refine gen_world2 (S.row2 (({ m with key := 0, slow := false } : M).c (.slice A n c))) ?_
       clear S
       intro W S)
    | (with_reducible show wpList _ _ _ (Oper.mk _ (Op.store 3 _ _) _ _ _ _ :: _) _ _
       refine wpList_store1 S.r1 (by kernel_rfl) rfl _ _ rfl (j := 4) rfl (v := .int .i64 0) rfl (by show 4 < 15; decide) rfl rfl ?_
       refine gen_world2 (c1 := ({ m with key := 0 } : M).c (.slice A n c)) (S.set1 4 (.int .i64 0)) ?_
       clear S
       intro W S)
    | (with_reducible show wpList _ _ _ (Oper.mk _ (Op.store 4 _ _) _ _ _ _ :: _) _ _
       refine wpList_store1 S.r1 (by kernel_rfl) rfl _ _ rfl (j := 5) rfl (v := .bool false) rfl (by show 5 < 15; decide) rfl rfl ?_
       refine gen_world2 (c1 := ({ m with key := 0, slow := false } : M).c (.slice A n c)) (S.set1 5 (.bool false)) ?_
       clear S
       intro W S))
  exact bodyPost_ret (results_cell_row rfl _ _ _ _ _ _ _ rfl S.r2 Try.underlying27 rfl agg27.hi) rfl ⟨rfl, S.below⟩
set_option maxRecDepth 100000 in
set_option maxHeartbeats 2000000 in
theorem bare_5 (m : M) (A : Option Addr) (n c : Nat) (w : World) (hk : m.kind = 5) : Calls Try.prog 34 #[.agg (m.c (.slice A n c))] w fun e w' => e = .returned (.agg (({ m with it := noIt } : M).c (.slice A n c))) ∧ Below w.heap.size w w' := by
  have S := S2.new w (m.c (.slice A n c)) (noM.c nilS)
  have e4 : (m.kind == 4) = false := by rw [hk]; rfl
  have e5 : (m.kind == 5) = true := by rw [hk]; rfl
  have e6 : (m.kind == 6) = false := by rw [hk]; rfl
  have e7 : (m.kind == 7) = false := by rw [hk]; rfl
  have e10 : (m.kind == 10) = false := by rw [hk]; rfl
  have e11 : (m.kind == 11) = false := by rw [hk]; rfl
  have e12 : (m.kind == 12) = false := by rw [hk]; rfl
  clear hk
  go_enter Try.func34, Try.ntmps34
  go_wp2_with (first
    | (with_reducible show wpList _ _ _ (Oper.mk _ (Op.load 27 _) _ _ _ _ :: _) _ _
       refine wpList_loadW (c := ({ m with it := noIt } : M).c (.slice A n c)) S.r1 agg27 rfl _ rfl rfl ?_)
    | (with_reducible show wpList _ _ _ (Oper.mk _ (Op.store 27 _ _) _ _ _ _ :: _) _ _
       refine wpList_storeR (c := ({ m with it := noIt } : M).c (.slice A n c)) rfl _ _ rfl rfl rfl agg27.hi S.r2 rfl (M.one _ rfl) ?_
       refine gen_world2 (S.row2 (({ m with it := noIt } : M).c (.slice A n c))) ?_
       clear S
       intro W S)
    | (with_reducible show wpList _ _ _ (Oper.mk _ (Op.store 24 _ _) _ _ _ _ :: _) _ _
       refine wpList_storeI S.r1 (x := noIt) agg24.hi rfl _ _ rfl rfl rfl (by show 14 ≤ 15; decide) ?_
       refine gen_world2 (c1 := ({ m with it := noIt } : M).c (.slice A n c)) (S.it1 noIt) ?_
       clear S
       intro W S))
  exact bodyPost_ret (results_cell_row rfl _ _ _ _ _ _ _ rfl S.r2 Try.underlying27 rfl agg27.hi) rfl ⟨rfl, S.below⟩
set_option maxRecDepth 100000 in
set_option maxHeartbeats 2000000 in
theorem bare_6 (m : M) (A : Option Addr) (n c : Nat) (w : World) (hk : m.kind = 6) : Calls Try.prog 34 #[.agg (m.c (.slice A n c))] w fun e w' => e = .returned (.agg (({ m with it := noIt } : M).c (.slice A n c))) ∧ Below w.heap.size w w' := by
  have S := S2.new w (m.c (.slice A n c)) (noM.c nilS)
  have e4 : (m.kind == 4) = false := by rw [hk]; rfl
  have e5 : (m.kind == 5) = false := by rw [hk]; rfl
  have e6 : (m.kind == 6) = true := by rw [hk]; rfl
  have e7 : (m.kind == 7) = false := by rw [hk]; rfl
  have e10 : (m.kind == 10) = false := by rw [hk]; rfl
  have e11 : (m.kind == 11) = false := by rw [hk]; rfl
  have e12 : (m.kind == 12) = false := by rw [hk]; rfl
  clear hk
  go_enter Try.func34, Try.ntmps34
  go_wp2_with (first
    | (with_reducible show wpList _ _ _ (Oper.mk _ (Op.load 27 _) _ _ _ _ :: _) _ _
       refine wpList_loadW (c := ({ m with it := noIt } : M).c (.slice A n c)) S.r1 agg27 rfl _ rfl rfl ?_)
    | (with_reducible show wpList _ _ _ (Oper.mk _ (Op.store 27 _ _) _ _ _ _ :: _) _ _
       refine wpList_storeR (c := ({ m with it := noIt } : M).c (.slice A n c)) rfl _ _ rfl rfl rfl agg27.hi S.r2 rfl (M.one _ rfl) ?_
       refine gen_world2 (S.row2 (({ m with it := noIt } : M).c (.slice A n c))) ?_
       clear S
       intro W S)
    | (with_reducible show wpList _ _ _ (Oper.mk _ (Op.store 24 _ _) _ _ _ _ :: _) _ _
       refine wpList_storeI S.r1 (x := noIt) agg24.hi rfl _ _ rfl rfl rfl (by show 14 ≤ 15; decide) ?_
       refine gen_world2 (c1 := ({ m with it := noIt } : M).c (.slice A n c)) (S.it1 noIt) ?_
       clear S
       intro W S))
  exact bodyPost_ret (results_cell_row rfl _ _ _ _ _ _ _ rfl S.r2 Try.underlying27 rfl agg27.hi) rfl ⟨rfl, S.below⟩
set_option maxRecDepth 100000 in
set_option maxHeartbeats 2000000 in
theorem bare_7 (m : M) (A : Option Addr) (n c : Nat) (w : World) (hk : m.kind = 7) : Calls Try.prog 34 #[.agg (m.c (.slice A n c))] w fun e w' => e = .returned (.agg (({ m with pred := 0 } : M).c (nilS))) ∧ Below w.heap.size w w' := by
  have S := S2.new w (m.c (.slice A n c)) (noM.c nilS)
  have e4 : (m.kind == 4) = false := by rw [hk]; rfl
  have e5 : (m.kind == 5) = false := by rw [hk]; rfl
  have e6 : (m.kind == 6) = false := by rw [hk]; rfl
  have e7 : (m.kind == 7) = true := by rw [hk]; rfl
  have e10 : (m.kind == 10) = false := by rw [hk]; rfl
  have e11 : (m.kind == 11) = false := by rw [hk]; rfl
  have e12 : (m.kind == 12) = false := by rw [hk]; rfl
  clear hk
  go_enter Try.func34, Try.ntmps34
  go_wp2_with (first
    | (with_reducible show wpList _ _ _ (Oper.mk _ (Op.load 27 _) _ _ _ _ :: _) _ _
       refine wpList_loadW (c := ({ m with pred := 0 } : M).c (nilS)) S.r1 agg27 rfl _ rfl rfl ?_)
    | (with_reducible show wpList _ _ _ (Oper.mk _ (Op.store 27 _ _) _ _ _ _ :: _) _ _
       refine wpList_storeR (c := ({ m with pred := 0 } : M).c (nilS)) rfl _ _ rfl rfl rfl agg27.hi S.r2 rfl (M.one _ rfl) ?_
       refine gen_world2 (S.row2 (({ m with pred := 0 } : M).c (nilS))) ?_
       clear S
       intro W S)
    | (with_reducible show wpList _ _ _ (Oper.mk _ (Op.store 3 _ _) _ _ _ _ :: _) _ _
       refine wpList_store1 S.r1 (by kernel_rfl) rfl _ _ rfl (j := 8) rfl (v := .int .i64 0) rfl (by show 8 < 15; decide) rfl rfl ?_
       refine gen_world2 (c1 := ({ m with pred := 0 } : M).c (.slice A n c)) (S.set1 8 (.int .i64 0)) ?_
       clear S
       intro W S)
    | (with_reducible show wpList _ _ _ (Oper.mk _ (Op.store 22 _ _) _ _ _ _ :: _) _ _
       refine wpList_store1 S.r1 (by kernel_rfl) rfl _ _ rfl (j := 9) rfl (v := nilS) rfl (by show 9 < 15; decide) rfl rfl ?_
       refine gen_world2 (c1 := ({ m with pred := 0 } : M).c (nilS)) (S.set1 9 (nilS)) ?_
       clear S
       intro W S))
  exact bodyPost_ret (results_cell_row rfl _ _ _ _ _ _ _ rfl S.r2 Try.underlying27 rfl agg27.hi) rfl ⟨rfl, S.below⟩
set_option maxRecDepth 100000 in
set_option maxHeartbeats 2000000 in
theorem bare_10 (m : M) (A : Option Addr) (n c : Nat) (w : World) (hk : m.kind = 10) : Calls Try.prog 34 #[.agg (m.c (.slice A n c))] w fun e w' => e = .returned (.agg (({ m with place := 0, done := false } : M).c (.slice A n c))) ∧ Below w.heap.size w w' := by
  have S := S2.new w (m.c (.slice A n c)) (noM.c nilS)
  have e4 : (m.kind == 4) = false := by rw [hk]; rfl
  have e5 : (m.kind == 5) = false := by rw [hk]; rfl
  have e6 : (m.kind == 6) = false := by rw [hk]; rfl
  have e7 : (m.kind == 7) = false := by rw [hk]; rfl
  have e10 : (m.kind == 10) = true := by rw [hk]; rfl
  have e11 : (m.kind == 11) = false := by rw [hk]; rfl
  have e12 : (m.kind == 12) = false := by rw [hk]; rfl
  clear hk
  go_enter Try.func34, Try.ntmps34
  go_wp2_with (first
    | (with_reducible show wpList _ _ _ (Oper.mk _ (Op.load 27 _) _ _ _ _ :: _) _ _
       refine wpList_loadW (c := ({ m with place := 0, done := false } : M).c (.slice A n c)) S.r1 agg27 rfl _ rfl rfl ?_)
    | (with_reducible show wpList _ _ _ (Oper.mk _ (Op.store 27 _ _) _ _ _ _ :: _) _ _
       refine wpList_storeR (c := ({ m with place := 0, done := false } : M).c (.slice A n c)) rfl _ _ rfl rfl rfl agg27.hi S.r2 rfl (M.one _ rfl) ?_
       refine gen_world2 (S.row2 (({ m with place := 0, done := false } : M).c (.slice A n c))) ?_
       clear S
       intro W S)
    | (with_reducible show wpList _ _ _ (Oper.mk _ (Op.store 3 _ _) _ _ _ _ :: _) _ _
       refine wpList_store1 S.r1 (by kernel_rfl) rfl _ _ rfl (j := 7) rfl (v := .int .i64 0) rfl (by show 7 < 15; decide) rfl rfl ?_
       refine gen_world2 (c1 := ({ m with place := 0 } : M).c (.slice A n c)) (S.set1 7 (.int .i64 0)) ?_
       clear S
       intro W S)
    | (with_reducible show wpList _ _ _ (Oper.mk _ (Op.store 4 _ _) _ _ _ _ :: _) _ _
       refine wpList_store1 S.r1 (by kernel_rfl) rfl _ _ rfl (j := 6) rfl (v := .bool false) rfl (by show 6 < 15; decide) rfl rfl ?_
       refine gen_world2 (c1 := ({ m with place := 0, done := false } : M).c (.slice A n c)) (S.set1 6 (.bool false)) ?_
       clear S
       intro W S))
  exact bodyPost_ret (results_cell_row rfl _ _ _ _ _ _ _ rfl S.r2 Try.underlying27 rfl agg27.hi) rfl ⟨rfl, S.below⟩
set_option maxRecDepth 100000 in
set_option maxHeartbeats 2000000 in
theorem bare_11 (m : M) (A : Option Addr) (n c : Nat) (w : World) (hk : m.kind = 11) : Calls Try.prog 34 #[.agg (m.c (.slice A n c))] w fun e w' => e = .returned (.agg (({ m with code := 0 } : M).c (.slice A n c))) ∧ Below w.heap.size w w' := by
  have S := S2.new w (m.c (.slice A n c)) (noM.c nilS)
  have e4 : (m.kind == 4) = false := by rw [hk]; rfl
  have e5 : (m.kind == 5) = false := by rw [hk]; rfl
  have e6 : (m.kind == 6) = false := by rw [hk]; rfl
  have e7 : (m.kind == 7) = false := by rw [hk]; rfl
  have e10 : (m.kind == 10) = false := by rw [hk]; rfl
  have e11 : (m.kind == 11) = true := by rw [hk]; rfl
  have e12 : (m.kind == 12) = false := by rw [hk]; rfl
  clear hk
  go_enter Try.func34, Try.ntmps34
  go_wp2_with (first
    | (with_reducible show wpList _ _ _ (Oper.mk _ (Op.load 27 _) _ _ _ _ :: _) _ _
       refine wpList_loadW (c := ({ m with code := 0 } : M).c (.slice A n c)) S.r1 agg27 rfl _ rfl rfl ?_)
    | (with_reducible show wpList _ _ _ (Oper.mk _ (Op.store 27 _ _) _ _ _ _ :: _) _ _
       refine wpList_storeR (c := ({ m with code := 0 } : M).c (.slice A n c)) rfl _ _ rfl rfl rfl agg27.hi S.r2 rfl (M.one _ rfl) ?_
       refine gen_world2 (S.row2 (({ m with code := 0 } : M).c (.slice A n c))) ?_
       clear S
       intro W S)
    | (with_reducible show wpList _ _ _ (Oper.mk _ (Op.store 25 _ _) _ _ _ _ :: _) _ _
       refine wpList_store1 S.r1 (by kernel_rfl) rfl _ _ rfl (j := 14) rfl (v := .int .i64 0) rfl (by show 14 < 15; decide) rfl rfl ?_
       refine gen_world2 (c1 := ({ m with code := 0 } : M).c (.slice A n c)) (S.set1 14 (.int .i64 0)) ?_
       clear S
       intro W S))
  exact bodyPost_ret (results_cell_row rfl _ _ _ _ _ _ _ rfl S.r2 Try.underlying27 rfl agg27.hi) rfl ⟨rfl, S.below⟩
set_option maxRecDepth 100000 in
set_option maxHeartbeats 2000000 in
theorem bare_12 (m : M) (A : Option Addr) (n c : Nat) (w : World) (hk : m.kind = 12) : Calls Try.prog 34 #[.agg (m.c (.slice A n c))] w fun e w' => e = .returned (.agg (({ m with code := 0, it := noIt } : M).c (.slice A n c))) ∧ Below w.heap.size w w' := by
  have S := S2.new w (m.c (.slice A n c)) (noM.c nilS)
  have e4 : (m.kind == 4) = false := by rw [hk]; rfl
  have e5 : (m.kind == 5) = false := by rw [hk]; rfl
  have e6 : (m.kind == 6) = false := by rw [hk]; rfl
  have e7 : (m.kind == 7) = false := by rw [hk]; rfl
  have e10 : (m.kind == 10) = false := by rw [hk]; rfl
  have e11 : (m.kind == 11) = false := by rw [hk]; rfl
  have e12 : (m.kind == 12) = true := by rw [hk]; rfl
  clear hk
  go_enter Try.func34, Try.ntmps34
  go_wp2_with (first
    | (with_reducible show wpList _ _ _ (Oper.mk _ (Op.load 27 _) _ _ _ _ :: _) _ _
       refine wpList_loadW (c := ({ m with code := 0, it := noIt } : M).c (.slice A n c)) S.r1 agg27 rfl _ rfl rfl ?_)
    | (with_reducible show wpList _ _ _ (Oper.mk _ (Op.store 27 _ _) _ _ _ _ :: _) _ _
       refine wpList_storeR (c := ({ m with code := 0, it := noIt } : M).c (.slice A n c)) rfl _ _ rfl rfl rfl agg27.hi S.r2 rfl (M.one _ rfl) ?_
       refine gen_world2 (S.row2 (({ m with code := 0, it := noIt } : M).c (.slice A n c))) ?_
       clear S
       intro W S)
    | (with_reducible show wpList _ _ _ (Oper.mk _ (Op.store 25 _ _) _ _ _ _ :: _) _ _
       refine wpList_store1 S.r1 (by kernel_rfl) rfl _ _ rfl (j := 14) rfl (v := .int .i64 0) rfl (by show 14 < 15; decide) rfl rfl ?_
       refine gen_world2 (c1 := ({ m with code := 0 } : M).c (.slice A n c)) (S.set1 14 (.int .i64 0)) ?_
       clear S
       intro W S)
    | (with_reducible show wpList _ _ _ (Oper.mk _ (Op.store 24 _ _) _ _ _ _ :: _) _ _
       refine wpList_storeI S.r1 (x := noIt) agg24.hi rfl _ _ rfl rfl rfl (by show 14 ≤ 15; decide) ?_
       refine gen_world2 (c1 := ({ m with code := 0, it := noIt } : M).c (.slice A n c)) (S.it1 noIt) ?_
       clear S
       intro W S))
  exact bodyPost_ret (results_cell_row rfl _ _ _ _ _ _ _ rfl S.r2 Try.underlying27 rfl agg27.hi) rfl ⟨rfl, S.below⟩
set_option maxRecDepth 100000 in
set_option maxHeartbeats 2000000 in
theorem bare_x (m : M) (A : Option Addr) (n c : Nat) (w : World) (hk : m.kind ≠ 4 ∧ m.kind ≠ 5 ∧ m.kind ≠ 6 ∧ m.kind ≠ 7 ∧ m.kind ≠ 10 ∧ m.kind ≠ 11 ∧ m.kind ≠ 12) : Calls Try.prog 34 #[.agg (m.c (.slice A n c))] w fun e w' => e = .returned (.agg ((m : M).c (.slice A n c))) ∧ Below w.heap.size w w' := by
  have S := S2.new w (m.c (.slice A n c)) (noM.c nilS)
  have e4 : (m.kind == 4) = false := by simp [hk]
  have e5 : (m.kind == 5) = false := by simp [hk]
  have e6 : (m.kind == 6) = false := by simp [hk]
  have e7 : (m.kind == 7) = false := by simp [hk]
  have e10 : (m.kind == 10) = false := by simp [hk]
  have e11 : (m.kind == 11) = false := by simp [hk]
  have e12 : (m.kind == 12) = false := by simp [hk]
  clear hk
  go_enter Try.func34, Try.ntmps34
  go_wp2_with (first
    | (with_reducible show wpList _ _ _ (Oper.mk _ (Op.load 27 _) _ _ _ _ :: _) _ _
       refine wpList_loadW (c := (m : M).c (.slice A n c)) S.r1 agg27 rfl _ rfl rfl ?_)
    | (with_reducible show wpList _ _ _ (Oper.mk _ (Op.store 27 _ _) _ _ _ _ :: _) _ _
       refine wpList_storeR (c := (m : M).c (.slice A n c)) rfl _ _ rfl rfl rfl agg27.hi S.r2 rfl (M.one _ rfl) ?_
       refine gen_world2 (S.row2 ((m : M).c (.slice A n c))) ?_
       clear S
       intro W S))
  exact bodyPost_ret (results_cell_row rfl _ _ _ _ _ _ _ rfl S.r2 Try.underlying27 rfl agg27.hi) rfl ⟨rfl, S.below⟩
theorem bare_any (m : M) (A : Option Addr) (n c : Nat) (w : World) : Calls Try.prog 34 #[.agg (m.c (.slice A n c))] w fun e w' => e = .returned (.agg ((bareM m).c (bareL m (.slice A n c)))) ∧ Below w.heap.size w w' := by
  by_cases h4 : m.kind = 4
  · have := bare_4 m A n c w h4; simpa [bareM, bareL, h4] using this
  by_cases h5 : m.kind = 5
  · have := bare_5 m A n c w h5; simpa [bareM, bareL, h5] using this
  by_cases h6 : m.kind = 6
  · have := bare_6 m A n c w h6; simpa [bareM, bareL, h6] using this
  by_cases h7 : m.kind = 7
  · have := bare_7 m A n c w h7; simpa [bareM, bareL, h7] using this
  by_cases h10 : m.kind = 10
  · have := bare_10 m A n c w h10; simpa [bareM, bareL, h10] using this
  by_cases h11 : m.kind = 11
  · have := bare_11 m A n c w h11; simpa [bareM, bareL, h11] using this
  by_cases h12 : m.kind = 12
  · have := bare_12 m A n c w h12; simpa [bareM, bareL, h12] using this
  have := bare_x m A n c w ⟨h4, h5, h6, h7, h10, h11, h12⟩
  simpa [bareM, bareL, h4, h5, h6, h7, h10, h11, h12] using this
end Go.Proofs.Ytbklgodbjibemaa
