/- What the document's own reading tells behind the first four numbers. -/
import Derived.Test.YtaacjpcckinaiaaGreatWRefA
set_option linter.unusedVariables false
set_option maxRecDepth 100000
set_option linter.unusedSimpArgs false
namespace Go.Proofs.YtaacjpcckinaiaaGreat
open Go.RowKit Go.Shelf Ms

set_option maxHeartbeats 8000000 in
theorem more_4 (m : M) (v : Value) (bs : List UInt8) (hk : m.kind = 4) (w : World) (hs : Sl w v (bv bs)) (hl : bs.length ≤ 1000) :
    Calls Tryz.prog 35 #[.agg (m.c nilS), v] w fun e w' => MoreP m bs w w' e := by
  have S := S2.new w (m.c nilS) (noM.c nilS)
  have a1 := numbers_any v bs 2 (by decide) _ (hs.below S.below) hl
  have e4 : (m.kind == 4) = true := by rw [hk]; rfl
  have e5 : (m.kind == 5) = false := by rw [hk]; rfl
  have e6 : (m.kind == 6) = false := by rw [hk]; rfl
  have e7 : (m.kind == 7) = false := by rw [hk]; rfl
  have e10 : (m.kind == 10) = false := by rw [hk]; rfl
  have e11 : (m.kind == 11) = false := by rw [hk]; rfl
  have e12 : (m.kind == 12) = false := by rw [hk]; rfl
  have hp : parse (tail m.kind) m [] bs = parse (tail 4) m [] bs := by rw [hk]
  rw [parse_4] at hp
  clear hk
  have HP := Lib.hid hp
  have HL := Lib.hid hl
  clear hp hs hl
  have c1 := S.r1.cell
  have A1 := Lib.hid a1
  clear a1
  go_enter Tryz.func35, Tryz.ntmps35
  go_wp2_with fail
  refine A1.out.mono ?_; rintro e w1 ⟨⟨v7, v8, ns, rest, rfl, hti, s7, s8, sf8⟩ | ⟨rfl, hti⟩, hb⟩
  · skip
    obtain ⟨a, b, rfl⟩ := list2 (takeI_len hti).1
    obtain ⟨g, off, cp, rfl, hg, hgl, hc⟩ := s7.int_ (by simp)
    have S1 := S.on_ hb
    have cc1 := S1.r1.cell
    have h0 := hc 0 (by simp)
    have h1 := hc 1 (by simp)
    simp only [List.getElem_cons_zero, List.getElem_cons_succ, Nat.add_zero] at h0 h1
    have hne : g ≠ w.heap.size := by have := S.r1.lt; omega
    have c1 := S1.r1.cell
    have f1 := S1.r1.free
    have HS := Lib.hid (show parse (tail m.kind) m [] bs = some ({ m with key := a, slow := (b == 1) }, [], rest) by rw [HP.out, hti]; simp [beq_dec])
    clear hc hti s7 s8 hg hgl S hb
    go_wp2_with fail
    go_region
    all_goals
      have S' : S2 w _ (({ m with key := a, slow := (b == 1) } : M).c nilS) _ := ((S1.set1 4 (.int .i64 a)).set1 5 (.bool (b == 1))).drew_
      clear c1 f1 h0 h1 S1
      go_wp2_with (first
        | (with_reducible show wpList _ _ _ (Oper.mk _ (Op.load 27 _) _ _ _ _ :: _) _ _
           refine wpList_loadW (c := ({ m with key := a, slow := (b == 1) } : M).c nilS) S'.r1 agg27 rfl _ rfl rfl ?_)
        | (with_reducible show wpList _ _ _ (Oper.mk _ (Op.store 27 _ _) _ _ _ _ :: _) _ _
           refine wpList_storeR (c := ({ m with key := a, slow := (b == 1) } : M).c nilS) rfl _ _ rfl rfl rfl agg27.hi S'.r2 rfl (M.one _ rfl) ?_
           refine gen_world2 (S'.row2 (({ m with key := a, slow := (b == 1) } : M).c nilS)) ?_
           skip
           intro W S1))
      exact bodyPost_ret (results_ct rfl rfl rfl S1.r2) rfl ⟨.inl ⟨_, _, _, none, 0, 0, HS.out, rfl, rfl, Slf.nil_ _ _⟩, S1.below⟩
  · have S1 := S.on_ hb
    have HN := Lib.hid (show parse (tail m.kind) m [] bs = none from (by rw [HP.out, hti]; rfl))
    clear S c1 hb hti
    go_wp2_with (first
      | (with_reducible show wpList _ _ _ (Oper.mk _ (Op.load 27 _) _ _ _ _ :: _) _ _
         refine wpList_loadW (c := m.c nilS) S1.r1 agg27 rfl _ rfl rfl ?_)
      | (with_reducible show wpList _ _ _ (Oper.mk _ (Op.store 27 _ _) _ _ _ _ :: _) _ _
         refine wpList_storeR (c := m.c nilS) rfl _ _ rfl rfl rfl agg27.hi S1.r2 rfl (M.one _ rfl) ?_
         refine gen_world2 (S1.row2 (m.c nilS)) ?_
         clear S1
         intro W S1))
    exact bodyPost_ret (results_ct rfl rfl rfl S1.r2) rfl ⟨.inr ⟨HN.out, m, none, 0, 0, rfl⟩, S1.below⟩

set_option maxHeartbeats 8000000 in
theorem more_10 (m : M) (v : Value) (bs : List UInt8) (hk : m.kind = 10) (w : World) (hs : Sl w v (bv bs)) (hl : bs.length ≤ 1000) :
    Calls Tryz.prog 35 #[.agg (m.c nilS), v] w fun e w' => MoreP m bs w w' e := by
  have S := S2.new w (m.c nilS) (noM.c nilS)
  have a1 := numbers_any v bs 2 (by decide) _ (hs.below S.below) hl
  have e4 : (m.kind == 4) = false := by rw [hk]; rfl
  have e5 : (m.kind == 5) = false := by rw [hk]; rfl
  have e6 : (m.kind == 6) = false := by rw [hk]; rfl
  have e7 : (m.kind == 7) = false := by rw [hk]; rfl
  have e10 : (m.kind == 10) = true := by rw [hk]; rfl
  have e11 : (m.kind == 11) = false := by rw [hk]; rfl
  have e12 : (m.kind == 12) = false := by rw [hk]; rfl
  have hp : parse (tail m.kind) m [] bs = parse (tail 10) m [] bs := by rw [hk]
  rw [parse_10] at hp
  clear hk
  have HP := Lib.hid hp
  have HL := Lib.hid hl
  clear hp hs hl
  have c1 := S.r1.cell
  have A1 := Lib.hid a1
  clear a1
  go_enter Tryz.func35, Tryz.ntmps35
  go_wp2_with fail
  refine A1.out.mono ?_; rintro e w1 ⟨⟨v7, v8, ns, rest, rfl, hti, s7, s8, sf8⟩ | ⟨rfl, hti⟩, hb⟩
  · skip
    obtain ⟨a, b, rfl⟩ := list2 (takeI_len hti).1
    obtain ⟨g, off, cp, rfl, hg, hgl, hc⟩ := s7.int_ (by simp)
    have S1 := S.on_ hb
    have cc1 := S1.r1.cell
    have h0 := hc 0 (by simp)
    have h1 := hc 1 (by simp)
    simp only [List.getElem_cons_zero, List.getElem_cons_succ, Nat.add_zero] at h0 h1
    have hne : g ≠ w.heap.size := by have := S.r1.lt; omega
    have c1 := S1.r1.cell
    have f1 := S1.r1.free
    have HS := Lib.hid (show parse (tail m.kind) m [] bs = some ({ m with place := a, done := (b == 1) }, [], rest) by rw [HP.out, hti]; simp [beq_dec])
    clear hc hti s7 s8 hg hgl S hb
    go_wp2_with fail
    go_region
    all_goals
      have S' : S2 w _ (({ m with place := a, done := (b == 1) } : M).c nilS) _ := ((S1.set1 7 (.int .i64 a)).set1 6 (.bool (b == 1))).drew_
      clear c1 f1 h0 h1 S1
      go_wp2_with (first
        | (with_reducible show wpList _ _ _ (Oper.mk _ (Op.load 27 _) _ _ _ _ :: _) _ _
           refine wpList_loadW (c := ({ m with place := a, done := (b == 1) } : M).c nilS) S'.r1 agg27 rfl _ rfl rfl ?_)
        | (with_reducible show wpList _ _ _ (Oper.mk _ (Op.store 27 _ _) _ _ _ _ :: _) _ _
           refine wpList_storeR (c := ({ m with place := a, done := (b == 1) } : M).c nilS) rfl _ _ rfl rfl rfl agg27.hi S'.r2 rfl (M.one _ rfl) ?_
           refine gen_world2 (S'.row2 (({ m with place := a, done := (b == 1) } : M).c nilS)) ?_
           skip
           intro W S1))
      exact bodyPost_ret (results_ct rfl rfl rfl S1.r2) rfl ⟨.inl ⟨_, _, _, none, 0, 0, HS.out, rfl, rfl, Slf.nil_ _ _⟩, S1.below⟩
  · have S1 := S.on_ hb
    have HN := Lib.hid (show parse (tail m.kind) m [] bs = none from (by rw [HP.out, hti]; rfl))
    clear S c1 hb hti
    go_wp2_with (first
      | (with_reducible show wpList _ _ _ (Oper.mk _ (Op.load 27 _) _ _ _ _ :: _) _ _
         refine wpList_loadW (c := m.c nilS) S1.r1 agg27 rfl _ rfl rfl ?_)
      | (with_reducible show wpList _ _ _ (Oper.mk _ (Op.store 27 _ _) _ _ _ _ :: _) _ _
         refine wpList_storeR (c := m.c nilS) rfl _ _ rfl rfl rfl agg27.hi S1.r2 rfl (M.one _ rfl) ?_
         refine gen_world2 (S1.row2 (m.c nilS)) ?_
         clear S1
         intro W S1))
    exact bodyPost_ret (results_ct rfl rfl rfl S1.r2) rfl ⟨.inr ⟨HN.out, m, none, 0, 0, rfl⟩, S1.below⟩

set_option maxHeartbeats 8000000 in
theorem more_x (m : M) (v : Value) (bs : List UInt8) (n4 : m.kind ≠ 4) (n5 : m.kind ≠ 5) (n6 : m.kind ≠ 6) (n7 : m.kind ≠ 7) (n10 : m.kind ≠ 10) (n11 : m.kind ≠ 11) (n12 : m.kind ≠ 12) (w : World) (hs : Sl w v (bv bs)) (hl : bs.length ≤ 1000) :
    Calls Tryz.prog 35 #[.agg (m.c nilS), v] w fun e w' => MoreP m bs w w' e := by
  have S := S2.new w (m.c nilS) (noM.c nilS)
  have a1 := numbers_any v bs 0 (by decide) _ (hs.below S.below) hl
  have e4 : (m.kind == 4) = false := by simp [n4]
  have e5 : (m.kind == 5) = false := by simp [n5]
  have e6 : (m.kind == 6) = false := by simp [n6]
  have e7 : (m.kind == 7) = false := by simp [n7]
  have e10 : (m.kind == 10) = false := by simp [n10]
  have e11 : (m.kind == 11) = false := by simp [n11]
  have e12 : (m.kind == 12) = false := by simp [n12]
  have hp : parse (tail m.kind) m [] bs = some (m, [], bs) := parse_not m bs n4 n5 n6 n7 n10 n11 n12
  clear n4 n5 n6 n7 n10 n11 n12
  have HP := Lib.hid hp
  have HL := Lib.hid hl
  clear hp hs hl
  have c1 := S.r1.cell
  have A1 := Lib.hid a1
  clear a1
  go_enter Tryz.func35, Tryz.ntmps35
  go_wp2_with fail
  refine A1.out.mono ?_; rintro e w1 ⟨⟨v7, v8, ns, rest, rfl, hti, s7, s8, sf8⟩ | ⟨rfl, hti⟩, hb⟩
  · skip
    have S1 := S.on_ hb
    have cc1 := S1.r1.cell
    clear S c1 hb s7 s8
    go_wp2_with (first
      | (with_reducible show wpList _ _ _ (Oper.mk _ (Op.load 27 _) _ _ _ _ :: _) _ _
         refine wpList_loadW (c := m.c nilS) S1.r1 agg27 rfl _ rfl rfl ?_)
      | (with_reducible show wpList _ _ _ (Oper.mk _ (Op.store 27 _ _) _ _ _ _ :: _) _ _
         refine wpList_storeR (c := m.c nilS) rfl _ _ rfl rfl rfl agg27.hi S1.r2 rfl (M.one _ rfl) ?_
         refine gen_world2 (S1.row2 (m.c nilS)) ?_
         clear S1
         intro W S1))
    exact bodyPost_ret (results_ct rfl rfl rfl S1.r2) rfl ⟨.inl ⟨_, _, _, none, 0, 0, HP.out, rfl, rfl, Slf.nil_ _ _⟩, S1.below⟩
  · cases hti
end Go.Proofs.YtaacjpcckinaiaaGreat
