/- What the document's own reading tells behind the first four numbers. -/
import Derived.Test.YtaacjpcckinaiaaGreatWRefA
set_option linter.unusedVariables false
set_option maxRecDepth 100000
set_option linter.unusedSimpArgs false
namespace Go.Proofs.YtaacjpcckinaiaaGreat
open Go.RowKit Go.Shelf Ms

set_option maxHeartbeats 8000000 in
theorem more_11 (m : M) (v : Value) (bs : List UInt8) (hk : m.kind = 11) (w : World) (hs : Sl w v (bv bs)) (hl : bs.length ≤ 1000) :
    Calls Tryz.prog 35 #[.agg (m.c nilS), v] w fun e w' => MoreP m bs w w' e := by
  have S := S2.new w (m.c nilS) (noM.c nilS)
  have a1 := numbers_any v bs 1 (by decide) _ (hs.below S.below) hl
  have e4 : (m.kind == 4) = false := by rw [hk]; rfl
  have e5 : (m.kind == 5) = false := by rw [hk]; rfl
  have e6 : (m.kind == 6) = false := by rw [hk]; rfl
  have e7 : (m.kind == 7) = false := by rw [hk]; rfl
  have e10 : (m.kind == 10) = false := by rw [hk]; rfl
  have e11 : (m.kind == 11) = true := by rw [hk]; rfl
  have e12 : (m.kind == 12) = false := by rw [hk]; rfl
  have hp : parse (tail m.kind) m [] bs = parse (tail 11) m [] bs := by rw [hk]
  rw [parse_11] at hp
  clear hk
  have HP := Lib.hid hp
  have HL := Lib.hid hl
  clear hp hs hl
  have c1 := S.r1.cell
  have A1 := Lib.hid a1
  clear a1
  go_enter Tryz.func35, Tryz.ntmps35
  go_wp2_with fail
  refine A1.out.mono ?_; rintro e w1 ⟨⟨v7, v8, ns, rest, rfl, hti, s7, s8, sf8⟩ | ⟨rfl, hti⟩, hb⟩
  · skip
    obtain ⟨a, rfl⟩ := list1 (takeI_len hti).1
    obtain ⟨g, off, cp, rfl, hg, hgl, hc⟩ := s7.int_ (by simp)
    have S1 := S.on_ hb
    have cc1 := S1.r1.cell
    have h0 := hc 0 (by simp)
    simp only [List.getElem_cons_zero, List.getElem_cons_succ, Nat.add_zero] at h0
    have hne : g ≠ w.heap.size := by have := S.r1.lt; omega
    have HS := Lib.hid (show parse (tail m.kind) m [] bs = some ({ m with code := a }, [], rest) by rw [HP.out, hti]; rfl)
    clear hc hti s7 s8 hg hgl S hb c1
    go_wp2_with (first
      | (with_reducible show wpList _ _ _ (Oper.mk _ (Op.store 25 _ _) _ _ _ _ :: _) _ _
         refine wpList_store1 S1.r1 (by kernel_rfl) rfl _ _ rfl (j := 14) rfl (v := .int .i64 a) rfl (by show 14 < 15; decide) rfl rfl ?_
         refine gen_world2 (c1 := ({ m with code := a } : M).c nilS) (S1.set1 14 (.int .i64 a)) ?_
         clear S1
         intro W S1)
      | (with_reducible show wpList _ _ _ (Oper.mk _ (Op.load 27 _) _ _ _ _ :: _) _ _
         refine wpList_loadW (c := ({ m with code := a } : M).c nilS) S1.r1 agg27 rfl _ rfl rfl ?_)
      | (with_reducible show wpList _ _ _ (Oper.mk _ (Op.store 27 _ _) _ _ _ _ :: _) _ _
         refine wpList_storeR (c := ({ m with code := a } : M).c nilS) rfl _ _ rfl rfl rfl agg27.hi S1.r2 rfl (M.one _ rfl) ?_
         refine gen_world2 (S1.row2 (({ m with code := a } : M).c nilS)) ?_
         clear S1
         intro W S1))
    exact bodyPost_ret (results_ct rfl rfl rfl S1.r2) rfl ⟨.inl ⟨_, _, _, none, 0, 0, HS.out, rfl, rfl, Slf.nil_ _ _⟩, S1.below⟩
  · have S1 := S.on_ hb
    have HN := Lib.hid (show parse (tail m.kind) m [] bs = none from (by rw [HP.out, hti]; rfl))
    clear S c1 hb hti
    go_wp2_with (first
      | (with_reducible show wpList _ _ _ (Oper.mk _ (Op.load 27 _) _ _ _ _ :: _) _ _
         refine wpList_loadW (c := m.c nilS) S1.r1 agg27 rfl _ rfl rfl ?_)
      | (with_reducible show wpList _ _ _ (Oper.mk _ (Op.store 27 _ _) _ _ _ _ :: _) _ _
         refine wpList_storeR (c := m.c nilS) rfl _ _ rfl rfl rfl agg27.hi S1.r2 rfl (M.one _ rfl) ?_
         refine gen_world2 (S1.row2 (m.c nilS)) ?_
         clear S1
         intro W S1))
    exact bodyPost_ret (results_ct rfl rfl rfl S1.r2) rfl ⟨.inr ⟨HN.out, m, none, 0, 0, rfl⟩, S1.below⟩

set_option maxHeartbeats 8000000 in
theorem more_6 (m : M) (v : Value) (bs : List UInt8) (hk : m.kind = 6) (w : World) (hs : Sl w v (bv bs)) (hl : bs.length ≤ 1000) :
    Calls Tryz.prog 35 #[.agg (m.c nilS), v] w fun e w' => MoreP m bs w w' e := by
  have S := S2.new w (m.c nilS) (noM.c nilS)
  have a1 := numbers_any v bs 0 (by decide) _ (hs.below S.below) hl
  have e4 : (m.kind == 4) = false := by rw [hk]; rfl
  have e5 : (m.kind == 5) = false := by rw [hk]; rfl
  have e6 : (m.kind == 6) = true := by rw [hk]; rfl
  have e7 : (m.kind == 7) = false := by rw [hk]; rfl
  have e10 : (m.kind == 10) = false := by rw [hk]; rfl
  have e11 : (m.kind == 11) = false := by rw [hk]; rfl
  have e12 : (m.kind == 12) = false := by rw [hk]; rfl
  have hp : parse (tail m.kind) m [] bs = parse (tail 6) m [] bs := by rw [hk]
  rw [parse_6] at hp
  clear hk
  have HP := Lib.hid hp
  have HL := Lib.hid hl
  clear hp hs hl
  have c1 := S.r1.cell
  have A1 := Lib.hid a1
  clear a1
  go_enter Tryz.func35, Tryz.ntmps35
  go_wp2_with fail
  refine A1.out.mono ?_; rintro e w1 ⟨⟨v7, v8, ns, rest, rfl, hti, s7, s8, sf8⟩ | ⟨rfl, hti⟩, hb⟩
  · skip
    obtain ⟨rfl, rfl⟩ : ns = [] ∧ rest = bs := by injection hti with h; injection h with h1 h2; exact ⟨h1.symm, h2.symm⟩
    have S1 := S.on_ hb
    have cc1 := S1.r1.cell
    have a2 := Num.refTakeText_any v8 rest _ s8 (by have := HL.out; omega)
    clear S c1 hb s7
    by_cases he : (Num.takeT rest).2.2 = 0
    · have HS := Lib.hid (show parse (tail m.kind) m [] rest = some ({ m with it := { m.it with key := ⟨(Num.takeT rest).1.toArray⟩ } }, [], (Num.takeT rest).2.1) by rw [HP.out, tT_some he]; rfl)
      rw [he] at a2
      generalize (ByteArray.mk (Num.takeT rest).1.toArray) = s at *
      clear he s8
      go_wp2_with fail
      refine a2.mono ?_; rintro e w2 ⟨v16, rfl, _, hb⟩
      replace S1 := S1.on_ hb
      clear hb a2
      go_wp2_with (first
        | (with_reducible show wpList _ _ _ (Oper.mk _ (Op.store 9 _ _) _ _ _ _ :: _) _ _
           refine wpList_store1 S1.r1 (by kernel_rfl) rfl _ _ rfl (j := 10) rfl (v := .string s) rfl (by show 10 < 15; decide) rfl rfl ?_
           refine gen_world2 (c1 := ({ m with it := { m.it with key := s } } : M).c nilS) (S1.set1 10 (.string s)) ?_
           clear S1
           intro W S1)
        | (with_reducible show wpList _ _ _ (Oper.mk _ (Op.load 27 _) _ _ _ _ :: _) _ _
           refine wpList_loadW (c := ({ m with it := { m.it with key := s } } : M).c nilS) S1.r1 agg27 rfl _ rfl rfl ?_)
        | (with_reducible show wpList _ _ _ (Oper.mk _ (Op.store 27 _ _) _ _ _ _ :: _) _ _
           refine wpList_storeR (c := ({ m with it := { m.it with key := s } } : M).c nilS) rfl _ _ rfl rfl rfl agg27.hi S1.r2 rfl (M.one _ rfl) ?_
           refine gen_world2 (S1.row2 (({ m with it := { m.it with key := s } } : M).c nilS)) ?_
           clear S1
           intro W S1))
      exact bodyPost_ret (results_ct rfl rfl rfl S1.r2) rfl ⟨.inl ⟨_, _, _, none, 0, 0, HS.out, rfl, rfl, Slf.nil_ _ _⟩, S1.below⟩
    · have HN := Lib.hid (show parse (tail m.kind) m [] rest = none by rw [HP.out, tT_none he]; rfl)
      have hz : (((Num.takeT rest).2.2 : Int) == 0) = false := by rw [beq_eq_false_iff_ne]; omega
      generalize ((Num.takeT rest).2.2 : Int) = E at *
      generalize (ByteArray.mk (Num.takeT rest).1.toArray) = s at *
      clear he s8
      go_wp2_with fail
      refine a2.mono ?_; rintro e w2 ⟨v16, rfl, _, hb⟩
      replace S1 := S1.on_ hb
      clear hb a2
      go_wp2_with (first
        | (with_reducible show wpList _ _ _ (Oper.mk _ (Op.store 9 _ _) _ _ _ _ :: _) _ _
           refine wpList_store1 S1.r1 (by kernel_rfl) rfl _ _ rfl (j := 10) rfl (v := .string s) rfl (by show 10 < 15; decide) rfl rfl ?_
           refine gen_world2 (c1 := ({ m with it := { m.it with key := s } } : M).c nilS) (S1.set1 10 (.string s)) ?_
           clear S1
           intro W S1)
        | (with_reducible show wpList _ _ _ (Oper.mk _ (Op.load 27 _) _ _ _ _ :: _) _ _
           refine wpList_loadW (c := ({ m with it := { m.it with key := s } } : M).c nilS) S1.r1 agg27 rfl _ rfl rfl ?_)
        | (with_reducible show wpList _ _ _ (Oper.mk _ (Op.store 27 _ _) _ _ _ _ :: _) _ _
           refine wpList_storeR (c := ({ m with it := { m.it with key := s } } : M).c nilS) rfl _ _ rfl rfl rfl agg27.hi S1.r2 rfl (M.one _ rfl) ?_
           refine gen_world2 (S1.row2 (({ m with it := { m.it with key := s } } : M).c nilS)) ?_
           clear S1
           intro W S1))
      exact bodyPost_ret (results_ct rfl rfl rfl S1.r2) rfl ⟨.inr ⟨HN.out, _, none, 0, 0, rfl⟩, S1.below⟩
  · cases hti

set_option maxHeartbeats 8000000 in
theorem more_5 (m : M) (v : Value) (bs : List UInt8) (hk : m.kind = 5) (w : World) (hs : Sl w v (bv bs)) (hl : bs.length ≤ 1000) :
    Calls Tryz.prog 35 #[.agg (m.c nilS), v] w fun e w' => MoreP m bs w w' e := by
  have S := S2.new w (m.c nilS) (noM.c nilS)
  have a1 := numbers_any v bs 0 (by decide) _ (hs.below S.below) hl
  have e4 : (m.kind == 4) = false := by rw [hk]; rfl
  have e5 : (m.kind == 5) = true := by rw [hk]; rfl
  have e6 : (m.kind == 6) = false := by rw [hk]; rfl
  have e7 : (m.kind == 7) = false := by rw [hk]; rfl
  have e10 : (m.kind == 10) = false := by rw [hk]; rfl
  have e11 : (m.kind == 11) = false := by rw [hk]; rfl
  have e12 : (m.kind == 12) = false := by rw [hk]; rfl
  have hp : parse (tail m.kind) m [] bs = parse (tail 5) m [] bs := by rw [hk]
  rw [parse_5] at hp
  clear hk
  have HP := Lib.hid hp
  have HL := Lib.hid hl
  clear hp hs hl
  have c1 := S.r1.cell
  have A1 := Lib.hid a1
  clear a1
  go_enter Tryz.func35, Tryz.ntmps35
  go_wp2_with fail
  refine A1.out.mono ?_; rintro e w1 ⟨⟨v7, v8, ns, rest, rfl, hti, s7, s8, sf8⟩ | ⟨rfl, hti⟩, hb⟩
  · skip
    obtain ⟨rfl, rfl⟩ : ns = [] ∧ rest = bs := by injection hti with h; injection h with h1 h2; exact ⟨h1.symm, h2.symm⟩
    have S1 := S.on_ hb
    have cc1 := S1.r1.cell
    have a2 := paired_any v8 rest _ s8 (by have := HL.out; omega)
    clear S c1 hb s7 s8
    go_wp2_with fail
    refine a2.mono ?_; rintro e w2 ⟨⟨x, r, htp, rfl⟩ | ⟨htp, x, rfl⟩, hb⟩
    · have HS := Lib.hid (show parse (tail m.kind) m [] rest = some ({ m with it := x }, [], r) by rw [HP.out, htp]; rfl)
      replace S1 := S1.on_ hb
      clear hb a2 htp
      have R3 := (Rw.new w2 noIt.c 24).setRow (c' := x.c)
      have S2a := S1.on_ (below_setRow (box_below w2 (.cells noIt.c 24)) (Nat.le_refl _) x.c)
      clear S1
      go_wp2_with (first
        | (with_reducible show wpList _ _ _ (Oper.mk _ (Op.store 24 (.tmp 13) _) _ _ _ _ :: _) _ _
           refine wpList_storeR (c := x.c) rfl _ _ rfl rfl rfl agg24.hi (Rw.new w2 noIt.c 24) rfl (It.one_ _) ?_
           refine gen_w (fun X => S2 w X (m.c nilS) (noM.c nilS) ∧ Rw X w2.heap.size 24 x.c) ⟨S2a, R3⟩ ?_
           clear S2a R3
           rintro w3 ⟨S1, R3⟩)
        | (with_reducible show wpList _ _ _ (Oper.mk _ (Op.load 24 (.tmp 13)) _ _ _ _ :: _) _ _
           refine wpList_loadW R3 agg24 rfl _ rfl rfl ?_)
        | (with_reducible show wpList _ _ _ (Oper.mk _ (Op.store 24 (.tmp 95) _) _ _ _ _ :: _) _ _
           refine wpList_storeI S1.r1 (x := x) (by kernel_rfl) rfl _ _ rfl rfl rfl (by show 14 ≤ 15; decide) ?_
           refine gen_world2 (c1 := ({ m with it := x } : M).c nilS) (S1.it1 x) ?_
           clear S1 R3
           intro w4 S1)
        | (with_reducible show wpList _ _ _ (Oper.mk _ (Op.load 27 _) _ _ _ _ :: _) _ _
           refine wpList_loadW (c := ({ m with it := x } : M).c nilS) S1.r1 agg27 rfl _ rfl rfl ?_)
        | (with_reducible show wpList _ _ _ (Oper.mk _ (Op.store 27 _ _) _ _ _ _ :: _) _ _
           refine wpList_storeR (c := ({ m with it := x } : M).c nilS) rfl _ _ rfl rfl rfl agg27.hi S1.r2 rfl (M.one _ rfl) ?_
           refine gen_world2 (S1.row2 (({ m with it := x } : M).c nilS)) ?_
           clear S1
           intro W S1))
      exact bodyPost_ret (results_ct rfl rfl rfl S1.r2) rfl ⟨.inl ⟨_, _, _, none, 0, 0, HS.out, rfl, rfl, Slf.nil_ _ _⟩, S1.below⟩
    · have HN := Lib.hid (show parse (tail m.kind) m [] rest = none by rw [HP.out, htp]; rfl)
      replace S1 := S1.on_ hb
      clear hb a2 htp
      have R3 := (Rw.new w2 noIt.c 24).setRow (c' := x.c)
      have S2a := S1.on_ (below_setRow (box_below w2 (.cells noIt.c 24)) (Nat.le_refl _) x.c)
      clear S1
      go_wp2_with (first
        | (with_reducible show wpList _ _ _ (Oper.mk _ (Op.store 24 (.tmp 13) _) _ _ _ _ :: _) _ _
           refine wpList_storeR (c := x.c) rfl _ _ rfl rfl rfl agg24.hi (Rw.new w2 noIt.c 24) rfl (It.one_ _) ?_
           refine gen_w (fun X => S2 w X (m.c nilS) (noM.c nilS) ∧ Rw X w2.heap.size 24 x.c) ⟨S2a, R3⟩ ?_
           clear S2a R3
           rintro w3 ⟨S1, R3⟩)
        | (with_reducible show wpList _ _ _ (Oper.mk _ (Op.load 24 (.tmp 13)) _ _ _ _ :: _) _ _
           refine wpList_loadW R3 agg24 rfl _ rfl rfl ?_)
        | (with_reducible show wpList _ _ _ (Oper.mk _ (Op.store 24 (.tmp 95) _) _ _ _ _ :: _) _ _
           refine wpList_storeI S1.r1 (x := x) (by kernel_rfl) rfl _ _ rfl rfl rfl (by show 14 ≤ 15; decide) ?_
           refine gen_world2 (c1 := ({ m with it := x } : M).c nilS) (S1.it1 x) ?_
           clear S1 R3
           intro w4 S1)
        | (with_reducible show wpList _ _ _ (Oper.mk _ (Op.load 27 _) _ _ _ _ :: _) _ _
           refine wpList_loadW (c := ({ m with it := x } : M).c nilS) S1.r1 agg27 rfl _ rfl rfl ?_)
        | (with_reducible show wpList _ _ _ (Oper.mk _ (Op.store 27 _ _) _ _ _ _ :: _) _ _
           refine wpList_storeR (c := ({ m with it := x } : M).c nilS) rfl _ _ rfl rfl rfl agg27.hi S1.r2 rfl (M.one _ rfl) ?_
           refine gen_world2 (S1.row2 (({ m with it := x } : M).c nilS)) ?_
           clear S1
           intro W S1))
      exact bodyPost_ret (results_ct rfl rfl rfl S1.r2) rfl ⟨.inr ⟨HN.out, _, none, 0, 0, rfl⟩, S1.below⟩
  · cases hti
end Go.Proofs.YtaacjpcckinaiaaGreat
