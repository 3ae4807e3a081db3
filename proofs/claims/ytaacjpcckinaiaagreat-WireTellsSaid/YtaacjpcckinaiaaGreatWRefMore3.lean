/- What the document's own reading tells behind the first four numbers. -/
import Derived.Test.YtaacjpcckinaiaaGreatWRefA
set_option linter.unusedVariables false
set_option maxRecDepth 100000
set_option linter.unusedSimpArgs false
namespace Go.Proofs.YtaacjpcckinaiaaGreat
open Go.RowKit Go.Shelf Ms

set_option maxHeartbeats 8000000 in
theorem more_12 (m : M) (v : Value) (bs : List UInt8) (hk : m.kind = 12) (w : World) (hs : Sl w v (bv bs)) (hl : bs.length ≤ 1000) :
    Calls Tryz.prog 35 #[.agg (m.c nilS), v] w fun e w' => MoreP m bs w w' e := by
  have S := S2.new w (m.c nilS) (noM.c nilS)
  have a1 := numbers_any v bs 1 (by decide) _ (hs.below S.below) hl
  have e4 : (m.kind == 4) = false := by rw [hk]; rfl
  have e5 : (m.kind == 5) = false := by rw [hk]; rfl
  have e6 : (m.kind == 6) = false := by rw [hk]; rfl
  have e7 : (m.kind == 7) = false := by rw [hk]; rfl
  have e10 : (m.kind == 10) = false := by rw [hk]; rfl
  have e11 : (m.kind == 11) = false := by rw [hk]; rfl
  have e12 : (m.kind == 12) = true := by rw [hk]; rfl
  have hp : parse (tail m.kind) m [] bs = parse (tail 12) m [] bs := by rw [hk]
  rw [parse_12] at hp
  clear hk
  have HP := Lib.hid hp
  have HL := Lib.hid hl
  clear hp hs hl
  have c1 := S.r1.cell
  have A1 := Lib.hid a1
  clear a1
  go_enter Tryz.func35, Tryz.ntmps35
  go_wp2_with fail
  refine A1.out.mono ?_; rintro e w1 ⟨⟨v7, v8, ns, rest, rfl, hti, s7, s8, sf8⟩ | ⟨rfl, hti⟩, hb⟩
  · skip
    obtain ⟨a, rfl⟩ := list1 (takeI_len hti).1
    obtain ⟨g, off, cp, rfl, hg, hgl, hc⟩ := s7.int_ (by simp)
    have S1 := S.on_ hb
    have cc1 := S1.r1.cell
    have h0 := hc 0 (by simp)
    simp only [List.getElem_cons_zero, List.getElem_cons_succ, Nat.add_zero] at h0
    have hne : g ≠ w.heap.size := by have := S.r1.lt; omega
    have HS0 := Lib.hid (show parse (tail m.kind) m [] bs = if a = 0 then (tP rest).map fun r => ({ m with code := a, it := r.1 }, [], r.2) else some ({ m with code := a }, [], rest) by rw [HP.out, hti]; rfl)
    have HLR := Lib.hid (show rest.length ≤ 1000 by have := (takeI_len hti).2; have := HL.out; simp only at *; omega)
    have s9 := (sf8 (by decide)).set_ (b := w.heap.size) S.r1.lt 14 (.int .i64 a)
    clear hc hti s7 hg hgl S hb c1 s8 sf8
    by_cases ha : a = 0
    · have qa : (a == 0) = true := by rw [ha]; rfl
      rw [if_pos ha] at HS0
      clear ha
      go_wp2_with (first
        | (with_reducible show wpList _ _ _ (Oper.mk _ (Op.store 25 _ _) _ _ _ _ :: _) _ _
           refine wpList_store1 S1.r1 (by kernel_rfl) rfl _ _ rfl (j := 14) rfl (v := .int .i64 a) rfl (by show 14 < 15; decide) rfl rfl ?_
           refine gen_w (fun X => S2 w X (({ m with code := a } : M).c nilS) (noM.c nilS) ∧ Sl X v8 (bv rest)) ⟨S1.set1 14 (.int .i64 a), s9.sl⟩ ?_
           clear S1 s9
           rintro wx ⟨S1, s8⟩
           have cx := S1.r1.cell))
      have a2 := paired_any v8 rest _ s8 HLR.out
      clear s8
      refine a2.mono ?_; rintro e w2 ⟨⟨x, r, htp, rfl⟩ | ⟨htp, x, rfl⟩, hb⟩
      · have HS := Lib.hid (show parse (tail m.kind) m [] bs = some ({ m with code := a, it := x }, [], r) by rw [HS0.out, htp]; rfl)
        replace S1 := S1.on_ hb
        clear hb a2 htp cx
        have R3 := (Rw.new w2 noIt.c 24).setRow (c' := x.c)
        have S2a := S1.on_ (below_setRow (box_below w2 (.cells noIt.c 24)) (Nat.le_refl _) x.c)
        clear S1
        go_wp2_with (first
          | (with_reducible show wpList _ _ _ (Oper.mk _ (Op.store 24 (.tmp 18) _) _ _ _ _ :: _) _ _
             refine wpList_storeR (c := x.c) rfl _ _ rfl rfl rfl agg24.hi (Rw.new w2 noIt.c 24) rfl (It.one_ _) ?_
             refine gen_w (fun X => S2 w X (({ m with code := a } : M).c nilS) (noM.c nilS) ∧ Rw X w2.heap.size 24 x.c) ⟨S2a, R3⟩ ?_
             clear S2a R3
             rintro w3 ⟨S1, R3⟩)
          | (with_reducible show wpList _ _ _ (Oper.mk _ (Op.load 24 (.tmp 18)) _ _ _ _ :: _) _ _
             refine wpList_loadW R3 agg24 rfl _ rfl rfl ?_)
          | (with_reducible show wpList _ _ _ (Oper.mk _ (Op.store 24 (.tmp 127) _) _ _ _ _ :: _) _ _
             refine wpList_storeI S1.r1 (x := x) (by kernel_rfl) rfl _ _ rfl rfl rfl (by show 14 ≤ 15; decide) ?_
             refine gen_world2 (c1 := ({ m with code := a, it := x } : M).c nilS) (S1.it1 x) ?_
             clear S1 R3
             intro w4 S1)
          | (with_reducible show wpList _ _ _ (Oper.mk _ (Op.load 27 _) _ _ _ _ :: _) _ _
             refine wpList_loadW (c := ({ m with code := a, it := x } : M).c nilS) S1.r1 agg27 rfl _ rfl rfl ?_)
          | (with_reducible show wpList _ _ _ (Oper.mk _ (Op.store 27 _ _) _ _ _ _ :: _) _ _
             refine wpList_storeR (c := ({ m with code := a, it := x } : M).c nilS) rfl _ _ rfl rfl rfl agg27.hi S1.r2 rfl (M.one _ rfl) ?_
             refine gen_world2 (S1.row2 (({ m with code := a, it := x } : M).c nilS)) ?_
             clear S1
             intro W S1))
        exact bodyPost_ret (results_ct rfl rfl rfl S1.r2) rfl ⟨.inl ⟨_, _, _, none, 0, 0, HS.out, rfl, rfl, Slf.nil_ _ _⟩, S1.below⟩
      · have HN := Lib.hid (show parse (tail m.kind) m [] bs = none by rw [HS0.out, htp]; rfl)
        replace S1 := S1.on_ hb
        clear hb a2 htp cx
        have R3 := (Rw.new w2 noIt.c 24).setRow (c' := x.c)
        have S2a := S1.on_ (below_setRow (box_below w2 (.cells noIt.c 24)) (Nat.le_refl _) x.c)
        clear S1
        go_wp2_with (first
          | (with_reducible show wpList _ _ _ (Oper.mk _ (Op.store 24 (.tmp 18) _) _ _ _ _ :: _) _ _
             refine wpList_storeR (c := x.c) rfl _ _ rfl rfl rfl agg24.hi (Rw.new w2 noIt.c 24) rfl (It.one_ _) ?_
             refine gen_w (fun X => S2 w X (({ m with code := a } : M).c nilS) (noM.c nilS) ∧ Rw X w2.heap.size 24 x.c) ⟨S2a, R3⟩ ?_
             clear S2a R3
             rintro w3 ⟨S1, R3⟩)
          | (with_reducible show wpList _ _ _ (Oper.mk _ (Op.load 24 (.tmp 18)) _ _ _ _ :: _) _ _
             refine wpList_loadW R3 agg24 rfl _ rfl rfl ?_)
          | (with_reducible show wpList _ _ _ (Oper.mk _ (Op.store 24 (.tmp 127) _) _ _ _ _ :: _) _ _
             refine wpList_storeI S1.r1 (x := x) (by kernel_rfl) rfl _ _ rfl rfl rfl (by show 14 ≤ 15; decide) ?_
             refine gen_world2 (c1 := ({ m with code := a, it := x } : M).c nilS) (S1.it1 x) ?_
             clear S1 R3
             intro w4 S1)
          | (with_reducible show wpList _ _ _ (Oper.mk _ (Op.load 27 _) _ _ _ _ :: _) _ _
             refine wpList_loadW (c := ({ m with code := a, it := x } : M).c nilS) S1.r1 agg27 rfl _ rfl rfl ?_)
          | (with_reducible show wpList _ _ _ (Oper.mk _ (Op.store 27 _ _) _ _ _ _ :: _) _ _
             refine wpList_storeR (c := ({ m with code := a, it := x } : M).c nilS) rfl _ _ rfl rfl rfl agg27.hi S1.r2 rfl (M.one _ rfl) ?_
             refine gen_world2 (S1.row2 (({ m with code := a, it := x } : M).c nilS)) ?_
             clear S1
             intro W S1))
        exact bodyPost_ret (results_ct rfl rfl rfl S1.r2) rfl ⟨.inr ⟨HN.out, _, none, 0, 0, rfl⟩, S1.below⟩
    · have qa : (a == 0) = false := by simp [ha]
      rw [if_neg ha] at HS0
      clear ha
      go_wp2_with (first
        | (with_reducible show wpList _ _ _ (Oper.mk _ (Op.store 25 _ _) _ _ _ _ :: _) _ _
           refine wpList_store1 S1.r1 (by kernel_rfl) rfl _ _ rfl (j := 14) rfl (v := .int .i64 a) rfl (by show 14 < 15; decide) rfl rfl ?_
           refine gen_w (fun X => S2 w X (({ m with code := a } : M).c nilS) (noM.c nilS) ∧ Sl X v8 (bv rest)) ⟨S1.set1 14 (.int .i64 a), s9.sl⟩ ?_
           clear S1 s9
           rintro wx ⟨S1, s8⟩
           have cx := S1.r1.cell)
        | (with_reducible show wpList _ _ _ (Oper.mk _ (Op.load 27 _) _ _ _ _ :: _) _ _
           refine wpList_loadW (c := ({ m with code := a } : M).c nilS) S1.r1 agg27 rfl _ rfl rfl ?_)
        | (with_reducible show wpList _ _ _ (Oper.mk _ (Op.store 27 _ _) _ _ _ _ :: _) _ _
           refine wpList_storeR (c := ({ m with code := a } : M).c nilS) rfl _ _ rfl rfl rfl agg27.hi S1.r2 rfl (M.one _ rfl) ?_
           refine gen_world2 (S1.row2 (({ m with code := a } : M).c nilS)) ?_
           clear S1
           intro W S1))
      exact bodyPost_ret (results_ct rfl rfl rfl S1.r2) rfl ⟨.inl ⟨_, _, _, none, 0, 0, HS0.out, rfl, rfl, Slf.nil_ _ _⟩, S1.below⟩
  · have S1 := S.on_ hb
    have HN := Lib.hid (show parse (tail m.kind) m [] bs = none from (by rw [HP.out, hti]; rfl))
    clear S c1 hb hti
    go_wp2_with (first
      | (with_reducible show wpList _ _ _ (Oper.mk _ (Op.load 27 _) _ _ _ _ :: _) _ _
         refine wpList_loadW (c := m.c nilS) S1.r1 agg27 rfl _ rfl rfl ?_)
      | (with_reducible show wpList _ _ _ (Oper.mk _ (Op.store 27 _ _) _ _ _ _ :: _) _ _
         refine wpList_storeR (c := m.c nilS) rfl _ _ rfl rfl rfl agg27.hi S1.r2 rfl (M.one _ rfl) ?_
         refine gen_world2 (S1.row2 (m.c nilS)) ?_
         clear S1
         intro W S1))
    exact bodyPost_ret (results_ct rfl rfl rfl S1.r2) rfl ⟨.inr ⟨HN.out, m, none, 0, 0, rfl⟩, S1.below⟩

set_option maxHeartbeats 8000000 in
theorem more_7 (m : M) (v : Value) (bs : List UInt8) (hk : m.kind = 7) (w : World) (hs : Sl w v (bv bs)) (hl : bs.length ≤ 1000) :
    Calls Tryz.prog 35 #[.agg (m.c nilS), v] w fun e w' => MoreP m bs w w' e := by
  have S := S2.new w (m.c nilS) (noM.c nilS)
  have a1 := numbers_any v bs 1 (by decide) _ (hs.below S.below) hl
  have e4 : (m.kind == 4) = false := by rw [hk]; rfl
  have e5 : (m.kind == 5) = false := by rw [hk]; rfl
  have e6 : (m.kind == 6) = false := by rw [hk]; rfl
  have e7 : (m.kind == 7) = true := by rw [hk]; rfl
  have e10 : (m.kind == 10) = false := by rw [hk]; rfl
  have e11 : (m.kind == 11) = false := by rw [hk]; rfl
  have e12 : (m.kind == 12) = false := by rw [hk]; rfl
  have hp : parse (tail m.kind) m [] bs = parse (tail 7) m [] bs := by rw [hk]
  rw [parse_7] at hp
  clear hk
  have HP := Lib.hid hp
  have HL := Lib.hid hl
  clear hp hs hl
  have c1 := S.r1.cell
  have A1 := Lib.hid a1
  clear a1
  go_enter Tryz.func35, Tryz.ntmps35
  go_wp2_with fail
  refine A1.out.mono ?_; rintro e w1 ⟨⟨v7, v8, ns, rest, rfl, hti, s7, s8, sf8⟩ | ⟨rfl, hti⟩, hb⟩
  · skip
    obtain ⟨a, rfl⟩ := list1 (takeI_len hti).1
    obtain ⟨g, off, cp, rfl, hg, hgl, hc⟩ := s7.int_ (by simp)
    have S1 := S.on_ hb
    have cc1 := S1.r1.cell
    have h0 := hc 0 (by simp)
    simp only [List.getElem_cons_zero, List.getElem_cons_succ, Nat.add_zero] at h0
    have hne : g ≠ w.heap.size := by have := S.r1.lt; omega
    have hr := takeI_rng hti a (by simp)
    have hw : IntKind.i64.wrap (a - 1) = a - 1 := wrap_i64' (by omega) (by omega)
    have a2 := Num.refTakeList_any v8 rest _ s8 (by have := (takeI_len hti).2; have := HL.out; simp only at *; omega)
    have hz2 : w.heap.size + 2 ≤ w1.heap.size := S1.r2.lt
    have hq0 := HP.out
    rw [hti] at hq0
    clear hc hti s7 s8 sf8 hg S hb c1
    by_cases he : (Num.takeL rest).2.2 = 0
    · have HS := Lib.hid (show parse (tail m.kind) m [] bs = some ({ m with pred := a - 1 }, (Num.takeL rest).1.map Int.ofNat, (Num.takeL rest).2.1) by rw [hq0]; show (tL rest).map _ = _; unfold tL; rw [if_pos he]; rfl)
      rw [he] at a2
      have A2 := Lib.hid a2
      clear he a2 hq0 HP
      go_wp2_with fail
      refine A2.out.mono ?_; rintro e w2 ⟨v1, v2, rfl, sl, _, hb⟩
      obtain ⟨A, c, q, rfl⟩ := sl.sl.slice
      have q0 := (hb.cell (p := ⟨g, off, none⟩) hgl).trans h0
      replace S1 := S1.on_ hb
      have hn2 : w.heap.size + 1 < w2.heap.size := S1.r2.lt
      have HSL := Lib.hid (show Slf (w.heap.size + 2) w2 (.slice A c q) (Num.ivn (Num.takeL rest).1) from sl.mono hz2)
      clear hb sl h0 hgl
      have f1 : Slf (w.heap.size + 2) (w2.setCell ⟨w.heap.size, 8, none⟩ (.int .i64 (a - 1))) (.slice A c q) (Num.ivn (Num.takeL rest).1) := HSL.out.set_ (by omega) 8 _
      have f2 : Slf (w.heap.size + 2) ((w2.setCell ⟨w.heap.size, 8, none⟩ (.int .i64 (a - 1))).setCell ⟨w.heap.size, 9, none⟩ (.slice A c q)) (.slice A c q) (Num.ivn (Num.takeL rest).1) := f1.set_ (by omega) 9 _
      go_wp2_with (first
        | (with_reducible show wpList _ _ _ (Oper.mk _ (Op.store 3 _ _) _ _ _ _ :: _) _ _
           refine wpList_store1 S1.r1 (by kernel_rfl) rfl _ _ rfl (j := 8) rfl (v := .int .i64 (a - 1)) rfl (by show 8 < 15; decide) rfl rfl ?_
           refine gen_w (fun X => S2 w X (({ m with pred := a - 1 } : M).c nilS) (noM.c nilS) ∧ Slf (w.heap.size + 2) X (.slice A c q) (Num.ivn (Num.takeL rest).1)) ⟨S1.set1 8 (.int .i64 (a - 1)), f1⟩ ?_
           clear S1 f1 f2 q0
           rintro w3 ⟨S1, f1⟩)
        | (with_reducible show wpList _ _ _ (Oper.mk _ (Op.store 22 _ _) _ _ _ _ :: _) _ _
           refine wpList_store1 S1.r1 (by kernel_rfl) rfl _ _ rfl (j := 9) rfl (v := .slice A c q) rfl (by show 9 < 15; decide) rfl rfl ?_
           refine gen_w (fun X => S2 w X (({ m with pred := a - 1 } : M).c (.slice A c q)) (noM.c nilS) ∧ Slf (w.heap.size + 2) X (.slice A c q) (Num.ivn (Num.takeL rest).1)) ⟨S1.set1 9 (.slice A c q), f1.set_ (by omega) 9 _⟩ ?_
           clear S1 f1
           rintro w4 ⟨S1, f1⟩)
        | (with_reducible show wpList _ _ _ (Oper.mk _ (Op.load 27 _) _ _ _ _ :: _) _ _
           refine wpList_loadW (c := ({ m with pred := a - 1 } : M).c (.slice A c q)) S1.r1 agg27 rfl _ rfl rfl ?_)
        | (with_reducible show wpList _ _ _ (Oper.mk _ (Op.store 27 _ _) _ _ _ _ :: _) _ _
           refine wpList_storeR (c := ({ m with pred := a - 1 } : M).c (.slice A c q)) rfl _ _ rfl rfl rfl agg27.hi S1.r2 rfl (M.one _ rfl) ?_
           refine gen_w (fun X => S2 w X (({ m with pred := a - 1 } : M).c (.slice A c q)) (({ m with pred := a - 1 } : M).c (.slice A c q)) ∧ Slf (w.heap.size + 2) X (.slice A c q) (Num.ivn (Num.takeL rest).1)) ⟨S1.row2 (({ m with pred := a - 1 } : M).c (.slice A c q)), f1.setRow_ (by omega) _⟩ ?_
           clear S1 f1
           rintro w5 ⟨S1, f1⟩))
      exact bodyPost_ret (results_ct rfl rfl rfl S1.r2) rfl ⟨.inl ⟨_, _, _, A, c, q, HS.out, rfl, rfl, f1.mono (by omega)⟩, S1.below⟩
    · have HN := Lib.hid (show parse (tail m.kind) m [] bs = none by rw [hq0]; show (tL rest).map _ = _; unfold tL; rw [if_neg he]; rfl)
      have hz : (((Num.takeL rest).2.2 : Int) == 0) = false := by rw [beq_eq_false_iff_ne]; omega
      generalize ((Num.takeL rest).2.2 : Int) = E at *
      have A2 := Lib.hid a2
      clear he a2 hq0 HP
      go_wp2_with fail
      refine A2.out.mono ?_; rintro e w2 ⟨v1, v2, rfl, sl, _, hb⟩
      obtain ⟨A, c, q, rfl⟩ := sl.sl.slice
      have q0 := (hb.cell (p := ⟨g, off, none⟩) hgl).trans h0
      replace S1 := S1.on_ hb
      have hn2 : w.heap.size + 1 < w2.heap.size := S1.r2.lt
      have HSL := Lib.hid (show Slf (w.heap.size + 2) w2 (.slice A c q) (Num.ivn (Num.takeL rest).1) from sl.mono hz2)
      clear hb sl h0 hgl
      have f1 : Slf (w.heap.size + 2) (w2.setCell ⟨w.heap.size, 8, none⟩ (.int .i64 (a - 1))) (.slice A c q) (Num.ivn (Num.takeL rest).1) := HSL.out.set_ (by omega) 8 _
      have f2 : Slf (w.heap.size + 2) ((w2.setCell ⟨w.heap.size, 8, none⟩ (.int .i64 (a - 1))).setCell ⟨w.heap.size, 9, none⟩ (.slice A c q)) (.slice A c q) (Num.ivn (Num.takeL rest).1) := f1.set_ (by omega) 9 _
      go_wp2_with (first
        | (with_reducible show wpList _ _ _ (Oper.mk _ (Op.store 3 _ _) _ _ _ _ :: _) _ _
           refine wpList_store1 S1.r1 (by kernel_rfl) rfl _ _ rfl (j := 8) rfl (v := .int .i64 (a - 1)) rfl (by show 8 < 15; decide) rfl rfl ?_
           refine gen_w (fun X => S2 w X (({ m with pred := a - 1 } : M).c nilS) (noM.c nilS) ∧ Slf (w.heap.size + 2) X (.slice A c q) (Num.ivn (Num.takeL rest).1)) ⟨S1.set1 8 (.int .i64 (a - 1)), f1⟩ ?_
           clear S1 f1 f2 q0
           rintro w3 ⟨S1, f1⟩)
        | (with_reducible show wpList _ _ _ (Oper.mk _ (Op.store 22 _ _) _ _ _ _ :: _) _ _
           refine wpList_store1 S1.r1 (by kernel_rfl) rfl _ _ rfl (j := 9) rfl (v := .slice A c q) rfl (by show 9 < 15; decide) rfl rfl ?_
           refine gen_w (fun X => S2 w X (({ m with pred := a - 1 } : M).c (.slice A c q)) (noM.c nilS) ∧ Slf (w.heap.size + 2) X (.slice A c q) (Num.ivn (Num.takeL rest).1)) ⟨S1.set1 9 (.slice A c q), f1.set_ (by omega) 9 _⟩ ?_
           clear S1 f1
           rintro w4 ⟨S1, f1⟩)
        | (with_reducible show wpList _ _ _ (Oper.mk _ (Op.load 27 _) _ _ _ _ :: _) _ _
           refine wpList_loadW (c := ({ m with pred := a - 1 } : M).c (.slice A c q)) S1.r1 agg27 rfl _ rfl rfl ?_)
        | (with_reducible show wpList _ _ _ (Oper.mk _ (Op.store 27 _ _) _ _ _ _ :: _) _ _
           refine wpList_storeR (c := ({ m with pred := a - 1 } : M).c (.slice A c q)) rfl _ _ rfl rfl rfl agg27.hi S1.r2 rfl (M.one _ rfl) ?_
           refine gen_w (fun X => S2 w X (({ m with pred := a - 1 } : M).c (.slice A c q)) (({ m with pred := a - 1 } : M).c (.slice A c q)) ∧ Slf (w.heap.size + 2) X (.slice A c q) (Num.ivn (Num.takeL rest).1)) ⟨S1.row2 (({ m with pred := a - 1 } : M).c (.slice A c q)), f1.setRow_ (by omega) _⟩ ?_
           clear S1 f1
           rintro w5 ⟨S1, f1⟩))
      exact bodyPost_ret (results_ct rfl rfl rfl S1.r2) rfl ⟨.inr ⟨HN.out, _, A, c, q, rfl⟩, S1.below⟩
  · have S1 := S.on_ hb
    have HN := Lib.hid (show parse (tail m.kind) m [] bs = none from (by rw [HP.out, hti]; rfl))
    clear S c1 hb hti
    go_wp2_with (first
      | (with_reducible show wpList _ _ _ (Oper.mk _ (Op.load 27 _) _ _ _ _ :: _) _ _
         refine wpList_loadW (c := m.c nilS) S1.r1 agg27 rfl _ rfl rfl ?_)
      | (with_reducible show wpList _ _ _ (Oper.mk _ (Op.store 27 _ _) _ _ _ _ :: _) _ _
         refine wpList_storeR (c := m.c nilS) rfl _ _ rfl rfl rfl agg27.hi S1.r2 rfl (M.one _ rfl) ?_
         refine gen_world2 (S1.row2 (m.c nilS)) ?_
         clear S1
         intro W S1))
    exact bodyPost_ret (results_ct rfl rfl rfl S1.r2) rfl ⟨.inr ⟨HN.out, m, none, 0, 0, rfl⟩, S1.below⟩
end Go.Proofs.YtaacjpcckinaiaaGreat
