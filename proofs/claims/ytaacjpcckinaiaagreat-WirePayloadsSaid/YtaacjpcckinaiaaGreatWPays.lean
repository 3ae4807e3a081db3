/- 'WirePayloads': the walk of the law: a payload that is framed is taken just if it is read, as the same message; what is read has just that payload. -/
import Derived.Test.YtaacjpcckinaiaaGreatWOnly
import Derived.Test.YtaacjpcckinaiaaGreatFrmB
set_option linter.unusedVariables false
set_option maxRecDepth 100000
set_option linter.unusedSimpArgs false
namespace Go.Proofs.YtaacjpcckinaiaaGreat
open Go.RowKit Go.Shelf Ms

theorem readR_cases (p : List UInt8) : readR p = (noM, [], 12) ∨ ∃ m l, readR p = (m, l, 0) ∧ rightB m l = true ∧ payB m l = p := by
  cases hr : readF p with
  | none => exact .inl (readR_none hr)
  | some r =>
    obtain ⟨m, l⟩ := r
    obtain ⟨h2, h3⟩ := readF_iff.1 hr
    exact .inr ⟨m, l, readR_some hr, h2, h3⟩
theorem take_frm {p : List UInt8} (h : p.length ≤ 112) : takeR (Frm.frm p) = readR p := by
  have hf := Frm.isFr_frm p h
  have ho : Frm.openE (Frm.frm p) = 0 := by unfold Frm.openE; rw [if_neg (by have := hf.1; omega), if_pos hf]
  have hp : Frm.openP (Frm.frm p) = p := by unfold Frm.openP; rw [if_pos hf, Frm.mid_frm]
  unfold takeR
  rw [if_pos ho, hp]

set_option maxHeartbeats 4000000 in
theorem pays_long (A : Option Addr) (n c : Nat) (W : World) (h : 112 < n) :
    Calls Tryz.prog 6 #[.slice A n c] W fun e w' => e = .returned (.bool true) ∧ Below W.heap.size W w' := by
  go_enter Tryz.func6, Tryz.ntmps6
  go_wp2_with fail
  refine (wakes_any _).mono ?_; rintro e w1 ⟨rfl, hb⟩
  go_wp2
  go_ret
  exact ⟨rfl, hb⟩

set_option maxHeartbeats 8000000 in
theorem pays_main (A : Option Addr) (c n : Nat) (p : List UInt8) (W : World) (hs : Sl W (.slice A n c) (bv p)) (h : n ≤ 112) (hn : p.length = n) :
    Calls Tryz.prog 6 #[.slice A n c] W fun e w' => e = .returned (.bool true) ∧ Below W.heap.size W w' := by
  have a1 := Frm.Close_ref (.slice A n c) p W hs
  rw [show Frm.closeE p = 0 by unfold Frm.closeE; rw [if_neg (by omega)], show Frm.closeB p = Frm.frm p by unfold Frm.closeB; rw [if_neg (by omega)]] at a1
  have a2 := fun v w h => Read_any v p w h
  have a3 := fun v w h => Take_any v (Frm.frm p) w h
  simp only [take_frm (show p.length ≤ 112 by omega)] at a3
  have hd : decide (112 < (n : Int)) = false := decide_eq_false (by omega)
  obtain ⟨m, l, E, hE, hc⟩ : ∃ m l E, readR p = (m, l, E) ∧ (E = 12 ∨ E = 0 ∧ rightB m l = true ∧ payB m l = p) := by
    rcases readR_cases p with h1 | ⟨m, l, h1, h2, h3⟩
    · exact ⟨_, _, _, h1, .inl rfl⟩
    · exact ⟨_, _, _, h1, .inr ⟨rfl, h2, h3⟩⟩
  simp only [hE] at a2 a3
  have A2 := Lib.hid a2
  have A3 := Lib.hid a3
  have HS := Lib.hid hs
  have HC := Lib.hid hc
  have HN := Lib.hid hn
  clear a2 a3 hs hE hc hn h
  go_enter Tryz.func6, Tryz.ntmps6
  go_wp2_with fail
  refine a1.mono ?_; rintro e w1 ⟨v3, rfl, s3, H⟩
  clear a1
  go_wp2_with fail
  refine (A2.out _ _ (HS.out.below H)).mono ?_; rintro e w2 ⟨lv5, rfl, hs5, hb⟩
  replace H := H.trans (hb.mono H.size)
  replace s3 := s3.below hb
  obtain ⟨A5, n5, c5, rfl⟩ := hs5.sl.slice
  obtain ⟨rfl, _⟩ := hs5.sl.llen
  have r5 := (Rw.new w2 (noM.c nilS) 27).setRow (c' := m.c (.slice A5 l.length c5))
  have B5 := below_setRow (box_below w2 (.cells (noM.c nilS) 27)) (Nat.le_refl _) (m.c (.slice A5 l.length c5))
  have s5 := hs5.sl.below B5
  replace H := H.trans (B5.mono H.size)
  replace s3 := s3.below B5
  clear hb B5 hs5
  go_wp2_with (first
      | (with_reducible show wpList _ _ _ (Oper.mk _ (Op.store 27 (.tmp 5) _) _ _ _ _ :: _) _ _
         refine wpList_storeR (c := m.c (.slice A5 l.length c5)) rfl _ _ rfl rfl rfl agg27.hi (Rw.new w2 (noM.c nilS) 27) rfl (M.one _ rfl) ?_
         refine gen_w (fun X => Rw X w2.heap.size 27 (m.c (.slice A5 l.length c5)) ∧ Sl X (.slice A5 l.length c5) (iv l) ∧ Below W.heap.size W X ∧ Sl X v3 (bv (Frm.frm p))) ⟨r5, s5, H, s3⟩ ?_
         clear r5 s5 H s3
         rintro w3 ⟨r5, s5, H, s3⟩))
  refine (A3.out _ _ s3).mono ?_; rintro e w4 ⟨lv7, rfl, hs7, hb⟩
  replace H := H.trans (hb.mono H.size)
  replace s5 := s5.below hb
  replace r5 := r5.below hb
  obtain ⟨A7, n7, c7, rfl⟩ := hs7.slice
  have r7 := (Rw.new w4 (noM.c nilS) 27).setRow (c' := m.c (.slice A7 n7 c7))
  have B7 := below_setRow (box_below w4 (.cells (noM.c nilS) 27)) (Nat.le_refl _) (m.c (.slice A7 n7 c7))
  have s7 := hs7.below B7
  replace H := H.trans (B7.mono H.size)
  replace s5 := s5.below B7
  replace r5 := r5.below B7
  clear hb B7 hs7 s3
  have hsm : same m m l l = true := same_iff.2 ⟨rfl, rfl⟩
  rcases HC.out with rfl | ⟨rfl, hr, hp⟩
  · skip
    go_wp2_with (first
        | (with_reducible show wpList _ _ _ (Oper.mk _ (Op.store 27 (.tmp 7) _) _ _ _ _ :: _) _ _
           refine wpList_storeR (c := m.c (.slice A7 n7 c7)) rfl _ _ rfl rfl rfl agg27.hi (Rw.new w4 (noM.c nilS) 27) rfl (M.one _ rfl) ?_
           refine gen_w (fun X => Rw X w4.heap.size 27 (m.c (.slice A7 n7 c7)) ∧ Sl X (.slice A7 n7 c7) (iv l) ∧ Below W.heap.size W X ∧ Rw X w2.heap.size 27 (m.c (.slice A5 l.length c5)) ∧ Sl X (.slice A5 l.length c5) (iv l)) ⟨r7, s7, H, r5, s5⟩ ?_
           clear r7 s7 H r5 s5
           rintro w5 ⟨r7, s7, H, r5, s5⟩)
        | (with_reducible show wpList _ _ _ (Oper.mk _ (Op.load 27 (.tmp 5)) _ _ _ _ :: _) _ _
           refine wpList_loadW r5 agg27 rfl _ rfl rfl ?_)
        | (with_reducible show wpList _ _ _ (Oper.mk _ (Op.load 27 (.tmp 7)) _ _ _ _ :: _) _ _
           refine wpList_loadW r7 agg27 rfl _ rfl rfl ?_))
    refine (rSame_any m m _ _ l l _ s5 s7).mono ?_; rintro e w6 ⟨rfl, hb⟩
    rw [hsm]
    replace H := H.trans (hb.mono H.size)
    replace s5 := s5.below hb
    replace r5 := r5.below hb
    clear hb r7 s7 hsm
    go_wp2_with fail
    refine (wakes_any _).mono ?_; rintro e w7 ⟨rfl, hb⟩
    go_wp2
    go_ret
    exact ⟨rfl, H.trans (hb.mono H.size)⟩
  · have hk0 := kind_nn hr
    go_wp2_with (first
        | (with_reducible show wpList _ _ _ (Oper.mk _ (Op.store 27 (.tmp 7) _) _ _ _ _ :: _) _ _
           refine wpList_storeR (c := m.c (.slice A7 n7 c7)) rfl _ _ rfl rfl rfl agg27.hi (Rw.new w4 (noM.c nilS) 27) rfl (M.one _ rfl) ?_
           refine gen_w (fun X => Rw X w4.heap.size 27 (m.c (.slice A7 n7 c7)) ∧ Sl X (.slice A7 n7 c7) (iv l) ∧ Below W.heap.size W X ∧ Rw X w2.heap.size 27 (m.c (.slice A5 l.length c5)) ∧ Sl X (.slice A5 l.length c5) (iv l)) ⟨r7, s7, H, r5, s5⟩ ?_
           clear r7 s7 H r5 s5
           rintro w5 ⟨r7, s7, H, r5, s5⟩)
        | (with_reducible show wpList _ _ _ (Oper.mk _ (Op.load 27 (.tmp 5)) _ _ _ _ :: _) _ _
           refine wpList_loadW r5 agg27 rfl _ rfl rfl ?_)
        | (with_reducible show wpList _ _ _ (Oper.mk _ (Op.load 27 (.tmp 7)) _ _ _ _ :: _) _ _
           refine wpList_loadW r7 agg27 rfl _ rfl rfl ?_))
    refine (rSame_any m m _ _ l l _ s5 s7).mono ?_; rintro e w6 ⟨rfl, hb⟩
    rw [hsm]
    replace H := H.trans (hb.mono H.size)
    replace s5 := s5.below hb
    replace r5 := r5.below hb
    clear hb r7 s7 hsm
    have a4 := fun w h => Payload_any m A5 c5 l hk0 w h
    simp only [hr, if_true, hp] at a4
    have a5 := fun va w h1 h2 => same_any va (.slice A n c) p p w h1 h2
    simp only [decide_true] at a5
    have hle : decide ((n : Int) ≤ 46) = true := decide_eq_true (by have := payB_len hr; rw [hp, HN.out] at this; omega)
    have A4 := Lib.hid a4
    have A5' := Lib.hid a5
    clear a4 a5 hr hp
    go_wp2_with (first
      | (with_reducible show wpList _ _ _ (Oper.mk _ (Op.load 27 (.tmp 5)) _ _ _ _ :: _) _ _
         refine wpList_loadW r5 agg27 rfl _ rfl rfl ?_))
    refine (A4.out _ s5).mono ?_; rintro e w7 ⟨v9, rfl, s9, hb⟩
    replace H := H.trans (hb.mono H.size)
    clear hb
    go_wp2_with fail
    refine (A5'.out _ _ s9.sl (HS.out.below H)).mono ?_; rintro e w' ⟨rfl, rfl⟩
    go_wp2_with fail
    refine (Most_any _).mono ?_; rintro e w' ⟨rfl, rfl⟩
    go_wp2_with fail
    refine (wakes_any _).mono ?_; rintro e w8 ⟨rfl, hb⟩
    go_wp2
    go_ret
    exact ⟨rfl, H.trans (hb.mono H.size)⟩

theorem pays_walk (W : World) (v : Value) (p : List UInt8) (hs : Sl W v (bv p)) :
    Calls Tryz.prog 6 #[v] W fun e w' => e = .returned (.bool true) ∧ Below W.heap.size W w' := by
  obtain ⟨A, c, rfl⟩ := hs.form
  have hn := bv_length p
  by_cases h : 112 < (bv p).length
  · exact pays_long A _ c W h
  · exact pays_main A c _ p W hs (by omega) hn.symm
end Go.Proofs.YtaacjpcckinaiaaGreat
