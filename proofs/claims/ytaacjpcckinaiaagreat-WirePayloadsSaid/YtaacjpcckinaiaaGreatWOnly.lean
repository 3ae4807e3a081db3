/- 'WireOnly': the walk of the law: what is taken has just that datagram, and may be; of bytes that are no datagram nothing is. -/
import Derived.Test.YtaacjpcckinaiaaGreatWApart
set_option linter.unusedVariables false
set_option maxRecDepth 100000
set_option linter.unusedSimpArgs false
namespace Go.Proofs.YtaacjpcckinaiaaGreat
open Go.RowKit Go.Shelf Ms

theorem kind_nn {m : M} {l : List Int} (h : rightB m l = true) : 0 ≤ m.kind := by
  have := (rightB_iff.1 h).1.1
  omega
theorem takeR_cases (b : List UInt8) : (takeR b = (noM, [], 11) ∧ b.length < 8) ∨ (takeR b = (noM, [], 12) ∧ 8 ≤ b.length) ∨ ∃ m l, takeR b = (m, l, 0) ∧ rightB m l = true ∧ putR m l = b := by
  unfold takeR
  by_cases h8 : b.length < 8
  · have : Frm.openE b = 11 := by unfold Frm.openE; rw [if_pos h8]
    rw [this]
    exact .inl ⟨rfl, h8⟩
  · by_cases hf : Frm.isFr b
    · have h0 : Frm.openE b = 0 := by unfold Frm.openE; rw [if_neg h8, if_pos hf]
      have h1 : Frm.openP b = Frm.mid b := by unfold Frm.openP; rw [if_pos hf]
      rw [if_pos h0, h1]
      cases hr : readF (Frm.mid b) with
      | none => exact .inr (.inl ⟨readR_none hr, by omega⟩)
      | some r =>
        obtain ⟨m, l⟩ := r
        obtain ⟨h2, h3⟩ := readF_iff.1 hr
        refine .inr (.inr ⟨m, l, readR_some hr, h2, ?_⟩)
        rw [putR_frm h2, h3]
        exact hf.2.2
    · have : Frm.openE b = 12 := by unfold Frm.openE; rw [if_neg h8, if_neg hf]
      rw [this]
      exact .inr (.inl ⟨rfl, by omega⟩)

set_option maxHeartbeats 4000000 in
theorem only_long (A : Option Addr) (n c : Nat) (W : World) (h : 300 < n) :
    Calls Tryz.prog 5 #[.slice A n c] W fun e w' => e = .returned (.bool true) ∧ Below W.heap.size W w' := by
  go_enter Tryz.func5, Tryz.ntmps5
  go_wp2_with fail
  refine (wakes_any _).mono ?_; rintro e w1 ⟨rfl, hb⟩
  go_wp2
  go_ret
  exact ⟨rfl, hb⟩

set_option maxHeartbeats 4000000 in
theorem only_bad (A : Option Addr) (c n : Nat) (b : List UInt8) (W : World) (hs : Sl W (.slice A n c) (bv b)) (h : n ≤ 300) (E : Int) (hE : takeR b = (noM, [], E)) (hc : E = 11 ∧ decide ((n : Int) < 8) = true ∨ E = 12 ∧ decide ((n : Int) < 8) = false) :
    Calls Tryz.prog 5 #[.slice A n c] W fun e w' => e = .returned (.bool true) ∧ Below W.heap.size W w' := by
  have a1 := Take_any (.slice A n c) b W hs
  rw [hE] at a1
  clear hE hs
  have hd3 : decide (300 < (n : Int)) = false := decide_eq_false (by omega)
  go_enter Tryz.func5, Tryz.ntmps5
  go_wp2_with fail
  refine a1.mono ?_; rintro e w1 ⟨lv, rfl, hs1, hb⟩
  obtain ⟨A1, n1, c1, rfl⟩ := hs1.slice
  have r3 := (Rw.new w1 (noM.c nilS) 27).setRow (c' := noM.c (.slice A1 n1 c1))
  have B3 := below_setRow (box_below w1 (.cells (noM.c nilS) 27)) (Nat.le_refl _) (noM.c (.slice A1 n1 c1))
  have s1 := hs1.below B3
  have H := hb.trans (B3.mono hb.size)
  clear hb B3 hs1 a1
  rcases hc with ⟨rfl, hd⟩ | ⟨rfl, hd⟩ <;>
  · go_wp2_with (first
      | (with_reducible show wpList _ _ _ (Oper.mk _ (Op.store 27 (.tmp 3) _) _ _ _ _ :: _) _ _
         refine wpList_storeR (c := noM.c (.slice A1 n1 c1)) rfl _ _ rfl rfl rfl agg27.hi (Rw.new w1 (noM.c nilS) 27) rfl (M.one _ rfl) ?_
         refine gen_w (fun X => Rw X w1.heap.size 27 (noM.c (.slice A1 n1 c1)) ∧ Sl X (.slice A1 n1 c1) (iv []) ∧ Below W.heap.size W X) ⟨r3, s1, H⟩ ?_
         clear r3 s1 H
         rintro w2 ⟨r3, s1, H⟩)
      | (with_reducible show wpList _ _ _ (Oper.mk _ (Op.load 27 _) _ _ _ _ :: _) _ _
         refine wpList_loadW r3 agg27 rfl _ rfl rfl ?_)
      | (with_reducible show wpList _ _ _ (Oper.mk _ (Op.build 27 _) _ _ _ _ :: _) _ _
         refine wpList_buildR rfl [] rfl rfl (run_build0 _) ?_))
    refine (rSame_any noM noM _ _ [] [] _ s1 (Sl.nil_ _)).mono ?_; rintro e w3 ⟨rfl, hb⟩
    replace H := H.trans (hb.mono H.size)
    clear hb
    have hsm : same noM noM [] [] = true := same_iff.2 ⟨rfl, rfl⟩
    rw [hsm]
    go_wp2_with fail
    refine (wakes_any _).mono ?_; rintro e w4 ⟨rfl, hb⟩
    go_wp2
    go_ret
    exact ⟨rfl, H.trans (hb.mono H.size)⟩

set_option maxHeartbeats 4000000 in
theorem only_main (A : Option Addr) (c n : Nat) (b : List UInt8) (W : World) (hs : Sl W (.slice A n c) (bv b)) (h : n ≤ 300) (m : M) (l : List Int) (hT : takeR b = (m, l, 0)) (hr : rightB m l = true) (hp : putR m l = b) :
    Calls Tryz.prog 5 #[.slice A n c] W fun e w' => e = .returned (.bool true) ∧ Below W.heap.size W w' := by
  have a1 := Take_any (.slice A n c) b W hs
  rw [hT] at a1
  dsimp only at a1
  have hd3 : decide (300 < (n : Int)) = false := decide_eq_false (by omega)
  have hk0 := kind_nn hr
  have HS := Lib.hid hs
  clear hT hs
  go_enter Tryz.func5, Tryz.ntmps5
  go_wp2_with fail
  refine a1.mono ?_; rintro e w1 ⟨lv, rfl, hs1, hb⟩
  obtain ⟨A1, n1, c1, rfl⟩ := hs1.slice
  obtain ⟨rfl, _⟩ := hs1.llen
  have a2 := fun w h => Put_any m A1 c1 l hk0 w h
  rw [payE_ok hr, hp] at a2
  have a3 := fun w h => rRight_any m A1 c1 l hk0 w h
  rw [hr] at a3
  have a4 := fun va w h1 h2 => same_any va (.slice A n c) b b w h1 h2
  simp only [decide_true] at a4
  have A2 := Lib.hid a2
  have A3 := Lib.hid a3
  have A4 := Lib.hid a4
  have r3 := (Rw.new w1 (noM.c nilS) 27).setRow (c' := m.c (.slice A1 l.length c1))
  have B3 := below_setRow (box_below w1 (.cells (noM.c nilS) 27)) (Nat.le_refl _) (m.c (.slice A1 l.length c1))
  have s1 := hs1.below B3
  have H := hb.trans (B3.mono hb.size)
  clear hb B3 hs1 a1 a2 a3 a4 hr hp
  go_wp2_with (first
      | (with_reducible show wpList _ _ _ (Oper.mk _ (Op.store 27 (.tmp 3) _) _ _ _ _ :: _) _ _
         refine wpList_storeR (c := m.c (.slice A1 l.length c1)) rfl _ _ rfl rfl rfl agg27.hi (Rw.new w1 (noM.c nilS) 27) rfl (M.one _ rfl) ?_
         refine gen_w (fun X => Rw X w1.heap.size 27 (m.c (.slice A1 l.length c1)) ∧ Sl X (.slice A1 l.length c1) (iv l) ∧ Below W.heap.size W X) ⟨r3, s1, H⟩ ?_
         clear r3 s1 H
         rintro w2 ⟨r3, s1, H⟩)
      | (with_reducible show wpList _ _ _ (Oper.mk _ (Op.load 27 _) _ _ _ _ :: _) _ _
         refine wpList_loadW r3 agg27 rfl _ rfl rfl ?_))
  refine (A2.out _ s1).mono ?_; rintro e w3 ⟨v5, rfl, s5, hb⟩
  replace H := H.trans (hb.mono H.size)
  replace s1 := s1.below hb
  replace r3 := r3.below hb
  clear hb
  go_wp2_with fail
  refine (A4.out _ _ s5 (HS.out.below H)).mono ?_; rintro e w' ⟨rfl, rfl⟩
  go_wp2_with (first
      | (with_reducible show wpList _ _ _ (Oper.mk _ (Op.load 27 _) _ _ _ _ :: _) _ _
         refine wpList_loadW r3 agg27 rfl _ rfl rfl ?_))
  refine (A3.out _ s1).mono ?_; rintro e w4 ⟨rfl, hb⟩
  replace H := H.trans (hb.mono H.size)
  clear hb
  go_wp2_with fail
  refine (wakes_any _).mono ?_; rintro e w4 ⟨rfl, hb⟩
  go_wp2
  go_ret
  exact ⟨rfl, H.trans (hb.mono H.size)⟩

theorem only_walk (W : World) (v : Value) (b : List UInt8) (hs : Sl W v (bv b)) :
    Calls Tryz.prog 5 #[v] W fun e w' => e = .returned (.bool true) ∧ Below W.heap.size W w' := by
  obtain ⟨A, c, rfl⟩ := hs.form
  have hn := bv_length b
  by_cases h : 300 < (bv b).length
  · exact only_long A _ c W h
  · rcases takeR_cases b with ⟨h1, h2⟩ | ⟨h1, h2⟩ | ⟨m, l, h1, h2, h3⟩
    · exact only_bad A c _ b W hs (by omega) 11 h1 (.inl ⟨rfl, decide_eq_true (by omega)⟩)
    · exact only_bad A c _ b W hs (by omega) 12 h1 (.inr ⟨rfl, decide_eq_false (by omega)⟩)
    · exact only_main A c _ b W hs (by omega) m l h1 h2 h3
end Go.Proofs.YtaacjpcckinaiaaGreat
