/- 'FrameApart': the walk of the law: unlike payloads have unlike frames; of one's head ahead of the other's rest nothing is opened but what stands there. -/
import Derived.Deep.RegionLaw
import Derived.Test.YthjfjlkkbdjgfaaOnlyLaw
set_option linter.unusedVariables false
set_option linter.unusedSimpArgs false
namespace Go.Proofs.Ythjfjlkkbdjgfaa
open Go.RowKit Go.Shelf

set_option maxRecDepth 100000 in
set_option maxHeartbeats 4000000 in
theorem apart_long (A B : Option Addr) (n c m d : Nat) (i : Int) (W : World) (h : 112 < n) :
    Calls Try.prog 8 #[.slice A n c, .slice B m d, .int .i64 i] W fun e w' => e = .returned (.bool true) ∧ Below W.heap.size W w' := by
  go_enter Try.func8, Try.ntmps8
  go_wp2_with fail
  refine (wakes_any _).mono ?_; rintro e w1 ⟨rfl, hb⟩
  go_wp2
  go_ret
  exact ⟨rfl, hb⟩
set_option maxRecDepth 100000 in
set_option maxHeartbeats 4000000 in
theorem apart_long2 (A B : Option Addr) (n c m d : Nat) (i : Int) (W : World) (h : n ≤ 112) (h2 : 112 < m) :
    Calls Try.prog 8 #[.slice A n c, .slice B m d, .int .i64 i] W fun e w' => e = .returned (.bool true) ∧ Below W.heap.size W w' := by
  go_enter Try.func8, Try.ntmps8
  go_wp2_with fail
  refine (wakes_any _).mono ?_; rintro e w1 ⟨rfl, hb⟩
  go_wp2
  go_ret
  exact ⟨rfl, hb⟩

theorem frm_eq (p q : List UInt8) : decide (frm p = frm q) = decide (p = q) := by
  rw [decide_eq_decide]
  exact ⟨frm_inj, fun h => by rw [h]⟩

set_option maxRecDepth 100000 in
set_option maxHeartbeats 4000000 in
theorem apart_lens (A B : Option Addr) (c d : Nat) (p q : List UInt8) (i : Int) (W : World) (hs : Sl W (.slice A p.length c) (bv p)) (ht : Sl W (.slice B q.length d) (bv q)) (h : p.length ≤ 112) (h2 : q.length ≤ 112) (hne : p.length ≠ q.length) :
    Calls Try.prog 8 #[.slice A p.length c, .slice B q.length d, .int .i64 i] W fun e w' => e = .returned (.bool true) ∧ Below W.heap.size W w' := by
  have a1 := fun v w h => Close_any v p w h
  have a2 := fun v w h => Close_any v q w h
  rw [closeE_ok h, closeB_ok h] at a1
  rw [closeE_ok h2, closeB_ok h2] at a2
  have a3 := fun w => Size_any (p.length : Int) w
  rw [show siz (p.length : Int) = p.length + 8 by unfold siz; rw [if_neg (by omega)]] at a3
  have a4 := fun va vb w h1 h2 => same_any va vb (frm p) (frm q) w h1 h2
  rw [frm_eq] at a4
  have a5 := fun va vb w h1 h2 => same_any va vb p q w h1 h2
  have f1 : (bv (frm p)).length = p.length + 8 := by rw [bv_length, frm_length]
  have f2 : (bv (frm q)).length = q.length + 8 := by rw [bv_length, frm_length]
  have F1 := Lib.hid f1
  have F2 := Lib.hid f2
  have HS := Lib.hid hs
  have HT := Lib.hid ht
  clear hs ht f1 f2
  generalize decide (p = q) = pq at *
  have H := Below.refl W.heap.size W
  have hz1 : ((p.length : Int) != q.length) = true := by rw [bne_iff_ne]; omega
  clear hne
  go_enter Try.func8, Try.ntmps8
  go_wp2_with fail
  refine (a1 _ _ HS.out).mono ?_; rintro e w1 ⟨v1, rfl, s1, hb⟩
  replace H := H.trans (hb.mono H.size)
  clear hb
  go_wp2_with fail
  refine (a2 _ _ (HT.out.below H)).mono ?_; rintro e w2 ⟨v2, rfl, s2, hb⟩
  replace H := H.trans (hb.mono H.size)
  replace s1 := s1.below hb
  clear hb
  obtain ⟨A1, c1, rfl⟩ := s1.form
  obtain ⟨A2, c2, rfl⟩ := s2.form
  rw [F1.out] at *
  rw [F2.out] at *
  go_wp2_with fail
  refine (a3 _).mono ?_; rintro e w' ⟨rfl, rfl⟩
  go_wp2_with fail
  refine (a4 _ _ _ s1 s2).mono ?_; rintro e w' ⟨rfl, rfl⟩
  go_wp2_with fail
  refine (a5 _ _ _ (HS.out.below H) (HT.out.below H)).mono ?_; rintro e w' ⟨rfl, rfl⟩
  go_wp2_with fail
  refine (wakes_any _).mono ?_; rintro e w3 ⟨rfl, hb3⟩
  go_wp2
  go_ret
  exact ⟨rfl, H.trans (hb3.mono H.size)⟩

set_option maxRecDepth 100000 in
set_option maxHeartbeats 4000000 in
theorem apart_none (A B : Option Addr) (c d : Nat) (i : Int) (W : World) (hs : Sl W (.slice A 0 c) (bv [])) (ht : Sl W (.slice B 0 d) (bv [])) :
    Calls Try.prog 8 #[.slice A 0 c, .slice B 0 d, .int .i64 i] W fun e w' => e = .returned (.bool true) ∧ Below W.heap.size W w' := by
  have a1 := fun v w h => Close_any v [] w h
  rw [closeE_ok (by decide), closeB_ok (by decide)] at a1
  have a2 := a1
  have a3 := fun w => Size_any 0 w
  rw [show siz 0 = 8 by decide] at a3
  have a4 := fun va vb w h1 h2 => same_eq va vb (frm []) w h1 h2
  have a5 := fun va vb w h1 h2 => same_eq va vb [] w h1 h2
  have F1 := Lib.hid (show (bv (frm [])).length = 8 by rw [bv_length, frm_length]; rfl)
  have F2 := F1
  have HS := Lib.hid hs
  have HT := Lib.hid ht
  clear hs ht
  have H := Below.refl W.heap.size W
  go_enter Try.func8, Try.ntmps8
  go_wp2_with fail
  refine (a1 _ _ HS.out).mono ?_; rintro e w1 ⟨v1, rfl, s1, hb⟩
  replace H := H.trans (hb.mono H.size)
  clear hb
  go_wp2_with fail
  refine (a2 _ _ (HT.out.below H)).mono ?_; rintro e w2 ⟨v2, rfl, s2, hb⟩
  replace H := H.trans (hb.mono H.size)
  replace s1 := s1.below hb
  clear hb
  obtain ⟨A1, c1, rfl⟩ := s1.form
  obtain ⟨A2, c2, rfl⟩ := s2.form
  rw [F1.out] at *
  go_wp2_with fail
  refine (a3 _).mono ?_; rintro e w' ⟨rfl, rfl⟩
  go_wp2_with fail
  refine (a4 _ _ _ s1 s2).mono ?_; rintro e w' ⟨rfl, rfl⟩
  go_wp2_with fail
  refine (a5 _ _ _ (HS.out.below H) (HT.out.below H)).mono ?_; rintro e w' ⟨rfl, rfl⟩
  go_wp2_with fail
  refine (wakes_any _).mono ?_; rintro e w3 ⟨rfl, hb3⟩
  go_wp2
  go_ret
  exact ⟨rfl, H.trans (hb3.mono H.size)⟩

set_option maxRecDepth 100000 in
set_option maxHeartbeats 4000000 in
theorem apart_main (A B : Option Addr) (c d : Nat) (p q : List UInt8) (i : Int) (hi : Num i) (W : World) (hs : Sl W (.slice A p.length c) (bv p)) (ht : Sl W (.slice B q.length d) (bv q)) (h : p.length ≤ 112) (h2 : q.length ≤ 112) (hlen : p.length = q.length) (h0 : 0 < p.length) :
    Calls Try.prog 8 #[.slice A p.length c, .slice B q.length d, .int .i64 i] W fun e w' => e = .returned (.bool true) ∧ Below W.heap.size W w' := by
  have hm : 0 < (p.length : Int) + 1 := by omega
  have hbd := tmod_bd i (p.length + 1) hm
  obtain ⟨k, hk⟩ : ∃ k : Nat, (i.tmod (p.length + 1) + p.length + 1) % (p.length + 1) = (k : Int) := ⟨((i.tmod (p.length + 1) + p.length + 1) % (p.length + 1)).toNat, by have := Int.emod_nonneg (i.tmod (p.length + 1) + p.length + 1) (b := (p.length : Int) + 1) (by omega); omega⟩
  have hkn : k ≤ p.length := by have := Int.emod_lt_of_pos (i.tmod (p.length + 1) + p.length + 1) (b := (p.length : Int) + 1) (by omega); omega
  have a1 := fun v w h => Close_any v p w h
  have a2 := fun v w h => Close_any v q w h
  rw [closeE_ok h, closeB_ok h] at a1
  rw [closeE_ok h2, closeB_ok h2] at a2
  have a3 := fun w => Size_any (p.length : Int) w
  rw [show siz (p.length : Int) = p.length + 8 by unfold siz; rw [if_neg (by omega)]] at a3
  have a4 := fun va vb w h1 h2 => same_any va vb (frm p) (frm q) w h1 h2
  rw [frm_eq] at a4
  have a5 := fun va vb w h1 h2 => same_any va vb p q w h1 h2
  have f1 : (bv (frm p)).length = p.length + 8 := by rw [bv_length, frm_length]
  have f2 : (bv (frm q)).length = q.length + 8 := by rw [bv_length, frm_length]
  have F1 := Lib.hid f1
  have F2 := Lib.hid f2
  have HS := Lib.hid hs
  have HT := Lib.hid ht
  clear hs ht f1 f2
  have HLEN := Lib.hid hlen
  rw [← hlen] at h2 HT F2 ⊢
  clear hlen
  have hz1 : ((p.length : Int) == 0) = false := by rw [beq_eq_false_iff_ne]; omega
  have hz2 : ((p.length : Int) + 1 == 0) = false := by rw [beq_eq_false_iff_ne]; omega
  unfold Num at hi
  obtain ⟨pq, hpq⟩ : ∃ pq, decide (p = q) = pq := ⟨_, rfl⟩
  simp only [hpq] at a4 a5
  have HPQ := Lib.hid hpq
  clear hpq
  have H := Below.refl W.heap.size W
  go_enter Try.func8, Try.ntmps8
  go_wp2_with fail
  refine (a1 _ _ HS.out).mono ?_; rintro e w1 ⟨v1, rfl, s1, hb⟩
  replace H := H.trans (hb.mono H.size)
  clear hb
  go_wp2_with fail
  refine (a2 _ _ (HT.out.below H)).mono ?_; rintro e w2 ⟨v2, rfl, s2, hb⟩
  replace H := H.trans (hb.mono H.size)
  replace s1 := s1.below hb
  clear hb
  obtain ⟨A1, c1, rfl⟩ := s1.form
  obtain ⟨A2, c2, rfl⟩ := s2.form
  rw [F1.out] at *
  rw [F2.out] at *
  go_wp2_with fail
  refine (a3 _).mono ?_; rintro e w' ⟨rfl, rfl⟩
  go_wp2_with fail
  refine (a4 _ _ _ s1 s2).mono ?_; rintro e w' ⟨rfl, rfl⟩
  go_wp2_with fail
  refine (a5 _ _ _ (HS.out.below H) (HT.out.below H)).mono ?_; rintro e w' ⟨rfl, rfl⟩
  obtain ⟨X1, d1, hc1, hs1⟩ := run_cut el23 s1 0 (4 + k) (by omega) (by rw [bv_length, frm_length]; omega) none (some (.int .i64 ((4 + k : Nat) : Int))) (.inr ⟨rfl, rfl⟩) (.inl rfl)
  obtain ⟨X2, d2, hc2, hs2⟩ := run_cut el23 s2 (4 + k) (bv (frm q)).length (by rw [bv_length, frm_length, ← HLEN.out]; omega) (Nat.le_refl _) (some (.int .i64 ((4 + k : Nat) : Int))) none (.inl rfl) (.inr ⟨rfl, rfl⟩)
  rw [show ((4 + k : Nat) : Int) = 4 + (k : Int) by omega] at hc1 hc2
  rw [bv_take, bv_drop, List.drop_zero] at hs1
  rw [List.take_length, bv_drop] at hs2
  obtain ⟨C, hC⟩ : ∃ C, (frm p).take (4 + k) ++ (frm q).drop (4 + k) = C := ⟨_, rfl⟩
  have HCL := Lib.hid (show C.length = p.length + 8 by rw [← hC, List.length_append, List.length_take, List.length_drop, frm_length, frm_length, ← HLEN.out]; omega)
  have HC := Lib.hid (show bv ((frm p).take (4 + k)) ++ bv ((frm q).drop (4 + k)) = bv C by rw [← bv_append, hC])
  have HL1 := Lib.hid (show ((frm p).take (4 + k)).length = 4 + k by rw [List.length_take, frm_length]; omega)
  have HL2 := Lib.hid (show ((frm q).drop (4 + k)).length ≤ 120 by rw [List.length_drop, frm_length, ← HLEN.out]; omega)
  have hCp : pq = true → C = frm p := by
    intro e
    have := of_decide_eq_true (HPQ.out.trans e)
    rw [← hC, ← this, List.take_append_drop]
  have HCP := Lib.hid hCp
  have a6 := fun v w => Open_any v C w
  have HO := Lib.hid (show mid C = (C.take (p.length + 4)).drop 4 by unfold mid; rw [HCL.out]; rfl)
  have H1 := Lib.hid hs1
  have H2 := Lib.hid hs2
  have HM := Lib.hid (Made.lit w2 5 [] 0 rfl (by decide))
  have HH := Lib.hid H
  clear hs1 hs2 s1 s2 hC hCp H
  generalize (frm p).take (4 + k) = cp at *
  generalize (frm q).drop (4 + k) = cq at *
  simp only [Nat.sub_zero] at hc1 H1
  go_wp2_with fail
  go_region_law
    (first
      | (refine step_more el23 rfl (.tmp 97) (.tmp 100) rfl rfl HM.out.drew rfl (H1.out.below HM.out.below).drew (bv_one _) (by have := HL1.out; simp [bv_length] at this ⊢; omega) ?_
         intro v3 w3 hm3
         rw [List.nil_append] at hm3)
      | (refine step_more el23 rfl (.tmp 101) (.tmp 104) rfl rfl hm3 rfl (H2.out.below hm3.below) (bv_one _) (by have := HL1.out; have := HL2.out; simp [bv_length] at *; omega) ?_
         intro v4 w4 hm4
         rw [HC.out] at hm4))
  have hl4 := hm4.sl.form
  rw [bv_length, HCL.out] at hl4
  obtain ⟨X4, d4, rfl⟩ := hl4
  have HM4 := Lib.hid hm4
  have HX := Lib.hid (HH.out.trans (hm4.below.mono HH.out.size))
  clear hm3 hm4 hc1 hc2
  by_cases hf : isFr C
  · rw [openE_is hf, openP_is hf] at a6
    have a7 := fun va vb w h1 h2 => same_eq va vb (mid C) w h1 h2
    have HCUT := Lib.hid (show ((bv C).take (p.length + 4)).drop 4 = bv (mid C) by rw [bv_take, bv_drop, HO.out])
    have hsub : (p.length : Int) + 8 - 4 = ((p.length + 4 : Nat) : Int) := by omega
    have hle4 : 4 ≤ p.length + 4 := by omega
    have hle : p.length + 4 ≤ (bv C).length := by rw [bv_length, HCL.out]; omega
    have HLE := Lib.hid hle
    clear hf hle
    cases pq <;>
    · go_wp2_with fail
      refine (a6 _ _ HM4.out.sl).mono ?_; rintro e w5 ⟨v5, rfl, s5, hb5⟩
      have HX5 := Lib.hid (HX.out.trans (hb5.mono HX.out.size))
      have HC5 := Lib.hid (HM4.out.sl.below hb5)
      clear hb5
      go_wp2_with (with_reducible show wpList _ _ _ (Oper.mk _ (Op.slice _ _ _ _ _) _ _ _ _ :: _) _ _
                   refine wpList_cutw el23 rfl (.tmp 115) (some (.const (.int .i64 4))) (some (.tmp 118)) rfl _ _ rfl HC5.out 4 (p.length + 4) hle4 HLE.out (.inl rfl) (.inl (by simp [Act.eval])) ?_
                   intro A6 c6 s6
                   rw [HCUT.out] at s6)
      rw [Nat.add_sub_cancel] at s6
      refine (a7 _ _ _ s5 s6).mono ?_; rintro e w' ⟨rfl, rfl⟩
      go_wp2_with fail
      refine (a5 _ _ _ (HS.out.below HX5.out) (HT.out.below HX5.out)).mono ?_; rintro e w' ⟨rfl, rfl⟩
      go_wp2_with fail
      refine (wakes_any _).mono ?_; rintro e w6 ⟨rfl, hb6⟩
      go_wp2
      go_ret
      exact ⟨rfl, HX5.out.trans (hb6.mono HX5.out.size)⟩
  · have hpf : pq = false := by
      cases hpq : pq
      · rfl
      · exact (hf (by rw [HCP.out hpq]; exact isFr_frm p h)).elim
    subst hpf
    rw [openE_not (by rw [HCL.out]; omega) hf] at a6
    clear hf
    go_wp2_with fail
    refine (a6 _ _ HM4.out.sl).mono ?_; rintro e w5 ⟨v5, rfl, s5, hb5⟩
    have HX5 := Lib.hid (HX.out.trans (hb5.mono HX.out.size))
    clear hb5 s5
    go_wp2_with fail
    refine (a5 _ _ _ (HS.out.below HX5.out) (HT.out.below HX5.out)).mono ?_; rintro e w' ⟨rfl, rfl⟩
    go_wp2_with fail
    refine (wakes_any _).mono ?_; rintro e w6 ⟨rfl, hb6⟩
    go_wp2
    go_ret
    exact ⟨rfl, HX5.out.trans (hb6.mono HX5.out.size)⟩

theorem apart_walk (W : World) (v : Value) (p : List UInt8) (hs : Sl W v (bv p)) (u : Value) (q : List UInt8) (ht : Sl W u (bv q)) (i : Int) (w1 : (Lit.int .i64 i).wf = true) :
    Calls Try.prog 8 #[v, u, .int .i64 i] W fun e w' => e = .returned (.bool true) ∧ Below W.heap.size W w' := by
  obtain ⟨A, c, rfl⟩ := hs.form
  obtain ⟨B, d, rfl⟩ := ht.form
  rw [bv_length] at *
  rw [bv_length] at *
  by_cases h : 112 < p.length
  · exact apart_long A B _ c _ d i W h
  · by_cases h2 : 112 < q.length
    · exact apart_long2 A B _ c _ d i W (by omega) h2
    · by_cases hl : p.length = q.length
      · by_cases h0 : p.length = 0
        · obtain rfl := List.eq_nil_of_length_eq_zero h0
          obtain rfl := List.eq_nil_of_length_eq_zero hl.symm
          exact apart_none A B c d i W hs ht
        · exact apart_main A B c d p q i (num_wf w1) W hs ht (by omega) (by omega) hl (by omega)
      · exact apart_lens A B c d p q i W hs ht (by omega) (by omega) hl
end Go.Proofs.Ythjfjlkkbdjgfaa
