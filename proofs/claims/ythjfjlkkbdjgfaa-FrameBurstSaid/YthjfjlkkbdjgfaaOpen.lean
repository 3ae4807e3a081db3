/- 'inside', 'isFrame', 'Clone', 'Open': for any bytes. -/
import Derived.Test.YthjfjlkkbdjgfaaClose
set_option linter.unusedVariables false
set_option linter.unusedSimpArgs false
namespace Go.Proofs.Ythjfjlkkbdjgfaa
open Go.RowKit Go.Shelf

set_option maxRecDepth 100000 in
set_option maxHeartbeats 2000000 in
theorem inside_any (v : Value) (b : List UInt8) (w : World) (h : Sl w v (bv b)) (hb : 8 ≤ b.length) :
    Calls Try.prog 24 #[v] w fun e w' => ∃ v', e = .returned v' ∧ Sl w v' (bv (mid b)) ∧ w = w' := by
  have hl := sl_len h
  obtain ⟨A, c, rfl⟩ := h.form
  rw [bv_length] at h ⊢
  obtain ⟨q, hq⟩ : ∃ q : Nat, b.length = q + 4 := ⟨b.length - 4, by omega⟩
  have hq2 : (b.length : Int) - 4 = (q : Int) := by omega
  have hm : ((bv b).take q).drop 4 = bv (mid b) := by unfold mid; rw [bv_take, bv_drop, hq]; rfl
  have HM := Lib.hid hm
  have HS := Lib.hid h
  have HB := Lib.hid (show q ≤ (bv b).length by rw [bv_length]; omega)
  have hq3 : 4 ≤ q := by omega
  clear hm h hb
  go_enter Try.func24, Try.ntmps24
  go_wp2_with (with_reducible show wpList _ _ _ (Oper.mk _ (Op.slice _ _ _ _ _) _ _ _ _ :: _) _ _
               refine wpList_cut el23 rfl (.tmp 3) (some (.const (.int .i64 4))) (some (.tmp 6)) rfl _ _ rfl HS.out 4 q hq3 HB.out (.inl rfl) (.inl (by first | rfl | (simp [Act.eval, hq2]))) ?_
               intro A6 c6 s6
               rw [HM.out] at s6)
  go_ret
  exact ⟨_, rfl, s6, rfl⟩

set_option maxRecDepth 100000 in
set_option maxHeartbeats 2000000 in
theorem Clone_any (v : Value) (b : List UInt8) (w : World) (h : Sl w v (bv b)) (hb : b.length ≤ 1000000) :
    Calls Try.prog 23 #[v] w fun e w' => ∃ v', e = .returned v' ∧ Sl w' v' (bv b) ∧ Below w.heap.size w w' := by
  have HS := Lib.hid h
  have HL := Lib.hid (bv_length b)
  have hnil : ∀ (w : World) (a : Option Addr) (n c n' c' : Nat), (binOp .eql 23 (.slice a n c) (.slice none n' c')).run Try.prog w = .ok (.bool a.isNone) w := fun w a n c n' c' => Lib.run_eql_slice_nil w _ _ a n c n' c' Try.underlying23
  rcases h with ⟨rfl, hz⟩ | ⟨g, off, c, rfl, _⟩
  · go_enter Try.func23, Try.ntmps23
    go_wp2
    go_ret
    exact ⟨_, rfl, HS.out, Below.refl _ _⟩
  · have HM := Lib.hid (Made.lit w 5 [] 0 rfl (by decide))
    rw [bv_length] at HS ⊢
    go_enter Try.func23, Try.ntmps23
    go_wp2_with (at_builtin; refine wpList_more el23 rfl (.tmp 5) (.tmp 6) rfl rfl HM.out rfl (HS.out.below HM.out.below) (bv_one _) (by rw [HL.out]; simp; omega) ?_; intro v1 w1 hm1; rw [List.nil_append] at hm1)
    go_ret
    exact ⟨_, rfl, hm1.sl, hm1.below⟩

theorem isFr_is (b : List UInt8) (h : 8 ≤ b.length) : decide (isFr b) = (closeE (mid b) == 0 && decide (closeB (mid b) = b)) := by
  rw [Bool.eq_iff_iff, Bool.and_eq_true, decide_eq_true_iff, decide_eq_true_iff, beq_iff_eq]
  unfold isFr closeE closeB
  rw [mid_length]
  by_cases hl : 112 < b.length - 4 - 4
  · rw [if_pos hl, if_pos hl]
    omega
  · rw [if_neg hl, if_neg hl]
    constructor
    · rintro ⟨_, _, e⟩; exact ⟨rfl, e⟩
    · rintro ⟨_, e⟩; exact ⟨h, by omega, e⟩
theorem closeE_two (p : List UInt8) : closeE p = 0 ∨ closeE p = 2 := by unfold closeE; split <;> simp

set_option maxRecDepth 100000 in
set_option maxHeartbeats 2000000 in
theorem isFrame_any (v : Value) (b : List UInt8) (w : World) (h : Sl w v (bv b)) (hb : 8 ≤ b.length) :
    Calls Try.prog 22 #[v] w fun e w' => e = .returned (.bool (decide (isFr b))) ∧ Below w.heap.size w w' := by
  have h1 := inside_any v b w h hb
  have h2 := fun v' h => Close_any v' (mid b) w h
  have he := isFr_is b hb
  have HS := Lib.hid h
  have HE := Lib.hid he
  have h3 := closeE_two (mid b)
  clear h he hb
  generalize closeE (mid b) = cE at *
  obtain ⟨cB, hcB⟩ : ∃ cB, closeB (mid b) = cB := ⟨_, rfl⟩
  rw [hcB] at HE
  simp only [hcB] at h2
  have h4 := fun v' w' h => Equal_any v' v cB b w' h
  obtain ⟨q, hq⟩ : ∃ q, decide (cB = b) = q := ⟨_, rfl⟩
  rw [hq] at HE
  simp only [hq] at h4
  obtain ⟨r, hr⟩ : ∃ r, decide (isFr b) = r := ⟨_, rfl⟩
  rw [hr] at HE ⊢
  rcases h3 with rfl | rfl
  · go_enter Try.func22, Try.ntmps22
    go_wp2_with fail
    refine h1.mono ?_; rintro e w' ⟨v1, rfl, hs1, rfl⟩
    go_wp2_with fail
    refine (h2 _ hs1).mono ?_; rintro e w1 ⟨v2, rfl, hs2, hb2⟩
    go_wp2_with fail
    refine (h4 _ _ hs2 (HS.out.below hb2)).mono ?_; rintro e w' ⟨rfl, rfl⟩
    go_wp2
    go_ret
    exact ⟨ret_b (by rw [HE.out]; rfl), hb2⟩
  · go_enter Try.func22, Try.ntmps22
    go_wp2_with fail
    refine h1.mono ?_; rintro e w' ⟨v1, rfl, hs1, rfl⟩
    go_wp2_with fail
    refine (h2 _ hs1).mono ?_; rintro e w1 ⟨v2, rfl, hs2, hb2⟩
    go_wp2
    go_ret
    exact ⟨ret_b (by rw [HE.out]; rfl), hb2⟩

set_option maxRecDepth 100000 in
set_option maxHeartbeats 2000000 in
theorem Open_any (v : Value) (b : List UInt8) (w : World) (h : Sl w v (bv b)) :
    Calls Try.prog 12 #[v] w fun e w' => ∃ v', e = .returned (.tuple #[v', .int .i64 (openE b)]) ∧ Sl w' v' (bv (openP b)) ∧ Below w.heap.size w w' := by
  have hl := sl_len h
  unfold openE openP
  by_cases h8 : b.length < 8
  · rw [if_pos h8, if_neg (fun hf : isFr b => by have := hf.1; omega)]
    obtain ⟨A, c, rfl⟩ := h.form
    rw [bv_length]
    go_enter Try.func12, Try.ntmps12
    go_wp2_with fail
    refine wp_scope_fwd ?_
    go_wp2_with fail
    go_step3
    refine fwd_goto _ rfl ?_
    go_wp2
    refine nog_ret ?_
    go_ret2
    exact ⟨_, rfl, Sl.nil_ _, Below.refl _ _⟩
  · rw [if_neg h8]
    have hge : 8 ≤ b.length := by omega
    have h1 := isFrame_any v b w h hge
    have h2 := fun W h => inside_any v b W h hge
    have HS := Lib.hid h
    by_cases hf : isFr b
    · rw [if_pos hf, if_pos hf]
      rw [show decide (isFr b) = true from decide_eq_true hf] at h1
      have h3 := fun v' W h => Clone_any v' (mid b) W h (by rw [mid_length]; have := hf.2.1; omega)
      obtain ⟨A, c, rfl⟩ := h.form
      rw [bv_length] at *
      clear h8 hf
      go_enter Try.func12, Try.ntmps12
      go_wp2_with fail
      refine wp_scope_fwd ?_
      go_wp2_with fail
      refine h1.mono ?_; rintro e w1 ⟨rfl, hb1⟩
      go_wp2_with fail
      refine (h2 _ (HS.out.below hb1)).mono ?_; rintro e w' ⟨v1, rfl, hs1, rfl⟩
      go_wp2_with fail
      refine (h3 _ _ hs1).mono ?_; rintro e w2 ⟨v2, rfl, hs2, hb2⟩
      go_wp2
      refine fwd_ret ?_
      go_ret2
      exact ⟨_, rfl, hs2, hb1.trans (hb2.mono hb1.size)⟩
    · rw [if_neg hf, if_neg hf]
      rw [show decide (isFr b) = false from decide_eq_false hf] at h1
      obtain ⟨A, c, rfl⟩ := h.form
      rw [bv_length] at *
      clear h8 hf
      go_enter Try.func12, Try.ntmps12
      go_wp2_with fail
      refine wp_scope_fwd ?_
      go_wp2_with fail
      refine h1.mono ?_; rintro e w1 ⟨rfl, hb1⟩
      go_wp2_with fail
      go_step3
      refine fwd_goto _ rfl ?_
      go_wp2
      refine nog_ret ?_
      go_ret2
      exact ⟨_, rfl, Sl.nil_ _, hb1⟩
end Go.Proofs.Ythjfjlkkbdjgfaa
