/- Frames: 'closed', 'Close', 'inside', 'isFrame', 'Clone', 'Open': for any bytes. -/
import Derived.Test.YthjfjlkkbdjgfaaBits
set_option linter.unusedVariables false
set_option linter.unusedSimpArgs false
namespace Go.Proofs.Ythjfjlkkbdjgfaa
open Go.RowKit Go.Shelf

theorem sl_len {w : World} {v : Value} {l : List UInt8} (h : Sl w v (bv l)) : l.length ≤ 9223372036854775807 := by
  rcases h with ⟨_, h⟩ | ⟨b, off, c, _, h1, h2, _⟩
  · rw [← bv_length, h]; simp
  · rw [bv_length] at h1; unfold maxLen at h2; omega
/-- The word's bytes, as the machine tells them. -/
theorem w4_bv (s : BitVec 32) : bv (w4 s) = [.int .u8 ((s.toNat : Int) / 16777216), .int .u8 ((s.toNat : Int) / 65536 % 256), .int .u8 ((s.toNat : Int) / 256 % 256), .int .u8 ((s.toNat : Int) % 256)] := by
  have e (n : Nat) : ((s >>> n).setWidth 8).toNat = s.toNat / 2 ^ n % 256 := by
    rw [BitVec.toNat_setWidth, BitVec.toNat_ushiftRight, Nat.shiftRight_eq_div_pow]
  have h24 := e 24
  have h16 := e 16
  have h8 := e 8
  have h0 : (s.setWidth 8).toNat = s.toNat % 256 := by rw [BitVec.toNat_setWidth]
  unfold bv w4
  simp only [List.map_cons, List.map_nil]
  show [Value.int .u8 (((s >>> 24).setWidth 8).toNat : Int), Value.int .u8 (((s >>> 16).setWidth 8).toNat : Int), Value.int .u8 (((s >>> 8).setWidth 8).toNat : Int), Value.int .u8 ((s.setWidth 8).toNat : Int)] = _
  have hlt := s.isLt
  rw [h24, h16, h8, h0, show s.toNat / 2 ^ 24 % 256 = s.toNat / 16777216 by omega]
  congr 3 <;> omega
theorem hd_bv (p : List UInt8) (h : p.length ≤ 112) : [.int .u8 71, .int .u8 1, .int .u8 ((p.length : Int) / 256), .int .u8 (p.length : Int)] ++ bv p = bv (hd p) := by
  have e1 : ((UInt8.ofNat (p.length / 256)).toNat : Int) = (p.length : Int) / 256 := by rw [UInt8.toNat_ofNat']; omega
  have e2 : ((UInt8.ofNat p.length).toNat : Int) = (p.length : Int) := by rw [UInt8.toNat_ofNat']; omega
  unfold hd bv
  simp only [List.map_cons, List.cons_append, List.nil_append, e1, e2]
  rfl

set_option maxRecDepth 100000 in
set_option maxHeartbeats 2000000 in
theorem closed_any (v : Value) (p : List UInt8) (w : World) (h : Sl w v (bv p)) (hp : p.length ≤ 112) :
    Calls Try.prog 21 #[v] w fun e w' => ∃ v', e = .returned v' ∧ Sl w' v' (bv (frm p)) ∧ Below w.heap.size w w' := by
  have hd1 := hd_bv p hp
  have hlen := bv_length p
  obtain ⟨A, c, rfl⟩ := h.form
  rw [hlen]
  rw [hlen] at h
  have hbl := bv_length (hd p)
  rw [hd_length] at hbl
  have hM := (Made.lit w 5 [.int .u8 71, .int .u8 1, .int .u8 ((p.length : Int) / 256), .int .u8 (p.length : Int)] 4 rfl (by decide))
  have HM := Lib.hid hM
  have HS := Lib.hid h
  have HD := Lib.hid hd1
  have HL := Lib.hid hlen
  have HBL := Lib.hid hbl
  have hS := fun v w h => Sum_any v (hd p) w h
  obtain ⟨s, hs⟩ : ∃ s, sumB (hd p) = s := ⟨_, rfl⟩
  have HF := Lib.hid (show bv (frm p) = bv (hd p) ++ bv (w4 s) by unfold frm; rw [hs, bv_append])
  have HW := Lib.hid (w4_bv s)
  rw [hs] at hS
  clear h hd1 hlen hbl hs hM
  have hlt := s.isLt
  generalize s.toNat = sn at *
  go_enter Try.func21, Try.ntmps21
  go_wp2_with (at_builtin; refine wpList_more el23 rfl (.tmp 13) (.tmp 14) rfl rfl HM.out rfl (HS.out.below HM.out.below) (bv_one _) (by have := HL.out; simp; omega) ?_; intro v1 w1 hm1; rw [HD.out] at hm1)
  refine (hS _ _ hm1.sl).mono ?_; rintro e w2 ⟨rfl, hb2⟩
  have hm2 := hm1.behind hb2
  have HM2 := Lib.hid hm2
  obtain ⟨A1, c1, rfl⟩ := hm1.sl.form
  clear hm1 hm2 hb2
  have hl : Sl (w2.alloc (.cells #[.int .u8 ((sn : Int) / 16777216), .int .u8 ((sn : Int) / 65536 % 256), .int .u8 ((sn : Int) / 256 % 256), .int .u8 ((sn : Int) % 256)] 5)) (.slice (some ⟨w2.heap.size, 0, none⟩) 4 4) (bv (w4 s)) := by
    rw [HW.out]
    exact Sl.lit w2 _ 5 4 rfl (by decide)
  have HLT := Lib.hid hl
  clear hl
  go_wp2_with (at_builtin; refine wpList_more el23 rfl (.tmp 18) (.tmp 30) rfl rfl (HM2.out.alloc _) rfl HLT.out (bv_one _) (by have := HBL.out; simp [w4_length, bv_length] at this ⊢; omega) ?_; intro v3 w3 hm3; rw [← HF.out] at hm3)
  go_ret
  exact ⟨_, rfl, hm3.sl, hm3.below⟩

set_option maxRecDepth 100000 in
set_option maxHeartbeats 2000000 in
theorem Close_any (v : Value) (p : List UInt8) (w : World) (h : Sl w v (bv p)) :
    Calls Try.prog 10 #[v] w fun e w' => ∃ v', e = .returned (.tuple #[v', .int .i64 (closeE p)]) ∧ Sl w' v' (bv (closeB p)) ∧ Below w.heap.size w w' := by
  have hS := fun w => Size_any (p.length : Int) w
  unfold closeE closeB
  by_cases hp : 112 < p.length
  · rw [if_pos hp, if_pos hp]
    rw [show siz (p.length : Int) = 0 by unfold siz; rw [if_pos (by omega)]] at hS
    obtain ⟨A, c, rfl⟩ := h.form
    rw [bv_length]
    go_enter Try.func10, Try.ntmps10
    go_wp2_with fail
    refine wp_scope_fwd ?_
    go_wp2_with fail
    refine (hS _).mono ?_; rintro e w' ⟨rfl, rfl⟩
    go_wp2_with fail
    go_step3
    refine fwd_goto _ rfl ?_
    go_wp2
    refine nog_ret ?_
    go_ret2
    exact ⟨_, rfl, Sl.nil_ _, Below.refl _ _⟩
  · rw [if_neg hp, if_neg hp]
    have hz : ((p.length : Int) + 8 == 0) = false := by rw [beq_eq_false_iff_ne]; omega
    rw [show siz (p.length : Int) = p.length + 8 by unfold siz; rw [if_neg (by omega)]] at hS
    have hC := closed_any v p w h (by omega)
    obtain ⟨A, c, rfl⟩ := h.form
    rw [bv_length] at hC ⊢
    clear hp
    go_enter Try.func10, Try.ntmps10
    go_wp2_with fail
    refine wp_scope_fwd ?_
    go_wp2_with fail
    refine (hS _).mono ?_; rintro e w' ⟨rfl, rfl⟩
    go_wp2_with fail
    refine hC.mono ?_; rintro e w1 ⟨v1, rfl, hs1, hb1⟩
    go_wp2
    refine fwd_ret ?_
    go_ret2
    exact ⟨_, rfl, hs1, hb1⟩
end Go.Proofs.Ythjfjlkkbdjgfaa
