/- The document's own sums, frames, payloads. -/
import Derived.Test.YthjfjlkkbdjgfaaOpen
set_option linter.unusedVariables false
set_option linter.unusedSimpArgs false
namespace Go.Proofs.Ythjfjlkkbdjgfaa
open Go.RowKit Go.Shelf

/-- The k-th bit of a byte, told by a shift. -/
theorem shr_bit (x : UInt8) (k : Nat) (hk : k < 8) : (bits .and .u8 ((x.toNat : Int) / (2 : Int) ^ k) 1 == 1) = x.toBitVec.getLsbD k := by
  rw [show (2 : Int) ^ k = ((2 ^ k : Nat) : Int) by rw [Int.natCast_pow]; rfl]
  have h2 : x.toNat / 2 ^ k < 256 := Nat.lt_of_le_of_lt (Nat.div_le_self _ _) x.toNat_lt
  have e := u8_and_nat (x.toNat / 2 ^ k) 1 h2 (by decide)
  rw [show ((x.toNat / 2 ^ k : Nat) : Int) = (x.toNat : Int) / ((2 ^ k : Nat) : Int) by rw [Int.natCast_ediv], show ((1 : Nat) : Int) = 1 from rfl] at e
  rw [e, Nat.and_one_is_mod, Bool.eq_iff_iff, beq_iff_eq]
  show _ ↔ x.toNat.testBit k = true
  rw [Nat.testBit_eq_decide_div_mod_eq, decide_eq_true_iff]
  omega
theorem run_succ (s : BitVec 32) (f : Nat → Bool) (n : Nat) : stp (run s f n) (f n) = run s f (n + 1) := rfl
theorem bit_at (l : List UInt8) (j m : Nat) (hj : j < l.length) (hm : m < 8) : bit l (8 * j + m) = l[j].toBitVec.getLsbD (7 - m) := by
  unfold bit
  rw [show (8 * j + m) / 8 = j by omega, show (8 * j + m) % 8 = m by omega, List.getElem?_eq_getElem hj]

set_option maxRecDepth 100000 in
set_option maxHeartbeats 4000000 in
theorem Sum_ref (v : Value) (zs : List UInt8) (w : World) (h : Sl w v (bv zs)) :
    Calls Try.prog 17 #[v] w fun e w' => e = .returned (.int .u32 ((sumB zs).toNat : Int)) ∧ w = w' := by
  have hl := sl_len h
  obtain ⟨A, c, rfl⟩ := h.form
  have hbl := bv_length zs
  rw [hbl] at *
  have HC := Lib.hid (h.at_)
  obtain ⟨r, hr⟩ : ∃ r, sumB zs = r := ⟨_, rfl⟩
  rw [hr]
  have HR := Lib.hid hr
  clear hr h hbl
  go_enter Try.func17, Try.ntmps17
  go_wp2
  go_loop [3, 4, 5] (fun s i k => ∃ j : Nat, j ≤ zs.length ∧ i = .int .i64 j ∧ s = .int .u32 ((run ones (bit zs) (8 * j)).toNat : Int)) (fun _ i _ => zs.length - (intOf i).toNat)
  case atStart => exact ⟨0, Nat.zero_le _, rfl, rfl⟩
  case round =>
    obtain ⟨j, hj, rfl, rfl⟩ := hrel
    by_cases hlt : j < zs.length
    · obtain ⟨b, off, rfl, _, hcx⟩ := HC.out j hlt
      obtain ⟨x, hx⟩ : ∃ x, zs[j] = x := ⟨_, rfl⟩
      rw [hx] at hcx
      have HX := Lib.hid hx
      clear hx
      go_wp2
      go_loop [3, 5] (fun s k => ∃ m : Nat, m ≤ 8 ∧ k = .int .i64 (7 - m : Int) ∧ s = .int .u32 ((run ones (bit zs) (8 * j + m)).toNat : Int)) (fun _ k => (intOf k + 1).toNat)
      case atStart => exact ⟨0, by omega, rfl, rfl⟩
      case round =>
        obtain ⟨m, hm, rfl, rfl⟩ := hrel
        by_cases hm8 : m < 8
        · have hb := shr_bit x (7 - m) (by omega)
          have hstep := fun w b => Step_ref (run ones (bit zs) (8 * j + m)) b w
          have hat := bit_at zs j m hlt hm8
          rw [HX.out] at hat
          have hk : (7 - (m : Int)) = ((7 - m : Nat) : Int) := by omega
          rw [← hat] at hb
          have hrs := run_succ ones (bit zs) (8 * j + m)
          clear hat
          obtain ⟨bb, hbb⟩ : ∃ bb, bit zs (8 * j + m) = bb := ⟨_, rfl⟩
          rw [hbb] at hb hrs
          have hs2 := fun w => hstep w bb
          rw [hrs] at hs2
          have HRS := Lib.hid hrs
          clear hstep hrs hbb
          go_wp2_with fail
          refine (hs2 _).mono ?_; rintro e w' ⟨rfl, rfl⟩
          go_wp2
          go_round
          case rel => exact ⟨m + 1, by omega, by go_num; try omega, rfl⟩
          case measure => simp [intOf]; omega
        · obtain rfl : m = 8 := by omega
          go_wp2
          go_round
          case rel => exact ⟨j + 1, hlt, by go_num, by rw [show 8 * (j + 1) = 8 * j + 8 by omega]⟩
          case measure => simp [intOf]; omega
    · obtain rfl : j = zs.length := by omega
      go_wp2
      go_loop [3, 6] (fun s k => ∃ m : Nat, m ≤ 32 ∧ k = .int .i64 m ∧ s = .int .u32 ((run ones (bit zs) (8 * zs.length + m)).toNat : Int)) (fun _ k => 32 - (intOf k).toNat)
      case atStart => exact ⟨0, by omega, rfl, rfl⟩
      case round =>
        obtain ⟨m, hm, rfl, rfl⟩ := hrel
        by_cases hm8 : m < 32
        · have hs2 := fun w => Step_ref (run ones (bit zs) (8 * zs.length + m)) false w
          rw [show stp (run ones (bit zs) (8 * zs.length + m)) false = run ones (bit zs) (8 * zs.length + (m + 1)) by rw [← Nat.add_assoc, ← run_succ, bit_out zs _ (by omega)]] at hs2
          go_wp2_with fail
          refine (hs2 _).mono ?_; rintro e w' ⟨rfl, rfl⟩
          go_wp2
          go_round
          case rel => exact ⟨m + 1, by omega, by go_num, rfl⟩
          case measure => simp [intOf]; omega
        · obtain rfl : m = 32 := by omega
          have hf : run ones (bit zs) (8 * zs.length + 32) = r := HR.out
          rw [hf]
          clear hf
          go_wp2
          go_ret
          exact ⟨rfl, rfl⟩

set_option maxRecDepth 100000 in
set_option maxHeartbeats 2000000 in
theorem Close_ref (v : Value) (p : List UInt8) (w : World) (h : Sl w v (bv p)) :
    Calls Try.prog 11 #[v] w fun e w' => ∃ v', e = .returned (.tuple #[v', .int .i64 (closeE p)]) ∧ Sl w' v' (bv (closeB p)) ∧ Below w.heap.size w w' := by
  have hS := fun w => Size_ref (p.length : Int) w
  unfold closeE closeB
  by_cases hp : 112 < p.length
  · rw [if_pos hp, if_pos hp]
    rw [show siz (p.length : Int) = 0 by unfold siz; rw [if_pos (by omega)]] at hS
    obtain ⟨A, c, rfl⟩ := h.form
    rw [bv_length]
    go_enter Try.func11, Try.ntmps11
    go_wp2_with fail
    refine (hS _).mono ?_; rintro e w' ⟨rfl, rfl⟩
    go_wp2
    go_ret2
    exact ⟨_, rfl, Sl.nil_ _, Below.refl _ _⟩
  · rw [if_neg hp, if_neg hp]
    have hz : ((p.length : Int) + 8 == 0) = false := by rw [beq_eq_false_iff_ne]; omega
    rw [show siz (p.length : Int) = p.length + 8 by unfold siz; rw [if_neg (by omega)]] at hS
    have hp2 : p.length ≤ 112 := by omega
    have hd1 := hd_bv p hp2
    have hlen := bv_length p
    obtain ⟨A, c, rfl⟩ := h.form
    rw [hlen]
    rw [hlen] at h
    have hbl := bv_length (hd p)
    rw [hd_length] at hbl
    have hM := (Made.lit w 5 [.int .u8 71, .int .u8 1, .int .u8 ((p.length : Int) / 256), .int .u8 (p.length : Int)] 4 rfl (by decide))
    have HM := Lib.hid hM
    have HS := Lib.hid h
    have HD := Lib.hid hd1
    have HL := Lib.hid hlen
    have HBL := Lib.hid hbl
    have hS2 := fun v w h => Sum_ref v (hd p) w h
    obtain ⟨s, hs⟩ : ∃ s, sumB (hd p) = s := ⟨_, rfl⟩
    have HF := Lib.hid (show bv (frm p) = bv (hd p) ++ bv (w4 s) by unfold frm; rw [hs, bv_append])
    have HW := Lib.hid (w4_bv s)
    rw [hs] at hS2
    clear h hd1 hlen hbl hs hM hp
    have hlt := s.isLt
    generalize s.toNat = sn at *
    go_enter Try.func11, Try.ntmps11
    go_wp2_with fail
    refine (hS _).mono ?_; rintro e w' ⟨rfl, rfl⟩
    go_wp2_with (at_builtin; refine wpList_more el23 rfl (.tmp 17) (.tmp 18) rfl rfl HM.out rfl (HS.out.below HM.out.below) (bv_one _) (by have := HL.out; simp; omega) ?_; intro v1 w1 hm1; rw [HD.out] at hm1)
    refine (hS2 _ _ hm1.sl).mono ?_; rintro e w2 ⟨rfl, rfl⟩
    have HM2 := Lib.hid hm1
    obtain ⟨A1, c1, rfl⟩ := hm1.sl.form
    clear hm1
    have hl : Sl (w1.alloc (.cells #[.int .u8 ((sn : Int) / 16777216), .int .u8 ((sn : Int) / 65536 % 256), .int .u8 ((sn : Int) / 256 % 256), .int .u8 ((sn : Int) % 256)] 5)) (.slice (some ⟨w1.heap.size, 0, none⟩) 4 4) (bv (w4 s)) := by
      rw [HW.out]
      exact Sl.lit w1 _ 5 4 rfl (by decide)
    have HLT := Lib.hid hl
    clear hl
    go_wp2_with (at_builtin; refine wpList_more el23 rfl (.tmp 22) (.tmp 34) rfl rfl (HM2.out.alloc _) rfl HLT.out (bv_one _) (by have := HBL.out; simp [w4_length, bv_length] at this ⊢; omega) ?_; intro v3 w3 hm3; rw [← HF.out] at hm3)
    go_ret2
    exact ⟨_, rfl, hm3.sl, hm3.below⟩

set_option maxRecDepth 100000 in
set_option maxHeartbeats 2000000 in
theorem Open_ref (v : Value) (b : List UInt8) (w : World) (h : Sl w v (bv b)) (hb : b.length ≤ 1000000) :
    Calls Try.prog 13 #[v] w fun e w' => ∃ v', e = .returned (.tuple #[v', .int .i64 (openE b)]) ∧ Sl w' v' (bv (openP b)) ∧ Below w.heap.size w w' := by
  unfold openE openP
  by_cases h8 : b.length < 8
  · rw [if_pos h8, if_neg (fun hf : isFr b => by have := hf.1; omega)]
    obtain ⟨A, c, rfl⟩ := h.form
    rw [bv_length]
    go_enter Try.func13, Try.ntmps13
    go_wp2
    go_ret2
    exact ⟨_, rfl, Sl.nil_ _, Below.refl _ _⟩
  · rw [if_neg h8]
    have hge : 8 ≤ b.length := by omega
    have he := isFr_is b hge
    have h2 := fun v' W h => Close_ref v' (mid b) W h
    have hms : (bv (mid b)).length * 1 ≤ 140737488355328 := by rw [bv_length, mid_length]; omega
    have HMS := Lib.hid hms
    have HS := Lib.hid h
    have hcr := fun W v hs => run_str (P := Try.prog) (w := W) 23 9 5 Try.underlying23 Try.underlying5 Try.underlying9 v (closeB (mid b)) hs
    have hbr := fun W hs => run_str (P := Try.prog) (w := W) 23 9 5 Try.underlying23 Try.underlying5 Try.underlying9 v b hs
    have h3 := closeE_two (mid b)
    obtain ⟨q, hq⟩ : ∃ q : Nat, b.length = q + 4 := ⟨b.length - 4, by omega⟩
    have hq2 : (b.length : Int) - 4 = (q : Int) := by omega
    have hm : ((bv b).take q).drop 4 = bv (mid b) := by unfold mid; rw [bv_take, bv_drop, hq]; rfl
    have HMID := Lib.hid hm
    have HB := Lib.hid (show q ≤ (bv b).length by rw [bv_length]; omega)
    have hq3 : 4 ≤ q := by omega
    obtain ⟨A, c, rfl⟩ := h.form
    rw [bv_length] at *
    have HM := Lib.hid (Made.lit w 5 [] 0 rfl (by decide))
    generalize closeE (mid b) = cE at *
    generalize closeB (mid b) = cB at *
    have HQ := Lib.hid hq
    clear h hms hm h8 hq
    by_cases hf : isFr b
    · rw [decide_eq_true hf] at he
      have he' := he.symm
      rw [Bool.and_eq_true, beq_iff_eq, decide_eq_true_iff] at he'
      obtain ⟨rfl, rfl⟩ := he'
      rw [if_pos hf, if_pos hf]
      clear h3 hf he
      go_enter Try.func13, Try.ntmps13
      go_wp2_with (first
        | (with_reducible show wpList _ _ _ (Oper.mk _ (Op.slice _ _ _ _ _) _ _ _ _ :: _) _ _
           refine wpList_cut el23 rfl (.tmp 11) (some (.const (.int .i64 4))) (some (.tmp 14)) rfl _ _ rfl (HS.out.below HM.out.below) 4 q hq3 (by rw [bv_length]; exact HB.out) (.inl rfl) (.inl (by simp [Act.eval, hq2])) ?_
           intro A6 c6 s6
           rw [HMID.out] at s6)
        | (at_builtin; refine wpList_more el23 rfl (.tmp 10) (.tmp 15) rfl rfl HM.out rfl s6 (bv_one _) (by have := HMS.out; simp [bv_length] at this ⊢; omega) ?_; intro v1 w1 hm1; rw [List.nil_append] at hm1))
      refine (h2 _ _ hm1.sl).mono ?_; rintro e w2 ⟨v2, rfl, hs2, hb2⟩
      have hr1 := hcr _ _ hs2
      have hr2 := hbr _ (HS.out.below (hm1.below.trans (hb2.mono hm1.below.size)))
      go_wp2
      go_ret2
      exact ⟨_, rfl, hm1.sl.below hb2, hm1.below.trans (hb2.mono hm1.below.size)⟩
    · rw [decide_eq_false hf] at he
      rw [if_neg hf, if_neg hf]
      rcases h3 with rfl | rfl
      · have hne : (!cB == b) = true := by
          simp only [beq_self_eq_true, Bool.true_and] at he
          have := of_decide_eq_false he.symm
          simp [this]
        clear hf he
        go_enter Try.func13, Try.ntmps13
        go_wp2_with (first
          | (with_reducible show wpList _ _ _ (Oper.mk _ (Op.slice _ _ _ _ _) _ _ _ _ :: _) _ _
             refine wpList_cut el23 rfl (.tmp 11) (some (.const (.int .i64 4))) (some (.tmp 14)) rfl _ _ rfl (HS.out.below HM.out.below) 4 q hq3 (by rw [bv_length]; exact HB.out) (.inl rfl) (.inl (by simp [Act.eval, hq2])) ?_
             intro A6 c6 s6
             rw [HMID.out] at s6)
          | (at_builtin; refine wpList_more el23 rfl (.tmp 10) (.tmp 15) rfl rfl HM.out rfl s6 (bv_one _) (by have := HMS.out; simp [bv_length] at this ⊢; omega) ?_; intro v1 w1 hm1; rw [List.nil_append] at hm1))
        refine (h2 _ _ hm1.sl).mono ?_; rintro e w2 ⟨v2, rfl, hs2, hb2⟩
        have hr1 := hcr _ _ hs2
        have hr2 := hbr _ (HS.out.below (hm1.below.trans (hb2.mono hm1.below.size)))
        go_wp2
        go_ret2
        exact ⟨_, rfl, Sl.nil_ _, hm1.below.trans (hb2.mono hm1.below.size)⟩
      · clear hf he
        go_enter Try.func13, Try.ntmps13
        go_wp2_with (first
          | (with_reducible show wpList _ _ _ (Oper.mk _ (Op.slice _ _ _ _ _) _ _ _ _ :: _) _ _
             refine wpList_cut el23 rfl (.tmp 11) (some (.const (.int .i64 4))) (some (.tmp 14)) rfl _ _ rfl (HS.out.below HM.out.below) 4 q hq3 (by rw [bv_length]; exact HB.out) (.inl rfl) (.inl (by simp [Act.eval, hq2])) ?_
             intro A6 c6 s6
             rw [HMID.out] at s6)
          | (at_builtin; refine wpList_more el23 rfl (.tmp 10) (.tmp 15) rfl rfl HM.out rfl s6 (bv_one _) (by have := HMS.out; simp [bv_length] at this ⊢; omega) ?_; intro v1 w1 hm1; rw [List.nil_append] at hm1))
        refine (h2 _ _ hm1.sl).mono ?_; rintro e w2 ⟨v2, rfl, hs2, hb2⟩
        go_wp2
        go_ret2
        exact ⟨_, rfl, Sl.nil_ _, hm1.below.trans (hb2.mono hm1.below.size)⟩
end Go.Proofs.Ythjfjlkkbdjgfaa
