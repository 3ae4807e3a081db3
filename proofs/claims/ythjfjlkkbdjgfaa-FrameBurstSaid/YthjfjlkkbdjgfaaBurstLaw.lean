/- 'FrameBurst': the walk of the law: what is closed is opened; with bits side by side that are others nothing is. -/
import Derived.Test.YthjfjlkkbdjgfaaOnlyLaw
import Derived.Test.YthjfjlkkbdjgfaaBurstMath
set_option linter.unusedVariables false
set_option linter.unusedSimpArgs false
namespace Go.Proofs.Ythjfjlkkbdjgfaa
open Go.RowKit Go.Shelf

/-- The k-th bit of a word, told by a shift. -/
theorem shr_bit32 (s : BitVec 32) (k : Nat) : (bits .and .u32 ((s.toNat : Int) / (2 : Int) ^ k) 1 == 1) = s.getLsbD k := by
  rw [show (2 : Int) ^ k = ((2 ^ k : Nat) : Int) by rw [Int.natCast_pow]; rfl]
  have h2 : s.toNat / 2 ^ k < 4294967296 := Nat.lt_of_le_of_lt (Nat.div_le_self _ _) s.isLt
  have e := u32_and_nat (s.toNat / 2 ^ k) 1 h2 (by decide)
  rw [show ((s.toNat / 2 ^ k : Nat) : Int) = (s.toNat : Int) / ((2 ^ k : Nat) : Int) by rw [Int.natCast_ediv], show ((1 : Nat) : Int) = 1 from rfl] at e
  rw [e, Nat.and_one_is_mod, Bool.eq_iff_iff, beq_iff_eq]
  show _ ↔ s.toNat.testBit k = true
  rw [Nat.testBit_eq_decide_div_mod_eq, decide_eq_true_iff]
  omega

set_option maxRecDepth 100000 in
set_option maxHeartbeats 4000000 in
theorem burst_long (A : Option Addr) (c : Nat) (p : List UInt8) (i by_ : Int) (W : World) (hs : Sl W (.slice A p.length c) (bv p)) (h : 112 < p.length) :
    Calls Try.prog 4 #[.slice A p.length c, .int .i64 i, .int .u32 by_] W fun e w' => e = .returned (.bool true) ∧ Below W.heap.size W w' := by
  have a1 := Close_any _ p W hs
  rw [show closeE p = 2 from if_pos h, show closeB p = [] from if_pos h] at a1
  clear hs
  go_enter Try.func4, Try.ntmps4
  go_wp2_with fail
  refine a1.mono ?_; rintro e w1 ⟨v1, rfl, s1, hb⟩
  obtain ⟨A1, c1, rfl⟩ := s1.form
  rw [show (bv []).length = 0 from rfl] at *
  go_wp2_with fail
  refine (wakes_any _).mono ?_; rintro e w2 ⟨rfl, hb2⟩
  go_wp2
  go_ret
  exact ⟨rfl, hb.trans (hb2.mono hb.size)⟩

set_option maxRecDepth 100000 in
set_option maxHeartbeats 4000000 in
theorem burst_main (A : Option Addr) (c : Nat) (p : List UInt8) (i : Int) (hi : Num i) (s : BitVec 32) (W : World) (hs : Sl W (.slice A p.length c) (bv p)) (h : p.length ≤ 112) :
    Calls Try.prog 4 #[.slice A p.length c, .int .i64 i, .int .u32 (s.toNat : Int)] W fun e w' => e = .returned (.bool true) ∧ Below W.heap.size W w' := by
  have a1 := Close_any _ p W hs
  rw [closeE_ok h, closeB_ok h] at a1
  obtain ⟨B, hB⟩ : ∃ B, frm p = B := ⟨_, rfl⟩
  have hfr : isFr B := by rw [← hB]; exact isFr_frm p h
  have hmid : mid B = p := by rw [← hB, mid_frm]
  have hBl : B.length = p.length + 8 := by rw [← hB, frm_length]
  have a2 := fun v w => Open_any v B w
  rw [openE_is hfr, openP_is hfr, hmid] at a2
  have hmore : ∀ x, openE (B ++ [x]) = 12 := fun x => openE_not (by rw [List.length_append]; omega) (by rw [← hB]; exact frm_more p h x)
  have a3 := fun v x w => Open_any v (B ++ [x]) w
  simp only [hmore] at a3
  have a4 := fun v w => Open_any v (B.take (p.length + 7)) w
  have hless : ¬ isFr (B.take (p.length + 7)) := by rw [← hB]; exact frm_less p h
  have hlesl : (B.take (p.length + 7)).length = p.length + 7 := by rw [List.length_take, hBl]; omega
  have hle : openE (B.take (p.length + 7)) = if p.length = 0 then 11 else 12 := by
    by_cases h0 : p.length = 0
    · rw [if_pos h0, openE_short (by omega)]
    · rw [if_neg h0, openE_not (by omega) hless]
  rw [hle] at a4
  rw [hB] at a1
  have hn0 : 0 < 8 * ((p.length : Int) + 8) - 31 := by omega
  have hbd := tmod_bd i (8 * ((p.length : Int) + 8) - 31) hn0
  obtain ⟨m, hm⟩ : ∃ m : Nat, (i.tmod (8 * ((p.length : Int) + 8) - 31) + (8 * ((p.length : Int) + 8) - 31)) % (8 * ((p.length : Int) + 8) - 31) = (m : Int) := ⟨((i.tmod (8 * ((p.length : Int) + 8) - 31) + (8 * ((p.length : Int) + 8) - 31)) % (8 * ((p.length : Int) + 8) - 31)).toNat, by have := Int.emod_nonneg (i.tmod (8 * ((p.length : Int) + 8) - 31) + (8 * ((p.length : Int) + 8) - 31)) (b := 8 * ((p.length : Int) + 8) - 31) (by omega); omega⟩
  have hmn : m + 32 ≤ 8 * B.length := by have := Int.emod_lt_of_pos (i.tmod (8 * ((p.length : Int) + 8) - 31) + (8 * ((p.length : Int) + 8) - 31)) (b := 8 * ((p.length : Int) + 8) - 31) (by omega); omega
  rw [Int.add_emod_right] at hm
  obtain ⟨N, hN⟩ : ∃ N : Int, 8 * ((p.length : Int) + 8) - 31 = N := ⟨_, rfl⟩
  rw [hN] at hbd hm hn0
  have hNz : (N == 0) = false := by rw [beq_eq_false_iff_ne]; omega
  have hNb : N ≤ 1000 := by omega
  have F1 := Lib.hid (show (bv B).length = p.length + 8 by rw [bv_length, hBl])
  have HS := Lib.hid hs
  have HFR := Lib.hid hfr
  have HBL := Lib.hid hBl
  have HMN := Lib.hid hmn
  have HHB := Lib.hid hB
  unfold Num at hi
  have hsame := fun va vb w h1 h2 => same_eq va vb p w h1 h2
  clear hs hfr hmid hB hmore hless hlesl hle hBl hmn
  have H := Below.refl W.heap.size W
  go_enter Try.func4, Try.ntmps4
  go_wp2_with fail
  refine a1.mono ?_; rintro e w1 ⟨v1, rfl, s1, hb⟩
  replace H := H.trans (hb.mono H.size)
  clear hb a1
  go_wp2_with fail
  refine (a2 _ _ s1).mono ?_; rintro e w2 ⟨v2, rfl, s2, hb⟩
  replace H := H.trans (hb.mono H.size)
  replace s1 := s1.below hb
  clear hb
  go_wp2_with fail
  refine (hsame _ _ _ s2 (HS.out.below H)).mono ?_; rintro e w' ⟨rfl, rfl⟩
  obtain ⟨A1, c1, rfl⟩ := s1.form
  rw [F1.out] at s1 ⊢
  have HM := Lib.hid (Made.lit w2 5 [] 0 rfl (by decide))
  have HS1 := Lib.hid s1
  have HH := Lib.hid H
  clear s1 s2 H
  go_wp2_with (at_builtin; refine wpList_more el23 rfl (.tmp 74) (.tmp 75) rfl rfl HM.out rfl (HS1.out.below HM.out.below) (bv_one _) (by have := F1.out; simp; omega) ?_; intro v3 w3 hm3; rw [List.nil_append] at hm3)
  obtain ⟨g, cap, rfl, hg, _⟩ := hm3.byte_ 0 (by have := HBL.out; omega)
  rw [HBL.out] at hm3 ⊢
  go_loopw [13] (fun i wr => ∃ k : Nat, k ≤ 32 ∧ i = .int .i64 k ∧ ∃ C, Burst B C m s k ∧ Made w2 wr 5 (.slice (some ⟨g, 0, none⟩) (p.length + 8) cap) (bv C)) (fun i _ => 32 - (intOf i).toNat)
  case atStart => exact ⟨0, by omega, rfl, B, Burst.start B m s, hm3⟩
  case round =>
    obtain ⟨k, hk, rfl, C, hbu, hmr⟩ := hrel
    by_cases hk32 : k < 32
    · have hb := shr_bit32 s k
      obtain ⟨q, hq⟩ : ∃ q : Nat, m + k = q := ⟨_, rfl⟩
      have hqi : (m : Int) + (k : Int) = (q : Int) := by omega
      have hqC : q / 8 < C.length := by have := hbu.len; have := HMN.out; omega
      have HBU := Lib.hid hbu
      have HMR := Lib.hid hmr
      have HK := Lib.hid hk32
      cases hbit : s.getLsbD k
      · rw [hbit] at hb
        clear hbu hmr hqi hq hqC
        go_wp2
        go_roundw
        case rel => exact ⟨k + 1, by have := HK.out; omega, by go_num, C, HBU.out.no hbit, HMR.out⟩
        case measure => have := HK.out; simp [intOf]; omega
      · rw [hbit] at hb
        obtain ⟨g', cap', hv, _, hcx, hfz, hset⟩ := hmr.byte_ (q / 8) hqC
        injection hv with hv1 hv2 hv3
        injection hv1 with hv1
        injection hv1 with hv1
        subst hv1
        clear hv2 hv3 hbu hmr
        have hy := HBU.out.yes hbit (by rw [hq]; exact hqC)
        simp only [hq] at hy
        obtain ⟨z, hz⟩ : ∃ z, UInt8.ofNat (128 / 2 ^ (q % 8)) = z := ⟨_, rfl⟩
        have hzn : (z.toNat : Int) = 128 / 2 ^ (q % 8) := by
          rw [← hz, UInt8.toNat_ofNat']
          have : q % 8 = 0 ∨ q % 8 = 1 ∨ q % 8 = 2 ∨ q % 8 = 3 ∨ q % 8 = 4 ∨ q % 8 = 5 ∨ q % 8 = 6 ∨ q % 8 = 7 := by omega
          rcases this with h | h | h | h | h | h | h | h <;> rw [h] <;> rfl
        rw [hz] at hy
        have hxor := xor_nat (C[q / 8]) z
        have hset2 := hset (C[q / 8] ^^^ z)
        generalize C.set (q / 8) (C[q / 8] ^^^ z) = C2 at *
        generalize C[q / 8] ^^^ z = y at *
        generalize C[q / 8] = x at *
        have HY := Lib.hid hy
        have HSET := Lib.hid hset2
        clear hset hset2 hy hz
        have hd1 : 0 ≤ (q : Int) / 8 := by omega
        have hd2 : (q : Int) / 8 < (p.length : Int) + 8 := by have := HMN.out; have := HBL.out; omega
        go_wp2
        go_roundw
        case rel => exact ⟨k + 1, by have := HK.out; omega, by go_num, C2, HY.out, by rw [← hzn, hxor]; exact HSET.out⟩
        case measure => have := HK.out; simp [intOf]; omega
    · obtain rfl : k = 32 := by omega
      have hfr2 := hbu.fr HFR.out HMN.out
      have hCl : C.length = p.length + 8 := hbu.len.trans HBL.out
      have a5 := fun v w => Open_any v C w
      have hsz : ((s.toNat : Int) == 0) = decide (s = 0#32) := bv_beq s 0#32
      have hoe : openE C = if s = 0#32 then 0 else 12 := by
        by_cases h0 : s = 0#32
        · rw [if_pos h0]; exact openE_is (hfr2.2 h0)
        · rw [if_neg h0]; exact openE_not (by omega) (fun hf => h0 (hfr2.1 hf))
      rw [hoe] at a5
      have HMR := Lib.hid hmr
      have HHW := Lib.hid (HH.out.trans (hmr.below.mono HH.out.size))
      have HSW := Lib.hid (HS1.out.below hmr.below)
      obtain ⟨y, hy⟩ : ∃ y : UInt8, (y.toNat : Int) = (s.toNat : Int) % 256 := ⟨UInt8.ofNat s.toNat, by rw [UInt8.toNat_ofNat']; omega⟩
      have HY := Lib.hid hy
      have hq : (p.length : Int) + 8 - 1 = ((p.length + 7 : Nat) : Int) := by omega
      have HLT := Lib.hid (show p.length + 7 ≤ (bv B).length by rw [F1.out]; omega)
      have HTK := Lib.hid (show ((bv B).take (p.length + 7)).drop 0 = bv (B.take (p.length + 7)) by rw [List.drop_zero, bv_take])
      have HAP := Lib.hid (show bv B ++ [.int .u8 ((s.toNat : Int) % 256)] = bv (B ++ [y]) by rw [bv_append, ← hy]; rfl)
      replace a3 := fun v w => a3 v y w
      clear hbu hfr2 hCl hoe hmr hy hm3
      generalize B ++ [y] = By at *
      generalize B.take (p.length + 7) = Bt at *
      obtain ⟨E1, hE1⟩ : ∃ E1 : Int, (if s = 0#32 then 0 else 12) = E1 := ⟨_, rfl⟩
      obtain ⟨E2, hE2⟩ : ∃ E2 : Int, (if p.length = 0 then 11 else 12) = E2 := ⟨_, rfl⟩
      rw [hE1] at a5
      rw [hE2] at a4
      have hE : (E1 = 0 ∧ ((s.toNat : Int) == 0) = true) ∨ (E1 = 12 ∧ ((s.toNat : Int) == 0) = false) := by
        by_cases h0 : s = 0#32
        · rw [if_pos h0] at hE1; exact .inl ⟨hE1.symm, by rw [hsz]; exact decide_eq_true h0⟩
        · rw [if_neg h0] at hE1; exact .inr ⟨hE1.symm, by rw [hsz]; exact decide_eq_false h0⟩
      have hI : (E2 = 11 ∧ ((p.length : Int) + 8 == 8) = true) ∨ (E2 = 12 ∧ ((p.length : Int) + 8 == 8) = false) := by
        by_cases h0 : p.length = 0
        · rw [if_pos h0] at hE2; exact .inl ⟨hE2.symm, by rw [beq_iff_eq]; omega⟩
        · rw [if_neg h0] at hE2; exact .inr ⟨hE2.symm, by rw [beq_eq_false_iff_ne]; omega⟩
      clear hE1 hE2 hsz
      rcases hE with ⟨rfl, hsz⟩ | ⟨rfl, hsz⟩ <;> rcases hI with ⟨rfl, hpz⟩ | ⟨rfl, hpz⟩ <;>
      · go_wp2_with fail
        refine (a5 _ _ HMR.out.sl).mono ?_; rintro e w5 ⟨v5, rfl, _, hb⟩
        have HH5 := Lib.hid (HHW.out.trans (hb.mono HHW.out.size))
        have HS5 := Lib.hid (HSW.out.below hb)
        clear hb
        have HM5 := Lib.hid (Made.lit w5 5 [] 0 rfl (by decide))
        go_wp2_with (at_builtin; first
          | (refine wpList_more el23 rfl (.tmp 113) (.tmp 114) rfl rfl HM5.out rfl (HS5.out.below HM5.out.below) (bv_one _) (by have := F1.out; simp; omega) ?_
             intro v6 w6 hm6
             rw [List.nil_append] at hm6
             have HM6 := Lib.hid hm6
             clear hm6)
          | (refine wpList_more el23 rfl (.tmp 115) (.tmp 118) rfl rfl (HM6.out.alloc _) rfl (Sl.lit w6 [.int .u8 ((s.toNat : Int) % 256)] 5 1 rfl (by decide)) (by intro u hu; simp at hu; subst hu; rfl) (by have := F1.out; simp; omega) ?_
             intro v7 w7 hm7
             rw [HAP.out] at hm7))
        refine (a3 _ _ hm7.sl).mono ?_; rintro e w8 ⟨v8, rfl, _, hb⟩
        have HB8 := Lib.hid (hm7.below.trans (hb.mono hm7.below.size))
        have HS8 := Lib.hid (HS5.out.below HB8.out)
        have HH8 := Lib.hid (HH5.out.trans (HB8.out.mono HH5.out.size))
        clear hb hm7
        go_wp2_with (with_reducible show wpList _ _ _ (Oper.mk _ (Op.slice _ _ _ _ _) _ _ _ _ :: _) _ _
                     refine wpList_cut el23 rfl (.tmp 124) none (some (.tmp 127)) rfl _ _ rfl HS8.out 0 (p.length + 7) (Nat.zero_le _) HLT.out (.inr ⟨rfl, rfl⟩) (.inl (by simp [Act.eval])) ?_
                     intro A9 c9 s9
                     rw [HTK.out] at s9)
        rw [Nat.sub_zero] at s9
        refine (a4 _ _ s9).mono ?_; rintro e w9 ⟨v9, rfl, _, hb⟩
        have HH9 := Lib.hid (HH8.out.trans (hb.mono HH8.out.size))
        clear hb s9
        go_wp2_with fail
        refine (wakes_any _).mono ?_; rintro e w10 ⟨rfl, hb⟩
        go_wp2
        go_ret
        exact ⟨rfl, HH9.out.trans (hb.mono HH9.out.size)⟩

theorem burst_walk (W : World) (v : Value) (p : List UInt8) (hs : Sl W v (bv p)) (i : Int) (w1 : (Lit.int .i64 i).wf = true) (b : Int) (w2 : (Lit.int .u32 b).wf = true) :
    Calls Try.prog 4 #[v, .int .i64 i, .int .u32 b] W fun e w' => e = .returned (.bool true) ∧ Below W.heap.size W w' := by
  obtain ⟨A, c, rfl⟩ := hs.form
  rw [bv_length] at *
  by_cases h : 112 < p.length
  · exact burst_long A c p i b W hs h
  · obtain ⟨s, rfl⟩ := word_wf w2
    exact burst_main A c p i (num_wf w1) s W hs (by omega)
end Go.Proofs.Ythjfjlkkbdjgfaa
