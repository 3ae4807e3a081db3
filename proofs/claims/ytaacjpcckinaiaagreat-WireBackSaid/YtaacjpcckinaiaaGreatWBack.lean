/- 'WireBack': the walk of the law: what is put is taken; what may not be is not put; with bits side by side that are others nothing is taken. -/
import Derived.Test.YtaacjpcckinaiaaGreatWOnly
import Derived.Test.YtaacjpcckinaiaaGreatFrmA
set_option linter.unusedVariables false
set_option maxRecDepth 100000
set_option linter.unusedSimpArgs false
namespace Go.Proofs.YtaacjpcckinaiaaGreat
open Go.RowKit Go.Shelf Ms

/-- A number of Go's int. -/
def Num64 (n : Int) : Prop := -9223372036854775808 ≤ n ∧ n ≤ 9223372036854775807
theorem num64_wf {a : Int} (h : (Lit.int .i64 a).wf = true) : Num64 a := by
  simp [Lit.wf, IntKind.has, IntKind.min, IntKind.max, IntKind.bits, IntKind.signed] at h
  exact h
theorem word_wf {a : Int} (h : (Lit.int .u32 a).wf = true) : ∃ s : BitVec 32, a = (s.toNat : Int) := by
  simp [Lit.wf, IntKind.has, IntKind.min, IntKind.max, IntKind.bits, IntKind.signed] at h
  refine ⟨BitVec.ofNat 32 a.toNat, ?_⟩
  rw [BitVec.toNat_ofNat]
  omega
theorem bv_beq0 (s : BitVec 32) : (((s.toNat : Int)) == 0) = decide (s = 0#32) := by
  rw [Bool.eq_iff_iff, beq_iff_eq, decide_eq_true_iff, ← BitVec.toNat_inj]
  show _ ↔ s.toNat = 0
  omega
theorem tmod_bd64 (n : Int) (m : Int) (hm : 0 < m) : -m < n.tmod m ∧ n.tmod m < m := by
  have h1 := Int.tmod_lt_of_pos n hm
  have h2 := Int.lt_tmod_of_pos n hm
  omega
theorem xor_nat8 (x y : UInt8) : bits .xor .u8 (x.toNat : Int) (y.toNat : Int) = ((x ^^^ y).toNat : Int) := by
  rw [u8_xor_nat _ _ x.toNat_lt y.toNat_lt, UInt8.toNat_xor]
theorem shr_bit32 (s : BitVec 32) (k : Nat) : (bits .and .u32 ((s.toNat : Int) / (2 : Int) ^ k) 1 == 1) = s.getLsbD k := by
  rw [show (2 : Int) ^ k = ((2 ^ k : Nat) : Int) by rw [Int.natCast_pow]; rfl]
  have h2 : s.toNat / 2 ^ k < 4294967296 := Nat.lt_of_le_of_lt (Nat.div_le_self _ _) s.isLt
  have e := u32_and_nat (s.toNat / 2 ^ k) 1 h2 (by decide)
  rw [show ((s.toNat / 2 ^ k : Nat) : Int) = (s.toNat : Int) / ((2 ^ k : Nat) : Int) by rw [Int.natCast_ediv], show ((1 : Nat) : Int) = 1 from rfl] at e
  rw [e, Nat.and_one_is_mod, Bool.eq_iff_iff, beq_iff_eq]
  show _ ↔ s.toNat.testBit k = true
  rw [Nat.testBit_eq_decide_div_mod_eq, decide_eq_true_iff]
  omega
/-- A datagram with bits that are others is taken just if none is. -/
theorem take_burst {m : M} {l : List Int} (hr : rightB m l = true) {C : List UInt8} {z : Nat} {s : BitVec 32} (h : Frm.Burst (putR m l) C z s 32) (hz : z + 32 ≤ 8 * (putR m l).length) (h0 : s = 0#32 → C = putR m l) : (takeR C).2.2 = if s = 0#32 then 0 else 12 := by
  have hfr : Frm.isFr (putR m l) := by rw [putR_frm hr]; exact Frm.isFr_frm _ (by have := payB_len hr; omega)
  by_cases hs : s = 0#32
  · rw [if_pos hs, h0 hs, take_put hr]
  · rw [if_neg hs]
    have hn : ¬ Frm.isFr C := fun hf => hs ((h.fr hfr hz).1 hf)
    have hlen : 8 ≤ C.length := by rw [h.len]; exact hfr.1
    have : Frm.openE C = 12 := by unfold Frm.openE; rw [if_neg (by omega), if_neg hn]
    unfold takeR
    rw [this]
    rfl

set_option maxHeartbeats 4000000 in
theorem back_great (m : M) (A : Option Addr) (c : Nat) (l : List Int) (i : Int) (by_ : Int) (w : World) (hg : gr m l = true) :
    Calls Tryz.prog 4 #[.agg (m.c (.slice A l.length c)), .int .i64 i, .int .u32 by_] w fun e w' => e = .returned (.bool true) ∧ Below w.heap.size w w' := by
  have r3 := Rw.new w (m.c (.slice A l.length c)) 27
  have H := box_below w (.cells (m.c (.slice A l.length c)) 27)
  have a1 := fun w => great_any m A l.length c w
  change (∀ w, Calls _ _ _ w fun e w' => e = .returned (.bool (gr m l)) ∧ _) at a1
  rw [hg] at a1
  clear hg
  go_enter Tryz.func4, Tryz.ntmps4
  go_wp2_with (first
      | (with_reducible show wpList _ _ _ (Oper.mk _ (Op.load 27 (.tmp 3)) _ _ _ _ :: _) _ _
         refine wpList_loadW r3 agg27 rfl _ rfl rfl ?_))
  refine (a1 _).mono ?_; rintro e w1 ⟨rfl, hb⟩
  replace H := H.trans (hb.mono H.size)
  go_wp2_with fail
  refine (wakes_any _).mono ?_; rintro e w2 ⟨rfl, hb⟩
  go_wp2
  go_ret
  exact ⟨rfl, H.trans (hb.mono H.size)⟩

set_option maxHeartbeats 4000000 in
theorem back_not (m : M) (A : Option Addr) (c : Nat) (l : List Int) (hk0 : 0 ≤ m.kind) (i : Int) (by_ : Int) (w : World) (hs : Sl w (.slice A l.length c) (iv l)) (hg : gr m l = false) (hr : rightB m l = false) :
    Calls Tryz.prog 4 #[.agg (m.c (.slice A l.length c)), .int .i64 i, .int .u32 by_] w fun e w' => e = .returned (.bool true) ∧ Below w.heap.size w w' := by
  have r3 := Rw.new w (m.c (.slice A l.length c)) 27
  have H := box_below w (.cells (m.c (.slice A l.length c)) 27)
  have a1 := fun w => great_any m A l.length c w
  change (∀ w, Calls _ _ _ w fun e w' => e = .returned (.bool (gr m l)) ∧ _) at a1
  rw [hg] at a1
  have a2 := fun w h => Put_any m A c l hk0 w h
  rw [show payE m l = 2 by unfold payE; rw [hr]; rfl, show putR m l = [] by unfold putR; rw [hr]; rfl] at a2
  have a3 := fun w h => rRight_any m A c l hk0 w h
  rw [hr] at a3
  have A2 := Lib.hid a2
  have A3 := Lib.hid a3
  have HS := Lib.hid hs
  clear hg hr a2 a3 hs
  go_enter Tryz.func4, Tryz.ntmps4
  go_wp2_with (first
      | (with_reducible show wpList _ _ _ (Oper.mk _ (Op.load 27 (.tmp 3)) _ _ _ _ :: _) _ _
         refine wpList_loadW r3 agg27 rfl _ rfl rfl ?_))
  refine (a1 _).mono ?_; rintro e w1 ⟨rfl, hb⟩
  replace H := H.trans (hb.mono H.size)
  replace r3 := r3.below hb
  clear hb a1
  go_wp2_with (first
      | (with_reducible show wpList _ _ _ (Oper.mk _ (Op.load 27 (.tmp 3)) _ _ _ _ :: _) _ _
         refine wpList_loadW r3 agg27 rfl _ rfl rfl ?_))
  refine (A2.out _ (HS.out.below H)).mono ?_; rintro e w2 ⟨v7, rfl, s7, hb⟩
  replace H := H.trans (hb.mono H.size)
  replace r3 := r3.below hb
  obtain ⟨A7, c7, rfl⟩ := s7.form
  rw [show (bv []).length = 0 from rfl] at *
  clear hb
  go_wp2_with (first
      | (with_reducible show wpList _ _ _ (Oper.mk _ (Op.load 27 (.tmp 3)) _ _ _ _ :: _) _ _
         refine wpList_loadW r3 agg27 rfl _ rfl rfl ?_))
  refine (A3.out _ (HS.out.below H)).mono ?_; rintro e w3 ⟨rfl, hb⟩
  replace H := H.trans (hb.mono H.size)
  clear hb
  go_wp2_with fail
  refine (wakes_any _).mono ?_; rintro e w4 ⟨rfl, hb⟩
  go_wp2
  go_ret
  exact ⟨rfl, H.trans (hb.mono H.size)⟩

set_option maxHeartbeats 16000000 in
theorem back_main (m : M) (A : Option Addr) (c : Nat) (l : List Int) (hk0 : 0 ≤ m.kind) (i : Int) (hi : Num64 i) (s : BitVec 32) (w : World) (hs : Sl w (.slice A l.length c) (iv l)) (hg : gr m l = false) (hr : rightB m l = true) :
    Calls Tryz.prog 4 #[.agg (m.c (.slice A l.length c)), .int .i64 i, .int .u32 (s.toNat : Int)] w fun e w' => e = .returned (.bool true) ∧ Below w.heap.size w w' := by
  have r3 := Rw.new w (m.c (.slice A l.length c)) 27
  have H := box_below w (.cells (m.c (.slice A l.length c)) 27)
  have a1 := fun w => great_any m A l.length c w
  change (∀ w, Calls _ _ _ w fun e w' => e = .returned (.bool (gr m l)) ∧ _) at a1
  rw [hg] at a1
  have a2 := fun w h => Put_any m A c l hk0 w h
  rw [payE_ok hr] at a2
  have a3 := fun w h => rRight_any m A c l hk0 w h
  rw [hr] at a3
  have a4 := fun v w h => Take_any v (putR m l) w h
  simp only [take_put hr] at a4
  have a5 := fun w h => Payload_any m A c l hk0 w h
  simp only [hr, if_true] at a5
  have a6 := fun C z => take_burst (m := m) (l := l) hr (C := C) (z := z) (s := s)
  have hpl : (putR m l).length = (payB m l).length + 8 := by rw [putR_frm hr, Frm.frm_length]
  have hp46 := payB_len hr
  generalize putR m l = B at *
  generalize payB m l = p at *
  have hn0 : 0 < 8 * ((p.length : Int) + 8) - 31 := by omega
  have hbd := tmod_bd64 i (8 * ((p.length : Int) + 8) - 31) hn0
  obtain ⟨z, hm⟩ : ∃ z : Nat, (i.tmod (8 * ((p.length : Int) + 8) - 31) + (8 * ((p.length : Int) + 8) - 31)) % (8 * ((p.length : Int) + 8) - 31) = (z : Int) := ⟨((i.tmod (8 * ((p.length : Int) + 8) - 31) + (8 * ((p.length : Int) + 8) - 31)) % (8 * ((p.length : Int) + 8) - 31)).toNat, by have := Int.emod_nonneg (i.tmod (8 * ((p.length : Int) + 8) - 31) + (8 * ((p.length : Int) + 8) - 31)) (b := 8 * ((p.length : Int) + 8) - 31) (by omega); omega⟩
  have hmn : z + 32 ≤ 8 * B.length := by have := Int.emod_lt_of_pos (i.tmod (8 * ((p.length : Int) + 8) - 31) + (8 * ((p.length : Int) + 8) - 31)) (b := 8 * ((p.length : Int) + 8) - 31) (by omega); omega
  rw [Int.add_emod_right] at hm
  obtain ⟨N, hN⟩ : ∃ N : Int, 8 * ((p.length : Int) + 8) - 31 = N := ⟨_, rfl⟩
  rw [hN] at hbd hm hn0
  have hNz : (N == 0) = false := by rw [beq_eq_false_iff_ne]; omega
  have hNb : N ≤ 1000 := by omega
  have F1 := Lib.hid (show (bv B).length = p.length + 8 by rw [bv_length, hpl])
  have F2 := Lib.hid (bv_length p)
  have HS := Lib.hid hs
  have HMN := Lib.hid hmn
  have HBL := Lib.hid hpl
  have HSM := Lib.hid (show same m m l l = true from same_iff.2 ⟨rfl, rfl⟩)
  have A1 := Lib.hid a1
  have A2 := Lib.hid a2
  have A3 := Lib.hid a3
  have A4 := Lib.hid a4
  have A5 := Lib.hid a5
  have A6 := Lib.hid a6
  unfold Num64 at hi
  clear hs hmn hpl a1 a2 a3 a4 a5 a6 hr hg
  go_enter Tryz.func4, Tryz.ntmps4
  go_wp2_with (first
      | (with_reducible show wpList _ _ _ (Oper.mk _ (Op.load 27 (.tmp 3)) _ _ _ _ :: _) _ _
         refine wpList_loadW r3 agg27 rfl _ rfl rfl ?_))
  refine (A1.out _).mono ?_; rintro e w1 ⟨rfl, hb⟩
  replace H := H.trans (hb.mono H.size)
  replace r3 := r3.below hb
  clear hb
  go_wp2_with (first
      | (with_reducible show wpList _ _ _ (Oper.mk _ (Op.load 27 (.tmp 3)) _ _ _ _ :: _) _ _
         refine wpList_loadW r3 agg27 rfl _ rfl rfl ?_))
  refine (A2.out _ (HS.out.below H)).mono ?_; rintro e w2 ⟨v7, rfl, s7, hb⟩
  replace H := H.trans (hb.mono H.size)
  replace r3 := r3.below hb
  clear hb
  go_wp2_with (first
      | (with_reducible show wpList _ _ _ (Oper.mk _ (Op.load 27 (.tmp 3)) _ _ _ _ :: _) _ _
         refine wpList_loadW r3 agg27 rfl _ rfl rfl ?_))
  refine (A3.out _ (HS.out.below H)).mono ?_; rintro e w3 ⟨rfl, hb⟩
  replace H := H.trans (hb.mono H.size)
  replace r3 := r3.below hb
  replace s7 := s7.below hb
  clear hb
  go_wp2_with fail
  refine (A4.out _ _ s7).mono ?_; rintro e w4 ⟨lv9, rfl, s9, hb⟩
  replace H := H.trans (hb.mono H.size)
  replace r3 := r3.below hb
  replace s7 := s7.below hb
  obtain ⟨A9, n9, c9, rfl⟩ := s9.slice
  have r9 := (Rw.new w4 (noM.c nilS) 27).setRow (c' := m.c (.slice A9 n9 c9))
  have B9 := below_setRow (box_below w4 (.cells (noM.c nilS) 27)) (Nat.le_refl _) (m.c (.slice A9 n9 c9))
  replace H := H.trans (B9.mono H.size)
  replace r3 := r3.below B9
  replace s7 := s7.below B9
  replace s9 := s9.below B9
  clear hb B9
  go_wp2_with (first
      | (with_reducible show wpList _ _ _ (Oper.mk _ (Op.store 27 (.tmp 9) _) _ _ _ _ :: _) _ _
         refine wpList_storeR (c := m.c (.slice A9 n9 c9)) rfl _ _ rfl rfl rfl agg27.hi (Rw.new w4 (noM.c nilS) 27) rfl (M.one _ rfl) ?_
         refine gen_w (fun X => Below w.heap.size w X ∧ Rw X w.heap.size 27 (m.c (.slice A l.length c)) ∧ Sl X v7 (bv B) ∧ Sl X (.slice A9 n9 c9) (iv l) ∧ Rw X w4.heap.size 27 (m.c (.slice A9 n9 c9))) ⟨H, r3, s7, s9, r9⟩ ?_
         clear H r3 s7 s9 r9
         rintro w5 ⟨H, r3, s7, s9, r9⟩)
      | (with_reducible show wpList _ _ _ (Oper.mk _ (Op.load 27 (.tmp 3)) _ _ _ _ :: _) _ _
         refine wpList_loadW r3 agg27 rfl _ rfl rfl ?_))
  refine (A5.out _ (HS.out.below H)).mono ?_; rintro e w6 ⟨v11, rfl, s11, hb⟩
  replace H := H.trans (hb.mono H.size)
  replace r3 := r3.below hb
  replace r9 := r9.below hb
  replace s7 := s7.below hb
  replace s9 := s9.below hb
  obtain ⟨A7, c7, rfl⟩ := s7.form
  obtain ⟨A11, c11, rfl⟩ := s11.sl.form
  rw [F1.out] at *
  rw [F2.out] at *
  clear hb s11
  go_wp2_with (first
      | (with_reducible show wpList _ _ _ (Oper.mk _ (Op.load 27 (.tmp 3)) _ _ _ _ :: _) _ _
         refine wpList_loadW r3 agg27 rfl _ rfl rfl ?_)
      | (with_reducible show wpList _ _ _ (Oper.mk _ (Op.load 27 (.tmp 9)) _ _ _ _ :: _) _ _
         refine wpList_loadW r9 agg27 rfl _ rfl rfl ?_))
  refine (rSame_any m m _ _ l l _ s9 (HS.out.below H)).mono ?_; rintro e w7 ⟨rfl, hb⟩
  rw [HSM.out]
  replace H := H.trans (hb.mono H.size)
  replace s7 := s7.below hb
  clear hb r3 r9 s9
  go_wp2_with fail
  refine (Most_any _).mono ?_; rintro e w8 ⟨rfl, rfl⟩
  have hgt : decide (46 < (p.length : Int)) = false := decide_eq_false (by omega)
  have HM := Lib.hid (Made.lit w7 5 [] 0 rfl (by decide))
  have HS1 := Lib.hid s7
  have HH := Lib.hid H
  clear s7 H
  go_wp2_with (at_builtin; refine wpList_more Frm.el23 rfl (.tmp 90) (.tmp 91) rfl rfl HM.out rfl (HS1.out.below HM.out.below) (bv_one _) (by have := HBL.out; have := bv_length B; simp; omega) ?_; intro v12 w12 hm3; rw [List.nil_append] at hm3)
  obtain ⟨g, cap, rfl, hgb, _⟩ := hm3.byte_ 0 (by have := HBL.out; omega)
  rw [HBL.out] at hm3 ⊢
  go_loopw [15] (fun i wr => ∃ k : Nat, k ≤ 32 ∧ i = .int .i64 k ∧ ∃ C, Frm.Burst B C z s k ∧ (s = 0#32 → C = B) ∧ Made w7 wr 5 (.slice (some ⟨g, 0, none⟩) (p.length + 8) cap) (bv C)) (fun i _ => 32 - (intOf i).toNat)
  case atStart => exact ⟨0, by omega, rfl, B, Frm.Burst.start B z s, fun _ => rfl, hm3⟩
  case round =>
    obtain ⟨k, hk, rfl, C, hbu, hC0, hmr⟩ := hrel
    by_cases hk32 : k < 32
    · have hb := shr_bit32 s k
      obtain ⟨q, hq⟩ : ∃ q : Nat, z + k = q := ⟨_, rfl⟩
      have hqi : (z : Int) + (k : Int) = (q : Int) := by omega
      have hqC : q / 8 < C.length := by have := hbu.len; have := HMN.out; omega
      have HBU := Lib.hid hbu
      have HMR := Lib.hid hmr
      have HK := Lib.hid hk32
      have HC0 := Lib.hid hC0
      clear hC0
      cases hbit : s.getLsbD k
      · rw [hbit] at hb
        clear hbu hmr hqi hq hqC
        go_wp2
        go_roundw
        case rel => exact ⟨k + 1, by have := HK.out; omega, by go_num, C, HBU.out.no hbit, HC0.out, HMR.out⟩
        case measure => have := HK.out; simp [intOf]; omega
      · rw [hbit] at hb
        obtain ⟨g', cap', hv, _, hcx, hfz, hset⟩ := hmr.byte_ (q / 8) hqC
        injection hv with hv1 hv2 hv3
        injection hv1 with hv1
        injection hv1 with hv1
        subst hv1
        clear hv2 hv3 hbu hmr
        have hy := HBU.out.yes hbit (by rw [hq]; exact hqC)
        simp only [hq] at hy
        obtain ⟨x8, hz⟩ : ∃ x8, UInt8.ofNat (128 / 2 ^ (q % 8)) = x8 := ⟨_, rfl⟩
        have hzn : (x8.toNat : Int) = 128 / 2 ^ (q % 8) := by
          rw [← hz, UInt8.toNat_ofNat']
          have : q % 8 = 0 ∨ q % 8 = 1 ∨ q % 8 = 2 ∨ q % 8 = 3 ∨ q % 8 = 4 ∨ q % 8 = 5 ∨ q % 8 = 6 ∨ q % 8 = 7 := by omega
          rcases this with h | h | h | h | h | h | h | h <;> rw [h] <;> rfl
        rw [hz] at hy
        have hxor := xor_nat8 (C[q / 8]) x8
        have hset2 := hset (C[q / 8] ^^^ x8)
        generalize C.set (q / 8) (C[q / 8] ^^^ x8) = C2 at *
        generalize C[q / 8] ^^^ x8 = y at *
        generalize C[q / 8] = x at *
        have HY := Lib.hid hy
        have HSET := Lib.hid hset2
        have HN0 := Lib.hid (show s = 0#32 → C2 = B from fun e => by rw [e] at hbit; simp at hbit)
        clear hset hset2 hy hz
        have hd1 : 0 ≤ (q : Int) / 8 := by omega
        have hd2 : (q : Int) / 8 < (p.length : Int) + 8 := by have := HMN.out; have := HBL.out; omega
        go_wp2
        go_roundw
        case rel => exact ⟨k + 1, by have := HK.out; omega, by go_num, C2, HY.out, HN0.out, by rw [← hzn, hxor]; exact HSET.out⟩
        case measure => have := HK.out; simp [intOf]; omega
    · obtain rfl : k = 32 := by omega
      have hoe := A6.out C z hbu HMN.out hC0
      have a7 := fun v w h => Take_any v C w h
      rw [hoe] at a7
      have hsz := bv_beq0 s
      have hE : ((if s = 0#32 then (0 : Int) else 12) = 0 ∧ ((s.toNat : Int) == 0) = true) ∨ ((if s = 0#32 then (0 : Int) else 12) = 12 ∧ ((s.toNat : Int) == 0) = false) := by
        rw [hsz]
        by_cases h0 : s = 0#32
        · rw [if_pos h0]; exact .inl ⟨rfl, decide_eq_true h0⟩
        · rw [if_neg h0]; exact .inr ⟨rfl, decide_eq_false h0⟩
      have HMR := Lib.hid hmr
      have HHW := Lib.hid (HH.out.trans (hmr.below.mono HH.out.size))
      generalize (if s = 0#32 then (0 : Int) else 12) = E1 at *
      have A7 := Lib.hid a7
      clear hbu hoe hmr hm3 a7 hC0 hsz
      rcases hE with ⟨rfl, hsz⟩ | ⟨rfl, hsz⟩ <;>
      · go_wp2_with fail
        refine (A7.out _ _ HMR.out.sl).mono ?_; rintro e w13 ⟨lv16, rfl, s16, hb⟩
        have HH5 := Lib.hid (HHW.out.trans (hb.mono HHW.out.size))
        obtain ⟨A16, n16, c16, rfl⟩ := s16.slice
        have HB16 := Lib.hid (below_setRow (box_below w13 (.cells (noM.c nilS) 27)) (Nat.le_refl _) ((takeR C).1.c (.slice A16 n16 c16)))
        clear hb s16
        go_wp2_with (first
          | (with_reducible show wpList _ _ _ (Oper.mk _ (Op.store 27 (.tmp 16) _) _ _ _ _ :: _) _ _
             refine wpList_storeR (c := (takeR C).1.c (.slice A16 n16 c16)) rfl _ _ rfl rfl rfl agg27.hi (Rw.new w13 (noM.c nilS) 27) rfl (M.one _ rfl) ?_))
        refine (wakes_any _).mono ?_; rintro e w14 ⟨rfl, hb⟩
        have HH6 := HH5.out.trans (HB16.out.mono HH5.out.size)
        go_wp2
        go_ret
        exact ⟨rfl, HH6.trans (hb.mono HH6.size)⟩

theorem back_walk (W : World) (m : M) (v : Value) (l : List Int) (hs : Sl W v (iv l)) (hm0 : 0 ≤ m.kind) (i : Int) (w1 : (Lit.int .i64 i).wf = true) (b : Int) (w2 : (Lit.int .u32 b).wf = true) :
    Calls Tryz.prog 4 #[.agg (m.c v), .int .i64 i, .int .u32 b] W fun e w' => e = .returned (.bool true) ∧ Below W.heap.size W w' := by
  obtain ⟨A, n, c, rfl⟩ := hs.slice
  obtain ⟨rfl, _⟩ := hs.llen
  cases hg : gr m l with
  | true => exact back_great m A c l i b W hg
  | false =>
    cases hr : rightB m l with
    | false => exact back_not m A c l hm0 i b W hs hg hr
    | true =>
      obtain ⟨s, rfl⟩ := word_wf w2
      exact back_main m A c l hm0 i (num64_wf w1) s W hs hg hr
end Go.Proofs.YtaacjpcckinaiaaGreat
