/- 'FrameOnly': the walk of the law: what is opened has just that frame. -/
import Derived.Test.YthjfjlkkbdjgfaaTellsLaw
set_option linter.unusedVariables false
set_option linter.unusedSimpArgs false
namespace Go.Proofs.Ythjfjlkkbdjgfaa
open Go.RowKit Go.Shelf

/-- A number of Go's int. -/
def Num (n : Int) : Prop := -9223372036854775808 ≤ n ∧ n ≤ 9223372036854775807
theorem num_wf {a : Int} (h : (Lit.int .i64 a).wf = true) : Num a := by
  simp [Lit.wf, IntKind.has, IntKind.min, IntKind.max, IntKind.bits, IntKind.signed] at h
  exact h
theorem byte_wf {a : Int} (h : (Lit.int .u8 a).wf = true) : ∃ y : UInt8, a = (y.toNat : Int) := by
  simp [Lit.wf, IntKind.has, IntKind.min, IntKind.max, IntKind.bits, IntKind.signed] at h
  refine ⟨UInt8.ofNat a.toNat, ?_⟩
  rw [UInt8.toNat_ofNat']
  omega
theorem tmod_bd (n : Int) (m : Int) (hm : 0 < m) : -m < n.tmod m ∧ n.tmod m < m := by
  have h1 := Int.tmod_lt_of_pos n hm
  have h2 := Int.lt_tmod_of_pos n hm
  omega
theorem xor_nat (x y : UInt8) : bits .xor .u8 (x.toNat : Int) (y.toNat : Int) = ((x ^^^ y).toNat : Int) := by
  rw [u8_xor_nat _ _ x.toNat_lt y.toNat_lt, UInt8.toNat_xor]
theorem isFr_set {b : List UInt8} (hb : isFr b) (k : Nat) (hk : k < b.length) (y : UInt8) (hy : y ≠ 0) : ¬ isFr (b.set k (b[k] ^^^ y)) := by
  rw [isFr_burst hb (fun i => decide (i / 8 = k) && y.toBitVec.getLsbD (7 - i % 8)) (8 * k) 8 (List.length_set ..) (by omega) (by omega)
    (fun i hi => by simp; intro h; omega) (fun i _ => bit_set b k hk y i)]
  intro h
  apply hy
  rw [← UInt8.toBitVec_inj]
  apply BitVec.eq_of_getLsbD_eq
  intro j hj
  have := h (8 * k + (7 - j))
  simp only [show (8 * k + (7 - j)) / 8 = k by omega, show 7 - (8 * k + (7 - j)) % 8 = j by omega, decide_true, Bool.true_and] at this
  rw [this]
  simp
theorem openE_not {b : List UInt8} (h8 : 8 ≤ b.length) (h : ¬ isFr b) : openE b = 12 := by unfold openE; rw [if_neg (by omega), if_neg h]
theorem openE_is {b : List UInt8} (h : isFr b) : openE b = 0 := by unfold openE; rw [if_neg (by have := h.1; omega), if_pos h]
theorem openP_is {b : List UInt8} (h : isFr b) : openP b = mid b := if_pos h
theorem openP_not {b : List UInt8} (h : ¬ isFr b) : openP b = [] := if_neg h
theorem openE_short {b : List UInt8} (h : b.length < 8) : openE b = 11 := if_pos h
theorem closeE_ok {p : List UInt8} (h : p.length ≤ 112) : closeE p = 0 := if_neg (by omega)
theorem closeB_ok {p : List UInt8} (h : p.length ≤ 112) : closeB p = frm p := if_neg (by omega)
theorem closeB_mid {b : List UInt8} (h : isFr b) : closeE (mid b) = 0 ∧ closeB (mid b) = b := by
  have hl : (mid b).length ≤ 112 := by rw [mid_length]; have := h.2.1; omega
  exact ⟨closeE_ok hl, (closeB_ok hl).trans h.2.2⟩

set_option maxRecDepth 100000 in
set_option maxHeartbeats 4000000 in
theorem only_long (A : Option Addr) (n c : Nat) (i b : Int) (W : World) (h : 300 < n) :
    Calls Try.prog 5 #[.slice A n c, .int .i64 i, .int .u8 b] W fun e w' => e = .returned (.bool true) ∧ Below W.heap.size W w' := by
  go_enter Try.func5, Try.ntmps5
  go_wp2_with fail
  refine (wakes_any _).mono ?_; rintro e w1 ⟨rfl, hb⟩
  go_wp2
  go_ret
  exact ⟨rfl, hb⟩
set_option maxRecDepth 100000 in
set_option maxHeartbeats 4000000 in
theorem only_not (A : Option Addr) (c : Nat) (l : List UInt8) (i b : Int) (W : World) (hs : Sl W (.slice A l.length c) (bv l)) (h : l.length ≤ 300) (hf : ¬ isFr l) :
    Calls Try.prog 5 #[.slice A l.length c, .int .i64 i, .int .u8 b] W fun e w' => e = .returned (.bool true) ∧ Below W.heap.size W w' := by
  have a1 := Open_any _ l W hs
  rw [openP_not hf] at a1
  by_cases h8 : l.length < 8
  · rw [openE_short h8] at a1
    clear hs hf
    go_enter Try.func5, Try.ntmps5
    go_wp2_with fail
    refine a1.mono ?_; rintro e w1 ⟨v1, rfl, s1, hb⟩
    obtain ⟨A1, c1, rfl⟩ := s1.form
    rw [show (bv []).length = 0 from rfl] at *
    go_wp2_with fail
    refine (wakes_any _).mono ?_; rintro e w2 ⟨rfl, hb2⟩
    go_wp2
    go_ret
    exact ⟨rfl, hb.trans (hb2.mono hb.size)⟩
  · rw [openE_not (by omega) hf] at a1
    have h9 : 8 ≤ l.length := by omega
    clear hs hf h8
    go_enter Try.func5, Try.ntmps5
    go_wp2_with fail
    refine a1.mono ?_; rintro e w1 ⟨v1, rfl, s1, hb⟩
    obtain ⟨A1, c1, rfl⟩ := s1.form
    rw [show (bv []).length = 0 from rfl] at *
    go_wp2_with fail
    refine (wakes_any _).mono ?_; rintro e w2 ⟨rfl, hb2⟩
    go_wp2
    go_ret
    exact ⟨ret_b (Bool.not_eq_true' _ ▸ decide_eq_false (by omega)), hb.trans (hb2.mono hb.size)⟩
set_option maxRecDepth 100000 in
set_option maxHeartbeats 4000000 in
theorem only_zero (A : Option Addr) (c : Nat) (l : List UInt8) (i : Int) (W : World) (hs : Sl W (.slice A l.length c) (bv l)) (hf : isFr l) :
    Calls Try.prog 5 #[.slice A l.length c, .int .i64 i, .int .u8 0] W fun e w' => e = .returned (.bool true) ∧ Below W.heap.size W w' := by
  have a1 := Open_any _ l W hs
  have a2 := fun v w h => Close_any v (mid l) w h
  rw [openE_is hf, openP_is hf] at a1
  rw [(closeB_mid hf).1, (closeB_mid hf).2] at a2
  have hl := hf.1
  have hl2 := hf.2.1
  have HS := Lib.hid hs
  clear hs hf
  go_enter Try.func5, Try.ntmps5
  go_wp2_with fail
  refine a1.mono ?_; rintro e w1 ⟨v1, rfl, s1, hb⟩
  go_wp2_with fail
  refine (a2 _ _ s1).mono ?_; rintro e w2 ⟨v2, rfl, s2, hb2⟩
  have H := hb.trans (hb2.mono hb.size)
  clear hb hb2 s1
  go_wp2_with fail
  refine (same_eq _ _ _ _ s2 (HS.out.below H)).mono ?_; rintro e w' ⟨rfl, rfl⟩
  go_wp2_with fail
  refine (same_eq _ _ _ _ s2 (HS.out.below H)).mono ?_; rintro e w' ⟨rfl, rfl⟩
  go_wp2_with fail
  refine (wakes_any _).mono ?_; rintro e w3 ⟨rfl, hb3⟩
  go_wp2
  go_ret
  exact ⟨rfl, H.trans (hb3.mono H.size)⟩

set_option maxRecDepth 100000 in
set_option maxHeartbeats 4000000 in
theorem only_main (A : Option Addr) (c : Nat) (l : List UInt8) (i : Int) (hi : Num i) (y : UInt8) (hy : y ≠ 0) (W : World) (hs : Sl W (.slice A l.length c) (bv l)) (hf : isFr l) :
    Calls Try.prog 5 #[.slice A l.length c, .int .i64 i, .int .u8 (y.toNat : Int)] W fun e w' => e = .returned (.bool true) ∧ Below W.heap.size W w' := by
  have hy0 : ((y.toNat : Int) == 0) = false := by
    rw [beq_eq_false_iff_ne]
    intro h
    exact hy (UInt8.toNat_inj.1 (by simpa using h))
  have hyl := y.toNat_lt
  have a1 := Open_any _ l W hs
  have a2 := fun v w h => Close_any v (mid l) w h
  rw [openE_is hf, openP_is hf] at a1
  rw [(closeB_mid hf).1, (closeB_mid hf).2] at a2
  have hl := hf.1
  have hl2 := hf.2.1
  have hbd := tmod_bd i l.length (by omega)
  obtain ⟨k, hk⟩ : ∃ k : Nat, (i.tmod l.length + l.length) % l.length = (k : Int) := ⟨((i.tmod l.length + l.length) % l.length).toNat, by have := Int.emod_nonneg (i.tmod l.length + l.length) (b := l.length) (by omega); omega⟩
  have hkn : k < l.length := by have := Int.emod_lt_of_pos (i.tmod l.length + l.length) (b := l.length) (by omega); omega
  have hz : ((l.length : Int) == 0) = false := by rw [beq_eq_false_iff_ne]; omega
  have a3 := fun v w => Open_any v (l.set k (l[k] ^^^ y)) w
  rw [openE_not (by rw [List.length_set]; exact hl) (isFr_set hf k hkn y hy)] at a3
  obtain ⟨x, hx⟩ : ∃ x, l[k] = x := ⟨_, rfl⟩
  rw [hx] at a3
  have hxor := xor_nat x y
  generalize x ^^^ y = z at *
  have HX := Lib.hid hx
  rw [Int.add_emod_right] at hk
  have HL := Lib.hid (bv_length l)
  have HS := Lib.hid hs
  unfold Num at hi
  clear hs hf hx hy
  have H := Below.refl W.heap.size W
  go_enter Try.func5, Try.ntmps5
  go_wp2_with fail
  refine a1.mono ?_; rintro e w1 ⟨v1, rfl, s1, hb⟩
  replace H := H.trans (hb.mono H.size)
  clear hb
  go_wp2_with fail
  refine (a2 _ _ s1).mono ?_; rintro e w2 ⟨v2, rfl, s2, hb2⟩
  replace H := H.trans (hb2.mono H.size)
  clear hb2 s1
  go_wp2_with fail
  refine (same_eq _ _ _ _ s2 (HS.out.below H)).mono ?_; rintro e w' ⟨rfl, rfl⟩
  have HM := Lib.hid (Made.lit w2 5 [] 0 rfl (by decide))
  have HS2 := Lib.hid (HS.out.below H)
  have HH := Lib.hid H
  clear H s2
  go_wp2_with (at_builtin; refine wpList_more el23 rfl (.tmp 83) (.tmp 84) rfl rfl HM.out rfl (HS2.out.below HM.out.below) (bv_one _) (by have := HL.out; simp; omega) ?_; intro v3 w3 hm3; rw [List.nil_append] at hm3; obtain ⟨g, cap, rfl, hg, hcx, hfz, hset⟩ := hm3.byte_ k hkn; rw [HX.out] at hcx)
  have hm4 := hset z
  refine (a3 _ _ hm4.sl).mono ?_; rintro e w4 ⟨v4, rfl, _, hb4⟩
  have H := (HH.out.trans (hm4.below.mono HH.out.size))
  replace H := H.trans (hb4.mono H.size)
  clear hcx hfz hset hm4 hb4
  go_wp2_with fail
  refine (wakes_any _).mono ?_; rintro e w5 ⟨rfl, hb5⟩
  go_wp2
  go_ret
  exact ⟨rfl, H.trans (hb5.mono H.size)⟩

theorem only_walk (W : World) (v : Value) (l : List UInt8) (hs : Sl W v (bv l)) (i : Int) (w1 : (Lit.int .i64 i).wf = true) (b : Int) (w2 : (Lit.int .u8 b).wf = true) :
    Calls Try.prog 5 #[v, .int .i64 i, .int .u8 b] W fun e w' => e = .returned (.bool true) ∧ Below W.heap.size W w' := by
  obtain ⟨A, c, rfl⟩ := hs.form
  rw [bv_length] at *
  by_cases h : 300 < l.length
  · exact only_long A _ c i b W h
  · by_cases hf : isFr l
    · obtain ⟨y, rfl⟩ := byte_wf w2
      by_cases hy : y = 0
      · subst hy
        exact only_zero A c l i W hs hf
      · exact only_main A c l i (num_wf w1) y hy W hs hf
    · exact only_not A c l i b W hs (by omega) hf
end Go.Proofs.Ythjfjlkkbdjgfaa
