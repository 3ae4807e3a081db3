/- 'NumBack': a number that is put is taken, whatever stands behind; for every two numbers, and whatever bytes. -/
import Derived.Test.YthdlehbelbapeaaOrder
namespace Go.Proofs.Ythdlehbelbapeaa
open Go.RowKit Go.Shelf

theorem gr_new {W W' : World} {row : Option Nat} (h : W.grownBy W' row) (hr : ∀ g, row = some g → W.heap.size ≤ g) : Below W.heap.size W W' :=
  ⟨h.os, h.tape, h.output, h.size, fun k hk => h.block k hk (fun e => by have := hr k e.symm; omega)⟩
theorem gr_of_below {W W' : World} (h : Below W.heap.size W W') (row : Option Nat) : W.grownBy W' row := ⟨h.os, h.tape, h.output, h.size, fun k hk _ => h.block k hk⟩
theorem num_short (n : Nat) (h : n ≤ 1099511627776) : takeE ((num n).take ((num n).length - 1)) = (0, 0, 11) := by
  have h6 := dig_len6 n h
  have e : (UInt8.ofNat (dig n).length).toNat = (dig n).length := by simp; omega
  rw [num_length, num]
  by_cases h0 : (dig n).length = 0
  · rw [h0]; rfl
  · obtain ⟨k, hk⟩ : ∃ k, (dig n).length = k + 1 := ⟨(dig n).length - 1, by omega⟩
    rw [show 1 + (dig n).length - 1 = k + 1 by omega, List.take_succ_cons]
    simp only [takeE, e]
    rw [if_neg (by omega), if_pos (by rw [List.length_take]; omega)]
theorem ownsRow_empty (w : World) (base : Nat) (hb : base ≤ w.heap.size) (e : TypeId) : (w.alloc (.cells #[] e)).ownsRow base e 1 (.slice (some ⟨w.heap.size, 0, none⟩) 0 0) 0 [] :=
  World.ownsRow_made w #[] 0 hb (Nat.zero_le _) rfl

theorem take_num (n : Int) (h0 : 0 ≤ n) (h1 : n ≤ 1099511627776) (l : List UInt8) (v : Value) (w : World) (h : Sl w v (bv (num n.toNat ++ l))) (hl : l.length ≤ 1099511627776) :
    Calls Try.prog 17 #[v] w fun e w' => ∃ v', e = .returned (.tuple #[.int .i64 n, v', .int .i64 0]) ∧ Sl w' v' (bv l) ∧ Below w.heap.size w w' := by
  have h6 := dig_len6 n.toNat (by omega)
  have ht := takeE_num n.toNat (by omega) l
  refine (Take_any v _ w h (by rw [List.length_append, num_length]; omega)).mono ?_
  rintro e w' ⟨v', rfl, hs, hb⟩
  rw [restT, ht, if_pos rfl, List.drop_left] at hs
  rw [ht]
  refine ⟨v', ?_, hs, hb⟩
  rw [show ((n.toNat : Nat) : Int) = n by omega]; rfl
theorem take_short (n : Int) (h0 : 0 ≤ n) (h1 : n ≤ 1099511627776) (q : Nat) (hq : q = (num n.toNat).length - 1) (v : Value) (w : World) (h : Sl w v (bv ((num n.toNat).take q))) :
    Calls Try.prog 17 #[v] w fun e w' => ∃ v', e = .returned (.tuple #[.int .i64 0, v', .int .i64 11]) ∧ Below w.heap.size w w' := by
  have h6 := dig_len6 n.toNat (by omega)
  have ht := num_short n.toNat (by omega)
  rw [← hq] at ht
  refine (Take_any v _ w h (by rw [List.length_take, num_length]; omega)).mono ?_
  rintro e w' ⟨v', rfl, hs, hb⟩
  rw [ht]
  exact ⟨v', rfl, hb⟩

set_option maxRecDepth 100000 in
set_option maxHeartbeats 1000000 in
theorem back_long (n m : Int) (A : Option Addr) (k c : Nat) (w : World) (h : 60 < k) :
    Calls Try.prog 4 #[.int .i64 n, .int .i64 m, .slice A k c] w fun e w' => e = .returned (.bool true) ∧ Below w.heap.size w w' := by
  go_enter Try.func4, Try.ntmps4
  go_wp2_with (go_at_call 9; refine (wakes_any _).mono ?_; rintro e w' ⟨rfl, hb⟩)
  go_ret
  exact ⟨rfl, hb⟩

theorem put_not (n : Int) (h : ¬ (0 ≤ n ∧ n ≤ 1099511627776)) (w : World) : Calls Try.prog 10 #[.int .i64 n] w fun e w' => ∃ v, e = .returned (.tuple #[v, .int .i64 2]) ∧ Sl w' v (bv []) ∧ Below w.heap.size w w' := by
  have h' := Put_any n w
  rw [putE, putB, if_neg h, if_neg h] at h'
  exact h'

set_option maxRecDepth 100000 in
set_option maxHeartbeats 2000000 in
theorem back_not (n m : Int) (A : Option Addr) (k c : Nat) (w : World) (h : k ≤ 60) (hn : n < 0 ∨ 1099511627776 < n) :
    Calls Try.prog 4 #[.int .i64 n, .int .i64 m, .slice A k c] w fun e w' => e = .returned (.bool true) ∧ Below w.heap.size w w' := by
  go_enter Try.func4, Try.ntmps4
  go_wp2_with fail
  refine (put_not n (by omega) _).mono ?_
  rintro e w1 ⟨v1, rfl, s1, hb1⟩
  obtain ⟨A1, c1, rfl⟩ := s1.form
  clear s1
  have H := hb1
  clear hb1
  go_wp2_with fail
  refine (Put_any m _).mono ?_
  rintro e w2 ⟨v2, rfl, s2, hb2⟩
  replace H := H.trans (hb2.mono H.size)
  clear hb2 s2
  go_wp2_with (go_at_call 9; refine (wakes_any _).mono ?_; rintro e w' ⟨rfl, hb⟩)
  all_goals
    go_ret
    exact ⟨rfl, H.trans (hb.mono H.size)⟩

set_option maxRecDepth 100000 in
set_option maxHeartbeats 2000000 in
theorem back_in (n m : Int) (A : Option Addr) (k c : Nat) (l : List UInt8) (w : World) (hS : Sl w (.slice A k c) (bv l)) (hkl : l.length = k) (h : k ≤ 60) (hn0 : 0 ≤ n) (hn1 : n ≤ 1099511627776) (hm : 0 ≤ m ∧ m ≤ 1099511627776) :
    Calls Try.prog 4 #[.int .i64 n, .int .i64 m, .slice A k c] w fun e w' => e = .returned (.bool true) ∧ Below w.heap.size w w' := by
  have h6 := dig_len6 n.toNat (by omega)
  have hnl : (num n.toNat).length = 1 + (dig n.toNat).length := num_length _
  have hbl : (bv (num n.toNat)).length = (num n.toNat).length := bv_length _
  have hl1 : 1 ≤ (bv (num n.toNat)).length := by omega
  have hl7 : (bv (num n.toNat)).length ≤ 7 := by omega
  have ht1 := takeE_num n.toNat (by omega) l
  have ht2 := num_short n.toNat (by omega)
  have HNL := Lib.hid hnl
  have HBL := Lib.hid hbl
  have HKL := Lib.hid hkl
  have HT1 := Lib.hid ht1
  have HT2 := Lib.hid ht2
  have s0 := Lib.hid hS
  have hre : restT (num n.toNat ++ l) = l := by rw [restT, ht1]; simp
  have HRE := Lib.hid hre
  have hnn : ((n.toNat : Nat) : Int) = n := by omega
  have HNN := Lib.hid hnn
  have hneq : ((n == m) = true ↔ num n.toNat = num m.toNat) ∨ True := .inr trivial
  clear hneq hnl hbl hkl ht1 ht2 hS hre hnn
  go_enter Try.func4, Try.ntmps4
  go_wp2_with fail
  refine (put_ok n hn0 hn1 _).mono ?_
  rintro e w1 ⟨v1, rfl, s1, hb1⟩
  obtain ⟨A1, c1, rfl⟩ := s1.form
  have S0 := s0.out.below hb1
  have H := hb1
  clear hb1
  go_wp2_with fail
  refine (put_ok m hm.1 hm.2 _).mono ?_
  rintro e w2 ⟨v2, rfl, s2, hb2⟩
  replace S0 := S0.below hb2
  replace s1 := s1.below hb2
  replace H := H.trans (hb2.mono H.size)
  clear hb2
  have HS0 := Lib.hid S0
  have HS1 := Lib.hid s1
  have HS2 := Lib.hid s2
  clear S0 s1 s2
  go_wp2_with (at_builtin; first
    | (refine wpList_app el23 rfl (.tmp 48) (.tmp 49) rfl w2.heap.size (.slice (some ⟨w2.heap.size, 0, none⟩) 0 0) 0 [] rfl (ownsRow_empty w2 w2.heap.size (Nat.le_refl _) 5) _ _ rfl (HS1.out.alloc _) (bv_one _) (by omega) (by simp) ?_
       intro v3 w3 hown3 hg3 hat3
       have hB3 : Below w2.heap.size w2 w3 := gr_new (gr_then (gr_alloc (gr_refl w2 (some w2.heap.size)) _) hg3 (.inl rfl)) (by intro g e; injection e with e; omega)
       have HAT3 := Lib.hid (show v3.ownBlock = some w2.heap.size ∨ v3.ownBlock = some (w2.heap.size + 1) by simpa [Value.ownBlock] using hat3)
       clear hg3 hat3)
    | (refine wpList_app el23 rfl (.tmp 50) (.tmp 51) rfl w2.heap.size v3 _ _ rfl hown3 _ _ rfl (HS0.out.below hB3) (bv_one _) (by have e1 := HKL.out; have e2 := bv_length l; omega) hB3.size ?_
       intro v4 w4 hown4 hg4 hat4
       have hB4 : Below w2.heap.size w2 w4 := gr_new (gr_then (row := some w2.heap.size) (gr_of_below hB3 _) hg4 (.inr (by rintro g e; rcases HAT3.out with h | h <;> (rw [h] at e; injection e with e; omega)))) (by intro g e; injection e with e; omega)
       have s4 := Sl.of_own hown4
       rw [List.nil_append, ← bv_append] at s4
       clear hown4 hg4 hat4))
  refine (take_num n hn0 hn1 l v4 w4 s4 (by have e1 := HKL.out; omega)).mono ?_
  rintro e w5 ⟨v5, rfl, s5, hb5⟩
  have H5 := hB4.trans (hb5.mono hB4.size)
  clear hB3 hB4 s4 hown3 hb5
  go_wp2_with fail
  refine (same_below _ _ l l _ s5 (HS0.out.below H5)).mono ?_
  rintro e w6 ⟨rfl, hb6⟩
  simp only [decide_true]
  replace H5 := H5.trans (hb6.mono H5.size)
  clear hb6 s5
  have hq : decide (num n.toNat = num m.toNat) = (n == m) := by
    rw [Bool.eq_iff_iff]
    simp only [decide_eq_true_eq, beq_iff_eq]
    constructor
    · intro h; have := num_inj _ _ h; omega
    · rintro rfl; rfl
  go_wp2_with fail
  refine (same_below _ _ (num n.toNat) (num m.toNat) _ (HS1.out.below H5) (HS2.out.below H5)).mono ?_
  rintro e w7 ⟨rfl, hb7⟩
  rw [hq]
  clear hq
  replace H5 := H5.trans (hb7.mono H5.size)
  clear hb7
  obtain ⟨q, hq1⟩ : ∃ q : Nat, (bv (num n.toNat)).length = q + 1 := ⟨(bv (num n.toNat)).length - 1, by omega⟩
  have hq2 : ((bv (num n.toNat)).length : Int) - 1 = (q : Int) := by omega
  have hq3 : q = (num n.toNat).length - 1 := by have := HBL.out; omega
  have HQ1 := Lib.hid hq1
  have HQ3 := Lib.hid hq3
  clear hq1 hq3
  go_wp2_with (first
    | (with_reducible show wpList _ _ _ (Oper.mk _ (Op.slice _ _ _ _ _) _ _ _ _ :: _) _ _
       refine wpList_cut el23 rfl (.tmp 93) none (some (.tmp 96)) rfl _ _ rfl (HS1.out.below H5) 0 q (Nat.zero_le _) (by have := HQ1.out; omega) (.inr ⟨rfl, rfl⟩) (.inl rfl) ?_
       intro A6 c6 s6
       rw [List.drop_zero, bv_take] at s6)
    | (go_at_call 17; refine (take_short n hn0 hn1 q HQ3.out _ _ s6).mono ?_; rintro e w8 ⟨v8, rfl, hb8⟩))
  refine (wakes_any _).mono ?_
  rintro e w9 ⟨rfl, hb9⟩
  go_wp2
  go_ret
  have HF := H.trans (H5.mono H.size)
  have HF2 := HF.trans (hb8.mono HF.size)
  exact ⟨rfl, HF2.trans (hb9.mono HF2.size)⟩

set_option maxRecDepth 100000 in
set_option maxHeartbeats 2000000 in
theorem back_in2 (n m : Int) (A : Option Addr) (k c : Nat) (l : List UInt8) (w : World) (hS : Sl w (.slice A k c) (bv l)) (hkl : l.length = k) (h : k ≤ 60) (hn0 : 0 ≤ n) (hn1 : n ≤ 1099511627776) (hm : ¬ (0 ≤ m ∧ m ≤ 1099511627776)) :
    Calls Try.prog 4 #[.int .i64 n, .int .i64 m, .slice A k c] w fun e w' => e = .returned (.bool true) ∧ Below w.heap.size w w' := by
  have h6 := dig_len6 n.toNat (by omega)
  have hnl : (num n.toNat).length = 1 + (dig n.toNat).length := num_length _
  have hbl : (bv (num n.toNat)).length = (num n.toNat).length := bv_length _
  have hl1 : 1 ≤ (bv (num n.toNat)).length := by omega
  have hl7 : (bv (num n.toNat)).length ≤ 7 := by omega
  have ht1 := takeE_num n.toNat (by omega) l
  have ht2 := num_short n.toNat (by omega)
  have HNL := Lib.hid hnl
  have HBL := Lib.hid hbl
  have HKL := Lib.hid hkl
  have HT1 := Lib.hid ht1
  have HT2 := Lib.hid ht2
  have s0 := Lib.hid hS
  have hre : restT (num n.toNat ++ l) = l := by rw [restT, ht1]; simp
  have HRE := Lib.hid hre
  have hnn : ((n.toNat : Nat) : Int) = n := by omega
  have HNN := Lib.hid hnn
  have hneq : ((n == m) = true ↔ num n.toNat = num m.toNat) ∨ True := .inr trivial
  clear hneq hnl hbl hkl ht1 ht2 hS hre hnn
  go_enter Try.func4, Try.ntmps4
  go_wp2_with fail
  refine (put_ok n hn0 hn1 _).mono ?_
  rintro e w1 ⟨v1, rfl, s1, hb1⟩
  obtain ⟨A1, c1, rfl⟩ := s1.form
  have S0 := s0.out.below hb1
  have H := hb1
  clear hb1
  go_wp2_with fail
  refine (put_not m hm _).mono ?_
  rintro e w2 ⟨v2, rfl, s2, hb2⟩
  replace S0 := S0.below hb2
  replace s1 := s1.below hb2
  replace H := H.trans (hb2.mono H.size)
  clear hb2
  have HS0 := Lib.hid S0
  have HS1 := Lib.hid s1
  have HS2 := Lib.hid s2
  clear S0 s1 s2
  go_wp2_with (at_builtin; first
    | (refine wpList_app el23 rfl (.tmp 48) (.tmp 49) rfl w2.heap.size (.slice (some ⟨w2.heap.size, 0, none⟩) 0 0) 0 [] rfl (ownsRow_empty w2 w2.heap.size (Nat.le_refl _) 5) _ _ rfl (HS1.out.alloc _) (bv_one _) (by omega) (by simp) ?_
       intro v3 w3 hown3 hg3 hat3
       have hB3 : Below w2.heap.size w2 w3 := gr_new (gr_then (gr_alloc (gr_refl w2 (some w2.heap.size)) _) hg3 (.inl rfl)) (by intro g e; injection e with e; omega)
       have HAT3 := Lib.hid (show v3.ownBlock = some w2.heap.size ∨ v3.ownBlock = some (w2.heap.size + 1) by simpa [Value.ownBlock] using hat3)
       clear hg3 hat3)
    | (refine wpList_app el23 rfl (.tmp 50) (.tmp 51) rfl w2.heap.size v3 _ _ rfl hown3 _ _ rfl (HS0.out.below hB3) (bv_one _) (by have e1 := HKL.out; have e2 := bv_length l; omega) hB3.size ?_
       intro v4 w4 hown4 hg4 hat4
       have hB4 : Below w2.heap.size w2 w4 := gr_new (gr_then (row := some w2.heap.size) (gr_of_below hB3 _) hg4 (.inr (by rintro g e; rcases HAT3.out with h | h <;> (rw [h] at e; injection e with e; omega)))) (by intro g e; injection e with e; omega)
       have s4 := Sl.of_own hown4
       rw [List.nil_append, ← bv_append] at s4
       clear hown4 hg4 hat4))
  refine (take_num n hn0 hn1 l v4 w4 s4 (by have e1 := HKL.out; omega)).mono ?_
  rintro e w5 ⟨v5, rfl, s5, hb5⟩
  have H5 := hB4.trans (hb5.mono hB4.size)
  clear hB3 hB4 s4 hown3 hb5
  go_wp2_with fail
  refine (same_below _ _ l l _ s5 (HS0.out.below H5)).mono ?_
  rintro e w6 ⟨rfl, hb6⟩
  simp only [decide_true]
  replace H5 := H5.trans (hb6.mono H5.size)
  clear hb6 s5
  obtain ⟨q, hq1⟩ : ∃ q : Nat, (bv (num n.toNat)).length = q + 1 := ⟨(bv (num n.toNat)).length - 1, by omega⟩
  have hq2 : ((bv (num n.toNat)).length : Int) - 1 = (q : Int) := by omega
  have hq3 : q = (num n.toNat).length - 1 := by have := HBL.out; omega
  have HQ1 := Lib.hid hq1
  have HQ3 := Lib.hid hq3
  clear hq1 hq3
  go_wp2_with (first
    | (with_reducible show wpList _ _ _ (Oper.mk _ (Op.slice _ _ _ _ _) _ _ _ _ :: _) _ _
       refine wpList_cut el23 rfl (.tmp 93) none (some (.tmp 96)) rfl _ _ rfl (HS1.out.below H5) 0 q (Nat.zero_le _) (by have := HQ1.out; omega) (.inr ⟨rfl, rfl⟩) (.inl rfl) ?_
       intro A6 c6 s6
       rw [List.drop_zero, bv_take] at s6)
    | (go_at_call 17; refine (take_short n hn0 hn1 q HQ3.out _ _ s6).mono ?_; rintro e w8 ⟨v8, rfl, hb8⟩))
  refine (wakes_any _).mono ?_
  rintro e w9 ⟨rfl, hb9⟩
  go_wp2
  go_ret
  have HF := H.trans (H5.mono H.size)
  have HF2 := HF.trans (hb8.mono HF.size)
  exact ⟨rfl, HF2.trans (hb9.mono HF2.size)⟩
end Go.Proofs.Ythdlehbelbapeaa
