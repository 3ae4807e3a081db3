/- 'NumTells': it answers as the document's own text does. -/
import Derived.Test.YthdlehbelbapeaaRefList
namespace Go.Proofs.Ythdlehbelbapeaa
open Go.RowKit Go.Shelf

theorem same_eq (va vb : Value) (l : List UInt8) (w : World) (h1 : Sl w va (bv l)) (h2 : Sl w vb (bv l)) : Calls Try.prog 14 #[va, vb] w fun e w' => e = .returned (.bool true) ∧ w = w' := by
  refine (same_any va vb l l w h1 h2).mono ?_
  rintro e w' ⟨rfl, rfl⟩
  exact ⟨by simp, rfl⟩
theorem Ints_eq (va vb : Value) (l : List Int) (w : World) (h1 : Sl w va (iv l)) (h2 : Sl w vb (iv l)) (hm : l.length ≤ 140737488355328) : Calls Try.prog 23 #[va, vb] w fun e w' => e = .returned (.bool true) ∧ Below w.heap.size w w' := by
  refine (Ints_any va vb l l w h1 h2 hm).mono ?_
  rintro e w' ⟨rfl, hb⟩
  exact ⟨by simp, hb⟩

set_option maxRecDepth 100000 in
set_option maxHeartbeats 1000000 in
theorem tells_long1 (i : Int) (S : ByteArray) (A : Option Addr) (n c : Nat) (B : Option Addr) (m d : Nat) (w : World) (h1 : 300 < S.size) :
    Calls Try.prog 3 #[.int .i64 i, .string S, .slice A n c, .slice B m d] w fun e w' => e = .returned (.bool true) ∧ Below w.heap.size w w' := by
  go_enter Try.func3, Try.ntmps3
  go_wp2_with (go_at_call 9; refine (wakes_any _).mono ?_; rintro e w' ⟨rfl, hb⟩)
  go_ret
  exact ⟨rfl, hb⟩

set_option maxRecDepth 100000 in
set_option maxHeartbeats 1000000 in
theorem tells_long2 (i : Int) (S : ByteArray) (A : Option Addr) (n c : Nat) (B : Option Addr) (m d : Nat) (w : World) (h1 : S.size ≤ 300) (h2 : 300 < n) :
    Calls Try.prog 3 #[.int .i64 i, .string S, .slice A n c, .slice B m d] w fun e w' => e = .returned (.bool true) ∧ Below w.heap.size w w' := by
  go_enter Try.func3, Try.ntmps3
  go_wp2_with (go_at_call 9; refine (wakes_any _).mono ?_; rintro e w' ⟨rfl, hb⟩)
  go_ret
  exact ⟨rfl, hb⟩

set_option maxRecDepth 100000 in
set_option maxHeartbeats 1000000 in
theorem tells_long3 (i : Int) (S : ByteArray) (A : Option Addr) (n c : Nat) (B : Option Addr) (m d : Nat) (w : World) (h1 : S.size ≤ 300) (h2 : n ≤ 300) (h3 : 600 < m) :
    Calls Try.prog 3 #[.int .i64 i, .string S, .slice A n c, .slice B m d] w fun e w' => e = .returned (.bool true) ∧ Below w.heap.size w w' := by
  go_enter Try.func3, Try.ntmps3
  go_wp2_with (go_at_call 9; refine (wakes_any _).mono ?_; rintro e w' ⟨rfl, hb⟩)
  go_ret
  exact ⟨rfl, hb⟩

set_option maxRecDepth 100000 in
set_option maxHeartbeats 4000000 in
theorem tells_main (i : Int) (S : ByteArray) (A : Option Addr) (n c : Nat) (B : Option Addr) (m d : Nat) (w : World) (l : List Int) (b : List UInt8) (hA : Sl w (.slice A n c) (iv l)) (hB : Sl w (.slice B m d) (bv b)) (hbm : b.length = m) (h1 : S.size ≤ 300) (h2 : n ≤ 300) (h3 : m ≤ 600) :
    Calls Try.prog 3 #[.int .i64 i, .string S, .slice A n c, .slice B m d] w fun e w' => e = .returned (.bool true) ∧ Below w.heap.size w w' := by
  have SA := Lib.hid hA
  have SB := Lib.hid hB
  have hbl : b.length ≤ 140737488355328 := by omega
  have k1 := fun w => Put_any i w
  have k2 := fun w => refPut_any i w
  generalize putE i = e1 at k1 k2
  generalize putB i = x1 at k1 k2
  have k3 := fun w => Text_any S w
  have k4 := fun w => refText_any S w
  generalize textE S.data.toList = e2 at k3 k4
  generalize textB S.data.toList = x2 at k3 k4
  have k5 := fun v w h => List_any v l w h
  have k6 := fun v w h => refList_any v l w h
  generalize listE l = e3 at k5 k6
  generalize listBy l = x3 at k5 k6
  have k7 := fun v w h => Take_any v b w h hbl
  have k8 := fun v w h => refTake_any v b w h hbl
  generalize restT b = x4 at k7 k8
  generalize (((takeE b).1 : Nat) : Int) = t4 at k7 k8
  generalize (((takeE b).2.2 : Nat) : Int) = e4 at k7 k8
  have k9 := fun v w h => TakeText_any v b w h hbl
  have k10 := fun v w h => refTakeText_any v b w h hbl
  generalize (⟨(takeT b).1.toArray⟩ : ByteArray) = t5 at k9 k10
  generalize (takeT b).2.1 = x5 at k9 k10
  generalize (((takeT b).2.2 : Nat) : Int) = e5 at k9 k10
  have k11 := fun v w h => TakeList_any v b w h hbl
  have k12 := fun v w h => refTakeList_any v b w h hbl
  have hll : ((takeL b).1.map Int.ofNat).length ≤ 140737488355328 := by
    rw [List.length_map]
    rcases takeL_err b with h | h | h
    · have := (takeL_zero b h).1; omega
    · rw [h]; decide
    · rw [h]; decide
  unfold ivn at k11 k12
  generalize (takeL b).1.map Int.ofNat = t6 at k11 k12 hll
  generalize (takeL b).2.1 = x6 at k11 k12
  generalize (((takeL b).2.2 : Nat) : Int) = e6 at k11 k12
  have K1 := Lib.hid k1
  have K2 := Lib.hid k2
  have K3 := Lib.hid k3
  have K4 := Lib.hid k4
  have K5 := Lib.hid k5
  have K6 := Lib.hid k6
  have K7 := Lib.hid k7
  have K8 := Lib.hid k8
  have K9 := Lib.hid k9
  have K10 := Lib.hid k10
  have K11 := Lib.hid k11
  have K12 := Lib.hid k12
  have HLL := Lib.hid hll
  clear k1 k2 k3 k4 k5 k6 k7 k8 k9 k10 k11 k12 hA hB hll hbm hbl
  go_enter Try.func3, Try.ntmps3
  have W0 := Lib.hid (Below.refl w.heap.size w)
  go_wp2_with fail
  refine (K1.out _).mono ?_
  rintro e w1 ⟨v1, rfl, s1, hb⟩
  have T1 := Lib.hid s1
  clear s1
  have B1 := Lib.hid hb
  clear hb
  have W1 := Lib.hid (W0.out.trans (B1.out.mono W0.out.size))
  replace SA := Lib.hid (SA.out.below B1.out)
  replace SB := Lib.hid (SB.out.below B1.out)
  go_wp2_with fail
  refine (K2.out _).mono ?_
  rintro e w2 ⟨v2, rfl, s2, hb⟩
  have T2 := Lib.hid s2
  clear s2
  have B2 := Lib.hid hb
  clear hb
  have W2 := Lib.hid (W1.out.trans (B2.out.mono W1.out.size))
  replace SA := Lib.hid (SA.out.below B2.out)
  replace SB := Lib.hid (SB.out.below B2.out)
  replace T1 := Lib.hid (T1.out.below B2.out)
  go_wp2_with fail
  refine (K3.out _).mono ?_
  rintro e w3 ⟨v3, rfl, s3, hb⟩
  have T3 := Lib.hid s3
  clear s3
  have B3 := Lib.hid hb
  clear hb
  have W3 := Lib.hid (W2.out.trans (B3.out.mono W2.out.size))
  replace SA := Lib.hid (SA.out.below B3.out)
  replace SB := Lib.hid (SB.out.below B3.out)
  replace T1 := Lib.hid (T1.out.below B3.out)
  replace T2 := Lib.hid (T2.out.below B3.out)
  go_wp2_with fail
  refine (K4.out _).mono ?_
  rintro e w4 ⟨v4, rfl, s4, hb⟩
  have T4 := Lib.hid s4
  clear s4
  have B4 := Lib.hid hb
  clear hb
  have W4 := Lib.hid (W3.out.trans (B4.out.mono W3.out.size))
  replace SA := Lib.hid (SA.out.below B4.out)
  replace SB := Lib.hid (SB.out.below B4.out)
  replace T1 := Lib.hid (T1.out.below B4.out)
  replace T2 := Lib.hid (T2.out.below B4.out)
  replace T3 := Lib.hid (T3.out.below B4.out)
  go_wp2_with fail
  refine (same_eq _ _ x1 _ T1.out T2.out).mono ?_
  rintro e w' ⟨rfl, rfl⟩
  go_wp2_with fail
  refine (same_eq _ _ x2 _ T3.out T4.out).mono ?_
  rintro e w' ⟨rfl, rfl⟩
  go_wp2_with fail
  refine (K5.out _ _ SA.out).mono ?_
  rintro e w5 ⟨v5, rfl, s5, hb⟩
  have T5 := Lib.hid s5
  clear s5
  have B5 := Lib.hid hb
  clear hb
  have W5 := Lib.hid (W4.out.trans (B5.out.mono W4.out.size))
  replace SA := Lib.hid (SA.out.below B5.out)
  replace SB := Lib.hid (SB.out.below B5.out)
  go_wp2_with fail
  refine (K6.out _ _ SA.out).mono ?_
  rintro e w6 ⟨v6, rfl, s6, hb⟩
  have T6 := Lib.hid s6
  clear s6
  have B6 := Lib.hid hb
  clear hb
  have W6 := Lib.hid (W5.out.trans (B6.out.mono W5.out.size))
  replace SA := Lib.hid (SA.out.below B6.out)
  replace SB := Lib.hid (SB.out.below B6.out)
  replace T5 := Lib.hid (T5.out.below B6.out)
  go_wp2_with fail
  refine (K7.out _ _ SB.out).mono ?_
  rintro e w7 ⟨v7, rfl, s7, hb⟩
  have T7 := Lib.hid s7
  clear s7
  have B7 := Lib.hid hb
  clear hb
  have W7 := Lib.hid (W6.out.trans (B7.out.mono W6.out.size))
  replace SA := Lib.hid (SA.out.below B7.out)
  replace SB := Lib.hid (SB.out.below B7.out)
  replace T5 := Lib.hid (T5.out.below B7.out)
  replace T6 := Lib.hid (T6.out.below B7.out)
  go_wp2_with fail
  refine (K8.out _ _ SB.out).mono ?_
  rintro e w8 ⟨v8, rfl, s8, hb⟩
  have T8 := Lib.hid s8
  clear s8
  have B8 := Lib.hid hb
  clear hb
  have W8 := Lib.hid (W7.out.trans (B8.out.mono W7.out.size))
  replace SA := Lib.hid (SA.out.below B8.out)
  replace SB := Lib.hid (SB.out.below B8.out)
  replace T5 := Lib.hid (T5.out.below B8.out)
  replace T6 := Lib.hid (T6.out.below B8.out)
  replace T7 := Lib.hid (T7.out.below B8.out)
  go_wp2_with fail
  refine (same_eq _ _ x3 _ T5.out T6.out).mono ?_
  rintro e w' ⟨rfl, rfl⟩
  go_wp2_with fail
  refine (same_eq _ _ x4 _ T7.out T8.out).mono ?_
  rintro e w' ⟨rfl, rfl⟩
  go_wp2_with fail
  refine (K9.out _ _ SB.out).mono ?_
  rintro e w9 ⟨v9, rfl, s9, hb⟩
  have T9 := Lib.hid s9
  clear s9
  have B9 := Lib.hid hb
  clear hb
  have W9 := Lib.hid (W8.out.trans (B9.out.mono W8.out.size))
  replace SB := Lib.hid (SB.out.below B9.out)
  go_wp2_with fail
  refine (K10.out _ _ SB.out).mono ?_
  rintro e w10 ⟨v10, rfl, s10, hb⟩
  have T10 := Lib.hid s10
  clear s10
  have B10 := Lib.hid hb
  clear hb
  have W10 := Lib.hid (W9.out.trans (B10.out.mono W9.out.size))
  replace SB := Lib.hid (SB.out.below B10.out)
  replace T9 := Lib.hid (T9.out.below B10.out)
  go_wp2_with fail
  refine (K11.out _ _ SB.out).mono ?_
  rintro e w11 ⟨v11, v12, rfl, s11, s12, hb⟩
  have T11 := Lib.hid s11
  clear s11
  have T12 := Lib.hid s12
  clear s12
  have B11 := Lib.hid hb
  clear hb
  have W11 := Lib.hid (W10.out.trans (B11.out.mono W10.out.size))
  replace SB := Lib.hid (SB.out.below B11.out)
  replace T9 := Lib.hid (T9.out.below B11.out)
  replace T10 := Lib.hid (T10.out.below B11.out)
  go_wp2_with fail
  refine (K12.out _ _ SB.out).mono ?_
  rintro e w12 ⟨v13, v14, rfl, s13, s14, hb⟩
  have T13 := Lib.hid s13
  clear s13
  have T14 := Lib.hid s14
  clear s14
  have B12 := Lib.hid hb
  clear hb
  have W12 := Lib.hid (W11.out.trans (B12.out.mono W11.out.size))
  replace SB := Lib.hid (SB.out.below B12.out)
  replace T9 := Lib.hid (T9.out.below B12.out)
  replace T10 := Lib.hid (T10.out.below B12.out)
  replace T11 := Lib.hid (T11.out.below B12.out)
  replace T12 := Lib.hid (T12.out.below B12.out)
  go_wp2_with fail
  refine (same_eq _ _ x5 _ T9.out T10.out).mono ?_
  rintro e w' ⟨rfl, rfl⟩
  go_wp2_with fail
  refine (Ints_eq _ _ t6 _ T11.out T13.out HLL.out).mono ?_
  rintro e w13 ⟨rfl, hb⟩
  have B13 := Lib.hid hb
  clear hb
  have W13 := Lib.hid (W12.out.trans (B13.out.mono W12.out.size))
  replace SB := Lib.hid (SB.out.below B13.out)
  replace T9 := Lib.hid (T9.out.below B13.out)
  replace T10 := Lib.hid (T10.out.below B13.out)
  replace T11 := Lib.hid (T11.out.below B13.out)
  replace T12 := Lib.hid (T12.out.below B13.out)
  replace T13 := Lib.hid (T13.out.below B13.out)
  replace T14 := Lib.hid (T14.out.below B13.out)
  go_wp2_with fail
  refine (same_eq _ _ x6 _ T12.out T14.out).mono ?_
  rintro e w' ⟨rfl, rfl⟩
  go_wp2_with fail
  refine (wakes_any _).mono ?_
  rintro e w14 ⟨rfl, hb⟩
  have B14 := Lib.hid hb
  clear hb
  have W14 := Lib.hid (W13.out.trans (B14.out.mono W13.out.size))
  replace SB := Lib.hid (SB.out.below B14.out)
  replace T9 := Lib.hid (T9.out.below B14.out)
  replace T10 := Lib.hid (T10.out.below B14.out)
  replace T11 := Lib.hid (T11.out.below B14.out)
  replace T12 := Lib.hid (T12.out.below B14.out)
  replace T13 := Lib.hid (T13.out.below B14.out)
  replace T14 := Lib.hid (T14.out.below B14.out)
  go_wp2
  go_ret
  exact ⟨rfl, W14.out⟩

theorem tells_walk (w : World) (i : Int) (_ : (Lit.int .i64 i).wf = true) (S : ByteArray) (_ : S.size ≤ maxLen) (v2 : Value) (l : List Int) (hs2 : Sl w v2 (iv l)) (_ : ∀ n ∈ l, (Lit.int .i64 n).wf = true) (v3 : Value) (b : List UInt8) (hs3 : Sl w v3 (bv b)) :
    Calls Try.prog 3 #[.int .i64 i, .string S, v2, v3] w fun e w' => e = .returned (.bool true) ∧ Below w.heap.size w w' := by
  obtain ⟨A, c, rfl⟩ := hs2.form
  obtain ⟨B, d, rfl⟩ := hs3.form
  rcases Nat.lt_or_ge 300 S.size with h1 | h1
  · exact tells_long1 i S A _ c B _ d w h1
  rcases Nat.lt_or_ge 300 (iv l).length with h2 | h2
  · exact tells_long2 i S A _ c B _ d w h1 h2
  rcases Nat.lt_or_ge 600 (bv b).length with h3 | h3
  · exact tells_long3 i S A _ c B _ d w h1 h2 h3
  exact tells_main i S A _ c B _ d w l b hs2 hs3 (bv_length b).symm h1 h2 h3
end Go.Proofs.Ythdlehbelbapeaa
