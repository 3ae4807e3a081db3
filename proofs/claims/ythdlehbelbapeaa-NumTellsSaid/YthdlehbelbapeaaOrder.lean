/- 'NumOrder': of numbers that are put the one whose bytes are the first by order of bytes is the lesser one: for every two numbers. -/
import Derived.Test.YthdlehbelbapeaaWakes
import Derived.Test.YthdlehbelbapeaaRow
import Derived.Lib.MinMax
import Derived.Test.YthdlehbelbapeaaOrdMath
namespace Go.Proofs.Ythdlehbelbapeaa
open Go.RowKit Go.Shelf

set_option maxRecDepth 100000 in
set_option maxHeartbeats 1000000 in
theorem order_out (n m : Int) (w : World) (h : (n < 0 ∨ m < 0) ∨ (1099511627776 < n ∨ 1099511627776 < m)) (hn : -9223372036854775808 ≤ n ∧ n ≤ 9223372036854775807) (hm : -9223372036854775808 ≤ m ∧ m ≤ 9223372036854775807) :
    Calls Try.prog 7 #[.int .i64 n, .int .i64 m] w fun e w' => e = .returned (.bool true) ∧ Below w.heap.size w w' := by
  go_enter Try.func7, Try.ntmps7
  go_wp2_with (go_at_call 9; refine (wakes_any _).mono ?_; rintro e w' ⟨rfl, hb⟩)
  all_goals
    go_ret
    exact ⟨rfl, hb⟩

theorem put_ok (n : Int) (h0 : 0 ≤ n) (h1 : n ≤ 1099511627776) (w : World) : Calls Try.prog 10 #[.int .i64 n] w fun e w' => ∃ v, e = .returned (.tuple #[v, .int .i64 0]) ∧ Sl w' v (bv (num n.toNat)) ∧ Below w.heap.size w w' := by
  have h := Put_any n w
  rw [putE, putB, if_pos ⟨h0, h1⟩, if_pos ⟨h0, h1⟩] at h
  exact h

set_option maxRecDepth 100000 in
set_option maxHeartbeats 1000000 in
theorem order_in (n m : Int) (w : World) (h1 : 0 ≤ min n m) (h2 : max n m ≤ 1099511627776) :
    Calls Try.prog 7 #[.int .i64 n, .int .i64 m] w fun e w' => e = .returned (.bool true) ∧ Below w.heap.size w w' := by
  have hn0 : 0 ≤ n := by omega
  have hm0 : 0 ≤ m := by omega
  have hn1 : n ≤ 1099511627776 := by omega
  have hm1 : m ≤ 1099511627776 := by omega
  go_enter Try.func7, Try.ntmps7
  go_wp2_with fail
  refine (put_ok n hn0 hn1 _).mono ?_
  rintro e w1 ⟨v1, rfl, s1, hb1⟩
  go_wp2_with fail
  refine (put_ok m hm0 hm1 _).mono ?_
  rintro e w2 ⟨v2, rfl, s2, hb2⟩
  replace s1 := s1.below hb2
  have H := hb1.trans (hb2.mono hb1.size)
  clear hb1 hb2
  have r1 := run_str (P := Try.prog) 23 9 5 Try.underlying23 Try.underlying5 Try.underlying9 _ _ s1
  have r2 := run_str (P := Try.prog) 23 9 5 Try.underlying23 Try.underlying5 Try.underlying9 _ _ s2
  obtain ⟨A1, c1, rfl⟩ := s1.form
  have S1 := Lib.hid s1
  have S2 := Lib.hid s2
  clear s1 s2
  have hless : Op.bytesLess (num n.toNat) (num m.toNat) = decide (n < m) := by
    rw [less_num _ _ (by omega) (by omega), Bool.eq_iff_iff]; simp; omega
  have h6 := dig_len6 n.toNat (by omega)
  have hl1 : 1 ≤ (bv (num n.toNat)).length := by rw [bv_length, num_length]; omega
  have hl7 : (bv (num n.toNat)).length ≤ 7 := by rw [bv_length, num_length]; omega
  go_wp2_with fail
  refine (wakes_any _).mono ?_
  rintro e w3 ⟨rfl, hb3⟩
  go_wp2
  go_ret
  exact ⟨rfl, H.trans (hb3.mono H.size)⟩

end Go.Proofs.Ythdlehbelbapeaa
