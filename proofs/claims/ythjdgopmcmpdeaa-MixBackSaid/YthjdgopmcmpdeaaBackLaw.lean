/- 'MixBack', 'MixBeside': the walks of the laws. -/
import Derived.Test.YthjdgopmcmpdeaaWakes
import Derived.OpenShut
set_option linter.unusedVariables false
set_option linter.unusedSimpArgs false
namespace Go.Proofs.Ythjdgopmcmpdeaa
open Go.RowKit Go.Shelf

theorem num_wf {n : Int} (h : (Lit.int .i64 n).wf = true) : Num n := bounds_i64 h
theorem byte_wf {n : Int} (h : (Lit.int .u8 n).wf = true) : ∃ b : UInt8, n = (b.toNat : Int) := by
  have := bounds_u8 h
  exact ⟨UInt8.ofNat n.toNat, by simp; omega⟩
theorem rest_pl (a : Int) : (a.tmod 65536 + 65536) % 65536 = pl a := rest_eq a 65536

set_option maxRecDepth 100000 in
set_option maxHeartbeats 4000000 in
theorem back_walk (W : World) (a : Int) (w0 : (Lit.int .i64 a).wf = true) (c : Int) (w1 : (Lit.int .u8 c).wf = true) :
    Calls Try.prog 4 #[.int .i64 a, .int .u8 c] W fun e w' => e = .returned (.bool true) ∧ Below W.heap.size W w' := by
  have ha := num_wf w0
  obtain ⟨b, rfl⟩ := byte_wf w1
  have hb := b.toNat_lt
  have n1 := fun w => next_any a b.toNat w ha (by omega)
  have m1 := fun w => before_any a b.toNat w ha (by omega)
  have n2 := fun w => before_any (nx a b.toNat) b.toNat w (num_pl (nx_bd _ _)) (by omega)
  have m2 := fun w => next_any (bf a b.toNat) b.toNat w (num_pl (bf_bd _ _)) (by omega)
  have n3 := fun w => next_any (pl a) b.toNat w (pl_num _) (by omega)
  rw [bf_nx] at n2
  rw [nx_bf] at m2
  rw [nx_pl] at n3
  obtain ⟨k1, k2⟩ := nx_bd a b.toNat
  obtain ⟨k3, k4⟩ := bf_bd a b.toNat
  have hP := rest_pl a
  have hpb := pl_bd a
  have hbd := tmod_bd a 65536 (by omega)
  unfold Num at ha
  generalize pl a = P at *
  generalize nx a b.toNat = n at *
  generalize bf a b.toNat = m at *
  generalize b.toNat = bn at *
  clear w0 w1
  have H := Below.refl W.heap.size W
  go_enter Try.func4, Try.ntmps4
  go_wp2_with fail
  refine (n1 _).mono ?_; rintro e w' ⟨rfl, rfl⟩
  go_wp2_with fail
  refine (m1 _).mono ?_; rintro e w' ⟨rfl, rfl⟩
  go_wp2_with fail
  refine (n2 _).mono ?_; rintro e w' ⟨rfl, rfl⟩
  go_wp2_with fail
  refine (m2 _).mono ?_; rintro e w' ⟨rfl, rfl⟩
  go_wp2_with fail
  refine (n3 _).mono ?_; rintro e w' ⟨rfl, rfl⟩
  go_wp2_with fail
  refine (wakes_any _).mono ?_; rintro e w5 ⟨rfl, hb⟩
  go_wp2
  go_ret
  exact ⟨rfl, hb⟩

theorem run_one (b : UInt8) (W : World) : (convert 35 9 (.slice (some ⟨W.heap.size, 0, none⟩) 1 1)).run Try.prog (W.alloc (.cells #[.int .u8 (b.toNat : Int)] 5)) = .ok (.string ⟨#[b]⟩) (W.alloc (.cells #[.int .u8 (b.toNat : Int)] 5)) :=
  run_str 35 9 5 Try.underlying35 Try.underlying5 Try.underlying9 _ [b] (Sl.one W (.int .u8 (b.toNat : Int)) 5)
theorem nx_more' (a : Int) (b : Nat) : (nx a b + 1) % 65536 = nx a (b + 1) := (nx_more a b).symm
set_option maxRecDepth 100000 in
set_option maxHeartbeats 4000000 in
theorem beside_walk (W : World) (a : Int) (w0 : (Lit.int .i64 a).wf = true) (b' : Int) (w1 : (Lit.int .u8 b').wf = true) (c' : Int) (w2 : (Lit.int .u8 c').wf = true) :
    Calls Try.prog 7 #[.int .i64 a, .int .u8 b', .int .u8 c'] W fun e w' => e = .returned (.bool true) ∧ Below W.heap.size W w' := by
  have ha := num_wf w0
  obtain ⟨b, rfl⟩ := byte_wf w1
  obtain ⟨c, rfl⟩ := byte_wf w2
  have hb := b.toNat_lt
  have hc := c.toNat_lt
  have n1 := fun w => next_any a b.toNat w ha (by omega)
  have n2 := fun w => next_any a c.toNat w ha (by omega)
  have n3 := fun h w => next_any a (b.toNat + 1) w ha h
  have hm := nx_more' a b.toNat
  have m1 := fun w => before_any a b.toNat w ha (by omega)
  have m2 := fun w => before_any a c.toNat w ha (by omega)
  have g1 := fun w => Go_any (bf a b.toNat) ⟨#[b]⟩ w (num_pl (bf_bd _ _)) (by simp [ByteArray.size])
  have g2 := fun w => Go_any (bf a c.toNat) ⟨#[c]⟩ w (num_pl (bf_bd _ _)) (by simp [ByteArray.size])
  have e1 : go (bf a b.toNat) [b] = pl a := by rw [← nx_bf a b.toNat, ← nx_pl]; rfl
  have e2 : go (bf a c.toNat) [c] = pl a := by rw [← nx_bf a c.toNat, ← nx_pl]; rfl
  rw [show (⟨#[b]⟩ : ByteArray).data.toList = [b] from rfl, e1] at g1
  rw [show (⟨#[c]⟩ : ByteArray).data.toList = [c] from rfl, e2] at g2
  have i1 : nx a b.toNat = nx a c.toNat ↔ b.toNat = c.toNat := nx_byte hb hc
  have i2 : bf a b.toNat = bf a c.toNat ↔ b.toNat = c.toNat := bf_byte hb hc
  have r1 := run_one b
  have r2 := run_one c
  obtain ⟨k1, k2⟩ := nx_bd a b.toNat
  have hP := rest_pl a
  have hpb := pl_bd a
  have hbd := tmod_bd a 65536 (by omega)
  unfold Num at ha
  clear e1 e2 w0 w1 w2
  generalize (⟨#[b]⟩ : ByteArray) = sb at *
  generalize (⟨#[c]⟩ : ByteArray) = sc at *
  generalize pl a = P at *
  generalize nx a (b.toNat + 1) = n' at *
  generalize nx a b.toNat = n at *
  generalize nx a c.toNat = m at *
  generalize bf a b.toNat = x at *
  generalize bf a c.toNat = y at *
  generalize b.toNat = bn at *
  generalize c.toNat = cn at *
  have f1 : ((n == m) : Bool) = ((bn : Int) == (cn : Int)) := by rw [Bool.eq_iff_iff, beq_iff_eq, beq_iff_eq, i1]; omega
  have f2 : ((x == y) : Bool) = ((bn : Int) == (cn : Int)) := by rw [Bool.eq_iff_iff, beq_iff_eq, beq_iff_eq, i2]; omega
  clear i1 i2
  have H := Below.refl W.heap.size W
  by_cases h255 : bn < 255
  · have h256 : (bn : Int) < 255 := by omega
    have n4 := n3 (by omega)
    clear n3
    have hd : (n' != (n + 1) % 65536) = false := by rw [hm]; simp
    clear hm
    cases hbo : ((bn : Int) == (cn : Int)) <;> rw [hbo] at f1 f2 <;>
    · go_enter Try.func7, Try.ntmps7
      go_wp2_with fail
      refine (n1 _).mono ?_; rintro e w' ⟨rfl, rfl⟩
      go_wp2_with fail
      refine (n2 _).mono ?_; rintro e w' ⟨rfl, rfl⟩
      go_wp2_with fail
      refine (n4 _).mono ?_; rintro e w' ⟨rfl, rfl⟩
      go_wp2_with fail
      refine (m1 _).mono ?_; rintro e w' ⟨rfl, rfl⟩
      go_wp2_with fail
      refine (m2 _).mono ?_; rintro e w' ⟨rfl, rfl⟩
      go_wp2_with fail
      refine (g1 _).mono ?_; rintro e w1 ⟨rfl, hb1⟩
      replace H := (H.alloc H.size (.cells #[.int .u8 (bn : Int)] 5)).trans (hb1.mono (Nat.le_trans H.size (by simp)))
      clear hb1
      go_wp2_with fail
      refine (g2 _).mono ?_; rintro e w2 ⟨rfl, hb1⟩
      replace H := (H.alloc H.size (.cells #[.int .u8 (cn : Int)] 5)).trans (hb1.mono (Nat.le_trans H.size (by simp)))
      clear hb1
      go_wp2_with fail
      refine (wakes_any _).mono ?_; rintro e w3 ⟨rfl, hb1⟩
      replace H := H.trans (hb1.mono H.size)
      clear hb1
      go_wp2
      go_ret
      exact ⟨rfl, H⟩
  · have h256 : ¬ (bn : Int) < 255 := by omega
    clear n3 hm
    cases hbo : ((bn : Int) == (cn : Int)) <;> rw [hbo] at f1 f2 <;>
    · go_enter Try.func7, Try.ntmps7
      go_wp2_with fail
      refine (n1 _).mono ?_; rintro e w' ⟨rfl, rfl⟩
      go_wp2_with fail
      refine (n2 _).mono ?_; rintro e w' ⟨rfl, rfl⟩
      go_wp2_with fail
      refine (m1 _).mono ?_; rintro e w' ⟨rfl, rfl⟩
      go_wp2_with fail
      refine (m2 _).mono ?_; rintro e w' ⟨rfl, rfl⟩
      go_wp2_with fail
      refine (g1 _).mono ?_; rintro e w1 ⟨rfl, hb1⟩
      replace H := (H.alloc H.size (.cells #[.int .u8 (bn : Int)] 5)).trans (hb1.mono (Nat.le_trans H.size (by simp)))
      clear hb1
      go_wp2_with fail
      refine (g2 _).mono ?_; rintro e w2 ⟨rfl, hb1⟩
      replace H := (H.alloc H.size (.cells #[.int .u8 (cn : Int)] 5)).trans (hb1.mono (Nat.le_trans H.size (by simp)))
      clear hb1
      go_wp2_with fail
      refine (wakes_any _).mono ?_; rintro e w3 ⟨rfl, hb1⟩
      replace H := H.trans (hb1.mono H.size)
      clear hb1
      go_wp2
      go_ret
      exact ⟨rfl, H⟩
end Go.Proofs.Ythjdgopmcmpdeaa
