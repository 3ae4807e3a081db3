/- 'CompassBeside': side by side two points are 1 apart in each part; rests; quarters by signs: for every place, any number. -/
import Derived.Test.YtjljojnedaclgaaTurnsLaw
set_option linter.unusedVariables false
set_option linter.unusedSimpArgs false
namespace Go.Proofs.Ytjljojnedaclgaa
open Go.RowKit Go.Shelf
open Ieee (double)
attribute [local go_sem] unary_neg_float unary_neg_complex

theorem read_number_neg {x : Nat} {s : Bool} {m : Nat} {e : Int} (h : double.read x = .number s m e) : (FloatKind.f64.decode x).neg = s := by
  show (double.read x).neg = s
  rw [h]; rfl
/-- 'max(x, -x)' of a number is its size. -/
theorem max_abs {x : Nat} {v : Int} (h : Val x v) : ∃ M, (∀ (ts : Array TypeId) (t : TypeId) (w : World), (Builtin.max_ ts t #[.float .f64 x, .float .f64 (Op.negFloat .f64 x)]).run Try.prog w = .ok (.float .f64 M) w) ∧ Val M (v.natAbs : Int) := by
  have hn := val_neg h
  have ho := order_val h hn
  rw [cmp_def] at ho
  by_cases h1 : v < -v
  · rw [if_pos h1] at ho
    refine ⟨Op.negFloat .f64 x, fun ts t w => ?_, by rwa [show (v.natAbs : Int) = -v by omega]⟩
    have : FloatKind.f64.format.order x (Op.negFloat .f64 x) = some .lt := ho
    simp [Builtin.max_, Builtin.max2, this]
  · rw [if_neg h1] at ho
    by_cases h2 : v = -v
    · rw [if_pos h2] at ho
      have hv0 : v = 0 := by omega
      have hd : FloatKind.f64.format.order x (Op.negFloat .f64 x) = some .eq := ho
      refine ⟨if (FloatKind.f64.decode x).neg then Op.negFloat .f64 x else x, fun ts t w => ?_, ?_⟩
      · simp [Builtin.max_, Builtin.max2, hd]
      · subst hv0
        split
        · exact hn
        · exact h
    · rw [if_neg h2] at ho
      refine ⟨x, fun ts t w => ?_, by rwa [show (v.natAbs : Int) = v by omega]⟩
      have : FloatKind.f64.format.order x (Op.negFloat .f64 x) = some .gt := ho
      simp [Builtin.max_, Builtin.max2, this]
theorem max_wh {x : Nat} {n : Int} (h : Wh x n) : ∃ M, (∀ (ts : Array TypeId) (t : TypeId) (w : World), (Builtin.max_ ts t #[.float .f64 x, .float .f64 (Op.negFloat .f64 x)]).run Try.prog w = .ok (.float .f64 M) w) ∧ Wh M (n.natAbs : Int) := by
  obtain ⟨M, h1, h2⟩ := max_abs h
  refine ⟨M, h1, ?_⟩
  rw [Int.natAbs_mul, Int.natAbs_natCast, Int.natCast_mul] at h2
  exact h2
theorem sub_wh {a b c d : Nat} {n m p q : Int} (ha : Wh a n) (hb : Wh b m) (hc : Wh c p) (hd : Wh d q) (h1 : (n - p).natAbs ≤ 100000) (h2 : (m - q).natAbs ≤ 100000) :
    ∃ r s, (∀ w : World, (binOp .sub 23 (.complex .f64 a b) (.complex .f64 c d)).run Try.prog w = .ok (.complex .f64 r s) w) ∧ Wh r (n - p) ∧ Wh s (m - q) := by
  obtain ⟨r, e1, k1⟩ := wh_sub ha hc (by omega)
  obtain ⟨s, e2, k2⟩ := wh_sub hb hd (by omega)
  refine ⟨r, s, fun w => run_complex_sum w .sub (.inr rfl) 23 .f64 a b c d r s ?_, k1, k2⟩
  unfold cSumBits floatBits
  show ((double.sub a c).bind fun re => (double.sub b d).bind fun im => some (re, im)) = _
  rw [e1, e2]; rfl

/-- How a whole word stands to nought. -/
def Sgn (x : Nat) (g e l : Bool) : Prop := (FloatKind.f64.format.order x 0 == some Ordering.gt) = g ∧ (FloatKind.f64.format.order x 0 == some Ordering.eq) = e ∧ (FloatKind.f64.format.order x 0 == some Ordering.lt) = l
theorem sgn_pos {x : Nat} {n : Int} (h : Wh x n) (hn : 0 < n) : Sgn x true false false := ⟨by rw [gt_int h wh_0]; simp; omega, by rw [eq_int h wh_0]; simp; omega, by rw [lt_int h wh_0]; simp; omega⟩
theorem sgn_zero {x : Nat} {n : Int} (h : Wh x n) (hn : n = 0) : Sgn x false true false := ⟨by rw [gt_int h wh_0]; simp; omega, by rw [eq_int h wh_0]; simp; omega, by rw [lt_int h wh_0]; simp; omega⟩
theorem sgn_neg {x : Nat} {n : Int} (h : Wh x n) (hn : n < 0) : Sgn x false false true := ⟨by rw [gt_int h wh_0]; simp; omega, by rw [eq_int h wh_0]; simp; omega, by rw [lt_int h wh_0]; simp; omega⟩

/-- The signs of a point tell its quarter. -/
inductive Quad (x y : Nat) (q : Int) : Prop
  | a (h : q = 0) (hx : Sgn x true false false) (hy : Sgn y true false false)
  | a0 (h : q = 0) (hx : Sgn x true false false) (hy : Sgn y false true false)
  | b (h : q = 1) (hx : Sgn x false false true) (hy : Sgn y true false false)
  | b0 (h : q = 1) (hx : Sgn x false true false) (hy : Sgn y true false false)
  | c (h : q = 2) (hx : Sgn x false false true) (hy : Sgn y false false true)
  | c0 (h : q = 2) (hx : Sgn x false false true) (hy : Sgn y false true false)
  | d (h : q = 3) (hx : Sgn x true false false) (hy : Sgn y false false true)
  | d0 (h : q = 3) (hx : Sgn x false true false) (hy : Sgn y false false true)
theorem quad_of {x y : Nat} {p : Int} (h : Pt x y p) : Quad x y (p / 16384) := by
  obtain ⟨⟨h0, h1⟩, hx, hy⟩ := h
  by_cases c1 : p < 16384
  · have e1 : px p = 16384 - p := by unfold px; rw [if_pos (by omega)]
    have e2 : py p = p := by unfold py; rw [if_pos (by omega)]
    rw [e1] at hx; rw [e2] at hy
    by_cases z : p = 0
    · exact .a0 (by omega) (sgn_pos hx (by omega)) (sgn_zero hy (by omega))
    · exact .a (by omega) (sgn_pos hx (by omega)) (sgn_pos hy (by omega))
  · by_cases c2 : p < 32768
    · have e1 : px p = 16384 - p := by unfold px; rw [if_pos (by omega)]
      have e2 : py p = 32768 - p := by unfold py; rw [if_neg (by omega), if_pos (by omega)]
      rw [e1] at hx; rw [e2] at hy
      by_cases z : p = 16384
      · exact .b0 (by omega) (sgn_zero hx (by omega)) (sgn_pos hy (by omega))
      · exact .b (by omega) (sgn_neg hx (by omega)) (sgn_pos hy (by omega))
    · have e1 : px p = p - 49152 := by unfold px; rw [if_neg (by omega)]
      rw [e1] at hx
      by_cases c3 : p < 49152
      · have e2 : py p = 32768 - p := by unfold py; rw [if_neg (by omega), if_pos (by omega)]
        rw [e2] at hy
        by_cases z : p = 32768
        · exact .c0 (by omega) (sgn_neg hx (by omega)) (sgn_zero hy (by omega))
        · exact .c (by omega) (sgn_neg hx (by omega)) (sgn_neg hy (by omega))
      · have e2 : py p = p - 65536 := by unfold py; rw [if_neg (by omega), if_neg (by omega)]
        rw [e2] at hy
        by_cases z : p = 49152
        · exact .d0 (by omega) (sgn_zero hx (by omega)) (sgn_neg hy (by omega))
        · exact .d (by omega) (sgn_pos hx (by omega)) (sgn_neg hy (by omega))
theorem next_apart (p : Int) (h : Place p) : (px ((p + 1) % 65536) - px p).natAbs = 1 ∧ (py ((p + 1) % 65536) - py p).natAbs = 1 := by
  obtain ⟨h0, h1⟩ := h
  unfold px py
  refine ⟨?_, ?_⟩
  · split <;> split <;> omega
  · split <;> (try split) <;> (try split) <;> (try split) <;> omega

set_option maxRecDepth 100000 in
set_option maxHeartbeats 4000000 in
theorem beside_walk (W : World) (p : Int) (w0 : (Lit.int .i64 p).wf = true) (n : Int) (w1 : (Lit.int .i64 n).wf = true) :
    Calls Try.prog 6 #[.int .i64 p, .int .i64 n] W fun e w' => e = .returned (.bool true) ∧ Below W.heap.size W w' := by
  have hp := bounds_i64 w0
  have hn := bounds_i64 w1
  have hb1 := tmod_bd p 65536 (by omega)
  clear w0 w1
  obtain ⟨P, hP⟩ : ∃ P, (p.tmod 65536 + 65536) % 65536 = P := ⟨_, rfl⟩
  have hP0 : 0 ≤ P := by omega
  have hP1 : P < 65536 := by omega
  have a1 := fun w => At_yes P ⟨hP0, hP1⟩ w
  have a2 := fun w => place_any (P + 1) w ⟨by omega, by omega⟩
  have a3 := fun w => At_yes ((P + 1) % 65536) ⟨by omega, by omega⟩ w
  have a4 := fun w => place_any P w ⟨by omega, by omega⟩
  rw [show P % 65536 = P by omega] at a4
  have a5 := fun w => place_any (P - 65536) w ⟨by omega, by omega⟩
  rw [show (P - 65536) % 65536 = P by omega] at a5
  have a6 := fun w => place_any n w hn
  have a7 := fun w => quarter_any P w ⟨by omega, by omega⟩
  rw [quB_in hP0 hP1] at a7
  obtain ⟨R, hR⟩ : ∃ R, n % 65536 = R := ⟨_, rfl⟩
  have hR0 : 0 ≤ R := by omega
  have hR1 : R < 65536 := by omega
  have hR2 : -9223372036854775808 ≤ n - R := by omega
  have hR3 : n - R ≤ 9223372036854775807 := by omega
  have hR4 : (n - R).tmod 65536 = 0 := Int.tmod_eq_zero_of_dvd (by omega)
  rw [hR] at a6
  clear hR
  go_enter Try.func6, Try.ntmps6
  go_wp2_with fail
  refine (a1 _).mono ?_; rintro e w1 ⟨⟨x, y, rfl, hz, hzf⟩, H⟩
  have HZ := Lib.hid hz
  clear hz hzf
  go_wp2_with fail
  refine (a2 _).mono ?_; rintro e w2 ⟨rfl, rfl⟩
  go_wp2_with fail
  refine (a3 _).mono ?_; rintro e w2 ⟨⟨x2, y2, rfl, hz, _⟩, hb⟩
  replace H := H.trans (hb.mono H.size)
  obtain ⟨k1, k2⟩ := next_apart P ⟨hP0, hP1⟩
  obtain ⟨dx, dy, hs, d1, d2⟩ := sub_wh hz.2.1 hz.2.2 HZ.out.2.1 HZ.out.2.2 (by omega) (by omega)
  obtain ⟨M1, m1, v1⟩ := max_wh d1
  obtain ⟨M2, m2, v2⟩ := max_wh d2
  rw [k1] at v1
  rw [k2] at v2
  have g1 : (FloatKind.f64.format.order M1 4607182418800017408 != some Ordering.eq) = false := by
    have := eq_int v1 wh_1
    simp only [bne, this]; decide
  have g2 : (FloatKind.f64.format.order M2 4607182418800017408 != some Ordering.eq) = false := by
    have := eq_int v2 wh_1
    simp only [bne, this]; decide
  have hq := quad_of HZ.out
  clear hb hz d1 d2 v1 v2 k1 k2
  go_wp2_with fail
  refine (a4 _).mono ?_; rintro e w3 ⟨rfl, rfl⟩
  go_wp2_with fail
  refine (a5 _).mono ?_; rintro e w3 ⟨rfl, rfl⟩
  go_wp2_with fail
  refine (a6 _).mono ?_; rintro e w3 ⟨rfl, rfl⟩
  go_wp2_with fail
  refine (a7 _).mono ?_; rintro e w3 ⟨rfl, rfl⟩
  generalize P / 16384 = Q at hq
  rcases hq with ⟨rfl, ⟨s1, s2, s3⟩, ⟨s4, s5, s6⟩⟩ | ⟨rfl, ⟨s1, s2, s3⟩, ⟨s4, s5, s6⟩⟩ | ⟨rfl, ⟨s1, s2, s3⟩, ⟨s4, s5, s6⟩⟩ | ⟨rfl, ⟨s1, s2, s3⟩, ⟨s4, s5, s6⟩⟩ | ⟨rfl, ⟨s1, s2, s3⟩, ⟨s4, s5, s6⟩⟩ | ⟨rfl, ⟨s1, s2, s3⟩, ⟨s4, s5, s6⟩⟩ | ⟨rfl, ⟨s1, s2, s3⟩, ⟨s4, s5, s6⟩⟩ | ⟨rfl, ⟨s1, s2, s3⟩, ⟨s4, s5, s6⟩⟩
  all_goals
    go_wp2_with fail
    refine (wakes_any _).mono ?_; rintro e w9 ⟨rfl, hb⟩
    go_wp2
    go_ret
    exact ⟨rfl, H.trans (hb.mono H.size)⟩
end Go.Proofs.Ytjljojnedaclgaa
