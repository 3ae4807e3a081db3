/- 'CompassNot': what is off the diamond, or has a part that is not whole, is no place's point: for every place, whatever each part is off. -/
import Derived.Test.YtjljojnedaclgaaBackLaw
set_option linter.unusedVariables false
set_option linter.unusedSimpArgs false
namespace Go.Proofs.Ytjljojnedaclgaa
open Go.RowKit Go.Shelf
open Ieee (double)
attribute [local go_sem] unary_neg_float unary_neg_complex

/-- What '+' gives, of any two words, and the world behind it: where there is no sum, whichever of the words that are no number. -/
def addF (a b : Nat) (w : World) : Nat := match double.add a b with
  | some r => r
  | none => (Question.nanBits .f64 a b).cut (w.tape w.drawn (.nanBits .f64 a b))
def addG (a b : Nat) (w : World) : World := match double.add a b with
  | some _ => w
  | none => w.drew
theorem run_add_all {P : Program} (t : TypeId) (a b : Nat) (w : World) : (binOp .add t (.float .f64 a) (.float .f64 b)).run P w = .ok (.float .f64 (addF a b w)) (addG a b w) := by
  unfold addF addG
  cases h : double.add a b with
  | some r => exact run_float_arith w .add t .f64 a b r h
  | none =>
    have h' : FloatKind.f64.format.add a b = none := h
    simp [binOp, Op.floatArith, h', run_choose_drew, Question.forced]
theorem addF_some {a b r : Nat} (h : double.add a b = some r) (w : World) : addF a b w = r := by unfold addF; rw [h]
theorem addG_below (n : Nat) (a b : Nat) (w : World) : Below n w (addG a b w) := by
  unfold addG
  split
  · exact Below.refl _ _
  · exact (Below.refl _ _).drew
theorem cut_lt (a b : Nat) (t : Nat) : (Question.nanBits .f64 a b).cut t < 18446744073709551616 := by
  show (t % 2) * 2 ^ 63 + 0x7ff0000000000000 + 1 + (t / 2) % (2 ^ 52 - 1) < _
  omega
theorem addF_lt (a b : Nat) (w : World) : addF a b w < 18446744073709551616 := by
  unfold addF
  cases h : double.add a b with
  | some r => exact double.add_lt h
  | none => exact cut_lt _ _ _
/-- The same of 'max(x, -x)'. -/
def maxF (a : Nat) (w : World) : Nat := match double.order a (Op.negFloat .f64 a) with
  | none => (Question.nanMinMax .f64 true a (Op.negFloat .f64 a)).cut (w.tape w.drawn (.nanMinMax .f64 true a (Op.negFloat .f64 a)))
  | some .lt => Op.negFloat .f64 a
  | some .gt => a
  | some .eq => if (double.read a).neg then Op.negFloat .f64 a else a
def maxG (a : Nat) (w : World) : World := match double.order a (Op.negFloat .f64 a) with
  | none => w.drew
  | some _ => w
theorem run_max_all {P : Program} (ts : Array TypeId) (t : TypeId) (a : Nat) (w : World) : (Builtin.max_ ts t #[.float .f64 a, .float .f64 (Op.negFloat .f64 a)]).run P w = .ok (.float .f64 (maxF a w)) (maxG a w) := by
  unfold maxF maxG
  cases h : double.order a (Op.negFloat .f64 a) with
  | none =>
    have h' : FloatKind.f64.format.order a (Op.negFloat .f64 a) = none := h
    simp [Builtin.max_, Builtin.max2, h', run_choose_drew, Question.forced]
  | some o =>
    have h' : FloatKind.f64.format.order a (Op.negFloat .f64 a) = some o := h
    cases o
    · simp [Builtin.max_, Builtin.max2, h']
    · simp [Builtin.max_, Builtin.max2, h']; rfl
    · simp [Builtin.max_, Builtin.max2, h']
theorem maxG_below (n : Nat) (a : Nat) (w : World) : Below n w (maxG a w) := by
  unfold maxG
  split
  · exact (Below.refl _ _).drew
  · exact Below.refl _ _
attribute [irreducible] addF addG maxF maxG

/-- Of a point nothing more than the law's own 'whole' is asked. -/
theorem whIn_20000 {x : Nat} {n : Int} (h : Wh x n) (hn : n.natAbs ≤ 16384) : true = true ↔ WhIn x (-20000) 20000 := whIn_yes h (by omega) (by omega)

set_option maxRecDepth 100000 in
set_option maxHeartbeats 8000000 in
theorem not_walk (W : World) (p : Int) (w0 : (Lit.int .i64 p).wf = true) (x : Nat) (w2 : (Lit.float .f64 x).wf = true) (y : Nat) (w3 : (Lit.float .f64 y).wf = true) :
    Calls Try.prog 7 #[.int .i64 p, .float .f64 x, .float .f64 y] W fun e w' => e = .returned (.bool true) ∧ Below W.heap.size W w' := by
  have hp := bounds_i64 w0
  have hb1 := tmod_bd p 65536 (by omega)
  clear w0 w2 w3
  obtain ⟨P, hP⟩ : ∃ P, (p.tmod 65536 + 65536) % 65536 = P := ⟨_, rfl⟩
  have hP0 : 0 ≤ P := by omega
  have hP1 : P < 65536 := by omega
  have a1 := fun w => At_yes P ⟨hP0, hP1⟩ w
  have hadd := fun a b w => run_add_all (P := Try.prog) 22 a b w
  go_enter Try.func7, Try.ntmps7
  go_wp2_with fail
  refine (a1 _).mono ?_; rintro e w1 ⟨⟨ax, ay, rfl, hz, hzf⟩, H⟩
  clear hz hzf a1
  have hmax := fun ts t a w => run_max_all (P := Try.prog) ts t a w
  go_wp2_with fail
  have hX := addF_lt ax x w1
  have hY := addF_lt ay y (addG ax x w1)
  replace H := (H.trans (addG_below _ ax x w1)).trans (addG_below _ ay y (addG ax x w1))
  generalize addF ax x w1 = X at *
  generalize addF ay y (addG ax x w1) = Y at *
  generalize addG ay y (addG ax x w1) = w2 at *
  have hf : Fits X Y := ⟨hX, hY⟩
  have HF := Lib.hid hf
  clear hX hY hf
  by_cases hpt : ∃ m, Pt X Y m
  · obtain ⟨m, hm⟩ := hpt
    have hd := hm.dia
    have HM := Lib.hid hm
    have c1 := fun w => wholeL_any X true (whIn_20000 hd.1 (by have := hd.2.2; omega)) w
    have c2 := fun w => wholeL_any Y true (whIn_20000 hd.2.1 (by have := hd.2.2; omega)) w
    obtain ⟨M1, M2, s, m1, m2, m3, g3⟩ := pt_sum hd
    have HD := Lib.hid hd
    clear hm hd hadd hmax
    refine (Of_yes X Y m HM.out HF.out _).mono ?_; rintro e w3 ⟨rfl, hb⟩
    replace H := H.trans (hb.mono H.size)
    clear hb
    go_wp2_with fail
    refine (right_yes X Y _ _ HD.out HF.out.1 HF.out.2 _).mono ?_; rintro e w4 ⟨rfl, rfl⟩
    go_wp2_with fail
    refine (c1 _).mono ?_; rintro e w4 ⟨rfl, rfl⟩
    go_wp2_with fail
    refine (c2 _).mono ?_; rintro e w4 ⟨rfl, rfl⟩
    go_wp2_with fail
    refine (wakes_any _).mono ?_; rintro e w7 ⟨rfl, hb⟩
    replace H := H.trans (hb.mono H.size)
    clear hb
    go_wp2
    go_ret
    exact ⟨rfl, H⟩
  · have HN := Lib.hid hpt
    have hdia := fun k => hpt ((pt_iff X Y).2 k)
    have HD := Lib.hid hdia
    have h00 := order_00
    clear hdia hpt
    refine (Of_no X Y HN.out HF.out _).mono ?_; rintro e w3 ⟨rfl, hb⟩
    replace H := H.trans (hb.mono H.size)
    clear hb
    go_wp2_with fail
    refine (right_no X Y HD.out HF.out.1 HF.out.2 _).mono ?_; rintro e w4 ⟨rfl, hb⟩
    replace H := H.trans (hb.mono H.size)
    clear hb
    by_cases g1 : WhIn X (-20000) 20000
    · by_cases g2 : WhIn Y (-20000) 20000
      · obtain ⟨n, hn, hn1, hn2⟩ := g1
        obtain ⟨m, hm, hm1, hm2⟩ := g2
        obtain ⟨M1, m1, v1⟩ := max_wh hn
        obtain ⟨M2, m2, v2⟩ := max_wh hm
        obtain ⟨s, e, v3⟩ := wh_add v1 v2 (by omega)
        have m3 := run_add e
        have g3 : (FloatKind.f64.format.order s 4670232813583204352 == some Ordering.eq) = false := by
          rw [eq_int v3 wh_16384]
          refine decide_eq_false fun e => HD.out ⟨n, m, hn, hm, by omega⟩
        clear hn hm v1 v2 v3 e hadd hmax
        go_wp2_with fail
        refine (Turned_no X Y 1 HN.out HF.out _).mono ?_; rintro e w5 ⟨rfl, hb⟩
        replace H := H.trans (hb.mono H.size)
        clear hb
        go_wp2_with fail
        refine (wakes_any _).mono ?_; rintro e w7 ⟨rfl, hb⟩
        replace H := H.trans (hb.mono H.size)
        clear hb
        go_wp2
        go_ret
        exact ⟨rfl, H⟩
      · have c1 := fun w => wholeL_any X true ⟨fun _ => g1, fun _ => rfl⟩ w
        have c2 := fun w => wholeL_any Y false (whIn_no g2) w
        clear g2
        replace H := ((H.trans (maxG_below _ X w4)).trans (maxG_below _ Y (maxG X w4))).trans (addG_below _ (maxF X w4) (maxF Y (maxG X w4)) (maxG Y (maxG X w4)))
        clear g1
        cases hbo : (FloatKind.f64.format.order (addF (maxF X w4) (maxF Y (maxG X w4)) (maxG Y (maxG X w4))) 4670232813583204352 == some Ordering.eq)
        · go_wp2_with fail
          refine (Turned_no X Y 1 HN.out HF.out _).mono ?_; rintro e w5 ⟨rfl, hb⟩
          replace H := H.trans (hb.mono H.size)
          clear hb
          go_wp2_with fail
          refine (wakes_any _).mono ?_; rintro e w7 ⟨rfl, hb⟩
          replace H := H.trans (hb.mono H.size)
          clear hb
          go_wp2
          go_ret
          exact ⟨rfl, H⟩
        · go_wp2_with fail
          refine (c1 _).mono ?_; rintro e w5 ⟨rfl, rfl⟩
          go_wp2_with fail
          refine (c2 _).mono ?_; rintro e w5 ⟨rfl, rfl⟩
          go_wp2_with fail
          refine (Turned_no X Y 1 HN.out HF.out _).mono ?_; rintro e w5 ⟨rfl, hb⟩
          replace H := H.trans (hb.mono H.size)
          clear hb
          go_wp2_with fail
          refine (wakes_any _).mono ?_; rintro e w7 ⟨rfl, hb⟩
          replace H := H.trans (hb.mono H.size)
          clear hb
          go_wp2
          go_ret
          exact ⟨rfl, H⟩
    · have c1 := fun w => wholeL_any X false (whIn_no g1) w
      replace H := ((H.trans (maxG_below _ X w4)).trans (maxG_below _ Y (maxG X w4))).trans (addG_below _ (maxF X w4) (maxF Y (maxG X w4)) (maxG Y (maxG X w4)))
      clear g1
      cases hbo : (FloatKind.f64.format.order (addF (maxF X w4) (maxF Y (maxG X w4)) (maxG Y (maxG X w4))) 4670232813583204352 == some Ordering.eq)
      · go_wp2_with fail
        refine (Turned_no X Y 1 HN.out HF.out _).mono ?_; rintro e w5 ⟨rfl, hb⟩
        replace H := H.trans (hb.mono H.size)
        clear hb
        go_wp2_with fail
        refine (wakes_any _).mono ?_; rintro e w7 ⟨rfl, hb⟩
        replace H := H.trans (hb.mono H.size)
        clear hb
        go_wp2
        go_ret
        exact ⟨rfl, H⟩
      · go_wp2_with fail
        refine (c1 _).mono ?_; rintro e w5 ⟨rfl, rfl⟩
        go_wp2_with fail
        refine (Turned_no X Y 1 HN.out HF.out _).mono ?_; rintro e w5 ⟨rfl, hb⟩
        replace H := H.trans (hb.mono H.size)
        clear hb
        go_wp2_with fail
        refine (wakes_any _).mono ?_; rintro e w7 ⟨rfl, hb⟩
        replace H := H.trans (hb.mono H.size)
        clear hb
        go_wp2
        go_ret
        exact ⟨rfl, H⟩
end Go.Proofs.Ytjljojnedaclgaa
