/- 'plain', and the iterator 'turns': the point none, one, two and three quarters on. -/
import Derived.RangeFuncNested
import Derived.RangeFuncBound
import Derived.RangeFuncCalls
import Derived.RangeFuncLeaves
import Derived.RangeFuncBox
import Derived.Shelf.Abstract
import Derived.Shelf.RegionOpen
import Derived.OwnWalkIn
import Derived.TacticsInMore
import Derived.LoopNIn
import Derived.LoopIn
import Derived.IntWalk
import Derived.Test.YtjljojnedaclgaaRight
set_option linter.unusedVariables false
set_option linter.unusedSimpArgs false
namespace Go.Proofs.Ytjljojnedaclgaa
open Go.RowKit Go.Shelf
open Ieee (double)
attribute [local go_sem] Oper.semAt_some

theorem wh_small {b : Nat} {n : Int} (h : Wh b n) {v : Int} (e : v = n * (U : Int)) : Val b v := by rw [e]; exact h
/-- A sum of two whole words. -/
theorem wh_add {a b : Nat} {n m : Int} (ha : Wh a n) (hb : Wh b m) (h : (n + m).natAbs < 9007199254740992) : ∃ r, double.add a b = some r ∧ Wh r (n + m) :=
  add_int ha hb (Int.add_mul n m U).symm h
theorem opp_write (x y : Nat) : double.sub x y = double.add x (y ^^^ 2 ^ 63) := by
  unfold Ieee.Format.sub Ieee.Format.add
  rw [read_neg]
theorem wh_sub {a b : Nat} {n m : Int} (ha : Wh a n) (hb : Wh b m) (h : (n - m).natAbs < 9007199254740992) : ∃ r, double.sub a b = some r ∧ Wh r (n - m) := by
  rw [opp_write]
  have := wh_add ha (wh_neg hb) (by rwa [← Int.sub_eq_add_neg])
  rwa [← Int.sub_eq_add_neg] at this

/-- A product of two points of whole parts. -/
theorem wh_cmul {a b c d : Nat} {n m p q : Int} (ha : Wh a n) (hb : Wh b m) (hc : Wh c p) (hd : Wh d q) (hn : n.natAbs ≤ 16384) (hm : m.natAbs ≤ 16384) (hp : p.natAbs ≤ 1) (hq : q.natAbs ≤ 1) :
    ∃ re im, cMulBits a b c d = some (re, im) ∧ Wh re (n * p - m * q) ∧ Wh im (n * q + m * p) := by
  have k : ∀ u v : Int, u.natAbs ≤ 16384 → v.natAbs ≤ 1 → (u * v).natAbs ≤ 16384 := fun u v h1 h2 => by
    rw [Int.natAbs_mul]; have := Nat.mul_le_mul h1 h2; omega
  have b1 := k n p hn hp
  have b2 := k m q hm hq
  have b3 := k n q hn hq
  have b4 := k m p hm hp
  obtain ⟨r1, e1, w1⟩ := mul_int ha hc (by omega)
  obtain ⟨r2, e2, w2⟩ := mul_int hb hd (by omega)
  obtain ⟨r3, e3, w3⟩ := mul_int ha hd (by omega)
  obtain ⟨r4, e4, w4⟩ := mul_int hb hc (by omega)
  obtain ⟨re, e5, w5⟩ := wh_sub w1 w2 (by omega)
  obtain ⟨im, e6, w6⟩ := wh_add w3 w4 (by omega)
  refine ⟨re, im, ?_, w5, w6⟩
  unfold cMulBits floatBits
  show ((double.mul a c).bind fun ac => (double.mul b d).bind fun bd => (double.sub ac bd).bind fun re => (double.mul a d).bind fun ad => (double.mul b c).bind fun bc => (double.add ad bc).bind fun im => some (re, im)) = _
  rw [e1, e2, e3, e4]
  show ((double.sub r1 r2).bind fun re => (double.add r3 r4).bind fun im => some (re, im)) = _
  rw [e5, e6]; rfl

/-- Words that fit their kind. -/
def Fits (x y : Nat) : Prop := x < 18446744073709551616 ∧ y < 18446744073709551616

/-- The parts, so many quarters on. -/
def rotX (q : Nat) (n m : Int) : Int := match q with | 0 => n | 1 => -m | 2 => -n | _ => m
def rotY (q : Nat) (n m : Int) : Int := match q with | 0 => m | 1 => n | 2 => -m | _ => -n

set_option maxHeartbeats 400000 in
theorem plain_any (a b r s : Nat) (h1 : double.add a 0 = some r) (h2 : double.add b 0 = some s) (w : World) : Calls Try.prog 32 #[.complex .f64 a b] w fun e w' => e = .returned (.complex .f64 r s) ∧ w = w' := by
  have k1 := run_add h1
  have k2 := run_add h2
  clear h1 h2
  go_enter Try.func32, Try.ntmps32
  go_wp2
  go_ret
  exact ⟨rfl, rfl⟩

/-- The words of the point z, q quarters on: they are, and what 'z times a unit' and 'plain' make of them. -/
structure TurnW (x y : Nat) (n m : Int) (T : Nat → Nat × Nat) : Prop where
  mul : ∃ re im : Nat → Nat, (∀ W : World, (binOp .mul 23 (.complex .f64 x y) (.complex .f64 4607182418800017408 0)).run Try.prog W = .ok (.complex .f64 (re 0) (im 0)) W) ∧
    (∀ W : World, (binOp .mul 23 (.complex .f64 x y) (.complex .f64 0 4607182418800017408)).run Try.prog W = .ok (.complex .f64 (re 1) (im 1)) W) ∧
    (∀ W : World, (binOp .mul 23 (.complex .f64 x y) (.complex .f64 13830554455654793216 0)).run Try.prog W = .ok (.complex .f64 (re 2) (im 2)) W) ∧
    (∀ W : World, (binOp .mul 23 (.complex .f64 x y) (.complex .f64 0 13830554455654793216)).run Try.prog W = .ok (.complex .f64 (re 3) (im 3)) W) ∧
    ∀ q < 4, ∀ W : World, Calls Try.prog 32 #[.complex .f64 (re q) (im q)] W fun e w' => e = .returned (.complex .f64 (T q).1 (T q).2) ∧ W = w'
  wh : ∀ q < 4, Wh (T q).1 (rotX q n m) ∧ Wh (T q).2 (rotY q n m)
  fit : ∀ q < 4, Fits (T q).1 (T q).2

theorem turn_one (x y c d : Nat) (n m p q : Int) (hx : Wh x n) (hy : Wh y m) (hc : Wh c p) (hd : Wh d q) (hn : n.natAbs ≤ 16384) (hm : m.natAbs ≤ 16384) (hp : p.natAbs ≤ 1) (hq : q.natAbs ≤ 1) :
    ∃ re im r s, (∀ W : World, (binOp .mul 23 (.complex .f64 x y) (.complex .f64 c d)).run Try.prog W = .ok (.complex .f64 re im) W) ∧ (∀ W : World, Calls Try.prog 32 #[.complex .f64 re im] W fun e w' => e = .returned (.complex .f64 r s) ∧ W = w') ∧
      Wh r (n * p - m * q) ∧ Wh s (n * q + m * p) ∧ Fits r s := by
  obtain ⟨re, im, e, w1, w2⟩ := wh_cmul hx hy hc hd hn hm hp hq
  have k : ∀ u v : Int, u.natAbs ≤ 16384 → v.natAbs ≤ 1 → (u * v).natAbs ≤ 16384 := fun u v h1 h2 => by
    rw [Int.natAbs_mul]; have := Nat.mul_le_mul h1 h2; omega
  have b1 := k n p hn hp
  have b2 := k m q hm hq
  have b3 := k n q hn hq
  have b4 := k m p hm hp
  obtain ⟨r, e1, v1⟩ := wh_add w1 wh_0 (by omega)
  obtain ⟨s, e2, v2⟩ := wh_add w2 wh_0 (by omega)
  rw [Int.add_zero] at v1 v2
  exact ⟨re, im, r, s, fun W => run_complex_mul W 23 x y c d re im e, fun W => plain_any re im r s e1 e2 W, v1, v2, double.add_lt e1, double.add_lt e2⟩

theorem turnW_of (x y : Nat) (n m : Int) (hx : Wh x n) (hy : Wh y m) (hn : n.natAbs ≤ 16384) (hm : m.natAbs ≤ 16384) : ∃ T, TurnW x y n m T := by
  obtain ⟨re0, im0, r0, s0, a0, b0, c0, d0, f0⟩ := turn_one x y _ _ n m _ _ hx hy wh_1 wh_0 hn hm (by decide) (by decide)
  obtain ⟨re1, im1, r1, s1, a1, b1, c1, d1, f1⟩ := turn_one x y _ _ n m _ _ hx hy wh_0 wh_1 hn hm (by decide) (by decide)
  obtain ⟨re2, im2, r2, s2, a2, b2, c2, d2, f2⟩ := turn_one x y _ _ n m _ _ hx hy wh_m1 wh_0 hn hm (by decide) (by decide)
  obtain ⟨re3, im3, r3, s3, a3, b3, c3, d3, f3⟩ := turn_one x y _ _ n m _ _ hx hy wh_0 wh_m1 hn hm (by decide) (by decide)
  refine ⟨fun q => match q with | 0 => (r0, s0) | 1 => (r1, s1) | 2 => (r2, s2) | _ => (r3, s3), ⟨fun q => match q with | 0 => re0 | 1 => re1 | 2 => re2 | _ => re3, fun q => match q with | 0 => im0 | 1 => im1 | 2 => im2 | _ => im3, a0, a1, a2, a3, ?_⟩, ?_, ?_⟩
  · intro q hq W
    match q, hq with
    | 0, _ => exact b0 W
    | 1, _ => exact b1 W
    | 2, _ => exact b2 W
    | 3, _ => exact b3 W
  · intro q hq
    match q, hq with
    | 0, _ => exact ⟨by simpa [rotX] using c0, by simpa [rotY] using d0⟩
    | 1, _ => exact ⟨by simpa [rotX] using c1, by simpa [rotY] using d1⟩
    | 2, _ => exact ⟨by simpa [rotX] using c2, by simpa [rotY] using d2⟩
    | 3, _ => exact ⟨by simpa [rotX] using c3, by simpa [rotY] using d3⟩
  · intro q hq
    match q, hq with
    | 0, _ => exact f0
    | 1, _ => exact f1
    | 2, _ => exact f2
    | 3, _ => exact f3

/-- What lies in the blocks of S lies as it lay. -/
def Kps (S : Nat → Prop) (W W' : World) : Prop := ∀ k, S k → W'.heap[k]? = W.heap[k]?
theorem Kps.refl (S : Nat → Prop) (W : World) : Kps S W W := fun _ _ => rfl
theorem Kps.trans {S : Nat → Prop} {A B C : World} (h : Kps S A B) (k : Kps S B C) : Kps S A C := fun i hi => (k i hi).trans (h i hi)
theorem Kps.cell {S : Nat → Prop} {W W' : World} (h : Kps S W W') {p : Addr} (hp : S p.block) : W'.cell? p = W.cell? p := World.cell?_of_block (h _ hp)
theorem Kps.putObj {S : Nat → Prop} {w : World} (hS : ∀ k, S k → k < w.heap.size) (W : World) (l : Nat) (o o' : Obj) (hl : w.heap.size ≤ l) (_ : W.heap[l]? = some o) (_ : o.isCells = false) (_ : o.isWalk = false) : Kps S W (W.putObj l o') :=
  fun k hk => (grownBy_putObj' W l o').block k (by
    rcases Nat.lt_or_ge k W.heap.size with h | h
    · exact h
    · have := (Array.getElem?_eq_some_iff.1 ‹W.heap[l]? = some o›).1
      have := hS k hk
      omega) (by have := hS k hk; intro e; injection e; omega)
theorem Kps.set {S : Nat → Prop} (W : World) {p : Addr} (hS : ∀ k, S k → k ≠ p.block) (u : Value) : Kps S W (W.setCell p u) := fun k hk => Below.heap_setCell W p u k (hS k hk)
theorem Kps.below {S : Nat → Prop} {B : Nat} {W W' : World} (h : Below B W W') (hS : ∀ k, S k → k < B) : Kps S W W' := fun k hk => h.block k (hS k hk)

/-- What is handed to a loop's body at the q-th turn. -/
def encT (T : Nat → Nat × Nat) (q : Fin 4) : Array Value := #[.int .i64 (q.val : Int), .complex .f64 (T q.val).1 (T q.val).2]
def all4 : List (Fin 4) := [0, 1, 2, 3]
theorem mem_all4 : ∀ k : Fin 4, k ∈ all4 := by decide

/-- The four units. -/
def units4 : Value := .agg #[.complex .f64 4607182418800017408 0, .complex .f64 0 4607182418800017408, .complex .f64 13830554455654793216 0, .complex .f64 0 13830554455654793216]
theorem unit_0 (W : World) : (Instr.index 46 units4 (.int .i64 0)).run Try.prog W = .ok (.complex .f64 4607182418800017408 0) W := by kernel_rfl
theorem unit_1 (W : World) : (Instr.index 46 units4 (.int .i64 1)).run Try.prog W = .ok (.complex .f64 0 4607182418800017408) W := by kernel_rfl
theorem unit_2 (W : World) : (Instr.index 46 units4 (.int .i64 2)).run Try.prog W = .ok (.complex .f64 13830554455654793216 0) W := by kernel_rfl
theorem unit_3 (W : World) : (Instr.index 46 units4 (.int .i64 3)).run Try.prog W = .ok (.complex .f64 0 13830554455654793216) W := by kernel_rfl

set_option maxRecDepth 100000 in
set_option maxHeartbeats 2000000 in
theorem turns_in (n : Nat) (l Bs : Nat) (x y : Nat) (p q : Int) (T : Nat → Nat × Nat) (hT : TurnW x y p q T) (S : Nat → Prop) (J Jx : List (Fin 4) → World → Prop) (hBn : S Bs)
    (hY : ∀ pre k W, J pre W → pre.length < 4 → YieldAt Fence.wide (n - 1) Try.prog l (encT T k) W fun e W' =>
      (e = .returned (.bool true) ∧ J (pre ++ [k]) W' ∧ Kps S W W') ∨ (e = .returned (.bool false) ∧ Jx (pre ++ [k]) W'))
    (W : World) (hBs : W.cell? ⟨Bs, 0, none⟩ = some (.complex .f64 x y)) (h0 : J [] W) :
    CallsIn Fence.wide n Try.prog 31 #[.func (.yield l) #[] #[], .pointer (some ⟨Bs, 0, none⟩)] W fun e W' => (∃ v, e = .returned v) ∧
      ((∃ ys, ys = all4 ∧ J ys W') ∨ (∃ pre, pre <+: all4 ∧ Jx pre W')) := by
  obtain ⟨⟨re, im, m0, m1, m2, m3, hp⟩, _, _⟩ := hT
  have HP := Lib.hid hp
  clear hp
  refine callsIn_of_wp Try.func31 rfl trivial ?_ rfl
  simp only [Try.ntmps31, List.size_toArray, List.length_cons, List.length_nil, Nat.reduceAdd, Nat.reduceSub, Array.replicate_succ, Array.replicate_zero, List.push_toArray, List.append_toArray, List.nil_append, List.cons_append]
  gi_wp2
  gi_loopw [6] (fun i wr => ∃ k : Nat, k ≤ 4 ∧ i = .int .i64 k ∧ J (all4.take k) wr ∧ Kps S W wr)
    (fun i _ => 4 - (intOf i).toNat)
  case atStart => exact ⟨0, Nat.zero_le _, rfl, by simpa using h0, Kps.refl _ _⟩
  case round =>
    obtain ⟨k, hk, rfl, hJs, hnx⟩ := hrel
    have hcx := (hnx.cell (p := ⟨Bs, 0, none⟩) hBn).trans hBs
    match k, hk with
    | 0, _ =>
      have u0 := unit_0
      unfold units4 at u0
      rw [show ((0 : Nat) : Int) = 0 from rfl]
      obtain ⟨fn, tmps, assign, body, hy, hR⟩ := hY _ 0 wr hJs (by decide)
      replace hy : (Instr.yield l #[.int .i64 0, .complex .f64 (T 0).1 (T 0).2]).run Try.prog wr = _ := hy
      gi_wp2_with (refine ⟨trivial, fun h => (by cases h), ?_⟩; gi_at_call 32; refine (callsIn_wide.2 (HP.out 0 (by decide) _)).mono ?_; rintro e w' ⟨rfl, rfl⟩)
      refine ⟨fun h => (by cases h), hR.mono ?_⟩
      rintro e W3 (⟨rfl, hJ3, hk3⟩ | ⟨rfl, hJx3⟩)
      · gi_wp2
        go_roundw
        case rel => exact ⟨0 + 1, by omega, rfl, hJ3, hnx.trans hk3⟩
        case measure => simp [intOf]
      · gi_wp2
        refine bodyPost_ret (results_none rfl _ _ _) rfl ?_
        exact ⟨⟨_, rfl⟩, .inr ⟨_, List.take_prefix (0 + 1) _, hJx3⟩⟩
    | 1, _ =>
      have u0 := unit_1
      unfold units4 at u0
      rw [show ((1 : Nat) : Int) = 1 from rfl]
      obtain ⟨fn, tmps, assign, body, hy, hR⟩ := hY _ 1 wr hJs (by decide)
      replace hy : (Instr.yield l #[.int .i64 1, .complex .f64 (T 1).1 (T 1).2]).run Try.prog wr = _ := hy
      gi_wp2_with (refine ⟨trivial, fun h => (by cases h), ?_⟩; gi_at_call 32; refine (callsIn_wide.2 (HP.out 1 (by decide) _)).mono ?_; rintro e w' ⟨rfl, rfl⟩)
      refine ⟨fun h => (by cases h), hR.mono ?_⟩
      rintro e W3 (⟨rfl, hJ3, hk3⟩ | ⟨rfl, hJx3⟩)
      · gi_wp2
        go_roundw
        case rel => exact ⟨1 + 1, by omega, rfl, hJ3, hnx.trans hk3⟩
        case measure => simp [intOf]
      · gi_wp2
        refine bodyPost_ret (results_none rfl _ _ _) rfl ?_
        exact ⟨⟨_, rfl⟩, .inr ⟨_, List.take_prefix (1 + 1) _, hJx3⟩⟩
    | 2, _ =>
      have u0 := unit_2
      unfold units4 at u0
      rw [show ((2 : Nat) : Int) = 2 from rfl]
      obtain ⟨fn, tmps, assign, body, hy, hR⟩ := hY _ 2 wr hJs (by decide)
      replace hy : (Instr.yield l #[.int .i64 2, .complex .f64 (T 2).1 (T 2).2]).run Try.prog wr = _ := hy
      gi_wp2_with (refine ⟨trivial, fun h => (by cases h), ?_⟩; gi_at_call 32; refine (callsIn_wide.2 (HP.out 2 (by decide) _)).mono ?_; rintro e w' ⟨rfl, rfl⟩)
      refine ⟨fun h => (by cases h), hR.mono ?_⟩
      rintro e W3 (⟨rfl, hJ3, hk3⟩ | ⟨rfl, hJx3⟩)
      · gi_wp2
        go_roundw
        case rel => exact ⟨2 + 1, by omega, rfl, hJ3, hnx.trans hk3⟩
        case measure => simp [intOf]
      · gi_wp2
        refine bodyPost_ret (results_none rfl _ _ _) rfl ?_
        exact ⟨⟨_, rfl⟩, .inr ⟨_, List.take_prefix (2 + 1) _, hJx3⟩⟩
    | 3, _ =>
      have u0 := unit_3
      unfold units4 at u0
      rw [show ((3 : Nat) : Int) = 3 from rfl]
      obtain ⟨fn, tmps, assign, body, hy, hR⟩ := hY _ 3 wr hJs (by decide)
      replace hy : (Instr.yield l #[.int .i64 3, .complex .f64 (T 3).1 (T 3).2]).run Try.prog wr = _ := hy
      gi_wp2_with (refine ⟨trivial, fun h => (by cases h), ?_⟩; gi_at_call 32; refine (callsIn_wide.2 (HP.out 3 (by decide) _)).mono ?_; rintro e w' ⟨rfl, rfl⟩)
      refine ⟨fun h => (by cases h), hR.mono ?_⟩
      rintro e W3 (⟨rfl, hJ3, hk3⟩ | ⟨rfl, hJx3⟩)
      · gi_wp2
        go_roundw
        case rel => exact ⟨3 + 1, by omega, rfl, hJ3, hnx.trans hk3⟩
        case measure => simp [intOf]
      · gi_wp2
        refine bodyPost_ret (results_none rfl _ _ _) rfl ?_
        exact ⟨⟨_, rfl⟩, .inr ⟨_, List.take_prefix (3 + 1) _, hJx3⟩⟩
    | 4, _ =>
      rw [show ((4 : Nat) : Int) = 4 from rfl]
      gi_wp2
      go_end0
      exact ⟨⟨_, rfl⟩, .inl ⟨_, rfl, hJs⟩⟩

theorem turns_stops (n Bs : Nat) (x y : Nat) (p q : Int) (T : Nat → Nat × Nat) (hT : TurnW x y p q T) (S : Nat → Prop) (w : World) (hBs : Bs < w.heap.size) (hBn : S Bs) (hc : w.cell? ⟨Bs, 0, none⟩ = some (.complex .f64 x y)) :
    SeqStopsK Fence.wide n Try.prog 31 #[.pointer (some ⟨Bs, 0, none⟩)] (encT T) (Kps S) (fun ys => ys = all4) (fun pre => pre <+: all4) 4 w := fun l J Jx W hW _ _ hY h0 =>
  turns_in n l Bs x y p q T hT S J Jx hBn hY W ((hW.cell (p := ⟨Bs, 0, none⟩) hBs).trans hc) h0

/-- The iterator itself: it holds the point in a box. -/
theorem turns_any (x y : Nat) (w : World) : Calls Try.prog 26 #[.complex .f64 x y] w fun e w' => e = .returned (.func (.func 31) #[] #[.pointer (some ⟨w.heap.size, 0, none⟩)]) ∧ w' = w.alloc (.cells #[.complex .f64 x y] 23) := by
  go_enter Try.func26, Try.ntmps26
  go_wp2
  go_ret
  exact ⟨rfl, rfl⟩
end Go.Proofs.Ytjljojnedaclgaa
