/- Contracts of the small functions: which numbers may be put, how many bits and bytes a number has, whether two rows of bytes are the same. The iterators: the bytes and the numbers of a slice, the digits of a number: what each hands to a loop's body. How a number's bytes are put behind a row of bytes: 'appendNumber' and 'Put'. How a number is read from a row of bytes: 'number' and 'Take'. -/
import Derived.Test.YtaacjpcckinaiaaGreatChecked
import Derived.Test.YtaacjpcckinaiaaGreatNMath
import Derived.Test.YtaacjpcckinaiaaGreatMem
import Derived.Test.YtaacjpcckinaiaaGreatNBits
import Derived.WalkKit
import Derived.BigQuiet
import Derived.Deep.QuietTactic
import Derived.Lib.Strings
import Derived.Lib.Slices
import Derived.Lib.Small
import Derived.Lib.Walk
import Derived.Lib.BitFns
import Derived.Handy
import Derived.RangeFuncNested
import Derived.RangeFuncBound
import Derived.RangeFuncCalls
import Derived.RangeFuncLeaves
import Derived.RangeFuncBox
import Derived.Shelf.Abstract
import Derived.Shelf.RegionOpen
import Derived.OwnWalkIn
import Derived.TacticsInMore
import Derived.LoopNIn
import Derived.LoopIn
import Derived.IntWalk
import Derived.Lib.Hide
import Derived.Deep.RegionLaw
import Derived.Deep.Cut
set_option linter.unusedVariables false
set_option maxRecDepth 100000
set_option linter.unusedSimpArgs false
namespace Go.Proofs.YtaacjpcckinaiaaGreat.Num
open Go.RowKit

theorem el23 : ElOf Tryz.prog 28 5 (.int .u8 0) 1 := ⟨Tryz.underlying28, by kernel_rfl, rfl, by decide⟩
theorem el22 : ElOf Tryz.prog 22 3 (.int .i64 0) 8 := ⟨Tryz.underlying22, by kernel_rfl, rfl, by decide⟩

set_option maxHeartbeats 400000 in
theorem mayBePut_any (n : Int) (w : World) : Calls Tryz.prog 105 #[.int .i64 n] w fun e w' => e = .returned (.bool (decide (0 ≤ n ∧ n ≤ 1099511627776))) ∧ w = w' := by
  by_cases h : 0 ≤ n
  · go_enter Tryz.func105, Tryz.ntmps105
    go_wp2
    all_goals (go_ret; exact ⟨by simp [h], rfl⟩)
  · have h2 : n < 0 := by omega
    go_enter Tryz.func105, Tryz.ntmps105
    go_wp2
    all_goals (go_ret; exact ⟨by simp; omega, rfl⟩)

set_option maxHeartbeats 400000 in
theorem own_any (v : Value) (l : List UInt8) (w : World) (h : Sl w v (bv l)) (hl : l.length ≤ 140737488355328) :
    Calls Tryz.prog 108 #[v] w fun e w' => ∃ v', e = .returned v' ∧ Slf w.heap.size w' v' (bv l) ∧ Below w.heap.size w w' := by
  go_enter Tryz.func108, Tryz.ntmps108
  go_wp2_with (at_builtin; refine wpList_app el23 rfl _ _ rfl w.heap.size _ 0 [] rfl (World.ownsRow_nil _ _ _ _) _ _ rfl h (bv_one _) (by rw [bv_length]; omega) (Nat.le_refl _) ?_; intro v' w' hown hg hb)
  go_ret
  exact ⟨_, rfl, .of_own hown, below_of_none hg⟩
set_option maxHeartbeats 400000 in
theorem size_any (n : Int) (w : World) (h0 : 0 ≤ n) (h1 : n ≤ 1099511627776) :
    Calls Tryz.prog 125 #[.int .i64 n] w fun e w' => e = .returned (.int .i64 (dig n.toNat).length) ∧ w = w' := by
  have hs := size_eq n.toNat (by omega)
  have h6 := dig_len6 n.toNat (by omega)
  have hb : Lib.bitLen n.toNat ≤ 55 := by omega
  have H := hs
  clear hs
  go_enter Tryz.func125, Tryz.ntmps125
  go_wp2_with (go_at_call 133; refine (bits_Len n _ h0 (by omega)).mono ?_; rintro e w' ⟨rfl, rfl⟩)
  go_ret
  exact ⟨congrArg (fun b => Ending.returned (.int .i64 b)) (by omega), rfl⟩

set_option maxHeartbeats 400000 in
theorem values22_any (A : Option Addr) (n c : Nat) (w : World) : Calls Tryz.prog 130 #[.slice A n c] w fun e w' => e = .returned (.func (.func 136) #[] #[.pointer (some ⟨w.heap.size, 0, none⟩)]) ∧ w' = w.alloc (.cells #[.slice A n c] 22) := by
  go_enter Tryz.func130, Tryz.ntmps130
  go_wp2
  go_ret
  exact ⟨rfl, rfl⟩
set_option maxHeartbeats 400000 in
theorem values23_any (A : Option Addr) (n c : Nat) (w : World) : Calls Tryz.prog 127 #[.slice A n c] w fun e w' => e = .returned (.func (.func 135) #[] #[.pointer (some ⟨w.heap.size, 0, none⟩)]) ∧ w' = w.alloc (.cells #[.slice A n c] 28) := by
  go_enter Tryz.func127, Tryz.ntmps127
  go_wp2
  go_ret
  exact ⟨rfl, rfl⟩
set_option maxHeartbeats 400000 in
theorem digits_any (n : Int) (w : World) : Calls Tryz.prog 126 #[.int .i64 n] w fun e w' => e = .returned (.func (.func 134) #[] #[.pointer (some ⟨w.heap.size, 0, none⟩)]) ∧ w' = w.alloc (.cells #[.int .i64 n] 3) := by
  go_enter Tryz.func126, Tryz.ntmps126
  go_wp2
  go_ret
  exact ⟨rfl, rfl⟩
end Go.Proofs.YtaacjpcckinaiaaGreat.Num
set_option linter.unusedVariables false
set_option maxRecDepth 100000
set_option linter.unusedSimpArgs false
namespace Go.Proofs.YtaacjpcckinaiaaGreat.Num
open Go.RowKit Go.Shelf

attribute [local go_sem] Oper.semAt_some

/-- What lies in the blocks of S lies as it lay. -/
def Kps (S : Nat → Prop) (W W' : World) : Prop := ∀ k, S k → W'.heap[k]? = W.heap[k]?
theorem Kps.refl (S : Nat → Prop) (W : World) : Kps S W W := fun _ _ => rfl
theorem Kps.trans {S : Nat → Prop} {A B C : World} (h : Kps S A B) (k : Kps S B C) : Kps S A C := fun i hi => (k i hi).trans (h i hi)
theorem Kps.cell {S : Nat → Prop} {W W' : World} (h : Kps S W W') {p : Addr} (hp : S p.block) : W'.cell? p = W.cell? p := World.cell?_of_block (h _ hp)
theorem Kps.putObj {S : Nat → Prop} {w : World} (hS : ∀ k, S k → k < w.heap.size) (W : World) (l : Nat) (o o' : Obj) (hl : w.heap.size ≤ l) (_ : W.heap[l]? = some o) (_ : o.isCells = false) (_ : o.isWalk = false) : Kps S W (W.putObj l o') :=
  fun k hk => (grownBy_putObj' W l o').block k (by
    rcases Nat.lt_or_ge k W.heap.size with h | h
    · exact h
    · have := (Array.getElem?_eq_some_iff.1 ‹W.heap[l]? = some o›).1
      have := hS k hk
      omega) (by have := hS k hk; intro e; injection e; omega)
theorem Kps.set {S : Nat → Prop} (W : World) {p : Addr} (hS : ∀ k, S k → k ≠ p.block) (u : Value) : Kps S W (W.setCell p u) := fun k hk => Below.heap_setCell W p u k (hS k hk)
theorem Kps.below {S : Nat → Prop} {B : Nat} {W W' : World} (h : Below B W W') (hS : ∀ k, S k → k < B) : Kps S W W' := fun k hk => h.block k (hS k hk)
theorem Kps.grown {S : Nat → Prop} {W W' : World} {row : Option Nat} (h : W.grownBy W' row) (hS : ∀ k, S k → k < W.heap.size ∧ some k ≠ row) : Kps S W W' := fun k hk => h.block k (hS k hk).1 (hS k hk).2


set_option maxRecDepth 100000 in
set_option maxHeartbeats 2000000 in
theorem vals23_in (n : Nat) (l Bs b off cap : Nat) (S : Nat → Prop) (zs : List UInt8) (hreach : zs.length ≤ 140737488351232) (hb : S b) (J Jx : List UInt8 → World → Prop)
    (hY : ∀ pre x W, J pre W → pre.length < zs.length → YieldAt Fence.wide (n - 1) Tryz.prog l #[.int .u8 (x.toNat : Int)] W fun e W' =>
      (e = .returned (.bool true) ∧ J (pre ++ [x]) W' ∧ Kps S W W') ∨ (e = .returned (.bool false) ∧ Jx (pre ++ [x]) W'))
    (W : World) (hBs : W.cell? ⟨Bs, 0, none⟩ = some (.slice (some ⟨b, off, none⟩) zs.length cap)) (hc : ∀ j u, (bv zs)[j]? = some u → W.cell? ⟨b, off + j, none⟩ = some u) (h0 : J [] W) :
    CallsIn Fence.wide n Tryz.prog 135 #[.func (.yield l) #[] #[], .pointer (some ⟨Bs, 0, none⟩)] W fun e W' => (∃ v, e = .returned v) ∧
      ((∃ ys, ys = zs ∧ J ys W') ∨ (∃ pre, pre <+: zs ∧ Jx pre W')) := by
  refine callsIn_of_wp Tryz.func135 rfl trivial ?_ rfl
  simp only [Tryz.ntmps135, List.size_toArray, List.length_cons, List.length_nil, Nat.reduceAdd, Nat.reduceSub, Array.replicate_succ, Array.replicate_zero, List.push_toArray, List.append_toArray, List.nil_append, List.cons_append]
  have HC := Lib.hid hc
  clear hc
  gi_wp2
  gi_loopw [7] (fun i wr => ∃ k : Nat, k ≤ zs.length ∧ i = .int .i64 k ∧ J (zs.take k) wr ∧ Kps S W wr)
    (fun i _ => zs.length - (intOf i).toNat)
  case atStart => exact ⟨0, Nat.zero_le _, rfl, by simpa using h0, Kps.refl _ _⟩
  case round =>
    obtain ⟨k, hk, rfl, hJs, hnx⟩ := hrel
    by_cases hlt : k < zs.length
    · have hcx := (hnx.cell (p := ⟨b, off + k, none⟩) hb).trans (HC.out k _ (bv_get zs k hlt))
      obtain ⟨fn, tmps, assign, body, hy, hR⟩ := hY (zs.take k) zs[k] wr hJs (by rw [List.length_take]; omega)
      gi_wp2
      refine ⟨fun h => (by cases h), hR.mono ?_⟩
      rintro e W3 (⟨rfl, hJ3, hk3⟩ | ⟨rfl, hJx3⟩)
      · gi_wp2
        go_roundw
        case rel => exact ⟨k + 1, by omega, by simp, by rw [List.take_succ_eq_append_getElem hlt]; exact hJ3, hnx.trans hk3⟩
        case measure => simp [intOf]; omega
      · gi_wp2
        refine bodyPost_ret (results_none rfl _ _ _) rfl ?_
        exact ⟨⟨_, rfl⟩, .inr ⟨_, by rw [← List.take_succ_eq_append_getElem hlt]; exact List.take_prefix _ _, hJx3⟩⟩
    · obtain rfl : k = zs.length := by omega
      gi_wp2
      go_end0
      exact ⟨⟨_, rfl⟩, .inl ⟨zs, rfl, by simpa using hJs⟩⟩

set_option maxRecDepth 100000 in
set_option maxHeartbeats 1000000 in
theorem vals23_nil (n : Nat) (l Bs : Nat) (J : List UInt8 → World → Prop) (W : World) (hBs : W.cell? ⟨Bs, 0, none⟩ = some (.slice none 0 0)) (h0 : J [] W) :
    CallsIn Fence.wide n Tryz.prog 135 #[.func (.yield l) #[] #[], .pointer (some ⟨Bs, 0, none⟩)] W fun e W' => (∃ v, e = .returned v) ∧ J [] W' := by
  refine callsIn_of_wp Tryz.func135 rfl trivial ?_ rfl
  simp only [Tryz.ntmps135, List.size_toArray, List.length_cons, List.length_nil, Nat.reduceAdd, Nat.reduceSub, Array.replicate_succ, Array.replicate_zero, List.push_toArray, List.append_toArray, List.nil_append, List.cons_append]
  gi_wp2
  gi_loopw [7] (fun i wr => i = .int .i64 0 ∧ J [] wr) (fun _ _ => 0)
  case atStart => exact ⟨rfl, h0⟩
  case round =>
    obtain ⟨rfl, hJs⟩ := hrel
    gi_wp2
    go_end0
    exact ⟨⟨_, rfl⟩, hJs⟩

theorem vals23_stops (n Bs : Nat) (S : Nat → Prop) (sv : Value) (zs : List UInt8) (hreach : zs.length ≤ 140737488351232) (w : World) (hBs : Bs < w.heap.size)
    (hc : w.cell? ⟨Bs, 0, none⟩ = some sv) (hI : Sl w sv (bv zs)) (hS : ∀ k, sv.ownBlock = some k → S k) :
    SeqStopsK Fence.wide n Tryz.prog 135 #[.pointer (some ⟨Bs, 0, none⟩)] (fun x : UInt8 => #[.int .u8 (x.toNat : Int)]) (Kps S) (fun ys => ys = zs) (fun pre => pre <+: zs) zs.length w := fun l J Jx W hW _ _ hY h0 => by
  have hc' := (hW.cell (p := ⟨Bs, 0, none⟩) hBs).trans hc
  rcases hI with ⟨rfl, hz⟩ | ⟨b, off, cap, rfl, h1, h2, h3, h4⟩
  · have hz' : zs = [] := List.eq_nil_of_length_eq_zero (by rw [← bv_length, hz]; rfl)
    subst hz'
    exact (vals23_nil n l Bs J W hc' h0).mono fun e W' ⟨he, hj⟩ => ⟨he, .inl ⟨_, rfl, hj⟩⟩
  · rw [bv_length] at hc'
    refine vals23_in n l Bs b off cap S zs hreach (hS b rfl) J Jx hY W hc' (fun j u hu => ?_) h0
    rw [hW.cell (p := ⟨b, off + j, none⟩) h3]
    exact h4 j u hu

set_option maxRecDepth 100000 in
set_option maxHeartbeats 2000000 in
theorem vals22_in (n : Nat) (l Bs b off cap : Nat) (S : Nat → Prop) (zs : List Int) (hreach : zs.length ≤ 140737488351232) (hb : S b) (J Jx : List Int → World → Prop)
    (hY : ∀ pre x W, J pre W → pre.length < zs.length → YieldAt Fence.wide (n - 1) Tryz.prog l #[.int .i64 x] W fun e W' =>
      (e = .returned (.bool true) ∧ J (pre ++ [x]) W' ∧ Kps S W W') ∨ (e = .returned (.bool false) ∧ Jx (pre ++ [x]) W'))
    (W : World) (hBs : W.cell? ⟨Bs, 0, none⟩ = some (.slice (some ⟨b, off, none⟩) zs.length cap)) (hc : ∀ j u, (iv zs)[j]? = some u → W.cell? ⟨b, off + j, none⟩ = some u) (h0 : J [] W) :
    CallsIn Fence.wide n Tryz.prog 136 #[.func (.yield l) #[] #[], .pointer (some ⟨Bs, 0, none⟩)] W fun e W' => (∃ v, e = .returned v) ∧
      ((∃ ys, ys = zs ∧ J ys W') ∨ (∃ pre, pre <+: zs ∧ Jx pre W')) := by
  refine callsIn_of_wp Tryz.func136 rfl trivial ?_ rfl
  simp only [Tryz.ntmps136, List.size_toArray, List.length_cons, List.length_nil, Nat.reduceAdd, Nat.reduceSub, Array.replicate_succ, Array.replicate_zero, List.push_toArray, List.append_toArray, List.nil_append, List.cons_append]
  have HC := Lib.hid hc
  clear hc
  gi_wp2
  gi_loopw [7] (fun i wr => ∃ k : Nat, k ≤ zs.length ∧ i = .int .i64 k ∧ J (zs.take k) wr ∧ Kps S W wr)
    (fun i _ => zs.length - (intOf i).toNat)
  case atStart => exact ⟨0, Nat.zero_le _, rfl, by simpa using h0, Kps.refl _ _⟩
  case round =>
    obtain ⟨k, hk, rfl, hJs, hnx⟩ := hrel
    by_cases hlt : k < zs.length
    · have hcx := (hnx.cell (p := ⟨b, off + k, none⟩) hb).trans (HC.out k _ (iv_get zs k hlt))
      obtain ⟨fn, tmps, assign, body, hy, hR⟩ := hY (zs.take k) zs[k] wr hJs (by rw [List.length_take]; omega)
      gi_wp2
      refine ⟨fun h => (by cases h), hR.mono ?_⟩
      rintro e W3 (⟨rfl, hJ3, hk3⟩ | ⟨rfl, hJx3⟩)
      · gi_wp2
        go_roundw
        case rel => exact ⟨k + 1, by omega, by simp, by rw [List.take_succ_eq_append_getElem hlt]; exact hJ3, hnx.trans hk3⟩
        case measure => simp [intOf]; omega
      · gi_wp2
        refine bodyPost_ret (results_none rfl _ _ _) rfl ?_
        exact ⟨⟨_, rfl⟩, .inr ⟨_, by rw [← List.take_succ_eq_append_getElem hlt]; exact List.take_prefix _ _, hJx3⟩⟩
    · obtain rfl : k = zs.length := by omega
      gi_wp2
      go_end0
      exact ⟨⟨_, rfl⟩, .inl ⟨zs, rfl, by simpa using hJs⟩⟩

set_option maxRecDepth 100000 in
set_option maxHeartbeats 1000000 in
theorem vals22_nil (n : Nat) (l Bs : Nat) (J : List Int → World → Prop) (W : World) (hBs : W.cell? ⟨Bs, 0, none⟩ = some (.slice none 0 0)) (h0 : J [] W) :
    CallsIn Fence.wide n Tryz.prog 136 #[.func (.yield l) #[] #[], .pointer (some ⟨Bs, 0, none⟩)] W fun e W' => (∃ v, e = .returned v) ∧ J [] W' := by
  refine callsIn_of_wp Tryz.func136 rfl trivial ?_ rfl
  simp only [Tryz.ntmps136, List.size_toArray, List.length_cons, List.length_nil, Nat.reduceAdd, Nat.reduceSub, Array.replicate_succ, Array.replicate_zero, List.push_toArray, List.append_toArray, List.nil_append, List.cons_append]
  gi_wp2
  gi_loopw [7] (fun i wr => i = .int .i64 0 ∧ J [] wr) (fun _ _ => 0)
  case atStart => exact ⟨rfl, h0⟩
  case round =>
    obtain ⟨rfl, hJs⟩ := hrel
    gi_wp2
    go_end0
    exact ⟨⟨_, rfl⟩, hJs⟩

theorem vals22_stops (n Bs : Nat) (S : Nat → Prop) (sv : Value) (zs : List Int) (hreach : zs.length ≤ 140737488351232) (w : World) (hBs : Bs < w.heap.size)
    (hc : w.cell? ⟨Bs, 0, none⟩ = some sv) (hI : Sl w sv (iv zs)) (hS : ∀ k, sv.ownBlock = some k → S k) :
    SeqStopsK Fence.wide n Tryz.prog 136 #[.pointer (some ⟨Bs, 0, none⟩)] (fun x : Int => #[.int .i64 x]) (Kps S) (fun ys => ys = zs) (fun pre => pre <+: zs) zs.length w := fun l J Jx W hW _ _ hY h0 => by
  have hc' := (hW.cell (p := ⟨Bs, 0, none⟩) hBs).trans hc
  rcases hI with ⟨rfl, hz⟩ | ⟨b, off, cap, rfl, h1, h2, h3, h4⟩
  · have hz' : zs = [] := List.eq_nil_of_length_eq_zero (by rw [← iv_length, hz]; rfl)
    subst hz'
    exact (vals22_nil n l Bs J W hc' h0).mono fun e W' ⟨he, hj⟩ => ⟨he, .inl ⟨_, rfl, hj⟩⟩
  · rw [iv_length] at hc'
    refine vals22_in n l Bs b off cap S zs hreach (hS b rfl) J Jx hY W hc' (fun j u hu => ?_) h0
    rw [hW.cell (p := ⟨b, off + j, none⟩) h3]
    exact h4 j u hu

set_option maxRecDepth 100000 in
set_option maxHeartbeats 2000000 in
theorem digs_in (n : Nat) (l Bs : Nat) (m : Int) (hm0 : 0 ≤ m) (hm1 : m ≤ 1099511627776) (S : Nat → Prop) (J Jx : List UInt8 → World → Prop) (hBn : S Bs)
    (hY : ∀ pre x W, J pre W → pre.length < (dig m.toNat).length → YieldAt Fence.wide (n - 1) Tryz.prog l #[.int .u8 (x.toNat : Int)] W fun e W' =>
      (e = .returned (.bool true) ∧ J (pre ++ [x]) W' ∧ Kps S W W') ∨ (e = .returned (.bool false) ∧ Jx (pre ++ [x]) W'))
    (W : World) (hBs : W.cell? ⟨Bs, 0, none⟩ = some (.int .i64 m)) (h0 : J [] W) :
    CallsIn Fence.wide n Tryz.prog 134 #[.func (.yield l) #[] #[], .pointer (some ⟨Bs, 0, none⟩)] W fun e W' => (∃ v, e = .returned v) ∧
      ((∃ ys, ys = dig m.toNat ∧ J ys W') ∨ (∃ pre, pre <+: dig m.toNat ∧ Jx pre W')) := by
  refine callsIn_of_wp Tryz.func134 rfl trivial ?_ rfl
  simp only [Tryz.ntmps134, List.size_toArray, List.length_cons, List.length_nil, Nat.reduceAdd, Nat.reduceSub, Array.replicate_succ, Array.replicate_zero, List.push_toArray, List.append_toArray, List.nil_append, List.cons_append]
  have h6 := dig_len6 m.toNat (by omega)
  gi_wp2_with (refine ⟨trivial, fun h => (by cases h), ?_⟩; gi_at_call 125; refine (callsIn_wide.2 (size_any m _ hm0 hm1)).mono ?_; rintro e w' ⟨rfl, rfl⟩)
  gi_loopw [3] (fun i wr => ∃ k : Nat, k ≤ (dig m.toNat).length ∧ i = .int .i64 ((dig m.toNat).length - 1 - k : Int) ∧ J ((dig m.toNat).take k) wr ∧ Kps S W wr)
    (fun i _ => (intOf i + 1).toNat)
  case atStart => exact ⟨0, Nat.zero_le _, by simp, by simpa using h0, Kps.refl _ _⟩
  case round =>
    obtain ⟨k, hk, rfl, hJs, hnx⟩ := hrel
    by_cases hlt : k < (dig m.toNat).length
    · have hcx := (hnx.cell (p := ⟨Bs, 0, none⟩) hBn).trans hBs
      obtain ⟨fn, tmps, assign, body, hy, hR⟩ := hY ((dig m.toNat).take k) (UInt8.ofNat (m.toNat / 256 ^ ((dig m.toNat).length - 1 - k))) wr hJs (by rw [List.length_take]; omega)
      have he : ((UInt8.ofNat (m.toNat / 256 ^ ((dig m.toNat).length - 1 - k))).toNat : Int) = m / 2 ^ (8 * ((dig m.toNat).length - 1 - k)) % 256 := by
        obtain ⟨q, rfl⟩ := Int.eq_ofNat_of_zero_le hm0
        exact byte_at q _
      rw [he] at hy
      clear he
      gi_wp2
      refine ⟨fun h => (by cases h), hR.mono ?_⟩
      rintro e W3 (⟨rfl, hJ3, hk3⟩ | ⟨rfl, hJx3⟩)
      · gi_wp2
        go_roundw
        case rel => exact ⟨k + 1, by omega, by congr 1; omega, by rw [dig_take_succ _ _ hlt]; exact hJ3, hnx.trans hk3⟩
        case measure => simp [intOf]; omega
      · gi_wp2
        refine bodyPost_ret (results_none rfl _ _ _) rfl ?_
        exact ⟨⟨_, rfl⟩, .inr ⟨_, by rw [← dig_take_succ _ _ hlt]; exact List.take_prefix _ _, hJx3⟩⟩
    · obtain rfl : k = (dig m.toNat).length := by omega
      gi_wp2
      go_end0
      exact ⟨⟨_, rfl⟩, .inl ⟨_, rfl, by simpa using hJs⟩⟩

theorem digs_stops (n Bs : Nat) (S : Nat → Prop) (m : Int) (hm0 : 0 ≤ m) (hm1 : m ≤ 1099511627776) (w : World) (hBs : Bs < w.heap.size) (hBn : S Bs)
    (hc : w.cell? ⟨Bs, 0, none⟩ = some (.int .i64 m)) :
    SeqStopsK Fence.wide n Tryz.prog 134 #[.pointer (some ⟨Bs, 0, none⟩)] (fun x : UInt8 => #[Value.int .u8 (x.toNat : Int)]) (Kps S) (fun ys => ys = dig m.toNat) (fun pre => pre <+: dig m.toNat) (dig m.toNat).length w := fun l J Jx W hW _ _ hY h0 =>
  digs_in n l Bs m hm0 hm1 S J Jx hBn hY W ((hW.cell (p := ⟨Bs, 0, none⟩) hBs).trans hc) h0
end Go.Proofs.YtaacjpcckinaiaaGreat.Num
set_option linter.unusedVariables false
set_option maxRecDepth 100000
set_option linter.unusedSimpArgs false
namespace Go.Proofs.YtaacjpcckinaiaaGreat.Num
open Go.RowKit Go.Shelf

/-- A range over a function, at the wide fence. -/
theorem wp_range {P : Program} {α : Type} {g : Operand} {ps : Array Tmp} {assign body : Code} {Q : Exit → Act → World → Prop} {a : Act} {w : World}
    {gf : Nat} {lb : Array Value} (hg : a.eval g = .func (.func gf) #[] lb) (eg : ∀ args w, (callFunc gf args).run P w = .ok (.enter gf args) w)
    {encs : α → Array Value} {S : Nat → Prop} {Sf Sp : List α → Prop} {N : Nat} (hseq : SeqStopsK Fence.wide 8 P gf lb encs (Kps S) Sf Sp N w) (hS : ∀ k, S k → k < w.heap.size) (hps : ∀ x, (encs x).size = ps.size)
    (I : List α → World → Prop) (Ix : Code → List α → World → Prop) (hI : OwnFrom w.heap.size I) (hIx : ∀ c, OwnFrom w.heap.size (Ix c)) (h0 : I [] w) (a₁ : α → Act)
    (hassign : ∀ (l : Nat) (x : α) (W : World) (K : Act → World → Prop), K (a₁ x) W →
      assign.wpIn (Fence.wide.inRound l) 7 P (Exit.then K (fun _ _ _ => False)) { tmps := (ps.zip (encs x)).foldl (fun t (p, v) => t.setIfInBounds p v) a.tmps, defers := [] } W)
    (hbody : ∀ (l : Nat) (pre : List α) (x : α) (W : World), I pre W → pre.length < N → body.wpIn (Fence.wide.inRound l) 7 P (ownPostG w.heap.size (Kps S) I Ix (pre ++ [x]) W) (a₁ x) W)
    (hdone : ∀ (D : Nat) (xs : List α) (W : World), w.heap.size ≤ D → Sf xs → I xs W → W.heap[D]? = some (.deferred (some [])) → Q .normal { a with defers := { target := .collected D, args := #[] } :: a.defers } W)
    (hstop : ∀ (D : Nat) (c : Code) (pre : List α) (W : World), w.heap.size ≤ D → Sp pre → Ix c pre W → W.heap[D]? = some (.deferred (some [])) → c.wp P Q { a with defers := { target := .collected D, args := #[] } :: a.defers } W) :
    (Code.rangeFunc g ps assign body).wp P Q a w :=
  (wpIn_wide (n := 9)).1 (wpIn_rangeFunc_ownG rfl (by omega) hg trivial eg hseq (fun h k => Kps.trans h k) (fun W l o o' h1 h2 h3 h4 => Kps.putObj hS W l o o' h1 h2 h3 h4) (Below.refl _ _) hps I Ix hI hIx h0 a₁ hassign hbody hdone
    (fun D c pre W h1 h2 h3 h4 => wpIn_wide.2 (hstop D c pre W h1 h2 h3 h4)))

theorem ownFrom_grownBy {β : Type} {B : Nat} {w₀ : World} {row : Option Nat} (hB : w₀.heap.size ≤ B) : OwnFrom B (fun (_ : β) W => w₀.grownBy W row) := by
  intro s X Y r hs hg hr
  refine ⟨hg.os.trans hs.os, hg.tape.trans hs.tape, hg.output.trans hs.output, Nat.le_trans hs.size hg.size, fun k hk hne => (hg.block k (Nat.lt_of_lt_of_le hk hs.size) fun e => ?_).trans (hs.block k hk hne)⟩
  obtain ⟨h1, _⟩ := hr k e.symm
  omega

attribute [local go_sem] Oper.semAt_some
set_option maxRecDepth 100000 in
set_option maxHeartbeats 200000 in
theorem appendNumber_any (m : Int) (hm0 : 0 ≤ m) (hm1 : m ≤ 1099511627776) (base : Nat) (A : Option Addr) (k c : Nat) (xs : List Value) (w : World) (hown : w.ownsRow base 5 1 (.slice A k c) k xs) (hbase : base ≤ w.heap.size) (hk : k ≤ 1099511627776) :
    Calls Tryz.prog 106 #[.slice A k c, .int .i64 m] w fun e w' => ∃ v', e = .returned v' ∧ w'.ownsRow base 5 1 v' (k + (num m.toNat).length) (xs ++ bv (num m.toNat)) ∧ w.grownBy w' (Value.slice A k c).ownBlock ∧
      (v'.ownBlock = (Value.slice A k c).ownBlock ∨ ∃ g, v'.ownBlock = some g ∧ w.heap.size ≤ g) := by
  have h6 := dig_len6 m.toNat (by omega)
  refine (callsIn_wide (n := 9)).1 (callsIn_of_wp_marks Tryz.func106 rfl trivial ?_ rfl)
  simp only [Tryz.ntmps106, List.size_toArray, List.length_cons, List.length_nil, Nat.reduceAdd, Nat.reduceSub, Array.replicate_succ, Array.replicate_zero, List.push_toArray, List.append_toArray, List.nil_append, List.cons_append]
  refine wpIn_wide.2 ?_
  have bB := Boxed.new w 28 (.slice A k c)
  have hd : IntKind.u8.wrap ((dig m.toNat).length : Int) = ((UInt8.ofNat (dig m.toNat).length).toNat : Int) := by
    rw [IntKind.wrap_u8, UInt8.toNat_ofNat']; omega
  have Hd := Lib.hid hd
  clear hd
  go_wp2_with fail
  refine wp_to (fun a' W => ∃ u6 u7 u8 u9 u10 u11 g cap, a' = { tmps := #[.slice A k c, .int .i64 m, .pointer (some ⟨w.heap.size, 0, none⟩), undef, .slice none 0 0, undef, u6, u7, u8, u9, u10, u11, undef, undef, undef, undef, undef, undef, undef, undef], defers := [] } ∧
      Boxed W w.heap.size 28 (.slice (some ⟨g, 0, none⟩) (k + 1) cap) ∧ W.ownsRow base 5 1 (.slice (some ⟨g, 0, none⟩) (k + 1) cap) (k + 1) (xs ++ bv [UInt8.ofNat (dig m.toNat).length]) ∧ w.grownBy W (Value.slice A k c).ownBlock ∧ ((Value.slice A k c).ownBlock = some g ∨ w.heap.size ≤ g)) ?_ ?_
  · go_region_law
      (first
        | (refine step_app1 el23 rfl _ _ rfl base (.slice A k c) k xs rfl ?_ _ (.int .u8 (IntKind.u8.wrap (dig m.toNat).length)) rfl ?_ ?_ ?_ ?_ (w.heap.size + 2) ?_ ?_
           · exact ((hown.alloc _).alloc _).drew
           · have := (Sl.one (w.alloc (.cells #[.slice A k c] 28)) (.int .u8 (IntKind.u8.wrap (dig m.toNat).length)) 5).drew; rwa [World.size_alloc] at this
           · rfl
           · omega
           · simp; omega
           · simp
           intro g cap w1 hown1 hgrow hat
           have hb1 : Boxed w1 w.heap.size 28 (.slice A k c) := (boxed_drew (bB.alloc _)).kept hgrow (bB.not_row (by decide) (hown.alloc _))
           have hc1 := hb1.cell
           have hf1 := hb1.frozen)
        | (refine step_call1 rfl 125 _ _ rfl _ rfl _ (enters_of Tryz.func125 (by kernel_rfl) rfl) (size_any m _ hm0 hm1) ?_))
    all_goals
      refine ⟨_, _, _, _, _, _, g, cap, rfl, hb1.set _, ?_, ?_, ?_⟩
      · rw [Hd.out] at hown1
        exact hown1.kept (grownBy_setCell' w1 _ _) (.inr (hb1.not_row (by decide) hown1).symm)
      · exact gr_set (gr_then (gr_drew (gr_alloc (gr_alloc (gr_refl _ _) _) _)) hgrow (.inl rfl)) (.inl (Nat.le_refl _)) _
      · exact hat.imp id (fun e => by omega)
  rintro a' W1 ⟨u6, u7, u8, u9, u10, u11, g, cap, rfl, hB, hO, hG, hat⟩
  have bD := Boxed.new W1 3 (.int .i64 m)
  have HB := hB
  clear hB
  go_wp2_with (go_at_call 126; refine (digits_any m _).mono ?_; rintro e w' ⟨rfl, rfl⟩)
  refine wp_range (gf := 134) (lb := #[.pointer (some ⟨W1.heap.size, 0, none⟩)]) rfl (enters_of Tryz.func134 (by kernel_rfl) rfl)
    (digs_stops 8 W1.heap.size (fun k => k = W1.heap.size) m hm0 hm1 _ (by simp) rfl bD.cell) (by rintro k rfl; simp) (fun _ => rfl)
    (fun pre W => (∃ v, Boxed W w.heap.size 28 v ∧ W.ownsRow base 5 1 v (k + 1 + pre.length) (xs ++ bv (UInt8.ofNat (dig m.toNat).length :: pre)) ∧ (v.ownBlock = (Value.slice A k c).ownBlock ∨ ∃ g, v.ownBlock = some g ∧ w.heap.size ≤ g)) ∧ (Boxed W W1.heap.size 3 (.int .i64 m) ∧ w.grownBy W (Value.slice A k c).ownBlock))
    (fun _ _ _ => False)
    (OwnFrom.and (Own.from (holdsRow_own base w.heap.size 28 5 1 (fun pre => k + 1 + pre.length) (fun pre => xs ++ bv (UInt8.ofNat (dig m.toNat).length :: pre)) (fun _ v => v.ownBlock = (Value.slice A k c).ownBlock ∨ ∃ g, v.ownBlock = some g ∧ w.heap.size ≤ g)) _)
      (OwnFrom.and (Own.from (boxed_own W1.heap.size 3 (fun _ => .int .i64 m)) _) (ownFrom_grownBy (by have := hG.size; simp; omega))))
    (fun _ _ _ _ _ hs _ _ => hs)
    ⟨⟨_, HB.alloc _, hO.alloc _, hat.imp (fun h => h.symm) (fun h => ⟨g, rfl, h⟩)⟩, bD, gr_alloc hG _⟩
    (fun x => { tmps := #[.slice A k c, .int .i64 m, .pointer (some ⟨w.heap.size, 0, none⟩), undef, .slice none 0 0, .int .u8 (x.toNat : Int), u6, u7, u8, u9, u10, u11, .int .i64 m, .func (.func 134) #[] #[.pointer (some ⟨W1.heap.size, 0, none⟩)], .int .u8 (x.toNat : Int), undef, undef, undef, undef, undef], defers := [] }) ?assign ?body ?done ?stop
  case assign =>
    intro l x W K hK
    gi_wp2
    exact hK
  case body =>
    rintro l pre x W ⟨⟨v, hv, hrow, hvb⟩, hD, hW⟩ hlt
    have hc := hv.cell
    have hwW := hW.size
    gi_wp2_with (gi_at_builtin; refine wpListIn_app1 el23 rfl _ _ rfl base v (k + 1 + pre.length) _ rfl (hrow.alloc _) _ (.int .u8 (x.toNat : Int)) rfl (Sl.one _ _ _) rfl (by omega) (by simp; omega) (W.heap.size + 1) (by simp) ?_; intro g2 cap2 w2 hown2 hgrow2 hat2; obtain ⟨hv1, hv2, hr2, hk2, hb2⟩ := hv.appended (by decide) hrow (by omega) hbase hown2 hgrow2; have hc1 := hv1.cell; have hf1 := hv1.frozen)
    have hDr : some W1.heap.size ≠ v.ownBlock := hD.not_row (by decide) hrow
    refine ⟨hk2.from _, ?_, ⟨_, hv2, ?_, ?_⟩, ?_, ?_⟩
    · refine Kps.trans (Kps.grown (gr_then (gr_alloc (gr_refl W _) _) hgrow2 (.inl rfl)) ?_) (Kps.set _ ?_ _)
      · rintro q rfl; exact ⟨hD.lt, hDr⟩
      · rintro q rfl; have := HB.lt; show W1.heap.size ≠ w.heap.size; omega
    · rw [show k + 1 + (pre ++ [x]).length = k + 1 + pre.length + 1 by simp; omega, show xs ++ bv (UInt8.ofNat (dig m.toNat).length :: (pre ++ [x])) = xs ++ bv (UInt8.ofNat (dig m.toNat).length :: pre) ++ [.int .u8 (x.toNat : Int)] by simp [bv]]
      exact hr2
    · rcases hat2 with h | h
      · rw [h] at hvb; exact hvb
      · exact .inr ⟨g2, rfl, by omega⟩
    · refine ((hD.alloc _).kept hgrow2 hDr).kept (grownBy_setCell' _ _ _) ?_
      have := HB.lt
      intro e; injection e; omega
    · exact gr_set (gr_then (gr_alloc hW _) hgrow2 (hvb.imp id (fun ⟨g, h1, h2⟩ g' h3 => by rw [h1] at h3; injection h3; omega))) (.inl (Nat.le_refl _)) _
  case done =>
    rintro D ys W hDs rfl ⟨⟨v, hv, hrow, hvb⟩, hD, hW⟩ hK
    have hc := hv.cell
    go_wp2
    refine ⟨by simp, .inl ⟨_, _, rfl, run_takeDeferred hK, ?_⟩⟩
    refine ⟨_, results_tmp rfl _ _ _, v, rfl, ?_, gr_then hW (grownBy_putObj' _ _ _) (.inr fun g e => by injection e; have := hG.size; simp at hDs; omega), hvb⟩
    rw [show k + (num m.toNat).length = k + 1 + (dig m.toNat).length by rw [num_length]; omega]
    exact ownsRow_putObj hrow _ hK rfl
  case stop =>
    rintro D c pre W _ _ h _
    exact h.elim

def putB (n : Int) : List UInt8 := if 0 ≤ n ∧ n ≤ 1099511627776 then num n.toNat else []
def putE (n : Int) : Int := if 0 ≤ n ∧ n ≤ 1099511627776 then 0 else 2

set_option maxHeartbeats 400000 in
theorem Put_any (n : Int) (w : World) : Calls Tryz.prog 84 #[.int .i64 n] w fun e w' => ∃ v, e = .returned (.tuple #[v, .int .i64 (putE n)]) ∧ Sl w' v (bv (putB n)) ∧ Below w.heap.size w w' := by
  by_cases h : 0 ≤ n ∧ n ≤ 1099511627776
  · have hd : decide (0 ≤ n ∧ n ≤ 1099511627776) = true := decide_eq_true h
    have H := Lib.hid h
    rw [putB, putE, if_pos h, if_pos h]
    clear h
    go_enter Tryz.func84, Tryz.ntmps84
    go_wp2
    refine wp_scope_fwd ?_
    go_wp2_with (first | (go_at_call 105; refine (mayBePut_any _ _).mono ?_; rintro e w' ⟨rfl, rfl⟩; rw [hd]) | (go_at_call 106; refine (appendNumber_any n H.out.1 H.out.2 0 none 0 0 [] _ (World.ownsRow_nil _ _ _ _) (Nat.zero_le _) (Nat.zero_le _)).mono ?_; rintro e w' ⟨v, rfl, hown, hg, _⟩))
    refine fwd_ret ?_
    go_ret2
    refine ⟨v, rfl, ?_, below_of_none hg⟩
    have := Sl.of_own hown
    simpa using this
  · have hd : decide (0 ≤ n ∧ n ≤ 1099511627776) = false := decide_eq_false h
    rw [putB, putE, if_neg h, if_neg h]
    clear h
    go_enter Tryz.func84, Tryz.ntmps84
    go_wp2
    refine wp_scope_fwd ?_
    go_wp2_with (go_at_call 105; refine (mayBePut_any _ _).mono ?_; rintro e w' ⟨rfl, rfl⟩; rw [hd])
    go_step3
    refine ⟨_, rfl, ?_⟩
    go_wp2
    refine nog_ret ?_
    go_ret2
    exact ⟨_, rfl, .nil_ _, .refl _ _⟩
end Go.Proofs.YtaacjpcckinaiaaGreat.Num
set_option linter.unusedVariables false
set_option maxRecDepth 100000
set_option linter.unusedSimpArgs false
namespace Go.Proofs.YtaacjpcckinaiaaGreat.Num
open Go.RowKit Go.Shelf
attribute [local go_sem] Oper.semAt_some

/-- A slice that reads as bytes, the first one of which is there. -/
theorem _root_.Go.Proofs.YtaacjpcckinaiaaGreat.Sl.bytes_cons {w : World} {v : Value} {h : UInt8} {t : List UInt8} (H : Sl w v (bv (h :: t))) :
    ∃ b off c, v = .slice (some ⟨b, off, none⟩) (t.length + 1) c ∧ t.length + 1 ≤ c ∧ c ≤ maxLen ∧ b < w.heap.size ∧ w.cell? ⟨b, off, none⟩ = some (.int .u8 (h.toNat : Int)) ∧ ∀ j (hj : j < t.length), w.cell? ⟨b, off + 1 + j, none⟩ = some (.int .u8 (t[j].toNat : Int)) := by
  rcases H with ⟨_, h0⟩ | ⟨b, off, c, rfl, h1, h2, h3, h4⟩
  · simp [bv] at h0
  · rw [bv_length] at h1 ⊢
    refine ⟨b, off, c, rfl, h1, h2, h3, ?_, fun j hj => ?_⟩
    · exact h4 0 _ rfl
    · have := h4 (j + 1) _ (by rw [bv_get _ _ (by simpa using hj)])
      rw [show off + 1 + j = off + (j + 1) by omega]
      simpa using this
theorem _root_.Go.Proofs.YtaacjpcckinaiaaGreat.Sl.bytes_nil {w : World} {v : Value} (H : Sl w v (bv [])) : ∃ A c, v = .slice A 0 c := by
  rcases H with ⟨rfl, _⟩ | ⟨b, off, c, rfl, _⟩
  · exact ⟨_, _, rfl⟩
  · exact ⟨_, _, rfl⟩

set_option maxRecDepth 100000 in
set_option maxHeartbeats 400000 in
theorem number_nil (A : Option Addr) (c : Nat) (w : World) : Calls Tryz.prog 107 #[.slice A 0 c] w fun e w' => e = .returned (.tuple #[.int .i64 0, .int .i64 0, .int .i64 11]) ∧ Below w.heap.size w w' := by
  go_enter Tryz.func107, Tryz.ntmps107
  go_wp2
  refine wp_scope_fwd ?_
  go_wp2
  go_step3
  refine ⟨_, rfl, ?_⟩
  go_wp2
  refine nog_ret ?_
  exact bodyPost_ret (v := .tuple #[.int .i64 0, .int .i64 0, .int .i64 11]) (by simp [results, Tryz.results107, go_sem]) rfl ⟨rfl, (Below.refl _ _).alloc (Nat.le_refl _) _⟩

set_option maxRecDepth 100000 in
set_option maxHeartbeats 400000 in
theorem number_big (b off n c q : Nat) (w : World) (hq : 6 < q) (hq' : q < 256) (hb : b < w.heap.size) (hc : w.cell? ⟨b, off, none⟩ = some (.int .u8 (q : Int))) (hn : 0 < n) :
    Calls Tryz.prog 107 #[.slice (some ⟨b, off, none⟩) n c] w fun e w' => e = .returned (.tuple #[.int .i64 0, .int .i64 0, .int .i64 12]) ∧ Below w.heap.size w w' := by
  go_enter Tryz.func107, Tryz.ntmps107
  go_wp2
  refine wp_scope_fwd ?_
  go_wp2
  go_step3
  refine ⟨_, rfl, ?_⟩
  go_wp2
  refine nog_ret ?_
  exact bodyPost_ret (v := .tuple #[.int .i64 0, .int .i64 0, .int .i64 12]) (by simp [results, Tryz.results107, go_sem]) rfl ⟨rfl, (Below.refl _ _).alloc (Nat.le_refl _) _⟩

set_option maxRecDepth 100000 in
set_option maxHeartbeats 400000 in
theorem number_few (b off n c q : Nat) (w : World) (hq : q ≤ 6) (hb : b < w.heap.size) (hc : w.cell? ⟨b, off, none⟩ = some (.int .u8 (q : Int))) (hn : 0 < n) (hn' : n < 1 + q) :
    Calls Tryz.prog 107 #[.slice (some ⟨b, off, none⟩) n c] w fun e w' => e = .returned (.tuple #[.int .i64 0, .int .i64 0, .int .i64 11]) ∧ Below w.heap.size w w' := by
  go_enter Tryz.func107, Tryz.ntmps107
  go_wp2
  refine wp_scope_fwd ?_
  go_wp2
  go_step3
  refine ⟨_, rfl, ?_⟩
  go_wp2
  refine nog_ret ?_
  exact bodyPost_ret (v := .tuple #[.int .i64 0, .int .i64 0, .int .i64 11]) (by simp [results, Tryz.results107, go_sem]) rfl ⟨rfl, (Below.refl _ _).alloc (Nat.le_refl _) _⟩

set_option maxRecDepth 100000 in
set_option maxHeartbeats 400000 in
theorem number_nought (b off n c q : Nat) (w : World) (hq0 : 0 < q) (hq : q ≤ 6) (hb : b < w.heap.size) (hc : w.cell? ⟨b, off, none⟩ = some (.int .u8 (q : Int))) (hc1 : w.cell? ⟨b, off + 1, none⟩ = some (.int .u8 0)) (hn : 1 + q ≤ n) :
    Calls Tryz.prog 107 #[.slice (some ⟨b, off, none⟩) n c] w fun e w' => e = .returned (.tuple #[.int .i64 0, .int .i64 0, .int .i64 12]) ∧ Below w.heap.size w w' := by
  go_enter Tryz.func107, Tryz.ntmps107
  go_wp2
  refine wp_scope_fwd ?_
  go_wp2
  go_step3
  refine ⟨_, rfl, ?_⟩
  go_wp2
  refine nog_ret ?_
  exact bodyPost_ret (v := .tuple #[.int .i64 0, .int .i64 0, .int .i64 12]) (by simp [results, Tryz.results107, go_sem]) rfl ⟨rfl, (Below.refl _ _).alloc (Nat.le_refl _) _⟩

theorem ofInt_i64 (a : Nat) (ha : a < 9223372036854775808) : (BitVec.ofInt 64 (a : Int)).toNat = a := by
  rw [BitVec.ofInt_natCast, BitVec.toNat_ofNat]; exact Nat.mod_eq_of_lt (by omega)
theorem val_snoc_or (pre : List UInt8) (x : UInt8) (h : pre.length ≤ 5) : bits .or .i64 (wrap64 ((val pre : Int) * 256)) (x.toNat : Int) = (val (pre ++ [x]) : Int) := by
  have hp := val_lt pre
  have h5 : 256 ^ pre.length ≤ 256 ^ 5 := Nat.pow_le_pow_right (by omega) h
  have hx := x.toNat_lt
  have e1 : wrap64 ((val pre : Int) * 256) = ((val pre * 256 : Nat) : Int) := by unfold wrap64; omega
  have e2 : val pre * 256 ||| x.toNat = val pre * 256 + x.toNat := by
    have := Nat.shiftLeft_add_eq_or_of_lt hx (val pre)
    rw [Nat.shiftLeft_eq] at this
    exact this.symm
  rw [e1, val_snoc, ← e2]
  have hb : val pre * 256 ||| x.toNat < 2 ^ 63 := Nat.or_lt_two_pow (by omega) (by omega)
  show IntKind.i64.wrap ((BitVec.ofInt 64 ((val pre * 256 : Nat) : Int) ||| BitVec.ofInt 64 (x.toNat : Int)).toNat : Int) = _
  rw [BitVec.toNat_or, ofInt_i64 _ (by omega), ofInt_i64 _ (by omega), IntKind.wrap_i64]
  omega

theorem getD_zero (t : List UInt8) (h : 0 < t.length) : t.getD 0 0 = t[0] := by
  cases t with
  | nil => simp at h
  | cons a r => rfl
theorem _root_.Go.Proofs.YtaacjpcckinaiaaGreat.Sl.cut1 {b off c q : Nat} {t : List UInt8} {w : World} (hb : b < w.heap.size) (hn : q ≤ t.length) (hcc : t.length + 1 ≤ c) (hcm : c ≤ maxLen)
    (hcs : ∀ j (hj : j < t.length), w.cell? ⟨b, off + 1 + j, none⟩ = some (.int .u8 (t[j].toNat : Int))) : Sl w (.slice (some ⟨b, if c = 1 then off else off + 1, none⟩) q (c - 1)) (bv (t.take q)) := by
  have hl : (bv (t.take q)).length = q := by rw [bv_length, List.length_take]; omega
  refine .inr ⟨b, _, c - 1, by rw [hl], by omega, by omega, hb, fun j u hu => ?_⟩
  have hj : j < q := by
    rcases Nat.lt_or_ge j q with h | h
    · exact h
    · rw [List.getElem?_eq_none (by omega)] at hu; cases hu
  rw [if_neg (by omega), hcs j (by omega)]
  rw [bv_get _ _ (by rw [List.length_take]; omega)] at hu
  simpa using hu

set_option maxRecDepth 100000 in
set_option maxHeartbeats 2000000 in
theorem number_loop (b off n c : Nat) (q : UInt8) (t : List UInt8) (w : World) (hq : q.toNat ≤ 6) (hb : b < w.heap.size) (hn : q.toNat ≤ t.length) (hcc : t.length + 1 ≤ c) (hcm : c ≤ maxLen) (hc : w.cell? ⟨b, off, none⟩ = some (.int .u8 (q.toNat : Int)))
    (hcs : ∀ j (hj : j < t.length), w.cell? ⟨b, off + 1 + j, none⟩ = some (.int .u8 (t[j].toNat : Int))) (h0 : 0 < q.toNat → t.getD 0 0 ≠ 0) :
    Calls Tryz.prog 107 #[.slice (some ⟨b, off, none⟩) (t.length + 1) c] w fun e w' => e = .returned (.tuple (if 1099511627776 < val (t.take q.toNat) then #[.int .i64 0, .int .i64 0, .int .i64 12] else #[.int .i64 (val (t.take q.toNat)), .int .i64 (1 + q.toNat : Nat), .int .i64 0])) ∧ Below w.heap.size w w' := by
  have hq256 := q.toNat_lt
  have h1 : 0 < q.toNat → ∃ d : Nat, ((d : Int) == 0) = false ∧ w.cell? ⟨b, off + 1, none⟩ = some (.int .u8 (d : Int)) := fun h => by
    have hl : 0 < t.length := by omega
    have := hcs 0 hl
    refine ⟨t[0].toNat, ?_, by simpa using this⟩
    rw [beq_eq_false_iff_ne]
    intro e
    refine h0 h ?_
    rw [getD_zero _ hl]
    exact UInt8.toNat_inj.1 (by simpa using e)
  refine (callsIn_wide (n := 9)).1 (callsIn_of_wp_marks Tryz.func107 rfl trivial ?_ rfl)
  simp only [Tryz.ntmps107, List.size_toArray, List.length_cons, List.length_nil, Nat.reduceAdd, Nat.reduceSub, Array.replicate_succ, Array.replicate_zero, List.push_toArray, List.append_toArray, List.nil_append, List.cons_append]
  refine wpIn_wide.2 ?_
  have HS := Sl.cut1 hb hn hcc hcm hcs
  clear hcs
  obtain ⟨o1, ho1⟩ : ∃ o1, (if c = 1 then off else off + 1) = o1 := ⟨_, rfl⟩
  rw [ho1] at HS
  have HO := Lib.hid ho1
  clear ho1
  have H1 := Lib.hid h1
  clear h1
  go_wp2
  refine wp_scope_fwd ?_
  go_upto_region 5 with (fail)
  refine wp_to (fun a' W' => W' = w.alloc (.cells #[.int .i64 0] 3) ∧ ∃ u22 u23 u24 u25 u26 u27 u28, a' = { tmps := #[Value.slice (some { block := b, off := off }) (t.length + 1) c, undef,
          Value.pointer (some { block := w.heap.size, off := 0 }), Value.int IntKind.i64 (1 + ↑q.toNat),
          Value.int IntKind.i64 0, undef, Value.slice (some { block := b, off := off }) (t.length + 1) c,
          Value.int IntKind.i64 (↑t.length + 1), Value.bool false,
          Value.slice (some { block := b, off := off }) (t.length + 1) c,
          Value.pointer (some { block := b, off := off }), Value.int IntKind.u8 ↑q.toNat,
          Value.bool (decide (6 < (q.toNat : Int))), Value.slice (some { block := b, off := off }) (t.length + 1) c,
          Value.pointer (some { block := b, off := off }), Value.int IntKind.u8 ↑q.toNat,
          Value.int IntKind.i64 ↑q.toNat, Value.int IntKind.i64 (1 + ↑q.toNat),
          Value.slice (some { block := b, off := off }) (t.length + 1) c, Value.int IntKind.i64 (↑t.length + 1),
          Value.int IntKind.i64 (1 + ↑q.toNat), Value.bool (decide ((t.length : Int) + 1 < 1 + ↑q.toNat)), u22, u23, u24, u25, u26, u27, u28, .bool false, undef, undef, undef, undef, undef, undef, undef, undef, undef, undef, undef, undef, undef, undef], defers := [] }) ?_ ?_
  · by_cases hq0 : 0 < q.toNat
    · obtain ⟨d, hd, hcd⟩ := H1.out hq0
      go_wp2
      exact ⟨trivial, _, _, _, _, _, _, _, rfl⟩
    · go_wp2
  rintro a' W' ⟨rfl, u22, u23, u24, u25, u26, u27, u28, rfl⟩
  go_upto_region 6 with (fail)
  refine wp_to (fun a' W' => W' = (w.alloc (.cells #[.int .i64 0] 3)).alloc (.cells #[.slice (some ⟨b, o1, none⟩) q.toNat (c - 1)] 28) ∧ a' = { tmps := #[Value.slice (some { block := b, off := off }) (t.length + 1) c, undef,
          Value.pointer (some { block := w.heap.size, off := 0 }), Value.int IntKind.i64 (1 + ↑q.toNat),
          Value.int IntKind.i64 0, undef, Value.slice (some { block := b, off := off }) (t.length + 1) c,
          Value.int IntKind.i64 (↑t.length + 1), Value.bool false,
          Value.slice (some { block := b, off := off }) (t.length + 1) c,
          Value.pointer (some { block := b, off := off }), Value.int IntKind.u8 ↑q.toNat,
          Value.bool (decide (6 < (q.toNat : Int))), Value.slice (some { block := b, off := off }) (t.length + 1) c,
          Value.pointer (some { block := b, off := off }), Value.int IntKind.u8 ↑q.toNat,
          Value.int IntKind.i64 ↑q.toNat, Value.int IntKind.i64 (1 + ↑q.toNat),
          Value.slice (some { block := b, off := off }) (t.length + 1) c, Value.int IntKind.i64 (↑t.length + 1),
          Value.int IntKind.i64 (1 + ↑q.toNat), Value.bool (decide ((t.length : Int) + 1 < 1 + ↑q.toNat)), u22, u23, u24, u25, u26, u27, u28, .bool false, Value.slice (some { block := b, off := off }) (t.length + 1) c, Value.int IntKind.i64 (1 + ↑q.toNat), .slice (some ⟨b, o1, none⟩) q.toNat (c - 1), .func (.func 135) #[] #[.pointer (some ⟨w.heap.size + 1, 0, none⟩)], undef, undef, undef, undef, undef, undef, undef, undef, undef, undef], defers := [] }) ?_ ?_
  · by_cases hc1 : c ≤ 1
    · obtain rfl : off = o1 := by have := HO.out; rwa [if_pos (by omega)] at this
      go_wp2_with (go_at_call 127; refine (values23_any _ _ _ _).mono ?_; rintro e w' ⟨rfl, rfl⟩)
      all_goals
        obtain rfl : c = 1 := by omega
        exact ⟨rfl, rfl⟩
    · obtain rfl : off + 1 = o1 := by have := HO.out; rwa [if_neg (by omega)] at this
      go_wp2_with (go_at_call 127; refine (values23_any _ _ _ _).mono ?_; rintro e w' ⟨rfl, rfl⟩)
      all_goals first | exact ⟨trivial, trivial⟩ | exact ⟨rfl, rfl⟩
  rintro a' W' ⟨rfl, rfl⟩
  have bN := Boxed.new w 3 (.int .i64 0)
  have bS := Boxed.new (w.alloc (.cells #[.int .i64 0] 3)) 28 (.slice (some ⟨b, o1, none⟩) q.toNat (c - 1))
  rw [World.size_alloc] at bS
  have hB0 : Below w.heap.size w ((w.alloc (.cells #[.int .i64 0] 3)).alloc (.cells #[.slice (some ⟨b, o1, none⟩) q.toNat (c - 1)] 28)) := ((Below.refl _ w).alloc (Nat.le_refl _) _).alloc (by simp) _
  have hlt : (t.take q.toNat).length = q.toNat := by rw [List.length_take]; omega
  have HL := Lib.hid hlt
  clear hlt
  go_wp2_with fail
  refine wp_range (gf := 135) (lb := #[.pointer (some ⟨w.heap.size + 1, 0, none⟩)]) rfl (enters_of Tryz.func135 (by kernel_rfl) rfl)
    (vals23_stops 8 (w.heap.size + 1) (fun k => k = b) (.slice (some ⟨b, o1, none⟩) q.toNat (c - 1)) (t.take q.toNat) (by rw [HL.out]; omega) _ (by simp) bS.cell ((HS.alloc _).alloc _) (by intro k hk; simpa [Value.ownBlock] using hk.symm)) (by rintro k rfl; simp; omega) (fun _ => rfl)
    (fun pre W => (Boxed W w.heap.size 3 (.int .i64 (val pre))) ∧ Below w.heap.size w W)
    (fun _ _ _ => False)
    (OwnFrom.and (Own.from (boxed_own w.heap.size 3 (fun pre => .int .i64 (val pre))) _) (ownFrom_below (Nat.le_refl _) (by simp; omega)))
    (fun _ _ _ _ _ hs _ _ => hs)
    ⟨bN.alloc _, hB0⟩
    (fun x => { tmps := #[Value.slice (some { block := b, off := off }) (t.length + 1) c, undef,
          Value.pointer (some { block := w.heap.size, off := 0 }), Value.int IntKind.i64 (1 + ↑q.toNat),
          Value.int IntKind.i64 0, .int .u8 (x.toNat : Int), Value.slice (some { block := b, off := off }) (t.length + 1) c,
          Value.int IntKind.i64 (↑t.length + 1), Value.bool false,
          Value.slice (some { block := b, off := off }) (t.length + 1) c,
          Value.pointer (some { block := b, off := off }), Value.int IntKind.u8 ↑q.toNat,
          Value.bool (decide (6 < (q.toNat : Int))), Value.slice (some { block := b, off := off }) (t.length + 1) c,
          Value.pointer (some { block := b, off := off }), Value.int IntKind.u8 ↑q.toNat,
          Value.int IntKind.i64 ↑q.toNat, Value.int IntKind.i64 (1 + ↑q.toNat),
          Value.slice (some { block := b, off := off }) (t.length + 1) c, Value.int IntKind.i64 (↑t.length + 1),
          Value.int IntKind.i64 (1 + ↑q.toNat), Value.bool (decide ((t.length : Int) + 1 < 1 + ↑q.toNat)), u22, u23, u24, u25, u26, u27, u28, .bool false, Value.slice (some { block := b, off := off }) (t.length + 1) c, Value.int IntKind.i64 (1 + ↑q.toNat), .slice (some ⟨b, o1, none⟩) q.toNat (c - 1), .func (.func 135) #[] #[.pointer (some ⟨w.heap.size + 1, 0, none⟩)], .int .u8 (x.toNat : Int), undef, undef, undef, undef, undef, undef, undef, undef, undef], defers := [] }) ?assign ?body ?done ?stop
  case assign =>
    intro l x W K hK
    gi_wp2
    exact hK
  case body =>
    rintro l pre x W ⟨hv, hW⟩ hlt
    rw [HL.out] at hlt
    have hc := hv.cell
    have hf := hv.frozen
    have hx := x.toNat_lt
    have hp := val_lt pre
    have hor := val_snoc_or pre x (by omega)
    have HR := Lib.hid hor
    clear hor
    gi_wp2
    rw [HR.out]
    refine ⟨(KeepsOthers.setCell _ _ _).from _, Kps.set _ ?_ _, hv.set _, hW.setCell (p := ⟨w.heap.size, 0, none⟩) (Nat.le_refl _) _⟩
    rintro k rfl
    show k ≠ w.heap.size
    omega
  case done =>
    rintro D ys W hDs rfl ⟨hv, hW⟩ hK
    have hc := hv.cell
    have hf := hv.frozen
    have hD : w.heap.size < D := by simp at hDs; omega
    have HK := Lib.hid hK
    clear hK
    by_cases hbig : 1099511627776 < val (t.take q.toNat)
    · go_wp2
      go_step3
      refine ⟨_, rfl, ?_⟩
      go_wp2
      refine nog_ret ?_
      have hK' := (KeepsOthers.setCell W ⟨w.heap.size, 0, none⟩ (.int .i64 0)).same D _ HK.out rfl
      refine ⟨by simp, .inl ⟨_, _, rfl, run_takeDeferred hK', ?_⟩⟩
      have hc5 := cell_kept (hv.set (.int .i64 0)).cell (grownBy_putObj' _ D (.deferred none)) (fun r e => by cases e; exact ⟨_, hK', rfl⟩)
      refine ⟨.tuple #[.int .i64 0, .int .i64 0, .int .i64 12], by simp [results, Tryz.results107, go_sem, hc5], by rw [if_pos hbig], (hW.setCell (p := ⟨w.heap.size, 0, none⟩) (Nat.le_refl _) _).trans (belowK_b (w := w) (Nat.le_refl _) _ D _ _ (by omega) hK' rfl rfl)⟩
    · go_wp2
      refine fwd_ret ?_
      have hK' := (KeepsOthers.setCell W ⟨w.heap.size, 0, none⟩ (.int .i64 (val (t.take q.toNat)))).same D _ HK.out rfl
      refine ⟨by simp, .inl ⟨_, _, rfl, run_takeDeferred hK', ?_⟩⟩
      have hc5 := cell_kept (hv.set (.int .i64 (val (t.take q.toNat)))).cell (grownBy_putObj' _ D (.deferred none)) (fun r e => by cases e; exact ⟨_, hK', rfl⟩)
      refine ⟨.tuple #[.int .i64 (val (t.take q.toNat)), .int .i64 (1 + q.toNat : Nat), .int .i64 0], by simp [results, Tryz.results107, go_sem, hc5], by rw [if_neg hbig], (hW.setCell (p := ⟨w.heap.size, 0, none⟩) (Nat.le_refl _) _).trans (belowK_b (w := w) (Nat.le_refl _) _ D _ _ (by omega) hK' rfl rfl)⟩
  case stop =>
    rintro D c pre W _ _ h _
    exact h.elim

theorem number_any (v : Value) (l : List UInt8) (w : World) (h : Sl w v (bv l)) :
    Calls Tryz.prog 107 #[v] w fun e w' => e = .returned (.tuple #[.int .i64 ((takeE l).1 : Nat), .int .i64 ((takeE l).2.1 : Nat), .int .i64 ((takeE l).2.2 : Nat)]) ∧ Below w.heap.size w w' := by
  cases l with
  | nil =>
    obtain ⟨A, c, rfl⟩ := h.bytes_nil
    exact number_nil A c w
  | cons q t =>
    obtain ⟨b, off, c, rfl, h1, h2, h3, h4, h5⟩ := h.bytes_cons
    have hq := q.toNat_lt
    by_cases k1 : 6 < q.toNat
    · have e : takeE (q :: t) = (0, 0, 12) := by simp only [takeE]; rw [if_pos k1]
      rw [e]
      exact number_big b off _ c q.toNat w k1 (by omega) h3 h4 (by omega)
    by_cases k2 : t.length < q.toNat
    · have e : takeE (q :: t) = (0, 0, 11) := by simp only [takeE]; rw [if_neg k1, if_pos k2]
      rw [e]
      exact number_few b off _ c q.toNat w (by omega) h3 h4 (by omega) (by omega)
    by_cases k3 : 0 < q.toNat ∧ t.getD 0 0 = 0
    · have e : takeE (q :: t) = (0, 0, 12) := by simp only [takeE]; rw [if_neg k1, if_neg k2, if_pos (.inl k3)]
      rw [e]
      have hl : 0 < t.length := by omega
      refine number_nought b off _ c q.toNat w k3.1 (by omega) h3 h4 ?_ (by omega)
      have := h5 0 hl
      rw [getD_zero _ hl] at k3
      rw [k3.2] at this
      simpa using this
    refine (number_loop b off 0 c q t w (by omega) h3 (by omega) h1 h2 h4 h5 (fun h h0 => k3 ⟨h, h0⟩)).mono ?_
    rintro e w' ⟨rfl, hb⟩
    refine ⟨?_, hb⟩
    simp only [takeE]
    rw [if_neg k1, if_neg k2]
    by_cases k4 : 1099511627776 < val (t.take q.toNat)
    · rw [if_pos k4, if_pos (.inr k4)]; rfl
    · rw [if_neg k4, if_neg (by rintro (h | h); exact k3 h; exact k4 h)]; rfl

theorem _root_.Go.Proofs.YtaacjpcckinaiaaGreat.Sl.form {w : World} {v : Value} {xs : List Value} (h : Sl w v xs) : ∃ A c, v = .slice A xs.length c := by
  rcases h with ⟨rfl, rfl⟩ | ⟨b, off, c, rfl, _⟩
  · exact ⟨_, _, rfl⟩
  · exact ⟨_, _, rfl⟩
/-- What stands behind a number; nothing with an error. -/
def restT (l : List UInt8) : List UInt8 := if (takeE l).2.2 = 0 then l.drop (takeE l).2.1 else []
theorem bv_drop (l : List UInt8) (k : Nat) : (bv l).drop k = bv (l.drop k) := by simp [bv]
theorem bv_take (l : List UInt8) (k : Nat) : (bv l).take k = bv (l.take k) := by simp [bv]

set_option maxHeartbeats 1000000 in
theorem Take_any (v : Value) (l : List UInt8) (w : World) (h : Sl w v (bv l)) (hl : l.length ≤ 140737488355328) :
    Calls Tryz.prog 86 #[v] w fun e w' => ∃ v', e = .returned (.tuple #[.int .i64 ((takeE l).1 : Nat), v', .int .i64 ((takeE l).2.2 : Nat)]) ∧ Slf w.heap.size w' v' (bv (restT l)) ∧ Below w.heap.size w w' := by
  have hN := number_any v l w h
  obtain ⟨A0, c0, rfl⟩ := h.form
  have hT := num_takeE l
  have hE := takeE_err l
  rw [restT]
  generalize hr : takeE l = r at *
  obtain ⟨n, k, er⟩ := r
  dsimp only at *
  have HN := Lib.hid hN
  clear hN
  by_cases he : er = 0
  · subst he
    obtain ⟨-, -, hk, -⟩ := hT rfl
    clear hE hr hT
    rw [if_pos rfl]
    have H := Lib.hid h
    clear h
    go_enter Tryz.func86, Tryz.ntmps86
    go_wp2
    refine wp_scope_fwd ?_
    go_wp2_with (first
      | (go_at_call 107; refine HN.out.mono ?_; rintro e w1 ⟨rfl, hb1⟩)
      | (with_reducible show wpList _ _ _ (Oper.mk _ (Op.slice _ _ _ _ _) _ _ _ _ :: _) _ _
         refine wpList_cut el23 rfl (.tmp 15) (some (.tmp 16)) none rfl _ _ rfl (H.out.below hb1) k (bv l).length (by rw [bv_length]; exact hk) (Nat.le_refl _) (.inl rfl) (.inr ⟨rfl, rfl⟩) ?_
         intro A1 c1 hs1
         rw [List.take_length, bv_drop] at hs1)
      | (go_at_call 108; refine (own_any _ _ _ hs1 (by rw [List.length_drop]; omega)).mono ?_; rintro e w2 ⟨v2, rfl, hs2, hb2⟩))
    refine fwd_ret ?_
    refine bodyPost_ret (results_tmp3 rfl _ _ _) rfl ?_
    exact ⟨v2, rfl, hs2.mono hb1.size, hb1.trans (hb2.mono hb1.size)⟩
  · have hz : (er : Int) != 0 := by rw [bne_iff_ne]; omega
    have hn : n = 0 := by
      rcases hE with h | h | h
      · exact absurd h he
      · injection h
      · injection h
    subst hn
    clear hE hr hT h
    rw [if_neg he]
    clear he
    go_enter Tryz.func86, Tryz.ntmps86
    go_wp2
    refine wp_scope_fwd ?_
    go_wp2_with (go_at_call 107; refine HN.out.mono ?_; rintro e w1 ⟨rfl, hb1⟩)
    go_step3
    refine ⟨_, rfl, ?_⟩
    go_wp2
    refine nog_ret ?_
    refine bodyPost_ret (results_tmp3 rfl _ _ _) rfl ?_
    exact ⟨_, rfl, Slf.nil_ _ _, hb1⟩
end Go.Proofs.YtaacjpcckinaiaaGreat.Num
