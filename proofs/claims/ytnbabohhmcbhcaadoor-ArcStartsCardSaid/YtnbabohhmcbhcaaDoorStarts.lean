/- 'ArcStarts': starts rise, each twice as far as the one ahead; moved, all ways are as they were: for any numbers, the table of starts laid. -/
import Derived.Test.YtnbabohhmcbhcaaDoorWakes
set_option linter.unusedVariables false
set_option linter.unusedSimpArgs false
namespace Go.Proofs.YtnbabohhmcbhcaaDoor
open Go.RowKit Go.Shelf

theorem far_start (a : Int) (i : Nat) (h : i < 16) : far a (stI a i) = 2 ^ i := by
  have := pow_16 i h
  unfold stI
  rw [if_pos ⟨by omega, by omega⟩, Int.toNat_natCast]
  generalize (2 : Int) ^ i = t at *
  unfold far pl
  omega
theorem stI_num (a i : Int) : Num (stI a i) := by unfold stI; split <;> exact pl_num _
theorem far_moved (a b c : Int) : far (pl a + pl c) (pl b + pl c) = far a b := by unfold far pl; omega
theorem in_moved (a x b c : Int) : inB (pl a + pl c) (pl x + pl c) (pl b + pl c) = inB a x b := by unfold inB rnd; simp only [far_moved]

set_option maxRecDepth 100000 in
set_option maxHeartbeats 4000000 in
theorem starts_walk (W : World) (hT : Tab W) (a : Int) (w0 : (Lit.int .i64 a).wf = true) (b : Int) (w1 : (Lit.int .i64 b).wf = true) (x : Int) (w2 : (Lit.int .i64 x).wf = true) (c : Int) (w3 : (Lit.int .i64 c).wf = true) :
    Calls Tryd.prog 6 #[.int .i64 a, .int .i64 b, .int .i64 x, .int .i64 c] W fun e w' => e = .returned (.bool true) ∧ Below W.heap.size W w' := by
  have ha : Num a := bounds_i64 w0
  have hb : Num b := bounds_i64 w1
  have hx : Num x := bounds_i64 w2
  have hc : Num c := bounds_i64 w3
  clear w0 w1 w2 w3
  have hm : ∀ u v : Int, Num (pl u + pl v) := fun u v => by have := pl_bd u; have := pl_bd v; exact ⟨by omega, by omega⟩
  have p1 := fun w => place_any a w ha
  have p2 := fun w => place_any c w hc
  have p3 := fun w => place_any b w hb
  have p4 := fun w => place_any x w hx
  have f1 := fun w => far_any (pl a + pl c) (pl b + pl c) w (hm _ _) (hm _ _)
  have f2 := fun w => far_any a b w ha hb
  have i1 := fun w => in_any (pl a + pl c) (pl x + pl c) (pl b + pl c) w (hm _ _) (hm _ _) (hm _ _)
  have i2 := fun w => in_any a x b w ha hx hb
  have s1 := fun w h => start_any a (-1) w ha ⟨by omega, by omega⟩ h
  have st := fun (i : Nat) (hi : i < 16) w h => start_any a i w ha ⟨by omega, by omega⟩ h
  have fs := fun (i : Nat) (hi : i < 16) w => far_any a (stI a i) w ha (stI_num a i)
  rw [far_moved] at f1
  rw [in_moved] at i1
  rw [show stI a (-1) = pl a by unfold stI; rw [if_neg (by omega)]] at s1
  have k1 := pl_bd a
  have k2 := pl_bd b
  have k3 := pl_bd x
  have k4 := pl_bd c
  have HT := Lib.hid hT
  have hT0 := hT.size
  have WK := Lib.hid wakes_any
  have ST := Lib.hid st
  have FS := Lib.hid fs
  clear ha hb hx hc hm hT st fs
  generalize pl a = pa at *
  generalize pl b = pb at *
  generalize pl x = px at *
  generalize pl c = pc at *
  generalize far a b = f at *
  generalize inB a x b = g at *
  go_enter Tryd.func6, Tryd.ntmps6
  go_wp2
  go_loopw [9, 10] (fun t i w => ∃ k : Nat, k ≤ 16 ∧ i = .int .i64 k ∧ t = .int .i64 (2 ^ k) ∧ Below W.heap.size W w) (fun _ i _ => 16 - (intOf i).toNat)
  case atStart => exact ⟨0, by omega, rfl, rfl, Below.refl _ _⟩
  case round =>
    obtain ⟨k, hk, rfl, rfl, hB⟩ := hrel
    by_cases hlt : k < 16
    · have hp := pow_16 k hlt
      have e2 : (2 : Int) ^ (k + 1) = 2 * 2 ^ k := by rw [Int.pow_succ]; omega
      have E2 := Lib.hid e2
      have a1 := ST.out k hlt
      have a2 := FS.out k hlt
      rw [far_start a k hlt] at a2
      clear e2
      generalize stI a k = s at *
      generalize (2 : Int) ^ k = t at *
      go_wp2_with fail
      refine (a1 _ (HT.out.below hT0 hB)).mono ?_; rintro e w3 ⟨rfl, hm⟩
      replace hB := hB.trans ((below_drewN hm).mono hB.size)
      clear hm
      go_wp2_with fail
      refine (a2 _).mono ?_; rintro e w' ⟨rfl, rfl⟩
      go_wp2
      go_roundw
      case rel => exact ⟨k + 1, by omega, by go_num, by rw [E2.out], hB⟩
      case measure => simp [intOf]; omega
    · obtain rfl : k = 16 := by omega
      go_wp2_with fail
      refine (p1 _).mono ?_; rintro e w' ⟨rfl, rfl⟩
      go_wp2_with fail
      refine (p2 _).mono ?_; rintro e w' ⟨rfl, rfl⟩
      go_wp2_with fail
      refine (p3 _).mono ?_; rintro e w' ⟨rfl, rfl⟩
      go_wp2_with fail
      refine (p2 _).mono ?_; rintro e w' ⟨rfl, rfl⟩
      go_wp2_with fail
      refine (p4 _).mono ?_; rintro e w' ⟨rfl, rfl⟩
      go_wp2_with fail
      refine (p2 _).mono ?_; rintro e w' ⟨rfl, rfl⟩
      go_wp2_with fail
      refine (f1 _).mono ?_; rintro e w' ⟨rfl, rfl⟩
      go_wp2_with fail
      refine (f2 _).mono ?_; rintro e w' ⟨rfl, rfl⟩
      go_wp2_with fail
      refine (i1 _).mono ?_; rintro e w' ⟨rfl, rfl⟩
      go_wp2_with fail
      refine (i2 _).mono ?_; rintro e w' ⟨rfl, rfl⟩
      go_wp2_with fail
      refine (s1 _ (HT.out.below hT0 hB)).mono ?_; rintro e w3 ⟨rfl, hm⟩
      replace hB := hB.trans ((below_drewN hm).mono hB.size)
      clear hm
      go_wp2_with fail
      refine (p1 _).mono ?_; rintro e w' ⟨rfl, rfl⟩
      go_wp2_with fail
      refine (WK.out _ (HT.out.below hT0 hB)).mono ?_; rintro e w4 ⟨rfl, hb⟩
      replace hB := hB.trans (hb.mono hB.size)
      go_wp2
      go_ret
      exact ⟨rfl, hB⟩
end Go.Proofs.YtnbabohhmcbhcaaDoor
