/- Numbers as parts: put and taken. -/
import Derived.Test.YtaacjpcckinaiaaGreatWFlag
import Derived.Test.YtaacjpcckinaiaaGreatNumB
import Derived.Deep.RegionHeld3
set_option linter.unusedVariables false
set_option maxRecDepth 100000
set_option linter.unusedSimpArgs false
namespace Go.Proofs.YtaacjpcckinaiaaGreat
open Go.RowKit Go.Shelf Ms

theorem wrap_i64 {x : Int} (h0 : 0 ≤ x) (h1 : x ≤ 1099511627776) : IntKind.i64.wrap x = x := by rw [IntKind.wrap_i64]; omega
theorem putB_ok {n : Int} (h : 0 ≤ n ∧ n ≤ 1099511627776) : Num.putB n = Num.num n.toNat ∧ Num.putE n = 0 := by unfold Num.putB Num.putE; rw [if_pos h, if_pos h]; exact ⟨rfl, rfl⟩

theorem wrap_i64' {x : Int} (h0 : -1 ≤ x) (h1 : x ≤ 1099511627776) : IntKind.i64.wrap x = x := by rw [IntKind.wrap_i64]; omega
theorem wrap_u8' (x : Int) : IntKind.u8.wrap x = x % 256 := by rw [IntKind.wrap_u8]
set_option maxHeartbeats 2000000 in
theorem numI_put (g h : Nat) (p : Addr) (n more : Int) (w : World) (hg : Boxed w g 93 (.pointer (some p))) (hh : Boxed w h 3 (.int .i64 more)) (hp : p.block < w.heap.size) (hc : w.cell? p = some (.int .i64 n)) (hr : 0 ≤ n + more ∧ n + more ≤ 1099511627776) :
    Calls Tryz.prog 87 #[ptr g, ptr h] w fun e w' => ∃ v, e = .returned v ∧ Sl w' v (bv (Num.num (n + more).toNat)) ∧ Below w.heap.size w w' := by
  have hw := wrap_i64 hr.1 hr.2

  have hP := fun W => Num.Put_any (n + more) W
  rw [(putB_ok hr).1, (putB_ok hr).2] at hP
  have HP := Lib.hid hP
  have cg := hg.cell
  have ch := hh.cell
  have hK : ∀ W W', Below w.heap.size w W ∧ W.cell? ⟨g, 0, none⟩ = some (.pointer (some p)) ∧ W.cell? p = some (.int .i64 n) ∧ W.cell? ⟨h, 0, none⟩ = some (.int .i64 more) → Below W.heap.size W W' → Below w.heap.size w W' ∧ W'.cell? ⟨g, 0, none⟩ = some (.pointer (some p)) ∧ W'.cell? p = some (.int .i64 n) ∧ W'.cell? ⟨h, 0, none⟩ = some (.int .i64 more) :=
    fun W W' hW hb => have h2 := hW.1.trans (hb.mono hW.1.size); ⟨h2, (h2.cell hg.lt).trans cg, (h2.cell hp).trans hc, (h2.cell hh.lt).trans ch⟩
  have HK := Lib.hid hK
  clear hK hP hg hh hr hp
  generalize hx : n + more = x at *
  go_enter Tryz.func87, Tryz.ntmps87
  go_wp2_with fail
  go_region_held3 (fun W => Below w.heap.size w W ∧ W.cell? ⟨g, 0, none⟩ = some (.pointer (some p)) ∧ W.cell? p = some (.int .i64 n) ∧ W.cell? ⟨h, 0, none⟩ = some (.int .i64 more))
    (first
      | exact ⟨(Below.refl _ w).drew, cg, hc, ch⟩
      | assumption
      | exact HK.out _ _ (by assumption) (by assumption))
    (first
      | (go_at_call 84; refine (HP.out _).mono ?_; rintro e w1 ⟨v, rfl, hs, hb⟩))
  have hB : Below w.heap.size w w1 := (And.left (by assumption))
  go_wp2_with (go_at_call 45; refine (must_yes _ _).mono ?_; rintro e w2 ⟨rfl, rfl⟩)
  go_ret
  exact ⟨v, rfl, hs, hB⟩
set_option maxHeartbeats 2000000 in
theorem numI_take (g h : Nat) (p : Addr) (x0 : Value) (more : Int) (v : Value) (bs : List UInt8) (w : World) (hg : Boxed w g 93 (.pointer (some p))) (hh : Boxed w h 3 (.int .i64 more)) (hm : 0 ≤ more ∧ more ≤ 1) (hp : p.block < w.heap.size) (hc : w.cell? p = some x0) (hz : w.frozen? p = false) (hs : Sl w v (bv bs)) (hl : bs.length ≤ 140737488355328) (h0 : (Num.takeE bs).2.2 = 0) :
    Calls Tryz.prog 88 #[v, ptr h, ptr g] w fun e w' => ∃ v' w1, e = .returned v' ∧ w' = w1.setCell p (.int .i64 ((Num.takeE bs).1 - more)) ∧ Below w.heap.size w w1 ∧ Slf w.heap.size w1 v' (bv (Num.restT bs)) := by
  have hT := fun W hb => Num.Take_any v bs W (hs.below hb) hl
  obtain ⟨hk, -⟩ := Num.num_takeE bs h0
  have hw : IntKind.i64.wrap (((Num.takeE bs).1 : Int) - more) = ((Num.takeE bs).1 : Int) - more := wrap_i64' (by omega) (by omega)
  rw [h0] at hT
  have HT := Lib.hid hT
  clear hT hk h0 hs hm
  generalize ((Num.takeE bs).1 : Int) = n at *
  go_enter Tryz.func88, Tryz.ntmps88
  go_wp2_with fail
  refine (HT.out _ (Below.refl _ _)).mono ?_
  rintro e w1 ⟨v', rfl, hs1, hb1⟩
  have cg := (boxed_below hg hb1).cell
  have ch := (boxed_below hh hb1).cell
  have cp := (hb1.cell hp).trans hc
  have zp := (hb1.frozen hp).trans hz
  go_wp2_with (go_at_call 45; refine (must_yes _ _).mono ?_; rintro e w2 ⟨rfl, rfl⟩)
  go_ret
  exact ⟨v', w1, rfl, rfl, hb1, hs1⟩
set_option maxHeartbeats 2000000 in
theorem numI_fall (g h : Nat) (v : Value) (bs : List UInt8) (w : World) (hs : Sl w v (bv bs)) (hl : bs.length ≤ 140737488355328) (h0 : (Num.takeE bs).2.2 ≠ 0) :
    Calls Tryz.prog 88 #[v, ptr h, ptr g] w fun e w' => e = .panicked (wrong 12) ∧ Below w.heap.size w w' := by
  have hT := fun W hb => Num.Take_any v bs W (hs.below hb) hl
  have hz : (((Num.takeE bs).2.2 : Int) == 0) = false := by rw [beq_eq_false_iff_ne]; omega
  have HT := Lib.hid hT
  clear hT h0 hs
  generalize ((Num.takeE bs).2.2 : Int) = n at *
  go_enter Tryz.func88, Tryz.ntmps88
  go_wp2_with fail
  refine (HT.out _ (Below.refl _ _)).mono ?_
  rintro e w1 ⟨v', rfl, hs1, hb1⟩
  go_wp2_with (go_at_call 45; refine (must_no _ _).mono ?_; rintro e w2 ⟨rfl, rfl⟩)
  exact ⟨rfl, rfl, hb1⟩
set_option maxHeartbeats 2000000 in
theorem numU_put (g h : Nat) (p : Addr) (n more : Int) (w : World) (hg : Boxed w g 91 (.pointer (some p))) (hh : Boxed w h 3 (.int .i64 more)) (hp : p.block < w.heap.size) (hc : w.cell? p = some (.int .u8 n)) (hr : 0 ≤ n + more ∧ n + more ≤ 1099511627776) (hn : 0 ≤ n ∧ n ≤ 255) :
    Calls Tryz.prog 83 #[ptr g, ptr h] w fun e w' => ∃ v, e = .returned v ∧ Sl w' v (bv (Num.num (n + more).toNat)) ∧ Below w.heap.size w w' := by
  have hw := wrap_i64 hr.1 hr.2
  have hv : IntKind.i64.wrap n = n := wrap_i64 hn.1 (by omega)
  have hP := fun W => Num.Put_any (n + more) W
  rw [(putB_ok hr).1, (putB_ok hr).2] at hP
  have HP := Lib.hid hP
  have cg := hg.cell
  have ch := hh.cell
  have hK : ∀ W W', Below w.heap.size w W ∧ W.cell? ⟨g, 0, none⟩ = some (.pointer (some p)) ∧ W.cell? p = some (.int .u8 n) ∧ W.cell? ⟨h, 0, none⟩ = some (.int .i64 more) → Below W.heap.size W W' → Below w.heap.size w W' ∧ W'.cell? ⟨g, 0, none⟩ = some (.pointer (some p)) ∧ W'.cell? p = some (.int .u8 n) ∧ W'.cell? ⟨h, 0, none⟩ = some (.int .i64 more) :=
    fun W W' hW hb => have h2 := hW.1.trans (hb.mono hW.1.size); ⟨h2, (h2.cell hg.lt).trans cg, (h2.cell hp).trans hc, (h2.cell hh.lt).trans ch⟩
  have HK := Lib.hid hK
  clear hK hP hg hh hr hp hn
  generalize hx : n + more = x at *
  go_enter Tryz.func83, Tryz.ntmps83
  go_wp2_with fail
  go_region_held3 (fun W => Below w.heap.size w W ∧ W.cell? ⟨g, 0, none⟩ = some (.pointer (some p)) ∧ W.cell? p = some (.int .u8 n) ∧ W.cell? ⟨h, 0, none⟩ = some (.int .i64 more))
    (first
      | exact ⟨(Below.refl _ w).drew, cg, hc, ch⟩
      | assumption
      | exact HK.out _ _ (by assumption) (by assumption))
    (first
      | (go_at_call 84; refine (HP.out _).mono ?_; rintro e w1 ⟨v, rfl, hs, hb⟩))
  have hB : Below w.heap.size w w1 := (And.left (by assumption))
  go_wp2_with (go_at_call 45; refine (must_yes _ _).mono ?_; rintro e w2 ⟨rfl, rfl⟩)
  go_ret
  exact ⟨v, rfl, hs, hB⟩
set_option maxHeartbeats 2000000 in
theorem numU_take (g h : Nat) (p : Addr) (x0 : Value) (more : Int) (v : Value) (bs : List UInt8) (w : World) (hg : Boxed w g 91 (.pointer (some p))) (hh : Boxed w h 3 (.int .i64 more)) (hm : 0 ≤ more ∧ more ≤ 1) (hp : p.block < w.heap.size) (hc : w.cell? p = some x0) (hz : w.frozen? p = false) (hs : Sl w v (bv bs)) (hl : bs.length ≤ 140737488355328) (h0 : (Num.takeE bs).2.2 = 0) :
    Calls Tryz.prog 85 #[v, ptr h, ptr g] w fun e w' => ∃ v' w1, e = .returned v' ∧ w' = w1.setCell p (.int .u8 (((Num.takeE bs).1 - more) % 256)) ∧ Below w.heap.size w w1 ∧ Slf w.heap.size w1 v' (bv (Num.restT bs)) := by
  have hT := fun W hb => Num.Take_any v bs W (hs.below hb) hl
  obtain ⟨hk, -⟩ := Num.num_takeE bs h0
  have hw : IntKind.i64.wrap (((Num.takeE bs).1 : Int) - more) = ((Num.takeE bs).1 : Int) - more := wrap_i64' (by omega) (by omega)
  rw [h0] at hT
  have HT := Lib.hid hT
  clear hT hk h0 hs hm
  generalize ((Num.takeE bs).1 : Int) = n at *
  go_enter Tryz.func85, Tryz.ntmps85
  go_wp2_with fail
  refine (HT.out _ (Below.refl _ _)).mono ?_
  rintro e w1 ⟨v', rfl, hs1, hb1⟩
  have cg := (boxed_below hg hb1).cell
  have ch := (boxed_below hh hb1).cell
  have cp := (hb1.cell hp).trans hc
  have zp := (hb1.frozen hp).trans hz
  go_wp2_with (go_at_call 45; refine (must_yes _ _).mono ?_; rintro e w2 ⟨rfl, rfl⟩)
  go_ret
  exact ⟨v', w1, rfl, rfl, hb1, hs1⟩
set_option maxHeartbeats 2000000 in
theorem numU_fall (g h : Nat) (v : Value) (bs : List UInt8) (w : World) (hs : Sl w v (bv bs)) (hl : bs.length ≤ 140737488355328) (h0 : (Num.takeE bs).2.2 ≠ 0) :
    Calls Tryz.prog 85 #[v, ptr h, ptr g] w fun e w' => e = .panicked (wrong 12) ∧ Below w.heap.size w w' := by
  have hT := fun W hb => Num.Take_any v bs W (hs.below hb) hl
  have hz : (((Num.takeE bs).2.2 : Int) == 0) = false := by rw [beq_eq_false_iff_ne]; omega
  have HT := Lib.hid hT
  clear hT h0 hs
  generalize ((Num.takeE bs).2.2 : Int) = n at *
  go_enter Tryz.func85, Tryz.ntmps85
  go_wp2_with fail
  refine (HT.out _ (Below.refl _ _)).mono ?_
  rintro e w1 ⟨v', rfl, hs1, hb1⟩
  go_wp2_with (go_at_call 45; refine (must_no _ _).mono ?_; rintro e w2 ⟨rfl, rfl⟩)
  exact ⟨rfl, rfl, hb1⟩
set_option maxHeartbeats 2000000 in
theorem numE_put (g h : Nat) (p : Addr) (n more : Int) (w : World) (hg : Boxed w g 114 (.pointer (some p))) (hh : Boxed w h 3 (.int .i64 more)) (hp : p.block < w.heap.size) (hc : w.cell? p = some (.int .i64 n)) (hr : 0 ≤ n + more ∧ n + more ≤ 1099511627776) :
    Calls Tryz.prog 119 #[ptr g, ptr h] w fun e w' => ∃ v, e = .returned v ∧ Sl w' v (bv (Num.num (n + more).toNat)) ∧ Below w.heap.size w w' := by
  have hw := wrap_i64 hr.1 hr.2

  have hP := fun W => Num.Put_any (n + more) W
  rw [(putB_ok hr).1, (putB_ok hr).2] at hP
  have HP := Lib.hid hP
  have cg := hg.cell
  have ch := hh.cell
  have hK : ∀ W W', Below w.heap.size w W ∧ W.cell? ⟨g, 0, none⟩ = some (.pointer (some p)) ∧ W.cell? p = some (.int .i64 n) ∧ W.cell? ⟨h, 0, none⟩ = some (.int .i64 more) → Below W.heap.size W W' → Below w.heap.size w W' ∧ W'.cell? ⟨g, 0, none⟩ = some (.pointer (some p)) ∧ W'.cell? p = some (.int .i64 n) ∧ W'.cell? ⟨h, 0, none⟩ = some (.int .i64 more) :=
    fun W W' hW hb => have h2 := hW.1.trans (hb.mono hW.1.size); ⟨h2, (h2.cell hg.lt).trans cg, (h2.cell hp).trans hc, (h2.cell hh.lt).trans ch⟩
  have HK := Lib.hid hK
  clear hK hP hg hh hr hp
  generalize hx : n + more = x at *
  go_enter Tryz.func119, Tryz.ntmps119
  go_wp2_with fail
  go_region_held3 (fun W => Below w.heap.size w W ∧ W.cell? ⟨g, 0, none⟩ = some (.pointer (some p)) ∧ W.cell? p = some (.int .i64 n) ∧ W.cell? ⟨h, 0, none⟩ = some (.int .i64 more))
    (first
      | exact ⟨(Below.refl _ w).drew, cg, hc, ch⟩
      | assumption
      | exact HK.out _ _ (by assumption) (by assumption))
    (first
      | (go_at_call 84; refine (HP.out _).mono ?_; rintro e w1 ⟨v, rfl, hs, hb⟩))
  have hB : Below w.heap.size w w1 := (And.left (by assumption))
  go_wp2_with (go_at_call 45; refine (must_yes _ _).mono ?_; rintro e w2 ⟨rfl, rfl⟩)
  go_ret
  exact ⟨v, rfl, hs, hB⟩
set_option maxHeartbeats 2000000 in
theorem numE_take (g h : Nat) (p : Addr) (x0 : Value) (more : Int) (v : Value) (bs : List UInt8) (w : World) (hg : Boxed w g 114 (.pointer (some p))) (hh : Boxed w h 3 (.int .i64 more)) (hm : 0 ≤ more ∧ more ≤ 1) (hp : p.block < w.heap.size) (hc : w.cell? p = some x0) (hz : w.frozen? p = false) (hs : Sl w v (bv bs)) (hl : bs.length ≤ 140737488355328) (h0 : (Num.takeE bs).2.2 = 0) :
    Calls Tryz.prog 120 #[v, ptr h, ptr g] w fun e w' => ∃ v' w1, e = .returned v' ∧ w' = w1.setCell p (.int .i64 ((Num.takeE bs).1 - more)) ∧ Below w.heap.size w w1 ∧ Slf w.heap.size w1 v' (bv (Num.restT bs)) := by
  have hT := fun W hb => Num.Take_any v bs W (hs.below hb) hl
  obtain ⟨hk, -⟩ := Num.num_takeE bs h0
  have hw : IntKind.i64.wrap (((Num.takeE bs).1 : Int) - more) = ((Num.takeE bs).1 : Int) - more := wrap_i64' (by omega) (by omega)
  rw [h0] at hT
  have HT := Lib.hid hT
  clear hT hk h0 hs hm
  generalize ((Num.takeE bs).1 : Int) = n at *
  go_enter Tryz.func120, Tryz.ntmps120
  go_wp2_with fail
  refine (HT.out _ (Below.refl _ _)).mono ?_
  rintro e w1 ⟨v', rfl, hs1, hb1⟩
  have cg := (boxed_below hg hb1).cell
  have ch := (boxed_below hh hb1).cell
  have cp := (hb1.cell hp).trans hc
  have zp := (hb1.frozen hp).trans hz
  go_wp2_with (go_at_call 45; refine (must_yes _ _).mono ?_; rintro e w2 ⟨rfl, rfl⟩)
  go_ret
  exact ⟨v', w1, rfl, rfl, hb1, hs1⟩
set_option maxHeartbeats 2000000 in
theorem numE_fall (g h : Nat) (v : Value) (bs : List UInt8) (w : World) (hs : Sl w v (bv bs)) (hl : bs.length ≤ 140737488355328) (h0 : (Num.takeE bs).2.2 ≠ 0) :
    Calls Tryz.prog 120 #[v, ptr h, ptr g] w fun e w' => e = .panicked (wrong 12) ∧ Below w.heap.size w w' := by
  have hT := fun W hb => Num.Take_any v bs W (hs.below hb) hl
  have hz : (((Num.takeE bs).2.2 : Int) == 0) = false := by rw [beq_eq_false_iff_ne]; omega
  have HT := Lib.hid hT
  clear hT h0 hs
  generalize ((Num.takeE bs).2.2 : Int) = n at *
  go_enter Tryz.func120, Tryz.ntmps120
  go_wp2_with fail
  refine (HT.out _ (Below.refl _ _)).mono ?_
  rintro e w1 ⟨v', rfl, hs1, hb1⟩
  go_wp2_with (go_at_call 45; refine (must_no _ _).mono ?_; rintro e w2 ⟨rfl, rfl⟩)
  exact ⟨rfl, rfl, hb1⟩
end Go.Proofs.YtaacjpcckinaiaaGreat
