/- 'WireApart': the walk of the law: two messages that may be have one datagram just if they are the same. -/
import Derived.Test.YtaacjpcckinaiaaGreatWWakes
set_option linter.unusedVariables false
set_option maxRecDepth 100000
set_option linter.unusedSimpArgs false
namespace Go.Proofs.YtaacjpcckinaiaaGreat
open Go.RowKit Go.Shelf Ms

theorem payB_inj {m o : M} {l k : List Int} (h1 : rightB m l = true) (h2 : rightB o k = true) (h : payB m l = payB o k) : m = o ∧ l = k := by
  have a := readF_iff.2 ⟨h1, h⟩
  have b := readF_iff.2 ⟨h2, rfl⟩
  rw [a] at b
  injection b with b
  injection b with b1 b2
  exact ⟨b1, b2⟩
theorem putR_frm {m : M} {l : List Int} (h : rightB m l = true) : putR m l = Frm.frm (payB m l) := by
  unfold putR Frm.closeB
  rw [if_pos h, if_neg (by have := payB_len h; omega)]
theorem put_same {m o : M} {l k : List Int} (h1 : rightB m l = true) (h2 : rightB o k = true) : decide (putR m l = putR o k) = same m o l k := by
  rw [Bool.eq_iff_iff, decide_eq_true_iff, same_iff]
  constructor
  · intro h
    rw [putR_frm h1, putR_frm h2] at h
    exact payB_inj h1 h2 (Frm.frm_inj h)
  · rintro ⟨rfl, rfl⟩; rfl
theorem payE_ok {m : M} {l : List Int} (h : rightB m l = true) : payE m l = 0 := if_pos h

set_option maxHeartbeats 8000000 in
theorem apart_quick (m o : M) (A B : Option Addr) (c d : Nat) (l k : List Int) (hm0 : 0 ≤ m.kind) (ho0 : 0 ≤ o.kind) (w : World) (hs : Sl w (.slice A l.length c) (iv l)) (ht : Sl w (.slice B k.length d) (iv k)) (hbad : gr m l = true ∨ gr o k = true ∨ rightB m l = false ∨ rightB o k = false) :
    Calls Tryz.prog 7 #[.agg (m.c (.slice A l.length c)), .agg (o.c (.slice B k.length d))] w fun e w' => e = .returned (.bool true) ∧ Below w.heap.size w w' := by
  obtain ⟨r2, r3, B0⟩ := two_boxes w (m.c (.slice A l.length c)) (o.c (.slice B k.length d)) 27 27
  have a1 := fun w => great_any m A l.length c w
  have a2 := fun w => great_any o B k.length d w
  change (∀ w, Calls _ _ _ w fun e w' => e = .returned (.bool (gr m l)) ∧ _) at a1
  change (∀ w, Calls _ _ _ w fun e w' => e = .returned (.bool (gr o k)) ∧ _) at a2
  have a3 := fun w h => rRight_any m A c l hm0 w h
  have a4 := fun w h => rRight_any o B d k ho0 w h
  generalize gr m l = g1 at *
  generalize gr o k = g2 at *
  generalize rightB m l = q1 at *
  generalize rightB o k = q2 at *
  have A1 := Lib.hid a1
  have A2 := Lib.hid a2
  have A3 := Lib.hid a3
  have A4 := Lib.hid a4
  have S1 := Lib.hid hs
  have S2 := Lib.hid ht
  have HB := Lib.hid hbad
  have H := B0
  clear a1 a2 a3 a4 hs ht hbad B0
  go_enter Tryz.func7, Tryz.ntmps7
  go_wp2_with (with_reducible show wpList _ _ _ (Oper.mk _ (Op.load 27 _) _ _ _ _ :: _) _ _
               refine wpList_loadW r2 agg27 rfl _ rfl rfl ?_)
  refine (A1.out _).mono ?_; rintro e w1 ⟨rfl, hb⟩
  replace H := H.trans (hb.mono H.size)
  replace r2 := r2.below hb
  replace r3 := r3.below hb
  clear hb
  cases g1
  case true =>
    go_wp2_with fail
    refine (wakes_any _).mono ?_; rintro e w2 ⟨rfl, hb⟩
    go_wp2
    go_ret
    exact ⟨rfl, H.trans (hb.mono H.size)⟩
  go_wp2_with (with_reducible show wpList _ _ _ (Oper.mk _ (Op.load 27 _) _ _ _ _ :: _) _ _
               refine wpList_loadW r3 agg27 rfl _ rfl rfl ?_)
  refine (A2.out _).mono ?_; rintro e w2 ⟨rfl, hb⟩
  replace H := H.trans (hb.mono H.size)
  replace r2 := r2.below hb
  replace r3 := r3.below hb
  clear hb
  cases g2
  case true =>
    go_wp2_with fail
    refine (wakes_any _).mono ?_; rintro e w2 ⟨rfl, hb⟩
    go_wp2
    go_ret
    exact ⟨rfl, H.trans (hb.mono H.size)⟩
  go_wp2_with (with_reducible show wpList _ _ _ (Oper.mk _ (Op.load 27 _) _ _ _ _ :: _) _ _
               refine wpList_loadW r2 agg27 rfl _ rfl rfl ?_)
  refine (A3.out _ (S1.out.below H)).mono ?_; rintro e w3 ⟨rfl, hb⟩
  replace H := H.trans (hb.mono H.size)
  replace r3 := r3.below hb
  clear hb
  cases q1
  case false =>
    go_wp2_with fail
    refine (wakes_any _).mono ?_; rintro e w2 ⟨rfl, hb⟩
    go_wp2
    go_ret
    exact ⟨rfl, H.trans (hb.mono H.size)⟩
  go_wp2_with (with_reducible show wpList _ _ _ (Oper.mk _ (Op.load 27 _) _ _ _ _ :: _) _ _
               refine wpList_loadW r3 agg27 rfl _ rfl rfl ?_)
  refine (A4.out _ (S2.out.below H)).mono ?_; rintro e w4 ⟨rfl, hb⟩
  replace H := H.trans (hb.mono H.size)
  clear hb
  cases q2
  case false =>
    go_wp2_with fail
    refine (wakes_any _).mono ?_; rintro e w2 ⟨rfl, hb⟩
    go_wp2
    go_ret
    exact ⟨rfl, H.trans (hb.mono H.size)⟩
  exact absurd HB.out (by simp)

set_option maxHeartbeats 8000000 in
theorem apart_main (m o : M) (A B : Option Addr) (c d : Nat) (l k : List Int) (hm0 : 0 ≤ m.kind) (ho0 : 0 ≤ o.kind) (w : World) (hs : Sl w (.slice A l.length c) (iv l)) (ht : Sl w (.slice B k.length d) (iv k)) (hg1 : gr m l = false) (hg2 : gr o k = false) (hq1 : rightB m l = true) (hq2 : rightB o k = true) :
    Calls Tryz.prog 7 #[.agg (m.c (.slice A l.length c)), .agg (o.c (.slice B k.length d))] w fun e w' => e = .returned (.bool true) ∧ Below w.heap.size w w' := by
  obtain ⟨r2, r3, B0⟩ := two_boxes w (m.c (.slice A l.length c)) (o.c (.slice B k.length d)) 27 27
  have a1 := fun w => great_any m A l.length c w
  have a2 := fun w => great_any o B k.length d w
  change (∀ w, Calls _ _ _ w fun e w' => e = .returned (.bool (gr m l)) ∧ _) at a1
  change (∀ w, Calls _ _ _ w fun e w' => e = .returned (.bool (gr o k)) ∧ _) at a2
  rw [hg1] at a1
  rw [hg2] at a2
  have a3 := fun w h => rRight_any m A c l hm0 w h
  have a4 := fun w h => rRight_any o B d k ho0 w h
  rw [hq1] at a3
  rw [hq2] at a4
  have a5 := fun w h => Put_any m A c l hm0 w h
  have a6 := fun w h => Put_any o B d k ho0 w h
  rw [payE_ok hq1] at a5
  rw [payE_ok hq2] at a6
  obtain ⟨b, hbq⟩ : ∃ b, same m o l k = b := ⟨_, rfl⟩
  have ks := fun va vb w h1 h2 => same_any va vb (putR m l) (putR o k) w h1 h2
  rw [put_same hq1 hq2, hbq] at ks
  have KS := Lib.hid ks
  have SB := Lib.hid hbq
  have A1 := Lib.hid a1
  have A2 := Lib.hid a2
  have A3 := Lib.hid a3
  have A4 := Lib.hid a4
  have A5 := Lib.hid a5
  have A6 := Lib.hid a6
  have S1 := Lib.hid hs
  have S2 := Lib.hid ht
  have H := B0
  clear a1 a2 a3 a4 a5 a6 hs ht hbq ks hg1 hg2 hq1 hq2
  go_enter Tryz.func7, Tryz.ntmps7
  go_wp2_with (with_reducible show wpList _ _ _ (Oper.mk _ (Op.load 27 _) _ _ _ _ :: _) _ _
               refine wpList_loadW r2 agg27 rfl _ rfl rfl ?_)
  refine (A1.out _).mono ?_; rintro e w1 ⟨rfl, hb⟩
  replace H := H.trans (hb.mono H.size)
  replace r2 := r2.below hb
  replace r3 := r3.below hb
  clear hb
  go_wp2_with (with_reducible show wpList _ _ _ (Oper.mk _ (Op.load 27 _) _ _ _ _ :: _) _ _
               refine wpList_loadW r3 agg27 rfl _ rfl rfl ?_)
  refine (A2.out _).mono ?_; rintro e w2 ⟨rfl, hb⟩
  replace H := H.trans (hb.mono H.size)
  replace r2 := r2.below hb
  replace r3 := r3.below hb
  clear hb
  go_wp2_with (with_reducible show wpList _ _ _ (Oper.mk _ (Op.load 27 _) _ _ _ _ :: _) _ _
               refine wpList_loadW r2 agg27 rfl _ rfl rfl ?_)
  refine (A3.out _ (S1.out.below H)).mono ?_; rintro e w3 ⟨rfl, hb⟩
  replace H := H.trans (hb.mono H.size)
  replace r2 := r2.below hb
  replace r3 := r3.below hb
  clear hb
  go_wp2_with (with_reducible show wpList _ _ _ (Oper.mk _ (Op.load 27 _) _ _ _ _ :: _) _ _
               refine wpList_loadW r3 agg27 rfl _ rfl rfl ?_)
  refine (A4.out _ (S2.out.below H)).mono ?_; rintro e w4 ⟨rfl, hb⟩
  replace H := H.trans (hb.mono H.size)
  replace r2 := r2.below hb
  replace r3 := r3.below hb
  clear hb
  go_wp2_with (with_reducible show wpList _ _ _ (Oper.mk _ (Op.load 27 _) _ _ _ _ :: _) _ _
               refine wpList_loadW r2 agg27 rfl _ rfl rfl ?_)
  refine (A5.out _ (S1.out.below H)).mono ?_; rintro e w5 ⟨v5, rfl, s5, hb⟩
  replace H := H.trans (hb.mono H.size)
  replace r2 := r2.below hb
  replace r3 := r3.below hb
  clear hb
  go_wp2_with (with_reducible show wpList _ _ _ (Oper.mk _ (Op.load 27 _) _ _ _ _ :: _) _ _
               refine wpList_loadW r3 agg27 rfl _ rfl rfl ?_)
  refine (A6.out _ (S2.out.below H)).mono ?_; rintro e w6 ⟨v7, rfl, s7, hb⟩
  replace H := H.trans (hb.mono H.size)
  replace r2 := r2.below hb
  replace r3 := r3.below hb
  replace s5 := s5.below hb
  clear hb
  go_wp2_with fail
  have hl0 := S1.out.below H
  have hk0 := S2.out.below H
  refine wp_region_guards (RD [.val (.int .i64 0), .val (.bool true), .val (.bool true), .val (.int .i64 0), .val (.bool true), .val (.bool true), .val (.bool true), .val (v5), .val (v7), .val (.bool b), .val (.agg (m.c (.slice A l.length c))), .val (.agg (o.c (.slice B k.length d))), .val (.bool b), .val (.bool true), .val (.bool true), .val (.bool true), .val (.bool true), .val (.bool true), .val (.bool true)]) (fun W => Below w6.heap.size w6 W) (by kernel_rfl) (by kernel_rfl) (Below.refl _ w6).drew ?_ ?_ ?_
  · refine ⟨guard_no rfl, guard_no rfl, guard_no rfl, guard_yes 2 true rfl (by kernel_rfl) (by kernel_rfl) (by kernel_rfl) (fun u W h => h), guard_yes 2 true rfl (by kernel_rfl) (by kernel_rfl) (by kernel_rfl) (fun u W h => h), guard_no rfl, guard_no rfl, guard_yes 6 true rfl (by kernel_rfl) (by kernel_rfl) (by kernel_rfl) (fun u W h => h), guard_yes 6 true rfl (by kernel_rfl) (by kernel_rfl) (by kernel_rfl) (fun u W h => h), guard_yes 6 true rfl (by kernel_rfl) (by kernel_rfl) (by kernel_rfl) (fun u W h => h), guard_yes 6 true rfl (by kernel_rfl) (by kernel_rfl) (by kernel_rfl) (fun u W h => h), guard_yes 6 true rfl (by kernel_rfl) (by kernel_rfl) (by kernel_rfl) (fun u W h => h), guard_yes 6 true rfl (by kernel_rfl) (by kernel_rfl) (by kernel_rfl) (fun u W h => h), guard_yes 6 true rfl (by kernel_rfl) (by kernel_rfl) (by kernel_rfl) (fun u W h => h), guard_no rfl, guard_no rfl, guard_yes 15 true rfl (by kernel_rfl) (by kernel_rfl) (by kernel_rfl) (fun u W h => h), guard_no rfl, guard_no rfl, trivial⟩
  · refine ⟨fun a W hC hS => ?_, fun a W hC hS => ?_, fun a W hC hS => ?_, fun a W hC hS => ?_, fun a W hC hS => ?_, fun a W hC hS => ?_, fun a W hC hS => ?_, fun a W hC hS => ?_, fun a W hC hS => ?_, fun a W hC hS => ?_, fun a W hC hS => ?_, fun a W hC hS => ?_, fun a W hC hS => ?_, fun a W hC hS => ?_, fun a W hC hS => ?_, fun a W hC hS => ?_, fun a W hC hS => ?_, fun a W hC hS => ?_, fun a W hC hS => ?_, trivial⟩
    · have h0 : a.tmps.getD 6 undef = .int .i64 0 := hS.base 6 (by kernel_rfl)
      exact owed_pure (v := .int .i64 0) (by simp [execOp, Act.eval, gd h0, go_sem]) hC rfl
    · obtain ⟨v0, h0, rfl⟩ := hS.dep 0 36 (by kernel_rfl) (by kernel_rfl)
      exact owed_pure (v := .bool true) (by simp [execOp, Act.eval, gd h0, go_sem]) hC rfl
    · obtain ⟨v1, h0, rfl⟩ := hS.dep 1 37 (by kernel_rfl) (by kernel_rfl)
      exact owed_pure (v := .bool true) (by simp [execOp, Act.eval, gd h0, go_sem]) hC rfl
    · have h0 : a.tmps.getD 8 undef = .int .i64 0 := hS.base 8 (by kernel_rfl)
      exact owed_pure (v := .int .i64 0) (by simp [execOp, Act.eval, gd h0, go_sem]) hC rfl
    · obtain ⟨v3, h0, rfl⟩ := hS.dep 3 39 (by kernel_rfl) (by kernel_rfl)
      exact owed_pure (v := .bool true) (by simp [execOp, Act.eval, gd h0, go_sem]) hC rfl
    · obtain ⟨v2, h0, rfl⟩ := hS.dep 2 38 (by kernel_rfl) (by kernel_rfl)
      obtain ⟨v4, h1, rfl⟩ := hS.dep 4 40 (by kernel_rfl) (by kernel_rfl)
      exact owed_pure (v := .bool true) (by simp [execOp, Act.eval, gd h0, gd h1, go_sem]) hC rfl
    · obtain ⟨v5, h0, rfl⟩ := hS.dep 5 41 (by kernel_rfl) (by kernel_rfl)
      exact owed_pure (v := .bool true) (by simp [execOp, Act.eval, gd h0, go_sem]) hC rfl
    · have h0 : a.tmps.getD 5 undef = v5 := hS.base 5 (by kernel_rfl)
      exact owed_pure (v := v5) (by simp [execOp, Act.eval, gd h0, go_sem]) hC rfl
    · have h0 : a.tmps.getD 7 undef = v7 := hS.base 7 (by kernel_rfl)
      exact owed_pure (v := v7) (by simp [execOp, Act.eval, gd h0, go_sem]) hC rfl
    · obtain ⟨v7, h0, rfl⟩ := hS.dep 7 43 (by kernel_rfl) (by kernel_rfl)
      obtain ⟨v8, h1, rfl⟩ := hS.dep 8 44 (by kernel_rfl) (by kernel_rfl)
      refine owed_call rfl (enters_of Tryz.func14 (by kernel_rfl) rfl) (by simp [Act.eval, gd h0, gd h1]) (RD.behind hC _) ((KS.out _ _ W (s5.below hC) (s7.below hC)).mono ?_)
      rintro e w' ⟨rfl, rfl⟩
      exact ⟨_, rfl, rfl, Below.refl _ _⟩
    · have h0 : a.tmps.getD 2 undef = ptr w.heap.size := hS.base 2 (by kernel_rfl)
      exact owed_pure (v := .agg (m.c (.slice A l.length c))) (exec_loadR (.tmp 2) rfl (by simp [Act.eval, gd h0]) (run_loadR agg27 (r2.below hC))) hC rfl
    · have h0 : a.tmps.getD 3 undef = ptr (w.heap.size + 1) := hS.base 3 (by kernel_rfl)
      exact owed_pure (v := .agg (o.c (.slice B k.length d))) (exec_loadR (.tmp 3) rfl (by simp [Act.eval, gd h0]) (run_loadR agg27 (r3.below hC))) hC rfl
    · obtain ⟨v10, h0, rfl⟩ := hS.dep 10 46 (by kernel_rfl) (by kernel_rfl)
      obtain ⟨v11, h1, rfl⟩ := hS.dep 11 47 (by kernel_rfl) (by kernel_rfl)
      refine owed_call rfl (enters_of Tryz.func15 (by kernel_rfl) rfl) (by simp [Act.eval, gd h0, gd h1]) (RD.behind hC _) ((rSame_any m o _ _ l k W (hl0.below hC) (hk0.below hC)).mono ?_)
      rintro e w' ⟨rfl, hb⟩
      exact ⟨_, rfl, by rw [SB.out]; rfl, hb⟩
    · obtain ⟨v9, h0, rfl⟩ := hS.dep 9 45 (by kernel_rfl) (by kernel_rfl)
      obtain ⟨v12, h1, rfl⟩ := hS.dep 12 48 (by kernel_rfl) (by kernel_rfl)
      exact owed_pure (v := .bool true) (by cases b <;> simp [execOp, Act.eval, gd h0, gd h1, go_sem]) hC rfl
    · obtain ⟨v6, h0, rfl⟩ := hS.dep 6 42 (by kernel_rfl) (by kernel_rfl)
      obtain ⟨v13, h1, rfl⟩ := hS.dep 13 49 (by kernel_rfl) (by kernel_rfl)
      exact owed_pure (v := .bool true) (by simp [execOp, Act.eval, gd h0, gd h1, go_sem]) hC rfl
    · obtain ⟨v14, h0, rfl⟩ := hS.dep 14 50 (by kernel_rfl) (by kernel_rfl)
      exact owed_pure (v := .bool true) (by simp [execOp, Act.eval, gd h0, go_sem]) hC rfl
    · exact owed_call rfl (enters_of Tryz.func9 (by kernel_rfl) rfl) (by simp) (RD.behind hC _) ((wakes_any W).mono fun e w' ⟨h1, h2⟩ => ⟨_, h1, rfl, h2⟩)
    · obtain ⟨v15, h0, rfl⟩ := hS.dep 15 51 (by kernel_rfl) (by kernel_rfl)
      obtain ⟨v16, h1, rfl⟩ := hS.dep 16 52 (by kernel_rfl) (by kernel_rfl)
      exact owed_pure (v := .bool true) (by simp [execOp, Act.eval, gd h0, gd h1, go_sem]) hC rfl
    · obtain ⟨v17, h0, rfl⟩ := hS.dep 17 53 (by kernel_rfl) (by kernel_rfl)
      exact owed_pure (v := .bool true) (by simp [execOp, Act.eval, gd h0, go_sem]) hC rfl

  · intro a W hC hA
    obtain ⟨v, h0, rfl⟩ := hA.facts 18 4 (by decide) (by kernel_rfl)
    rename_i hK
    exact hK a W (wp_ret (done_slot 4 rfl h0 hA.defers ⟨rfl, H.trans (hC.mono H.size)⟩))

theorem apart_walk (W : World) (m : M) (v : Value) (l : List Int) (hs : Sl W v (iv l)) (hm0 : 0 ≤ m.kind) (o : M) (u : Value) (k : List Int) (ht : Sl W u (iv k)) (ho0 : 0 ≤ o.kind) :
    Calls Tryz.prog 7 #[.agg (m.c v), .agg (o.c u)] W fun e w' => e = .returned (.bool true) ∧ Below W.heap.size W w' := by
  obtain ⟨A, n, c, rfl⟩ := hs.slice
  obtain ⟨B, n', d, rfl⟩ := ht.slice
  obtain ⟨rfl, _⟩ := hs.llen
  obtain ⟨rfl, _⟩ := ht.llen
  by_cases h1 : gr m l = true
  · exact apart_quick m o A B c d l k hm0 ho0 W hs ht (.inl h1)
  by_cases h2 : gr o k = true
  · exact apart_quick m o A B c d l k hm0 ho0 W hs ht (.inr (.inl h2))
  by_cases h3 : rightB m l = true
  · by_cases h4 : rightB o k = true
    · exact apart_main m o A B c d l k hm0 ho0 W hs ht (by simpa using h1) (by simpa using h2) h3 h4
    · exact apart_quick m o A B c d l k hm0 ho0 W hs ht (.inr (.inr (.inr (by simpa using h4))))
  · exact apart_quick m o A B c d l k hm0 ho0 W hs ht (.inr (.inr (.inl (by simpa using h3))))
end Go.Proofs.YtaacjpcckinaiaaGreat
