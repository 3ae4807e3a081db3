/- A datagram in memory of its own; bytes that are the same; a datagram that is the same. -/
import Derived.Test.YtdoigpifkdkjpaaBRef
import Derived.Test.YtdoigpifkdkjpaaBWo
set_option linter.unusedVariables false
set_option maxRecDepth 100000
set_option linter.unusedSimpArgs false
namespace Go.Proofs.Ytdoigpifkdkjpaa
open Go.RowKit Go.Shelf Ms

set_option maxHeartbeats 2000000 in
theorem owned_any (g : Gr) (u : Value) (w : World) (hu : Sw w u (bv g.bytes)) (hl : g.bytes.length ≤ 1000) :
    Calls Try.prog 40 #[.agg (g.c u)] w fun e w' => ∃ A n c, e = .returned (.agg (g.c (.slice A n c))) ∧ Made w w' 5 (.slice A n c) (bv g.bytes) := by
  obtain ⟨A0, c0, rfl⟩ := hu.form
  rw [bv_length] at hu ⊢
  obtain ⟨r1, r2, B0⟩ := two_boxes w (g.c (.slice A0 g.bytes.length c0)) (noG.c nilB) 29 29
  have hsz : ((w.alloc (.cells (g.c (.slice A0 g.bytes.length c0)) 29)).alloc (.cells (noG.c nilB) 29)).heap.size = w.heap.size + 1 + 1 := by simp
  have S0 := hu.below B0
  have hm0 := Made.nil_ ((w.alloc (.cells (g.c (.slice A0 g.bytes.length c0)) 29)).alloc (.cells (noG.c nilB) 29)) 5
  have HM := Lib.hid hm0
  have HS := Lib.hid S0
  have HZ := Lib.hid hsz
  have R0 := Lib.hid (And.intro r1 (And.intro r2 B0))
  clear hm0
  have HL := Lib.hid hl
  have c1 := r1.cell
  clear S0 r2 hu hl hsz
  go_enter Try.func40, Try.ntmps40
  go_wp2_with (first
    | (at_builtin
       refine wpList_more_w (xs := []) elB rfl _ (.tmp 4) rfl rfl HM.out rfl HS.out (bv_one _) (by have := HL.out; have := bv_length g.bytes; (try simp only [List.length_nil]); omega) ?_
       intro v' w' hm hg
       rw [List.nil_append] at hm
       obtain ⟨A, c, rfl⟩ := hm.sl.form
       have hW0 := HZ.out
       have o1 := hm.own
       rw [hW0] at o1
       have r1 := (show Rw _ w.heap.size 29 (g.c (.slice A0 g.bytes.length c0)) from R0.out.1).below hm.below
       have r2 := R0.out.2.1.below hm.below
       have b1 := R0.out.2.2.trans (hm.below.mono R0.out.2.2.size)
       refine gen_w (fun X => Rw X w.heap.size 29 (g.c (.slice A0 g.bytes.length c0)) ∧ Rw X (w.heap.size + 1) 29 (noG.c nilB) ∧ X.ownsRow (w.heap.size + 1 + 1) 5 1 (.slice A (bv g.bytes).length c) (bv g.bytes).length (bv g.bytes) ∧ Below w.heap.size w X)
         ⟨r1, r2, o1, b1⟩ ?_
       clear r1 r2 o1 b1 hm hg
       rintro X ⟨q1, q2, q3, q4⟩)
    | (with_reducible show wpList _ _ _ (Oper.mk _ (Op.store 27 _ _) _ _ _ _ :: _) _ _
       refine wpList_store1 q1 (by kernel_rfl) rfl _ _ rfl (j := 1) rfl (v := .slice A (bv g.bytes).length c) rfl (by show 1 < 3; decide) rfl rfl ?_
       refine gen_w (fun X => Rw X w.heap.size 29 (g.c (.slice A (bv g.bytes).length c)) ∧ Rw X (w.heap.size + 1) 29 (noG.c nilB) ∧ X.ownsRow (w.heap.size + 1 + 1) 5 1 (.slice A (bv g.bytes).length c) (bv g.bytes).length (bv g.bytes) ∧ Below w.heap.size w X)
         ⟨q1.set 1 _, q2.set_other (by omega) 1 _, owns_set q3 (by omega) 1 _, q4.setCell (p := ⟨w.heap.size, 1, none⟩) (Nat.le_refl _) _⟩ ?_
       clear q1 q2 q3 q4
       rintro X ⟨q1, q2, q3, q4⟩)
    | (with_reducible show wpList _ _ _ (Oper.mk _ (Op.load 29 _) _ _ _ _ :: _) _ _
       refine wpList_loadW q1 aggG rfl _ rfl rfl ?_)
    | (with_reducible show wpList _ _ _ (Oper.mk _ (Op.store 29 _ _) _ _ _ _ :: _) _ _
       refine wpList_storeR (c := g.c (.slice A (bv g.bytes).length c)) rfl _ _ rfl rfl rfl aggG.hi q2 rfl (Gr.one _ _ _ _) ?_))
  refine bodyPost_ret (results_cell_row rfl _ _ _ _ _ _ _ rfl (q2.setRow (c' := g.c (.slice A (bv g.bytes).length c))) Try.underlying29 rfl aggG.hi) rfl ⟨A, _, c, rfl, ?_, below_setRow q4 (by omega) _⟩
  exact owns_mono (owns_setRow q3 (by omega) _) (by omega)
theorem bytesEqual_any (a b : List UInt8) (ua ub : Value) (w : World) (ha : Sw w ua (bv a)) (hb : Sw w ub (bv b)) :
    Calls Try.prog 43 #[ua, ub] w fun e w' => e = .returned (.bool (decide (a = b))) ∧ w = w' := by
  have t1 := run_str_w (P := Try.prog) 27 9 5 Try.underlying27 Try.underlying5 Try.underlying9 ua a ha
  have t2 := run_str_w (P := Try.prog) 27 9 5 Try.underlying27 Try.underlying5 Try.underlying9 ub b hb
  clear ha hb
  go_enter Try.func43, Try.ntmps43
  go_wp2
  go_ret
  refine ⟨ret_b ?_, rfl⟩
  rw [Bool.eq_iff_iff, decide_eq_true_iff]
  simp
set_option maxHeartbeats 4000000 in
theorem isSame_any (a b : Gr) (ua ub : Value) (w : World) (ha : Sw w ua (bv a.bytes)) (hb : Sw w ub (bv b.bytes)) :
    Calls Try.prog 39 #[.agg (a.c ua), .agg (b.c ub)] w fun e w' => e = .returned (.bool (decide (a = b))) ∧ Below w.heap.size w w' := by
  obtain ⟨r1, r2, B0⟩ := two_boxes w (a.c ua) (b.c ub) 29 29
  have HA := Lib.hid (ha.below B0)
  have HC := Lib.hid (hb.below B0)
  have c1 := r1.cell
  have c2 := r2.cell
  have HB := Lib.hid B0
  clear r1 r2 B0 ha hb
  by_cases h1 : a.to = b.to
  · have e1 : (a.to == b.to) = true := by simp [h1]
    by_cases h2 : a.harm = b.harm
    · have e2 : (a.harm == b.harm) = true := by simp [h2]
      have hd : decide (a = b) = decide (a.bytes = b.bytes) := by rw [decide_eq_decide, gr_ext]; exact ⟨fun h => h.2.2, fun h => ⟨h1, h2, h⟩⟩
      rw [hd]
      clear h1 h2 hd
      go_enter Try.func39, Try.ntmps39
      go_wp2_with fail
      refine (bytesEqual_any a.bytes b.bytes ua ub _ HA.out HC.out).mono ?_; rintro e w1 ⟨rfl, rfl⟩
      go_wp2
      go_ret
      exact ⟨rfl, HB.out⟩
    · have e2 : (a.harm == b.harm) = false := by simp [h2]
      have hd : decide (a = b) = false := decide_eq_false fun h => h2 (gr_ext.1 h).2.1
      rw [hd]
      clear h1 h2 hd
      go_enter Try.func39, Try.ntmps39
      go_wp2
      go_ret
      exact ⟨rfl, HB.out⟩
  · have e1 : (a.to == b.to) = false := by simp [h1]
    have hd : decide (a = b) = false := decide_eq_false fun h => h1 (gr_ext.1 h).1
    rw [hd]
    clear h1 hd
    go_enter Try.func39, Try.ntmps39
    go_wp2
    go_ret
    exact ⟨rfl, HB.out⟩
end Go.Proofs.Ytdoigpifkdkjpaa
