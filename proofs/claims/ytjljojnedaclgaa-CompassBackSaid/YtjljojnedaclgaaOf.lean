/- 'Of': the place whose point a number is: for any two parts. -/
import Derived.Test.YtjljojnedaclgaaTurned
set_option linter.unusedVariables false
set_option linter.unusedSimpArgs false
namespace Go.Proofs.Ytjljojnedaclgaa
open Go.RowKit Go.Shelf
open Ieee (double)
attribute [local go_sem] Oper.semAt_some run_store_complex

theorem boxed_behind {W W' : World} {B n : Nat} {t : TypeId} {v : Value} (h : Boxed W B t v) (hb : Below n W W') (hn : B < n) : Boxed W' B t v := (hb.block B hn).trans h

set_option maxHeartbeats 400000 in
theorem Of_no (x y : Nat) (h : ¬ ∃ p, Pt x y p) (hf : Fits x y) (w : World) :
    Calls Try.prog 10 #[.complex .f64 x y] w fun e w' => e = .returned (.tuple #[.int .i64 0, .int .i64 2]) ∧ Below w.heap.size w w' := by
  have c1 := fun w => right_no x y (fun k => h ((pt_iff x y).2 k)) hf.1 hf.2 w
  clear h hf
  go_enter Try.func10, Try.ntmps10
  have H0 : Below w.heap.size w ((w.alloc (.cells #[.int .i64 0] 3)).alloc (.cells #[.int .i64 0] 24)) := ((Below.refl _ w).alloc (Nat.le_refl _) _).alloc (by simp) _
  have b1 := (Boxed.new w 3 (.int .i64 0)).alloc (.cells #[.int .i64 0] 24)
  have b2 := Boxed.new (w.alloc (.cells #[.int .i64 0] 3)) 24 (.int .i64 0)
  rw [World.size_alloc] at b2
  go_wp2_with fail
  refine wp_scope_fwd ?_
  go_wp2_with fail
  refine (c1 _).mono ?_; rintro e W ⟨rfl, hb⟩
  replace b1 := boxed_behind b1 hb (by simp; omega)
  replace b2 := boxed_behind b2 hb (by simp)
  replace H0 := H0.trans (hb.mono (by simp; omega))
  clear hb
  have e1 := b1.cell
  have f1 := b1.frozen
  have e2 := b2.cell
  have f2 := b2.frozen
  go_wp2_with fail
  go_step3
  refine fwd_goto _ rfl ?_
  go_wp2
  refine nog_ret ?_
  have k1 := ((b1.set (.int .i64 0)).other (B' := w.heap.size + 1) (by omega) (.int .i64 2)).cell
  have k2 := ((b2.other (B' := w.heap.size) (by omega) (.int .i64 0)).set (.int .i64 2)).cell
  exact bodyPost_ret (v := .tuple #[.int .i64 0, .int .i64 2]) (by simp [results, Try.results10, go_sem, k1, k2]) rfl ⟨rfl, (H0.setCell (p := ⟨w.heap.size, 0, none⟩) (Nat.le_refl _) _).setCell (p := ⟨w.heap.size + 1, 0, none⟩) (by show w.heap.size ≤ w.heap.size + 1; omega) _⟩

theorem conv_int {b : Nat} {n : Int} (h : Wh b n) (hn : Num n) : ∀ w : World, (convert 22 3 (.float .f64 b)).run Try.prog w = .ok (.int .i64 n) w := fun w => by
  refine run_convert_float_int w 22 3 .f64 .i64 b n (by rw [Try.underlying22]; rfl) Try.underlying3 ?_
  unfold floatToIntVal
  show (match (double.read b).toInt .zero with | some n => _ | none => none) = _
  rw [toInt_val h, cutI_whole]
  exact if_pos hn
theorem gt_int {a b : Nat} {n m : Int} (ha : Wh a n) (hb : Wh b m) : (FloatKind.f64.format.order a b == some Ordering.gt) = decide (m < n) := by
  show (double.order a b == _) = _
  rw [wh_order ha hb, cmp_def]
  by_cases h : n < m
  · rw [if_pos h, decide_eq_false (by omega)]; rfl
  · by_cases h2 : n = m
    · rw [if_neg h, if_pos h2, decide_eq_false (by omega)]; rfl
    · rw [if_neg h, if_neg h2, decide_eq_true (by omega)]; rfl
theorem eq_int {a b : Nat} {n m : Int} (ha : Wh a n) (hb : Wh b m) : (FloatKind.f64.format.order a b == some Ordering.eq) = decide (n = m) := by
  show (double.order a b == _) = _
  rw [wh_order ha hb, cmp_eq]
theorem lt_int {a b : Nat} {n m : Int} (ha : Wh a n) (hb : Wh b m) : (FloatKind.f64.format.order a b == some Ordering.lt) = decide (n < m) := by
  show (double.order a b == _) = _
  rw [wh_order ha hb, cmp_def]
  by_cases h : n < m
  · rw [if_pos h, decide_eq_true h]; rfl
  · by_cases h2 : n = m
    · rw [if_neg h, if_pos h2, decide_eq_false h]; rfl
    · rw [if_neg h, if_neg h2, decide_eq_false h]; rfl

set_option maxRecDepth 100000 in
set_option maxHeartbeats 2000000 in
theorem Of_yes (x y : Nat) (p : Int) (h : Pt x y p) (hf : Fits x y) (w : World) :
    Calls Try.prog 10 #[.complex .f64 x y] w fun e w' => e = .returned (.tuple #[.int .i64 p, .int .i64 0]) ∧ Below w.heap.size w w' := by
  have c1 := fun w => right_yes x y _ _ h.dia hf.1 hf.2 w
  obtain ⟨T, hT, h4⟩ := turn_pt h
  have hp : 0 ≤ p ∧ p < 65536 := h.1
  have HT4 := Lib.hid h4
  clear h hf h4
  refine (callsIn_wide (n := 9)).1 (callsIn_of_wp_marks Try.func10 rfl trivial ?_ rfl)
  simp only [Try.ntmps10, List.size_toArray, List.length_cons, List.length_nil, Nat.reduceAdd, Nat.reduceSub, Array.replicate_succ, Array.replicate_zero, List.push_toArray, List.append_toArray, List.nil_append, List.cons_append]
  refine wpIn_wide.2 ?_
  have b1 := (Boxed.new w 3 (.int .i64 0)).alloc (.cells #[.int .i64 0] 24)
  have b2 := Boxed.new (w.alloc (.cells #[.int .i64 0] 3)) 24 (.int .i64 0)
  rw [World.size_alloc] at b2
  go_wp2_with fail
  refine wp_scope_fwd ?_
  go_wp2_with fail
  refine (c1 _).mono ?_; rintro e W ⟨rfl, rfl⟩
  go_wp2_with fail
  refine (turns_any x y _).mono ?_; rintro e w' ⟨rfl, rfl⟩
  go_wp2_with fail
  have bz := Boxed.new ((w.alloc (.cells #[.int .i64 0] 3)).alloc (.cells #[.int .i64 0] 24)) 23 (.complex .f64 x y)
  have hB0 : Below w.heap.size w (((w.alloc (.cells #[.int .i64 0] 3)).alloc (.cells #[.int .i64 0] 24)).alloc (.cells #[.complex .f64 x y] 23)) := (((Below.refl _ w).alloc (Nat.le_refl _) _).alloc (by simp) _).alloc (by simp; omega) _
  have hz : ((w.alloc (.cells #[.int .i64 0] 3)).alloc (.cells #[.int .i64 0] 24)).heap.size = w.heap.size + 1 + 1 := by simp
  rw [hz] at bz
  replace b1 := b1.alloc (.cells #[.complex .f64 x y] 23)
  replace b2 := b2.alloc (.cells #[.complex .f64 x y] 23)
  generalize hW1 : (((w.alloc (.cells #[.int .i64 0] 3)).alloc (.cells #[.int .i64 0] 24)).alloc (.cells #[.complex .f64 x y] 23)) = W1 at *
  have hsz : W1.heap.size = w.heap.size + 1 + 1 + 1 := by rw [← hW1]; simp
  have HSZ := Lib.hid hsz
  clear hsz hW1 hz
  refine wp_range (gf := 31) (lb := #[.pointer (some ⟨w.heap.size + 1 + 1, 0, none⟩)]) rfl (enters_of Try.func31 (by kernel_rfl) rfl)
    (turns_stops 8 (w.heap.size + 1 + 1) x y _ _ T hT (fun k => k = w.heap.size + 1 + 1) W1 (by rw [HSZ.out]; omega) rfl bz.cell) (by rintro k rfl; rw [HSZ.out]; omega) (fun _ => rfl)
    (fun pre W => (Boxed W w.heap.size 3 (.int .i64 0) ∧ Boxed W (w.heap.size + 1) 24 (.int .i64 0)) ∧ (Below w.heap.size w W ∧ ∀ j ∈ pre, ¬ (p + 16384 * (j.val : Int)) % 65536 < 16384))
    (fun c pre W => (Boxed W w.heap.size 3 (.int .i64 p) ∧ Boxed W (w.heap.size + 1) 24 (.int .i64 0)) ∧ (Below w.heap.size w W ∧ c = .ret))
    (OwnFrom.and (OwnFrom.and (Own.from (boxed_own w.heap.size 3 (fun _ => .int .i64 0)) _) (Own.from (boxed_own (w.heap.size + 1) 24 (fun _ => .int .i64 0)) _)) (OwnFrom.and (ownFrom_below (Nat.le_refl _) (by rw [HSZ.out]; omega)) (ownFrom_const _)))
    (fun c => OwnFrom.and (OwnFrom.and (Own.from (boxed_own w.heap.size 3 (fun _ => .int .i64 p)) _) (Own.from (boxed_own (w.heap.size + 1) 24 (fun _ => .int .i64 0)) _)) (OwnFrom.and (ownFrom_below (Nat.le_refl _) (by rw [HSZ.out]; omega)) (ownFrom_const _)))
    ⟨⟨b1, b2⟩, hB0, by simp⟩
    (fun k => { tmps := #[.complex .f64 x y, undef, .pointer (some ⟨w.heap.size, 0, none⟩), .pointer (some ⟨w.heap.size + 1, 0, none⟩), .int .i64 (k.val : Int), .complex .f64 (T k.val).1 (T k.val).2, .complex .f64 x y, .bool true, .bool false, .complex .f64 x y, .func (.func 31) #[] #[.pointer (some ⟨w.heap.size + 1 + 1, 0, none⟩)], .int .i64 (k.val : Int), .complex .f64 (T k.val).1 (T k.val).2, undef, undef, undef, undef, undef, undef, undef, undef, undef, undef, undef, undef, undef, undef, undef], defers := [] }) ?assign ?body ?done ?stop
  case assign =>
    intro l k W K hK
    simp only [encT]
    gi_wp2
    exact hK
  case body =>
    rintro l pre ⟨k, hk4⟩ W ⟨⟨d1, d2⟩, hW, hr⟩ hlt
    simp only
    have e1 := d1.cell
    have f1 := d1.frozen
    have e2 := d2.cell
    have f2 := d2.frozen
    obtain ⟨⟨hpk, hx, hy⟩, _⟩ := HT4.out k hk4
    generalize T k = Tk at hx hy
    obtain ⟨tx, ty⟩ := Tk
    have hk0 : (0 : Int) ≤ k := by omega
    have hk3 : (k : Int) ≤ 3 := by omega
    by_cases hin : (p + 16384 * (k : Int)) % 65536 < 16384
    · have g1 : (FloatKind.f64.format.order tx 0 == some Ordering.gt) = true := by
        rw [gt_int hx wh_0]; unfold px; rw [if_pos (by omega)]; simp; omega
      have hc := conv_int hy (by unfold py Num; rw [if_pos hin]; omega)
      rw [show py ((p + 16384 * (k : Int)) % 65536) = (p + 16384 * (k : Int)) % 65536 by unfold py; rw [if_pos hin]] at hc hy
      have hpl : ((p + 16384 * (k : Int)) % 65536 - (k : Int) * 16384) % 65536 = p := by omega
      have hn1 : Num ((p + 16384 * (k : Int)) % 65536 - (k : Int) * 16384) := ⟨by omega, by omega⟩
      have hm0 : 0 ≤ (p + 16384 * (k : Int)) % 65536 := by omega
      have HPL := Lib.hid hpl
      clear hpl
      by_cases hz : (p + 16384 * (k : Int)) % 65536 = 0
      · have g2 : (FloatKind.f64.format.order ty 0 == some Ordering.gt) = false := by rw [gt_int hy wh_0]; simp; omega
        have g3 : (FloatKind.f64.format.order ty 0 == some Ordering.eq) = true := by rw [eq_int hy wh_0]; simp; omega
        clear hx hy hz hpk
        generalize (p + 16384 * (k : Int)) % 65536 = m at *
        gi_wp2_with (refine ⟨trivial, ?_⟩; gi_at_call 16; refine (CallsIn.inRound l (callsIn_wide.2 (place_any _ _ hn1))).mono ?_; rintro e w' ⟨rfl, rfl⟩)
        rw [HPL.out]
        refine ⟨((KeepsOthers.setCell _ _ _).trans (KeepsOthers.setCell _ _ _)).from _, ⟨(d1.set _).other (by omega) _, (d2.other (by omega) _).set _⟩, (hW.setCell (p := ⟨w.heap.size, 0, none⟩) (Nat.le_refl _) _).setCell (p := ⟨w.heap.size + 1, 0, none⟩) (by show w.heap.size ≤ w.heap.size + 1; omega) _, rfl⟩
      · have g2 : (FloatKind.f64.format.order ty 0 == some Ordering.gt) = true := by rw [gt_int hy wh_0]; simp; omega
        clear hx hy hz hpk
        generalize (p + 16384 * (k : Int)) % 65536 = m at *
        gi_wp2_with (refine ⟨trivial, ?_⟩; gi_at_call 16; refine (CallsIn.inRound l (callsIn_wide.2 (place_any _ _ hn1))).mono ?_; rintro e w' ⟨rfl, rfl⟩)
        rw [HPL.out]
        refine ⟨((KeepsOthers.setCell _ _ _).trans (KeepsOthers.setCell _ _ _)).from _, ⟨(d1.set _).other (by omega) _, (d2.other (by omega) _).set _⟩, (hW.setCell (p := ⟨w.heap.size, 0, none⟩) (Nat.le_refl _) _).setCell (p := ⟨w.heap.size + 1, 0, none⟩) (by show w.heap.size ≤ w.heap.size + 1; omega) _, rfl⟩
    · have hnext : ∀ j ∈ pre ++ [⟨k, hk4⟩], ¬ (p + 16384 * (j.val : Int)) % 65536 < 16384 := by
        intro j hj
        rcases List.mem_append.1 hj with h | h
        · exact hr j h
        · rw [List.mem_singleton.1 h]; exact hin
      by_cases hp1 : 0 < px ((p + 16384 * (k : Int)) % 65536)
      · have g1 : (FloatKind.f64.format.order tx 0 == some Ordering.gt) = true := by rw [gt_int hx wh_0]; simp [hp1]
        have hneg : py ((p + 16384 * (k : Int)) % 65536) < 0 := by
          unfold px at hp1; unfold py
          split at hp1 <;> split <;> (try split) <;> omega
        have g2 : (FloatKind.f64.format.order ty 0 == some Ordering.gt) = false := by rw [gt_int hy wh_0]; simp; omega
        have g3 : (FloatKind.f64.format.order ty 0 == some Ordering.eq) = false := by rw [eq_int hy wh_0]; simp; omega
        have HN := Lib.hid hnext
        clear hx hy hpk hin hp1 hneg hnext hr
        gi_wp2
        exact ⟨(KeepsOthers.refl _).from _, Kps.refl _ _, ⟨d1, d2⟩, hW, HN.out⟩
      · have g1 : (FloatKind.f64.format.order tx 0 == some Ordering.gt) = false := by rw [gt_int hx wh_0]; simp; omega
        have HN := Lib.hid hnext
        clear hx hy hpk hin hp1 hnext hr
        gi_wp2
        exact ⟨(KeepsOthers.refl _).from _, Kps.refl _ _, ⟨d1, d2⟩, hW, HN.out⟩
  case done =>
    rintro D ys W hDs rfl ⟨_, _, hr⟩ hK
    exfalso
    have r0 := hr 0 (mem_all4 _)
    have r1 := hr 1 (mem_all4 _)
    have r2 := hr 2 (mem_all4 _)
    have r3 := hr 3 (mem_all4 _)
    have q0 : ((0 : Fin 4).val : Int) = 0 := rfl
    have q1 : ((1 : Fin 4).val : Int) = 1 := rfl
    have q2 : ((2 : Fin 4).val : Int) = 2 := rfl
    have q3 : ((3 : Fin 4).val : Int) = 3 := rfl
    rw [q0] at r0; rw [q1] at r1; rw [q2] at r2; rw [q3] at r3
    omega
  case stop =>
    rintro D c pre W hDs _ ⟨⟨d1, d2⟩, hW, rfl⟩ hK
    have hD : w.heap.size < D := by rw [HSZ.out] at hDs; omega
    go_wp2
    refine fwd_ret ?_
    refine ⟨by simp, .inl ⟨_, _, rfl, run_takeDeferred hK, ?_⟩⟩
    have k1 := cell_kept d1.cell (grownBy_putObj' _ D (.deferred none)) (fun r e => by cases e; exact ⟨_, hK, rfl⟩)
    have k2 := cell_kept d2.cell (grownBy_putObj' _ D (.deferred none)) (fun r e => by cases e; exact ⟨_, hK, rfl⟩)
    refine ⟨.tuple #[.int .i64 p, .int .i64 0], by simp [results, Try.results10, go_sem, k1, k2], rfl, hW.trans (belowK_b (w := w) (Nat.le_refl _) _ D _ _ (by omega) hK rfl rfl)⟩
end Go.Proofs.Ytjljojnedaclgaa
