/- 'Right': for any message. -/
import Derived.Test.YtbklgodbjibemaaPlaces
import Derived.Test.YtbklgodbjibemaaOnly
import Derived.Test.YtbklgodbjibemaaFilled
set_option linter.unusedVariables false
set_option linter.unusedSimpArgs false
namespace Go.Proofs.Ytbklgodbjibemaa
open Go.RowKit Go.Shelf
attribute [local go_sem] Oper.semAt_some

def callB (id c : Int) : Bool := decide (id * 1048576 < c) && decide (c ≤ (id + 1) * 1048576)
def onlyLL (m : M) (l : List Int) : List Int := if m.kind = 7 then l else []
def rightD (m : M) (l : List Int) : Bool :=
  (decide (0 < m.kind) && decide (m.kind < 13) && decide (m.frm ≠ m.to)) && ((decide (l.length ≤ 3) && same m (onlyM m) l (onlyLL m l)) && ((placesL m l).all placeB && (callB (askerI m) m.call && (decide (othersP m.frm l) && filledB m))))
theorem onlyL_sl {w : World} {m : M} {v : Value} {l : List Int} (h : Sl w v (iv l)) : Sl w (onlyL m v) (iv (onlyLL m l)) := by
  unfold onlyL onlyLL
  split
  · exact h
  · exact Sl.nil_ w
theorem asker_place {m : M} {l : List Int} (h : (placesL m l).all placeB = true) : placeB (askerI m) = true := by
  rw [List.all_eq_true] at h
  unfold askerI
  split
  · exact h _ (by simp [placesL, four])
  · exact h _ (by simp [placesL, four])

set_option maxRecDepth 100000 in
set_option maxHeartbeats 4000000 in
theorem Right_any (m : M) (A : Option Addr) (c : Nat) (l : List Int) (hk0 : 0 ≤ m.kind) (w : World) (hs : Sl w (.slice A l.length c) (iv l)) :
    Calls Try.prog 14 #[.agg (m.c (.slice A l.length c))] w fun e w' => e = .returned (.bool (rightD m l)) ∧ Below w.heap.size w w' := by
  obtain ⟨r, hr⟩ : ∃ r, rightD m l = r := ⟨_, rfl⟩
  rw [hr]
  have HR := Lib.hid hr
  have R0 := Rw.new w (m.c (.slice A l.length c)) 27
  have B0 := box_below w (.cells (m.c (.slice A l.length c)) 27)
  have S0 := hs.below B0
  have hown : ∀ k, (Value.slice A l.length c).ownBlock = some k → k < w.heap.size := by
    intro k hk
    rcases hs with ⟨e, _⟩ | ⟨b, off, c', e, _, _, hb, _⟩
    · rw [e] at hk; cases hk
    · rw [e] at hk; cases hk; exact hb
  have HOWN := Lib.hid hown
  have HLM := Lib.hid hs.llen.2
  generalize hW : w.alloc (.cells (m.c (.slice A l.length c)) 27) = W at R0 B0 S0
  have hlt : w.heap.size < W.heap.size := R0.lt
  have c0 := R0.cell
  have R1 := Lib.hid (fun y => Wd.row R0 y)
  have c1 := fun y j => (Wd.row R0 y).cell j
  have S1 := Lib.hid (fun y => Wd.sl S0 y)
  have HB := Lib.hid B0
  have HLT := Lib.hid hlt
  clear hr hown hlt hs
  refine (callsIn_wide (n := 9)).1 (callsIn_of_wp_marks Try.func14 rfl trivial ?_ rfl)
  simp only [Try.ntmps14, List.size_toArray, List.length_cons, List.length_nil, Nat.reduceAdd, Nat.reduceSub, Array.replicate_succ, Array.replicate_zero, List.push_toArray, List.append_toArray, List.nil_append, List.cons_append]
  refine wpIn_wide.2 ?_
  go_wp2_with fail
  refine wp_scope_fwd ?_
  by_cases hk : 0 < m.kind ∧ m.kind < 13 ∧ m.frm ≠ m.to
  · have d1 : (m.kind == 0) = false := by simp; omega
    have d2 : decide (13 ≤ m.kind) = false := decide_eq_false (by omega)
    have d3 : (m.frm == m.to) = false := by simp [hk.2.2]
    have HK := Lib.hid hk
    clear hk hk0
    go_wp2_with fail
    by_cases hlen : l.length ≤ 3
    · have d4 : decide ((3 : Int) < (l.length : Int)) = false := decide_eq_false (by omega)
      obtain ⟨bs, hbs⟩ : ∃ b, same m (onlyM m) l (onlyLL m l) = b := ⟨_, rfl⟩
      have K1 := fun y : Wd W => y.call (only_any m A l.length c y.w)
      have K2 := fun y : Wd W => y.call (Same_any m (onlyM m) (.slice A l.length c) (onlyL m (.slice A l.length c)) l (onlyLL m l) y.w (S1.out y) (onlyL_sl (S1.out y)))
      rw [hbs] at K2
      have HK1 := Lib.hid K1
      have HK2 := Lib.hid K2
      have HBS := Lib.hid hbs
      clear K1 K2 hbs
      refine wp_region_behind ⟨W, Below.refl _ _⟩ (by kernel_rfl) (by kernel_rfl) ?_
      repeat (first
        | go_big_quiet_skip
        | (go_big_quiet_want
           first
           | (refine quiet_load _ rfl rfl (fun y => run_loadR (c := m.c _) agg27 (R1.out y)) ?_
              simp only [Act.put, List.setIfInBounds_toArray, List.set_cons_zero, List.set_cons_succ]
              go_big_quiet_on)
           | (go_big_quiet_op; first | go_big_quiet_on | (apply Exists.intro; refine ⟨fun _ => rfl, ?_⟩; go_big_quiet_on) | go_big_quiet_call ((first | (go_at_call 29; exact HK1.out _) | (go_at_call 23; exact HK2.out _))))))
      refine wpQuiet_nil ?_
      intro y
      cases bs
      · go_wp2_with fail
        go_step3; refine fwd_goto _ rfl ?_; go_wp2; refine nog_ret ?_
        refine ⟨.bool false, by simp [results, Try.results14, go_sem], ret_b ?_, HB.out.trans (y.below.mono HB.out.size)⟩
        rw [← HR.out, rightD, HBS.out]
        simp
      · go_wp2_with fail
        refine (places_any m (.slice A l.length c) y.w).mono ?_; rintro e w' ⟨rfl, rfl⟩
        go_wp2_with fail
        have r1 := (R1.out y).alloc (.cells (m.c (.slice A l.length c)) 27)
        have q1 := Rw.new y.w (m.c (.slice A l.length c)) 27
        have s1 := (S1.out y).alloc (.cells (m.c (.slice A l.length c)) 27)
        have hB1 : Below w.heap.size w (y.w.alloc (.cells (m.c (.slice A l.length c)) 27)) := (HB.out.trans (y.below.mono HB.out.size)).alloc (Nat.le_trans HB.out.size y.below.size) _
        have hsz : y.w.heap.size < (y.w.alloc (.cells (m.c (.slice A l.length c)) 27)).heap.size := by simp
        have hsw : w.heap.size < y.w.heap.size := Nat.lt_of_lt_of_le HLT.out y.below.size
        obtain ⟨Bs, hBs⟩ : ∃ Bs, y.w.heap.size = Bs := ⟨_, rfl⟩
        rw [hBs] at q1 hsz hsw ⊢
        generalize hV : y.w.alloc (.cells (m.c (.slice A l.length c)) 27) = V at r1 q1 s1 hB1 hsz ⊢
        clear hV hBs c0 c1
        have HOW := HOWN.out
        refine wp_range (gf := 38) (lb := #[.pointer (some ⟨Bs, 0, none⟩)]) rfl (enters_of Try.func38 (by kernel_rfl) rfl)
          (places_stops 8 Bs m A c (fun k => k = Bs ∨ k < w.heap.size) l V q1 s1 (.inl rfl) (fun k h => .inr (HOW k h))) (by rintro k (rfl | h) <;> omega) (fun _ => rfl)
          (fun pre W' => Below V.heap.size V W' ∧ pre.all placeB = true)
          (fun c pre W' => Below V.heap.size V W' ∧ (c = .goto 0 ∧ pre.all placeB = false))
          (OwnFrom.and (ownFrom_below (Nat.le_refl _) (Nat.le_refl _)) (ownFrom_const _))
          (fun c => OwnFrom.and (ownFrom_below (Nat.le_refl _) (Nat.le_refl _)) (ownFrom_const _))
          ⟨Below.refl _ _, rfl⟩
          (fun x => { tmps := #[.agg (m.c (.slice A l.length c)), .pointer (some ⟨w.heap.size, 0, none⟩), .bool false, .int .i64 x, .pointer (some ⟨w.heap.size, 0, none⟩), .int .u8 m.kind, .bool false, .bool false, .pointer (some ⟨w.heap.size, 0, none⟩), .int .u8 m.kind, .bool false,
            .bool false, .bool false, .pointer (some ⟨w.heap.size, 2, none⟩), .int .i64 m.frm, .pointer (some ⟨w.heap.size, 3, none⟩), .int .i64 m.to, .bool false, .bool false, .pointer (some ⟨w.heap.size, 9, none⟩), .slice A l.length c, .int .i64 (l.length : Int), .bool false, .bool false,
            .agg (m.c (.slice A l.length c)), .agg (m.c (.slice A l.length c)), .agg ((onlyM m).c (onlyL m (.slice A l.length c))), .bool true, .bool false, .bool false, .agg (m.c (.slice A l.length c)), .func (.func 38) #[] #[.pointer (some ⟨Bs, 0, none⟩)], .int .i64 x, undef,
            undef, undef, undef, undef, undef, undef, undef, undef, undef, undef, undef, undef, undef, undef, undef, undef, undef, undef], defers := [] }) ?assign ?body ?done ?stop
        case assign =>
          intro lp x W K hK
          gi_wp2
          exact hK
        case body =>
          rintro lp pre x W1 ⟨hW1, hp⟩ hlt
          have kf := fun w => place_any x w
          obtain ⟨b, hb⟩ : ∃ b, placeB x = b := ⟨_, rfl⟩
          rw [hb] at kf
          have hpre : (pre ++ [x]).all placeB = b := by rw [List.all_append, hp]; simp [hb]
          have HP := Lib.hid hpre
          clear hpre hp hb
          cases b
          · gi_wp2_with (refine ⟨trivial, ?_⟩; gi_at_call 25; refine (CallsIn.inRound lp (callsIn_wide.2 (kf _))).mono ?_; rintro e w' ⟨rfl, rfl⟩)
            refine wpIn_goto ?_
            exact ⟨(KeepsOthers.refl _).from _, hW1, rfl, HP.out⟩
          · gi_wp2_with (refine ⟨trivial, ?_⟩; gi_at_call 25; refine (CallsIn.inRound lp (callsIn_wide.2 (kf _))).mono ?_; rintro e w' ⟨rfl, rfl⟩)
            exact ⟨(KeepsOthers.refl _).from _, Kps.refl _ _, hW1, HP.out⟩
        case done =>
          rintro D ys W1 hDs rfl ⟨hW1, hp⟩ hK
          have R6 := Lib.hid (fun y => Wd.row (r1.below hW1) y)
          have c6 := fun y j => (Wd.row (r1.below hW1) y).cell j
          have s6 := s1.below hW1
          have hpa := asker_place hp
          have hDW : D < W1.heap.size := (Array.getElem?_eq_some_iff.1 hK).1
          have HKD := Lib.hid (fun y : Wd W1 => (y.below.block D hDW).trans hK)
          have HB6 := Lib.hid (fun y : Wd W1 => (hB1.trans (hW1.mono hB1.size)).trans (y.below.mono (hB1.trans (hW1.mono hB1.size)).size))
          have HD := Lib.hid (show w.heap.size ≤ D by omega)
          have K18 := fun y : Wd W1 => y.call (Asker_any m (.slice A l.length c) y.w)
          have K31 := fun y : Wd W1 => callOf_any (askerI m) m.call hpa y.w
          have K32 := fun y : Wd W1 => others_any m.frm (.slice A l.length c) l y.w (Wd.sl s6 y)
          have K33 := fun y : Wd W1 => y.call (filled_any m A l.length c y.w)
          obtain ⟨bc, hbc⟩ : ∃ b, (decide (askerI m * 1048576 < m.call) && decide (m.call ≤ (askerI m + 1) * 1048576)) = b := ⟨_, rfl⟩
          obtain ⟨bo, hbo⟩ : ∃ b, decide (othersP m.frm l) = b := ⟨_, rfl⟩
          obtain ⟨bf, hbf⟩ : ∃ b, filledB m = b := ⟨_, rfl⟩
          rw [hbc] at K31
          rw [hbo] at K32
          rw [hbf] at K33
          have hres : r = (bc && (bo && bf)) := by
            rw [← HR.out, rightD, HBS.out, decide_eq_true hlen, hp, callB, hbc, hbo, hbf]
            simp [HK.out]
          have K31 := fun y : Wd W1 => y.call ((K31 y).mono fun e w' ⟨he, hw⟩ => ⟨he, by rw [hw]; exact Below.refl _ _⟩)
          have K32 := fun y : Wd W1 => y.call ((K32 y).mono fun e w' ⟨he, hw⟩ => ⟨he, by rw [← hw]; exact Below.refl _ _⟩)
          have HK18 := Lib.hid K18
          have HK31 := Lib.hid K31
          have HK32 := Lib.hid K32
          have HK33 := Lib.hid K33
          have HRES := Lib.hid hres
          clear K18 K31 K32 K33 hbc hbo hbf hres hp hpa hK hDW hDs hW1 r1 q1 s1 s6 hB1
          go_wp2_with fail
          refine wp_region_behind ⟨W1, Below.refl _ _⟩ (by kernel_rfl) (by kernel_rfl) ?_
          cases bc
          · repeat (first
              | go_big_quiet_skip
              | (go_big_quiet_want
                 first
                 | (refine quiet_load _ rfl rfl (fun y => run_loadR (c := m.c _) agg27 (R6.out y)) ?_
                    simp only [Act.put, List.setIfInBounds_toArray, List.set_cons_zero, List.set_cons_succ]
                    go_big_quiet_on)
                 | (go_big_quiet_op; first | go_big_quiet_on | (apply Exists.intro; refine ⟨fun _ => rfl, ?_⟩; go_big_quiet_on) | go_big_quiet_call ((first | (go_at_call 18; exact HK18.out _) | (go_at_call 31; exact HK31.out _) | (go_at_call 32; exact HK32.out _) | (go_at_call 33; exact HK33.out _))))))
            refine wpQuiet_nil ?_
            intro y
            go_wp2_with fail
            refine fwd_ret ?_
            refine ⟨by simp, .inl ⟨_, _, rfl, run_takeDeferred (HKD.out y), ?_⟩⟩
            exact ⟨.bool false, by simp [results, Try.results14, go_sem], ret_b (by rw [HRES.out]; simp), (HB6.out y).trans (belowK_b (w := w) (Nat.le_refl _) _ D _ _ HD.out (HKD.out y) rfl rfl)⟩
          · cases bo
            · repeat (first
                | go_big_quiet_skip
                | (go_big_quiet_want
                   first
                   | (refine quiet_load _ rfl rfl (fun y => run_loadR (c := m.c _) agg27 (R6.out y)) ?_
                      simp only [Act.put, List.setIfInBounds_toArray, List.set_cons_zero, List.set_cons_succ]
                      go_big_quiet_on)
                   | (go_big_quiet_op; first | go_big_quiet_on | (apply Exists.intro; refine ⟨fun _ => rfl, ?_⟩; go_big_quiet_on) | go_big_quiet_call ((first | (go_at_call 18; exact HK18.out _) | (go_at_call 31; exact HK31.out _) | (go_at_call 32; exact HK32.out _) | (go_at_call 33; exact HK33.out _))))))
              refine wpQuiet_nil ?_
              intro y
              go_wp2_with fail
              refine fwd_ret ?_
              refine ⟨by simp, .inl ⟨_, _, rfl, run_takeDeferred (HKD.out y), ?_⟩⟩
              exact ⟨.bool false, by simp [results, Try.results14, go_sem], ret_b (by rw [HRES.out]; simp), (HB6.out y).trans (belowK_b (w := w) (Nat.le_refl _) _ D _ _ HD.out (HKD.out y) rfl rfl)⟩
            · repeat (first
                | go_big_quiet_skip
                | (go_big_quiet_want
                   first
                   | (refine quiet_load _ rfl rfl (fun y => run_loadR (c := m.c _) agg27 (R6.out y)) ?_
                      simp only [Act.put, List.setIfInBounds_toArray, List.set_cons_zero, List.set_cons_succ]
                      go_big_quiet_on)
                   | (go_big_quiet_op; first | go_big_quiet_on | (apply Exists.intro; refine ⟨fun _ => rfl, ?_⟩; go_big_quiet_on) | go_big_quiet_call ((first | (go_at_call 18; exact HK18.out _) | (go_at_call 31; exact HK31.out _) | (go_at_call 32; exact HK32.out _) | (go_at_call 33; exact HK33.out _))))))
              refine wpQuiet_nil ?_
              intro y
              go_wp2_with fail
              refine fwd_ret ?_
              refine ⟨by simp, .inl ⟨_, _, rfl, run_takeDeferred (HKD.out y), ?_⟩⟩
              exact ⟨.bool bf, by simp [results, Try.results14, go_sem], ret_b (by rw [HRES.out]; simp), (HB6.out y).trans (belowK_b (w := w) (Nat.le_refl _) _ D _ _ HD.out (HKD.out y) rfl rfl)⟩
        case stop =>
          rintro D cc pre W1 hDs hp ⟨hW1, rfl, hr⟩ hK
          go_step3
          refine fwd_goto _ rfl ?_
          go_wp2
          refine nog_ret ?_
          refine ⟨by simp, .inl ⟨_, _, rfl, run_takeDeferred hK, ?_⟩⟩
          have hB6 := hB1.trans (hW1.mono hB1.size)
          refine ⟨.bool false, by simp [results, Try.results14, go_sem], ret_b ?_, hB6.trans (belowK_b (w := w) (Nat.le_refl _) _ D _ _ (by omega) hK rfl rfl)⟩
          have : (placesL m l).all placeB = false := by
            obtain ⟨t, ht⟩ := hp
            rw [← ht, List.all_append, hr, Bool.false_and]
          rw [← HR.out, rightD, this]
          simp
    · have d4 : decide ((3 : Int) < (l.length : Int)) = true := decide_eq_true (by omega)
      have HLEN := Lib.hid hlen
      clear hlen
      refine wp_region_behind ⟨W, Below.refl _ _⟩ (by kernel_rfl) (by kernel_rfl) ?_
      repeat (first
        | go_big_quiet_skip
        | (go_big_quiet_want
           (go_big_quiet_op; first | go_big_quiet_on | (apply Exists.intro; refine ⟨fun _ => rfl, ?_⟩; go_big_quiet_on))))
      refine wpQuiet_nil ?_
      intro y
      go_wp2_with fail
      go_step3; refine fwd_goto _ rfl ?_; go_wp2; refine nog_ret ?_
      refine ⟨.bool false, by simp [results, Try.results14, go_sem], ret_b ?_, HB.out.trans (y.below.mono HB.out.size)⟩
      rw [← HR.out, rightD, decide_eq_false HLEN.out]
      simp
  · have HK := Lib.hid hk
    clear hk
    have hf : rightD m l = false := by
      have : (decide (0 < m.kind) && decide (m.kind < 13) && decide (m.frm ≠ m.to)) = false := by
        rw [Bool.eq_false_iff]
        intro h
        simp only [Bool.and_eq_true, decide_eq_true_eq] at h
        exact HK.out ⟨h.1.1, h.1.2, h.2⟩
      rw [rightD, this, Bool.false_and]
    have HF := Lib.hid hf
    clear hf
    by_cases h1 : m.kind = 0
    · have d1 : (m.kind == 0) = true := by simp [h1]
      clear h1
      go_wp2_with fail
      go_step3; refine fwd_goto _ rfl ?_; go_wp2; refine nog_ret ?_
      exact ⟨.bool false, by simp [results, Try.results14, go_sem], ret_b (by rw [← HR.out, HF.out]), HB.out⟩
    · have d1 : (m.kind == 0) = false := by simp [h1]
      by_cases h2 : 13 ≤ m.kind
      · have d2 : decide (13 ≤ m.kind) = true := decide_eq_true h2
        clear h1 h2
        go_wp2_with fail
        go_step3; refine fwd_goto _ rfl ?_; go_wp2; refine nog_ret ?_
        exact ⟨.bool false, by simp [results, Try.results14, go_sem], ret_b (by rw [← HR.out, HF.out]), HB.out⟩
      · have d2 : decide (13 ≤ m.kind) = false := decide_eq_false h2
        have h3 : m.frm = m.to := Classical.byContradiction fun h => HK.out ⟨by omega, by omega, h⟩
        have d3 : (m.frm == m.to) = true := by simp [h3]
        clear h1 h2 h3
        go_wp2_with fail
        go_step3; refine fwd_goto _ rfl ?_; go_wp2; refine nog_ret ?_
        exact ⟨.bool false, by simp [results, Try.results14, go_sem], ret_b (by rw [← HR.out, HF.out]), HB.out⟩
end Go.Proofs.Ytbklgodbjibemaa
