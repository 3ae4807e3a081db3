/- Are two bags the same? -/
import Derived.Test.YtdoigpifkdkjpaaBOwnL
import Derived.Test.YtdoigpifkdkjpaaQuiet
set_option linter.unusedVariables false
set_option maxRecDepth 100000
set_option linter.unusedSimpArgs false
namespace Go.Proofs.Ytdoigpifkdkjpaa
open Go.RowKit Go.Shelf Ms
attribute [local go_sem] Oper.semAt_some

/-- Of these rounds, are both rows' datagrams the same? -/
def allP (ps qs : List (Gr × Value)) (h : ps.length = qs.length) (pre : List (Fin ps.length)) : Bool := pre.all fun i => decide (ps[i.1].1 = (qs[i.1]'(by rw [← h]; exact i.2)).1)
theorem allP_all (ps qs : List (Gr × Value)) (h : ps.length = qs.length) : allP ps qs h (List.finRange ps.length) = decide (ps.map (·.1) = qs.map (·.1)) := by
  rw [Bool.eq_iff_iff, decide_eq_true_iff]
  unfold allP
  rw [List.all_eq_true]
  constructor
  · intro hh
    refine List.ext_getElem (by simp [h]) fun i h1 h2 => ?_
    have := hh ⟨i, by simpa using h1⟩ (List.mem_finRange _)
    simpa using this
  · intro hh i _
    have h1 := congrArg (fun l : List Gr => l[i.1]?) hh
    have h2 : i.1 < qs.length := by rw [← h]; exact i.2
    simp [h2] at h1
    simpa using h1
theorem allP_part (ps qs : List (Gr × Value)) (h : ps.length = qs.length) {pre : List (Fin ps.length)} (hp : pre <+: List.finRange ps.length) (hf : allP ps qs h pre = false) : decide (ps.map (·.1) = qs.map (·.1)) = false := by
  rw [← allP_all ps qs h]
  obtain ⟨t, ht⟩ := hp
  rw [← ht]
  unfold allP at *
  rw [List.all_append, hf, Bool.false_and]

set_option maxHeartbeats 4000000 in
theorem Same_any (s t : Value) (n k : Int) (la lb : List Gr) (w : World) (ha : SwG w s la) (hb : SwG w t lb) :
    Calls Try.prog 24 #[.agg (bagC s n), .agg (bagC t k)] w fun e w' => e = .returned (.bool (decide (n = k ∧ la = lb))) ∧ Below w.heap.size w w' := by
  obtain ⟨A, c, ps, rfl, rfl, hL⟩ := ha.lies
  obtain ⟨B, d, qs, rfl, rfl, hM⟩ := hb.lies
  have hsl := ha.len
  have hsm := hb.len
  rw [List.length_map] at hsl hsm
  obtain ⟨r1, r2, B0⟩ := two_boxes w (bagC (.slice A ps.length c) n) (bagC (.slice B qs.length d) k) 24 24
  have hsz : ((w.alloc (.cells (bagC (.slice A ps.length c) n) 24)).alloc (.cells (bagC (.slice B qs.length d) k) 24)).heap.size = w.heap.size + 1 + 1 := by simp
  have c1 := r1.cell
  have c2 := r2.cell
  have HL := Lib.hid hL
  have HM := Lib.hid hM
  have H0 := Lib.hid (And.intro r1 (And.intro r2 (And.intro B0 hsz)))
  clear r1 r2 B0 hsz ha hb hL hM
  by_cases hnk : n = k
  · have e1 : (n != k) = false := by simp [hnk]
    by_cases hlen : ps.length = qs.length
    · have e2 : ((ps.length : Int) != (qs.length : Int)) = false := by simp [hlen]
      obtain ⟨r, hr⟩ : ∃ r, decide (n = k ∧ ps.map (·.1) = qs.map (·.1)) = r := ⟨_, rfl⟩
      have hr' : decide (ps.map (·.1) = qs.map (·.1)) = r := by rw [← hr]; simp [hnk]
      rw [hr]
      have HR := Lib.hid hr'
      have HLEN := Lib.hid hlen
      clear hr hr' hnk hlen
      refine (callsIn_wide (n := 9)).1 (callsIn_of_wp_marks Try.func24 rfl trivial ?_ rfl)
      simp only [Try.ntmps24, List.size_toArray, List.length_cons, List.length_nil, Nat.reduceAdd, Nat.reduceSub, Array.replicate_succ, Array.replicate_zero, List.push_toArray, List.append_toArray, List.nil_append, List.cons_append]
      refine wpIn_wide.2 ?_
      go_wp2_with fail
      refine wp_scope_fwd ?_
      go_wp2_with fail
      refine (gramsOf_any _ _ _ _).mono ?_; rintro e w' ⟨rfl, rfl⟩
      go_wp2_with fail
      have rs := Rw.new ((w.alloc (.cells (bagC (.slice A ps.length c) n) 24)).alloc (.cells (bagC (.slice B qs.length d) k) 24)) #[.slice A ps.length c] 22
      rw [H0.out.2.2.2] at rs
      refine gen_code (fun W => Rw W (w.heap.size + 1) 24 (bagC (.slice B qs.length d) k) ∧ Rw W (w.heap.size + 1 + 1) 22 #[.slice A ps.length c] ∧ Below w.heap.size w W ∧ W.heap.size = w.heap.size + 1 + 1 + 1)
        ⟨H0.out.2.1.alloc _, rs, H0.out.2.2.1.alloc H0.out.2.2.1.size _, by simp⟩ ?_
      clear c1 c2 H0 rs e1 e2
      rintro W1 ⟨r2, rs, B0, hs1⟩
      have L1 := HL.out.below B0
      refine wp_rangeH (gf := 42) (lb := #[.pointer (some ⟨w.heap.size + 1 + 1, 0, none⟩)]) rfl (enters_of Try.func42 (by kernel_rfl) rfl)
        (grams_stops 8 (w.heap.size + 1 + 1) A c ps (fun k => k < w.heap.size ∨ k = w.heap.size + 1 + 1) W1 (.inr rfl) (lies_low HL.out) (by rintro k (h | rfl) <;> omega) hsl rs L1) (by rintro k (h | rfl) <;> omega) (fun _ => rfl)
        (fun pre W => Below W1.heap.size W1 W ∧ allP ps qs HLEN.out pre = true)
        (fun c pre W => Below W1.heap.size W1 W ∧ (c = .goto 0 ∧ allP ps qs HLEN.out pre = false))
        (OwnFrom.and (ownFrom_below (Nat.le_refl _) (Nat.le_refl _)) (ownFrom_const _))
        (fun c => OwnFrom.and (ownFrom_below (Nat.le_refl _) (Nat.le_refl _)) (ownFrom_const _))
        ⟨Below.refl _ _, rfl⟩
        (fun x a' W => ∃ B1, Rw W B1 29 (ps[x.1].1.c ps[x.1].2) ∧ a' = { tmps := #[.agg (bagC (.slice A ps.length c) n), .agg (bagC (.slice B qs.length d) k), .pointer (some ⟨w.heap.size, 0, none⟩), .pointer (some ⟨w.heap.size + 1, 0, none⟩), .bool false, .int .i64 (x.1 : Int), .pointer (some ⟨B1, 0, none⟩),
          .pointer (some ⟨w.heap.size, 1, none⟩), .int .i64 n, .pointer (some ⟨w.heap.size + 1, 1, none⟩), .int .i64 k, .bool false, .bool false, .pointer (some ⟨w.heap.size, 0, none⟩), .slice A ps.length c, .int .i64 (ps.length : Int), .pointer (some ⟨w.heap.size + 1, 0, none⟩), .slice B qs.length d, .int .i64 (qs.length : Int), .bool false, .bool false,
          .pointer (some ⟨w.heap.size, 0, none⟩), .slice A ps.length c, .func (.func 42) #[] #[.pointer (some ⟨w.heap.size + 1 + 1, 0, none⟩)], .int .i64 (x.1 : Int), .agg (ps[x.1].1.c ps[x.1].2), undef, undef, undef, undef, undef, undef, undef, undef], defers := [] })
        (fun x a' => ownFrom_still fun _ W W' h hb => by obtain ⟨B1, h2, h3⟩ := h; exact ⟨B1, hb.rw_ h2, h3⟩) ?assign (by rintro pre W ⟨h1, h2⟩ k hk; have := h1.size; rcases hk with hk | rfl <;> omega) ?body ?done ?stop
      case assign =>
        rintro l pre x W K ⟨h1, h2⟩ hK
        have HK := Lib.hid hK
        have HI := Lib.hid (And.intro h1 h2)
        have HO := Lib.hid (one_of_lies HL.out x.1 x.2)
        clear hK h1 h2
        unfold encG
        gi_wp2_with (with_reducible show wpListIn _ _ _ _ _ (Oper.mk _ (Op.alloc _) _ _ _ _ :: _) _ _
                     refine listIn_of (by rintro ⟨_, _, h⟩; exact h) rfl ?_)
        go_wp2_with (first
            | (with_reducible show wpList _ _ _ (Oper.mk _ (Op.store 29 _ _) _ _ _ _ :: _) _ _
               refine wpList_storeR (c := ps[x.1].1.c ps[x.1].2) rfl _ _ rfl rfl rfl aggG.hi (Rw.new W (noG.c nilB) 29) rfl HO.out ?_))
        have hb : Below W.heap.size W ((W.alloc (.cells (noG.c nilB) 29)).setRow W.heap.size (ps[x.1].1.c ps[x.1].2)) := below_setRow (box_below W _) (Nat.le_refl _) _
        exact HK.out _ _ hb ⟨HI.out.1.trans (hb.mono HI.out.1.size), HI.out.2⟩ ⟨W.heap.size, (Rw.new W (noG.c nilB) 29).setRow, rfl⟩
      case body =>
        rintro l pre x a' W ⟨h1, h2⟩ ⟨B1, rB, rfl⟩ hlt
        have hx2 : x.1 < qs.length := by rw [← HLEN.out]; exact x.2
        have hbw := B0.trans (h1.mono B0.size)
        obtain ⟨b, off, rfl, hb, x1, x2, x3, s2⟩ := (HM.out.below hbw) x.1 hx2
        obtain ⟨_, _, _, _, _, _, _, s1⟩ := (HL.out.below hbw) x.1 x.2
        have R1 := Lib.hid (fun y => Wd.row (r2.below h1) y)
        have c6 := fun y j => (Wd.row (r2.below h1) y).cell j
        have LB := Lib.hid (fun y : Wd W => run_loadR (P := Try.prog) aggG (rB.below y.below))
        have LG := Lib.hid (fun y : Wd W => run_loadG (P := Try.prog) aggG ((y.below.cell (p := ⟨b, _, none⟩) hb).trans x1) ((y.below.cell (p := ⟨b, _, none⟩) hb).trans x2) ((y.below.cell (p := ⟨b, _, none⟩) hb).trans x3))
        have K1 := fun y : Wd W => y.call (isSame_any ps[x.1].1 qs[x.1].1 _ _ y.w (s1.below y.below) (s2.below y.below))
        have hap : allP ps qs HLEN.out (pre ++ [x]) = decide (ps[x.1].1 = qs[x.1].1) := by
          unfold allP at h2 ⊢
          rw [List.all_append, h2]
          simp
        obtain ⟨z, hz⟩ : ∃ z, decide (ps[x.1].1 = qs[x.1].1) = z := ⟨_, rfl⟩
        rw [hz] at K1 hap
        have HK1 := Lib.hid K1
        have HAP := Lib.hid hap
        have hxi := x.2
        clear K1 hap hz h2 rB x1 x2 x3 s1 s2
        gi_wp2_with fail
        refine regionIn_behind ⟨W, Below.refl _ _⟩ (by kernel_rfl) (by kernel_rfl) (by rintro ⟨_, _, h⟩; exact h) (by kernel_rfl) ?_
        repeat (first
          | go_big_quiet_skip
          | (go_big_quiet_want
             first
             | (refine quietLoad _ rfl rfl LB.out ?_
                simp only [Act.put, List.setIfInBounds_toArray, List.set_cons_zero, List.set_cons_succ]
                go_big_quiet_on)
             | (refine quietLoad _ rfl rfl LG.out ?_
                simp only [Act.put, List.setIfInBounds_toArray, List.set_cons_zero, List.set_cons_succ]
                go_big_quiet_on)
             | (go_big_quiet_op; first | go_big_quiet_on | (apply Exists.intro; refine ⟨fun _ => rfl, ?_⟩; go_big_quiet_on) | go_big_quiet_call ((go_at_call 39; exact HK1.out _)))))
        refine wpQuiet_nil ?_
        intro y
        have hy := h1.trans (y.below.mono h1.size)
        have hk := keeps_below (B := W1.heap.size) y.below
        cases z
        · gi_wp2
          refine wpIn_goto ?_
          exact ⟨hk, hy, rfl, HAP.out⟩
        · gi_wp2
          exact ⟨hk, Kps.below y.below (fun k hk => by
            have hk : k < w.heap.size ∨ k = w.heap.size + 1 + 1 := hk
            have := h1.size
            omega), hy, HAP.out⟩
      case done =>
        rintro D ys W hDs rfl ⟨h1, h2⟩ hK
        rw [allP_all] at h2
        go_wp2_with fail
        refine fwd_ret ?_
        refine ⟨by simp, .inl ⟨_, _, rfl, run_takeDeferred hK, ?_⟩⟩
        exact ⟨.bool true, by simp [results, Try.results24, go_sem], ret_b (by rw [← HR.out, h2]), (B0.trans (h1.mono B0.size)).trans (belowK_b (w := w) (Nat.le_refl _) _ D _ _ (by omega) hK rfl rfl)⟩
      case stop =>
        rintro D cc pre W hDs hp ⟨h1, rfl, h2⟩ hK
        go_step3
        refine fwd_goto _ rfl ?_
        go_wp2
        refine nog_ret ?_
        refine ⟨by simp, .inl ⟨_, _, rfl, run_takeDeferred hK, ?_⟩⟩
        exact ⟨.bool false, by simp [results, Try.results24, go_sem], ret_b (by rw [← HR.out, allP_part ps qs HLEN.out hp h2]), (B0.trans (h1.mono B0.size)).trans (belowK_b (w := w) (Nat.le_refl _) _ D _ _ (by omega) hK rfl rfl)⟩
    · have e2 : ((ps.length : Int) != (qs.length : Int)) = true := by rw [bne_iff_ne]; omega
      have hd : decide (n = k ∧ ps.map (·.1) = qs.map (·.1)) = false := decide_eq_false fun h => hlen (by have := congrArg List.length h.2; simpa using this)
      rw [hd]
      clear hd hlen hnk
      refine (callsIn_wide (n := 9)).1 (callsIn_of_wp_marks Try.func24 rfl trivial ?_ rfl)
      simp only [Try.ntmps24, List.size_toArray, List.length_cons, List.length_nil, Nat.reduceAdd, Nat.reduceSub, Array.replicate_succ, Array.replicate_zero, List.push_toArray, List.append_toArray, List.nil_append, List.cons_append]
      refine wpIn_wide.2 ?_
      go_wp2_with fail
      refine wp_scope_fwd ?_
      go_wp2_with fail
      go_step3; refine fwd_goto _ rfl ?_; go_wp2; refine nog_ret ?_
      exact ⟨.bool false, by simp [results, Try.results24, go_sem], rfl, H0.out.2.2.1⟩
  · have e1 : (n != k) = true := by simp [hnk]
    have hd : decide (n = k ∧ ps.map (·.1) = qs.map (·.1)) = false := decide_eq_false fun h => hnk h.1
    rw [hd]
    clear hd hnk
    refine (callsIn_wide (n := 9)).1 (callsIn_of_wp_marks Try.func24 rfl trivial ?_ rfl)
    simp only [Try.ntmps24, List.size_toArray, List.length_cons, List.length_nil, Nat.reduceAdd, Nat.reduceSub, Array.replicate_succ, Array.replicate_zero, List.push_toArray, List.append_toArray, List.nil_append, List.cons_append]
    refine wpIn_wide.2 ?_
    go_wp2_with fail
    refine wp_scope_fwd ?_
    go_wp2_with fail
    go_step3; refine fwd_goto _ rfl ?_; go_wp2; refine nog_ret ?_
    exact ⟨.bool false, by simp [results, Try.results24, go_sem], rfl, H0.out.2.2.1⟩
end Go.Proofs.Ytdoigpifkdkjpaa
