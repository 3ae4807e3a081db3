/- 'Owner': the place of the one from which a key is the least far: for any list, any key. -/
import Derived.Test.YtnbabohhmcbhcaaDoorPlaces
set_option linter.unusedVariables false
set_option linter.unusedSimpArgs false
namespace Go.Proofs.YtnbabohhmcbhcaaDoor
open Go.RowKit Go.Shelf
attribute [local go_sem] Oper.semAt_some

def oStep (key : Int) (st : Int × Int) (x : Int) : Int × Int := if far key x < st.2 then (pl x, far key x) else st
def oAt (key : Int) (l : List Int) : Int × Int := l.foldl (oStep key) (0, 65536)
/-- The owner, if there is one; else 0. -/
def own (key : Int) (l : List Int) : Int := (oAt key l).1
theorem far_plr (a x : Int) : far a (pl x) = far a x := by unfold far pl; omega
theorem far_pll (a x : Int) : far (pl a) x = far a x := by unfold far pl; omega
theorem oAt_nil (key : Int) : oAt key [] = (0, 65536) := rfl
theorem oAt_snoc (key : Int) (l : List Int) (x : Int) : oAt key (l ++ [x]) = oStep key (oAt key l) x := by unfold oAt; rw [List.foldl_append]; rfl
theorem oAt_bd (key : Int) (l : List Int) : 0 ≤ (oAt key l).1 ∧ (oAt key l).1 < 65536 ∧ 0 ≤ (oAt key l).2 ∧ (oAt key l).2 ≤ 65536 := by
  suffices h : ∀ (l : List Int) (st : Int × Int), (0 ≤ st.1 ∧ st.1 < 65536 ∧ 0 ≤ st.2 ∧ st.2 ≤ 65536) → (0 ≤ (l.foldl (oStep key) st).1 ∧ (l.foldl (oStep key) st).1 < 65536 ∧ 0 ≤ (l.foldl (oStep key) st).2 ∧ (l.foldl (oStep key) st).2 ≤ 65536) from h l _ (by simp)
  intro l
  induction l with
  | nil => exact fun st h => h
  | cons x l ih =>
    intro st h
    refine ih _ ?_
    unfold oStep
    have := pl_bd x
    have := far_bd key x
    split
    · exact ⟨by omega, by omega, by omega, by omega⟩
    · exact h
theorem oAt_zero (key : Int) (pre l : List Int) (hp : pre <+: l) (h : (oAt key pre).2 = 0) : oAt key l = oAt key pre := by
  obtain ⟨s, rfl⟩ := hp
  unfold oAt at *
  rw [List.foldl_append]
  generalize pre.foldl (oStep key) (0, 65536) = st at *
  induction s with
  | nil => rfl
  | cons x s ih =>
    rw [List.foldl_cons]
    have : oStep key st x = st := if_neg (by have := far_bd key x; omega)
    rw [this]
    exact ih
theorem oAt_full (key : Int) (l : List Int) (h : l ≠ []) : (oAt key l).2 ≠ 65536 := by
  obtain ⟨x, l', rfl⟩ := List.exists_cons_of_ne_nil h
  have e : oAt key (x :: l') = l'.foldl (oStep key) (oStep key (0, 65536) x) := rfl
  have e1 : oStep key (0, 65536) x = (pl x, far key x) := if_pos (far_bd key x).2
  rw [e, e1]
  suffices h : ∀ (l : List Int) (st : Int × Int), st.2 < 65536 → (l.foldl (oStep key) st).2 < 65536 by
    have := h l' (pl x, far key x) (far_bd key x).2; omega
  intro l
  induction l with
  | nil => exact fun st h => h
  | cons y l ih =>
    intro st h
    refine ih _ ?_
    unfold oStep
    split
    · exact (far_bd key y).2
    · exact h

set_option maxRecDepth 100000 in
set_option maxHeartbeats 4000000 in
theorem owner_any (A : Option Addr) (n c : Nat) (l : List Int) (key : Int) (w : World) (hI : Sl w (.slice A n c) (iv l)) (hz : ∀ z ∈ l, Num z) (hk : Num key) :
    Calls Tryd.prog 10 #[.slice A n c, .int .i64 key] w fun e w' => e = .returned (.tuple #[.int .i64 (own key l), .bool (decide (l ≠ []))]) ∧ Below w.heap.size w w' := by
  obtain ⟨r, hr0⟩ : ∃ r, own key l = r := ⟨_, rfl⟩
  obtain ⟨bo, hbo⟩ : ∃ bo, decide (l ≠ []) = bo := ⟨_, rfl⟩
  rw [hr0, hbo]
  have HR := Lib.hid hr0
  have HBO := Lib.hid hbo
  clear hr0 hbo
  refine (callsIn_wide (n := 9)).1 (callsIn_of_wp_marks Tryd.func10 rfl trivial ?_ rfl)
  simp only [Tryd.ntmps10, List.size_toArray, List.length_cons, List.length_nil, Nat.reduceAdd, Nat.reduceSub, Array.replicate_succ, Array.replicate_zero, List.push_toArray, List.append_toArray, List.nil_append, List.cons_append]
  refine wpIn_wide.2 ?_
  have HI := Lib.hid hI
  clear hI
  go_wp2_with fail
  refine wp_scope_fwd ?_
  go_wp2_with fail
  refine (places_any A n c _).mono ?_; rintro e w' ⟨rfl, rfl⟩
  go_wp2_with fail
  have b1 := (((Boxed.new w 3 (.int .i64 key)).alloc (.cells #[.int .i64 0] 3)).alloc (.cells #[.int .i64 65536] 3)).alloc (.cells #[.slice A n c] 22)
  have b2 := ((Boxed.new (w.alloc (.cells #[.int .i64 key] 3)) 3 (.int .i64 0)).alloc (.cells #[.int .i64 65536] 3)).alloc (.cells #[.slice A n c] 22)
  have b3 := (Boxed.new ((w.alloc (.cells #[.int .i64 key] 3)).alloc (.cells #[.int .i64 0] 3)) 3 (.int .i64 65536)).alloc (.cells #[.slice A n c] 22)
  have bz := Boxed.new (((w.alloc (.cells #[.int .i64 key] 3)).alloc (.cells #[.int .i64 0] 3)).alloc (.cells #[.int .i64 65536] 3)) 22 (.slice A n c)
  have hB0 : Below w.heap.size w ((((w.alloc (.cells #[.int .i64 key] 3)).alloc (.cells #[.int .i64 0] 3)).alloc (.cells #[.int .i64 65536] 3)).alloc (.cells #[.slice A n c] 22)) := ((((Below.refl _ w).alloc (Nat.le_refl _) _).alloc (by simp) _).alloc (by simp; omega) _).alloc (by simp; omega) _
  have hz1 : (w.alloc (.cells #[.int .i64 key] 3)).heap.size = w.heap.size + 1 := by simp
  have hz2 : ((w.alloc (.cells #[.int .i64 key] 3)).alloc (.cells #[.int .i64 0] 3)).heap.size = w.heap.size + 1 + 1 := by simp
  have hz3 : (((w.alloc (.cells #[.int .i64 key] 3)).alloc (.cells #[.int .i64 0] 3)).alloc (.cells #[.int .i64 65536] 3)).heap.size = w.heap.size + 1 + 1 + 1 := by simp
  rw [hz1] at b2
  rw [hz2] at b3
  rw [hz3] at bz
  have hI1 := HI.out.below hB0
  have hown : ∀ k, (Value.slice A n c).ownBlock = some k → k < w.heap.size := by
    intro k hk
    rcases HI.out with ⟨e, _⟩ | ⟨b, off, c', e, _, _, hb, _⟩
    · rw [e] at hk; cases hk
    · rw [e] at hk; cases hk; exact hb
  generalize hW1 : ((((w.alloc (.cells #[.int .i64 key] 3)).alloc (.cells #[.int .i64 0] 3)).alloc (.cells #[.int .i64 65536] 3)).alloc (.cells #[.slice A n c] 22)) = W1 at *
  have hsz : W1.heap.size = w.heap.size + 1 + 1 + 1 + 1 := by rw [← hW1]; simp
  have HSZ := Lib.hid hsz
  clear hsz hW1 hz1 hz2 hz3
  refine wp_range (gf := 26) (lb := #[.pointer (some ⟨w.heap.size + 1 + 1 + 1, 0, none⟩)]) rfl (enters_of Tryd.func26 (by kernel_rfl) rfl)
    (places_stops 8 (w.heap.size + 1 + 1 + 1) (fun k => k = w.heap.size + 1 + 1 + 1 ∨ k < w.heap.size) (.slice A n c) l hz W1 (by rw [HSZ.out]; omega) bz.cell hI1 (fun k h => .inr (hown k h))) (by rintro k (rfl | h) <;> (rw [HSZ.out]; omega)) (fun _ => rfl)
    (fun pre W => (Boxed W w.heap.size 3 (.int .i64 key) ∧ Boxed W (w.heap.size + 1) 3 (.int .i64 (oAt key pre).1) ∧ Boxed W (w.heap.size + 1 + 1) 3 (.int .i64 (oAt key pre).2)) ∧ (Below w.heap.size w W ∧ (oAt key pre).2 ≠ 0))
    (fun c pre W => (Boxed W (w.heap.size + 1) 3 (.int .i64 (oAt key pre).1)) ∧ (Below w.heap.size w W ∧ c = .goto 0 ∧ (oAt key pre).2 = 0))
    (OwnFrom.and (OwnFrom.and (Own.from (boxed_own w.heap.size 3 (fun _ => .int .i64 key)) _) (OwnFrom.and (Own.from (boxed_own (w.heap.size + 1) 3 (fun pre => .int .i64 (oAt key pre).1)) _) (Own.from (boxed_own (w.heap.size + 1 + 1) 3 (fun pre => .int .i64 (oAt key pre).2)) _))) (OwnFrom.and (ownFrom_below (Nat.le_refl _) (by rw [HSZ.out]; omega)) (ownFrom_const _)))
    (fun c => OwnFrom.and (Own.from (boxed_own (w.heap.size + 1) 3 (fun pre => .int .i64 (oAt key pre).1)) _) (OwnFrom.and (ownFrom_below (Nat.le_refl _) (by rw [HSZ.out]; omega)) (ownFrom_const _)))
    ⟨⟨b1, b2, b3⟩, hB0, by rw [oAt_nil]; simp⟩
    (fun x => { tmps := #[.slice A n c, .int .i64 key, undef, .pointer (some ⟨w.heap.size, 0, none⟩), .int .i64 0, .bool false, .pointer (some ⟨w.heap.size + 1, 0, none⟩), .pointer (some ⟨w.heap.size + 1 + 1, 0, none⟩), .int .i64 (pl x), undef, .slice A n c, .func (.func 26) #[] #[.pointer (some ⟨w.heap.size + 1 + 1 + 1, 0, none⟩)], .int .i64 (pl x), undef, undef, undef, undef, undef, undef, undef, undef, undef, undef, undef, undef, undef], defers := [] }) ?assign ?body ?done ?stop
  case assign =>
    intro l x W K hK
    gi_wp2
    exact hK
  case body =>
    rintro lp pre x W ⟨⟨d1, d2, d3⟩, hW, hr⟩ hlt
    have e1 := d1.cell
    have f1 := d1.frozen
    have e2 := d2.cell
    have f2 := d2.frozen
    have e3 := d3.cell
    have f3 := d3.frozen
    have hs := oAt_snoc key pre x
    have hf := fun w => far_any key (pl x) w hk (pl_num x)
    rw [far_plr] at hf
    have k1 := far_bd key x
    have k2 := oAt_bd key pre
    have hstep : oStep key (oAt key pre) x = if far key x < (oAt key pre).2 then (pl x, far key x) else oAt key pre := rfl
    rw [hstep] at hs
    clear hstep
    generalize oAt key pre = st at *
    obtain ⟨o, m⟩ := st
    simp only at e2 e3 hs k2 hr d2 d3
    by_cases hlt1 : far key x < m
    · rw [if_pos hlt1] at hs
      generalize far key x = p at *
      have Hs := Lib.hid hs
      clear hs
      by_cases hz0 : p = 0
      · subst hz0
        clear k1
        gi_wp2_with (refine ⟨trivial, ?_⟩; gi_at_call 14; refine (CallsIn.inRound lp (callsIn_wide.2 (hf _))).mono ?_; rintro e w' ⟨rfl, rfl⟩)
        refine wpIn_goto ?_
        refine ⟨((KeepsOthers.setCell _ _ _).trans (KeepsOthers.setCell _ _ _)).from _, ?_, ?_, rfl, ?_⟩
        · rw [Hs.out]
          exact (d2.set _).other (by omega) _
        · exact (hW.setCell (p := ⟨w.heap.size + 1, 0, none⟩) (by show w.heap.size ≤ w.heap.size + 1; omega) _).setCell (p := ⟨w.heap.size + 1 + 1, 0, none⟩) (by show w.heap.size ≤ w.heap.size + 1 + 1; omega) _
        · rw [Hs.out]
      · have g0 : (p == 0) = false := by simpa using hz0
        gi_wp2_with (refine ⟨trivial, ?_⟩; gi_at_call 14; refine (CallsIn.inRound lp (callsIn_wide.2 (hf _))).mono ?_; rintro e w' ⟨rfl, rfl⟩)
        refine ⟨((KeepsOthers.setCell _ _ _).trans (KeepsOthers.setCell _ _ _)).from _, ?_, ⟨?_, ?_, ?_⟩, ?_, ?_⟩
        · refine Kps.trans (Kps.set _ ?_ _) (Kps.set _ ?_ _)
          · rintro q (rfl | h)
            · show w.heap.size + 1 + 1 + 1 ≠ w.heap.size + 1; omega
            · show q ≠ w.heap.size + 1; omega
          · rintro q (rfl | h)
            · show w.heap.size + 1 + 1 + 1 ≠ w.heap.size + 1 + 1; omega
            · show q ≠ w.heap.size + 1 + 1; omega
        · exact (d1.other (by omega) _).other (by omega) _
        · rw [Hs.out]
          exact (d2.set _).other (by omega) _
        · rw [Hs.out]
          exact (d3.other (by omega) _).set _
        · exact (hW.setCell (p := ⟨w.heap.size + 1, 0, none⟩) (by show w.heap.size ≤ w.heap.size + 1; omega) _).setCell (p := ⟨w.heap.size + 1 + 1, 0, none⟩) (by show w.heap.size ≤ w.heap.size + 1 + 1; omega) _
        · rw [Hs.out]
          exact hz0
    · rw [if_neg hlt1] at hs
      generalize far key x = p at *
      have Hs := Lib.hid hs
      clear hs
      have g0 : (p == 0) = false := by simp; omega
      gi_wp2_with (refine ⟨trivial, ?_⟩; gi_at_call 14; refine (CallsIn.inRound lp (callsIn_wide.2 (hf _))).mono ?_; rintro e w' ⟨rfl, rfl⟩)
      refine ⟨(KeepsOthers.refl _).from _, Kps.refl _ _, ⟨d1, ?_, ?_⟩, hW, ?_⟩
      · rw [Hs.out]; exact d2
      · rw [Hs.out]; exact d3
      · rw [Hs.out]; exact hr
  case done =>
    rintro D ys W hDs rfl ⟨⟨d1, d2, d3⟩, hW, hr⟩ hK
    have hD : w.heap.size + 1 + 1 < D := by rw [HSZ.out] at hDs; omega
    have e2 := d2.cell
    have e3 := d3.cell
    have k2 := oAt_bd key ys
    have hR := HR.out
    have hBO := HBO.out
    unfold own at hR
    by_cases hn : ys = []
    · rw [show decide (ys ≠ []) = false by simp [hn]] at hBO
      subst hBO
      subst hn
      rw [oAt_nil] at e2 e3 hR
      simp only at e2 e3 hR
      subst hR
      go_wp2_with fail
      go_step3
      refine fwd_goto _ rfl ?_
      go_wp2
      refine nog_ret ?_
      refine ⟨by simp, .inl ⟨_, _, rfl, run_takeDeferred hK, ?_⟩⟩
      exact ⟨.tuple #[.int .i64 0, .bool false], by simp [results, Tryd.results10, go_sem], rfl, hW.trans (belowK_b (w := w) (Nat.le_refl _) _ D _ _ (by omega) hK rfl rfl)⟩
    · rw [show decide (ys ≠ []) = true by simp [hn]] at hBO
      subst hBO
      have hg : ((oAt key ys).2 == 65536) = false := by simpa using oAt_full key ys hn
      generalize oAt key ys = st at *
      obtain ⟨o, m⟩ := st
      simp only at e2 e3 hg k2 hR
      subst hR
      go_wp2_with fail
      go_step3
      go_wp2
      refine fwd_ret ?_
      refine ⟨by simp, .inl ⟨_, _, rfl, run_takeDeferred hK, ?_⟩⟩
      exact ⟨.tuple #[.int .i64 o, .bool true], by simp [results, Tryd.results10, go_sem], rfl, hW.trans (belowK_b (w := w) (Nat.le_refl _) _ D _ _ (by omega) hK rfl rfl)⟩
  case stop =>
    rintro D c pre W hDs hp ⟨d2, hW, rfl, hr⟩ hK
    have hD : w.heap.size + 1 + 1 < D := by rw [HSZ.out] at hDs; omega
    have e2 := d2.cell
    have k2 := oAt_bd key pre
    have hq := oAt_zero key pre l hp hr
    have hn : l ≠ [] := by
      rintro rfl
      obtain rfl : pre = [] := List.prefix_nil.1 hp
      rw [oAt_nil] at hr
      simp at hr
    have hR := HR.out
    have hBO := HBO.out
    unfold own at hR
    rw [show decide (l ≠ []) = true by simp [hn]] at hBO
    subst hBO
    rw [hq] at hR
    generalize oAt key pre = st at *
    obtain ⟨o, m⟩ := st
    simp only at e2 hr k2 hR
    subst hR
    go_step3
    refine fwd_goto _ rfl ?_
    go_wp2
    refine ⟨by simp, .inl ⟨_, _, rfl, run_takeDeferred hK, ?_⟩⟩
    exact ⟨.tuple #[.int .i64 o, .bool true], by simp [results, Tryd.results10, go_sem], rfl, hW.trans (belowK_b (w := w) (Nat.le_refl _) _ D _ _ (by omega) hK rfl rfl)⟩
end Go.Proofs.YtnbabohhmcbhcaaDoor
