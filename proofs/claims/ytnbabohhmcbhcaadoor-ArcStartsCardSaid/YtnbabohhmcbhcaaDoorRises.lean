/- 'Rises': whether ways to those of a list rise: for any list, any place to begin at. -/
import Derived.Test.YtnbabohhmcbhcaaDoorOwner
set_option linter.unusedVariables false
set_option linter.unusedSimpArgs false
namespace Go.Proofs.YtnbabohhmcbhcaaDoor
open Go.RowKit Go.Shelf
attribute [local go_sem] Oper.semAt_some

def rStep (a : Int) (st : Bool × Int) (x : Int) : Bool × Int := (st.1 && decide (st.2 < far a x), far a x)
def rAt (a : Int) (l : List Int) : Bool × Int := l.foldl (rStep a) (true, 0)
/-- They rise. -/
def ris (a : Int) (l : List Int) : Bool := (rAt a l).1
theorem rAt_nil (a : Int) : rAt a [] = (true, 0) := rfl
theorem rAt_snoc (a : Int) (l : List Int) (x : Int) : rAt a (l ++ [x]) = rStep a (rAt a l) x := by unfold rAt; rw [List.foldl_append]; rfl
theorem rAt_bd (a : Int) (l : List Int) : 0 ≤ (rAt a l).2 ∧ (rAt a l).2 < 65536 := by
  rcases List.eq_nil_or_concat l with rfl | ⟨l', x, rfl⟩
  · rw [rAt_nil]; simp
  · rw [List.concat_eq_append, rAt_snoc]
    exact far_bd a x
theorem rAt_no (a : Int) (pre l : List Int) (hp : pre <+: l) (h : (rAt a pre).1 = false) : (rAt a l).1 = false := by
  obtain ⟨s, rfl⟩ := hp
  unfold rAt at *
  rw [List.foldl_append]
  generalize pre.foldl (rStep a) (true, 0) = st at *
  induction s generalizing st with
  | nil => exact h
  | cons x s ih => exact ih _ (by unfold rStep; rw [h]; rfl)

set_option maxRecDepth 100000 in
set_option maxHeartbeats 4000000 in
theorem rises_any (A : Option Addr) (n c : Nat) (l : List Int) (a : Int) (w : World) (hI : Sl w (.slice A n c) (iv l)) (hz : ∀ z ∈ l, Num z) (ha : Num a) :
    Calls Tryd.prog 22 #[.int .i64 a, .slice A n c] w fun e w' => e = .returned (.bool (ris a l)) ∧ Below w.heap.size w w' := by
  obtain ⟨bo, hbo⟩ : ∃ bo, ris a l = bo := ⟨_, rfl⟩
  rw [hbo]
  have HBO := Lib.hid hbo
  clear hbo
  refine (callsIn_wide (n := 9)).1 (callsIn_of_wp_marks Tryd.func22 rfl trivial ?_ rfl)
  simp only [Tryd.ntmps22, List.size_toArray, List.length_cons, List.length_nil, Nat.reduceAdd, Nat.reduceSub, Array.replicate_succ, Array.replicate_zero, List.push_toArray, List.append_toArray, List.nil_append, List.cons_append]
  refine wpIn_wide.2 ?_
  have HI := Lib.hid hI
  clear hI
  go_wp2_with fail
  refine wp_scope_fwd ?_
  go_wp2_with fail
  refine (places_any A n c _).mono ?_; rintro e w' ⟨rfl, rfl⟩
  go_wp2_with fail
  have b1 := ((Boxed.new w 3 (.int .i64 a)).alloc (.cells #[.int .i64 0] 3)).alloc (.cells #[.slice A n c] 22)
  have b2 := (Boxed.new (w.alloc (.cells #[.int .i64 a] 3)) 3 (.int .i64 0)).alloc (.cells #[.slice A n c] 22)
  have bz := Boxed.new ((w.alloc (.cells #[.int .i64 a] 3)).alloc (.cells #[.int .i64 0] 3)) 22 (.slice A n c)
  have hB0 : Below w.heap.size w (((w.alloc (.cells #[.int .i64 a] 3)).alloc (.cells #[.int .i64 0] 3)).alloc (.cells #[.slice A n c] 22)) := (((Below.refl _ w).alloc (Nat.le_refl _) _).alloc (by simp) _).alloc (by simp; omega) _
  have hz1 : (w.alloc (.cells #[.int .i64 a] 3)).heap.size = w.heap.size + 1 := by simp
  have hz2 : ((w.alloc (.cells #[.int .i64 a] 3)).alloc (.cells #[.int .i64 0] 3)).heap.size = w.heap.size + 1 + 1 := by simp
  rw [hz1] at b2
  rw [hz2] at bz
  have hI1 := HI.out.below hB0
  have hown : ∀ k, (Value.slice A n c).ownBlock = some k → k < w.heap.size := by
    intro k hk
    rcases HI.out with ⟨e, _⟩ | ⟨b, off, c', e, _, _, hb, _⟩
    · rw [e] at hk; cases hk
    · rw [e] at hk; cases hk; exact hb
  generalize hW1 : (((w.alloc (.cells #[.int .i64 a] 3)).alloc (.cells #[.int .i64 0] 3)).alloc (.cells #[.slice A n c] 22)) = W1 at *
  have hsz : W1.heap.size = w.heap.size + 1 + 1 + 1 := by rw [← hW1]; simp
  have HSZ := Lib.hid hsz
  clear hsz hW1 hz1 hz2
  refine wp_range (gf := 26) (lb := #[.pointer (some ⟨w.heap.size + 1 + 1, 0, none⟩)]) rfl (enters_of Tryd.func26 (by kernel_rfl) rfl)
    (places_stops 8 (w.heap.size + 1 + 1) (fun k => k = w.heap.size + 1 + 1 ∨ k < w.heap.size) (.slice A n c) l hz W1 (by rw [HSZ.out]; omega) bz.cell hI1 (fun k h => .inr (hown k h))) (by rintro k (rfl | h) <;> (rw [HSZ.out]; omega)) (fun _ => rfl)
    (fun pre W => (Boxed W w.heap.size 3 (.int .i64 a) ∧ Boxed W (w.heap.size + 1) 3 (.int .i64 (rAt a pre).2)) ∧ (Below w.heap.size w W ∧ (rAt a pre).1 = true))
    (fun c pre W => Below w.heap.size w W ∧ (c = .goto 0 ∧ (rAt a pre).1 = false))
    (OwnFrom.and (OwnFrom.and (Own.from (boxed_own w.heap.size 3 (fun _ => .int .i64 a)) _) (Own.from (boxed_own (w.heap.size + 1) 3 (fun pre => .int .i64 (rAt a pre).2)) _)) (OwnFrom.and (ownFrom_below (Nat.le_refl _) (by rw [HSZ.out]; omega)) (ownFrom_const _)))
    (fun c => OwnFrom.and (ownFrom_below (Nat.le_refl _) (by rw [HSZ.out]; omega)) (ownFrom_const _))
    ⟨⟨b1, b2⟩, hB0, by rw [rAt_nil]⟩
    (fun x => { tmps := #[.int .i64 a, .slice A n c, .pointer (some ⟨w.heap.size, 0, none⟩), undef, .bool false, .pointer (some ⟨w.heap.size + 1, 0, none⟩), .int .i64 (pl x), undef, .slice A n c, .func (.func 26) #[] #[.pointer (some ⟨w.heap.size + 1 + 1, 0, none⟩)], .int .i64 (pl x), undef, undef, undef, undef, undef, undef, undef], defers := [] }) ?assign ?body ?done ?stop
  case assign =>
    intro l x W K hK
    gi_wp2
    exact hK
  case body =>
    rintro lp pre x W ⟨⟨d1, d2⟩, hW, hr⟩ hlt
    have e1 := d1.cell
    have f1 := d1.frozen
    have e2 := d2.cell
    have f2 := d2.frozen
    have hs := rAt_snoc a pre x
    have hf := fun w => far_any a (pl x) w ha (pl_num x)
    rw [far_plr] at hf
    have k1 := far_bd a x
    have k2 := rAt_bd a pre
    have hstep : rStep a (rAt a pre) x = ((rAt a pre).1 && decide ((rAt a pre).2 < far a x), far a x) := rfl
    rw [hstep, hr] at hs
    clear hstep
    generalize rAt a pre = st at *
    obtain ⟨o, m⟩ := st
    simp only at e2 hs k2 hr d2
    subst hr
    generalize far a x = p at *
    by_cases hlt1 : m < p
    · rw [decide_eq_true hlt1] at hs
      have Hs := Lib.hid hs
      clear hs
      gi_wp2_with (refine ⟨trivial, ?_⟩; gi_at_call 14; refine (CallsIn.inRound lp (callsIn_wide.2 (hf _))).mono ?_; rintro e w' ⟨rfl, rfl⟩)
      refine ⟨(KeepsOthers.setCell _ _ _).from _, ?_, ⟨?_, ?_⟩, ?_, ?_⟩
      · refine Kps.set _ ?_ _
        rintro q (rfl | h)
        · show w.heap.size + 1 + 1 ≠ w.heap.size + 1; omega
        · show q ≠ w.heap.size + 1; omega
      · exact d1.other (by omega) _
      · rw [Hs.out]
        exact d2.set _
      · exact hW.setCell (p := ⟨w.heap.size + 1, 0, none⟩) (by show w.heap.size ≤ w.heap.size + 1; omega) _
      · rw [Hs.out]; rfl
    · rw [decide_eq_false hlt1] at hs
      have Hs := Lib.hid hs
      clear hs
      gi_wp2_with (refine ⟨trivial, ?_⟩; gi_at_call 14; refine (CallsIn.inRound lp (callsIn_wide.2 (hf _))).mono ?_; rintro e w' ⟨rfl, rfl⟩)
      refine wpIn_goto ?_
      refine ⟨(KeepsOthers.refl _).from _, hW, rfl, ?_⟩
      rw [Hs.out]; rfl
  case done =>
    rintro D ys W hDs rfl ⟨⟨d1, d2⟩, hW, hr⟩ hK
    have hD : w.heap.size + 1 < D := by rw [HSZ.out] at hDs; omega
    have hBO := HBO.out
    unfold ris at hBO
    rw [hr] at hBO
    subst hBO
    go_wp2_with fail
    refine fwd_ret ?_
    refine ⟨by simp, .inl ⟨_, _, rfl, run_takeDeferred hK, ?_⟩⟩
    exact ⟨.bool true, by simp [results, Tryd.results22, go_sem], rfl, hW.trans (belowK_b (w := w) (Nat.le_refl _) _ D _ _ (by omega) hK rfl rfl)⟩
  case stop =>
    rintro D c pre W hDs hp ⟨hW, rfl, hr⟩ hK
    have hD : w.heap.size + 1 < D := by rw [HSZ.out] at hDs; omega
    have hBO := HBO.out
    unfold ris at hBO
    rw [rAt_no a pre l hp hr] at hBO
    subst hBO
    go_step3
    refine fwd_goto _ rfl ?_
    go_wp2
    refine ⟨by simp, .inl ⟨_, _, rfl, run_takeDeferred hK, ?_⟩⟩
    exact ⟨.bool false, by simp [results, Tryd.results22, go_sem], rfl, hW.trans (belowK_b (w := w) (Nat.le_refl _) _ D _ _ (by omega) hK rfl rfl)⟩
end Go.Proofs.YtnbabohhmcbhcaaDoor
