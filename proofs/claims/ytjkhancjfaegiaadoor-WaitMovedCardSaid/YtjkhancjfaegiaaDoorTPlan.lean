/- 'Plan': the iterator 'times', what it hands to a loop's body; the plan, and the document's own: for any number. -/
import Derived.Test.YtjkhancjfaegiaaDoorTWait
import Derived.Test.YtjkhancjfaegiaaDoorBLoop
set_option linter.unusedVariables false
set_option maxRecDepth 100000
set_option linter.unusedSimpArgs false
namespace Go.Proofs.YtjkhancjfaegiaaDoor
open Go.RowKit Go.Shelf Ms
attribute [local go_sem] Oper.semAt_some

/-- How long one has waited ahead of so many rounds. -/
def cS : Nat → Int
  | 0 => 0
  | k + 1 => cS k + wN k
theorem cS_bd (k : Nat) (h : k ≤ 4) : 0 ≤ cS k ∧ cS k ≤ 7 := by
  have : ∀ k : Fin 5, 0 ≤ cS k ∧ cS k ≤ 7 := by decide
  exact this ⟨k, by omega⟩
def atI (b : Int) (k : Nat) : Int := wrap64 (b + cS k)
theorem atI_zero (b : Int) (h : Num b) : atI b 0 = b := by unfold atI cS; rw [Int.add_zero]; exact IntWalk.wrap64_in _ h
theorem atI_num (b : Int) (k : Nat) : Num (atI b k) := wr_num _
theorem atI_next (b : Int) (k : Nat) (h : k < 4) : wrap64 (atI b k + wN k) = atI b (k + 1) := by
  have h1 := cS_bd k (by omega)
  have h2 := wN_bd k
  unfold atI
  rw [show cS (k + 1) = cS k + wN k from rfl, wr_eq (b + cS k), wr_eq (b + (cS k + wN k)), wr_eq]
  omega

set_option maxHeartbeats 4000000 in
theorem times_in (n : Nat) (l Bs : Nat) (S : Nat → Prop) (b : Int) (hb : Num b) (hS0 : S 0) (J Jx : List (Fin 4) → World → Prop)
    (hY : ∀ (pre : List (Fin 4)) (x : Fin 4) (W : World), J pre W → pre.length < 4 → YieldAt Fence.wide (n - 1) Tryd.prog l #[.int .i64 (x.1 : Int), .int .i64 (atI b (x.1 + 1))] W fun e W' =>
      (e = .returned (.bool true) ∧ J (pre ++ [x]) W' ∧ Kps S W W') ∨ (e = .returned (.bool false) ∧ Jx (pre ++ [x]) W'))
    (W : World) (hBs : W.cell? ⟨Bs, 0, none⟩ = some (.int .i64 b)) (hT : TabW W) (h0 : J [] W) :
    CallsIn Fence.wide n Tryd.prog 22 #[.func (.yield l) #[] #[], .pointer (some ⟨Bs, 0, none⟩)] W fun e W' => (∃ v, e = .returned v) ∧
      ((∃ ys, ys = List.finRange 4 ∧ J ys W') ∨ (∃ pre, pre <+: List.finRange 4 ∧ Jx pre W')) := by
  refine callsIn_of_wp Tryd.func22 rfl trivial ?_ rfl
  simp only [Tryd.ntmps22, List.size_toArray, List.length_cons, List.length_nil, Nat.reduceAdd, Nat.reduceSub, Array.replicate_succ, Array.replicate_zero, List.push_toArray, List.append_toArray, List.nil_append, List.cons_append]
  have HT := Lib.hid hT
  clear hT
  gi_wp2
  gi_loopw [3, 6] (fun at_ i wr => ∃ k : Nat, k ≤ 4 ∧ at_ = .int .i64 (atI b k) ∧ i = .int .i64 k ∧ J ((List.finRange 4).take k) wr ∧ Kps S W wr)
    (fun _ i _ => 4 - (intOf i).toNat)
  case atStart => exact ⟨0, by omega, by rw [atI_zero b hb], rfl, by simpa using h0, Kps.refl _ _⟩
  case round =>
    obtain ⟨k, hk, rfl, rfl, hJs, hnx⟩ := hrel
    by_cases hlt : k < 4
    · have hT1 : TabW wr := ⟨(hnx.cell (p := ⟨0, 0, none⟩) hS0).trans HT.out.1, (hnx.cell (p := ⟨0, 1, none⟩) hS0).trans HT.out.2.1, (hnx.cell (p := ⟨0, 2, none⟩) hS0).trans HT.out.2.2.1, (hnx.cell (p := ⟨0, 3, none⟩) hS0).trans HT.out.2.2.2⟩
      have h1 := Wait_any k wr hT1
      have hy0 := hY ((List.finRange 4).take k) ⟨k, hlt⟩ wr hJs (by rw [List.length_take]; simp; omega)
      have e1 := atI_next b k hlt
      rw [← e1] at hy0
      have E1 := Lib.hid e1
      clear e1 hT1
      obtain ⟨fn, tmps, assign, body, hy, hR⟩ := hy0
      generalize wN k = v at *
      generalize hp : atI b k = p at *
      gi_wp2_with (refine ⟨trivial, fun h => (by cases h), ?_⟩; gi_at_call 8; refine (callsIn_wide.2 h1).mono ?_; rintro e w' ⟨rfl, rfl⟩)
      refine ⟨fun h => (by cases h), hR.mono ?_⟩
      rintro e W3 (⟨rfl, hJ3, hk3⟩ | ⟨rfl, hJx3⟩)
      · gi_wp2
        go_roundw
        case rel => exact ⟨k + 1, by omega, by rw [E1.out], by simp, by rw [List.take_succ_eq_append_getElem (by simpa using hlt)]; simpa using hJ3, hnx.trans hk3⟩
        case measure => simp [intOf]; omega
      · gi_wp2
        refine bodyPost_ret (results_none rfl _ _ _) rfl ?_
        exact ⟨⟨_, rfl⟩, .inr ⟨(List.finRange 4).take (k + 1), List.take_prefix _ _, by rw [List.take_succ_eq_append_getElem (by simpa using hlt)]; simpa using hJx3⟩⟩
    · obtain rfl : k = 4 := by omega
      gi_wp2
      go_end0
      exact ⟨⟨_, rfl⟩, .inl ⟨_, rfl, hJs⟩⟩

theorem times_stops (n Bs : Nat) (S : Nat → Prop) (b : Int) (hb : Num b) (w : World) (hlt : Bs < w.heap.size) (hc : w.cell? ⟨Bs, 0, none⟩ = some (.int .i64 b)) (hT : TabW w) (hS0 : S 0) :
    SeqStopsK Fence.wide n Tryd.prog 22 #[.pointer (some ⟨Bs, 0, none⟩)] (fun x : Fin 4 => #[.int .i64 (x.1 : Int), .int .i64 (atI b (x.1 + 1))]) (Kps S) (fun ys => ys = List.finRange 4) (fun pre => pre <+: List.finRange 4) 4 w := fun l J Jx W hW _ _ hY h0 =>
  times_in n l Bs S b hb hS0 J Jx hY W ((hW.cell (p := ⟨Bs, 0, none⟩) hlt).trans hc) (hT.below hT.size hW) h0

theorem times_any (b : Int) (w : World) : Calls Tryd.prog 20 #[.int .i64 b] w fun e w' => e = .returned (.func (.func 22) #[] #[.pointer (some ⟨w.heap.size, 0, none⟩)]) ∧ w' = w.alloc (.cells #[.int .i64 b] 3) := by
  go_enter Tryd.func20, Tryd.ntmps20
  go_wp2
  go_ret
  exact ⟨rfl, rfl⟩

/-- A plan's row. -/
def planC (b : Int) : Array Value := #[.int .i64 (atI b 1), .int .i64 (atI b 2), .int .i64 (atI b 3), .int .i64 (atI b 4)]
def zeroC : Array Value := #[.int .i64 0, .int .i64 0, .int .i64 0, .int .i64 0]
def rowC (b : Int) (pre : List (Fin 4)) : Array Value := pre.foldl (fun c x => c.setIfInBounds x.1 (.int .i64 (atI b (x.1 + 1)))) zeroC
theorem rowC_all (b : Int) : rowC b (List.finRange 4) = planC b := by rfl
theorem rowC_snoc (b : Int) (pre : List (Fin 4)) (x : Fin 4) : rowC b (pre ++ [x]) = (rowC b pre).setIfInBounds x.1 (.int .i64 (atI b (x.1 + 1))) := by unfold rowC; rw [List.foldl_append]; rfl
theorem rowC_size (b : Int) (pre : List (Fin 4)) : (rowC b pre).size = 4 := by
  suffices h : ∀ (c : Array Value), c.size = 4 → (pre.foldl (fun c (x : Fin 4) => c.setIfInBounds x.1 (.int .i64 (atI b (x.1 + 1)))) c).size = 4 from h zeroC rfl
  induction pre with
  | nil => exact fun c h => h
  | cons x l ih => exact fun c h => ih _ (by simpa using h)
theorem planC_one (b : Int) : (planC b).all (·.oneCell') = true := by simp [planC, Value.oneCell']
theorem aggP : Agg Tryd.prog 24 4 := ⟨⟨_, Tryd.underlying24, rfl⟩, by kernel_rfl⟩

set_option maxHeartbeats 4000000 in
theorem Plan_any (b : Int) (w : World) (hb : Num b) (hT : TabW w) : Calls Tryd.prog 14 #[.int .i64 b] w fun e w' => e = .returned (.agg (planC b)) ∧ Below w.heap.size w w' := by
  have hT0 := hT.size
  have HT := Lib.hid hT
  clear hT
  refine (callsIn_wide (n := 9)).1 (callsIn_of_wp_marks Tryd.func14 rfl trivial ?_ rfl)
  simp only [Tryd.ntmps14, List.size_toArray, List.length_cons, List.length_nil, Nat.reduceAdd, Nat.reduceSub, Array.replicate_succ, Array.replicate_zero, List.push_toArray, List.append_toArray, List.nil_append, List.cons_append]
  refine wpIn_wide.2 ?_
  go_wp2_with fail
  refine (times_any b _).mono ?_; rintro e w' ⟨rfl, rfl⟩
  go_wp2_with fail
  have r1 := ((Rw.new w zeroC 24).alloc (.cells zeroC 24)).alloc (.cells #[.int .i64 b] 3)
  have r2 := (Rw.new (w.alloc (.cells zeroC 24)) zeroC 24).alloc (.cells #[.int .i64 b] 3)
  have r3 := Rw.new ((w.alloc (.cells zeroC 24)).alloc (.cells zeroC 24)) #[.int .i64 b] 3
  have z1 : (w.alloc (.cells zeroC 24)).heap.size = w.heap.size + 1 := by simp
  have z2 : ((w.alloc (.cells zeroC 24)).alloc (.cells zeroC 24)).heap.size = w.heap.size + 1 + 1 := by simp
  rw [z1] at r2
  rw [z2] at r3
  have B0 := (((Below.refl _ w).alloc (Nat.le_refl _) (.cells zeroC 24)).alloc (by simp) (.cells zeroC 24)).alloc (by simp; omega) (.cells #[.int .i64 b] 3)
  refine gen_code (fun W => Rw W w.heap.size 24 zeroC ∧ Rw W (w.heap.size + 1) 24 zeroC ∧ Rw W (w.heap.size + 1 + 1) 3 #[.int .i64 b] ∧ Below w.heap.size w W ∧ W.heap.size = w.heap.size + 1 + 1 + 1) ⟨r1, r2, r3, B0, by simp⟩ ?_
  clear r1 r2 r3 z1 z2 B0
  rintro W1 ⟨r1, r2, r3, B0, hsz⟩
  refine wp_range (gf := 22) (lb := #[.pointer (some ⟨w.heap.size + 1 + 1, 0, none⟩)]) rfl (enters_of Tryd.func22 (by kernel_rfl) rfl)
    (times_stops 8 (w.heap.size + 1 + 1) (fun k => k < w.heap.size ∨ k = w.heap.size + 1 + 1) b hb W1 r3.lt (r3.cell 0) (HT.out.below hT0 B0) (.inl hT0)) (by rintro k (h | rfl) <;> omega) (fun _ => rfl)
    (fun pre W => Rw W w.heap.size 24 zeroC ∧ Rw W (w.heap.size + 1) 24 (rowC b pre) ∧ Below w.heap.size w W)
    (fun c pre W => False)
    (ownFrom_still fun pre W W' ⟨h1, h2, h3⟩ hb => ⟨hb.rw_ h1, hb.rw_ h2, hb.below h3 (by omega) (Nat.le_refl _)⟩)
    (fun c => ownFrom_const _)
    ⟨r1, r2, B0⟩
    (fun x => { tmps := #[.int .i64 b, undef, .pointer (some ⟨w.heap.size, 0, none⟩), .pointer (some ⟨w.heap.size + 1, 0, none⟩), .int .i64 (x.1 : Int), .int .i64 (atI b (x.1 + 1)), .int .i64 b, .func (.func 22) #[] #[.pointer (some ⟨w.heap.size + 1 + 1, 0, none⟩)], .int .i64 (x.1 : Int), .int .i64 (atI b (x.1 + 1)), undef, undef, undef, undef], defers := [] }) ?assign ?body ?done ?stop
  case assign =>
    intro l x W K hK
    gi_wp2
    exact hK
  case body =>
    rintro lp pre x W ⟨h1, h2, h3⟩ hlt
    have hs := rowC_snoc b pre x
    have hz := rowC_size b pre
    have hx := x.2
    have hc := h2.cell x.1
    have hf := h2.free x.1
    have H := Lib.hid (And.intro h1 (And.intro h2 (And.intro h3 hs)))
    obtain ⟨u, hu⟩ : ∃ u, (rowC b pre)[x.1]? = some u := ⟨_, Array.getElem?_eq_getElem (by omega)⟩
    rw [hu] at hc
    clear h1 h2 h3 hs hu
    gi_wp2
    obtain ⟨h1, h2, h3, hs⟩ := H.out
    refine ⟨(KeepsOthers.setCell _ _ _).from _, Kps.set (p := ⟨w.heap.size + 1, x.1, none⟩) _ (by intro k hk; show k ≠ w.heap.size + 1; omega) _, h1.set_other (by omega) _ _, ?_, h3.setCell (p := ⟨w.heap.size + 1, x.1, none⟩) (by show w.heap.size ≤ w.heap.size + 1; omega) _⟩
    rw [hs]
    exact h2.set _ _
  case done =>
    rintro D ys W hDs rfl ⟨h1, h2, h3⟩ hK
    rw [rowC_all] at h2
    have hD : w.heap.size + 1 < D := by omega
    have HI := Lib.hid (And.intro h1 (And.intro h2 h3))
    clear h1 h2 h3
    go_wp2_with (first
      | (with_reducible show wpList _ _ _ (Oper.mk _ (Op.load 24 _) _ _ _ _ :: _) _ _
         refine wpList_loadW HI.out.2.1 aggP rfl _ rfl rfl ?_)
      | (with_reducible show wpList _ _ _ (Oper.mk _ (Op.store 24 _ _) _ _ _ _ :: _) _ _
         refine wpList_storeR (c := planC b) rfl _ _ rfl rfl rfl aggP.hi HI.out.1 rfl (planC_one b) ?_))
    obtain ⟨h1, h2, h3⟩ := HI.out
    have hK' := (Go.setRow_other W w.heap.size D (planC b) (by omega)).trans hK
    have hbi := bides_put (B := w.heap.size) (o' := .deferred none) hK' rfl (by omega)
    refine ⟨by simp [Act.put], .inl ⟨_, _, rfl, run_takeDeferred hK', ?_⟩⟩
    refine ⟨_, results_cell_row rfl _ _ _ _ _ _ _ rfl (hbi.rw_ h1.setRow) Tryd.underlying24 rfl aggP.hi, rfl, hbi.below ?_ (Nat.le_refl _) (Nat.le_refl _)⟩
    exact below_setRow h3 (Nat.le_refl _) _
  case stop =>
    rintro D c pre W hDs hp h hK
    exact h.elim

theorem planC_is (b : Int) (hb : Num b) : planC b = #[.int .i64 b, .int .i64 (wrap64 (b + 1)), .int .i64 (wrap64 (b + 3)), .int .i64 (wrap64 (b + 7))] := by
  have e1 : atI b 1 = b := by show wrap64 (b + 0) = b; rw [Int.add_zero]; exact IntWalk.wrap64_in _ hb
  unfold planC
  rw [e1]
  rfl

set_option maxHeartbeats 1000000 in
theorem Plan_ref (b : Int) (w : World) (hb : Num b) : Calls Tryd.prog 15 #[.int .i64 b] w fun e w' => e = .returned (.agg (planC b)) ∧ Below w.heap.size w w' := by
  rw [planC_is b hb]
  have h1 := planC_one b
  rw [planC_is b hb] at h1
  have HO := Lib.hid h1
  clear h1
  go_enter Tryd.func15, Tryd.ntmps15
  go_wp2
  exact bodyPost_ret (results_cell_row rfl _ _ _ _ _ _ _ rfl (Rw.new w _ _) Tryd.underlying24 rfl aggP.hi) rfl ⟨rfl, box_below w _⟩
end Go.Proofs.YtjkhancjfaegiaaDoor
