/- The places of those to one. -/
import Derived.Test.YtdoigpifkdkjpaaBIter
import Derived.Test.YtdoigpifkdkjpaaBLoop
import Derived.Test.YtdoigpifkdkjpaaBRef2
set_option linter.unusedVariables false
set_option maxRecDepth 100000
set_option linter.unusedSimpArgs false
namespace Go.Proofs.Ytdoigpifkdkjpaa
open Go.RowKit Go.Shelf Ms
attribute [local go_sem] Oper.semAt_some

/-- Of these rounds the places of those to one. -/
def forP (ps : List (Gr × Value)) (to : Int) (pre : List (Fin ps.length)) : List Int := (pre.filter fun i => decide (ps[i.1].1.to = to)).map fun i => (i.1 : Int)
theorem forP_all (ps : List (Gr × Value)) (to : Int) : forP ps to (List.finRange ps.length) = forK (ps.map (·.1)) to ps.length := by
  unfold forP forK
  have : (List.range ps.length) = (List.finRange ps.length).map (fun i => i.1) := List.ext_getElem (by simp) (by simp)
  rw [this, List.filter_map, List.map_map]
  refine congrArg (List.map _) (List.filter_congr fun i _ => ?_)
  have hi := i.2
  simp [hi]
theorem forP_yes {ps : List (Gr × Value)} {to : Int} {pre : List (Fin ps.length)} {x : Fin ps.length} (h : ps[x.1].1.to = to) : forP ps to (pre ++ [x]) = forP ps to pre ++ [(x.1 : Int)] := by simp [forP, h]
theorem forP_no {ps : List (Gr × Value)} {to : Int} {pre : List (Fin ps.length)} {x : Fin ps.length} (h : ps[x.1].1.to ≠ to) : forP ps to (pre ++ [x]) = forP ps to pre := by simp [forP, h]
theorem forP_len (ps : List (Gr × Value)) (to : Int) (pre : List (Fin ps.length)) : (forP ps to pre).length ≤ pre.length := by
  unfold forP
  rw [List.length_map]
  exact List.length_filter_le ..

theorem lies_low {w : World} {A : Option Addr} {ps : List (Gr × Value)} (h : Lies w A ps) {q : Nat → Prop} : ps ≠ [] → ∀ b off, A = some ⟨b, off, none⟩ → b < w.heap.size ∨ q b := fun h0 b off e => by
  obtain ⟨b', off', h1, h2, _⟩ := h 0 (List.length_pos_iff.2 h0)
  rw [e] at h1
  injection h1 with h1
  injection h1 with h1
  subst h1
  exact .inl h2
theorem one_of_lies {w : World} {A : Option Addr} {ps : List (Gr × Value)} (h : Lies w A ps) (j : Nat) (hj : j < ps.length) : (ps[j].1.c ps[j].2).all (·.oneCell') = true := by
  obtain ⟨b', off', h1, h2, _, _, _, h6⟩ := h j hj
  exact gr_one' h6
theorem owns_cells {w : World} {n s m : Nat} {e : TypeId} {u : Value} {xs : List Value} (h : w.ownsRow n e s u m xs) : u.cells = #[u] ∧ u.oneCell' = true := by
  rcases h.2 with ⟨rfl, _⟩ | ⟨g, cap, cur, rfl, _⟩ <;> exact ⟨rfl, rfl⟩
theorem owns_isCells {w : World} {n s m : Nat} {e : TypeId} {u : Value} {xs : List Value} (h : w.ownsRow n e s u m xs) : ∀ k, u.ownBlock = some k → ∃ o, w.heap[k]? = some o ∧ o.isCells = true := fun k hk => by
  rcases h.2 with ⟨rfl, _⟩ | ⟨g, cap, cur, rfl, hb, hh, _⟩
  · cases hk
  · have : g = k := by simpa [Value.ownBlock] using hk
    subst this
    exact ⟨_, hh, rfl⟩
set_option maxHeartbeats 8000000 in
theorem For_any (s : Value) (n : Int) (gs : List Gr) (to : Int) (w : World) (hs : SwG w s gs) (hn : gs.length ≤ 1000) :
    Calls Try.prog 22 #[.agg (bagC s n), .int .i64 to] w fun e w' => ∃ v, e = .returned v ∧ Made w w' 3 v (iv (forK gs to gs.length)) := by
  obtain ⟨A, c, ps, rfl, rfl, hL⟩ := hs.lies
  rw [List.length_map] at hn ⊢
  obtain ⟨r1, r2, r3, B0⟩ := three_boxes w (bagC (.slice A ps.length c) n) #[.int .i64 to] #[nilB] 24 3 39
  have c1 := r1.cell
  have hsz : (((w.alloc (.cells (bagC (.slice A ps.length c) n) 24)).alloc (.cells #[.int .i64 to] 3)).alloc (.cells #[nilB] 39)).heap.size = w.heap.size + 1 + 1 + 1 := by simp
  have rs := Rw.new (((w.alloc (.cells (bagC (.slice A ps.length c) n) 24)).alloc (.cells #[.int .i64 to] 3)).alloc (.cells #[nilB] 39)) #[.slice A ps.length c] 22
  have hsl := hs.len
  rw [List.length_map] at hsl
  rw [hsz] at rs
  have H0 := Lib.hid (And.intro (r2.alloc (.cells #[.slice A ps.length c] 22)) (And.intro (r3.alloc (.cells #[.slice A ps.length c] 22)) (And.intro rs (And.intro (B0.alloc B0.size (.cells #[.slice A ps.length c] 22)) (show ((((w.alloc (.cells (bagC (.slice A ps.length c) n) 24)).alloc (.cells #[.int .i64 to] 3)).alloc (.cells #[nilB] 39)).alloc (.cells #[.slice A ps.length c] 22)).heap.size = w.heap.size + 1 + 1 + 1 + 1 by simp)))))
  have HL := Lib.hid hL
  have HN := Lib.hid hn
  clear r1 r2 r3 rs hsz B0 hs hL hn
  refine (callsIn_wide (n := 9)).1 (callsIn_of_wp_marks Try.func22 rfl trivial ?_ rfl)
  simp only [Try.ntmps22, List.size_toArray, List.length_cons, List.length_nil, Nat.reduceAdd, Nat.reduceSub, Array.replicate_succ, Array.replicate_zero, List.push_toArray, List.append_toArray, List.nil_append, List.cons_append]
  refine wpIn_wide.2 ?_
  go_wp2_with fail
  refine (gramsOf_any _ _ _ _).mono ?_; rintro e w' ⟨rfl, rfl⟩
  go_wp2_with fail
  refine gen_code (fun W => Rw W (w.heap.size + 1) 3 #[.int .i64 to] ∧ Rw W (w.heap.size + 1 + 1) 39 #[nilB] ∧ Rw W (w.heap.size + 1 + 1 + 1) 22 #[.slice A ps.length c] ∧ Below w.heap.size w W ∧ W.heap.size = w.heap.size + 1 + 1 + 1 + 1) H0.out ?_
  clear H0 c1
  rintro W1 ⟨r2, r3, rs, B0, hsz⟩
  have L1 := HL.out.below B0
  refine wp_rangeH (gf := 42) (lb := #[.pointer (some ⟨w.heap.size + 1 + 1 + 1, 0, none⟩)]) rfl (enters_of Try.func42 (by kernel_rfl) rfl)
    (grams_stops 8 (w.heap.size + 1 + 1 + 1) A c ps (fun k => k < w.heap.size ∨ k = w.heap.size + 1 + 1 + 1) W1 (.inr rfl) (lies_low HL.out) (by rintro k (h | rfl) <;> omega) hsl rs L1) (by rintro k (h | rfl) <;> omega) (fun _ => rfl)
    (fun pre W => ∃ v, Rw W (w.heap.size + 1 + 1) 39 #[v] ∧ W.ownsRow (w.heap.size + 1 + 1 + 1 + 1) 3 1 v (forP ps to pre).length (iv (forP ps to pre)) ∧ Rw W (w.heap.size + 1) 3 #[.int .i64 to] ∧ Below w.heap.size w W ∧ w.heap.size + 1 + 1 + 1 + 1 ≤ W.heap.size)
    (fun c pre W => False)
    (ownFrom_still fun pre W W' ⟨v, h1, h2, h3, h4, h5⟩ hb => ⟨v, hb.rw_ h1, hb.owns h2, hb.rw_ h3, hb.below h4 (by omega) (Nat.le_refl _), Nat.le_trans h5 hb.size⟩)
    (fun c => ownFrom_const _)
    ⟨nilB, r3, World.ownsRow_nil _ _ _ _, r2, B0, by omega⟩
    (fun x a' W => ∃ B, w.heap.size + 1 + 1 + 1 + 1 ≤ B ∧ Rw W B 29 (ps[x.1].1.c ps[x.1].2) ∧ a' = { tmps := #[.agg (bagC (.slice A ps.length c) n), .int .i64 to, .pointer (some ⟨w.heap.size, 0, none⟩), .pointer (some ⟨w.heap.size + 1, 0, none⟩), .slice none 0 0, .pointer (some ⟨w.heap.size + 1 + 1, 0, none⟩), .int .i64 (x.1 : Int), .pointer (some ⟨B, 0, none⟩),
      .pointer (some ⟨w.heap.size, 0, none⟩), .slice A ps.length c, .func (.func 42) #[] #[.pointer (some ⟨w.heap.size + 1 + 1 + 1, 0, none⟩)], .int .i64 (x.1 : Int), .agg (ps[x.1].1.c ps[x.1].2), undef, undef, undef, undef, undef, undef, undef, undef, undef], defers := [] })
    (fun x a' => ownFrom_still fun _ W W' ⟨B, h1, h2, h3⟩ hb => ⟨B, h1, hb.rw_ h2, h3⟩) ?assign (by rintro pre W ⟨v, h1, h2, h3, h4, h5⟩ k (h | rfl) <;> omega) ?body ?done ?stop
  case assign =>
    rintro l pre x W K ⟨v, h1, h2, h3, h4, h5⟩ hK
    have HK := Lib.hid hK
    have HI := Lib.hid (And.intro h1 (And.intro h2 (And.intro h3 (And.intro h4 h5))))
    have HO := Lib.hid (one_of_lies HL.out x.1 x.2)
    clear hK
    unfold encG
    gi_wp2_with (with_reducible show wpListIn _ _ _ _ _ (Oper.mk _ (Op.alloc _) _ _ _ _ :: _) _ _
                 refine listIn_of (by rintro ⟨_, _, h⟩; exact h) rfl ?_)
    go_wp2_with (first
        | (with_reducible show wpList _ _ _ (Oper.mk _ (Op.store 29 _ _) _ _ _ _ :: _) _ _
           refine wpList_storeR (c := ps[x.1].1.c ps[x.1].2) rfl _ _ rfl rfl rfl aggG.hi (Rw.new W (noG.c nilB) 29) rfl HO.out ?_))
    have hb : Below W.heap.size W ((W.alloc (.cells (noG.c nilB) 29)).setRow W.heap.size (ps[x.1].1.c ps[x.1].2)) := below_setRow (box_below W _) (Nat.le_refl _) _
    obtain ⟨h1, h2, h3, h4, h5⟩ := HI.out
    exact HK.out _ _ hb ⟨v, h1.below hb, owns_below h2 hb, h3.below hb, h4.trans (hb.mono h4.size), Nat.le_trans h5 hb.size⟩ ⟨W.heap.size, h5, (Rw.new W (noG.c nilB) 29).setRow, rfl⟩
  case body =>
    rintro l pre x a' W ⟨v, h1, h2, h3, h4, h5⟩ ⟨B, hB, rB, rfl⟩ hlt
    have cB := rB.cell
    have c3 := h3.cell
    have c1 := h1.cell
    have hn := HN.out
    have HI := Lib.hid (And.intro h1 (And.intro h2 (And.intro h3 (And.intro h4 h5))))
    by_cases ht : ps[x.1].1.to = to
    · have e1 : (ps[x.1].1.to == to) = true := by simp [ht]
      have HF := Lib.hid (forP_yes (pre := pre) ht)
      have hfl := forP_len ps to pre
      have HFL := Lib.hid hfl
      clear h1 h2 h3 h4 ht rB
      gi_wp2_with (with_reducible show wpListIn _ _ _ _ _ (Oper.mk _ (Op.load 39 _) _ _ _ _ :: _) _ _
                   refine listIn_of (by rintro ⟨_, _, h⟩; exact h) rfl ?_)
      go_wp2_with (first
        | (at_builtin
           have ho := owns_below HI.out.2.1 (box_below W (.cells #[.int .i64 (x.1 : Int)] 3))
           refine wpList_appw elI rfl (.tmp 17) (.tmp 19) rfl (w.heap.size + 1 + 1 + 1 + 1) v _ _ rfl ho _ [.int .i64 (x.1 : Int)] rfl (Sl.lit W [.int .i64 (x.1 : Int)] 3 1 rfl (by decide)) (by intro u hu; simp at hu; subst hu; rfl) (by have := HFL.out; simp only [List.length_cons, List.length_nil]; omega) (by have := HI.out.2.2.2.2; simp; omega) ?_
           intro v2 w2 ho2 hg2 _
           have hrow := fun k hk => (HI.out.2.1.lt k hk).1
           have hbW := box_below W (.cells #[.int .i64 (x.1 : Int)] 3)
           have q1 := rw_grown (HI.out.1.below hbW) hg2 (fun e => by have := hrow _ e; omega)
           have q3 := rw_grown (HI.out.2.2.1.below hbW) hg2 (fun e => by have := hrow _ e; omega)
           have hg3 := gr_then (gr_of_below hbW v.ownBlock) hg2 (.inl rfl)
           have HQ := Lib.hid (And.intro q1 (And.intro q3 (And.intro ho2 hg3)))
           clear hbW hg2 ho2 q1 q3 hg3 ho hrow)
        | (with_reducible show wpList _ _ _ (Oper.mk _ (Op.store 39 _ _) _ _ _ _ :: _) _ _
           refine wpList_store1 HQ.out.1 (by kernel_rfl) rfl _ _ rfl (j := 0) rfl (v := v2) rfl (by show 0 < 1; decide) (owns_cells HQ.out.2.2.1).1 (owns_cells HQ.out.2.2.1).2 ?_))
      gi_wp2
      obtain ⟨q1, q3, q2, hg⟩ := HQ.out
      obtain ⟨h1, h2, h3, h4, h5⟩ := HI.out
      have hrow := fun k hk => (h2.lt k hk).1
      have hbw := below_grown h4 hg hrow (by omega) h5
      have hS1 : ∀ k, (k < w.heap.size ∨ k = w.heap.size + 1 + 1 + 1) → k < W.heap.size ∧ some k ≠ v.ownBlock := by
        intro k hk
        refine ⟨by omega, fun e => ?_⟩
        have := hrow k e.symm
        omega
      have hS2 : ∀ k, (k < w.heap.size ∨ k = w.heap.size + 1 + 1 + 1) → k ≠ w.heap.size + 1 + 1 := by intro k hk; omega
      refine ⟨(keeps_row hg (owns_isCells h2)).trans ((KeepsOthers.setCell _ _ _).from _), (Kps.grown hg hS1).trans (Kps.set (p := ⟨w.heap.size + 1 + 1, 0, none⟩) _ hS2 _), v2, q1.set 0 v2, ?_, q3.set_other (by omega) 0 v2, hbw.setCell (p := ⟨w.heap.size + 1 + 1, 0, none⟩) (by show w.heap.size ≤ w.heap.size + 1 + 1; omega) _, by have := hg.size; simp [World.setCell]; omega⟩
      rw [HF.out, iv_append, List.length_append]
      exact owns_set q2 (by omega) 0 v2
    · have e1 : (ps[x.1].1.to == to) = false := by simp [ht]
      have HF := Lib.hid (forP_no (pre := pre) ht)
      clear h1 h2 h3 h4 ht rB
      gi_wp2
      refine ⟨KeepsFrom.refl _ _, Kps.refl _ _, v, ?_⟩
      rw [HF.out]
      exact HI.out
  case done =>
    rintro D ys W hDs rfl ⟨v, h1, h2, h3, h4, h5⟩ hK
    have c1 := h1.cell
    have HI := Lib.hid (And.intro h2 (And.intro h4 h5))
    clear h2 h3 h4
    go_wp2_with fail
    have hD : w.heap.size < D := by omega
    refine ⟨by simp, .inl ⟨_, _, rfl, run_takeDeferred hK, ?_⟩⟩
    refine ⟨v, by simp [results, Try.results22, go_sem], v, rfl, ?_⟩
    have hbi := bides_put (B := w.heap.size) (o' := .deferred none) hK rfl (by omega)
    obtain ⟨h2, h4, h5⟩ := HI.out
    rw [← forP_all]
    exact ⟨owns_mono (by rw [iv_length]; exact hbi.owns h2) (by omega), hbi.below h4 (Nat.le_refl _) (Nat.le_refl _)⟩
  case stop =>
    rintro D c pre W hDs hp h hK
    exact h.elim
end Go.Proofs.Ytdoigpifkdkjpaa
