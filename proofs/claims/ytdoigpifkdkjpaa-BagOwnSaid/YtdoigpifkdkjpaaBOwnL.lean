/- A bag in memory of its own. -/
import Derived.Test.YtdoigpifkdkjpaaBFor
set_option linter.unusedVariables false
set_option maxRecDepth 100000
set_option linter.unusedSimpArgs false
namespace Go.Proofs.Ytdoigpifkdkjpaa
open Go.RowKit Go.Shelf Ms
attribute [local go_sem] Oper.semAt_some

section
variable {P : Program} {ops : Array Oper} {o : Oper} {a : Act} {w : World} {K : Act → World → Prop} {Q : Exit → Act → World → Prop} {E0 : Prop}
theorem step_loadR (hw : Region.wanted o (yielded ops a.tmps) = true) (x : Operand) {ty : TypeId} (ho : o.op = .load ty x) {p : Addr} (hx : a.eval x = .pointer (some p)) {v : Value} (hr : (Instr.loadAt ty (.pointer (some p))).run P w = .ok v w)
    (h : K (a.put o.dst v) w) : if Region.wanted o (yielded ops a.tmps) = true then Oper.wp P o a w K Q else E0 := by
  rw [if_pos hw]
  unfold Oper.wp execOp
  simp only [ho, hx, Sem.run_bind, Sem.run_pure, Result.andThen_ok, hr]
  exact h
theorem step_build1 (hw : Region.wanted o (yielded ops a.tmps) = true) (x : Operand) {ty : TypeId} (ho : o.op = .buildSlice ty 1 #[(0, x)]) {y : Value} (hx : a.eval x = y) {v : Value} {w' : World} (hr : (Instr.buildSlice ty 1 #[(0, y)]).run P w = .ok v w')
    (h : K (a.put o.dst v) w') : if Region.wanted o (yielded ops a.tmps) = true then Oper.wp P o a w K Q else E0 := by
  rw [if_pos hw]
  unfold Oper.wp execOp
  simp only [ho, Sem.run_bind, Sem.run_pure, Result.andThen_ok, List.map_toArray, List.map_cons, List.map_nil, hx, hr]
  exact h
theorem step_store1 {b : Nat} {t ty : TypeId} {c : Array Value} (h0 : Rw w b t c) (hi : (P.info? ty).map (·.size) = some 1) (hw : Region.wanted o (yielded ops a.tmps) = true) (x y : Operand) (ho : o.op = .store ty x y) {j : Nat} (hx : a.eval x = .pointer (some ⟨b, j, none⟩)) {v : Value} (hy : a.eval y = v)
    (hj : j < c.size) (hv : v.cells = #[v]) (h1 : v.oneCell' = true) (h : K (a.put o.dst undef) (w.setCell ⟨b, j, none⟩ v)) : if Region.wanted o (yielded ops a.tmps) = true then Oper.wp P o a w K Q else E0 := by
  rw [if_pos hw]
  unfold Oper.wp execOp
  have hr : (Instr.storeAt ty (.pointer (some ⟨b, j, none⟩)) v).run P w = .ok () (w.setCell ⟨b, j, none⟩ v) := by
    simp only [Instr.storeAt, Instr.sureAddr, Sem.run_bind, Sem.run_pure, Result.andThen]
    cases hq : P.info? ty with
    | none => simp [hq] at hi
    | some i =>
      have hs : i.size = 1 := by simpa [hq] using hi
      have hadd : (⟨b, j, none⟩ : Addr).add 0 = ⟨b, j, none⟩ := by rw [add_plain, Nat.add_zero]
      have hst := run_store P w ⟨b, j, none⟩ v .plain h1
      have hc : w.cell? ⟨b, j, none⟩ = some c[j] := by rw [h0.cell]; exact Array.getElem?_eq_getElem hj
      unfold stored at hst
      rw [hc] at hst
      simp only [h0.free, Bool.false_eq_true, if_false] at hst
      simp [storeVar, sizeOf, typeInfo, hq, hv, hs, storeCells, hadd, hst]
  simp only [ho, hx, hy, Sem.run_bind, Sem.run_pure, Result.andThen_ok, hr]
  exact h
end
theorem OwnP.cells1 {p : Nat → Prop} {w : World} {e : TypeId} {v : Value} {gs : List Gr} (h : OwnP p w e v gs) : v.cells = #[v] ∧ v.oneCell' = true := by
  obtain ⟨ps, _, h2, _⟩ := h
  exact owns_cells h2
theorem cells_one (w : World) (g : Gr) (u : Value) : ∀ j y, (cells3 g u)[j]? = some y → (w.alloc (.cells (g.c u) 29)).cell? ((⟨w.heap.size, 0, none⟩ : Addr).add j) = some y := fun j y hy => by
  rw [add_plain, Nat.zero_add, (Rw.new w (g.c u) 29).cell]
  simpa [Gr.c, cells3] using hy
theorem load_gs {w : World} {b : Nat} {t : TypeId} {c : Array Value} {v : Value} (h : Rw w b t c) (hc : c[0]? = some v) : (Instr.loadAt 22 (.pointer (some ⟨b, 0, none⟩))).run Try.prog w = .ok v w := by
  have h1 := h.cell 0
  rw [hc] at h1
  go_simp

/-- What these rounds have put behind. -/
def gsP (ps : List (Gr × Value)) (pre : List (Fin ps.length)) : List Gr := pre.map fun i => ps[i.1].1
theorem gsP_all (ps : List (Gr × Value)) : gsP ps (List.finRange ps.length) = ps.map (·.1) := by
  unfold gsP
  have := congrArg (List.map (·.1)) (fin_map ps)
  rw [List.map_map] at this
  exact this
theorem gsP_snoc (ps : List (Gr × Value)) (pre : List (Fin ps.length)) (x : Fin ps.length) : gsP ps (pre ++ [x]) = gsP ps pre ++ [ps[x.1].1] := by simp [gsP]
theorem gsP_len (ps : List (Gr × Value)) (pre : List (Fin ps.length)) : (gsP ps pre).length = pre.length := by simp [gsP]

set_option maxHeartbeats 1000000 in
theorem Own_any (s : Value) (n : Int) (gs : List Gr) (w : World) (hs : SwG w s gs) (hl : ∀ g ∈ gs, g.bytes.length ≤ 1000) (hn : gs.length ≤ 1000) :
    Calls Try.prog 25 #[.agg (bagC s n)] w fun e w' => ∃ A q c, e = .returned (.agg (bagC (.slice A q c) n)) ∧ MadeG w w' 29 (.slice A q c) gs := by
  obtain ⟨A, c, ps, rfl, rfl, hL⟩ := hs.lies
  rw [List.length_map] at hn
  have hsl := hs.len
  rw [List.length_map] at hsl
  obtain ⟨r1, r2, r3, B0⟩ := three_boxes w (bagC (.slice A ps.length c) n) (bagC nilB 0) (bagC nilB 0) 24 24 24
  have c1 := r1.cell
  have HL := Lib.hid hL
  have HN := Lib.hid hn
  have HLE := Lib.hid hl
  have H0 := Lib.hid (And.intro r1 (And.intro r2 (And.intro r3 B0)))
  clear r1 r2 r3 B0 hs hL hn hl
  refine (callsIn_wide (n := 9)).1 (callsIn_of_wp_marks Try.func25 rfl trivial ?_ rfl)
  simp only [Try.ntmps25, List.size_toArray, List.length_cons, List.length_nil, Nat.reduceAdd, Nat.reduceSub, Array.replicate_succ, Array.replicate_zero, List.push_toArray, List.append_toArray, List.nil_append, List.cons_append]
  refine wpIn_wide.2 ?_
  go_wp2_with (first
    | (with_reducible show wpList _ _ _ (Oper.mk _ (Op.store 24 _ _) _ _ _ _ :: _) _ _
       refine wpList_storeR (c := bagC nilB n) rfl _ _ rfl rfl rfl aggB.hi H0.out.2.2.1 rfl (bag_one _ _ _ _) ?_
       refine gen_w (fun X => Rw X w.heap.size 24 (bagC (.slice A ps.length c) n) ∧ Rw X (w.heap.size + 1) 24 (bagC nilB 0) ∧ Rw X (w.heap.size + 1 + 1) 24 (bagC nilB n) ∧ Below w.heap.size w X ∧ X.heap.size = w.heap.size + 1 + 1 + 1)
         ⟨H0.out.1.setRow_other (by omega), H0.out.2.1.setRow_other (by omega), H0.out.2.2.1.setRow, below_setRow H0.out.2.2.2 (by omega) _, by simp [World.setRow]⟩ ?_
       clear c1 H0
       rintro X ⟨r1, r2, r3, B0, hsz⟩
       have c1 := r1.cell))
  refine (gramsOf_any _ _ _ _).mono ?_; rintro e w' ⟨rfl, rfl⟩
  go_wp2_with fail
  have rs := Rw.new X #[.slice A ps.length c] 22
  rw [hsz] at rs
  refine gen_code (fun W => Rw W (w.heap.size + 1) 24 (bagC nilB 0) ∧ Rw W (w.heap.size + 1 + 1) 24 (bagC nilB n) ∧ Rw W (w.heap.size + 1 + 1 + 1) 22 #[.slice A ps.length c] ∧ Below w.heap.size w W ∧ W.heap.size = w.heap.size + 1 + 1 + 1 + 1) ⟨r2.alloc _, r3.alloc _, rs, B0.alloc B0.size _, by simp [hsz]⟩ ?_
  clear c1 r1 r2 r3 rs B0
  rintro W1 ⟨r2, r3, rs, B0, hs1⟩
  have L1 := HL.out.below B0
  refine wp_rangeH (gf := 42) (lb := #[.pointer (some ⟨w.heap.size + 1 + 1 + 1, 0, none⟩)]) rfl (enters_of Try.func42 (by kernel_rfl) rfl)
    (grams_stops 8 (w.heap.size + 1 + 1 + 1) A c ps (fun k => k < w.heap.size ∨ k = w.heap.size + 1 + 1 + 1) W1 (.inr rfl) (lies_low HL.out) (by rintro k (h | rfl) <;> omega) hsl rs L1) (by rintro k (h | rfl) <;> omega) (fun _ => rfl)
    (fun pre W => ∃ A' c', Rw W (w.heap.size + 1 + 1) 24 (bagC (.slice A' (gsP ps pre).length c') n) ∧ OwnP (fun k => w.heap.size + 1 + 1 + 1 + 1 ≤ k) W 29 (.slice A' (gsP ps pre).length c') (gsP ps pre) ∧ Rw W (w.heap.size + 1) 24 (bagC nilB 0) ∧ Below w.heap.size w W ∧ w.heap.size + 1 + 1 + 1 + 1 ≤ W.heap.size)
    (fun c pre W => False)
    (ownFrom_still fun pre W W' ⟨A', c', h1, h2, h3, h4, h5⟩ hb => ⟨A', c', hb.rw_ h1, hb.ownP h2, hb.rw_ h3, hb.below h4 (by omega) (Nat.le_refl _), Nat.le_trans h5 hb.size⟩)
    (fun c => ownFrom_const _)
    ⟨none, 0, r3, OwnP.nil_ _ _ _, r2, B0, by omega⟩
    (fun x a' W => ∃ B, w.heap.size + 1 + 1 + 1 + 1 ≤ B ∧ Rw W B 29 (ps[x.1].1.c ps[x.1].2) ∧ a' = { tmps := #[.agg (bagC (.slice A ps.length c) n), .pointer (some ⟨w.heap.size, 0, none⟩), .pointer (some ⟨w.heap.size + 1, 0, none⟩), .pointer (some ⟨w.heap.size + 1 + 1, 0, none⟩), undef, .pointer (some ⟨B, 0, none⟩), .pointer (some ⟨w.heap.size, 1, none⟩), .int .i64 n,
      .agg #[.slice none 0 0, .int .i64 n], .pointer (some ⟨w.heap.size, 0, none⟩), .slice A ps.length c, .func (.func 42) #[] #[.pointer (some ⟨w.heap.size + 1 + 1 + 1, 0, none⟩)], .int .i64 (x.1 : Int), .agg (ps[x.1].1.c ps[x.1].2), undef, undef, undef, undef, undef, undef, undef, undef], defers := [] })
    (fun x a' => ownFrom_still fun _ W W' ⟨B, h1, h2, h3⟩ hb => ⟨B, h1, hb.rw_ h2, h3⟩) ?assign (by rintro pre W ⟨A', c', h1, h2, h3, h4, h5⟩ k (h | rfl) <;> omega) ?body ?done ?stop
  case assign =>
    rintro l pre x W K ⟨A', c', h1, h2, h3, h4, h5⟩ hK
    have HK := Lib.hid hK
    have HI := Lib.hid (And.intro h1 (And.intro h2 (And.intro h3 (And.intro h4 h5))))
    have HO := Lib.hid (one_of_lies HL.out x.1 x.2)
    clear hK
    unfold encG
    gi_wp2_with (with_reducible show wpListIn _ _ _ _ _ (Oper.mk _ (Op.alloc _) _ _ _ _ :: _) _ _
                 refine listIn_of (by rintro ⟨_, _, h⟩; exact h) rfl ?_)
    go_wp2_with (first
        | (with_reducible show wpList _ _ _ (Oper.mk _ (Op.store 29 _ _) _ _ _ _ :: _) _ _
           refine wpList_storeR (c := ps[x.1].1.c ps[x.1].2) rfl _ _ rfl rfl rfl aggG.hi (Rw.new W (noG.c nilB) 29) rfl HO.out ?_))
    have hb : Below W.heap.size W ((W.alloc (.cells (noG.c nilB) 29)).setRow W.heap.size (ps[x.1].1.c ps[x.1].2)) := below_setRow (box_below W _) (Nat.le_refl _) _
    obtain ⟨h1, h2, h3, h4, h5⟩ := HI.out
    exact HK.out _ _ hb ⟨A', c', h1.below hb, h2.below hb, h3.below hb, h4.trans (hb.mono h4.size), Nat.le_trans h5 hb.size⟩ ⟨W.heap.size, h5, (Rw.new W (noG.c nilB) 29).setRow, rfl⟩
  case body =>
    rintro l pre x a' W ⟨A', c', h1, h2, h3, h4, h5⟩ ⟨B, hB, rB, rfl⟩ hlt
    have hn := HN.out
    have HLT := Lib.hid (show (gsP ps pre).length < 1000 by rw [gsP_len]; omega)
    have HGL := Lib.hid (HLE.out ps[x.1].1 (List.mem_map_of_mem (List.getElem_mem x.2)))
    have hb0 : Below W.heap.size W W.drew := (Below.refl _ _).drew
    have HU := Lib.hid (show Sw W.drew ps[x.1].2 (bv ps[x.1].1.bytes) from by
      obtain ⟨_, _, _, _, _, _, _, h6⟩ := HL.out x.1 x.2
      exact (h6.below h4).below hb0)
    have HROW := Lib.hid (fun k hk => (h2.row k hk).1)
    have HI := Lib.hid (And.intro h1 (And.intro h2 (And.intro h3 (And.intro h4 h5))))
    have HSN := Lib.hid (gsP_snoc ps pre x)
    have l1 := Lib.hid (fun X (h : Below W.heap.size W X) => load_gs (h1.below h) (bag_0 _ _))
    have l2 := Lib.hid (fun X (h : Below W.heap.size W X) => run_loadR (P := Try.prog) aggG (rB.below h))
    generalize ps[x.1].1 = g at *
    generalize ps[x.1].2 = u at *
    have HFIN := Lib.hid (show ∀ (w2 : World) (A2 : Option Addr) (q2 d2 : Nat) (v4 : Value) (w4 : World), Below W.heap.size W (w2.alloc (.cells (g.c (.slice A2 q2 d2)) 29)) → OwnP (fun k => w.heap.size + 1 + 1 + 1 + 1 ≤ k) w4 29 v4 (gsP ps pre ++ [g]) →
        (w2.alloc (.cells (g.c (.slice A2 q2 d2)) 29)).grownBy w4 (Value.slice A' (gsP ps pre).length c').ownBlock → Rw w4 (w.heap.size + 1 + 1) 24 (bagC (.slice A' (gsP ps pre).length c') n) → ∀ a',
        ownPostG W1.heap.size (Kps fun k => k < w.heap.size ∨ k = w.heap.size + 1 + 1 + 1)
          (fun pre W => ∃ A' c', Rw W (w.heap.size + 1 + 1) 24 (bagC (.slice A' (gsP ps pre).length c') n) ∧ OwnP (fun k => w.heap.size + 1 + 1 + 1 + 1 ≤ k) W 29 (.slice A' (gsP ps pre).length c') (gsP ps pre) ∧ Rw W (w.heap.size + 1) 24 (bagC nilB 0) ∧ Below w.heap.size w W ∧ w.heap.size + 1 + 1 + 1 + 1 ≤ W.heap.size)
          (fun c pre W => False) (pre ++ [x]) W .normal a' (w4.setCell ⟨w.heap.size + 1 + 1, 0, none⟩ v4) from by
      intro w2 A2 q2 d2 v4 w4 hb3 hm4 hg4 q3 a'
      have hrow := HROW.out
      have hg := gr_then (gr_of_below hb3 (Value.slice A' (gsP ps pre).length c').ownBlock) hg4 (.inl rfl)
      have hbw := below_grown h4 hg hrow (by omega) h5
      have hS1 : ∀ k, (k < w.heap.size ∨ k = w.heap.size + 1 + 1 + 1) → k < W.heap.size ∧ some k ≠ (Value.slice A' (gsP ps pre).length c').ownBlock := by
        intro k hk
        refine ⟨by omega, fun e => ?_⟩
        have := hrow k e.symm
        omega
      have hS2 : ∀ k, (k < w.heap.size ∨ k = w.heap.size + 1 + 1 + 1) → k ≠ w.heap.size + 1 + 1 := by intro k hk; omega
      have h3' := rw_grown (h3.below hb3) hg4 (fun e => by have := hrow _ e; omega)
      obtain ⟨A4, c4, hv4⟩ := hm4.swG.form
      rw [← HSN.out] at hv4 hm4
      subst hv4
      exact ⟨(keeps_row hg h2.cells_).trans ((KeepsOthers.setCell _ _ _).from _), (Kps.grown hg hS1).trans (Kps.set (p := ⟨w.heap.size + 1 + 1, 0, none⟩) _ hS2 _), A4, c4, q3.set 0 _, hm4.set (by omega) 0 _, h3'.set_other (by omega) 0 _, hbw.setCell (p := ⟨w.heap.size + 1 + 1, 0, none⟩) (by show w.heap.size ≤ w.heap.size + 1 + 1; omega) _, by have := hg.size; simp [World.setCell]; omega⟩)
    clear h1 h2 h3 h4 rB
    gi_wp2_with fail
    refine wpIn_region_any (by kernel_rfl) (anyIn_of (by rintro ⟨_, _, h⟩; exact h) (by kernel_rfl) ?_)
    change wpAny _ _ _ _ _ _ _ W.drew
    refine wpAny_take (i := 0) (oi := ⟨some 14, .fieldAddr 24 (.tmp 3) 0, 0, _, _, none⟩) (v := .pointer (some ⟨w.heap.size + 1 + 1, 0, none⟩)) rfl (by kernel_rfl) (by kernel_rfl) (by kernel_rfl) (fun _ _ _ h => h) (Or.inl ⟨by rfl, fun w => by go_simp⟩) ?_
    simp only [Act.put, List.setIfInBounds_toArray, List.set_cons_zero, List.set_cons_succ]
    refine wpAny_ready (rs := [1, 2]) (by kernel_rfl) (by simp) ?_
    refine AllReady.cons (o := ⟨some 15, .load 22 (.tmp 14), 22, _, _, none⟩) rfl (fun K hK => ?_) (AllReady.cons (o := ⟨some 16, .load 29 (.tmp 5), 29, _, _, none⟩) rfl (fun K hK => ?_) AllReady.nil)
    · refine step_loadR rfl (.tmp 14) rfl rfl (l1.out _ hb0) ?_
      refine hK _ _ ?_
      clear hK K
      simp only [Act.put, List.setIfInBounds_toArray, List.set_cons_zero, List.set_cons_succ]
      refine wpAny_ready (rs := [2]) (by kernel_rfl) (by simp) ?_
      refine AllReady.cons (o := ⟨some 16, .load 29 (.tmp 5), 29, _, _, none⟩) rfl (fun K hK => ?_) AllReady.nil
      refine step_loadR rfl (.tmp 5) rfl rfl (l2.out _ hb0) ?_
      refine hK _ _ ?_
      clear hK K
      simp only [Act.put, List.setIfInBounds_toArray, List.set_cons_zero, List.set_cons_succ]
      refine wpAny_ready (rs := [3]) (by kernel_rfl) (by simp) ?_
      refine AllReady.cons (o := ⟨some 17, .call { callee := .value (.func 40), args := #[.tmp 16], argTypes := #[29] }, 29, _, _, none⟩) rfl (fun K hK => ?_) AllReady.nil
      refine step_callG rfl 40 (.tmp 16) _ rfl rfl (enters_of Try.func40 (by kernel_rfl) rfl) (R := fun v w' => ∃ A' q c', v = .agg (g.c (.slice A' q c')) ∧ Made W.drew w' 5 (.slice A' q c') (bv g.bytes)) ((owned_any g _ W.drew HU.out HGL.out).mono (by rintro e w' ⟨A', q', c', rfl, hm⟩; exact ⟨_, rfl, A', q', c', rfl, hm⟩)) ?_
      rintro v2 w2 ⟨A2, q2, d2, rfl, hm2⟩
      have hb2 : Below W.heap.size W w2 := hb0.trans hm2.below
      have hb3 : Below W.heap.size W (w2.alloc (.cells (g.c (.slice A2 q2 d2)) 29)) := hb2.alloc hb2.size _
      refine hK _ _ ?_
      clear hK K
      simp only [Act.put, List.setIfInBounds_toArray, List.set_cons_zero, List.set_cons_succ]
      refine wpAny_ready (rs := [4]) (by kernel_rfl) (by simp) ?_
      refine AllReady.cons (o := ⟨some 18, .buildSlice 22 1 #[(0, .tmp 17)], 22, _, _, none⟩) rfl (fun K hK => ?_) AllReady.nil
      refine step_build1 rfl (.tmp 17) rfl rfl (run_one g (.slice A2 q2 d2) w2) ?_
      refine hK _ _ ?_
      clear hK K
      simp only [Act.put, List.setIfInBounds_toArray, List.set_cons_zero, List.set_cons_succ]
      refine wpAny_ready (rs := [5]) (by kernel_rfl) (by simp) ?_
      refine AllReady.cons (o := ⟨some 19, .call { callee := .builtin .append, args := #[.tmp 15, .tmp 18], argTypes := #[22, 22] }, 22, _, _, none⟩) rfl (fun K hK => ?_) AllReady.nil
      have ho2 := owns_below hm2.own (box_below w2 (.cells (g.c (.slice A2 q2 d2)) 29))
      rw [bv_length] at ho2
      refine step_snocP (p := fun k => w.heap.size + 1 + 1 + 1 + 1 ≤ k) (q := fun k => w.heap.size + 1 + 1 + 1 + 1 ≤ k) elG rfl (.tmp 15) (.tmp 18) rfl rfl HI.out.2.1 (fun k hk => hk) (fun k hk => by have := HI.out.2.2.2.2; omega) hb3 ho2 rfl (cells_one w2 g _) (by have := HLT.out; omega) rfl ?_
      intro v4 w4 hm4 hg4
      refine hK _ _ ?_
      clear hK K
      simp only [Act.put, List.setIfInBounds_toArray, List.set_cons_zero, List.set_cons_succ]
      refine wpAny_take (i := 6) (oi := ⟨some 20, .fieldAddr 24 (.tmp 3) 0, 0, _, _, none⟩) (v := .pointer (some ⟨w.heap.size + 1 + 1, 0, none⟩)) rfl (by kernel_rfl) (by kernel_rfl) (by kernel_rfl) (fun _ _ _ h => h) (Or.inl ⟨by rfl, fun w => by go_simp⟩) ?_
      simp only [Act.put, List.setIfInBounds_toArray, List.set_cons_zero, List.set_cons_succ]
      have q3 := rw_grown (HI.out.1.below hb3) hg4 (fun e => by have := (HROW.out _ e); omega)
      refine wpAny_ready (rs := [7]) (by kernel_rfl) (by simp) ?_
      refine AllReady.cons (o := ⟨none, .store 22 (.tmp 20) (.tmp 19), 0, _, _, none⟩) rfl (fun K hK => ?_) AllReady.nil
      refine step_store1 q3 (by kernel_rfl) rfl (.tmp 20) (.tmp 19) rfl (j := 0) rfl (v := v4) rfl (by show 0 < 2; decide) hm4.cells1.1 hm4.cells1.2 ?_
      refine hK _ _ ?_
      clear hK K
      refine wpAny_done (by kernel_rfl) ?_ _
      exact HFIN.out w2 A2 q2 d2 v4 w4 hb3 hm4 hg4 q3 ⟨#[], []⟩
    · refine step_loadR rfl (.tmp 5) rfl rfl (l2.out _ hb0) ?_
      refine hK _ _ ?_
      clear hK K
      simp only [Act.put, List.setIfInBounds_toArray, List.set_cons_zero, List.set_cons_succ]
      refine wpAny_ready (rs := [1, 3]) (by kernel_rfl) (by simp) ?_
      refine AllReady.cons (o := ⟨some 15, .load 22 (.tmp 14), 22, _, _, none⟩) rfl (fun K hK => ?_) (AllReady.cons (o := ⟨some 17, .call { callee := .value (.func 40), args := #[.tmp 16], argTypes := #[29] }, 29, _, _, none⟩) rfl (fun K hK => ?_) AllReady.nil)
      · refine step_loadR rfl (.tmp 14) rfl rfl (l1.out _ hb0) ?_
        refine hK _ _ ?_
        clear hK K
        simp only [Act.put, List.setIfInBounds_toArray, List.set_cons_zero, List.set_cons_succ]
        refine wpAny_ready (rs := [3]) (by kernel_rfl) (by simp) ?_
        refine AllReady.cons (o := ⟨some 17, .call { callee := .value (.func 40), args := #[.tmp 16], argTypes := #[29] }, 29, _, _, none⟩) rfl (fun K hK => ?_) AllReady.nil
        refine step_callG rfl 40 (.tmp 16) _ rfl rfl (enters_of Try.func40 (by kernel_rfl) rfl) (R := fun v w' => ∃ A' q c', v = .agg (g.c (.slice A' q c')) ∧ Made W.drew w' 5 (.slice A' q c') (bv g.bytes)) ((owned_any g _ W.drew HU.out HGL.out).mono (by rintro e w' ⟨A', q', c', rfl, hm⟩; exact ⟨_, rfl, A', q', c', rfl, hm⟩)) ?_
        rintro v2 w2 ⟨A2, q2, d2, rfl, hm2⟩
        have hb2 : Below W.heap.size W w2 := hb0.trans hm2.below
        have hb3 : Below W.heap.size W (w2.alloc (.cells (g.c (.slice A2 q2 d2)) 29)) := hb2.alloc hb2.size _
        refine hK _ _ ?_
        clear hK K
        simp only [Act.put, List.setIfInBounds_toArray, List.set_cons_zero, List.set_cons_succ]
        refine wpAny_ready (rs := [4]) (by kernel_rfl) (by simp) ?_
        refine AllReady.cons (o := ⟨some 18, .buildSlice 22 1 #[(0, .tmp 17)], 22, _, _, none⟩) rfl (fun K hK => ?_) AllReady.nil
        refine step_build1 rfl (.tmp 17) rfl rfl (run_one g (.slice A2 q2 d2) w2) ?_
        refine hK _ _ ?_
        clear hK K
        simp only [Act.put, List.setIfInBounds_toArray, List.set_cons_zero, List.set_cons_succ]
        refine wpAny_ready (rs := [5]) (by kernel_rfl) (by simp) ?_
        refine AllReady.cons (o := ⟨some 19, .call { callee := .builtin .append, args := #[.tmp 15, .tmp 18], argTypes := #[22, 22] }, 22, _, _, none⟩) rfl (fun K hK => ?_) AllReady.nil
        have ho2 := owns_below hm2.own (box_below w2 (.cells (g.c (.slice A2 q2 d2)) 29))
        rw [bv_length] at ho2
        refine step_snocP (p := fun k => w.heap.size + 1 + 1 + 1 + 1 ≤ k) (q := fun k => w.heap.size + 1 + 1 + 1 + 1 ≤ k) elG rfl (.tmp 15) (.tmp 18) rfl rfl HI.out.2.1 (fun k hk => hk) (fun k hk => by have := HI.out.2.2.2.2; omega) hb3 ho2 rfl (cells_one w2 g _) (by have := HLT.out; omega) rfl ?_
        intro v4 w4 hm4 hg4
        refine hK _ _ ?_
        clear hK K
        simp only [Act.put, List.setIfInBounds_toArray, List.set_cons_zero, List.set_cons_succ]
        refine wpAny_take (i := 6) (oi := ⟨some 20, .fieldAddr 24 (.tmp 3) 0, 0, _, _, none⟩) (v := .pointer (some ⟨w.heap.size + 1 + 1, 0, none⟩)) rfl (by kernel_rfl) (by kernel_rfl) (by kernel_rfl) (fun _ _ _ h => h) (Or.inl ⟨by rfl, fun w => by go_simp⟩) ?_
        simp only [Act.put, List.setIfInBounds_toArray, List.set_cons_zero, List.set_cons_succ]
        have q3 := rw_grown (HI.out.1.below hb3) hg4 (fun e => by have := (HROW.out _ e); omega)
        refine wpAny_ready (rs := [7]) (by kernel_rfl) (by simp) ?_
        refine AllReady.cons (o := ⟨none, .store 22 (.tmp 20) (.tmp 19), 0, _, _, none⟩) rfl (fun K hK => ?_) AllReady.nil
        refine step_store1 q3 (by kernel_rfl) rfl (.tmp 20) (.tmp 19) rfl (j := 0) rfl (v := v4) rfl (by show 0 < 2; decide) hm4.cells1.1 hm4.cells1.2 ?_
        refine hK _ _ ?_
        clear hK K
        refine wpAny_done (by kernel_rfl) ?_ _
        exact HFIN.out w2 A2 q2 d2 v4 w4 hb3 hm4 hg4 q3 ⟨#[], []⟩
      · refine step_callG rfl 40 (.tmp 16) _ rfl rfl (enters_of Try.func40 (by kernel_rfl) rfl) (R := fun v w' => ∃ A' q c', v = .agg (g.c (.slice A' q c')) ∧ Made W.drew w' 5 (.slice A' q c') (bv g.bytes)) ((owned_any g _ W.drew HU.out HGL.out).mono (by rintro e w' ⟨A', q', c', rfl, hm⟩; exact ⟨_, rfl, A', q', c', rfl, hm⟩)) ?_
        rintro v2 w2 ⟨A2, q2, d2, rfl, hm2⟩
        have hb2 : Below W.heap.size W w2 := hb0.trans hm2.below
        have hb3 : Below W.heap.size W (w2.alloc (.cells (g.c (.slice A2 q2 d2)) 29)) := hb2.alloc hb2.size _
        refine hK _ _ ?_
        clear hK K
        simp only [Act.put, List.setIfInBounds_toArray, List.set_cons_zero, List.set_cons_succ]
        refine wpAny_ready (rs := [1, 4]) (by kernel_rfl) (by simp) ?_
        refine AllReady.cons (o := ⟨some 15, .load 22 (.tmp 14), 22, _, _, none⟩) rfl (fun K hK => ?_) (AllReady.cons (o := ⟨some 18, .buildSlice 22 1 #[(0, .tmp 17)], 22, _, _, none⟩) rfl (fun K hK => ?_) AllReady.nil)
        · refine step_loadR rfl (.tmp 14) rfl rfl (l1.out _ hb2) ?_
          refine hK _ _ ?_
          clear hK K
          simp only [Act.put, List.setIfInBounds_toArray, List.set_cons_zero, List.set_cons_succ]
          refine wpAny_ready (rs := [4]) (by kernel_rfl) (by simp) ?_
          refine AllReady.cons (o := ⟨some 18, .buildSlice 22 1 #[(0, .tmp 17)], 22, _, _, none⟩) rfl (fun K hK => ?_) AllReady.nil
          refine step_build1 rfl (.tmp 17) rfl rfl (run_one g (.slice A2 q2 d2) w2) ?_
          refine hK _ _ ?_
          clear hK K
          simp only [Act.put, List.setIfInBounds_toArray, List.set_cons_zero, List.set_cons_succ]
          refine wpAny_ready (rs := [5]) (by kernel_rfl) (by simp) ?_
          refine AllReady.cons (o := ⟨some 19, .call { callee := .builtin .append, args := #[.tmp 15, .tmp 18], argTypes := #[22, 22] }, 22, _, _, none⟩) rfl (fun K hK => ?_) AllReady.nil
          have ho2 := owns_below hm2.own (box_below w2 (.cells (g.c (.slice A2 q2 d2)) 29))
          rw [bv_length] at ho2
          refine step_snocP (p := fun k => w.heap.size + 1 + 1 + 1 + 1 ≤ k) (q := fun k => w.heap.size + 1 + 1 + 1 + 1 ≤ k) elG rfl (.tmp 15) (.tmp 18) rfl rfl HI.out.2.1 (fun k hk => hk) (fun k hk => by have := HI.out.2.2.2.2; omega) hb3 ho2 rfl (cells_one w2 g _) (by have := HLT.out; omega) rfl ?_
          intro v4 w4 hm4 hg4
          refine hK _ _ ?_
          clear hK K
          simp only [Act.put, List.setIfInBounds_toArray, List.set_cons_zero, List.set_cons_succ]
          refine wpAny_take (i := 6) (oi := ⟨some 20, .fieldAddr 24 (.tmp 3) 0, 0, _, _, none⟩) (v := .pointer (some ⟨w.heap.size + 1 + 1, 0, none⟩)) rfl (by kernel_rfl) (by kernel_rfl) (by kernel_rfl) (fun _ _ _ h => h) (Or.inl ⟨by rfl, fun w => by go_simp⟩) ?_
          simp only [Act.put, List.setIfInBounds_toArray, List.set_cons_zero, List.set_cons_succ]
          have q3 := rw_grown (HI.out.1.below hb3) hg4 (fun e => by have := (HROW.out _ e); omega)
          refine wpAny_ready (rs := [7]) (by kernel_rfl) (by simp) ?_
          refine AllReady.cons (o := ⟨none, .store 22 (.tmp 20) (.tmp 19), 0, _, _, none⟩) rfl (fun K hK => ?_) AllReady.nil
          refine step_store1 q3 (by kernel_rfl) rfl (.tmp 20) (.tmp 19) rfl (j := 0) rfl (v := v4) rfl (by show 0 < 2; decide) hm4.cells1.1 hm4.cells1.2 ?_
          refine hK _ _ ?_
          clear hK K
          refine wpAny_done (by kernel_rfl) ?_ _
          exact HFIN.out w2 A2 q2 d2 v4 w4 hb3 hm4 hg4 q3 ⟨#[], []⟩
        · refine step_build1 rfl (.tmp 17) rfl rfl (run_one g (.slice A2 q2 d2) w2) ?_
          refine hK _ _ ?_
          clear hK K
          simp only [Act.put, List.setIfInBounds_toArray, List.set_cons_zero, List.set_cons_succ]
          refine wpAny_ready (rs := [1]) (by kernel_rfl) (by simp) ?_
          refine AllReady.cons (o := ⟨some 15, .load 22 (.tmp 14), 22, _, _, none⟩) rfl (fun K hK => ?_) AllReady.nil
          refine step_loadR rfl (.tmp 14) rfl rfl (l1.out _ hb3) ?_
          refine hK _ _ ?_
          clear hK K
          simp only [Act.put, List.setIfInBounds_toArray, List.set_cons_zero, List.set_cons_succ]
          refine wpAny_ready (rs := [5]) (by kernel_rfl) (by simp) ?_
          refine AllReady.cons (o := ⟨some 19, .call { callee := .builtin .append, args := #[.tmp 15, .tmp 18], argTypes := #[22, 22] }, 22, _, _, none⟩) rfl (fun K hK => ?_) AllReady.nil
          have ho2 := owns_below hm2.own (box_below w2 (.cells (g.c (.slice A2 q2 d2)) 29))
          rw [bv_length] at ho2
          refine step_snocP (p := fun k => w.heap.size + 1 + 1 + 1 + 1 ≤ k) (q := fun k => w.heap.size + 1 + 1 + 1 + 1 ≤ k) elG rfl (.tmp 15) (.tmp 18) rfl rfl HI.out.2.1 (fun k hk => hk) (fun k hk => by have := HI.out.2.2.2.2; omega) hb3 ho2 rfl (cells_one w2 g _) (by have := HLT.out; omega) rfl ?_
          intro v4 w4 hm4 hg4
          refine hK _ _ ?_
          clear hK K
          simp only [Act.put, List.setIfInBounds_toArray, List.set_cons_zero, List.set_cons_succ]
          refine wpAny_take (i := 6) (oi := ⟨some 20, .fieldAddr 24 (.tmp 3) 0, 0, _, _, none⟩) (v := .pointer (some ⟨w.heap.size + 1 + 1, 0, none⟩)) rfl (by kernel_rfl) (by kernel_rfl) (by kernel_rfl) (fun _ _ _ h => h) (Or.inl ⟨by rfl, fun w => by go_simp⟩) ?_
          simp only [Act.put, List.setIfInBounds_toArray, List.set_cons_zero, List.set_cons_succ]
          have q3 := rw_grown (HI.out.1.below hb3) hg4 (fun e => by have := (HROW.out _ e); omega)
          refine wpAny_ready (rs := [7]) (by kernel_rfl) (by simp) ?_
          refine AllReady.cons (o := ⟨none, .store 22 (.tmp 20) (.tmp 19), 0, _, _, none⟩) rfl (fun K hK => ?_) AllReady.nil
          refine step_store1 q3 (by kernel_rfl) rfl (.tmp 20) (.tmp 19) rfl (j := 0) rfl (v := v4) rfl (by show 0 < 2; decide) hm4.cells1.1 hm4.cells1.2 ?_
          refine hK _ _ ?_
          clear hK K
          refine wpAny_done (by kernel_rfl) ?_ _
          exact HFIN.out w2 A2 q2 d2 v4 w4 hb3 hm4 hg4 q3 ⟨#[], []⟩
  case done =>
    rintro D ys W hDs rfl ⟨A', c', h1, h2, h3, h4, h5⟩ hK
    rw [gsP_all] at h1 h2
    go_wp2_with (first
      | (with_reducible show wpList _ _ _ (Oper.mk _ (Op.load 24 _) _ _ _ _ :: _) _ _
         refine wpList_loadW h1 aggB rfl _ rfl rfl ?_)
      | (with_reducible show wpList _ _ _ (Oper.mk _ (Op.store 24 _ _) _ _ _ _ :: _) _ _
         refine wpList_storeR (c := bagC (.slice A' (ps.map (·.1)).length c') n) rfl _ _ rfl rfl rfl aggB.hi h3 rfl (bag_one _ _ _ _) ?_))
    have hD : w.heap.size < D := by omega
    have hK' := (Go.setRow_other W (w.heap.size + 1) D (bagC (.slice A' (ps.map (·.1)).length c') n) (by omega)).trans hK
    have hbi := bides_put (B := w.heap.size) (o' := .deferred none) hK' rfl (by omega)
    refine ⟨by simp, .inl ⟨_, _, rfl, run_takeDeferred hK', ?_⟩⟩
    exact ⟨_, results_cell_row (cs := bagC (.slice A' (ps.map (·.1)).length c') n) rfl _ _ _ _ _ _ rfl (hbi.rw_ (h3.setRow (c' := bagC (.slice A' (ps.map (·.1)).length c') n))) Try.underlying24 rfl aggB.hi, A', _, c', rfl,
      (hbi.ownP (h2.setRow (by omega) _)).made (fun k hk => by omega) (hbi.below (below_setRow h4 (by omega) _) (Nat.le_refl _) (Nat.le_refl _))⟩
  case stop =>
    rintro D c pre W hDs hp h hK
    exact h.elim
end Go.Proofs.Ytdoigpifkdkjpaa
