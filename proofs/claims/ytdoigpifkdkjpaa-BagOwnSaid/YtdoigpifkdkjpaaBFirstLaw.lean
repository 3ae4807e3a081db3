/- 'BagFirst': the walk of the law. -/
import Derived.Test.YtdoigpifkdkjpaaBTellLaw
set_option linter.unusedVariables false
set_option maxRecDepth 100000
set_option linter.unusedSimpArgs false
namespace Go.Proofs.Ytdoigpifkdkjpaa
open Go.RowKit Go.Shelf Ms

theorem sendS_all : ∀ (ls : List Gr) (st : List Gr × Int), st.1.length + ls.length ≤ 400 → (∀ g ∈ ls, g.bytes.length ≤ 120) → sendS st ls = (st.1 ++ ls, st.2)
  | [], st, _, _ => by simp [sendS]
  | g :: ls, st, h, hb => by
    have h1 : sentS st g = (st.1 ++ [g], st.2) := by
      unfold sentS
      rw [if_pos ⟨by simp at h; omega, hb g (by simp)⟩]
    have := sendS_all ls (st.1 ++ [g], st.2) (by simp at h ⊢; omega) (fun x hx => hb x (by simp [hx]))
    unfold sendS at this ⊢
    rw [List.foldl_cons, h1, this]
    simp
/-- What is owned as a row reads, if its bytes do. -/
theorem swG_of_own {w : World} {base n : Nat} {e : TypeId} {v : Value} {ps : List (Gr × Value)} (h2 : w.ownsRow base e 3 v n (cellsG ps)) (hn : n = ps.length) (h3 : ∀ p ∈ ps, Sw w p.2 (bv p.1.bytes)) : SwG w v (ps.map (·.1)) := by
  subst hn
  have hl := cellsG_length ps
  by_cases h0 : ps = []
  · subst h0
    rcases h2.2 with ⟨rfl, _⟩ | ⟨g, cap, cur, rfl, _, _, _, hc, _⟩
    · exact SwG.nil_ w
    · exact .inl ⟨rfl, _, _, rfl, hc⟩
  · rcases h2.2 with ⟨rfl, hz⟩ | ⟨g, cap, cur, rfl, hb, hh, h5, h6, h7, h8⟩
    · exact absurd (List.eq_nil_of_length_eq_zero hz) h0
    · refine .inr ⟨g, 0, cap, by rw [List.length_map], by simpa using h0, by simpa using h5, h6, (Array.getElem?_eq_some_iff.1 hh).1, fun j hj => ?_⟩
      have hj' : j < ps.length := by simpa using hj
      have key : ∀ k u, k < ps.length * 3 → (cellsG ps)[k]? = some u → w.cell? ⟨g, k, none⟩ = some u := by
        intro k u hk hu
        rw [← h8, List.getElem?_take, if_pos hk] at hu
        unfold World.cell?
        dsimp only
        rw [hh]
        simpa using hu
      obtain ⟨c0, c1, c2⟩ := cellsG_get ps j hj'
      simp only [List.getElem_map, Nat.zero_add]
      exact ⟨key _ _ (by omega) c0, ⟨_, key _ _ (by omega) c1, h3 _ (List.getElem_mem hj')⟩, key _ _ (by omega) c2⟩
section
variable {P : Program} {ops : Array Oper} {o : Oper} {a : Act} {w : World} {K : Act → World → Prop} {Q : Exit → Act → World → Prop} {E0 : Prop}
theorem step_build0 (hw : Region.wanted o (yielded ops a.tmps) = true) {ty : TypeId} (ho : o.op = .buildSlice ty 0 #[]) {v : Value} {w' : World} (hr : (Instr.buildSlice ty 0 #[]).run P w = .ok v w')
    (h : K (a.put o.dst v) w') : if Region.wanted o (yielded ops a.tmps) = true then Oper.wp P o a w K Q else E0 := by
  rw [if_pos hw]
  unfold Oper.wp execOp
  simp only [ho, Sem.run_bind, Sem.run_pure, Result.andThen_ok, List.map_toArray, List.map_nil, hr]
  exact h
end
theorem run_none0 (w : World) : (Instr.buildSlice 22 0 #[]).run Try.prog w = .ok (.slice (some ⟨w.heap.size, 0, none⟩) 0 0) (w.alloc (.cells #[] 29)) := by kernel_rfl
set_option maxHeartbeats 8000000 in
theorem first_ok (v : Value) (ls : List Gr) (i : Int) (w : World) (hv : SwG w v ls) (hn : ls.length ≤ 30) (hb : ∀ g ∈ ls, g.bytes.length ≤ 120) (hi : (Lit.int .i64 i).wf = true) :
    Calls Try.prog 5 #[v, .int .i64 i] w fun e w' => e = .returned (.bool true) ∧ Below w.heap.size w w' := by
  obtain ⟨Av, cv, rfl⟩ := hv.form
  have HV := Lib.hid hv
  have HN := Lib.hid hn
  have HB := Lib.hid hb
  have e4 : decide ((ls.length : Int) > 30) = false := decide_eq_false (by omega)
  have e5 : decide (30 < (ls.length : Int)) = false := decide_eq_false (by omega)
  clear hv hn hb
  go_enter Try.func5, Try.ntmps5
  go_wp2_with fail
  go_loopw [5] (fun t W => ∃ m : Nat, m ≤ ls.length ∧ t = .int .i64 (m : Int) ∧ W = w) (fun t _ => ls.length - (intOf t).toNat)
  case atStart => exact ⟨0, Nat.zero_le _, rfl, rfl⟩
  case round =>
    obtain ⟨m, hm, rfl, hW⟩ := hrel
    subst wr
    have hnn := HN.out
    by_cases hml : m < ls.length
    · obtain ⟨b1, o1, rfl, hb1, x0, ⟨u1, y1, s1⟩, z1⟩ := HV.out.at_ m hml
      obtain ⟨A1, q1, rfl⟩ := s1.form
      rw [bv_length] at *
      have hbb := HB.out _ (List.getElem_mem hml)
      generalize ls[m] = g at *
      have d3 : decide (120 < (g.bytes.length : Int)) = false := decide_eq_false (by omega)
      have d4 : decide ((g.bytes.length : Int) > 120) = false := decide_eq_false (by omega)
      clear s1
      go_wp2
      go_roundw
      case rel => exact ⟨m + 1, by omega, by go_num, by first | rfl | trivial⟩
      case measure => simp [intOf]; omega
    · obtain rfl : m = ls.length := by omega
      have KS := Lib.hid (Send_any nilB 0 [] (.slice Av ls.length cv) ls w (SwG.nil_ _) HV.out (by simp) (by simp))
      rw [sendS_all ls ([], 0) (by simp; omega) HB.out] at KS
      simp only [List.nil_append] at KS
      go_wp2_with fail
      refine KS.out.mono ?_; rintro e w1 ⟨A6, q6, c6, rfl, hm1⟩
      have hw1 := hm1.below.size
      have H0 := (((((Fs.nil _).snoc (.base w) hm1.below).snoc (.own (fun k => k ≠ w1.heap.size) 29 _ _) (hm1.ownP.imp fun k h1 h2 => by omega)).alloc (.cells (bagC nilB 0) 24)).snoc (.row w1.heap.size _ _) (Rw.new w1 (bagC nilB 0) 24))
      simp only [List.nil_append, List.cons_append] at H0
      clear hm1 KS
      go_wp2_with (first
        | (with_reducible show wpList _ _ _ (Oper.mk _ (Op.store 24 (.tmp 6) _) _ _ _ _ :: _) _ _
           refine wpList_storeR (c := bagC (.slice A6 q6 c6) 0) rfl _ _ rfl rfl rfl aggB.hi (H0.rowAt 2 rfl) rfl (bag_one _ _ _ _) ?_
           replace H0 := H0.setRow 2 rfl (bagC (.slice A6 q6 c6) 0) (by simp [aparts, F.row_fp, F.base_fp, F.own_fp, F.bytes_fp, -Nat.not_le, -Nat.not_lt] <;> omega)
           simp only [List.set_cons_zero, List.set_cons_succ] at H0
           refine Fs.gen H0 ?_
           clear H0
           rintro X1 H0
           have d6 := (H0.rowAt 2 rfl).cell))
      refine (rgrams_any _ _ ls ls _ (H0.ownAt 1 rfl).swG (HV.out.below (H0.baseAt 0 rfl))).mono ?_; rintro e X1' ⟨rfl, hz⟩
      rw [show decide (ls = ls) = true from decide_eq_true rfl]
      replace H0 := (H0.call hz).sub (m := [.base w, .row w1.heap.size 24 (bagC (.slice A6 q6 c6) 0), .own (fun k => k ≠ w1.heap.size) 29 (.slice A6 q6 c6) ls]) (by simp)
      clear hz d6
      by_cases h0 : ls.length = 0
      · have e6 : decide ((ls.length : Int) > 0) = false := decide_eq_false (by omega)
        have e7 : decide (0 < (ls.length : Int)) = false := decide_eq_false (by omega)
        go_wp2_with fail
        go_loopw [11] (fun t W => t = .int .i64 0 ∧ W = X1') (fun t _ => 0)
        case atStart => exact ⟨rfl, rfl⟩
        case round =>
          obtain ⟨rfl, hW⟩ := hrel
          subst wr
          have hq : q6 = 0 := by
            have := (H0.ownAt 2 rfl).swG.qlen
            omega
          subst hq
          have c6 := (H0.rowAt 1 rfl).cell
          have HX := Lib.hid H0
          clear H0
          go_wp2_with fail
          refine (wakes_any _).mono ?_; rintro e z3 ⟨rfl, h3⟩
          have G3 := Lib.hid ((HX.out.call h3).baseAt 0 rfl)
          clear HX h3 c6
          go_wp2
          go_ret
          exact ⟨rfl, G3.out⟩
      · have e6 : decide ((ls.length : Int) > 0) = true := decide_eq_true (by omega)
        have e7 : decide (0 < (ls.length : Int)) = true := decide_eq_true (by omega)
        have L0 : ¬ (ls.length : Int) = 0 := by omega
        obtain ⟨k, hk, hP⟩ : ∃ k : Nat, k < ls.length ∧ (i.tmod (ls.length : Int) + ls.length).tmod (ls.length : Int) = (k : Int) := by
          have h1 := Int.emod_nonneg (i.tmod (ls.length : Int) + ls.length) L0
          have h2 := Int.emod_lt_of_pos (i.tmod (ls.length : Int) + ls.length) (show (0 : Int) < ls.length by omega)
          have h3 := Int.lt_tmod_of_pos i (show (0 : Int) < ls.length by omega)
          have h4 : (i.tmod (ls.length : Int) + ls.length).tmod (ls.length : Int) = (i.tmod (ls.length : Int) + ls.length) % (ls.length : Int) := by
            rw [Int.tmod_eq_emod_of_nonneg (by omega)]
          refine ⟨((i.tmod (ls.length : Int) + ls.length) % (ls.length : Int)).toNat, by omega, ?_⟩
          rw [h4]; omega
        have w1' : IntKind.i64.wrap (i.tmod (ls.length : Int)) = i.tmod (ls.length : Int) := by
          have h3 := Int.lt_tmod_of_pos i (show (0 : Int) < ls.length by omega)
          have h5 := Int.tmod_lt_of_pos i (show (0 : Int) < ls.length by omega)
          rw [IntKind.wrap_i64]; omega
        have w2' : IntKind.i64.wrap (i.tmod (ls.length : Int) + ls.length) = i.tmod (ls.length : Int) + ls.length := by
          have h3 := Int.lt_tmod_of_pos i (show (0 : Int) < ls.length by omega)
          have h5 := Int.tmod_lt_of_pos i (show (0 : Int) < ls.length by omega)
          rw [IntKind.wrap_i64]; omega
        have w3' : IntKind.i64.wrap (k : Int) = (k : Int) := by rw [IntKind.wrap_i64]; omega
        go_wp2_with (first
          | (with_reducible show wpList _ _ _ (Oper.mk _ (Op.load 24 (.tmp 6)) _ _ _ _ :: _) _ _
             refine wpList_loadW (H0.rowAt 1 rfl) aggB rfl _ rfl rfl ?_))
        have hTK : takeS ls (k : Int) = (butK ls k, ls[k], true) := by
          unfold takeS pick
          rw [if_pos ⟨by omega, by omega⟩]
          simp [hk]
        have KT := Lib.hid (fun W (h : SwG W (.slice A6 q6 c6) ls) => Take_any (.slice A6 q6 c6) 0 ls (k : Int) W h (fun g hg => by have := HB.out g hg; omega) (by omega))
        rw [hTK] at KT
        dsimp only at KT
        obtain ⟨b1, o1, rfl, hb1, x0, ⟨u1, y1, s1⟩, z1⟩ := HV.out.at_ k hk
        have hx0 := (H0.rowAt 1 rfl).lt
        have hls : ls ≠ [] := by rintro rfl; simp at hk
        obtain ⟨b1', o1', ps, hAv, hps, hln⟩ := HV.out.ln hls
        injection hAv with hAv
        injection hAv with hAv1 hAv2 hAv3
        subst hAv1 hAv2
        clear hTK hP w1' w2' w3' hls hAv3
        refine (KT.out _ (H0.ownAt 2 rfl).swG).mono ?_; rintro e w2 ⟨A7, q7, c7, u, rfl, hm2, hu⟩
        obtain ⟨Au, cu, rfl⟩ := (Sl.of_own hu).form
        rw [bv_length] at hu ⊢
        replace H0 := (((H0.sub (m := [.base w, .row w1.heap.size 24 (bagC (.slice A6 q6 c6) 0)]) (by simp)).snoc (.own (fun k => k ≠ w1.heap.size ∧ k < X1'.heap.size) 29 (.slice A6 q6 c6) ls) ((H0.ownAt 2 rfl).imp fun k h1 h2 => ⟨h2, h1⟩)).call hm2.below |>.snoc (.own (fun k => X1'.heap.size ≤ k ∧ k < w2.heap.size) 29 _ _) (hm2.ownP.imp fun k h1 h2 => ⟨h2, h1⟩)).snoc (.bytes (fun k => X1'.heap.size ≤ k ∧ k < w2.heap.size) _ _) ⟨owns_mono hu (Nat.zero_le _), fun k hk => hu.lt k hk⟩
        obtain ⟨z1', z2', -⟩ := two_boxes w2 (bagC nilB 0) (noG.c nilB) 24 29
        replace H0 := (((H0.alloc _).alloc _).snoc (.row w2.heap.size _ _) z1').snoc (.row (w2.heap.size + 1) _ _) z2'
        simp only [List.nil_append, List.cons_append] at H0
        have hw12 := hm2.below.size
        have HGM := Lib.hid (List.getElem_mem hk)
        have HBK := Lib.hid (show (butK ps k).map (·.1) = butK ls k by rw [butK_map, hps])
        have hpl : ps.length = ls.length := by rw [← hps, List.length_map]
        generalize ls[k] = g at *
        clear z1' z2' hm2 hu KT
        replace H0 := H0.sub (m := [.base w, .row w1.heap.size 24 (bagC (.slice A6 q6 c6) 0), .own (fun k => X1'.heap.size ≤ k ∧ k < w2.heap.size) 29 (.slice A7 q7 c7) (butK ls k), .bytes (fun k => X1'.heap.size ≤ k ∧ k < w2.heap.size) (.slice Au g.bytes.length cu) g.bytes, .row w2.heap.size 24 (bagC nilB 0), .row (w2.heap.size + 1) 29 (noG.c nilB), .own (fun k => k ≠ w1.heap.size ∧ k < X1'.heap.size) 29 (.slice A6 q6 c6) ls]) (by simp)
        go_wp2_with (first
          | (with_reducible show wpList _ _ _ (Oper.mk _ (Op.store 24 (.tmp 7) _) _ _ _ _ :: _) _ _
             refine wpList_storeR (c := bagC (.slice A7 q7 c7) 0) rfl _ _ rfl rfl rfl aggB.hi (H0.rowAt 4 rfl) rfl (bag_one _ _ _ _) ?_
             replace H0 := H0.setRow 4 rfl (bagC (.slice A7 q7 c7) 0) (by simp [aparts, F.row_fp, F.base_fp, F.own_fp, F.bytes_fp, -Nat.not_le, -Nat.not_lt] <;> omega)
             simp only [List.set_cons_zero, List.set_cons_succ] at H0)
          | (with_reducible show wpList _ _ _ (Oper.mk _ (Op.store 29 (.tmp 8) _) _ _ _ _ :: _) _ _
             refine wpList_storeR (c := g.c (.slice Au g.bytes.length cu)) rfl _ _ rfl rfl rfl aggG.hi (H0.rowAt 5 rfl) rfl (Gr.one _ _ _ _) ?_
             replace H0 := H0.setRow 5 rfl (g.c (.slice Au g.bytes.length cu)) (by simp [aparts, F.row_fp, F.base_fp, F.own_fp, F.bytes_fp, -Nat.not_le, -Nat.not_lt] <;> omega)
             simp only [List.set_cons_zero, List.set_cons_succ] at H0
             refine Fs.gen H0 ?_
             clear H0
             rintro X3 H0))
        obtain ⟨a1, cut1, rd1⟩ := run_cut3 (P := Try.prog) elG hln 0 k (Nat.zero_le _) (by omega) none (some (.int .i64 (k : Int))) (.inr ⟨rfl, rfl⟩) (.inl rfl)
        obtain ⟨a2, cut2, rd2⟩ := run_cut3 (P := Try.prog) elG hln (k + 1) ls.length (by omega) (Nat.le_refl _) (some (.int .i64 ((k : Int) + 1))) none (.inl (by simp)) (.inr ⟨rfl, rfl⟩)
        rw [show (ps.take k).drop 0 = ps.take k by simp] at rd1
        rw [show (ps.take ls.length).drop (k + 1) = ps.drop (k + 1) by rw [List.take_of_length_le (by omega)]] at rd2
        have HL1 := Lib.hid (show (ps.take k).length = k - 0 by simp; omega)
        have HL2 := Lib.hid (show (ps.drop (k + 1)).length = ls.length - (k + 1) by simp; omega)
        have HO1 := Lib.hid (show ∀ q ∈ ps.take k, q.2.oneCell' = true from fun q hq => hln.one q (List.mem_of_mem_take hq))
        have HO2 := Lib.hid (show ∀ q ∈ ps.drop (k + 1), q.2.oneCell' = true from fun q hq => hln.one q (List.mem_of_mem_drop hq))
        have HRD1 := Lib.hid (rd1.below (H0.baseAt 0 rfl))
        have HRD2 := Lib.hid (rd2.below (H0.baseAt 0 rfl))
        have HLN := Lib.hid hln
        have hwr : IntKind.i64.wrap ((k : Int) + 1) = (k : Int) + 1 := by rw [IntKind.wrap_i64]; omega
        have ik : (0 : Int) ≤ (k : Int) := by omega
        have ik2 : (k : Int) < (ls.length : Int) := by omega
        clear rd1 rd2 hln
        refine wp_region_held_drew (S := (fun X => Below X3.heap.size X3 X)) (by kernel_rfl) (by first | exact (Below.refl _ _).drew | assumption) (fun hHeld => ?_)
        refine wpAnyH_take (i := 1) (oi := { dst := some 62, op := .move (.tmp 0), type := _, pos := _, after := _, guard := none }) (v := ?_) rfl (by kernel_rfl) (by kernel_rfl) (by kernel_rfl) (fun _ _ _ h => h) (Or.inl ⟨by rfl, ?_⟩) (by assumption) ?_
        rotate_left
        · (intro w hSw; (try dsimp only at hSw); go_simp; try (with_reducible rfl))
        try simp only [Act.put, List.setIfInBounds_toArray, List.set_cons_zero, List.set_cons_succ]
        refine wpAnyH_take (i := 2) (oi := { dst := some 63, op := .move (.tmp 1), type := _, pos := _, after := _, guard := none }) (v := ?_) rfl (by kernel_rfl) (by kernel_rfl) (by kernel_rfl) (fun _ _ _ h => h) (Or.inl ⟨by rfl, ?_⟩) (by assumption) ?_
        rotate_left
        · (intro w hSw; (try dsimp only at hSw); go_simp; try (with_reducible rfl))
        try simp only [Act.put, List.setIfInBounds_toArray, List.set_cons_zero, List.set_cons_succ]
        refine wpAnyH_take (i := 3) (oi := { dst := some 64, op := .slice 22 (.tmp 62) none (some (.tmp 63)) none, type := _, pos := _, after := _, guard := none }) (v := ?_) rfl (by kernel_rfl) (by kernel_rfl) (by kernel_rfl) (fun _ _ _ h => h) (Or.inl ⟨by rfl, ?_⟩) (by assumption) ?_
        rotate_left
        · (intro w hSw; (try dsimp only at hSw); go_simp; try (with_reducible rfl))
        try simp only [Act.put, List.setIfInBounds_toArray, List.set_cons_zero, List.set_cons_succ]
        refine wpAnyH_take (i := 5) (oi := { dst := some 66, op := .move (.tmp 0), type := _, pos := _, after := _, guard := none }) (v := ?_) rfl (by kernel_rfl) (by kernel_rfl) (by kernel_rfl) (fun _ _ _ h => h) (Or.inl ⟨by rfl, ?_⟩) (by assumption) ?_
        rotate_left
        · (intro w hSw; (try dsimp only at hSw); go_simp; try (with_reducible rfl))
        try simp only [Act.put, List.setIfInBounds_toArray, List.set_cons_zero, List.set_cons_succ]
        refine wpAnyH_take (i := 6) (oi := { dst := some 67, op := .move (.tmp 1), type := _, pos := _, after := _, guard := none }) (v := ?_) rfl (by kernel_rfl) (by kernel_rfl) (by kernel_rfl) (fun _ _ _ h => h) (Or.inl ⟨by rfl, ?_⟩) (by assumption) ?_
        rotate_left
        · (intro w hSw; (try dsimp only at hSw); go_simp; try (with_reducible rfl))
        try simp only [Act.put, List.setIfInBounds_toArray, List.set_cons_zero, List.set_cons_succ]
        refine wpAnyH_take (i := 7) (oi := { dst := some 68, op := .binOp .add 3 (.tmp 67) (.const (.int .i64 1)) 3, type := _, pos := _, after := _, guard := none }) (v := ?_) rfl (by kernel_rfl) (by kernel_rfl) (by kernel_rfl) (fun _ _ _ h => h) (Or.inl ⟨by rfl, ?_⟩) (by assumption) ?_
        rotate_left
        · (intro w hSw; (try dsimp only at hSw); go_simp; try (with_reducible rfl))
        try simp only [Act.put, List.setIfInBounds_toArray, List.set_cons_zero, List.set_cons_succ]
        refine wpAnyH_take (i := 8) (oi := { dst := some 69, op := .slice 22 (.tmp 66) (some (.tmp 68)) none none, type := _, pos := _, after := _, guard := none }) (v := ?_) rfl (by kernel_rfl) (by kernel_rfl) (by kernel_rfl) (fun _ _ _ h => h) (Or.inl ⟨by rfl, ?_⟩) (by assumption) ?_
        rotate_left
        · (intro w hSw; (try dsimp only at hSw); go_simp; try (with_reducible rfl))
        try simp only [Act.put, List.setIfInBounds_toArray, List.set_cons_zero, List.set_cons_succ]
        refine wpAnyH_ready (rs := [0]) (by kernel_rfl) (by simp) ?_
        refine AllReadyH.cons (o := { dst := some 61, op := .buildSlice 22 0 #[], type := _, pos := _, after := _, guard := none }) rfl (fun K hK => ?_) AllReadyH.nil
        refine step_build0 rfl rfl (run_none0 _) ?_
        have hB0 : Below X3.heap.size X3 (X3.drew.alloc (.cells #[] 29)) := (Below.refl X3.heap.size X3).drew.alloc (Nat.le_refl _) _
        have hO0 : (X3.drew.alloc (.cells #[] 29)).ownsRow X3.heap.size 29 3 (.slice (some ⟨X3.drew.heap.size, 0, none⟩) 0 0) 0 [] := owns_none (Nat.le_refl _) (heap_alloc_new X3.drew _) (by decide) rfl
        generalize X3.drew.alloc (.cells #[] 29) = y0 at *
        generalize X3.drew.heap.size = b0 at *
        refine hK.out _ _ (by first | exact (Below.refl _ _).drew | assumption) (fun hHeld => ?_)
        clear hK K
        try simp only [Act.put, List.setIfInBounds_toArray, List.set_cons_zero, List.set_cons_succ]
        refine wpAnyH_ready (rs := [4]) (by kernel_rfl) (by simp) ?_
        refine AllReadyH.cons (o := { dst := some 65, op := .call { callee := .builtin .append, args := #[.tmp 61, .tmp 64], argTypes := #[22, 22] }, type := _, pos := _, after := _, guard := none }) rfl (fun K hK => ?_) AllReadyH.nil
        refine step_joinG elG rfl (.tmp 61) (.tmp 64) rfl rfl (base := X3.heap.size) (qs := []) hO0 rfl HL1.out (HRD1.out.below hB0) HO1.out (by simp only [List.length_nil]; omega) hB0.size ?_
        intro v4 w4 ho4 hg4
        have hB4 : Below X3.heap.size X3 w4 := below_of_none (gr_then (gr_of_below hB0 none) hg4 (.inr (fun g e => (hO0.lt g e).1)))
        have HO4 := Lib.hid ho4
        clear ho4 hg4 hO0
        refine hK.out _ _ (by first | exact (Below.refl _ _).drew | assumption) (fun hHeld => ?_)
        clear hK K
        try simp only [Act.put, List.setIfInBounds_toArray, List.set_cons_zero, List.set_cons_succ]
        refine wpAnyH_ready (rs := [9]) (by kernel_rfl) (by simp) ?_
        refine AllReadyH.cons (o := { dst := some 70, op := .call { callee := .builtin .append, args := #[.tmp 65, .tmp 69], argTypes := #[22, 22] }, type := _, pos := _, after := _, guard := none }) rfl (fun K hK => ?_) AllReadyH.nil
        refine step_joinG elG rfl (.tmp 65) (.tmp 69) rfl rfl (base := X3.heap.size) (qs := [] ++ ps.take k) HO4.out rfl HL2.out (HRD2.out.below hB4) HO2.out (by have := HL1.out; simp only [List.nil_append] at *; omega) hB4.size ?_
        intro v5 w5 ho5 hg5
        have hB5 : Below X3.heap.size X3 w5 := below_of_none (gr_then (gr_of_below hB4 none) hg5 (.inr (fun g e => (HO4.out.lt g e).1)))
        rw [List.nil_append] at ho5
        have HO5 := Lib.hid ho5
        clear ho5 hg5
        refine hK.out _ _ (by first | exact (Below.refl _ _).drew | assumption) (fun hHeld => ?_)
        clear hK K
        try simp only [Act.put, List.setIfInBounds_toArray, List.set_cons_zero, List.set_cons_succ]
        refine wpAnyH_take (i := 10) (oi := { dst := some 10, op := .assign (.tmp 70), type := _, pos := _, after := _, guard := none }) (v := ?_) rfl (by kernel_rfl) (by kernel_rfl) (by kernel_rfl) (fun _ _ _ h => h) (Or.inl ⟨by rfl, ?_⟩) (by assumption) ?_
        rotate_left
        · (intro w hSw; (try dsimp only at hSw); go_simp; try (with_reducible rfl))
        try simp only [Act.put, List.setIfInBounds_toArray, List.set_cons_zero, List.set_cons_succ]
        refine wpAnyH_done (by kernel_rfl) ?_ _

        replace H0 := H0.call hB5
        have HS5 := Lib.hid (show SwG w5 v5 (butK ls k) from by
          have := swG_of_own (ps := ps.take k ++ ps.drop (k + 1)) HO5.out rfl (fun q hq => by
            refine (HLN.out.sw q ?_).below (H0.baseAt 0 rfl)
            rcases List.mem_append.1 hq with h | h
            · exact List.mem_of_mem_take h
            · exact List.mem_of_mem_drop h)
          rw [← HBK.out]
          exact this)
        obtain ⟨A10, c10, rfl⟩ := owns_slice HO5.out
        generalize (List.take k ps ++ List.drop (k + 1) ps).length = q10 at *
        clear HO5 HO4 hB0 hB4 hB5 HL1 HL2 HO1 HO2 HRD1 HRD2 HLN cut1 cut2
        have HX := Lib.hid (fun X (h : Below w5.heap.size w5 X) => (H0.call h).baseAt 0 rfl)
        have HQ := Lib.hid (show ∀ X, Below w5.heap.size w5 X → Below w5.heap.size w5 X ∧ X.cell? ⟨w2.heap.size, 0, none⟩ = some (.slice A7 q7 c7) ∧ X.cell? ⟨w2.heap.size + 1, 0, none⟩ = some (.int .i64 g.to) ∧ X.cell? ⟨w2.heap.size + 1, 1, none⟩ = some (.slice Au g.bytes.length cu) ∧ X.cell? ⟨w2.heap.size + 1, 2, none⟩ = some (.bool g.harm) ∧ X.cell? ⟨b1, o1 + k * 3, none⟩ = some (.int .i64 g.to) ∧ X.cell? ⟨b1, o1 + k * 3 + 1, none⟩ = some u1 ∧ X.cell? ⟨b1, o1 + k * 3 + 2, none⟩ = some (.bool g.harm) from fun X h =>
          ⟨h, ((H0.call h).rowAt 4 rfl).cell 0, ((H0.call h).rowAt 5 rfl).cell 0, ((H0.call h).rowAt 5 rfl).cell 1, ((H0.call h).rowAt 5 rfl).cell 2, ((HX.out X h).cell (p := ⟨b1, _, none⟩) hb1).trans x0, ((HX.out X h).cell (p := ⟨b1, _, none⟩) hb1).trans y1, ((HX.out X h).cell (p := ⟨b1, _, none⟩) hb1).trans z1⟩)
        have KG := Lib.hid (fun X (h : Below w5.heap.size w5 X) => rgram_same g (.slice Au g.bytes.length cu) u1 X (.inl (Sl.of_own ((H0.call h).bytesAt 3 rfl))) (s1.below (HX.out X h)))
        have KH := Lib.hid (fun X (h : Below w5.heap.size w5 X) => rgrams_any (.slice A7 q7 c7) (.slice A10 q10 c10) (butK ls k) (butK ls k) X ((H0.call h).ownAt 2 rfl).swG (HS5.out.below h))
        rw [show decide (butK ls k = butK ls k) = true from decide_eq_true rfl] at KH
        clear x0 y1 z1 s1
        go_wp2_with fail
        refine wp_region_held_drew (S := (fun X => Below w5.heap.size w5 X ∧ X.cell? ⟨w2.heap.size, 0, none⟩ = some (.slice A7 q7 c7) ∧ X.cell? ⟨w2.heap.size + 1, 0, none⟩ = some (.int .i64 g.to) ∧ X.cell? ⟨w2.heap.size + 1, 1, none⟩ = some (.slice Au g.bytes.length cu) ∧ X.cell? ⟨w2.heap.size + 1, 2, none⟩ = some (.bool g.harm) ∧ X.cell? ⟨b1, o1 + k * 3, none⟩ = some (.int .i64 g.to) ∧ X.cell? ⟨b1, o1 + k * 3 + 1, none⟩ = some u1 ∧ X.cell? ⟨b1, o1 + k * 3 + 2, none⟩ = some (.bool g.harm))) (by kernel_rfl) (by first | exact HQ.out _ (Below.refl _ _).drew | assumption | exact HQ.out _ (by assumption)) (fun hHeld => ?_)
        refine wpAnyH_take (i := 0) (oi := { dst := some 71, op := .move (.tmp 9), type := _, pos := _, after := _, guard := none }) (v := ?_) rfl (by kernel_rfl) (by kernel_rfl) (by kernel_rfl) (fun _ _ _ h => h) (Or.inl ⟨by rfl, ?_⟩) (by assumption) ?_
        rotate_left
        · (intro w hSw; (try dsimp only at hSw); go_simp; try (with_reducible rfl))
        try simp only [Act.put, List.setIfInBounds_toArray, List.set_cons_zero, List.set_cons_succ]
        refine wpAnyH_take (i := 1) (oi := { dst := some 72, op := .unOp .not 4 (.tmp 71), type := _, pos := _, after := _, guard := none }) (v := ?_) rfl (by kernel_rfl) (by kernel_rfl) (by kernel_rfl) (fun _ _ _ h => h) (Or.inl ⟨by rfl, ?_⟩) (by assumption) ?_
        rotate_left
        · (intro w hSw; (try dsimp only at hSw); go_simp; try (with_reducible rfl))
        try simp only [Act.put, List.setIfInBounds_toArray, List.set_cons_zero, List.set_cons_succ]
        refine wpAnyH_take (i := 2) (oi := { dst := some 73, op := .move (.tmp 72), type := _, pos := _, after := _, guard := none }) (v := ?_) rfl (by kernel_rfl) (by kernel_rfl) (by kernel_rfl) (fun _ _ _ h => h) (Or.inl ⟨by rfl, ?_⟩) (by assumption) ?_
        rotate_left
        · (intro w hSw; (try dsimp only at hSw); go_simp; try (with_reducible rfl))
        try simp only [Act.put, List.setIfInBounds_toArray, List.set_cons_zero, List.set_cons_succ]
        refine wpAnyH_take (i := 3) (oi := { dst := some 74, op := .load 29 (.tmp 8), type := _, pos := _, after := _, guard := some (2, false) }) (v := ?_) rfl (by kernel_rfl) (by kernel_rfl) (by kernel_rfl) (fun _ _ _ h => h) (Or.inl ⟨by rfl, ?_⟩) (by assumption) ?_
        rotate_left
        · (intro w hSw; (try dsimp only at hSw); go_simp; try (with_reducible rfl))
        try simp only [Act.put, List.setIfInBounds_toArray, List.set_cons_zero, List.set_cons_succ]
        refine wpAnyH_take (i := 4) (oi := { dst := some 75, op := .move (.tmp 0), type := _, pos := _, after := _, guard := some (2, false) }) (v := ?_) rfl (by kernel_rfl) (by kernel_rfl) (by kernel_rfl) (fun _ _ _ h => h) (Or.inl ⟨by rfl, ?_⟩) (by assumption) ?_
        rotate_left
        · (intro w hSw; (try dsimp only at hSw); go_simp; try (with_reducible rfl))
        try simp only [Act.put, List.setIfInBounds_toArray, List.set_cons_zero, List.set_cons_succ]
        refine wpAnyH_take (i := 5) (oi := { dst := some 76, op := .move (.tmp 1), type := _, pos := _, after := _, guard := some (2, false) }) (v := ?_) rfl (by kernel_rfl) (by kernel_rfl) (by kernel_rfl) (fun _ _ _ h => h) (Or.inl ⟨by rfl, ?_⟩) (by assumption) ?_
        rotate_left
        · (intro w hSw; (try dsimp only at hSw); go_simp; try (with_reducible rfl))
        try simp only [Act.put, List.setIfInBounds_toArray, List.set_cons_zero, List.set_cons_succ]
        refine wpAnyH_take (i := 6) (oi := { dst := some 77, op := .indexAddr 22 (.tmp 75) (.tmp 76), type := _, pos := _, after := _, guard := some (2, false) }) (v := ?_) rfl (by kernel_rfl) (by kernel_rfl) (by kernel_rfl) (fun _ _ _ h => h) (Or.inl ⟨by rfl, ?_⟩) (by assumption) ?_
        rotate_left
        · (intro w hSw; (try dsimp only at hSw); go_simp; try (with_reducible rfl))
        try simp only [Act.put, List.setIfInBounds_toArray, List.set_cons_zero, List.set_cons_succ]
        refine wpAnyH_take (i := 7) (oi := { dst := some 78, op := .load 29 (.tmp 77), type := _, pos := _, after := _, guard := some (2, false) }) (v := ?_) rfl (by kernel_rfl) (by kernel_rfl) (by kernel_rfl) (fun _ _ _ h => h) (Or.inl ⟨by rfl, ?_⟩) (by assumption) ?_
        rotate_left
        · (intro w hSw; (try dsimp only at hSw); go_simp; try (with_reducible rfl))
        try simp only [Act.put, List.setIfInBounds_toArray, List.set_cons_zero, List.set_cons_succ]
        refine wpAnyH_ready (rs := [8]) (by kernel_rfl) (by simp) ?_
        refine AllReadyH.cons (o := { dst := some 79, op := .call { callee := .value (.func 15), args := #[.tmp 74, .tmp 78], argTypes := #[29, 29] }, type := _, pos := _, after := _, guard := some (2, false) }) rfl (fun K hK => ?_) AllReadyH.nil
        go_simp
        refine (KG.out _ (Below.refl _ _).drew).mono ?_; rintro e y1 ⟨rfl, hz⟩; have hy1 : Below w5.heap.size w5 y1 := (Below.refl w5.heap.size w5).drew.trans hz; clear hz
        refine hK.out _ _ (by first | exact HQ.out _ (Below.refl _ _).drew | assumption | exact HQ.out _ (by assumption)) (fun hHeld => ?_)
        clear hK K
        try simp only [Act.put, List.setIfInBounds_toArray, List.set_cons_zero, List.set_cons_succ]
        refine wpAnyH_take (i := 9) (oi := { dst := some 80, op := .unOp .not 4 (.tmp 79), type := _, pos := _, after := _, guard := some (2, false) }) (v := ?_) rfl (by kernel_rfl) (by kernel_rfl) (by kernel_rfl) (fun _ _ _ h => h) (Or.inl ⟨by rfl, ?_⟩) (by assumption) ?_
        rotate_left
        · (intro w hSw; (try dsimp only at hSw); go_simp; try (with_reducible rfl))
        try simp only [Act.put, List.setIfInBounds_toArray, List.set_cons_zero, List.set_cons_succ]
        refine wpAnyH_take (i := 10) (oi := { dst := some 81, op := .pick (.tmp 73) (.const (.bool true)) (.tmp 80), type := _, pos := _, after := _, guard := none }) (v := ?_) rfl (by kernel_rfl) (by kernel_rfl) (by kernel_rfl) (fun _ _ _ h => h) (Or.inl ⟨by rfl, ?_⟩) (by assumption) ?_
        rotate_left
        · (intro w hSw; (try dsimp only at hSw); go_simp; try (with_reducible rfl))
        try simp only [Act.put, List.setIfInBounds_toArray, List.set_cons_zero, List.set_cons_succ]
        refine wpAnyH_take (i := 11) (oi := { dst := some 82, op := .move (.tmp 81), type := _, pos := _, after := _, guard := none }) (v := ?_) rfl (by kernel_rfl) (by kernel_rfl) (by kernel_rfl) (fun _ _ _ h => h) (Or.inl ⟨by rfl, ?_⟩) (by assumption) ?_
        rotate_left
        · (intro w hSw; (try dsimp only at hSw); go_simp; try (with_reducible rfl))
        try simp only [Act.put, List.setIfInBounds_toArray, List.set_cons_zero, List.set_cons_succ]
        refine wpAnyH_take (i := 12) (oi := { dst := some 83, op := .fieldAddr 24 (.tmp 7) 0, type := _, pos := _, after := _, guard := some (11, false) }) (v := ?_) rfl (by kernel_rfl) (by kernel_rfl) (by kernel_rfl) (fun _ _ _ h => h) (Or.inl ⟨by rfl, ?_⟩) (by assumption) ?_
        rotate_left
        · (intro w hSw; (try dsimp only at hSw); go_simp; try (with_reducible rfl))
        try simp only [Act.put, List.setIfInBounds_toArray, List.set_cons_zero, List.set_cons_succ]
        refine wpAnyH_take (i := 13) (oi := { dst := some 84, op := .load 22 (.tmp 83), type := _, pos := _, after := _, guard := some (11, false) }) (v := ?_) rfl (by kernel_rfl) (by kernel_rfl) (by kernel_rfl) (fun _ _ _ h => h) (Or.inl ⟨by rfl, ?_⟩) (by assumption) ?_
        rotate_left
        · (intro w hSw; (try dsimp only at hSw); go_simp; try (with_reducible rfl))
        try simp only [Act.put, List.setIfInBounds_toArray, List.set_cons_zero, List.set_cons_succ]
        refine wpAnyH_take (i := 14) (oi := { dst := some 85, op := .move (.tmp 10), type := _, pos := _, after := _, guard := some (11, false) }) (v := ?_) rfl (by kernel_rfl) (by kernel_rfl) (by kernel_rfl) (fun _ _ _ h => h) (Or.inl ⟨by rfl, ?_⟩) (by assumption) ?_
        rotate_left
        · (intro w hSw; (try dsimp only at hSw); go_simp; try (with_reducible rfl))
        try simp only [Act.put, List.setIfInBounds_toArray, List.set_cons_zero, List.set_cons_succ]
        refine wpAnyH_ready (rs := [15]) (by kernel_rfl) (by simp) ?_
        refine AllReadyH.cons (o := { dst := some 86, op := .call { callee := .value (.func 27), args := #[.tmp 84, .tmp 85], argTypes := #[22, 22] }, type := _, pos := _, after := _, guard := some (11, false) }) rfl (fun K hK => ?_) AllReadyH.nil
        go_simp
        refine (KH.out _ hy1).mono ?_; rintro e y2 ⟨rfl, hz⟩; have hy2 : Below w5.heap.size w5 y2 := hy1.trans (hz.mono hy1.size); clear hz
        refine hK.out _ _ (by first | exact HQ.out _ (Below.refl _ _).drew | assumption | exact HQ.out _ (by assumption)) (fun hHeld => ?_)
        clear hK K
        try simp only [Act.put, List.setIfInBounds_toArray, List.set_cons_zero, List.set_cons_succ]
        refine wpAnyH_take (i := 16) (oi := { dst := some 87, op := .unOp .not 4 (.tmp 86), type := _, pos := _, after := _, guard := some (11, false) }) (v := ?_) rfl (by kernel_rfl) (by kernel_rfl) (by kernel_rfl) (fun _ _ _ h => h) (Or.inl ⟨by rfl, ?_⟩) (by assumption) ?_
        rotate_left
        · (intro w hSw; (try dsimp only at hSw); go_simp; try (with_reducible rfl))
        try simp only [Act.put, List.setIfInBounds_toArray, List.set_cons_zero, List.set_cons_succ]
        refine wpAnyH_take (i := 17) (oi := { dst := some 88, op := .pick (.tmp 82) (.const (.bool true)) (.tmp 87), type := _, pos := _, after := _, guard := none }) (v := ?_) rfl (by kernel_rfl) (by kernel_rfl) (by kernel_rfl) (fun _ _ _ h => h) (Or.inl ⟨by rfl, ?_⟩) (by assumption) ?_
        rotate_left
        · (intro w hSw; (try dsimp only at hSw); go_simp; try (with_reducible rfl))
        try simp only [Act.put, List.setIfInBounds_toArray, List.set_cons_zero, List.set_cons_succ]
        refine wpAnyH_done (by kernel_rfl) ?_ _

        replace H0 := (H0.call hy2).sub (m := [.base w, .row w1.heap.size 24 (bagC (.slice A6 q6 c6) 0), .own (fun k => k ≠ w1.heap.size ∧ k < X1'.heap.size) 29 (.slice A6 q6 c6) ls]) (by simp)
        replace H0 := (H0.sub (m := [.base w, .row w1.heap.size 24 (bagC (.slice A6 q6 c6) 0)]) (by simp)).snoc (.own (fun k => k ≠ w1.heap.size) 29 (.slice A6 q6 c6) ls) ((H0.ownAt 2 rfl).imp fun k _ h => h.1)
        simp only [List.nil_append, List.cons_append] at H0
        clear hy1 hy2 HQ KG KH HX HS5 ik ik2 hwr hk hb1
        go_wp2_with fail
        go_loopw [11] (fun t W => ∃ (m : Nat) (A : Option Addr) (q c : Nat), m ≤ ls.length ∧ t = .int .i64 (m : Int) ∧ Fs [.base w, .row w1.heap.size 24 (bagC (.slice A q c) 0), .own (fun k => k ≠ w1.heap.size) 29 (.slice A q c) (ls.drop m)] W) (fun t _ => ls.length - (intOf t).toNat)
        case atStart => exact ⟨0, _, _, _, Nat.zero_le _, rfl, H0⟩
        case round =>
          clear H0
          obtain ⟨m, A, q, c, hm, rfl, H0⟩ := hrel
          have hnn := HN.out
          by_cases hml : m < ls.length
          · obtain ⟨b2, o2, hAv, hb1, x0, ⟨u1, y1, s1⟩, z1⟩ := (HV.out.below (H0.baseAt 0 rfl)).at_ m hml
            injection hAv with hAv
            injection hAv with hAv1 hAv2
            subst hAv1 hAv2
            have hTK : takeS (ls.drop m) 0 = (ls.drop (m + 1), ls[m], true) := by
              unfold takeS pick
              rw [if_pos ⟨by omega, by rw [List.length_drop]; omega⟩]
              simp [butK, hml, Nat.add_comm]
            have HG := Lib.hid (HB.out _ (List.getElem_mem hml))
            have KT := Lib.hid (fun W (h : SwG W (.slice A q c) (ls.drop m)) => Take_any (.slice A q c) 0 (ls.drop m) 0 W h (fun g hg => by have := HB.out g (List.mem_of_mem_drop hg); omega) (by rw [List.length_drop]; omega))
            rw [hTK] at KT
            dsimp only at KT
            clear hTK
            have hx0 := (H0.rowAt 1 rfl).lt
            have ik : (0 : Int) ≤ (m : Int) := by omega
            have ik2 : (m : Int) < (ls.length : Int) := by omega
            have d1 : decide ((m : Int) < (ls.length : Int)) = true := decide_eq_true ik2
            generalize ls[m] = g at *
            go_wp2_with (first
              | (with_reducible show wpList _ _ _ (Oper.mk _ (Op.load 24 (.tmp 6)) _ _ _ _ :: _) _ _
                 refine wpList_loadW (H0.rowAt 1 rfl) aggB rfl _ rfl rfl ?_))
            refine (KT.out _ (H0.ownAt 2 rfl).swG).mono ?_; rintro e w2 ⟨A12, q12, c12, u, rfl, hm2, hu⟩
            obtain ⟨Au, cu, rfl⟩ := (Sl.of_own hu).form
            rw [bv_length] at hu ⊢
            have HBW := Lib.hid (show Below wr.heap.size wr w2 from hm2.below)
            replace H0 := (((H0.call hm2.below).sub (m := [.base w, .row w1.heap.size 24 (bagC (.slice A q c) 0)]) (by simp)).snoc (.own (fun k => wr.heap.size ≤ k ∧ k < w2.heap.size) 29 _ _) (hm2.ownP.imp fun k h1 h2 => ⟨h2, h1⟩)).snoc (.bytes (fun k => wr.heap.size ≤ k ∧ k < w2.heap.size) _ _) ⟨owns_mono hu (Nat.zero_le _), fun k hk => hu.lt k hk⟩
            obtain ⟨z1', z2', -⟩ := two_boxes w2 (bagC nilB 0) (noG.c nilB) 24 29
            replace H0 := ((((H0.alloc _).alloc _).snoc (.base wr) (HBW.out.trans ((two_boxes w2 (bagC nilB 0) (noG.c nilB) 24 29).2.2.mono HBW.out.size))).snoc (.row w2.heap.size _ _) z1').snoc (.row (w2.heap.size + 1) _ _) z2'
            simp only [List.nil_append, List.cons_append] at H0
            have hwr2 := HBW.out.size
            clear z1' z2' hm2 hu KT HBW
            go_wp2_with (first
              | (with_reducible show wpList _ _ _ (Oper.mk _ (Op.store 24 (.tmp 12) _) _ _ _ _ :: _) _ _
                 refine wpList_storeR (c := bagC (.slice A12 q12 c12) 0) rfl _ _ rfl rfl rfl aggB.hi (H0.rowAt 5 rfl) rfl (bag_one _ _ _ _) ?_
                 replace H0 := H0.setRow 5 rfl (bagC (.slice A12 q12 c12) 0) (by simp [aparts, F.row_fp, F.base_fp, F.own_fp, F.bytes_fp, -Nat.not_le, -Nat.not_lt] <;> omega)
                 simp only [List.set_cons_zero, List.set_cons_succ] at H0)
              | (with_reducible show wpList _ _ _ (Oper.mk _ (Op.store 29 (.tmp 13) _) _ _ _ _ :: _) _ _
                 refine wpList_storeR (c := g.c (.slice Au g.bytes.length cu)) rfl _ _ rfl rfl rfl aggG.hi (H0.rowAt 6 rfl) rfl (Gr.one _ _ _ _) ?_
                 replace H0 := H0.setRow 6 rfl (g.c (.slice Au g.bytes.length cu)) (by simp [aparts, F.row_fp, F.base_fp, F.own_fp, F.bytes_fp, -Nat.not_le, -Nat.not_lt] <;> omega)
                 simp only [List.set_cons_zero, List.set_cons_succ] at H0
                 refine Fs.gen H0 ?_
                 clear H0
                 rintro X3 H0))
            have HX := Lib.hid (fun X (h : Below X3.heap.size X3 X) => (H0.call h).baseAt 4 rfl)
            have HQ := Lib.hid (show ∀ X, Below X3.heap.size X3 X → Below X3.heap.size X3 X ∧ X.cell? ⟨w2.heap.size + 1, 0, none⟩ = some (.int .i64 g.to) ∧ X.cell? ⟨w2.heap.size + 1, 1, none⟩ = some (.slice Au g.bytes.length cu) ∧ X.cell? ⟨w2.heap.size + 1, 2, none⟩ = some (.bool g.harm) ∧ X.cell? ⟨b1, o1 + m * 3, none⟩ = some (.int .i64 g.to) ∧ X.cell? ⟨b1, o1 + m * 3 + 1, none⟩ = some u1 ∧ X.cell? ⟨b1, o1 + m * 3 + 2, none⟩ = some (.bool g.harm) from fun X h =>
              ⟨h, ((H0.call h).rowAt 6 rfl).cell 0, ((H0.call h).rowAt 6 rfl).cell 1, ((H0.call h).rowAt 6 rfl).cell 2, ((HX.out X h).cell (p := ⟨b1, _, none⟩) hb1).trans x0, ((HX.out X h).cell (p := ⟨b1, _, none⟩) hb1).trans y1, ((HX.out X h).cell (p := ⟨b1, _, none⟩) hb1).trans z1⟩)
            have KG := Lib.hid (fun X (h : Below X3.heap.size X3 X) => rgram_same g (.slice Au g.bytes.length cu) u1 X (.inl (Sl.of_own ((H0.call h).bytesAt 3 rfl))) (s1.below (HX.out X h)))
            clear x0 y1 z1 s1
            refine wp_region_held_drew (S := (fun X => Below X3.heap.size X3 X ∧ X.cell? ⟨w2.heap.size + 1, 0, none⟩ = some (.int .i64 g.to) ∧ X.cell? ⟨w2.heap.size + 1, 1, none⟩ = some (.slice Au g.bytes.length cu) ∧ X.cell? ⟨w2.heap.size + 1, 2, none⟩ = some (.bool g.harm) ∧ X.cell? ⟨b1, o1 + m * 3, none⟩ = some (.int .i64 g.to) ∧ X.cell? ⟨b1, o1 + m * 3 + 1, none⟩ = some u1 ∧ X.cell? ⟨b1, o1 + m * 3 + 2, none⟩ = some (.bool g.harm))) (by kernel_rfl) (by first | exact HQ.out _ (Below.refl _ _).drew | assumption | exact HQ.out _ (by assumption)) (fun hHeld => ?_)
            refine wpAnyH_take (i := 0) (oi := { dst := some 101, op := .move (.tmp 14), type := _, pos := _, after := _, guard := none }) (v := ?_) rfl (by kernel_rfl) (by kernel_rfl) (by kernel_rfl) (fun _ _ _ h => h) (Or.inl ⟨by rfl, ?_⟩) (by assumption) ?_
            rotate_left
            · (intro w hSw; (try dsimp only at hSw); go_simp; try (with_reducible rfl))
            try simp only [Act.put, List.setIfInBounds_toArray, List.set_cons_zero, List.set_cons_succ]
            refine wpAnyH_take (i := 1) (oi := { dst := some 102, op := .unOp .not 4 (.tmp 101), type := _, pos := _, after := _, guard := none }) (v := ?_) rfl (by kernel_rfl) (by kernel_rfl) (by kernel_rfl) (fun _ _ _ h => h) (Or.inl ⟨by rfl, ?_⟩) (by assumption) ?_
            rotate_left
            · (intro w hSw; (try dsimp only at hSw); go_simp; try (with_reducible rfl))
            try simp only [Act.put, List.setIfInBounds_toArray, List.set_cons_zero, List.set_cons_succ]
            refine wpAnyH_take (i := 2) (oi := { dst := some 103, op := .move (.tmp 102), type := _, pos := _, after := _, guard := none }) (v := ?_) rfl (by kernel_rfl) (by kernel_rfl) (by kernel_rfl) (fun _ _ _ h => h) (Or.inl ⟨by rfl, ?_⟩) (by assumption) ?_
            rotate_left
            · (intro w hSw; (try dsimp only at hSw); go_simp; try (with_reducible rfl))
            try simp only [Act.put, List.setIfInBounds_toArray, List.set_cons_zero, List.set_cons_succ]
            refine wpAnyH_take (i := 3) (oi := { dst := some 104, op := .load 29 (.tmp 13), type := _, pos := _, after := _, guard := some (2, false) }) (v := ?_) rfl (by kernel_rfl) (by kernel_rfl) (by kernel_rfl) (fun _ _ _ h => h) (Or.inl ⟨by rfl, ?_⟩) (by assumption) ?_
            rotate_left
            · (intro w hSw; (try dsimp only at hSw); go_simp; try (with_reducible rfl))
            try simp only [Act.put, List.setIfInBounds_toArray, List.set_cons_zero, List.set_cons_succ]
            refine wpAnyH_take (i := 4) (oi := { dst := some 105, op := .move (.tmp 0), type := _, pos := _, after := _, guard := some (2, false) }) (v := ?_) rfl (by kernel_rfl) (by kernel_rfl) (by kernel_rfl) (fun _ _ _ h => h) (Or.inl ⟨by rfl, ?_⟩) (by assumption) ?_
            rotate_left
            · (intro w hSw; (try dsimp only at hSw); go_simp; try (with_reducible rfl))
            try simp only [Act.put, List.setIfInBounds_toArray, List.set_cons_zero, List.set_cons_succ]
            refine wpAnyH_take (i := 5) (oi := { dst := some 106, op := .move (.tmp 11), type := _, pos := _, after := _, guard := some (2, false) }) (v := ?_) rfl (by kernel_rfl) (by kernel_rfl) (by kernel_rfl) (fun _ _ _ h => h) (Or.inl ⟨by rfl, ?_⟩) (by assumption) ?_
            rotate_left
            · (intro w hSw; (try dsimp only at hSw); go_simp; try (with_reducible rfl))
            try simp only [Act.put, List.setIfInBounds_toArray, List.set_cons_zero, List.set_cons_succ]
            refine wpAnyH_take (i := 6) (oi := { dst := some 107, op := .indexAddr 22 (.tmp 105) (.tmp 106), type := _, pos := _, after := _, guard := some (2, false) }) (v := ?_) rfl (by kernel_rfl) (by kernel_rfl) (by kernel_rfl) (fun _ _ _ h => h) (Or.inl ⟨by rfl, ?_⟩) (by assumption) ?_
            rotate_left
            · (intro w hSw; (try dsimp only at hSw); go_simp; try (with_reducible rfl))
            try simp only [Act.put, List.setIfInBounds_toArray, List.set_cons_zero, List.set_cons_succ]
            refine wpAnyH_take (i := 7) (oi := { dst := some 108, op := .load 29 (.tmp 107), type := _, pos := _, after := _, guard := some (2, false) }) (v := ?_) rfl (by kernel_rfl) (by kernel_rfl) (by kernel_rfl) (fun _ _ _ h => h) (Or.inl ⟨by rfl, ?_⟩) (by assumption) ?_
            rotate_left
            · (intro w hSw; (try dsimp only at hSw); go_simp; try (with_reducible rfl))
            try simp only [Act.put, List.setIfInBounds_toArray, List.set_cons_zero, List.set_cons_succ]
            refine wpAnyH_ready (rs := [8]) (by kernel_rfl) (by simp) ?_
            refine AllReadyH.cons (o := { dst := some 109, op := .call { callee := .value (.func 15), args := #[.tmp 104, .tmp 108], argTypes := #[29, 29] }, type := _, pos := _, after := _, guard := some (2, false) }) rfl (fun K hK => ?_) AllReadyH.nil
            go_simp
            refine (KG.out _ (Below.refl _ _).drew).mono ?_; rintro e y1 ⟨rfl, hz⟩; have hy1 : Below X3.heap.size X3 y1 := (Below.refl X3.heap.size X3).drew.trans hz; clear hz
            refine hK.out _ _ (by first | exact HQ.out _ (Below.refl _ _).drew | assumption | exact HQ.out _ (by assumption)) (fun hHeld => ?_)
            clear hK K
            try simp only [Act.put, List.setIfInBounds_toArray, List.set_cons_zero, List.set_cons_succ]
            refine wpAnyH_take (i := 9) (oi := { dst := some 110, op := .unOp .not 4 (.tmp 109), type := _, pos := _, after := _, guard := some (2, false) }) (v := ?_) rfl (by kernel_rfl) (by kernel_rfl) (by kernel_rfl) (fun _ _ _ h => h) (Or.inl ⟨by rfl, ?_⟩) (by assumption) ?_
            rotate_left
            · (intro w hSw; (try dsimp only at hSw); go_simp; try (with_reducible rfl))
            try simp only [Act.put, List.setIfInBounds_toArray, List.set_cons_zero, List.set_cons_succ]
            refine wpAnyH_take (i := 10) (oi := { dst := some 111, op := .pick (.tmp 103) (.const (.bool true)) (.tmp 110), type := _, pos := _, after := _, guard := none }) (v := ?_) rfl (by kernel_rfl) (by kernel_rfl) (by kernel_rfl) (fun _ _ _ h => h) (Or.inl ⟨by rfl, ?_⟩) (by assumption) ?_
            rotate_left
            · (intro w hSw; (try dsimp only at hSw); go_simp; try (with_reducible rfl))
            try simp only [Act.put, List.setIfInBounds_toArray, List.set_cons_zero, List.set_cons_succ]
            refine wpAnyH_done (by kernel_rfl) ?_ _

            replace H0 := (H0.call hy1).sub (m := [.base w, .row w1.heap.size 24 (bagC (.slice A q c) 0), .own (fun k => wr.heap.size ≤ k ∧ k < w2.heap.size) 29 (.slice A12 q12 c12) (ls.drop (m + 1)), .row w2.heap.size 24 (bagC (.slice A12 q12 c12) 0)]) (by simp)
            clear hy1 HQ KG HX
            have hz0 := (H0.rowAt 1 rfl).lt
            go_wp2_with (first
              | (with_reducible show wpList _ _ _ (Oper.mk _ (Op.load 24 (.tmp 12)) _ _ _ _ :: _) _ _
                 refine wpList_loadW (H0.rowAt 3 rfl) aggB rfl _ rfl rfl ?_)
              | (with_reducible show wpList _ _ _ (Oper.mk _ (Op.store 24 (.tmp 6) _) _ _ _ _ :: _) _ _
                 refine wpList_storeR (c := bagC (.slice A12 q12 c12) 0) rfl _ _ rfl rfl rfl aggB.hi (H0.rowAt 1 rfl) rfl (bag_one _ _ _ _) ?_
                 replace H0 := H0.setRow 1 rfl (bagC (.slice A12 q12 c12) 0) (by simp [aparts, F.row_fp, F.base_fp, F.own_fp, F.bytes_fp, -Nat.not_le, -Nat.not_lt] <;> omega)
                 simp only [List.set_cons_zero, List.set_cons_succ] at H0
                 refine Fs.gen H0 ?_
                 clear H0
                 rintro X4 H0))
            go_roundw
            case rel => exact ⟨m + 1, A12, q12, c12, by omega, by go_num, ((H0.sub (m := [.base w, .row w1.heap.size 24 (bagC (.slice A12 q12 c12) 0)]) (by simp)).snoc (.own (fun k => k ≠ w1.heap.size) 29 (.slice A12 q12 c12) (ls.drop (m + 1))) ((H0.ownAt 2 rfl).imp (fun k _ h => by have h1 := h.1; have h2 := h.2; show k ≠ _; omega)))⟩
            case measure => simp [intOf]; omega
          · obtain rfl : m = ls.length := by omega
            have hq : q = 0 := by
              have := (H0.ownAt 2 rfl).swG.qlen
              rw [List.length_drop] at this
              omega
            subst hq
            have c6 := (H0.rowAt 1 rfl).cell
            have HX := Lib.hid H0
            clear H0
            go_wp2_with fail
            refine (wakes_any _).mono ?_; rintro e z3 ⟨rfl, h3⟩
            have G3 := Lib.hid ((HX.out.call h3).baseAt 0 rfl)
            clear HX h3 c6
            go_wp2
            go_ret
            exact ⟨rfl, G3.out⟩

end Go.Proofs.Ytdoigpifkdkjpaa
