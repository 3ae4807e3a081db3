/- The document's own: one that is harmed. -/
import Derived.Test.YtdoigpifkdkjpaaBRTwice
set_option linter.unusedVariables false
set_option maxRecDepth 100000
set_option linter.unusedSimpArgs false
namespace Go.Proofs.Ytdoigpifkdkjpaa
open Go.RowKit Go.Shelf Ms

set_option maxHeartbeats 8000000 in
theorem rHarm_any (s : Value) (n : Int) (gs : List Gr) (i j : Int) (z : UInt8) (w : World) (hs : SwG w s gs) (hl : ∀ g ∈ gs, g.bytes.length ≤ 1000) (hn : gs.length ≤ 1000) :
    Calls Try.prog 21 #[.agg (bagC s n), .int .i64 i, .int .i64 j, .int .u8 (z.toNat : Int)] w fun e w' => ∃ A q c, e = .returned (.tuple #[.agg (bagC (.slice A q c) (harmT gs n i j z).2.1), .int .i64 (harmT gs n i j z).2.2]) ∧ MadeG w w' 29 (.slice A q c) (harmT gs n i j z).1 := by
  obtain ⟨A0, c0, rfl⟩ := hs.form
  obtain ⟨r1, r2, B0⟩ := two_boxes w (bagC (.slice A0 gs.length c0) n) (bagC nilB 0) 24 24
  have hsz : ((w.alloc (.cells (bagC (.slice A0 gs.length c0) n) 24)).alloc (.cells (bagC nilB 0) 24)).heap.size = w.heap.size + 1 + 1 := by simp
  have H0 := Lib.hid (And.intro r1 (And.intro r2 (And.intro B0 (And.intro hsz (hs.below B0)))))
  have HLE := Lib.hid hl
  have HN := Lib.hid hn
  clear r1 r2 B0 hs hsz hl hn
  obtain ⟨pk, hpk⟩ : ∃ pk, pick gs i = pk := ⟨_, rfl⟩
  go_enter Try.func21, Try.ntmps21
  go_wp2_with (first
    | (with_reducible show wpList _ _ _ (Oper.mk _ (Op.load 24 _) _ _ _ _ :: _) _ _
       refine wpList_loadW H0.out.1 aggB rfl _ rfl rfl ?_))
  refine (rOwn_any _ n gs _ H0.out.2.2.2.2 HLE.out HN.out).mono ?_; rintro e w2 ⟨A2, q2, c2, rfl, hm⟩
  obtain rfl : q2 = gs.length := by
    obtain ⟨_, _, hv2⟩ := hm.swG.form
    injection hv2
  have q1 := H0.out.1.below hm.below
  have q2 := H0.out.2.1.below hm.below
  have hb := H0.out.2.2.1.trans (hm.below.mono H0.out.2.2.1.size)
  have hz : w.heap.size + 1 + 1 ≤ w2.heap.size := by have := hm.below.size; have := H0.out.2.2.2.1; omega
  have hO : OwnP (fun k => w.heap.size + 1 + 1 ≤ k) w2 29 (.slice A2 gs.length c2) gs := hm.ownP.imp (fun k _ hk => by have := H0.out.2.2.2.1; omega)
  have HQ := Lib.hid (And.intro q1 (And.intro q2 (And.intro hb (And.intro hz hO))))
  clear q1 q2 hb hz hO H0 hm
  cases pk with
  | none =>
    have HRES := Lib.hid (show harmT gs n i j z = (gs, n, 2) by unfold harmT; rw [hpk])
    by_cases hneg : i < 0
    · have d1 : decide (i < 0) = true := decide_eq_true hneg
      clear hneg hpk
      go_wp2_with (first
        | (with_reducible show wpList _ _ _ (Oper.mk _ (Op.store 24 (.tmp 4) _) _ _ _ _ :: _) _ _
           refine wpList_storeR (c := bagC (.slice A2 gs.length c2) n) rfl _ _ rfl rfl rfl aggB.hi HQ.out.1 rfl (bag_one _ _ _ _) ?_
           refine gen_w (fun X => Rw X w.heap.size 24 (bagC (.slice A2 gs.length c2) n) ∧ Rw X (w.heap.size + 1) 24 (bagC nilB 0) ∧ Below w.heap.size w X ∧ w.heap.size + 1 + 1 ≤ X.heap.size ∧ OwnP (fun k => w.heap.size + 1 + 1 ≤ k) X 29 (.slice A2 gs.length c2) gs)
             ⟨HQ.out.1.setRow, HQ.out.2.1.setRow_other (by omega), below_setRow HQ.out.2.2.1 (Nat.le_refl _) _, by have := HQ.out.2.2.2.1; simp [World.setRow]; omega, HQ.out.2.2.2.2.setRow (by omega) _⟩ ?_
           clear HQ
           rintro X ⟨r1, r2, B0, hsz, hO⟩
           have c1 := r1.cell
           have HX := Lib.hid (And.intro r1 (And.intro r2 (And.intro B0 (And.intro hsz hO))))
           clear r1 r2 B0 hO)
        | (with_reducible show wpList _ _ _ (Oper.mk _ (Op.load 24 (.tmp 4)) _ _ _ _ :: _) _ _
           refine wpList_loadW HX.out.1 aggB rfl _ rfl rfl ?_)
        | (with_reducible show wpList _ _ _ (Oper.mk _ (Op.store 24 (.tmp 8) _) _ _ _ _ :: _) _ _
           refine wpList_storeR (c := bagC (.slice A2 gs.length c2) n) rfl _ _ rfl rfl rfl aggB.hi HX.out.2.1 rfl (bag_one _ _ _ _) ?_))
      obtain ⟨r1, r2, B0, hsz, hO⟩ := HX.out
      exact bodyPost_ret (results_cr rfl rfl rfl (r2.setRow (c' := bagC (.slice A2 gs.length c2) n)) aggB) rfl (by rw [HRES.out]; exact ⟨A2, _, c2, rfl, (hO.setRow (by omega) _).made (fun k hk => by omega) (below_setRow B0 (by omega) _)⟩)
    · have d1 : decide (i < 0) = false := decide_eq_false hneg
      have d2 : decide (i ≥ (gs.length : Int)) = true := decide_eq_true ((pick_none hpk).resolve_left hneg)
      clear hneg hpk
      go_wp2_with (first
        | (with_reducible show wpList _ _ _ (Oper.mk _ (Op.store 24 (.tmp 4) _) _ _ _ _ :: _) _ _
           refine wpList_storeR (c := bagC (.slice A2 gs.length c2) n) rfl _ _ rfl rfl rfl aggB.hi HQ.out.1 rfl (bag_one _ _ _ _) ?_
           refine gen_w (fun X => Rw X w.heap.size 24 (bagC (.slice A2 gs.length c2) n) ∧ Rw X (w.heap.size + 1) 24 (bagC nilB 0) ∧ Below w.heap.size w X ∧ w.heap.size + 1 + 1 ≤ X.heap.size ∧ OwnP (fun k => w.heap.size + 1 + 1 ≤ k) X 29 (.slice A2 gs.length c2) gs)
             ⟨HQ.out.1.setRow, HQ.out.2.1.setRow_other (by omega), below_setRow HQ.out.2.2.1 (Nat.le_refl _) _, by have := HQ.out.2.2.2.1; simp [World.setRow]; omega, HQ.out.2.2.2.2.setRow (by omega) _⟩ ?_
           clear HQ
           rintro X ⟨r1, r2, B0, hsz, hO⟩
           have c1 := r1.cell
           have HX := Lib.hid (And.intro r1 (And.intro r2 (And.intro B0 (And.intro hsz hO))))
           clear r1 r2 B0 hO)
        | (with_reducible show wpList _ _ _ (Oper.mk _ (Op.load 24 (.tmp 4)) _ _ _ _ :: _) _ _
           refine wpList_loadW HX.out.1 aggB rfl _ rfl rfl ?_)
        | (with_reducible show wpList _ _ _ (Oper.mk _ (Op.store 24 (.tmp 8) _) _ _ _ _ :: _) _ _
           refine wpList_storeR (c := bagC (.slice A2 gs.length c2) n) rfl _ _ rfl rfl rfl aggB.hi HX.out.2.1 rfl (bag_one _ _ _ _) ?_))
      obtain ⟨r1, r2, B0, hsz, hO⟩ := HX.out
      exact bodyPost_ret (results_cr rfl rfl rfl (r2.setRow (c' := bagC (.slice A2 gs.length c2) n)) aggB) rfl (by rw [HRES.out]; exact ⟨A2, _, c2, rfl, (hO.setRow (by omega) _).made (fun k hk => by omega) (below_setRow B0 (by omega) _)⟩)
  | some k =>
    obtain ⟨rfl, hk⟩ := pick_some hpk
    have hres : harmT gs n (k : Int) j z = if mayHarm gs[k] j z = true then (harmS gs k j.toNat z, n, 0) else (gs, n, 2) := by
      unfold harmT
      rw [hpk]
      dsimp only
      rw [getD_at hk]
    clear hpk
    have d1 : decide ((k : Int) < 0) = false := decide_eq_false (by omega)
    have d2 : decide ((k : Int) ≥ (gs.length : Int)) = false := decide_eq_false (by omega)
    have d3 : decide (gs.length ≤ k) = false := decide_eq_false (by omega)
    have ik2 : (k : Int) < (gs.length : Int) := by omega
    have ik : (0 : Int) ≤ (k : Int) := by omega
    have hzz := z.toNat_lt
    obtain ⟨m, hm⟩ : ∃ m, mayHarm gs[k] j z = m := ⟨_, rfl⟩
    rw [hm] at hres
    by_cases h3 : j < 0
    · have e3 : decide (j < 0) = true := decide_eq_true h3
      obtain rfl : m = false := by
        rw [← hm]
        have : decide (0 ≤ j) = false := decide_eq_false (by omega)
        simp [mayHarm, this]
      rw [if_neg (by decide)] at hres
      have HRES := Lib.hid hres
      clear hres
      clear hm h3
      go_wp2_with (first
        | (with_reducible show wpList _ _ _ (Oper.mk _ (Op.store 24 (.tmp 4) _) _ _ _ _ :: _) _ _
           refine wpList_storeR (c := bagC (.slice A2 gs.length c2) n) rfl _ _ rfl rfl rfl aggB.hi HQ.out.1 rfl (bag_one _ _ _ _) ?_
           refine gen_w (fun X => Rw X w.heap.size 24 (bagC (.slice A2 gs.length c2) n) ∧ Rw X (w.heap.size + 1) 24 (bagC nilB 0) ∧ Below w.heap.size w X ∧ w.heap.size + 1 + 1 ≤ X.heap.size ∧ OwnP (fun k => w.heap.size + 1 + 1 ≤ k) X 29 (.slice A2 gs.length c2) gs)
             ⟨HQ.out.1.setRow, HQ.out.2.1.setRow_other (by omega), below_setRow HQ.out.2.2.1 (Nat.le_refl _) _, by have := HQ.out.2.2.2.1; simp [World.setRow]; omega, HQ.out.2.2.2.2.setRow (by omega) _⟩ ?_
           clear HQ
           rintro X ⟨r1, r2, B0, hsz, hO⟩
           have c1 := r1.cell
           obtain ⟨ps, hgs, hQ⟩ := hO.ownQ
           have hk' : k < ps.length := by rw [← hgs, List.length_map] at hk; exact hk
           have hg : gs[k] = ps[k].1 := by simp [← hgs]
           obtain ⟨b, rfl, hpb, hblt, -, x1, x2, x3, hfz⟩ := hQ.at_ k hk'
           obtain ⟨A1, q1, hu⟩ := (Sw.of_sl (Sl.of_own (hQ.nest.own _ (List.getElem_mem hk')))).form
           rw [bv_length] at hu
           have hgl := (Sw.of_sl (Sl.of_own (hQ.nest.own _ (List.getElem_mem hk')))).len
           rw [bv_length] at hgl
           rw [hu] at x2
           rw [← hg] at x1 x2 x3 hgl
           have HX := Lib.hid (And.intro r1 (And.intro r2 (And.intro B0 (And.intro hsz hO))))
           clear hu hg hgs hQ r1 r2 B0 hO hfz)
        | (with_reducible show wpList _ _ _ (Oper.mk _ (Op.load 24 (.tmp 4)) _ _ _ _ :: _) _ _
           refine wpList_loadW HX.out.1 aggB rfl _ rfl rfl ?_)
        | (with_reducible show wpList _ _ _ (Oper.mk _ (Op.store 24 (.tmp 8) _) _ _ _ _ :: _) _ _
           refine wpList_storeR (c := bagC (.slice (some ⟨b, 0, none⟩) gs.length c2) n) rfl _ _ rfl rfl rfl aggB.hi HX.out.2.1 rfl (bag_one _ _ _ _) ?_))
      obtain ⟨r1, r2, B0, hsz, hO⟩ := HX.out
      exact bodyPost_ret (results_cr rfl rfl rfl (r2.setRow (c' := bagC (.slice (some ⟨b, 0, none⟩) gs.length c2) n)) aggB) rfl (by rw [HRES.out]; exact ⟨(some ⟨b, 0, none⟩), _, c2, rfl, (hO.setRow (by omega) _).made (fun k hk => by omega) (below_setRow B0 (by omega) _)⟩)
    · have e3 : decide (j < 0) = false := decide_eq_false h3
      by_cases h4 : (gs[k].bytes.length : Int) ≤ j
      · have e4 : decide (j ≥ (gs[k].bytes.length : Int)) = true := decide_eq_true h4
        obtain rfl : m = false := by
          rw [← hm]
          have : decide (j < (gs[k].bytes.length : Int)) = false := decide_eq_false (by omega)
          simp [mayHarm, this]
        rw [if_neg (by decide)] at hres
        have HRES := Lib.hid hres
        clear hres
        clear hm h3 h4
        go_wp2_with (first
          | (with_reducible show wpList _ _ _ (Oper.mk _ (Op.store 24 (.tmp 4) _) _ _ _ _ :: _) _ _
             refine wpList_storeR (c := bagC (.slice A2 gs.length c2) n) rfl _ _ rfl rfl rfl aggB.hi HQ.out.1 rfl (bag_one _ _ _ _) ?_
             refine gen_w (fun X => Rw X w.heap.size 24 (bagC (.slice A2 gs.length c2) n) ∧ Rw X (w.heap.size + 1) 24 (bagC nilB 0) ∧ Below w.heap.size w X ∧ w.heap.size + 1 + 1 ≤ X.heap.size ∧ OwnP (fun k => w.heap.size + 1 + 1 ≤ k) X 29 (.slice A2 gs.length c2) gs)
               ⟨HQ.out.1.setRow, HQ.out.2.1.setRow_other (by omega), below_setRow HQ.out.2.2.1 (Nat.le_refl _) _, by have := HQ.out.2.2.2.1; simp [World.setRow]; omega, HQ.out.2.2.2.2.setRow (by omega) _⟩ ?_
             clear HQ
             rintro X ⟨r1, r2, B0, hsz, hO⟩
             have c1 := r1.cell
             obtain ⟨ps, hgs, hQ⟩ := hO.ownQ
             have hk' : k < ps.length := by rw [← hgs, List.length_map] at hk; exact hk
             have hg : gs[k] = ps[k].1 := by simp [← hgs]
             obtain ⟨b, rfl, hpb, hblt, -, x1, x2, x3, hfz⟩ := hQ.at_ k hk'
             obtain ⟨A1, q1, hu⟩ := (Sw.of_sl (Sl.of_own (hQ.nest.own _ (List.getElem_mem hk')))).form
             rw [bv_length] at hu
             have hgl := (Sw.of_sl (Sl.of_own (hQ.nest.own _ (List.getElem_mem hk')))).len
             rw [bv_length] at hgl
             rw [hu] at x2
             rw [← hg] at x1 x2 x3 hgl
             have HX := Lib.hid (And.intro r1 (And.intro r2 (And.intro B0 (And.intro hsz hO))))
             clear hu hg hgs hQ r1 r2 B0 hO hfz)
          | (with_reducible show wpList _ _ _ (Oper.mk _ (Op.load 24 (.tmp 4)) _ _ _ _ :: _) _ _
             refine wpList_loadW HX.out.1 aggB rfl _ rfl rfl ?_)
          | (with_reducible show wpList _ _ _ (Oper.mk _ (Op.store 24 (.tmp 8) _) _ _ _ _ :: _) _ _
             refine wpList_storeR (c := bagC (.slice (some ⟨b, 0, none⟩) gs.length c2) n) rfl _ _ rfl rfl rfl aggB.hi HX.out.2.1 rfl (bag_one _ _ _ _) ?_))
        obtain ⟨r1, r2, B0, hsz, hO⟩ := HX.out
        exact bodyPost_ret (results_cr rfl rfl rfl (r2.setRow (c' := bagC (.slice (some ⟨b, 0, none⟩) gs.length c2) n)) aggB) rfl (by rw [HRES.out]; exact ⟨(some ⟨b, 0, none⟩), _, c2, rfl, (hO.setRow (by omega) _).made (fun k hk => by omega) (below_setRow B0 (by omega) _)⟩)
      · have e4 : decide (j ≥ (gs[k].bytes.length : Int)) = false := decide_eq_false h4
        by_cases hharm : gs[k].harm = true
        · obtain rfl : m = false := by
            rw [← hm]
            simp [mayHarm, hharm]
          rw [if_neg (by decide)] at hres
          have HRES := Lib.hid hres
          clear hres
          clear hm h3
          have hj0 : (0 : Int) ≤ j := by have := of_decide_eq_false e3; omega
          go_wp2_with (first
            | (with_reducible show wpList _ _ _ (Oper.mk _ (Op.store 24 (.tmp 4) _) _ _ _ _ :: _) _ _
               refine wpList_storeR (c := bagC (.slice A2 gs.length c2) n) rfl _ _ rfl rfl rfl aggB.hi HQ.out.1 rfl (bag_one _ _ _ _) ?_
               refine gen_w (fun X => Rw X w.heap.size 24 (bagC (.slice A2 gs.length c2) n) ∧ Rw X (w.heap.size + 1) 24 (bagC nilB 0) ∧ Below w.heap.size w X ∧ w.heap.size + 1 + 1 ≤ X.heap.size ∧ OwnP (fun k => w.heap.size + 1 + 1 ≤ k) X 29 (.slice A2 gs.length c2) gs)
                 ⟨HQ.out.1.setRow, HQ.out.2.1.setRow_other (by omega), below_setRow HQ.out.2.2.1 (Nat.le_refl _) _, by have := HQ.out.2.2.2.1; simp [World.setRow]; omega, HQ.out.2.2.2.2.setRow (by omega) _⟩ ?_
               clear HQ
               rintro X ⟨r1, r2, B0, hsz, hO⟩
               have c1 := r1.cell
               obtain ⟨ps, hgs, hQ⟩ := hO.ownQ
               have hk' : k < ps.length := by rw [← hgs, List.length_map] at hk; exact hk
               have hg : gs[k] = ps[k].1 := by simp [← hgs]
               obtain ⟨b, rfl, hpb, hblt, -, x1, x2, x3, hfz⟩ := hQ.at_ k hk'
               obtain ⟨A1, q1, hu⟩ := (Sw.of_sl (Sl.of_own (hQ.nest.own _ (List.getElem_mem hk')))).form
               rw [bv_length] at hu
               have hgl := (Sw.of_sl (Sl.of_own (hQ.nest.own _ (List.getElem_mem hk')))).len
               rw [bv_length] at hgl
               rw [hu] at x2
               rw [← hg] at x1 x2 x3 hgl
               rw [hharm] at x3
               have HX := Lib.hid (And.intro r1 (And.intro r2 (And.intro B0 (And.intro hsz hO))))
               clear hu hg hgs hQ r1 r2 B0 hO hfz)
            | (with_reducible show wpList _ _ _ (Oper.mk _ (Op.load 24 (.tmp 4)) _ _ _ _ :: _) _ _
               refine wpList_loadW HX.out.1 aggB rfl _ rfl rfl ?_)
            | (with_reducible show wpList _ _ _ (Oper.mk _ (Op.store 24 (.tmp 8) _) _ _ _ _ :: _) _ _
               refine wpList_storeR (c := bagC (.slice (some ⟨b, 0, none⟩) gs.length c2) n) rfl _ _ rfl rfl rfl aggB.hi HX.out.2.1 rfl (bag_one _ _ _ _) ?_))
          obtain ⟨r1, r2, B0, hsz, hO⟩ := HX.out
          exact bodyPost_ret (results_cr rfl rfl rfl (r2.setRow (c' := bagC (.slice (some ⟨b, 0, none⟩) gs.length c2) n)) aggB) rfl (by rw [HRES.out]; exact ⟨(some ⟨b, 0, none⟩), _, c2, rfl, (hO.setRow (by omega) _).made (fun k hk => by omega) (below_setRow B0 (by omega) _)⟩)
        · have hharm : gs[k].harm = false := by simpa using hharm
          have hj0 : (0 : Int) ≤ j := by omega
          by_cases h5 : (z.toNat : Int) = 0
          · have e5 : ((z.toNat : Int) == 0) = true := by simpa using h5
            obtain rfl : m = false := by
              rw [← hm]
              have : z = 0 := UInt8.toNat_inj.1 (by simpa using h5)
              simp [mayHarm, this]
            rw [if_neg (by decide)] at hres
            have HRES := Lib.hid hres
            clear hres
            clear hm h3 h5
            go_wp2_with (first
              | (with_reducible show wpList _ _ _ (Oper.mk _ (Op.store 24 (.tmp 4) _) _ _ _ _ :: _) _ _
                 refine wpList_storeR (c := bagC (.slice A2 gs.length c2) n) rfl _ _ rfl rfl rfl aggB.hi HQ.out.1 rfl (bag_one _ _ _ _) ?_
                 refine gen_w (fun X => Rw X w.heap.size 24 (bagC (.slice A2 gs.length c2) n) ∧ Rw X (w.heap.size + 1) 24 (bagC nilB 0) ∧ Below w.heap.size w X ∧ w.heap.size + 1 + 1 ≤ X.heap.size ∧ OwnP (fun k => w.heap.size + 1 + 1 ≤ k) X 29 (.slice A2 gs.length c2) gs)
                   ⟨HQ.out.1.setRow, HQ.out.2.1.setRow_other (by omega), below_setRow HQ.out.2.2.1 (Nat.le_refl _) _, by have := HQ.out.2.2.2.1; simp [World.setRow]; omega, HQ.out.2.2.2.2.setRow (by omega) _⟩ ?_
                 clear HQ
                 rintro X ⟨r1, r2, B0, hsz, hO⟩
                 have c1 := r1.cell
                 obtain ⟨ps, hgs, hQ⟩ := hO.ownQ
                 have hk' : k < ps.length := by rw [← hgs, List.length_map] at hk; exact hk
                 have hg : gs[k] = ps[k].1 := by simp [← hgs]
                 obtain ⟨b, rfl, hpb, hblt, -, x1, x2, x3, hfz⟩ := hQ.at_ k hk'
                 obtain ⟨A1, q1, hu⟩ := (Sw.of_sl (Sl.of_own (hQ.nest.own _ (List.getElem_mem hk')))).form
                 rw [bv_length] at hu
                 have hgl := (Sw.of_sl (Sl.of_own (hQ.nest.own _ (List.getElem_mem hk')))).len
                 rw [bv_length] at hgl
                 rw [hu] at x2
                 rw [← hg] at x1 x2 x3 hgl
                 rw [hharm] at x3
                 have HX := Lib.hid (And.intro r1 (And.intro r2 (And.intro B0 (And.intro hsz hO))))
                 clear hu hg hgs hQ r1 r2 B0 hO hfz)
              | (with_reducible show wpList _ _ _ (Oper.mk _ (Op.load 24 (.tmp 4)) _ _ _ _ :: _) _ _
                 refine wpList_loadW HX.out.1 aggB rfl _ rfl rfl ?_)
              | (with_reducible show wpList _ _ _ (Oper.mk _ (Op.store 24 (.tmp 8) _) _ _ _ _ :: _) _ _
                 refine wpList_storeR (c := bagC (.slice (some ⟨b, 0, none⟩) gs.length c2) n) rfl _ _ rfl rfl rfl aggB.hi HX.out.2.1 rfl (bag_one _ _ _ _) ?_))
            obtain ⟨r1, r2, B0, hsz, hO⟩ := HX.out
            exact bodyPost_ret (results_cr rfl rfl rfl (r2.setRow (c' := bagC (.slice (some ⟨b, 0, none⟩) gs.length c2) n)) aggB) rfl (by rw [HRES.out]; exact ⟨(some ⟨b, 0, none⟩), _, c2, rfl, (hO.setRow (by omega) _).made (fun k hk => by omega) (below_setRow B0 (by omega) _)⟩)
          · have e5 : ((z.toNat : Int) == 0) = false := by simpa using h5
            obtain rfl : m = true := by
              rw [← hm]
              have h0 : (z == 0) = false := by
                rw [beq_eq_false_iff_ne]
                rintro rfl
                exact h5 rfl
              have h1 : decide (0 ≤ j) = true := decide_eq_true (by omega)
              have h2 : decide (j < (gs[k].bytes.length : Int)) = true := decide_eq_true (by omega)
              simp only [mayHarm, hharm, h0, h1, h2]
              rfl
            rw [if_pos rfl] at hres
            have HRES := Lib.hid hres
            clear hres
            obtain ⟨jn, rfl⟩ := Int.eq_ofNat_of_zero_le hj0
            have hjl : jn < gs[k].bytes.length := by omega
            have e6 : decide (gs[k].bytes.length ≤ jn) = false := decide_eq_false (by omega)
            clear hm h3 h5
            go_wp2_with (first
              | (with_reducible show wpList _ _ _ (Oper.mk _ (Op.store 24 (.tmp 4) _) _ _ _ _ :: _) _ _
                 refine wpList_storeR (c := bagC (.slice A2 gs.length c2) n) rfl _ _ rfl rfl rfl aggB.hi HQ.out.1 rfl (bag_one _ _ _ _) ?_
                 refine gen_w (fun X => Rw X w.heap.size 24 (bagC (.slice A2 gs.length c2) n) ∧ Rw X (w.heap.size + 1) 24 (bagC nilB 0) ∧ Below w.heap.size w X ∧ w.heap.size + 1 + 1 ≤ X.heap.size ∧ OwnP (fun k => w.heap.size + 1 + 1 ≤ k) X 29 (.slice A2 gs.length c2) gs)
                   ⟨HQ.out.1.setRow, HQ.out.2.1.setRow_other (by omega), below_setRow HQ.out.2.2.1 (Nat.le_refl _) _, by have := HQ.out.2.2.2.1; simp [World.setRow]; omega, HQ.out.2.2.2.2.setRow (by omega) _⟩ ?_
                 clear HQ
                 rintro X ⟨r1, r2, B0, hsz, hO⟩
                 have c1 := r1.cell
                 obtain ⟨ps, hgs, hQ⟩ := hO.ownQ
                 have hk' : k < ps.length := by rw [← hgs, List.length_map] at hk; exact hk
                 have hg : gs[k] = ps[k].1 := by simp [← hgs]
                 have hi : jn < ps[k].1.bytes.length := by rw [← hg]; exact hjl
                 obtain ⟨b, rfl, hpb, hblt, -, x1, x2, x3, hfz⟩ := hQ.at_ k hk'
                 obtain ⟨ub, cap, hu, xb, fb, hpu, hult⟩ := hQ.bytes_ k hk' jn hi
                 rw [hu] at x2
                 have hgl := (Sw.of_sl (Sl.of_own (hQ.nest.own _ (List.getElem_mem hk')))).len
                 rw [bv_length] at hgl
                 have hh : harmS gs k jn z = (ps.set k (⟨ps[k].1.to, ps[k].1.bytes.set jn (ps[k].1.bytes[jn] ^^^ z), true⟩, ps[k].2)).map (·.1) := by
                   unfold harmS
                   rw [← hgs]
                   simp [hk', hi, List.map_set]
                 have hxor := xor_nat ps[k].1.bytes[jn] z
                 have f4' : decide ((jn : Int) ≥ (ps[k].1.bytes.length : Int)) = false := decide_eq_false (by omega)
                 have f6' : decide (ps[k].1.bytes.length ≤ jn) = false := decide_eq_false (by omega)
                 have hjL : (jn : Int) < (ps[k].1.bytes.length : Int) := by omega
                 have hharm' : ps[k].1.harm = false := by rw [← hg]; exact hharm
                 rw [hharm'] at x3
                 have HX := Lib.hid (And.intro r1 (And.intro r2 (And.intro B0 (And.intro hsz (And.intro hQ (And.intro hu hh))))))
                 have HPP := Lib.hid (And.intro hpb hpu)
                 have HB := Lib.hid xb
                 have HFB := Lib.hid fb
                 clear hg hgs hQ r1 r2 B0 hO hfz hu hh hpb hpu))
            have hxb := HB.out
            have hfb := HFB.out
            generalize hzr : (ps[k].1.bytes[jn] ^^^ z) = zr at *
            have HZR := Lib.hid hzr
            clear hzr
            go_still_tail 19, (by kernel_rfl)
            change wpList _ _ _ _ _ X.drew
            obtain ⟨r1, r2, B0, hsz, hQ, hu, hh⟩ := HX.out
            have hy : Below X.heap.size X X.drew := (Below.refl X.heap.size X).drew
            have q1 : OwnQ (fun k => w.heap.size + 1 + 1 ≤ k) ((X.setCell ⟨ub, jn, none⟩ (.int .u8 (zr.toNat : Int))).drew) 29 (.slice (some ⟨b, 0, none⟩) gs.length c2) (ps.set k (⟨ps[k].1.to, ps[k].1.bytes.set jn zr, ps[k].1.harm⟩, ps[k].2)) := (hQ.below hy).byte k hk' jn hi hu zr
            have q2 := q1.harm_ hk' true
            obtain ⟨b2, hb2, -, -, -, -, -, f2, f3⟩ := q1.at_ k (by rw [List.length_set]; exact hk')
            injection hb2 with hb2
            injection hb2 with hb2
            subst hb2
            have f4 := f3 (k * 3 + 2)
            have hpp := HPP.out
            have hBb : b ≠ w.heap.size := by omega
            have hBu : ub ≠ w.heap.size := by omega
            have hBb2 : b ≠ w.heap.size + 1 := by omega
            have hBu2 : ub ≠ w.heap.size + 1 := by omega
            have zi := (show Rw ((X.setCell ⟨ub, jn, none⟩ (.int .u8 (zr.toNat : Int))).drew) w.heap.size 24 _ from (r1.below hy).set_other (fun e => hBu e.symm) jn (.int .u8 (zr.toNat : Int))).cell
            have z1 := (show Rw ((X.setCell ⟨ub, jn, none⟩ (.int .u8 (zr.toNat : Int))).drew) w.heap.size 24 _ from (r1.below hy).set_other (fun e => hBu e.symm) jn (.int .u8 (zr.toNat : Int))).set_other (fun e => hBb e.symm) (k * 3 + 2) (.bool true)
            have z2 := (show Rw ((X.setCell ⟨ub, jn, none⟩ (.int .u8 (zr.toNat : Int))).drew) (w.heap.size + 1) 24 _ from (r2.below hy).set_other (fun e => hBu2 e.symm) jn (.int .u8 (zr.toNat : Int))).set_other (fun e => hBb2 e.symm) (k * 3 + 2) (.bool true)
            have z3 := Below.setCell (p := ⟨b, k * 3 + 2, none⟩) (show Below w.heap.size w ((X.setCell ⟨ub, jn, none⟩ (.int .u8 (zr.toNat : Int))).drew) from (B0.setCell (p := ⟨ub, jn, none⟩) (by show w.heap.size ≤ ub; omega) _).drew) (by show w.heap.size ≤ b; omega) (.bool true)
            have HZ := Lib.hid (And.intro z1 (And.intro z2 (And.intro z3 q2)))
            have HH := Lib.hid hh
            have c1X := r1.cell
            clear q1 q2 z1 z2 z3 f3 hu hQ hh r1 r2 B0 hpp hBb hBu hBb2 hBu2
            go_wp2_with (first
              | (with_reducible show wpList _ _ _ (Oper.mk _ (Op.load 24 (.tmp 4)) _ _ _ _ :: _) _ _
                 refine wpList_loadW HZ.out.1 aggB rfl _ rfl rfl ?_)
              | (with_reducible show wpList _ _ _ (Oper.mk _ (Op.store 24 (.tmp 8) _) _ _ _ _ :: _) _ _
                 refine wpList_storeR (c := bagC (.slice (some ⟨b, 0, none⟩) gs.length c2) n) rfl _ _ rfl rfl rfl aggB.hi HZ.out.2.1 rfl (bag_one _ _ _ _) ?_))
            obtain ⟨z1, z2, z3, q2⟩ := HZ.out
            refine bodyPost_ret (results_cr rfl rfl rfl (z2.setRow (c' := bagC (.slice (some ⟨b, 0, none⟩) gs.length c2) n)) aggB) rfl ?_
            rw [HRES.out]
            have hN : Int.toNat (jn : Int) = jn := rfl
            rw [hN, HH.out]
            exact ⟨some ⟨b, 0, none⟩, _, c2, rfl, (q2.ownP.setRow (by omega) _).made (fun k hk => by omega) (below_setRow z3 (by omega) _)⟩
end Go.Proofs.Ytdoigpifkdkjpaa
