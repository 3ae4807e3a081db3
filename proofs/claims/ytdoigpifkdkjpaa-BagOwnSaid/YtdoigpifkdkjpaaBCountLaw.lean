/- 'BagCounts': the walk of the law. -/
import Derived.Test.YtdoigpifkdkjpaaBCountMath
import Derived.Test.YtdoigpifkdkjpaaBHarmed
import Derived.Test.YtdoigpifkdkjpaaBFirstLaw
import Derived.Deep.CutBlock
set_option linter.unusedVariables false
set_option maxRecDepth 100000
set_option linter.unusedSimpArgs false
namespace Go.Proofs.Ytdoigpifkdkjpaa
open Go.RowKit Go.Shelf Ms

def noD : Dd := ⟨0, 0, 0, 0, noG⟩
theorem dd_one (d : Dd) (A : Option Addr) (k q : Nat) : (d.c (.slice A k q)).all (·.oneCell') = true := by simp [Dd.c, Value.oneCell']
theorem Dd.set6 (d : Dd) (u : Value) : (d.c u).setIfInBounds 6 (.bool false) = (Dd.mk d.what d.pos d.i d.z ⟨d.g.to, d.g.bytes, false⟩).c u := rfl
theorem dd_gram (d : Dd) (u : Value) : ∀ (j : Nat) (v : Value), (d.g.c u)[j]? = some v → (d.c u)[4 + j]? = some v := by
  intro j v h
  match j, h with
  | 0, h => exact h
  | 1, h => exact h
  | 2, h => exact h
  | j + 3, h => simp [Gr.c] at h
set_option maxHeartbeats 40000000 in
theorem counts_ok (v : Value) (ds : List Dd) (w : World) (hv : SwR elD w v ds) (hn : ds.length ≤ 60) :
    Calls Try.prog 4 #[v] w fun e w' => e = .returned (.bool true) ∧ Below w.heap.size w w' := by
  obtain ⟨Av, cv, rfl⟩ := hv.form
  have HV := Lib.hid hv
  have HN := Lib.hid hn
  have e4 : decide ((ds.length : Int) > 60) = false := decide_eq_false (by omega)
  have e5 : decide (60 < (ds.length : Int)) = false := decide_eq_false (by omega)
  have H0 := (((Fs.nil w).snoc (.base w) (Below.refl _ _)).alloc (.cells (bagC nilB 0) 24)).snoc (.row w.heap.size _ _) (Rw.new w (bagC nilB 0) 24)
  replace H0 := H0.snoc (.own (fun k => k ≠ w.heap.size) 29 nilB []) (OwnP.nil_ _ _ _)
  simp only [List.nil_append, List.cons_append] at H0
  clear hv hn
  go_enter Try.func4, Try.ntmps4
  go_wp2_with fail
  go_loopw [4, 5, 6] (fun s t i W => ∃ (m : Nat) (sent taken n : Int) (gs : List Gr) (A : Option Addr) (q c : Nat), m ≤ ds.length ∧ s = .int .i64 sent ∧ t = .int .i64 taken ∧ i = .int .i64 (m : Int) ∧ InvB m sent taken n gs ∧ Fs [.base w, .row w.heap.size 24 (bagC (.slice A q c) n), .own (fun k => k ≠ w.heap.size) 29 (.slice A q c) gs] W) (fun _ _ i _ => ds.length - (intOf i).toNat)
  case atStart => exact ⟨0, 0, 0, 0, [], none, 0, 0, Nat.zero_le _, rfl, rfl, rfl, ⟨rfl, by omega, by omega, by omega, by simp, by simp⟩, H0⟩
  case round =>
    clear H0
    obtain ⟨m, sent, taken, n, gs, A, q, c, hm, rfl, rfl, rfl, hI, H0⟩ := hrel
    have hnn := HN.out
    by_cases hml : m < ds.length
    · obtain ⟨b1, o1, rfl, hb1, cs, ⟨u, rfl, s1⟩, hcs⟩ := (HV.out.below (H0.baseAt 0 rfl)).at_ m hml
      obtain ⟨Au, cu, rfl⟩ := s1.form
      rw [bv_length] at s1 hcs
      have HI := Lib.hid hI
      have HU := Lib.hid s1
      generalize ds[m] = d at *
      have LD := Lib.hid (run_loadD hcs)
      have hq := (H0.ownAt 2 rfl).swG.qlen
      subst hq
      have ik : (0 : Int) ≤ (m : Int) := by omega
      have ik2 : (m : Int) < (ds.length : Int) := by omega
      have hx0 := (H0.rowAt 1 rfl).lt
      replace H0 := ((H0.sub (m := [.base w, .row w.heap.size 24 (bagC (.slice A gs.length c) n)]) (by simp)).snoc (.own (fun k => k ≠ w.heap.size ∧ k < wr.heap.size) 29 (.slice A gs.length c) gs) ((H0.ownAt 2 rfl).imp fun k h1 h2 => ⟨h2, h1⟩)).alloc (.cells (noD.c nilB) 45) |>.snoc (.row wr.heap.size _ _) (Rw.new wr (noD.c nilB) 45) |>.snoc (.base wr) (box_below wr _)
      simp only [List.nil_append, List.cons_append] at H0
      clear hcs s1 hI hb1
      by_cases hlen : 300 < d.g.bytes.length
      · have d3 : decide (300 < (d.g.bytes.length : Int)) = true := decide_eq_true (by omega)
        have d4 : decide ((d.g.bytes.length : Int) > 300) = true := decide_eq_true (by omega)
        clear hlen
        go_wp2_with (first
          | (with_reducible show wpList _ _ _ (Oper.mk _ (Op.load 45 _) _ _ _ _ :: _) _ _
             refine wpList_loadR rfl _ rfl rfl LD.out ?_)
          | (with_reducible show wpList _ _ _ (Oper.mk _ (Op.store 45 (.tmp 7) _) _ _ _ _ :: _) _ _
             refine wpList_storeR (c := d.c (.slice Au d.g.bytes.length cu)) rfl _ _ rfl rfl rfl aggD.hi (H0.rowAt 3 rfl) rfl (dd_one _ _ _ _) ?_
             replace H0 := H0.setRow 3 rfl (d.c (.slice Au d.g.bytes.length cu)) (by simp [aparts, F.row_fp, F.base_fp, F.own_fp, F.bytes_fp, -Nat.not_le, -Nat.not_lt] <;> omega)
             simp only [List.set_cons_zero, List.set_cons_succ] at H0
             refine Fs.gen H0 ?_
             clear H0
             rintro X1 H0
             have c7 := (H0.rowAt 3 rfl).cell))
        refine (wakes_any _).mono ?_; rintro e z3 ⟨rfl, h3⟩
        have G3 := Lib.hid ((H0.call h3).baseAt 0 rfl)
        clear H0 h3 c7
        go_wp2
        go_ret
        exact ⟨rfl, G3.out⟩
      have d3 : decide (300 < (d.g.bytes.length : Int)) = false := decide_eq_false (by omega)
      have d4 : decide ((d.g.bytes.length : Int) > 300) = false := decide_eq_false (by omega)
      go_upto_region 12 with (first
        | (with_reducible show wpList _ _ _ (Oper.mk _ (Op.load 45 _) _ _ _ _ :: _) _ _
           refine wpList_loadR rfl _ rfl rfl LD.out ?_)
        | (with_reducible show wpList _ _ _ (Oper.mk _ (Op.store 45 (.tmp 7) _) _ _ _ _ :: _) _ _
           refine wpList_storeR (c := d.c (.slice Au d.g.bytes.length cu)) rfl _ _ rfl rfl rfl aggD.hi (H0.rowAt 3 rfl) rfl (dd_one _ _ _ _) ?_
           replace H0 := H0.setRow 3 rfl (d.c (.slice Au d.g.bytes.length cu)) (by simp [aparts, F.row_fp, F.base_fp, F.own_fp, F.bytes_fp, -Nat.not_le, -Nat.not_lt] <;> omega)
           simp only [List.set_cons_zero, List.set_cons_succ] at H0
           refine Fs.gen H0 ?_
           clear H0
           rintro X1 H0
           have c7 := (H0.rowAt 3 rfl).cell
           have c3 := (H0.rowAt 1 rfl).cell))
      have HC3 := Lib.hid c3
      clear c3
      go_cut [9] from 38 to 46 (fun x W => x = .bool (pick gs d.pos).isSome ∧ W = X1)
      case first =>
        have hps := pick_isSome gs d.pos
        by_cases p1 : 0 ≤ d.pos
        · have e6 : decide (0 ≤ d.pos) = true := decide_eq_true p1
          have e7 : decide (d.pos ≥ 0) = true := decide_eq_true p1
          rw [e6, Bool.true_and] at hps
          have HPS := Lib.hid hps
          clear hps p1 e6 H0
          go_wp2_with fail
          all_goals (go_meet; exact ⟨by rw [HPS.out], rfl⟩)
        · have e6 : decide (0 ≤ d.pos) = false := decide_eq_false p1
          have e7 : decide (d.pos ≥ 0) = false := decide_eq_false p1
          rw [e6, Bool.false_and] at hps
          have HPS := Lib.hid hps
          clear hps p1 e6 H0
          go_wp2_with fail
          all_goals (go_meet; exact ⟨by rw [HPS.out], rfl⟩)
      case rest =>
        obtain ⟨rfl, rfl⟩ := hcut
        have hx1 := (H0.rowAt 3 rfl).lt
        replace H0 := (H0.alloc (.cells (bagC nilB 0) 24)).snoc (.row wc.heap.size _ _) (Rw.new wc (bagC nilB 0) 24)
        simp only [List.nil_append, List.cons_append] at H0
        have hX : wc.heap.size < (wc.alloc (.cells (bagC nilB 0) 24)).heap.size := by simp
        have c7 := (H0.rowAt 3 rfl).cell
        clear HC3
        go_upto_block 2 with fail
        clear c7
        refine gen_code (fun W => Fs _ W ∧ wc.heap.size < W.heap.size) ⟨H0, hX⟩ ?_
        clear H0 hX
        rintro X2 ⟨H0, hX⟩
        generalize wc.heap.size = b10 at *
        have c7 := (H0.rowAt 3 rfl).cell
        go_cut [4, 5, 9, 11] from 49 to 134 (fun s t x e W => ∃ (gs' : List Gr) (n' s' t' code : Int) (A' : Option Addr) (q' c' : Nat), s = .int .i64 s' ∧ t = .int .i64 t' ∧ x = .bool (pick gs d.pos).isSome ∧ e = .int .i64 code ∧ InvB ((m : Int) + 1) s' t' n' gs' ∧ (code = 0 ∨ (code = 2 ∧ gs' = gs ∧ n' = n)) ∧ Fs [.base w, .row w.heap.size 24 (bagC (.slice A gs.length c) n), .own (fun k => k ≠ w.heap.size ∧ k < wr.heap.size) 29 (.slice A gs.length c) gs, .row b10 24 (bagC (.slice A' q' c') n'), .own (fun k => b10 < k) 29 (.slice A' q' c') gs'] W)
        case first =>
          have hL : ∀ g ∈ gs, g.bytes.length ≤ 1000 := fun g h => by have := HI.out.short g h; omega
          have hN1 : gs.length ≤ 1000 := by have := HI.out.room; omega
          have HLL := Lib.hid hL
          by_cases k0 : d.what = 0
          · have e8 : (d.what == 0) = true := by simp [k0]
            have e9 : decide (d.what = 0) = true := by simp [k0]
            have hws : IntKind.i64.wrap (sent + 1) = sent + 1 := by have := HI.out.few; have := HI.out.sum; have := HI.out.t0; have := HI.out.n0; rw [IntKind.wrap_i64]; omega
            obtain ⟨g, hg⟩ : ∃ g : Gr, g = ⟨d.g.to, d.g.bytes, false⟩ := ⟨_, rfl⟩
            have hgl : g.bytes.length = d.g.bytes.length := by rw [hg]
            have HG := Lib.hid hg
            clear k0 c7
            go_wp2_with (first
              | (with_reducible show wpList _ _ _ (Oper.mk _ (Op.load 24 (.tmp 3)) _ _ _ _ :: _) _ _
                 refine wpList_loadW (H0.rowAt 1 rfl) aggB rfl _ rfl rfl ?_)
              | (with_reducible show wpList _ _ _ (Oper.mk _ (Op.buildSlice _ _ _) _ _ _ _ :: _) _ _
                 refine wpList_buildS rfl [(0, .tmp 78)] rfl rfl (run_one g (.slice Au d.g.bytes.length cu) _) ?_)
              | (with_reducible show wpList _ _ _ (Oper.mk _ (Op.store 4 (.tmp 75) _) _ _ _ _ :: _) _ _
                 refine wpList_store1 (H0.rowAt 3 rfl) (by kernel_rfl) rfl _ _ rfl (j := 6) rfl (v := .bool false) rfl (by show 6 < 7; decide) rfl rfl ?_
                 replace H0 := H0.setCell 3 rfl 6 (.bool false) (by simp [aparts, F.row_fp, F.base_fp, F.own_fp, F.bytes_fp, -Nat.not_le, -Nat.not_lt] <;> omega)
                 simp only [List.set_cons_zero, List.set_cons_succ] at H0
                 rw [Dd.set6, ← hg] at H0
                 clear hg
                 refine Fs.gen H0 ?_
                 clear H0
                 rintro X3 H0)
              | (with_reducible show wpList _ _ _ (Oper.mk _ (Op.load 29 _) _ _ _ _ :: _) _ _
                 refine wpList_loadPt (H0.rowAt 3 rfl) (q := 4) (cs := g.c (.slice Au d.g.bytes.length cu)) (dd_gram ⟨d.what, d.pos, d.i, d.z, g⟩ _) aggG rfl _ rfl rfl ?_))
            have hX3 := (H0.rowAt 5 rfl).lt
            have hone : SwG (X3.alloc (.cells (g.c (.slice Au d.g.bytes.length cu)) 29)) (.slice (some ⟨X3.heap.size, 0, none⟩) 1 1) [g] := swG_lit [(g, .slice Au d.g.bytes.length cu)] X3 (by
              intro x hx
              simp at hx
              subst hx
              have := HU.out.below (H0.baseAt 4 rfl)
              rw [HG.out]
              exact this) (by simp) (by simp)
            replace H0 := H0.alloc (.cells (g.c (.slice Au d.g.bytes.length cu)) 29)
            refine (Send_any (.slice A gs.length c) n gs _ [g] _ (H0.ownAt 2 rfl).swG hone hL hN1).mono ?_; rintro e w3 ⟨E, p, ke, rfl, hm3⟩
            have hsz : b10 < (X3.alloc (.cells (g.c (.slice Au d.g.bytes.length cu)) 29)).heap.size := by simp; omega
            replace H0 := (H0.call hm3.below).snoc (.own (fun k => b10 < k) 29 _ _) (hm3.ownP.imp fun k _ h => by have : b10 < k := Nat.lt_of_lt_of_le hsz h; exact this)
            simp only [List.nil_append, List.cons_append] at H0
            rw [show sendS (gs, n) [g] = sentS (gs, n) g from rfl] at H0 ⊢
            clear hm3 hone
            go_wp2_with (first
              | (with_reducible show wpList _ _ _ (Oper.mk _ (Op.store 24 (.tmp 10) _) _ _ _ _ :: _) _ _
                 refine wpList_storeR (c := bagC (.slice E p ke) (sentS (gs, n) g).2) rfl _ _ rfl rfl rfl aggB.hi (H0.rowAt 5 rfl) rfl (bag_one _ _ _ _) ?_
                 replace H0 := H0.setRow 5 rfl (bagC (.slice E p ke) (sentS (gs, n) g).2) (by simp [aparts, F.row_fp, F.base_fp, F.own_fp, F.bytes_fp, -Nat.not_le, -Nat.not_lt] <;> omega)
                 simp only [List.set_cons_zero, List.set_cons_succ] at H0
                 refine Fs.gen H0 ?_
                 clear H0
                 rintro X4 H0))
            try simp only [Act.put]
            go_meet
            exact ⟨_, _, sent + 1, taken, 0, E, p, ke, rfl, rfl, rfl, rfl, HI.out.send (by omega) g, .inl rfl, H0.sub (m := [.base w, .row w.heap.size 24 (bagC (.slice A gs.length c) n), .own (fun k => k ≠ w.heap.size ∧ k < wr.heap.size) 29 (.slice A gs.length c) gs, .row b10 24 (bagC (.slice E p ke) (sentS (gs, n) g).2), .own (fun k => b10 < k) 29 (.slice E p ke) ((sentS (gs, n) g).1)]) (by simp)⟩
          · cases hpk : pick gs d.pos with
            | none =>
              by_cases k1 : d.what = 1
              · have e8 : (d.what == 0) = false := by simp [k0]
                have e9 : decide (d.what = 0) = false := by simp [k0]
                have e10 : (d.what == 1) = true := by simp [k1]
                have e11 : decide (d.what = 1) = true := by simp [k1]
                have hTK : takeS gs d.pos = (gs, noG, false) := by unfold takeS; rw [hpk]
                obtain ⟨tg, htg⟩ : ∃ tg, tg = noG := ⟨_, rfl⟩
                rw [← htg] at hTK
                have HTG := Lib.hid htg
                clear htg
                clear k0 k1
                have KT := Lib.hid (fun W (h : SwG W (.slice A gs.length c) gs) => Take_any (.slice A gs.length c) n gs d.pos W h hL hN1)
                rw [hTK] at KT
                dsimp only at KT
                go_wp2_with (first
                  | (with_reducible show wpList _ _ _ (Oper.mk _ (Op.load 24 (.tmp 3)) _ _ _ _ :: _) _ _
                     refine wpList_loadW (H0.rowAt 1 rfl) aggB rfl _ rfl rfl ?_))
                refine (KT.out _ (H0.ownAt 2 rfl).swG).mono ?_; rintro e w3 ⟨E, p, ke, ut, rfl, hm3, hu⟩
                obtain ⟨At, ct, rfl⟩ := (Sl.of_own hu).form
                rw [bv_length] at hu ⊢
                have hX3 : b10 < w3.heap.size := Nat.lt_of_lt_of_le hX hm3.below.size
                replace H0 := ((H0.call hm3.below).snoc (.own (fun k => X2.heap.size ≤ k ∧ k < w3.heap.size) 29 _ _) (hm3.ownP.imp fun k h1 h2 => ⟨h2, h1⟩)).snoc (.bytes (fun k => X2.heap.size ≤ k ∧ k < w3.heap.size) _ _) ⟨owns_mono hu (Nat.zero_le _), fun k hk => hu.lt k hk⟩
                obtain ⟨z1, z2, -⟩ := two_boxes w3 (bagC nilB 0) (noG.c nilB) 24 29
                replace H0 := ((((H0.alloc _).alloc _).snoc (.row w3.heap.size _ _) z1).snoc (.row (w3.heap.size + 1) _ _) z2)
                simp only [List.nil_append, List.cons_append] at H0
                have hwz := hm3.below.size
                clear z1 z2 hm3 hu KT c7
                go_wp2_with (first
                  | (with_reducible show wpList _ _ _ (Oper.mk _ (Op.store 24 (.tmp 12) _) _ _ _ _ :: _) _ _
                     refine wpList_storeR (c := bagC (.slice E p ke) n) rfl _ _ rfl rfl rfl aggB.hi (H0.rowAt 8 rfl) rfl (bag_one _ _ _ _) ?_
                     replace H0 := H0.setRow 8 rfl (bagC (.slice E p ke) n) (by simp [aparts, F.row_fp, F.base_fp, F.own_fp, F.bytes_fp, -Nat.not_le, -Nat.not_lt] <;> omega)
                     simp only [List.set_cons_zero, List.set_cons_succ] at H0)
                  | (with_reducible show wpList _ _ _ (Oper.mk _ (Op.store 29 (.tmp 13) _) _ _ _ _ :: _) _ _
                     refine wpList_storeR (c := tg.c (.slice At tg.bytes.length ct)) rfl _ _ rfl rfl rfl aggG.hi (H0.rowAt 9 rfl) rfl (Gr.one _ _ _ _) ?_
                     replace H0 := H0.setRow 9 rfl (tg.c (.slice At tg.bytes.length ct)) (by simp [aparts, F.row_fp, F.base_fp, F.own_fp, F.bytes_fp, -Nat.not_le, -Nat.not_lt] <;> omega)
                     simp only [List.set_cons_zero, List.set_cons_succ] at H0
                     refine Fs.gen H0 ?_
                     clear H0
                     rintro X5 H0))
                refine wp_region_held_drew (S := (fun X => Below X5.heap.size X5 X)) (by kernel_rfl) (by first | exact (Below.refl _ _).drew | assumption) (fun hHeld => ?_)
                refine wpAnyH_take (i := 0) (oi := { dst := some 93, op := .move (.tmp 14), type := _, pos := _, after := _, guard := none }) (v := ?_) rfl (by kernel_rfl) (by kernel_rfl) (by kernel_rfl) (fun _ _ _ h => h) (Or.inl ⟨by rfl, ?_⟩) (by assumption) ?_
                rotate_left
                · (intro w hSw; (try dsimp only at hSw); go_simp; try (with_reducible rfl))
                try simp only [Act.put, List.setIfInBounds_toArray, List.set_cons_zero, List.set_cons_succ]
                refine wpAnyH_take (i := 1) (oi := { dst := some 94, op := .move (.tmp 9), type := _, pos := _, after := _, guard := none }) (v := ?_) rfl (by kernel_rfl) (by kernel_rfl) (by kernel_rfl) (fun _ _ _ h => h) (Or.inl ⟨by rfl, ?_⟩) (by assumption) ?_
                rotate_left
                · (intro w hSw; (try dsimp only at hSw); go_simp; try (with_reducible rfl))
                try simp only [Act.put, List.setIfInBounds_toArray, List.set_cons_zero, List.set_cons_succ]
                refine wpAnyH_take (i := 2) (oi := { dst := some 95, op := .binOp .neq 4 (.tmp 93) (.tmp 94) 4, type := _, pos := _, after := _, guard := none }) (v := ?_) rfl (by kernel_rfl) (by kernel_rfl) (by kernel_rfl) (fun _ _ _ h => h) (Or.inl ⟨by rfl, ?_⟩) (by assumption) ?_
                rotate_left
                · (intro w hSw; (try dsimp only at hSw); go_simp; try (with_reducible rfl))
                try simp only [Act.put, List.setIfInBounds_toArray, List.set_cons_zero, List.set_cons_succ]
                refine wpAnyH_take (i := 3) (oi := { dst := some 96, op := .move (.tmp 95), type := _, pos := _, after := _, guard := none }) (v := ?_) rfl (by kernel_rfl) (by kernel_rfl) (by kernel_rfl) (fun _ _ _ h => h) (Or.inl ⟨by rfl, ?_⟩) (by assumption) ?_
                rotate_left
                · (intro w hSw; (try dsimp only at hSw); go_simp; try (with_reducible rfl))
                try simp only [Act.put, List.setIfInBounds_toArray, List.set_cons_zero, List.set_cons_succ]
                refine wpAnyH_take (i := 4) (oi := { dst := some 97, op := .move (.tmp 14), type := _, pos := _, after := _, guard := some (3, false) }) (v := ?_) rfl (by kernel_rfl) (by kernel_rfl) (by kernel_rfl) (fun _ _ _ h => h) (Or.inl ⟨by rfl, ?_⟩) (by assumption) ?_
                rotate_left
                · (intro w hSw; (try dsimp only at hSw); go_simp; try (with_reducible rfl))
                try simp only [Act.put, List.setIfInBounds_toArray, List.set_cons_zero, List.set_cons_succ]
                refine wpAnyH_take (i := 5) (oi := { dst := some 98, op := .move (.tmp 97), type := _, pos := _, after := _, guard := some (3, false) }) (v := ?_) rfl (by kernel_rfl) (by kernel_rfl) (by kernel_rfl) (fun _ _ _ h => h) (Or.inl ⟨by rfl, ?_⟩) (by assumption) ?_
                rotate_left
                · (intro w hSw; (try dsimp only at hSw); go_simp; try (with_reducible rfl))
                try simp only [Act.put, List.setIfInBounds_toArray, List.set_cons_zero, List.set_cons_succ]
                refine wpAnyH_take (i := 6) (oi := { dst := some 99, op := .load 29 (.tmp 13), type := _, pos := _, after := _, guard := some (5, true) }) (v := undef) rfl (by kernel_rfl) (by kernel_rfl) (by kernel_rfl) (fun _ _ _ h => h) (Or.inr ⟨by rfl, rfl⟩) (by assumption) ?_
                try simp only [Act.put, List.setIfInBounds_toArray, List.set_cons_zero, List.set_cons_succ]
                refine wpAnyH_take (i := 7) (oi := { dst := some 100, op := .fieldAddr 24 (.tmp 3) 0, type := _, pos := _, after := _, guard := some (5, true) }) (v := undef) rfl (by kernel_rfl) (by kernel_rfl) (by kernel_rfl) (fun _ _ _ h => h) (Or.inr ⟨by rfl, rfl⟩) (by assumption) ?_
                try simp only [Act.put, List.setIfInBounds_toArray, List.set_cons_zero, List.set_cons_succ]
                refine wpAnyH_take (i := 8) (oi := { dst := some 101, op := .load 22 (.tmp 100), type := _, pos := _, after := _, guard := some (5, true) }) (v := undef) rfl (by kernel_rfl) (by kernel_rfl) (by kernel_rfl) (fun _ _ _ h => h) (Or.inr ⟨by rfl, rfl⟩) (by assumption) ?_
                try simp only [Act.put, List.setIfInBounds_toArray, List.set_cons_zero, List.set_cons_succ]
                refine wpAnyH_take (i := 9) (oi := { dst := some 102, op := .fieldAddr 45 (.tmp 7) 1, type := _, pos := _, after := _, guard := some (5, true) }) (v := undef) rfl (by kernel_rfl) (by kernel_rfl) (by kernel_rfl) (fun _ _ _ h => h) (Or.inr ⟨by rfl, rfl⟩) (by assumption) ?_
                try simp only [Act.put, List.setIfInBounds_toArray, List.set_cons_zero, List.set_cons_succ]
                refine wpAnyH_take (i := 10) (oi := { dst := some 103, op := .load 3 (.tmp 102), type := _, pos := _, after := _, guard := some (5, true) }) (v := undef) rfl (by kernel_rfl) (by kernel_rfl) (by kernel_rfl) (fun _ _ _ h => h) (Or.inr ⟨by rfl, rfl⟩) (by assumption) ?_
                try simp only [Act.put, List.setIfInBounds_toArray, List.set_cons_zero, List.set_cons_succ]
                refine wpAnyH_take (i := 11) (oi := { dst := some 104, op := .indexAddr 22 (.tmp 101) (.tmp 103), type := _, pos := _, after := _, guard := some (5, true) }) (v := undef) rfl (by kernel_rfl) (by kernel_rfl) (by kernel_rfl) (fun _ _ _ h => h) (Or.inr ⟨by rfl, rfl⟩) (by assumption) ?_
                try simp only [Act.put, List.setIfInBounds_toArray, List.set_cons_zero, List.set_cons_succ]
                refine wpAnyH_take (i := 12) (oi := { dst := some 105, op := .load 29 (.tmp 104), type := _, pos := _, after := _, guard := some (5, true) }) (v := undef) rfl (by kernel_rfl) (by kernel_rfl) (by kernel_rfl) (fun _ _ _ h => h) (Or.inr ⟨by rfl, rfl⟩) (by assumption) ?_
                try simp only [Act.put, List.setIfInBounds_toArray, List.set_cons_zero, List.set_cons_succ]
                refine wpAnyH_take (i := 13) (oi := { dst := some 106, op := .call { callee := .value (.func 15), args := #[.tmp 99, .tmp 105], argTypes := #[29, 29] }, type := _, pos := _, after := _, guard := some (5, true) }) (v := undef) rfl (by kernel_rfl) (by kernel_rfl) (by kernel_rfl) (fun _ _ _ h => h) (Or.inr ⟨by rfl, rfl⟩) (by assumption) ?_
                try simp only [Act.put, List.setIfInBounds_toArray, List.set_cons_zero, List.set_cons_succ]
                refine wpAnyH_take (i := 14) (oi := { dst := some 107, op := .unOp .not 4 (.tmp 106), type := _, pos := _, after := _, guard := some (5, true) }) (v := undef) rfl (by kernel_rfl) (by kernel_rfl) (by kernel_rfl) (fun _ _ _ h => h) (Or.inr ⟨by rfl, rfl⟩) (by assumption) ?_
                try simp only [Act.put, List.setIfInBounds_toArray, List.set_cons_zero, List.set_cons_succ]
                refine wpAnyH_take (i := 15) (oi := { dst := some 108, op := .pick (.tmp 98) (.tmp 107) (.const (.bool false)), type := _, pos := _, after := _, guard := some (3, false) }) (v := ?_) rfl (by kernel_rfl) (by kernel_rfl) (by kernel_rfl) (fun _ _ _ h => h) (Or.inl ⟨by rfl, ?_⟩) (by assumption) ?_
                rotate_left
                · (intro w hSw; (try dsimp only at hSw); go_simp; try (with_reducible rfl))
                try simp only [Act.put, List.setIfInBounds_toArray, List.set_cons_zero, List.set_cons_succ]
                refine wpAnyH_take (i := 16) (oi := { dst := some 109, op := .pick (.tmp 96) (.const (.bool true)) (.tmp 108), type := _, pos := _, after := _, guard := none }) (v := ?_) rfl (by kernel_rfl) (by kernel_rfl) (by kernel_rfl) (fun _ _ _ h => h) (Or.inl ⟨by rfl, ?_⟩) (by assumption) ?_
                rotate_left
                · (intro w hSw; (try dsimp only at hSw); go_simp; try (with_reducible rfl))
                try simp only [Act.put, List.setIfInBounds_toArray, List.set_cons_zero, List.set_cons_succ]
                refine wpAnyH_done (by kernel_rfl) ?_ _
                replace H0 := H0.drew
                generalize X5.drew = X6 at *
                go_wp2_with (first
                  | (with_reducible show wpList _ _ _ (Oper.mk _ (Op.load 24 (.tmp 12)) _ _ _ _ :: _) _ _
                     refine wpList_loadW (H0.rowAt 8 rfl) aggB rfl _ rfl rfl ?_)
                  | (with_reducible show wpList _ _ _ (Oper.mk _ (Op.store 24 (.tmp 10) _) _ _ _ _ :: _) _ _
                     refine wpList_storeR (c := bagC (.slice E p ke) n) rfl _ _ rfl rfl rfl aggB.hi (H0.rowAt 5 rfl) rfl (bag_one _ _ _ _) ?_
                     replace H0 := H0.setRow 5 rfl (bagC (.slice E p ke) n) (by simp [aparts, F.row_fp, F.base_fp, F.own_fp, F.bytes_fp, -Nat.not_le, -Nat.not_lt] <;> omega)
                     simp only [List.set_cons_zero, List.set_cons_succ] at H0
                     refine Fs.gen H0 ?_
                     clear H0
                     rintro X7 H0))
                try simp only [Act.put]
                go_meet
                replace H0 := (H0.sub (m := [.base w, .row w.heap.size 24 (bagC (.slice A gs.length c) n), .own (fun k => k ≠ w.heap.size ∧ k < wr.heap.size) 29 (.slice A gs.length c) gs, .row b10 24 (bagC (.slice E p ke) n)]) (by simp)).snoc (.own (fun k => b10 < k) 29 (.slice E p ke) gs) ((H0.ownAt 6 rfl).imp fun k _ h => by have := h.1; show b10 < k; omega)
                exact ⟨_, _, sent, taken, 0, E, p, ke, rfl, rfl, by rw [hpk]; rfl, rfl, HI.out.same, .inl rfl, H0⟩
              · by_cases k2 : d.what = 2
                · have e8 : (d.what == 0) = false := by simp [k0]
                  have e9 : decide (d.what = 0) = false := by simp [k0]
                  have e10 : (d.what == 1) = false := by simp [k1]
                  have e11 : decide (d.what = 1) = false := by simp [k1]
                  have e12 : (d.what == 2) = true := by simp [k2]
                  have e13 : decide (d.what = 2) = true := by simp [k2]
                  have hDR : dropS gs n d.pos = (gs, n, 2) := by unfold dropS; rw [hpk]
                  clear k0 k1 k2
                  have KT := Lib.hid (fun W (h : SwG W (.slice A gs.length c) gs) => Drop_any (.slice A gs.length c) n gs d.pos W h hL hN1)
                  rw [hDR] at KT
                  dsimp only at KT
                  go_wp2_with (first
                    | (with_reducible show wpList _ _ _ (Oper.mk _ (Op.load 24 (.tmp 3)) _ _ _ _ :: _) _ _
                       refine wpList_loadW (H0.rowAt 1 rfl) aggB rfl _ rfl rfl ?_))
                  refine (KT.out _ (H0.ownAt 2 rfl).swG).mono ?_; rintro e w3 ⟨E, p, ke, rfl, hm3⟩
                  replace H0 := (H0.call hm3.below).snoc (.own (fun k => b10 < k) 29 _ _) (hm3.ownP.imp fun k _ h => by have : b10 < k := Nat.lt_of_lt_of_le hX h; exact this)
                  simp only [List.nil_append, List.cons_append] at H0
                  clear hm3 KT c7
                  go_wp2_with (first
                    | (with_reducible show wpList _ _ _ (Oper.mk _ (Op.store 24 (.tmp 10) _) _ _ _ _ :: _) _ _
                       refine wpList_storeR (c := bagC (.slice E p ke) (n)) rfl _ _ rfl rfl rfl aggB.hi (H0.rowAt 5 rfl) rfl (bag_one _ _ _ _) ?_
                       replace H0 := H0.setRow 5 rfl (bagC (.slice E p ke) (n)) (by simp [aparts, F.row_fp, F.base_fp, F.own_fp, F.bytes_fp, -Nat.not_le, -Nat.not_lt] <;> omega)
                       simp only [List.set_cons_zero, List.set_cons_succ] at H0
                       refine Fs.gen H0 ?_
                       clear H0
                       rintro X4 H0))
                  go_meet
                  exact ⟨_, _, sent, taken, 2, E, p, ke, rfl, rfl, by rw [hpk]; rfl, rfl, HI.out.same, .inr ⟨rfl, rfl, rfl⟩, H0.sub (m := [.base w, .row w.heap.size 24 (bagC (.slice A gs.length c) n), .own (fun k => k ≠ w.heap.size ∧ k < wr.heap.size) 29 (.slice A gs.length c) gs, .row b10 24 (bagC (.slice E p ke) (n)), .own (fun k => b10 < k) 29 (.slice E p ke) (gs)]) (by simp)⟩
                · by_cases k3 : d.what = 3
                  · have e8 : (d.what == 0) = false := by simp [k0]
                    have e9 : decide (d.what = 0) = false := by simp [k0]
                    have e10 : (d.what == 1) = false := by simp [k1]
                    have e11 : decide (d.what = 1) = false := by simp [k1]
                    have e12 : (d.what == 2) = false := by simp [k2]
                    have e13 : decide (d.what = 2) = false := by simp [k2]
                    have e14 : (d.what == 3) = true := by simp [k3]
                    have e15 : decide (d.what = 3) = true := by simp [k3]
                    have hDR : twiceS gs n d.pos = (gs, n, 2) := by unfold twiceS; rw [hpk]
                    clear k0 k1 k2 k3
                    have KT := Lib.hid (fun W (h : SwG W (.slice A gs.length c) gs) => Twice_any (.slice A gs.length c) n gs d.pos W h hL hN1)
                    rw [hDR] at KT
                    dsimp only at KT
                    go_wp2_with (first
                      | (with_reducible show wpList _ _ _ (Oper.mk _ (Op.load 24 (.tmp 3)) _ _ _ _ :: _) _ _
                         refine wpList_loadW (H0.rowAt 1 rfl) aggB rfl _ rfl rfl ?_))
                    refine (KT.out _ (H0.ownAt 2 rfl).swG).mono ?_; rintro e w3 ⟨E, p, ke, rfl, hm3⟩
                    replace H0 := (H0.call hm3.below).snoc (.own (fun k => b10 < k) 29 _ _) (hm3.ownP.imp fun k _ h => by have : b10 < k := Nat.lt_of_lt_of_le hX h; exact this)
                    simp only [List.nil_append, List.cons_append] at H0
                    clear hm3 KT c7
                    go_wp2_with (first
                      | (with_reducible show wpList _ _ _ (Oper.mk _ (Op.store 24 (.tmp 10) _) _ _ _ _ :: _) _ _
                         refine wpList_storeR (c := bagC (.slice E p ke) (n)) rfl _ _ rfl rfl rfl aggB.hi (H0.rowAt 5 rfl) rfl (bag_one _ _ _ _) ?_
                         replace H0 := H0.setRow 5 rfl (bagC (.slice E p ke) (n)) (by simp [aparts, F.row_fp, F.base_fp, F.own_fp, F.bytes_fp, -Nat.not_le, -Nat.not_lt] <;> omega)
                         simp only [List.set_cons_zero, List.set_cons_succ] at H0
                         refine Fs.gen H0 ?_
                         clear H0
                         rintro X4 H0))
                    go_meet
                    exact ⟨_, _, sent, taken, 2, E, p, ke, rfl, rfl, by rw [hpk]; rfl, rfl, HI.out.same, .inr ⟨rfl, rfl, rfl⟩, H0.sub (m := [.base w, .row w.heap.size 24 (bagC (.slice A gs.length c) n), .own (fun k => k ≠ w.heap.size ∧ k < wr.heap.size) 29 (.slice A gs.length c) gs, .row b10 24 (bagC (.slice E p ke) (n)), .own (fun k => b10 < k) 29 (.slice E p ke) (gs)]) (by simp)⟩
                  · have e8 : (d.what == 0) = false := by simp [k0]
                    have e9 : decide (d.what = 0) = false := by simp [k0]
                    have e10 : (d.what == 1) = false := by simp [k1]
                    have e11 : decide (d.what = 1) = false := by simp [k1]
                    have e12 : (d.what == 2) = false := by simp [k2]
                    have e13 : decide (d.what = 2) = false := by simp [k2]
                    have e14 : (d.what == 3) = false := by simp [k3]
                    have e15 : decide (d.what = 3) = false := by simp [k3]
                    have hDR : harmT gs n d.pos d.i d.z = (gs, n, 2) := by unfold harmT; rw [hpk]
                    clear k0 k1 k2 k3
                    have KT := Lib.hid (fun W (h : SwG W (.slice A gs.length c) gs) => Harm_any (.slice A gs.length c) n gs d.pos d.i d.z W h hL hN1)
                    rw [hDR] at KT
                    dsimp only at KT
                    go_wp2_with (first
                      | (with_reducible show wpList _ _ _ (Oper.mk _ (Op.load 24 (.tmp 3)) _ _ _ _ :: _) _ _
                         refine wpList_loadW (H0.rowAt 1 rfl) aggB rfl _ rfl rfl ?_))
                    refine (KT.out _ (H0.ownAt 2 rfl).swG).mono ?_; rintro e w3 ⟨E, p, ke, rfl, hm3⟩
                    replace H0 := (H0.call hm3.below).snoc (.own (fun k => b10 < k) 29 _ _) (hm3.ownP.imp fun k _ h => by have : b10 < k := Nat.lt_of_lt_of_le hX h; exact this)
                    simp only [List.nil_append, List.cons_append] at H0
                    clear hm3 KT c7
                    go_wp2_with (first
                      | (with_reducible show wpList _ _ _ (Oper.mk _ (Op.store 24 (.tmp 10) _) _ _ _ _ :: _) _ _
                         refine wpList_storeR (c := bagC (.slice E p ke) (n)) rfl _ _ rfl rfl rfl aggB.hi (H0.rowAt 5 rfl) rfl (bag_one _ _ _ _) ?_
                         replace H0 := H0.setRow 5 rfl (bagC (.slice E p ke) (n)) (by simp [aparts, F.row_fp, F.base_fp, F.own_fp, F.bytes_fp, -Nat.not_le, -Nat.not_lt] <;> omega)
                         simp only [List.set_cons_zero, List.set_cons_succ] at H0
                         refine Fs.gen H0 ?_
                         clear H0
                         rintro X4 H0))
                    go_meet
                    exact ⟨_, _, sent, taken, 2, E, p, ke, rfl, rfl, by rw [hpk]; rfl, rfl, HI.out.same, .inr ⟨rfl, rfl, rfl⟩, H0.sub (m := [.base w, .row w.heap.size 24 (bagC (.slice A gs.length c) n), .own (fun k => k ≠ w.heap.size ∧ k < wr.heap.size) 29 (.slice A gs.length c) gs, .row b10 24 (bagC (.slice E p ke) (n)), .own (fun k => b10 < k) 29 (.slice E p ke) (gs)]) (by simp)⟩
            | some kk =>
              obtain ⟨hpos, hkk⟩ := pick_some hpk
              have HPOS := Lib.hid hpos
              clear hpos
              by_cases k1 : d.what = 1
              · have e8 : (d.what == 0) = false := by simp [k0]
                have e9 : decide (d.what = 0) = false := by simp [k0]
                have e10 : (d.what == 1) = true := by simp [k1]
                have e11 : decide (d.what = 1) = true := by simp [k1]
                have hTK : takeS gs d.pos = (butK gs kk, gs.getD kk noG, true) := by unfold takeS; rw [hpk]
                obtain ⟨tg, htg⟩ : ∃ tg, tg = gs.getD kk noG := ⟨_, rfl⟩
                rw [← htg] at hTK
                have HTG := Lib.hid htg
                clear htg
                have hws : IntKind.i64.wrap (taken + 1) = taken + 1 := by have := HI.out.few; have := HI.out.sum; have := HI.out.t0; have := HI.out.n0; rw [IntKind.wrap_i64]; omega
                have jk : (0 : Int) ≤ (kk : Int) := by omega
                have jk2 : (kk : Int) < (gs.length : Int) := by omega
                clear k0 k1
                have KT := Lib.hid (fun W (h : SwG W (.slice A gs.length c) gs) => Take_any (.slice A gs.length c) n gs d.pos W h hL hN1)
                rw [hTK] at KT
                dsimp only at KT
                go_wp2_with (first
                  | (with_reducible show wpList _ _ _ (Oper.mk _ (Op.load 24 (.tmp 3)) _ _ _ _ :: _) _ _
                     refine wpList_loadW (H0.rowAt 1 rfl) aggB rfl _ rfl rfl ?_))
                refine (KT.out _ (H0.ownAt 2 rfl).swG).mono ?_; rintro e w3 ⟨E, p, ke, ut, rfl, hm3, hu⟩
                obtain ⟨At, ct, rfl⟩ := (Sl.of_own hu).form
                rw [bv_length] at hu ⊢
                have hX3 : b10 < w3.heap.size := Nat.lt_of_lt_of_le hX hm3.below.size
                replace H0 := ((H0.call hm3.below).snoc (.own (fun k => X2.heap.size ≤ k ∧ k < w3.heap.size) 29 _ _) (hm3.ownP.imp fun k h1 h2 => ⟨h2, h1⟩)).snoc (.bytes (fun k => X2.heap.size ≤ k ∧ k < w3.heap.size) _ _) ⟨owns_mono hu (Nat.zero_le _), fun k hk => hu.lt k hk⟩
                obtain ⟨z1, z2, -⟩ := two_boxes w3 (bagC nilB 0) (noG.c nilB) 24 29
                replace H0 := ((((H0.alloc _).alloc _).snoc (.row w3.heap.size _ _) z1).snoc (.row (w3.heap.size + 1) _ _) z2)
                simp only [List.nil_append, List.cons_append] at H0
                have hwz := hm3.below.size
                clear z1 z2 hm3 hu KT c7
                go_wp2_with (first
                  | (with_reducible show wpList _ _ _ (Oper.mk _ (Op.store 24 (.tmp 12) _) _ _ _ _ :: _) _ _
                     refine wpList_storeR (c := bagC (.slice E p ke) n) rfl _ _ rfl rfl rfl aggB.hi (H0.rowAt 8 rfl) rfl (bag_one _ _ _ _) ?_
                     replace H0 := H0.setRow 8 rfl (bagC (.slice E p ke) n) (by simp [aparts, F.row_fp, F.base_fp, F.own_fp, F.bytes_fp, -Nat.not_le, -Nat.not_lt] <;> omega)
                     simp only [List.set_cons_zero, List.set_cons_succ] at H0)
                  | (with_reducible show wpList _ _ _ (Oper.mk _ (Op.store 29 (.tmp 13) _) _ _ _ _ :: _) _ _
                     refine wpList_storeR (c := tg.c (.slice At tg.bytes.length ct)) rfl _ _ rfl rfl rfl aggG.hi (H0.rowAt 9 rfl) rfl (Gr.one _ _ _ _) ?_
                     replace H0 := H0.setRow 9 rfl (tg.c (.slice At tg.bytes.length ct)) (by simp [aparts, F.row_fp, F.base_fp, F.own_fp, F.bytes_fp, -Nat.not_le, -Nat.not_lt] <;> omega)
                     simp only [List.set_cons_zero, List.set_cons_succ] at H0
                     refine Fs.gen H0 ?_
                     clear H0
                     rintro X5 H0))
                obtain ⟨bA, oA, rfl, hbA, x0, ⟨uk, y1, sk⟩, z1⟩ := (H0.ownAt 2 rfl).swG.at_ kk hkk
                rw [← getD_at hkk, ← HTG.out] at x0 z1 sk
                have HQ := Lib.hid (show ∀ X, Below X5.heap.size X5 X → Below X5.heap.size X5 X ∧ X.cell? ⟨w.heap.size, 0, none⟩ = some (.slice (some ⟨bA, oA, none⟩) gs.length c) ∧ X.cell? ⟨wr.heap.size, 1, none⟩ = some (.int .i64 (kk : Int)) ∧ X.cell? ⟨w3.heap.size + 1, 0, none⟩ = some (.int .i64 tg.to) ∧ X.cell? ⟨w3.heap.size + 1, 1, none⟩ = some (.slice At tg.bytes.length ct) ∧ X.cell? ⟨w3.heap.size + 1, 2, none⟩ = some (.bool tg.harm) ∧ X.cell? ⟨bA, oA + kk * 3, none⟩ = some (.int .i64 tg.to) ∧ X.cell? ⟨bA, oA + kk * 3 + 1, none⟩ = some uk ∧ X.cell? ⟨bA, oA + kk * 3 + 2, none⟩ = some (.bool tg.harm) from fun X h =>
                  ⟨h, ((H0.call h).rowAt 1 rfl).cell 0, (((H0.call h).rowAt 3 rfl).cell 1).trans (by rw [Dd.c1, HPOS.out]), ((H0.call h).rowAt 9 rfl).cell 0, ((H0.call h).rowAt 9 rfl).cell 1, ((H0.call h).rowAt 9 rfl).cell 2, (h.cell (p := ⟨bA, _, none⟩) hbA).trans x0, (h.cell (p := ⟨bA, _, none⟩) hbA).trans y1, (h.cell (p := ⟨bA, _, none⟩) hbA).trans z1⟩)
                have KG := Lib.hid (fun X (h : Below X5.heap.size X5 X) => rgram_same tg (.slice At tg.bytes.length ct) uk X (.inl (Sl.of_own ((H0.call h).bytesAt 7 rfl))) (sk.below h))
                clear x0 y1 z1 sk hbA
                refine wp_region_held_drew (S := (fun X => Below X5.heap.size X5 X ∧ X.cell? ⟨w.heap.size, 0, none⟩ = some (.slice (some ⟨bA, oA, none⟩) gs.length c) ∧ X.cell? ⟨wr.heap.size, 1, none⟩ = some (.int .i64 (kk : Int)) ∧ X.cell? ⟨w3.heap.size + 1, 0, none⟩ = some (.int .i64 tg.to) ∧ X.cell? ⟨w3.heap.size + 1, 1, none⟩ = some (.slice At tg.bytes.length ct) ∧ X.cell? ⟨w3.heap.size + 1, 2, none⟩ = some (.bool tg.harm) ∧ X.cell? ⟨bA, oA + kk * 3, none⟩ = some (.int .i64 tg.to) ∧ X.cell? ⟨bA, oA + kk * 3 + 1, none⟩ = some uk ∧ X.cell? ⟨bA, oA + kk * 3 + 2, none⟩ = some (.bool tg.harm))) (by kernel_rfl) (by first | exact HQ.out _ (Below.refl _ _).drew | assumption | exact HQ.out _ (by assumption)) (fun hHeld => ?_)
                refine wpAnyH_take (i := 0) (oi := { dst := some 93, op := .move (.tmp 14), type := _, pos := _, after := _, guard := none }) (v := ?_) rfl (by kernel_rfl) (by kernel_rfl) (by kernel_rfl) (fun _ _ _ h => h) (Or.inl ⟨by rfl, ?_⟩) (by assumption) ?_
                rotate_left
                · (intro w hSw; (try dsimp only at hSw); go_simp; try (with_reducible rfl))
                try simp only [Act.put, List.setIfInBounds_toArray, List.set_cons_zero, List.set_cons_succ]
                refine wpAnyH_take (i := 1) (oi := { dst := some 94, op := .move (.tmp 9), type := _, pos := _, after := _, guard := none }) (v := ?_) rfl (by kernel_rfl) (by kernel_rfl) (by kernel_rfl) (fun _ _ _ h => h) (Or.inl ⟨by rfl, ?_⟩) (by assumption) ?_
                rotate_left
                · (intro w hSw; (try dsimp only at hSw); go_simp; try (with_reducible rfl))
                try simp only [Act.put, List.setIfInBounds_toArray, List.set_cons_zero, List.set_cons_succ]
                refine wpAnyH_take (i := 2) (oi := { dst := some 95, op := .binOp .neq 4 (.tmp 93) (.tmp 94) 4, type := _, pos := _, after := _, guard := none }) (v := ?_) rfl (by kernel_rfl) (by kernel_rfl) (by kernel_rfl) (fun _ _ _ h => h) (Or.inl ⟨by rfl, ?_⟩) (by assumption) ?_
                rotate_left
                · (intro w hSw; (try dsimp only at hSw); go_simp; try (with_reducible rfl))
                try simp only [Act.put, List.setIfInBounds_toArray, List.set_cons_zero, List.set_cons_succ]
                refine wpAnyH_take (i := 3) (oi := { dst := some 96, op := .move (.tmp 95), type := _, pos := _, after := _, guard := none }) (v := ?_) rfl (by kernel_rfl) (by kernel_rfl) (by kernel_rfl) (fun _ _ _ h => h) (Or.inl ⟨by rfl, ?_⟩) (by assumption) ?_
                rotate_left
                · (intro w hSw; (try dsimp only at hSw); go_simp; try (with_reducible rfl))
                try simp only [Act.put, List.setIfInBounds_toArray, List.set_cons_zero, List.set_cons_succ]
                refine wpAnyH_take (i := 4) (oi := { dst := some 97, op := .move (.tmp 14), type := _, pos := _, after := _, guard := some (3, false) }) (v := ?_) rfl (by kernel_rfl) (by kernel_rfl) (by kernel_rfl) (fun _ _ _ h => h) (Or.inl ⟨by rfl, ?_⟩) (by assumption) ?_
                rotate_left
                · (intro w hSw; (try dsimp only at hSw); go_simp; try (with_reducible rfl))
                try simp only [Act.put, List.setIfInBounds_toArray, List.set_cons_zero, List.set_cons_succ]
                refine wpAnyH_take (i := 5) (oi := { dst := some 98, op := .move (.tmp 97), type := _, pos := _, after := _, guard := some (3, false) }) (v := ?_) rfl (by kernel_rfl) (by kernel_rfl) (by kernel_rfl) (fun _ _ _ h => h) (Or.inl ⟨by rfl, ?_⟩) (by assumption) ?_
                rotate_left
                · (intro w hSw; (try dsimp only at hSw); go_simp; try (with_reducible rfl))
                try simp only [Act.put, List.setIfInBounds_toArray, List.set_cons_zero, List.set_cons_succ]
                refine wpAnyH_take (i := 6) (oi := { dst := some 99, op := .load 29 (.tmp 13), type := _, pos := _, after := _, guard := some (5, true) }) (v := ?_) rfl (by kernel_rfl) (by kernel_rfl) (by kernel_rfl) (fun _ _ _ h => h) (Or.inl ⟨by rfl, ?_⟩) (by assumption) ?_
                rotate_left
                · (intro w hSw; (try dsimp only at hSw); go_simp; try (with_reducible rfl))
                try simp only [Act.put, List.setIfInBounds_toArray, List.set_cons_zero, List.set_cons_succ]
                refine wpAnyH_take (i := 7) (oi := { dst := some 100, op := .fieldAddr 24 (.tmp 3) 0, type := _, pos := _, after := _, guard := some (5, true) }) (v := ?_) rfl (by kernel_rfl) (by kernel_rfl) (by kernel_rfl) (fun _ _ _ h => h) (Or.inl ⟨by rfl, ?_⟩) (by assumption) ?_
                rotate_left
                · (intro w hSw; (try dsimp only at hSw); go_simp; try (with_reducible rfl))
                try simp only [Act.put, List.setIfInBounds_toArray, List.set_cons_zero, List.set_cons_succ]
                refine wpAnyH_take (i := 8) (oi := { dst := some 101, op := .load 22 (.tmp 100), type := _, pos := _, after := _, guard := some (5, true) }) (v := ?_) rfl (by kernel_rfl) (by kernel_rfl) (by kernel_rfl) (fun _ _ _ h => h) (Or.inl ⟨by rfl, ?_⟩) (by assumption) ?_
                rotate_left
                · (intro w hSw; (try dsimp only at hSw); go_simp; try (with_reducible rfl))
                try simp only [Act.put, List.setIfInBounds_toArray, List.set_cons_zero, List.set_cons_succ]
                refine wpAnyH_take (i := 9) (oi := { dst := some 102, op := .fieldAddr 45 (.tmp 7) 1, type := _, pos := _, after := _, guard := some (5, true) }) (v := ?_) rfl (by kernel_rfl) (by kernel_rfl) (by kernel_rfl) (fun _ _ _ h => h) (Or.inl ⟨by rfl, ?_⟩) (by assumption) ?_
                rotate_left
                · (intro w hSw; (try dsimp only at hSw); go_simp; try (with_reducible rfl))
                try simp only [Act.put, List.setIfInBounds_toArray, List.set_cons_zero, List.set_cons_succ]
                refine wpAnyH_take (i := 10) (oi := { dst := some 103, op := .load 3 (.tmp 102), type := _, pos := _, after := _, guard := some (5, true) }) (v := ?_) rfl (by kernel_rfl) (by kernel_rfl) (by kernel_rfl) (fun _ _ _ h => h) (Or.inl ⟨by rfl, ?_⟩) (by assumption) ?_
                rotate_left
                · (intro w hSw; (try dsimp only at hSw); go_simp; try (with_reducible rfl))
                try simp only [Act.put, List.setIfInBounds_toArray, List.set_cons_zero, List.set_cons_succ]
                refine wpAnyH_take (i := 11) (oi := { dst := some 104, op := .indexAddr 22 (.tmp 101) (.tmp 103), type := _, pos := _, after := _, guard := some (5, true) }) (v := ?_) rfl (by kernel_rfl) (by kernel_rfl) (by kernel_rfl) (fun _ _ _ h => h) (Or.inl ⟨by rfl, ?_⟩) (by assumption) ?_
                rotate_left
                · (intro w hSw; (try dsimp only at hSw); go_simp; try (with_reducible rfl))
                try simp only [Act.put, List.setIfInBounds_toArray, List.set_cons_zero, List.set_cons_succ]
                refine wpAnyH_take (i := 12) (oi := { dst := some 105, op := .load 29 (.tmp 104), type := _, pos := _, after := _, guard := some (5, true) }) (v := ?_) rfl (by kernel_rfl) (by kernel_rfl) (by kernel_rfl) (fun _ _ _ h => h) (Or.inl ⟨by rfl, ?_⟩) (by assumption) ?_
                rotate_left
                · (intro w hSw; (try dsimp only at hSw); go_simp; try (with_reducible rfl))
                try simp only [Act.put, List.setIfInBounds_toArray, List.set_cons_zero, List.set_cons_succ]
                refine wpAnyH_ready (rs := [13]) (by kernel_rfl) (by simp) ?_
                refine AllReadyH.cons (o := { dst := some 106, op := .call { callee := .value (.func 15), args := #[.tmp 99, .tmp 105], argTypes := #[29, 29] }, type := _, pos := _, after := _, guard := some (5, true) }) rfl (fun K hK => ?_) AllReadyH.nil
                go_simp
                refine (KG.out _ (Below.refl _ _).drew).mono ?_; rintro e y1 ⟨rfl, hz⟩; have hy1 : Below X5.heap.size X5 y1 := (Below.refl X5.heap.size X5).drew.trans hz; clear hz
                refine hK.out _ _ (by first | exact HQ.out _ (Below.refl _ _).drew | assumption | exact HQ.out _ (by assumption)) (fun hHeld => ?_)
                clear hK K
                try simp only [Act.put, List.setIfInBounds_toArray, List.set_cons_zero, List.set_cons_succ]
                refine wpAnyH_take (i := 14) (oi := { dst := some 107, op := .unOp .not 4 (.tmp 106), type := _, pos := _, after := _, guard := some (5, true) }) (v := ?_) rfl (by kernel_rfl) (by kernel_rfl) (by kernel_rfl) (fun _ _ _ h => h) (Or.inl ⟨by rfl, ?_⟩) (by assumption) ?_
                rotate_left
                · (intro w hSw; (try dsimp only at hSw); go_simp; try (with_reducible rfl))
                try simp only [Act.put, List.setIfInBounds_toArray, List.set_cons_zero, List.set_cons_succ]
                refine wpAnyH_take (i := 15) (oi := { dst := some 108, op := .pick (.tmp 98) (.tmp 107) (.const (.bool false)), type := _, pos := _, after := _, guard := some (3, false) }) (v := ?_) rfl (by kernel_rfl) (by kernel_rfl) (by kernel_rfl) (fun _ _ _ h => h) (Or.inl ⟨by rfl, ?_⟩) (by assumption) ?_
                rotate_left
                · (intro w hSw; (try dsimp only at hSw); go_simp; try (with_reducible rfl))
                try simp only [Act.put, List.setIfInBounds_toArray, List.set_cons_zero, List.set_cons_succ]
                refine wpAnyH_take (i := 16) (oi := { dst := some 109, op := .pick (.tmp 96) (.const (.bool true)) (.tmp 108), type := _, pos := _, after := _, guard := none }) (v := ?_) rfl (by kernel_rfl) (by kernel_rfl) (by kernel_rfl) (fun _ _ _ h => h) (Or.inl ⟨by rfl, ?_⟩) (by assumption) ?_
                rotate_left
                · (intro w hSw; (try dsimp only at hSw); go_simp; try (with_reducible rfl))
                try simp only [Act.put, List.setIfInBounds_toArray, List.set_cons_zero, List.set_cons_succ]
                refine wpAnyH_done (by kernel_rfl) ?_ _
                replace H0 := H0.call hy1
                clear hy1 HQ KG
                go_wp2_with (first
                  | (with_reducible show wpList _ _ _ (Oper.mk _ (Op.load 24 (.tmp 12)) _ _ _ _ :: _) _ _
                     refine wpList_loadW (H0.rowAt 8 rfl) aggB rfl _ rfl rfl ?_)
                  | (with_reducible show wpList _ _ _ (Oper.mk _ (Op.store 24 (.tmp 10) _) _ _ _ _ :: _) _ _
                     refine wpList_storeR (c := bagC (.slice E p ke) n) rfl _ _ rfl rfl rfl aggB.hi (H0.rowAt 5 rfl) rfl (bag_one _ _ _ _) ?_
                     replace H0 := H0.setRow 5 rfl (bagC (.slice E p ke) n) (by simp [aparts, F.row_fp, F.base_fp, F.own_fp, F.bytes_fp, -Nat.not_le, -Nat.not_lt] <;> omega)
                     simp only [List.set_cons_zero, List.set_cons_succ] at H0
                     refine Fs.gen H0 ?_
                     clear H0
                     rintro X7 H0))
                try simp only [Act.put]
                go_meet
                replace H0 := (H0.sub (m := [.base w, .row w.heap.size 24 (bagC (.slice (some ⟨bA, oA, none⟩) gs.length c) n), .own (fun k => k ≠ w.heap.size ∧ k < wr.heap.size) 29 (.slice (some ⟨bA, oA, none⟩) gs.length c) gs, .row b10 24 (bagC (.slice E p ke) n)]) (by simp)).snoc (.own (fun k => b10 < k) 29 (.slice E p ke) (butK gs kk)) ((H0.ownAt 6 rfl).imp fun k _ h => by have := h.1; show b10 < k; omega)
                exact ⟨_, _, sent, (taken + 1), 0, E, p, ke, rfl, rfl, by rw [hpk]; rfl, rfl, (HI.out.but hkk), .inl rfl, H0⟩
              · by_cases k2 : d.what = 2
                · have e8 : (d.what == 0) = false := by simp [k0]
                  have e9 : decide (d.what = 0) = false := by simp [k0]
                  have e10 : (d.what == 1) = false := by simp [k1]
                  have e11 : decide (d.what = 1) = false := by simp [k1]
                  have e12 : (d.what == 2) = true := by simp [k2]
                  have e13 : decide (d.what = 2) = true := by simp [k2]
                  have hDR : dropS gs n d.pos = (butK gs kk, IntKind.i64.wrap (n + 1), 0) := by unfold dropS; rw [hpk]
                  obtain ⟨nw, hnw⟩ : ∃ x, IntKind.i64.wrap (n + 1) = x := ⟨_, rfl⟩
                  rw [hnw] at hDR
                  have HNW := Lib.hid hnw
                  clear k0 k1 k2 hnw
                  have KT := Lib.hid (fun W (h : SwG W (.slice A gs.length c) gs) => Drop_any (.slice A gs.length c) n gs d.pos W h hL hN1)
                  rw [hDR] at KT
                  dsimp only at KT
                  go_wp2_with (first
                    | (with_reducible show wpList _ _ _ (Oper.mk _ (Op.load 24 (.tmp 3)) _ _ _ _ :: _) _ _
                       refine wpList_loadW (H0.rowAt 1 rfl) aggB rfl _ rfl rfl ?_))
                  refine (KT.out _ (H0.ownAt 2 rfl).swG).mono ?_; rintro e w3 ⟨E, p, ke, rfl, hm3⟩
                  replace H0 := (H0.call hm3.below).snoc (.own (fun k => b10 < k) 29 _ _) (hm3.ownP.imp fun k _ h => by have : b10 < k := Nat.lt_of_lt_of_le hX h; exact this)
                  simp only [List.nil_append, List.cons_append] at H0
                  clear hm3 KT c7
                  go_wp2_with (first
                    | (with_reducible show wpList _ _ _ (Oper.mk _ (Op.store 24 (.tmp 10) _) _ _ _ _ :: _) _ _
                       refine wpList_storeR (c := bagC (.slice E p ke) (nw)) rfl _ _ rfl rfl rfl aggB.hi (H0.rowAt 5 rfl) rfl (bag_one _ _ _ _) ?_
                       replace H0 := H0.setRow 5 rfl (bagC (.slice E p ke) (nw)) (by simp [aparts, F.row_fp, F.base_fp, F.own_fp, F.bytes_fp, -Nat.not_le, -Nat.not_lt] <;> omega)
                       simp only [List.set_cons_zero, List.set_cons_succ] at H0
                       refine Fs.gen H0 ?_
                       clear H0
                       rintro X4 H0))
                  go_meet
                  exact ⟨_, _, sent, taken, 0, E, p, ke, rfl, rfl, by rw [hpk]; rfl, rfl, by rw [← HNW.out]; exact HI.out.drop (by omega) hkk, .inl rfl, H0.sub (m := [.base w, .row w.heap.size 24 (bagC (.slice A gs.length c) n), .own (fun k => k ≠ w.heap.size ∧ k < wr.heap.size) 29 (.slice A gs.length c) gs, .row b10 24 (bagC (.slice E p ke) (nw)), .own (fun k => b10 < k) 29 (.slice E p ke) (butK gs kk)]) (by simp)⟩
                · by_cases k3 : d.what = 3
                  · have e8 : (d.what == 0) = false := by simp [k0]
                    have e9 : decide (d.what = 0) = false := by simp [k0]
                    have e10 : (d.what == 1) = false := by simp [k1]
                    have e11 : decide (d.what = 1) = false := by simp [k1]
                    have e12 : (d.what == 2) = false := by simp [k2]
                    have e13 : decide (d.what = 2) = false := by simp [k2]
                    have e14 : (d.what == 3) = true := by simp [k3]
                    have e15 : decide (d.what = 3) = true := by simp [k3]
                    have hDR : twiceS gs n d.pos = ((sentS (gs, n) (gs.getD kk noG)).1, (sentS (gs, n) (gs.getD kk noG)).2, 0) := by unfold twiceS; rw [hpk]
                    obtain ⟨⟨SA, SB⟩, hS⟩ : ∃ x, sentS (gs, n) (gs.getD kk noG) = x := ⟨_, rfl⟩
                    rw [hS] at hDR
                    have HSS := Lib.hid hS
                    have hws : IntKind.i64.wrap (sent + 1) = sent + 1 := by have := HI.out.few; have := HI.out.sum; have := HI.out.t0; have := HI.out.n0; rw [IntKind.wrap_i64]; omega
                    clear k0 k1 k2 k3 hS
                    have KT := Lib.hid (fun W (h : SwG W (.slice A gs.length c) gs) => Twice_any (.slice A gs.length c) n gs d.pos W h hL hN1)
                    rw [hDR] at KT
                    dsimp only at KT
                    go_wp2_with (first
                      | (with_reducible show wpList _ _ _ (Oper.mk _ (Op.load 24 (.tmp 3)) _ _ _ _ :: _) _ _
                         refine wpList_loadW (H0.rowAt 1 rfl) aggB rfl _ rfl rfl ?_))
                    refine (KT.out _ (H0.ownAt 2 rfl).swG).mono ?_; rintro e w3 ⟨E, p, ke, rfl, hm3⟩
                    replace H0 := (H0.call hm3.below).snoc (.own (fun k => b10 < k) 29 _ _) (hm3.ownP.imp fun k _ h => by have : b10 < k := Nat.lt_of_lt_of_le hX h; exact this)
                    simp only [List.nil_append, List.cons_append] at H0
                    clear hm3 KT c7
                    go_wp2_with (first
                      | (with_reducible show wpList _ _ _ (Oper.mk _ (Op.store 24 (.tmp 10) _) _ _ _ _ :: _) _ _
                         refine wpList_storeR (c := bagC (.slice E p ke) (SB)) rfl _ _ rfl rfl rfl aggB.hi (H0.rowAt 5 rfl) rfl (bag_one _ _ _ _) ?_
                         replace H0 := H0.setRow 5 rfl (bagC (.slice E p ke) (SB)) (by simp [aparts, F.row_fp, F.base_fp, F.own_fp, F.bytes_fp, -Nat.not_le, -Nat.not_lt] <;> omega)
                         simp only [List.set_cons_zero, List.set_cons_succ] at H0
                         refine Fs.gen H0 ?_
                         clear H0
                         rintro X4 H0))
                    go_meet
                    exact ⟨_, _, sent + 1, taken, 0, E, p, ke, rfl, rfl, by rw [hpk]; rfl, rfl, by have h := HI.out.send (by omega) (gs.getD kk noG); rw [HSS.out] at h; exact h, .inl rfl, H0.sub (m := [.base w, .row w.heap.size 24 (bagC (.slice A gs.length c) n), .own (fun k => k ≠ w.heap.size ∧ k < wr.heap.size) 29 (.slice A gs.length c) gs, .row b10 24 (bagC (.slice E p ke) (SB)), .own (fun k => b10 < k) 29 (.slice E p ke) (SA)]) (by simp)⟩
                  · cases hmay : mayHarm (gs.getD kk noG) d.i d.z with
                    | false =>
                      have e8 : (d.what == 0) = false := by simp [k0]
                      have e9 : decide (d.what = 0) = false := by simp [k0]
                      have e10 : (d.what == 1) = false := by simp [k1]
                      have e11 : decide (d.what = 1) = false := by simp [k1]
                      have e12 : (d.what == 2) = false := by simp [k2]
                      have e13 : decide (d.what = 2) = false := by simp [k2]
                      have e14 : (d.what == 3) = false := by simp [k3]
                      have e15 : decide (d.what = 3) = false := by simp [k3]
                      have hDR : harmT gs n d.pos d.i d.z = (gs, n, 2) := by unfold harmT; rw [hpk]; dsimp only; rw [if_neg (by rw [hmay]; decide)]
                      clear k0 k1 k2 k3
                      have KT := Lib.hid (fun W (h : SwG W (.slice A gs.length c) gs) => Harm_any (.slice A gs.length c) n gs d.pos d.i d.z W h hL hN1)
                      rw [hDR] at KT
                      dsimp only at KT
                      go_wp2_with (first
                        | (with_reducible show wpList _ _ _ (Oper.mk _ (Op.load 24 (.tmp 3)) _ _ _ _ :: _) _ _
                           refine wpList_loadW (H0.rowAt 1 rfl) aggB rfl _ rfl rfl ?_))
                      refine (KT.out _ (H0.ownAt 2 rfl).swG).mono ?_; rintro e w3 ⟨E, p, ke, rfl, hm3⟩
                      replace H0 := (H0.call hm3.below).snoc (.own (fun k => b10 < k) 29 _ _) (hm3.ownP.imp fun k _ h => by have : b10 < k := Nat.lt_of_lt_of_le hX h; exact this)
                      simp only [List.nil_append, List.cons_append] at H0
                      clear hm3 KT c7
                      go_wp2_with (first
                        | (with_reducible show wpList _ _ _ (Oper.mk _ (Op.store 24 (.tmp 10) _) _ _ _ _ :: _) _ _
                           refine wpList_storeR (c := bagC (.slice E p ke) (n)) rfl _ _ rfl rfl rfl aggB.hi (H0.rowAt 5 rfl) rfl (bag_one _ _ _ _) ?_
                           replace H0 := H0.setRow 5 rfl (bagC (.slice E p ke) (n)) (by simp [aparts, F.row_fp, F.base_fp, F.own_fp, F.bytes_fp, -Nat.not_le, -Nat.not_lt] <;> omega)
                           simp only [List.set_cons_zero, List.set_cons_succ] at H0
                           refine Fs.gen H0 ?_
                           clear H0
                           rintro X4 H0))
                      go_meet
                      exact ⟨_, _, sent, taken, 2, E, p, ke, rfl, rfl, by rw [hpk]; rfl, rfl, HI.out.same, .inr ⟨rfl, rfl, rfl⟩, H0.sub (m := [.base w, .row w.heap.size 24 (bagC (.slice A gs.length c) n), .own (fun k => k ≠ w.heap.size ∧ k < wr.heap.size) 29 (.slice A gs.length c) gs, .row b10 24 (bagC (.slice E p ke) (n)), .own (fun k => b10 < k) 29 (.slice E p ke) (gs)]) (by simp)⟩
                    | true =>
                      have hhm : (!(gs.getD kk noG).harm && ((harmS gs kk d.i.toNat d.z).getD kk noG).harm) = true := by
                        rw [harmS_at hkk]
                        unfold mayHarm at hmay
                        simp only [Bool.and_eq_true] at hmay
                        rw [hmay.1]
                        rfl
                      have e8 : (d.what == 0) = false := by simp [k0]
                      have e9 : decide (d.what = 0) = false := by simp [k0]
                      have e10 : (d.what == 1) = false := by simp [k1]
                      have e11 : decide (d.what = 1) = false := by simp [k1]
                      have e12 : (d.what == 2) = false := by simp [k2]
                      have e13 : decide (d.what = 2) = false := by simp [k2]
                      have e14 : (d.what == 3) = false := by simp [k3]
                      have e15 : decide (d.what = 3) = false := by simp [k3]
                      have hDR : harmT gs n d.pos d.i d.z = (harmS gs kk d.i.toNat d.z, n, 0) := by unfold harmT; rw [hpk]; dsimp only; rw [if_pos hmay]
                      clear k0 k1 k2 k3
                      have KT := Lib.hid (fun W (h : SwG W (.slice A gs.length c) gs) => Harm_any (.slice A gs.length c) n gs d.pos d.i d.z W h hL hN1)
                      rw [hDR] at KT
                      dsimp only at KT
                      go_wp2_with (first
                        | (with_reducible show wpList _ _ _ (Oper.mk _ (Op.load 24 (.tmp 3)) _ _ _ _ :: _) _ _
                           refine wpList_loadW (H0.rowAt 1 rfl) aggB rfl _ rfl rfl ?_))
                      refine (KT.out _ (H0.ownAt 2 rfl).swG).mono ?_; rintro e w3 ⟨E, p, ke, rfl, hm3⟩
                      replace H0 := (H0.call hm3.below).snoc (.own (fun k => b10 < k) 29 _ _) (hm3.ownP.imp fun k _ h => by have : b10 < k := Nat.lt_of_lt_of_le hX h; exact this)
                      simp only [List.nil_append, List.cons_append] at H0
                      clear hm3 KT c7
                      go_wp2_with (first
                        | (with_reducible show wpList _ _ _ (Oper.mk _ (Op.store 24 (.tmp 10) _) _ _ _ _ :: _) _ _
                           refine wpList_storeR (c := bagC (.slice E p ke) (n)) rfl _ _ rfl rfl rfl aggB.hi (H0.rowAt 5 rfl) rfl (bag_one _ _ _ _) ?_
                           replace H0 := H0.setRow 5 rfl (bagC (.slice E p ke) (n)) (by simp [aparts, F.row_fp, F.base_fp, F.own_fp, F.bytes_fp, -Nat.not_le, -Nat.not_lt] <;> omega)
                           simp only [List.set_cons_zero, List.set_cons_succ] at H0
                           refine Fs.gen H0 ?_
                           clear H0
                           rintro X4 H0
                           have c71 : X4.cell? ⟨wr.heap.size, 1, none⟩ = some (.int .i64 (kk : Int)) := (((H0.rowAt 3 rfl).cell 1).trans (by rw [Dd.c1, HPOS.out]))
                           have c3 := (H0.rowAt 1 rfl).cell
                           have c10 := (H0.rowAt 5 rfl).cell))
                      refine (harmed_any (.slice A gs.length c) (.slice E p ke) gs (harmS gs kk d.i.toNat d.z) kk _ (H0.ownAt 2 rfl).swG (H0.ownAt 6 rfl).swG (harmS_len _ _ _ _).symm hkk).mono ?_; rintro e X8 ⟨rfl, hz⟩
                      rw [hhm]
                      replace H0 := H0.call hz
                      clear hz
                      go_wp2_with fail
                      go_meet
                      exact ⟨_, _, sent, taken, 0, E, p, ke, rfl, rfl, by rw [hpk]; rfl, rfl, HI.out.harm kk d.i.toNat d.z, .inl rfl, H0.sub (m := [.base w, .row w.heap.size 24 (bagC (.slice A gs.length c) n), .own (fun k => k ≠ w.heap.size ∧ k < wr.heap.size) 29 (.slice A gs.length c) gs, .row b10 24 (bagC (.slice E p ke) (n)), .own (fun k => b10 < k) 29 (.slice E p ke) (harmS gs kk d.i.toNat d.z)]) (by simp)⟩

        case rest =>
          obtain ⟨gs', n', s', t', code, A', q', c', rfl, rfl, rfl, rfl, hI', hcode, H1⟩ := hcut
          have hq' := (H1.ownAt 4 rfl).swG.qlen
          subst hq'
          have hI2 := hI'
          obtain ⟨hsum, ht0, hn0, hfew, hroom, hshort⟩ := hI2
          subst hsum
          have HI2 := Lib.hid hI'
          have HSH := Lib.hid hshort
          have v1 : IntKind.i64.wrap ((gs'.length : Int) + t') = (gs'.length : Int) + t' := by rw [IntKind.wrap_i64]; omega
          have v2 : IntKind.i64.wrap ((gs'.length : Int) + t' + n') = (gs'.length : Int) + t' + n' := by rw [IntKind.wrap_i64]; omega
          have v3 : ((gs'.length : Int) + t' + n' != (gs'.length : Int) + t' + n') = false := by simp
          have v4 : decide ((gs'.length : Int) > 400) = false := decide_eq_false (by omega)
          have v5 : decide (400 < (gs'.length : Int)) = false := decide_eq_false (by omega)
          have c10 := (H1.rowAt 3 rfl).cell
          have hx3 := (H1.rowAt 3 rfl).lt
          clear hI' hshort
          rcases hcode with rfl | ⟨rfl, rfl, rfl⟩
          · clear hfew ht0 hn0 hroom
            go_wp2_with (first
              | (with_reducible show wpList _ _ _ (Oper.mk _ (Op.load 24 (.tmp 10)) _ _ _ _ :: _) _ _
                 refine wpList_loadW (H1.rowAt 3 rfl) aggB rfl _ rfl rfl ?_)
              | (with_reducible show wpList _ _ _ (Oper.mk _ (Op.store 24 (.tmp 3) _) _ _ _ _ :: _) _ _
                 refine wpList_storeR (c := bagC (.slice A' gs'.length c') n') rfl _ _ rfl rfl rfl aggB.hi (H1.rowAt 1 rfl) rfl (bag_one _ _ _ _) ?_
                 replace H1 := H1.setRow 1 rfl (bagC (.slice A' gs'.length c') n') (by simp [aparts, F.row_fp, F.base_fp, F.own_fp, F.bytes_fp, -Nat.not_le, -Nat.not_lt] <;> omega)
                 simp only [List.set_cons_zero, List.set_cons_succ] at H1
                 refine Fs.gen H1 ?_
                 clear H1
                 rintro X9 H1))
            exact ⟨⟨m + 1, _, t', n', gs', A', gs'.length, c', by omega, rfl, rfl, by go_num, by simpa using HI2.out, ((H1.sub (m := [.base w, .row w.heap.size 24 (bagC (.slice A' gs'.length c') n')]) (by simp)).snoc (.own (fun k => k ≠ w.heap.size) 29 (.slice A' gs'.length c') gs') ((H1.ownAt 4 rfl).imp fun k _ h => by have h' : b10 < k := h; show k ≠ w.heap.size; omega))⟩, by simp [intOf]; omega⟩
          · clear hfew ht0 hn0 hroom
            go_wp2_with (first
              | (with_reducible show wpList _ _ _ (Oper.mk _ (Op.load 24 (.tmp 10)) _ _ _ _ :: _) _ _
                 refine wpList_loadW (H1.rowAt 3 rfl) aggB rfl _ rfl rfl ?_)
              | (with_reducible show wpList _ _ _ (Oper.mk _ (Op.load 24 (.tmp 3)) _ _ _ _ :: _) _ _
                 refine wpList_loadW (H1.rowAt 1 rfl) aggB rfl _ rfl rfl ?_))
            refine (rsame_same _ _ _ _ _ (H1.ownAt 4 rfl).swG (H1.ownAt 2 rfl).swG).mono ?_; rintro e X8 ⟨rfl, hz⟩
            replace H1 := H1.call hz
            have c10 := (H1.rowAt 3 rfl).cell
            clear hz
            go_wp2_with (first
              | (with_reducible show wpList _ _ _ (Oper.mk _ (Op.load 24 (.tmp 10)) _ _ _ _ :: _) _ _
                 refine wpList_loadW (H1.rowAt 3 rfl) aggB rfl _ rfl rfl ?_)
              | (with_reducible show wpList _ _ _ (Oper.mk _ (Op.store 24 (.tmp 3) _) _ _ _ _ :: _) _ _
                 refine wpList_storeR (c := bagC (.slice A' gs'.length c') n') rfl _ _ rfl rfl rfl aggB.hi (H1.rowAt 1 rfl) rfl (bag_one _ _ _ _) ?_
                 replace H1 := H1.setRow 1 rfl (bagC (.slice A' gs'.length c') n') (by simp [aparts, F.row_fp, F.base_fp, F.own_fp, F.bytes_fp, -Nat.not_le, -Nat.not_lt] <;> omega)
                 simp only [List.set_cons_zero, List.set_cons_succ] at H1
                 refine Fs.gen H1 ?_
                 clear H1
                 rintro X9 H1))
            exact ⟨⟨m + 1, _, t', n', gs', A', gs'.length, c', by omega, rfl, rfl, by go_num, by simpa using HI2.out, ((H1.sub (m := [.base w, .row w.heap.size 24 (bagC (.slice A' gs'.length c') n')]) (by simp)).snoc (.own (fun k => k ≠ w.heap.size) 29 (.slice A' gs'.length c') gs') ((H1.ownAt 4 rfl).imp fun k _ h => by have h' : b10 < k := h; show k ≠ w.heap.size; omega))⟩, by simp [intOf]; omega⟩
    · obtain rfl : m = ds.length := by omega
      have HX := Lib.hid H0
      clear H0
      go_wp2_with fail
      refine (wakes_any _).mono ?_; rintro e z3 ⟨rfl, h3⟩
      have G3 := Lib.hid ((HX.out.call h3).baseAt 0 rfl)
      clear HX h3
      go_wp2
      go_ret
      exact ⟨rfl, G3.out⟩
end Go.Proofs.Ytdoigpifkdkjpaa
