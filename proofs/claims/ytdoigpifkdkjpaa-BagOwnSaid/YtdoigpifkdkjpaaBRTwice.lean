/- The document's own: one that is there twice. -/
import Derived.Test.YtdoigpifkdkjpaaBRDrop
set_option linter.unusedVariables false
set_option maxRecDepth 100000
set_option linter.unusedSimpArgs false
namespace Go.Proofs.Ytdoigpifkdkjpaa
open Go.RowKit Go.Shelf Ms

theorem sendS_one (gs : List Gr) (n : Int) (g : Gr) : sendS (gs, n) [g] = sentS (gs, n) g := rfl
theorem swG_one {w : World} {g : Gr} {u : Value} (hu : Sw w u (bv g.bytes)) : SwG (w.alloc (.cells (g.c u) 29)) (.slice (some ⟨w.heap.size, 0, none⟩) 1 1) [g] := by
  have hr := Rw.new w (g.c u) 29
  refine .inr ⟨w.heap.size, 0, 1, rfl, by simp, Nat.le_refl _, by decide, by simp, fun j hj => ?_⟩
  obtain rfl : j = 0 := by simpa using hj
  exact ⟨hr.cell 0, ⟨u, hr.cell 1, hu.below (box_below w _)⟩, hr.cell 2⟩
set_option maxHeartbeats 8000000 in
theorem rTwice_any (s : Value) (n : Int) (gs : List Gr) (i : Int) (w : World) (hs : SwG w s gs) (hl : ∀ g ∈ gs, g.bytes.length ≤ 1000) (hn : gs.length ≤ 1000) :
    Calls Try.prog 19 #[.agg (bagC s n), .int .i64 i] w fun e w' => ∃ A q c, e = .returned (.tuple #[.agg (bagC (.slice A q c) (twiceS gs n i).2.1), .int .i64 (twiceS gs n i).2.2]) ∧ MadeG w w' 29 (.slice A q c) (twiceS gs n i).1 := by
  obtain ⟨A0, c0, rfl⟩ := hs.form
  obtain ⟨r1, r2, B0⟩ := two_boxes w (bagC (.slice A0 gs.length c0) n) (bagC nilB 0) 24 24
  have hsz : ((w.alloc (.cells (bagC (.slice A0 gs.length c0) n) 24)).alloc (.cells (bagC nilB 0) 24)).heap.size = w.heap.size + 1 + 1 := by simp
  have H0 := Lib.hid (And.intro r1 (And.intro r2 (And.intro B0 (And.intro hsz (hs.below B0)))))
  have HLE := Lib.hid hl
  have HN := Lib.hid hn
  have c1 := r1.cell
  clear r1 r2 B0 hs hsz hl hn
  have hDr : twiceS gs n i = match pick gs i with | some k => ((sentS (gs, n) (gs.getD k noG)).1, (sentS (gs, n) (gs.getD k noG)).2, 0) | none => (gs, n, 2) := rfl
  obtain ⟨pk, hpk⟩ : ∃ pk, pick gs i = pk := ⟨_, rfl⟩
  rw [hpk] at hDr
  rw [hDr]
  clear hDr
  cases pk with
  | none =>
    dsimp only
    by_cases hneg : i < 0
    · have d1 : decide (i < 0) = true := decide_eq_true hneg
      clear hneg hpk
      go_enter Try.func19, Try.ntmps19
      go_wp2_with (first
        | (with_reducible show wpList _ _ _ (Oper.mk _ (Op.load 24 _) _ _ _ _ :: _) _ _
           refine wpList_loadW H0.out.1 aggB rfl _ rfl rfl ?_))
      refine (rOwn_any _ n gs _ H0.out.2.2.2.2 HLE.out HN.out).mono ?_; rintro e w2 ⟨A2, q2, c2, rfl, hm⟩
      have HQ := Lib.hid (And.intro (H0.out.2.1.below hm.below) (And.intro (hm.ownP.imp (q := fun k => w.heap.size + 1 + 1 ≤ k) (fun k _ hk => by have := H0.out.2.2.2.1; omega)) (H0.out.2.2.1.trans (hm.below.mono H0.out.2.2.1.size))))
      clear hm H0 c1
      go_wp2_with (first
        | (with_reducible show wpList _ _ _ (Oper.mk _ (Op.store 24 (.tmp 4) _) _ _ _ _ :: _) _ _
           refine wpList_storeR (c := bagC (.slice A2 q2 c2) n) rfl _ _ rfl rfl rfl aggB.hi HQ.out.1 rfl (bag_one _ _ _ _) ?_))
      obtain ⟨r2, hO, hb⟩ := HQ.out
      exact bodyPost_ret (results_cr rfl rfl rfl (r2.setRow (c' := bagC (.slice A2 q2 c2) n)) aggB) rfl ⟨A2, q2, c2, rfl, (hO.setRow (by omega) _).made (fun k hk => by omega) (below_setRow hb (by omega) _)⟩
    · have d1 : decide (i < 0) = false := decide_eq_false hneg
      have d2 : decide (i ≥ (gs.length : Int)) = true := decide_eq_true ((pick_none hpk).resolve_left hneg)
      clear hneg hpk
      go_enter Try.func19, Try.ntmps19
      go_wp2_with (first
        | (with_reducible show wpList _ _ _ (Oper.mk _ (Op.load 24 _) _ _ _ _ :: _) _ _
           refine wpList_loadW H0.out.1 aggB rfl _ rfl rfl ?_))
      refine (rOwn_any _ n gs _ H0.out.2.2.2.2 HLE.out HN.out).mono ?_; rintro e w2 ⟨A2, q2, c2, rfl, hm⟩
      have HQ := Lib.hid (And.intro (H0.out.2.1.below hm.below) (And.intro (hm.ownP.imp (q := fun k => w.heap.size + 1 + 1 ≤ k) (fun k _ hk => by have := H0.out.2.2.2.1; omega)) (H0.out.2.2.1.trans (hm.below.mono H0.out.2.2.1.size))))
      clear hm H0 c1
      go_wp2_with (first
        | (with_reducible show wpList _ _ _ (Oper.mk _ (Op.store 24 (.tmp 4) _) _ _ _ _ :: _) _ _
           refine wpList_storeR (c := bagC (.slice A2 q2 c2) n) rfl _ _ rfl rfl rfl aggB.hi HQ.out.1 rfl (bag_one _ _ _ _) ?_))
      obtain ⟨r2, hO, hb⟩ := HQ.out
      exact bodyPost_ret (results_cr rfl rfl rfl (r2.setRow (c' := bagC (.slice A2 q2 c2) n)) aggB) rfl ⟨A2, q2, c2, rfl, (hO.setRow (by omega) _).made (fun k hk => by omega) (below_setRow hb (by omega) _)⟩
  | some k =>
    obtain ⟨rfl, hk⟩ := pick_some hpk
    dsimp only
    rw [getD_at hk]
    have d1 : decide ((k : Int) < 0) = false := decide_eq_false (by omega)
    have d2 : decide ((k : Int) ≥ (gs.length : Int)) = false := decide_eq_false (by omega)
    have d3 : decide (gs.length ≤ k) = false := decide_eq_false (by omega)
    have ik2 : (k : Int) < (gs.length : Int) := by omega
    have ik : (0 : Int) ≤ (k : Int) := by omega
    obtain ⟨b1, o1, rfl, hb1, x1, ⟨u1, y1, s1⟩, z1⟩ := H0.out.2.2.2.2.at_ k hk
    generalize gs[k] = g at *
    clear hpk hk
    rw [← sendS_one]
    obtain ⟨A1, q1, rfl⟩ := s1.form
    have HS1 := Lib.hid s1
    clear s1
    go_enter Try.func19, Try.ntmps19
    go_wp2_with fail
    refine gen_code (fun W => Rw W w.heap.size 24 (bagC (.slice (some ⟨b1, o1, none⟩) gs.length c0) n) ∧ Rw W (w.heap.size + 1) 24 (bagC nilB 0) ∧ Below w.heap.size w W ∧ W.heap.size = w.heap.size + 1 + 1 ∧ SwG W (.slice (some ⟨b1, o1, none⟩) gs.length c0) gs ∧ b1 < W.heap.size ∧
      W.cell? ⟨b1, o1 + k * 3, none⟩ = some (.int .i64 g.to) ∧ W.cell? ⟨b1, o1 + k * 3 + 1, none⟩ = some (.slice A1 (bv g.bytes).length q1) ∧ W.cell? ⟨b1, o1 + k * 3 + 2, none⟩ = some (.bool g.harm) ∧ Sw W (.slice A1 (bv g.bytes).length q1) (bv g.bytes))
      ⟨H0.out.1, H0.out.2.1, H0.out.2.2.1, H0.out.2.2.2.1, H0.out.2.2.2.2, hb1, x1, y1, z1, HS1.out⟩ ?_
    clear H0 HS1 c1 x1 y1 z1 hb1
    rintro W ⟨r1, r2, B0, hsz, hs, hb1, x1, y1, z1, s1⟩
    have hb0 : Below W.heap.size W W.drew := (Below.refl _ _).drew
    have k1 : ∀ X, Below W.heap.size W X → X.cell? ⟨w.heap.size, 0, none⟩ = some (.slice (some ⟨b1, o1, none⟩) gs.length c0) := fun X h => (r1.below h).cell 0
    have k2 : ∀ X, Below W.heap.size W X → X.cell? ⟨w.heap.size, 1, none⟩ = some (.int .i64 n) := fun X h => (r1.below h).cell 1
    have k3 : ∀ o, ((W.alloc o).drew).cell? ⟨w.heap.size, 0, none⟩ = some (.slice (some ⟨b1, o1, none⟩) gs.length c0) := fun o => k1 _ (((Below.refl W.heap.size W).alloc (Nat.le_refl _) o).drew)
    have k4 : ∀ o, ((W.alloc o).drew).cell? ⟨w.heap.size, 1, none⟩ = some (.int .i64 n) := fun o => k2 _ (((Below.refl W.heap.size W).alloc (Nat.le_refl _) o).drew)
    have hbb : Below W.heap.size W ((W.alloc (.cells (g.c (.slice A1 (bv g.bytes).length q1)) 29)).drew) := ((Below.refl W.heap.size W).alloc (Nat.le_refl _) _).drew
    have HC := Lib.hid (rSend_any (.slice (some ⟨b1, o1, none⟩) gs.length c0) n gs (.slice (some ⟨W.heap.size, 0, none⟩) 1 1) [g] ((W.alloc (.cells (g.c (.slice A1 (bv g.bytes).length q1)) 29)).drew) (hs.below hbb) ((swG_one s1).below (Below.refl _ _).drew) HLE.out HN.out)
    have HR := Lib.hid (And.intro r2 (And.intro B0 hsz))
    obtain ⟨st, hst⟩ : ∃ st, sendS (gs, n) [g] = st := ⟨_, rfl⟩
    rw [hst] at HC
    have HST := Lib.hid hst
    clear hst
    clear r1 r2 B0 hsz hs s1
    go_region_law
      (first
        | (refine step_callG2 rfl 14 (.tmp 17) (.tmp 23) _ rfl rfl rfl (enters_of Try.func14 (by kernel_rfl) rfl) (R := fun v w' => ∃ A3 q3 c3, v = .agg #[.slice A3 q3 c3, .int .i64 st.2] ∧ OwnP (fun k => w.heap.size + 1 + 1 ≤ k) w' 29 (.slice A3 q3 c3) st.1 ∧ Below W.heap.size W w')
             (HC.out.mono (by rintro e w' ⟨A3, q3, c3, rfl, hm⟩; exact ⟨_, rfl, A3, q3, c3, rfl, hm.ownP.imp (fun q _ h => by have := HR.out.2.2; have := hbb.size; omega), hbb.trans (hm.below.mono hbb.size)⟩)) ?_
           rintro v3 w3 ⟨A3, q3, c3, rfl, hO3, hb3⟩
           have r3 := HR.out.1.below hb3
           have x3 := r3.cell
           have y3 := r3.free
           have HQ := Lib.hid (And.intro r3 (And.intro hO3 (HR.out.2.1.trans (hb3.mono HR.out.2.1.size))))
           clear r3 hO3 hb3))
    all_goals
      obtain ⟨r3, hO3, hb3⟩ := HQ.out
      go_wp2_with fail
      exact bodyPost_ret (results_cr rfl rfl rfl (show Rw _ (w.heap.size + 1) 24 (bagC (.slice A3 q3 c3) st.2) from (r3.set 0 _).set 1 _) aggB) rfl (by rw [HST.out]; exact ⟨A3, q3, c3, rfl, ((hO3.set (b := w.heap.size + 1) (by omega) 0 _).set (b := w.heap.size + 1) (by omega) 1 _).made (fun k hk => by omega) ((hb3.setCell (p := ⟨w.heap.size + 1, 0, none⟩) (by show w.heap.size ≤ w.heap.size + 1; omega) _).setCell (p := ⟨w.heap.size + 1, 1, none⟩) (by show w.heap.size ≤ w.heap.size + 1; omega) _)⟩)
end Go.Proofs.Ytdoigpifkdkjpaa
