/- One datagram more, or one lost. -/
import Derived.Test.YtdoigpifkdkjpaaBOwn
import Derived.Deep.RegionLaw
set_option linter.unusedVariables false
set_option maxRecDepth 100000
set_option linter.unusedSimpArgs false
namespace Go.Proofs.Ytdoigpifkdkjpaa
open Go.RowKit Go.Shelf Ms

/-- A call of a function of one argument, in a region that draws. -/
theorem step_callG {P : Program} {ops : Array Oper} {o : Oper} {a : Act} {w : World} {K : Act → World → Prop} {Q : Exit → Act → World → Prop} {E0 : Prop} (hw : Region.wanted o (yielded ops a.tmps) = true) (f : FuncId) (x : Operand) (ts : Array TypeId)
    (ho : o.op = .call { callee := .value (.func f), args := #[x], argTypes := ts }) {vx : Value} (hx : a.eval x = vx) (hr : ∀ args w, (callFunc f args).run P w = .ok (.enter f args) w) {R : Value → World → Prop} (hc : Calls P f #[vx] w fun e w' => ∃ v, e = .returned v ∧ R v w') (h : ∀ v w', R v w' → K (a.put o.dst v) w') :
    if Region.wanted o (yielded ops a.tmps) = true then Oper.wp P o a w K Q else E0 := by
  rw [if_pos hw]
  unfold Oper.wp execOp
  have hev : a.eval (.func f) = .func (.func f) #[] #[] := rfl
  simp only [ho, resolve, invoke, Sem.run_bind, Sem.run_pure, Result.andThen_ok, List.map_toArray, List.map_cons, List.map_nil, hx, hev, Deferred.ofValue, Array.append_empty, hr]
  refine hc.mono ?_
  rintro e w' ⟨v, rfl, hR⟩
  exact h v w' hR
theorem three_boxes (w : World) (c z y : Array Value) (t u s : TypeId) : Rw (((w.alloc (.cells c t)).alloc (.cells z u)).alloc (.cells y s)) w.heap.size t c ∧ Rw (((w.alloc (.cells c t)).alloc (.cells z u)).alloc (.cells y s)) (w.heap.size + 1) u z ∧ Rw (((w.alloc (.cells c t)).alloc (.cells z u)).alloc (.cells y s)) (w.heap.size + 1 + 1) s y ∧ Below w.heap.size w (((w.alloc (.cells c t)).alloc (.cells z u)).alloc (.cells y s)) := by
  obtain ⟨r1, r2, B0⟩ := two_boxes w c z t u
  refine ⟨r1.alloc _, r2.alloc _, ?_, B0.alloc B0.size _⟩
  have := Rw.new ((w.alloc (.cells c t)).alloc (.cells z u)) y s
  simpa using this
/-- What goes on in a row's memory leaves the rest. -/
theorem rw_grown {w w' : World} {b : Nat} {t : TypeId} {c : Array Value} {row : Option Nat} (h : Rw w b t c) (hg : w.grownBy w' row) (hne : row ≠ some b) : Rw w' b t c := (hg.block b h.lt (fun e => hne e.symm)).trans h
theorem gr_row (X : World) (b : Nat) (c : Array Value) : X.grownBy (X.setRow b c) (some b) := ⟨rfl, rfl, rfl, by simp [World.setRow], fun k _ hk => Go.setRow_other X b k c (fun e => hk (by rw [e]))⟩
set_option maxHeartbeats 8000000 in
theorem sent_put (A : Option Addr) (c : Nat) (n : Int) (gs : List Gr) (g : Gr) (u : Value) (p : Nat → Prop) (w : World) (hs : OwnP p w 29 (.slice A gs.length c) gs) (hu : Sw w u (bv g.bytes)) (hl : gs.length < 400) (hg : g.bytes.length ≤ 120) :
    Calls Try.prog 34 #[.agg (bagC (.slice A gs.length c) n), .agg (g.c u)] w fun e w' => ∃ A' q c', e = .returned (.agg (bagC (.slice A' q c') n)) ∧ OwnP (fun k => (p k ∧ k < w.heap.size) ∨ w.heap.size ≤ k) w' 29 (.slice A' q c') (gs ++ [g]) ∧ w.grownBy w' (Value.slice A gs.length c).ownBlock := by
  obtain ⟨A0, c0, rfl⟩ := hu.form
  rw [bv_length] at hu ⊢
  obtain ⟨r1, r2, r3, B0⟩ := three_boxes w (bagC (.slice A gs.length c) n) (g.c (.slice A0 g.bytes.length c0)) (bagC nilB 0) 24 29 24
  have hsz : (((w.alloc (.cells (bagC (.slice A gs.length c) n) 24)).alloc (.cells (g.c (.slice A0 g.bytes.length c0)) 29)).alloc (.cells (bagC nilB 0) 24)).heap.size = w.heap.size + 1 + 1 + 1 := by simp
  have hrow := hs.row
  have hd1 : decide ((gs.length : Int) ≥ 400) = false := decide_eq_false (by omega)
  have hd2 : decide ((g.bytes.length : Int) > 120) = false := decide_eq_false (by omega)
  have S0 := (hs.imp (q := fun k => p k ∧ k < w.heap.size) (fun k h1 h2 => ⟨h2, h1⟩)).below B0
  have U0 := hu.below B0
  have HL := Lib.hid hl
  have HG := Lib.hid hg
  have HRW := Lib.hid hrow
  have c1 := r1.cell
  have c2 := r2.cell
  have H0 := Lib.hid (And.intro r1 (And.intro r2 (And.intro r3 (And.intro B0 (And.intro S0 (And.intro U0 hsz))))))
  clear r1 r2 r3 B0 S0 U0 hs hu hrow hsz hl hg
  go_enter Try.func34, Try.ntmps34
  go_wp2_with fail
  refine wp_scope_fwd ?_
  go_wp2_with fail
  refine gen_code (fun W => Rw W w.heap.size 24 (bagC (.slice A gs.length c) n) ∧ Rw W (w.heap.size + 1) 29 (g.c (.slice A0 g.bytes.length c0)) ∧ Rw W (w.heap.size + 1 + 1) 24 (bagC nilB 0) ∧ Below w.heap.size w W ∧ OwnP (fun k => p k ∧ k < w.heap.size) W 29 (.slice A gs.length c) gs ∧ Sw W (.slice A0 g.bytes.length c0) (bv g.bytes) ∧ W.heap.size = w.heap.size + 1 + 1 + 1) H0.out ?_
  clear H0 c1 c2
  rintro W ⟨r1, r2, r3, B0, S0, U0, hsz⟩
  have hb0 : Below W.heap.size W W.drew := (Below.refl _ _).drew
  have k1 : ∀ X, Below W.heap.size W X → X.cell? ⟨w.heap.size, 0, none⟩ = some (.slice A gs.length c) := fun X h => (r1.below h).cell 0
  have k20 : ∀ X, Below W.heap.size W X → X.cell? ⟨w.heap.size + 1, 0, none⟩ = some (.int .i64 g.to) := fun X h => (r2.below h).cell 0
  have k21 : ∀ X, Below W.heap.size W X → X.cell? ⟨w.heap.size + 1, 1, none⟩ = some (.slice A0 g.bytes.length c0) := fun X h => (r2.below h).cell 1
  have k22 : ∀ X, Below W.heap.size W X → X.cell? ⟨w.heap.size + 1, 2, none⟩ = some (.bool g.harm) := fun X h => (r2.below h).cell 2
  have R1 := Lib.hid r1
  have R3 := Lib.hid r3
  have HB0 := Lib.hid B0
  have HS := Lib.hid S0
  have HU := Lib.hid (U0.below hb0)
  have HZ := Lib.hid hsz
  clear r1 r2 r3 B0 S0 U0 hsz
  go_region_law
    (first
      | (refine step_callG rfl 40 (.tmp 17) _ rfl rfl (enters_of Try.func40 (by kernel_rfl) rfl) (R := fun v w' => ∃ A' q c', v = .agg (g.c (.slice A' q c')) ∧ Made W.drew w' 5 (.slice A' q c') (bv g.bytes)) ((owned_any g _ W.drew HU.out (by have := HG.out; omega)).mono (by rintro e w' ⟨A', q', c', rfl, hm⟩; exact ⟨_, rfl, A', q', c', rfl, hm⟩)) ?_
         rintro v2 w2 ⟨A2, q2, d2, rfl, hm2⟩
         have hb2 : Below W.heap.size W w2 := hb0.trans hm2.below
         have hb3 : Below W.heap.size W (w2.alloc (.cells (g.c (.slice A2 q2 d2)) 29)) := hb2.alloc hb2.size _
         have k3 : ∀ o, (w2.alloc o).cell? ⟨w.heap.size, 0, none⟩ = some (.slice A gs.length c) := fun o => k1 _ (hb2.alloc hb2.size o)
         have HO := Lib.hid (owns_below hm2.own (box_below w2 (.cells (g.c (.slice A2 q2 d2)) 29)))
         have RN := Rw.new w2 (g.c (.slice A2 q2 d2)) 29
         have HCL := Lib.hid (show ∀ j y, (cells3 g (.slice A2 q2 d2))[j]? = some y → (w2.alloc (.cells (g.c (.slice A2 q2 d2)) 29)).cell? ((⟨w2.heap.size, 0, none⟩ : Addr).add j) = some y from fun j y hy => by
           rw [add_plain, Nat.zero_add, RN.cell]
           simpa [Gr.c, cells3] using hy)
         clear RN hm2)
      | (refine step_snocP (q := fun k => (p k ∧ k < w.heap.size) ∨ W.heap.size ≤ k) elG rfl (.tmp 16) (.tmp 19) rfl rfl HS.out (fun k hk => .inl hk) (fun k hk => .inr hk) hb3 (by have := HO.out; rw [bv_length] at this; exact this) rfl HCL.out (by have := HL.out; omega) rfl ?_
         intro v4 w4 hm4 hg4
         obtain ⟨A4, c4, hv4⟩ := hm4.swG.form
         rw [show (gs ++ [g]).length = gs.length + 1 by simp] at hv4
         subst hv4
         have r14 := rw_grown (R1.out.below hb3) hg4 (fun e => by have := (HRW.out _ e).2; omega)
         have r34 := rw_grown (R3.out.below hb3) hg4 (fun e => by have := (HRW.out _ e).2; omega)
         have x4 := r14.cell
         have y4 := r14.free
         have R14 := Lib.hid r14
         have R34 := Lib.hid r34
         have HG4 := Lib.hid (gr_then (gr_of_below HB0.out (Value.slice A gs.length c).ownBlock) (gr_then (gr_of_below hb3 (Value.slice A gs.length c).ownBlock) hg4 (.inl rfl)) (.inl rfl))
         have HM4 := Lib.hid hm4
         clear r14 r34 hg4 hm4))
  all_goals
    refine gen_exit (fun X => Rw X w.heap.size 24 (bagC (.slice A4 (gs.length + 1) c4) n) ∧ Rw X (w.heap.size + 1 + 1) 24 (bagC nilB 0) ∧ OwnP (fun k => (p k ∧ k < w.heap.size) ∨ W.heap.size ≤ k) X 29 (.slice A4 (gs.length + 1) c4) (gs ++ [g]) ∧ w.grownBy X (Value.slice A gs.length c).ownBlock)
      ⟨R14.out.set 0 _, R34.out.set_other (by omega) 0 _, HM4.out.set (by have := HZ.out; omega) 0 _, gr_set (p := ⟨w.heap.size, 0, none⟩) HG4.out (.inl (Nat.le_refl _)) _⟩ ?_
    clear R14 R34 HM4 HG4 k1 k20 k21 k22 k3 x4 y4 hb2 hb3 HO HCL
    rintro X ⟨r1, r3, hX, hg⟩
    go_wp2_with (first
      | (with_reducible show wpList _ _ _ (Oper.mk _ (Op.load 24 _) _ _ _ _ :: _) _ _
         refine wpList_loadW r1 aggB rfl _ rfl rfl ?_)
      | (with_reducible show wpList _ _ _ (Oper.mk _ (Op.store 24 _ _) _ _ _ _ :: _) _ _
         refine wpList_storeR (c := bagC (.slice A4 (gs.length + 1) c4) n) rfl _ _ rfl rfl rfl aggB.hi r3 rfl (bag_one _ _ _ _) ?_))
    refine fwd_ret (bodyPost_ret (results_cell_row rfl _ _ _ _ _ _ _ rfl (r3.setRow (c' := bagC (.slice A4 (gs.length + 1) c4) n)) Try.underlying24 rfl aggB.hi) rfl ⟨A4, _, c4, rfl, ?_, ?_⟩)
    · exact (hX.setRow (by have := HZ.out; omega) _).imp fun k _ hk => hk.imp id fun h => by have := HZ.out; omega
    · exact gr_then hg (gr_row X (w.heap.size + 1 + 1) _) (.inr (fun g e => by injection e with e; omega))
set_option maxHeartbeats 4000000 in
theorem sent_lost (A : Option Addr) (q c : Nat) (n : Int) (g : Gr) (u : Value) (w : World) (hq : (q : Int) ≤ 9223372036854775807) (hu : Sw w u (bv g.bytes)) (hl : 400 ≤ q ∨ 120 < g.bytes.length) :
    Calls Try.prog 34 #[.agg (bagC (.slice A q c) n), .agg (g.c u)] w fun e w' => e = .returned (.agg (bagC (.slice A q c) (IntKind.i64.wrap (n + 1)))) ∧ Below w.heap.size w w' := by
  obtain ⟨A0, c0, rfl⟩ := hu.form
  rw [bv_length] at hu ⊢
  have hul := hu.len
  rw [bv_length] at hul
  obtain ⟨r1, r2, r3, B0⟩ := three_boxes w (bagC (.slice A q c) n) (g.c (.slice A0 g.bytes.length c0)) (bagC nilB 0) 24 29 24
  have H0 := Lib.hid (And.intro r1 (And.intro r2 (And.intro r3 B0)))
  have hcc : ((g.c (.slice A0 g.bytes.length c0))[1]? = some (.slice A0 g.bytes.length c0)) := rfl
  clear r1 r2 r3 B0 hu
  obtain ⟨K, hK⟩ : ∃ K, IntKind.i64.wrap (n + 1) = K := ⟨_, rfl⟩
  rw [hK]
  by_cases h4 : 400 ≤ q
  · have hd1 : decide ((q : Int) ≥ 400) = true := decide_eq_true (by omega)
    go_enter Try.func34, Try.ntmps34
    go_wp2_with fail
    refine wp_scope_fwd ?_
    refine gen_code (fun W => Rw W w.heap.size 24 (bagC (.slice A q c) n) ∧ Rw W (w.heap.size + 1) 29 (g.c (.slice A0 g.bytes.length c0)) ∧ Rw W (w.heap.size + 1 + 1) 24 (bagC nilB 0) ∧ Below w.heap.size w W) H0.out ?_
    clear H0
    rintro W ⟨r1, r2, r3, B0⟩
    have c1 := r1.cell
    have c2 := r2.cell
    go_wp2_with fail
    go_step3; refine fwd_goto _ rfl ?_
    go_wp2_with (first
      | (with_reducible show wpList _ _ _ (Oper.mk _ (Op.store 3 _ _) _ _ _ _ :: _) _ _
         refine wpList_store1 r1 (by kernel_rfl) rfl _ _ rfl (j := 1) rfl (v := .int .i64 K) rfl (by show 1 < 2; decide) rfl rfl ?_
         refine gen_w (fun X => Rw X w.heap.size 24 (bagC (.slice A q c) K) ∧ Rw X (w.heap.size + 1 + 1) 24 (bagC nilB 0) ∧ Below w.heap.size w X)
           ⟨r1.set 1 _, r3.set_other (by omega) 1 _, B0.setCell (p := ⟨w.heap.size, 1, none⟩) (Nat.le_refl _) _⟩ ?_
         clear r1 r2 r3 B0 c1 c2
         rintro X ⟨r1, r3, B0⟩)
      | (with_reducible show wpList _ _ _ (Oper.mk _ (Op.load 24 _) _ _ _ _ :: _) _ _
         refine wpList_loadW r1 aggB rfl _ rfl rfl ?_)
      | (with_reducible show wpList _ _ _ (Oper.mk _ (Op.store 24 _ _) _ _ _ _ :: _) _ _
         refine wpList_storeR (c := bagC (.slice A q c) K) rfl _ _ rfl rfl rfl aggB.hi r3 rfl (bag_one _ _ _ _) ?_))
    exact nog_ret (bodyPost_ret (results_cell_row rfl _ _ _ _ _ _ _ rfl (r3.setRow (c' := bagC (.slice A q c) K)) Try.underlying24 rfl aggB.hi) rfl ⟨rfl, below_setRow B0 (by omega) _⟩)
  · have h5 : 120 < g.bytes.length := hl.resolve_left h4
    have hd1 : decide ((q : Int) ≥ 400) = false := decide_eq_false (by omega)
    have hd2 : decide ((g.bytes.length : Int) > 120) = true := decide_eq_true (by omega)
    go_enter Try.func34, Try.ntmps34
    go_wp2_with fail
    refine wp_scope_fwd ?_
    refine gen_code (fun W => Rw W w.heap.size 24 (bagC (.slice A q c) n) ∧ Rw W (w.heap.size + 1) 29 (g.c (.slice A0 g.bytes.length c0)) ∧ Rw W (w.heap.size + 1 + 1) 24 (bagC nilB 0) ∧ Below w.heap.size w W) H0.out ?_
    clear H0
    rintro W ⟨r1, r2, r3, B0⟩
    have c1 := r1.cell
    have c2 := r2.cell
    go_wp2_with fail
    go_step3; refine fwd_goto _ rfl ?_
    go_wp2_with (first
      | (with_reducible show wpList _ _ _ (Oper.mk _ (Op.store 3 _ _) _ _ _ _ :: _) _ _
         refine wpList_store1 r1 (by kernel_rfl) rfl _ _ rfl (j := 1) rfl (v := .int .i64 K) rfl (by show 1 < 2; decide) rfl rfl ?_
         refine gen_w (fun X => Rw X w.heap.size 24 (bagC (.slice A q c) K) ∧ Rw X (w.heap.size + 1 + 1) 24 (bagC nilB 0) ∧ Below w.heap.size w X)
           ⟨r1.set 1 _, r3.set_other (by omega) 1 _, B0.setCell (p := ⟨w.heap.size, 1, none⟩) (Nat.le_refl _) _⟩ ?_
         clear r1 r2 r3 B0 c1 c2
         rintro X ⟨r1, r3, B0⟩)
      | (with_reducible show wpList _ _ _ (Oper.mk _ (Op.load 24 _) _ _ _ _ :: _) _ _
         refine wpList_loadW r1 aggB rfl _ rfl rfl ?_)
      | (with_reducible show wpList _ _ _ (Oper.mk _ (Op.store 24 _ _) _ _ _ _ :: _) _ _
         refine wpList_storeR (c := bagC (.slice A q c) K) rfl _ _ rfl rfl rfl aggB.hi r3 rfl (bag_one _ _ _ _) ?_))
    exact nog_ret (bodyPost_ret (results_cell_row rfl _ _ _ _ _ _ _ rfl (r3.setRow (c' := bagC (.slice A q c) K)) Try.underlying24 rfl aggB.hi) rfl ⟨rfl, below_setRow B0 (by omega) _⟩)
end Go.Proofs.Ytdoigpifkdkjpaa
