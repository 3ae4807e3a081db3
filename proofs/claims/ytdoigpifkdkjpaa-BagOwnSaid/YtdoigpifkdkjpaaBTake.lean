/- One that is taken. -/
import Derived.Test.YtdoigpifkdkjpaaBAct2
import Derived.Deep.RegionHeld
set_option linter.unusedVariables false
set_option maxRecDepth 100000
set_option linter.unusedSimpArgs false
namespace Go.Proofs.Ytdoigpifkdkjpaa
open Go.RowKit Go.Shelf Ms

section
variable {P : Program} {ops : Array Oper} {o : Oper} {a : Act} {w : World} {K : Act → World → Prop} {Q : Exit → Act → World → Prop} {E0 : Prop}
theorem step_storeRow {ty : TypeId} {b : Nat} {t : TypeId} {c : Array Value} (hw : Region.wanted o (yielded ops a.tmps) = true) (x y : Operand) (ho : o.op = .store ty x y) (hx : a.eval x = .pointer (some ⟨b, 0, none⟩)) (hy : a.eval y = .agg c) (hi : (P.info? ty).map (·.size) = some c.size) {c0 : Array Value} (h0 : Rw w b t c0) (hs : c0.size = c.size) (h1 : c.all (·.oneCell') = true)
    (h : K (a.put o.dst undef) (w.setRow b c)) : if Region.wanted o (yielded ops a.tmps) = true then Oper.wp P o a w K Q else E0 := by
  rw [if_pos hw]
  exact wp_storeRow x y ho hx hy hi h0 hs h1 h
theorem yields_load {S : World → Prop} (hw : Region.wanted o (yielded ops a.tmps) = true) (x : Operand) {ty : TypeId} (ho : o.op = .load ty x) {p : Addr} (hx : a.eval x = .pointer (some p)) {v : Value} (hr : ∀ w, S w → (Instr.loadAt ty (.pointer (some p))).run P w = .ok v w) : YieldsIf P ops S o v a :=
  .inl ⟨hw, fun w hS => by unfold execOp; simp only [ho, hx, Sem.run_bind, Sem.run_pure, Result.andThen_ok, hr w hS]⟩
end
theorem nil_owns (w : World) : ∀ n, w.ownsRow n 5 1 nilB 0 (bv noG.bytes) := fun n => World.ownsRow_nil _ _ _ _
set_option maxHeartbeats 4000000 in
theorem Take_any (s : Value) (n : Int) (gs : List Gr) (i : Int) (w : World) (hs : SwG w s gs) (hl : ∀ g ∈ gs, g.bytes.length ≤ 1000) (hn : gs.length ≤ 1000) :
    Calls Try.prog 10 #[.agg (bagC s n), .int .i64 i] w fun e w' => ∃ A q c u, e = .returned (.tuple #[.agg (bagC (.slice A q c) n), .agg ((takeS gs i).2.1.c u), .bool (takeS gs i).2.2]) ∧ MadeG w w' 29 (.slice A q c) (takeS gs i).1 ∧ w'.ownsRow w.heap.size 5 1 u (takeS gs i).2.1.bytes.length (bv (takeS gs i).2.1.bytes) := by
  obtain ⟨A0, c0, rfl⟩ := hs.form
  obtain ⟨r1, r2, r4, r5, r3, B0⟩ := five_boxes w (bagC (.slice A0 gs.length c0) n) #[.int .i64 i] (bagC nilB 0) (noG.c nilB) (noG.c nilB) 24 3 24 29 29
  have hsz : (((((w.alloc (.cells (bagC (.slice A0 gs.length c0) n) 24)).alloc (.cells #[.int .i64 i] 3)).alloc (.cells (bagC nilB 0) 24)).alloc (.cells (noG.c nilB) 29)).alloc (.cells (noG.c nilB) 29)).heap.size = w.heap.size + 1 + 1 + 1 + 1 + 1 := by simp
  have H0 := Lib.hid (And.intro r1 (And.intro r2 (And.intro r3 (And.intro B0 (And.intro hsz (hs.below B0))))))
  have H4 := Lib.hid (And.intro r4 r5)
  have HLE := Lib.hid hl
  have HN := Lib.hid hn
  have c2 := r2.cell
  clear r1 r2 r3 r4 r5 B0 hs hsz hl hn
  obtain ⟨pk, hpk⟩ : ∃ pk, pick gs i = pk := ⟨_, rfl⟩
  unfold takeS
  rw [hpk]
  cases pk with
  | none =>
    have hout := Lib.hid (pick_none hpk)
    clear hpk
    dsimp only
    go_enter Try.func10, Try.ntmps10
    go_wp2_with (first
      | (with_reducible show wpList _ _ _ (Oper.mk _ (Op.load 24 _) _ _ _ _ :: _) _ _
         refine wpList_loadW H0.out.1 aggB rfl _ rfl rfl ?_))
    refine (done_out _ n gs i _ _ H0.out.2.2.2.2.2 HLE.out HN.out hout.out).mono ?_; rintro e w3 ⟨A', q', c', rfl, hm⟩
    have HQ := Lib.hid (And.intro (H4.out.1.below hm.below) (And.intro (H0.out.2.2.1.below hm.below) (And.intro (H4.out.2.below hm.below) (And.intro (hm.ownP.imp (q := fun k => w.heap.size + 1 + 1 + 1 + 1 + 1 ≤ k) (fun k _ hk => by have := H0.out.2.2.2.2.1; omega)) (And.intro (nil_owns w3 (w.heap.size + 1 + 1 + 1 + 1 + 1)) (And.intro (H0.out.2.2.2.1.trans (hm.below.mono H0.out.2.2.2.1.size)) (show w.heap.size + 1 + 1 + 1 + 1 + 1 ≤ w3.heap.size by have := H0.out.2.2.2.2.1; have := hm.below.size; omega)))))))
    clear hm H0 H4 c2 hout
    go_wp2_with (first
      | (with_reducible show wpList _ _ _ (Oper.mk _ (Op.store 24 _ _) _ _ _ _ :: _) _ _
         refine wpList_storeR (c := bagC (.slice A' q' c') n) rfl _ _ rfl rfl rfl aggB.hi (Rw.new w3 (bagC nilB 0) 24) rfl (bag_one _ _ _ _) ?_))
    have bX : Below w3.heap.size w3 ((w3.alloc (.cells (bagC nilB 0) 24)).setRow w3.heap.size (bagC (.slice A' q' c') n)) := below_setRow (box_below w3 _) (Nat.le_refl _) _
    refine gen_code (fun W => Rw W w3.heap.size 24 (bagC (.slice A' q' c') n) ∧ Rw W (w.heap.size + 1 + 1 + 1 + 1) 29 (noG.c nilB) ∧ Rw W (w.heap.size + 1 + 1) 24 (bagC nilB 0) ∧ Rw W (w.heap.size + 1 + 1 + 1) 29 (noG.c nilB) ∧ OwnP (fun k => w.heap.size + 1 + 1 + 1 + 1 + 1 ≤ k) W 29 (.slice A' q' c') gs ∧ W.ownsRow (w.heap.size + 1 + 1 + 1 + 1 + 1) 5 1 nilB noG.bytes.length (bv noG.bytes) ∧ Below w.heap.size w W ∧ w.heap.size + 1 + 1 + 1 + 1 + 1 ≤ w3.heap.size)
      ⟨(Rw.new w3 (bagC nilB 0) 24).setRow, HQ.out.2.1.below bX, HQ.out.1.below bX, HQ.out.2.2.1.below bX, HQ.out.2.2.2.1.below bX, owns_below HQ.out.2.2.2.2.1 bX, HQ.out.2.2.2.2.2.1.trans (bX.mono HQ.out.2.2.2.2.2.1.size), HQ.out.2.2.2.2.2.2⟩ ?_
    clear HQ bX
    obtain ⟨b8, hb8⟩ : ∃ b8, w3.heap.size = b8 := ⟨_, rfl⟩
    rw [hb8]
    clear hb8
    rintro W ⟨z8, z7, z4, z5, zO, zu, zb, z6⟩
    refine wp_region_held_drew (S := (fun X => Rw X b8 24 (bagC (.slice A' q' c') n) ∧ Rw X (w.heap.size + 1 + 1 + 1 + 1) 29 (noG.c nilB) ∧ (∃ c, c.size = 2 ∧ Rw X (w.heap.size + 1 + 1) 24 c) ∧ (∃ c, c.size = 3 ∧ Rw X (w.heap.size + 1 + 1 + 1) 29 c))) (by kernel_rfl) ⟨z8, z7, ⟨_, rfl, z4⟩, ⟨_, rfl, z5⟩⟩ (fun hS => ?_)
    refine wpAnyH_take (i := 0) (oi := ⟨some 17, .load 24 (.tmp 8), 24, _, _, none⟩) (v := .agg (bagC (.slice A' q' c') n)) rfl (by kernel_rfl) (by kernel_rfl) (by kernel_rfl) (fun _ _ _ h => h) (yields_load rfl (.tmp 8) rfl rfl (fun w hS => run_loadR aggB hS.1)) hS ?_
    simp only [Act.put, List.setIfInBounds_toArray, List.set_cons_zero, List.set_cons_succ]
    refine wpAnyH_take (i := 1) (oi := ⟨some 18, .load 29 (.tmp 7), 29, _, _, none⟩) (v := .agg (noG.c nilB)) rfl (by kernel_rfl) (by kernel_rfl) (by kernel_rfl) (fun _ _ _ h => h) (yields_load rfl (.tmp 7) rfl rfl (fun w hS => run_loadR aggG hS.2.1)) hS ?_
    simp only [Act.put, List.setIfInBounds_toArray, List.set_cons_zero, List.set_cons_succ]
    refine wpAnyH_take (i := 2) (oi := ⟨some 19, .move (.tmp 9), 35, _, _, none⟩) (v := .int .i64 2) rfl (by kernel_rfl) (by kernel_rfl) (by kernel_rfl) (fun _ _ _ h => h) (.inl ⟨by rfl, fun w _ => by go_simp⟩) hS ?_
    simp only [Act.put, List.setIfInBounds_toArray, List.set_cons_zero, List.set_cons_succ]
    refine wpAnyH_take (i := 3) (oi := ⟨some 20, .binOp .eql 35 (.tmp 19) (.const (.int .i64 0)) 35, 4, _, _, none⟩) (v := .bool false) rfl (by kernel_rfl) (by kernel_rfl) (by kernel_rfl) (fun _ _ _ h => h) (.inl ⟨by rfl, fun w _ => by go_simp⟩) hS ?_
    simp only [Act.put, List.setIfInBounds_toArray, List.set_cons_zero, List.set_cons_succ]
    refine wpAnyH_ready (rs := [4]) (by kernel_rfl) (by simp) ?_
    refine AllReadyH.cons (o := ⟨none, .store 24 (.tmp 4) (.tmp 17), 0, _, _, none⟩) rfl (fun K hK => ?_) AllReadyH.nil
    refine step_storeRow (c := bagC (.slice A' q' c') n) rfl (.tmp 4) (.tmp 17) rfl rfl rfl aggB.hi (c0 := bagC nilB 0) z4 rfl (bag_one _ _ _ _) ?_
    refine hK.out _ _ ⟨z8.setRow_other (by omega), z7.setRow_other (by omega), ⟨_, rfl, Rw.setRow (c := bagC nilB 0) (c' := bagC (.slice A' q' c') n) z4⟩, ⟨_, rfl, z5.setRow_other (by omega)⟩⟩ (fun hS => ?_)
    clear hK K
    refine wpAnyH_ready (rs := [5]) (by kernel_rfl) (by simp) ?_
    refine AllReadyH.cons (o := ⟨none, .store 29 (.tmp 5) (.tmp 18), 0, _, _, none⟩) rfl (fun K hK => ?_) AllReadyH.nil
    refine step_storeRow (c := noG.c nilB) rfl (.tmp 5) (.tmp 18) rfl rfl rfl aggG.hi (c0 := noG.c nilB) (z5.setRow_other (by omega)) rfl (gr_one' (Sw.of_sl (Sl.of_own zu))) ?_
    refine hK.out _ _ ⟨(z8.setRow_other (by omega)).setRow_other (by omega), (z7.setRow_other (by omega)).setRow_other (by omega), ⟨_, rfl, (Rw.setRow (c := bagC nilB 0) (c' := bagC (.slice A' q' c') n) z4).setRow_other (by omega)⟩, ⟨_, rfl, Rw.setRow (c := noG.c nilB) (c' := noG.c nilB) (z5.setRow_other (by omega))⟩⟩ (fun hS => ?_)
    clear hK K
    refine wpAnyH_take (i := 6) (oi := ⟨some 6, .assign (.tmp 20), 4, _, _, none⟩) (v := .bool false) rfl (by kernel_rfl) (by kernel_rfl) (by kernel_rfl) (fun _ _ _ h => h) (.inl ⟨by rfl, fun w _ => by go_simp⟩) hS ?_
    simp only [Act.put, List.setIfInBounds_toArray, List.set_cons_zero, List.set_cons_succ]
    refine wpAnyH_done (by kernel_rfl) ?_ _
    have y4 := (Rw.setRow (c := bagC nilB 0) (c' := bagC (.slice A' q' c') n) (show Rw W.drew (w.heap.size + 1 + 1) 24 _ from z4)).setRow_other (g := (w.heap.size + 1 + 1 + 1)) (c' := noG.c nilB) (by omega)
    have y5 := Rw.setRow (c := noG.c nilB) (c' := noG.c nilB) ((show Rw W.drew (w.heap.size + 1 + 1 + 1) 29 _ from z5).setRow_other (g := (w.heap.size + 1 + 1)) (c' := bagC (.slice A' q' c') n) (by omega))
    have yO := ((zO.below (Below.refl W.heap.size W).drew).setRow (b := (w.heap.size + 1 + 1)) (by omega) (bagC (.slice A' q' c') n)).setRow (b := (w.heap.size + 1 + 1 + 1)) (by omega) (noG.c nilB)
    have yu := owns_setRow (owns_setRow (show W.drew.ownsRow (w.heap.size + 1 + 1 + 1 + 1 + 1) 5 1 nilB _ _ from zu) (b := (w.heap.size + 1 + 1)) (by omega) (bagC (.slice A' q' c') n)) (b := (w.heap.size + 1 + 1 + 1)) (by omega) (noG.c nilB)
    have yb := below_setRow (below_setRow zb.drew (g := (w.heap.size + 1 + 1)) (by omega) (bagC (.slice A' q' c') n)) (g := (w.heap.size + 1 + 1 + 1)) (by omega) (noG.c nilB)
    have HY := Lib.hid (And.intro y4 (And.intro y5 (And.intro yO (And.intro yu yb))))
    clear y4 y5 yO yu yb z8 z7 z4 z5 zO zu zb hS
    go_wp2_with fail
    obtain ⟨y4, y5, yO, yu, yb⟩ := HY.out
    exact bodyPost_ret (results_ccr rfl rfl rfl rfl y4 aggB y5 aggG) rfl ⟨A', q', c', nilB, rfl, yO.made (fun k hk => by omega) yb, owns_mono yu (by omega)⟩
  | some k =>
    obtain ⟨rfl, hk⟩ := pick_some hpk
    clear hpk
    dsimp only
    have hD := take_deed (w.heap.size + 1) (w.heap.size + 1 + 1 + 1 + 1) (noG.c nilB) _ gs n k H0.out.2.1 H0.out.2.2.1 rfl hk HN.out
    rw [getD_at hk]
    have HK := Lib.hid hk
    generalize gs[k] = g at *
    have HD := Lib.hid hD
    clear hD hk
    go_enter Try.func10, Try.ntmps10
    go_wp2_with (first
      | (with_reducible show wpList _ _ _ (Oper.mk _ (Op.load 24 _) _ _ _ _ :: _) _ _
         refine wpList_loadW H0.out.1 aggB rfl _ rfl rfl ?_))
    refine (done_in _ n gs k 31 _ _ H0.out.2.2.2.2.2 HLE.out HN.out HK.out (enters_of Try.func31 (by kernel_rfl) rfl) HD.out (fun r h => by injection h with h; have := H0.out.2.2.2.2.1; omega) ?hE).mono ?_
    case hE =>
      rintro X c ⟨u, h1, h2⟩
      have h7 := H0.out.2.2.2.2.1
      exact ⟨u, h1.setRow_other (by omega), owns_still h2 (fun q e => Go.setRow_other X _ q _ (by have := (h2.lt q e).1; omega))⟩
    rintro e w3 ⟨A', q', c', rfl, hO, hT, u, hU, hu⟩
    have h7 := H0.out.2.2.2.2.1
    have hb := (Turns.of_below (q := fun q => some (w.heap.size + 1 + 1 + 1 + 1) = some q) H0.out.2.2.2.1).trans hT (fun q _ h => h)
    have hb := hb.below (fun q h1 h => by injection h with h; omega)
    have HQ := Lib.hid (And.intro (hT.rw_ H4.out.1 (by intro h; injection h with h; omega)) (And.intro hU (And.intro (hT.rw_ H4.out.2 (by intro h; injection h with h; omega)) (And.intro (hO.imp (q := fun k => w.heap.size + 1 + 1 + 1 + 1 + 1 ≤ k) (fun k _ hk => by omega)) (And.intro (owns_mono hu (k := w.heap.size + 1 + 1 + 1 + 1 + 1) (by omega)) (And.intro hb (show w.heap.size + 1 + 1 + 1 + 1 + 1 ≤ w3.heap.size by have := hT.size; omega)))))))
    clear hO hT hU hu hb H0 H4 c2 h7
    go_wp2_with (first
      | (with_reducible show wpList _ _ _ (Oper.mk _ (Op.store 24 _ _) _ _ _ _ :: _) _ _
         refine wpList_storeR (c := bagC (.slice A' q' c') n) rfl _ _ rfl rfl rfl aggB.hi (Rw.new w3 (bagC nilB 0) 24) rfl (bag_one _ _ _ _) ?_))
    have bX : Below w3.heap.size w3 ((w3.alloc (.cells (bagC nilB 0) 24)).setRow w3.heap.size (bagC (.slice A' q' c') n)) := below_setRow (box_below w3 _) (Nat.le_refl _) _
    refine gen_code (fun W => Rw W w3.heap.size 24 (bagC (.slice A' q' c') n) ∧ Rw W (w.heap.size + 1 + 1 + 1 + 1) 29 (g.c u) ∧ Rw W (w.heap.size + 1 + 1) 24 (bagC nilB 0) ∧ Rw W (w.heap.size + 1 + 1 + 1) 29 (noG.c nilB) ∧ OwnP (fun k => w.heap.size + 1 + 1 + 1 + 1 + 1 ≤ k) W 29 (.slice A' q' c') (butK gs k) ∧ W.ownsRow (w.heap.size + 1 + 1 + 1 + 1 + 1) 5 1 u g.bytes.length (bv g.bytes) ∧ Below w.heap.size w W ∧ w.heap.size + 1 + 1 + 1 + 1 + 1 ≤ w3.heap.size)
      ⟨(Rw.new w3 (bagC nilB 0) 24).setRow, HQ.out.2.1.below bX, HQ.out.1.below bX, HQ.out.2.2.1.below bX, HQ.out.2.2.2.1.below bX, owns_below HQ.out.2.2.2.2.1 bX, HQ.out.2.2.2.2.2.1.trans (bX.mono HQ.out.2.2.2.2.2.1.size), HQ.out.2.2.2.2.2.2⟩ ?_
    clear HQ bX
    obtain ⟨b8, hb8⟩ : ∃ b8, w3.heap.size = b8 := ⟨_, rfl⟩
    rw [hb8]
    clear hb8
    rintro W ⟨z8, z7, z4, z5, zO, zu, zb, z6⟩
    refine wp_region_held_drew (S := (fun X => Rw X b8 24 (bagC (.slice A' q' c') n) ∧ Rw X (w.heap.size + 1 + 1 + 1 + 1) 29 (g.c u) ∧ (∃ c, c.size = 2 ∧ Rw X (w.heap.size + 1 + 1) 24 c) ∧ (∃ c, c.size = 3 ∧ Rw X (w.heap.size + 1 + 1 + 1) 29 c))) (by kernel_rfl) ⟨z8, z7, ⟨_, rfl, z4⟩, ⟨_, rfl, z5⟩⟩ (fun hS => ?_)
    refine wpAnyH_take (i := 0) (oi := ⟨some 17, .load 24 (.tmp 8), 24, _, _, none⟩) (v := .agg (bagC (.slice A' q' c') n)) rfl (by kernel_rfl) (by kernel_rfl) (by kernel_rfl) (fun _ _ _ h => h) (yields_load rfl (.tmp 8) rfl rfl (fun w hS => run_loadR aggB hS.1)) hS ?_
    simp only [Act.put, List.setIfInBounds_toArray, List.set_cons_zero, List.set_cons_succ]
    refine wpAnyH_take (i := 1) (oi := ⟨some 18, .load 29 (.tmp 7), 29, _, _, none⟩) (v := .agg (g.c u)) rfl (by kernel_rfl) (by kernel_rfl) (by kernel_rfl) (fun _ _ _ h => h) (yields_load rfl (.tmp 7) rfl rfl (fun w hS => run_loadR aggG hS.2.1)) hS ?_
    simp only [Act.put, List.setIfInBounds_toArray, List.set_cons_zero, List.set_cons_succ]
    refine wpAnyH_take (i := 2) (oi := ⟨some 19, .move (.tmp 9), 35, _, _, none⟩) (v := .int .i64 0) rfl (by kernel_rfl) (by kernel_rfl) (by kernel_rfl) (fun _ _ _ h => h) (.inl ⟨by rfl, fun w _ => by go_simp⟩) hS ?_
    simp only [Act.put, List.setIfInBounds_toArray, List.set_cons_zero, List.set_cons_succ]
    refine wpAnyH_take (i := 3) (oi := ⟨some 20, .binOp .eql 35 (.tmp 19) (.const (.int .i64 0)) 35, 4, _, _, none⟩) (v := .bool true) rfl (by kernel_rfl) (by kernel_rfl) (by kernel_rfl) (fun _ _ _ h => h) (.inl ⟨by rfl, fun w _ => by go_simp⟩) hS ?_
    simp only [Act.put, List.setIfInBounds_toArray, List.set_cons_zero, List.set_cons_succ]
    refine wpAnyH_ready (rs := [4]) (by kernel_rfl) (by simp) ?_
    refine AllReadyH.cons (o := ⟨none, .store 24 (.tmp 4) (.tmp 17), 0, _, _, none⟩) rfl (fun K hK => ?_) AllReadyH.nil
    refine step_storeRow (c := bagC (.slice A' q' c') n) rfl (.tmp 4) (.tmp 17) rfl rfl rfl aggB.hi (c0 := bagC nilB 0) z4 rfl (bag_one _ _ _ _) ?_
    refine hK.out _ _ ⟨z8.setRow_other (by omega), z7.setRow_other (by omega), ⟨_, rfl, Rw.setRow (c := bagC nilB 0) (c' := bagC (.slice A' q' c') n) z4⟩, ⟨_, rfl, z5.setRow_other (by omega)⟩⟩ (fun hS => ?_)
    clear hK K
    refine wpAnyH_ready (rs := [5]) (by kernel_rfl) (by simp) ?_
    refine AllReadyH.cons (o := ⟨none, .store 29 (.tmp 5) (.tmp 18), 0, _, _, none⟩) rfl (fun K hK => ?_) AllReadyH.nil
    refine step_storeRow (c := g.c u) rfl (.tmp 5) (.tmp 18) rfl rfl rfl aggG.hi (c0 := noG.c nilB) (z5.setRow_other (by omega)) rfl (gr_one' (Sw.of_sl (Sl.of_own zu))) ?_
    refine hK.out _ _ ⟨(z8.setRow_other (by omega)).setRow_other (by omega), (z7.setRow_other (by omega)).setRow_other (by omega), ⟨_, rfl, (Rw.setRow (c := bagC nilB 0) (c' := bagC (.slice A' q' c') n) z4).setRow_other (by omega)⟩, ⟨_, rfl, Rw.setRow (c := noG.c nilB) (c' := g.c u) (z5.setRow_other (by omega))⟩⟩ (fun hS => ?_)
    clear hK K
    refine wpAnyH_take (i := 6) (oi := ⟨some 6, .assign (.tmp 20), 4, _, _, none⟩) (v := .bool true) rfl (by kernel_rfl) (by kernel_rfl) (by kernel_rfl) (fun _ _ _ h => h) (.inl ⟨by rfl, fun w _ => by go_simp⟩) hS ?_
    simp only [Act.put, List.setIfInBounds_toArray, List.set_cons_zero, List.set_cons_succ]
    refine wpAnyH_done (by kernel_rfl) ?_ _
    have y4 := (Rw.setRow (c := bagC nilB 0) (c' := bagC (.slice A' q' c') n) (show Rw W.drew (w.heap.size + 1 + 1) 24 _ from z4)).setRow_other (g := (w.heap.size + 1 + 1 + 1)) (c' := g.c u) (by omega)
    have y5 := Rw.setRow (c := noG.c nilB) (c' := g.c u) ((show Rw W.drew (w.heap.size + 1 + 1 + 1) 29 _ from z5).setRow_other (g := (w.heap.size + 1 + 1)) (c' := bagC (.slice A' q' c') n) (by omega))
    have yO := ((zO.below (Below.refl W.heap.size W).drew).setRow (b := (w.heap.size + 1 + 1)) (by omega) (bagC (.slice A' q' c') n)).setRow (b := (w.heap.size + 1 + 1 + 1)) (by omega) (g.c u)
    have yu := owns_setRow (owns_setRow (show W.drew.ownsRow (w.heap.size + 1 + 1 + 1 + 1 + 1) 5 1 u _ _ from zu) (b := (w.heap.size + 1 + 1)) (by omega) (bagC (.slice A' q' c') n)) (b := (w.heap.size + 1 + 1 + 1)) (by omega) (g.c u)
    have yb := below_setRow (below_setRow zb.drew (g := (w.heap.size + 1 + 1)) (by omega) (bagC (.slice A' q' c') n)) (g := (w.heap.size + 1 + 1 + 1)) (by omega) (g.c u)
    have HY := Lib.hid (And.intro y4 (And.intro y5 (And.intro yO (And.intro yu yb))))
    clear y4 y5 yO yu yb z8 z7 z4 z5 zO zu zb hS
    go_wp2_with fail
    obtain ⟨y4, y5, yO, yu, yb⟩ := HY.out
    exact bodyPost_ret (results_ccr rfl rfl rfl rfl y4 aggB y5 aggG) rfl ⟨A', q', c', u, rfl, yO.made (fun k hk => by omega) yb, owns_mono yu (by omega)⟩
end Go.Proofs.Ytdoigpifkdkjpaa
