/- The document's own: one that is taken. -/
import Derived.Test.YtdoigpifkdkjpaaBRSend
import Derived.Test.YtdoigpifkdkjpaaBTake
set_option linter.unusedVariables false
set_option maxRecDepth 100000
set_option linter.unusedSimpArgs false
namespace Go.Proofs.Ytdoigpifkdkjpaa
open Go.RowKit Go.Shelf Ms

/-- 'append' of a part, in a region that draws. -/
theorem step_joinG {P : Program} {w : World} {t e : TypeId} {z : Value} {bytes : Nat} (E : ElN P t e z 3 bytes) {ops : Array Oper} {o : Oper} {a : Act} {K : Act → World → Prop} {Q : Exit → Act → World → Prop} {E0 : Prop} (hw : Region.wanted o (yielded ops a.tmps) = true) (s x : Operand)
    (ho : o.op = .call { callee := .builtin .append, args := #[s, x], argTypes := #[t, t] }) {v : Value} (hs : a.eval s = v) {base : Nat} {qs : List (Gr × Value)} (hown : w.ownsRow base e 3 v qs.length (cellsG qs)) {ad : Addr} {m c : Nat} {ps : List (Gr × Value)} (hxe : a.eval x = .slice (some ad) m c) (hl : ps.length = m) (hr : Rd w ad (cellsG ps))
    (h1 : ∀ p ∈ ps, p.2.oneCell' = true) (hby : (qs.length + m) * bytes ≤ 140737488355328) (hbase : base ≤ w.heap.size)
    (h : ∀ v' w', w'.ownsRow base e 3 v' (qs ++ ps).length (cellsG (qs ++ ps)) → w.grownBy w' v.ownBlock → K (a.put o.dst v') w') : if Region.wanted o (yielded ops a.tmps) = true then Oper.wp P o a w K Q else E0 := by
  rw [if_pos hw]
  obtain ⟨v', w', hrun, h2, h3, _⟩ := run_joinG (w := w) E o.type hown (c := c) hl hr h1 hby hbase
  unfold Oper.wp execOp
  simp only [ho, resolve, invoke, builtin, Sem.run_bind, Sem.run_pure, Result.andThen_ok, List.map_toArray, List.map_cons, List.map_nil, hs, hxe, hrun]
  exact h v' w' h2 h3
set_option maxHeartbeats 8000000 in
theorem rTake_any (s : Value) (n : Int) (gs : List Gr) (i : Int) (w : World) (hs : SwG w s gs) (hl : ∀ g ∈ gs, g.bytes.length ≤ 1000) (hn : gs.length ≤ 1000) :
    Calls Try.prog 11 #[.agg (bagC s n), .int .i64 i] w fun e w' => ∃ A q c u, e = .returned (.tuple #[.agg (bagC (.slice A q c) n), .agg ((takeS gs i).2.1.c u), .bool (takeS gs i).2.2]) ∧ MadeG w w' 29 (.slice A q c) (takeS gs i).1 ∧ w'.ownsRow w.heap.size 5 1 u (takeS gs i).2.1.bytes.length (bv (takeS gs i).2.1.bytes) := by
  obtain ⟨A0, c0, rfl⟩ := hs.form
  obtain ⟨r1, r2, r3, B0⟩ := three_boxes w (bagC (.slice A0 gs.length c0) n) (bagC nilB 0) (noG.c nilB) 24 24 29
  have hsz : (((w.alloc (.cells (bagC (.slice A0 gs.length c0) n) 24)).alloc (.cells (bagC nilB 0) 24)).alloc (.cells (noG.c nilB) 29)).heap.size = w.heap.size + 1 + 1 + 1 := by simp
  have H0 := Lib.hid (And.intro r1 (And.intro r2 (And.intro r3 (And.intro B0 (And.intro hsz (hs.below B0))))))
  have HLE := Lib.hid hl
  have HN := Lib.hid hn
  clear r1 r2 r3 B0 hs hsz hl hn
  obtain ⟨pk, hpk⟩ : ∃ pk, pick gs i = pk := ⟨_, rfl⟩
  unfold takeS
  rw [hpk]
  go_enter Try.func11, Try.ntmps11
  go_wp2_with (first
    | (with_reducible show wpList _ _ _ (Oper.mk _ (Op.load 24 _) _ _ _ _ :: _) _ _
       refine wpList_loadW H0.out.1 aggB rfl _ rfl rfl ?_))
  refine (rOwn_any _ n gs _ H0.out.2.2.2.2.2 HLE.out HN.out).mono ?_; rintro e w2 ⟨A2, q2, c2, rfl, hm⟩
  obtain rfl : q2 = gs.length := by
    obtain ⟨_, _, hv2⟩ := hm.swG.form
    injection hv2
  have q1 := H0.out.1.below hm.below
  have q2 := H0.out.2.1.below hm.below
  have q3 := H0.out.2.2.1.below hm.below
  have hb := H0.out.2.2.2.1.trans (hm.below.mono H0.out.2.2.2.1.size)
  have hz : w.heap.size + 1 + 1 + 1 ≤ w2.heap.size := by have := hm.below.size; have := H0.out.2.2.2.2.1; omega
  have hO : OwnP (fun k => w.heap.size + 1 + 1 + 1 ≤ k) w2 29 (.slice A2 gs.length c2) gs := hm.ownP.imp (fun k _ hk => by have := H0.out.2.2.2.2.1; omega)
  have HQ := Lib.hid (And.intro q1 (And.intro q2 (And.intro q3 (And.intro hb (And.intro hz hO)))))
  clear q1 q2 q3 hb hz hO H0 hm
  cases pk with
  | none =>
    by_cases hneg : i < 0
    · have d1 : decide (i < 0) = true := decide_eq_true hneg
      clear hneg hpk
      go_wp2_with (first
        | (with_reducible show wpList _ _ _ (Oper.mk _ (Op.store 24 (.tmp 2) _) _ _ _ _ :: _) _ _
           refine wpList_storeR (c := bagC (.slice A2 gs.length c2) n) rfl _ _ rfl rfl rfl aggB.hi HQ.out.1 rfl (bag_one _ _ _ _) ?_
           refine gen_w (fun X => Rw X w.heap.size 24 (bagC (.slice A2 gs.length c2) n) ∧ Rw X (w.heap.size + 1) 24 (bagC nilB 0) ∧ Rw X (w.heap.size + 1 + 1) 29 (noG.c nilB) ∧ Below w.heap.size w X ∧ w.heap.size + 1 + 1 + 1 ≤ X.heap.size ∧ OwnP (fun k => w.heap.size + 1 + 1 + 1 ≤ k) X 29 (.slice A2 gs.length c2) gs)
             ⟨HQ.out.1.setRow, HQ.out.2.1.setRow_other (by omega), HQ.out.2.2.1.setRow_other (by omega), below_setRow HQ.out.2.2.2.1 (Nat.le_refl _) _, by have := HQ.out.2.2.2.2.1; simp [World.setRow]; omega, HQ.out.2.2.2.2.2.setRow (by omega) _⟩ ?_
           clear HQ
           rintro X ⟨r1, r2, r3, B0, hsz, hO⟩
           have c1 := r1.cell
           have HX := Lib.hid (And.intro r1 (And.intro r2 (And.intro r3 (And.intro B0 (And.intro hsz hO)))))
           clear r1 r2 r3 B0 hO)
        | (with_reducible show wpList _ _ _ (Oper.mk _ (Op.load 24 _) _ _ _ _ :: _) _ _
           refine wpList_loadW HX.out.1 aggB rfl _ rfl rfl ?_)
        | (with_reducible show wpList _ _ _ (Oper.mk _ (Op.store 24 (.tmp 4) _) _ _ _ _ :: _) _ _
           refine wpList_storeR (c := bagC (.slice A2 gs.length c2) n) rfl _ _ rfl rfl rfl aggB.hi HX.out.2.1 rfl (bag_one _ _ _ _) ?_)
        | (with_reducible show wpList _ _ _ (Oper.mk _ (Op.store 29 (.tmp 5) _) _ _ _ _ :: _) _ _
           refine wpList_storeR (c := noG.c nilB) rfl _ _ rfl rfl rfl aggG.hi (HX.out.2.2.1.setRow_other (by omega)) rfl (Gr.one _ _ _ _) ?_))
      obtain ⟨r1, r2, r3, B0, hsz, hO⟩ := HX.out
      have y4 := (r2.setRow (c' := bagC (.slice A2 gs.length c2) n)).setRow_other (g := w.heap.size + 1 + 1) (c' := noG.c nilB) (by omega)
      have y5 := Rw.setRow (c' := noG.c nilB) (r3.setRow_other (g := w.heap.size + 1) (c' := bagC (.slice A2 gs.length c2) n) (by omega))
      exact bodyPost_ret (results_ccr rfl rfl rfl rfl y4 aggB y5 aggG) rfl ⟨A2, _, c2, nilB, rfl, ((hO.setRow (by omega) _).setRow (by omega) _).made (fun k hk => by omega) (below_setRow (below_setRow B0 (by omega) _) (by omega) _), nil_owns _ _⟩
    · have d1 : decide (i < 0) = false := decide_eq_false hneg
      have hge : (gs.length : Int) ≤ i := (pick_none hpk).resolve_left hneg
      have d2 : decide (i ≥ (gs.length : Int)) = true := decide_eq_true hge
      clear hneg hpk
      go_wp2_with (first
        | (with_reducible show wpList _ _ _ (Oper.mk _ (Op.store 24 (.tmp 2) _) _ _ _ _ :: _) _ _
           refine wpList_storeR (c := bagC (.slice A2 gs.length c2) n) rfl _ _ rfl rfl rfl aggB.hi HQ.out.1 rfl (bag_one _ _ _ _) ?_
           refine gen_w (fun X => Rw X w.heap.size 24 (bagC (.slice A2 gs.length c2) n) ∧ Rw X (w.heap.size + 1) 24 (bagC nilB 0) ∧ Rw X (w.heap.size + 1 + 1) 29 (noG.c nilB) ∧ Below w.heap.size w X ∧ w.heap.size + 1 + 1 + 1 ≤ X.heap.size ∧ OwnP (fun k => w.heap.size + 1 + 1 + 1 ≤ k) X 29 (.slice A2 gs.length c2) gs)
             ⟨HQ.out.1.setRow, HQ.out.2.1.setRow_other (by omega), HQ.out.2.2.1.setRow_other (by omega), below_setRow HQ.out.2.2.2.1 (Nat.le_refl _) _, by have := HQ.out.2.2.2.2.1; simp [World.setRow]; omega, HQ.out.2.2.2.2.2.setRow (by omega) _⟩ ?_
           clear HQ
           rintro X ⟨r1, r2, r3, B0, hsz, hO⟩
           have c1 := r1.cell
           have HX := Lib.hid (And.intro r1 (And.intro r2 (And.intro r3 (And.intro B0 (And.intro hsz hO)))))
           clear r1 r2 r3 B0 hO)
        | (with_reducible show wpList _ _ _ (Oper.mk _ (Op.load 24 _) _ _ _ _ :: _) _ _
           refine wpList_loadW HX.out.1 aggB rfl _ rfl rfl ?_)
        | (with_reducible show wpList _ _ _ (Oper.mk _ (Op.store 24 (.tmp 4) _) _ _ _ _ :: _) _ _
           refine wpList_storeR (c := bagC (.slice A2 gs.length c2) n) rfl _ _ rfl rfl rfl aggB.hi HX.out.2.1 rfl (bag_one _ _ _ _) ?_)
        | (with_reducible show wpList _ _ _ (Oper.mk _ (Op.store 29 (.tmp 5) _) _ _ _ _ :: _) _ _
           refine wpList_storeR (c := noG.c nilB) rfl _ _ rfl rfl rfl aggG.hi (HX.out.2.2.1.setRow_other (by omega)) rfl (Gr.one _ _ _ _) ?_))
      obtain ⟨r1, r2, r3, B0, hsz, hO⟩ := HX.out
      have y4 := (r2.setRow (c' := bagC (.slice A2 gs.length c2) n)).setRow_other (g := w.heap.size + 1 + 1) (c' := noG.c nilB) (by omega)
      have y5 := Rw.setRow (c' := noG.c nilB) (r3.setRow_other (g := w.heap.size + 1) (c' := bagC (.slice A2 gs.length c2) n) (by omega))
      exact bodyPost_ret (results_ccr rfl rfl rfl rfl y4 aggB y5 aggG) rfl ⟨A2, _, c2, nilB, rfl, ((hO.setRow (by omega) _).setRow (by omega) _).made (fun k hk => by omega) (below_setRow (below_setRow B0 (by omega) _) (by omega) _), nil_owns _ _⟩
  | some k =>
    obtain ⟨rfl, hk⟩ := pick_some hpk
    have d1 : decide ((k : Int) < 0) = false := decide_eq_false (by omega)
    have d2 : decide ((k : Int) ≥ (gs.length : Int)) = false := decide_eq_false (by omega)
    have d3 : decide (gs.length ≤ k) = false := decide_eq_false (by omega)
    have ik2 : (k : Int) < (gs.length : Int) := by omega
    have ik : (0 : Int) ≤ (k : Int) := by omega
    clear hpk
    have HK := Lib.hid hk
    clear hk
    go_wp2_with (first
      | (with_reducible show wpList _ _ _ (Oper.mk _ (Op.store 24 (.tmp 2) _) _ _ _ _ :: _) _ _
         refine wpList_storeR (c := bagC (.slice A2 gs.length c2) n) rfl _ _ rfl rfl rfl aggB.hi HQ.out.1 rfl (bag_one _ _ _ _) ?_
         refine gen_w (fun X => Rw X w.heap.size 24 (bagC (.slice A2 gs.length c2) n) ∧ Rw X (w.heap.size + 1) 24 (bagC nilB 0) ∧ Rw X (w.heap.size + 1 + 1) 29 (noG.c nilB) ∧ Below w.heap.size w X ∧ w.heap.size + 1 + 1 + 1 ≤ X.heap.size ∧ OwnP (fun k => w.heap.size + 1 + 1 + 1 ≤ k) X 29 (.slice A2 gs.length c2) gs)
           ⟨HQ.out.1.setRow, HQ.out.2.1.setRow_other (by omega), HQ.out.2.2.1.setRow_other (by omega), below_setRow HQ.out.2.2.2.1 (Nat.le_refl _) _, by have := HQ.out.2.2.2.2.1; simp [World.setRow]; omega, HQ.out.2.2.2.2.2.setRow (by omega) _⟩ ?_
         clear HQ
         rintro X ⟨r1, r2, r3, B0, hsz, hO⟩
         have c1 := r1.cell
         obtain ⟨ps, hgs, hQ⟩ := hO.ownQ
         have hlen : gs.length = ps.length := by rw [← hgs, List.length_map]
         have hk' : k < ps.length := by rw [← hlen]; exact HK.out
         obtain ⟨b, rfl, hpb, hblt, -, x1, x2, x3, -⟩ := hQ.at_ k hk'
         have HLG := Lib.hid (run_loadG (P := Try.prog) aggG x1 x2 x3)
         have H1 := Lib.hid (gr_one' (g := ps[k].1) (Sw.of_sl (Sl.of_own (hQ.nest.own _ (List.getElem_mem hk')))))
         have HX := Lib.hid (And.intro r1 (And.intro r2 (And.intro r3 (And.intro B0 (And.intro hsz hQ)))))
         have HGS := Lib.hid (And.intro hgs (And.intro hlen hk'))
         clear r1 r2 r3 B0 hO hQ x1 x2 x3 hgs hlen)
      | (with_reducible show wpList _ _ _ (Oper.mk _ (Op.load 29 _) _ _ _ _ :: _) _ _
         refine wpList_loadR rfl _ rfl rfl HLG.out ?_)
      | (with_reducible show wpList _ _ _ (Oper.mk _ (Op.store 29 (.tmp 7) _) _ _ _ _ :: _) _ _
         refine wpList_storeR (c := ps[k].1.c ps[k].2) rfl _ _ rfl rfl rfl aggG.hi (Rw.new X (noG.c nilB) 29) rfl H1.out ?_
         refine gen_w (fun Y => Rw Y X.heap.size 29 (ps[k].1.c ps[k].2) ∧ Below X.heap.size X Y) ⟨(Rw.new X (noG.c nilB) 29).setRow, below_setRow (box_below X _) (Nat.le_refl _) _⟩ ?_
         rintro Y ⟨rY, bY⟩))
    simp only [Act.put]
    have hQY := HX.out.2.2.2.2.2.below bY
    have hps : ps ≠ [] := by rintro rfl; simp at hk'
    obtain ⟨b', hb', hln, _, _⟩ := OwnG.ln hQY.row hQY.nest hps
    injection hb' with hb'
    injection hb' with hb'
    subst hb'
    obtain ⟨a1, cut1, rd1⟩ := run_cut3 (P := Try.prog) elG hln 0 k (Nat.zero_le _) (by have := HK.out; omega) none (some (.int .i64 (k : Int))) (.inr ⟨rfl, rfl⟩) (.inl rfl)
    obtain ⟨a2, cut2, rd2⟩ := run_cut3 (P := Try.prog) elG hln (k + 1) gs.length (by have := HK.out; omega) (Nat.le_refl _) (some (.int .i64 ((k : Int) + 1))) none (.inl (by simp)) (.inr ⟨rfl, rfl⟩)
    have hlen := HGS.out.2.1
    have e1 : (ps.take k).drop 0 = ps.take k := by simp
    have e2 : (ps.take gs.length).drop (k + 1) = ps.drop (k + 1) := by rw [List.take_of_length_le (by omega)]
    rw [e1] at rd1
    rw [e2] at rd2
    have l1 : (ps.take k).length = k - 0 := by simp; omega
    have l2 : (ps.drop (k + 1)).length = gs.length - (k + 1) := by simp; omega
    have o1 : ∀ q ∈ ps.take k, q.2.oneCell' = true := fun q hq => hln.one q (List.mem_of_mem_take hq)
    have o2 : ∀ q ∈ ps.drop (k + 1), q.2.oneCell' = true := fun q hq => hln.one q (List.mem_of_mem_drop hq)
    have HL1 := Lib.hid l1
    have HL2 := Lib.hid l2
    have HO1 := Lib.hid o1
    have HO2 := Lib.hid o2
    have HRD1 := Lib.hid rd1
    have HRD2 := Lib.hid rd2
    have hgn := HN.out
    have hwr : IntKind.i64.wrap ((k : Int) + 1) = (k : Int) + 1 := by rw [IntKind.wrap_i64]; omega
    have hlnn := Lib.hid hln
    have HL3 := Lib.hid (show (k + (gs.length - (k + 1))) * 40 ≤ 140737488355328 by omega)
    clear e1 e2 l1 l2 o1 o2 rd1 rd2 hln
    have r1Y := HX.out.1.below bY
    have hb0 : Below Y.heap.size Y Y.drew := (Below.refl _ _).drew
    have k1 : ∀ Z, Below Y.heap.size Y Z → Z.cell? ⟨w.heap.size, 0, none⟩ = some (.slice (some ⟨b, 0, none⟩) gs.length c2) := fun Z h => (r1Y.below h).cell 0
    have k3 : ∀ o, ((Y.alloc o).drew).cell? ⟨w.heap.size, 0, none⟩ = some (.slice (some ⟨b, 0, none⟩) gs.length c2) := fun o => k1 _ (((Below.refl Y.heap.size Y).alloc (Nat.le_refl _) o).drew)
    have HRY := Lib.hid (And.intro r1Y (And.intro rY (And.intro bY hQY)))
    have hbb : Below Y.heap.size Y ((Y.alloc (.cells #[] 29)).drew) := ((Below.refl Y.heap.size Y).alloc (Nat.le_refl _) _).drew
    have HLEN := Lib.hid hlen
    have HGK := Lib.hid (show gs.getD k noG = ps[k].1 by rw [getD_at HK.out]; simp [← HGS.out.1])
    clear hlen
    clear r1Y rY bY hQY
    refine wp_to (fun a Z => ∃ (A5 : Option Addr) (q5 c5 : Nat) (x0 x1 x3 x8 x9 x10 x11 x12 x13 x14 x15 x16 x17 x18 x19 x20 x21 x22 x23 x24 x25 x26 x27 x28 x29 x30 x31 x32 x33 x34 x35 x36 x37 x38 x39 x40 : Value), a = { tmps := #[x0, x1, .pointer (some ⟨w.heap.size, 0, none⟩), x3, .pointer (some ⟨w.heap.size + 1, 0, none⟩), .pointer (some ⟨w.heap.size + 1 + 1, 0, none⟩), .bool false, .pointer (some ⟨X.heap.size, 0, none⟩), x8, x9, x10, x11, x12, x13, x14, x15, x16, x17, x18, x19, x20, x21, x22, x23, x24, x25, x26, x27, x28, x29, x30, x31, x32, x33, x34, x35, x36, x37, x38, x39, x40], defers := [] } ∧ Rw Z w.heap.size 24 (bagC (.slice A5 q5 c5) n) ∧ Rw Z X.heap.size 29 (ps[k].1.c ps[k].2) ∧ Rw Z (w.heap.size + 1) 24 (bagC nilB 0) ∧ Rw Z (w.heap.size + 1 + 1) 29 (noG.c nilB) ∧ OwnP (fun q => w.heap.size + 1 + 1 + 1 ≤ q) Z 29 (.slice A5 q5 c5) ((butK ps k).map (·.1)) ∧ Z.ownsRow (w.heap.size + 1 + 1 + 1) 5 1 ps[k].2 ps[k].1.bytes.length (bv ps[k].1.bytes) ∧ Below w.heap.size w Z) ?_ ?_
    rotate_left
    · have hTX := HX.out.2.2.2.2.1
      rintro a Z ⟨A5, q5, c5, x0, x1, x3, x8, x9, x10, x11, x12, x13, x14, x15, x16, x17, x18, x19, x20, x21, x22, x23, x24, x25, x26, x27, x28, x29, x30, x31, x32, x33, x34, x35, x36, x37, x38, x39, x40, rfl, z2, z7, z4, z5, zO, zu, zb⟩
      have HSL := Lib.hid (gr_one' (g := ps[k].1) (Sw.of_sl (Sl.of_own zu)))
      have HGB := Lib.hid (show (butK ps k).map (·.1) = butK gs k by rw [butK_map, HGS.out.1])
      go_wp2_with fail
      refine wp_region_held_drew (S := (fun Z => Rw Z w.heap.size 24 (bagC (.slice A5 q5 c5) n) ∧ Rw Z X.heap.size 29 (ps[k].1.c ps[k].2) ∧ (∃ c, c.size = 2 ∧ Rw Z (w.heap.size + 1) 24 c) ∧ (∃ c, c.size = 3 ∧ Rw Z (w.heap.size + 1 + 1) 29 c))) (by kernel_rfl) ⟨z2, z7, ⟨_, rfl, z4⟩, ⟨_, rfl, z5⟩⟩ (fun hS => ?_)
      refine wpAnyH_take (i := 0) (oi := ⟨some 39, .load 24 (.tmp 2), 24, _, _, none⟩) (v := .agg (bagC (.slice A5 q5 c5) n)) rfl (by kernel_rfl) (by kernel_rfl) (by kernel_rfl) (fun _ _ _ h => h) (yields_load rfl (.tmp 2) rfl rfl (fun w hS => run_loadR aggB hS.1)) hS ?_
      simp only [Act.put, List.setIfInBounds_toArray, List.set_cons_zero, List.set_cons_succ]
      refine wpAnyH_take (i := 1) (oi := ⟨some 40, .load 29 (.tmp 7), 29, _, _, none⟩) (v := .agg (ps[k].1.c ps[k].2)) rfl (by kernel_rfl) (by kernel_rfl) (by kernel_rfl) (fun _ _ _ h => h) (yields_load rfl (.tmp 7) rfl rfl (fun w hS => run_loadR aggG hS.2.1)) hS ?_
      simp only [Act.put, List.setIfInBounds_toArray, List.set_cons_zero, List.set_cons_succ]
      refine wpAnyH_ready (rs := [2]) (by kernel_rfl) (by simp) ?_
      refine AllReadyH.cons (o := ⟨none, .store 24 (.tmp 4) (.tmp 39), 0, _, _, none⟩) rfl (fun K hK => ?_) AllReadyH.nil
      refine step_storeRow (c := bagC (.slice A5 q5 c5) n) rfl (.tmp 4) (.tmp 39) rfl rfl rfl aggB.hi (c0 := bagC nilB 0) z4 rfl (bag_one _ _ _ _) ?_
      refine hK.out _ _ ⟨z2.setRow_other (by omega), z7.setRow_other (by omega), ⟨_, rfl, Rw.setRow (c := bagC nilB 0) (c' := bagC (.slice A5 q5 c5) n) z4⟩, ⟨_, rfl, z5.setRow_other (by omega)⟩⟩ (fun hS => ?_)
      clear hK K
      refine wpAnyH_ready (rs := [3]) (by kernel_rfl) (by simp) ?_
      refine AllReadyH.cons (o := ⟨none, .store 29 (.tmp 5) (.tmp 40), 0, _, _, none⟩) rfl (fun K hK => ?_) AllReadyH.nil
      refine step_storeRow (c := ps[k].1.c ps[k].2) rfl (.tmp 5) (.tmp 40) rfl rfl rfl aggG.hi (c0 := noG.c nilB) (z5.setRow_other (by omega)) rfl HSL.out ?_
      refine hK.out _ _ ⟨(z2.setRow_other (by omega)).setRow_other (by omega), (z7.setRow_other (by omega)).setRow_other (by omega), ⟨_, rfl, (Rw.setRow (c := bagC nilB 0) (c' := bagC (.slice A5 q5 c5) n) z4).setRow_other (by omega)⟩, ⟨_, rfl, Rw.setRow (c := noG.c nilB) (c' := ps[k].1.c ps[k].2) (z5.setRow_other (by omega))⟩⟩ (fun hS => ?_)
      clear hK K
      refine wpAnyH_take (i := 4) (oi := ⟨some 6, .assign (.const (.bool true)), 4, _, _, none⟩) (v := .bool true) rfl (by kernel_rfl) (by kernel_rfl) (by kernel_rfl) (fun _ _ _ h => h) (.inl ⟨by rfl, fun w _ => by go_simp⟩) hS ?_
      simp only [Act.put, List.setIfInBounds_toArray, List.set_cons_zero, List.set_cons_succ]
      refine wpAnyH_done (by kernel_rfl) ?_ _
      have y4 := (Rw.setRow (c := bagC nilB 0) (c' := bagC (.slice A5 q5 c5) n) (show Rw Z.drew (w.heap.size + 1) 24 _ from z4)).setRow_other (g := (w.heap.size + 1 + 1)) (c' := ps[k].1.c ps[k].2) (by omega)
      have y5 := Rw.setRow (c := noG.c nilB) (c' := ps[k].1.c ps[k].2) ((show Rw Z.drew (w.heap.size + 1 + 1) 29 _ from z5).setRow_other (g := (w.heap.size + 1)) (c' := bagC (.slice A5 q5 c5) n) (by omega))
      have yO := ((zO.below (Below.refl Z.heap.size Z).drew).setRow (b := (w.heap.size + 1)) (by omega) (bagC (.slice A5 q5 c5) n)).setRow (b := (w.heap.size + 1 + 1)) (by omega) (ps[k].1.c ps[k].2)
      have yu := owns_setRow (owns_setRow (show Z.drew.ownsRow (w.heap.size + 1 + 1 + 1) 5 1 ps[k].2 _ _ from zu) (b := (w.heap.size + 1)) (by omega) (bagC (.slice A5 q5 c5) n)) (b := (w.heap.size + 1 + 1)) (by omega) (ps[k].1.c ps[k].2)
      have yb := below_setRow (below_setRow zb.drew (g := (w.heap.size + 1)) (by omega) (bagC (.slice A5 q5 c5) n)) (g := (w.heap.size + 1 + 1)) (by omega) (ps[k].1.c ps[k].2)
      have HY := Lib.hid (And.intro y4 (And.intro y5 (And.intro yO (And.intro yu yb))))
      clear y4 y5 yO yu yb z2 z7 z4 z5 zO zu zb hS
      go_wp2_with fail
      obtain ⟨y4, y5, yO, yu, yb⟩ := HY.out
      rw [HGB.out] at yO
      have hgk : gs[k]?.getD noG = ps[k].1 := by have := HGK.out; simpa using this
      refine bodyPost_ret (results_ccr rfl rfl rfl rfl y4 aggB y5 aggG) rfl ⟨A5, q5, c5, ps[k].2, ?_, yO.made (fun k hk => by omega) yb, ?_⟩
      · simp only [List.getD_eq_getElem?_getD, hgk]
        rfl
      · simp only [List.getD_eq_getElem?_getD, hgk]
        exact owns_mono yu (by omega)
    go_region_law
      (first
        | (refine step_joinG elG rfl (.tmp 26) (.tmp 30) rfl rfl (base := Y.heap.size) (qs := []) (owns_none (Nat.le_refl _) (w := (Y.alloc (.cells #[] 29)).drew) (heap_alloc_new Y (.cells #[] 29)) (by decide) rfl) rfl HL1.out (HRD1.out.below hbb) HO1.out (by have := HN.out; simp only [List.length_nil]; omega) hbb.size ?_
           intro v4 w4 ho4 hg4
           have hb4 : Below Y.heap.size Y w4 := below_of_none (gr_then (gr_of_below hbb none) hg4 (.inr (fun g e => by injection e with e; rw [← e]; exact Nat.le_refl _)))
           have HO4 := Lib.hid ho4
           clear ho4 hg4)
        | (refine step_joinG elG rfl (.tmp 31) (.tmp 36) rfl rfl (base := Y.heap.size) (qs := [] ++ ps.take k) HO4.out rfl HL2.out (HRD2.out.below hb4) HO2.out (by have := HL1.out; simp only [List.nil_append] at *; omega) hb4.size ?_
           intro v5 w5 ho5 hg5
           have hb5 : Below Y.heap.size Y w5 := below_of_none (gr_then (gr_of_below hb4 none) hg5 (.inr (fun g e => (HO4.out.lt g e).1)))
           rw [List.nil_append] at ho5
           obtain ⟨A5, c5, rfl⟩ := owns_slice ho5
           have hP := ownP_part HRY.out.2.2.2.nest HRY.out.2.2.2.up (butK_sub ps k) hb5 ho5
           have hXY := HRY.out.2.2.1.size
           have hTX := HX.out.2.2.2.2.1
           have r5 := HRY.out.1.below hb5
           have x5 := r5.cell
           have y5 := r5.free
           have HF5 := Lib.hid (And.intro r5 (And.intro (HRY.out.2.1.below hb5) (And.intro ((HX.out.2.1.below HRY.out.2.2.1).below hb5) (And.intro ((HX.out.2.2.1.below HRY.out.2.2.1).below hb5) (And.intro (hP.imp (q := fun q => w.heap.size + 1 + 1 + 1 ≤ q) (fun q _ h => by rcases h with h | h; exact h; omega)) (And.intro (owns_below (owns_from (HRY.out.2.2.2.nest.own _ (List.getElem_mem hk')) (k := w.heap.size + 1 + 1 + 1) (fun g e => HRY.out.2.2.2.up _ (List.getElem_mem hk') g e)) hb5) ((HX.out.2.2.2.1.trans (HRY.out.2.2.1.mono HX.out.2.2.2.1.size)).trans (hb5.mono (Nat.le_trans HX.out.2.2.2.1.size hXY)))))))))
           generalize (List.take k ps ++ List.drop (k + 1) ps).length = q5 at *
           clear ho5 hg5 hP r5 hTX hXY))
    all_goals
      have hTX := HX.out.2.2.2.2.1
      exact ⟨A5, q5, c5, _, _, _, _, _, _, _, _, _, _, _, _, _, _, _, _, _, _, _, _, _, _, _, _, _, _, _, _, _, _, _, _, _, _, _, _, rfl, HF5.out.1.set 0 _, HF5.out.2.1.set_other (by omega) 0 _, HF5.out.2.2.1.set_other (by omega) 0 _, HF5.out.2.2.2.1.set_other (by omega) 0 _, HF5.out.2.2.2.2.1.set (b := w.heap.size) (by omega) 0 _, owns_set (b := w.heap.size) HF5.out.2.2.2.2.2.1 (by omega) 0 _, HF5.out.2.2.2.2.2.2.setCell (p := ⟨w.heap.size, 0, none⟩) (Nat.le_refl _) _⟩
end Go.Proofs.Ytdoigpifkdkjpaa
