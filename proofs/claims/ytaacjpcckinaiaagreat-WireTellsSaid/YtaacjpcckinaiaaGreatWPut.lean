/- A message's payload, put together. -/
import Derived.Test.YtaacjpcckinaiaaGreatWSeq
import Derived.Test.YtaacjpcckinaiaaGreatWPutP
import Derived.Stop.RegionWithIn
set_option linter.unusedVariables false
set_option maxRecDepth 100000
set_option linter.unusedSimpArgs false
namespace Go.Proofs.YtaacjpcckinaiaaGreat
open Go.RowKit Go.Shelf Ms
attribute [local go_sem] Oper.semAt_some

/-! ### What may come next, of one message -/
theorem next_of {m : M} {s : List D} {d : D} (h : NextOf (fun _ m0 => m0 = m) s d) : (s ++ [d]) <+: heads ++ tail m.kind := by
  rcases h with h | ⟨m0, rfl, -, h⟩
  · exact h.trans (List.prefix_append _ _)
  · exact h
theorem next_mem {m : M} {s : List D} {d : D} (h : NextOf (fun _ m0 => m0 = m) s d) : d ∈ heads ++ tail m.kind := (next_of h).subset (by simp)
theorem next_len {m : M} {s : List D} {d : D} (h : NextOf (fun _ m0 => m0 = m) s d) : s.length ≤ 6 := by
  have h1 := (next_of h).length_le
  have h2 := tail_le m.kind
  have h3 : heads.length = 4 := rfl
  simp only [List.length_append, List.length_cons, List.length_nil] at h1
  omega
theorem okD_of_right {m : M} {l : List Int} (h : rightB m l = true) : ∀ d ∈ heads ++ tail m.kind, OkD m l d := by
  have hh := okHead h
  obtain ⟨k0, k1, c0, c1, f0, f1, t0, t1⟩ := hh
  obtain ⟨-, -, h4⟩ := rightB_iff.1 h
  intro d hd
  rcases List.mem_append.1 hd with hd | hd
  · simp only [heads, List.mem_cons, List.not_mem_nil, or_false] at hd
    rcases hd with rfl | rfl | rfl | rfl
    · exact ⟨by omega, by omega⟩
    · exact ⟨rfl, by simp only [geti]; omega, by simp only [geti]; omega⟩
    · exact ⟨rfl, by simp only [geti]; omega, by simp only [geti]; omega⟩
    · exact ⟨rfl, by simp only [geti]; omega, by simp only [geti]; omega⟩
  · by_cases k4 : m.kind = 4
    · simp [hasB, k4, place_iff] at h4
      rw [k4] at hd
      simp only [tail_4, List.mem_cons, List.not_mem_nil, or_false] at hd
      rcases hd with rfl | rfl
      · exact ⟨rfl, by simp only [geti]; omega, by simp only [geti]; omega⟩
      · rfl
    by_cases k5 : m.kind = 5
    · simp [hasB, k5] at h4
      rw [k5] at hd
      simp only [tail_5, List.mem_cons, List.not_mem_nil, or_false] at hd
      subst hd
      exact okIt h4
    by_cases k6 : m.kind = 6
    · simp [hasB, k6] at h4
      rw [k6] at hd
      simp only [tail_6, List.mem_cons, List.not_mem_nil, or_false] at hd
      subst hd
      have := (okIt h4.1).key
      show m.it.key.size ≤ 255
      omega
    by_cases k7 : m.kind = 7
    · simp [hasB, k7, place_iff] at h4
      rw [k7] at hd
      simp only [tail_7, List.mem_cons, List.not_mem_nil, or_false] at hd
      rcases hd with rfl | rfl
      · exact ⟨rfl, by simp only [geti]; omega, by simp only [geti]; omega⟩
      · exact okList (m := m) (decide_eq_true h4.2)
    by_cases k10 : m.kind = 10
    · simp [hasB, k10, place_iff] at h4
      rw [k10] at hd
      simp only [tail_10, List.mem_cons, List.not_mem_nil, or_false] at hd
      rcases hd with rfl | rfl
      · exact ⟨rfl, by simp only [geti]; omega, by simp only [geti]; omega⟩
      · rfl
    by_cases k11 : m.kind = 11
    · simp [hasB, k11] at h4
      rw [k11] at hd
      simp only [tail_11, List.mem_cons, List.not_mem_nil, or_false] at hd
      subst hd
      exact ⟨by omega, by omega⟩
    by_cases k12 : m.kind = 12
    · simp [hasB, k12, getB] at h4
      rw [k12] at hd
      simp only [tail_12, List.mem_cons, List.not_mem_nil, or_false] at hd
      rcases hd with rfl | rfl
      · rcases h4 with ⟨hc, h5⟩ | ⟨hc, h5⟩
        · exact ⟨by omega, by omega⟩
        · exact ⟨by omega, by omega⟩
      · intro hc
        rcases h4 with ⟨_, h5⟩ | ⟨hc', _⟩
        · exact okIt h5
        · omega
    · rw [tail_not k4 k5 k6 k7 k10 k11 k12] at hd
      cases hd
theorem seg_len {m : M} {l : List Int} : ∀ s : List D, (∀ d ∈ s, (dB m l d).length ≤ 2000) → (s.flatMap (dB m l)).length ≤ 2000 * s.length
  | [], _ => by simp
  | d :: s, h => by
    have h1 := h d (by simp)
    have h2 := seg_len s fun e he => h e (by simp [he])
    simp only [List.flatMap_cons, List.length_append, List.length_cons]
    omega

theorem partsOf_any (b : Nat) (w : World) : Calls Tryz.prog 47 #[ptr b] w fun e w' => ∃ g, e = .returned (.func (.func 71) #[] #[ptr g]) ∧ Boxed w' g 67 (ptr b) ∧ Below w.heap.size w w' := by
  have hmf := hmf
  go_enter Tryz.func47, Tryz.ntmps47
  go_wp2
  go_ret
  exact ⟨_, rfl, Boxed.new _ _ _, (Below.refl _ w).alloc (Nat.le_refl _) _⟩

set_option maxHeartbeats 2000000 in
theorem put_no (m : M) (A : Option Addr) (c : Nat) (l : List Int) (hk0 : 0 ≤ m.kind) (w : World) (hs : Sl w (.slice A l.length c) (iv l)) (hw : rightB m l = false) :
    Calls Tryz.prog 26 #[.agg (m.c (.slice A l.length c))] w fun e w' => e = .panicked (wrong 2) ∧ Below w.heap.size w w' := by
  have R0 := Rw.new w (m.c (.slice A l.length c)) 27
  have B0 := box_below w (.cells (m.c (.slice A l.length c)) 27)
  have HR := Lib.hid (Right_any m A c l hk0 _ (hs.below B0))
  rw [right_eq, hw] at HR
  go_enter Tryz.func26, Tryz.ntmps26
  go_wp2_with (first
    | (with_reducible show wpList _ _ _ (Oper.mk _ (Op.load _ (.tmp 1)) _ _ _ _ :: _) _ _
       refine wpList_loadR rfl _ rfl rfl (run_loadR (c := m.c (.slice A l.length c)) agg27 R0) ?_)
    | (go_at_call 46; refine HR.out.mono ?_; rintro e w1 ⟨rfl, hb1⟩)
    | (go_at_call 45; refine (must_no _ _).mono ?_; rintro e w2 ⟨rfl, rfl⟩))
  exact ⟨rfl, rfl, B0.trans (hb1.mono B0.size)⟩

/-- What holds between rounds: the box's slice has the bytes of what is done. -/
def PutI (wb : World) (B : Nat) (m : M) (l : List Int) (s : List D) (W : World) : Prop := ∃ vb, Boxed W B 28 vb ∧ Made wb W 5 vb (bv (s.flatMap (dB m l))) ∧ ∀ d ∈ s, (dB m l d).length ≤ 2000
theorem PutI.below {wb W W' : World} {B : Nat} {m : M} {l : List Int} {s : List D} (h : PutI wb B m l s W) (hb : Below W.heap.size W W') : PutI wb B m l s W' := by
  obtain ⟨vb, h1, h2, h3⟩ := h
  exact ⟨vb, boxed_below h1 hb, h2.behind hb, h3⟩
theorem Made.own_ {wb W W' : World} {e : TypeId} {v : Value} {xs : List Value} {row : Option Nat} (h : Made wb W e v xs) (hg : W.grownBy W' row) (hr : ∀ r, row = some r → wb.heap.size ≤ r ∧ ∃ o : Obj, W.heap[r]? = some o ∧ o.isCells = false) : Made wb W' e v xs := by
  refine ⟨⟨h.own.1, ?_⟩, h.below.grown hg h.below.size (fun k e => (hr k e).1)⟩
  rcases h.own.2 with h1 | ⟨g, cap, cur, rfl, h1, h2, h3⟩
  · exact .inl h1
  · refine .inr ⟨g, cap, cur, rfl, h1, ?_, h3⟩
    exact (Kt.own (T := fun _ => false) hg hr).same _ _ _ _ rfl h2
theorem putI_own {wb : World} {B : Nat} {m : M} {l : List Int} {N : Nat} (hN : wb.heap.size ≤ N) : OwnFrom N (PutI wb B m l) := by
  intro s W W' row ⟨vb, h1, h2, h3⟩ hg hr
  exact ⟨vb, (Kt.own (T := fun _ => false) hg hr).boxed h1 rfl, h2.own_ hg (fun r e => ⟨Nat.le_trans hN (hr r e).1, (hr r e).2⟩), h3⟩

theorem opIn_append {F : Fence} {n : Nat} {P : Program} {o : Oper} {a : Act} {w w' : World} {K : Act → World → Prop} {Q : Exit → Act → World → Prop} {s x : Operand} {t : TypeId} {v vx v2 : Value} (ho : o.op = .call { callee := .builtin .append, args := #[s, x], argTypes := #[t, t] }) (hs : a.eval s = v) (hx : a.eval x = vx)
    (hrun : (Builtin.append_ #[t, t] o.type #[v, vx]).run P w = .ok v2 w') (h : K (a.put o.dst v2) w') : o.wpIn F n P a w K Q := by
  unfold Oper.wpIn
  refine ⟨by simp [Oper.about, ho, resolve, Target.leads, Sem.run_pure], ?_⟩
  rw [Oper.semAt_plain F _ _ (by rw [ho]; intro c hc'; cases hc')]
  simp [execOp, ho, resolve, invoke, builtin, hs, hx, hrun, Result.andThen]
  exact h

theorem if_yes {c : Prop} [Decidable c] {A B : Prop} (hc : c) (h : A) : if c then A else B := by rw [if_pos hc]; exact h
theorem Kt.ownrow {T : TypeId → Bool} {X Y : World} {base k : Nat} {e : TypeId} {v : Value} {xs : List Value} (hg : X.grownBy Y v.ownBlock) (hr : X.ownsRow base e 1 v k xs) (he : T e = true) : Kt T X Y :=
  ⟨hg.size, fun j c t s ht hj => (hg.block j (Array.getElem?_eq_some_iff.1 hj).1 (fun e' => by
    rcases hr.2 with ⟨rfl, _⟩ | ⟨g, cap, cur, rfl, _, hgb, _⟩
    · simp [Value.ownBlock] at e'
    · obtain rfl : j = g := by simpa [Value.ownBlock] using e'
      rw [hj] at hgb
      cases hgb
      rw [he] at ht
      cases ht)).trans hj⟩
theorem tk5 (d : D) : Tk d 5 = true := by cases d <;> rfl
theorem tk28 (d : D) : Tk d 28 = true := by cases d <;> rfl
theorem put_fin {wb W W1 W2 : World} (N : Nat) {B k : Nat} {d : D} {m : M} {l : List Int} {s : List D} {vb v2 : Value} {xs : List Value} (hbl : Below W.heap.size W W1) (hv1 : Boxed W1 B 28 vb) (hm1 : Made wb W1 5 vb (bv (s.flatMap (dB m l))))
    (hown2 : W2.ownsRow wb.heap.size 5 1 v2 k xs) (hg2 : W1.grownBy W2 vb.ownBlock) (hxs : xs = bv ((s ++ [d]).flatMap (dB m l))) (hk : k = xs.length) (hlen : ∀ e ∈ s ++ [d], (dB m l e).length ≤ 2000) (hB : wb.heap.size ≤ B) :
    KeepsFrom N W (W2.setCell ⟨B, 0, none⟩ v2) ∧ Kt (Tk d) W (W2.setCell ⟨B, 0, none⟩ v2) ∧ PutI wb B m l (s ++ [d]) (W2.setCell ⟨B, 0, none⟩ v2) := by
  have hv2 := hv1.kept hg2 (hv1.not_row (by decide) hm1.own)
  refine ⟨((KeepsFrom.of_grownBy (gr_of_below hbl none) (by simp)).trans ((Num.keeps_row hg2 hm1.own).from _)).trans ((KeepsOthers.setCell _ _ _).from _), ((Kt.below hbl).trans (Kt.ownrow hg2 hm1.own (tk5 d))).trans (Kt.setCell (p := ⟨B, 0, none⟩) hv2 (tk28 d) _), ⟨v2, hv2.set _, ⟨?_, ?_⟩, hlen⟩⟩
  · subst hxs hk
    exact hown2.kept (grownBy_setCell' W2 _ _) (.inr (hv2.not_row (by decide) hown2).symm)
  · exact (hm1.below.grown hg2 hm1.below.size hm1.row).setCell (p := ⟨B, 0, none⟩) hB _

set_option maxHeartbeats 4000000 in
theorem put_yes (m : M) (A : Option Addr) (c : Nat) (l : List Int) (w : World) (hs : Sl w (.slice A l.length c) (iv l)) (hw : rightB m l = true) :
    Calls Tryz.prog 26 #[.agg (m.c (.slice A l.length c))] w fun e w' => ∃ v, e = .returned v ∧ Slf w.heap.size w' v (bv (payB m l)) ∧ Below w.heap.size w w' := by
  have hk0 := (okHead hw).k0
  have hok := okD_of_right hw
  have R0 := Rw.new w (m.c (.slice A l.length c)) 27
  have B0 := box_below w (.cells (m.c (.slice A l.length c)) 27)
  have HR := Lib.hid (Right_any m A c l (by omega) _ (hs.below B0))
  rw [right_eq, hw] at HR
  have HS := Lib.hid hs
  have HO := Lib.hid hok
  clear hok hs hw
  refine calls_of_wpE Tryz.func26 rfl ?_
  simp only [Tryz.ntmps26, List.size_toArray, List.length_cons, List.length_nil, Nat.reduceAdd, Nat.reduceSub, Array.replicate_succ, Array.replicate_zero, List.push_toArray, List.append_toArray, List.nil_append, List.cons_append]
  refine wpE_then ?_
  go_wp2_with fail
  refine wpE_then ?_
  go_wp2_with (first
    | (with_reducible show wpList _ _ _ (Oper.mk _ (Op.load _ (.tmp 1)) _ _ _ _ :: _) _ _
       refine wpList_loadR rfl _ rfl rfl (run_loadR (c := m.c (.slice A l.length c)) agg27 R0) ?_)
    | (go_at_call 46; refine HR.out.mono ?_; rintro e w1 ⟨rfl, hb1⟩)
    | (go_at_call 45; refine (must_yes _ _).mono ?_; rintro e w2 ⟨rfl, rfl⟩))
  have R1 := R0.below hb1
  have B1 := B0.trans (hb1.mono B0.size)
  clear R0 B0 hb1 HR
  refine wpE_then ?_
  go_wp2_with fail
  refine wpE_seq ?_
  refine wpE_then ?_
  have bB := Boxed.new w1 28 (.slice none 0 0)
  have hb2 := (Below.refl _ w1).alloc (Nat.le_refl _) (.cells #[.slice none 0 0] 28)
  go_wp2_with (go_at_call 47; refine (partsOf_any _ _).mono ?_; rintro e w3 ⟨g, rfl, hg, hb3⟩)
  have hB4 : Below w1.heap.size w1 w3 := hb2.trans (hb3.mono hb2.size)
  have bB3 := boxed_below bB hb3
  have hw3 : w1.heap.size < w3.heap.size := bB3.lt
  have hwb : w.heap.size < w1.heap.size := R1.lt
  clear bB hb2 hb3
  refine wpE_block ?_
  refine wpE_range (gf := 71) (lb := #[ptr g]) rfl (enters_of Tryz.func71 (by kernel_rfl) rfl) (parts_seq g w.heap.size (fun _ m0 => m0 = m) w3 hg) (fun _ => rfl) (fun h k => Kt.trans h k) (fun x W l o o' h1 h2 => Kt.putObj o' h1 h2)
    (PutI w1 w1.heap.size m l) (fun _ _ => False) (fun s A B h hb => h.below hb) (putI_own hB4.size) (fun s A ⟨vb, _, h2, _⟩ => ⟨m, _, R1.below h2.below, rfl⟩) ⟨_, bB3, ⟨World.ownsRow_nil _ _ _ _, hB4⟩, by simp⟩
    (fun s x s' a' W => ∃ f t cp ct pa, x.2 = partV f t cp ct ∧ a' = { tmps := #[.agg (m.c (.slice A l.length c)), ptr w.heap.size, .slice none 0 0, ptr w1.heap.size, ptr pa, .agg (m.c (.slice A l.length c)), .bool true, .tuple #[], .func (.func 71) #[] #[ptr g], .agg (partC f t cp ct), undef, undef, undef, undef, undef, undef], defers := [] } ∧ Rw W pa 71 (partC f t cp ct) ∧ PutI w1 w1.heap.size m l s W ∧ NxP w.heap.size (fun _ m0 => m0 = m) s x s' W)
    ?own ?assign ?body ?done ?pan
  case own =>
    intro s x s' a' _ W W' row ⟨f, t, cp, ct, pa, h1, h2, h3, h4, h5, h6, m0, s0, h7, h8⟩ hgr hr
    have k := Kt.own (T := fun _ => false) hgr hr
    exact ⟨f, t, cp, ct, pa, h1, h2, k.same _ _ _ _ rfl h3, putI_own hB4.size s W W' row h4 hgr hr, h5, h6, m0, s0, h7, h8.kt k ⟨rfl, rfl, rfl, rfl, rfl, rfl, rfl, rfl, rfl⟩⟩
  case assign =>
    rintro q s ⟨d, v⟩ s' W K hsz hI ⟨rfl, hnx, m0, s0, hm0, hp⟩ hK
    obtain rfl : m = m0 := hm0.symm
    obtain ⟨f, t, cp, ct, rfl⟩ := hp.form
    have r0 := Rw.new W #[.nilFunc, .nilFunc] 71
    have r2 := r0.setRow (c' := partC f t cp ct)
    have hB2 : Below W.heap.size W ((W.alloc (.cells #[.nilFunc, .nilFunc] 71)).setRow W.heap.size (partC f t cp ct)) := below_setRow (box_below W _) (Nat.le_refl _) _
    have HK := Lib.hid hK
    have HP := Lib.hid hp
    clear hK hp
    dsimp only [encP]
    gi_wp2_with (with_reducible show wpListIn _ _ _ _ _ (Oper.mk _ (Op.store _ (.tmp 4) _) _ _ _ _ :: _) _ _
                 refine wpListIn_storeR (c := partC f t cp ct) rfl _ _ rfl rfl rfl aggP.hi r0 rfl (part_one _ _ _ _) ?_)
    refine HK.out _ _ (KeepsFrom.of_grownBy (gr_of_below hB2 none) (by simp)) (Kt.below hB2) ?_
    exact ⟨f, t, cp, ct, _, rfl, rfl, r2, hI.below hB2, rfl, hnx, m, s0, rfl, HP.out.kt (Kt.below hB2) tp27⟩
  case body =>
    rintro q s ⟨d, v⟩ s' a' W hsz ⟨f, t, cp, ct, pa, rfl, rfl, hpa, ⟨vb, hvb, hM, hlen⟩, rfl, hnx, m0, s0, hm0, hp⟩
    obtain rfl : m = m0 := hm0.symm
    have hdm := HO.out d (next_mem hnx)
    have hsl := next_len hnx
    obtain ⟨f', t', cp', ct', hv, hen, hdl, hcall⟩ := part_put (w := W.drew) (PartIs.kt hp (Kt.below (Below.refl _ W).drew) tp27) (R1.below hM.drew.below) ((HS.out.below B1).below hM.drew.below) hdm
    obtain ⟨⟨rfl, rfl⟩, rfl, rfl⟩ : (f = f' ∧ cp = cp') ∧ t = t' ∧ ct = ct' := by simpa [partV, partC] using hv
    have hb1 : ∀ {W' : World}, Below W.drew.heap.size W.drew W' → Boxed W' w1.heap.size 28 vb := fun hb => boxed_below (w := W.drew) hvb hb
    have hM1 : ∀ {W' : World}, Below W.drew.heap.size W.drew W' → Made w1 W' 5 vb (bv (s.flatMap (dB m l))) := fun hb => Made.behind (w := W.drew) hM.drew hb
    have hsum := seg_len s hlen
    obtain ⟨A', c', rfl⟩ := hM.sl.form
    have hc0 := hvb.cell
    have hcp := hpa.cell 0
    have HC := Lib.hid hcall
    have HB := Lib.hid (And.intro (@hb1) (@hM1))
    have HL := Lib.hid (And.intro hlen hsum)
    clear hcall hb1 hM1 hp hnx hdm hv hlen hsum
    gi_wp2
    refine wpIn_region_any (by kernel_rfl) ?_
    change wpAnyIn _ _ _ _ _ _ _ _ _ (World.drew _)
    refine wpAnyIn_ready (rs := [0, 1]) (by kernel_rfl) (by simp) ?_
    refine AllReadyIn.cons rfl (fun K hK => ?_) ?_
    · go_simp
      refine hK _ _ ?_
      clear hK K
      refine wpAnyIn_ready (rs := [1]) (by kernel_rfl) (by simp) ?_
      refine AllReadyIn.cons rfl (fun K hK => ?_) ?_
      · go_simp
        refine hK _ _ ?_
        clear hK K
        refine wpAnyIn_ready (rs := [2]) (by kernel_rfl) (by simp) ?_
        refine AllReadyIn.cons rfl (fun K hK => ?_) ?_
        · go_simp
          refine hK _ _ ?_
          clear hK K
          refine wpAnyIn_ready (rs := [3]) (by kernel_rfl) (by simp) ?_
          refine AllReadyIn.cons rfl (fun K hK => ?_) ?_
          · go_simp
            refine ⟨trivial, (CallsIn.inRound q (callsIn_wide.2 HC.out)).mono ?_⟩
            rintro e W1 ⟨v', rfl, hs1, hbl⟩
            have hv1 := HB.out.1 hbl
            have hm1 := HB.out.2 hbl
            have hc1 := hv1.cell
            refine hK _ _ ?_
            clear hK K
            refine wpAnyIn_ready (rs := [4]) (by kernel_rfl) (by simp) ?_
            refine AllReadyIn.cons rfl (fun K hK => ?_) ?_
            · have hl1 := HL.out.2
              obtain ⟨v2, W2, hrun, hown2, hg2, hat2⟩ := run_app (P := Tryz.prog) Num.el23 w1.heap.size 28 _ _ _ hm1.own _ _ hs1 (bv_one _) (by rw [bv_length, bv_length]; omega) hm1.below.size
              obtain ⟨A2, c2, rfl⟩ := (Sl.of_own hown2).form
              have hv2 := hv1.kept hg2 (hv1.not_row (by decide) hm1.own)
              have hc2 := hv2.cell
              have hf2 := hv2.frozen
              refine if_yes (by rfl) (opIn_append rfl rfl rfl hrun ?_)
              refine hK _ _ ?_
              clear hK K
              refine wpAnyIn_ready (rs := [5]) (by kernel_rfl) (by simp) ?_
              refine AllReadyIn.cons rfl (fun K hK => ?_) ?_
              · go_simp
                refine hK _ _ ?_
                clear hK K
                refine wpAnyIn_done (by kernel_rfl) ?_ _
                rw [List.length_append] at hown2
                exact put_fin w3.heap.size ((Below.refl _ W).drew.trans hbl) hv1 hm1 hown2 hg2 (by rw [List.flatMap_append, bv_append]; try simp) (by rw [List.length_append]) (fun e he => by rcases List.mem_append.1 he with h | h; exact HL.out.1 e h; simp at h; subst h; exact hdl) (Nat.le_refl _)
              exact AllReadyIn.nil
            exact AllReadyIn.nil
          exact AllReadyIn.nil
        exact AllReadyIn.nil
      exact AllReadyIn.nil
    refine AllReadyIn.cons rfl (fun K hK => ?_) ?_
    · go_simp
      refine hK _ _ ?_
      clear hK K
      refine wpAnyIn_ready (rs := [0, 2]) (by kernel_rfl) (by simp) ?_
      refine AllReadyIn.cons rfl (fun K hK => ?_) ?_
      · go_simp
        refine hK _ _ ?_
        clear hK K
        refine wpAnyIn_ready (rs := [2]) (by kernel_rfl) (by simp) ?_
        refine AllReadyIn.cons rfl (fun K hK => ?_) ?_
        · go_simp
          refine hK _ _ ?_
          clear hK K
          refine wpAnyIn_ready (rs := [3]) (by kernel_rfl) (by simp) ?_
          refine AllReadyIn.cons rfl (fun K hK => ?_) ?_
          · go_simp
            refine ⟨trivial, (CallsIn.inRound q (callsIn_wide.2 HC.out)).mono ?_⟩
            rintro e W1 ⟨v', rfl, hs1, hbl⟩
            have hv1 := HB.out.1 hbl
            have hm1 := HB.out.2 hbl
            have hc1 := hv1.cell
            refine hK _ _ ?_
            clear hK K
            refine wpAnyIn_ready (rs := [4]) (by kernel_rfl) (by simp) ?_
            refine AllReadyIn.cons rfl (fun K hK => ?_) ?_
            · have hl1 := HL.out.2
              obtain ⟨v2, W2, hrun, hown2, hg2, hat2⟩ := run_app (P := Tryz.prog) Num.el23 w1.heap.size 28 _ _ _ hm1.own _ _ hs1 (bv_one _) (by rw [bv_length, bv_length]; omega) hm1.below.size
              obtain ⟨A2, c2, rfl⟩ := (Sl.of_own hown2).form
              have hv2 := hv1.kept hg2 (hv1.not_row (by decide) hm1.own)
              have hc2 := hv2.cell
              have hf2 := hv2.frozen
              refine if_yes (by rfl) (opIn_append rfl rfl rfl hrun ?_)
              refine hK _ _ ?_
              clear hK K
              refine wpAnyIn_ready (rs := [5]) (by kernel_rfl) (by simp) ?_
              refine AllReadyIn.cons rfl (fun K hK => ?_) ?_
              · go_simp
                refine hK _ _ ?_
                clear hK K
                refine wpAnyIn_done (by kernel_rfl) ?_ _
                rw [List.length_append] at hown2
                exact put_fin w3.heap.size ((Below.refl _ W).drew.trans hbl) hv1 hm1 hown2 hg2 (by rw [List.flatMap_append, bv_append]; try simp) (by rw [List.length_append]) (fun e he => by rcases List.mem_append.1 he with h | h; exact HL.out.1 e h; simp at h; subst h; exact hdl) (Nat.le_refl _)
              exact AllReadyIn.nil
            exact AllReadyIn.nil
          exact AllReadyIn.nil
        exact AllReadyIn.nil
      refine AllReadyIn.cons rfl (fun K hK => ?_) ?_
      · go_simp
        refine hK _ _ ?_
        clear hK K
        refine wpAnyIn_ready (rs := [0, 3]) (by kernel_rfl) (by simp) ?_
        refine AllReadyIn.cons rfl (fun K hK => ?_) ?_
        · go_simp
          refine hK _ _ ?_
          clear hK K
          refine wpAnyIn_ready (rs := [3]) (by kernel_rfl) (by simp) ?_
          refine AllReadyIn.cons rfl (fun K hK => ?_) ?_
          · go_simp
            refine ⟨trivial, (CallsIn.inRound q (callsIn_wide.2 HC.out)).mono ?_⟩
            rintro e W1 ⟨v', rfl, hs1, hbl⟩
            have hv1 := HB.out.1 hbl
            have hm1 := HB.out.2 hbl
            have hc1 := hv1.cell
            refine hK _ _ ?_
            clear hK K
            refine wpAnyIn_ready (rs := [4]) (by kernel_rfl) (by simp) ?_
            refine AllReadyIn.cons rfl (fun K hK => ?_) ?_
            · have hl1 := HL.out.2
              obtain ⟨v2, W2, hrun, hown2, hg2, hat2⟩ := run_app (P := Tryz.prog) Num.el23 w1.heap.size 28 _ _ _ hm1.own _ _ hs1 (bv_one _) (by rw [bv_length, bv_length]; omega) hm1.below.size
              obtain ⟨A2, c2, rfl⟩ := (Sl.of_own hown2).form
              have hv2 := hv1.kept hg2 (hv1.not_row (by decide) hm1.own)
              have hc2 := hv2.cell
              have hf2 := hv2.frozen
              refine if_yes (by rfl) (opIn_append rfl rfl rfl hrun ?_)
              refine hK _ _ ?_
              clear hK K
              refine wpAnyIn_ready (rs := [5]) (by kernel_rfl) (by simp) ?_
              refine AllReadyIn.cons rfl (fun K hK => ?_) ?_
              · go_simp
                refine hK _ _ ?_
                clear hK K
                refine wpAnyIn_done (by kernel_rfl) ?_ _
                rw [List.length_append] at hown2
                exact put_fin w3.heap.size ((Below.refl _ W).drew.trans hbl) hv1 hm1 hown2 hg2 (by rw [List.flatMap_append, bv_append]; try simp) (by rw [List.length_append]) (fun e he => by rcases List.mem_append.1 he with h | h; exact HL.out.1 e h; simp at h; subst h; exact hdl) (Nat.le_refl _)
              exact AllReadyIn.nil
            exact AllReadyIn.nil
          exact AllReadyIn.nil
        refine AllReadyIn.cons rfl (fun K hK => ?_) ?_
        · go_simp
          refine ⟨trivial, (CallsIn.inRound q (callsIn_wide.2 HC.out)).mono ?_⟩
          rintro e W1 ⟨v', rfl, hs1, hbl⟩
          have hv1 := HB.out.1 hbl
          have hm1 := HB.out.2 hbl
          have hc1 := hv1.cell
          refine hK _ _ ?_
          clear hK K
          refine wpAnyIn_ready (rs := [0]) (by kernel_rfl) (by simp) ?_
          refine AllReadyIn.cons rfl (fun K hK => ?_) ?_
          · go_simp
            refine hK _ _ ?_
            clear hK K
            refine wpAnyIn_ready (rs := [4]) (by kernel_rfl) (by simp) ?_
            refine AllReadyIn.cons rfl (fun K hK => ?_) ?_
            · have hl1 := HL.out.2
              obtain ⟨v2, W2, hrun, hown2, hg2, hat2⟩ := run_app (P := Tryz.prog) Num.el23 w1.heap.size 28 _ _ _ hm1.own _ _ hs1 (bv_one _) (by rw [bv_length, bv_length]; omega) hm1.below.size
              obtain ⟨A2, c2, rfl⟩ := (Sl.of_own hown2).form
              have hv2 := hv1.kept hg2 (hv1.not_row (by decide) hm1.own)
              have hc2 := hv2.cell
              have hf2 := hv2.frozen
              refine if_yes (by rfl) (opIn_append rfl rfl rfl hrun ?_)
              refine hK _ _ ?_
              clear hK K
              refine wpAnyIn_ready (rs := [5]) (by kernel_rfl) (by simp) ?_
              refine AllReadyIn.cons rfl (fun K hK => ?_) ?_
              · go_simp
                refine hK _ _ ?_
                clear hK K
                refine wpAnyIn_done (by kernel_rfl) ?_ _
                rw [List.length_append] at hown2
                exact put_fin w3.heap.size ((Below.refl _ W).drew.trans hbl) hv1 hm1 hown2 hg2 (by rw [List.flatMap_append, bv_append]; try simp) (by rw [List.length_append]) (fun e he => by rcases List.mem_append.1 he with h | h; exact HL.out.1 e h; simp at h; subst h; exact hdl) (Nat.le_refl _)
              exact AllReadyIn.nil
            exact AllReadyIn.nil
          exact AllReadyIn.nil
        exact AllReadyIn.nil
      exact AllReadyIn.nil
    exact AllReadyIn.nil
  case done =>
    rintro D s W hD ⟨m0, hm0, rfl⟩ ⟨vb, hvb, hM, hlen⟩ hK
    obtain rfl : m = m0 := hm0.symm
    have hpay : (heads ++ tail m.kind).flatMap (dB m l) = payB m l := rfl
    rw [hpay] at hM
    obtain ⟨A', c', rfl⟩ := hM.sl.form
    have hc0 := hvb.cell
    have HK := Lib.hid hK
    have HM := Lib.hid hM
    clear hK hM hpay hlen
    refine wpE_of ?_
    go_wp2
    refine ⟨by simp, .inl ⟨_, _, rfl, run_takeDeferred HK.out, ?_⟩⟩
    refine ⟨.slice A' (bv (payB m l)).length c', by simp [results, Tryz.results26], _, rfl, ?_, ?_⟩
    · exact (Slf.of_own (Go.ownsRow_putObj HM.out.own _ HK.out rfl)).mono (by omega)
    · exact (B1.trans (HM.out.below.mono (by omega))).trans (below_putObj W _ (by omega))
  case pan =>
    intro D ch W _ h
    exact h.elim

/-- 'put', whatever message. -/
theorem Payload_any (m : M) (A : Option Addr) (c : Nat) (l : List Int) (hk0 : 0 ≤ m.kind) (w : World) (hs : Sl w (.slice A l.length c) (iv l)) :
    Calls Tryz.prog 10 #[.agg (m.c (.slice A l.length c))] w fun e w' => ∃ v, e = .returned (.tuple #[v, .int .i64 (if rightB m l = true then 0 else 2)]) ∧ Slf w.heap.size w' v (bv (if rightB m l = true then payB m l else [])) ∧ Below w.heap.size w w' := by
  by_cases h : rightB m l = true
  · rw [if_pos h, if_pos h]
    exact Payload_yes m _ (payB m l) w fun W hb => put_yes m A c l W (hs.below hb) h
  · rw [if_neg h, if_neg h]
    refine (Payload_no m _ 2 w fun W hb => put_no m A c l hk0 W (hs.below hb) (by simpa using h)).mono ?_
    rintro e w' ⟨rfl, hb⟩
    exact ⟨_, rfl, Slf.nil_ _ _, hb⟩
end Go.Proofs.YtaacjpcckinaiaaGreat
