/- A payload, read. -/
import Derived.Test.YtaacjpcckinaiaaGreatWReadMath
import Derived.Test.YtaacjpcckinaiaaGreatFrmA
set_option linter.unusedVariables false
set_option maxRecDepth 100000
set_option linter.unusedSimpArgs false
namespace Go.Proofs.YtaacjpcckinaiaaGreat
open Go.RowKit Go.Shelf Ms
attribute [local go_sem] Oper.semAt_some

theorem kt_some {W W' : World} (k : Kt (fun _ => false) W W') {a : Addr} {u : Value} (h : W.cell? a = some u) : W'.cell? a = some u := by
  cases ho : W.heap[a.block]? with
  | none => simp [World.cell?, ho] at h
  | some o =>
    cases o with
    | cells c t s => rw [World.cell?_of_block ((k.same _ _ _ _ rfl ho).trans ho.symm)]; exact h
    | _ => simp [World.cell?, ho] at h
theorem Sl.ktf {W W' : World} {v : Value} {xs : List Value} (h : Sl W v xs) (k : Kt (fun _ => false) W W') : Sl W' v xs := by
  rcases h with h | ⟨b, off, c, rfl, h1, h2, h3, h4⟩
  · exact .inl h
  · exact .inr ⟨b, off, c, rfl, h1, h2, Nat.lt_of_lt_of_le h3 k.size, fun j u hj => kt_some k (h4 j u hj)⟩
theorem Sl.off_box {W : World} {v : Value} {xs : List Value} {B : Nat} {t : TypeId} {x : Value} (h : Sl W v xs) (hB : Boxed W B t x) (hx : ∀ u ∈ xs, u ≠ x) (u : Value) : Sl (W.setCell ⟨B, 0, none⟩ u) v xs := by
  rcases h with h | ⟨b, off, c, rfl, h1, h2, h3, h4⟩
  · exact .inl h
  · refine .inr ⟨b, off, c, rfl, h1, h2, by simpa using h3, fun j y hj => ?_⟩
    have hy := h4 j y hj
    by_cases hb : b = B
    · subst hb
      exfalso
      have e := Rw.cell (show Rw W b t #[x] from hB) (off + j)
      rw [e] at hy
      by_cases h0 : off + j = 0
      · rw [h0] at hy
        have : y = x := by simpa using hy.symm
        exact hx y (List.mem_of_getElem? hj) this
      · rw [Array.getElem?_eq_none (by simp; omega)] at hy
        cases hy
    · rw [← hy]
      exact World.cell?_of_block (w := W) (a := ⟨b, off + j, none⟩) (Below.heap_setCell W ⟨B, 0, none⟩ u b hb)
theorem Slf.off_box {W : World} {n : Nat} {v : Value} {xs : List Value} {B : Nat} {t : TypeId} {x : Value} (h : Slf n W v xs) (hB : Boxed W B t x) (hx : ∀ u ∈ xs, u ≠ x) (u : Value) : Slf n (W.setCell ⟨B, 0, none⟩ u) v xs := ⟨h.sl.off_box hB hx u, h.new⟩
theorem bv_slice {l : List UInt8} {A : Option Addr} {n c : Nat} : ∀ u ∈ bv l, u ≠ .slice A n c := by
  intro u hu
  obtain ⟨x, -, rfl⟩ := List.mem_map.1 hu
  exact fun e => by cases e
theorem iv_slice {l : List Int} {A : Option Addr} {n c : Nat} : ∀ u ∈ iv l, u ≠ .slice A n c := by
  intro u hu
  obtain ⟨x, -, rfl⟩ := List.mem_map.1 hu
  exact fun e => by cases e

/-- What holds between rounds. -/
structure RdI (w : World) (bs : List UInt8) (s : List D) (W : World) (m : M) (l : List Int) (bs' : List UInt8) (A : Option Addr) (n c : Nat) (lv : Value) : Prop where
  ps : parse s noM [] bs = some (m, l, bs')
  kd : 0 ≤ m.kind
  ln : bs'.length ≤ bs.length
  rw_ : Rw W (w.heap.size + 1) 27 (m.c lv)
  bx : Boxed W (w.heap.size + 2) 28 (.slice A n c)
  sl : Sl W (.slice A n c) (bv bs')
  sf : Slf (w.heap.size + 1 + 1) W lv (iv l)
  nl : D.list ∉ s → lv = nilS ∧ l = []
  r0 : Rw W w.heap.size 27 (noM.c nilS)
  bl : Below w.heap.size w W
def RdX (w : World) (bs : List UInt8) (s : List D) (W : World) : Prop := ∃ m l bs' A n c lv, RdI w bs s W m l bs' A n c lv
theorem RdI.below {w W W' : World} {bs : List UInt8} {s : List D} {m : M} {l : List Int} {bs' : List UInt8} {A : Option Addr} {n c : Nat} {lv : Value} (h : RdI w bs s W m l bs' A n c lv) (hb : Below W.heap.size W W') : RdI w bs s W' m l bs' A n c lv :=
  ⟨h.ps, h.kd, h.ln, h.rw_.below hb, boxed_below h.bx hb, h.sl.below hb, h.sf.below hb, h.nl, h.r0.below hb, h.bl.trans (hb.mono h.bl.size)⟩
theorem rdX_own {w : World} {bs : List UInt8} {N : Nat} (hN : w.heap.size ≤ N) : OwnFrom N (RdX w bs) := by
  rintro s W W' row ⟨m, l, bs', A, n, c, lv, h⟩ hg hr
  have k := Kt.own (T := fun _ => false) hg hr
  exact ⟨m, l, bs', A, n, c, lv, h.ps, h.kd, h.ln, k.same _ _ _ _ rfl h.rw_, k.boxed h.bx rfl, h.sl.ktf k, ⟨h.sf.sl.ktf k, h.sf.new⟩, h.nl, k.same _ _ _ _ rfl h.r0, h.bl.grown hg h.bl.size (fun j e => Nat.le_trans hN (hr j e).1)⟩

set_option maxHeartbeats 2000000 in
theorem read_big (v : Value) (bs : List UInt8) (w : World) (hs : Sl w v (bv bs)) (hl : 46 < bs.length) :
    Calls Tryz.prog 33 #[v] w fun e w' => e = .panicked (wrong 12) ∧ Below w.heap.size w w' := by
  obtain ⟨A, c, rfl⟩ := hs.form
  rw [bv_length]
  have hd : decide ((bs.length : Int) ≤ 46) = false := decide_eq_false (by omega)
  go_enter Tryz.func33, Tryz.ntmps33
  go_wp2_with (go_at_call 45; refine (must_no _ _).mono ?_; rintro e w2 ⟨rfl, rfl⟩)
  exact ⟨rfl, rfl, (Below.refl _ w).alloc (Nat.le_refl _) _⟩

set_option maxHeartbeats 4000000 in
theorem read_any (v : Value) (bs : List UInt8) (w : World) (hs : Sl w v (bv bs)) (hl : bs.length ≤ 46) :
    Calls Tryz.prog 33 #[v] w fun e w' => (∃ m l lv, readF bs = some (m, l) ∧ e = .returned (.agg (m.c lv)) ∧ Slf w.heap.size w' lv (iv l) ∧ Below w.heap.size w w') ∨ (readF bs = none ∧ e = .panicked (wrong 12) ∧ Below w.heap.size w w') := by
  have HS := Lib.hid hs
  obtain ⟨A, c, rfl⟩ := hs.form
  clear hs
  rw [bv_length] at HS ⊢
  have hd : decide ((bs.length : Int) ≤ 46) = true := decide_eq_true (by omega)
  refine calls_of_wpE Tryz.func33 rfl ?_
  simp only [Tryz.ntmps33, List.size_toArray, List.length_cons, List.length_nil, Nat.reduceAdd, Nat.reduceSub, Array.replicate_succ, Array.replicate_zero, List.push_toArray, List.append_toArray, List.nil_append, List.cons_append]
  refine wpE_then ?_
  go_wp2_with fail
  refine wpE_then ?_
  go_wp2_with (go_at_call 45; refine (must_yes _ _).mono ?_; rintro e w2 ⟨rfl, rfl⟩)
  refine wpE_then ?_
  go_wp2_with fail
  refine wpE_then ?_
  go_wp2_with fail
  have T := three w (noM.c nilS) (noM.c nilS) #[.slice A bs.length c] 27 27 28
  refine wpE_seq ?_
  refine wpE_then ?_
  go_wp2_with (go_at_call 47; refine (partsOf_any _ _).mono ?_; rintro e w3 ⟨g, rfl, hg, hb3⟩)
  have hR0 : Rw w3 w.heap.size 27 (noM.c nilS) := Rw.below T.1 hb3
  have hR1 : Rw w3 (w.heap.size + 1) 27 (noM.c nilS) := Rw.below T.2.1 hb3
  have hR2 : Boxed w3 (w.heap.size + 2) 28 (.slice A bs.length c) := Rw.below T.2.2.1 hb3
  have hB3 : Below w.heap.size w w3 := T.2.2.2.trans (hb3.mono T.2.2.2.size)
  have hlt := hR2.lt
  clear T hb3
  refine wpE_block ?_
  refine wpE_range (gf := 71) (lb := #[ptr g]) rfl (enters_of Tryz.func71 (by kernel_rfl) rfl) (parts_seq g (w.heap.size + 1) (GR bs) w3 hg) (fun _ => rfl) (fun h k => Kt.trans h k) (fun x W l o o' h1 h2 => Kt.putObj o' h1 h2)
    (RdX w bs) (fun ch W => ch = wrong 12 ∧ readF bs = none ∧ Below w.heap.size w W) (fun s A B ⟨m, l, bs', A', n, c, lv, h⟩ hb => ⟨m, l, bs', A', n, c, lv, h.below hb⟩) (rdX_own (by omega)) (fun s A ⟨m, l, bs', A', n, c, lv, h⟩ => ⟨m, lv, h.rw_, l, bs', h.ps⟩)
    ⟨noM, [], bs, A, bs.length, c, nilS, rfl, by decide, Nat.le_refl _, hR1, hR2, HS.out.below hB3, Slf.nil_ _ _, fun _ => ⟨rfl, rfl⟩, hR0, hB3⟩
    (fun s x s' a' W => ∃ f t cp ct pa, x.2 = partV f t cp ct ∧ a' = { tmps := #[.slice A bs.length c, undef, ptr w.heap.size, ptr (w.heap.size + 1), ptr (w.heap.size + 1 + 1), ptr pa, undef, undef, .slice A bs.length c, .int .i64 bs.length, .bool true, .tuple #[], .slice A bs.length c, .func (.func 71) #[] #[ptr g], .agg (partC f t cp ct), undef, undef, undef, undef, undef, undef, undef, undef, undef, undef, undef, undef, undef, undef, undef, undef, undef, undef], defers := [] } ∧ Rw W pa 71 (partC f t cp ct) ∧ RdX w bs s W ∧ NxP (w.heap.size + 1) (GR bs) s x s' W)
    ?own ?assign ?body ?done ?pan
  case own =>
    intro s x s' a' _ W W' row ⟨f, t, cp, ct, pa, h1, h2, h3, h4, h5, h6, m0, s0, h7, h8⟩ hgr hr
    have k := Kt.own (T := fun _ => false) hgr hr
    exact ⟨f, t, cp, ct, pa, h1, h2, k.same _ _ _ _ rfl h3, rdX_own (by omega) s W W' row h4 hgr hr, h5, h6, m0, s0, h7, h8.kt k ⟨rfl, rfl, rfl, rfl, rfl, rfl, rfl, rfl, rfl⟩⟩
  case assign =>
    rintro q s ⟨d, v⟩ s' W K hsz hI ⟨rfl, hnx, m0, s0, hm0, hp⟩ hK
    obtain ⟨f, t, cp, ct, rfl⟩ := hp.form
    have r0 := Rw.new W #[.nilFunc, .nilFunc] 71
    have r2 := r0.setRow (c' := partC f t cp ct)
    have hB2 : Below W.heap.size W ((W.alloc (.cells #[.nilFunc, .nilFunc] 71)).setRow W.heap.size (partC f t cp ct)) := below_setRow (box_below W _) (Nat.le_refl _) _
    have HK := Lib.hid hK
    have HP := Lib.hid hp
    have HI := Lib.hid hI
    clear hK hp hI
    dsimp only [encP]
    gi_wp2_with (with_reducible show wpListIn _ _ _ _ _ (Oper.mk _ (Op.store _ (.tmp 5) _) _ _ _ _ :: _) _ _
                 refine wpListIn_storeR (c := partC f t cp ct) rfl _ _ rfl rfl rfl aggP.hi r0 rfl (part_one _ _ _ _) ?_)
    refine HK.out _ _ (KeepsFrom.of_grownBy (gr_of_below hB2 none) (by simp)) (Kt.below hB2) ?_
    obtain ⟨m, l, bs', A', n, c', lv, h⟩ := HI.out
    exact ⟨f, t, cp, ct, _, rfl, rfl, r2, ⟨m, l, bs', A', n, c', lv, h.below hB2⟩, rfl, hnx, m0, s0, hm0, HP.out.kt (Kt.below hB2) tp27⟩
  case body =>
    rintro q s ⟨d, v⟩ s' a' W hsz ⟨f, t, cp, ct, pa, rfl, rfl, hpa, ⟨m, l, bs', A', n, c', lv, hI⟩, rfl, hnx, m0, s0, hm0, hp⟩
    obtain ⟨k, hpre⟩ := next_mem_r hnx
    obtain ⟨rfl, rfl⟩ := hI.nl (next_list hpre)
    obtain ⟨f', t', cp', ct', hv, hen, hcall⟩ := part_take (m := m) hp hI.rw_ (okT_of (hpre.subset (by simp))) (bs := bs') (by have := hI.ln; omega)
    obtain ⟨⟨rfl, rfl⟩, rfl, rfl⟩ : (f = f' ∧ cp = cp') ∧ t = t' ∧ ct = ct' := by simpa [partV, partC] using hv
    replace hcall := hcall _ hI.sl
    have hc1 := hpa.cell 1
    have hc2 := hI.bx.cell
    have HC := Lib.hid hcall
    have HI := Lib.hid hI
    have HN := Lib.hid hnx
    clear hcall hI hp hv hnx hpre
    gi_wp2
    refine ⟨trivial, (CallsIn.inRound q (callsIn_wide.2 HC.out)).mono ?_⟩
    rintro e W1 (⟨v', m', l', b2, lv', ht, rfl, hs1, hr1, hlv, hch⟩ | ⟨ht, rfl, hch⟩)
    · obtain ⟨A2, c2, rfl⟩ := hs1.form
      have hbx1 : Boxed W1 (w.heap.size + 2) 28 (.slice A' n c') := hch.kt.boxed HI.out.bx (by cases d <;> rfl)
      have hc3 := hbx1.cell
      have hf3 := hbx1.frozen
      have hr01 : Rw W1 w.heap.size 27 (noM.c nilS) := (hch.below.block _ (by omega)).trans HI.out.r0
      have HR := Lib.hid (And.intro hs1 (And.intro hr1 (And.intro hlv (And.intro ht hr01))))
      clear hs1 hr1 hlv ht hr01
      gi_wp2
      obtain ⟨hs1, hr1, ⟨Al, nl, cl, hl1, hl2, hl3⟩, ht, hr01⟩ := HR.out
      refine ⟨KeepsFrom.trans ⟨hch.below.size, fun k o _ hk ho => hch.others k o hk ho⟩ ((KeepsOthers.setCell _ _ _).from _), (hch.kt.mono (fun t h => by unfold Tk; rw [h]; simp)).trans (Kt.setCell (p := ⟨w.heap.size + 2, 0, none⟩) hbx1 (tk28 d) _), m', l', b2, A2, (bv b2).length, c2, lv', ?_⟩
      refine ⟨?_, takeD_kind ht HI.out.kd, Nat.le_trans (takeD_len ht) HI.out.ln, hr1.set_other (by omega) _ _, hbx1.set _, hs1.off_box hbx1 bv_slice _, hl2.off_box hbx1 iv_slice _, ?_, hr01.set_other (by omega) _ _, ?_⟩
      · rw [parse_snoc, HI.out.ps]; exact ht
      · intro hn
        exact hl3 (fun e => hn (by rw [e]; simp))
      · exact (HI.out.bl.trans (hch.below.mono (by omega))).setCell (p := ⟨w.heap.size + 2, 0, none⟩) (by simp) _
    · exact ⟨rfl, ⟨hch.below.size, fun k o _ hk ho => hch.others k o hk ho⟩, rfl, read_none HI.out.ps HN.out ht, HI.out.bl.trans (hch.below.mono (by omega))⟩
  case done =>
    rintro D s W hD ⟨m0, hm0, rfl⟩ ⟨m, l, bs', A', n, c', lv, hI⟩ hK
    have hend := read_end hl hm0 hI.ps
    obtain ⟨A2, c2, rfl⟩ := hI.sf.sl.form
    have hsf := hI.sf
    have hrw := hI.rw_
    rw [iv_length] at hsf hrw
    have hP := Payload_any m A2 c2 l hI.kd W hsf.sl
    have hsv := HS.out.below hI.bl
    have hr0 := hI.r0
    have hbl := hI.bl
    have hDl : D < W.heap.size := (Array.getElem?_eq_some_iff.1 hK).1
    have HK := Lib.hid hK
    clear hK hI
    by_cases hr : rightB m l = true
    · rw [if_pos hr, if_pos hr] at hP
      obtain ⟨q, hq⟩ : ∃ q, decide (payB m l = bs) = q := ⟨_, rfl⟩
      have HP := Lib.hid hP
      have HE := Lib.hid hend
      have HR := Lib.hid hr
      clear hP hend hr
      cases q
      · refine wpE_of ?_
        go_wp2_with (first
          | (with_reducible show wpList _ _ _ (Oper.mk _ (Op.load _ (.tmp 3)) _ _ _ _ :: _) _ _
             refine wpList_loadR rfl _ rfl rfl (run_loadR (c := m.c (.slice A2 l.length c2)) agg27 hrw) ?_)
          | (go_at_call 10; refine HP.out.mono ?_; rintro e w4 ⟨v4, rfl, hs4, hb4⟩)
          | (go_at_call 49; refine (Frm.Equal_any _ _ (payB m l) bs _ hs4.sl (hsv.below hb4)).mono ?_; rintro e w5 ⟨rfl, rfl⟩; rw [hq])
          | (go_at_call 45; refine (must_no _ _).mono ?_; rintro e w2 ⟨rfl, rfl⟩))
        refine ⟨by simp, .inl ⟨_, _, rfl, run_takeDeferred ((hb4.block D hDl).trans HK.out), .inr ⟨?_, rfl, (hbl.trans (hb4.mono hbl.size)).trans (below_putObj w4 _ (by omega))⟩⟩⟩
        rw [HE.out, if_neg (fun h => of_decide_eq_false hq h.2)]
      · refine wpE_of ?_
        go_wp2_with (first
          | (with_reducible show wpList _ _ _ (Oper.mk _ (Op.load _ (.tmp 3)) _ _ _ _ :: _) _ _
             first
               | refine wpList_loadR rfl _ rfl rfl (run_loadR (c := m.c (.slice A2 l.length c2)) agg27 hrw) ?_
               | refine wpList_loadR rfl _ rfl rfl (run_loadR (c := m.c (.slice A2 l.length c2)) agg27 (hrw.below hb4)) ?_)
          | (with_reducible show wpList _ _ _ (Oper.mk _ (Op.store _ (.tmp 2) _) _ _ _ _ :: _) _ _
             refine wpList_storeR (c := m.c (.slice A2 l.length c2)) rfl _ _ rfl rfl rfl agg27.hi (hr0.below hb4) rfl (M.one _ rfl) ?_)
          | (go_at_call 10; refine HP.out.mono ?_; rintro e w4 ⟨v4, rfl, hs4, hb4⟩)
          | (go_at_call 49; refine (Frm.Equal_any _ _ (payB m l) bs _ hs4.sl (hsv.below hb4)).mono ?_; rintro e w5 ⟨rfl, rfl⟩; rw [hq])
          | (go_at_call 45; refine (must_yes _ _).mono ?_; rintro e w2 ⟨rfl, rfl⟩))
        have hr5 := (hr0.below hb4).setRow (c' := m.c (.slice A2 l.length c2))
        have hD5 : ((w4.setRow w.heap.size (m.c (.slice A2 l.length c2))).putObj D (.deferred none)).heap[w.heap.size]? = some (.cells (m.c (.slice A2 l.length c2)) 27 (0, 0)) := (World.putObj_heap_other (by omega)).trans hr5
        refine ⟨by simp, .inl ⟨_, _, rfl, run_takeDeferred ((Go.setRow_other _ _ _ _ (by omega)).trans ((hb4.block D hDl).trans HK.out)), ?_⟩⟩
        refine ⟨.agg (m.c (.slice A2 l.length c2)), results_cell_row rfl _ _ _ _ _ _ _ rfl hD5 Tryz.underlying27 rfl agg27.hi, .inl ⟨m, l, _, ?_, rfl, ?_, ?_⟩⟩
        · rw [HE.out, if_pos ⟨HR.out, of_decide_eq_true hq⟩]
        · have h1 : Slf (w.heap.size + 1 + 1) (w4.setRow w.heap.size (m.c (.slice A2 l.length c2))) (.slice A2 l.length c2) (iv l) := (hsf.below hb4).setRow_ (by omega) _
          refine ⟨h1.sl.ktf (Kt.putObj (o := .deferred (some [])) _ ?_ rfl), fun g e => by have := h1.new g e; omega⟩
          exact (Go.setRow_other _ _ _ _ (by omega)).trans ((hb4.block D hDl).trans HK.out)
        · exact (below_setRow (hbl.trans (hb4.mono hbl.size)) (Nat.le_refl _) _).trans (below_putObj _ _ (by omega))
    · rw [if_neg hr, if_neg hr] at hP
      have HP := Lib.hid hP
      have HE := Lib.hid hend
      have HR := Lib.hid hr
      clear hP hend hr
      refine wpE_of ?_
      go_wp2_with (first
        | (with_reducible show wpList _ _ _ (Oper.mk _ (Op.load _ (.tmp 3)) _ _ _ _ :: _) _ _
           refine wpList_loadR rfl _ rfl rfl (run_loadR (c := m.c (.slice A2 l.length c2)) agg27 hrw) ?_)
        | (go_at_call 10; refine HP.out.mono ?_; rintro e w4 ⟨v4, rfl, hs4, hb4⟩)
        | (go_at_call 45; refine (must_no _ _).mono ?_; rintro e w2 ⟨rfl, rfl⟩))
      refine ⟨by simp, .inl ⟨_, _, rfl, run_takeDeferred ((hb4.block D hDl).trans HK.out), .inr ⟨?_, rfl, (hbl.trans (hb4.mono hbl.size)).trans (below_putObj w4 _ (by omega))⟩⟩⟩
      rw [HE.out, if_neg (fun h => HR.out h.1)]
  case pan =>
    rintro D ch W hD ⟨rfl, hn, hb⟩ hK
    refine ⟨by simp, .inl ⟨_, _, rfl, run_takeDeferred hK, ?_⟩⟩
    exact .inr ⟨hn, rfl, hb.trans (below_putObj W _ (by omega))⟩
end Go.Proofs.YtaacjpcckinaiaaGreat
