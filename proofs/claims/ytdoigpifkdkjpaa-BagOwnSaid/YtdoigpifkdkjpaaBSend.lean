/- Datagrams that are sent. -/
import Derived.Test.YtdoigpifkdkjpaaBOwnL
set_option linter.unusedVariables false
set_option maxRecDepth 100000
set_option linter.unusedSimpArgs false
namespace Go.Proofs.Ytdoigpifkdkjpaa
open Go.RowKit Go.Shelf Ms
attribute [local go_sem] Oper.semAt_some

/-- One datagram is sent: what is on its way, how many are lost. -/
def sentS (st : List Gr × Int) (g : Gr) : List Gr × Int := if st.1.length < 400 ∧ g.bytes.length ≤ 120 then (st.1 ++ [g], st.2) else (st.1, IntKind.i64.wrap (st.2 + 1))
def sendS (st : List Gr × Int) (l : List Gr) : List Gr × Int := l.foldl sentS st
theorem sendS_snoc (st : List Gr × Int) (l : List Gr) (g : Gr) : sendS st (l ++ [g]) = sentS (sendS st l) g := by simp [sendS]

set_option maxHeartbeats 4000000 in
theorem Send_any (s : Value) (n : Int) (gs : List Gr) (v : Value) (ls : List Gr) (w : World) (hs : SwG w s gs) (hv : SwG w v ls) (hl : ∀ g ∈ gs, g.bytes.length ≤ 1000) (hn : gs.length ≤ 1000) :
    Calls Try.prog 13 #[.agg (bagC s n), v] w fun e w' => ∃ A q c, e = .returned (.agg (bagC (.slice A q c) (sendS (gs, n) ls).2)) ∧ MadeG w w' 29 (.slice A q c) (sendS (gs, n) ls).1 := by
  obtain ⟨A, c, ps, rfl, rfl, hL⟩ := hv.lies
  have hsl := hv.len
  rw [List.length_map] at hsl
  obtain ⟨A0, c0, rfl⟩ := hs.form
  obtain ⟨r1, r2, B0⟩ := two_boxes w (bagC (.slice A0 gs.length c0) n) (bagC nilB 0) 24 24
  have hsz : ((w.alloc (.cells (bagC (.slice A0 gs.length c0) n) 24)).alloc (.cells (bagC nilB 0) 24)).heap.size = w.heap.size + 1 + 1 := by simp
  have c1 := r1.cell
  have HL := Lib.hid hL
  have H0 := Lib.hid (And.intro r1 (And.intro r2 (And.intro B0 (And.intro hsz (hs.below B0)))))
  have HLE := Lib.hid hl
  have HN := Lib.hid hn
  clear r1 r2 B0 hs hv hL hsz hl hn
  refine (callsIn_wide (n := 9)).1 (callsIn_of_wp_marks Try.func13 rfl trivial ?_ rfl)
  simp only [Try.ntmps13, List.size_toArray, List.length_cons, List.length_nil, Nat.reduceAdd, Nat.reduceSub, Array.replicate_succ, Array.replicate_zero, List.push_toArray, List.append_toArray, List.nil_append, List.cons_append]
  refine wpIn_wide.2 ?_
  go_wp2_with (first
    | (with_reducible show wpList _ _ _ (Oper.mk _ (Op.load 24 _) _ _ _ _ :: _) _ _
       refine wpList_loadW H0.out.1 aggB rfl _ rfl rfl ?_))
  refine (Own_any _ n gs _ H0.out.2.2.2.2 HLE.out HN.out).mono ?_; rintro e w2 ⟨A2, q2, c2, rfl, hm⟩
  obtain rfl : q2 = gs.length := by
    obtain ⟨_, _, hv2⟩ := hm.swG.form
    injection hv2
  have q1 := H0.out.1.below hm.below
  have q2 := H0.out.2.1.below hm.below
  have hb := H0.out.2.2.1.trans (hm.below.mono H0.out.2.2.1.size)
  have hz : w.heap.size + 1 + 1 ≤ w2.heap.size := by have := hm.below.size; have := H0.out.2.2.2.1; omega
  have hO : OwnP (fun k => w.heap.size + 1 + 1 ≤ k) w2 29 (.slice A2 gs.length c2) gs := hm.ownP.imp (fun k _ hk => by have := H0.out.2.2.2.1; omega)
  have HQ := Lib.hid (And.intro q1 (And.intro q2 (And.intro hb (And.intro hz hO))))
  clear q1 q2 hb hz hO c1 H0 hm
  go_wp2_with (first
    | (with_reducible show wpList _ _ _ (Oper.mk _ (Op.store 24 _ _) _ _ _ _ :: _) _ _
       refine wpList_storeR (c := bagC (.slice A2 gs.length c2) n) rfl _ _ rfl rfl rfl aggB.hi HQ.out.1 rfl (bag_one _ _ _ _) ?_
       refine gen_w (fun X => Rw X w.heap.size 24 (bagC (.slice A2 gs.length c2) n) ∧ Rw X (w.heap.size + 1) 24 (bagC nilB 0) ∧ Below w.heap.size w X ∧ w.heap.size + 1 + 1 ≤ X.heap.size ∧ OwnP (fun k => w.heap.size + 1 + 1 ≤ k) X 29 (.slice A2 gs.length c2) gs)
         ⟨HQ.out.1.setRow, HQ.out.2.1.setRow_other (by omega), below_setRow HQ.out.2.2.1 (Nat.le_refl _) _, by have := HQ.out.2.2.2.1; simp [World.setRow]; omega, HQ.out.2.2.2.2.setRow (by omega) _⟩ ?_
       clear HQ
       rintro X ⟨r1, r2, B0, hsz, hO⟩))
  refine (gramsOf_any _ _ _ _).mono ?_; rintro e w' ⟨rfl, rfl⟩
  go_wp2_with fail
  obtain ⟨Bs, hBs⟩ : ∃ Bs, X.heap.size = Bs := ⟨_, rfl⟩
  have rs := Rw.new X #[.slice A ps.length c] 22
  rw [hBs] at rs hsz ⊢
  refine gen_code (fun W => Rw W w.heap.size 24 (bagC (.slice A2 gs.length c2) n) ∧ Rw W (w.heap.size + 1) 24 (bagC nilB 0) ∧ Rw W Bs 22 #[.slice A ps.length c] ∧ Below w.heap.size w W ∧ W.heap.size = Bs + 1 ∧ OwnP (fun k => w.heap.size + 1 + 1 ≤ k ∧ k ≠ Bs) W 29 (.slice A2 gs.length c2) gs)
    ⟨r1.alloc _, r2.alloc _, rs, B0.alloc B0.size _, by simp [hBs], (hO.imp (q := fun k => w.heap.size + 1 + 1 ≤ k ∧ k ≠ Bs) (fun k h1 h2 => ⟨h2, by omega⟩)).below (box_below X _)⟩ ?_
  clear r1 r2 rs B0 hO hBs
  rintro W1 ⟨r1, r2, rs, B0, hs1, hO⟩
  have L1 := HL.out.below B0
  refine wp_rangeH (gf := 42) (lb := #[.pointer (some ⟨Bs, 0, none⟩)]) rfl (enters_of Try.func42 (by kernel_rfl) rfl)
    (grams_stops 8 Bs A c ps (fun k => k < w.heap.size ∨ k = Bs) W1 (.inr rfl) (lies_low HL.out) (by rintro k (h | rfl) <;> omega) hsl rs L1) (by rintro k (h | rfl) <;> omega) (fun _ => rfl)
    (fun pre W => ∃ A' c', Rw W w.heap.size 24 (bagC (.slice A' (sendS (gs, n) (gsP ps pre)).1.length c') (sendS (gs, n) (gsP ps pre)).2) ∧ OwnP (fun k => w.heap.size + 1 + 1 ≤ k ∧ k ≠ Bs) W 29 (.slice A' (sendS (gs, n) (gsP ps pre)).1.length c') (sendS (gs, n) (gsP ps pre)).1 ∧ Rw W (w.heap.size + 1) 24 (bagC nilB 0) ∧ Below w.heap.size w W ∧ Bs + 1 ≤ W.heap.size)
    (fun c pre W => False)
    (ownFrom_still fun pre W W' ⟨A', c', h1, h2, h3, h4, h5⟩ hb => ⟨A', c', hb.rw_ h1, hb.ownP h2, hb.rw_ h3, hb.below h4 (by omega) (Nat.le_refl _), Nat.le_trans h5 hb.size⟩)
    (fun c => ownFrom_const _)
    ⟨A2, c2, r1, hO, r2, B0, by omega⟩
    (fun x a' W => ∃ B, Bs + 1 ≤ B ∧ Rw W B 29 (ps[x.1].1.c ps[x.1].2) ∧ a' = { tmps := #[.agg (bagC (.slice A0 gs.length c0) n), .slice A ps.length c, .pointer (some ⟨w.heap.size, 0, none⟩), undef, .pointer (some ⟨w.heap.size + 1, 0, none⟩), undef, .pointer (some ⟨B, 0, none⟩), .agg (bagC (.slice A0 gs.length c0) n), .agg (bagC (.slice A2 gs.length c2) n),
      .slice A ps.length c, .func (.func 42) #[] #[.pointer (some ⟨Bs, 0, none⟩)], .int .i64 (x.1 : Int), .agg (ps[x.1].1.c ps[x.1].2), undef, undef, undef, undef], defers := [] })
    (fun x a' => ownFrom_still fun _ W W' ⟨B, h1, h2, h3⟩ hb => ⟨B, h1, hb.rw_ h2, h3⟩) ?assign (by rintro pre W ⟨A', c', h1, h2, h3, h4, h5⟩ k (h | rfl) <;> omega) ?body ?done ?stop
  case assign =>
    rintro l pre x W K ⟨A', c', h1, h2, h3, h4, h5⟩ hK
    have HK := Lib.hid hK
    have HI := Lib.hid (And.intro h1 (And.intro h2 (And.intro h3 (And.intro h4 h5))))
    have HO := Lib.hid (one_of_lies HL.out x.1 x.2)
    clear hK
    unfold encG
    gi_wp2_with (with_reducible show wpListIn _ _ _ _ _ (Oper.mk _ (Op.alloc _) _ _ _ _ :: _) _ _
                 refine listIn_of (by rintro ⟨_, _, h⟩; exact h) rfl ?_)
    go_wp2_with (first
        | (with_reducible show wpList _ _ _ (Oper.mk _ (Op.store 29 _ _) _ _ _ _ :: _) _ _
           refine wpList_storeR (c := ps[x.1].1.c ps[x.1].2) rfl _ _ rfl rfl rfl aggG.hi (Rw.new W (noG.c nilB) 29) rfl HO.out ?_))
    have hb : Below W.heap.size W ((W.alloc (.cells (noG.c nilB) 29)).setRow W.heap.size (ps[x.1].1.c ps[x.1].2)) := below_setRow (box_below W _) (Nat.le_refl _) _
    obtain ⟨h1, h2, h3, h4, h5⟩ := HI.out
    exact HK.out _ _ hb ⟨A', c', h1.below hb, h2.below hb, h3.below hb, h4.trans (hb.mono h4.size), Nat.le_trans h5 hb.size⟩ ⟨W.heap.size, h5, (Rw.new W (noG.c nilB) 29).setRow, rfl⟩
  case body =>
    rintro l pre x a' W ⟨A', c', h1, h2, h3, h4, h5⟩ ⟨B, hB, rB, rfl⟩ hlt
    have HU := Lib.hid (show Sw W ps[x.1].2 (bv ps[x.1].1.bytes) from by
      obtain ⟨_, _, _, _, _, _, _, h6⟩ := HL.out x.1 x.2
      exact h6.below h4)
    have hsn : sendS (gs, n) (gsP ps (pre ++ [x])) = sentS (sendS (gs, n) (gsP ps pre)) ps[x.1].1 := by rw [gsP_snoc, sendS_snoc]
    generalize ps[x.1].1 = g at *
    generalize ps[x.1].2 = u at *
    generalize sendS (gs, n) (gsP ps pre) = st at *
    obtain ⟨ls, N⟩ := st
    dsimp only at h1 h2
    gi_wp2_with (with_reducible show wpListIn _ _ _ _ _ (Oper.mk _ (Op.load _ _) _ _ _ _ :: _) _ _
                 refine listIn_of (by rintro ⟨_, _, h⟩; exact h) rfl ?_)
    have HR1 := Lib.hid h1
    have HRB := Lib.hid rB
    go_wp2_with (first
        | (with_reducible show wpList _ _ _ (Oper.mk _ (Op.load 24 _) _ _ _ _ :: _) _ _
           refine wpList_loadW HR1.out aggB rfl _ rfl rfl ?_)
        | (with_reducible show wpList _ _ _ (Oper.mk _ (Op.load 29 _) _ _ _ _ :: _) _ _
           refine wpList_loadW HRB.out aggG rfl _ rfl rfl ?_))
    by_cases hq : ls.length < 400 ∧ g.bytes.length ≤ 120
    · have HSN := Lib.hid (hsn.trans (show sentS (ls, N) g = (ls ++ [g], N) from if_pos hq))
      refine (sent_put A' c' N ls g u _ W h2 HU.out (by omega) (by omega)).mono ?_; rintro e w3 ⟨A3, q3, c3, rfl, hO3, hg3⟩
      obtain rfl : q3 = ls.length + 1 := by
        obtain ⟨_, _, hv3⟩ := hO3.swG.form
        injection hv3 with _ e _
        simpa using e
      have hrow := fun k hk => (h2.row k hk).1
      have q1 := rw_grown h1 hg3 (fun e => by have := (hrow _ e).1; omega)
      have q2 := rw_grown h3 hg3 (fun e => by have := (hrow _ e).1; omega)
      have hgs := hg3.size
      have hO4 : OwnP (fun k => w.heap.size + 1 + 1 ≤ k ∧ k ≠ Bs) w3 29 (.slice A3 (ls.length + 1) c3) (ls ++ [g]) := hO3.imp (fun k _ hk => by rcases hk with ⟨hk, _⟩ | hk <;> omega)
      have hb3 : Below w.heap.size w w3 := below_grown (n := w.heap.size + 1 + 1) h4 hg3 (fun k hk => (hrow k hk).1) (by omega) (by omega)
      have hk3 : KeepsFrom W1.heap.size W w3 := keeps_row hg3 h2.cells_
      have hS3 : Kps (fun k => k < w.heap.size ∨ k = Bs) W w3 := Kps.grown hg3 (fun k hk => by
        have hk : k < w.heap.size ∨ k = Bs := hk
        refine ⟨by omega, fun e => ?_⟩
        have := hrow k e.symm
        omega)
      have HQ := Lib.hid q1
      go_wp2_with (first
        | (with_reducible show wpList _ _ _ (Oper.mk _ (Op.store 24 _ _) _ _ _ _ :: _) _ _
           refine wpList_storeR (c := bagC (.slice A3 (ls.length + 1) c3) N) rfl _ _ rfl rfl rfl aggB.hi HQ.out rfl (bag_one _ _ _ _) ?_))
      have hg5 := gr_row w3 w.heap.size (bagC (.slice A3 (ls.length + 1) c3) N)
      refine ⟨hk3.trans (keeps_row hg5 (by rintro k e; injection e with e; subst e; exact ⟨_, q1, rfl⟩)), hS3.trans (Kps.grown hg5 (fun k hk => ?_)), A3, c3, ?_⟩
      · have hk : k < w.heap.size ∨ k = Bs := hk
        exact ⟨by omega, fun e => by injection e with e; omega⟩
      · rw [HSN.out]
        try rw [show (ls ++ [g]).length = ls.length + 1 by simp]
        exact ⟨q1.setRow, hO4.setRow (by omega) _, q2.setRow_other (by omega), below_setRow hb3 (Nat.le_refl _) _, by simp [World.setRow]; omega⟩
    · have HSN := Lib.hid (hsn.trans (show sentS (ls, N) g = (ls, IntKind.i64.wrap (N + 1)) from if_neg hq))
      refine (sent_lost A' ls.length c' N g u W (by have := h2.swG.len; omega) HU.out (by omega)).mono ?_; rintro e w3 ⟨rfl, hb⟩
      have q1 := h1.below hb
      have q2 := h3.below hb
      have hgs := hb.size
      have hO4 := h2.below hb
      have hb3 : Below w.heap.size w w3 := h4.trans (hb.mono h4.size)
      have hk3 : KeepsFrom W1.heap.size W w3 := keeps_below hb
      have hS3 : Kps (fun k => k < w.heap.size ∨ k = Bs) W w3 := Kps.below hb (fun k hk => by
        have hk : k < w.heap.size ∨ k = Bs := hk
        omega)
      have HQ := Lib.hid q1
      go_wp2_with (first
        | (with_reducible show wpList _ _ _ (Oper.mk _ (Op.store 24 _ _) _ _ _ _ :: _) _ _
           refine wpList_storeR (c := bagC (.slice A' ls.length c') (IntKind.i64.wrap (N + 1))) rfl _ _ rfl rfl rfl aggB.hi HQ.out rfl (bag_one _ _ _ _) ?_))
      have hg5 := gr_row w3 w.heap.size (bagC (.slice A' ls.length c') (IntKind.i64.wrap (N + 1)))
      refine ⟨hk3.trans (keeps_row hg5 (by rintro k e; injection e with e; subst e; exact ⟨_, q1, rfl⟩)), hS3.trans (Kps.grown hg5 (fun k hk => ?_)), A', c', ?_⟩
      · have hk : k < w.heap.size ∨ k = Bs := hk
        exact ⟨by omega, fun e => by injection e with e; omega⟩
      · rw [HSN.out]
        try rw [show (ls ++ [g]).length = ls.length + 1 by simp]
        exact ⟨q1.setRow, hO4.setRow (by omega) _, q2.setRow_other (by omega), below_setRow hb3 (Nat.le_refl _) _, by simp [World.setRow]; omega⟩
  case done =>
    rintro D ys W hDs rfl ⟨A', c', h1, h2, h3, h4, h5⟩ hK
    rw [gsP_all] at h1 h2
    obtain ⟨st, hst⟩ : ∃ st, sendS (gs, n) (ps.map (·.1)) = st := ⟨_, rfl⟩
    rw [hst] at h1 h2
    obtain ⟨ls, N⟩ := st
    dsimp only at h1 h2
    have HST := Lib.hid hst
    clear hst
    go_wp2_with (first
      | (with_reducible show wpList _ _ _ (Oper.mk _ (Op.load 24 _) _ _ _ _ :: _) _ _
         refine wpList_loadW h1 aggB rfl _ rfl rfl ?_)
      | (with_reducible show wpList _ _ _ (Oper.mk _ (Op.store 24 _ _) _ _ _ _ :: _) _ _
         refine wpList_storeR (c := bagC (.slice A' ls.length c') N) rfl _ _ rfl rfl rfl aggB.hi h3 rfl (bag_one _ _ _ _) ?_))
    have hD : w.heap.size < D := by omega
    have hK' := (Go.setRow_other W (w.heap.size + 1) D (bagC (.slice A' ls.length c') N) (by omega)).trans hK
    have hbi := bides_put (B := w.heap.size) (o' := .deferred none) hK' rfl (by omega)
    refine ⟨by simp, .inl ⟨_, _, rfl, run_takeDeferred hK', ?_⟩⟩
    rw [HST.out]
    exact ⟨_, results_cell_row (cs := bagC (.slice A' ls.length c') N) rfl _ _ _ _ _ _ rfl (hbi.rw_ (h3.setRow (c' := bagC (.slice A' ls.length c') N))) Try.underlying24 rfl aggB.hi, A', _, c', rfl,
      (hbi.ownP (h2.setRow (by omega) _)).made (fun k hk => by omega) (hbi.below (below_setRow h4 (by omega) _) (Nat.le_refl _) (Nat.le_refl _))⟩
  case stop =>
    rintro D c pre W hDs hp h hK
    exact h.elim
end Go.Proofs.Ytdoigpifkdkjpaa
