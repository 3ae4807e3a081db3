/- The document's own payload of a message that may be, kind by kind. The document's own payload, datagram, numbers that are taken. The document's own pair, taken. What the document's own reading tells behind the first four numbers. -/
import Derived.Test.YtaacjpcckinaiaaGreatWRefPay1
import Derived.Test.YtaacjpcckinaiaaGreatWRefPay2
import Derived.Test.YtaacjpcckinaiaaGreatWRefPay3
import Derived.Test.YtaacjpcckinaiaaGreatWRefPay4
import Derived.Test.YtaacjpcckinaiaaGreatFrmB
import Derived.Test.YtaacjpcckinaiaaGreatMSplit
set_option linter.unusedVariables false
set_option maxRecDepth 100000
set_option linter.unusedSimpArgs false
namespace Go.Proofs.YtaacjpcckinaiaaGreat
open Go.RowKit Go.Shelf Ms

theorem Payload_ref_yes (m : M) (A : Option Addr) (c : Nat) (l : List Int) (hk0 : 0 ≤ m.kind) (w : World) (hs : Sl w (.slice A l.length c) (iv l)) (h : rightB m l = true) :
    Calls Tryz.prog 11 #[.agg (m.c (.slice A l.length c))] w fun e w' => ∃ v, e = .returned (.tuple #[v, .int .i64 0]) ∧ Sl w' v (bv (payB m l)) ∧ Below w.heap.size w w' := by
  by_cases n4 : m.kind = 4
  · exact Payload_ref_4 m A c l hk0 w hs h n4
  by_cases n5 : m.kind = 5
  · exact Payload_ref_5 m A c l hk0 w hs h n5
  by_cases n6 : m.kind = 6
  · exact Payload_ref_6 m A c l hk0 w hs h n6
  by_cases n7 : m.kind = 7
  · exact Payload_ref_7 m A c l hk0 w hs h n7
  by_cases n10 : m.kind = 10
  · exact Payload_ref_10 m A c l hk0 w hs h n10
  by_cases n11 : m.kind = 11
  · exact Payload_ref_11 m A c l hk0 w hs h n11
  by_cases n12 : m.kind = 12
  · exact Payload_ref_12 m A c l hk0 w hs h n12
  exact Payload_ref_0 m A c l hk0 w hs h n4 n5 n6 n7 n10 n11 n12
end Go.Proofs.YtaacjpcckinaiaaGreat
set_option linter.unusedVariables false
set_option maxRecDepth 100000
set_option linter.unusedSimpArgs false
namespace Go.Proofs.YtaacjpcckinaiaaGreat
open Go.RowKit Go.Shelf Ms

set_option maxHeartbeats 4000000 in
theorem Payload_ref (m : M) (A : Option Addr) (c : Nat) (l : List Int) (hk0 : 0 ≤ m.kind) (w : World) (hs : Sl w (.slice A l.length c) (iv l)) :
    Calls Tryz.prog 11 #[.agg (m.c (.slice A l.length c))] w fun e w' => ∃ v, e = .returned (.tuple #[v, .int .i64 (payE m l)]) ∧ Sl w' v (bv (payR m l)) ∧ Below w.heap.size w w' := by
  unfold payE payR
  by_cases h : rightB m l = true
  · rw [if_pos h, if_pos h]
    exact Payload_ref_yes m A c l hk0 w hs h
  · rw [if_neg h, if_neg h]
    have R0 := Rw.new w (m.c (.slice A l.length c)) 27
    have B0 := box_below w (.cells (m.c (.slice A l.length c)) 27)
    have h' : rightB m l = false := by simpa using h
    have a1 := rRight_any m A c l hk0 _ (hs.below B0)
    rw [h'] at a1
    have A1 := Lib.hid a1
    clear a1 h h' hs
    go_enter Tryz.func11, Tryz.ntmps11
    go_wp2_with (first
      | (with_reducible show wpList _ _ _ (Oper.mk _ (Op.load 27 (.tmp 1)) _ _ _ _ :: _) _ _
         refine wpList_loadW R0 agg27 rfl _ rfl rfl ?_))
    refine A1.out.mono ?_; rintro e w1 ⟨rfl, hb⟩
    go_wp2
    go_ret2
    exact ⟨_, rfl, Sl.nil_ _, B0.trans (hb.mono B0.size)⟩

set_option maxHeartbeats 4000000 in
theorem Put_ref (m : M) (A : Option Addr) (c : Nat) (l : List Int) (hk0 : 0 ≤ m.kind) (w : World) (hs : Sl w (.slice A l.length c) (iv l)) :
    Calls Tryz.prog 17 #[.agg (m.c (.slice A l.length c))] w fun e w' => ∃ v, e = .returned (.tuple #[v, .int .i64 (payE m l)]) ∧ Sl w' v (bv (putR m l)) ∧ Below w.heap.size w w' := by
  have R0 := Rw.new w (m.c (.slice A l.length c)) 27
  have B0 := box_below w (.cells (m.c (.slice A l.length c)) 27)
  have hP := Payload_ref m A c l hk0 _ (hs.below B0)
  unfold payE putR payR at *
  by_cases h : rightB m l = true
  · rw [if_pos h, if_pos h] at hP ⊢
    have HP := Lib.hid hP
    have HC := Lib.hid (closeE_pay h)
    clear hP h
    go_enter Tryz.func17, Tryz.ntmps17
    go_wp2_with (first
      | (with_reducible show wpList _ _ _ (Oper.mk _ (Op.load 27 (.tmp 1)) _ _ _ _ :: _) _ _
         refine wpList_loadW R0 agg27 rfl _ rfl rfl ?_))
    refine HP.out.mono ?_; rintro e w1 ⟨v1, rfl, hs1, hb1⟩
    go_wp2_with fail
    refine (Frm.Close_ref v1 (payB m l) _ hs1).mono ?_; rintro e w2 ⟨v2, rfl, hs2, hb2⟩
    rw [HC.out]
    go_wp2_with fail
    go_ret2
    exact ⟨v2, rfl, hs2, (B0.trans (hb1.mono B0.size)).trans (hb2.mono (Nat.le_trans B0.size hb1.size))⟩
  · rw [if_neg h, if_neg h] at hP ⊢
    have HP := Lib.hid hP
    clear hP h
    go_enter Tryz.func17, Tryz.ntmps17
    go_wp2_with (first
      | (with_reducible show wpList _ _ _ (Oper.mk _ (Op.load 27 (.tmp 1)) _ _ _ _ :: _) _ _
         refine wpList_loadW R0 agg27 rfl _ rfl rfl ?_))
    refine HP.out.mono ?_; rintro e w1 ⟨v1, rfl, hs1, hb1⟩
    go_wp2_with fail
    go_ret2
    exact ⟨_, rfl, Sl.nil_ _, B0.trans (hb1.mono B0.size)⟩

set_option maxHeartbeats 8000000 in
theorem numbers_any (v : Value) (bs : List UInt8) (n : Nat) (hn : n ≤ 4) (w : World) (hs : Sl w v (bv bs)) (hl : bs.length ≤ 1000) :
    Calls Tryz.prog 34 #[v, .int .i64 (n : Int)] w fun e w' => ((∃ v1 v2 ns rest, e = .returned (.tuple #[v1, v2, .bool true]) ∧ takeI n bs = some (ns, rest) ∧ Slf w.heap.size w' v1 (iv ns) ∧ Sl w' v2 (bv rest) ∧ (0 < n → Slf w.heap.size w' v2 (bv rest))) ∨ (e = .returned (.tuple #[.slice none 0 0, .slice none 0 0, .bool false]) ∧ takeI n bs = none)) ∧ Below w.heap.size w w' := by
  have HL := Lib.hid hl
  have HS := Lib.hid hs
  have HN := Lib.hid hn
  clear hl hs
  go_enter Tryz.func34, Tryz.ntmps34
  go_wp2
  go_loopw [0, 7, 8] (fun t0 t7 t8 W => ∃ (k : Nat) (ns : List Int) (rest : List UInt8), k ≤ n ∧ t8 = .int .i64 (k : Int) ∧ takeI k bs = some (ns, rest) ∧ Sl W t0 (bv rest) ∧ Made w W 3 t7 (iv ns) ∧ (0 < k → Slf w.heap.size W t0 (bv rest))) (fun _ _ i _ => n - (intOf i).toNat)
  case atStart => exact ⟨0, [], bs, Nat.zero_le _, rfl, rfl, HS.out, Made.nil_ w 3, fun h => absurd h (by omega)⟩
  case round =>
    obtain ⟨k, ns, rest, hk, rfl, ht, h0, hM, hF⟩ := hrel
    have hlen : ns.length = k ∧ rest.length ≤ bs.length := takeI_len ht
    have HT := Lib.hid ht
    have HM := Lib.hid hM
    have HLN := Lib.hid hlen
    have H0 := Lib.hid h0
    have HF := Lib.hid hF
    have HWS := Lib.hid hM.below.size
    clear hF
    by_cases hkn : k < n
    · have HK := Lib.hid hkn
      by_cases he : (Num.takeE rest).2.2 = 0
      · have a1 := Num.refTake_own u0 rest wr h0 (by have := hlen.2; have := HL.out; omega)
        have hti := tI_some he
        rw [he] at a1
        have hstep := takeI_step ht
        rw [hti] at hstep
        generalize ((Num.takeE rest).1 : Int) = x at *
        generalize Num.restT rest = rest' at *
        simp only [Option.map_some] at hstep
        have HST := Lib.hid hstep
        have GB := Lib.hid (fun g (e : u7.ownBlock = some g) => (hM.own.lt g e).2)
        clear ht hM hlen h0 he hti hstep
        go_wp2_with fail
        refine a1.mono ?_; rintro e w1 ⟨v', rfl, ho, hb⟩
        have sv := Slf.of_own ho
        have HM1 := Lib.hid (HM.out.behind hb)
        clear ho hb a1
        go_wp2_with (at_builtin; refine wpList_moreK Num.el22 rfl (.tmp 25) (.tmp 27) rfl rfl (HM1.out.alloc _) rfl (Sl.lit w1 [.int .i64 x] 3 1 rfl (by decide)) (by intro u hu; simp at hu; subst hu; rfl) (by have := HLN.out.1; have := HN.out; have := iv_length ns; simp only [List.length_cons, List.length_nil]; omega) ?_; intro v7 w7 hm7 hk7; have sv7 := hk7 _ _ _ (sv.below ((Below.refl _ w1).alloc (Nat.le_refl _) _)) GB.out)
        go_roundw
        case rel => exact ⟨k + 1, ns ++ [x], rest', by have := HK.out; omega, by go_num, HST.out, sv7.sl, by have := hm7; unfold iv at this ⊢; rw [List.map_append]; exact this, fun _ => sv7.mono HWS.out⟩
        case measure => have := HK.out; simp [intOf]; omega
      · have a1 := Num.refTake_own u0 rest wr h0 (by have := hlen.2; have := HL.out; omega)
        have hz : (((Num.takeE rest).2.2 : Int) != 0) = true := by rw [bne_iff_ne]; omega
        have hnone : takeI n bs = none := by
          have hk1 : takeI (k + 1) bs = none := by rw [takeI_step ht, tI_none he]; rfl
          have := takeI_none hk1 (n - (k + 1))
          rwa [show k + 1 + (n - (k + 1)) = n by omega] at this
        have HNO := Lib.hid hnone
        generalize ((Num.takeE rest).2.2 : Int) = x at *
        clear ht hM hlen h0 he hnone
        go_wp2_with fail
        refine a1.mono ?_; rintro e w1 ⟨v', rfl, ho, hb⟩
        have HB := Lib.hid (HM.out.below.trans (hb.mono HM.out.below.size))
        clear ho hb a1
        go_wp2_with fail
        refine bodyPost_ret (results_tmp3 rfl _ _ _) rfl ?_
        exact ⟨.inr ⟨rfl, HNO.out⟩, HB.out⟩
    · obtain rfl : k = n := by omega
      clear ht hM hlen h0
      go_wp2
      refine bodyPost_ret (results_tmp3 rfl _ _ _) rfl ?_
      exact ⟨.inl ⟨_, _, ns, rest, rfl, HT.out, Slf.of_own HM.out.own, H0.out, HF.out⟩, HM.out.below⟩
end Go.Proofs.YtaacjpcckinaiaaGreat
set_option linter.unusedVariables false
set_option maxRecDepth 100000
set_option linter.unusedSimpArgs false
namespace Go.Proofs.YtaacjpcckinaiaaGreat
open Go.RowKit Go.Shelf Ms

theorem It.one_ (x : It) : x.c.all (·.oneCell') = true := by simp [It.c, Value.oneCell']
theorem results_ci {fn : Func} {tmps : Array Value} {w : World} {p q : Tmp} {g : Nat} {x : It} {v : Value} (h : fn.results = #[.cell p 24, .tmp q]) (hp : tmps.getD p undef = ptr g) (hq : tmps.getD q undef = v) (hr : Rw w g 24 x.c) : (results fn tmps).run Tryz.prog w = .ok (.tuple #[.agg x.c, v]) w := by
  have hl := run_loadVar_row (P := Tryz.prog) _ _ _ 24 _ _ _ hr Tryz.underlying24 rfl agg24.hi
  simp [results, h, gd hp, gd hq, asAddr, hl]
/-- The cells of a slice of ints. -/
theorem Slf.int_ {n : Nat} {w : World} {v : Value} {l : List Int} (h : Slf n w v (iv l)) (h0 : l ≠ []) : ∃ b off c, v = .slice (some ⟨b, off, none⟩) l.length c ∧ n ≤ b ∧ b < w.heap.size ∧ ∀ j (hj : j < l.length), w.cell? ⟨b, off + j, none⟩ = some (.int .i64 l[j]) := by
  rcases h.sl.ints3 with ⟨_, h1⟩ | ⟨b, off, c, rfl, h1, h2⟩
  · exact absurd h1 h0
  · exact ⟨b, off, c, rfl, h.new b rfl, h1, h2⟩
theorem list3 {ns : List Int} (h : ns.length = 3) : ∃ a b c, ns = [a, b, c] := by
  match ns, h with
  | [a, b, c], _ => exact ⟨a, b, c, rfl⟩
theorem list2 {ns : List Int} (h : ns.length = 2) : ∃ a b, ns = [a, b] := by
  match ns, h with
  | [a, b], _ => exact ⟨a, b, rfl⟩
theorem list1 {ns : List Int} (h : ns.length = 1) : ∃ a, ns = [a] := by
  match ns, h with
  | [a], _ => exact ⟨a, rfl⟩
theorem list4 {ns : List Int} (h : ns.length = 4) : ∃ a b c d, ns = [a, b, c, d] := by
  match ns, h with
  | [a, b, c, d], _ => exact ⟨a, b, c, d, rfl⟩

set_option maxHeartbeats 8000000 in
theorem paired_any (v : Value) (bs : List UInt8) (w : World) (hs : Sl w v (bv bs)) (hl : bs.length ≤ 1000) :
    Calls Tryz.prog 52 #[v] w fun e w' => ((∃ x r, tP bs = some (x, r) ∧ e = .returned (.tuple #[.agg x.c, .bool true])) ∨ (tP bs = none ∧ ∃ x : It, e = .returned (.tuple #[.agg x.c, .bool false]))) ∧ Below w.heap.size w w' := by
  have R0 := Rw.new w noIt.c 24
  have B0 := box_below w (.cells noIt.c 24)
  have a1 := Num.refTakeText_any v bs _ (hs.below B0) (by omega)
  have a2 := fun v' w h => numbers_any v' (Num.takeT bs).2.1 3 (by decide) w h
  have htp := tP_eq bs
  have hq := fun r h => tT_len (bs := bs) (r := r) h
  by_cases he : (Num.takeT bs).2.2 = 0
  · have hT := tT_some he
    rw [hT] at htp
    have hlen : (Num.takeT bs).2.1.length ≤ bs.length := hq _ hT
    rw [he] at a1
    simp only [Option.bind_some] at htp
    generalize (Num.takeT bs).2.1 = rest at *
    generalize (ByteArray.mk (Num.takeT bs).1.toArray) = S at *
    have HTP := Lib.hid htp
    have A2 := Lib.hid (fun v' w h => a2 v' w h (by omega))
    clear hs htp hq he hT hlen a2 hl
    go_enter Tryz.func52, Tryz.ntmps52
    go_wp2_with fail
    refine a1.mono ?_; rintro e w1 ⟨v1, rfl, s1, hb1⟩
    have H1 := B0.trans (hb1.mono B0.size)
    have R1 := R0.below hb1
    clear a1 hb1
    go_wp2_with fail
    refine (A2.out _ _ s1).mono ?_
    rintro e w2 ⟨⟨v7, v8, ns, rest', rfl, hti, s7, s8⟩ | ⟨rfl, hti⟩, hb⟩
    · have H2 := H1.trans (hb.mono H1.size)
      have R2 := R1.below hb
      obtain ⟨a, b, c, rfl⟩ := list3 (takeI_len hti).1
      rw [hti] at HTP
      obtain ⟨g, off, cp, rfl, hg, hgl, hc⟩ := s7.int_ (by simp)
      have hne : g ≠ w.heap.size := by have := R1.lt; omega
      have h0 := hc 0 (by simp)
      have h1 := hc 1 (by simp)
      have h2 := hc 2 (by simp)
      simp only [List.getElem_cons_zero, List.getElem_cons_succ, Nat.add_zero] at h0 h1 h2
      have q0 := fun y : Wd w2 => (y.below.cell (p := ⟨g, off, none⟩) hgl).trans h0
      have q1 := fun y : Wd w2 => (y.below.cell (p := ⟨g, off + 1, none⟩) hgl).trans h1
      have q2 := fun y : Wd w2 => (y.below.cell (p := ⟨g, off + 2, none⟩) hgl).trans h2
      have HTQ := Lib.hid hti
      have HR := Lib.hid R2
      have HB := Lib.hid H2
      clear hb s1 s7 s8 R0 B0 R1 H1 hgl hc hti h0 h1 h2 R2 H2 hne
      go_wp2_with fail
      refine wp_region_split ⟨w2, Below.refl _ _⟩ 11 1 (by kernel_rfl) (by rfl) (by kernel_rfl) ?_
      simp only [List.take_succ_cons, List.take_zero]
      repeat (first
        | go_big_quiet_skip
        | (go_big_quiet_want
           (go_big_quiet_op; first | go_big_quiet_on | (apply Exists.intro; refine ⟨fun _ => rfl, ?_⟩; go_big_quiet_on))))
      refine wpQuiet_nil ?_
      intro y f
      refine wpAny_of_held (S := fun _ => True) _ _ _ _ ?_
      refine wpAnyH_ready (rs := [12]) (by kernel_rfl) (by simp) ?_
      refine AllReadyH.cons (o := { dst := none, op := .store 24 (.tmp 2) (.tmp 40), type := _, pos := _, after := _, guard := none }) rfl (fun K hK => ?_) AllReadyH.nil
      rw [if_pos (by rfl)]
      refine wp_storeR (c := It.c ⟨S, a, b, c == 1⟩) (.tmp 2) (.tmp 40) rfl rfl rfl agg24.hi (HR.out.below y.below) rfl (It.one_ _) ?_
      refine hK.out _ _ trivial (fun _ => ?_)
      clear hK K
      simp only [Act.put]
      refine wpAnyH_ready (rs := [13]) (by kernel_rfl) (by simp) ?_
      refine AllReadyH.cons (o := { dst := some 3, op := .assign (.const (.bool true)), type := _, pos := _, after := _, guard := none }) rfl (fun K hK => ?_) AllReadyH.nil
      rw [if_pos (by rfl)]
      go_big_move
      refine hK.out _ _ trivial (fun _ => ?_)
      clear hK K
      try simp only [Act.put, List.setIfInBounds_toArray, List.set_cons_zero, List.set_cons_succ]
      refine wpAnyH_done (by kernel_rfl) ?_ _
      go_wp2
      have hcc : (c == 1) = decide (c = 1) := by rw [Bool.eq_iff_iff, beq_iff_eq, decide_eq_true_iff]
      have HY := HB.out.trans (y.below.mono HB.out.size)
      exact bodyPost_ret (results_ci rfl rfl rfl (HR.out.below y.below).setRow) rfl ⟨.inl ⟨⟨S, a, b, c == 1⟩, rest', by rw [HTP.out, hcc]; rfl, rfl⟩, below_setRow HY (Nat.le_refl _) _⟩
    · have H2 := H1.trans (hb.mono H1.size)
      have R2 := R1.below hb
      rw [hti] at HTP
      go_wp2_with (first
        | (with_reducible show wpList _ _ _ (Oper.mk _ (Op.build 24 _) _ _ _ _ :: _) _ _
           refine wpList_buildR rfl [] rfl rfl (run_buildI0 _) ?_)
        | (with_reducible show wpList _ _ _ (Oper.mk _ (Op.store 24 _ _) _ _ _ _ :: _) _ _
           refine wpList_storeR (c := noIt.c) rfl _ _ rfl rfl rfl agg24.hi R2 rfl (It.one_ _) ?_))
      exact bodyPost_ret (results_ci rfl rfl rfl R2.setRow) rfl ⟨.inr ⟨HTP.out, _, rfl⟩, below_setRow H2 (Nat.le_refl _) _⟩
  · have hT := tT_none he
    rw [hT] at htp
    have hz : (((Num.takeT bs).2.2 : Int) != 0) = true := by rw [bne_iff_ne]; omega
    have hlen : (Num.takeT bs).2.1.length ≤ 1000 := by
      cases bs with
      | nil => simp [Num.takeT]
      | cons q t =>
        simp only [Num.takeT] at he ⊢
        split at he
        · rename_i hc; rw [if_pos hc]; simp
        · exact absurd rfl he
    generalize ((Num.takeT bs).2.2 : Int) = E at *
    generalize (Num.takeT bs).2.1 = rest at *
    have HTP := Lib.hid (show tP bs = none from htp)
    have A2 := Lib.hid (fun v' w h => a2 v' w h hlen)
    clear hs htp hq he hT hlen a2 hl
    go_enter Tryz.func52, Tryz.ntmps52
    go_wp2_with fail
    refine a1.mono ?_; rintro e w1 ⟨v1, rfl, s1, hb1⟩
    have H1 := B0.trans (hb1.mono B0.size)
    have R1 := R0.below hb1
    clear a1 hb1
    go_wp2_with fail
    refine (A2.out _ _ s1).mono ?_
    rintro e w2 ⟨⟨v7, v8, ns, rest', rfl, hti, s7, s8⟩ | ⟨rfl, hti⟩, hb⟩ <;>
    · have H2 := H1.trans (hb.mono H1.size)
      have R2 := R1.below hb
      go_wp2_with (first
        | (with_reducible show wpList _ _ _ (Oper.mk _ (Op.build 24 _) _ _ _ _ :: _) _ _
           refine wpList_buildR rfl [] rfl rfl (run_buildI0 _) ?_)
        | (with_reducible show wpList _ _ _ (Oper.mk _ (Op.store 24 _ _) _ _ _ _ :: _) _ _
           refine wpList_storeR (c := noIt.c) rfl _ _ rfl rfl rfl agg24.hi R2 rfl (It.one_ _) ?_))
      exact bodyPost_ret (results_ci rfl rfl rfl R2.setRow) rfl ⟨.inr ⟨HTP.out, _, rfl⟩, below_setRow H2 (Nat.le_refl _) _⟩
end Go.Proofs.YtaacjpcckinaiaaGreat
set_option linter.unusedVariables false
set_option maxRecDepth 100000
set_option linter.unusedSimpArgs false
namespace Go.Proofs.YtaacjpcckinaiaaGreat
open Go.RowKit Go.Shelf Ms

theorem _root_.Go.Proofs.YtaacjpcckinaiaaGreat.Ms.S2.on_ {w0 w w' : World} {c1 c2 : Array Value} (h : S2 w0 w c1 c2) (hb : Below w.heap.size w w') : S2 w0 w' c1 c2 := ⟨h.r1.below hb, h.r2.below hb, h.below.trans (hb.mono h.below.size)⟩
theorem _root_.Go.Proofs.YtaacjpcckinaiaaGreat.Ms.S2.drew_ {w0 w : World} {c1 c2 : Array Value} (h : S2 w0 w c1 c2) : S2 w0 w.drew c1 c2 := ⟨h.r1, h.r2, h.below.drew⟩
theorem takeI_rng : ∀ {k : Nat} {bs : List UInt8} {s : List Int × List UInt8}, takeI k bs = some s → ∀ x ∈ s.1, 0 ≤ x ∧ x ≤ 1099511627776
  | 0, bs, s, h, x, hx => by
    obtain rfl := Option.some.inj h
    cases hx
  | k + 1, bs, s, h, x, hx => by
    obtain ⟨s', h1, h2⟩ := Option.bind_eq_some_iff.1 h
    obtain ⟨r, h3, rfl⟩ := Option.map_eq_some_iff.1 h2
    rcases List.mem_append.1 hx with h4 | h4
    · exact takeI_rng h1 x h4
    · simp only [List.mem_cons, List.not_mem_nil, or_false] at h4
      subst h4
      unfold tI at h3
      split at h3
      · rename_i h0
        injection h3 with h3
        subst h3
        have := (Num.num_takeE _ h0).1
        show 0 ≤ (((Num.takeE s'.2).1 : Nat) : Int) ∧ (((Num.takeE s'.2).1 : Nat) : Int) ≤ _
        omega
      · cases h3
theorem beq_dec (a b : Int) : decide (a = b) = (a == b) := by rw [Bool.eq_iff_iff, beq_iff_eq, decide_eq_true_iff]
/-- What is told of a message and the rest of its bytes. -/
def MoreP (m : M) (bs : List UInt8) (w w' : World) (e : Ending) : Prop :=
  ((∃ (m' : M) (l' : List Int) (r : List UInt8) (A : Option Addr) (n c : Nat), parse (tail m.kind) m [] bs = some (m', l', r) ∧ m'.kind = m.kind ∧ e = .returned (.tuple #[.agg (m'.c (.slice A n c)), .bool true]) ∧ Slf w.heap.size w' (.slice A n c) (iv l')) ∨
    (parse (tail m.kind) m [] bs = none ∧ ∃ (m' : M) (A : Option Addr) (n c : Nat), e = .returned (.tuple #[.agg (m'.c (.slice A n c)), .bool false]))) ∧ Below w.heap.size w w'

end Go.Proofs.YtaacjpcckinaiaaGreat
