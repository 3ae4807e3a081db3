/- 'Read', 'Put', 'Take', 'Most': what they tell. -/
import Derived.Test.YtaacjpcckinaiaaGreatWRead
import Derived.Test.YtaacjpcckinaiaaGreatFrmB
set_option linter.unusedVariables false
set_option maxRecDepth 100000
set_option linter.unusedSimpArgs false
namespace Go.Proofs.YtaacjpcckinaiaaGreat
open Go.RowKit Go.Shelf Ms

def payE (m : M) (l : List Int) : Int := if rightB m l = true then 0 else 2
def payR (m : M) (l : List Int) : List UInt8 := if rightB m l = true then payB m l else []
def readR (bs : List UInt8) : M × List Int × Int := match readF bs with
  | some r => (r.1, r.2, 0)
  | none => (noM, [], 12)
theorem readR_some {bs : List UInt8} {m : M} {l : List Int} (h : readF bs = some (m, l)) : readR bs = (m, l, 0) := by unfold readR; rw [h]
theorem readR_none {bs : List UInt8} (h : readF bs = none) : readR bs = (noM, [], 12) := by unfold readR; rw [h]
theorem readF_big {bs : List UInt8} (h : 46 < bs.length) : readF bs = none := by unfold readF; rw [if_pos h]

theorem Read_any (v : Value) (bs : List UInt8) (w : World) (hs : Sl w v (bv bs)) :
    Calls Tryz.prog 12 #[v] w fun e w' => ∃ lv, e = .returned (.tuple #[.agg ((readR bs).1.c lv), .int .i64 (readR bs).2.2]) ∧ Slf w.heap.size w' lv (iv (readR bs).2.1) ∧ Below w.heap.size w w' := by
  cases hr : readF bs with
  | none =>
    rw [readR_none hr]
    refine (Read_no v 12 w fun W hb => ?_).mono fun e w' ⟨h1, h2⟩ => ⟨nilS, h1, Slf.nil_ _ _, h2⟩
    by_cases hl : 46 < bs.length
    · exact read_big v bs W (hs.below hb) hl
    · refine (read_any v bs W (hs.below hb) (by omega)).mono ?_
      rintro e w' (⟨m, l, lv, h, -⟩ | ⟨-, h1, h2⟩)
      · rw [hr] at h; cases h
      · exact ⟨h1, h2⟩
  | some r =>
    obtain ⟨m, l⟩ := r
    rw [readR_some hr]
    refine Read_yes v m l w fun W hb => ?_
    have hl : ¬ 46 < bs.length := fun h => by rw [readF_big h] at hr; cases hr
    refine (read_any v bs W (hs.below hb) (by omega)).mono ?_
    rintro e w' (⟨m', l', lv, h, h1, h2, h3⟩ | ⟨h, -⟩)
    · rw [hr] at h; injection h with h; injection h with h4 h5; subst h4 h5
      exact ⟨lv, h1, h2, h3⟩
    · rw [hr] at h; cases h

theorem Most_any (w : World) : Calls Tryz.prog 21 #[] w fun e w' => e = .returned (.int .i64 46) ∧ w = w' := by
  go_enter Tryz.func21, Tryz.ntmps21
  go_wp2
  go_ret
  exact ⟨rfl, rfl⟩

def putR (m : M) (l : List Int) : List UInt8 := if rightB m l = true then Frm.closeB (payB m l) else []
theorem closeE_pay {m : M} {l : List Int} (h : rightB m l = true) : Frm.closeE (payB m l) = 0 := by
  have := payB_len h
  unfold Frm.closeE
  rw [if_neg (by omega)]

set_option maxHeartbeats 2000000 in
theorem Put_any (m : M) (A : Option Addr) (c : Nat) (l : List Int) (hk0 : 0 ≤ m.kind) (w : World) (hs : Sl w (.slice A l.length c) (iv l)) :
    Calls Tryz.prog 16 #[.agg (m.c (.slice A l.length c))] w fun e w' => ∃ v, e = .returned (.tuple #[v, .int .i64 (payE m l)]) ∧ Sl w' v (bv (putR m l)) ∧ Below w.heap.size w w' := by
  have R0 := Rw.new w (m.c (.slice A l.length c)) 27
  have B0 := box_below w (.cells (m.c (.slice A l.length c)) 27)
  have hP := Payload_any m A c l hk0 _ (hs.below B0)
  unfold payE putR
  by_cases h : rightB m l = true
  · rw [if_pos h, if_pos h] at hP ⊢
    have HP := Lib.hid hP
    have HC := Lib.hid (closeE_pay h)
    clear hP h
    go_enter Tryz.func16, Tryz.ntmps16
    go_wp2_with (first
      | (with_reducible show wpList _ _ _ (Oper.mk _ (Op.load _ (.tmp 1)) _ _ _ _ :: _) _ _
         refine wpList_loadR rfl _ rfl rfl (run_loadR (c := m.c (.slice A l.length c)) agg27 R0) ?_)
      | (go_at_call 10; refine HP.out.mono ?_; rintro e w1 ⟨v1, rfl, hs1, hb1⟩)
      | (go_at_call 36; refine (Frm.Close_any v1 (payB m l) _ hs1.sl).mono ?_; rintro e w2 ⟨v2, rfl, hs2, hb2⟩; rw [HC.out]))
    go_ret2
    exact ⟨v2, rfl, hs2, (B0.trans (hb1.mono B0.size)).trans (hb2.mono (Nat.le_trans B0.size hb1.size))⟩
  · rw [if_neg h, if_neg h] at hP ⊢
    have HP := Lib.hid hP
    clear hP h
    go_enter Tryz.func16, Tryz.ntmps16
    go_wp2_with (first
      | (with_reducible show wpList _ _ _ (Oper.mk _ (Op.load _ (.tmp 1)) _ _ _ _ :: _) _ _
         refine wpList_loadR rfl _ rfl rfl (run_loadR (c := m.c (.slice A l.length c)) agg27 R0) ?_)
      | (go_at_call 10; refine HP.out.mono ?_; rintro e w1 ⟨v1, rfl, hs1, hb1⟩))
    go_ret2
    exact ⟨_, rfl, Sl.nil_ _, B0.trans (hb1.mono B0.size)⟩

theorem results_ct {fn : Func} {tmps : Array Value} {w : World} {p q : Tmp} {g : Nat} {m : M} {lv v : Value} (h : fn.results = #[.cell p 27, .tmp q]) (hp : tmps.getD p undef = ptr g) (hq : tmps.getD q undef = v) (hr : Rw w g 27 (m.c lv)) : (results fn tmps).run Tryz.prog w = .ok (.tuple #[.agg (m.c lv), v]) w := by
  have hl := run_loadVar_row (P := Tryz.prog) _ _ _ 27 _ _ _ hr Tryz.underlying27 rfl agg27.hi
  simp [results, h, gd hp, gd hq, asAddr, hl]

def takeR (b : List UInt8) : M × List Int × Int := if Frm.openE b = 0 then readR (Frm.openP b) else (noM, [], Frm.openE b)

set_option maxHeartbeats 2000000 in
theorem Take_any (v : Value) (b : List UInt8) (w : World) (hs : Sl w v (bv b)) :
    Calls Tryz.prog 18 #[v] w fun e w' => ∃ lv, e = .returned (.tuple #[.agg ((takeR b).1.c lv), .int .i64 (takeR b).2.2]) ∧ Sl w' lv (iv (takeR b).2.1) ∧ Below w.heap.size w w' := by
  have R0 := Rw.new w (noM.c nilS) 27
  have B0 := box_below w (.cells (noM.c nilS) 27)
  have hO := Frm.Open_any v b _ (hs.below B0)
  unfold takeR
  by_cases h : Frm.openE b = 0
  · rw [if_pos h]
    rw [h] at hO
    have HO := Lib.hid hO
    clear hO h
    go_enter Tryz.func18, Tryz.ntmps18
    go_wp2_with (first
      | (go_at_call 37; refine HO.out.mono ?_; rintro e w1 ⟨v1, rfl, hs1, hb1⟩)
      | (go_at_call 12; refine (Read_any v1 (Frm.openP b) _ hs1).mono ?_; rintro e w2 ⟨lv, rfl, hs2, hb2⟩; obtain ⟨Al, nl, cl, rfl⟩ := hs2.sl.slice)
      | (with_reducible show wpList _ _ _ (Oper.mk _ (Op.store _ (.tmp 2) _) _ _ _ _ :: _) _ _
         refine wpList_storeR (c := (readR (Frm.openP b)).1.c (.slice Al nl cl)) rfl _ _ rfl rfl rfl agg27.hi ((R0.below hb1).below hb2) rfl (M.one _ rfl) ?_))
    refine bodyPost_ret (results_ct rfl rfl rfl ((R0.below hb1).below hb2).setRow) rfl ⟨_, rfl, ?_, below_setRow ((B0.trans (hb1.mono B0.size)).trans (hb2.mono (Nat.le_trans B0.size hb1.size))) (Nat.le_refl _) _⟩
    have hz := hb1.size
    simp only [World.size_alloc] at hz
    exact (hs2.setRow_ (b := w.heap.size) (by omega) _).sl
  · rw [if_neg h]
    have HO := Lib.hid hO
    clear hO
    have hne : (Frm.openE b != 0) = true := by simp [h]
    go_enter Tryz.func18, Tryz.ntmps18
    go_wp2_with (first
      | (go_at_call 37; refine HO.out.mono ?_; rintro e w1 ⟨v1, rfl, hs1, hb1⟩)
      | (with_reducible show wpList _ _ _ (Oper.mk _ (Op.store _ (.tmp 2) _) _ _ _ _ :: _) _ _
         refine wpList_storeR (c := noM.c nilS) rfl _ _ rfl rfl rfl agg27.hi (R0.below hb1) rfl (M.one _ rfl) ?_))
    exact bodyPost_ret (results_ct rfl rfl rfl (R0.below hb1).setRow) rfl ⟨_, rfl, Sl.nil_ _, below_setRow (B0.trans (hb1.mono B0.size)) (Nat.le_refl _) _⟩
end Go.Proofs.YtaacjpcckinaiaaGreat
