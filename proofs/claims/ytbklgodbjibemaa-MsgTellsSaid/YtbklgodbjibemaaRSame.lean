/- The document's own 'Same': for any two messages. -/
import Derived.Test.YtbklgodbjibemaaSame
set_option linter.unusedVariables false
set_option linter.unusedSimpArgs false
namespace Go.Proofs.Ytbklgodbjibemaa
open Go.RowKit Go.Shelf

theorem Sl.q_ {w : World} {A : Option Addr} {n c : Nat} {l : List Int} (h : Sl w (.slice A n c) (iv l)) (j : Nat) (hj : j < l.length) : ∃ g off, A = some ⟨g, off, none⟩ ∧ w.cell? ⟨g, off + j, none⟩ = some (.int .i64 l[j]) := by
  rcases h.ints with ⟨_, rfl⟩ | ⟨b, off, c', e, _, _, _, h4⟩
  · cases hj
  · injection e with e
    exact ⟨b, off, e, h4 j hj⟩
theorem Sl.llen {w : World} {A : Option Addr} {n c : Nat} {l : List Int} (h : Sl w (.slice A n c) (iv l)) : n = l.length ∧ (n : Int) ≤ 9223372036854775807 := by
  have := h.len
  rw [iv_length] at this
  refine ⟨this.symm, ?_⟩
  rcases h.ints with ⟨e, rfl⟩ | ⟨b, off, c', e, h1, h2, _⟩
  · rw [← this]; simp
  · omega

set_option maxRecDepth 100000 in
set_option maxHeartbeats 4000000 in
theorem rSame_any (a b : M) (va vb : Value) (la lb : List Int) (w : World) (h1 : Sl w va (iv la)) (h2 : Sl w vb (iv lb)) :
    Calls Try.prog 20 #[.agg (a.c va), .agg (b.c vb)] w fun e w' => e = .returned (.bool (same a b la lb)) ∧ Below w.heap.size w w' := by
  obtain ⟨A, n, c, rfl⟩ := h1.slice
  obtain ⟨B, n', c', rfl⟩ := h2.slice
  obtain ⟨rfl, hm⟩ := h1.llen
  obtain ⟨rfl, _⟩ := h2.llen
  obtain ⟨r1, r2, r3⟩ := two_boxes w (a.c (.slice A la.length c)) (b.c (.slice B lb.length c')) 27 27
  generalize hW : (w.alloc (.cells (a.c (.slice A la.length c)) 27)).alloc (.cells (b.c (.slice B lb.length c')) 27) = W at r1 r2 r3
  obtain ⟨r, hr⟩ : ∃ r, same a b la lb = r := ⟨_, rfl⟩
  rw [hr]
  have HR := Lib.hid hr
  have R1 := Lib.hid r1
  have R2 := Lib.hid r2
  have c1 := r1.cell
  have c2 := r2.cell
  have s1 := h1.below r3
  have s2 := h2.below r3
  have Q1 := Lib.hid (fun j hj => s1.q_ j hj)
  have Q2 := Lib.hid (fun j hj => s2.q_ j hj)
  have HE := Lib.hid (fun w => run_eqI w a.it b.it)
  have HB := Lib.hid (fun n => r3.trans ((below_drewN (w := W) n).mono r3.size))
  have IA := Lib.hid (a.item (.slice A la.length c))
  have IB := Lib.hid (b.item (.slice B lb.length c'))
  by_cases hl : la.length = lb.length
  · have hz : ((la.length : Int) != (lb.length : Int)) = false := by simp [hl]
    have HL := Lib.hid hl
    clear h1 h2 s1 s2 r1 r2 r3 hr hl
    go_enter Try.func20, Try.ntmps20
    simp only [List.append_eq, List.cons_append, List.nil_append]
    go_wp2_with fail
    try rw [hW]
    clear hW
    go_loopw [5] (fun i w' => ∃ k : Nat, k ≤ la.length ∧ i = .int .i64 k ∧ la.take k = lb.take k ∧ ∃ n, w' = W.drewN n) (fun i _ => la.length - (intOf i).toNat)
    case atStart => exact ⟨0, by omega, rfl, by simp, 0, rfl⟩
    case round =>
      obtain ⟨k, hk, rfl, ht, nq, rfl⟩ := hrel
      have HT := Lib.hid ht
      clear ht
      by_cases hlt : k < la.length
      · obtain ⟨g1, o1, rfl, hc1⟩ := Q1.out k hlt
        obtain ⟨g2, o2, rfl, hc2⟩ := Q2.out k (by rw [← HL.out]; exact hlt)
        have i2 : (k : Int) < lb.length := by rw [← HL.out]; omega
        by_cases he : la[k] = lb[k]'(by rw [← HL.out]; exact hlt)
        · have hn : (la[k] != lb[k]'(by rw [← HL.out]; exact hlt)) = false := by simp [he]
          have HEQ := Lib.hid he
          clear he
          go_wp2
          go_quiet (fail)
          go_wp2
          go_roundw
          case rel =>
            refine ⟨k + 1, by omega, by go_num, ?_, _, by first | rfl | exact World.drewN_drewN _ _ _⟩
            rw [List.take_succ_eq_append_getElem hlt, List.take_succ_eq_append_getElem (by rw [← HL.out]; exact hlt), HT.out, HEQ.out]
          case measure => simp [intOf]; omega
        · have hn : (la[k] != lb[k]'(by rw [← HL.out]; exact hlt)) = true := by simp [he]
          have HEQ := Lib.hid he
          clear he
          go_wp2
          go_quiet (fail)
          go_wp2
          go_ret
          refine ⟨?_, ?_⟩
          · have : ¬ la = lb := fun e => HEQ.out (by simp [e])
            rw [← HR.out]
            simp [same, this]
          · first | exact HB.out _ | (rw [World.drewN_drewN]; exact HB.out _)
      · obtain rfl : k = la.length := by omega
        have hll : la = lb := by
          have := HT.out
          rw [List.take_length, HL.out, List.take_length] at this
          exact this
        have HLL := Lib.hid hll
        clear hll
        have HR1 := Lib.hid (show Rw (W.drewN nq) _ _ _ from R1.out)
        have HR2 := Lib.hid (show Rw (W.drewN nq) _ _ _ from R2.out)
        obtain ⟨b0, e0⟩ : ∃ y, (a.kind == b.kind) = y := ⟨_, rfl⟩
        obtain ⟨b1, e1⟩ : ∃ y, (a.call == b.call) = y := ⟨_, rfl⟩
        obtain ⟨b2, e2⟩ : ∃ y, (a.frm == b.frm) = y := ⟨_, rfl⟩
        obtain ⟨b3, e3⟩ : ∃ y, (a.to == b.to) = y := ⟨_, rfl⟩
        obtain ⟨b4, e4⟩ : ∃ y, (a.key == b.key) = y := ⟨_, rfl⟩
        obtain ⟨b5, e5⟩ : ∃ y, (a.slow == b.slow) = y := ⟨_, rfl⟩
        obtain ⟨b6, e6⟩ : ∃ y, (a.done == b.done) = y := ⟨_, rfl⟩
        obtain ⟨b7, e7⟩ : ∃ y, (a.place == b.place) = y := ⟨_, rfl⟩
        obtain ⟨b8, e8⟩ : ∃ y, (a.pred == b.pred) = y := ⟨_, rfl⟩
        obtain ⟨b9, e9⟩ : ∃ y, itEq a.it b.it = y := ⟨_, rfl⟩
        obtain ⟨b10, e10⟩ : ∃ y, (a.code == b.code) = y := ⟨_, rfl⟩
        have hres : r = (b0 && (b1 && (b2 && (b3 && (b4 && (b7 && (b8 && (b5 && (b6 && (b9 && b10)))))))))) := by
          rw [← HR.out, same, decide_eq_true HLL.out, Bool.and_true, mEq, e0, e1, e2, e3, e4, e5, e6, e7, e8, e9, e10]
        have HRES := Lib.hid hres
        have E9 := Lib.hid e9
        have HE9 := HE.out
        rw [e9] at HE9
        have HE := Lib.hid HE9
        clear HE9 hres e9
        cases b0
        · go_wp2_with (first
            | (with_reducible show wpList _ _ _ (Oper.mk _ (Op.load 24 _) _ _ _ _ :: _) _ _
               refine wpList_loadPt HR1.out IA.out agg24 rfl _ rfl rfl ?_)
            | (with_reducible show wpList _ _ _ (Oper.mk _ (Op.load 24 _) _ _ _ _ :: _) _ _
               refine wpList_loadPt HR2.out IB.out agg24 rfl _ rfl rfl ?_)
            | (with_reducible show wpList _ _ _ (Oper.mk _ (Op.binOp _ 24 _ _ _) _ _ _ _ :: _) _ _
               refine wpList_eqR rfl _ _ rfl rfl rfl eg24 (HE.out _) ?_))
          go_ret
          exact ⟨ret_b (by rw [HRES.out]; simp), HB.out _⟩
        cases b1
        · go_wp2_with (first
            | (with_reducible show wpList _ _ _ (Oper.mk _ (Op.load 24 _) _ _ _ _ :: _) _ _
               refine wpList_loadPt HR1.out IA.out agg24 rfl _ rfl rfl ?_)
            | (with_reducible show wpList _ _ _ (Oper.mk _ (Op.load 24 _) _ _ _ _ :: _) _ _
               refine wpList_loadPt HR2.out IB.out agg24 rfl _ rfl rfl ?_)
            | (with_reducible show wpList _ _ _ (Oper.mk _ (Op.binOp _ 24 _ _ _) _ _ _ _ :: _) _ _
               refine wpList_eqR rfl _ _ rfl rfl rfl eg24 (HE.out _) ?_))
          go_ret
          exact ⟨ret_b (by rw [HRES.out]; simp), HB.out _⟩
        cases b2
        · go_wp2_with (first
            | (with_reducible show wpList _ _ _ (Oper.mk _ (Op.load 24 _) _ _ _ _ :: _) _ _
               refine wpList_loadPt HR1.out IA.out agg24 rfl _ rfl rfl ?_)
            | (with_reducible show wpList _ _ _ (Oper.mk _ (Op.load 24 _) _ _ _ _ :: _) _ _
               refine wpList_loadPt HR2.out IB.out agg24 rfl _ rfl rfl ?_)
            | (with_reducible show wpList _ _ _ (Oper.mk _ (Op.binOp _ 24 _ _ _) _ _ _ _ :: _) _ _
               refine wpList_eqR rfl _ _ rfl rfl rfl eg24 (HE.out _) ?_))
          go_ret
          exact ⟨ret_b (by rw [HRES.out]; simp), HB.out _⟩
        cases b3
        · go_wp2_with (first
            | (with_reducible show wpList _ _ _ (Oper.mk _ (Op.load 24 _) _ _ _ _ :: _) _ _
               refine wpList_loadPt HR1.out IA.out agg24 rfl _ rfl rfl ?_)
            | (with_reducible show wpList _ _ _ (Oper.mk _ (Op.load 24 _) _ _ _ _ :: _) _ _
               refine wpList_loadPt HR2.out IB.out agg24 rfl _ rfl rfl ?_)
            | (with_reducible show wpList _ _ _ (Oper.mk _ (Op.binOp _ 24 _ _ _) _ _ _ _ :: _) _ _
               refine wpList_eqR rfl _ _ rfl rfl rfl eg24 (HE.out _) ?_))
          go_ret
          exact ⟨ret_b (by rw [HRES.out]; simp), HB.out _⟩
        cases b4
        · go_wp2_with (first
            | (with_reducible show wpList _ _ _ (Oper.mk _ (Op.load 24 _) _ _ _ _ :: _) _ _
               refine wpList_loadPt HR1.out IA.out agg24 rfl _ rfl rfl ?_)
            | (with_reducible show wpList _ _ _ (Oper.mk _ (Op.load 24 _) _ _ _ _ :: _) _ _
               refine wpList_loadPt HR2.out IB.out agg24 rfl _ rfl rfl ?_)
            | (with_reducible show wpList _ _ _ (Oper.mk _ (Op.binOp _ 24 _ _ _) _ _ _ _ :: _) _ _
               refine wpList_eqR rfl _ _ rfl rfl rfl eg24 (HE.out _) ?_))
          go_ret
          exact ⟨ret_b (by rw [HRES.out]; simp), HB.out _⟩
        cases b5
        · go_wp2_with (first
            | (with_reducible show wpList _ _ _ (Oper.mk _ (Op.load 24 _) _ _ _ _ :: _) _ _
               refine wpList_loadPt HR1.out IA.out agg24 rfl _ rfl rfl ?_)
            | (with_reducible show wpList _ _ _ (Oper.mk _ (Op.load 24 _) _ _ _ _ :: _) _ _
               refine wpList_loadPt HR2.out IB.out agg24 rfl _ rfl rfl ?_)
            | (with_reducible show wpList _ _ _ (Oper.mk _ (Op.binOp _ 24 _ _ _) _ _ _ _ :: _) _ _
               refine wpList_eqR rfl _ _ rfl rfl rfl eg24 (HE.out _) ?_))
          go_ret
          exact ⟨ret_b (by rw [HRES.out]; simp), HB.out _⟩
        cases b6
        · go_wp2_with (first
            | (with_reducible show wpList _ _ _ (Oper.mk _ (Op.load 24 _) _ _ _ _ :: _) _ _
               refine wpList_loadPt HR1.out IA.out agg24 rfl _ rfl rfl ?_)
            | (with_reducible show wpList _ _ _ (Oper.mk _ (Op.load 24 _) _ _ _ _ :: _) _ _
               refine wpList_loadPt HR2.out IB.out agg24 rfl _ rfl rfl ?_)
            | (with_reducible show wpList _ _ _ (Oper.mk _ (Op.binOp _ 24 _ _ _) _ _ _ _ :: _) _ _
               refine wpList_eqR rfl _ _ rfl rfl rfl eg24 (HE.out _) ?_))
          go_ret
          exact ⟨ret_b (by rw [HRES.out]; simp), HB.out _⟩
        cases b7
        · go_wp2_with (first
            | (with_reducible show wpList _ _ _ (Oper.mk _ (Op.load 24 _) _ _ _ _ :: _) _ _
               refine wpList_loadPt HR1.out IA.out agg24 rfl _ rfl rfl ?_)
            | (with_reducible show wpList _ _ _ (Oper.mk _ (Op.load 24 _) _ _ _ _ :: _) _ _
               refine wpList_loadPt HR2.out IB.out agg24 rfl _ rfl rfl ?_)
            | (with_reducible show wpList _ _ _ (Oper.mk _ (Op.binOp _ 24 _ _ _) _ _ _ _ :: _) _ _
               refine wpList_eqR rfl _ _ rfl rfl rfl eg24 (HE.out _) ?_))
          go_ret
          exact ⟨ret_b (by rw [HRES.out]; simp), HB.out _⟩
        cases b8
        · go_wp2_with (first
            | (with_reducible show wpList _ _ _ (Oper.mk _ (Op.load 24 _) _ _ _ _ :: _) _ _
               refine wpList_loadPt HR1.out IA.out agg24 rfl _ rfl rfl ?_)
            | (with_reducible show wpList _ _ _ (Oper.mk _ (Op.load 24 _) _ _ _ _ :: _) _ _
               refine wpList_loadPt HR2.out IB.out agg24 rfl _ rfl rfl ?_)
            | (with_reducible show wpList _ _ _ (Oper.mk _ (Op.binOp _ 24 _ _ _) _ _ _ _ :: _) _ _
               refine wpList_eqR rfl _ _ rfl rfl rfl eg24 (HE.out _) ?_))
          go_ret
          exact ⟨ret_b (by rw [HRES.out]; simp), HB.out _⟩
        cases b9
        · go_wp2_with (first
            | (with_reducible show wpList _ _ _ (Oper.mk _ (Op.load 24 _) _ _ _ _ :: _) _ _
               refine wpList_loadPt HR1.out IA.out agg24 rfl _ rfl rfl ?_)
            | (with_reducible show wpList _ _ _ (Oper.mk _ (Op.load 24 _) _ _ _ _ :: _) _ _
               refine wpList_loadPt HR2.out IB.out agg24 rfl _ rfl rfl ?_)
            | (with_reducible show wpList _ _ _ (Oper.mk _ (Op.binOp _ 24 _ _ _) _ _ _ _ :: _) _ _
               refine wpList_eqR rfl _ _ rfl rfl rfl eg24 (HE.out _) ?_))
          go_ret
          exact ⟨ret_b (by rw [HRES.out]; simp), HB.out _⟩
        cases b10
        · go_wp2_with (first
            | (with_reducible show wpList _ _ _ (Oper.mk _ (Op.load 24 _) _ _ _ _ :: _) _ _
               refine wpList_loadPt HR1.out IA.out agg24 rfl _ rfl rfl ?_)
            | (with_reducible show wpList _ _ _ (Oper.mk _ (Op.load 24 _) _ _ _ _ :: _) _ _
               refine wpList_loadPt HR2.out IB.out agg24 rfl _ rfl rfl ?_)
            | (with_reducible show wpList _ _ _ (Oper.mk _ (Op.binOp _ 24 _ _ _) _ _ _ _ :: _) _ _
               refine wpList_eqR rfl _ _ rfl rfl rfl eg24 (HE.out _) ?_))
          go_ret
          exact ⟨ret_b (by rw [HRES.out]; simp), HB.out _⟩
        go_wp2_with (first
          | (with_reducible show wpList _ _ _ (Oper.mk _ (Op.load 24 _) _ _ _ _ :: _) _ _
             refine wpList_loadPt HR1.out IA.out agg24 rfl _ rfl rfl ?_)
          | (with_reducible show wpList _ _ _ (Oper.mk _ (Op.load 24 _) _ _ _ _ :: _) _ _
             refine wpList_loadPt HR2.out IB.out agg24 rfl _ rfl rfl ?_)
          | (with_reducible show wpList _ _ _ (Oper.mk _ (Op.binOp _ 24 _ _ _) _ _ _ _ :: _) _ _
             refine wpList_eqR rfl _ _ rfl rfl rfl eg24 (HE.out _) ?_))
        go_ret
        exact ⟨ret_b (by rw [HRES.out]; simp), HB.out _⟩
  · have hz : ((la.length : Int) != (lb.length : Int)) = true := by rw [bne_iff_ne]; omega
    have HL := Lib.hid hl
    clear h1 h2 s1 s2 r1 r2 r3 hr hl
    go_enter Try.func20, Try.ntmps20
    simp only [List.append_eq, List.cons_append, List.nil_append]
    go_wp2_with fail
    try rw [hW]
    go_ret
    refine ⟨?_, HB.out 0⟩
    have : ¬ la = lb := fun e => HL.out (by rw [e])
    rw [← HR.out]
    simp [same, this]
end Go.Proofs.Ytbklgodbjibemaa
