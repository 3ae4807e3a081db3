/- Texts, lists and truths as parts: put and taken. -/
import Derived.Test.YtaacjpcckinaiaaGreatWNum
import Derived.Test.YtaacjpcckinaiaaGreatNumB
set_option linter.unusedVariables false
set_option maxRecDepth 100000
set_option linter.unusedSimpArgs false
namespace Go.Proofs.YtaacjpcckinaiaaGreat
open Go.RowKit Go.Shelf Ms

set_option maxHeartbeats 2000000 in
theorem text_put (g : Nat) (p : Addr) (S : ByteArray) (w : World) (hg : Boxed w g 110 (.pointer (some p))) (hp : p.block < w.heap.size) (hc : w.cell? p = some (.string S)) (hS : Num.textE S.data.toList = 0) :
    Calls Tryz.prog 111 #[ptr g] w fun e w' => ∃ v, e = .returned v ∧ Sl w' v (bv (Num.textB S.data.toList)) ∧ Below w.heap.size w w' := by
  have hT := fun W => Num.Text_any S W
  rw [hS] at hT
  have cg := hg.cell
  clear hS
  go_enter Tryz.func111, Tryz.ntmps111
  go_wp2_with fail
  refine (hT _).mono ?_
  rintro e w1 ⟨v', rfl, hs1, hb1⟩
  go_wp2_with (go_at_call 45; refine (must_yes _ _).mono ?_; rintro e w2 ⟨rfl, rfl⟩)
  go_ret
  exact ⟨v', rfl, hs1, hb1⟩
set_option maxHeartbeats 2000000 in
theorem text_take (g : Nat) (p : Addr) (x0 : Value) (v : Value) (bs : List UInt8) (w : World) (hg : Boxed w g 110 (.pointer (some p))) (hp : p.block < w.heap.size) (hc : w.cell? p = some x0) (hz : w.frozen? p = false) (hs : Sl w v (bv bs)) (hl : bs.length ≤ 140737488355328) (h0 : (Num.takeT bs).2.2 = 0) :
    Calls Tryz.prog 113 #[v, ptr g] w fun e w' => ∃ v' w1, e = .returned v' ∧ w' = w1.setCell p (.string ⟨(Num.takeT bs).1.toArray⟩) ∧ Below w.heap.size w w1 ∧ Slf w.heap.size w1 v' (bv (Num.takeT bs).2.1) := by
  have hT := Num.TakeText_any v bs w hs hl
  rw [h0] at hT
  have HT := Lib.hid hT
  clear hT h0 hs
  generalize (⟨(Num.takeT bs).1.toArray⟩ : ByteArray) = S at *
  go_enter Tryz.func113, Tryz.ntmps113
  go_wp2_with fail
  refine HT.out.mono ?_
  rintro e w1 ⟨v', rfl, hs1, hb1⟩
  have cg := (boxed_below hg hb1).cell
  have cp := (hb1.cell hp).trans hc
  have zp := (hb1.frozen hp).trans hz
  go_wp2_with (go_at_call 45; refine (must_yes _ _).mono ?_; rintro e w2 ⟨rfl, rfl⟩)
  go_ret
  exact ⟨v', w1, rfl, rfl, hb1, hs1⟩
set_option maxHeartbeats 2000000 in
theorem text_fall (g : Nat) (v : Value) (bs : List UInt8) (w : World) (hs : Sl w v (bv bs)) (hl : bs.length ≤ 140737488355328) (h0 : (Num.takeT bs).2.2 ≠ 0) :
    Calls Tryz.prog 113 #[v, ptr g] w fun e w' => e = .panicked (wrong 12) ∧ Below w.heap.size w w' := by
  have hT := Num.TakeText_any v bs w hs hl
  have hz : (((Num.takeT bs).2.2 : Int) == 0) = false := by rw [beq_eq_false_iff_ne]; omega
  have HT := Lib.hid hT
  clear hT h0 hs
  generalize ((Num.takeT bs).2.2 : Int) = n at *
  go_enter Tryz.func113, Tryz.ntmps113
  go_wp2_with fail
  refine HT.out.mono ?_
  rintro e w1 ⟨v', rfl, hs1, hb1⟩
  go_wp2_with (go_at_call 45; refine (must_no _ _).mono ?_; rintro e w2 ⟨rfl, rfl⟩)
  exact ⟨rfl, rfl, hb1⟩

set_option maxHeartbeats 2000000 in
theorem list_put (g : Nat) (p : Addr) (A : Option Addr) (n c : Nat) (l : List Int) (w : World) (hg : Boxed w g 112 (.pointer (some p))) (hp : p.block < w.heap.size) (hc : w.cell? p = some (.slice A n c)) (hs : Sl w (.slice A n c) (iv l)) (hE : Num.listE l = 0) :
    Calls Tryz.prog 115 #[ptr g] w fun e w' => ∃ v, e = .returned v ∧ Sl w' v (bv (Num.listBy l)) ∧ Below w.heap.size w w' := by
  have hT := Num.List_any _ l w hs
  rw [hE] at hT
  have HT := Lib.hid hT
  have cg := hg.cell
  clear hE hT hs
  go_enter Tryz.func115, Tryz.ntmps115
  go_wp2_with fail
  refine HT.out.mono ?_
  rintro e w1 ⟨v', rfl, hs1, hb1⟩
  go_wp2_with (go_at_call 45; refine (must_yes _ _).mono ?_; rintro e w2 ⟨rfl, rfl⟩)
  go_ret
  exact ⟨v', rfl, hs1, hb1⟩
set_option maxHeartbeats 2000000 in
theorem list_take (g : Nat) (p : Addr) (x0 : Value) (v : Value) (bs : List UInt8) (w : World) (hg : Boxed w g 112 (.pointer (some p))) (hp : p.block < w.heap.size) (hc : w.cell? p = some x0) (hz : w.frozen? p = false) (hs : Sl w v (bv bs)) (hl : bs.length ≤ 140737488355328) (h0 : (Num.takeL bs).2.2 = 0) :
    Calls Tryz.prog 117 #[v, ptr g] w fun e w' => ∃ v' w1 A n c, e = .returned v' ∧ w' = w1.setCell p (.slice A n c) ∧ Below w.heap.size w w1 ∧ Slf w.heap.size w1 (.slice A n c) (iv ((Num.takeL bs).1.map Int.ofNat)) ∧ Slf w.heap.size w1 v' (bv (Num.takeL bs).2.1) := by
  have hT := Num.TakeList_any v bs w hs hl
  rw [h0] at hT
  have HT := Lib.hid hT
  clear hT h0 hs
  go_enter Tryz.func117, Tryz.ntmps117
  go_wp2_with fail
  refine HT.out.mono ?_
  rintro e w1 ⟨lv, v', rfl, hs1, hs2, hb1⟩
  obtain ⟨A, n, c, rfl⟩ := hs1.sl.slice
  have cg := (boxed_below hg hb1).cell
  have cp := (hb1.cell hp).trans hc
  have zp := (hb1.frozen hp).trans hz
  have H1 := Lib.hid hs1
  clear hs1
  go_wp2_with (go_at_call 45; refine (must_yes _ _).mono ?_; rintro e w2 ⟨rfl, rfl⟩)
  go_ret
  exact ⟨v', w1, A, n, c, rfl, rfl, hb1, H1.out, hs2⟩
set_option maxHeartbeats 2000000 in
theorem list_fall (g : Nat) (v : Value) (bs : List UInt8) (w : World) (hs : Sl w v (bv bs)) (hl : bs.length ≤ 140737488355328) (h0 : (Num.takeL bs).2.2 ≠ 0) :
    Calls Tryz.prog 117 #[v, ptr g] w fun e w' => e = .panicked (wrong 12) ∧ Below w.heap.size w w' := by
  have hT := Num.TakeList_any v bs w hs hl
  have hz : (((Num.takeL bs).2.2 : Int) == 0) = false := by rw [beq_eq_false_iff_ne]; omega
  have HT := Lib.hid hT
  clear hT h0 hs
  generalize ((Num.takeL bs).2.2 : Int) = n at *
  go_enter Tryz.func117, Tryz.ntmps117
  go_wp2_with fail
  refine HT.out.mono ?_
  rintro e w1 ⟨lv, v', rfl, hs1, hs2, hb1⟩
  go_wp2_with (go_at_call 45; refine (must_no _ _).mono ?_; rintro e w2 ⟨rfl, rfl⟩)
  exact ⟨rfl, rfl, hb1⟩

/-- What a truth's part is. -/
structure IsF (w : World) (g h q n f : Nat) (p : Addr) (k : Int) : Prop where
  bg : Boxed w g 93 (ptr n)
  bh : Boxed w h 3 (.int .i64 0)
  bn : Boxed w n 3 (.int .i64 k)
  rq : Rw w q 71 (partC 87 88 #[ptr g, ptr h] #[ptr h, ptr g])
  bf : Boxed w f 106 (.pointer (some p))

set_option maxHeartbeats 4000000 in
theorem flag_take (g h q n f : Nat) (p : Addr) (k : Int) (x0 : Value) (v : Value) (bs : List UInt8) (w : World) (hF : IsF w g h q n f p k) (hp : p.block < w.heap.size) (hpn : p.block ≠ n) (hc : w.cell? p = some x0) (hz : w.frozen? p = false) (hs : Sl w v (bv bs)) (hl : bs.length ≤ 140737488355328) (h0 : (Num.takeE bs).2.2 = 0) :
    Calls Tryz.prog 109 #[v, ptr q, ptr n, ptr f] w fun e w' => ∃ v' w1, e = .returned v' ∧ w' = (w1.setCell ⟨n, 0, none⟩ (.int .i64 (Num.takeE bs).1)).setCell p (.bool (decide (((Num.takeE bs).1 : Int) = 1))) ∧ Below w.heap.size w w1 ∧ Slf w.heap.size w1 v' (bv (Num.restT bs)) := by
  have hT := numI_take g h ⟨n, 0, none⟩ (.int .i64 k) 0 v bs w hF.bg hF.bh (by omega) hF.bn.lt hF.bn.cell hF.bn.frozen hs hl h0
  rw [Int.sub_zero] at hT
  have hq := hF.rq.cell 1
  have hqq : w.cell? ⟨q, 1, none⟩ = some (.func (.func 88) #[] #[ptr h, ptr g]) := hq
  have HT := Lib.hid hT
  clear hT hs h0 hq
  generalize ((Num.takeE bs).1 : Int) = m at *
  go_enter Tryz.func109, Tryz.ntmps109
  go_wp2_with fail
  refine HT.out.mono ?_
  rintro e w' ⟨v', w1, rfl, rfl, hb1, hs1⟩
  have bn1 := (boxed_below hF.bn hb1).set (.int .i64 m)
  have bf1 : Boxed (w1.setCell ⟨n, 0, none⟩ (.int .i64 m)) f 106 (.pointer (some p)) := (boxed_below hF.bf hb1).other (by rintro rfl; have := hF.bf.symm.trans hF.bn; simp at this) _
  have cn := bn1.cell
  have cf := bf1.cell
  have cp : (w1.setCell ⟨n, 0, none⟩ (.int .i64 m)).cell? p = some x0 := by
    rw [World.cell?_of_block (w := w1) (setCell_past _ _ _ _ hpn)]
    exact (hb1.cell hp).trans hc
  have zp : (w1.setCell ⟨n, 0, none⟩ (.int .i64 m)).frozen? p = false := by
    rw [World.frozen?_of_block (w := w1) (setCell_past _ _ _ _ hpn)]
    exact (hb1.frozen hp).trans hz
  generalize hW : w1.setCell ⟨n, 0, none⟩ (.int .i64 m) = W at *
  go_wp2_with fail
  go_ret
  refine ⟨v', w1, rfl, ?_, hb1, hs1⟩
  rw [hW]
  rfl
set_option maxHeartbeats 2000000 in
theorem flag_fall (g h q n f : Nat) (p : Addr) (k : Int) (v : Value) (bs : List UInt8) (w : World) (hF : IsF w g h q n f p k) (hs : Sl w v (bv bs)) (hl : bs.length ≤ 140737488355328) (h0 : (Num.takeE bs).2.2 ≠ 0) :
    Calls Tryz.prog 109 #[v, ptr q, ptr n, ptr f] w fun e w' => e = .panicked (wrong 12) ∧ Below w.heap.size w w' := by
  have hT := numI_fall g h v bs w hs hl h0
  have hqq : w.cell? ⟨q, 1, none⟩ = some (.func (.func 88) #[] #[ptr h, ptr g]) := hF.rq.cell 1
  have HT := Lib.hid hT
  clear hT hs h0
  go_enter Tryz.func109, Tryz.ntmps109
  go_wp2_with fail
  refine HT.out.mono ?_
  rintro e w' ⟨rfl, hb1⟩
  exact ⟨rfl, rfl, hb1⟩
end Go.Proofs.YtaacjpcckinaiaaGreat
