/- What the document's own reading tells behind the first four numbers. The document's own reading of a payload. The document's own taking of a datagram. -/
import Derived.Test.YtaacjpcckinaiaaGreatWRefMore1
import Derived.Test.YtaacjpcckinaiaaGreatWRefMore2
import Derived.Test.YtaacjpcckinaiaaGreatWRefMore3
set_option linter.unusedVariables false
set_option maxRecDepth 100000
set_option linter.unusedSimpArgs false
namespace Go.Proofs.YtaacjpcckinaiaaGreat
open Go.RowKit Go.Shelf Ms

theorem more_any (m : M) (v : Value) (bs : List UInt8) (w : World) (hs : Sl w v (bv bs)) (hl : bs.length ≤ 1000) :
    Calls Tryz.prog 35 #[.agg (m.c nilS), v] w fun e w' => MoreP m bs w w' e := by
  by_cases n4 : m.kind = 4
  · exact more_4 m v bs n4 w hs hl
  by_cases n5 : m.kind = 5
  · exact more_5 m v bs n5 w hs hl
  by_cases n6 : m.kind = 6
  · exact more_6 m v bs n6 w hs hl
  by_cases n7 : m.kind = 7
  · exact more_7 m v bs n7 w hs hl
  by_cases n10 : m.kind = 10
  · exact more_10 m v bs n10 w hs hl
  by_cases n11 : m.kind = 11
  · exact more_11 m v bs n11 w hs hl
  by_cases n12 : m.kind = 12
  · exact more_12 m v bs n12 w hs hl
  exact more_x m v bs n4 n5 n6 n7 n10 n11 n12 w hs hl
end Go.Proofs.YtaacjpcckinaiaaGreat
set_option linter.unusedVariables false
set_option maxRecDepth 100000
set_option linter.unusedSimpArgs false
namespace Go.Proofs.YtaacjpcckinaiaaGreat
open Go.RowKit Go.Shelf Ms

theorem wp_allocR_ {P : Program} {o : Oper} {a : Act} {w : World} {K : Act → World → Prop} {Q : Exit → Act → World → Prop} {ty : TypeId} {z : Value} (ho : o.op = .alloc ty) (hz : (P.info? ty).map (·.zero) = some (some z)) (hk : K (a.put o.dst (.pointer (some ⟨w.heap.size, 0, none⟩))) (w.alloc (.cells z.cells ty))) : o.wp P a w K Q := by
  unfold Oper.wp execOp
  have hr : (Instr.alloc ty true (.tuple #[])).run P w = .ok (.pointer (some ⟨w.heap.size, 0, none⟩)) (w.alloc (.cells z.cells ty)) := by
    cases hq : P.info? ty with
    | none => simp [hq] at hz
    | some i =>
      have h : i.zero = some z := by simpa [hq] using hz
      simp [Instr.alloc, zeroValue, typeInfo, hq, h, newVar, newRow]
  simp only [ho, Sem.run_bind, Sem.run_pure, Result.andThen_ok, hr]
  exact hk
theorem zero27_ : (Tryz.prog.info? 27).map (·.zero) = some (some (.agg (noM.c nilS))) := by kernel_rfl
theorem gen_q {Q : Exit → Act → World → Prop} {e : Exit} {a : Act} {w : World} (p : World → Prop) (hp : p w) (h : ∀ X, p X → Q e a X) : Q e a w := h w hp
theorem wp_held_behind_ {P : Program} {id : Nat} {ops : Array Oper} {Q : Exit → Act → World → Prop} {a : Act} {W : World} (x : Wd W) (hm : P.follows .mixedOrders = true)
    (h : ∀ y : Wd W, wpAnyH P .any ops Q (fun w => ∃ z : Wd W, w = z.w) ops.size (Array.replicate ops.size false) a y.w) : (Code.region id ops true).wp P Q a x.w := by
  obtain ⟨y, hy⟩ := x.drew
  refine wp_region_held_drew (S := fun w => ∃ z : Wd W, w = z.w) hm ⟨y, hy⟩ (fun _ => ?_)
  rw [hy]
  exact h y
theorem read_short {bs : List UInt8} (h : takeI 4 bs = none) : readF bs = none := by
  cases hr : readF bs with
  | none => rfl
  | some x =>
    obtain ⟨m, l⟩ := x
    obtain ⟨rest, h1, _⟩ := readF_parts hr
    rw [h] at h1
    cases h1
theorem read_big13 {bs rest : List UInt8} {a b c d : Int} (h : takeI 4 bs = some ([a, b, c, d], rest)) (h13 : 13 ≤ a) : readF bs = none := by
  cases hr : readF bs with
  | none => rfl
  | some x =>
    obtain ⟨m, l⟩ := x
    obtain ⟨rest', h1, h2, _⟩ := readF_parts hr
    rw [h] at h1
    injection h1 with h1
    injection h1 with h1 _
    injection h1 with h1 _
    omega
theorem read_parse {bs rest : List UInt8} {a b c d : Int} {m : M} {l : List Int} (h : takeI 4 bs = some ([a, b, c, d], rest)) (hr : readF bs = some (m, l)) : parse (tail (M.head a b c d).kind) (M.head a b c d) [] rest = some (m, l, []) := by
  obtain ⟨rest', h1, _, h3⟩ := readF_parts hr
  rw [h] at h1
  injection h1 with h1
  injection h1 with h1 h2
  injection h1 with e1 h1
  injection h1 with e2 h1
  injection h1 with e3 h1
  injection h1 with e4 h1
  subst e1 e2 e3 e4 h2
  exact h3
theorem read_fail {bs rest : List UInt8} {a b c d : Int} (h : takeI 4 bs = some ([a, b, c, d], rest)) (hp : parse (tail (M.head a b c d).kind) (M.head a b c d) [] rest = none) : readF bs = none := by
  cases hr : readF bs with
  | none => rfl
  | some x =>
    obtain ⟨m, l⟩ := x
    rw [read_parse h hr] at hp
    cases hp
theorem read_other {bs rest r : List UInt8} {a b c d : Int} {m : M} {l : List Int} (h : takeI 4 bs = some ([a, b, c, d], rest)) (hp : parse (tail (M.head a b c d).kind) (M.head a b c d) [] rest = some (m, l, r)) (hx : ¬ (rightB m l = true ∧ payB m l = bs)) : readF bs = none := by
  cases hr : readF bs with
  | none => rfl
  | some x =>
    obtain ⟨m', l'⟩ := x
    rw [read_parse h hr] at hp
    injection hp with hp
    injection hp with h1 hp
    injection hp with h2 _
    subst h1 h2
    exact absurd (readF_iff.1 hr) hx

set_option maxHeartbeats 16000000 in
theorem Read_ref_bad (v : Value) (bs : List UInt8) (w : World) (hs : Sl w v (bv bs)) (hl : bs.length ≤ 1000) (hbad : takeI 4 bs = none ∨ ∃ a b c d rest, takeI 4 bs = some ([a, b, c, d], rest) ∧ 13 ≤ a) :
    Calls Tryz.prog 13 #[v] w fun e w' => ∃ lv, e = .returned (.tuple #[.agg ((readR bs).1.c lv), .int .i64 (readR bs).2.2]) ∧ Slf w.heap.size w' lv (iv (readR bs).2.1) ∧ Below w.heap.size w w' := by
  have hrn : readR bs = (noM, [], 12) := by
    rcases hbad with h | ⟨a, b, c, d, rest, h, h13⟩
    · exact readR_none (read_short h)
    · exact readR_none (read_big13 h h13)
  rw [hrn]
  have R2 := Rw.new w (noM.c nilS) 27
  have B0 := box_below w (.cells (noM.c nilS) 27)
  have a1 := numbers_any v bs 4 (by decide) _ (hs.below B0) hl
  have HBAD := Lib.hid hbad
  clear hbad hrn hs
  go_enter Tryz.func13, Tryz.ntmps13
  go_wp2_with fail
  refine a1.mono ?_; rintro e w1 ⟨⟨v4, v5, ns, rest, rfl, hti, s4, -, -⟩ | ⟨rfl, hti⟩, hb⟩
  · obtain ⟨a, b, c, d, rfl⟩ := list4 (takeI_len hti).1
    have h13 : decide (13 ≤ a) = true := by
      rcases HBAD.out with h | ⟨a', b', c', d', rest', h, h13⟩
      · rw [hti] at h; cases h
      · rw [hti] at h
        injection h with h
        injection h with h _
        injection h with h _
        rw [h]; exact decide_eq_true h13
    obtain ⟨g, off, cp, rfl, hg, hgl, hc⟩ := s4.int_ (by simp)
    have h0 := hc 0 (by simp)
    simp only [List.getElem_cons_zero, Nat.add_zero] at h0
    replace R2 := R2.below hb
    have BX := B0.trans (hb.mono B0.size)
    clear hc hti s4 hg hgl hb a1 B0
    go_wp2_with (first
      | (with_reducible show wpList _ _ _ (Oper.mk _ (Op.build 27 _) _ _ _ _ :: _) _ _
         refine wpList_buildR rfl [] rfl rfl (run_build0 _) ?_)
      | (with_reducible show wpList _ _ _ (Oper.mk _ (Op.store 27 (.tmp 2) _) _ _ _ _ :: _) _ _
         refine wpList_storeR (c := noM.c nilS) rfl _ _ rfl rfl rfl agg27.hi R2 rfl (M.one _ rfl) ?_))
    exact bodyPost_ret (results_ct rfl rfl rfl R2.setRow) rfl ⟨nilS, rfl, Slf.nil_ _ _, below_setRow BX (Nat.le_refl _) _⟩
  · replace R2 := R2.below hb
    have BX := B0.trans (hb.mono B0.size)
    clear hti hb a1 B0
    go_wp2_with (first
      | (with_reducible show wpList _ _ _ (Oper.mk _ (Op.build 27 _) _ _ _ _ :: _) _ _
         refine wpList_buildR rfl [] rfl rfl (run_build0 _) ?_)
      | (with_reducible show wpList _ _ _ (Oper.mk _ (Op.store 27 (.tmp 2) _) _ _ _ _ :: _) _ _
         refine wpList_storeR (c := noM.c nilS) rfl _ _ rfl rfl rfl agg27.hi R2 rfl (M.one _ rfl) ?_))
    exact bodyPost_ret (results_ct rfl rfl rfl R2.setRow) rfl ⟨nilS, rfl, Slf.nil_ _ _, below_setRow BX (Nat.le_refl _) _⟩

set_option maxHeartbeats 32000000 in
theorem Read_ref_on (v : Value) (bs : List UInt8) (w : World) (hs : Sl w v (bv bs)) (hl : bs.length ≤ 1000) (a b c d : Int) (rest : List UInt8) (ht : takeI 4 bs = some ([a, b, c, d], rest)) (h13 : a < 13) :
    Calls Tryz.prog 13 #[v] w fun e w' => ∃ lv, e = .returned (.tuple #[.agg ((readR bs).1.c lv), .int .i64 (readR bs).2.2]) ∧ Slf w.heap.size w' lv (iv (readR bs).2.1) ∧ Below w.heap.size w w' := by
  have R2 := Rw.new w (noM.c nilS) 27
  have B0 := box_below w (.cells (noM.c nilS) 27)
  have a1 := numbers_any v bs 4 (by decide) _ (hs.below B0) hl
  have HT := Lib.hid ht
  have HS := Lib.hid hs
  have ha0 := (takeI_rng ht a (by simp)).1
  have HA := Lib.hid ha0
  have h13' : decide (13 ≤ a) = false := decide_eq_false (by omega)
  have hw8 : IntKind.u8.wrap a = a := by rw [wrap_u8']; omega
  have HLR := Lib.hid (show rest.length ≤ 1000 by have := (takeI_len ht).2; simp only at this; omega)
  clear ht hs ha0 h13 hl
  go_enter Tryz.func13, Tryz.ntmps13
  go_wp2_with fail
  refine a1.mono ?_; rintro e w1 ⟨⟨v4, v5, ns, rest1, rfl, hti, s4, s5, -⟩ | ⟨rfl, hti⟩, hb⟩
  · obtain ⟨rfl, rfl⟩ : ns = [a, b, c, d] ∧ rest1 = rest := by
      have := HT.out
      rw [hti] at this
      injection this with h
      injection h with h1 h2
      exact ⟨h1, h2⟩
    obtain ⟨g, off, cp, rfl, hg, hgl, hc⟩ := s4.int_ (by simp)
    have h0 := hc 0 (by simp)
    have h1 := hc 1 (by simp)
    have h2 := hc 2 (by simp)
    have h3 := hc 3 (by simp)
    simp only [List.getElem_cons_zero, List.getElem_cons_succ, Nat.add_zero] at h0 h1 h2 h3
    have q0 := fun y : Wd w1 => (y.below.cell (p := ⟨g, off, none⟩) hgl).trans h0
    have q1 := fun y : Wd w1 => (y.below.cell (p := ⟨g, off + 1, none⟩) hgl).trans h1
    have q2 := fun y : Wd w1 => (y.below.cell (p := ⟨g, off + 2, none⟩) hgl).trans h2
    have q3 := fun y : Wd w1 => (y.below.cell (p := ⟨g, off + 3, none⟩) hgl).trans h3
    have HR := Lib.hid (R2.below hb)
    have HW := Lib.hid (show w.heap.size + 1 ≤ w1.heap.size from (R2.below hb).lt)
    have HV := Lib.hid (B0.trans (hb.mono B0.size))
    have MORE := Lib.hid (fun W (hb : Below w1.heap.size w1 W) => more_any (M.head a b c d) v5 rest1 W (s5.below hb) HLR.out)
    clear hc hti s4 s5 hg hgl hb a1 B0 R2 h1 h2 h3
    go_wp2_with fail
    clear h0
    refine wp_held_behind_ ⟨w1, Below.refl _ _⟩ (by kernel_rfl) (fun y => ?_)
    have HY := HV.out.trans (y.below.mono HV.out.size)
    refine wpAnyH_take (i := 0) (oi := { dst := some 27, op := .move (.tmp 4), type := _, pos := _, after := _, guard := none }) (v := .slice (some ⟨g, off, none⟩) 4 cp) rfl (by kernel_rfl) (by kernel_rfl) (by kernel_rfl) (fun _ _ _ h => h) (Or.inl ⟨by rfl, fun w hw => by obtain ⟨z, rfl⟩ := hw; go_simp⟩) ⟨y, rfl⟩ ?_
    try simp only [Act.put, World.size_alloc, List.setIfInBounds_toArray, List.set_cons_zero, List.set_cons_succ]
    refine wpAnyH_take (i := 1) (oi := { dst := some 28, op := .indexAddr 22 (.tmp 27) (.const (.int .i64 0)), type := _, pos := _, after := _, guard := none }) (v := .pointer (some ⟨g, off, none⟩)) rfl (by kernel_rfl) (by kernel_rfl) (by kernel_rfl) (fun _ _ _ h => h) (Or.inl ⟨by rfl, fun w hw => by obtain ⟨z, rfl⟩ := hw; go_simp⟩) ⟨y, rfl⟩ ?_
    try simp only [Act.put, World.size_alloc, List.setIfInBounds_toArray, List.set_cons_zero, List.set_cons_succ]
    refine wpAnyH_take (i := 2) (oi := { dst := some 29, op := .load 3 (.tmp 28), type := _, pos := _, after := _, guard := none }) (v := .int .i64 a) rfl (by kernel_rfl) (by kernel_rfl) (by kernel_rfl) (fun _ _ _ h => h) (Or.inl ⟨by rfl, fun w hw => by obtain ⟨z, rfl⟩ := hw; go_simp⟩) ⟨y, rfl⟩ ?_
    try simp only [Act.put, World.size_alloc, List.setIfInBounds_toArray, List.set_cons_zero, List.set_cons_succ]
    refine wpAnyH_take (i := 3) (oi := { dst := some 30, op := .convert 3 5 (.tmp 29), type := _, pos := _, after := _, guard := none }) (v := .int .u8 a) rfl (by kernel_rfl) (by kernel_rfl) (by kernel_rfl) (fun _ _ _ h => h) (Or.inl ⟨by rfl, fun w hw => by obtain ⟨z, rfl⟩ := hw; go_simp⟩) ⟨y, rfl⟩ ?_
    try simp only [Act.put, World.size_alloc, List.setIfInBounds_toArray, List.set_cons_zero, List.set_cons_succ]
    refine wpAnyH_take (i := 4) (oi := { dst := some 31, op := .move (.tmp 4), type := _, pos := _, after := _, guard := none }) (v := .slice (some ⟨g, off, none⟩) 4 cp) rfl (by kernel_rfl) (by kernel_rfl) (by kernel_rfl) (fun _ _ _ h => h) (Or.inl ⟨by rfl, fun w hw => by obtain ⟨z, rfl⟩ := hw; go_simp⟩) ⟨y, rfl⟩ ?_
    try simp only [Act.put, World.size_alloc, List.setIfInBounds_toArray, List.set_cons_zero, List.set_cons_succ]
    refine wpAnyH_take (i := 5) (oi := { dst := some 32, op := .indexAddr 22 (.tmp 31) (.const (.int .i64 1)), type := _, pos := _, after := _, guard := none }) (v := .pointer (some ⟨g, off + 1, none⟩)) rfl (by kernel_rfl) (by kernel_rfl) (by kernel_rfl) (fun _ _ _ h => h) (Or.inl ⟨by rfl, fun w hw => by obtain ⟨z, rfl⟩ := hw; go_simp⟩) ⟨y, rfl⟩ ?_
    try simp only [Act.put, World.size_alloc, List.setIfInBounds_toArray, List.set_cons_zero, List.set_cons_succ]
    refine wpAnyH_take (i := 6) (oi := { dst := some 33, op := .load 3 (.tmp 32), type := _, pos := _, after := _, guard := none }) (v := .int .i64 b) rfl (by kernel_rfl) (by kernel_rfl) (by kernel_rfl) (fun _ _ _ h => h) (Or.inl ⟨by rfl, fun w hw => by obtain ⟨z, rfl⟩ := hw; go_simp⟩) ⟨y, rfl⟩ ?_
    try simp only [Act.put, World.size_alloc, List.setIfInBounds_toArray, List.set_cons_zero, List.set_cons_succ]
    refine wpAnyH_take (i := 7) (oi := { dst := some 34, op := .move (.tmp 4), type := _, pos := _, after := _, guard := none }) (v := .slice (some ⟨g, off, none⟩) 4 cp) rfl (by kernel_rfl) (by kernel_rfl) (by kernel_rfl) (fun _ _ _ h => h) (Or.inl ⟨by rfl, fun w hw => by obtain ⟨z, rfl⟩ := hw; go_simp⟩) ⟨y, rfl⟩ ?_
    try simp only [Act.put, World.size_alloc, List.setIfInBounds_toArray, List.set_cons_zero, List.set_cons_succ]
    refine wpAnyH_take (i := 8) (oi := { dst := some 35, op := .indexAddr 22 (.tmp 34) (.const (.int .i64 2)), type := _, pos := _, after := _, guard := none }) (v := .pointer (some ⟨g, off + 2, none⟩)) rfl (by kernel_rfl) (by kernel_rfl) (by kernel_rfl) (fun _ _ _ h => h) (Or.inl ⟨by rfl, fun w hw => by obtain ⟨z, rfl⟩ := hw; go_simp⟩) ⟨y, rfl⟩ ?_
    try simp only [Act.put, World.size_alloc, List.setIfInBounds_toArray, List.set_cons_zero, List.set_cons_succ]
    refine wpAnyH_take (i := 9) (oi := { dst := some 36, op := .load 3 (.tmp 35), type := _, pos := _, after := _, guard := none }) (v := .int .i64 c) rfl (by kernel_rfl) (by kernel_rfl) (by kernel_rfl) (fun _ _ _ h => h) (Or.inl ⟨by rfl, fun w hw => by obtain ⟨z, rfl⟩ := hw; go_simp⟩) ⟨y, rfl⟩ ?_
    try simp only [Act.put, World.size_alloc, List.setIfInBounds_toArray, List.set_cons_zero, List.set_cons_succ]
    refine wpAnyH_take (i := 10) (oi := { dst := some 37, op := .move (.tmp 4), type := _, pos := _, after := _, guard := none }) (v := .slice (some ⟨g, off, none⟩) 4 cp) rfl (by kernel_rfl) (by kernel_rfl) (by kernel_rfl) (fun _ _ _ h => h) (Or.inl ⟨by rfl, fun w hw => by obtain ⟨z, rfl⟩ := hw; go_simp⟩) ⟨y, rfl⟩ ?_
    try simp only [Act.put, World.size_alloc, List.setIfInBounds_toArray, List.set_cons_zero, List.set_cons_succ]
    refine wpAnyH_take (i := 11) (oi := { dst := some 38, op := .indexAddr 22 (.tmp 37) (.const (.int .i64 3)), type := _, pos := _, after := _, guard := none }) (v := .pointer (some ⟨g, off + 3, none⟩)) rfl (by kernel_rfl) (by kernel_rfl) (by kernel_rfl) (fun _ _ _ h => h) (Or.inl ⟨by rfl, fun w hw => by obtain ⟨z, rfl⟩ := hw; go_simp⟩) ⟨y, rfl⟩ ?_
    try simp only [Act.put, World.size_alloc, List.setIfInBounds_toArray, List.set_cons_zero, List.set_cons_succ]
    refine wpAnyH_take (i := 12) (oi := { dst := some 39, op := .load 3 (.tmp 38), type := _, pos := _, after := _, guard := none }) (v := .int .i64 d) rfl (by kernel_rfl) (by kernel_rfl) (by kernel_rfl) (fun _ _ _ h => h) (Or.inl ⟨by rfl, fun w hw => by obtain ⟨z, rfl⟩ := hw; go_simp⟩) ⟨y, rfl⟩ ?_
    try simp only [Act.put, World.size_alloc, List.setIfInBounds_toArray, List.set_cons_zero, List.set_cons_succ]
    refine wpAnyH_take (i := 13) (oi := { dst := some 40, op := .build 27 #[(0, .tmp 30), (1, .tmp 33), (2, .tmp 36), (3, .tmp 39)], type := _, pos := _, after := _, guard := none }) (v := .agg ((M.head a b c d).c nilS)) rfl (by kernel_rfl) (by kernel_rfl) (by kernel_rfl) (fun _ _ _ h => h) (Or.inl ⟨by rfl, fun w hw => by obtain ⟨z, rfl⟩ := hw; simp [execOp, Act.eval, run_build4]⟩) ⟨y, rfl⟩ ?_
    try simp only [Act.put, World.size_alloc, List.setIfInBounds_toArray, List.set_cons_zero, List.set_cons_succ]
    refine wpAnyH_take (i := 14) (oi := { dst := some 41, op := .move (.tmp 5), type := _, pos := _, after := _, guard := none }) (v := v5) rfl (by kernel_rfl) (by kernel_rfl) (by kernel_rfl) (fun _ _ _ h => h) (Or.inl ⟨by rfl, fun w hw => by obtain ⟨z, rfl⟩ := hw; go_simp⟩) ⟨y, rfl⟩ ?_
    try simp only [Act.put, World.size_alloc, List.setIfInBounds_toArray, List.set_cons_zero, List.set_cons_succ]
    refine wpAnyH_ready (rs := [15, 19]) (by kernel_rfl) (by simp) ?_
    refine AllReadyH.cons (o := { dst := some 42, op := .call { callee := .value (.func 35), args := #[.tmp 40, .tmp 41], argTypes := #[27, 28] }, type := _, pos := _, after := _, guard := none }) rfl (fun K hK => ?_) (AllReadyH.cons (o := { dst := some 7, op := .alloc 27, type := _, pos := _, after := _, guard := none }) rfl (fun K hK => ?_) AllReadyH.nil)
    · skip
      rw [if_pos (by rfl)]
      go_big_op
      refine (MORE.out y.w y.below).mono ?_
      rintro e w' ⟨⟨m', l', r, A, k, n, hpar, hkk, rfl, hsl⟩ | ⟨hpar, m', A, k, n, rfl⟩, hb⟩
      · have SB := y.below.trans (hb.mono y.below.size)
        refine hK.out _ _ ⟨⟨_, SB⟩, rfl⟩ (fun _ => ?_)
        clear hK K
        try simp only [Act.put, World.size_alloc, List.setIfInBounds_toArray, List.set_cons_zero, List.set_cons_succ]
        refine wpAnyH_take (i := 16) (oi := { dst := some 26, op := .move (.tmp 42), type := _, pos := _, after := _, guard := none }) (v := .tuple #[.agg (m'.c (.slice A k n)), .bool true]) rfl (by kernel_rfl) (by kernel_rfl) (by kernel_rfl) (fun _ _ _ h => h) (Or.inl ⟨by rfl, fun w hw => by simp [execOp, Act.eval, go_sem]⟩) ⟨⟨_, SB⟩, rfl⟩ ?_
        try simp only [Act.put, World.size_alloc, List.setIfInBounds_toArray, List.set_cons_zero, List.set_cons_succ]
        refine wpAnyH_take (i := 17) (oi := { dst := some 43, op := .extract (.tmp 26) 0, type := _, pos := _, after := _, guard := none }) (v := .agg (m'.c (.slice A k n))) rfl (by kernel_rfl) (by kernel_rfl) (by kernel_rfl) (fun _ _ _ h => h) (Or.inl ⟨by rfl, fun w hw => by simp [execOp, Act.eval, go_sem]⟩) ⟨⟨_, SB⟩, rfl⟩ ?_
        try simp only [Act.put, World.size_alloc, List.setIfInBounds_toArray, List.set_cons_zero, List.set_cons_succ]
        refine wpAnyH_take (i := 18) (oi := { dst := some 44, op := .extract (.tmp 26) 1, type := _, pos := _, after := _, guard := none }) (v := .bool true) rfl (by kernel_rfl) (by kernel_rfl) (by kernel_rfl) (fun _ _ _ h => h) (Or.inl ⟨by rfl, fun w hw => by simp [execOp, Act.eval, go_sem]⟩) ⟨⟨_, SB⟩, rfl⟩ ?_
        try simp only [Act.put, World.size_alloc, List.setIfInBounds_toArray, List.set_cons_zero, List.set_cons_succ]
        refine wpAnyH_ready (rs := [19]) (by kernel_rfl) (by simp) ?_
        refine AllReadyH.cons (o := { dst := some 7, op := .alloc 27, type := _, pos := _, after := _, guard := none }) rfl (fun K hK => ?_) AllReadyH.nil
        rw [if_pos (by rfl)]
        refine wp_allocR_ rfl zero27_ ?_
        have R7 := (Rw.new w' (noM.c nilS) 27).setRow (c' := m'.c (.slice A k n))
        have R70 := Rw.new w' (noM.c nilS) 27
        have B7 := below_setRow (box_below w' (.cells (noM.c nilS) 27)) (Nat.le_refl _) (m'.c (.slice A k n))
        have BX := (HY.trans (hb.mono HY.size)).trans (B7.mono (HY.trans (hb.mono HY.size)).size)
        have R2 := ((HR.out.below y.below).below hb).below B7
        have SF := (hsl.mono (show w.heap.size + 1 ≤ y.w.heap.size by have := HW.out; have := y.below.size; omega)).below B7
        refine hK.out _ _ ⟨⟨_, SB.alloc SB.size _⟩, rfl⟩ (fun _ => ?_)
        clear hK K
        try simp only [Act.put, World.size_alloc, List.setIfInBounds_toArray, List.set_cons_zero, List.set_cons_succ]
        have SB2 := SB.trans (B7.mono SB.size)
        refine wpAnyH_ready (rs := [20]) (by kernel_rfl) (by simp) ?_
        refine AllReadyH.cons (o := { dst := none, op := .store 27 (.tmp 7) (.tmp 43), type := _, pos := _, after := _, guard := none }) rfl (fun K hK => ?_) AllReadyH.nil
        rw [if_pos (by rfl)]
        refine wp_storeR (b := w'.heap.size) (c := m'.c (.slice A k n)) (.tmp 7) (.tmp 43) rfl rfl rfl agg27.hi R70 rfl (M.one _ rfl) ?_
        refine hK.out _ _ ⟨⟨_, SB2⟩, rfl⟩ (fun _ => ?_)
        clear hK K
        try simp only [Act.put, World.size_alloc, List.setIfInBounds_toArray, List.set_cons_zero, List.set_cons_succ]
        refine wpAnyH_ready (rs := [21]) (by kernel_rfl) (by simp) ?_
        refine AllReadyH.cons (o := { dst := some 8, op := .assign (.tmp 44), type := _, pos := _, after := _, guard := none }) rfl (fun K hK => ?_) AllReadyH.nil
        rw [if_pos (by rfl)]
        go_big_move
        refine hK.out _ _ ⟨⟨_, SB2⟩, rfl⟩ (fun _ => ?_)
        clear hK K
        try simp only [Act.put, World.size_alloc, List.setIfInBounds_toArray, List.set_cons_zero, List.set_cons_succ]
        refine wpAnyH_done (by kernel_rfl) ?_ _
        refine gen_q (fun X => Rw X (w'.heap.size) 27 (m'.c (.slice A k n)) ∧ Rw X w.heap.size 27 (noM.c nilS) ∧ Slf (w.heap.size + 1) X (.slice A k n) (iv l') ∧ Below w.heap.size w X) ⟨R7, R2, SF, BX⟩ ?_
        clear R70 hsl hb R7 R2 SF BX SB SB2
        rintro X ⟨R7, R2, SF, BX⟩
        obtain ⟨rfl, _⟩ := SF.sl.llen
        have hk' : 0 ≤ m'.kind := by rw [hkk]; exact HA.out
        have a3 := Payload_ref m' A n l' hk' X SF.sl
        go_wp2_with (first
          | (with_reducible show wpList _ _ _ (Oper.mk _ (Op.load 27 (.tmp 7)) _ _ _ _ :: _) _ _
             refine wpList_loadW (c := m'.c (.slice A l'.length n)) R7 agg27 rfl _ rfl rfl ?_))
        refine a3.mono ?_; rintro e X2 ⟨v9, rfl, s9, hb2⟩
        replace R7 := R7.below hb2
        replace R2 := R2.below hb2
        replace SF := SF.below hb2
        replace BX := BX.trans (hb2.mono BX.size)
        clear a3 hb2
        have SR := (SF.setRow_ (b := w.heap.size) (Nat.lt_succ_self _) (m'.c (.slice A l'.length n))).mono (Nat.le_succ _)
        by_cases hR : rightB m' l' = true
        · rw [show payE m' l' = 0 from if_pos hR]
          rw [show payR m' l' = payB m' l' from if_pos hR] at s9
          have t1 := run_str (P := Tryz.prog) 28 9 5 Tryz.underlying28 Tryz.underlying5 Tryz.underlying9 v9 (payB m' l') s9
          have t2 := run_str (P := Tryz.prog) 28 9 5 Tryz.underlying28 Tryz.underlying5 Tryz.underlying9 v bs (HS.out.below BX)
          by_cases hE : payB m' l' = bs
          · have HRD := Lib.hid (readR_some (readF_iff.2 ⟨hR, hE⟩))
            rw [hE] at t1
            clear hR hE s9
            go_wp2_with (first
              | (with_reducible show wpList _ _ _ (Oper.mk _ (Op.load 27 (.tmp 7)) _ _ _ _ :: _) _ _
                 refine wpList_loadW (c := m'.c (.slice A l'.length n)) R7 agg27 rfl _ rfl rfl ?_)
              | (with_reducible show wpList _ _ _ (Oper.mk _ (Op.store 27 (.tmp 2) _) _ _ _ _ :: _) _ _
                 refine wpList_storeR (c := m'.c (.slice A l'.length n)) rfl _ _ rfl rfl rfl agg27.hi R2 rfl (M.one _ rfl) ?_))
            exact bodyPost_ret (results_ct rfl rfl rfl R2.setRow) rfl ⟨.slice A l'.length n, by rw [HRD.out] <;> rfl, by rw [HRD.out]; exact SR, below_setRow BX (Nat.le_refl _) _⟩
          · have HRD := Lib.hid (readR_none (read_other HT.out hpar (fun h => hE h.2)))
            have n1 : (payB m' l' == bs) = false := by rw [beq_eq_false_iff_ne]; exact hE
            have n2 : (payB m' l' != bs) = true := by rw [bne_iff_ne]; exact hE
            clear hR hE s9
            go_wp2_with (first
              | (with_reducible show wpList _ _ _ (Oper.mk _ (Op.build 27 _) _ _ _ _ :: _) _ _
                 refine wpList_buildR rfl [] rfl rfl (run_build0 _) ?_)
              | (with_reducible show wpList _ _ _ (Oper.mk _ (Op.store 27 (.tmp 2) _) _ _ _ _ :: _) _ _
                 refine wpList_storeR (c := noM.c nilS) rfl _ _ rfl rfl rfl agg27.hi R2 rfl (M.one _ rfl) ?_))
            exact bodyPost_ret (results_ct rfl rfl rfl R2.setRow) rfl ⟨nilS, by rw [HRD.out] <;> rfl, by rw [HRD.out]; exact Slf.nil_ _ _, below_setRow BX (Nat.le_refl _) _⟩
        · have HRD := Lib.hid (readR_none (read_other HT.out hpar (fun h => hR h.1)))
          rw [show payE m' l' = 2 from if_neg hR]
          clear hR s9
          go_wp2_with (first
            | (with_reducible show wpList _ _ _ (Oper.mk _ (Op.build 27 _) _ _ _ _ :: _) _ _
               refine wpList_buildR rfl [] rfl rfl (run_build0 _) ?_)
            | (with_reducible show wpList _ _ _ (Oper.mk _ (Op.store 27 (.tmp 2) _) _ _ _ _ :: _) _ _
               refine wpList_storeR (c := noM.c nilS) rfl _ _ rfl rfl rfl agg27.hi R2 rfl (M.one _ rfl) ?_))
          exact bodyPost_ret (results_ct rfl rfl rfl R2.setRow) rfl ⟨nilS, by rw [HRD.out] <;> rfl, by rw [HRD.out]; exact Slf.nil_ _ _, below_setRow BX (Nat.le_refl _) _⟩
      · have SB := y.below.trans (hb.mono y.below.size)
        refine hK.out _ _ ⟨⟨_, SB⟩, rfl⟩ (fun _ => ?_)
        clear hK K
        try simp only [Act.put, World.size_alloc, List.setIfInBounds_toArray, List.set_cons_zero, List.set_cons_succ]
        refine wpAnyH_take (i := 16) (oi := { dst := some 26, op := .move (.tmp 42), type := _, pos := _, after := _, guard := none }) (v := .tuple #[.agg (m'.c (.slice A k n)), .bool false]) rfl (by kernel_rfl) (by kernel_rfl) (by kernel_rfl) (fun _ _ _ h => h) (Or.inl ⟨by rfl, fun w hw => by simp [execOp, Act.eval, go_sem]⟩) ⟨⟨_, SB⟩, rfl⟩ ?_
        try simp only [Act.put, World.size_alloc, List.setIfInBounds_toArray, List.set_cons_zero, List.set_cons_succ]
        refine wpAnyH_take (i := 17) (oi := { dst := some 43, op := .extract (.tmp 26) 0, type := _, pos := _, after := _, guard := none }) (v := .agg (m'.c (.slice A k n))) rfl (by kernel_rfl) (by kernel_rfl) (by kernel_rfl) (fun _ _ _ h => h) (Or.inl ⟨by rfl, fun w hw => by simp [execOp, Act.eval, go_sem]⟩) ⟨⟨_, SB⟩, rfl⟩ ?_
        try simp only [Act.put, World.size_alloc, List.setIfInBounds_toArray, List.set_cons_zero, List.set_cons_succ]
        refine wpAnyH_take (i := 18) (oi := { dst := some 44, op := .extract (.tmp 26) 1, type := _, pos := _, after := _, guard := none }) (v := .bool false) rfl (by kernel_rfl) (by kernel_rfl) (by kernel_rfl) (fun _ _ _ h => h) (Or.inl ⟨by rfl, fun w hw => by simp [execOp, Act.eval, go_sem]⟩) ⟨⟨_, SB⟩, rfl⟩ ?_
        try simp only [Act.put, World.size_alloc, List.setIfInBounds_toArray, List.set_cons_zero, List.set_cons_succ]
        refine wpAnyH_ready (rs := [19]) (by kernel_rfl) (by simp) ?_
        refine AllReadyH.cons (o := { dst := some 7, op := .alloc 27, type := _, pos := _, after := _, guard := none }) rfl (fun K hK => ?_) AllReadyH.nil
        rw [if_pos (by rfl)]
        refine wp_allocR_ rfl zero27_ ?_
        have R7 := (Rw.new w' (noM.c nilS) 27).setRow (c' := m'.c (.slice A k n))
        have R70 := Rw.new w' (noM.c nilS) 27
        have B7 := below_setRow (box_below w' (.cells (noM.c nilS) 27)) (Nat.le_refl _) (m'.c (.slice A k n))
        have BX := (HY.trans (hb.mono HY.size)).trans (B7.mono (HY.trans (hb.mono HY.size)).size)
        have R2 := ((HR.out.below y.below).below hb).below B7
        refine hK.out _ _ ⟨⟨_, SB.alloc SB.size _⟩, rfl⟩ (fun _ => ?_)
        clear hK K
        try simp only [Act.put, World.size_alloc, List.setIfInBounds_toArray, List.set_cons_zero, List.set_cons_succ]
        have SB2 := SB.trans (B7.mono SB.size)
        refine wpAnyH_ready (rs := [20]) (by kernel_rfl) (by simp) ?_
        refine AllReadyH.cons (o := { dst := none, op := .store 27 (.tmp 7) (.tmp 43), type := _, pos := _, after := _, guard := none }) rfl (fun K hK => ?_) AllReadyH.nil
        rw [if_pos (by rfl)]
        refine wp_storeR (b := w'.heap.size) (c := m'.c (.slice A k n)) (.tmp 7) (.tmp 43) rfl rfl rfl agg27.hi R70 rfl (M.one _ rfl) ?_
        refine hK.out _ _ ⟨⟨_, SB2⟩, rfl⟩ (fun _ => ?_)
        clear hK K
        try simp only [Act.put, World.size_alloc, List.setIfInBounds_toArray, List.set_cons_zero, List.set_cons_succ]
        refine wpAnyH_ready (rs := [21]) (by kernel_rfl) (by simp) ?_
        refine AllReadyH.cons (o := { dst := some 8, op := .assign (.tmp 44), type := _, pos := _, after := _, guard := none }) rfl (fun K hK => ?_) AllReadyH.nil
        rw [if_pos (by rfl)]
        go_big_move
        refine hK.out _ _ ⟨⟨_, SB2⟩, rfl⟩ (fun _ => ?_)
        clear hK K
        try simp only [Act.put, World.size_alloc, List.setIfInBounds_toArray, List.set_cons_zero, List.set_cons_succ]
        refine wpAnyH_done (by kernel_rfl) ?_ _
        have HRD := Lib.hid (readR_none (read_fail HT.out hpar))
        refine gen_q (fun X => Rw X w.heap.size 27 (noM.c nilS) ∧ Below w.heap.size w X) ⟨R2, BX⟩ ?_
        clear R70 R7 hb R2 BX SB SB2
        rintro X ⟨R2, BX⟩
        go_wp2_with (first
          | (with_reducible show wpList _ _ _ (Oper.mk _ (Op.build 27 _) _ _ _ _ :: _) _ _
             refine wpList_buildR rfl [] rfl rfl (run_build0 _) ?_)
          | (with_reducible show wpList _ _ _ (Oper.mk _ (Op.store 27 (.tmp 2) _) _ _ _ _ :: _) _ _
             refine wpList_storeR (c := noM.c nilS) rfl _ _ rfl rfl rfl agg27.hi R2 rfl (M.one _ rfl) ?_))
        exact bodyPost_ret (results_ct rfl rfl rfl R2.setRow) rfl ⟨nilS, by rw [HRD.out] <;> rfl, by rw [HRD.out]; exact Slf.nil_ _ _, below_setRow BX (Nat.le_refl _) _⟩
    · skip
      rw [if_pos (by rfl)]
      refine wp_allocR_ rfl zero27_ ?_
      have R7a := Rw.new y.w (noM.c nilS) 27
      have B7a := box_below y.w (.cells (noM.c nilS) 27)
      have HZ := HY.trans (B7a.mono HY.size)
      refine hK.out _ _ ⟨⟨_, y.below.trans (B7a.mono y.below.size)⟩, rfl⟩ (fun _ => ?_)
      clear hK K
      try simp only [Act.put, World.size_alloc, List.setIfInBounds_toArray, List.set_cons_zero, List.set_cons_succ]
      refine wpAnyH_ready (rs := [15]) (by kernel_rfl) (by simp) ?_
      refine AllReadyH.cons (o := { dst := some 42, op := .call { callee := .value (.func 35), args := #[.tmp 40, .tmp 41], argTypes := #[27, 28] }, type := _, pos := _, after := _, guard := none }) rfl (fun K hK => ?_) AllReadyH.nil
      rw [if_pos (by rfl)]
      go_big_op
      refine (MORE.out _ (y.below.trans (B7a.mono y.below.size))).mono ?_
      rintro e w' ⟨⟨m', l', r, A, k, n, hpar, hkk, rfl, hsl⟩ | ⟨hpar, m', A, k, n, rfl⟩, hb⟩
      · have SB := (y.below.trans (B7a.mono y.below.size)).trans (hb.mono (y.below.trans (B7a.mono y.below.size)).size)
        refine hK.out _ _ ⟨⟨_, SB⟩, rfl⟩ (fun _ => ?_)
        clear hK K
        try simp only [Act.put, World.size_alloc, List.setIfInBounds_toArray, List.set_cons_zero, List.set_cons_succ]
        refine wpAnyH_take (i := 16) (oi := { dst := some 26, op := .move (.tmp 42), type := _, pos := _, after := _, guard := none }) (v := .tuple #[.agg (m'.c (.slice A k n)), .bool true]) rfl (by kernel_rfl) (by kernel_rfl) (by kernel_rfl) (fun _ _ _ h => h) (Or.inl ⟨by rfl, fun w hw => by simp [execOp, Act.eval, go_sem]⟩) ⟨⟨_, SB⟩, rfl⟩ ?_
        try simp only [Act.put, World.size_alloc, List.setIfInBounds_toArray, List.set_cons_zero, List.set_cons_succ]
        refine wpAnyH_take (i := 17) (oi := { dst := some 43, op := .extract (.tmp 26) 0, type := _, pos := _, after := _, guard := none }) (v := .agg (m'.c (.slice A k n))) rfl (by kernel_rfl) (by kernel_rfl) (by kernel_rfl) (fun _ _ _ h => h) (Or.inl ⟨by rfl, fun w hw => by simp [execOp, Act.eval, go_sem]⟩) ⟨⟨_, SB⟩, rfl⟩ ?_
        try simp only [Act.put, World.size_alloc, List.setIfInBounds_toArray, List.set_cons_zero, List.set_cons_succ]
        refine wpAnyH_take (i := 18) (oi := { dst := some 44, op := .extract (.tmp 26) 1, type := _, pos := _, after := _, guard := none }) (v := .bool true) rfl (by kernel_rfl) (by kernel_rfl) (by kernel_rfl) (fun _ _ _ h => h) (Or.inl ⟨by rfl, fun w hw => by simp [execOp, Act.eval, go_sem]⟩) ⟨⟨_, SB⟩, rfl⟩ ?_
        try simp only [Act.put, World.size_alloc, List.setIfInBounds_toArray, List.set_cons_zero, List.set_cons_succ]
        have R70 := R7a.below hb
        have R7 := R70.setRow (c' := m'.c (.slice A k n))
        have hlt := HR.out.lt
        have hys := y.below.size
        have BX := below_setRow (HZ.trans (hb.mono HZ.size)) (g := y.w.heap.size) (by have := HW.out; omega) (m'.c (.slice A k n))
        have R2 := (((HR.out.below y.below).below B7a).below hb).setRow_other (g := y.w.heap.size) (c' := m'.c (.slice A k n)) (by have := HW.out; omega)
        have SF := (hsl.setRow_ (b := y.w.heap.size) (by simp) (m'.c (.slice A k n))).mono (show w.heap.size + 1 ≤ _ by have := HW.out; simp; omega)
        have SB2 := below_setRow SB (g := y.w.heap.size) hys (m'.c (.slice A k n))
        refine wpAnyH_ready (rs := [20]) (by kernel_rfl) (by simp) ?_
        refine AllReadyH.cons (o := { dst := none, op := .store 27 (.tmp 7) (.tmp 43), type := _, pos := _, after := _, guard := none }) rfl (fun K hK => ?_) AllReadyH.nil
        rw [if_pos (by rfl)]
        refine wp_storeR (b := y.w.heap.size) (c := m'.c (.slice A k n)) (.tmp 7) (.tmp 43) rfl rfl rfl agg27.hi R70 rfl (M.one _ rfl) ?_
        refine hK.out _ _ ⟨⟨_, SB2⟩, rfl⟩ (fun _ => ?_)
        clear hK K
        try simp only [Act.put, World.size_alloc, List.setIfInBounds_toArray, List.set_cons_zero, List.set_cons_succ]
        refine wpAnyH_ready (rs := [21]) (by kernel_rfl) (by simp) ?_
        refine AllReadyH.cons (o := { dst := some 8, op := .assign (.tmp 44), type := _, pos := _, after := _, guard := none }) rfl (fun K hK => ?_) AllReadyH.nil
        rw [if_pos (by rfl)]
        go_big_move
        refine hK.out _ _ ⟨⟨_, SB2⟩, rfl⟩ (fun _ => ?_)
        clear hK K
        try simp only [Act.put, World.size_alloc, List.setIfInBounds_toArray, List.set_cons_zero, List.set_cons_succ]
        refine wpAnyH_done (by kernel_rfl) ?_ _
        refine gen_q (fun X => Rw X (y.w.heap.size) 27 (m'.c (.slice A k n)) ∧ Rw X w.heap.size 27 (noM.c nilS) ∧ Slf (w.heap.size + 1) X (.slice A k n) (iv l') ∧ Below w.heap.size w X) ⟨R7, R2, SF, BX⟩ ?_
        clear R70 hsl hb R7 R2 SF BX SB SB2
        rintro X ⟨R7, R2, SF, BX⟩
        obtain ⟨rfl, _⟩ := SF.sl.llen
        have hk' : 0 ≤ m'.kind := by rw [hkk]; exact HA.out
        have a3 := Payload_ref m' A n l' hk' X SF.sl
        go_wp2_with (first
          | (with_reducible show wpList _ _ _ (Oper.mk _ (Op.load 27 (.tmp 7)) _ _ _ _ :: _) _ _
             refine wpList_loadW (c := m'.c (.slice A l'.length n)) R7 agg27 rfl _ rfl rfl ?_))
        refine a3.mono ?_; rintro e X2 ⟨v9, rfl, s9, hb2⟩
        replace R7 := R7.below hb2
        replace R2 := R2.below hb2
        replace SF := SF.below hb2
        replace BX := BX.trans (hb2.mono BX.size)
        clear a3 hb2
        have SR := (SF.setRow_ (b := w.heap.size) (Nat.lt_succ_self _) (m'.c (.slice A l'.length n))).mono (Nat.le_succ _)
        by_cases hR : rightB m' l' = true
        · rw [show payE m' l' = 0 from if_pos hR]
          rw [show payR m' l' = payB m' l' from if_pos hR] at s9
          have t1 := run_str (P := Tryz.prog) 28 9 5 Tryz.underlying28 Tryz.underlying5 Tryz.underlying9 v9 (payB m' l') s9
          have t2 := run_str (P := Tryz.prog) 28 9 5 Tryz.underlying28 Tryz.underlying5 Tryz.underlying9 v bs (HS.out.below BX)
          by_cases hE : payB m' l' = bs
          · have HRD := Lib.hid (readR_some (readF_iff.2 ⟨hR, hE⟩))
            rw [hE] at t1
            clear hR hE s9
            go_wp2_with (first
              | (with_reducible show wpList _ _ _ (Oper.mk _ (Op.load 27 (.tmp 7)) _ _ _ _ :: _) _ _
                 refine wpList_loadW (c := m'.c (.slice A l'.length n)) R7 agg27 rfl _ rfl rfl ?_)
              | (with_reducible show wpList _ _ _ (Oper.mk _ (Op.store 27 (.tmp 2) _) _ _ _ _ :: _) _ _
                 refine wpList_storeR (c := m'.c (.slice A l'.length n)) rfl _ _ rfl rfl rfl agg27.hi R2 rfl (M.one _ rfl) ?_))
            exact bodyPost_ret (results_ct rfl rfl rfl R2.setRow) rfl ⟨.slice A l'.length n, by rw [HRD.out] <;> rfl, by rw [HRD.out]; exact SR, below_setRow BX (Nat.le_refl _) _⟩
          · have HRD := Lib.hid (readR_none (read_other HT.out hpar (fun h => hE h.2)))
            have n1 : (payB m' l' == bs) = false := by rw [beq_eq_false_iff_ne]; exact hE
            have n2 : (payB m' l' != bs) = true := by rw [bne_iff_ne]; exact hE
            clear hR hE s9
            go_wp2_with (first
              | (with_reducible show wpList _ _ _ (Oper.mk _ (Op.build 27 _) _ _ _ _ :: _) _ _
                 refine wpList_buildR rfl [] rfl rfl (run_build0 _) ?_)
              | (with_reducible show wpList _ _ _ (Oper.mk _ (Op.store 27 (.tmp 2) _) _ _ _ _ :: _) _ _
                 refine wpList_storeR (c := noM.c nilS) rfl _ _ rfl rfl rfl agg27.hi R2 rfl (M.one _ rfl) ?_))
            exact bodyPost_ret (results_ct rfl rfl rfl R2.setRow) rfl ⟨nilS, by rw [HRD.out] <;> rfl, by rw [HRD.out]; exact Slf.nil_ _ _, below_setRow BX (Nat.le_refl _) _⟩
        · have HRD := Lib.hid (readR_none (read_other HT.out hpar (fun h => hR h.1)))
          rw [show payE m' l' = 2 from if_neg hR]
          clear hR s9
          go_wp2_with (first
            | (with_reducible show wpList _ _ _ (Oper.mk _ (Op.build 27 _) _ _ _ _ :: _) _ _
               refine wpList_buildR rfl [] rfl rfl (run_build0 _) ?_)
            | (with_reducible show wpList _ _ _ (Oper.mk _ (Op.store 27 (.tmp 2) _) _ _ _ _ :: _) _ _
               refine wpList_storeR (c := noM.c nilS) rfl _ _ rfl rfl rfl agg27.hi R2 rfl (M.one _ rfl) ?_))
          exact bodyPost_ret (results_ct rfl rfl rfl R2.setRow) rfl ⟨nilS, by rw [HRD.out] <;> rfl, by rw [HRD.out]; exact Slf.nil_ _ _, below_setRow BX (Nat.le_refl _) _⟩
      · have SB := (y.below.trans (B7a.mono y.below.size)).trans (hb.mono (y.below.trans (B7a.mono y.below.size)).size)
        refine hK.out _ _ ⟨⟨_, SB⟩, rfl⟩ (fun _ => ?_)
        clear hK K
        try simp only [Act.put, World.size_alloc, List.setIfInBounds_toArray, List.set_cons_zero, List.set_cons_succ]
        refine wpAnyH_take (i := 16) (oi := { dst := some 26, op := .move (.tmp 42), type := _, pos := _, after := _, guard := none }) (v := .tuple #[.agg (m'.c (.slice A k n)), .bool false]) rfl (by kernel_rfl) (by kernel_rfl) (by kernel_rfl) (fun _ _ _ h => h) (Or.inl ⟨by rfl, fun w hw => by simp [execOp, Act.eval, go_sem]⟩) ⟨⟨_, SB⟩, rfl⟩ ?_
        try simp only [Act.put, World.size_alloc, List.setIfInBounds_toArray, List.set_cons_zero, List.set_cons_succ]
        refine wpAnyH_take (i := 17) (oi := { dst := some 43, op := .extract (.tmp 26) 0, type := _, pos := _, after := _, guard := none }) (v := .agg (m'.c (.slice A k n))) rfl (by kernel_rfl) (by kernel_rfl) (by kernel_rfl) (fun _ _ _ h => h) (Or.inl ⟨by rfl, fun w hw => by simp [execOp, Act.eval, go_sem]⟩) ⟨⟨_, SB⟩, rfl⟩ ?_
        try simp only [Act.put, World.size_alloc, List.setIfInBounds_toArray, List.set_cons_zero, List.set_cons_succ]
        refine wpAnyH_take (i := 18) (oi := { dst := some 44, op := .extract (.tmp 26) 1, type := _, pos := _, after := _, guard := none }) (v := .bool false) rfl (by kernel_rfl) (by kernel_rfl) (by kernel_rfl) (fun _ _ _ h => h) (Or.inl ⟨by rfl, fun w hw => by simp [execOp, Act.eval, go_sem]⟩) ⟨⟨_, SB⟩, rfl⟩ ?_
        try simp only [Act.put, World.size_alloc, List.setIfInBounds_toArray, List.set_cons_zero, List.set_cons_succ]
        have R70 := R7a.below hb
        have R7 := R70.setRow (c' := m'.c (.slice A k n))
        have hlt := HR.out.lt
        have hys := y.below.size
        have BX := below_setRow (HZ.trans (hb.mono HZ.size)) (g := y.w.heap.size) (by have := HW.out; omega) (m'.c (.slice A k n))
        have R2 := (((HR.out.below y.below).below B7a).below hb).setRow_other (g := y.w.heap.size) (c' := m'.c (.slice A k n)) (by have := HW.out; omega)
        have SB2 := below_setRow SB (g := y.w.heap.size) hys (m'.c (.slice A k n))
        refine wpAnyH_ready (rs := [20]) (by kernel_rfl) (by simp) ?_
        refine AllReadyH.cons (o := { dst := none, op := .store 27 (.tmp 7) (.tmp 43), type := _, pos := _, after := _, guard := none }) rfl (fun K hK => ?_) AllReadyH.nil
        rw [if_pos (by rfl)]
        refine wp_storeR (b := y.w.heap.size) (c := m'.c (.slice A k n)) (.tmp 7) (.tmp 43) rfl rfl rfl agg27.hi R70 rfl (M.one _ rfl) ?_
        refine hK.out _ _ ⟨⟨_, SB2⟩, rfl⟩ (fun _ => ?_)
        clear hK K
        try simp only [Act.put, World.size_alloc, List.setIfInBounds_toArray, List.set_cons_zero, List.set_cons_succ]
        refine wpAnyH_ready (rs := [21]) (by kernel_rfl) (by simp) ?_
        refine AllReadyH.cons (o := { dst := some 8, op := .assign (.tmp 44), type := _, pos := _, after := _, guard := none }) rfl (fun K hK => ?_) AllReadyH.nil
        rw [if_pos (by rfl)]
        go_big_move
        refine hK.out _ _ ⟨⟨_, SB2⟩, rfl⟩ (fun _ => ?_)
        clear hK K
        try simp only [Act.put, World.size_alloc, List.setIfInBounds_toArray, List.set_cons_zero, List.set_cons_succ]
        refine wpAnyH_done (by kernel_rfl) ?_ _
        have HRD := Lib.hid (readR_none (read_fail HT.out hpar))
        refine gen_q (fun X => Rw X w.heap.size 27 (noM.c nilS) ∧ Below w.heap.size w X) ⟨R2, BX⟩ ?_
        clear R70 R7 hb R2 BX SB SB2
        rintro X ⟨R2, BX⟩
        go_wp2_with (first
          | (with_reducible show wpList _ _ _ (Oper.mk _ (Op.build 27 _) _ _ _ _ :: _) _ _
             refine wpList_buildR rfl [] rfl rfl (run_build0 _) ?_)
          | (with_reducible show wpList _ _ _ (Oper.mk _ (Op.store 27 (.tmp 2) _) _ _ _ _ :: _) _ _
             refine wpList_storeR (c := noM.c nilS) rfl _ _ rfl rfl rfl agg27.hi R2 rfl (M.one _ rfl) ?_))
        exact bodyPost_ret (results_ct rfl rfl rfl R2.setRow) rfl ⟨nilS, by rw [HRD.out] <;> rfl, by rw [HRD.out]; exact Slf.nil_ _ _, below_setRow BX (Nat.le_refl _) _⟩
  · have := HT.out
    rw [hti] at this
    cases this

theorem Read_ref (v : Value) (bs : List UInt8) (w : World) (hs : Sl w v (bv bs)) (hl : bs.length ≤ 1000) :
    Calls Tryz.prog 13 #[v] w fun e w' => ∃ lv, e = .returned (.tuple #[.agg ((readR bs).1.c lv), .int .i64 (readR bs).2.2]) ∧ Slf w.heap.size w' lv (iv (readR bs).2.1) ∧ Below w.heap.size w w' := by
  cases ht : takeI 4 bs with
  | none => exact Read_ref_bad v bs w hs hl (.inl ht)
  | some x =>
    obtain ⟨ns, rest⟩ := x
    obtain ⟨a, b, c, d, rfl⟩ := list4 (takeI_len ht).1
    by_cases h13 : 13 ≤ a
    · exact Read_ref_bad v bs w hs hl (.inr ⟨a, b, c, d, rest, ht, h13⟩)
    · exact Read_ref_on v bs w hs hl a b c d rest ht (by omega)
end Go.Proofs.YtaacjpcckinaiaaGreat
set_option linter.unusedVariables false
set_option maxRecDepth 100000
set_option linter.unusedSimpArgs false
namespace Go.Proofs.YtaacjpcckinaiaaGreat
open Go.RowKit Go.Shelf Ms

theorem openP_len (b : List UInt8) (hl : b.length ≤ 1000) : (Frm.openP b).length ≤ 1000 := by
  unfold Frm.openP
  split
  · unfold Frm.mid
    rw [List.length_drop, List.length_take]
    omega
  · simp
set_option maxHeartbeats 2000000 in
theorem Take_ref (v : Value) (b : List UInt8) (w : World) (hs : Sl w v (bv b)) (hl : b.length ≤ 1000) :
    Calls Tryz.prog 19 #[v] w fun e w' => ∃ lv, e = .returned (.tuple #[.agg ((takeR b).1.c lv), .int .i64 (takeR b).2.2]) ∧ Slf w.heap.size w' lv (iv (takeR b).2.1) ∧ Below w.heap.size w w' := by
  have R0 := Rw.new w (noM.c nilS) 27
  have B0 := box_below w (.cells (noM.c nilS) 27)
  have hO := Frm.Open_ref v b _ (hs.below B0) (by omega)
  unfold takeR
  by_cases h : Frm.openE b = 0
  · rw [if_pos h]
    rw [h] at hO
    have HO := Lib.hid hO
    have HP := Lib.hid (openP_len b hl)
    clear hO h hs hl
    go_enter Tryz.func19, Tryz.ntmps19
    go_wp2_with fail
    refine HO.out.mono ?_; rintro e w1 ⟨v1, rfl, hs1, hb1⟩
    go_wp2_with fail
    refine (Read_ref v1 (Frm.openP b) _ hs1 HP.out).mono ?_; rintro e w2 ⟨lv, rfl, hs2, hb2⟩
    obtain ⟨Al, nl, cl, rfl⟩ := hs2.sl.slice
    go_wp2_with (with_reducible show wpList _ _ _ (Oper.mk _ (Op.store _ (.tmp 2) _) _ _ _ _ :: _) _ _
                 refine wpList_storeR (c := (readR (Frm.openP b)).1.c (.slice Al nl cl)) rfl _ _ rfl rfl rfl agg27.hi ((R0.below hb1).below hb2) rfl (M.one _ rfl) ?_)
    refine bodyPost_ret (results_ct rfl rfl rfl ((R0.below hb1).below hb2).setRow) rfl ⟨_, rfl, ?_, below_setRow ((B0.trans (hb1.mono B0.size)).trans (hb2.mono (Nat.le_trans B0.size hb1.size))) (Nat.le_refl _) _⟩
    have hz := hb1.size
    simp only [World.size_alloc] at hz
    exact (hs2.setRow_ (b := w.heap.size) (by omega) _).mono (by omega)
  · rw [if_neg h]
    have HO := Lib.hid hO
    clear hO hs hl
    have hne : (Frm.openE b != 0) = true := by simp [h]
    go_enter Tryz.func19, Tryz.ntmps19
    go_wp2_with fail
    refine HO.out.mono ?_; rintro e w1 ⟨v1, rfl, hs1, hb1⟩
    go_wp2_with (first
      | (with_reducible show wpList _ _ _ (Oper.mk _ (Op.build 27 _) _ _ _ _ :: _) _ _
         refine wpList_buildR rfl [] rfl rfl (run_build0 _) ?_)
      | (with_reducible show wpList _ _ _ (Oper.mk _ (Op.store _ (.tmp 2) _) _ _ _ _ :: _) _ _
         refine wpList_storeR (c := noM.c nilS) rfl _ _ rfl rfl rfl agg27.hi (R0.below hb1) rfl (M.one _ rfl) ?_))
    exact bodyPost_ret (results_ct rfl rfl rfl (R0.below hb1).setRow) rfl ⟨_, rfl, Slf.nil_ _ _, below_setRow (B0.trans (hb1.mono B0.size)) (Nat.le_refl _) _⟩
set_option maxHeartbeats 2000000 in
theorem Take_own (v : Value) (b : List UInt8) (w : World) (hs : Sl w v (bv b)) :
    Calls Tryz.prog 18 #[v] w fun e w' => ∃ lv, e = .returned (.tuple #[.agg ((takeR b).1.c lv), .int .i64 (takeR b).2.2]) ∧ Slf w.heap.size w' lv (iv (takeR b).2.1) ∧ Below w.heap.size w w' := by
  have R0 := Rw.new w (noM.c nilS) 27
  have B0 := box_below w (.cells (noM.c nilS) 27)
  have hO := Frm.Open_any v b _ (hs.below B0)
  unfold takeR
  by_cases h : Frm.openE b = 0
  · rw [if_pos h]
    rw [h] at hO
    have HO := Lib.hid hO
    clear hO h
    go_enter Tryz.func18, Tryz.ntmps18
    go_wp2_with (first
      | (go_at_call 37; refine HO.out.mono ?_; rintro e w1 ⟨v1, rfl, hs1, hb1⟩)
      | (go_at_call 12; refine (Read_any v1 (Frm.openP b) _ hs1).mono ?_; rintro e w2 ⟨lv, rfl, hs2, hb2⟩; obtain ⟨Al, nl, cl, rfl⟩ := hs2.sl.slice)
      | (with_reducible show wpList _ _ _ (Oper.mk _ (Op.store _ (.tmp 2) _) _ _ _ _ :: _) _ _
         refine wpList_storeR (c := (readR (Frm.openP b)).1.c (.slice Al nl cl)) rfl _ _ rfl rfl rfl agg27.hi ((R0.below hb1).below hb2) rfl (M.one _ rfl) ?_))
    refine bodyPost_ret (results_ct rfl rfl rfl ((R0.below hb1).below hb2).setRow) rfl ⟨_, rfl, ?_, below_setRow ((B0.trans (hb1.mono B0.size)).trans (hb2.mono (Nat.le_trans B0.size hb1.size))) (Nat.le_refl _) _⟩
    have hz := hb1.size
    simp only [World.size_alloc] at hz
    exact (hs2.setRow_ (b := w.heap.size) (by omega) _).mono (by omega)
  · rw [if_neg h]
    have HO := Lib.hid hO
    clear hO
    have hne : (Frm.openE b != 0) = true := by simp [h]
    go_enter Tryz.func18, Tryz.ntmps18
    go_wp2_with (first
      | (go_at_call 37; refine HO.out.mono ?_; rintro e w1 ⟨v1, rfl, hs1, hb1⟩)
      | (with_reducible show wpList _ _ _ (Oper.mk _ (Op.store _ (.tmp 2) _) _ _ _ _ :: _) _ _
         refine wpList_storeR (c := noM.c nilS) rfl _ _ rfl rfl rfl agg27.hi (R0.below hb1) rfl (M.one _ rfl) ?_))
    exact bodyPost_ret (results_ct rfl rfl rfl (R0.below hb1).setRow) rfl ⟨_, rfl, Slf.nil_ _ _, below_setRow (B0.trans (hb1.mono B0.size)) (Nat.le_refl _) _⟩
end Go.Proofs.YtaacjpcckinaiaaGreat
