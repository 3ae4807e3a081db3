/- 'BagTells': the walk of the law. -/
import Derived.Test.YtdoigpifkdkjpaaBForAny
import Derived.Test.YtdoigpifkdkjpaaFacts
import Derived.Test.YtdoigpifkdkjpaaBRDrop
import Derived.Test.YtdoigpifkdkjpaaBRTwice
import Derived.Test.YtdoigpifkdkjpaaBRHarm
import Derived.Test.YtdoigpifkdkjpaaBRSend
import Derived.Test.YtdoigpifkdkjpaaBRTake
import Derived.Test.YtdoigpifkdkjpaaBAct2
import Derived.Test.YtdoigpifkdkjpaaBSame
set_option linter.unusedVariables false
set_option maxRecDepth 100000
set_option linter.unusedSimpArgs false
namespace Go.Proofs.Ytdoigpifkdkjpaa
open Go.RowKit Go.Shelf Ms

theorem rsame_same (s t : Value) (n : Int) (la : List Gr) (w : World) (ha : SwG w s la) (hb : SwG w t la) :
    Calls Try.prog 12 #[.agg (bagC s n), .agg (bagC t n)] w fun e w' => e = .returned (.bool true) ∧ Below w.heap.size w w' := by
  have := rsame_any s t n n la la w ha hb
  rwa [same_yes] at this
set_option maxHeartbeats 8000000 in
theorem tells_ok (s t : Value) (n k : Int) (gs os : List Gr) (v : Value) (ls : List Gr) (i j : Int) (z : UInt8) (to : Int) (w : World) (hs : SwG w s gs) (ht : SwG w t os) (hv : SwG w v ls) (hg : greatG gs = false) (ho : greatG os = false) (h20 : ls.length ≤ 20) (hgl : greatG ls = false) :
    Calls Try.prog 3 #[.agg (bagC s n), .agg (bagC t k), v, .int .i64 i, .int .i64 j, .int .u8 (z.toNat : Int), .int .i64 to] w fun e w' => e = .returned (.bool true) ∧ Below w.heap.size w w' := by
  obtain ⟨A0, c0, rfl⟩ := hs.form
  obtain ⟨A1, c1, rfl⟩ := ht.form
  obtain ⟨Av, cv, rfl⟩ := hv.form
  obtain ⟨r1, r2, B0⟩ := two_boxes w (bagC (.slice A0 gs.length c0) n) (bagC (.slice A1 os.length c1) k) 24 24
  have H0 := (((Fs.nil _).snoc (.base w) B0).snoc (.row w.heap.size 24 (bagC (.slice A0 gs.length c0) n)) r1).snoc (.row (w.heap.size + 1) 24 (bagC (.slice A1 os.length c1) k)) r2
  simp only [List.nil_append, List.cons_append] at H0
  have HS := Lib.hid hs
  have HT := Lib.hid ht
  have HV := Lib.hid hv
  clear r1 r2 B0 hs ht hv
  obtain ⟨hn420, hl300⟩ := great_no hg
  have HL := Lib.hid (show ∀ g ∈ gs, g.bytes.length ≤ 1000 from fun g h => by have := hl300 g h; omega)
  have hn1 : gs.length ≤ 1000 := by omega
  have e4 : decide ((ls.length : Int) > 20) = false := decide_eq_false (by omega)
  have e5 : decide (20 < (ls.length : Int)) = false := decide_eq_false (by omega)
  clear hl300 hn420
  go_enter Try.func3, Try.ntmps3
  go_wp2_with (first
    | (with_reducible show wpList _ _ _ (Oper.mk _ (Op.load 24 (.tmp 7)) _ _ _ _ :: _) _ _
       refine wpList_loadW (H0.rowAt 1 rfl) aggB rfl _ rfl rfl ?_)
    | (with_reducible show wpList _ _ _ (Oper.mk _ (Op.load 24 (.tmp 8)) _ _ _ _ :: _) _ _
       refine wpList_loadW (H0.rowAt 2 rfl) aggB rfl _ rfl rfl ?_))
  refine (rGreat_any _ n gs _ (HS.out.below (H0.baseAt 0 rfl))).mono ?_; rintro e w1 ⟨rfl, hb1⟩
  rw [hg]
  replace H0 := H0.call hb1
  clear hb1
  go_wp2_with (first
    | (with_reducible show wpList _ _ _ (Oper.mk _ (Op.load 24 (.tmp 7)) _ _ _ _ :: _) _ _
       refine wpList_loadW (H0.rowAt 1 rfl) aggB rfl _ rfl rfl ?_)
    | (with_reducible show wpList _ _ _ (Oper.mk _ (Op.load 24 (.tmp 8)) _ _ _ _ :: _) _ _
       refine wpList_loadW (H0.rowAt 2 rfl) aggB rfl _ rfl rfl ?_))
  refine (rGreat_any _ k os _ (HT.out.below (H0.baseAt 0 rfl))).mono ?_; rintro e w2 ⟨rfl, hb1⟩
  rw [ho]
  replace H0 := H0.call hb1
  clear hb1
  go_wp2_with (first
    | (with_reducible show wpList _ _ _ (Oper.mk _ (Op.load 24 (.tmp 7)) _ _ _ _ :: _) _ _
       refine wpList_loadW (H0.rowAt 1 rfl) aggB rfl _ rfl rfl ?_)
    | (with_reducible show wpList _ _ _ (Oper.mk _ (Op.load 24 (.tmp 8)) _ _ _ _ :: _) _ _
       refine wpList_loadW (H0.rowAt 2 rfl) aggB rfl _ rfl rfl ?_))
  refine (rGreat_any _ 0 ls _ (HV.out.below (H0.baseAt 0 rfl))).mono ?_; rintro e w3 ⟨rfl, hb1⟩
  rw [hgl]
  replace H0 := H0.call hb1
  clear hb1
  obtain ⟨⟨T1, Tg, Tb⟩, hT⟩ : ∃ T, takeS gs i = T := ⟨_, rfl⟩
  have KT := Lib.hid (fun W (h : SwG W (.slice A0 gs.length c0) gs) => Take_any _ n gs i W h HL.out hn1)
  have KR := Lib.hid (fun W (h : SwG W (.slice A0 gs.length c0) gs) => rTake_any _ n gs i W h HL.out hn1)
  rw [hT] at KT KR
  dsimp only at KT KR
  clear hT
  have hs0 := (H0.rowAt 2 rfl).lt
  go_wp2_with (first
    | (with_reducible show wpList _ _ _ (Oper.mk _ (Op.load 24 (.tmp 7)) _ _ _ _ :: _) _ _
       refine wpList_loadW (H0.rowAt 1 rfl) aggB rfl _ rfl rfl ?_))
  refine (KT.out _ (HS.out.below (H0.baseAt 0 rfl))).mono ?_; rintro e w4 ⟨A15, q15, d15, u, rfl, hm, hu⟩
  obtain ⟨Au, cu, rfl⟩ := (Sl.of_own hu).form
  rw [bv_length] at hu ⊢
  have hw34 := hm.below.size
  replace H0 := ((H0.call hm.below).snoc (.own (fun k => w3.heap.size ≤ k ∧ k < w4.heap.size) 29 _ _) (hm.ownP.imp fun k h1 h2 => ⟨h2, h1⟩)).snoc (.bytes (fun k => w3.heap.size ≤ k ∧ k < w4.heap.size) _ _) ⟨owns_mono hu (Nat.zero_le _), fun k hk => hu.lt k hk⟩
  obtain ⟨z1, z2, -⟩ := two_boxes w4 (bagC nilB 0) (noG.c nilB) 24 29
  replace H0 := ((((H0.alloc _).alloc _).snoc (.row w4.heap.size _ _) z1).snoc (.row (w4.heap.size + 1) _ _) z2)
  simp only [List.nil_append, List.cons_append] at H0
  clear z1 z2 hm hu
  go_wp2_with (first
    | (with_reducible show wpList _ _ _ (Oper.mk _ (Op.load 24 (.tmp 7)) _ _ _ _ :: _) _ _
       refine wpList_loadW (H0.rowAt 1 rfl) aggB rfl _ rfl rfl ?_)
    | (with_reducible show wpList _ _ _ (Oper.mk _ (Op.store 24 (.tmp 15) _) _ _ _ _ :: _) _ _
       refine wpList_storeR (c := bagC (.slice A15 q15 d15) n) rfl _ _ rfl rfl rfl aggB.hi (H0.rowAt 5 rfl) rfl (bag_one _ _ _ _) ?_
       replace H0 := H0.setRow 5 rfl (bagC (.slice A15 q15 d15) n) (by simp [aparts, F.row_fp, F.base_fp, F.own_fp, F.bytes_fp, -Nat.not_le, -Nat.not_lt] <;> omega)
       simp only [List.set_cons_zero, List.set_cons_succ] at H0)
    | (with_reducible show wpList _ _ _ (Oper.mk _ (Op.store 29 (.tmp 16) _) _ _ _ _ :: _) _ _
       refine wpList_storeR (c := Tg.c (.slice Au Tg.bytes.length cu)) rfl _ _ rfl rfl rfl aggG.hi (H0.rowAt 6 rfl) rfl (Gr.one _ _ _ _) ?_
       replace H0 := H0.setRow 6 rfl (Tg.c (.slice Au Tg.bytes.length cu)) (by simp [aparts, F.row_fp, F.base_fp, F.own_fp, F.bytes_fp, -Nat.not_le, -Nat.not_lt] <;> omega)
       simp only [List.set_cons_zero, List.set_cons_succ] at H0
       refine Fs.gen H0 ?_
       clear H0
       rintro X3 H0))
  have hs1 := (H0.rowAt 6 rfl).lt
  refine (KR.out _ (HS.out.below (H0.baseAt 0 rfl))).mono ?_; rintro e w6 ⟨A18, q18, d18, u, rfl, hm, hu⟩
  obtain ⟨Av9, cv9, rfl⟩ := (Sl.of_own hu).form
  rw [bv_length] at hu ⊢
  have hw36 := hm.below.size
  replace H0 := ((H0.call hm.below).snoc (.own (fun k => X3.heap.size ≤ k ∧ k < w6.heap.size) 29 _ _) (hm.ownP.imp fun k h1 h2 => ⟨h2, h1⟩)).snoc (.bytes (fun k => X3.heap.size ≤ k ∧ k < w6.heap.size) _ _) ⟨owns_mono hu (Nat.zero_le _), fun k hk => hu.lt k hk⟩
  obtain ⟨z1, z2, -⟩ := two_boxes w6 (bagC nilB 0) (noG.c nilB) 24 29
  replace H0 := ((((H0.alloc _).alloc _).snoc (.row w6.heap.size _ _) z1).snoc (.row (w6.heap.size + 1) _ _) z2)
  simp only [List.nil_append, List.cons_append] at H0
  clear z1 z2 hm hu
  go_wp2_with (first
    | (with_reducible show wpList _ _ _ (Oper.mk _ (Op.store 24 (.tmp 18) _) _ _ _ _ :: _) _ _
       refine wpList_storeR (c := bagC (.slice A18 q18 d18) n) rfl _ _ rfl rfl rfl aggB.hi (H0.rowAt 9 rfl) rfl (bag_one _ _ _ _) ?_
       replace H0 := H0.setRow 9 rfl (bagC (.slice A18 q18 d18) n) (by simp [aparts, F.row_fp, F.base_fp, F.own_fp, F.bytes_fp, -Nat.not_le, -Nat.not_lt] <;> omega)
       simp only [List.set_cons_zero, List.set_cons_succ] at H0)
    | (with_reducible show wpList _ _ _ (Oper.mk _ (Op.store 29 (.tmp 19) _) _ _ _ _ :: _) _ _
       refine wpList_storeR (c := Tg.c (.slice Av9 Tg.bytes.length cv9)) rfl _ _ rfl rfl rfl aggG.hi (H0.rowAt 10 rfl) rfl (Gr.one _ _ _ _) ?_
       replace H0 := H0.setRow 10 rfl (Tg.c (.slice Av9 Tg.bytes.length cv9)) (by simp [aparts, F.row_fp, F.base_fp, F.own_fp, F.bytes_fp, -Nat.not_le, -Nat.not_lt] <;> omega)
       simp only [List.set_cons_zero, List.set_cons_succ] at H0
       refine Fs.gen H0 ?_
       clear H0
       rintro X4 H0))
  have KS := Lib.hid (fun X (h : Below X4.heap.size X4 X) => Send_any _ n gs _ ls X (HS.out.below ((H0.call h).baseAt 0 rfl)) (HV.out.below ((H0.call h).baseAt 0 rfl)) HL.out hn1)
  have KZ := Lib.hid (fun X (h : Below X4.heap.size X4 X) => rSend_any _ n gs _ ls X (HS.out.below ((H0.call h).baseAt 0 rfl)) (HV.out.below ((H0.call h).baseAt 0 rfl)) HL.out hn1)
  generalize sendS (gs, n) ls = SS at KS KZ
  obtain ⟨S1, S2⟩ := SS
  dsimp only at KS KZ
  have HQ := Lib.hid (show ∀ X, Below X4.heap.size X4 X → Below X4.heap.size X4 X ∧ X.cell? ⟨w.heap.size, 0, none⟩ = some (.slice A0 gs.length c0) ∧ X.cell? ⟨w.heap.size, 1, none⟩ = some (.int .i64 n) ∧ X.cell? ⟨w4.heap.size, 0, none⟩ = some (.slice A15 q15 d15) ∧ X.cell? ⟨w4.heap.size, 1, none⟩ = some (.int .i64 n) ∧ X.cell? ⟨w6.heap.size, 0, none⟩ = some (.slice A18 q18 d18) ∧ X.cell? ⟨w6.heap.size, 1, none⟩ = some (.int .i64 n) ∧ X.cell? ⟨w4.heap.size + 1, 0, none⟩ = some (.int .i64 Tg.to) ∧ X.cell? ⟨w4.heap.size + 1, 1, none⟩ = some (.slice Au Tg.bytes.length cu) ∧ X.cell? ⟨w4.heap.size + 1, 2, none⟩ = some (.bool Tg.harm) ∧ X.cell? ⟨w6.heap.size + 1, 0, none⟩ = some (.int .i64 Tg.to) ∧ X.cell? ⟨w6.heap.size + 1, 1, none⟩ = some (.slice Av9 Tg.bytes.length cv9) ∧ X.cell? ⟨w6.heap.size + 1, 2, none⟩ = some (.bool Tg.harm) from fun X h => ⟨h, ((H0.call h).rowAt 1 rfl).cell 0, ((H0.call h).rowAt 1 rfl).cell 1, ((H0.call h).rowAt 5 rfl).cell 0, ((H0.call h).rowAt 5 rfl).cell 1, ((H0.call h).rowAt 9 rfl).cell 0, ((H0.call h).rowAt 9 rfl).cell 1, ((H0.call h).rowAt 6 rfl).cell 0, ((H0.call h).rowAt 6 rfl).cell 1, ((H0.call h).rowAt 6 rfl).cell 2, ((H0.call h).rowAt 10 rfl).cell 0, ((H0.call h).rowAt 10 rfl).cell 1, ((H0.call h).rowAt 10 rfl).cell 2⟩)
  refine wp_region_held_drew (S := (fun X => Below X4.heap.size X4 X ∧ X.cell? ⟨w.heap.size, 0, none⟩ = some (.slice A0 gs.length c0) ∧ X.cell? ⟨w.heap.size, 1, none⟩ = some (.int .i64 n) ∧ X.cell? ⟨w4.heap.size, 0, none⟩ = some (.slice A15 q15 d15) ∧ X.cell? ⟨w4.heap.size, 1, none⟩ = some (.int .i64 n) ∧ X.cell? ⟨w6.heap.size, 0, none⟩ = some (.slice A18 q18 d18) ∧ X.cell? ⟨w6.heap.size, 1, none⟩ = some (.int .i64 n) ∧ X.cell? ⟨w4.heap.size + 1, 0, none⟩ = some (.int .i64 Tg.to) ∧ X.cell? ⟨w4.heap.size + 1, 1, none⟩ = some (.slice Au Tg.bytes.length cu) ∧ X.cell? ⟨w4.heap.size + 1, 2, none⟩ = some (.bool Tg.harm) ∧ X.cell? ⟨w6.heap.size + 1, 0, none⟩ = some (.int .i64 Tg.to) ∧ X.cell? ⟨w6.heap.size + 1, 1, none⟩ = some (.slice Av9 Tg.bytes.length cv9) ∧ X.cell? ⟨w6.heap.size + 1, 2, none⟩ = some (.bool Tg.harm))) (by kernel_rfl) (by first | exact HQ.out _ (Below.refl _ _).drew | assumption | exact HQ.out _ (by assumption)) (fun hHeld => ?_)
  refine wpAnyH_take (i := 0) (oi := { dst := some 57, op := .load 24 (.tmp 7), type := _, pos := _, after := _, guard := none }) (v := ?_) rfl (by kernel_rfl) (by kernel_rfl) (by kernel_rfl) (fun _ _ _ h => h) (Or.inl ⟨by rfl, ?_⟩) (by assumption) ?_
  rotate_left
  · (intro w hSw; (try dsimp only at hSw); go_simp; try (with_reducible rfl))
  try simp only [Act.put, List.setIfInBounds_toArray, List.set_cons_zero, List.set_cons_succ]
  refine wpAnyH_take (i := 1) (oi := { dst := some 58, op := .move (.tmp 2), type := _, pos := _, after := _, guard := none }) (v := ?_) rfl (by kernel_rfl) (by kernel_rfl) (by kernel_rfl) (fun _ _ _ h => h) (Or.inl ⟨by rfl, ?_⟩) (by assumption) ?_
  rotate_left
  · (intro w hSw; (try dsimp only at hSw); go_simp; try (with_reducible rfl))
  try simp only [Act.put, List.setIfInBounds_toArray, List.set_cons_zero, List.set_cons_succ]
  refine wpAnyH_take (i := 3) (oi := { dst := some 60, op := .load 24 (.tmp 7), type := _, pos := _, after := _, guard := none }) (v := ?_) rfl (by kernel_rfl) (by kernel_rfl) (by kernel_rfl) (fun _ _ _ h => h) (Or.inl ⟨by rfl, ?_⟩) (by assumption) ?_
  rotate_left
  · (intro w hSw; (try dsimp only at hSw); go_simp; try (with_reducible rfl))
  try simp only [Act.put, List.setIfInBounds_toArray, List.set_cons_zero, List.set_cons_succ]
  refine wpAnyH_take (i := 4) (oi := { dst := some 61, op := .move (.tmp 2), type := _, pos := _, after := _, guard := none }) (v := ?_) rfl (by kernel_rfl) (by kernel_rfl) (by kernel_rfl) (fun _ _ _ h => h) (Or.inl ⟨by rfl, ?_⟩) (by assumption) ?_
  rotate_left
  · (intro w hSw; (try dsimp only at hSw); go_simp; try (with_reducible rfl))
  try simp only [Act.put, List.setIfInBounds_toArray, List.set_cons_zero, List.set_cons_succ]
  refine wpAnyH_ready (rs := [2]) (by kernel_rfl) (by simp) ?_
  refine AllReadyH.cons (o := { dst := some 59, op := .call { callee := .value (.func 13), args := #[.tmp 57, .tmp 58], argTypes := #[24, 22] }, type := _, pos := _, after := _, guard := none }) rfl (fun K hK => ?_) AllReadyH.nil
  go_simp
  refine (KS.out _ (by first | exact (Below.refl _ _).drew | assumption)).mono ?_; rintro e y1 ⟨B1, p1, k1, rfl, hm1⟩; have hy1 : Below X4.heap.size X4 y1 := (Below.refl X4.heap.size X4).drew.trans hm1.below; have sv1 := hm1.swG; clear hm1
  refine hK.out _ _ (by first | exact HQ.out _ (Below.refl _ _).drew | assumption | exact HQ.out _ (by assumption)) (fun hHeld => ?_)
  clear hK K
  try simp only [Act.put, List.setIfInBounds_toArray, List.set_cons_zero, List.set_cons_succ]
  refine wpAnyH_ready (rs := [5]) (by kernel_rfl) (by simp) ?_
  refine AllReadyH.cons (o := { dst := some 62, op := .call { callee := .value (.func 14), args := #[.tmp 60, .tmp 61], argTypes := #[24, 22] }, type := _, pos := _, after := _, guard := none }) rfl (fun K hK => ?_) AllReadyH.nil
  go_simp
  refine (KZ.out _ hy1).mono ?_; rintro e y2 ⟨B2, p2, k2, rfl, hm2⟩; have hy2 : Below X4.heap.size X4 y2 := hy1.trans (hm2.below.mono hy1.size); replace sv1 := sv1.below hm2.below; have sv2 := hm2.swG; clear hm2
  refine hK.out _ _ (by first | exact HQ.out _ (Below.refl _ _).drew | assumption | exact HQ.out _ (by assumption)) (fun hHeld => ?_)
  clear hK K
  try simp only [Act.put, List.setIfInBounds_toArray, List.set_cons_zero, List.set_cons_succ]
  refine wpAnyH_ready (rs := [6]) (by kernel_rfl) (by simp) ?_
  refine AllReadyH.cons (o := { dst := some 63, op := .call { callee := .value (.func 12), args := #[.tmp 59, .tmp 62], argTypes := #[24, 24] }, type := _, pos := _, after := _, guard := none }) rfl (fun K hK => ?_) AllReadyH.nil
  go_simp
  refine (rsame_same _ _ _ _ _ sv1 sv2).mono ?_; rintro e y3 ⟨rfl, hz⟩; have hy3 : Below X4.heap.size X4 y3 := hy2.trans (hz.mono hy2.size); clear hz sv1 sv2
  refine hK.out _ _ (by first | exact HQ.out _ (Below.refl _ _).drew | assumption | exact HQ.out _ (by assumption)) (fun hHeld => ?_)
  clear hK K
  try simp only [Act.put, List.setIfInBounds_toArray, List.set_cons_zero, List.set_cons_succ]
  refine wpAnyH_take (i := 7) (oi := { dst := some 64, op := .unOp .not 4 (.tmp 63), type := _, pos := _, after := _, guard := none }) (v := ?_) rfl (by kernel_rfl) (by kernel_rfl) (by kernel_rfl) (fun _ _ _ h => h) (Or.inl ⟨by rfl, ?_⟩) (by assumption) ?_
  rotate_left
  · (intro w hSw; (try dsimp only at hSw); go_simp; try (with_reducible rfl))
  try simp only [Act.put, List.setIfInBounds_toArray, List.set_cons_zero, List.set_cons_succ]
  refine wpAnyH_take (i := 8) (oi := { dst := some 65, op := .move (.tmp 64), type := _, pos := _, after := _, guard := none }) (v := ?_) rfl (by kernel_rfl) (by kernel_rfl) (by kernel_rfl) (fun _ _ _ h => h) (Or.inl ⟨by rfl, ?_⟩) (by assumption) ?_
  rotate_left
  · (intro w hSw; (try dsimp only at hSw); go_simp; try (with_reducible rfl))
  try simp only [Act.put, List.setIfInBounds_toArray, List.set_cons_zero, List.set_cons_succ]
  refine wpAnyH_take (i := 9) (oi := { dst := some 66, op := .load 24 (.tmp 15), type := _, pos := _, after := _, guard := some (8, false) }) (v := ?_) rfl (by kernel_rfl) (by kernel_rfl) (by kernel_rfl) (fun _ _ _ h => h) (Or.inl ⟨by rfl, ?_⟩) (by assumption) ?_
  rotate_left
  · (intro w hSw; (try dsimp only at hSw); go_simp; try (with_reducible rfl))
  try simp only [Act.put, List.setIfInBounds_toArray, List.set_cons_zero, List.set_cons_succ]
  refine wpAnyH_take (i := 10) (oi := { dst := some 67, op := .load 24 (.tmp 18), type := _, pos := _, after := _, guard := some (8, false) }) (v := ?_) rfl (by kernel_rfl) (by kernel_rfl) (by kernel_rfl) (fun _ _ _ h => h) (Or.inl ⟨by rfl, ?_⟩) (by assumption) ?_
  rotate_left
  · (intro w hSw; (try dsimp only at hSw); go_simp; try (with_reducible rfl))
  try simp only [Act.put, List.setIfInBounds_toArray, List.set_cons_zero, List.set_cons_succ]
  refine wpAnyH_ready (rs := [11]) (by kernel_rfl) (by simp) ?_
  refine AllReadyH.cons (o := { dst := some 68, op := .call { callee := .value (.func 12), args := #[.tmp 66, .tmp 67], argTypes := #[24, 24] }, type := _, pos := _, after := _, guard := some (8, false) }) rfl (fun K hK => ?_) AllReadyH.nil
  go_simp
  refine (rsame_same _ _ n T1 _ ((H0.call hy3).ownAt 3 rfl).swG ((H0.call hy3).ownAt 7 rfl).swG).mono ?_; rintro e y4 ⟨rfl, hz⟩; have hy4 : Below X4.heap.size X4 y4 := hy3.trans (hz.mono hy3.size); clear hz
  refine hK.out _ _ (by first | exact HQ.out _ (Below.refl _ _).drew | assumption | exact HQ.out _ (by assumption)) (fun hHeld => ?_)
  clear hK K
  try simp only [Act.put, List.setIfInBounds_toArray, List.set_cons_zero, List.set_cons_succ]
  refine wpAnyH_take (i := 12) (oi := { dst := some 69, op := .unOp .not 4 (.tmp 68), type := _, pos := _, after := _, guard := some (8, false) }) (v := ?_) rfl (by kernel_rfl) (by kernel_rfl) (by kernel_rfl) (fun _ _ _ h => h) (Or.inl ⟨by rfl, ?_⟩) (by assumption) ?_
  rotate_left
  · (intro w hSw; (try dsimp only at hSw); go_simp; try (with_reducible rfl))
  try simp only [Act.put, List.setIfInBounds_toArray, List.set_cons_zero, List.set_cons_succ]
  refine wpAnyH_take (i := 13) (oi := { dst := some 70, op := .pick (.tmp 65) (.const (.bool true)) (.tmp 69), type := _, pos := _, after := _, guard := none }) (v := ?_) rfl (by kernel_rfl) (by kernel_rfl) (by kernel_rfl) (fun _ _ _ h => h) (Or.inl ⟨by rfl, ?_⟩) (by assumption) ?_
  rotate_left
  · (intro w hSw; (try dsimp only at hSw); go_simp; try (with_reducible rfl))
  try simp only [Act.put, List.setIfInBounds_toArray, List.set_cons_zero, List.set_cons_succ]
  refine wpAnyH_take (i := 14) (oi := { dst := some 71, op := .move (.tmp 70), type := _, pos := _, after := _, guard := none }) (v := ?_) rfl (by kernel_rfl) (by kernel_rfl) (by kernel_rfl) (fun _ _ _ h => h) (Or.inl ⟨by rfl, ?_⟩) (by assumption) ?_
  rotate_left
  · (intro w hSw; (try dsimp only at hSw); go_simp; try (with_reducible rfl))
  try simp only [Act.put, List.setIfInBounds_toArray, List.set_cons_zero, List.set_cons_succ]
  refine wpAnyH_take (i := 15) (oi := { dst := some 72, op := .load 29 (.tmp 16), type := _, pos := _, after := _, guard := some (14, false) }) (v := ?_) rfl (by kernel_rfl) (by kernel_rfl) (by kernel_rfl) (fun _ _ _ h => h) (Or.inl ⟨by rfl, ?_⟩) (by assumption) ?_
  rotate_left
  · (intro w hSw; (try dsimp only at hSw); go_simp; try (with_reducible rfl))
  try simp only [Act.put, List.setIfInBounds_toArray, List.set_cons_zero, List.set_cons_succ]
  refine wpAnyH_take (i := 16) (oi := { dst := some 73, op := .load 29 (.tmp 19), type := _, pos := _, after := _, guard := some (14, false) }) (v := ?_) rfl (by kernel_rfl) (by kernel_rfl) (by kernel_rfl) (fun _ _ _ h => h) (Or.inl ⟨by rfl, ?_⟩) (by assumption) ?_
  rotate_left
  · (intro w hSw; (try dsimp only at hSw); go_simp; try (with_reducible rfl))
  try simp only [Act.put, List.setIfInBounds_toArray, List.set_cons_zero, List.set_cons_succ]
  refine wpAnyH_ready (rs := [17]) (by kernel_rfl) (by simp) ?_
  refine AllReadyH.cons (o := { dst := some 74, op := .call { callee := .value (.func 15), args := #[.tmp 72, .tmp 73], argTypes := #[29, 29] }, type := _, pos := _, after := _, guard := some (14, false) }) rfl (fun K hK => ?_) AllReadyH.nil
  go_simp
  refine (rgram_same Tg _ _ _ (.inl (Sl.of_own ((H0.call hy4).bytesAt 4 rfl))) (.inl (Sl.of_own ((H0.call hy4).bytesAt 8 rfl)))).mono ?_; rintro e y5 ⟨rfl, hz⟩; have hy5 : Below X4.heap.size X4 y5 := hy4.trans (hz.mono hy4.size); clear hz
  refine hK.out _ _ (by first | exact HQ.out _ (Below.refl _ _).drew | assumption | exact HQ.out _ (by assumption)) (fun hHeld => ?_)
  clear hK K
  try simp only [Act.put, List.setIfInBounds_toArray, List.set_cons_zero, List.set_cons_succ]
  refine wpAnyH_take (i := 18) (oi := { dst := some 75, op := .unOp .not 4 (.tmp 74), type := _, pos := _, after := _, guard := some (14, false) }) (v := ?_) rfl (by kernel_rfl) (by kernel_rfl) (by kernel_rfl) (fun _ _ _ h => h) (Or.inl ⟨by rfl, ?_⟩) (by assumption) ?_
  rotate_left
  · (intro w hSw; (try dsimp only at hSw); go_simp; try (with_reducible rfl))
  try simp only [Act.put, List.setIfInBounds_toArray, List.set_cons_zero, List.set_cons_succ]
  refine wpAnyH_take (i := 19) (oi := { dst := some 76, op := .pick (.tmp 71) (.const (.bool true)) (.tmp 75), type := _, pos := _, after := _, guard := none }) (v := ?_) rfl (by kernel_rfl) (by kernel_rfl) (by kernel_rfl) (fun _ _ _ h => h) (Or.inl ⟨by rfl, ?_⟩) (by assumption) ?_
  rotate_left
  · (intro w hSw; (try dsimp only at hSw); go_simp; try (with_reducible rfl))
  try simp only [Act.put, List.setIfInBounds_toArray, List.set_cons_zero, List.set_cons_succ]
  refine wpAnyH_take (i := 20) (oi := { dst := some 77, op := .move (.tmp 76), type := _, pos := _, after := _, guard := none }) (v := ?_) rfl (by kernel_rfl) (by kernel_rfl) (by kernel_rfl) (fun _ _ _ h => h) (Or.inl ⟨by rfl, ?_⟩) (by assumption) ?_
  rotate_left
  · (intro w hSw; (try dsimp only at hSw); go_simp; try (with_reducible rfl))
  try simp only [Act.put, List.setIfInBounds_toArray, List.set_cons_zero, List.set_cons_succ]
  refine wpAnyH_take (i := 21) (oi := { dst := some 78, op := .move (.tmp 17), type := _, pos := _, after := _, guard := some (20, false) }) (v := ?_) rfl (by kernel_rfl) (by kernel_rfl) (by kernel_rfl) (fun _ _ _ h => h) (Or.inl ⟨by rfl, ?_⟩) (by assumption) ?_
  rotate_left
  · (intro w hSw; (try dsimp only at hSw); go_simp; try (with_reducible rfl))
  try simp only [Act.put, List.setIfInBounds_toArray, List.set_cons_zero, List.set_cons_succ]
  refine wpAnyH_take (i := 22) (oi := { dst := some 79, op := .move (.tmp 20), type := _, pos := _, after := _, guard := some (20, false) }) (v := ?_) rfl (by kernel_rfl) (by kernel_rfl) (by kernel_rfl) (fun _ _ _ h => h) (Or.inl ⟨by rfl, ?_⟩) (by assumption) ?_
  rotate_left
  · (intro w hSw; (try dsimp only at hSw); go_simp; try (with_reducible rfl))
  try simp only [Act.put, List.setIfInBounds_toArray, List.set_cons_zero, List.set_cons_succ]
  refine wpAnyH_take (i := 23) (oi := { dst := some 80, op := .binOp .neq 4 (.tmp 78) (.tmp 79) 4, type := _, pos := _, after := _, guard := some (20, false) }) (v := ?_) rfl (by kernel_rfl) (by kernel_rfl) (by kernel_rfl) (fun _ _ _ h => h) (Or.inl ⟨by rfl, ?_⟩) (by assumption) ?_
  rotate_left
  · (intro w hSw; (try dsimp only at hSw); go_simp; try (with_reducible rfl))
  try simp only [Act.put, List.setIfInBounds_toArray, List.set_cons_zero, List.set_cons_succ]
  refine wpAnyH_take (i := 24) (oi := { dst := some 81, op := .pick (.tmp 77) (.const (.bool true)) (.tmp 80), type := _, pos := _, after := _, guard := none }) (v := ?_) rfl (by kernel_rfl) (by kernel_rfl) (by kernel_rfl) (fun _ _ _ h => h) (Or.inl ⟨by rfl, ?_⟩) (by assumption) ?_
  rotate_left
  · (intro w hSw; (try dsimp only at hSw); go_simp; try (with_reducible rfl))
  try simp only [Act.put, List.setIfInBounds_toArray, List.set_cons_zero, List.set_cons_succ]
  refine wpAnyH_done (by kernel_rfl) ?_ _

  have hbb : w4.heap.size + 1 < w6.heap.size := by omega
  replace H0 := (H0.call hy5).sub (m := [.base w, .row w.heap.size 24 (bagC (.slice A0 gs.length c0) n), .row (w.heap.size + 1) 24 (bagC (.slice A1 os.length c1) k), .row w4.heap.size 24 (bagC (.slice A15 q15 d15) n), .row w6.heap.size 24 (bagC (.slice A18 q18 d18) n)]) (by simp)
  have HB := Lib.hid (fun X (h : Below X4.heap.size X4 X) => h)
  clear HB HQ KS KZ
  obtain ⟨⟨D1, D2, D3⟩, hD⟩ : ∃ T, dropS gs n i = T := ⟨_, rfl⟩
  have K1 := Lib.hid (fun W (h : SwG W (.slice A0 gs.length c0) gs) => Drop_any _ n gs i W h HL.out hn1)
  have K2 := Lib.hid (fun W (h : SwG W (.slice A0 gs.length c0) gs) => rDrop_any _ n gs i W h HL.out hn1)
  rw [hD] at K1 K2
  dsimp only at K1 K2
  clear hD
  have hx1 := (H0.rowAt 4 rfl).lt
  go_wp2_with (first
    | (with_reducible show wpList _ _ _ (Oper.mk _ (Op.load 24 (.tmp 7)) _ _ _ _ :: _) _ _
       refine wpList_loadW (H0.rowAt 1 rfl) aggB rfl _ rfl rfl ?_))
  refine (K1.out _ (HS.out.below (H0.baseAt 0 rfl))).mono ?_; rintro e x1 ⟨E1, p1, k1, rfl, hm⟩
  replace H0 := (H0.call hm.below).snoc (.own (fun k => y5.heap.size ≤ k) 29 _ _) hm.ownP
  simp only [List.nil_append, List.cons_append] at H0
  clear hm
  go_wp2_with (first
    | (with_reducible show wpList _ _ _ (Oper.mk _ (Op.load 24 (.tmp 7)) _ _ _ _ :: _) _ _
       refine wpList_loadW (H0.rowAt 1 rfl) aggB rfl _ rfl rfl ?_)
    | (with_reducible show wpList _ _ _ (Oper.mk _ (Op.store 24 (.tmp 15) _) _ _ _ _ :: _) _ _
       refine wpList_storeR (c := bagC (.slice E1 p1 k1) D2) rfl _ _ rfl rfl rfl aggB.hi (H0.rowAt 3 rfl) rfl (bag_one _ _ _ _) ?_
       replace H0 := H0.setRow 3 rfl (bagC (.slice E1 p1 k1) D2) (by simp [aparts, F.row_fp, F.base_fp, F.own_fp, F.bytes_fp, -Nat.not_le, -Nat.not_lt] <;> omega)
       simp only [List.set_cons_zero, List.set_cons_succ] at H0
       refine Fs.gen H0 ?_
       clear H0
       rintro X10 H0))
  have hx2 := (H0.rowAt 4 rfl).lt
  refine (K2.out _ (HS.out.below (H0.baseAt 0 rfl))).mono ?_; rintro e x2 ⟨G1, r1, l1, rfl, hm⟩
  replace H0 := (H0.call hm.below).snoc (.own (fun k => X10.heap.size ≤ k) 29 _ _) hm.ownP
  simp only [List.nil_append, List.cons_append] at H0
  clear hm
  go_wp2_with (first
    | (with_reducible show wpList _ _ _ (Oper.mk _ (Op.store 24 (.tmp 18) _) _ _ _ _ :: _) _ _
       refine wpList_storeR (c := bagC (.slice G1 r1 l1) D2) rfl _ _ rfl rfl rfl aggB.hi (H0.rowAt 4 rfl) rfl (bag_one _ _ _ _) ?_
       replace H0 := H0.setRow 4 rfl (bagC (.slice G1 r1 l1) D2) (by simp [aparts, F.row_fp, F.base_fp, F.own_fp, F.bytes_fp, -Nat.not_le, -Nat.not_lt] <;> omega)
       simp only [List.set_cons_zero, List.set_cons_succ] at H0
       refine Fs.gen H0 ?_
       clear H0
       rintro X11 H0)
    | (with_reducible show wpList _ _ _ (Oper.mk _ (Op.load 24 (.tmp 15)) _ _ _ _ :: _) _ _
       refine wpList_loadW (H0.rowAt 3 rfl) aggB rfl _ rfl rfl ?_)
    | (with_reducible show wpList _ _ _ (Oper.mk _ (Op.load 24 (.tmp 18)) _ _ _ _ :: _) _ _
       refine wpList_loadW (H0.rowAt 4 rfl) aggB rfl _ rfl rfl ?_))
  refine (rsame_same _ _ _ _ _ (H0.ownAt 5 rfl).swG (H0.ownAt 6 rfl).swG).mono ?_; rintro e Y1 ⟨rfl, hz⟩
  replace H0 := (H0.call hz).sub (m := [.base w, .row w.heap.size 24 (bagC (.slice A0 gs.length c0) n), .row (w.heap.size + 1) 24 (bagC (.slice A1 os.length c1) k), .row w4.heap.size 24 (bagC (.slice E1 p1 k1) D2), .row w6.heap.size 24 (bagC (.slice G1 r1 l1) D2)]) (by simp)
  clear hz x1 x2 hx1 hx2 K1 K2
  obtain ⟨⟨U1, U2, U3⟩, hU⟩ : ∃ T, twiceS gs n i = T := ⟨_, rfl⟩
  have K1 := Lib.hid (fun W (h : SwG W (.slice A0 gs.length c0) gs) => Twice_any _ n gs i W h HL.out hn1)
  have K2 := Lib.hid (fun W (h : SwG W (.slice A0 gs.length c0) gs) => rTwice_any _ n gs i W h HL.out hn1)
  rw [hU] at K1 K2
  dsimp only at K1 K2
  clear hU
  have hx1 := (H0.rowAt 4 rfl).lt
  go_wp2_with (first
    | (with_reducible show wpList _ _ _ (Oper.mk _ (Op.load 24 (.tmp 7)) _ _ _ _ :: _) _ _
       refine wpList_loadW (H0.rowAt 1 rfl) aggB rfl _ rfl rfl ?_))
  refine (K1.out _ (HS.out.below (H0.baseAt 0 rfl))).mono ?_; rintro e x1 ⟨E2, p2, k2, rfl, hm⟩
  replace H0 := (H0.call hm.below).snoc (.own (fun k => Y1.heap.size ≤ k) 29 _ _) hm.ownP
  simp only [List.nil_append, List.cons_append] at H0
  clear hm
  go_wp2_with (first
    | (with_reducible show wpList _ _ _ (Oper.mk _ (Op.load 24 (.tmp 7)) _ _ _ _ :: _) _ _
       refine wpList_loadW (H0.rowAt 1 rfl) aggB rfl _ rfl rfl ?_)
    | (with_reducible show wpList _ _ _ (Oper.mk _ (Op.store 24 (.tmp 15) _) _ _ _ _ :: _) _ _
       refine wpList_storeR (c := bagC (.slice E2 p2 k2) U2) rfl _ _ rfl rfl rfl aggB.hi (H0.rowAt 3 rfl) rfl (bag_one _ _ _ _) ?_
       replace H0 := H0.setRow 3 rfl (bagC (.slice E2 p2 k2) U2) (by simp [aparts, F.row_fp, F.base_fp, F.own_fp, F.bytes_fp, -Nat.not_le, -Nat.not_lt] <;> omega)
       simp only [List.set_cons_zero, List.set_cons_succ] at H0
       refine Fs.gen H0 ?_
       clear H0
       rintro X20 H0))
  have hx2 := (H0.rowAt 4 rfl).lt
  refine (K2.out _ (HS.out.below (H0.baseAt 0 rfl))).mono ?_; rintro e x2 ⟨G2, r2, l2, rfl, hm⟩
  replace H0 := (H0.call hm.below).snoc (.own (fun k => X20.heap.size ≤ k) 29 _ _) hm.ownP
  simp only [List.nil_append, List.cons_append] at H0
  clear hm
  go_wp2_with (first
    | (with_reducible show wpList _ _ _ (Oper.mk _ (Op.store 24 (.tmp 18) _) _ _ _ _ :: _) _ _
       refine wpList_storeR (c := bagC (.slice G2 r2 l2) U2) rfl _ _ rfl rfl rfl aggB.hi (H0.rowAt 4 rfl) rfl (bag_one _ _ _ _) ?_
       replace H0 := H0.setRow 4 rfl (bagC (.slice G2 r2 l2) U2) (by simp [aparts, F.row_fp, F.base_fp, F.own_fp, F.bytes_fp, -Nat.not_le, -Nat.not_lt] <;> omega)
       simp only [List.set_cons_zero, List.set_cons_succ] at H0
       refine Fs.gen H0 ?_
       clear H0
       rintro X21 H0)
    | (with_reducible show wpList _ _ _ (Oper.mk _ (Op.load 24 (.tmp 15)) _ _ _ _ :: _) _ _
       refine wpList_loadW (H0.rowAt 3 rfl) aggB rfl _ rfl rfl ?_)
    | (with_reducible show wpList _ _ _ (Oper.mk _ (Op.load 24 (.tmp 18)) _ _ _ _ :: _) _ _
       refine wpList_loadW (H0.rowAt 4 rfl) aggB rfl _ rfl rfl ?_))
  refine (rsame_same _ _ _ _ _ (H0.ownAt 5 rfl).swG (H0.ownAt 6 rfl).swG).mono ?_; rintro e Y2 ⟨rfl, hz⟩
  replace H0 := (H0.call hz).sub (m := [.base w, .row w.heap.size 24 (bagC (.slice A0 gs.length c0) n), .row (w.heap.size + 1) 24 (bagC (.slice A1 os.length c1) k), .row w4.heap.size 24 (bagC (.slice E2 p2 k2) U2), .row w6.heap.size 24 (bagC (.slice G2 r2 l2) U2)]) (by simp)
  clear hz x1 x2 hx1 hx2 K1 K2
  obtain ⟨⟨M1, M2, M3⟩, hM⟩ : ∃ T, harmT gs n i j z = T := ⟨_, rfl⟩
  have K1 := Lib.hid (fun W (h : SwG W (.slice A0 gs.length c0) gs) => Harm_any _ n gs i j z W h HL.out hn1)
  have K2 := Lib.hid (fun W (h : SwG W (.slice A0 gs.length c0) gs) => rHarm_any _ n gs i j z W h HL.out hn1)
  rw [hM] at K1 K2
  dsimp only at K1 K2
  clear hM
  have hx1 := (H0.rowAt 4 rfl).lt
  go_wp2_with (first
    | (with_reducible show wpList _ _ _ (Oper.mk _ (Op.load 24 (.tmp 7)) _ _ _ _ :: _) _ _
       refine wpList_loadW (H0.rowAt 1 rfl) aggB rfl _ rfl rfl ?_))
  refine (K1.out _ (HS.out.below (H0.baseAt 0 rfl))).mono ?_; rintro e x1 ⟨E3, p3, k3, rfl, hm⟩
  replace H0 := (H0.call hm.below).snoc (.own (fun k => Y2.heap.size ≤ k) 29 _ _) hm.ownP
  simp only [List.nil_append, List.cons_append] at H0
  clear hm
  go_wp2_with (first
    | (with_reducible show wpList _ _ _ (Oper.mk _ (Op.load 24 (.tmp 7)) _ _ _ _ :: _) _ _
       refine wpList_loadW (H0.rowAt 1 rfl) aggB rfl _ rfl rfl ?_)
    | (with_reducible show wpList _ _ _ (Oper.mk _ (Op.store 24 (.tmp 15) _) _ _ _ _ :: _) _ _
       refine wpList_storeR (c := bagC (.slice E3 p3 k3) M2) rfl _ _ rfl rfl rfl aggB.hi (H0.rowAt 3 rfl) rfl (bag_one _ _ _ _) ?_
       replace H0 := H0.setRow 3 rfl (bagC (.slice E3 p3 k3) M2) (by simp [aparts, F.row_fp, F.base_fp, F.own_fp, F.bytes_fp, -Nat.not_le, -Nat.not_lt] <;> omega)
       simp only [List.set_cons_zero, List.set_cons_succ] at H0
       refine Fs.gen H0 ?_
       clear H0
       rintro X30 H0))
  have hx2 := (H0.rowAt 4 rfl).lt
  refine (K2.out _ (HS.out.below (H0.baseAt 0 rfl))).mono ?_; rintro e x2 ⟨G3, r3, l3, rfl, hm⟩
  replace H0 := (H0.call hm.below).snoc (.own (fun k => X30.heap.size ≤ k) 29 _ _) hm.ownP
  simp only [List.nil_append, List.cons_append] at H0
  clear hm
  go_wp2_with (first
    | (with_reducible show wpList _ _ _ (Oper.mk _ (Op.store 24 (.tmp 18) _) _ _ _ _ :: _) _ _
       refine wpList_storeR (c := bagC (.slice G3 r3 l3) M2) rfl _ _ rfl rfl rfl aggB.hi (H0.rowAt 4 rfl) rfl (bag_one _ _ _ _) ?_
       replace H0 := H0.setRow 4 rfl (bagC (.slice G3 r3 l3) M2) (by simp [aparts, F.row_fp, F.base_fp, F.own_fp, F.bytes_fp, -Nat.not_le, -Nat.not_lt] <;> omega)
       simp only [List.set_cons_zero, List.set_cons_succ] at H0
       refine Fs.gen H0 ?_
       clear H0
       rintro X31 H0))
  clear K1 K2 hx1 hx2
  have KS := Lib.hid (fun X (h : Below X31.heap.size X31 X) => For_any (.slice A0 gs.length c0) n gs to X (HS.out.below ((H0.call h).baseAt 0 rfl)) hn1)
  have KZ := Lib.hid (fun X (h : Below X31.heap.size X31 X) => rFor_any (.slice A0 gs.length c0) n gs to X (HS.out.below ((H0.call h).baseAt 0 rfl)) hn1)
  have hLK : (forK gs to gs.length).length ≤ 1000 := by have := forK_len gs to gs.length; omega
  generalize forK gs to gs.length = LK at *
  have HQ := Lib.hid (show ∀ X, Below X31.heap.size X31 X → Below X31.heap.size X31 X ∧ X.cell? ⟨w.heap.size, 0, none⟩ = some (.slice A0 gs.length c0) ∧ X.cell? ⟨w.heap.size, 1, none⟩ = some (.int .i64 n) from fun X h => ⟨h, ((H0.call h).rowAt 1 rfl).cell 0, ((H0.call h).rowAt 1 rfl).cell 1⟩)
  refine wp_region_held_drew (S := (fun X => Below X31.heap.size X31 X ∧ X.cell? ⟨w.heap.size, 0, none⟩ = some (.slice A0 gs.length c0) ∧ X.cell? ⟨w.heap.size, 1, none⟩ = some (.int .i64 n))) (by kernel_rfl) (by first | exact HQ.out _ (Below.refl _ _).drew | assumption | exact HQ.out _ (by assumption)) (fun hHeld => ?_)
  refine wpAnyH_take (i := 0) (oi := { dst := some 140, op := .load 24 (.tmp 7), type := _, pos := _, after := _, guard := none }) (v := ?_) rfl (by kernel_rfl) (by kernel_rfl) (by kernel_rfl) (fun _ _ _ h => h) (Or.inl ⟨by rfl, ?_⟩) (by assumption) ?_
  rotate_left
  · (intro w hSw; (try dsimp only at hSw); go_simp; try (with_reducible rfl))
  try simp only [Act.put, List.setIfInBounds_toArray, List.set_cons_zero, List.set_cons_succ]
  refine wpAnyH_take (i := 1) (oi := { dst := some 141, op := .move (.tmp 6), type := _, pos := _, after := _, guard := none }) (v := ?_) rfl (by kernel_rfl) (by kernel_rfl) (by kernel_rfl) (fun _ _ _ h => h) (Or.inl ⟨by rfl, ?_⟩) (by assumption) ?_
  rotate_left
  · (intro w hSw; (try dsimp only at hSw); go_simp; try (with_reducible rfl))
  try simp only [Act.put, List.setIfInBounds_toArray, List.set_cons_zero, List.set_cons_succ]
  refine wpAnyH_take (i := 3) (oi := { dst := some 143, op := .load 24 (.tmp 7), type := _, pos := _, after := _, guard := none }) (v := ?_) rfl (by kernel_rfl) (by kernel_rfl) (by kernel_rfl) (fun _ _ _ h => h) (Or.inl ⟨by rfl, ?_⟩) (by assumption) ?_
  rotate_left
  · (intro w hSw; (try dsimp only at hSw); go_simp; try (with_reducible rfl))
  try simp only [Act.put, List.setIfInBounds_toArray, List.set_cons_zero, List.set_cons_succ]
  refine wpAnyH_take (i := 4) (oi := { dst := some 144, op := .move (.tmp 6), type := _, pos := _, after := _, guard := none }) (v := ?_) rfl (by kernel_rfl) (by kernel_rfl) (by kernel_rfl) (fun _ _ _ h => h) (Or.inl ⟨by rfl, ?_⟩) (by assumption) ?_
  rotate_left
  · (intro w hSw; (try dsimp only at hSw); go_simp; try (with_reducible rfl))
  try simp only [Act.put, List.setIfInBounds_toArray, List.set_cons_zero, List.set_cons_succ]
  refine wpAnyH_ready (rs := [2]) (by kernel_rfl) (by simp) ?_
  refine AllReadyH.cons (o := { dst := some 142, op := .call { callee := .value (.func 22), args := #[.tmp 140, .tmp 141], argTypes := #[24, 3] }, type := _, pos := _, after := _, guard := none }) rfl (fun K hK => ?_) AllReadyH.nil
  go_simp
  refine (KS.out _ (by first | exact (Below.refl _ _).drew | assumption)).mono ?_; rintro e f1 ⟨v1, rfl, hm1⟩; have hf1 : Below X31.heap.size X31 f1 := (Below.refl X31.heap.size X31).drew.trans hm1.below; have sv1 := hm1.sl; obtain ⟨V1, cV1, rfl⟩ := sv1.form; clear hm1
  refine hK.out _ _ (by first | exact HQ.out _ (Below.refl _ _).drew | assumption | exact HQ.out _ (by assumption)) (fun hHeld => ?_)
  clear hK K
  try simp only [Act.put, List.setIfInBounds_toArray, List.set_cons_zero, List.set_cons_succ]
  refine wpAnyH_ready (rs := [5]) (by kernel_rfl) (by simp) ?_
  refine AllReadyH.cons (o := { dst := some 145, op := .call { callee := .value (.func 23), args := #[.tmp 143, .tmp 144], argTypes := #[24, 3] }, type := _, pos := _, after := _, guard := none }) rfl (fun K hK => ?_) AllReadyH.nil
  go_simp
  refine (KZ.out _ hf1).mono ?_; rintro e f2 ⟨v2, rfl, hm2⟩; have hf2 : Below X31.heap.size X31 f2 := hf1.trans (hm2.below.mono hf1.size); replace sv1 := sv1.below hm2.below; have sv2 := hm2.sl; obtain ⟨V2, cV2, rfl⟩ := sv2.form; clear hm2
  refine hK.out _ _ (by first | exact HQ.out _ (Below.refl _ _).drew | assumption | exact HQ.out _ (by assumption)) (fun hHeld => ?_)
  clear hK K
  try simp only [Act.put, List.setIfInBounds_toArray, List.set_cons_zero, List.set_cons_succ]
  refine wpAnyH_take (i := 6) (oi := { dst := some 23, op := .assign (.tmp 142), type := _, pos := _, after := _, guard := none }) (v := ?_) rfl (by kernel_rfl) (by kernel_rfl) (by kernel_rfl) (fun _ _ _ h => h) (Or.inl ⟨by rfl, ?_⟩) (by assumption) ?_
  rotate_left
  · (intro w hSw; (try dsimp only at hSw); go_simp; try (with_reducible rfl))
  try simp only [Act.put, List.setIfInBounds_toArray, List.set_cons_zero, List.set_cons_succ]
  refine wpAnyH_take (i := 7) (oi := { dst := some 24, op := .assign (.tmp 145), type := _, pos := _, after := _, guard := none }) (v := ?_) rfl (by kernel_rfl) (by kernel_rfl) (by kernel_rfl) (fun _ _ _ h => h) (Or.inl ⟨by rfl, ?_⟩) (by assumption) ?_
  rotate_left
  · (intro w hSw; (try dsimp only at hSw); go_simp; try (with_reducible rfl))
  try simp only [Act.put, List.setIfInBounds_toArray, List.set_cons_zero, List.set_cons_succ]
  refine wpAnyH_done (by kernel_rfl) ?_ _

  rw [iv_length] at sv1 sv2 ⊢
  replace H0 := H0.call hf2
  clear KS KZ HQ hf1
  go_wp2_with (first
    | (with_reducible show wpList _ _ _ (Oper.mk _ (Op.load 24 (.tmp 15)) _ _ _ _ :: _) _ _
       refine wpList_loadW (H0.rowAt 3 rfl) aggB rfl _ rfl rfl ?_)
    | (with_reducible show wpList _ _ _ (Oper.mk _ (Op.load 24 (.tmp 18)) _ _ _ _ :: _) _ _
       refine wpList_loadW (H0.rowAt 4 rfl) aggB rfl _ rfl rfl ?_))
  refine (rsame_same _ _ _ _ _ (H0.ownAt 5 rfl).swG (H0.ownAt 6 rfl).swG).mono ?_; rintro e Y3 ⟨rfl, hz⟩
  replace H0 := (H0.call hz).sub (m := [.base w, .row w.heap.size 24 (bagC (.slice A0 gs.length c0) n), .row (w.heap.size + 1) 24 (bagC (.slice A1 os.length c1) k)]) (by simp)
  have SV1 := Lib.hid (sv1.below hz)
  have SV2 := Lib.hid (sv2.below hz)
  clear hz sv1 sv2 hf2
  go_wp2_with fail
  go_loopw [25] (fun i W => ∃ m : Nat, m ≤ LK.length ∧ i = .int .i64 (m : Int) ∧ Below Y3.heap.size Y3 W) (fun i _ => LK.length - (intOf i).toNat)
  case atStart => exact ⟨0, Nat.zero_le _, rfl, Below.refl _ _⟩
  case round =>
    obtain ⟨m, hm, rfl, hW⟩ := hrel
    by_cases hml : m < LK.length
    · obtain ⟨b1, o1, rfl⟩ := SV1.out.some_ (by omega)
      obtain ⟨b2, o2, rfl⟩ := SV2.out.some_ (by omega)
      have x1 := (SV1.out.below hW).parts.2.2.2.2 m _ (iv_get LK m hml)
      have x2 := (SV2.out.below hW).parts.2.2.2.2 m _ (iv_get LK m hml)
      generalize LK[m] = q at *
      have e1 : (q != q) = false := by simp
      have HW := Lib.hid hW
      have i0 : (0 : Int) ≤ (m : Int) := by omega
      have i1 : (m : Int) < (LK.length : Int) := by omega
      have HQ := Lib.hid (show ∀ X, Below wr.heap.size wr X → Below wr.heap.size wr X ∧ X.cell? ⟨b1, o1 + m, none⟩ = some (.int .i64 q) ∧ X.cell? ⟨b2, o2 + m, none⟩ = some (.int .i64 q) from fun X h => ⟨h, (Below.cell h (p := ⟨b1, o1 + m, none⟩) (cell_lt x1)).trans x1, (Below.cell h (p := ⟨b2, o2 + m, none⟩) (cell_lt x2)).trans x2⟩)
      clear hW H0
      go_wp2_with fail
      refine wp_region_held_drew (S := (fun X => Below wr.heap.size wr X ∧ X.cell? ⟨b1, o1 + m, none⟩ = some (.int .i64 q) ∧ X.cell? ⟨b2, o2 + m, none⟩ = some (.int .i64 q))) (by kernel_rfl) (by first | exact HQ.out _ (Below.refl _ _).drew | assumption | exact HQ.out _ (by assumption)) (fun hHeld => ?_)
      refine wpAnyH_take (i := 0) (oi := { dst := some 168, op := .move (.tmp 23), type := _, pos := _, after := _, guard := none }) (v := ?_) rfl (by kernel_rfl) (by kernel_rfl) (by kernel_rfl) (fun _ _ _ h => h) (Or.inl ⟨by rfl, ?_⟩) (by assumption) ?_
      rotate_left
      · (intro w hSw; (try dsimp only at hSw); go_simp; try (with_reducible rfl))
      try simp only [Act.put, List.setIfInBounds_toArray, List.set_cons_zero, List.set_cons_succ]
      refine wpAnyH_take (i := 1) (oi := { dst := some 169, op := .move (.tmp 25), type := _, pos := _, after := _, guard := none }) (v := ?_) rfl (by kernel_rfl) (by kernel_rfl) (by kernel_rfl) (fun _ _ _ h => h) (Or.inl ⟨by rfl, ?_⟩) (by assumption) ?_
      rotate_left
      · (intro w hSw; (try dsimp only at hSw); go_simp; try (with_reducible rfl))
      try simp only [Act.put, List.setIfInBounds_toArray, List.set_cons_zero, List.set_cons_succ]
      refine wpAnyH_take (i := 2) (oi := { dst := some 170, op := .indexAddr 39 (.tmp 168) (.tmp 169), type := _, pos := _, after := _, guard := none }) (v := ?_) rfl (by kernel_rfl) (by kernel_rfl) (by kernel_rfl) (fun _ _ _ h => h) (Or.inl ⟨by rfl, ?_⟩) (by assumption) ?_
      rotate_left
      · (intro w hSw; (try dsimp only at hSw); go_simp; try (with_reducible rfl))
      try simp only [Act.put, List.setIfInBounds_toArray, List.set_cons_zero, List.set_cons_succ]
      refine wpAnyH_take (i := 3) (oi := { dst := some 171, op := .load 3 (.tmp 170), type := _, pos := _, after := _, guard := none }) (v := ?_) rfl (by kernel_rfl) (by kernel_rfl) (by kernel_rfl) (fun _ _ _ h => h) (Or.inl ⟨by rfl, ?_⟩) (by assumption) ?_
      rotate_left
      · (intro w hSw; (try dsimp only at hSw); go_simp; try (with_reducible rfl))
      try simp only [Act.put, List.setIfInBounds_toArray, List.set_cons_zero, List.set_cons_succ]
      refine wpAnyH_take (i := 4) (oi := { dst := some 172, op := .move (.tmp 24), type := _, pos := _, after := _, guard := none }) (v := ?_) rfl (by kernel_rfl) (by kernel_rfl) (by kernel_rfl) (fun _ _ _ h => h) (Or.inl ⟨by rfl, ?_⟩) (by assumption) ?_
      rotate_left
      · (intro w hSw; (try dsimp only at hSw); go_simp; try (with_reducible rfl))
      try simp only [Act.put, List.setIfInBounds_toArray, List.set_cons_zero, List.set_cons_succ]
      refine wpAnyH_take (i := 5) (oi := { dst := some 173, op := .move (.tmp 25), type := _, pos := _, after := _, guard := none }) (v := ?_) rfl (by kernel_rfl) (by kernel_rfl) (by kernel_rfl) (fun _ _ _ h => h) (Or.inl ⟨by rfl, ?_⟩) (by assumption) ?_
      rotate_left
      · (intro w hSw; (try dsimp only at hSw); go_simp; try (with_reducible rfl))
      try simp only [Act.put, List.setIfInBounds_toArray, List.set_cons_zero, List.set_cons_succ]
      refine wpAnyH_take (i := 6) (oi := { dst := some 174, op := .indexAddr 39 (.tmp 172) (.tmp 173), type := _, pos := _, after := _, guard := none }) (v := ?_) rfl (by kernel_rfl) (by kernel_rfl) (by kernel_rfl) (fun _ _ _ h => h) (Or.inl ⟨by rfl, ?_⟩) (by assumption) ?_
      rotate_left
      · (intro w hSw; (try dsimp only at hSw); go_simp; try (with_reducible rfl))
      try simp only [Act.put, List.setIfInBounds_toArray, List.set_cons_zero, List.set_cons_succ]
      refine wpAnyH_take (i := 7) (oi := { dst := some 175, op := .load 3 (.tmp 174), type := _, pos := _, after := _, guard := none }) (v := ?_) rfl (by kernel_rfl) (by kernel_rfl) (by kernel_rfl) (fun _ _ _ h => h) (Or.inl ⟨by rfl, ?_⟩) (by assumption) ?_
      rotate_left
      · (intro w hSw; (try dsimp only at hSw); go_simp; try (with_reducible rfl))
      try simp only [Act.put, List.setIfInBounds_toArray, List.set_cons_zero, List.set_cons_succ]
      refine wpAnyH_take (i := 8) (oi := { dst := some 176, op := .binOp .neq 3 (.tmp 171) (.tmp 175) 3, type := _, pos := _, after := _, guard := none }) (v := ?_) rfl (by kernel_rfl) (by kernel_rfl) (by kernel_rfl) (fun _ _ _ h => h) (Or.inl ⟨by rfl, ?_⟩) (by assumption) ?_
      rotate_left
      · (intro w hSw; (try dsimp only at hSw); go_simp; try (with_reducible rfl))
      try simp only [Act.put, List.setIfInBounds_toArray, List.set_cons_zero, List.set_cons_succ]
      refine wpAnyH_done (by kernel_rfl) ?_ _

      go_wp2
      go_roundw
      case rel => exact ⟨m + 1, by omega, by go_num, HW.out.drew⟩
      case measure => simp [intOf]; omega
    · obtain rfl : m = LK.length := by omega
      replace H0 := H0.call hW
      clear hW SV1 SV2
      go_wp2_with fail
      obtain ⟨bb, hbb⟩ : ∃ bb, decide (n = k ∧ gs = os) = bb := ⟨_, rfl⟩
      have K1 := Lib.hid (fun X (h : Below wr.heap.size wr X) => Same_any (.slice A0 gs.length c0) (.slice A1 os.length c1) n k gs os X (HS.out.below ((H0.call h).baseAt 0 rfl)) (HT.out.below ((H0.call h).baseAt 0 rfl)))
      have K2 := Lib.hid (fun X (h : Below wr.heap.size wr X) => rsame_any (.slice A0 gs.length c0) (.slice A1 os.length c1) n k gs os X (HS.out.below ((H0.call h).baseAt 0 rfl)) (HT.out.below ((H0.call h).baseAt 0 rfl)))
      have K3 := Lib.hid (fun X (h : Below wr.heap.size wr X) => Own_any (.slice A0 gs.length c0) n gs X (HS.out.below ((H0.call h).baseAt 0 rfl)) HL.out hn1)
      rw [hbb] at K1 K2
      clear hbb
      have HQ := Lib.hid (show ∀ X, Below wr.heap.size wr X → Below wr.heap.size wr X ∧ X.cell? ⟨w.heap.size, 0, none⟩ = some (.slice A0 gs.length c0) ∧ X.cell? ⟨w.heap.size, 1, none⟩ = some (.int .i64 n) ∧ X.cell? ⟨w.heap.size + 1, 0, none⟩ = some (.slice A1 os.length c1) ∧ X.cell? ⟨w.heap.size + 1, 1, none⟩ = some (.int .i64 k) from fun X h => ⟨h, ((H0.call h).rowAt 1 rfl).cell 0, ((H0.call h).rowAt 1 rfl).cell 1, ((H0.call h).rowAt 2 rfl).cell 0, ((H0.call h).rowAt 2 rfl).cell 1⟩)
      refine wp_region_held_drew (S := (fun X => Below wr.heap.size wr X ∧ X.cell? ⟨w.heap.size, 0, none⟩ = some (.slice A0 gs.length c0) ∧ X.cell? ⟨w.heap.size, 1, none⟩ = some (.int .i64 n) ∧ X.cell? ⟨w.heap.size + 1, 0, none⟩ = some (.slice A1 os.length c1) ∧ X.cell? ⟨w.heap.size + 1, 1, none⟩ = some (.int .i64 k))) (by kernel_rfl) (by first | exact HQ.out _ (Below.refl _ _).drew | assumption | exact HQ.out _ (by assumption)) (fun hHeld => ?_)
      refine wpAnyH_take (i := 0) (oi := { dst := some 177, op := .load 24 (.tmp 7), type := _, pos := _, after := _, guard := none }) (v := ?_) rfl (by kernel_rfl) (by kernel_rfl) (by kernel_rfl) (fun _ _ _ h => h) (Or.inl ⟨by rfl, ?_⟩) (by assumption) ?_
      rotate_left
      · (intro w hSw; (try dsimp only at hSw); go_simp; try (with_reducible rfl))
      try simp only [Act.put, List.setIfInBounds_toArray, List.set_cons_zero, List.set_cons_succ]
      refine wpAnyH_take (i := 1) (oi := { dst := some 178, op := .load 24 (.tmp 8), type := _, pos := _, after := _, guard := none }) (v := ?_) rfl (by kernel_rfl) (by kernel_rfl) (by kernel_rfl) (fun _ _ _ h => h) (Or.inl ⟨by rfl, ?_⟩) (by assumption) ?_
      rotate_left
      · (intro w hSw; (try dsimp only at hSw); go_simp; try (with_reducible rfl))
      try simp only [Act.put, List.setIfInBounds_toArray, List.set_cons_zero, List.set_cons_succ]
      refine wpAnyH_take (i := 3) (oi := { dst := some 180, op := .load 24 (.tmp 7), type := _, pos := _, after := _, guard := none }) (v := ?_) rfl (by kernel_rfl) (by kernel_rfl) (by kernel_rfl) (fun _ _ _ h => h) (Or.inl ⟨by rfl, ?_⟩) (by assumption) ?_
      rotate_left
      · (intro w hSw; (try dsimp only at hSw); go_simp; try (with_reducible rfl))
      try simp only [Act.put, List.setIfInBounds_toArray, List.set_cons_zero, List.set_cons_succ]
      refine wpAnyH_take (i := 4) (oi := { dst := some 181, op := .load 24 (.tmp 8), type := _, pos := _, after := _, guard := none }) (v := ?_) rfl (by kernel_rfl) (by kernel_rfl) (by kernel_rfl) (fun _ _ _ h => h) (Or.inl ⟨by rfl, ?_⟩) (by assumption) ?_
      rotate_left
      · (intro w hSw; (try dsimp only at hSw); go_simp; try (with_reducible rfl))
      try simp only [Act.put, List.setIfInBounds_toArray, List.set_cons_zero, List.set_cons_succ]
      refine wpAnyH_ready (rs := [2]) (by kernel_rfl) (by simp) ?_
      refine AllReadyH.cons (o := { dst := some 179, op := .call { callee := .value (.func 24), args := #[.tmp 177, .tmp 178], argTypes := #[24, 24] }, type := _, pos := _, after := _, guard := none }) rfl (fun K hK => ?_) AllReadyH.nil
      go_simp
      refine (K1.out _ (by first | exact (Below.refl _ _).drew | assumption)).mono ?_; rintro e y1 ⟨rfl, hz⟩; have hy1 : Below wr.heap.size wr y1 := (Below.refl wr.heap.size wr).drew.trans hz; clear hz
      refine hK.out _ _ (by first | exact HQ.out _ (Below.refl _ _).drew | assumption | exact HQ.out _ (by assumption)) (fun hHeld => ?_)
      clear hK K
      try simp only [Act.put, List.setIfInBounds_toArray, List.set_cons_zero, List.set_cons_succ]
      refine wpAnyH_ready (rs := [5]) (by kernel_rfl) (by simp) ?_
      refine AllReadyH.cons (o := { dst := some 182, op := .call { callee := .value (.func 12), args := #[.tmp 180, .tmp 181], argTypes := #[24, 24] }, type := _, pos := _, after := _, guard := none }) rfl (fun K hK => ?_) AllReadyH.nil
      go_simp
      refine (K2.out _ hy1).mono ?_; rintro e y2 ⟨rfl, hz⟩; have hy2 : Below wr.heap.size wr y2 := hy1.trans (hz.mono hy1.size); clear hz
      refine hK.out _ _ (by first | exact HQ.out _ (Below.refl _ _).drew | assumption | exact HQ.out _ (by assumption)) (fun hHeld => ?_)
      clear hK K
      try simp only [Act.put, List.setIfInBounds_toArray, List.set_cons_zero, List.set_cons_succ]
      refine wpAnyH_take (i := 6) (oi := { dst := some 183, op := .binOp .eql 4 (.tmp 179) (.tmp 182) 4, type := _, pos := _, after := _, guard := none }) (v := ?_) rfl (by kernel_rfl) (by kernel_rfl) (by kernel_rfl) (fun _ _ _ h => h) (Or.inl ⟨by rfl, ?_⟩) (by assumption) ?_
      rotate_left
      · (intro w hSw; (try dsimp only at hSw); go_simp; try (with_reducible rfl))
      try simp only [Act.put, List.setIfInBounds_toArray, List.set_cons_zero, List.set_cons_succ]
      refine wpAnyH_take (i := 7) (oi := { dst := some 184, op := .move (.tmp 183), type := _, pos := _, after := _, guard := none }) (v := ?_) rfl (by kernel_rfl) (by kernel_rfl) (by kernel_rfl) (fun _ _ _ h => h) (Or.inl ⟨by rfl, ?_⟩) (by assumption) ?_
      rotate_left
      · (intro w hSw; (try dsimp only at hSw); go_simp; try (with_reducible rfl))
      try simp only [Act.put, List.setIfInBounds_toArray, List.set_cons_zero, List.set_cons_succ]
      refine wpAnyH_take (i := 8) (oi := { dst := some 185, op := .load 24 (.tmp 7), type := _, pos := _, after := _, guard := some (7, true) }) (v := ?_) rfl (by kernel_rfl) (by kernel_rfl) (by kernel_rfl) (fun _ _ _ h => h) (Or.inl ⟨by rfl, ?_⟩) (by assumption) ?_
      rotate_left
      · (intro w hSw; (try dsimp only at hSw); go_simp; try (with_reducible rfl))
      try simp only [Act.put, List.setIfInBounds_toArray, List.set_cons_zero, List.set_cons_succ]
      refine wpAnyH_take (i := 10) (oi := { dst := some 187, op := .load 24 (.tmp 7), type := _, pos := _, after := _, guard := some (7, true) }) (v := ?_) rfl (by kernel_rfl) (by kernel_rfl) (by kernel_rfl) (fun _ _ _ h => h) (Or.inl ⟨by rfl, ?_⟩) (by assumption) ?_
      rotate_left
      · (intro w hSw; (try dsimp only at hSw); go_simp; try (with_reducible rfl))
      try simp only [Act.put, List.setIfInBounds_toArray, List.set_cons_zero, List.set_cons_succ]
      refine wpAnyH_ready (rs := [9]) (by kernel_rfl) (by simp) ?_
      refine AllReadyH.cons (o := { dst := some 186, op := .call { callee := .value (.func 25), args := #[.tmp 185], argTypes := #[24] }, type := _, pos := _, after := _, guard := some (7, true) }) rfl (fun K hK => ?_) AllReadyH.nil
      go_simp
      refine (K3.out _ hy2).mono ?_; rintro e y3 ⟨B3, p3, k3, rfl, hm3⟩; have hy3 : Below wr.heap.size wr y3 := hy2.trans (hm3.below.mono hy2.size); have sv3 := hm3.swG; clear hm3
      refine hK.out _ _ (by first | exact HQ.out _ (Below.refl _ _).drew | assumption | exact HQ.out _ (by assumption)) (fun hHeld => ?_)
      clear hK K
      try simp only [Act.put, List.setIfInBounds_toArray, List.set_cons_zero, List.set_cons_succ]
      refine wpAnyH_ready (rs := [11]) (by kernel_rfl) (by simp) ?_
      refine AllReadyH.cons (o := { dst := some 188, op := .call { callee := .value (.func 12), args := #[.tmp 186, .tmp 187], argTypes := #[24, 24] }, type := _, pos := _, after := _, guard := some (7, true) }) rfl (fun K hK => ?_) AllReadyH.nil
      go_simp
      refine (rsame_same _ _ _ _ _ sv3 (HS.out.below ((H0.call hy3).baseAt 0 rfl))).mono ?_; rintro e y4 ⟨rfl, hz⟩; have hy4 : Below wr.heap.size wr y4 := hy3.trans (hz.mono hy3.size); clear hz sv3
      refine hK.out _ _ (by first | exact HQ.out _ (Below.refl _ _).drew | assumption | exact HQ.out _ (by assumption)) (fun hHeld => ?_)
      clear hK K
      try simp only [Act.put, List.setIfInBounds_toArray, List.set_cons_zero, List.set_cons_succ]
      refine wpAnyH_take (i := 12) (oi := { dst := some 189, op := .pick (.tmp 184) (.tmp 188) (.const (.bool false)), type := _, pos := _, after := _, guard := none }) (v := ?_) rfl (by kernel_rfl) (by kernel_rfl) (by kernel_rfl) (fun _ _ _ h => h) (Or.inl ⟨by rfl, ?_⟩) (by assumption) ?_
      rotate_left
      · (intro w hSw; (try dsimp only at hSw); go_simp; try (with_reducible rfl))
      try simp only [Act.put, List.setIfInBounds_toArray, List.set_cons_zero, List.set_cons_succ]
      refine wpAnyH_take (i := 13) (oi := { dst := some 190, op := .move (.tmp 189), type := _, pos := _, after := _, guard := none }) (v := ?_) rfl (by kernel_rfl) (by kernel_rfl) (by kernel_rfl) (fun _ _ _ h => h) (Or.inl ⟨by rfl, ?_⟩) (by assumption) ?_
      rotate_left
      · (intro w hSw; (try dsimp only at hSw); go_simp; try (with_reducible rfl))
      try simp only [Act.put, List.setIfInBounds_toArray, List.set_cons_zero, List.set_cons_succ]
      refine wpAnyH_ready (rs := [14]) (by kernel_rfl) (by simp) ?_
      refine AllReadyH.cons (o := { dst := some 191, op := .call { callee := .value (.func 9), args := #[], argTypes := #[] }, type := _, pos := _, after := _, guard := some (13, true) }) rfl (fun K hK => ?_) AllReadyH.nil
      go_simp
      refine (wakes_any _).mono ?_; rintro e y5 ⟨rfl, hz⟩; have hy5 : Below wr.heap.size wr y5 := hy4.trans (hz.mono hy4.size); clear hz
      refine hK.out _ _ (by first | exact HQ.out _ (Below.refl _ _).drew | assumption | exact HQ.out _ (by assumption)) (fun hHeld => ?_)
      clear hK K
      try simp only [Act.put, List.setIfInBounds_toArray, List.set_cons_zero, List.set_cons_succ]
      refine wpAnyH_take (i := 15) (oi := { dst := some 192, op := .pick (.tmp 190) (.tmp 191) (.const (.bool false)), type := _, pos := _, after := _, guard := none }) (v := ?_) rfl (by kernel_rfl) (by kernel_rfl) (by kernel_rfl) (fun _ _ _ h => h) (Or.inl ⟨by rfl, ?_⟩) (by assumption) ?_
      rotate_left
      · (intro w hSw; (try dsimp only at hSw); go_simp; try (with_reducible rfl))
      try simp only [Act.put, List.setIfInBounds_toArray, List.set_cons_zero, List.set_cons_succ]
      refine wpAnyH_take (i := 16) (oi := { dst := some 14, op := .assign (.tmp 192), type := _, pos := _, after := _, guard := none }) (v := ?_) rfl (by kernel_rfl) (by kernel_rfl) (by kernel_rfl) (fun _ _ _ h => h) (Or.inl ⟨by rfl, ?_⟩) (by assumption) ?_
      rotate_left
      · (intro w hSw; (try dsimp only at hSw); go_simp; try (with_reducible rfl))
      try simp only [Act.put, List.setIfInBounds_toArray, List.set_cons_zero, List.set_cons_succ]
      refine wpAnyH_done (by kernel_rfl) ?_ _

      have HY := Lib.hid ((H0.call hy5).baseAt 0 rfl)
      clear hy1 hy2 hy3 hy4 hy5 H0
      go_wp2
      go_ret
      exact ⟨by simp, HY.out⟩
end Go.Proofs.Ytdoigpifkdkjpaa
