/- 'MsgTold': the walk of the law: what is told to an ask that may be may be, but of a get. -/
import Derived.Test.YtbklgodbjibemaaWakes
set_option linter.unusedVariables false
set_option linter.unusedSimpArgs false
namespace Go.Proofs.Ytbklgodbjibemaa
open Go.RowKit Go.Shelf

theorem right_all {m : M} {l : List Int} (h : rightB m l = true) : OkAll m l := (rightB_iff.1 h).1
theorem told_asks {m : M} (h : asksB m = true) : told m = M.head (6 + m.kind) m.call m.to m.frm := by unfold told; rw [if_pos h]
theorem told_ok {m m' : M} {l : List Int} (h : OkAll m l) (ha : asksB m = true) (hk : m'.kind = 6 + m.kind) (hc : m'.call = m.call) (hf : m'.frm = m.to) (ht : m'.to = m.frm) : OkAll m' [] := by
  obtain ⟨h1, h2, h3, h4, h5, h6, h7⟩ := h
  have hk6 : 0 < m.kind ∧ m.kind ≤ 6 := by simpa [asksB] using ha
  have e1 : askerI m' = m.frm := by unfold askerI; rw [if_neg (by simp [asksB, hk]; omega), ht]
  have e2 : askerI m = m.frm := by unfold askerI; rw [if_pos ha]
  rw [e2] at h6 h7
  unfold OkAll
  rw [e1, hk, hc, hf, ht]
  exact ⟨by omega, by omega, h4, h3, fun e => h5 e.symm, h6, h7⟩
theorem told_asks6 {m : M} (h : asksB m = true) : asksB (told m) = false := by
  rw [told_asks h]
  have hk6 : 0 < m.kind ∧ m.kind ≤ 6 := by simpa [asksB] using h
  show (decide (0 < 6 + m.kind) && decide (6 + m.kind ≤ 6)) = false
  rw [decide_eq_false (show ¬ (6 + m.kind ≤ 6) by omega), Bool.and_false]
theorem told_asker {m : M} (h : asksB m = true) : askerI (told m) = askerI m := by
  have h6 := told_asks6 h
  unfold askerI
  rw [h6, h, told_asks h]
  rfl
theorem told_right {m : M} {l : List Int} (h : rightB m l = true) (ha : asksB m = true) (hk : m.kind ≠ 6) : rightD (told m) [] = true := by
  have hk6 : 0 < m.kind ∧ m.kind ≤ 6 := by simpa [asksB] using ha
  have hok := told_ok (m' := told m) (right_all h) ha (by rw [told_asks ha]; rfl) (by rw [told_asks ha]; rfl) (by rw [told_asks ha]; rfl) (by rw [told_asks ha]; rfl)
  rw [right_eq, rightB_iff]
  refine ⟨hok, ?_, ?_⟩
  all_goals
    rw [told_asks ha]
    obtain ⟨kind, call, frm, to, key, slow, done, place, pred, it, code⟩ := m
    have : kind = 1 ∨ kind = 2 ∨ kind = 3 ∨ kind = 4 ∨ kind = 5 := by simp at hk hk6; omega
    rcases this with rfl | rfl | rfl | rfl | rfl
  all_goals first | exact ⟨rfl, rfl⟩ | decide | rfl
theorem told_get {m : M} {l : List Int} (h : rightB m l = true) (ha : asksB m = true) (hk : m.kind = 6) (cd : Int) (x : It) : rightD { told m with code := cd, it := x } [] = getB { told m with code := cd, it := x } := by
  have hok := told_ok (m' := { told m with code := cd, it := x }) (right_all h) ha (by rw [told_asks ha]; rfl) (by rw [told_asks ha]; rfl) (by rw [told_asks ha]; rfl) (by rw [told_asks ha]; rfl)
  have hkk : (told m).kind = 12 := by rw [told_asks ha, hk]; rfl
  rw [right_eq, Bool.eq_iff_iff, rightB_iff]
  have h2 : bareM { told m with code := cd, it := x } = headM { told m with code := cd, it := x } := by rw [told_asks ha, hk]; rfl
  have h3 : bareLL { told m with code := cd, it := x } [] = [] := by unfold bareLL; split <;> rfl
  have h4 : hasB { told m with code := cd, it := x } [] = getB { told m with code := cd, it := x } := by unfold hasB; simp [hkk]
  rw [h4]
  exact ⟨fun h => h.2.2, fun h => ⟨hok, ⟨h2, h3⟩, h⟩⟩
theorem get_none (m : M) : getB { m with code := 201, it := noIt } = true := by
  have : itEq noIt noIt = true := itEq_iff.2 rfl
  simp [getB, this]
theorem get_pair (m : M) (x : It) : getB { m with code := 0, it := x } = pairB x := by simp [getB]

structure LT (w X : World) (b2 b3 b5 : Nat) (c2 c3 c5 : Array Value) : Prop where
  r2 : Rw X b2 27 c2
  r3 : Rw X b3 24 c3
  r5 : Rw X b5 27 c5
  n : w.heap.size ≤ b5 ∧ b2 ≠ b5 ∧ b3 ≠ b5
  below : Below w.heap.size w X
section
variable {w X Y : World} {b2 b3 b5 : Nat} {c2 c3 c5 : Array Value} (h : LT w X b2 b3 b5 c2 c3 c5)
include h
theorem LT.on (hb : Below X.heap.size X Y) : LT w Y b2 b3 b5 c2 c3 c5 := ⟨h.r2.below hb, h.r3.below hb, h.r5.below hb, h.n, h.below.trans (hb.mono h.below.size)⟩
theorem LT.drew : LT w X.drew b2 b3 b5 c2 c3 c5 := ⟨h.r2, h.r3, h.r5, h.n, h.below.drew⟩
theorem LT.set5 (j : Nat) (v : Value) : LT w (X.setCell ⟨b5, j, none⟩ v) b2 b3 b5 c2 c3 (c5.setIfInBounds j v) :=
  ⟨h.r2.set_other h.n.2.1 j v, h.r3.set_other h.n.2.2 j v, h.r5.set j v, h.n, h.below.setCell (p := ⟨b5, j, none⟩) h.n.1 v⟩
end
theorem gen_TC {P : Program} {cd : Code} {a : Act} {w X : World} {Q : Exit → Act → World → Prop} {b2 b3 b5 : Nat} {c2 c3 c5 : Array Value} (h : LT w X b2 b3 b5 c2 c3 c5) (k : ∀ X, LT w X b2 b3 b5 c2 c3 c5 → cd.wp P Q a X) : cd.wp P Q a X := k X h
theorem gen_T {P : Program} {ops : Array Oper} {rest : List Oper} {a : Act} {w X : World} {Q : Exit → Act → World → Prop} {b2 b3 b5 : Nat} {c2 c3 c5 : Array Value} (h : LT w X b2 b3 b5 c2 c3 c5) (k : ∀ X, LT w X b2 b3 b5 c2 c3 c5 → wpList P ops Q rest a X) : wpList P ops Q rest a X := k X h

set_option maxRecDepth 100000 in
set_option maxHeartbeats 4000000 in
theorem told_quick (m : M) (A : Option Addr) (c : Nat) (l : List Int) (x : It) (hk0 : 0 ≤ m.kind) (w : World) (hs : Sl w (.slice A l.length c) (iv l)) (h : (decide (30 < l.length) || decide (100 < m.it.key.size)) = true ∨ 100 < x.key.size ∨ rightB m l = false) :
    Calls Try.prog 4 #[.agg (m.c (.slice A l.length c)), .agg x.c] w fun e w' => e = .returned (.bool true) ∧ Below w.heap.size w w' := by
  have WK := Lib.hid wakes_any
  obtain ⟨r2, r3, hB⟩ := two_boxes w (m.c (.slice A l.length c)) x.c 27 24
  have hs2 := hs.below hB
  generalize hW : (w.alloc (.cells (m.c (.slice A l.length c)) 27)).alloc (.cells x.c 24) = W at r2 r3 hB hs2
  obtain ⟨bg, hbg⟩ : ∃ b, (decide (30 < l.length) || decide (100 < m.it.key.size)) = b := ⟨_, rfl⟩
  have kg := fun w => great_any m A l.length c w
  rw [hbg] at kg h
  have KG := Lib.hid kg
  have HS := Lib.hid hs2
  have KR := Lib.hid (fun w h => rRight_any m A c l hk0 w h)
  have R2 := Lib.hid r2
  have R3 := Lib.hid r3
  have c3 := r3.cell
  have HB := Lib.hid hB
  clear kg hbg hs hs2 r2 r3 hB hk0
  go_enter Try.func4, Try.ntmps4
  go_wp2_with (first
    | (with_reducible show wpList _ _ _ (Oper.mk _ (Op.load 27 _) _ _ _ _ :: _) _ _
       refine wpList_loadW R2.out agg27 rfl _ rfl rfl ?_))
  refine (KG.out _).mono ?_; rintro e w1 ⟨rfl, hb⟩
  have R2' := R2.out.below hb
  have R3' := R3.out.below hb
  have cc3 := R3'.cell
  have HB' := HB.out.trans (hb.mono HB.out.size)
  cases bg
  · by_cases h1 : 100 < x.key.size
    · have d1 : decide ((100 : Int) < (x.key.size : Int)) = true := decide_eq_true (by omega)
      clear h h1 c3 R3'
      go_wp2_with fail
      refine (WK.out _).mono ?_; rintro e w2 ⟨rfl, hb2⟩
      go_wp2
      go_ret
      exact ⟨rfl, HB'.trans (hb2.mono HB'.size)⟩
    · have d1 : decide ((100 : Int) < (x.key.size : Int)) = false := decide_eq_false (by omega)
      have hr : rightB m l = false := by rcases h with h | h | h; exact absurd h (by simp); exact absurd h h1; exact h
      have k := KR.out w1 (HS.out.below hb)
      rw [hr] at k
      have K := Lib.hid k
      clear h h1 c3 R3' k hr
      go_wp2_with (first
        | (with_reducible show wpList _ _ _ (Oper.mk _ (Op.load 27 _) _ _ _ _ :: _) _ _
           refine wpList_loadW R2' agg27 rfl _ rfl rfl ?_))
      refine K.out.mono ?_; rintro e w2 ⟨rfl, hb2⟩
      have HB2 := HB'.trans (hb2.mono HB'.size)
      go_wp2_with fail
      refine (WK.out _).mono ?_; rintro e w3 ⟨rfl, hb3⟩
      go_wp2
      go_ret
      exact ⟨rfl, HB2.trans (hb3.mono HB2.size)⟩
  · clear h c3 R3'
    go_wp2_with fail
    refine (WK.out _).mono ?_; rintro e w2 ⟨rfl, hb2⟩
    go_wp2
    go_ret
    exact ⟨rfl, HB'.trans (hb2.mono HB'.size)⟩

set_option maxRecDepth 100000 in
set_option maxHeartbeats 8000000 in
theorem told_main (m : M) (A : Option Addr) (c : Nat) (l : List Int) (x : It) (hk0 : 0 ≤ m.kind) (w : World) (hs : Sl w (.slice A l.length c) (iv l)) (hg : (decide (30 < l.length) || decide (100 < m.it.key.size)) = false) (hx : ¬ 100 < x.key.size) (hr : rightB m l = true) :
    Calls Try.prog 4 #[.agg (m.c (.slice A l.length c)), .agg x.c] w fun e w' => e = .returned (.bool true) ∧ Below w.heap.size w w' := by
  have WK := Lib.hid wakes_any
  obtain ⟨r2, r3, hB⟩ := two_boxes w (m.c (.slice A l.length c)) x.c 27 24
  have hs2 := hs.below hB
  generalize hW : (w.alloc (.cells (m.c (.slice A l.length c)) 27)).alloc (.cells x.c 24) = W at r2 r3 hB hs2
  have kg := fun w => great_any m A l.length c w
  rw [hg] at kg
  have KG := Lib.hid kg
  have HS := Lib.hid hs
  have kr := fun w h => rRight_any m A c l hk0 w h
  rw [hr] at kr
  have KR := Lib.hid kr
  have R2 := Lib.hid r2
  have R3 := Lib.hid r3
  have c3 := r3.cell
  have HB := Lib.hid hB
  have d1 : decide ((100 : Int) < (x.key.size : Int)) = false := decide_eq_false (by omega)
  obtain ⟨t, ht⟩ : ∃ t, told m = t := ⟨_, rfl⟩
  obtain ⟨ba, hba⟩ : ∃ b, asksB m = b := ⟨_, rfl⟩
  have ktl := fun w => Tell_any m (.slice A l.length c) w
  rw [ht] at ktl
  have kas := fun w => Asks_any m (.slice A l.length c) w
  rw [hba] at kas
  have KTL := Lib.hid ktl
  have KAS := Lib.hid kas
  have HT := Lib.hid ht
  have HBA := Lib.hid hba
  have HR := Lib.hid hr
  have HWS : w.heap.size + 1 + 1 ≤ W.heap.size := by have := r3.lt; omega
  clear kg hg hs hs2 r2 r3 hB hk0 kr hx ktl kas ht hba hr
  go_enter Try.func4, Try.ntmps4
  go_wp2_with (first
    | (with_reducible show wpList _ _ _ (Oper.mk _ (Op.load 27 _) _ _ _ _ :: _) _ _
       refine wpList_loadW R2.out agg27 rfl _ rfl rfl ?_))
  refine (KG.out _).mono ?_; rintro e w1 ⟨rfl, hb⟩
  have R2' := R2.out.below hb
  have R3' := R3.out.below hb
  have cc3 := R3'.cell
  have HB' := HB.out.trans (hb.mono HB.out.size)
  have hz1 := Nat.le_trans HWS hb.size
  clear c3 hb hW
  go_wp2_with (first
    | (with_reducible show wpList _ _ _ (Oper.mk _ (Op.load 27 _) _ _ _ _ :: _) _ _
       refine wpList_loadW R2' agg27 rfl _ rfl rfl ?_))
  refine (KR.out _ (HS.out.below HB')).mono ?_; rintro e w2 ⟨rfl, hb⟩
  replace R2' := R2'.below hb
  replace R3' := R3'.below hb
  replace HB' := HB'.trans (hb.mono HB'.size)
  replace hz1 := Nat.le_trans hz1 hb.size
  clear cc3 hb
  go_wp2_with (first
    | (with_reducible show wpList _ _ _ (Oper.mk _ (Op.load 27 _) _ _ _ _ :: _) _ _
       refine wpList_loadW R2' agg27 rfl _ rfl rfl ?_))
  refine (KTL.out _).mono ?_; rintro e w3 ⟨rfl, hb⟩
  replace R2' := R2'.below hb
  replace R3' := R3'.below hb
  replace HB' := HB'.trans (hb.mono HB'.size)
  replace hz1 := Nat.le_trans hz1 hb.size
  have hfr := fresh w3 (t.c nilS) (noM.c nilS)
  have L := Lib.hid (LT.mk (w := w) (R2'.below hfr.2) (R3'.below hfr.2) hfr.1 ⟨by omega, by omega, by omega⟩ (HB'.trans (hfr.2.mono HB'.size)))
  have HF := Lib.hid (Rw.new w3 (noM.c nilS) 27)
  clear hb hfr R2' R3' HB' hz1
  go_wp2_with (first
    | (with_reducible show wpList _ _ _ (Oper.mk _ (Op.load 27 _) _ _ _ _ :: _) _ _
       refine wpList_loadW LX.r2 agg27 rfl _ rfl rfl ?_)
    | (with_reducible show wpList _ _ _ (Oper.mk _ (Op.store 27 _ _) _ _ _ _ :: _) _ _
       refine wpList_storeR (c := t.c nilS) rfl _ _ rfl rfl rfl agg27.hi HF.out rfl (M.one _ rfl) ?_
       refine gen_T L.out ?_
       intro X LX))
  generalize w3.heap.size = b5 at LX ⊢
  refine (KAS.out _).mono ?_; rintro e w4 ⟨rfl, hb⟩
  replace LX := LX.on hb
  clear hb L HF
  cases ba
  · have k0 := Lib.hid (fun w => rSame_any t noM nilS nilS [] [] w (Sl.nil_ w) (Sl.nil_ w))
    have hsn : same t noM [] [] = true := by rw [← HT.out]; unfold told; rw [HBA.out]; exact same_iff.2 ⟨rfl, rfl⟩
    have HSN := Lib.hid hsn
    clear hsn
    go_wp2_with (first
      | (with_reducible show wpList _ _ _ (Oper.mk _ (Op.load 27 _) _ _ _ _ :: _) _ _
         refine wpList_loadW LX.r5 agg27 rfl _ rfl rfl ?_))
    refine (k0.out _).mono ?_; rintro e w5 ⟨rfl, hb⟩
    rw [HSN.out]
    replace LX := LX.on hb
    go_wp2_with fail
    refine (WK.out _).mono ?_; rintro e w6 ⟨rfl, hb2⟩
    go_wp2
    go_ret
    exact ⟨rfl, LX.below.trans (hb2.mono LX.below.size)⟩
  · have f1 : t.call = m.call := by rw [← HT.out, told_asks HBA.out]; rfl
    have f2 : t.frm = m.to := by rw [← HT.out, told_asks HBA.out]; rfl
    have f3 : t.to = m.frm := by rw [← HT.out, told_asks HBA.out]; rfl
    have c2 := fun y => (Wd.row LX.r2 y).cell
    have c5 := fun y => (Wd.row LX.r5 y).cell
    have Q2 := Lib.hid (fun y => Wd.row LX.r2 y)
    have Q5 := Lib.hid (fun y => Wd.row LX.r5 y)
    have K16 := fun y : Wd w4 => y.call (Asks_any t nilS y.w)
    rw [← HT.out, told_asks6 HBA.out, HT.out] at K16
    have K18t := fun y : Wd w4 => y.call (Asker_any t nilS y.w)
    rw [← HT.out, told_asker HBA.out, HT.out] at K18t
    have K18m := fun y : Wd w4 => y.call (Asker_any m (.slice A l.length c) y.w)
    have H16 := Lib.hid K16
    have H18t := Lib.hid K18t
    have H18m := Lib.hid K18m
    clear K16 K18t K18m
    go_wp2_with fail
    refine wp_region_behind ⟨w4, Below.refl _ _⟩ (by kernel_rfl) (by kernel_rfl) ?_
    repeat (first
      | go_big_quiet_skip
      | (go_big_quiet_want
         first
         | (refine quiet_load _ rfl rfl (fun y => run_loadR (c := t.c _) agg27 (Q5.out y)) ?_
            simp only [Act.put, List.setIfInBounds_toArray, List.set_cons_zero, List.set_cons_succ]
            go_big_quiet_on)
         | (refine quiet_load _ rfl rfl (fun y => run_loadR (c := m.c _) agg27 (Q2.out y)) ?_
            simp only [Act.put, List.setIfInBounds_toArray, List.set_cons_zero, List.set_cons_succ]
            go_big_quiet_on)
         | (go_big_quiet_op; first | go_big_quiet_on | (apply Exists.intro; refine ⟨fun _ => rfl, ?_⟩; go_big_quiet_on) | go_big_quiet_call ((first | (go_at_call 16; exact H16.out _) | (go_at_call_of 18 t; exact H18t.out _) | (go_at_call 18; exact H18m.out _))))))
    refine wpQuiet_nil ?_
    intro y
    replace LX := LX.on y.below
    have cy := LX.r2.cell
    clear c2 c5 Q2 Q5 H16 H18t H18m
    generalize y.w = V at LX cy ⊢
    by_cases hk6 : m.kind = 6
    · have e6 : (m.kind != 6) = false := by simp [hk6]
      have hkk : (0 : Int) ≤ 6 + m.kind := by omega
      have k1 := fun w => Right_any ({ t with code := 201 } : M) none 0 [] (by rw [← HT.out, told_asks HBA.out]; exact hkk) w (Sl.nil_ w)
      have k2 := fun w => Right_any ({ t with code := 0, it := x } : M) none 0 [] (by rw [← HT.out, told_asks HBA.out]; exact hkk) w (Sl.nil_ w)
      have g1 := told_get HR.out HBA.out hk6 201 noIt
      have g2 := told_get HR.out HBA.out hk6 0 x
      rw [get_none] at g1
      rw [get_pair] at g2
      have ei : ({ told m with code := 201, it := noIt } : M) = { told m with code := 201 } := by rw [told_asks HBA.out]; rfl
      rw [ei] at g1
      rw [HT.out] at g1 g2
      rw [g1] at k1
      rw [g2] at k2
      have k13 := fun w => rPair_any x w
      obtain ⟨bp, hbp⟩ : ∃ b, pairB x = b := ⟨_, rfl⟩
      rw [hbp] at k2 k13
      have K1 := Lib.hid k1
      have K2 := Lib.hid k2
      have K13 := Lib.hid k13
      clear hk6 hkk k1 k2 k13 g1 g2 ei hbp f1 f2 f3
      go_wp2_with (first
        | (with_reducible show wpList _ _ _ (Oper.mk _ (Op.store 25 _ _) _ _ _ _ :: _) _ _
           refine wpList_store1 LX.r5 (by kernel_rfl) rfl _ _ rfl (j := 14) rfl (v := .int .i64 201) rfl (by show 14 < 15; decide) rfl rfl ?_
           refine gen_T (c5 := ({ t with code := 201 } : M).c nilS) (LX.set5 14 (.int .i64 201)) ?_
           clear LX cy
           intro X LX)
        | (with_reducible show wpList _ _ _ (Oper.mk _ (Op.load 27 _) _ _ _ _ :: _) _ _
           refine wpList_loadW LX.r5 agg27 rfl _ rfl rfl ?_))
      refine (K1.out _).mono ?_; rintro e w5 ⟨rfl, hb⟩
      replace LX := LX.on hb
      clear hb
      have c3 := LX.r3.cell
      have c5 := LX.r5.cell
      have f5 := LX.r5.free
      go_wp2_with fail
      go_region
      have LY : LT w _ w.heap.size (w.heap.size + 1) b5 _ x.c (({ t with code := 0, it := x } : M).c nilS) := ((((((LX.set5 14 (.int .i64 0)).set5 10 (.string x.key)).set5 11 (.int .i64 x.val)).set5 12 (.int .i64 x.ver)).set5 13 (.bool x.gone))).drew
      clear LX c3 c5 f5
      go_wp2_with fail
      refine gen_TC LY ?_
      clear LY
      intro X LX
      have Q3 := Lib.hid (fun y => Wd.row LX.r3 y)
      have Q5 := Lib.hid (fun y => Wd.row LX.r5 y)
      have H14 := Lib.hid (fun y : Wd X => y.call (K2.out y.w))
      have H13 := Lib.hid (fun y : Wd X => y.call (K13.out y.w))
      have H9 := Lib.hid (fun y : Wd X => y.call (WK.out y.w))
      refine wp_region_behind ⟨X, Below.refl _ _⟩ (by kernel_rfl) (by kernel_rfl) ?_
      repeat (first
        | go_big_quiet_skip
        | (go_big_quiet_want
           first
           | (refine quiet_load _ rfl rfl (fun y => run_loadR (c := ({ t with code := 0, it := x } : M).c _) agg27 (Q5.out y)) ?_
              simp only [Act.put, List.setIfInBounds_toArray, List.set_cons_zero, List.set_cons_succ]
              go_big_quiet_on)
           | (refine quiet_load _ rfl rfl (fun y => run_loadR (c := x.c) agg24 (Q3.out y)) ?_
              simp only [Act.put, List.setIfInBounds_toArray, List.set_cons_zero, List.set_cons_succ]
              go_big_quiet_on)
           | (go_big_quiet_op; first | go_big_quiet_on | (apply Exists.intro; refine ⟨fun _ => rfl, ?_⟩; go_big_quiet_on) | go_big_quiet_call ((first | (go_at_call 14; exact H14.out _) | (go_at_call 13; exact H13.out _) | (go_at_call 9; exact H9.out _))))))
      refine wpQuiet_nil ?_
      intro y
      replace LX := LX.on y.below
      go_wp2
      go_ret
      exact ⟨rfl, LX.below⟩
    · have e6 : (m.kind != 6) = true := by simp [hk6]
      have k14 := fun w => Right_any t none 0 [] (by rw [← HT.out, told_asks HBA.out]; have h := (right_all HR.out).1; show (0 : Int) ≤ 6 + m.kind; omega) w (Sl.nil_ w)
      rw [← HT.out, told_right HR.out HBA.out hk6, HT.out] at k14
      have K14 := Lib.hid k14
      clear hk6 k14
      go_wp2_with (first
        | (with_reducible show wpList _ _ _ (Oper.mk _ (Op.load 27 _) _ _ _ _ :: _) _ _
           refine wpList_loadW LX.r5 agg27 rfl _ rfl rfl ?_))
      refine (K14.out _).mono ?_; rintro e w5 ⟨rfl, hb⟩
      replace LX := LX.on hb
      go_wp2_with fail
      refine (WK.out _).mono ?_; rintro e w6 ⟨rfl, hb2⟩
      go_wp2
      go_ret
      exact ⟨rfl, LX.below.trans (hb2.mono LX.below.size)⟩
theorem told_walk (W : World) (m : M) (v : Value) (l : List Int) (hs : Sl W v (iv l)) (hk0 : 0 ≤ m.kind) (x : It) :
    Calls Try.prog 4 #[.agg (m.c v), .agg x.c] W fun e w' => e = .returned (.bool true) ∧ Below W.heap.size W w' := by
  obtain ⟨A, n, c, rfl⟩ := hs.slice
  obtain ⟨rfl, _⟩ := hs.llen
  by_cases h : (decide (30 < l.length) || decide (100 < m.it.key.size)) = true ∨ 100 < x.key.size ∨ rightB m l = false
  · exact told_quick m A c l x hk0 W hs h
  · exact told_main m A c l x hk0 W hs (by rw [Bool.eq_false_iff]; exact fun h' => h (.inl h')) (fun h' => h (.inr (.inl h'))) (by cases hb : rightB m l with | true => rfl | false => exact absurd (.inr (.inr hb)) h)
end Go.Proofs.Ytbklgodbjibemaa
