/- The document's own 'Right': for any message. -/
import Derived.Test.YtbklgodbjibemaaRSame
import Derived.Test.YtbklgodbjibemaaBare
import Derived.Test.YtbklgodbjibemaaHas
set_option linter.unusedVariables false
set_option linter.unusedSimpArgs false
namespace Go.Proofs.Ytbklgodbjibemaa
open Go.RowKit Go.Shelf

def bareLL (m : M) (l : List Int) : List Int := if m.kind = 7 then [] else l
def rightB (m : M) (l : List Int) : Bool :=
  (decide (1 ≤ m.kind) && (decide (m.kind < 13) && (placeB m.frm && (placeB m.to && !(m.frm == m.to))))) && ((decide (askerI m * 1048576 + 1 ≤ m.call) && decide (m.call < askerI m * 1048576 + 1 + 1048576)) && (same (bareM m) (headM m) (bareLL m l) [] && hasB m l))
theorem bareL_sl {w : World} {m : M} {v : Value} {l : List Int} (h : Sl w v (iv l)) : Sl w (bareL m v) (iv (bareLL m l)) := by
  unfold bareL bareLL
  split
  · exact Sl.nil_ w
  · exact h
theorem gen_w {P : Program} {ops : Array Oper} {rest : List Oper} {a : Act} {w : World} {Q : Exit → Act → World → Prop} (p : World → Prop) (hp : p w) (h : ∀ W, p W → wpList P ops Q rest a W) : wpList P ops Q rest a w := h w hp

structure S7 (w V : World) (cm : Array Value) (Bs : Nat) (ch : Array Value) (v : Value) (xs : List Value) : Prop where
  r1 : Rw V w.heap.size 27 cm
  r2 : Rw V Bs 27 ch
  s : Sl V v xs
  below : Below w.heap.size w V
theorem gen_7 {P : Program} {ops : Array Oper} {rest : List Oper} {a : Act} {w0 w : World} {Q : Exit → Act → World → Prop} {cm ch : Array Value} {Bs : Nat} {v : Value} {xs : List Value} (hp : S7 w0 w cm Bs ch v xs) (h : ∀ W, S7 w0 W cm Bs ch v xs → wpList P ops Q rest a W) : wpList P ops Q rest a w := h w hp

set_option maxRecDepth 100000 in
set_option maxHeartbeats 4000000 in
theorem rRight_any (m : M) (A : Option Addr) (c : Nat) (l : List Int) (hk0 : 0 ≤ m.kind) (w : World) (hs : Sl w (.slice A l.length c) (iv l)) :
    Calls Try.prog 15 #[.agg (m.c (.slice A l.length c))] w fun e w' => e = .returned (.bool (rightB m l)) ∧ Below w.heap.size w w' := by
  obtain ⟨r, hr⟩ : ∃ r, rightB m l = r := ⟨_, rfl⟩
  rw [hr]
  have HR := Lib.hid hr
  have R0 := Rw.new w (m.c (.slice A l.length c)) 27
  have B0 := box_below w (.cells (m.c (.slice A l.length c)) 27)
  have S0 := hs.below B0
  generalize hW : w.alloc (.cells (m.c (.slice A l.length c)) 27) = W at R0 B0 S0
  have HLT := Lib.hid R0.lt
  have c0 := R0.cell
  have R1 := Lib.hid (fun y => Wd.row R0 y)
  have c1 := fun y j => (Wd.row R0 y).cell j
  have S1 := Lib.hid (fun y => Wd.sl S0 y)
  have HB := Lib.hid B0
  clear hr hs
  by_cases h1 : 1 ≤ m.kind
  · have d1 : decide (m.kind < 1) = false := decide_eq_false (by omega)
    by_cases h2 : m.kind < 13
    · have d2 : decide (13 ≤ m.kind) = false := decide_eq_false (by omega)
      obtain ⟨bf, hbf⟩ : ∃ b, placeB m.frm = b := ⟨_, rfl⟩
      obtain ⟨bt, hbt⟩ : ∃ b, placeB m.to = b := ⟨_, rfl⟩
      have k1 := fun w => rplace_any m.frm w
      have k2 := fun w => rplace_any m.to w
      rw [hbf] at k1
      rw [hbt] at k2
      have HK1 := Lib.hid k1
      have HK2 := Lib.hid k2
      have HBF := Lib.hid hbf
      have HBT := Lib.hid hbt
      have H12 := Lib.hid (And.intro h1 h2)
      clear k1 k2 hbf hbt h1 h2 hk0
      go_enter Try.func15, Try.ntmps15
      go_wp2_with fail
      refine (HK1.out _).mono ?_; rintro e w1 ⟨rfl, rfl⟩
      cases bf
      · go_wp2_with fail
        go_ret
        exact ⟨ret_b (by rw [← HR.out, rightB, HBF.out]; simp), HB.out⟩
      · go_wp2_with fail
        refine (HK2.out _).mono ?_; rintro e w1 ⟨rfl, rfl⟩
        cases bt
        · go_wp2_with fail
          go_ret
          exact ⟨ret_b (by rw [← HR.out, rightB, HBT.out]; simp), HB.out⟩
        · by_cases h3 : m.frm = m.to
          · have d3 : (m.frm == m.to) = true := by simp [h3]
            have HE := Lib.hid d3
            clear h3
            go_wp2_with fail
            go_ret
            exact ⟨ret_b (by rw [← HR.out, rightB, HE.out]; simp), HB.out⟩
          · have d3 : (m.frm == m.to) = false := by simp [h3]
            have HE := Lib.hid d3
            have hap : placeB (askerI m) = true := by unfold askerI; split; exact HBF.out; exact HBT.out
            have hpp := place_iff.1 hap
            have K19 := Lib.hid (fun w => rAsker_any m (.slice A l.length c) w)
            obtain ⟨id, hid⟩ : ∃ id, askerI m = id := ⟨_, rfl⟩
            rw [hid] at hpp
            have HID := Lib.hid hid
            clear h3 hap hid
            go_wp2_with (first
              | (with_reducible show wpList _ _ _ (Oper.mk _ (Op.load 27 _) _ _ _ _ :: _) _ _
                 refine wpList_loadW R0 agg27 rfl _ rfl rfl ?_))
            refine (K19.out _).mono ?_; rintro e w1 ⟨rfl, hb1⟩
            obtain ⟨y, rfl⟩ := Wd.ex hb1
            rw [HID.out]
            clear hb1
            by_cases h4 : id * 1048576 + 1 ≤ m.call
            · have d4 : decide (m.call < id * 1048576 + 1) = false := decide_eq_false (by omega)
              by_cases h5 : m.call < id * 1048576 + 1 + 1048576
              · have d5 : decide (id * 1048576 + 1 + 1048576 ≤ m.call) = false := decide_eq_false (by omega)
                have H45 := Lib.hid (And.intro h4 h5)
                have BB := below_setRow (W := y.w) (box_below y.w (.cells (noM.c nilS) 27)) (Nat.le_refl _) ((headM m).c nilS)
                have T2 := Lib.hid (Rw.new y.w (noM.c nilS) 27)
                have HBy := HB.out.trans (y.below.mono HB.out.size)
                have T6 := Lib.hid (S7.mk (ch := (headM m).c nilS) ((R1.out y).below BB) T2.out.setRow ((S1.out y).below BB) (HBy.trans (BB.mono HBy.size)))
                clear BB HBy h4 h5
                go_wp2_with (first
                  | (with_reducible show wpList _ _ _ (Oper.mk _ (Op.store 27 _ _) _ _ _ _ :: _) _ _
                     refine wpList_storeR (c := (headM m).c nilS) rfl _ _ rfl rfl rfl agg27.hi T2.out rfl (M.one _ rfl) ?_
                     refine gen_7 T6.out ?_
                     clear c1
                     intro V hV))
                obtain ⟨v1, v2, v3, v4⟩ := hV
                generalize y.w.heap.size = Bs at v2 ⊢
                have HV1 := Lib.hid (fun y => Wd.row v1 y)
                have HV2 := Lib.hid (fun y => Wd.row v2 y)
                have HVB := Lib.hid (fun y : Wd V => v4.trans (y.below.mono v4.size))
                obtain ⟨bs, hbs⟩ : ∃ b, same (bareM m) (headM m) (bareLL m l) [] = b := ⟨_, rfl⟩
                obtain ⟨bh, hbh⟩ : ∃ b, hasB m l = b := ⟨_, rfl⟩
                have K34 := Lib.hid (fun y : Wd V => y.call (bare_any m A l.length c y.w))
                have K20 := fun y : Wd V => y.call (rSame_any (bareM m) (headM m) (bareL m (.slice A l.length c)) nilS (bareLL m l) [] y.w (bareL_sl (Wd.sl v3 y)) (Sl.nil_ y.w))
                have K35 := fun y : Wd V => y.call (has_any m A l.length c l y.w (Wd.sl v3 y))
                rw [hbs] at K20
                rw [hbh] at K35
                have K20 := Lib.hid K20
                have K35 := Lib.hid K35
                have hres : r = (bs && bh) := by
                  rw [← HR.out, rightB, HBF.out, HBT.out, HE.out, HID.out, decide_eq_true H45.out.1, decide_eq_true H45.out.2, decide_eq_true H12.out.1, decide_eq_true H12.out.2, hbs, hbh]
                  simp
                have HRES := Lib.hid hres
                clear v1 v2 v3 v4 hbs hbh hres
                go_wp2_with fail
                simp only [Act.put]
                refine wp_region_behind ⟨V, Below.refl _ _⟩ (by kernel_rfl) (by kernel_rfl) ?_
                cases bs
                · repeat (first
                    | go_big_quiet_skip
                    | (go_big_quiet_want
                       first
                       | (refine quiet_load _ rfl rfl (fun y => run_loadR (c := m.c _) agg27 (HV1.out y)) ?_
                          simp only [Act.put, List.setIfInBounds_toArray, List.set_cons_zero, List.set_cons_succ]
                          go_big_quiet_on)
                       | (refine quiet_load _ rfl rfl (fun y => run_loadR (c := (headM m).c _) agg27 (HV2.out y)) ?_
                          simp only [Act.put, List.setIfInBounds_toArray, List.set_cons_zero, List.set_cons_succ]
                          go_big_quiet_on)
                       | (go_big_quiet_op; first | go_big_quiet_on | (apply Exists.intro; refine ⟨fun _ => rfl, ?_⟩; go_big_quiet_on) | go_big_quiet_call ((first | (go_at_call 34; exact K34.out _) | (go_at_call 20; exact K20.out _) | (go_at_call 35; exact K35.out _))))))
                  refine wpQuiet_nil ?_
                  intro y
                  go_wp2_with fail
                  go_ret
                  exact ⟨ret_b (by rw [HRES.out]; simp), HVB.out y⟩
                · repeat (first
                    | go_big_quiet_skip
                    | (go_big_quiet_want
                       first
                       | (refine quiet_load _ rfl rfl (fun y => run_loadR (c := m.c _) agg27 (HV1.out y)) ?_
                          simp only [Act.put, List.setIfInBounds_toArray, List.set_cons_zero, List.set_cons_succ]
                          go_big_quiet_on)
                       | (refine quiet_load _ rfl rfl (fun y => run_loadR (c := (headM m).c _) agg27 (HV2.out y)) ?_
                          simp only [Act.put, List.setIfInBounds_toArray, List.set_cons_zero, List.set_cons_succ]
                          go_big_quiet_on)
                       | (go_big_quiet_op; first | go_big_quiet_on | (apply Exists.intro; refine ⟨fun _ => rfl, ?_⟩; go_big_quiet_on) | go_big_quiet_call ((first | (go_at_call 34; exact K34.out _) | (go_at_call 20; exact K20.out _) | (go_at_call 35; exact K35.out _))))))
                  refine wpQuiet_nil ?_
                  intro y
                  go_wp2_with fail
                  go_ret
                  exact ⟨ret_b (by rw [HRES.out]; simp), HVB.out y⟩
              · have d5 : decide (id * 1048576 + 1 + 1048576 ≤ m.call) = true := decide_eq_true (by omega)
                have H5 := Lib.hid h5
                clear h4 h5
                go_wp2_with fail
                go_ret
                exact ⟨ret_b (by rw [← HR.out, rightB, HID.out, show decide (m.call < id * 1048576 + 1 + 1048576) = false from decide_eq_false (by have := H5.out; omega)]; simp), HB.out.trans (y.below.mono HB.out.size)⟩
            · have d4 : decide (m.call < id * 1048576 + 1) = true := decide_eq_true (by omega)
              have H4 := Lib.hid h4
              clear h4
              go_wp2_with fail
              go_ret
              exact ⟨ret_b (by rw [← HR.out, rightB, HID.out, show decide (id * 1048576 + 1 ≤ m.call) = false from decide_eq_false (by have := H4.out; omega)]; simp), HB.out.trans (y.below.mono HB.out.size)⟩
    · have d2 : decide (13 ≤ m.kind) = true := decide_eq_true (by omega)
      have H2 := Lib.hid h2
      clear h1 h2
      go_enter Try.func15, Try.ntmps15
      go_wp2_with fail
      go_ret
      exact ⟨ret_b (by rw [← HR.out, rightB, show decide (m.kind < 13) = false from decide_eq_false (by have := H2.out; omega)]; simp), HB.out⟩
  · have d1 : decide (m.kind < 1) = true := decide_eq_true (by omega)
    have H1 := Lib.hid h1
    clear h1
    go_enter Try.func15, Try.ntmps15
    go_wp2_with fail
    go_ret
    exact ⟨ret_b (by rw [← HR.out, rightB, show decide (1 ≤ m.kind) = false from decide_eq_false (by have := H1.out; omega)]; simp), HB.out⟩
end Go.Proofs.Ytbklgodbjibemaa
