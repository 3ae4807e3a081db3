/- 'WireTells': the walk of the law: payloads, messages of payloads, datagrams, messages of datagrams are the document's. -/
import Derived.Test.YtaacjpcckinaiaaGreatWWakes
import Derived.Test.YtaacjpcckinaiaaGreatWRefB
set_option linter.unusedVariables false
set_option maxRecDepth 100000
set_option linter.unusedSimpArgs false
namespace Go.Proofs.YtaacjpcckinaiaaGreat
open Go.RowKit Go.Shelf Ms

/-- Bytes do not lie in a message's row, unless there are none. -/
theorem sl_row {w : World} {v : Value} {l : List UInt8} {g : Nat} {m : M} {A : Option Addr} {n k : Nat} (h : Sl w v (bv l)) (hr : Rw w g 27 (m.c (.slice A n k))) (hl : l = [] ∨ 2 ≤ l.length) (c' : Array Value) : Sl (w.setRow g c') v (bv l) := by
  rcases h with h1 | ⟨b, off, c, rfl, h1, h2, h3, h4⟩
  · exact .inl h1
  · have hz : b < (w.setRow g c').heap.size := by simp [World.setRow]; exact h3
    by_cases hb : b = g
    · subst hb
      rcases hl with rfl | hl
      · exact .inr ⟨b, off, c, rfl, h1, h2, hz, fun j u hj => by simp [bv] at hj⟩
      · exfalso
        have e := h4 1 _ (bv_get l 1 (by omega))
        rw [hr.cell] at e
        have hlt : off + 1 < 15 := by
          have := (Array.getElem?_eq_some_iff.1 e).1
          exact this
        have ho : off = 0 ∨ off = 1 ∨ off = 2 ∨ off = 3 ∨ off = 4 ∨ off = 5 ∨ off = 6 ∨ off = 7 ∨ off = 8 ∨ off = 9 ∨ off = 10 ∨ off = 11 ∨ off = 12 ∨ off = 13 := by omega
        rcases ho with rfl | rfl | rfl | rfl | rfl | rfl | rfl | rfl | rfl | rfl | rfl | rfl | rfl | rfl <;> · injection e with e; cases e
    · exact .inr ⟨b, off, c, rfl, h1, h2, hz, fun j u hj => (World.cell?_of_block (a := ⟨b, off + j, none⟩) (Go.setRow_other w g b c' hb)).trans (h4 j u hj)⟩
set_option maxHeartbeats 4000000 in
theorem tells_quick (m : M) (A B : Option Addr) (c n d : Nat) (l : List Int) (w : World) (hq : gr m l = true ∨ gr m l = false ∧ 300 < n) :
    Calls Tryz.prog 3 #[.agg (m.c (.slice A l.length c)), .slice B n d] w fun e w' => e = .returned (.bool true) ∧ Below w.heap.size w w' := by
  have r2 := Rw.new w (m.c (.slice A l.length c)) 27
  have H := box_below w (.cells (m.c (.slice A l.length c)) 27)
  have a1 := fun w => great_any m A l.length c w
  change (∀ w, Calls _ _ _ w fun e w' => e = .returned (.bool (gr m l)) ∧ _) at a1
  rcases hq with hg | ⟨hg, hn⟩
  · rw [hg] at a1
    have A1 := Lib.hid a1
    clear hg a1
    go_enter Tryz.func3, Tryz.ntmps3
    go_wp2_with (first
        | (with_reducible show wpList _ _ _ (Oper.mk _ (Op.load 27 (.tmp 2)) _ _ _ _ :: _) _ _
           refine wpList_loadW r2 agg27 rfl _ rfl rfl ?_))
    refine (A1.out _).mono ?_; rintro e w1 ⟨rfl, hb⟩
    replace H := H.trans (hb.mono H.size)
    replace r2 := r2.below hb
    clear hb
    go_wp2_with fail
    refine (wakes_any _).mono ?_; rintro e w2 ⟨rfl, hb⟩
    go_wp2
    go_ret
    exact ⟨rfl, H.trans (hb.mono H.size)⟩
  · rw [hg] at a1
    have A1 := Lib.hid a1
    have hd : decide (300 < (n : Int)) = true := decide_eq_true (by omega)
    clear hg a1
    go_enter Tryz.func3, Tryz.ntmps3
    go_wp2_with (first
        | (with_reducible show wpList _ _ _ (Oper.mk _ (Op.load 27 (.tmp 2)) _ _ _ _ :: _) _ _
           refine wpList_loadW r2 agg27 rfl _ rfl rfl ?_))
    refine (A1.out _).mono ?_; rintro e w1 ⟨rfl, hb⟩
    replace H := H.trans (hb.mono H.size)
    replace r2 := r2.below hb
    clear hb
    go_wp2_with fail
    refine (wakes_any _).mono ?_; rintro e w2 ⟨rfl, hb⟩
    go_wp2
    go_ret
    exact ⟨rfl, H.trans (hb.mono H.size)⟩

set_option maxHeartbeats 16000000 in
theorem tells_main (m : M) (A B : Option Addr) (c n d : Nat) (l : List Int) (b : List UInt8) (hk0 : 0 ≤ m.kind) (w : World) (hs : Sl w (.slice A l.length c) (iv l)) (ht : Sl w (.slice B n d) (bv b)) (hg : gr m l = false) (hn : n ≤ 300) (hbn : b.length = n) :
    Calls Tryz.prog 3 #[.agg (m.c (.slice A l.length c)), .slice B n d] w fun e w' => e = .returned (.bool true) ∧ Below w.heap.size w w' := by
  have r2 := Rw.new w (m.c (.slice A l.length c)) 27
  have H := box_below w (.cells (m.c (.slice A l.length c)) 27)
  have a1 := fun w => great_any m A l.length c w
  change (∀ w, Calls _ _ _ w fun e w' => e = .returned (.bool (gr m l)) ∧ _) at a1
  rw [hg] at a1
  have a2 := fun w h => Payload_any m A c l hk0 w h
  change (∀ w h, Calls _ _ _ w fun e w' => ∃ v, e = .returned (.tuple #[v, .int .i64 (payE m l)]) ∧ Slf w.heap.size w' v (bv (payR m l)) ∧ _) at a2
  have a3 := fun w h => Payload_ref m A c l hk0 w h
  have a4 := fun v w h => Read_any v b w h
  have a5 := fun v w h => Read_ref v b w h (by omega)
  have a6 := fun va vb w h1 h2 => same_any va vb (payR m l) (payR m l) w h1 h2
  have a7 := fun w h => Put_any m A c l hk0 w h
  have a8 := fun w h => Put_ref m A c l hk0 w h
  have a9 := fun v w h => Take_own v b w h
  have a10 := fun v w h => Take_ref v b w h (by omega)
  have a11 := fun va vb w h1 h2 => same_any va vb (putR m l) (putR m l) w h1 h2
  simp only [decide_true] at a6 a11
  obtain ⟨X, L, G, hX⟩ : ∃ X L G, readR b = (X, L, G) := ⟨_, _, _, rfl⟩
  obtain ⟨Y, K, J, hY⟩ : ∃ X L G, takeR b = (X, L, G) := ⟨_, _, _, rfl⟩
  simp only [hX] at a4 a5
  simp only [hY] at a9 a10
  have ql : putR m l = [] ∨ 2 ≤ (putR m l).length := by
    unfold putR
    split
    · rename_i h
      unfold Frm.closeB
      rw [if_neg (by have := payB_len h; omega), Frm.frm_length]
      exact .inr (by omega)
    · exact .inl rfl
  generalize payE m l = E at *
  generalize payR m l = PR at *
  generalize putR m l = QR at *
  have sx : same X X L L = true := same_iff.2 ⟨rfl, rfl⟩
  have sy : same Y Y K K = true := same_iff.2 ⟨rfl, rfl⟩
  have A1 := Lib.hid a1
  have A2 := Lib.hid a2
  have A3 := Lib.hid a3
  have A4 := Lib.hid a4
  have A5 := Lib.hid a5
  have A6 := Lib.hid a6
  have A7 := Lib.hid a7
  have A8 := Lib.hid a8
  have A9 := Lib.hid a9
  have A10 := Lib.hid a10
  have A11 := Lib.hid a11
  have SX := Lib.hid sx
  have QL := Lib.hid ql
  have SY := Lib.hid sy
  have HS := Lib.hid hs
  have HT := Lib.hid ht
  have hd : decide (300 < (n : Int)) = false := decide_eq_false (by omega)
  clear a1 a2 a3 a4 a5 a6 a7 a8 a9 a10 a11 sx sy ql hs ht hg hn hbn hX hY
  go_enter Tryz.func3, Tryz.ntmps3
  go_wp2_with (first
      | (with_reducible show wpList _ _ _ (Oper.mk _ (Op.load 27 (.tmp 2)) _ _ _ _ :: _) _ _
         refine wpList_loadW r2 agg27 rfl _ rfl rfl ?_))
  refine (A1.out _).mono ?_; rintro e w1 ⟨rfl, hb⟩
  replace H := H.trans (hb.mono H.size)
  replace r2 := r2.below hb
  clear hb
  go_wp2_with (first
      | (with_reducible show wpList _ _ _ (Oper.mk _ (Op.load 27 (.tmp 2)) _ _ _ _ :: _) _ _
         refine wpList_loadW r2 agg27 rfl _ rfl rfl ?_))
  refine (A2.out _ (HS.out.below H)).mono ?_; rintro e w2 ⟨v5, rfl, s5f, hb⟩
  have s5 := s5f.sl
  replace H := H.trans (hb.mono H.size)
  replace r2 := r2.below hb
  clear hb s5f
  go_wp2_with (first
      | (with_reducible show wpList _ _ _ (Oper.mk _ (Op.load 27 (.tmp 2)) _ _ _ _ :: _) _ _
         refine wpList_loadW r2 agg27 rfl _ rfl rfl ?_))
  refine (A3.out _ (HS.out.below H)).mono ?_; rintro e w3 ⟨v7, rfl, s7, hb⟩
  replace H := H.trans (hb.mono H.size)
  replace r2 := r2.below hb
  replace s5 := s5.below hb
  clear hb
  go_wp2_with fail
  refine (A4.out _ _ (HT.out.below H)).mono ?_; rintro e w4 ⟨lv9, rfl, s9f, hb⟩
  replace H := H.trans (hb.mono H.size)
  replace r2 := r2.below hb
  replace s5 := s5.below hb
  replace s7 := s7.below hb
  obtain ⟨A9', n9, c9, rfl⟩ := s9f.sl.slice
  have hw4 := H.size
  have r9 := (Rw.new w4 (noM.c nilS) 27).setRow (c' := X.c (.slice A9' n9 c9))
  have B9 := below_setRow (box_below w4 (.cells (noM.c nilS) 27)) (Nat.le_refl _) (X.c (.slice A9' n9 c9))
  have s9 := s9f.sl.below B9
  replace H := H.trans (B9.mono H.size)
  replace r2 := r2.below B9
  replace s5 := s5.below B9
  replace s7 := s7.below B9
  clear hb B9 s9f
  go_wp2_with (first
      | (with_reducible show wpList _ _ _ (Oper.mk _ (Op.store 27 (.tmp 9) _) _ _ _ _ :: _) _ _
         refine wpList_storeR (c := X.c (.slice A9' n9 c9)) rfl _ _ rfl rfl rfl agg27.hi (Rw.new w4 (noM.c nilS) 27) rfl (M.one _ rfl) ?_
         refine gen_w (fun V => Below w.heap.size w V ∧ Rw V w.heap.size 27 (m.c (.slice A l.length c)) ∧ Sl V v5 (bv PR) ∧ Sl V v7 (bv PR) ∧ Sl V (.slice A9' n9 c9) (iv L) ∧ Rw V w4.heap.size 27 (X.c (.slice A9' n9 c9))) ⟨H, r2, s5, s7, s9, r9⟩ ?_
         clear H r2 s5 s7 s9 r9
         rintro w5 ⟨H, r2, s5, s7, s9, r9⟩))
  refine (A5.out _ _ (HT.out.below H)).mono ?_; rintro e w6 ⟨lv11, rfl, s11f, hb⟩
  replace H := H.trans (hb.mono H.size)
  replace r2 := r2.below hb
  replace s5 := s5.below hb
  replace s7 := s7.below hb
  replace s9 := s9.below hb
  replace r9 := r9.below hb
  obtain ⟨A11', n11, c11, rfl⟩ := s11f.sl.slice
  have hw6 := H.size
  have r11 := (Rw.new w6 (noM.c nilS) 27).setRow (c' := X.c (.slice A11' n11 c11))
  have B11 := below_setRow (box_below w6 (.cells (noM.c nilS) 27)) (Nat.le_refl _) (X.c (.slice A11' n11 c11))
  have s11 := s11f.sl.below B11
  have hg9 := r9.lt
  replace H := H.trans (B11.mono H.size)
  replace r2 := r2.below B11
  replace s5 := s5.below B11
  replace s7 := s7.below B11
  replace s9 := s9.below B11
  replace r9 := r9.below B11
  clear hb B11 s11f
  go_wp2_with (first
      | (with_reducible show wpList _ _ _ (Oper.mk _ (Op.store 27 (.tmp 11) _) _ _ _ _ :: _) _ _
         refine wpList_storeR (c := X.c (.slice A11' n11 c11)) rfl _ _ rfl rfl rfl agg27.hi (Rw.new w6 (noM.c nilS) 27) rfl (M.one _ rfl) ?_
         refine gen_w (fun V => Below w.heap.size w V ∧ Rw V w.heap.size 27 (m.c (.slice A l.length c)) ∧ Sl V v5 (bv PR) ∧ Sl V v7 (bv PR) ∧ Sl V (.slice A9' n9 c9) (iv L) ∧ Rw V w4.heap.size 27 (X.c (.slice A9' n9 c9)) ∧ Sl V (.slice A11' n11 c11) (iv L) ∧ Rw V w6.heap.size 27 (X.c (.slice A11' n11 c11))) ⟨H, r2, s5, s7, s9, r9, s11, r11⟩ ?_
         clear H r2 s5 s7 s9 r9 s11 r11
         rintro w7 ⟨H, r2, s5, s7, s9, r9, s11, r11⟩))
  refine (A6.out _ _ _ s5 s7).mono ?_; rintro e w' ⟨rfl, rfl⟩
  go_wp2_with (first
      | (with_reducible show wpList _ _ _ (Oper.mk _ (Op.load 27 (.tmp 9)) _ _ _ _ :: _) _ _
         refine wpList_loadW r9 agg27 rfl _ rfl rfl ?_)
      | (with_reducible show wpList _ _ _ (Oper.mk _ (Op.load 27 (.tmp 11)) _ _ _ _ :: _) _ _
         refine wpList_loadW r11 agg27 rfl _ rfl rfl ?_))
  refine (rSame_any X X _ _ L L _ s9 s11).mono ?_; rintro e w8 ⟨rfl, hb⟩
  rw [SX.out]
  replace H := H.trans (hb.mono H.size)
  replace r2 := r2.below hb
  replace r9 := r9.below hb
  replace r11 := r11.below hb
  clear hb s5 s7 s9 s11
  go_wp2_with (first
      | (with_reducible show wpList _ _ _ (Oper.mk _ (Op.load 27 (.tmp 2)) _ _ _ _ :: _) _ _
         refine wpList_loadW r2 agg27 rfl _ rfl rfl ?_))
  refine (A7.out _ (HS.out.below H)).mono ?_; rintro e w9 ⟨v5, rfl, s5, hb⟩
  replace H := H.trans (hb.mono H.size)
  replace r2 := r2.below hb
  replace r9 := r9.below hb
  replace r11 := r11.below hb
  clear hb
  go_wp2_with (first
      | (with_reducible show wpList _ _ _ (Oper.mk _ (Op.load 27 (.tmp 2)) _ _ _ _ :: _) _ _
         refine wpList_loadW r2 agg27 rfl _ rfl rfl ?_))
  refine (A8.out _ (HS.out.below H)).mono ?_; rintro e w10 ⟨v7, rfl, s7, hb⟩
  replace H := H.trans (hb.mono H.size)
  replace r9 := r9.below hb
  replace r11 := r11.below hb
  replace s5 := s5.below hb
  clear hb r2
  go_wp2_with fail
  have hs9 := r9.lt
  have hs11 := r11.lt
  refine (A9.out _ _ (HT.out.below H)).mono ?_; rintro e w11 ⟨lv12, rfl, s12, hb⟩
  replace H := H.trans (hb.mono H.size)
  replace r9 := r9.below hb
  replace r11 := r11.below hb
  replace s5 := s5.below hb
  replace s7 := s7.below hb
  obtain ⟨A12, n12, c12, rfl⟩ := s12.sl.slice
  have u5 := sl_row s5 r9 QL.out (Y.c (.slice A12 n12 c12))
  have u7 := sl_row s7 r9 QL.out (Y.c (.slice A12 n12 c12))
  have u12 := s12.setRow_ (b := w4.heap.size) hs9 (Y.c (.slice A12 n12 c12))
  have u9 := r9.setRow (c' := Y.c (.slice A12 n12 c12))
  have u11 := r11.setRow_other (g := w4.heap.size) (c' := Y.c (.slice A12 n12 c12)) (Nat.ne_of_lt hg9).symm
  have uH := below_setRow H (g := w4.heap.size) hw4 (Y.c (.slice A12 n12 c12))
  clear s5 s7 s12 hb
  go_wp2_with (first
      | (with_reducible show wpList _ _ _ (Oper.mk _ (Op.store 27 (.tmp 9) _) _ _ _ _ :: _) _ _
         refine wpList_storeR (c := Y.c (.slice A12 n12 c12)) rfl _ _ rfl rfl rfl agg27.hi r9 rfl (M.one _ rfl) ?_
         refine gen_w (fun V => Below w.heap.size w V ∧ Sl V v5 (bv QR) ∧ Sl V v7 (bv QR) ∧ Slf w10.heap.size V (.slice A12 n12 c12) (iv K) ∧ Rw V w4.heap.size 27 (Y.c (.slice A12 n12 c12)) ∧ Rw V w6.heap.size 27 (X.c (.slice A11' n11 c11))) ⟨uH, u5, u7, u12, u9, u11⟩ ?_
         clear H r9 r11 uH u5 u7 u12 u9 u11
         rintro w12 ⟨H, s5, s7, s12, r9, r11⟩))
  have hs12 := H.size
  refine (A10.out _ _ (HT.out.below H)).mono ?_; rintro e w13 ⟨lv14, rfl, s14, hb⟩
  have hss : w6.heap.size < w12.heap.size := r11.lt
  replace H := H.trans (hb.mono H.size)
  replace r9 := r9.below hb
  replace r11 := r11.below hb
  replace s5 := s5.below hb
  replace s7 := s7.below hb
  replace s12 := s12.below hb
  obtain ⟨A14, n14, c14, rfl⟩ := s14.sl.slice
  have u5 := sl_row s5 r11 QL.out (Y.c (.slice A14 n14 c14))
  have u7 := sl_row s7 r11 QL.out (Y.c (.slice A14 n14 c14))
  have u12 := s12.setRow_ (b := w6.heap.size) hs11 (Y.c (.slice A14 n14 c14))
  have u14 := s14.setRow_ (b := w6.heap.size) hss (Y.c (.slice A14 n14 c14))
  have u11 := r11.setRow (c' := Y.c (.slice A14 n14 c14))
  have u9 := r9.setRow_other (g := w6.heap.size) (c' := Y.c (.slice A14 n14 c14)) (Nat.ne_of_lt hg9)
  have uH := below_setRow H (g := w6.heap.size) hw6 (Y.c (.slice A14 n14 c14))
  clear s5 s7 s12 s14 hb
  go_wp2_with (first
      | (with_reducible show wpList _ _ _ (Oper.mk _ (Op.store 27 (.tmp 11) _) _ _ _ _ :: _) _ _
         refine wpList_storeR (c := Y.c (.slice A14 n14 c14)) rfl _ _ rfl rfl rfl agg27.hi r11 rfl (M.one _ rfl) ?_
         refine gen_w (fun V => Below w.heap.size w V ∧ Sl V v5 (bv QR) ∧ Sl V v7 (bv QR) ∧ Sl V (.slice A12 n12 c12) (iv K) ∧ Rw V w4.heap.size 27 (Y.c (.slice A12 n12 c12)) ∧ Sl V (.slice A14 n14 c14) (iv K) ∧ Rw V w6.heap.size 27 (Y.c (.slice A14 n14 c14))) ⟨uH, u5, u7, u12.sl, u9, u14.sl, u11⟩ ?_
         clear H r9 r11 uH u5 u7 u12 u9 u11 u14
         rintro w14 ⟨H, s5, s7, s12, r9, s14, r11⟩))
  refine (A11.out _ _ _ s5 s7).mono ?_; rintro e w' ⟨rfl, rfl⟩
  go_wp2_with (first
      | (with_reducible show wpList _ _ _ (Oper.mk _ (Op.load 27 (.tmp 9)) _ _ _ _ :: _) _ _
         refine wpList_loadW r9 agg27 rfl _ rfl rfl ?_)
      | (with_reducible show wpList _ _ _ (Oper.mk _ (Op.load 27 (.tmp 11)) _ _ _ _ :: _) _ _
         refine wpList_loadW r11 agg27 rfl _ rfl rfl ?_))
  refine (rSame_any Y Y _ _ K K _ s12 s14).mono ?_; rintro e w15 ⟨rfl, hb⟩
  rw [SY.out]
  replace H := H.trans (hb.mono H.size)
  clear hb s5 s7 s12 s14 r9 r11
  go_wp2_with fail
  refine (wakes_any _).mono ?_; rintro e w16 ⟨rfl, hb⟩
  go_wp2
  go_ret
  exact ⟨rfl, H.trans (hb.mono H.size)⟩

theorem tells_walk (W : World) (m : M) (v : Value) (l : List Int) (hs : Sl W v (iv l)) (hm0 : 0 ≤ m.kind) (u : Value) (b : List UInt8) (ht : Sl W u (bv b)) :
    Calls Tryz.prog 3 #[.agg (m.c v), u] W fun e w' => e = .returned (.bool true) ∧ Below W.heap.size W w' := by
  obtain ⟨A, n, c, rfl⟩ := hs.slice
  obtain ⟨B, d, rfl⟩ := ht.form
  obtain ⟨rfl, _⟩ := hs.llen
  have hbl := bv_length b
  cases hg : gr m l with
  | true => exact tells_quick m A B c _ d l W (.inl hg)
  | false =>
    by_cases h : 300 < (bv b).length
    · exact tells_quick m A B c _ d l W (.inr ⟨hg, h⟩)
    · exact tells_main m A B c _ d l b hm0 W hs ht hg (by omega) hbl.symm

end Go.Proofs.YtaacjpcckinaiaaGreat
