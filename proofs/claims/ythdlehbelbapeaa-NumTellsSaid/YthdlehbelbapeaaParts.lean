/- 'NumParts': a text's bytes are its length and it, a list's its length and each number's, one behind the other; and numbers side by side are taken one by one. -/
import Derived.Test.YthdlehbelbapeaaTexts
namespace Go.Proofs.Ythdlehbelbapeaa
open Go.RowKit Go.Shelf

set_option maxRecDepth 100000 in
set_option maxHeartbeats 1000000 in
theorem parts_long (S : ByteArray) (A : Option Addr) (n c : Nat) (w : World) (h : 255 < S.size ∨ 100 < n) :
    Calls Try.prog 8 #[.string S, .slice A n c] w fun e w' => e = .returned (.bool true) ∧ Below w.heap.size w w' := by
  go_enter Try.func8, Try.ntmps8
  go_wp2_with (go_at_call 9; refine (wakes_any _).mono ?_; rintro e w' ⟨rfl, hb⟩)
  all_goals
    go_ret
    exact ⟨rfl, hb⟩
theorem numsI_cons (x : Int) (l : List Int) : numsI (x :: l) = num x.toNat ++ numsI l := by simp [numsI, nums]
theorem u8_nat (n : Nat) (h : n ≤ 255) : ((UInt8.ofNat n).toNat : Int) = n := by simp; omega
/-- A row of bytes that begins with how many there are: the first byte, and what is cut behind it. -/
theorem head_cut (n : Nat) (h : n ≤ 255) (t : List UInt8) (v : Value) (w : World) (H : Sl w v (bv (UInt8.ofNat n :: t))) :
    ∃ b off c, v = .slice (some ⟨b, off, none⟩) (t.length + 1) c ∧ b < w.heap.size ∧ w.cell? ⟨b, off, none⟩ = some (.int .u8 (n : Int)) ∧
      ∃ A c2, (∀ W, (Instr.slice 23 (.slice (some ⟨b, off, none⟩) (t.length + 1) c) (some (.int .i64 1)) none none).run Try.prog W = .ok (.slice A t.length c2) W) ∧ Sl w (.slice A t.length c2) (bv t) := by
  obtain ⟨b, off, c, rfl, h1, h2, h3, h4, h5⟩ := H.bytes_cons
  rw [u8_nat n h] at h4
  have hl : (bv (UInt8.ofNat n :: t)).length = t.length + 1 := by rw [bv_length]; rfl
  obtain ⟨A, c2, r, s⟩ := run_cut el23 H 1 (bv (UInt8.ofNat n :: t)).length (by omega) (Nat.le_refl _) (some (.int .i64 1)) none (.inl rfl) (.inr ⟨rfl, rfl⟩)
  rw [List.take_length, bv_drop, hl, Nat.add_sub_cancel] at s
  rw [hl, Nat.add_sub_cancel] at r
  exact ⟨b, off, c, rfl, h3, h4, A, c2, r, s⟩

set_option maxRecDepth 100000 in
set_option maxHeartbeats 4000000 in
theorem parts_bad (S : ByteArray) (A : Option Addr) (n c : Nat) (l : List Int) (w : World) (hA : Sl w (.slice A n c) (iv l)) (hln : l.length = n) (h1 : S.size ≤ 255) (h2 : n ≤ 100) (hok : okB l = false) :
    Calls Try.prog 8 #[.string S, .slice A n c] w fun e w' => e = .returned (.bool true) ∧ Below w.heap.size w w' := by
  have SA := Lib.hid hA
  have HLN := Lib.hid hln
  have HOK := Lib.hid hok
  have hsl := S_len S
  have HSL := Lib.hid hsl
  clear hA hln hsl hok
  go_enter Try.func8, Try.ntmps8
  go_wp2_with fail
  refine (text_ok S h1 _).mono ?_
  rintro e w1 ⟨v1, rfl, s1, H⟩
  obtain ⟨b1, off1, c1, rfl, _, hc1, A1, d1, r1, s2⟩ := head_cut S.size h1 _ v1 w1 s1
  rw [HSL.out] at r1 s2
  have r2 := run_str (P := Try.prog) 23 9 5 Try.underlying23 Try.underlying5 Try.underlying9 _ _ s2
  rw [bytes_eq] at r2
  rw [HSL.out]
  clear s1 s2
  go_wp2_with fail
  clear r1 r2 hc1
  refine (list_not l HOK.out _ _ (SA.out.below H)).mono ?_
  rintro e w2 ⟨v2, rfl, s3, hb3⟩
  replace H := H.trans (hb3.mono H.size)
  clear hb3
  obtain ⟨A3, c3, rfl⟩ := s3.form
  clear s3
  go_wp2_with fail
  have HW := Lib.hid H
  clear H
  go_loopw [9, 10] (fun v9 v10 W => ∃ k : Nat, k ≤ n ∧ v10 = .int .i64 k ∧ okB (l.take k) = true ∧ W.ownsRow w2.heap.size 5 1 v9 (numsI (l.take k)).length (bv (numsI (l.take k))) ∧ Below w2.heap.size w2 W) (fun _ i _ => n - (intOf i).toNat)
  case atStart => exact ⟨0, Nat.zero_le _, rfl, rfl, World.ownsRow_nil _ _ _ _, Below.refl _ _⟩
  case round =>
    obtain ⟨k, hk, rfl, hokk, hrow, hB⟩ := hrel
    have HOKK := Lib.hid hokk
    clear hokk
    by_cases hlt : k < n
    · have hkl : k < l.length := by rw [HLN.out]; exact hlt
      obtain ⟨b, off, rfl, hcell⟩ : ∃ b off, A = some ⟨b, off, none⟩ ∧ wr.cell? ⟨b, off + k, none⟩ = some (.int .i64 l[k]) := by
        rcases (SA.out.below (HW.out.trans (hB.mono HW.out.size))).ints with ⟨h, hl0⟩ | ⟨b, off, c', h, _, hc⟩
        · rw [hl0] at hkl; simp at hkl
        · injection h with h
          exact ⟨b, off, h, hc k hkl⟩
      have hsn : okB (l.take (k + 1)) = (okB (l.take k) && decide (0 ≤ l[k] ∧ l[k] ≤ 1099511627776)) := by
        rw [List.take_succ_eq_append_getElem hkl, okB_snoc]
      have hnm : numsI (l.take (k + 1)) = numsI (l.take k) ++ num l[k].toNat := by
        rw [List.take_succ_eq_append_getElem hkl, numsI_snoc]
      have HSN := Lib.hid hsn
      have HNM := Lib.hid hnm
      have hl7 := numsI_len (l.take k) ((okB_iff _).1 HOKK.out)
      rw [List.length_take] at hl7
      have hl8 : (numsI (l.take k)).length ≤ 700 := by omega
      clear hsn hnm hl7
      generalize l[k] = x at *
      by_cases hx : 0 ≤ x ∧ x ≤ 1099511627776
      · obtain ⟨hx0, hx1⟩ := hx
        have h6 := dig_len6 x.toNat (by omega)
        have hnl := num_length x.toNat
        have HNL := Lib.hid hnl
        clear hnl
        go_wp2_with (first
          | (go_at_call 10; refine (put_ok x hx0 hx1 _).mono ?_; rintro e w4 ⟨v4, rfl, s4, hb4⟩)
          | (at_builtin; refine wpList_app el23 rfl (.tmp 89) (.tmp 90) rfl w2.heap.size _ _ _ rfl (ownsRow_below hrow hb4) _ _ rfl s4 (bv_one _) (by have e1 := bv_length (num x.toNat); have e2 := HNL.out; omega) (by have := hB.size; have := hb4.size; omega) ?_; intro vA wA hownA hgA hatA))
        go_roundw
        case rel =>
          have hbl : Below w2.heap.size wr wA := (hb4.mono hB.size).grown hgA (by have := hB.size; have := hb4.size; omega) (fun g e => (hrow.lt g e).1)
          refine ⟨k + 1, by omega, by go_num, by rw [HSN.out, HOKK.out]; simp [hx0, hx1], ?_, hB.trans hbl⟩
          rw [HNM.out, List.length_append, bv_append]
          rw [bv_length (num x.toNat)] at hownA
          exact hownA
        case measure => simp [intOf]; omega
      · go_wp2_with (go_at_call 10; refine (put_not x hx _).mono ?_; rintro e w4 ⟨v4, rfl, s4, hb4⟩)
        refine (wakes_any _).mono ?_
        rintro e w5 ⟨rfl, hb5⟩
        go_wp2
        go_ret
        have HF := (HW.out.trans (hB.mono HW.out.size)).trans (hb4.mono (by have := hB.size; have := HW.out.size; omega))
        exact ⟨rfl, HF.trans (hb5.mono HF.size)⟩
    · exfalso
      obtain rfl : k = n := by omega
      have h3 := HOKK.out
      rw [List.take_of_length_le (by rw [HLN.out]; exact Nat.le_refl _), HOK.out] at h3
      cases h3

set_option maxRecDepth 100000 in
set_option maxHeartbeats 4000000 in
theorem parts_ok (S : ByteArray) (A : Option Addr) (n c : Nat) (l : List Int) (w : World) (hA : Sl w (.slice A n c) (iv l)) (hln : l.length = n) (h1 : S.size ≤ 255) (h2 : n ≤ 100) (hok : okB l = true) :
    Calls Try.prog 8 #[.string S, .slice A n c] w fun e w' => e = .returned (.bool true) ∧ Below w.heap.size w w' := by
  have SA := Lib.hid hA
  have HLN := Lib.hid hln
  have HOK := Lib.hid hok
  have hsl := S_len S
  have HSL := Lib.hid hsl
  clear hA hln hsl hok
  go_enter Try.func8, Try.ntmps8
  go_wp2_with fail
  refine (text_ok S h1 _).mono ?_
  rintro e w1 ⟨v1, rfl, s1, H⟩
  obtain ⟨b1, off1, c1, rfl, _, hc1, A1, d1, r1, s2⟩ := head_cut S.size h1 _ v1 w1 s1
  rw [HSL.out] at r1 s2
  have r2 := run_str (P := Try.prog) 23 9 5 Try.underlying23 Try.underlying5 Try.underlying9 _ _ s2
  rw [bytes_eq] at r2
  rw [HSL.out]
  clear s1 s2
  go_wp2_with fail
  clear r1 r2 hc1
  refine (list_ok l (by have := HLN.out; omega) HOK.out _ _ (SA.out.below H)).mono ?_
  rintro e w2 ⟨v2, rfl, s3, hb3⟩
  replace H := H.trans (hb3.mono H.size)
  clear hb3
  obtain ⟨b3, off3, c3, rfl, hb3l, hc3, A3, d3, r3, s4⟩ := head_cut l.length (by have := HLN.out; omega) _ v2 w2 s3
  have hl7 := numsI_len l ((okB_iff _).1 HOK.out)
  rw [HLN.out] at hl7
  have hl70 : (numsI l).length ≤ 700 := by omega
  clear hl7
  generalize hLL : (numsI l).length = LL at *
  have HLL := Lib.hid hLL
  rw [HLN.out] at hc3
  have HC3 := Lib.hid hc3
  have R3 := Lib.hid r3
  have S4 := Lib.hid s4
  clear s3 hc3 r3 s4 hLL
  go_wp2_with fail
  have HW := Lib.hid H
  clear H
  go_loopw [9, 10] (fun v9 v10 W => ∃ k : Nat, k ≤ n ∧ v10 = .int .i64 k ∧ okB (l.take k) = true ∧ W.ownsRow w2.heap.size 5 1 v9 (numsI (l.take k)).length (bv (numsI (l.take k))) ∧ Below w2.heap.size w2 W) (fun _ i _ => n - (intOf i).toNat)
  case atStart => exact ⟨0, Nat.zero_le _, rfl, rfl, World.ownsRow_nil _ _ _ _, Below.refl _ _⟩
  case round =>
    obtain ⟨k, hk, rfl, hokk, hrow, hB⟩ := hrel
    have HOKK := Lib.hid hokk
    clear hokk
    by_cases hlt : k < n
    · have hkl : k < l.length := by rw [HLN.out]; exact hlt
      obtain ⟨b, off, rfl, hcell⟩ : ∃ b off, A = some ⟨b, off, none⟩ ∧ wr.cell? ⟨b, off + k, none⟩ = some (.int .i64 l[k]) := by
        rcases (SA.out.below (HW.out.trans (hB.mono HW.out.size))).ints with ⟨h, hl0⟩ | ⟨b, off, c', h, _, hc⟩
        · rw [hl0] at hkl; simp at hkl
        · injection h with h
          exact ⟨b, off, h, hc k hkl⟩
      have hsn : okB (l.take (k + 1)) = (okB (l.take k) && decide (0 ≤ l[k] ∧ l[k] ≤ 1099511627776)) := by
        rw [List.take_succ_eq_append_getElem hkl, okB_snoc]
      have hnm : numsI (l.take (k + 1)) = numsI (l.take k) ++ num l[k].toNat := by
        rw [List.take_succ_eq_append_getElem hkl, numsI_snoc]
      have HSN := Lib.hid hsn
      have HNM := Lib.hid hnm
      have hl7 := numsI_len (l.take k) ((okB_iff _).1 HOKK.out)
      rw [List.length_take] at hl7
      have hl8 : (numsI (l.take k)).length ≤ 700 := by omega
      clear hsn hnm hl7
      generalize l[k] = x at *
      by_cases hx : 0 ≤ x ∧ x ≤ 1099511627776
      · obtain ⟨hx0, hx1⟩ := hx
        have h6 := dig_len6 x.toNat (by omega)
        have hnl := num_length x.toNat
        have HNL := Lib.hid hnl
        clear hnl
        go_wp2_with (first
          | (go_at_call 10; refine (put_ok x hx0 hx1 _).mono ?_; rintro e w4 ⟨v4, rfl, s4, hb4⟩)
          | (at_builtin; refine wpList_app el23 rfl (.tmp 89) (.tmp 90) rfl w2.heap.size _ _ _ rfl (ownsRow_below hrow hb4) _ _ rfl s4 (bv_one _) (by have e1 := bv_length (num x.toNat); have e2 := HNL.out; omega) (by have := hB.size; have := hb4.size; omega) ?_; intro vA wA hownA hgA hatA))
        go_roundw
        case rel =>
          have hbl : Below w2.heap.size wr wA := (hb4.mono hB.size).grown hgA (by have := hB.size; have := hb4.size; omega) (fun g e => (hrow.lt g e).1)
          refine ⟨k + 1, by omega, by go_num, by rw [HSN.out, HOKK.out]; simp [hx0, hx1], ?_, hB.trans hbl⟩
          rw [HNM.out, List.length_append, bv_append]
          rw [bv_length (num x.toNat)] at hownA
          exact hownA
        case measure => simp [intOf]; omega
      · exfalso
        have h3 := (okB_iff l).1 HOK.out
        have h4 := (okB_iff (l.take (k + 1)))
        rw [HSN.out] at h4
        have h5 := h4.2 (fun y hy => h3 y (List.mem_of_mem_take hy))
        simp only [Bool.and_eq_true, decide_eq_true_eq] at h5
        exact hx h5.2
    · obtain rfl : k = n := by omega
      have hall : l.take k = l := List.take_of_length_le (by rw [HLN.out]; exact Nat.le_refl _)
      rw [hall] at hrow
      clear hall
      have s9 := Sl.of_own hrow
      obtain ⟨A9, c9, rfl⟩ := s9.form
      have hc3 := (hB.cell (p := ⟨b3, off3, none⟩) hb3l).trans HC3.out
      have r3 := R3.out
      have HB := Lib.hid hB
      rw [bv_length, HLL.out] at s9 ⊢
      have S9 := Lib.hid s9
      clear hrow hB s9
      go_wp2_with fail
      refine (same_below _ _ (numsI l) (numsI l) _ (S4.out.below HB.out) S9.out).mono ?_
      rintro e w6 ⟨rfl, hb6⟩
      simp only [decide_true]
      clear hc3 r3
      have H6 : Below w.heap.size w w6 := (HW.out.trans (HB.out.mono HW.out.size)).trans (hb6.mono (by have := HW.out.size; have := HB.out.size; omega))
      have HW6 := Lib.hid H6
      have s10 := S9.out.below hb6
      have S10 := Lib.hid s10
      clear hb6 H6 s10
      go_wp2_with fail
      go_loopw [13, 14] (fun v13 v14 W => ∃ (j len : Nat) (A : Option Addr) (c : Nat), j ≤ k ∧ v14 = .int .i64 j ∧ v13 = .slice A len c ∧ len = (numsI (l.drop j)).length ∧ len ≤ 700 ∧ Sl W (.slice A len c) (bv (numsI (l.drop j))) ∧ Below w.heap.size w W) (fun _ i _ => k - (intOf i).toNat)
      case atStart => exact ⟨0, LL, A9, c9, Nat.zero_le _, rfl, rfl, by rw [List.drop_zero]; exact HLL.out.symm, hl70, by rw [List.drop_zero]; exact S10.out, HW6.out⟩
      case round =>
        obtain ⟨j, len, A13, c13, hj, rfl, rfl, hlen, hl13, hs13, hB13⟩ := hrel
        have HS13 := Lib.hid hs13
        have HB13 := Lib.hid hB13
        have HLN13 := Lib.hid hlen
        clear hs13 hB13 hlen
        by_cases hlt2 : j < k
        · have hkl : j < l.length := by rw [HLN.out]; exact hlt2
          have hdr : l.drop j = l[j] :: l.drop (j + 1) := List.drop_eq_getElem_cons hkl
          obtain ⟨b, off, rfl, hcell⟩ : ∃ b off, A = some ⟨b, off, none⟩ ∧ wr.cell? ⟨b, off + j, none⟩ = some (.int .i64 l[j]) := by
            rcases (SA.out.below HB13.out).ints with ⟨h, hl0⟩ | ⟨b, off, c', h, _, hc⟩
            · rw [hl0] at hkl; simp at hkl
            · injection h with h
              exact ⟨b, off, h, hc j hkl⟩
          have hx := (okB_iff l).1 HOK.out l[j] (List.getElem_mem hkl)
          have hs := HS13.out
          have hln := HLN13.out
          rw [hdr, numsI_cons] at hs hln
          generalize l[j] = x at *
          obtain ⟨hx0, hx1⟩ := hx
          have h6 := dig_len6 x.toNat (by omega)
          rw [List.length_append, num_length] at hln
          generalize hl2 : (numsI (l.drop (j + 1))).length = len2 at *
          have HL2 := Lib.hid hl2
          have HS := Lib.hid hs
          clear hl2 hs hdr
          have hlt3 : len2 < len := by omega
          have hge : (len2 : Int) < (len : Int) := by omega
          clear hln
          go_wp2_with (go_at_call 17; refine (take_num x hx0 hx1 _ _ _ HS.out (by have := HL2.out; omega)).mono ?_; rintro e w14 ⟨v14, rfl, s14, hb14⟩; obtain ⟨A14, c14, rfl⟩ := s14.form; rw [bv_length, HL2.out] at s14 ⊢; have HS14 := Lib.hid s14; have HB14 := Lib.hid hb14; have hc14 := (HB14.out.cell (p := ⟨b, off + j, none⟩) (World.block_lt_of_cell? _ _ hcell)).trans hcell; clear s14 hb14)
          go_roundw
          case rel => exact ⟨j + 1, len2, A14, c14, by omega, by go_num, rfl, HL2.out.symm, by omega, HS14.out, HB13.out.trans (HB14.out.mono HB13.out.size)⟩
          case measure => simp [intOf]; omega
        · obtain rfl : j = k := by omega
          have hz : len = 0 := by
            have := HLN13.out
            rw [List.drop_of_length_le (by rw [HLN.out]; exact Nat.le_refl _)] at this
            simpa [numsI, nums] using this
          subst hz
          go_wp2_with fail
          refine (wakes_any _).mono ?_
          rintro e w15 ⟨rfl, hb15⟩
          go_wp2
          go_ret
          exact ⟨rfl, HB13.out.trans (hb15.mono HB13.out.size)⟩

end Go.Proofs.Ythdlehbelbapeaa
