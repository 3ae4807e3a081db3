/- 'NumOnly': what is taken has just those bytes that were there. -/
import Derived.Test.YthdlehbelbapeaaParts
namespace Go.Proofs.Ythdlehbelbapeaa
open Go.RowKit Go.Shelf

set_option maxRecDepth 100000 in
set_option maxHeartbeats 1000000 in
theorem only_long (A : Option Addr) (n c : Nat) (w : World) (h : 600 < n) :
    Calls Try.prog 6 #[.slice A n c] w fun e w' => e = .returned (.bool true) ∧ Below w.heap.size w w' := by
  go_enter Try.func6, Try.ntmps6
  go_wp2_with (go_at_call 9; refine (wakes_any _).mono ?_; rintro e w' ⟨rfl, hb⟩)
  go_ret
  exact ⟨rfl, hb⟩

theorem only_take (l : List UInt8) (hl : l.length ≤ 600) (h : (takeE l).2.2 = 0) : ∃ (n : Nat) (r : List UInt8), n ≤ 1099511627776 ∧ num n ++ r = l ∧ ∀ v w, Sl w v (bv l) → Calls Try.prog 17 #[v] w fun e w' => ∃ v', e = .returned (.tuple #[.int .i64 (n : Int), v', .int .i64 0]) ∧ Sl w' v' (bv r) ∧ Below w.heap.size w w' := by
  obtain ⟨h1, h2, h3, h4⟩ := num_takeE l h
  refine ⟨(takeE l).1, l.drop (takeE l).2.1, h1, by rw [h2, List.take_append_drop], fun v w hs => ?_⟩
  refine (Take_any v l w hs (by omega)).mono ?_
  rintro e w' ⟨v', rfl, hs', hb⟩
  rw [restT, if_pos h] at hs'
  rw [h]
  exact ⟨v', rfl, hs', hb⟩
theorem only_take_not (l : List UInt8) (hl : l.length ≤ 600) (er : Nat) (h : takeE l = (0, 0, er)) (h0 : er ≠ 0) (v : Value) (w : World) (hs : Sl w v (bv l)) : Calls Try.prog 17 #[v] w fun e w' => ∃ A c, e = .returned (.tuple #[.int .i64 0, .slice A 0 c, .int .i64 (er : Int)]) ∧ Below w.heap.size w w' := by
  refine (Take_any v l w hs (by omega)).mono ?_
  rintro e w' ⟨v', rfl, hs', hb⟩
  rw [restT, h, if_neg h0] at hs'
  obtain ⟨A, c, rfl⟩ := hs'.form
  rw [h]
  exact ⟨A, c, rfl, hb⟩
theorem takeT_zero (l : List UInt8) (h : (takeT l).2.2 = 0) : (takeT l).1.length ≤ 255 ∧ UInt8.ofNat (takeT l).1.length :: (takeT l).1 ++ (takeT l).2.1 = l := by
  cases l with
  | nil => simp [takeT] at h
  | cons q t =>
    have hq := q.toNat_lt
    by_cases k : t.length < q.toNat
    · simp only [takeT] at h; rw [if_pos k] at h; cases h
    · simp only [takeT]
      rw [if_neg k]
      have hl : (t.take q.toNat).length = q.toNat := by rw [List.length_take]; omega
      refine ⟨by simp only [hl]; omega, ?_⟩
      simp only [hl, List.cons_append, List.take_append_drop]
      simp
theorem takeT_err (l : List UInt8) : (takeT l).2.2 = 0 ∨ takeT l = ([], [], 11) := by
  cases l with
  | nil => exact .inr rfl
  | cons q t =>
    by_cases k : t.length < q.toNat
    · right; simp only [takeT]; rw [if_pos k]
    · left; simp only [takeT]; rw [if_neg k]
theorem only_text (l : List UInt8) (hl : l.length ≤ 600) (h : (takeT l).2.2 = 0) : ∃ (S : ByteArray) (r : List UInt8), S.size ≤ 255 ∧ UInt8.ofNat S.size :: S.data.toList ++ r = l ∧ ∀ v w, Sl w v (bv l) → Calls Try.prog 19 #[v] w fun e w' => ∃ v', e = .returned (.tuple #[.string S, v', .int .i64 0]) ∧ Sl w' v' (bv r) ∧ Below w.heap.size w w' := by
  obtain ⟨h1, h2⟩ := takeT_zero l h
  refine ⟨⟨(takeT l).1.toArray⟩, (takeT l).2.1, by show ((takeT l).1.toArray).size ≤ 255; simpa using h1, by rw [show ByteArray.size ⟨(takeT l).1.toArray⟩ = (takeT l).1.length from by show ((takeT l).1.toArray).size = _; simp]; exact h2, fun v w hs => ?_⟩
  refine (TakeText_any v l w hs (by omega)).mono ?_
  rintro e w' ⟨v', rfl, hs', hb⟩
  rw [h]
  exact ⟨v', rfl, hs', hb⟩
theorem only_text_not (l : List UInt8) (hl : l.length ≤ 600) (h : takeT l = ([], [], 11)) (v : Value) (w : World) (hs : Sl w v (bv l)) : Calls Try.prog 19 #[v] w fun e w' => ∃ v', e = .returned (.tuple #[.string ⟨#[]⟩, v', .int .i64 11]) ∧ Below w.heap.size w w' := by
  refine (TakeText_any v l w hs (by omega)).mono ?_
  rintro e w' ⟨v', rfl, hs', hb⟩
  rw [h]
  exact ⟨v', rfl, hb⟩
theorem takeL_zero (l : List UInt8) (h : (takeL l).2.2 = 0) : (takeL l).1.length ≤ 255 ∧ (∀ n ∈ (takeL l).1, n ≤ 1099511627776) ∧ listB (takeL l).1 ++ (takeL l).2.1 = l := by
  cases l with
  | nil => simp [takeL] at h
  | cons q t =>
    have hq := q.toNat_lt
    simp only [takeL] at h ⊢
    obtain ⟨h1, h2, h3⟩ := nums_takeN q.toNat t h
    refine ⟨by omega, h1, ?_⟩
    rw [listB, h2, List.cons_append, h3]
    simp
theorem takeL_err (l : List UInt8) : (takeL l).2.2 = 0 ∨ takeL l = ([], [], 11) ∨ takeL l = ([], [], 12) := by
  cases l with
  | nil => exact .inr (.inl rfl)
  | cons q t => exact takeN_err q.toNat t
theorem only_list (l : List UInt8) (hl : l.length ≤ 600) (h : (takeL l).2.2 = 0) : ∃ (ns : List Int) (r : List UInt8), ns.length ≤ 255 ∧ okB ns = true ∧ UInt8.ofNat ns.length :: numsI ns ++ r = l ∧ ∀ v w, Sl w v (bv l) → Calls Try.prog 21 #[v] w fun e w' => ∃ v1 v2, e = .returned (.tuple #[v1, v2, .int .i64 0]) ∧ Sl w' v1 (iv ns) ∧ Sl w' v2 (bv r) ∧ Below w.heap.size w w' := by
  obtain ⟨h1, h2, h3⟩ := takeL_zero l h
  have e : ((takeL l).1.map Int.ofNat).map Int.toNat = (takeL l).1 := by rw [List.map_map]; simp [Function.comp_def]
  refine ⟨(takeL l).1.map Int.ofNat, (takeL l).2.1, by simpa using h1, ?_, ?_, fun v w hs => ?_⟩
  · rw [okB_iff]
    intro n hn
    obtain ⟨x, hx, rfl⟩ := List.mem_map.1 hn
    have := h2 x hx
    constructor
    · exact Int.natCast_nonneg x
    · show (x : Int) ≤ _; omega
  · rw [numsI, e, List.length_map]; exact h3
  · refine (TakeList_any v l w hs (by omega)).mono ?_
    rintro e' w' ⟨v1, v2, rfl, hs1, hs2, hb⟩
    rw [h]
    exact ⟨v1, v2, rfl, hs1, hs2, hb⟩
theorem only_list_not (l : List UInt8) (hl : l.length ≤ 600) (h : takeL l = ([], [], 11) ∨ takeL l = ([], [], 12)) : ∃ gr : Int, ((gr == 0) = false) ∧ ∀ v w, Sl w v (bv l) → Calls Try.prog 21 #[v] w fun e w' => ∃ A c B d, e = .returned (.tuple #[.slice A 0 c, .slice B 0 d, .int .i64 gr]) ∧ Sl w' (.slice A 0 c) (iv []) ∧ Below w.heap.size w w' := by
  rcases h with h | h
  · refine ⟨11, rfl, fun v w hs => (TakeList_any v l w hs (by omega)).mono ?_⟩
    rintro e w' ⟨v1, v2, rfl, hs1, hs2, hb⟩
    rw [h] at hs1 hs2 ⊢
    obtain ⟨A, c, rfl⟩ := hs1.form
    obtain ⟨B, d, rfl⟩ := hs2.form
    exact ⟨A, c, B, d, rfl, hs1, hb⟩
  · refine ⟨12, rfl, fun v w hs => (TakeList_any v l w hs (by omega)).mono ?_⟩
    rintro e w' ⟨v1, v2, rfl, hs1, hs2, hb⟩
    rw [h] at hs1 hs2 ⊢
    obtain ⟨A, c, rfl⟩ := hs1.form
    obtain ⟨B, d, rfl⟩ := hs2.form
    exact ⟨A, c, B, d, rfl, hs1, hb⟩

set_option maxRecDepth 100000 in
set_option maxHeartbeats 4000000 in
theorem only_0_0_0 (A : Option Addr) (n c : Nat) (l : List UInt8) (w : World) (hA : Sl w (.slice A n c) (bv l)) (hln : l.length = n) (h1 : n ≤ 600) (he : (takeE l).2.2 = 0) (hf : (takeT l).2.2 = 0) (hg : (takeL l).2.2 = 0) :
    Calls Try.prog 6 #[.slice A n c] w fun e w' => e = .returned (.bool true) ∧ Below w.heap.size w w' := by
  have SA := Lib.hid hA
  have HLN := Lib.hid hln
  obtain ⟨m1, r1, hm1, hl1, k1⟩ := only_take l (by omega) he
  have h6 := dig_len6 m1 hm1
  have hnl := num_length m1
  have HNL := Lib.hid hnl
  have HL1 := Lib.hid hl1
  clear hl1 hnl
  obtain ⟨S, r2, hS, hl2, k2⟩ := only_text l (by omega) hf
  have hsl := S_len S
  have HSL := Lib.hid hsl
  have HL2 := Lib.hid hl2
  clear hl2 hsl
  obtain ⟨ns, r3, hns, hok, hl3, k3⟩ := only_list l (by omega) hg
  have HOK := Lib.hid hok
  have HL3 := Lib.hid hl3
  clear hl3 hok
  have K1 := Lib.hid k1
  have K2 := Lib.hid k2
  have K3 := Lib.hid k3
  clear k1 k2 k3 he hf hg hA hln
  go_enter Try.func6, Try.ntmps6
  go_wp2_with fail
  refine (K1.out _ _ SA.out).mono ?_
  rintro e w1 ⟨v1, rfl, s1, H⟩
  have T1 := Lib.hid s1
  clear s1
  have H1 := Lib.hid H
  clear H
  go_wp2_with fail
  refine (K2.out _ _ (SA.out.below H1.out)).mono ?_
  rintro e w2 ⟨v2, rfl, s2, hb⟩
  have T2 := Lib.hid s2
  clear s2
  have B2 := Lib.hid hb
  clear hb
  have H2 := Lib.hid (H1.out.trans (B2.out.mono H1.out.size))
  go_wp2_with fail
  refine (K3.out _ _ (SA.out.below H2.out)).mono ?_
  rintro e w3 ⟨v3, v4, rfl, s3, s4, hb⟩
  have T3 := Lib.hid s3
  have T4 := Lib.hid s4
  clear s3 s4
  have B3 := Lib.hid hb
  clear hb
  have H3 := Lib.hid (H2.out.trans (B3.out.mono H2.out.size))
  go_wp2_with fail
  refine (put_ok (m1 : Int) (by omega) (by omega) _).mono ?_
  rintro e w4 ⟨v5, rfl, s5, hb⟩
  rw [Int.toNat_natCast] at s5
  have T5 := Lib.hid s5
  clear s5
  have B4 := Lib.hid hb
  clear hb
  have H4 := Lib.hid (H3.out.trans (B4.out.mono H3.out.size))
  go_wp2_with fail
  refine (text_ok S hS _).mono ?_
  rintro e w5 ⟨v6, rfl, s6, hb⟩
  have T6 := Lib.hid s6
  clear s6
  have B5 := Lib.hid hb
  clear hb
  have H5 := Lib.hid (H4.out.trans (B5.out.mono H4.out.size))
  go_wp2_with fail
  refine (list_ok ns hns HOK.out _ _ ((T3.out.below B4.out).below B5.out)).mono ?_
  rintro e w6 ⟨v7, rfl, s7, hb⟩
  have T7 := Lib.hid s7
  clear s7
  have B6 := Lib.hid hb
  clear hb
  have H6 := Lib.hid (H5.out.trans (B6.out.mono H5.out.size))
  have P5 := Lib.hid ((T5.out.below B5.out).below B6.out)
  have P1 := Lib.hid (((((T1.out.below B2.out).below B3.out).below B4.out).below B5.out).below B6.out)
  have P6 := Lib.hid (T6.out.below B6.out)
  have P2 := Lib.hid ((((T2.out.below B3.out).below B4.out).below B5.out).below B6.out)
  have P7 := T7
  have P4 := Lib.hid (((T4.out.below B4.out).below B5.out).below B6.out)
  go_wp2_with (at_builtin; first
    | (refine wpList_appw el23 (by rfl) (.tmp 61) (.tmp 62) rfl w6.heap.size (.slice (some ⟨w6.heap.size, 0, none⟩) 0 0) 0 [] rfl (ownsRow_empty w6 w6.heap.size (Nat.le_refl _) 5) _ _ rfl (P5.out.alloc _) (bv_one _) (by have e1 := bv_length (num m1); have e8 := HNL.out; have e7 := congrArg List.length HL1.out; rw [List.length_append] at e7; have e6 := HLN.out; omega) (by simp) ?_
       intro vA wA hownA hgA hatA
       have hBA : Below w6.heap.size w6 wA := gr_new (gr_then (gr_alloc (gr_refl w6 (some w6.heap.size)) _) hgA (.inl rfl)) (by intro g e; injection e with e; omega)
       have HATA := Lib.hid (show vA.ownBlock = some w6.heap.size ∨ vA.ownBlock = some (w6.heap.size + 1) by simpa [Value.ownBlock] using hatA)
       clear hgA hatA)
    | (refine wpList_appw el23 (by rfl) (.tmp 63) (.tmp 64) rfl w6.heap.size vA _ _ rfl hownA _ _ rfl (P1.out.below hBA) (bv_one _) (by have e1 := bv_length (num m1); have e2 := bv_length (r1); have e8 := HNL.out; have e7 := congrArg List.length HL1.out; rw [List.length_append] at e7; have e6 := HLN.out; omega) hBA.size ?_
       intro vC0 w7 hownB hgB hatB
       have hB7 : Below w6.heap.size w6 w7 := gr_new (gr_then (row := some w6.heap.size) (gr_of_below hBA _) hgB (.inr (by rintro g e; rcases HATA.out with h | h <;> (rw [h] at e; injection e with e; omega)))) (by intro g e; injection e with e; omega)
       have sC0 := Sl.of_own hownB
       rw [List.nil_append, ← bv_append] at sC0
       clear hownB hgB hatB))
  clear hBA HATA hownA
  rw [HL1.out] at sC0
  refine (same_below _ _ l l _ sC0 ((SA.out.below H6.out).below hB7)).mono ?_
  rintro e w8 ⟨rfl, hb⟩
  simp only [decide_true]
  have B8 := Lib.hid (hB7.trans (hb.mono hB7.size))
  clear hb hB7 sC0
  have H8 := Lib.hid (H6.out.trans (B8.out.mono H6.out.size))
  replace P6 := Lib.hid (P6.out.below B8.out)
  replace P2 := Lib.hid (P2.out.below B8.out)
  replace P7 := Lib.hid (P7.out.below B8.out)
  replace P4 := Lib.hid (P4.out.below B8.out)
  go_wp2_with (at_builtin; first
    | (refine wpList_appw el23 (by rfl) (.tmp 78) (.tmp 79) rfl w8.heap.size (.slice (some ⟨w8.heap.size, 0, none⟩) 0 0) 0 [] rfl (ownsRow_empty w8 w8.heap.size (Nat.le_refl _) 5) _ _ rfl (P6.out.alloc _) (bv_one _) (by have e1 := bv_length (UInt8.ofNat S.size :: S.data.toList); have e8 := HSL.out; have e7 := congrArg List.length HL2.out; rw [List.length_append] at e7; have e6 := HLN.out; omega) (by simp) ?_
       intro vA wA hownA hgA hatA
       have hBA : Below w8.heap.size w8 wA := gr_new (gr_then (gr_alloc (gr_refl w8 (some w8.heap.size)) _) hgA (.inl rfl)) (by intro g e; injection e with e; omega)
       have HATA := Lib.hid (show vA.ownBlock = some w8.heap.size ∨ vA.ownBlock = some (w8.heap.size + 1) by simpa [Value.ownBlock] using hatA)
       clear hgA hatA)
    | (refine wpList_appw el23 (by rfl) (.tmp 80) (.tmp 81) rfl w8.heap.size vA _ _ rfl hownA _ _ rfl (P2.out.below hBA) (bv_one _) (by have e1 := bv_length (UInt8.ofNat S.size :: S.data.toList); have e2 := bv_length (r2); have e8 := HSL.out; have e7 := congrArg List.length HL2.out; rw [List.length_append] at e7; have e6 := HLN.out; omega) hBA.size ?_
       intro vC1 w9 hownB hgB hatB
       have hB9 : Below w8.heap.size w8 w9 := gr_new (gr_then (row := some w8.heap.size) (gr_of_below hBA _) hgB (.inr (by rintro g e; rcases HATA.out with h | h <;> (rw [h] at e; injection e with e; omega)))) (by intro g e; injection e with e; omega)
       have sC1 := Sl.of_own hownB
       rw [List.nil_append, ← bv_append] at sC1
       clear hownB hgB hatB))
  clear hBA HATA hownA
  rw [HL2.out] at sC1
  refine (same_below _ _ l l _ sC1 ((SA.out.below H8.out).below hB9)).mono ?_
  rintro e w10 ⟨rfl, hb⟩
  simp only [decide_true]
  have B10 := Lib.hid (hB9.trans (hb.mono hB9.size))
  clear hb hB9 sC1
  have H10 := Lib.hid (H8.out.trans (B10.out.mono H8.out.size))
  replace P7 := Lib.hid (P7.out.below B10.out)
  replace P4 := Lib.hid (P4.out.below B10.out)
  go_wp2_with (at_builtin; first
    | (refine wpList_appw el23 (by rfl) (.tmp 96) (.tmp 97) rfl w10.heap.size (.slice (some ⟨w10.heap.size, 0, none⟩) 0 0) 0 [] rfl (ownsRow_empty w10 w10.heap.size (Nat.le_refl _) 5) _ _ rfl (P7.out.alloc _) (bv_one _) (by have e1 := bv_length (UInt8.ofNat ns.length :: numsI ns); have e7 := congrArg List.length HL3.out; rw [List.length_append] at e7; have e6 := HLN.out; omega) (by simp) ?_
       intro vA wA hownA hgA hatA
       have hBA : Below w10.heap.size w10 wA := gr_new (gr_then (gr_alloc (gr_refl w10 (some w10.heap.size)) _) hgA (.inl rfl)) (by intro g e; injection e with e; omega)
       have HATA := Lib.hid (show vA.ownBlock = some w10.heap.size ∨ vA.ownBlock = some (w10.heap.size + 1) by simpa [Value.ownBlock] using hatA)
       clear hgA hatA)
    | (refine wpList_appw el23 (by rfl) (.tmp 98) (.tmp 99) rfl w10.heap.size vA _ _ rfl hownA _ _ rfl (P4.out.below hBA) (bv_one _) (by have e1 := bv_length (UInt8.ofNat ns.length :: numsI ns); have e2 := bv_length (r3); have e7 := congrArg List.length HL3.out; rw [List.length_append] at e7; have e6 := HLN.out; omega) hBA.size ?_
       intro vC2 w11 hownB hgB hatB
       have hB11 : Below w10.heap.size w10 w11 := gr_new (gr_then (row := some w10.heap.size) (gr_of_below hBA _) hgB (.inr (by rintro g e; rcases HATA.out with h | h <;> (rw [h] at e; injection e with e; omega)))) (by intro g e; injection e with e; omega)
       have sC2 := Sl.of_own hownB
       rw [List.nil_append, ← bv_append] at sC2
       clear hownB hgB hatB))
  clear hBA HATA hownA
  rw [HL3.out] at sC2
  refine (same_below _ _ l l _ sC2 ((SA.out.below H10.out).below hB11)).mono ?_
  rintro e w12 ⟨rfl, hb⟩
  simp only [decide_true]
  have B12 := Lib.hid (hB11.trans (hb.mono hB11.size))
  clear hb hB11 sC2
  have H12 := Lib.hid (H10.out.trans (B12.out.mono H10.out.size))
  go_wp2_with fail
  refine (wakes_any _).mono ?_
  rintro e wz ⟨rfl, hbz⟩
  go_wp2
  go_ret
  exact ⟨rfl, H12.out.trans (hbz.mono H12.out.size)⟩

set_option maxRecDepth 100000 in
set_option maxHeartbeats 4000000 in
theorem only_0_0_1 (A : Option Addr) (n c : Nat) (l : List UInt8) (w : World) (hA : Sl w (.slice A n c) (bv l)) (hln : l.length = n) (h1 : n ≤ 600) (he : (takeE l).2.2 = 0) (hf : (takeT l).2.2 = 0) (hg : takeL l = ([], [], 11) ∨ takeL l = ([], [], 12)) :
    Calls Try.prog 6 #[.slice A n c] w fun e w' => e = .returned (.bool true) ∧ Below w.heap.size w w' := by
  have SA := Lib.hid hA
  have HLN := Lib.hid hln
  obtain ⟨m1, r1, hm1, hl1, k1⟩ := only_take l (by omega) he
  have h6 := dig_len6 m1 hm1
  have hnl := num_length m1
  have HNL := Lib.hid hnl
  have HL1 := Lib.hid hl1
  clear hl1 hnl
  obtain ⟨S, r2, hS, hl2, k2⟩ := only_text l (by omega) hf
  have hsl := S_len S
  have HSL := Lib.hid hsl
  have HL2 := Lib.hid hl2
  clear hl2 hsl
  obtain ⟨gr, hgr, k3⟩ := only_list_not l (by omega) hg
  have k4 := fun v w hs => list_ok [] (by decide) rfl v w hs
  have K1 := Lib.hid k1
  have K2 := Lib.hid k2
  have K3 := Lib.hid k3
  clear k1 k2 k3 he hf hg hA hln
  go_enter Try.func6, Try.ntmps6
  go_wp2_with fail
  refine (K1.out _ _ SA.out).mono ?_
  rintro e w1 ⟨v1, rfl, s1, H⟩
  have T1 := Lib.hid s1
  clear s1
  have H1 := Lib.hid H
  clear H
  go_wp2_with fail
  refine (K2.out _ _ (SA.out.below H1.out)).mono ?_
  rintro e w2 ⟨v2, rfl, s2, hb⟩
  have T2 := Lib.hid s2
  clear s2
  have B2 := Lib.hid hb
  clear hb
  have H2 := Lib.hid (H1.out.trans (B2.out.mono H1.out.size))
  go_wp2_with fail
  refine (K3.out _ _ (SA.out.below H2.out)).mono ?_
  rintro e w3 ⟨A3, c3, A4, c4, rfl, s3, hb⟩
  have T3 := Lib.hid s3
  clear s3
  have B3 := Lib.hid hb
  clear hb
  have H3 := Lib.hid (H2.out.trans (B3.out.mono H2.out.size))
  go_wp2_with fail
  refine (put_ok (m1 : Int) (by omega) (by omega) _).mono ?_
  rintro e w4 ⟨v5, rfl, s5, hb⟩
  rw [Int.toNat_natCast] at s5
  have T5 := Lib.hid s5
  clear s5
  have B4 := Lib.hid hb
  clear hb
  have H4 := Lib.hid (H3.out.trans (B4.out.mono H3.out.size))
  go_wp2_with fail
  refine (text_ok S hS _).mono ?_
  rintro e w5 ⟨v6, rfl, s6, hb⟩
  have T6 := Lib.hid s6
  clear s6
  have B5 := Lib.hid hb
  clear hb
  have H5 := Lib.hid (H4.out.trans (B5.out.mono H4.out.size))
  go_wp2_with fail
  refine (list_ok [] (by decide) rfl _ _ ((T3.out.below B4.out).below B5.out)).mono ?_
  rintro e w6 ⟨v7, rfl, _, hb⟩
  have B6 := Lib.hid hb
  clear hb
  have H6 := Lib.hid (H5.out.trans (B6.out.mono H5.out.size))
  have P5 := Lib.hid ((T5.out.below B5.out).below B6.out)
  have P1 := Lib.hid (((((T1.out.below B2.out).below B3.out).below B4.out).below B5.out).below B6.out)
  have P6 := Lib.hid (T6.out.below B6.out)
  have P2 := Lib.hid ((((T2.out.below B3.out).below B4.out).below B5.out).below B6.out)
  go_wp2_with (at_builtin; first
    | (refine wpList_appw el23 (by rfl) (.tmp 61) (.tmp 62) rfl w6.heap.size (.slice (some ⟨w6.heap.size, 0, none⟩) 0 0) 0 [] rfl (ownsRow_empty w6 w6.heap.size (Nat.le_refl _) 5) _ _ rfl (P5.out.alloc _) (bv_one _) (by have e1 := bv_length (num m1); have e8 := HNL.out; have e7 := congrArg List.length HL1.out; rw [List.length_append] at e7; have e6 := HLN.out; omega) (by simp) ?_
       intro vA wA hownA hgA hatA
       have hBA : Below w6.heap.size w6 wA := gr_new (gr_then (gr_alloc (gr_refl w6 (some w6.heap.size)) _) hgA (.inl rfl)) (by intro g e; injection e with e; omega)
       have HATA := Lib.hid (show vA.ownBlock = some w6.heap.size ∨ vA.ownBlock = some (w6.heap.size + 1) by simpa [Value.ownBlock] using hatA)
       clear hgA hatA)
    | (refine wpList_appw el23 (by rfl) (.tmp 63) (.tmp 64) rfl w6.heap.size vA _ _ rfl hownA _ _ rfl (P1.out.below hBA) (bv_one _) (by have e1 := bv_length (num m1); have e2 := bv_length (r1); have e8 := HNL.out; have e7 := congrArg List.length HL1.out; rw [List.length_append] at e7; have e6 := HLN.out; omega) hBA.size ?_
       intro vC0 w7 hownB hgB hatB
       have hB7 : Below w6.heap.size w6 w7 := gr_new (gr_then (row := some w6.heap.size) (gr_of_below hBA _) hgB (.inr (by rintro g e; rcases HATA.out with h | h <;> (rw [h] at e; injection e with e; omega)))) (by intro g e; injection e with e; omega)
       have sC0 := Sl.of_own hownB
       rw [List.nil_append, ← bv_append] at sC0
       clear hownB hgB hatB))
  clear hBA HATA hownA
  rw [HL1.out] at sC0
  refine (same_below _ _ l l _ sC0 ((SA.out.below H6.out).below hB7)).mono ?_
  rintro e w8 ⟨rfl, hb⟩
  simp only [decide_true]
  have B8 := Lib.hid (hB7.trans (hb.mono hB7.size))
  clear hb hB7 sC0
  have H8 := Lib.hid (H6.out.trans (B8.out.mono H6.out.size))
  replace P6 := Lib.hid (P6.out.below B8.out)
  replace P2 := Lib.hid (P2.out.below B8.out)
  go_wp2_with (at_builtin; first
    | (refine wpList_appw el23 (by rfl) (.tmp 78) (.tmp 79) rfl w8.heap.size (.slice (some ⟨w8.heap.size, 0, none⟩) 0 0) 0 [] rfl (ownsRow_empty w8 w8.heap.size (Nat.le_refl _) 5) _ _ rfl (P6.out.alloc _) (bv_one _) (by have e1 := bv_length (UInt8.ofNat S.size :: S.data.toList); have e8 := HSL.out; have e7 := congrArg List.length HL2.out; rw [List.length_append] at e7; have e6 := HLN.out; omega) (by simp) ?_
       intro vA wA hownA hgA hatA
       have hBA : Below w8.heap.size w8 wA := gr_new (gr_then (gr_alloc (gr_refl w8 (some w8.heap.size)) _) hgA (.inl rfl)) (by intro g e; injection e with e; omega)
       have HATA := Lib.hid (show vA.ownBlock = some w8.heap.size ∨ vA.ownBlock = some (w8.heap.size + 1) by simpa [Value.ownBlock] using hatA)
       clear hgA hatA)
    | (refine wpList_appw el23 (by rfl) (.tmp 80) (.tmp 81) rfl w8.heap.size vA _ _ rfl hownA _ _ rfl (P2.out.below hBA) (bv_one _) (by have e1 := bv_length (UInt8.ofNat S.size :: S.data.toList); have e2 := bv_length (r2); have e8 := HSL.out; have e7 := congrArg List.length HL2.out; rw [List.length_append] at e7; have e6 := HLN.out; omega) hBA.size ?_
       intro vC1 w9 hownB hgB hatB
       have hB9 : Below w8.heap.size w8 w9 := gr_new (gr_then (row := some w8.heap.size) (gr_of_below hBA _) hgB (.inr (by rintro g e; rcases HATA.out with h | h <;> (rw [h] at e; injection e with e; omega)))) (by intro g e; injection e with e; omega)
       have sC1 := Sl.of_own hownB
       rw [List.nil_append, ← bv_append] at sC1
       clear hownB hgB hatB))
  clear hBA HATA hownA
  rw [HL2.out] at sC1
  refine (same_below _ _ l l _ sC1 ((SA.out.below H8.out).below hB9)).mono ?_
  rintro e w10 ⟨rfl, hb⟩
  simp only [decide_true]
  have B10 := Lib.hid (hB9.trans (hb.mono hB9.size))
  clear hb hB9 sC1
  have H10 := Lib.hid (H8.out.trans (B10.out.mono H8.out.size))
  go_wp2_with fail
  refine (wakes_any _).mono ?_
  rintro e wz ⟨rfl, hbz⟩
  go_wp2
  go_ret
  exact ⟨rfl, H10.out.trans (hbz.mono H10.out.size)⟩

set_option maxRecDepth 100000 in
set_option maxHeartbeats 4000000 in
theorem only_0_11_0 (A : Option Addr) (n c : Nat) (l : List UInt8) (w : World) (hA : Sl w (.slice A n c) (bv l)) (hln : l.length = n) (h1 : n ≤ 600) (he : (takeE l).2.2 = 0) (hf : takeT l = ([], [], 11)) (hg : (takeL l).2.2 = 0) :
    Calls Try.prog 6 #[.slice A n c] w fun e w' => e = .returned (.bool true) ∧ Below w.heap.size w w' := by
  have SA := Lib.hid hA
  have HLN := Lib.hid hln
  obtain ⟨m1, r1, hm1, hl1, k1⟩ := only_take l (by omega) he
  have h6 := dig_len6 m1 hm1
  have hnl := num_length m1
  have HNL := Lib.hid hnl
  have HL1 := Lib.hid hl1
  clear hl1 hnl
  have k2 := fun v w hs => only_text_not l (by omega) hf v w hs
  obtain ⟨ns, r3, hns, hok, hl3, k3⟩ := only_list l (by omega) hg
  have HOK := Lib.hid hok
  have HL3 := Lib.hid hl3
  clear hl3 hok
  have K1 := Lib.hid k1
  have K2 := Lib.hid k2
  have K3 := Lib.hid k3
  clear k1 k2 k3 he hf hg hA hln
  go_enter Try.func6, Try.ntmps6
  go_wp2_with fail
  refine (K1.out _ _ SA.out).mono ?_
  rintro e w1 ⟨v1, rfl, s1, H⟩
  have T1 := Lib.hid s1
  clear s1
  have H1 := Lib.hid H
  clear H
  go_wp2_with fail
  refine (K2.out _ _ (SA.out.below H1.out)).mono ?_
  rintro e w2 ⟨v2, rfl, hb⟩
  have B2 := Lib.hid hb
  clear hb
  have H2 := Lib.hid (H1.out.trans (B2.out.mono H1.out.size))
  go_wp2_with fail
  refine (K3.out _ _ (SA.out.below H2.out)).mono ?_
  rintro e w3 ⟨v3, v4, rfl, s3, s4, hb⟩
  have T3 := Lib.hid s3
  have T4 := Lib.hid s4
  clear s3 s4
  have B3 := Lib.hid hb
  clear hb
  have H3 := Lib.hid (H2.out.trans (B3.out.mono H2.out.size))
  go_wp2_with fail
  refine (put_ok (m1 : Int) (by omega) (by omega) _).mono ?_
  rintro e w4 ⟨v5, rfl, s5, hb⟩
  rw [Int.toNat_natCast] at s5
  have T5 := Lib.hid s5
  clear s5
  have B4 := Lib.hid hb
  clear hb
  have H4 := Lib.hid (H3.out.trans (B4.out.mono H3.out.size))
  go_wp2_with fail
  refine (text_ok ⟨#[]⟩ (by decide) _).mono ?_
  rintro e w5 ⟨v6, rfl, _, hb⟩
  have B5 := Lib.hid hb
  clear hb
  have H5 := Lib.hid (H4.out.trans (B5.out.mono H4.out.size))
  go_wp2_with fail
  refine (list_ok ns hns HOK.out _ _ ((T3.out.below B4.out).below B5.out)).mono ?_
  rintro e w6 ⟨v7, rfl, s7, hb⟩
  have T7 := Lib.hid s7
  clear s7
  have B6 := Lib.hid hb
  clear hb
  have H6 := Lib.hid (H5.out.trans (B6.out.mono H5.out.size))
  have P5 := Lib.hid ((T5.out.below B5.out).below B6.out)
  have P1 := Lib.hid (((((T1.out.below B2.out).below B3.out).below B4.out).below B5.out).below B6.out)
  have P7 := T7
  have P4 := Lib.hid (((T4.out.below B4.out).below B5.out).below B6.out)
  go_wp2_with (at_builtin; first
    | (refine wpList_appw el23 (by rfl) (.tmp 61) (.tmp 62) rfl w6.heap.size (.slice (some ⟨w6.heap.size, 0, none⟩) 0 0) 0 [] rfl (ownsRow_empty w6 w6.heap.size (Nat.le_refl _) 5) _ _ rfl (P5.out.alloc _) (bv_one _) (by have e1 := bv_length (num m1); have e8 := HNL.out; have e7 := congrArg List.length HL1.out; rw [List.length_append] at e7; have e6 := HLN.out; omega) (by simp) ?_
       intro vA wA hownA hgA hatA
       have hBA : Below w6.heap.size w6 wA := gr_new (gr_then (gr_alloc (gr_refl w6 (some w6.heap.size)) _) hgA (.inl rfl)) (by intro g e; injection e with e; omega)
       have HATA := Lib.hid (show vA.ownBlock = some w6.heap.size ∨ vA.ownBlock = some (w6.heap.size + 1) by simpa [Value.ownBlock] using hatA)
       clear hgA hatA)
    | (refine wpList_appw el23 (by rfl) (.tmp 63) (.tmp 64) rfl w6.heap.size vA _ _ rfl hownA _ _ rfl (P1.out.below hBA) (bv_one _) (by have e1 := bv_length (num m1); have e2 := bv_length (r1); have e8 := HNL.out; have e7 := congrArg List.length HL1.out; rw [List.length_append] at e7; have e6 := HLN.out; omega) hBA.size ?_
       intro vC0 w7 hownB hgB hatB
       have hB7 : Below w6.heap.size w6 w7 := gr_new (gr_then (row := some w6.heap.size) (gr_of_below hBA _) hgB (.inr (by rintro g e; rcases HATA.out with h | h <;> (rw [h] at e; injection e with e; omega)))) (by intro g e; injection e with e; omega)
       have sC0 := Sl.of_own hownB
       rw [List.nil_append, ← bv_append] at sC0
       clear hownB hgB hatB))
  clear hBA HATA hownA
  rw [HL1.out] at sC0
  refine (same_below _ _ l l _ sC0 ((SA.out.below H6.out).below hB7)).mono ?_
  rintro e w8 ⟨rfl, hb⟩
  simp only [decide_true]
  have B8 := Lib.hid (hB7.trans (hb.mono hB7.size))
  clear hb hB7 sC0
  have H8 := Lib.hid (H6.out.trans (B8.out.mono H6.out.size))
  replace P7 := Lib.hid (P7.out.below B8.out)
  replace P4 := Lib.hid (P4.out.below B8.out)
  go_wp2_with (at_builtin; first
    | (refine wpList_appw el23 (by rfl) (.tmp 96) (.tmp 97) rfl w8.heap.size (.slice (some ⟨w8.heap.size, 0, none⟩) 0 0) 0 [] rfl (ownsRow_empty w8 w8.heap.size (Nat.le_refl _) 5) _ _ rfl (P7.out.alloc _) (bv_one _) (by have e1 := bv_length (UInt8.ofNat ns.length :: numsI ns); have e7 := congrArg List.length HL3.out; rw [List.length_append] at e7; have e6 := HLN.out; omega) (by simp) ?_
       intro vA wA hownA hgA hatA
       have hBA : Below w8.heap.size w8 wA := gr_new (gr_then (gr_alloc (gr_refl w8 (some w8.heap.size)) _) hgA (.inl rfl)) (by intro g e; injection e with e; omega)
       have HATA := Lib.hid (show vA.ownBlock = some w8.heap.size ∨ vA.ownBlock = some (w8.heap.size + 1) by simpa [Value.ownBlock] using hatA)
       clear hgA hatA)
    | (refine wpList_appw el23 (by rfl) (.tmp 98) (.tmp 99) rfl w8.heap.size vA _ _ rfl hownA _ _ rfl (P4.out.below hBA) (bv_one _) (by have e1 := bv_length (UInt8.ofNat ns.length :: numsI ns); have e2 := bv_length (r3); have e7 := congrArg List.length HL3.out; rw [List.length_append] at e7; have e6 := HLN.out; omega) hBA.size ?_
       intro vC1 w9 hownB hgB hatB
       have hB9 : Below w8.heap.size w8 w9 := gr_new (gr_then (row := some w8.heap.size) (gr_of_below hBA _) hgB (.inr (by rintro g e; rcases HATA.out with h | h <;> (rw [h] at e; injection e with e; omega)))) (by intro g e; injection e with e; omega)
       have sC1 := Sl.of_own hownB
       rw [List.nil_append, ← bv_append] at sC1
       clear hownB hgB hatB))
  clear hBA HATA hownA
  rw [HL3.out] at sC1
  refine (same_below _ _ l l _ sC1 ((SA.out.below H8.out).below hB9)).mono ?_
  rintro e w10 ⟨rfl, hb⟩
  simp only [decide_true]
  have B10 := Lib.hid (hB9.trans (hb.mono hB9.size))
  clear hb hB9 sC1
  have H10 := Lib.hid (H8.out.trans (B10.out.mono H8.out.size))
  go_wp2_with fail
  refine (wakes_any _).mono ?_
  rintro e wz ⟨rfl, hbz⟩
  go_wp2
  go_ret
  exact ⟨rfl, H10.out.trans (hbz.mono H10.out.size)⟩

set_option maxRecDepth 100000 in
set_option maxHeartbeats 4000000 in
theorem only_0_11_1 (A : Option Addr) (n c : Nat) (l : List UInt8) (w : World) (hA : Sl w (.slice A n c) (bv l)) (hln : l.length = n) (h1 : n ≤ 600) (he : (takeE l).2.2 = 0) (hf : takeT l = ([], [], 11)) (hg : takeL l = ([], [], 11) ∨ takeL l = ([], [], 12)) :
    Calls Try.prog 6 #[.slice A n c] w fun e w' => e = .returned (.bool true) ∧ Below w.heap.size w w' := by
  have SA := Lib.hid hA
  have HLN := Lib.hid hln
  obtain ⟨m1, r1, hm1, hl1, k1⟩ := only_take l (by omega) he
  have h6 := dig_len6 m1 hm1
  have hnl := num_length m1
  have HNL := Lib.hid hnl
  have HL1 := Lib.hid hl1
  clear hl1 hnl
  have k2 := fun v w hs => only_text_not l (by omega) hf v w hs
  obtain ⟨gr, hgr, k3⟩ := only_list_not l (by omega) hg
  have k4 := fun v w hs => list_ok [] (by decide) rfl v w hs
  have K1 := Lib.hid k1
  have K2 := Lib.hid k2
  have K3 := Lib.hid k3
  clear k1 k2 k3 he hf hg hA hln
  go_enter Try.func6, Try.ntmps6
  go_wp2_with fail
  refine (K1.out _ _ SA.out).mono ?_
  rintro e w1 ⟨v1, rfl, s1, H⟩
  have T1 := Lib.hid s1
  clear s1
  have H1 := Lib.hid H
  clear H
  go_wp2_with fail
  refine (K2.out _ _ (SA.out.below H1.out)).mono ?_
  rintro e w2 ⟨v2, rfl, hb⟩
  have B2 := Lib.hid hb
  clear hb
  have H2 := Lib.hid (H1.out.trans (B2.out.mono H1.out.size))
  go_wp2_with fail
  refine (K3.out _ _ (SA.out.below H2.out)).mono ?_
  rintro e w3 ⟨A3, c3, A4, c4, rfl, s3, hb⟩
  have T3 := Lib.hid s3
  clear s3
  have B3 := Lib.hid hb
  clear hb
  have H3 := Lib.hid (H2.out.trans (B3.out.mono H2.out.size))
  go_wp2_with fail
  refine (put_ok (m1 : Int) (by omega) (by omega) _).mono ?_
  rintro e w4 ⟨v5, rfl, s5, hb⟩
  rw [Int.toNat_natCast] at s5
  have T5 := Lib.hid s5
  clear s5
  have B4 := Lib.hid hb
  clear hb
  have H4 := Lib.hid (H3.out.trans (B4.out.mono H3.out.size))
  go_wp2_with fail
  refine (text_ok ⟨#[]⟩ (by decide) _).mono ?_
  rintro e w5 ⟨v6, rfl, _, hb⟩
  have B5 := Lib.hid hb
  clear hb
  have H5 := Lib.hid (H4.out.trans (B5.out.mono H4.out.size))
  go_wp2_with fail
  refine (list_ok [] (by decide) rfl _ _ ((T3.out.below B4.out).below B5.out)).mono ?_
  rintro e w6 ⟨v7, rfl, _, hb⟩
  have B6 := Lib.hid hb
  clear hb
  have H6 := Lib.hid (H5.out.trans (B6.out.mono H5.out.size))
  have P5 := Lib.hid ((T5.out.below B5.out).below B6.out)
  have P1 := Lib.hid (((((T1.out.below B2.out).below B3.out).below B4.out).below B5.out).below B6.out)
  go_wp2_with (at_builtin; first
    | (refine wpList_appw el23 (by rfl) (.tmp 61) (.tmp 62) rfl w6.heap.size (.slice (some ⟨w6.heap.size, 0, none⟩) 0 0) 0 [] rfl (ownsRow_empty w6 w6.heap.size (Nat.le_refl _) 5) _ _ rfl (P5.out.alloc _) (bv_one _) (by have e1 := bv_length (num m1); have e8 := HNL.out; have e7 := congrArg List.length HL1.out; rw [List.length_append] at e7; have e6 := HLN.out; omega) (by simp) ?_
       intro vA wA hownA hgA hatA
       have hBA : Below w6.heap.size w6 wA := gr_new (gr_then (gr_alloc (gr_refl w6 (some w6.heap.size)) _) hgA (.inl rfl)) (by intro g e; injection e with e; omega)
       have HATA := Lib.hid (show vA.ownBlock = some w6.heap.size ∨ vA.ownBlock = some (w6.heap.size + 1) by simpa [Value.ownBlock] using hatA)
       clear hgA hatA)
    | (refine wpList_appw el23 (by rfl) (.tmp 63) (.tmp 64) rfl w6.heap.size vA _ _ rfl hownA _ _ rfl (P1.out.below hBA) (bv_one _) (by have e1 := bv_length (num m1); have e2 := bv_length (r1); have e8 := HNL.out; have e7 := congrArg List.length HL1.out; rw [List.length_append] at e7; have e6 := HLN.out; omega) hBA.size ?_
       intro vC0 w7 hownB hgB hatB
       have hB7 : Below w6.heap.size w6 w7 := gr_new (gr_then (row := some w6.heap.size) (gr_of_below hBA _) hgB (.inr (by rintro g e; rcases HATA.out with h | h <;> (rw [h] at e; injection e with e; omega)))) (by intro g e; injection e with e; omega)
       have sC0 := Sl.of_own hownB
       rw [List.nil_append, ← bv_append] at sC0
       clear hownB hgB hatB))
  clear hBA HATA hownA
  rw [HL1.out] at sC0
  refine (same_below _ _ l l _ sC0 ((SA.out.below H6.out).below hB7)).mono ?_
  rintro e w8 ⟨rfl, hb⟩
  simp only [decide_true]
  have B8 := Lib.hid (hB7.trans (hb.mono hB7.size))
  clear hb hB7 sC0
  have H8 := Lib.hid (H6.out.trans (B8.out.mono H6.out.size))
  go_wp2_with fail
  refine (wakes_any _).mono ?_
  rintro e wz ⟨rfl, hbz⟩
  go_wp2
  go_ret
  exact ⟨rfl, H8.out.trans (hbz.mono H8.out.size)⟩

set_option maxRecDepth 100000 in
set_option maxHeartbeats 4000000 in
theorem only_11_0_0 (A : Option Addr) (n c : Nat) (l : List UInt8) (w : World) (hA : Sl w (.slice A n c) (bv l)) (hln : l.length = n) (h1 : n ≤ 600) (he : takeE l = (0, 0, 11)) (hf : (takeT l).2.2 = 0) (hg : (takeL l).2.2 = 0) :
    Calls Try.prog 6 #[.slice A n c] w fun e w' => e = .returned (.bool true) ∧ Below w.heap.size w w' := by
  have SA := Lib.hid hA
  have HLN := Lib.hid hln
  have k1 := fun v w hs => only_take_not l (by omega) 11 he (by decide) v w hs
  obtain ⟨S, r2, hS, hl2, k2⟩ := only_text l (by omega) hf
  have hsl := S_len S
  have HSL := Lib.hid hsl
  have HL2 := Lib.hid hl2
  clear hl2 hsl
  obtain ⟨ns, r3, hns, hok, hl3, k3⟩ := only_list l (by omega) hg
  have HOK := Lib.hid hok
  have HL3 := Lib.hid hl3
  clear hl3 hok
  have K1 := Lib.hid k1
  have K2 := Lib.hid k2
  have K3 := Lib.hid k3
  clear k1 k2 k3 he hf hg hA hln
  go_enter Try.func6, Try.ntmps6
  go_wp2_with fail
  refine (K1.out _ _ SA.out).mono ?_
  rintro e w1 ⟨A1, c1, rfl, H⟩
  have H1 := Lib.hid H
  clear H
  go_wp2_with fail
  refine (K2.out _ _ (SA.out.below H1.out)).mono ?_
  rintro e w2 ⟨v2, rfl, s2, hb⟩
  have T2 := Lib.hid s2
  clear s2
  have B2 := Lib.hid hb
  clear hb
  have H2 := Lib.hid (H1.out.trans (B2.out.mono H1.out.size))
  go_wp2_with fail
  refine (K3.out _ _ (SA.out.below H2.out)).mono ?_
  rintro e w3 ⟨v3, v4, rfl, s3, s4, hb⟩
  have T3 := Lib.hid s3
  have T4 := Lib.hid s4
  clear s3 s4
  have B3 := Lib.hid hb
  clear hb
  have H3 := Lib.hid (H2.out.trans (B3.out.mono H2.out.size))
  go_wp2_with fail
  refine (put_ok 0 (by omega) (by omega) _).mono ?_
  rintro e w4 ⟨v5, rfl, _, hb⟩
  have B4 := Lib.hid hb
  clear hb
  have H4 := Lib.hid (H3.out.trans (B4.out.mono H3.out.size))
  go_wp2_with fail
  refine (text_ok S hS _).mono ?_
  rintro e w5 ⟨v6, rfl, s6, hb⟩
  have T6 := Lib.hid s6
  clear s6
  have B5 := Lib.hid hb
  clear hb
  have H5 := Lib.hid (H4.out.trans (B5.out.mono H4.out.size))
  go_wp2_with fail
  refine (list_ok ns hns HOK.out _ _ ((T3.out.below B4.out).below B5.out)).mono ?_
  rintro e w6 ⟨v7, rfl, s7, hb⟩
  have T7 := Lib.hid s7
  clear s7
  have B6 := Lib.hid hb
  clear hb
  have H6 := Lib.hid (H5.out.trans (B6.out.mono H5.out.size))
  have P6 := Lib.hid (T6.out.below B6.out)
  have P2 := Lib.hid ((((T2.out.below B3.out).below B4.out).below B5.out).below B6.out)
  have P7 := T7
  have P4 := Lib.hid (((T4.out.below B4.out).below B5.out).below B6.out)
  go_wp2_with (at_builtin; first
    | (refine wpList_appw el23 (by rfl) (.tmp 78) (.tmp 79) rfl w6.heap.size (.slice (some ⟨w6.heap.size, 0, none⟩) 0 0) 0 [] rfl (ownsRow_empty w6 w6.heap.size (Nat.le_refl _) 5) _ _ rfl (P6.out.alloc _) (bv_one _) (by have e1 := bv_length (UInt8.ofNat S.size :: S.data.toList); have e8 := HSL.out; have e7 := congrArg List.length HL2.out; rw [List.length_append] at e7; have e6 := HLN.out; omega) (by simp) ?_
       intro vA wA hownA hgA hatA
       have hBA : Below w6.heap.size w6 wA := gr_new (gr_then (gr_alloc (gr_refl w6 (some w6.heap.size)) _) hgA (.inl rfl)) (by intro g e; injection e with e; omega)
       have HATA := Lib.hid (show vA.ownBlock = some w6.heap.size ∨ vA.ownBlock = some (w6.heap.size + 1) by simpa [Value.ownBlock] using hatA)
       clear hgA hatA)
    | (refine wpList_appw el23 (by rfl) (.tmp 80) (.tmp 81) rfl w6.heap.size vA _ _ rfl hownA _ _ rfl (P2.out.below hBA) (bv_one _) (by have e1 := bv_length (UInt8.ofNat S.size :: S.data.toList); have e2 := bv_length (r2); have e8 := HSL.out; have e7 := congrArg List.length HL2.out; rw [List.length_append] at e7; have e6 := HLN.out; omega) hBA.size ?_
       intro vC0 w7 hownB hgB hatB
       have hB7 : Below w6.heap.size w6 w7 := gr_new (gr_then (row := some w6.heap.size) (gr_of_below hBA _) hgB (.inr (by rintro g e; rcases HATA.out with h | h <;> (rw [h] at e; injection e with e; omega)))) (by intro g e; injection e with e; omega)
       have sC0 := Sl.of_own hownB
       rw [List.nil_append, ← bv_append] at sC0
       clear hownB hgB hatB))
  clear hBA HATA hownA
  rw [HL2.out] at sC0
  refine (same_below _ _ l l _ sC0 ((SA.out.below H6.out).below hB7)).mono ?_
  rintro e w8 ⟨rfl, hb⟩
  simp only [decide_true]
  have B8 := Lib.hid (hB7.trans (hb.mono hB7.size))
  clear hb hB7 sC0
  have H8 := Lib.hid (H6.out.trans (B8.out.mono H6.out.size))
  replace P7 := Lib.hid (P7.out.below B8.out)
  replace P4 := Lib.hid (P4.out.below B8.out)
  go_wp2_with (at_builtin; first
    | (refine wpList_appw el23 (by rfl) (.tmp 96) (.tmp 97) rfl w8.heap.size (.slice (some ⟨w8.heap.size, 0, none⟩) 0 0) 0 [] rfl (ownsRow_empty w8 w8.heap.size (Nat.le_refl _) 5) _ _ rfl (P7.out.alloc _) (bv_one _) (by have e1 := bv_length (UInt8.ofNat ns.length :: numsI ns); have e7 := congrArg List.length HL3.out; rw [List.length_append] at e7; have e6 := HLN.out; omega) (by simp) ?_
       intro vA wA hownA hgA hatA
       have hBA : Below w8.heap.size w8 wA := gr_new (gr_then (gr_alloc (gr_refl w8 (some w8.heap.size)) _) hgA (.inl rfl)) (by intro g e; injection e with e; omega)
       have HATA := Lib.hid (show vA.ownBlock = some w8.heap.size ∨ vA.ownBlock = some (w8.heap.size + 1) by simpa [Value.ownBlock] using hatA)
       clear hgA hatA)
    | (refine wpList_appw el23 (by rfl) (.tmp 98) (.tmp 99) rfl w8.heap.size vA _ _ rfl hownA _ _ rfl (P4.out.below hBA) (bv_one _) (by have e1 := bv_length (UInt8.ofNat ns.length :: numsI ns); have e2 := bv_length (r3); have e7 := congrArg List.length HL3.out; rw [List.length_append] at e7; have e6 := HLN.out; omega) hBA.size ?_
       intro vC1 w9 hownB hgB hatB
       have hB9 : Below w8.heap.size w8 w9 := gr_new (gr_then (row := some w8.heap.size) (gr_of_below hBA _) hgB (.inr (by rintro g e; rcases HATA.out with h | h <;> (rw [h] at e; injection e with e; omega)))) (by intro g e; injection e with e; omega)
       have sC1 := Sl.of_own hownB
       rw [List.nil_append, ← bv_append] at sC1
       clear hownB hgB hatB))
  clear hBA HATA hownA
  rw [HL3.out] at sC1
  refine (same_below _ _ l l _ sC1 ((SA.out.below H8.out).below hB9)).mono ?_
  rintro e w10 ⟨rfl, hb⟩
  simp only [decide_true]
  have B10 := Lib.hid (hB9.trans (hb.mono hB9.size))
  clear hb hB9 sC1
  have H10 := Lib.hid (H8.out.trans (B10.out.mono H8.out.size))
  go_wp2_with fail
  refine (wakes_any _).mono ?_
  rintro e wz ⟨rfl, hbz⟩
  go_wp2
  go_ret
  exact ⟨rfl, H10.out.trans (hbz.mono H10.out.size)⟩

set_option maxRecDepth 100000 in
set_option maxHeartbeats 4000000 in
theorem only_11_0_1 (A : Option Addr) (n c : Nat) (l : List UInt8) (w : World) (hA : Sl w (.slice A n c) (bv l)) (hln : l.length = n) (h1 : n ≤ 600) (he : takeE l = (0, 0, 11)) (hf : (takeT l).2.2 = 0) (hg : takeL l = ([], [], 11) ∨ takeL l = ([], [], 12)) :
    Calls Try.prog 6 #[.slice A n c] w fun e w' => e = .returned (.bool true) ∧ Below w.heap.size w w' := by
  have SA := Lib.hid hA
  have HLN := Lib.hid hln
  have k1 := fun v w hs => only_take_not l (by omega) 11 he (by decide) v w hs
  obtain ⟨S, r2, hS, hl2, k2⟩ := only_text l (by omega) hf
  have hsl := S_len S
  have HSL := Lib.hid hsl
  have HL2 := Lib.hid hl2
  clear hl2 hsl
  obtain ⟨gr, hgr, k3⟩ := only_list_not l (by omega) hg
  have k4 := fun v w hs => list_ok [] (by decide) rfl v w hs
  have K1 := Lib.hid k1
  have K2 := Lib.hid k2
  have K3 := Lib.hid k3
  clear k1 k2 k3 he hf hg hA hln
  go_enter Try.func6, Try.ntmps6
  go_wp2_with fail
  refine (K1.out _ _ SA.out).mono ?_
  rintro e w1 ⟨A1, c1, rfl, H⟩
  have H1 := Lib.hid H
  clear H
  go_wp2_with fail
  refine (K2.out _ _ (SA.out.below H1.out)).mono ?_
  rintro e w2 ⟨v2, rfl, s2, hb⟩
  have T2 := Lib.hid s2
  clear s2
  have B2 := Lib.hid hb
  clear hb
  have H2 := Lib.hid (H1.out.trans (B2.out.mono H1.out.size))
  go_wp2_with fail
  refine (K3.out _ _ (SA.out.below H2.out)).mono ?_
  rintro e w3 ⟨A3, c3, A4, c4, rfl, s3, hb⟩
  have T3 := Lib.hid s3
  clear s3
  have B3 := Lib.hid hb
  clear hb
  have H3 := Lib.hid (H2.out.trans (B3.out.mono H2.out.size))
  go_wp2_with fail
  refine (put_ok 0 (by omega) (by omega) _).mono ?_
  rintro e w4 ⟨v5, rfl, _, hb⟩
  have B4 := Lib.hid hb
  clear hb
  have H4 := Lib.hid (H3.out.trans (B4.out.mono H3.out.size))
  go_wp2_with fail
  refine (text_ok S hS _).mono ?_
  rintro e w5 ⟨v6, rfl, s6, hb⟩
  have T6 := Lib.hid s6
  clear s6
  have B5 := Lib.hid hb
  clear hb
  have H5 := Lib.hid (H4.out.trans (B5.out.mono H4.out.size))
  go_wp2_with fail
  refine (list_ok [] (by decide) rfl _ _ ((T3.out.below B4.out).below B5.out)).mono ?_
  rintro e w6 ⟨v7, rfl, _, hb⟩
  have B6 := Lib.hid hb
  clear hb
  have H6 := Lib.hid (H5.out.trans (B6.out.mono H5.out.size))
  have P6 := Lib.hid (T6.out.below B6.out)
  have P2 := Lib.hid ((((T2.out.below B3.out).below B4.out).below B5.out).below B6.out)
  go_wp2_with (at_builtin; first
    | (refine wpList_appw el23 (by rfl) (.tmp 78) (.tmp 79) rfl w6.heap.size (.slice (some ⟨w6.heap.size, 0, none⟩) 0 0) 0 [] rfl (ownsRow_empty w6 w6.heap.size (Nat.le_refl _) 5) _ _ rfl (P6.out.alloc _) (bv_one _) (by have e1 := bv_length (UInt8.ofNat S.size :: S.data.toList); have e8 := HSL.out; have e7 := congrArg List.length HL2.out; rw [List.length_append] at e7; have e6 := HLN.out; omega) (by simp) ?_
       intro vA wA hownA hgA hatA
       have hBA : Below w6.heap.size w6 wA := gr_new (gr_then (gr_alloc (gr_refl w6 (some w6.heap.size)) _) hgA (.inl rfl)) (by intro g e; injection e with e; omega)
       have HATA := Lib.hid (show vA.ownBlock = some w6.heap.size ∨ vA.ownBlock = some (w6.heap.size + 1) by simpa [Value.ownBlock] using hatA)
       clear hgA hatA)
    | (refine wpList_appw el23 (by rfl) (.tmp 80) (.tmp 81) rfl w6.heap.size vA _ _ rfl hownA _ _ rfl (P2.out.below hBA) (bv_one _) (by have e1 := bv_length (UInt8.ofNat S.size :: S.data.toList); have e2 := bv_length (r2); have e8 := HSL.out; have e7 := congrArg List.length HL2.out; rw [List.length_append] at e7; have e6 := HLN.out; omega) hBA.size ?_
       intro vC0 w7 hownB hgB hatB
       have hB7 : Below w6.heap.size w6 w7 := gr_new (gr_then (row := some w6.heap.size) (gr_of_below hBA _) hgB (.inr (by rintro g e; rcases HATA.out with h | h <;> (rw [h] at e; injection e with e; omega)))) (by intro g e; injection e with e; omega)
       have sC0 := Sl.of_own hownB
       rw [List.nil_append, ← bv_append] at sC0
       clear hownB hgB hatB))
  clear hBA HATA hownA
  rw [HL2.out] at sC0
  refine (same_below _ _ l l _ sC0 ((SA.out.below H6.out).below hB7)).mono ?_
  rintro e w8 ⟨rfl, hb⟩
  simp only [decide_true]
  have B8 := Lib.hid (hB7.trans (hb.mono hB7.size))
  clear hb hB7 sC0
  have H8 := Lib.hid (H6.out.trans (B8.out.mono H6.out.size))
  go_wp2_with fail
  refine (wakes_any _).mono ?_
  rintro e wz ⟨rfl, hbz⟩
  go_wp2
  go_ret
  exact ⟨rfl, H8.out.trans (hbz.mono H8.out.size)⟩

set_option maxRecDepth 100000 in
set_option maxHeartbeats 4000000 in
theorem only_11_11_0 (A : Option Addr) (n c : Nat) (l : List UInt8) (w : World) (hA : Sl w (.slice A n c) (bv l)) (hln : l.length = n) (h1 : n ≤ 600) (he : takeE l = (0, 0, 11)) (hf : takeT l = ([], [], 11)) (hg : (takeL l).2.2 = 0) :
    Calls Try.prog 6 #[.slice A n c] w fun e w' => e = .returned (.bool true) ∧ Below w.heap.size w w' := by
  have SA := Lib.hid hA
  have HLN := Lib.hid hln
  have k1 := fun v w hs => only_take_not l (by omega) 11 he (by decide) v w hs
  have k2 := fun v w hs => only_text_not l (by omega) hf v w hs
  obtain ⟨ns, r3, hns, hok, hl3, k3⟩ := only_list l (by omega) hg
  have HOK := Lib.hid hok
  have HL3 := Lib.hid hl3
  clear hl3 hok
  have K1 := Lib.hid k1
  have K2 := Lib.hid k2
  have K3 := Lib.hid k3
  clear k1 k2 k3 he hf hg hA hln
  go_enter Try.func6, Try.ntmps6
  go_wp2_with fail
  refine (K1.out _ _ SA.out).mono ?_
  rintro e w1 ⟨A1, c1, rfl, H⟩
  have H1 := Lib.hid H
  clear H
  go_wp2_with fail
  refine (K2.out _ _ (SA.out.below H1.out)).mono ?_
  rintro e w2 ⟨v2, rfl, hb⟩
  have B2 := Lib.hid hb
  clear hb
  have H2 := Lib.hid (H1.out.trans (B2.out.mono H1.out.size))
  go_wp2_with fail
  refine (K3.out _ _ (SA.out.below H2.out)).mono ?_
  rintro e w3 ⟨v3, v4, rfl, s3, s4, hb⟩
  have T3 := Lib.hid s3
  have T4 := Lib.hid s4
  clear s3 s4
  have B3 := Lib.hid hb
  clear hb
  have H3 := Lib.hid (H2.out.trans (B3.out.mono H2.out.size))
  go_wp2_with fail
  refine (put_ok 0 (by omega) (by omega) _).mono ?_
  rintro e w4 ⟨v5, rfl, _, hb⟩
  have B4 := Lib.hid hb
  clear hb
  have H4 := Lib.hid (H3.out.trans (B4.out.mono H3.out.size))
  go_wp2_with fail
  refine (text_ok ⟨#[]⟩ (by decide) _).mono ?_
  rintro e w5 ⟨v6, rfl, _, hb⟩
  have B5 := Lib.hid hb
  clear hb
  have H5 := Lib.hid (H4.out.trans (B5.out.mono H4.out.size))
  go_wp2_with fail
  refine (list_ok ns hns HOK.out _ _ ((T3.out.below B4.out).below B5.out)).mono ?_
  rintro e w6 ⟨v7, rfl, s7, hb⟩
  have T7 := Lib.hid s7
  clear s7
  have B6 := Lib.hid hb
  clear hb
  have H6 := Lib.hid (H5.out.trans (B6.out.mono H5.out.size))
  have P7 := T7
  have P4 := Lib.hid (((T4.out.below B4.out).below B5.out).below B6.out)
  go_wp2_with (at_builtin; first
    | (refine wpList_appw el23 (by rfl) (.tmp 96) (.tmp 97) rfl w6.heap.size (.slice (some ⟨w6.heap.size, 0, none⟩) 0 0) 0 [] rfl (ownsRow_empty w6 w6.heap.size (Nat.le_refl _) 5) _ _ rfl (P7.out.alloc _) (bv_one _) (by have e1 := bv_length (UInt8.ofNat ns.length :: numsI ns); have e7 := congrArg List.length HL3.out; rw [List.length_append] at e7; have e6 := HLN.out; omega) (by simp) ?_
       intro vA wA hownA hgA hatA
       have hBA : Below w6.heap.size w6 wA := gr_new (gr_then (gr_alloc (gr_refl w6 (some w6.heap.size)) _) hgA (.inl rfl)) (by intro g e; injection e with e; omega)
       have HATA := Lib.hid (show vA.ownBlock = some w6.heap.size ∨ vA.ownBlock = some (w6.heap.size + 1) by simpa [Value.ownBlock] using hatA)
       clear hgA hatA)
    | (refine wpList_appw el23 (by rfl) (.tmp 98) (.tmp 99) rfl w6.heap.size vA _ _ rfl hownA _ _ rfl (P4.out.below hBA) (bv_one _) (by have e1 := bv_length (UInt8.ofNat ns.length :: numsI ns); have e2 := bv_length (r3); have e7 := congrArg List.length HL3.out; rw [List.length_append] at e7; have e6 := HLN.out; omega) hBA.size ?_
       intro vC0 w7 hownB hgB hatB
       have hB7 : Below w6.heap.size w6 w7 := gr_new (gr_then (row := some w6.heap.size) (gr_of_below hBA _) hgB (.inr (by rintro g e; rcases HATA.out with h | h <;> (rw [h] at e; injection e with e; omega)))) (by intro g e; injection e with e; omega)
       have sC0 := Sl.of_own hownB
       rw [List.nil_append, ← bv_append] at sC0
       clear hownB hgB hatB))
  clear hBA HATA hownA
  rw [HL3.out] at sC0
  refine (same_below _ _ l l _ sC0 ((SA.out.below H6.out).below hB7)).mono ?_
  rintro e w8 ⟨rfl, hb⟩
  simp only [decide_true]
  have B8 := Lib.hid (hB7.trans (hb.mono hB7.size))
  clear hb hB7 sC0
  have H8 := Lib.hid (H6.out.trans (B8.out.mono H6.out.size))
  go_wp2_with fail
  refine (wakes_any _).mono ?_
  rintro e wz ⟨rfl, hbz⟩
  go_wp2
  go_ret
  exact ⟨rfl, H8.out.trans (hbz.mono H8.out.size)⟩

set_option maxRecDepth 100000 in
set_option maxHeartbeats 4000000 in
theorem only_11_11_1 (A : Option Addr) (n c : Nat) (l : List UInt8) (w : World) (hA : Sl w (.slice A n c) (bv l)) (hln : l.length = n) (h1 : n ≤ 600) (he : takeE l = (0, 0, 11)) (hf : takeT l = ([], [], 11)) (hg : takeL l = ([], [], 11) ∨ takeL l = ([], [], 12)) :
    Calls Try.prog 6 #[.slice A n c] w fun e w' => e = .returned (.bool true) ∧ Below w.heap.size w w' := by
  have SA := Lib.hid hA
  have HLN := Lib.hid hln
  have k1 := fun v w hs => only_take_not l (by omega) 11 he (by decide) v w hs
  have k2 := fun v w hs => only_text_not l (by omega) hf v w hs
  obtain ⟨gr, hgr, k3⟩ := only_list_not l (by omega) hg
  have k4 := fun v w hs => list_ok [] (by decide) rfl v w hs
  have K1 := Lib.hid k1
  have K2 := Lib.hid k2
  have K3 := Lib.hid k3
  clear k1 k2 k3 he hf hg hA hln
  go_enter Try.func6, Try.ntmps6
  go_wp2_with fail
  refine (K1.out _ _ SA.out).mono ?_
  rintro e w1 ⟨A1, c1, rfl, H⟩
  have H1 := Lib.hid H
  clear H
  go_wp2_with fail
  refine (K2.out _ _ (SA.out.below H1.out)).mono ?_
  rintro e w2 ⟨v2, rfl, hb⟩
  have B2 := Lib.hid hb
  clear hb
  have H2 := Lib.hid (H1.out.trans (B2.out.mono H1.out.size))
  go_wp2_with fail
  refine (K3.out _ _ (SA.out.below H2.out)).mono ?_
  rintro e w3 ⟨A3, c3, A4, c4, rfl, s3, hb⟩
  have T3 := Lib.hid s3
  clear s3
  have B3 := Lib.hid hb
  clear hb
  have H3 := Lib.hid (H2.out.trans (B3.out.mono H2.out.size))
  go_wp2_with fail
  refine (put_ok 0 (by omega) (by omega) _).mono ?_
  rintro e w4 ⟨v5, rfl, _, hb⟩
  have B4 := Lib.hid hb
  clear hb
  have H4 := Lib.hid (H3.out.trans (B4.out.mono H3.out.size))
  go_wp2_with fail
  refine (text_ok ⟨#[]⟩ (by decide) _).mono ?_
  rintro e w5 ⟨v6, rfl, _, hb⟩
  have B5 := Lib.hid hb
  clear hb
  have H5 := Lib.hid (H4.out.trans (B5.out.mono H4.out.size))
  go_wp2_with fail
  refine (list_ok [] (by decide) rfl _ _ ((T3.out.below B4.out).below B5.out)).mono ?_
  rintro e w6 ⟨v7, rfl, _, hb⟩
  have B6 := Lib.hid hb
  clear hb
  have H6 := Lib.hid (H5.out.trans (B6.out.mono H5.out.size))
  go_wp2_with fail
  refine (wakes_any _).mono ?_
  rintro e wz ⟨rfl, hbz⟩
  go_wp2
  go_ret
  exact ⟨rfl, H6.out.trans (hbz.mono H6.out.size)⟩

set_option maxRecDepth 100000 in
set_option maxHeartbeats 4000000 in
theorem only_12_0_0 (A : Option Addr) (n c : Nat) (l : List UInt8) (w : World) (hA : Sl w (.slice A n c) (bv l)) (hln : l.length = n) (h1 : n ≤ 600) (he : takeE l = (0, 0, 12)) (hf : (takeT l).2.2 = 0) (hg : (takeL l).2.2 = 0) :
    Calls Try.prog 6 #[.slice A n c] w fun e w' => e = .returned (.bool true) ∧ Below w.heap.size w w' := by
  have SA := Lib.hid hA
  have HLN := Lib.hid hln
  have k1 := fun v w hs => only_take_not l (by omega) 12 he (by decide) v w hs
  obtain ⟨S, r2, hS, hl2, k2⟩ := only_text l (by omega) hf
  have hsl := S_len S
  have HSL := Lib.hid hsl
  have HL2 := Lib.hid hl2
  clear hl2 hsl
  obtain ⟨ns, r3, hns, hok, hl3, k3⟩ := only_list l (by omega) hg
  have HOK := Lib.hid hok
  have HL3 := Lib.hid hl3
  clear hl3 hok
  have K1 := Lib.hid k1
  have K2 := Lib.hid k2
  have K3 := Lib.hid k3
  clear k1 k2 k3 he hf hg hA hln
  go_enter Try.func6, Try.ntmps6
  go_wp2_with fail
  refine (K1.out _ _ SA.out).mono ?_
  rintro e w1 ⟨A1, c1, rfl, H⟩
  have H1 := Lib.hid H
  clear H
  go_wp2_with fail
  refine (K2.out _ _ (SA.out.below H1.out)).mono ?_
  rintro e w2 ⟨v2, rfl, s2, hb⟩
  have T2 := Lib.hid s2
  clear s2
  have B2 := Lib.hid hb
  clear hb
  have H2 := Lib.hid (H1.out.trans (B2.out.mono H1.out.size))
  go_wp2_with fail
  refine (K3.out _ _ (SA.out.below H2.out)).mono ?_
  rintro e w3 ⟨v3, v4, rfl, s3, s4, hb⟩
  have T3 := Lib.hid s3
  have T4 := Lib.hid s4
  clear s3 s4
  have B3 := Lib.hid hb
  clear hb
  have H3 := Lib.hid (H2.out.trans (B3.out.mono H2.out.size))
  go_wp2_with fail
  refine (put_ok 0 (by omega) (by omega) _).mono ?_
  rintro e w4 ⟨v5, rfl, _, hb⟩
  have B4 := Lib.hid hb
  clear hb
  have H4 := Lib.hid (H3.out.trans (B4.out.mono H3.out.size))
  go_wp2_with fail
  refine (text_ok S hS _).mono ?_
  rintro e w5 ⟨v6, rfl, s6, hb⟩
  have T6 := Lib.hid s6
  clear s6
  have B5 := Lib.hid hb
  clear hb
  have H5 := Lib.hid (H4.out.trans (B5.out.mono H4.out.size))
  go_wp2_with fail
  refine (list_ok ns hns HOK.out _ _ ((T3.out.below B4.out).below B5.out)).mono ?_
  rintro e w6 ⟨v7, rfl, s7, hb⟩
  have T7 := Lib.hid s7
  clear s7
  have B6 := Lib.hid hb
  clear hb
  have H6 := Lib.hid (H5.out.trans (B6.out.mono H5.out.size))
  have P6 := Lib.hid (T6.out.below B6.out)
  have P2 := Lib.hid ((((T2.out.below B3.out).below B4.out).below B5.out).below B6.out)
  have P7 := T7
  have P4 := Lib.hid (((T4.out.below B4.out).below B5.out).below B6.out)
  go_wp2_with (at_builtin; first
    | (refine wpList_appw el23 (by rfl) (.tmp 78) (.tmp 79) rfl w6.heap.size (.slice (some ⟨w6.heap.size, 0, none⟩) 0 0) 0 [] rfl (ownsRow_empty w6 w6.heap.size (Nat.le_refl _) 5) _ _ rfl (P6.out.alloc _) (bv_one _) (by have e1 := bv_length (UInt8.ofNat S.size :: S.data.toList); have e8 := HSL.out; have e7 := congrArg List.length HL2.out; rw [List.length_append] at e7; have e6 := HLN.out; omega) (by simp) ?_
       intro vA wA hownA hgA hatA
       have hBA : Below w6.heap.size w6 wA := gr_new (gr_then (gr_alloc (gr_refl w6 (some w6.heap.size)) _) hgA (.inl rfl)) (by intro g e; injection e with e; omega)
       have HATA := Lib.hid (show vA.ownBlock = some w6.heap.size ∨ vA.ownBlock = some (w6.heap.size + 1) by simpa [Value.ownBlock] using hatA)
       clear hgA hatA)
    | (refine wpList_appw el23 (by rfl) (.tmp 80) (.tmp 81) rfl w6.heap.size vA _ _ rfl hownA _ _ rfl (P2.out.below hBA) (bv_one _) (by have e1 := bv_length (UInt8.ofNat S.size :: S.data.toList); have e2 := bv_length (r2); have e8 := HSL.out; have e7 := congrArg List.length HL2.out; rw [List.length_append] at e7; have e6 := HLN.out; omega) hBA.size ?_
       intro vC0 w7 hownB hgB hatB
       have hB7 : Below w6.heap.size w6 w7 := gr_new (gr_then (row := some w6.heap.size) (gr_of_below hBA _) hgB (.inr (by rintro g e; rcases HATA.out with h | h <;> (rw [h] at e; injection e with e; omega)))) (by intro g e; injection e with e; omega)
       have sC0 := Sl.of_own hownB
       rw [List.nil_append, ← bv_append] at sC0
       clear hownB hgB hatB))
  clear hBA HATA hownA
  rw [HL2.out] at sC0
  refine (same_below _ _ l l _ sC0 ((SA.out.below H6.out).below hB7)).mono ?_
  rintro e w8 ⟨rfl, hb⟩
  simp only [decide_true]
  have B8 := Lib.hid (hB7.trans (hb.mono hB7.size))
  clear hb hB7 sC0
  have H8 := Lib.hid (H6.out.trans (B8.out.mono H6.out.size))
  replace P7 := Lib.hid (P7.out.below B8.out)
  replace P4 := Lib.hid (P4.out.below B8.out)
  go_wp2_with (at_builtin; first
    | (refine wpList_appw el23 (by rfl) (.tmp 96) (.tmp 97) rfl w8.heap.size (.slice (some ⟨w8.heap.size, 0, none⟩) 0 0) 0 [] rfl (ownsRow_empty w8 w8.heap.size (Nat.le_refl _) 5) _ _ rfl (P7.out.alloc _) (bv_one _) (by have e1 := bv_length (UInt8.ofNat ns.length :: numsI ns); have e7 := congrArg List.length HL3.out; rw [List.length_append] at e7; have e6 := HLN.out; omega) (by simp) ?_
       intro vA wA hownA hgA hatA
       have hBA : Below w8.heap.size w8 wA := gr_new (gr_then (gr_alloc (gr_refl w8 (some w8.heap.size)) _) hgA (.inl rfl)) (by intro g e; injection e with e; omega)
       have HATA := Lib.hid (show vA.ownBlock = some w8.heap.size ∨ vA.ownBlock = some (w8.heap.size + 1) by simpa [Value.ownBlock] using hatA)
       clear hgA hatA)
    | (refine wpList_appw el23 (by rfl) (.tmp 98) (.tmp 99) rfl w8.heap.size vA _ _ rfl hownA _ _ rfl (P4.out.below hBA) (bv_one _) (by have e1 := bv_length (UInt8.ofNat ns.length :: numsI ns); have e2 := bv_length (r3); have e7 := congrArg List.length HL3.out; rw [List.length_append] at e7; have e6 := HLN.out; omega) hBA.size ?_
       intro vC1 w9 hownB hgB hatB
       have hB9 : Below w8.heap.size w8 w9 := gr_new (gr_then (row := some w8.heap.size) (gr_of_below hBA _) hgB (.inr (by rintro g e; rcases HATA.out with h | h <;> (rw [h] at e; injection e with e; omega)))) (by intro g e; injection e with e; omega)
       have sC1 := Sl.of_own hownB
       rw [List.nil_append, ← bv_append] at sC1
       clear hownB hgB hatB))
  clear hBA HATA hownA
  rw [HL3.out] at sC1
  refine (same_below _ _ l l _ sC1 ((SA.out.below H8.out).below hB9)).mono ?_
  rintro e w10 ⟨rfl, hb⟩
  simp only [decide_true]
  have B10 := Lib.hid (hB9.trans (hb.mono hB9.size))
  clear hb hB9 sC1
  have H10 := Lib.hid (H8.out.trans (B10.out.mono H8.out.size))
  go_wp2_with fail
  refine (wakes_any _).mono ?_
  rintro e wz ⟨rfl, hbz⟩
  go_wp2
  go_ret
  exact ⟨rfl, H10.out.trans (hbz.mono H10.out.size)⟩

set_option maxRecDepth 100000 in
set_option maxHeartbeats 4000000 in
theorem only_12_0_1 (A : Option Addr) (n c : Nat) (l : List UInt8) (w : World) (hA : Sl w (.slice A n c) (bv l)) (hln : l.length = n) (h1 : n ≤ 600) (he : takeE l = (0, 0, 12)) (hf : (takeT l).2.2 = 0) (hg : takeL l = ([], [], 11) ∨ takeL l = ([], [], 12)) :
    Calls Try.prog 6 #[.slice A n c] w fun e w' => e = .returned (.bool true) ∧ Below w.heap.size w w' := by
  have SA := Lib.hid hA
  have HLN := Lib.hid hln
  have k1 := fun v w hs => only_take_not l (by omega) 12 he (by decide) v w hs
  obtain ⟨S, r2, hS, hl2, k2⟩ := only_text l (by omega) hf
  have hsl := S_len S
  have HSL := Lib.hid hsl
  have HL2 := Lib.hid hl2
  clear hl2 hsl
  obtain ⟨gr, hgr, k3⟩ := only_list_not l (by omega) hg
  have k4 := fun v w hs => list_ok [] (by decide) rfl v w hs
  have K1 := Lib.hid k1
  have K2 := Lib.hid k2
  have K3 := Lib.hid k3
  clear k1 k2 k3 he hf hg hA hln
  go_enter Try.func6, Try.ntmps6
  go_wp2_with fail
  refine (K1.out _ _ SA.out).mono ?_
  rintro e w1 ⟨A1, c1, rfl, H⟩
  have H1 := Lib.hid H
  clear H
  go_wp2_with fail
  refine (K2.out _ _ (SA.out.below H1.out)).mono ?_
  rintro e w2 ⟨v2, rfl, s2, hb⟩
  have T2 := Lib.hid s2
  clear s2
  have B2 := Lib.hid hb
  clear hb
  have H2 := Lib.hid (H1.out.trans (B2.out.mono H1.out.size))
  go_wp2_with fail
  refine (K3.out _ _ (SA.out.below H2.out)).mono ?_
  rintro e w3 ⟨A3, c3, A4, c4, rfl, s3, hb⟩
  have T3 := Lib.hid s3
  clear s3
  have B3 := Lib.hid hb
  clear hb
  have H3 := Lib.hid (H2.out.trans (B3.out.mono H2.out.size))
  go_wp2_with fail
  refine (put_ok 0 (by omega) (by omega) _).mono ?_
  rintro e w4 ⟨v5, rfl, _, hb⟩
  have B4 := Lib.hid hb
  clear hb
  have H4 := Lib.hid (H3.out.trans (B4.out.mono H3.out.size))
  go_wp2_with fail
  refine (text_ok S hS _).mono ?_
  rintro e w5 ⟨v6, rfl, s6, hb⟩
  have T6 := Lib.hid s6
  clear s6
  have B5 := Lib.hid hb
  clear hb
  have H5 := Lib.hid (H4.out.trans (B5.out.mono H4.out.size))
  go_wp2_with fail
  refine (list_ok [] (by decide) rfl _ _ ((T3.out.below B4.out).below B5.out)).mono ?_
  rintro e w6 ⟨v7, rfl, _, hb⟩
  have B6 := Lib.hid hb
  clear hb
  have H6 := Lib.hid (H5.out.trans (B6.out.mono H5.out.size))
  have P6 := Lib.hid (T6.out.below B6.out)
  have P2 := Lib.hid ((((T2.out.below B3.out).below B4.out).below B5.out).below B6.out)
  go_wp2_with (at_builtin; first
    | (refine wpList_appw el23 (by rfl) (.tmp 78) (.tmp 79) rfl w6.heap.size (.slice (some ⟨w6.heap.size, 0, none⟩) 0 0) 0 [] rfl (ownsRow_empty w6 w6.heap.size (Nat.le_refl _) 5) _ _ rfl (P6.out.alloc _) (bv_one _) (by have e1 := bv_length (UInt8.ofNat S.size :: S.data.toList); have e8 := HSL.out; have e7 := congrArg List.length HL2.out; rw [List.length_append] at e7; have e6 := HLN.out; omega) (by simp) ?_
       intro vA wA hownA hgA hatA
       have hBA : Below w6.heap.size w6 wA := gr_new (gr_then (gr_alloc (gr_refl w6 (some w6.heap.size)) _) hgA (.inl rfl)) (by intro g e; injection e with e; omega)
       have HATA := Lib.hid (show vA.ownBlock = some w6.heap.size ∨ vA.ownBlock = some (w6.heap.size + 1) by simpa [Value.ownBlock] using hatA)
       clear hgA hatA)
    | (refine wpList_appw el23 (by rfl) (.tmp 80) (.tmp 81) rfl w6.heap.size vA _ _ rfl hownA _ _ rfl (P2.out.below hBA) (bv_one _) (by have e1 := bv_length (UInt8.ofNat S.size :: S.data.toList); have e2 := bv_length (r2); have e8 := HSL.out; have e7 := congrArg List.length HL2.out; rw [List.length_append] at e7; have e6 := HLN.out; omega) hBA.size ?_
       intro vC0 w7 hownB hgB hatB
       have hB7 : Below w6.heap.size w6 w7 := gr_new (gr_then (row := some w6.heap.size) (gr_of_below hBA _) hgB (.inr (by rintro g e; rcases HATA.out with h | h <;> (rw [h] at e; injection e with e; omega)))) (by intro g e; injection e with e; omega)
       have sC0 := Sl.of_own hownB
       rw [List.nil_append, ← bv_append] at sC0
       clear hownB hgB hatB))
  clear hBA HATA hownA
  rw [HL2.out] at sC0
  refine (same_below _ _ l l _ sC0 ((SA.out.below H6.out).below hB7)).mono ?_
  rintro e w8 ⟨rfl, hb⟩
  simp only [decide_true]
  have B8 := Lib.hid (hB7.trans (hb.mono hB7.size))
  clear hb hB7 sC0
  have H8 := Lib.hid (H6.out.trans (B8.out.mono H6.out.size))
  go_wp2_with fail
  refine (wakes_any _).mono ?_
  rintro e wz ⟨rfl, hbz⟩
  go_wp2
  go_ret
  exact ⟨rfl, H8.out.trans (hbz.mono H8.out.size)⟩

set_option maxRecDepth 100000 in
set_option maxHeartbeats 4000000 in
theorem only_12_11_0 (A : Option Addr) (n c : Nat) (l : List UInt8) (w : World) (hA : Sl w (.slice A n c) (bv l)) (hln : l.length = n) (h1 : n ≤ 600) (he : takeE l = (0, 0, 12)) (hf : takeT l = ([], [], 11)) (hg : (takeL l).2.2 = 0) :
    Calls Try.prog 6 #[.slice A n c] w fun e w' => e = .returned (.bool true) ∧ Below w.heap.size w w' := by
  have SA := Lib.hid hA
  have HLN := Lib.hid hln
  have k1 := fun v w hs => only_take_not l (by omega) 12 he (by decide) v w hs
  have k2 := fun v w hs => only_text_not l (by omega) hf v w hs
  obtain ⟨ns, r3, hns, hok, hl3, k3⟩ := only_list l (by omega) hg
  have HOK := Lib.hid hok
  have HL3 := Lib.hid hl3
  clear hl3 hok
  have K1 := Lib.hid k1
  have K2 := Lib.hid k2
  have K3 := Lib.hid k3
  clear k1 k2 k3 he hf hg hA hln
  go_enter Try.func6, Try.ntmps6
  go_wp2_with fail
  refine (K1.out _ _ SA.out).mono ?_
  rintro e w1 ⟨A1, c1, rfl, H⟩
  have H1 := Lib.hid H
  clear H
  go_wp2_with fail
  refine (K2.out _ _ (SA.out.below H1.out)).mono ?_
  rintro e w2 ⟨v2, rfl, hb⟩
  have B2 := Lib.hid hb
  clear hb
  have H2 := Lib.hid (H1.out.trans (B2.out.mono H1.out.size))
  go_wp2_with fail
  refine (K3.out _ _ (SA.out.below H2.out)).mono ?_
  rintro e w3 ⟨v3, v4, rfl, s3, s4, hb⟩
  have T3 := Lib.hid s3
  have T4 := Lib.hid s4
  clear s3 s4
  have B3 := Lib.hid hb
  clear hb
  have H3 := Lib.hid (H2.out.trans (B3.out.mono H2.out.size))
  go_wp2_with fail
  refine (put_ok 0 (by omega) (by omega) _).mono ?_
  rintro e w4 ⟨v5, rfl, _, hb⟩
  have B4 := Lib.hid hb
  clear hb
  have H4 := Lib.hid (H3.out.trans (B4.out.mono H3.out.size))
  go_wp2_with fail
  refine (text_ok ⟨#[]⟩ (by decide) _).mono ?_
  rintro e w5 ⟨v6, rfl, _, hb⟩
  have B5 := Lib.hid hb
  clear hb
  have H5 := Lib.hid (H4.out.trans (B5.out.mono H4.out.size))
  go_wp2_with fail
  refine (list_ok ns hns HOK.out _ _ ((T3.out.below B4.out).below B5.out)).mono ?_
  rintro e w6 ⟨v7, rfl, s7, hb⟩
  have T7 := Lib.hid s7
  clear s7
  have B6 := Lib.hid hb
  clear hb
  have H6 := Lib.hid (H5.out.trans (B6.out.mono H5.out.size))
  have P7 := T7
  have P4 := Lib.hid (((T4.out.below B4.out).below B5.out).below B6.out)
  go_wp2_with (at_builtin; first
    | (refine wpList_appw el23 (by rfl) (.tmp 96) (.tmp 97) rfl w6.heap.size (.slice (some ⟨w6.heap.size, 0, none⟩) 0 0) 0 [] rfl (ownsRow_empty w6 w6.heap.size (Nat.le_refl _) 5) _ _ rfl (P7.out.alloc _) (bv_one _) (by have e1 := bv_length (UInt8.ofNat ns.length :: numsI ns); have e7 := congrArg List.length HL3.out; rw [List.length_append] at e7; have e6 := HLN.out; omega) (by simp) ?_
       intro vA wA hownA hgA hatA
       have hBA : Below w6.heap.size w6 wA := gr_new (gr_then (gr_alloc (gr_refl w6 (some w6.heap.size)) _) hgA (.inl rfl)) (by intro g e; injection e with e; omega)
       have HATA := Lib.hid (show vA.ownBlock = some w6.heap.size ∨ vA.ownBlock = some (w6.heap.size + 1) by simpa [Value.ownBlock] using hatA)
       clear hgA hatA)
    | (refine wpList_appw el23 (by rfl) (.tmp 98) (.tmp 99) rfl w6.heap.size vA _ _ rfl hownA _ _ rfl (P4.out.below hBA) (bv_one _) (by have e1 := bv_length (UInt8.ofNat ns.length :: numsI ns); have e2 := bv_length (r3); have e7 := congrArg List.length HL3.out; rw [List.length_append] at e7; have e6 := HLN.out; omega) hBA.size ?_
       intro vC0 w7 hownB hgB hatB
       have hB7 : Below w6.heap.size w6 w7 := gr_new (gr_then (row := some w6.heap.size) (gr_of_below hBA _) hgB (.inr (by rintro g e; rcases HATA.out with h | h <;> (rw [h] at e; injection e with e; omega)))) (by intro g e; injection e with e; omega)
       have sC0 := Sl.of_own hownB
       rw [List.nil_append, ← bv_append] at sC0
       clear hownB hgB hatB))
  clear hBA HATA hownA
  rw [HL3.out] at sC0
  refine (same_below _ _ l l _ sC0 ((SA.out.below H6.out).below hB7)).mono ?_
  rintro e w8 ⟨rfl, hb⟩
  simp only [decide_true]
  have B8 := Lib.hid (hB7.trans (hb.mono hB7.size))
  clear hb hB7 sC0
  have H8 := Lib.hid (H6.out.trans (B8.out.mono H6.out.size))
  go_wp2_with fail
  refine (wakes_any _).mono ?_
  rintro e wz ⟨rfl, hbz⟩
  go_wp2
  go_ret
  exact ⟨rfl, H8.out.trans (hbz.mono H8.out.size)⟩

set_option maxRecDepth 100000 in
set_option maxHeartbeats 4000000 in
theorem only_12_11_1 (A : Option Addr) (n c : Nat) (l : List UInt8) (w : World) (hA : Sl w (.slice A n c) (bv l)) (hln : l.length = n) (h1 : n ≤ 600) (he : takeE l = (0, 0, 12)) (hf : takeT l = ([], [], 11)) (hg : takeL l = ([], [], 11) ∨ takeL l = ([], [], 12)) :
    Calls Try.prog 6 #[.slice A n c] w fun e w' => e = .returned (.bool true) ∧ Below w.heap.size w w' := by
  have SA := Lib.hid hA
  have HLN := Lib.hid hln
  have k1 := fun v w hs => only_take_not l (by omega) 12 he (by decide) v w hs
  have k2 := fun v w hs => only_text_not l (by omega) hf v w hs
  obtain ⟨gr, hgr, k3⟩ := only_list_not l (by omega) hg
  have k4 := fun v w hs => list_ok [] (by decide) rfl v w hs
  have K1 := Lib.hid k1
  have K2 := Lib.hid k2
  have K3 := Lib.hid k3
  clear k1 k2 k3 he hf hg hA hln
  go_enter Try.func6, Try.ntmps6
  go_wp2_with fail
  refine (K1.out _ _ SA.out).mono ?_
  rintro e w1 ⟨A1, c1, rfl, H⟩
  have H1 := Lib.hid H
  clear H
  go_wp2_with fail
  refine (K2.out _ _ (SA.out.below H1.out)).mono ?_
  rintro e w2 ⟨v2, rfl, hb⟩
  have B2 := Lib.hid hb
  clear hb
  have H2 := Lib.hid (H1.out.trans (B2.out.mono H1.out.size))
  go_wp2_with fail
  refine (K3.out _ _ (SA.out.below H2.out)).mono ?_
  rintro e w3 ⟨A3, c3, A4, c4, rfl, s3, hb⟩
  have T3 := Lib.hid s3
  clear s3
  have B3 := Lib.hid hb
  clear hb
  have H3 := Lib.hid (H2.out.trans (B3.out.mono H2.out.size))
  go_wp2_with fail
  refine (put_ok 0 (by omega) (by omega) _).mono ?_
  rintro e w4 ⟨v5, rfl, _, hb⟩
  have B4 := Lib.hid hb
  clear hb
  have H4 := Lib.hid (H3.out.trans (B4.out.mono H3.out.size))
  go_wp2_with fail
  refine (text_ok ⟨#[]⟩ (by decide) _).mono ?_
  rintro e w5 ⟨v6, rfl, _, hb⟩
  have B5 := Lib.hid hb
  clear hb
  have H5 := Lib.hid (H4.out.trans (B5.out.mono H4.out.size))
  go_wp2_with fail
  refine (list_ok [] (by decide) rfl _ _ ((T3.out.below B4.out).below B5.out)).mono ?_
  rintro e w6 ⟨v7, rfl, _, hb⟩
  have B6 := Lib.hid hb
  clear hb
  have H6 := Lib.hid (H5.out.trans (B6.out.mono H5.out.size))
  go_wp2_with fail
  refine (wakes_any _).mono ?_
  rintro e wz ⟨rfl, hbz⟩
  go_wp2
  go_ret
  exact ⟨rfl, H6.out.trans (hbz.mono H6.out.size)⟩

theorem only_walk (W : World) (v : Value) (l : List UInt8) (h : Sl W v (bv l)) :
    Calls Try.prog 6 #[v] W fun e w' => e = .returned (.bool true) ∧ Below W.heap.size W w' := by
  obtain ⟨A, c, rfl⟩ := h.form
  rw [bv_length] at h ⊢
  by_cases hl : 600 < l.length
  · exact only_long A _ c W hl
  have h1 : l.length ≤ 600 := by omega
  rcases takeE_err l with he | he | he <;> rcases takeT_err l with hf | hf <;> rcases takeL_err l with hg | hg
  · exact only_0_0_0 A _ c l W h rfl h1 he hf hg
  · exact only_0_0_1 A _ c l W h rfl h1 he hf hg
  · exact only_0_11_0 A _ c l W h rfl h1 he hf hg
  · exact only_0_11_1 A _ c l W h rfl h1 he hf hg
  · exact only_11_0_0 A _ c l W h rfl h1 he hf hg
  · exact only_11_0_1 A _ c l W h rfl h1 he hf hg
  · exact only_11_11_0 A _ c l W h rfl h1 he hf hg
  · exact only_11_11_1 A _ c l W h rfl h1 he hf hg
  · exact only_12_0_0 A _ c l W h rfl h1 he hf hg
  · exact only_12_0_1 A _ c l W h rfl h1 he hf hg
  · exact only_12_11_0 A _ c l W h rfl h1 he hf hg
  · exact only_12_11_1 A _ c l W h rfl h1 he hf hg
end Go.Proofs.Ythdlehbelbapeaa
