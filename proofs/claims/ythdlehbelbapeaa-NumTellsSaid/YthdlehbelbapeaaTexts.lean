/- 'NumTexts': texts and lists that are put are taken, whatever stands behind. -/
import Derived.Test.YthdlehbelbapeaaBack
namespace Go.Proofs.Ythdlehbelbapeaa
open Go.RowKit Go.Shelf

theorem takeT_text (s r : List UInt8) (h : s.length ≤ 255) : takeT (UInt8.ofNat s.length :: s ++ r) = (s, r, 0) := by
  have e : (UInt8.ofNat s.length).toNat = s.length := by simp; omega
  simp only [List.cons_append, takeT, e]
  rw [if_neg (by simp), List.take_left, List.drop_left]
theorem bytes_eq (S : ByteArray) : (⟨S.data.toList.toArray⟩ : ByteArray) = S := by cases S; simp
theorem S_len (S : ByteArray) : S.data.toList.length = S.size := by show S.data.toList.length = S.data.size; exact Array.length_toList
theorem take_text (S : ByteArray) (hS : S.size ≤ 255) (l : List UInt8) (v : Value) (w : World) (h : Sl w v (bv (UInt8.ofNat S.size :: S.data.toList ++ l))) (hl : l.length ≤ 1099511627776) :
    Calls Try.prog 19 #[v] w fun e w' => ∃ v', e = .returned (.tuple #[.string S, v', .int .i64 0]) ∧ Sl w' v' (bv l) ∧ Below w.heap.size w w' := by
  have hz := S_len S
  have ht := takeT_text S.data.toList l (by omega)
  rw [hz] at ht
  refine (TakeText_any v _ w h (by rw [List.length_append, List.length_cons]; omega)).mono ?_
  rintro e w' ⟨v', rfl, hs, hb⟩
  rw [ht] at hs ⊢
  exact ⟨v', by rw [bytes_eq]; rfl, hs, hb⟩
theorem text_ok (S : ByteArray) (hS : S.size ≤ 255) (w : World) : Calls Try.prog 12 #[.string S] w fun e w' => ∃ v, e = .returned (.tuple #[v, .int .i64 0]) ∧ Sl w' v (bv (UInt8.ofNat S.size :: S.data.toList)) ∧ Below w.heap.size w w' := by
  have h := Text_any S w
  rw [textE, textB, S_len, if_neg (by omega), if_neg (by omega)] at h
  exact h

def okB (l : List Int) : Bool := l.all fun n => decide (0 ≤ n ∧ n ≤ 1099511627776)
theorem okB_snoc (l : List Int) (x : Int) : okB (l ++ [x]) = (okB l && decide (0 ≤ x ∧ x ≤ 1099511627776)) := by simp [okB]
theorem okB_iff (l : List Int) : okB l = true ↔ ∀ n ∈ l, ok1 n := by simp [okB, ok1]
theorem list_ok (l : List Int) (hl : l.length ≤ 255) (h : okB l = true) (v : Value) (w : World) (hs : Sl w v (iv l)) :
    Calls Try.prog 15 #[v] w fun e w' => ∃ v', e = .returned (.tuple #[v', .int .i64 0]) ∧ Sl w' v' (bv (UInt8.ofNat l.length :: numsI l)) ∧ Below w.heap.size w w' := by
  have hk : okL l := ⟨hl, (okB_iff l).1 h⟩
  have := List_any v l w hs
  rw [listE, listBy, if_pos hk, if_pos hk] at this
  exact this
theorem list_not (l : List Int) (h : okB l = false) (v : Value) (w : World) (hs : Sl w v (iv l)) :
    Calls Try.prog 15 #[v] w fun e w' => ∃ v', e = .returned (.tuple #[v', .int .i64 2]) ∧ Sl w' v' (bv []) ∧ Below w.heap.size w w' := by
  have hk : ¬ okL l := fun hk => by have := (okB_iff l).2 hk.2; rw [h] at this; cases this
  have := List_any v l w hs
  rw [listE, listBy, if_neg hk, if_neg hk] at this
  exact this
theorem take_list (l : List Int) (hl : l.length ≤ 255) (hk : okB l = true) (r : List UInt8) (v : Value) (w : World) (h : Sl w v (bv (UInt8.ofNat l.length :: numsI l ++ r))) (hr : r.length ≤ 1099511627776) :
    Calls Try.prog 21 #[v] w fun e w' => ∃ v1 v2, e = .returned (.tuple #[v1, v2, .int .i64 0]) ∧ Sl w' v1 (iv l) ∧ Sl w' v2 (bv r) ∧ Below w.heap.size w w' := by
  have hok := (okB_iff l).1 hk
  have h7 := numsI_len l hok
  have ht := takeL_list (l.map Int.toNat) r (by simpa using hl) (by
    intro n hn
    obtain ⟨x, hx, rfl⟩ := List.mem_map.1 hn
    have := hok x hx
    unfold ok1 at this
    omega)
  rw [listB, List.length_map] at ht
  refine (TakeList_any v _ w h (by rw [List.length_append, List.length_cons]; omega)).mono ?_
  rintro e w' ⟨v1, v2, rfl, hs1, hs2, hb⟩
  rw [show UInt8.ofNat l.length :: numsI l ++ r = UInt8.ofNat l.length :: nums (l.map Int.toNat) ++ r from rfl, ht] at hs1 hs2 ⊢
  refine ⟨v1, v2, rfl, ?_, hs2, hb⟩
  have e : (l.map Int.toNat).map Int.ofNat = l := by
    rw [List.map_map]
    conv => rhs; rw [← List.map_id l]
    apply List.map_congr_left
    intro x hx
    have := hok x hx
    unfold ok1 at this
    simp
    omega
  rw [ivn, e] at hs1
  exact hs1

set_option maxRecDepth 100000 in
set_option maxHeartbeats 1000000 in
theorem texts_long (S : ByteArray) (A B : Option Addr) (n m c d : Nat) (w : World) (h : 255 < S.size ∨ 100 < n ∨ 60 < m) :
    Calls Try.prog 5 #[.string S, .slice A n c, .slice B m d] w fun e w' => e = .returned (.bool true) ∧ Below w.heap.size w w' := by
  go_enter Try.func5, Try.ntmps5
  go_wp2_with (go_at_call 9; refine (wakes_any _).mono ?_; rintro e w' ⟨rfl, hb⟩)
  all_goals
    go_ret
    exact ⟨rfl, hb⟩

set_option maxRecDepth 100000 in
set_option maxHeartbeats 4000000 in
theorem texts_in (S : ByteArray) (A B : Option Addr) (n m c d : Nat) (l : List Int) (r : List UInt8) (w : World) (hA : Sl w (.slice A n c) (iv l)) (hB : Sl w (.slice B m d) (bv r)) (hln : l.length = n) (hrm : r.length = m) (h1 : S.size ≤ 255) (h2 : n ≤ 100) (h3 : m ≤ 60) :
    Calls Try.prog 5 #[.string S, .slice A n c, .slice B m d] w fun e w' => e = .returned (.bool true) ∧ Below w.heap.size w w' := by
  have SA := Lib.hid hA
  have SB := Lib.hid hB
  have HLN := Lib.hid hln
  have HRM := Lib.hid hrm
  have hsl := S_len S
  have HSL := Lib.hid hsl
  clear hA hB hln hrm hsl
  go_enter Try.func5, Try.ntmps5
  go_wp2_with fail
  refine (text_ok S h1 _).mono ?_
  rintro e w1 ⟨v1, rfl, s1, H⟩
  have T1 := Lib.hid s1
  clear s1
  go_wp2_with (at_builtin; first
    | (refine wpList_app el23 rfl (.tmp 39) (.tmp 40) rfl w1.heap.size (.slice (some ⟨w1.heap.size, 0, none⟩) 0 0) 0 [] rfl (ownsRow_empty w1 w1.heap.size (Nat.le_refl _) 5) _ _ rfl (T1.out.alloc _) (bv_one _) (by have e1 := bv_length (UInt8.ofNat S.size :: S.data.toList); have e9 := HSL.out; rw [List.length_cons] at e1; omega) (by simp) ?_
       intro vA wA hownA hgA hatA
       have hBA : Below w1.heap.size w1 wA := gr_new (gr_then (gr_alloc (gr_refl w1 (some w1.heap.size)) _) hgA (.inl rfl)) (by intro g e; injection e with e; omega)
       have HATA := Lib.hid (show vA.ownBlock = some w1.heap.size ∨ vA.ownBlock = some (w1.heap.size + 1) by simpa [Value.ownBlock] using hatA)
       clear hgA hatA)
    | (refine wpList_app el23 rfl (.tmp 41) (.tmp 42) rfl w1.heap.size vA _ _ rfl hownA _ _ rfl ((SB.out.below H).below hBA) (bv_one _) (by have e1 := bv_length (UInt8.ofNat S.size :: S.data.toList); have e2 := bv_length (r); have e9 := HSL.out; have e8 := HRM.out; rw [List.length_cons] at e1; omega) hBA.size ?_
       intro v2 w2 hownB hgB hatB
       have hB2 : Below w1.heap.size w1 w2 := gr_new (gr_then (row := some w1.heap.size) (gr_of_below hBA _) hgB (.inr (by rintro g e; rcases HATA.out with h | h <;> (rw [h] at e; injection e with e; omega)))) (by intro g e; injection e with e; omega)
       have s2 := Sl.of_own hownB
       rw [List.nil_append, ← bv_append] at s2
       clear hownB hgB hatB))
  clear hBA HATA hownA
  refine (take_text S h1 r v2 w2 s2 (by have := HRM.out; omega)).mono ?_
  rintro e w3 ⟨v3, rfl, s3, hb3⟩
  replace H := H.trans ((hB2.trans (hb3.mono hB2.size)).mono H.size)
  clear hB2 s2 hb3
  go_wp2_with fail
  refine (same_below _ _ r r _ s3 (SB.out.below H)).mono ?_
  rintro e w4 ⟨rfl, hb4⟩
  simp only [decide_true]
  replace H := H.trans (hb4.mono H.size)
  clear hb4 s3 T1
  go_wp2_with fail
  have HW := Lib.hid H
  clear H
  go_loop [12, 13] (fun f i => ∃ k : Nat, k ≤ n ∧ i = .int .i64 k ∧ f = .bool (okB (l.take k))) (fun _ i => n - (intOf i).toNat)
  case atStart => exact ⟨0, Nat.zero_le _, rfl, rfl⟩
  case round =>
    obtain ⟨k, hk, rfl, rfl⟩ := hrel
    by_cases hlt : k < n
    · have hkl : k < l.length := by rw [HLN.out]; exact hlt
      have hsn : okB (l.take (k + 1)) = (okB (l.take k) && decide (0 ≤ l[k] ∧ l[k] ≤ 1099511627776)) := by
        rw [List.take_succ_eq_append_getElem hkl, okB_snoc]
      have HSN := Lib.hid hsn
      clear hsn
      obtain ⟨b, off, rfl, hcell⟩ : ∃ b off, A = some ⟨b, off, none⟩ ∧ w4.cell? ⟨b, off + k, none⟩ = some (.int .i64 l[k]) := by
        rcases (SA.out.below HW.out).ints with ⟨h, hl0⟩ | ⟨b, off, c', h, _, hc⟩
        · rw [hl0] at hkl; simp at hkl
        · injection h with h
          exact ⟨b, off, h, hc k hkl⟩
      generalize l[k] = x at *
      by_cases hf : okB (l.take k) = true
      · rw [hf] at HSN
        by_cases hx : 0 ≤ x ∧ x ≤ 1099511627776
        · obtain ⟨hx0, hx1⟩ := hx
          go_wp2
          go_round
          case rel => exact ⟨k + 1, by omega, by go_num, by rw [HSN.out]; simp [hx0, hx1]⟩
          case measure => simp [intOf]; omega
        · by_cases hx0 : 0 ≤ x
          · have hx1 : 1099511627776 < x := by omega
            go_wp2
            go_round
            case rel => exact ⟨k + 1, by omega, by go_num, by rw [HSN.out]; simp; omega⟩
            case measure => simp [intOf]; omega
          · have hx1 : x < 0 := by omega
            go_wp2
            go_round
            case rel => exact ⟨k + 1, by omega, by go_num, by rw [HSN.out]; simp; omega⟩
            case measure => simp [intOf]; omega
      · have hf' : okB (l.take k) = false := by simpa using hf
        rw [hf'] at HSN
        clear hf
        go_wp2
        go_round
        case rel => exact ⟨k + 1, by omega, by go_num, by rw [HSN.out]; rfl⟩
        case measure => simp [intOf]; omega
    · obtain rfl : k = n := by omega
      have hall : l.take k = l := List.take_of_length_le (by rw [HLN.out]; exact Nat.le_refl _)
      rw [hall]
      by_cases hok : okB l = true
      · have HOK := Lib.hid hok
        have HLEN : l.length ≤ 100 := by rw [HLN.out]; exact h2
        have hl7 := numsI_len l ((okB_iff l).1 hok)
        have HL7 := Lib.hid hl7
        clear hl7
        go_wp2_with fail
        refine (list_ok l (by omega) HOK.out _ _ (SA.out.below HW.out)).mono ?_
        rintro e w5 ⟨v5, rfl, s5, hb5⟩
        have H := HW.out.trans (hb5.mono HW.out.size)
        have T5 := Lib.hid s5
        clear s5 hb5
        go_wp2_with (at_builtin; first
          | (refine wpList_app el23 rfl (.tmp 104) (.tmp 105) rfl w5.heap.size (.slice (some ⟨w5.heap.size, 0, none⟩) 0 0) 0 [] rfl (ownsRow_empty w5 w5.heap.size (Nat.le_refl _) 5) _ _ rfl (T5.out.alloc _) (bv_one _) (by have e1 := bv_length (UInt8.ofNat l.length :: numsI l); have e9 := HL7.out; rw [List.length_cons] at e1; omega) (by simp) ?_
             intro vA wA hownA hgA hatA
             have hBA : Below w5.heap.size w5 wA := gr_new (gr_then (gr_alloc (gr_refl w5 (some w5.heap.size)) _) hgA (.inl rfl)) (by intro g e; injection e with e; omega)
             have HATA := Lib.hid (show vA.ownBlock = some w5.heap.size ∨ vA.ownBlock = some (w5.heap.size + 1) by simpa [Value.ownBlock] using hatA)
             clear hgA hatA)
          | (refine wpList_app el23 rfl (.tmp 106) (.tmp 107) rfl w5.heap.size vA _ _ rfl hownA _ _ rfl ((SB.out.below H).below hBA) (bv_one _) (by have e1 := bv_length (UInt8.ofNat l.length :: numsI l); have e2 := bv_length (r); have e9 := HL7.out; have e8 := HRM.out; rw [List.length_cons] at e1; omega) hBA.size ?_
             intro v6 w6 hownB hgB hatB
             have hB6 : Below w5.heap.size w5 w6 := gr_new (gr_then (row := some w5.heap.size) (gr_of_below hBA _) hgB (.inr (by rintro g e; rcases HATA.out with h | h <;> (rw [h] at e; injection e with e; omega)))) (by intro g e; injection e with e; omega)
             have s6 := Sl.of_own hownB
             rw [List.nil_append, ← bv_append] at s6
             clear hownB hgB hatB))
        clear hBA HATA hownA
        refine (take_list l (by omega) HOK.out r v6 w6 s6 (by have := HRM.out; omega)).mono ?_
        rintro e w7 ⟨v7, v8, rfl, s7, s8, hb7⟩
        replace H := H.trans ((hB6.trans (hb7.mono hB6.size)).mono H.size)
        clear hB6 s6 hb7
        go_wp2_with fail
        refine (Ints_any _ _ l l _ (SA.out.below H) s7 (by omega)).mono ?_
        rintro e w8 ⟨rfl, hb8⟩
        simp only [decide_true]
        replace s8 := s8.below hb8
        replace H := H.trans (hb8.mono H.size)
        clear hb8 s7
        go_wp2_with fail
        refine (same_below _ _ r r _ s8 (SB.out.below H)).mono ?_
        rintro e w9 ⟨rfl, hb9⟩
        simp only [decide_true]
        replace H := H.trans (hb9.mono H.size)
        clear hb9 s8 T5
        go_wp2_with fail
        refine (wakes_any _).mono ?_
        rintro e w10 ⟨rfl, hb10⟩
        go_wp2
        go_ret
        exact ⟨rfl, H.trans (hb10.mono H.size)⟩
      · have hok' : okB l = false := by simpa using hok
        have HOK := Lib.hid hok'
        clear hok
        go_wp2_with fail
        refine (list_not l HOK.out _ _ (SA.out.below HW.out)).mono ?_
        rintro e w5 ⟨v5, rfl, s5, hb5⟩
        have H := HW.out.trans (hb5.mono HW.out.size)
        obtain ⟨A5, c5, rfl⟩ := s5.form
        clear s5 hb5
        go_wp2_with fail
        refine (wakes_any _).mono ?_
        rintro e w10 ⟨rfl, hb10⟩
        go_wp2
        go_ret
        exact ⟨rfl, H.trans (hb10.mono H.size)⟩

theorem texts_walk (W : World) (S : ByteArray) (_ : S.size ≤ maxLen) (v1 : Value) (l : List Int) (h1 : Sl W v1 (iv l)) (_ : ∀ n ∈ l, (Lit.int .i64 n).wf = true) (v2 : Value) (r : List UInt8) (h2 : Sl W v2 (bv r)) :
    Calls Try.prog 5 #[.string S, v1, v2] W fun e w' => e = .returned (.bool true) ∧ Below W.heap.size W w' := by
  obtain ⟨A, c, rfl⟩ := h1.form
  obtain ⟨B, d, rfl⟩ := h2.form
  rw [iv_length] at h1 ⊢
  rw [bv_length] at h2 ⊢
  by_cases h : 255 < S.size ∨ 100 < l.length ∨ 60 < r.length
  · exact texts_long S A B _ _ c d W h
  · exact texts_in S A B _ _ c d l r W h1 h2 rfl rfl (by omega) (by omega) (by omega)
end Go.Proofs.Ythdlehbelbapeaa
