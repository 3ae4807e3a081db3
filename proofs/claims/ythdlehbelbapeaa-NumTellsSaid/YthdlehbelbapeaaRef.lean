/- The document's own answers for numbers, texts and lists: that they are the same. -/
import Derived.Test.YthdlehbelbapeaaOnly
import Derived.Deep.RegionLaw
namespace Go.Proofs.Ythdlehbelbapeaa
open Go.RowKit Go.Shelf

theorem ownsRow_one (w : World) (base : Nat) (hb : base ≤ w.heap.size) (e : TypeId) (x : Value) : (w.alloc (.cells #[x] e)).ownsRow base e 1 (.slice (some ⟨w.heap.size, 0, none⟩) 1 1) 1 [x] :=
  ⟨rfl, .inr ⟨w.heap.size, 1, #[x], rfl, hb, heap_alloc_new w _, Nat.le_refl _, by decide, rfl, rfl⟩⟩
theorem below_lit {W W' : World} {o : Obj} (h : (W.alloc o).grownBy W' (some W.heap.size)) : Below W.heap.size W W' :=
  gr_new (gr_then (gr_alloc (gr_refl W (some W.heap.size)) _) h (.inl rfl)) (by intro g e; injection e with e; omega)
theorem mod_u8 (q : Nat) : (q : Int) % 256 = ((UInt8.ofNat q).toNat : Int) := by rw [UInt8.toNat_ofNat']; omega

set_option maxRecDepth 100000 in
set_option maxHeartbeats 1000000 in
theorem refPut_not (n : Int) (h : n < 0 ∨ 1099511627776 < n) (w : World) : Calls Try.prog 11 #[.int .i64 n] w fun e w' => e = .returned (.tuple #[.slice none 0 0, .int .i64 2]) ∧ w = w' := by
  go_enter Try.func11, Try.ntmps11
  go_wp2
  all_goals
    go_ret2
    exact ⟨rfl, rfl⟩

set_option maxRecDepth 100000 in
set_option maxHeartbeats 2000000 in
theorem refPut_ok (n : Nat) (h : n ≤ 1099511627776) (w : World) : Calls Try.prog 11 #[.int .i64 (n : Int)] w fun e w' => ∃ v, e = .returned (.tuple #[v, .int .i64 0]) ∧ Sl w' v (bv (num n)) ∧ Below w.heap.size w w' := by
  have h0 : (0 : Int) ≤ (n : Int) := Int.natCast_nonneg _
  have h1 : (n : Int) ≤ 1099511627776 := by omega
  go_enter Try.func11, Try.ntmps11
  go_wp2
  go_loopw [0, 4] (fun t0 t4 W => ∃ (q : Nat) (d : List UInt8) (A : Option Addr) (len c : Nat), q ≤ n ∧ t0 = .int .i64 (q : Int) ∧ t4 = .slice A len c ∧ len = d.length ∧ Sl W (.slice A len c) (bv d) ∧ dig n = dig q ++ d ∧ Below w.heap.size w W)
    (fun t0 _ _ => (intOf t0).toNat)
  case atStart => exact ⟨n, [], none, 0, 0, Nat.le_refl _, rfl, rfl, rfl, Sl.nil_ _, by simp, Below.refl _ _⟩
  case round =>
    obtain ⟨q, d, A, len, c, hq, rfl, rfl, hlen, hs, hd, hB⟩ := hrel
    have h6 := dig_len6 n h
    have hdl := congrArg List.length hd
    rw [List.length_append] at hdl
    have hd6 : d.length ≤ 6 := by omega
    have HLEN := Lib.hid hlen
    have HS := Lib.hid hs
    have HD := Lib.hid hd
    clear hlen hs hd hdl
    by_cases hq0 : 0 < q
    · have hm := mod_u8 q
      have HM := Lib.hid hm
      clear hm
      go_wp2_with (at_builtin; refine wpList_app el23 rfl (.tmp 16) (.tmp 17) rfl w.heap.size (.slice (some ⟨wr.heap.size, 0, none⟩) 1 1) 1 [.int .u8 ((q : Int) % 256)] rfl (ownsRow_one wr w.heap.size hB.size 5 _) _ _ rfl (HS.out.alloc _) (bv_one _) (by have e1 := bv_length d; omega) (by have := hB.size; simp; omega) ?_; intro vA wA hownA hgA hatA; have sA := Sl.of_own hownA; obtain ⟨A2, c2, rfl⟩ := sA.form; have HSA := Lib.hid sA; clear hownA sA hatA)
      go_roundw
      case rel =>
        have hbl := below_lit hgA
        have e : [Value.int .u8 ((q : Int) % 256)] ++ bv d = bv (UInt8.ofNat q :: d) := by rw [HM.out]; rfl
        have hsa := HSA.out
        rw [e] at hsa
        refine ⟨q / 256, UInt8.ofNat q :: d, A2, _, c2, by omega, by congr 1, rfl, by simp [bv], hsa, ?_, hB.trans (hbl.mono hB.size)⟩
        rw [HD.out, dig_pos q (by omega), List.append_assoc]; rfl
      case measure => simp [intOf]; omega
    · obtain rfl : q = 0 := by omega
      have hl7 : len ≤ 6 := by have := HLEN.out; omega
      go_wp2_with (at_builtin; refine wpList_app el23 rfl (.tmp 24) (.tmp 25) rfl w.heap.size (.slice (some ⟨wr.heap.size, 0, none⟩) 1 1) 1 [.int .u8 (len : Int)] rfl (ownsRow_one wr w.heap.size hB.size 5 _) _ _ rfl (HS.out.alloc _) (bv_one _) (by have e1 := bv_length d; omega) (by have := hB.size; simp; omega) ?_; intro vA wA hownA hgA hatA)
      go_ret2
      have hbl := below_lit hgA
      have hd := HD.out
      rw [dig_zero, List.nil_append] at hd
      have e : [Value.int .u8 (len : Int)] ++ bv d = bv (num n) := by
        rw [num, hd, HLEN.out]
        have : ((UInt8.ofNat d.length).toNat : Int) = d.length := by rw [UInt8.toNat_ofNat']; omega
        show [Value.int .u8 (d.length : Int)] ++ bv d = Value.int .u8 ((UInt8.ofNat d.length).toNat : Int) :: bv d
        rw [this]; rfl
      refine ⟨vA, rfl, ?_, hB.trans (hbl.mono hB.size)⟩
      have := Sl.of_own hownA
      rwa [e] at this

theorem refPut_any (n : Int) (w : World) : Calls Try.prog 11 #[.int .i64 n] w fun e w' => ∃ v, e = .returned (.tuple #[v, .int .i64 (putE n)]) ∧ Sl w' v (bv (putB n)) ∧ Below w.heap.size w w' := by
  by_cases h : 0 ≤ n ∧ n ≤ 1099511627776
  · rw [putE, putB, if_pos h, if_pos h]
    obtain ⟨q, rfl⟩ := Int.eq_ofNat_of_zero_le h.1
    rw [Int.toNat_natCast]
    exact refPut_ok q (by omega) w
  · rw [putE, putB, if_neg h, if_neg h]
    refine (refPut_not n (by omega) w).mono ?_
    rintro e w' ⟨rfl, rfl⟩
    exact ⟨_, rfl, Sl.nil_ _, Below.refl _ _⟩

set_option maxRecDepth 100000 in
set_option maxHeartbeats 1000000 in
theorem refText_any (S : ByteArray) (w : World) : Calls Try.prog 13 #[.string S] w fun e w' => ∃ v, e = .returned (.tuple #[v, .int .i64 (textE S.data.toList)]) ∧ Sl w' v (bv (textB S.data.toList)) ∧ Below w.heap.size w w' := by
  have hsz := S_len S
  by_cases h : 255 < S.size
  · rw [textB, textE, hsz, if_pos h, if_pos h]
    clear hsz
    go_enter Try.func13, Try.ntmps13
    go_wp2
    go_ret2
    exact ⟨_, rfl, Sl.nil_ _, Below.refl _ _⟩
  · rw [textB, textE, hsz, if_neg h, if_neg h]
    have HS := Lib.hid hsz
    clear hsz
    have h2 : S.size ≤ 255 := by omega
    obtain ⟨i0, hi, hz0, hz1, hz2⟩ := info_parts el23.hi
    go_enter Try.func13, Try.ntmps13
    go_wp2_with (at_builtin; refine Lib.wpList_append_own_string _ rfl _ _ 23 9 rfl w.heap.size 5 i0 Try.underlying23 Try.underlying9 hi hz0 hz1 hz2 (.slice (some ⟨w.heap.size, 0, none⟩) 1 1) 1 [.int .u8 (S.size : Int)] rfl (ownsRow_one w w.heap.size (Nat.le_refl _) 5 _) _ rfl (by unfold maxLen; omega) (by omega) (by simp) ?_; intro v2 w2 hown2 hg2 hnil)
    go_ret2
    refine ⟨v2, rfl, ?_, below_lit hg2⟩
    have := Sl.of_own hown2
    have e : [Value.int .u8 (S.size : Int)] ++ Lib.strCells S = bv (UInt8.ofNat S.size :: S.data.toList) := by
      simp [bv, Lib.strCells]; omega
    rwa [e] at this

set_option maxRecDepth 100000 in
set_option maxHeartbeats 1000000 in
theorem refList_long (A : Option Addr) (n c : Nat) (w : World) (h : 255 < n) : Calls Try.prog 16 #[.slice A n c] w fun e w' => e = .returned (.tuple #[.slice none 0 0, .int .i64 2]) ∧ w = w' := by
  go_enter Try.func16, Try.ntmps16
  go_wp2
  go_ret2
  exact ⟨rfl, rfl⟩

theorem refput_ok (n : Int) (h0 : 0 ≤ n) (h1 : n ≤ 1099511627776) (w : World) : Calls Try.prog 11 #[.int .i64 n] w fun e w' => ∃ v, e = .returned (.tuple #[v, .int .i64 0]) ∧ Sl w' v (bv (num n.toNat)) ∧ Below w.heap.size w w' := by
  have h := refPut_any n w
  rw [putE, putB, if_pos ⟨h0, h1⟩, if_pos ⟨h0, h1⟩] at h
  exact h
theorem refput_not (n : Int) (h : ¬ (0 ≤ n ∧ n ≤ 1099511627776)) (w : World) : Calls Try.prog 11 #[.int .i64 n] w fun e w' => ∃ v, e = .returned (.tuple #[v, .int .i64 2]) ∧ Sl w' v (bv []) ∧ Below w.heap.size w w' := by
  have h' := refPut_any n w
  rw [putE, putB, if_neg h, if_neg h] at h'
  exact h'

set_option maxRecDepth 100000 in
set_option maxHeartbeats 2000000 in
theorem refList_loop (A : Option Addr) (n c : Nat) (l : List Int) (w : World) (hA : Sl w (.slice A n c) (iv l)) (hln : l.length = n) (h2 : n ≤ 255) :
    Calls Try.prog 16 #[.slice A n c] w fun e w' => ∃ v', e = .returned (.tuple #[v', .int .i64 (listE l)]) ∧ Sl w' v' (bv (listBy l)) ∧ Below w.heap.size w w' := by
  have SA := Lib.hid hA
  have HLN := Lib.hid hln
  clear hA hln
  go_enter Try.func16, Try.ntmps16
  go_wp2
  go_loopw [4, 5] (fun v4 v5 W => ∃ k : Nat, k ≤ n ∧ v5 = .int .i64 k ∧ okB (l.take k) = true ∧ W.ownsRow w.heap.size 5 1 v4 (1 + (numsI (l.take k)).length) (bv (UInt8.ofNat n :: numsI (l.take k))) ∧ Below w.heap.size w W) (fun _ i _ => n - (intOf i).toNat)
  case atStart =>
    have e : bv (UInt8.ofNat n :: numsI (l.take 0)) = [.int .u8 (n : Int)] := by simp [bv, numsI, nums]; omega
    refine ⟨0, Nat.zero_le _, rfl, rfl, ?_, (Below.refl _ _).alloc (Nat.le_refl _) _⟩
    rw [e]
    exact ownsRow_one w w.heap.size (Nat.le_refl _) 5 _
  case round =>
    obtain ⟨k, hk, rfl, hokk, hrow, hB⟩ := hrel
    have HOKK := Lib.hid hokk
    clear hokk
    by_cases hlt : k < n
    · have hkl : k < l.length := by rw [HLN.out]; exact hlt
      obtain ⟨b, off, rfl, hcell⟩ : ∃ b off, A = some ⟨b, off, none⟩ ∧ wr.cell? ⟨b, off + k, none⟩ = some (.int .i64 l[k]) := by
        rcases (SA.out.below hB).ints with ⟨h, hl0⟩ | ⟨b, off, c', h, _, hc⟩
        · rw [hl0] at hkl; simp at hkl
        · injection h with h
          exact ⟨b, off, h, hc k hkl⟩
      have hsn : okB (l.take (k + 1)) = (okB (l.take k) && decide (0 ≤ l[k] ∧ l[k] ≤ 1099511627776)) := by
        rw [List.take_succ_eq_append_getElem hkl, okB_snoc]
      have hnm : numsI (l.take (k + 1)) = numsI (l.take k) ++ num l[k].toNat := by
        rw [List.take_succ_eq_append_getElem hkl, numsI_snoc]
      have HSN := Lib.hid hsn
      have HNM := Lib.hid hnm
      have hl7 := numsI_len (l.take k) ((okB_iff _).1 HOKK.out)
      rw [List.length_take] at hl7
      have hl8 : (numsI (l.take k)).length ≤ 1785 := by omega
      have hmem : l[k] ∈ l := List.getElem_mem hkl
      have HMEM := Lib.hid hmem
      clear hsn hnm hl7 hmem
      generalize l[k] = x at *
      by_cases hx : 0 ≤ x ∧ x ≤ 1099511627776
      · obtain ⟨hx0, hx1⟩ := hx
        have h6 := dig_len6 x.toNat (by omega)
        have hnl := num_length x.toNat
        have HNL := Lib.hid hnl
        clear hnl
        go_wp2_with (first
          | (go_at_call 11; refine (refput_ok x hx0 hx1 _).mono ?_; rintro e w4 ⟨v4, rfl, s4, hb4⟩)
          | (at_builtin; refine wpList_app el23 rfl (.tmp 32) (.tmp 33) rfl w.heap.size _ _ _ rfl (ownsRow_below hrow hb4) _ _ rfl s4 (bv_one _) (by have e1 := bv_length (num x.toNat); have e2 := HNL.out; omega) (by have := hB.size; have := hb4.size; omega) ?_; intro vA wA hownA hgA hatA))
        go_roundw
        case rel =>
          have hbl : Below w.heap.size wr wA := (hb4.mono hB.size).grown hgA (by have := hB.size; have := hb4.size; omega) (fun g e => (hrow.lt g e).1)
          refine ⟨k + 1, by omega, by go_num, by rw [HSN.out, HOKK.out]; simp [hx0, hx1], ?_, hB.trans hbl⟩
          rw [HNM.out, List.length_append, ← List.cons_append, bv_append, ← Nat.add_assoc]
          rw [bv_length (num x.toNat)] at hownA
          exact hownA
        case measure => simp [intOf]; omega
      · go_wp2_with (go_at_call 11; refine (refput_not x hx _).mono ?_; rintro e w4 ⟨v4, rfl, s4, hb4⟩)
        go_ret2
        have hn : ¬ okL l := fun h => hx (h.2 x HMEM.out)
        refine ⟨.slice none 0 0, ?_, ?_, hB.trans (hb4.mono hB.size)⟩
        · rw [listE, if_neg hn]; rfl
        · rw [listBy, if_neg hn]; exact Sl.nil_ _
    · obtain rfl : k = n := by omega
      have hall : l.take k = l := List.take_of_length_le (by rw [HLN.out]; exact Nat.le_refl _)
      have hokk := HOKK.out
      rw [hall] at hrow hokk
      have HO := Lib.hid hokk
      clear hokk hall
      go_wp2
      go_ret2
      have hok : okL l := ⟨by rw [HLN.out]; exact h2, (okB_iff l).1 HO.out⟩
      refine ⟨u4, ?_, ?_, hB⟩
      · rw [listE, if_pos hok]; rfl
      · rw [listBy, if_pos hok, HLN.out]; exact Sl.of_own hrow

theorem refList_any (v : Value) (l : List Int) (w : World) (h : Sl w v (iv l)) :
    Calls Try.prog 16 #[v] w fun e w' => ∃ v', e = .returned (.tuple #[v', .int .i64 (listE l)]) ∧ Sl w' v' (bv (listBy l)) ∧ Below w.heap.size w w' := by
  obtain ⟨A, c, rfl⟩ := h.form
  rw [iv_length] at h ⊢
  by_cases hl : l.length ≤ 255
  · exact refList_loop A _ c l w h rfl hl
  · refine (refList_long A _ c w (by omega)).mono ?_
    rintro e w' ⟨rfl, rfl⟩
    have hn : ¬ okL l := fun h => hl h.1
    refine ⟨.slice none 0 0, ?_, ?_, Below.refl _ _⟩
    · rw [listE, if_neg hn]
    · rw [listBy, if_neg hn]; exact Sl.nil_ _
end Go.Proofs.Ythdlehbelbapeaa
