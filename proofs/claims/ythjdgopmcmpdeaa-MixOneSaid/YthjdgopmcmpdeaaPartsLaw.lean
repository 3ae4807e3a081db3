/- 'MixParts': the walk of the law: a key's place is that of its parts, a row has each one's, or the first error. -/
import Derived.Test.YthjdgopmcmpdeaaTellsLaw
set_option linter.unusedVariables false
set_option linter.unusedSimpArgs false
namespace Go.Proofs.Ythjdgopmcmpdeaa
open Go.RowKit Go.Shelf

theorem keyE_eq (S : ByteArray) : keyE S = if S.size = 0 ∨ 20 < S.size then 2 else 0 := by unfold keyE ofE; rw [S_len]
theorem keyE_ok (S : ByteArray) : decide (keyE S = 0) = decide (1 ≤ S.size ∧ S.size ≤ 20) := by
  rw [keyE_eq, decide_eq_decide]
  split
  · constructor <;> intro h <;> omega
  · constructor <;> intro h <;> omega
theorem bytes_add (a b : ByteArray) : (a ++ b).data.toList = a.data.toList ++ b.data.toList := by simp
theorem size_add (a b : ByteArray) : (a ++ b).size = a.size + b.size := by simp
theorem fine_get (l : List ByteArray) (h : fine l = true) (k : Nat) (hk : k < l.length) : keyE l[k] = 0 := by
  unfold fine at h
  rw [List.all_eq_true] at h
  simpa using h l[k] (List.getElem_mem hk)

set_option maxRecDepth 100000 in
set_option maxHeartbeats 1000000 in
theorem parts_long1 (a b : ByteArray) (A : Option Addr) (n c : Nat) (w : World) (h : 20 < a.size + b.size) (ha : a.size ≤ 140737488351232) (hb : b.size ≤ 140737488351232) :
    Calls Try.prog 6 #[.string a, .string b, .slice A n c] w fun e w' => e = .returned (.bool true) ∧ Below w.heap.size w w' := by
  go_enter Try.func6, Try.ntmps6
  go_wp2_with (go_at_call 8; refine (wakes_any _).mono ?_; rintro e w' ⟨rfl, hb⟩)
  go_ret
  exact ⟨rfl, hb⟩
set_option maxRecDepth 100000 in
set_option maxHeartbeats 1000000 in
theorem parts_long2 (a b : ByteArray) (A : Option Addr) (n c : Nat) (w : World) (h : a.size + b.size ≤ 20) (hn : 20 < n) :
    Calls Try.prog 6 #[.string a, .string b, .slice A n c] w fun e w' => e = .returned (.bool true) ∧ Below w.heap.size w w' := by
  go_enter Try.func6, Try.ntmps6
  go_wp2_with (go_at_call 8; refine (wakes_any _).mono ?_; rintro e w' ⟨rfl, hb⟩)
  go_ret
  exact ⟨rfl, hb⟩

set_option maxRecDepth 100000 in
set_option maxHeartbeats 8000000 in
theorem parts_main (a b : ByteArray) (A : Option Addr) (c : Nat) (l : List ByteArray) (w : World) (hI : Sl w (.slice A l.length c) (sv l)) (h1 : a.size + b.size ≤ 20) (h2 : l.length ≤ 20) :
    Calls Try.prog 6 #[.string a, .string b, .slice A l.length c] w fun e w' => e = .returned (.bool true) ∧ Below w.heap.size w w' := by
  have a1 := fun w => Of_any (a ++ b) w
  change ∀ w, Calls Try.prog 9 #[.string (a ++ b)] w fun e w' => e = .returned (.tuple #[.int .i64 (keyP (a ++ b)), .int .i64 (keyE (a ++ b))]) ∧ Below w.heap.size w w' at a1
  have a2 := fun w => Go_any 7 a w ⟨by omega, by omega⟩ (by omega)
  have a3 := fun w => Go_any (go 7 a.data.toList) b w (num_pl (go_bd _ _)) (by omega)
  rw [← go_append] at a3
  have hp : 0 < a.size + b.size → keyP (a ++ b) = go 7 (a.data.toList ++ b.data.toList) := fun h => by
    unfold keyP ofP
    rw [if_neg (by rw [S_len, size_add]; omega), bytes_add]
  have he0 : a.size + b.size = 0 → keyE (a ++ b) = 2 := fun h => by rw [keyE_eq, size_add, if_pos (by omega)]
  have he1 : 0 < a.size + b.size → keyE (a ++ b) = 0 := fun h => by rw [keyE_eq, size_add, if_neg (by omega)]
  have a4 := fun w h => Row_any A l.length c l w h (by omega)
  have HC := Lib.hid hI.strs
  have HI := Lib.hid hI
  generalize keyP (a ++ b) = p at *
  generalize keyE (a ++ b) = e0 at *
  generalize go 7 (a.data.toList ++ b.data.toList) = p' at *
  generalize go 7 a.data.toList = p1 at *
  have A1 := Lib.hid a1
  have A2 := Lib.hid a2
  have A3 := Lib.hid a3
  have A4 := Lib.hid a4
  have HP := Lib.hid hp
  have HE0 := Lib.hid he0
  have HE1 := Lib.hid he1
  clear hI a1 a2 a3 a4 hp he0 he1
  go_enter Try.func6, Try.ntmps6
  go_wp2_with fail
  go_loop [7, 8] (fun f i => ∃ k : Nat, k ≤ l.length ∧ i = .int .i64 k ∧ f = .bool (fine (l.take k))) (fun _ i => l.length - (intOf i).toNat)
  case atStart => exact ⟨0, Nat.zero_le _, rfl, rfl⟩
  case round =>
    obtain ⟨k, hk, rfl, rfl⟩ := hrel
    by_cases hlt : k < l.length
    · obtain ⟨ba, off, hA, hbl, hcell⟩ := HC.out k hlt
      subst hA
      have hfs := fine_snoc (l.take k) l[k]
      rw [← List.take_succ_eq_append_getElem hlt, keyE_ok] at hfs
      have HFS := Lib.hid hfs
      have HLT := Lib.hid hlt
      clear hfs
      generalize l[k] = X at *
      by_cases hX : 100 < X.size
      · go_wp2_with fail
        refine (wakes_any _).mono ?_; rintro e w1 ⟨rfl, hb1⟩
        go_wp2
        go_ret
        exact ⟨rfl, hb1⟩
      · cases hf : fine (l.take k)
        · rw [hf, Bool.false_and] at HFS
          go_wp2
          go_round
          case rel => exact ⟨k + 1, HLT.out, by go_num, by rw [HFS.out]⟩
          case measure => have := HLT.out; simp [intOf]; omega
        · rw [hf, Bool.true_and] at HFS
          by_cases hX0 : 1 ≤ X.size
          · by_cases hX1 : X.size ≤ 20
            · rw [decide_eq_true ⟨hX0, hX1⟩] at HFS
              go_wp2
              go_round
              case rel => exact ⟨k + 1, HLT.out, by go_num, by rw [HFS.out]; simp; omega⟩
              case measure => have := HLT.out; simp [intOf]; omega
            · rw [decide_eq_false (by omega)] at HFS
              go_wp2
              go_round
              case rel => exact ⟨k + 1, HLT.out, by go_num, by rw [HFS.out]; simp; omega⟩
              case measure => have := HLT.out; simp [intOf]; omega
          · rw [decide_eq_false (by omega)] at HFS
            go_wp2
            go_round
            case rel => exact ⟨k + 1, HLT.out, by go_num, by rw [HFS.out]⟩
            case measure => have := HLT.out; simp [intOf]; omega
    · have hk2 : k = l.length := by omega
      subst hk2
      rw [List.take_length]
      clear hlt hk
      have H := Below.refl w.heap.size w
      by_cases hab : 0 < a.size + b.size
      · have h3 := HE1.out hab
        have h4 := HP.out hab
        subst h3 h4
        have hab2 : (0 : Int) < (a.size : Int) + b.size := by omega
        go_wp2_with fail
        refine (A1.out _).mono ?_; rintro e w1 ⟨rfl, hb1⟩
        replace H := H.trans (hb1.mono H.size)
        clear hb1
        go_wp2_with fail
        refine (A2.out _).mono ?_; rintro e w2 ⟨rfl, hb1⟩
        replace H := H.trans (hb1.mono H.size)
        clear hb1
        go_wp2_with fail
        refine (A3.out _).mono ?_; rintro e w3 ⟨rfl, hb1⟩
        replace H := H.trans (hb1.mono H.size)
        clear hb1
        cases hfin : fine l
        · have hri : rowI l = [] := by unfold rowI; rw [if_neg (by rw [hfin]; decide)]
          have hre : rowE l = 2 := by unfold rowE; rw [if_neg (by rw [hfin]; decide)]
          rw [hri, hre] at A4
          clear hri hre
          go_wp2_with fail
          refine (A4.out _ (HI.out.below H)).mono ?_; rintro e w4 ⟨v, rfl, hs, hb1⟩
          replace H := H.trans (hb1.mono H.size)
          obtain ⟨B, d, rfl⟩ := hs.form
          rw [iv_length]
          clear hb1 hs
          go_wp2_with fail
          refine (wakes_any _).mono ?_; rintro e w5 ⟨rfl, hb1⟩
          replace H := H.trans (hb1.mono H.size)
          clear hb1
          go_wp2
          go_ret
          exact ⟨rfl, H⟩
        · have hri : rowI l = places l := by unfold rowI; rw [if_pos hfin]
          have hre : rowE l = 0 := by unfold rowE; rw [if_pos hfin]
          rw [hri, hre] at A4
          have HF := Lib.hid (fine_get l hfin)
          clear hri hre
          go_wp2_with fail
          refine (A4.out _ (HI.out.below H)).mono ?_; rintro e w4 ⟨v, rfl, hs, hb1⟩
          replace H := H.trans (hb1.mono H.size)
          obtain ⟨B, d, rfl⟩ := hs.form
          rw [iv_length, places_length] at hs ⊢
          have HS := Lib.hid hs
          have HW := Lib.hid H
          clear hb1 hs H
          go_wp2_with fail
          go_loopw [13] (fun i W => ∃ k : Nat, k ≤ l.length ∧ i = .int .i64 k ∧ Below w4.heap.size w4 W) (fun i _ => l.length - (intOf i).toNat)
          case atStart => exact ⟨0, Nat.zero_le _, rfl, Below.refl _ _⟩
          case round =>
            obtain ⟨k, hk, rfl, hB⟩ := hrel
            by_cases hlt : k < l.length
            · obtain ⟨ba, off, hA, hbl, hcell⟩ := HC.out k hlt
              subst hA
              have hcw := ((HW.out.trans (hB.mono HW.out.size)).cell (p := ⟨ba, off + k, none⟩) hbl).trans hcell
              have hs2 := HS.out.below hB
              obtain ⟨bx, offx, hB2⟩ := hs2.some_ (by omega)
              subst hB2
              have hpl : k < (places l).length := by rw [places_length]; exact hlt
              have hcx := hs2.parts.2.2.2.2 k _ (iv_get (places l) k hpl)
              have hpk : (places l)[k] = keyP l[k] := by simp [places]
              rw [hpk] at hcx
              have hek := HF.out k hlt
              have ho := fun w => Of_any l[k] w
              change ∀ w, Calls Try.prog 9 #[.string l[k]] w fun e w' => e = .returned (.tuple #[.int .i64 (keyP l[k]), .int .i64 (keyE l[k])]) ∧ Below w.heap.size w w' at ho
              rw [hek] at ho
              have HLT := Lib.hid hlt
              have hbx := hs2.parts.2.2.2.1
              clear hs2 hpk hek hcell hpl
              generalize keyP l[k] = q at *
              generalize l[k] = X at *
              clear hlt
              have HB := Lib.hid hB
              clear hB
              go_wp2_with fail
              refine (ho _).mono ?_; rintro e w5 ⟨rfl, hb1⟩
              have hcx5 := (hb1.cell (p := ⟨bx, offx + k, none⟩) hbx).trans hcx
              have HB5 := Lib.hid (HB.out.trans (hb1.mono HB.out.size))
              have hg : ((l.length : Int) != (l.length : Int)) = false := by simp
              have hlt := HLT.out
              clear hb1 hcx hcw
              go_wp2
              go_roundw
              case rel => exact ⟨k + 1, HLT.out, by go_num, HB5.out⟩
              case measure => have := HLT.out; simp [intOf]; omega
            · obtain rfl : k = l.length := by omega
              have H := HW.out.trans (hB.mono HW.out.size)
              clear hB
              go_wp2_with fail
              refine (wakes_any _).mono ?_; rintro e w5 ⟨rfl, hb1⟩
              replace H := H.trans (hb1.mono H.size)
              clear hb1
              go_wp2
              go_ret
              exact ⟨rfl, H⟩
      · have h3 := HE0.out (by omega)
        subst h3
        have hab2 : ¬ (0 : Int) < (a.size : Int) + b.size := by omega
        go_wp2_with fail
        refine (A1.out _).mono ?_; rintro e w1 ⟨rfl, hb1⟩
        replace H := H.trans (hb1.mono H.size)
        clear hb1
        cases hfin : fine l
        · have hri : rowI l = [] := by unfold rowI; rw [if_neg (by rw [hfin]; decide)]
          have hre : rowE l = 2 := by unfold rowE; rw [if_neg (by rw [hfin]; decide)]
          rw [hri, hre] at A4
          clear hri hre
          go_wp2_with fail
          refine (A4.out _ (HI.out.below H)).mono ?_; rintro e w4 ⟨v, rfl, hs, hb1⟩
          replace H := H.trans (hb1.mono H.size)
          obtain ⟨B, d, rfl⟩ := hs.form
          rw [iv_length]
          clear hb1 hs
          go_wp2_with fail
          refine (wakes_any _).mono ?_; rintro e w5 ⟨rfl, hb1⟩
          replace H := H.trans (hb1.mono H.size)
          clear hb1
          go_wp2
          go_ret
          exact ⟨rfl, H⟩
        · have hri : rowI l = places l := by unfold rowI; rw [if_pos hfin]
          have hre : rowE l = 0 := by unfold rowE; rw [if_pos hfin]
          rw [hri, hre] at A4
          have HF := Lib.hid (fine_get l hfin)
          clear hri hre
          go_wp2_with fail
          refine (A4.out _ (HI.out.below H)).mono ?_; rintro e w4 ⟨v, rfl, hs, hb1⟩
          replace H := H.trans (hb1.mono H.size)
          obtain ⟨B, d, rfl⟩ := hs.form
          rw [iv_length, places_length] at hs ⊢
          have HS := Lib.hid hs
          have HW := Lib.hid H
          clear hb1 hs H
          go_wp2_with fail
          go_loopw [13] (fun i W => ∃ k : Nat, k ≤ l.length ∧ i = .int .i64 k ∧ Below w4.heap.size w4 W) (fun i _ => l.length - (intOf i).toNat)
          case atStart => exact ⟨0, Nat.zero_le _, rfl, Below.refl _ _⟩
          case round =>
            obtain ⟨k, hk, rfl, hB⟩ := hrel
            by_cases hlt : k < l.length
            · obtain ⟨ba, off, hA, hbl, hcell⟩ := HC.out k hlt
              subst hA
              have hcw := ((HW.out.trans (hB.mono HW.out.size)).cell (p := ⟨ba, off + k, none⟩) hbl).trans hcell
              have hs2 := HS.out.below hB
              obtain ⟨bx, offx, hB2⟩ := hs2.some_ (by omega)
              subst hB2
              have hpl : k < (places l).length := by rw [places_length]; exact hlt
              have hcx := hs2.parts.2.2.2.2 k _ (iv_get (places l) k hpl)
              have hpk : (places l)[k] = keyP l[k] := by simp [places]
              rw [hpk] at hcx
              have hek := HF.out k hlt
              have ho := fun w => Of_any l[k] w
              change ∀ w, Calls Try.prog 9 #[.string l[k]] w fun e w' => e = .returned (.tuple #[.int .i64 (keyP l[k]), .int .i64 (keyE l[k])]) ∧ Below w.heap.size w w' at ho
              rw [hek] at ho
              have HLT := Lib.hid hlt
              have hbx := hs2.parts.2.2.2.1
              clear hs2 hpk hek hcell hpl
              generalize keyP l[k] = q at *
              generalize l[k] = X at *
              clear hlt
              have HB := Lib.hid hB
              clear hB
              go_wp2_with fail
              refine (ho _).mono ?_; rintro e w5 ⟨rfl, hb1⟩
              have hcx5 := (hb1.cell (p := ⟨bx, offx + k, none⟩) hbx).trans hcx
              have HB5 := Lib.hid (HB.out.trans (hb1.mono HB.out.size))
              have hg : ((l.length : Int) != (l.length : Int)) = false := by simp
              have hlt := HLT.out
              clear hb1 hcx hcw
              go_wp2
              go_roundw
              case rel => exact ⟨k + 1, HLT.out, by go_num, HB5.out⟩
              case measure => have := HLT.out; simp [intOf]; omega
            · obtain rfl : k = l.length := by omega
              have H := HW.out.trans (hB.mono HW.out.size)
              clear hB
              go_wp2_with fail
              refine (wakes_any _).mono ?_; rintro e w5 ⟨rfl, hb1⟩
              replace H := H.trans (hb1.mono H.size)
              clear hb1
              go_wp2
              go_ret
              exact ⟨rfl, H⟩

theorem parts_walk (W : World) (a : ByteArray) (_ : a.size ≤ maxLen) (ha : a.size ≤ 140737488351232) (b : ByteArray) (_ : b.size ≤ maxLen) (hb : b.size ≤ 140737488351232) (v : Value) (l : List ByteArray) (h : Sl W v (l.map Value.string)) (w3 : ∀ s ∈ l, s.size ≤ maxLen) :
    Calls Try.prog 6 #[.string a, .string b, v] W fun e w' => e = .returned (.bool true) ∧ Below W.heap.size W w' := by
  obtain ⟨A, c, rfl⟩ := h.form
  rw [List.length_map] at h ⊢
  by_cases h1 : a.size + b.size ≤ 20
  · by_cases h2 : l.length ≤ 20
    · exact parts_main a b A c l W h h1 h2
    · exact parts_long2 a b A _ c W h1 (by omega)
  · exact parts_long1 a b A _ c W (by omega) ha hb
end Go.Proofs.Ythjdgopmcmpdeaa
