/- 'MixTells': the walk of the law: it answers as the document's own text does. -/
import Derived.Test.YthjdgopmcmpdeaaBackLaw
set_option linter.unusedVariables false
set_option linter.unusedSimpArgs false
namespace Go.Proofs.Ythjdgopmcmpdeaa
open Go.RowKit Go.Shelf

/-- What is there of a slice of strings that came in. -/
theorem Sl.strs {w : World} {A : Option Addr} {n c : Nat} {l : List ByteArray} (h : Sl w (.slice A n c) (sv l)) : ∀ k (hk : k < l.length), ∃ b off, A = some ⟨b, off, none⟩ ∧ b < w.heap.size ∧ w.cell? ⟨b, off + k, none⟩ = some (.string l[k]) := fun k hk => by
  have hl := h.len
  rw [sv_length] at hl
  obtain ⟨b, off, rfl⟩ := h.some_ (by omega)
  exact ⟨b, off, rfl, h.parts.2.2.2.1, h.parts.2.2.2.2 k _ (sv_get l k hk)⟩

set_option maxRecDepth 100000 in
set_option maxHeartbeats 1000000 in
theorem tells_long1 (a : Int) (b : Int) (S : ByteArray) (A : Option Addr) (n c : Nat) (w : World) (h1 : 100 < S.size) :
    Calls Try.prog 3 #[.int .i64 a, .int .u8 b, .string S, .slice A n c] w fun e w' => e = .returned (.bool true) ∧ Below w.heap.size w w' := by
  go_enter Try.func3, Try.ntmps3
  go_wp2_with (go_at_call 8; refine (wakes_any _).mono ?_; rintro e w' ⟨rfl, hb⟩)
  go_ret
  exact ⟨rfl, hb⟩
set_option maxRecDepth 100000 in
set_option maxHeartbeats 1000000 in
theorem tells_long2 (a : Int) (b : Int) (S : ByteArray) (A : Option Addr) (n c : Nat) (w : World) (h1 : S.size ≤ 100) (h2 : 20 < n) :
    Calls Try.prog 3 #[.int .i64 a, .int .u8 b, .string S, .slice A n c] w fun e w' => e = .returned (.bool true) ∧ Below w.heap.size w w' := by
  go_enter Try.func3, Try.ntmps3
  go_wp2_with (go_at_call 8; refine (wakes_any _).mono ?_; rintro e w' ⟨rfl, hb⟩)
  go_ret
  exact ⟨rfl, hb⟩

set_option maxRecDepth 100000 in
set_option maxHeartbeats 4000000 in
theorem tells_main (a : Int) (ha : Num a) (b : UInt8) (S : ByteArray) (A : Option Addr) (c : Nat) (l : List ByteArray) (w : World) (hI : Sl w (.slice A l.length c) (sv l)) (h1 : S.size ≤ 100) (h2 : l.length ≤ 20) :
    Calls Try.prog 3 #[.int .i64 a, .int .u8 (b.toNat : Int), .string S, .slice A l.length c] w fun e w' => e = .returned (.bool true) ∧ Below w.heap.size w w' := by
  have hb := b.toNat_lt
  have a1 := fun w => Of_any S w
  have a2 := fun w => Of_ref S w
  have a3 := fun w h => Row_any A l.length c l w h (by omega)
  have a4 := fun w h => Row_ref A l.length c l w h (by omega)
  have a5 := fun w => next_any a b.toNat w ha (by omega)
  have a6 := fun w => next_ref a b.toNat w ha (by omega)
  have a7 := fun w => before_any a b.toNat w ha (by omega)
  have a8 := fun w => before_ref a b.toNat w ha (by omega)
  have a9 := fun w => Go_any a S w ha (by omega)
  have a10 := fun w => Go_ref a S w ha (by omega)
  have hri : (rowI l).length ≤ 140737488355328 := by
    unfold rowI
    split
    · rw [places_length]; omega
    · simp
  have HC := Lib.hid hI.strs
  have HI := Lib.hid hI
  generalize ofP S.data.toList = p1 at *
  generalize ofE S.data.toList = p2 at *
  generalize rowI l = p3 at *
  generalize rowE l = p4 at *
  generalize nx a b.toNat = p5 at *
  generalize bf a b.toNat = p6 at *
  generalize go a S.data.toList = p7 at *
  generalize b.toNat = bn at *
  have A1 := Lib.hid a1
  have A2 := Lib.hid a2
  have A3 := Lib.hid a3
  have A4 := Lib.hid a4
  have A5 := Lib.hid a5
  have A6 := Lib.hid a6
  have A7 := Lib.hid a7
  have A8 := Lib.hid a8
  have A9 := Lib.hid a9
  have A10 := Lib.hid a10
  have HA := Lib.hid ha
  clear hI ha a1 a2 a3 a4 a5 a6 a7 a8 a9 a10
  go_enter Try.func3, Try.ntmps3
  go_wp2_with fail
  go_loop [9] (fun i => ∃ k : Nat, k ≤ l.length ∧ i = .int .i64 k) (fun i => l.length - (intOf i).toNat)
  case atStart => exact ⟨0, Nat.zero_le _, rfl⟩
  case round =>
    obtain ⟨k, hk, rfl⟩ := hrel
    by_cases hlt : k < l.length
    · obtain ⟨ba, off, hA, hbl, hcell⟩ := HC.out k hlt
      subst hA
      have HLT := Lib.hid hlt
      generalize l[k] = X at *
      by_cases hX : 100 < X.size
      · go_wp2_with fail
        refine (wakes_any _).mono ?_; rintro e w1 ⟨rfl, hb1⟩
        go_wp2
        go_ret
        exact ⟨rfl, hb1⟩
      · go_wp2
        go_round
        case rel => exact ⟨k + 1, HLT.out, by go_num⟩
        case measure => have := HLT.out; simp [intOf]; omega
    · obtain rfl : k = l.length := by omega
      have H := Below.refl w.heap.size w
      go_wp2_with fail
      refine (A1.out _).mono ?_; rintro e w1 ⟨rfl, hb1⟩
      replace H := H.trans (hb1.mono H.size)
      clear hb1
      go_wp2_with fail
      refine (A2.out _).mono ?_; rintro e w' ⟨rfl, rfl⟩
      go_wp2_with fail
      refine (A3.out _ (HI.out.below H)).mono ?_; rintro e w2 ⟨v1, rfl, hs1, hb1⟩
      replace H := H.trans (hb1.mono H.size)
      have S1 := Lib.hid hs1
      clear hb1 hs1
      go_wp2_with fail
      refine (A4.out _ (HI.out.below H)).mono ?_; rintro e w3 ⟨v2, rfl, hs2, hb1⟩
      replace S1 := Lib.hid (S1.out.below hb1)
      replace H := H.trans (hb1.mono H.size)
      have S2 := Lib.hid hs2
      clear hb1 hs2
      go_wp2_with fail
      refine (A5.out _).mono ?_; rintro e w' ⟨rfl, rfl⟩
      go_wp2_with fail
      refine (A6.out _).mono ?_; rintro e w' ⟨rfl, rfl⟩
      go_wp2_with fail
      refine (A7.out _).mono ?_; rintro e w' ⟨rfl, rfl⟩
      go_wp2_with fail
      refine (A8.out _).mono ?_; rintro e w' ⟨rfl, rfl⟩
      go_wp2_with fail
      refine (A9.out _).mono ?_; rintro e w4 ⟨rfl, hb1⟩
      replace S1 := Lib.hid (S1.out.below hb1)
      replace S2 := Lib.hid (S2.out.below hb1)
      replace H := H.trans (hb1.mono H.size)
      clear hb1
      go_wp2_with fail
      refine (A10.out _).mono ?_; rintro e w' ⟨rfl, rfl⟩
      go_wp2_with fail
      refine (Ints_eq _ _ _ _ S1.out S2.out hri).mono ?_; rintro e w5 ⟨rfl, hb1⟩
      replace H := H.trans (hb1.mono H.size)
      clear hb1
      go_wp2_with fail
      refine (wakes_any _).mono ?_; rintro e w6 ⟨rfl, hb1⟩
      replace H := H.trans (hb1.mono H.size)
      clear hb1
      go_wp2
      go_ret
      exact ⟨rfl, H⟩

theorem tells_walk (W : World) (a : Int) (w0 : (Lit.int .i64 a).wf = true) (b : Int) (w1 : (Lit.int .u8 b).wf = true) (S : ByteArray) (hS : S.size ≤ maxLen) (v : Value) (l : List ByteArray) (h : Sl W v (l.map Value.string)) (w3 : ∀ s ∈ l, s.size ≤ maxLen) :
    Calls Try.prog 3 #[.int .i64 a, .int .u8 b, .string S, v] W fun e w' => e = .returned (.bool true) ∧ Below W.heap.size W w' := by
  obtain ⟨A, c, rfl⟩ := h.form
  rw [List.length_map] at h ⊢
  by_cases h1 : S.size ≤ 100
  · by_cases h2 : l.length ≤ 20
    · obtain ⟨bb, rfl⟩ := byte_wf w1
      exact tells_main a (num_wf w0) bb S A c l W h h1 h2
    · exact tells_long2 a b S A _ c W h1 (by omega)
  · exact tells_long1 a b S A _ c W (by omega)
end Go.Proofs.Ythjdgopmcmpdeaa
