/- 'MixOne': the walk of the law: one byte another one, another place. -/
import Derived.Test.YthjdgopmcmpdeaaPartsLaw
import Derived.Lib.ConvBytes
import Derived.Laws.BitsAllLaws
set_option linter.unusedVariables false
set_option linter.unusedSimpArgs false
namespace Go.Proofs.Ythjdgopmcmpdeaa
open Go.RowKit Go.Shelf

set_option maxRecDepth 100000 in
set_option maxHeartbeats 1000000 in
theorem one_no1 (S : ByteArray) (i b s t : Int) (w : World) (h : S.size < 1) :
    Calls Try.prog 5 #[.string S, .int .i64 i, .int .u8 b, .int .i64 s, .int .i64 t] w fun e w' => e = .returned (.bool true) ∧ Below w.heap.size w w' := by
  go_enter Try.func5, Try.ntmps5
  go_wp2_with (go_at_call 8; refine (wakes_any _).mono ?_; rintro e w' ⟨rfl, hb⟩)
  go_ret
  exact ⟨rfl, hb⟩
set_option maxRecDepth 100000 in
set_option maxHeartbeats 1000000 in
theorem one_no2 (S : ByteArray) (i b s t : Int) (w : World) (h : 1 ≤ S.size) (h2 : 20 < S.size) :
    Calls Try.prog 5 #[.string S, .int .i64 i, .int .u8 b, .int .i64 s, .int .i64 t] w fun e w' => e = .returned (.bool true) ∧ Below w.heap.size w w' := by
  go_enter Try.func5, Try.ntmps5
  go_wp2_with (go_at_call 8; refine (wakes_any _).mono ?_; rintro e w' ⟨rfl, hb⟩)
  go_ret
  exact ⟨rfl, hb⟩
set_option maxRecDepth 100000 in
set_option maxHeartbeats 1000000 in
theorem one_no3 (S : ByteArray) (i s t : Int) (w : World) (h : 1 ≤ S.size) (h2 : S.size ≤ 20) :
    Calls Try.prog 5 #[.string S, .int .i64 i, .int .u8 0, .int .i64 s, .int .i64 t] w fun e w' => e = .returned (.bool true) ∧ Below w.heap.size w w' := by
  go_enter Try.func5, Try.ntmps5
  go_wp2_with (go_at_call 8; refine (wakes_any _).mono ?_; rintro e w' ⟨rfl, hb⟩)
  go_ret
  exact ⟨rfl, hb⟩

theorem bytesWorld_below (w : World) (e : TypeId) (S : ByteArray) : Below w.heap.size w (Lib.bytesWorld w e S) :=
  ⟨rfl, rfl, rfl, by rw [Lib.bytesWorld_size]; omega, fun k hk => Lib.bytesWorld_at_old w e S k hk⟩
theorem bytesWorld_frozen (w : World) (e : TypeId) (S : ByteArray) (j : Nat) (hj : j < S.size) : (Lib.bytesWorld w e S).frozen? ⟨w.heap.size, j, none⟩ = false := by
  have hs : (Lib.bytesCells w e S).size ≥ S.size := by
    simp [Lib.bytesCells]
  unfold World.frozen?
  simp only [Lib.bytesWorld_at_new]
  simp
  omega
theorem grownCap_max (w : World) (n : Nat) (e : TypeId) (h : n ≤ 20) : n ≤ grownCap w n 0 e ∧ grownCap w n 0 e ≤ maxLen :=
  ⟨grownCap_ge w n 0 e, grownCap_le_maxLen w n 0 e (by unfold maxLen; omega)⟩
theorem xor_ne (x y : UInt8) (hy : y ≠ 0) : x ^^^ y ≠ x := by
  intro h
  apply hy
  have : x ^^^ (x ^^^ y) = x ^^^ x := by rw [h]
  rw [← UInt8.xor_assoc] at this
  simpa using this
theorem xor_nat (x y : UInt8) : bits .xor .u8 (x.toNat : Int) (y.toNat : Int) = ((x ^^^ y).toNat : Int) := by
  rw [u8_xor_nat _ _ x.toNat_lt y.toNat_lt, UInt8.toNat_xor]
theorem go_set (a : Int) (l : List UInt8) (k : Nat) (hk : k < l.length) (z : UInt8) (h : l[k] ≠ z) : go a l ≠ go a (l.set k z) := by
  have h1 := go_one a (l.take k) (l.drop (k + 1)) l[k] z h
  have e2 : l.set k z = l.take k ++ z :: l.drop (k + 1) := by rw [List.set_eq_take_append_cons_drop, if_pos hk]
  rw [List.getElem_cons_drop, List.take_append_drop, ← e2] at h1
  exact h1
/-- Behind one cell that is another one. -/
theorem Sl.stored {W : World} {b n c : Nat} {l : List UInt8} (hl : l.length = n) (hn : n ≤ c) (hc : c ≤ maxLen) (hb : b < W.heap.size) (h : ∀ j (hj : j < l.length), W.cell? ⟨b, j, none⟩ = some (.int .u8 (l[j].toNat : Int))) (k : Nat) (hk : k < n) (z : UInt8) :
    Sl (W.setCell ⟨b, k, none⟩ (.int .u8 (z.toNat : Int))) (.slice (some ⟨b, 0, none⟩) n c) (bv (l.set k z)) := by
  refine .inr ⟨b, 0, c, by rw [bv_length, List.length_set, hl], by rw [bv_length, List.length_set, hl]; exact hn, hc, by simpa [World.setCell] using hb, fun j u hu => ?_⟩
  rw [Nat.zero_add]
  have hj : j < (l.set k z).length := by
    rcases Nat.lt_or_ge j (l.set k z).length with h | h
    · exact h
    · rw [List.getElem?_eq_none (by rw [bv_length]; exact h)] at hu; cases hu
  rw [bv_get _ j hj] at hu
  injection hu with hu
  subst hu
  have hj' : j < l.length := by rwa [List.length_set] at hj
  by_cases hjk : j = k
  · subst hjk
    rw [List.getElem_set_self]
    exact World.cell?_setCell_same _ _ _ (h j hj')
  · rw [List.getElem_set_ne (fun e => hjk e.symm)]
    exact (World.cell?_setCell_other _ _ _ _ (by simp; try omega)).trans (h j hj')

set_option maxRecDepth 100000 in
set_option maxHeartbeats 4000000 in
theorem one_main (S : ByteArray) (i : Int) (hi : Num i) (y : UInt8) (s t : Int) (hs : Num s) (ht : Num t) (w : World) (h1 : 1 ≤ S.size) (h2 : S.size ≤ 20) (hy : y ≠ 0) :
    Calls Try.prog 5 #[.string S, .int .i64 i, .int .u8 (y.toNat : Int), .int .i64 s, .int .i64 t] w fun e w' => e = .returned (.bool true) ∧ Below w.heap.size w w' := by
  have hy0 : ((y.toNat : Int) == 0) = false := by
    rw [beq_eq_false_iff_ne]
    intro h
    exact hy (UInt8.toNat_inj.1 (by simpa using h))
  have hyl := y.toNat_lt
  have hbd := tmod_bd i S.size (by omega)
  obtain ⟨k, hk⟩ : ∃ k : Nat, (i.tmod S.size + S.size) % S.size = (k : Int) := ⟨((i.tmod S.size + S.size) % S.size).toNat, by have := Int.emod_nonneg (i.tmod S.size + S.size) (b := S.size) (by omega); omega⟩
  have hkn : k < S.size := by have := Int.emod_lt_of_pos (i.tmod S.size + S.size) (b := S.size) (by omega); omega
  have hz : ((S.size : Int) == 0) = false := by rw [beq_eq_false_iff_ne]; omega
  have hconv := Lib.run_convert_string_bytes (P := Try.prog) w 9 35 5 S Try.underlying9 Try.underlying35 Try.underlying5
  have hcells : ∀ j (hj : j < S.data.toList.length), (Lib.bytesWorld w 5 S).cell? ⟨w.heap.size, j, none⟩ = some (.int .u8 (S.data.toList[j].toNat : Int)) := fun j hj => by
    rw [Lib.bytesWorld_cell w 5 S j (by rw [← S_len]; exact hj)]
    rw [show S.data.toList.getD j 0 = S.data.toList[j] by unfold List.getD; rw [List.getElem?_eq_getElem hj]; rfl]
  have hfr := bytesWorld_frozen w 5 S k hkn
  have hB := bytesWorld_below w 5 S
  have hsz := Lib.bytesWorld_size w 5 S
  have hkl : k < S.data.toList.length := by rw [S_len]; exact hkn
  have hck := hcells k hkl
  generalize Lib.bytesWorld w 5 S = W1 at *
  have HC := Lib.hid hcells
  have HSZ := Lib.hid hsz
  have HS := Lib.hid hs
  have HT := Lib.hid ht
  clear hcells hsz hs ht
  obtain ⟨x, hx⟩ : ∃ x, S.data.toList[k] = x := ⟨_, rfl⟩
  rw [hx] at hck
  have HX := Lib.hid hx
  clear hx
  unfold Num at hi
  have hxor := xor_nat x y
  have hne := xor_ne x y hy
  obtain ⟨z, hz2⟩ : ∃ z, x ^^^ y = z := ⟨_, rfl⟩
  rw [hz2] at hxor hne
  clear hz2 hy
  have hw2 : W1.heap.size ≠ 0 := by have := HSZ.out; omega
  have hBl : Below w.heap.size w (W1.setCell ⟨w.heap.size, k, none⟩ (.int .u8 (z.toNat : Int))) := hB.setCell (p := ⟨w.heap.size, k, none⟩) (Nat.le_refl _) _
  have hcap := grownCap_max w S.size 5 h2
  generalize grownCap w S.size 0 5 = cap at *
  have hsl := Sl.stored (S_len S) hcap.1 hcap.2 (by have := HSZ.out; omega) HC.out k hkn z
  have HN := Lib.hid hne
  have HB := Lib.hid hBl
  have HSL := Lib.hid hsl
  clear hw2 hB hBl hcap hsl hne
  have hone := go_set 7 S.data.toList k hkl z (by rw [HX.out]; exact fun e => HN.out e.symm)
  have a1 := fun w => Of_any S w
  have a2 := fun w => Of_any ⟨(S.data.toList.set k z).toArray⟩ w
  have hlen : (S.data.toList.set k z).length = S.size := by rw [List.length_set, S_len]
  rw [show ofE S.data.toList = 0 by unfold ofE; rw [if_neg (by rw [S_len]; omega)], show ofP S.data.toList = go 7 S.data.toList by unfold ofP; rw [if_neg (by rw [S_len]; omega)]] at a1
  rw [show (⟨(S.data.toList.set k z).toArray⟩ : ByteArray).data.toList = S.data.toList.set k z from by simp, show ofE (S.data.toList.set k z) = 0 by unfold ofE; rw [if_neg (by rw [hlen]; omega)], show ofP (S.data.toList.set k z) = go 7 (S.data.toList.set k z) by unfold ofP; rw [if_neg (by rw [hlen]; omega)]] at a2
  have a3 := fun w => Go_any (pl s) S w (pl_num s) (by omega)
  have a4 := fun w => Go_any (pl t) S w (pl_num t) (by omega)
  rw [go_pl] at a3 a4
  have hst : ((go s S.data.toList == go t S.data.toList) : Bool) = (pl s == pl t) := by rw [Bool.eq_iff_iff, beq_iff_eq, beq_iff_eq, go_inj]
  have hr2 := fun W h => run_str (P := Try.prog) (w := W) 35 9 5 Try.underlying35 Try.underlying5 Try.underlying9 (.slice (some ⟨w.heap.size, 0, none⟩) S.size cap) (S.data.toList.set k z) h
  have hPs := rest_pl s
  have hPt := rest_pl t
  have bs := tmod_bd s 65536 (by omega)
  have bt := tmod_bd t 65536 (by omega)
  have ks := pl_bd s
  have kt := pl_bd t
  have ns := HS.out
  have nt := HT.out
  unfold Num at ns nt
  have hneb : (go 7 S.data.toList != go 7 (S.data.toList.set k z)) = true := by rw [bne_iff_ne]; exact hone
  clear hone hlen HC HX HN hkl
  generalize (⟨(S.data.toList.set k z).toArray⟩ : ByteArray) = S2 at *
  generalize go 7 (S.data.toList.set k z) = q2 at *
  generalize go 7 S.data.toList = q1 at *
  generalize go s S.data.toList = g1 at *
  generalize go t S.data.toList = g2 at *
  generalize pl s = P1 at *
  generalize pl t = P2 at *
  have HR2 := Lib.hid hr2
  clear hr2
  generalize z.toNat = zn at *
  have hcons : ∀ bo, bo = (P1 == P2) → Calls Try.prog 5 #[.string S, .int .i64 i, .int .u8 (y.toNat : Int), .int .i64 s, .int .i64 t] w fun e w' => e = .returned (.bool true) ∧ Below w.heap.size w w' := by
    intro bo hbo
    rw [← hbo] at hst
    replace hbo := hbo.symm
    cases bo <;>
    · go_enter Try.func5, Try.ntmps5
      go_wp2_with fail
      refine (a1 _).mono ?_; rintro e w2 ⟨rfl, hb1⟩
      have hr3 := HR2.out w2 (HSL.out.below hb1)
      have H := HB.out.trans (hb1.mono HB.out.size)
      clear hb1
      go_wp2_with fail
      refine (a2 _).mono ?_; rintro e w3 ⟨rfl, hb1⟩
      replace H := H.trans (hb1.mono H.size)
      clear hb1 hr3
      go_wp2_with fail
      refine (a3 _).mono ?_; rintro e w4 ⟨rfl, hb1⟩
      replace H := H.trans (hb1.mono H.size)
      clear hb1
      go_wp2_with fail
      refine (a4 _).mono ?_; rintro e w5 ⟨rfl, hb1⟩
      replace H := H.trans (hb1.mono H.size)
      clear hb1
      go_wp2_with fail
      refine (wakes_any _).mono ?_; rintro e w6 ⟨rfl, hb1⟩
      replace H := H.trans (hb1.mono H.size)
      clear hb1
      go_wp2
      go_ret
      exact ⟨rfl, H⟩
  exact hcons _ rfl

theorem one_walk (W : World) (S : ByteArray) (_ : S.size ≤ maxLen) (i : Int) (w1 : (Lit.int .i64 i).wf = true) (b : Int) (w2 : (Lit.int .u8 b).wf = true) (s : Int) (w3 : (Lit.int .i64 s).wf = true) (t : Int) (w4 : (Lit.int .i64 t).wf = true) :
    Calls Try.prog 5 #[.string S, .int .i64 i, .int .u8 b, .int .i64 s, .int .i64 t] W fun e w' => e = .returned (.bool true) ∧ Below W.heap.size W w' := by
  by_cases h1 : 1 ≤ S.size
  · by_cases h2 : S.size ≤ 20
    · obtain ⟨y, rfl⟩ := byte_wf w2
      by_cases hy : y = 0
      · subst hy
        exact one_no3 S i s t W h1 h2
      · exact one_main S i (num_wf w1) y s t (num_wf w3) (num_wf w4) W h1 h2 hy
    · exact one_no2 S i b s t W h1 (by omega)
  · exact one_no1 S i b s t W (by omega)
end Go.Proofs.Ythjdgopmcmpdeaa
