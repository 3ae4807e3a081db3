/- The document's own bytes of a list, in cells of their own; 'append' that leaves what lies elsewhere. -/
import Derived.Test.YtaacjpcckinaiaaGreatWRefP
set_option linter.unusedVariables false
set_option maxRecDepth 100000
set_option linter.unusedSimpArgs false
namespace Go.Proofs.YtaacjpcckinaiaaGreat.Num
open Go.RowKit Go.Shelf

set_option maxRecDepth 100000 in
set_option maxHeartbeats 2000000 in
theorem refList_own (A : Option Addr) (n c : Nat) (l : List Int) (w : World) (hA : Sl w (.slice A n c) (iv l)) (hln : l.length = n) (h2 : n ≤ 255) :
    Calls Tryz.prog 31 #[.slice A n c] w fun e w' => ∃ v', e = .returned (.tuple #[v', .int .i64 (listE l)]) ∧ Slf w.heap.size w' v' (bv (listBy l)) ∧ Below w.heap.size w w' := by
  have SA := Lib.hid hA
  have HLN := Lib.hid hln
  clear hA hln
  go_enter Tryz.func31, Tryz.ntmps31
  go_wp2
  go_loopw [4, 5] (fun v4 v5 W => ∃ k : Nat, k ≤ n ∧ v5 = .int .i64 k ∧ okB (l.take k) = true ∧ W.ownsRow w.heap.size 5 1 v4 (1 + (numsI (l.take k)).length) (bv (UInt8.ofNat n :: numsI (l.take k))) ∧ Below w.heap.size w W) (fun _ i _ => n - (intOf i).toNat)
  case atStart =>
    have e : bv (UInt8.ofNat n :: numsI (l.take 0)) = [.int .u8 (n : Int)] := by simp [bv, numsI, nums]; omega
    refine ⟨0, Nat.zero_le _, rfl, rfl, ?_, (Below.refl _ _).alloc (Nat.le_refl _) _⟩
    rw [e]
    exact ownsRow_one w w.heap.size (Nat.le_refl _) 5 _
  case round =>
    obtain ⟨k, hk, rfl, hokk, hrow, hB⟩ := hrel
    have HOKK := Lib.hid hokk
    clear hokk
    by_cases hlt : k < n
    · have hkl : k < l.length := by rw [HLN.out]; exact hlt
      obtain ⟨b, off, rfl, hcell⟩ : ∃ b off, A = some ⟨b, off, none⟩ ∧ wr.cell? ⟨b, off + k, none⟩ = some (.int .i64 l[k]) := by
        rcases (SA.out.below hB).ints3 with ⟨h, hl0⟩ | ⟨b, off, c', h, _, hc⟩
        · rw [hl0] at hkl; simp at hkl
        · injection h with h
          exact ⟨b, off, h, hc k hkl⟩
      have hsn : okB (l.take (k + 1)) = (okB (l.take k) && decide (0 ≤ l[k] ∧ l[k] ≤ 1099511627776)) := by
        rw [List.take_succ_eq_append_getElem hkl, okB_snoc]
      have hnm : numsI (l.take (k + 1)) = numsI (l.take k) ++ num l[k].toNat := by
        rw [List.take_succ_eq_append_getElem hkl, numsI_snoc]
      have HSN := Lib.hid hsn
      have HNM := Lib.hid hnm
      have hl7 := numsI_len (l.take k) ((okB_iff _).1 HOKK.out)
      rw [List.length_take] at hl7
      have hl8 : (numsI (l.take k)).length ≤ 1785 := by omega
      have hmem : l[k] ∈ l := List.getElem_mem hkl
      have HMEM := Lib.hid hmem
      clear hsn hnm hl7 hmem
      generalize l[k] = x at *
      by_cases hx : 0 ≤ x ∧ x ≤ 1099511627776
      · obtain ⟨hx0, hx1⟩ := hx
        have h6 := dig_len6 x.toNat (by omega)
        have hnl := num_length x.toNat
        have HNL := Lib.hid hnl
        clear hnl
        go_wp2_with (first
          | (go_at_call 48; refine (refput_ok x hx0 hx1 _).mono ?_; rintro e w4 ⟨v4, rfl, s4, hb4⟩)
          | (at_builtin; refine wpList_app el23 rfl (.tmp 32) (.tmp 33) rfl w.heap.size _ _ _ rfl (ownsRow_below hrow hb4) _ _ rfl s4 (bv_one _) (by have e1 := bv_length (num x.toNat); have e2 := HNL.out; omega) (by have := hB.size; have := hb4.size; omega) ?_; intro vA wA hownA hgA hatA))
        go_roundw
        case rel =>
          have hbl : Below w.heap.size wr wA := (hb4.mono hB.size).grown hgA (by have := hB.size; have := hb4.size; omega) (fun g e => (hrow.lt g e).1)
          refine ⟨k + 1, by omega, by go_num, by rw [HSN.out, HOKK.out]; simp [hx0, hx1], ?_, hB.trans hbl⟩
          rw [HNM.out, List.length_append, ← List.cons_append, bv_append, ← Nat.add_assoc]
          rw [bv_length (num x.toNat)] at hownA
          exact hownA
        case measure => simp [intOf]; omega
      · go_wp2_with (go_at_call 48; refine (refput_not x hx _).mono ?_; rintro e w4 ⟨v4, rfl, s4, hb4⟩)
        go_ret2
        have hn : ¬ okL l := fun h => hx (h.2 x HMEM.out)
        refine ⟨.slice none 0 0, ?_, ?_, hB.trans (hb4.mono hB.size)⟩
        · rw [listE, if_neg hn]; rfl
        · rw [listBy, if_neg hn]; exact Slf.nil_ _ _
    · obtain rfl : k = n := by omega
      have hall : l.take k = l := List.take_of_length_le (by rw [HLN.out]; exact Nat.le_refl _)
      have hokk := HOKK.out
      rw [hall] at hrow hokk
      have HO := Lib.hid hokk
      clear hokk hall
      go_wp2
      go_ret2
      have hok : okL l := ⟨by rw [HLN.out]; exact h2, (okB_iff l).1 HO.out⟩
      refine ⟨u4, ?_, ?_, hB⟩
      · rw [listE, if_pos hok]; rfl
      · rw [listBy, if_pos hok, HLN.out]; exact Slf.of_own hrow

end Go.Proofs.YtaacjpcckinaiaaGreat.Num
namespace Go.Proofs.YtaacjpcckinaiaaGreat
open Go.RowKit Go.Shelf Ms
section
variable {P : Program} {w0 w : World} {t e : TypeId} {z : Value} {bytes : Nat}
theorem wpList_moreK (E : ElOf P t e z bytes) {ops : Array Oper} {rest : List Oper} {o : Oper} {a : Act} {Q : Exit → Act → World → Prop} (hw : Region.wanted o (yielded ops a.tmps) = true) (s x : Operand)
    (ho : o.op = .call { callee := .builtin .append, args := #[s, x], argTypes := #[t, t] }) {v : Value} {xs : List Value} (hs : a.eval s = v) (hM : Made w0 w e v xs)
    {vx : Value} {news : List Value} (hxe : a.eval x = vx) (hx : Sl w vx news) (h1 : ∀ u ∈ news, u.oneCell' = true) (hby : (xs.length + news.length) * bytes ≤ 140737488355328)
    (h : ∀ v' w', Made w0 w' e v' (xs ++ news) → (∀ n u us, Slf n w u us → (∀ g, v.ownBlock = some g → g < n) → Slf n w' u us) → wpList P ops Q rest (a.put o.dst v') w') : wpList P ops Q (o :: rest) a w := by
  refine wpList_step fun K hK => ?_
  rw [if_pos hw]
  obtain ⟨v', w', hrun, a2, a3, a4⟩ := run_app E w0.heap.size o.type v xs.length xs hM.own vx news hx h1 hby hM.below.size
  have h2 : Made w0 w' e v' (xs ++ news) := by
    refine ⟨by rw [List.length_append]; exact a2, ?_⟩
    have := gr_then (gr_of_below hM.below none) a3 (.inr hM.row)
    exact below_of_none this
  unfold Oper.wp execOp
  simp only [ho, resolve, invoke, builtin, Sem.run_bind, Sem.run_pure, Result.andThen_ok, List.map_toArray, List.map_cons, List.map_nil, hs, hxe, hrun]
  refine hK _ _ (h v' w' h2 fun n u us hu hg => ?_)
  cases hv : v.ownBlock with
  | none => rw [hv] at a3; exact hu.below (below_of_none a3)
  | some g => exact hu.other (hg g hv) a3.size fun k hk hne => a3.block k hk (by rw [hv]; intro e; injection e with e; exact hne e)
end
theorem number_ok (n : Int) (h0 : 0 ≤ n) (h1 : n ≤ 1099511627776) (w : World) : Calls Tryz.prog 27 #[.int .i64 n] w fun e w' => ∃ v, e = .returned v ∧ Made w w' 5 v (bv (nB n)) := by
  have h := number_any n w
  rw [(putB_ok ⟨h0, h1⟩).1] at h
  exact h
theorem pair_ok (x : It) (hx : OkIt x) (w : World) : Calls Tryz.prog 29 #[.agg x.c] w fun e w' => ∃ v, e = .returned v ∧ Sl w' v (bv (itB x)) ∧ Below w.heap.size w w' := by
  have h := pair_own x w
  have hb := b2i_le x.gone
  rw [(putB_ok ⟨hx.v0, by have := hx.v1; omega⟩).1, (putB_ok ⟨hx.r0, by have := hx.r1; omega⟩).1, (putB_ok ⟨hb.1, by omega⟩).1, List.append_assoc, List.append_assoc] at h
  exact h
end Go.Proofs.YtaacjpcckinaiaaGreat
