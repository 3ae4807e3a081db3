/- Rows of parts: put and taken, one by one. -/
import Derived.Test.YtaacjpcckinaiaaGreatWText
set_option linter.unusedVariables false
set_option maxRecDepth 100000
set_option linter.unusedSimpArgs false
namespace Go.Proofs.YtaacjpcckinaiaaGreat
open Go.RowKit Go.Shelf Ms

theorem Rw.part_ {w : World} {g : Nat} {cs : Array Value} (hg : Rw w g 71 cs) (k : Nat) {x y : Value} (h0 : cs[k * 2]? = some x) (h1 : cs[k * 2 + 1]? = some y) : (Instr.loadAt 71 (.pointer (some ⟨g, k * 2, none⟩))).run Tryz.prog w = .ok (.agg #[x, y]) w :=
  run_loadP (P := Tryz.prog) (cs := #[x, y]) aggP hg fun j v hv => by
    match j with
    | 0 => simp at hv; subst hv; exact h0
    | 1 => simp at hv; subst hv; exact h1
    | j + 2 => simp at hv

set_option maxHeartbeats 4000000 in
theorem row_put (s g N : Nat) (cs : Array Value) (w : World) (hs : Boxed w s 94 (.slice (some ⟨g, 0, none⟩) N N)) (hg : Rw w g 71 cs) (hN : N ≤ 1000) (f t : Nat → FuncId) (cp ct : Nat → Array Value)
    (hcell : ∀ k, k < N → cs[k * 2]? = some (.func (.func (f k)) #[] (cp k)) ∧ cs[k * 2 + 1]? = some (.func (.func (t k)) #[] (ct k)))
    (en : ∀ k, k < N → ∀ args w, (callFunc (f k) args).run Tryz.prog w = .ok (.enter (f k) args) w) (seg : Nat → List UInt8) (hseg : ∀ k, k < N → (seg k).length ≤ 1000)
    (hc : ∀ k, k < N → ∀ W, Below w.heap.size w W → Calls Tryz.prog (f k) (cp k) W fun e W' => ∃ v', e = .returned v' ∧ Sl W' v' (bv (seg k)) ∧ Below W.heap.size W W') :
    Calls Tryz.prog 128 #[ptr s] w fun e w' => ∃ v', e = .returned v' ∧ Sl w' v' (bv ((List.range N).flatMap seg)) ∧ Below w.heap.size w w' := by
  have cs0 := hs.cell
  have HG := Lib.hid hg
  have HC := Lib.hid hc
  have HE := Lib.hid en
  have HL := Lib.hid hcell
  have HS := Lib.hid hseg
  have hle : ∀ k, k ≤ N → ((List.range k).flatMap seg).length ≤ 1000 * k := by
    intro k hk
    induction k with
    | zero => simp
    | succ k ih =>
      rw [List.range_succ, List.flatMap_append, List.length_append]
      have := ih (by omega)
      have := hseg k (by omega)
      simp only [List.flatMap_cons, List.flatMap_nil, List.append_nil]
      omega
  have HLE := Lib.hid hle
  clear hg hc en hcell hseg hle
  go_enter Tryz.func128, Tryz.ntmps128
  go_wp2
  go_loopw [2, 7] (fun v2 v7 W => ∃ k : Nat, k ≤ N ∧ v7 = .int .i64 k ∧ Made w W 5 v2 (bv ((List.range k).flatMap seg))) (fun _ i _ => N - (intOf i).toNat)
  case atStart => exact ⟨0, Nat.zero_le _, rfl, Made.nil_ _ _⟩
  case round =>
    obtain ⟨k, hk, rfl, hM⟩ := hrel
    by_cases hlt : k < N
    · have hlt' : (0 : Int) ≤ (k : Int) ∧ (k : Int) < (N : Int) := by omega
      have hw : IntKind.i64.wrap (k + 1 : Int) = k + 1 := by rw [IntKind.wrap_i64]; omega
      obtain ⟨h0, h1⟩ := HL.out k hlt
      have r1 := HG.out.below hM.below
      have e1 := HE.out k hlt
      have r0 := Rw.new wr #[.nilFunc, .nilFunc] 71
      have r2 := r0.setRow (c' := partC (f k) (t k) (cp k) (ct k))
      have hB2 : Below wr.heap.size wr ((wr.alloc (.cells #[.nilFunc, .nilFunc] 71)).setRow wr.heap.size (partC (f k) (t k) (cp k) (ct k))) := below_setRow (box_below wr _) (Nat.le_refl _) _
      have hc1 := r2.cell 0
      have hM2 := hM.behind hB2
      have hseg : ((List.range (k + 1)).flatMap seg) = ((List.range k).flatMap seg) ++ seg k := by rw [List.range_succ, List.flatMap_append]; simp
      go_wp2_with (first
        | (with_reducible show wpList _ _ _ (Oper.mk _ (Op.load _ (.tmp 9)) _ _ _ _ :: _) _ _
           refine wpList_loadR rfl _ rfl rfl (Rw.part_ r1 k h0 h1) ?_)
        | (with_reducible show wpList _ _ _ (Oper.mk _ (Op.store _ (.tmp 4) _) _ _ _ _ :: _) _ _
           refine wpList_storeR (c := partC (f k) (t k) (cp k) (ct k)) rfl _ _ rfl rfl rfl aggP.hi r0 rfl (part_one _ _ _ _) ?_))
      refine (HC.out k hlt _ hM2.below).mono ?_
      rintro e w1 ⟨v', rfl, hs1, hb1⟩
      have hM3 := hM2.behind hb1
      have hl1 := HLE.out k hk
      have hl2 := HS.out k hlt
      have HM3 := Lib.hid hM3
      clear hM hM2 hM3 r0 r1 r2 hB2 hc1
      go_wp2_with (at_builtin; refine wpList_more Num.el23 rfl _ _ rfl rfl HM3.out rfl hs1 (bv_one _) (by rw [bv_length, bv_length]; omega) ?_; intro v3 w3 hM4)
      go_roundw
      case rel => exact ⟨k + 1, by omega, by go_num, by rw [hseg, bv_append]; exact hM4⟩
      case measure => simp [intOf]; omega
    · obtain rfl : k = N := by omega
      go_wp2
      go_ret
      exact ⟨_, rfl, hM.sl, hM.below⟩

set_option maxHeartbeats 4000000 in
theorem row_take (s g N : Nat) (cs : Array Value) (w : World) (hs : Boxed w s 94 (.slice (some ⟨g, 0, none⟩) N N)) (hN : N ≤ 1000) (f t : Nat → FuncId) (cp ct : Nat → Array Value)
    (hcell : ∀ k, k < N → cs[k * 2]? = some (.func (.func (f k)) #[] (cp k)) ∧ cs[k * 2 + 1]? = some (.func (.func (t k)) #[] (ct k)))
    (en : ∀ k, k < N → ∀ args w, (callFunc (t k) args).run Tryz.prog w = .ok (.enter (t k) args) w) (R : Nat → List UInt8 → World → Prop) (Rp : List PanicEntry → World → Prop)
    (hRb : ∀ k bs W W', R k bs W → Below W.heap.size W W' → R k bs W') (hRg : ∀ k bs W, R k bs W → Rw W g 71 cs)
    (hc : ∀ k, k < N → ∀ W v bs, R k bs W → Sl W v (bv bs) → Calls Tryz.prog (t k) (#[v] ++ ct k) W fun e W' => (∃ v' bs', e = .returned v' ∧ Sl W' v' (bv bs') ∧ R (k + 1) bs' W') ∨ ∃ ch, e = .panicked ch ∧ Rp ch W')
    (v : Value) (bs : List UInt8) (hv : Sl w v (bv bs)) (hR : R 0 bs w) :
    Calls Tryz.prog 129 #[v, ptr s] w fun e w' => (∃ v' bs', e = .returned v' ∧ Sl w' v' (bv bs') ∧ R N bs' w') ∨ ∃ ch, e = .panicked ch ∧ Rp ch w' := by
  have cs0 := hs.cell
  have HC := Lib.hid hc
  have HE := Lib.hid en
  have HL := Lib.hid hcell
  have HB := Lib.hid hRb
  have HG := Lib.hid hRg
  have HR := Lib.hid hR
  have HV := Lib.hid hv
  clear hc en hcell hRb hRg hR hv
  go_enter Tryz.func129, Tryz.ntmps129
  go_wp2
  go_loopw [0, 8] (fun v0 v8 W => ∃ (k : Nat) (bs : List UInt8), k ≤ N ∧ v8 = .int .i64 k ∧ Sl W v0 (bv bs) ∧ R k bs W) (fun _ i _ => N - (intOf i).toNat)
  case atStart => exact ⟨0, bs, Nat.zero_le _, rfl, HV.out, HR.out⟩
  case round =>
    obtain ⟨k, bk, hk, rfl, hS, hRk⟩ := hrel
    by_cases hlt : k < N
    · have hlt' : (0 : Int) ≤ (k : Int) ∧ (k : Int) < (N : Int) := by omega
      have hw : IntKind.i64.wrap (k + 1 : Int) = k + 1 := by rw [IntKind.wrap_i64]; omega
      obtain ⟨h0, h1⟩ := HL.out k hlt
      have r1 := HG.out k bk wr hRk
      have e1 := HE.out k hlt
      have r0 := Rw.new wr #[.nilFunc, .nilFunc] 71
      have r2 := r0.setRow (c' := partC (f k) (t k) (cp k) (ct k))
      have hB2 : Below wr.heap.size wr ((wr.alloc (.cells #[.nilFunc, .nilFunc] 71)).setRow wr.heap.size (partC (f k) (t k) (cp k) (ct k))) := below_setRow (box_below wr _) (Nat.le_refl _) _
      have hc1 := r2.cell 1
      have HS2 := Lib.hid (hS.below hB2)
      have HR2 := Lib.hid (HB.out _ _ _ _ hRk hB2)
      clear hS hRk
      go_wp2_with (first
        | (with_reducible show wpList _ _ _ (Oper.mk _ (Op.load _ (.tmp 10)) _ _ _ _ :: _) _ _
           refine wpList_loadR rfl _ rfl rfl (Rw.part_ r1 k h0 h1) ?_)
        | (with_reducible show wpList _ _ _ (Oper.mk _ (Op.store _ (.tmp 5) _) _ _ _ _ :: _) _ _
           refine wpList_storeR (c := partC (f k) (t k) (cp k) (ct k)) rfl _ _ rfl rfl rfl aggP.hi r0 rfl (part_one _ _ _ _) ?_))
      refine (HC.out k hlt _ _ _ HR2.out HS2.out).mono ?_
      clear r0 r1 r2 hB2 hc1
      rintro e w1 (⟨v', b', rfl, hs1, hR1⟩ | ⟨ch, rfl, hp⟩)
      · have HS1 := Lib.hid hs1
        have HR1 := Lib.hid hR1
        clear hs1 hR1
        go_wp2
        go_roundw
        case rel => exact ⟨k + 1, b', by omega, by go_num, HS1.out, HR1.out⟩
        case measure => simp [intOf]; omega
      · exact ⟨rfl, .inr ⟨ch, rfl, hp⟩⟩
    · obtain rfl : k = N := by omega
      have HS1 := Lib.hid hS
      have HR1 := Lib.hid hRk
      clear hS hRk
      go_wp2
      go_ret
      exact .inl ⟨_, _, rfl, HS1.out, HR1.out⟩
end Go.Proofs.YtaacjpcckinaiaaGreat
