/- The document's own answer when a list is taken. -/
import Derived.Test.YthdlehbelbapeaaRefText
namespace Go.Proofs.Ythdlehbelbapeaa
open Go.RowKit Go.Shelf

/-- What is read is read as before, when a row has turned that lies elsewhere. -/
theorem Sl.grown {w w' : World} {v : Value} {xs : List Value} {row : Option Nat} (h : Sl w v xs) (hg : w.grownBy w' row) (hne : ∀ b, v.ownBlock = some b → row ≠ some b) : Sl w' v xs := by
  rcases h with h | ⟨b, off, c, rfl, h1, h2, h3, h4⟩
  · exact .inl h
  · refine .inr ⟨b, off, c, rfl, h1, h2, Nat.lt_of_lt_of_le h3 hg.size, fun j u hu => ?_⟩
    have hb := hg.block b h3 (fun e => hne b rfl e.symm)
    have := h4 j u hu
    simp only [World.cell?] at this ⊢
    rw [hb]
    exact this

set_option maxHeartbeats 1000000 in
theorem refTakeList_nil (A : Option Addr) (c : Nat) (w : World) : Calls Try.prog 22 #[.slice A 0 c] w fun e w' => e = .returned (.tuple #[.slice none 0 0, .slice none 0 0, .int .i64 11]) ∧ w = w' := by
  go_enter Try.func22, Try.ntmps22
  go_wp2
  refine bodyPost_ret (results_tmp3 rfl _ _ _) rfl ?_
  exact ⟨rfl, rfl⟩

set_option maxRecDepth 100000 in
set_option maxHeartbeats 2000000 in
theorem refTakeList_cons (b off c : Nat) (q : UInt8) (t : List UInt8) (w : World) (h : Sl w (.slice (some ⟨b, off, none⟩) (t.length + 1) c) (bv (q :: t))) (hb : b < w.heap.size) (hc : w.cell? ⟨b, off, none⟩ = some (.int .u8 (q.toNat : Int))) (hl : t.length < 140737488355328) :
    Calls Try.prog 22 #[.slice (some ⟨b, off, none⟩) (t.length + 1) c] w fun e w' => ∃ v1 v2, e = .returned (.tuple #[v1, v2, .int .i64 ((takeL (q :: t)).2.2 : Nat)]) ∧ Sl w' v1 (ivn (takeL (q :: t)).1) ∧ Sl w' v2 (bv (takeL (q :: t)).2.1) ∧ Below w.heap.size w w' := by
  have hq := q.toNat_lt
  have H := Lib.hid h
  have HC := Lib.hid hc
  clear h hc
  have hz : ((t.length : Int) + 1 == 0) = false := by rw [beq_eq_false_iff_ne]; omega
  go_enter Try.func22, Try.ntmps22
  go_wp2_with (first
    | (with_reducible show wpList _ _ _ (Oper.mk _ (Op.slice _ _ _ _ _) _ _ _ _ :: _) _ _
       refine wpList_cut el23 rfl (.tmp 14) (some (.const (.int .i64 1))) none rfl _ _ rfl H.out 1 (bv (q :: t)).length (by rw [bv_length, List.length_cons]; omega) (Nat.le_refl _) (.inl rfl) (.inr ⟨rfl, rfl⟩) ?_
       intro A1 c1 hs1
       rw [List.take_length, bv_drop] at hs1))
  go_loopw [5, 6, 7] (fun v5 v6 v7 W => ∃ (k : Nat) (ns : List Nat) (r : List UInt8), k ≤ q.toNat ∧ v7 = .int .i64 k ∧ r.length ≤ t.length ∧ W.ownsRow w.heap.size 3 1 v5 k (ivn ns) ∧ Sl W v6 (bv r) ∧ (∀ g, v6.ownBlock = some g → v5.ownBlock ≠ some g) ∧ takeL (q :: t) = joinN ns (takeN (q.toNat - k) r) ∧ Below w.heap.size w W)
    (fun _ _ v7 _ => q.toNat - (intOf v7).toNat)
  case atStart => exact ⟨0, [], t, Nat.zero_le _, rfl, Nat.le_refl _, World.ownsRow_nil _ _ _ _, hs1, (by intro g _ e; cases e), by rw [joinN_nil]; rfl, Below.refl _ _⟩
  case round =>
    obtain ⟨k, ns, r, hk, rfl, hrl, hrow, hsr, hsep, htake, hB⟩ := hrel
    have HT := Lib.hid htake
    have HSR := Lib.hid hsr
    have HSEP := Lib.hid hsep
    have hcw : wr.cell? ⟨b, off, none⟩ = some (.int .u8 (q.toNat : Int)) := (hB.cell hb).trans HC.out
    clear htake hsr hsep
    by_cases hlt : k < q.toNat
    · have HE := num_takeE r
      have HN := takeE_err r
      have HJ : ∀ h : (takeE r).2.2 = 0, joinN ns (takeN (q.toNat - k) r) = joinN (ns ++ [(takeE r).1]) (takeN (q.toNat - (k + 1)) (r.drop (takeE r).2.1)) := fun h => by
        rw [show q.toNat - k = (q.toNat - (k + 1)) + 1 by omega]; exact joinN_step _ _ _ h
      have HF : ∀ h : (takeE r).2.2 ≠ 0, joinN ns (takeN (q.toNat - k) r) = ([], [], (takeE r).2.2) := fun h => by
        rw [show q.toNat - k = (q.toNat - (k + 1)) + 1 by omega]; exact joinN_fall _ _ _ h
      have hN := fun v W h => refTake_own v r W h (by omega)
      simp only [restT] at hN
      generalize hr : takeE r = rr at *
      obtain ⟨m, k1, er⟩ := rr
      dsimp only at HE HJ HF hN
      have HA := Lib.hid hN
      have HJ' := Lib.hid HJ
      have HF' := Lib.hid HF
      clear hN HE HN HJ HF hr
      by_cases he : er = 0
      · subst he
        simp only [if_true] at HA
        go_wp2_with (first
          | (go_at_call 18; refine (HA.out _ _ HSR.out).mono ?_; rintro e w1 ⟨v1, rfl, ho1, hb1⟩)
          | (at_builtin; refine wpList_app1 el22 rfl _ _ rfl w.heap.size u5 k (ivn ns) rfl ((ownsRow_below hrow hb1).alloc _) _ (.int .i64 (m : Int)) rfl (Sl.one _ _ _) rfl (by omega) (by have := hB.size; have := hb1.size; simp; omega) (w1.heap.size + 1) (by simp) ?_; intro g2 cap2 w2 hown2 hg2 hat2))
        go_roundw
        case rel =>
          have hs1 := hB.size
          have hs2 := hb1.size
          have hbl : Below w.heap.size wr w2 := ((hb1.mono hB.size).alloc (by omega) _).grown hg2 (by simp; omega) (fun g e => (hrow.lt g e).1)
          have hlt1 : ∀ g, v1.ownBlock = some g → wr.heap.size ≤ g ∧ g < w1.heap.size := fun g e => ho1.lt g e
          have hlt5 : ∀ g, u5.ownBlock = some g → w.heap.size ≤ g ∧ g < wr.heap.size := fun g e => hrow.lt g e
          refine ⟨k + 1, ns ++ [m], r.drop k1, by omega, by simp, by rw [List.length_drop]; omega, by rw [ivn_snoc]; exact hown2, ((Sl.of_own ho1).alloc _).grown hg2 ?_, ?_, ?_, hB.trans hbl⟩
          · intro g e e2
            have := hlt1 g e
            have := hlt5 g e2
            omega
          · intro g e e2
            have h1 := hlt1 g e
            have e3 : g2 = g := by simpa [Value.ownBlock] using e2
            rcases hat2 with h | h
            · have := hlt5 g2 h
              omega
            · omega
          · rw [HT.out, HJ'.out trivial]
        case measure => simp [intOf]; omega
      · have hz2 : (er : Int) != 0 := by rw [bne_iff_ne]; omega
        have hfin : takeL (q :: t) = ([], [], er) := by rw [HT.out, HF'.out he]
        have HFIN := Lib.hid hfin
        clear hfin he
        go_wp2_with (go_at_call 18; refine (HA.out _ _ HSR.out).mono ?_; rintro e w1 ⟨v1, rfl, ho1, hb1⟩)
        refine bodyPost_ret (results_tmp3 rfl _ _ _) rfl ?_
        refine ⟨.slice none 0 0, .slice none 0 0, ?_, ?_, ?_, hB.trans (hb1.mono hB.size)⟩
        · rw [HFIN.out]; rfl
        · rw [HFIN.out]; exact Sl.nil_ _
        · rw [HFIN.out]; exact Sl.nil_ _
    · obtain rfl : k = q.toNat := by omega
      have htk := HT.out
      rw [Nat.sub_self, joinN_end] at htk
      have HTK := Lib.hid htk
      clear htk
      go_wp2_with (at_builtin; refine wpList_app el23 rfl (.tmp 39) (.tmp 40) rfl wr.heap.size (.slice (some ⟨wr.heap.size, 0, none⟩) 0 0) 0 [] rfl (ownsRow_none wr _ (Nat.le_refl _) 5) _ _ rfl (HSR.out.alloc _) (bv_one _) (by rw [bv_length]; omega) (by simp) ?_; intro vA wA hownA hgA hatA)
      refine bodyPost_ret (results_tmp3 rfl _ _ _) rfl ?_
      have hbl := below_lit hgA
      refine ⟨u5, vA, ?_, ?_, ?_, hB.trans (hbl.mono hB.size)⟩
      · rw [HTK.out]; rfl
      · rw [HTK.out]; exact (Sl.of_own hrow).below hbl
      · rw [HTK.out]; exact Sl.of_own hownA

theorem refTakeList_any (v : Value) (l : List UInt8) (w : World) (h : Sl w v (bv l)) (hl : l.length ≤ 140737488355328) :
    Calls Try.prog 22 #[v] w fun e w' => ∃ v1 v2, e = .returned (.tuple #[v1, v2, .int .i64 ((takeL l).2.2 : Nat)]) ∧ Sl w' v1 (ivn (takeL l).1) ∧ Sl w' v2 (bv (takeL l).2.1) ∧ Below w.heap.size w w' := by
  cases l with
  | nil =>
    obtain ⟨A, c, rfl⟩ := h.bytes_nil
    refine (refTakeList_nil A c w).mono ?_
    rintro e w' ⟨rfl, rfl⟩
    exact ⟨.slice none 0 0, .slice none 0 0, rfl, Sl.nil_ _, Sl.nil_ _, Below.refl _ _⟩
  | cons q t =>
    obtain ⟨b, off, c, rfl, h1, h2, h3, h4, h5⟩ := h.bytes_cons
    exact refTakeList_cons b off c q t w h h3 h4 (by rw [List.length_cons] at hl; omega)
end Go.Proofs.Ythdlehbelbapeaa
