/- Lists of numbers are read from a row of bytes: 'TakeList'. -/
import Derived.Test.YthdlehbelbapeaaList
namespace Go.Proofs.Ythdlehbelbapeaa
open Go.RowKit Go.Shelf

def ivn (l : List Nat) : List Value := iv (l.map Int.ofNat)
theorem ivn_length (l : List Nat) : (ivn l).length = l.length := by simp [ivn, iv]
theorem ivn_snoc (l : List Nat) (x : Nat) : ivn (l ++ [x]) = ivn l ++ [.int .i64 (x : Int)] := by simp [ivn, iv]

theorem ownsRow_below {w w' : World} {base : Nat} {e : TypeId} {size n : Nat} {v : Value} {xs : List Value} (h : w.ownsRow base e size v n xs) (hb : Below w.heap.size w w') : w'.ownsRow base e size v n xs := by
  refine ⟨h.1, ?_⟩
  rcases h.2 with h2 | ⟨g, cap, cur, hv, hg, hh, r⟩
  · exact .inl h2
  · exact .inr ⟨g, cap, cur, hv, hg, (hb.block g (Array.getElem?_eq_some_iff.1 hh).1).trans hh, r⟩

set_option maxHeartbeats 1000000 in
theorem TakeList_nil (A : Option Addr) (c : Nat) (w : World) : Calls Try.prog 21 #[.slice A 0 c] w fun e w' => e = .returned (.tuple #[.slice none 0 0, .slice none 0 0, .int .i64 11]) ∧ w = w' := by
  go_enter Try.func21, Try.ntmps21
  go_wp2
  refine wp_scope_fwd ?_
  go_wp2
  go_step3
  refine fwd_goto _ rfl ?_
  go_wp2
  refine nog_ret ?_
  refine bodyPost_ret (results_tmp3 rfl _ _ _) rfl ?_
  exact ⟨rfl, rfl⟩

set_option maxRecDepth 100000 in
set_option maxHeartbeats 2000000 in
theorem TakeList_cons (b off c : Nat) (q : UInt8) (t : List UInt8) (w : World) (h : Sl w (.slice (some ⟨b, off, none⟩) (t.length + 1) c) (bv (q :: t))) (hc : w.cell? ⟨b, off, none⟩ = some (.int .u8 (q.toNat : Int))) (hl : t.length < 140737488355328) :
    Calls Try.prog 21 #[.slice (some ⟨b, off, none⟩) (t.length + 1) c] w fun e w' => ∃ v1 v2, e = .returned (.tuple #[v1, v2, .int .i64 ((takeL (q :: t)).2.2 : Nat)]) ∧ Sl w' v1 (ivn (takeL (q :: t)).1) ∧ Sl w' v2 (bv (takeL (q :: t)).2.1) ∧ Below w.heap.size w w' := by
  have hq := q.toNat_lt
  have H := Lib.hid h
  clear h
  have hz : ((t.length : Int) + 1 == 0) = false := by rw [beq_eq_false_iff_ne]; omega
  go_enter Try.func21, Try.ntmps21
  go_wp2
  refine wp_scope_fwd ?_
  go_wp2
  go_loopw [2, 5, 16] (fun v2 v5 v16 W => ∃ (k : Nat) (ns : List Nat) (at_ : Nat), k ≤ q.toNat ∧ v16 = .int .i64 k ∧ v5 = .int .i64 at_ ∧ at_ ≤ t.length + 1 ∧ W.ownsRow w.heap.size 3 1 v2 k (ivn ns) ∧ takeL (q :: t) = joinN ns (takeN (q.toNat - k) ((q :: t).drop at_)) ∧ Below w.heap.size w W)
    (fun _ _ v16 _ => q.toNat - (intOf v16).toNat)
  case atStart => exact ⟨0, [], 1, Nat.zero_le _, rfl, rfl, by omega, World.ownsRow_nil _ _ _ _, by rw [joinN_nil]; rfl, Below.refl _ _⟩
  case round =>
    obtain ⟨k, ns, at_, hk, rfl, rfl, hat, hrow, htake, hB⟩ := hrel
    have HT := Lib.hid htake
    clear htake
    by_cases hlt : k < q.toNat
    · have hcutl : ((q :: t).drop at_).length = t.length + 1 - at_ := by simp
      have HN := takeE_err ((q :: t).drop at_)
      have HE := num_takeE ((q :: t).drop at_)
      have HJ : ∀ h : (takeE ((q :: t).drop at_)).2.2 = 0, joinN ns (takeN (q.toNat - k) ((q :: t).drop at_)) = joinN (ns ++ [(takeE ((q :: t).drop at_)).1]) (takeN (q.toNat - (k + 1)) (((q :: t).drop at_).drop (takeE ((q :: t).drop at_)).2.1)) := fun h => by
        rw [show q.toNat - k = (q.toNat - (k + 1)) + 1 by omega]; exact joinN_step _ _ _ h
      have HF : ∀ h : (takeE ((q :: t).drop at_)).2.2 ≠ 0, joinN ns (takeN (q.toNat - k) ((q :: t).drop at_)) = ([], [], (takeE ((q :: t).drop at_)).2.2) := fun h => by
        rw [show q.toNat - k = (q.toNat - (k + 1)) + 1 by omega]; exact joinN_fall _ _ _ h
      have hNany := fun v W h => number_any v ((q :: t).drop at_) W h
      generalize hr : takeE ((q :: t).drop at_) = r at *
      obtain ⟨m, k1, er⟩ := r
      dsimp only at HN HE HJ HF hNany
      have HA := Lib.hid hNany
      have HN' := Lib.hid HN
      have HE' := Lib.hid HE
      have HJ' := Lib.hid HJ
      have HF' := Lib.hid HF
      have HL := Lib.hid hcutl
      clear hNany HN HE HJ HF hcutl hr
      by_cases he : er = 0
      · subst he
        obtain ⟨hm, -, hk1, -⟩ := HE'.out rfl
        rw [HL.out] at hk1
        go_wp2_with (first
          | (with_reducible show wpList _ _ _ (Oper.mk _ (Op.slice _ _ _ _ _) _ _ _ _ :: _) _ _
             refine wpList_cut el23 rfl (.tmp 19) (some (.tmp 20)) none rfl _ _ rfl (H.out.below hB) at_ (bv (q :: t)).length (by rw [bv_length]; exact hat) (Nat.le_refl _) (.inl rfl) (.inr ⟨rfl, rfl⟩) ?_
             intro A1 c1 hs1
             rw [List.take_length, bv_drop] at hs1)
          | (go_at_call 27; refine (HA.out _ _ hs1).mono ?_; rintro e w1 ⟨rfl, hb1⟩)
          | (at_builtin; refine wpList_app1 el22 rfl _ _ rfl w.heap.size u2 k (ivn ns) rfl ((ownsRow_below hrow hb1).alloc _) _ (.int .i64 (m : Int)) rfl (Sl.one _ _ _) rfl (by omega) (by have := hB.size; have := hb1.size; simp; omega) (w1.heap.size + 1) (by simp) ?_; intro g2 cap2 w2 hown2 hg2 hat2))
        go_roundw
        case rel =>
          have hbl : Below w.heap.size wr w2 := ((hb1.mono hB.size).alloc (by have := hB.size; have := hb1.size; omega) _).grown hg2 (by have := hB.size; have := hb1.size; simp; omega) (fun g e => (hrow.lt g e).1)
          refine ⟨k + 1, ns ++ [m], at_ + k1, by omega, by simp, by simp, by omega, by rw [ivn_snoc]; exact hown2, ?_, hB.trans hbl⟩
          rw [HT.out, HJ'.out trivial, List.drop_drop]
        case measure => simp [intOf]; omega
      · have hz2 : (er : Int) != 0 := by rw [bne_iff_ne]; omega
        have hfin : takeL (q :: t) = ([], [], er) := by rw [HT.out, HF'.out he]
        have HFIN := Lib.hid hfin
        clear hfin he
        go_wp2_with (first
          | (with_reducible show wpList _ _ _ (Oper.mk _ (Op.slice _ _ _ _ _) _ _ _ _ :: _) _ _
             refine wpList_cut el23 rfl (.tmp 19) (some (.tmp 20)) none rfl _ _ rfl (H.out.below hB) at_ (bv (q :: t)).length (by rw [bv_length]; exact hat) (Nat.le_refl _) (.inl rfl) (.inr ⟨rfl, rfl⟩) ?_
             intro A1 c1 hs1
             rw [List.take_length, bv_drop] at hs1)
          | (go_at_call 27; refine (HA.out _ _ hs1).mono ?_; rintro e w1 ⟨rfl, hb1⟩))
        go_step3
        refine fwd_goto _ rfl ?_
        go_wp2
        refine nog_ret ?_
        refine bodyPost_ret (results_tmp3 rfl _ _ _) rfl ?_
        refine ⟨.slice none 0 0, .slice none 0 0, ?_, ?_, ?_, hB.trans (hb1.mono hB.size)⟩
        · rw [HFIN.out]; rfl
        · rw [HFIN.out]; exact Sl.nil_ _
        · rw [HFIN.out]; exact Sl.nil_ _
    · obtain rfl : k = q.toNat := by omega
      have htk := HT.out
      rw [Nat.sub_self, joinN_end] at htk
      have HTK := Lib.hid htk
      clear htk
      go_wp2_with (first
        | (with_reducible show wpList _ _ _ (Oper.mk _ (Op.slice _ _ _ _ _) _ _ _ _ :: _) _ _
           refine wpList_cut el23 rfl (.tmp 38) (some (.tmp 39)) none rfl _ _ rfl (H.out.below hB) at_ (bv (q :: t)).length (by rw [bv_length]; exact hat) (Nat.le_refl _) (.inl rfl) (.inr ⟨rfl, rfl⟩) ?_
           intro A1 c1 hs1
           rw [List.take_length, bv_drop] at hs1)
        | (go_at_call 28; refine (own_any _ _ _ hs1 (by rw [List.length_drop, List.length_cons]; omega)).mono ?_; rintro e w2 ⟨v2, rfl, hs2, hb2⟩))
      refine fwd_ret ?_
      refine bodyPost_ret (results_tmp3 rfl _ _ _) rfl ?_
      refine ⟨u2, v2, ?_, ?_, ?_, hB.trans (hb2.mono hB.size)⟩
      · rw [HTK.out]; rfl
      · rw [HTK.out]; exact (Sl.of_own hrow).below hb2
      · rw [HTK.out]; exact hs2

theorem TakeList_any (v : Value) (l : List UInt8) (w : World) (h : Sl w v (bv l)) (hl : l.length ≤ 140737488355328) :
    Calls Try.prog 21 #[v] w fun e w' => ∃ v1 v2, e = .returned (.tuple #[v1, v2, .int .i64 ((takeL l).2.2 : Nat)]) ∧ Sl w' v1 (ivn (takeL l).1) ∧ Sl w' v2 (bv (takeL l).2.1) ∧ Below w.heap.size w w' := by
  cases l with
  | nil =>
    obtain ⟨A, c, rfl⟩ := h.bytes_nil
    refine (TakeList_nil A c w).mono ?_
    rintro e w' ⟨rfl, rfl⟩
    exact ⟨.slice none 0 0, .slice none 0 0, rfl, Sl.nil_ _, Sl.nil_ _, Below.refl _ _⟩
  | cons q t =>
    obtain ⟨b, off, c, rfl, h1, h2, h3, h4, h5⟩ := h.bytes_cons
    exact TakeList_cons b off c q t w h h4 (by rw [List.length_cons] at hl; omega)
end Go.Proofs.Ythdlehbelbapeaa
