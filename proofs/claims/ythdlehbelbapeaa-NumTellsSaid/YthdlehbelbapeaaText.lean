/- Texts as bytes: 'Text' and 'TakeText'. -/
import Derived.Test.YthdlehbelbapeaaTake
import Derived.Deep.RegionWith
namespace Go.Proofs.Ythdlehbelbapeaa
open Go.RowKit Go.Shelf

/-- The text whose bytes these are, what stands behind, the error. -/
def takeT : List UInt8 → List UInt8 × List UInt8 × Nat
  | [] => ([], [], 11)
  | q :: t => if t.length < q.toNat then ([], [], 11) else (t.take q.toNat, t.drop q.toNat, 0)

theorem below_drew {w : World} : Below w.heap.size w w.drew := (Below.refl _ _).drew

set_option maxHeartbeats 1000000 in
theorem TakeText_nil (A : Option Addr) (c : Nat) (w : World) : Calls Try.prog 19 #[.slice A 0 c] w fun e w' => e = .returned (.tuple #[.string ⟨#[]⟩, .slice none 0 0, .int .i64 11]) ∧ w = w' := by
  go_enter Try.func19, Try.ntmps19
  go_wp2
  refine wp_scope_fwd ?_
  go_wp2
  go_step3
  refine ⟨_, rfl, ?_⟩
  go_wp2
  refine nog_ret ?_
  refine bodyPost_ret (results_tmp3 rfl _ _ _) rfl ?_
  exact ⟨rfl, rfl⟩

set_option maxHeartbeats 1000000 in
theorem TakeText_few (b off n c q : Nat) (w : World) (hq' : q < 256) (hc : w.cell? ⟨b, off, none⟩ = some (.int .u8 (q : Int))) (hn : 0 < n) (hn' : n < 1 + q) :
    Calls Try.prog 19 #[.slice (some ⟨b, off, none⟩) n c] w fun e w' => e = .returned (.tuple #[.string ⟨#[]⟩, .slice none 0 0, .int .i64 11]) ∧ w = w' := by
  go_enter Try.func19, Try.ntmps19
  go_wp2
  refine wp_scope_fwd ?_
  go_wp2
  go_step3
  refine ⟨_, rfl, ?_⟩
  go_wp2
  refine nog_ret ?_
  refine bodyPost_ret (results_tmp3 rfl _ _ _) rfl ?_
  exact ⟨rfl, rfl⟩

set_option maxHeartbeats 1000000 in
theorem TakeText_fine (b off n c q : Nat) (l : List UInt8) (w : World) (h : Sl w (.slice (some ⟨b, off, none⟩) n c) (bv l)) (hl : l.length = n) (hq' : q < 256) (hc : w.cell? ⟨b, off, none⟩ = some (.int .u8 (q : Int))) (hn : 0 < n) (hn' : 1 + q ≤ n) (hm : n ≤ 140737488355328) :
    Calls Try.prog 19 #[.slice (some ⟨b, off, none⟩) n c] w fun e w' => ∃ v', e = .returned (.tuple #[.string ⟨((l.take (1 + q)).drop 1).toArray⟩, v', .int .i64 0]) ∧ Sl w' v' (bv (l.drop (1 + q))) ∧ Below w.heap.size w w' := by
  obtain ⟨A1, c1, hc1, hs1⟩ := run_cut el23 h 1 (1 + q) (by omega) (by rw [bv_length]; omega) (some (.int .i64 1)) (some (.int .i64 ((1 + q : Nat) : Int))) (.inl rfl) (.inl rfl)
  obtain ⟨A2, c2, hc2, hs2⟩ := run_cut el23 h (1 + q) (bv l).length (by rw [bv_length]; omega) (Nat.le_refl _) (some (.int .i64 ((1 + q : Nat) : Int))) none (.inl rfl) (.inr ⟨rfl, rfl⟩)
  rw [bv_take, bv_drop] at hs1
  rw [List.take_length, bv_drop] at hs2
  rw [bv_length, hl] at hc2 hs2
  simp only [Int.natCast_add, Int.natCast_one, Nat.add_sub_cancel_left] at hc1 hc2 hs1
  generalize (l.take (1 + q)).drop 1 = s at *
  have r1 := run_str (P := Try.prog) 23 9 5 Try.underlying23 Try.underlying5 Try.underlying9 _ _ hs1.drew
  have H1 := Lib.hid hs1
  have H2 := Lib.hid hs2
  have H := Lib.hid h
  have HL := Lib.hid hl
  clear hs1 hs2 h hl
  go_enter Try.func19, Try.ntmps19
  go_wp2
  refine wp_scope_fwd ?_
  go_upto_region 5 with (fail)
  refine wp_to (fun a' W => ∃ u8 u18 u19 u20 u21 u22 u23 u24 u25 v2, Sl W v2 (bv (l.drop (1 + q))) ∧ Below w.heap.size w W ∧ a' = Act.mk #[Value.slice (some { block := b, off := off }) n c, undef, Value.string ⟨s.toArray⟩, v2,
          Value.int IntKind.i64 0, Value.int IntKind.i64 (1 + ↑q), Value.slice (some { block := b, off := off }) n c,
          Value.int IntKind.i64 ↑n, u8, Value.slice (some { block := b, off := off }) n c,
          Value.pointer (some { block := b, off := off }), Value.int IntKind.u8 ↑q, Value.int IntKind.i64 ↑q,
          Value.int IntKind.i64 (1 + ↑q), Value.slice (some { block := b, off := off }) n c, Value.int IntKind.i64 ↑n,
          Value.int IntKind.i64 (1 + ↑q), Value.bool (decide ((n : Int) < 1 + ↑q)), u18, u19, u20, u21, u22, u23, u24, u25] []) ?_ ?_
  · go_region_with (go_at_call 28; refine (own_any _ _ _ H2.out.drew (by rw [List.length_drop, HL.out]; omega)).mono ?_; rintro e w2 ⟨v2, rfl, hs3, hb3⟩; have r2 := run_str (P := Try.prog) 23 9 5 Try.underlying23 Try.underlying5 Try.underlying9 _ _ (H1.out.drew.below hb3))
    all_goals exact ⟨_, _, _, _, _, _, _, _, _, v2, hs3, (below_drew.trans hb3), rfl⟩
  rintro a' W ⟨u8, u18, u19, u20, u21, u22, u23, u24, u25, v2, hs, hb, rfl⟩
  go_wp2
  refine fwd_ret ?_
  refine bodyPost_ret (results_tmp3 rfl _ _ _) rfl ?_
  exact ⟨v2, rfl, hs, hb⟩

theorem TakeText_any (v : Value) (l : List UInt8) (w : World) (h : Sl w v (bv l)) (hl : l.length ≤ 140737488355328) :
    Calls Try.prog 19 #[v] w fun e w' => ∃ v', e = .returned (.tuple #[.string ⟨(takeT l).1.toArray⟩, v', .int .i64 ((takeT l).2.2 : Nat)]) ∧ Sl w' v' (bv (takeT l).2.1) ∧ Below w.heap.size w w' := by
  cases l with
  | nil =>
    obtain ⟨A, c, rfl⟩ := h.bytes_nil
    refine (TakeText_nil A c w).mono ?_
    rintro e w' ⟨rfl, rfl⟩
    exact ⟨_, rfl, Sl.nil_ _, Below.refl _ _⟩
  | cons q t =>
    obtain ⟨b, off, c, rfl, h1, h2, h3, h4, h5⟩ := h.bytes_cons
    have hq := q.toNat_lt
    by_cases k2 : t.length < q.toNat
    · have e : takeT (q :: t) = ([], [], 11) := by simp only [takeT]; rw [if_pos k2]
      rw [e]
      refine (TakeText_few b off _ c q.toNat w (by omega) h4 (by omega) (by omega)).mono ?_
      rintro e w' ⟨rfl, rfl⟩
      exact ⟨_, rfl, Sl.nil_ _, Below.refl _ _⟩
    · have e : takeT (q :: t) = (t.take q.toNat, t.drop q.toNat, 0) := by simp only [takeT]; rw [if_neg k2]
      rw [e]
      refine (TakeText_fine b off _ c q.toNat (q :: t) w h (by simp) (by omega) h4 (by omega) (by omega) (by rw [List.length_cons] at hl; omega)).mono ?_
      rintro e w' ⟨v', rfl, hs, hb⟩
      refine ⟨v', ?_, ?_, hb⟩
      · rw [show 1 + q.toNat = q.toNat + 1 by omega]; simp
      · rw [show 1 + q.toNat = q.toNat + 1 by omega] at hs; simpa using hs

/-- A text's bytes; nothing, and the error, if it is too long. -/
def textB (l : List UInt8) : List UInt8 := if 255 < l.length then [] else UInt8.ofNat l.length :: l
def textE (l : List UInt8) : Int := if 255 < l.length then 2 else 0

set_option maxHeartbeats 1000000 in
theorem Text_any (S : ByteArray) (w : World) : Calls Try.prog 12 #[.string S] w fun e w' => ∃ v, e = .returned (.tuple #[v, .int .i64 (textE S.data.toList)]) ∧ Sl w' v (bv (textB S.data.toList)) ∧ Below w.heap.size w w' := by
  have hsz : S.data.toList.length = S.size := by show S.data.toList.length = S.data.size; exact Array.length_toList
  by_cases h : 255 < S.size
  · rw [textB, textE, hsz, if_pos h, if_pos h]
    clear hsz
    go_enter Try.func12, Try.ntmps12
    go_wp2
    refine wp_scope_fwd ?_
    go_wp2
    go_step3
    refine ⟨_, rfl, ?_⟩
    go_wp2
    refine nog_ret ?_
    go_ret2
    exact ⟨_, rfl, Sl.nil_ _, Below.refl _ _⟩
  · rw [textB, textE, hsz, if_neg h, if_neg h]
    have HS := Lib.hid hsz
    clear hsz
    have h2 : S.size ≤ 255 := by omega
    obtain ⟨i0, hi, hz0, hz1, hz2⟩ := info_parts el23.hi
    go_enter Try.func12, Try.ntmps12
    go_wp2
    refine wp_scope_fwd ?_
    go_wp2_with (at_builtin; first
      | (refine wpList_app1 el23 rfl _ _ rfl 0 _ 0 [] rfl (World.ownsRow_nil _ _ _ _) _ (.int .u8 (S.size : Int)) rfl (Sl.one _ _ _) rfl (by omega) (Nat.zero_le _) (w.heap.size + 1) (by simp) ?_; intro g cap w1 hown1 hg1 hat)
      | (refine Lib.wpList_append_own_string _ rfl _ _ 23 9 rfl 0 5 i0 Try.underlying23 Try.underlying9 hi hz0 hz1 hz2 _ _ _ rfl hown1 _ rfl (by unfold maxLen; omega) (by omega) (Nat.zero_le _) ?_; intro v2 w2 hown2 hg2 hnil))
    refine fwd_ret ?_
    go_ret2
    refine ⟨v2, rfl, ?_, below_of_none (gr_then (gr_then (gr_alloc (gr_refl _ _) _) hg1 (.inl rfl)) hg2 (.inr ?_))⟩
    · have := Sl.of_own hown2
      have e : [] ++ [Value.int .u8 (S.size : Int)] ++ Lib.strCells S = bv (UInt8.ofNat S.size :: S.data.toList) := by
        simp [bv, Lib.strCells]; omega
      rwa [e] at this
    · intro g' e
      rcases hat with h | h
      · cases h
      · injection e with e
        simp at e
        omega
end Go.Proofs.Ythdlehbelbapeaa
