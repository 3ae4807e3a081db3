/- The document's own answers when texts and lists are taken. -/
import Derived.Test.YthdlehbelbapeaaRefTake
namespace Go.Proofs.Ythdlehbelbapeaa
open Go.RowKit Go.Shelf

theorem below_lit2 {W W' : World} {o : Obj} (h : (W.alloc o).drew.grownBy W' (some W.heap.size)) : Below W.heap.size W W' :=
  gr_new (gr_then (gr_drew (gr_alloc (gr_refl W _) _)) h (.inl rfl)) (by intro g e; injection e with e; omega)

set_option maxHeartbeats 1000000 in
theorem refTakeText_nil (A : Option Addr) (c : Nat) (w : World) : Calls Try.prog 20 #[.slice A 0 c] w fun e w' => e = .returned (.tuple #[.string ⟨#[]⟩, .slice none 0 0, .int .i64 11]) ∧ w = w' := by
  go_enter Try.func20, Try.ntmps20
  go_wp2
  refine bodyPost_ret (results_tmp3 rfl _ _ _) rfl ?_
  exact ⟨rfl, rfl⟩

set_option maxHeartbeats 1000000 in
theorem refTakeText_few (b off n c q : Nat) (w : World) (hq' : q < 256) (hc : w.cell? ⟨b, off, none⟩ = some (.int .u8 (q : Int))) (hn : 0 < n) (hn' : n < 1 + q) :
    Calls Try.prog 20 #[.slice (some ⟨b, off, none⟩) n c] w fun e w' => e = .returned (.tuple #[.string ⟨#[]⟩, .slice none 0 0, .int .i64 11]) ∧ w = w' := by
  go_enter Try.func20, Try.ntmps20
  go_wp2
  refine bodyPost_ret (results_tmp3 rfl _ _ _) rfl ?_
  exact ⟨rfl, rfl⟩

set_option maxRecDepth 100000 in
set_option maxHeartbeats 1000000 in
theorem refTakeText_fine (b off n c q : Nat) (l : List UInt8) (w : World) (h : Sl w (.slice (some ⟨b, off, none⟩) n c) (bv l)) (hl : l.length = n) (hq' : q < 256) (hc : w.cell? ⟨b, off, none⟩ = some (.int .u8 (q : Int))) (hn : 0 < n) (hn' : 1 + q ≤ n) (hm : n ≤ 140737488355328) :
    Calls Try.prog 20 #[.slice (some ⟨b, off, none⟩) n c] w fun e w' => ∃ v', e = .returned (.tuple #[.string ⟨((l.take (1 + q)).drop 1).toArray⟩, v', .int .i64 0]) ∧ Sl w' v' (bv (l.drop (1 + q))) ∧ Below w.heap.size w w' := by
  obtain ⟨A1, c1, hc1, hs1⟩ := run_cut el23 h 1 (1 + q) (by omega) (by rw [bv_length]; omega) (some (.int .i64 1)) (some (.int .i64 ((1 + q : Nat) : Int))) (.inl rfl) (.inl rfl)
  obtain ⟨A2, c2, hc2, hs2⟩ := run_cut el23 h (1 + q) (bv l).length (by rw [bv_length]; omega) (Nat.le_refl _) (some (.int .i64 ((1 + q : Nat) : Int))) none (.inl rfl) (.inr ⟨rfl, rfl⟩)
  rw [bv_take, bv_drop] at hs1
  rw [List.take_length, bv_drop] at hs2
  rw [bv_length, hl] at hc2 hs2
  simp only [Int.natCast_add, Int.natCast_one, Nat.add_sub_cancel_left] at hc1 hc2 hs1
  generalize (l.take (1 + q)).drop 1 = s at *
  have r1 := run_str (P := Try.prog) 23 9 5 Try.underlying23 Try.underlying5 Try.underlying9 _ _ hs1.drew
  have r2 := run_str (P := Try.prog) 23 9 5 Try.underlying23 Try.underlying5 Try.underlying9 _ _ (hs1.alloc (.cells #[] 5)).drew
  have H1 := Lib.hid hs1
  have H2 := Lib.hid hs2
  have H := Lib.hid h
  have HL := Lib.hid hl
  clear hs1 hs2 h hl
  have hz : ((n : Int) == 0) = false := by rw [beq_eq_false_iff_ne]; omega
  go_enter Try.func20, Try.ntmps20
  go_upto_region 4 with (fail)
  go_region_law
    (refine step_app el23 rfl (.tmp 28) (.tmp 31) rfl w.heap.size (.slice (some ⟨w.heap.size, 0, none⟩) 0 0) 0 [] rfl (ownsRow_none w _ (Nat.le_refl _) 5) _ _ rfl (H2.out.alloc _).drew (bv_one _) (by rw [bv_length, List.length_drop, HL.out]; omega) (by simp) ?_
     intro vA wA hownA hgA
     have hbA := below_lit2 hgA
     have r3 := run_str (P := Try.prog) 23 9 5 Try.underlying23 Try.underlying5 Try.underlying9 _ _ (H1.out.below hbA))
  all_goals
    go_wp2
    refine bodyPost_ret (results_tmp3 rfl _ _ _) rfl ?_
    exact ⟨vA, rfl, Sl.of_own hownA, hbA⟩

theorem refTakeText_any (v : Value) (l : List UInt8) (w : World) (h : Sl w v (bv l)) (hl : l.length ≤ 140737488355328) :
    Calls Try.prog 20 #[v] w fun e w' => ∃ v', e = .returned (.tuple #[.string ⟨(takeT l).1.toArray⟩, v', .int .i64 ((takeT l).2.2 : Nat)]) ∧ Sl w' v' (bv (takeT l).2.1) ∧ Below w.heap.size w w' := by
  cases l with
  | nil =>
    obtain ⟨A, c, rfl⟩ := h.bytes_nil
    refine (refTakeText_nil A c w).mono ?_
    rintro e w' ⟨rfl, rfl⟩
    exact ⟨_, rfl, Sl.nil_ _, Below.refl _ _⟩
  | cons q t =>
    obtain ⟨b, off, c, rfl, h1, h2, h3, h4, h5⟩ := h.bytes_cons
    have hq := q.toNat_lt
    by_cases k2 : t.length < q.toNat
    · have e : takeT (q :: t) = ([], [], 11) := by simp only [takeT]; rw [if_pos k2]
      rw [e]
      refine (refTakeText_few b off _ c q.toNat w (by omega) h4 (by omega) (by omega)).mono ?_
      rintro e w' ⟨rfl, rfl⟩
      exact ⟨_, rfl, Sl.nil_ _, Below.refl _ _⟩
    · have e : takeT (q :: t) = (t.take q.toNat, t.drop q.toNat, 0) := by simp only [takeT]; rw [if_neg k2]
      rw [e]
      refine (refTakeText_fine b off _ c q.toNat (q :: t) w h (by simp) (by omega) h4 (by omega) (by omega) (by rw [List.length_cons] at hl; omega)).mono ?_
      rintro e w' ⟨v', rfl, hs, hb⟩
      refine ⟨v', ?_, ?_, hb⟩
      · rw [show 1 + q.toNat = q.toNat + 1 by omega]; simp
      · rw [show 1 + q.toNat = q.toNat + 1 by omega] at hs; simpa using hs
end Go.Proofs.Ythdlehbelbapeaa
