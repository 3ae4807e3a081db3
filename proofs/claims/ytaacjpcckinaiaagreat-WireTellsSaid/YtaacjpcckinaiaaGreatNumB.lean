/- Texts as bytes: 'Text' and 'TakeText'. Lists of numbers as bytes: 'List'. Lists of numbers are read from a row of bytes: 'TakeList'. The document's own answers for numbers, texts and lists: that they are the same. The document's own answers when numbers, texts and lists are taken: that they are the same. The document's own answers when texts and lists are taken. The document's own answer when a list is taken. -/
import Derived.Test.YtaacjpcckinaiaaGreatNumA
import Derived.Deep.RegionWith
import Derived.Deep.RegionLaw
set_option linter.unusedVariables false
set_option maxRecDepth 100000
set_option linter.unusedSimpArgs false
namespace Go.Proofs.YtaacjpcckinaiaaGreat.Num
open Go.RowKit Go.Shelf

/-- The text whose bytes these are, what stands behind, the error. -/
def takeT : List UInt8 → List UInt8 × List UInt8 × Nat
  | [] => ([], [], 11)
  | q :: t => if t.length < q.toNat then ([], [], 11) else (t.take q.toNat, t.drop q.toNat, 0)

theorem below_drew {w : World} : Below w.heap.size w w.drew := (Below.refl _ _).drew

set_option maxHeartbeats 1000000 in
theorem TakeText_nil (A : Option Addr) (c : Nat) (w : World) : Calls Tryz.prog 114 #[.slice A 0 c] w fun e w' => e = .returned (.tuple #[.string ⟨#[]⟩, .slice none 0 0, .int .i64 11]) ∧ w = w' := by
  go_enter Tryz.func114, Tryz.ntmps114
  go_wp2
  refine wp_scope_fwd ?_
  go_wp2
  go_step3
  refine ⟨_, rfl, ?_⟩
  go_wp2
  refine nog_ret ?_
  refine bodyPost_ret (results_tmp3 rfl _ _ _) rfl ?_
  exact ⟨rfl, rfl⟩

set_option maxHeartbeats 1000000 in
theorem TakeText_few (b off n c q : Nat) (w : World) (hq' : q < 256) (hc : w.cell? ⟨b, off, none⟩ = some (.int .u8 (q : Int))) (hn : 0 < n) (hn' : n < 1 + q) :
    Calls Tryz.prog 114 #[.slice (some ⟨b, off, none⟩) n c] w fun e w' => e = .returned (.tuple #[.string ⟨#[]⟩, .slice none 0 0, .int .i64 11]) ∧ w = w' := by
  go_enter Tryz.func114, Tryz.ntmps114
  go_wp2
  refine wp_scope_fwd ?_
  go_wp2
  go_step3
  refine ⟨_, rfl, ?_⟩
  go_wp2
  refine nog_ret ?_
  refine bodyPost_ret (results_tmp3 rfl _ _ _) rfl ?_
  exact ⟨rfl, rfl⟩

set_option maxHeartbeats 1000000 in
theorem TakeText_fine (b off n c q : Nat) (l : List UInt8) (w : World) (h : Sl w (.slice (some ⟨b, off, none⟩) n c) (bv l)) (hl : l.length = n) (hq' : q < 256) (hc : w.cell? ⟨b, off, none⟩ = some (.int .u8 (q : Int))) (hn : 0 < n) (hn' : 1 + q ≤ n) (hm : n ≤ 140737488355328) :
    Calls Tryz.prog 114 #[.slice (some ⟨b, off, none⟩) n c] w fun e w' => ∃ v', e = .returned (.tuple #[.string ⟨((l.take (1 + q)).drop 1).toArray⟩, v', .int .i64 0]) ∧ Slf w.heap.size w' v' (bv (l.drop (1 + q))) ∧ Below w.heap.size w w' := by
  obtain ⟨A1, c1, hc1, hs1⟩ := run_cut el23 h 1 (1 + q) (by omega) (by rw [bv_length]; omega) (some (.int .i64 1)) (some (.int .i64 ((1 + q : Nat) : Int))) (.inl rfl) (.inl rfl)
  obtain ⟨A2, c2, hc2, hs2⟩ := run_cut el23 h (1 + q) (bv l).length (by rw [bv_length]; omega) (Nat.le_refl _) (some (.int .i64 ((1 + q : Nat) : Int))) none (.inl rfl) (.inr ⟨rfl, rfl⟩)
  rw [bv_take, bv_drop] at hs1
  rw [List.take_length, bv_drop] at hs2
  rw [bv_length, hl] at hc2 hs2
  simp only [Int.natCast_add, Int.natCast_one, Nat.add_sub_cancel_left] at hc1 hc2 hs1
  generalize (l.take (1 + q)).drop 1 = s at *
  have r1 := run_str (P := Tryz.prog) 28 9 5 Tryz.underlying28 Tryz.underlying5 Tryz.underlying9 _ _ hs1.drew
  have H1 := Lib.hid hs1
  have H2 := Lib.hid hs2
  have H := Lib.hid h
  have HL := Lib.hid hl
  clear hs1 hs2 h hl
  go_enter Tryz.func114, Tryz.ntmps114
  go_wp2
  refine wp_scope_fwd ?_
  go_upto_region 5 with (fail)
  refine wp_to (fun a' W => ∃ u8 u18 u19 u20 u21 u22 u23 u24 u25 v2, Slf w.heap.size W v2 (bv (l.drop (1 + q))) ∧ Below w.heap.size w W ∧ a' = Act.mk #[Value.slice (some { block := b, off := off }) n c, undef, Value.string ⟨s.toArray⟩, v2,
          Value.int IntKind.i64 0, Value.int IntKind.i64 (1 + ↑q), Value.slice (some { block := b, off := off }) n c,
          Value.int IntKind.i64 ↑n, u8, Value.slice (some { block := b, off := off }) n c,
          Value.pointer (some { block := b, off := off }), Value.int IntKind.u8 ↑q, Value.int IntKind.i64 ↑q,
          Value.int IntKind.i64 (1 + ↑q), Value.slice (some { block := b, off := off }) n c, Value.int IntKind.i64 ↑n,
          Value.int IntKind.i64 (1 + ↑q), Value.bool (decide ((n : Int) < 1 + ↑q)), u18, u19, u20, u21, u22, u23, u24, u25] []) ?_ ?_
  · go_region_with (go_at_call 108; refine (own_any _ _ _ H2.out.drew (by rw [List.length_drop, HL.out]; omega)).mono ?_; rintro e w2 ⟨v2, rfl, hs3, hb3⟩; have r2 := run_str (P := Tryz.prog) 28 9 5 Tryz.underlying28 Tryz.underlying5 Tryz.underlying9 _ _ (H1.out.drew.below hb3))
    all_goals exact ⟨_, _, _, _, _, _, _, _, _, v2, hs3, (below_drew.trans hb3), rfl⟩
  rintro a' W ⟨u8, u18, u19, u20, u21, u22, u23, u24, u25, v2, hs, hb, rfl⟩
  go_wp2
  refine fwd_ret ?_
  refine bodyPost_ret (results_tmp3 rfl _ _ _) rfl ?_
  exact ⟨v2, rfl, hs, hb⟩

theorem TakeText_any (v : Value) (l : List UInt8) (w : World) (h : Sl w v (bv l)) (hl : l.length ≤ 140737488355328) :
    Calls Tryz.prog 114 #[v] w fun e w' => ∃ v', e = .returned (.tuple #[.string ⟨(takeT l).1.toArray⟩, v', .int .i64 ((takeT l).2.2 : Nat)]) ∧ Slf w.heap.size w' v' (bv (takeT l).2.1) ∧ Below w.heap.size w w' := by
  cases l with
  | nil =>
    obtain ⟨A, c, rfl⟩ := h.bytes_nil
    refine (TakeText_nil A c w).mono ?_
    rintro e w' ⟨rfl, rfl⟩
    exact ⟨_, rfl, Slf.nil_ _ _, Below.refl _ _⟩
  | cons q t =>
    obtain ⟨b, off, c, rfl, h1, h2, h3, h4, h5⟩ := h.bytes_cons
    have hq := q.toNat_lt
    by_cases k2 : t.length < q.toNat
    · have e : takeT (q :: t) = ([], [], 11) := by simp only [takeT]; rw [if_pos k2]
      rw [e]
      refine (TakeText_few b off _ c q.toNat w (by omega) h4 (by omega) (by omega)).mono ?_
      rintro e w' ⟨rfl, rfl⟩
      exact ⟨_, rfl, Slf.nil_ _ _, Below.refl _ _⟩
    · have e : takeT (q :: t) = (t.take q.toNat, t.drop q.toNat, 0) := by simp only [takeT]; rw [if_neg k2]
      rw [e]
      refine (TakeText_fine b off _ c q.toNat (q :: t) w h (by simp) (by omega) h4 (by omega) (by omega) (by rw [List.length_cons] at hl; omega)).mono ?_
      rintro e w' ⟨v', rfl, hs, hb⟩
      refine ⟨v', ?_, ?_, hb⟩
      · rw [show 1 + q.toNat = q.toNat + 1 by omega]; simp
      · rw [show 1 + q.toNat = q.toNat + 1 by omega] at hs; simpa using hs

/-- A text's bytes; nothing, and the error, if it is too long. -/
def textB (l : List UInt8) : List UInt8 := if 255 < l.length then [] else UInt8.ofNat l.length :: l
def textE (l : List UInt8) : Int := if 255 < l.length then 2 else 0

set_option maxHeartbeats 1000000 in
theorem Text_any (S : ByteArray) (w : World) : Calls Tryz.prog 112 #[.string S] w fun e w' => ∃ v, e = .returned (.tuple #[v, .int .i64 (textE S.data.toList)]) ∧ Sl w' v (bv (textB S.data.toList)) ∧ Below w.heap.size w w' := by
  have hsz : S.data.toList.length = S.size := by show S.data.toList.length = S.data.size; exact Array.length_toList
  by_cases h : 255 < S.size
  · rw [textB, textE, hsz, if_pos h, if_pos h]
    clear hsz
    go_enter Tryz.func112, Tryz.ntmps112
    go_wp2
    refine wp_scope_fwd ?_
    go_wp2
    go_step3
    refine ⟨_, rfl, ?_⟩
    go_wp2
    refine nog_ret ?_
    go_ret2
    exact ⟨_, rfl, Sl.nil_ _, Below.refl _ _⟩
  · rw [textB, textE, hsz, if_neg h, if_neg h]
    have HS := Lib.hid hsz
    clear hsz
    have h2 : S.size ≤ 255 := by omega
    obtain ⟨i0, hi, hz0, hz1, hz2⟩ := info_parts el23.hi
    go_enter Tryz.func112, Tryz.ntmps112
    go_wp2
    refine wp_scope_fwd ?_
    go_wp2_with (at_builtin; first
      | (refine wpList_app1 el23 rfl _ _ rfl 0 _ 0 [] rfl (World.ownsRow_nil _ _ _ _) _ (.int .u8 (S.size : Int)) rfl (Sl.one _ _ _) rfl (by omega) (Nat.zero_le _) (w.heap.size + 1) (by simp) ?_; intro g cap w1 hown1 hg1 hat)
      | (refine Lib.wpList_append_own_string _ rfl _ _ 28 9 rfl 0 5 i0 Tryz.underlying28 Tryz.underlying9 hi hz0 hz1 hz2 _ _ _ rfl hown1 _ rfl (by unfold maxLen; omega) (by omega) (Nat.zero_le _) ?_; intro v2 w2 hown2 hg2 hnil))
    refine fwd_ret ?_
    go_ret2
    refine ⟨v2, rfl, ?_, below_of_none (gr_then (gr_then (gr_alloc (gr_refl _ _) _) hg1 (.inl rfl)) hg2 (.inr ?_))⟩
    · have := Sl.of_own hown2
      have e : [] ++ [Value.int .u8 (S.size : Int)] ++ Lib.strCells S = bv (UInt8.ofNat S.size :: S.data.toList) := by
        simp [bv, Lib.strCells]; omega
      rwa [e] at this
    · intro g' e
      rcases hat with h | h
      · cases h
      · injection e with e
        simp at e
        omega
end Go.Proofs.YtaacjpcckinaiaaGreat.Num
set_option linter.unusedVariables false
set_option maxRecDepth 100000
set_option linter.unusedSimpArgs false
namespace Go.Proofs.YtaacjpcckinaiaaGreat.Num
open Go.RowKit Go.Shelf
attribute [local go_sem] Oper.semAt_some

/-- May be put as a number; as a list. -/
def ok1 (n : Int) : Prop := 0 ≤ n ∧ n ≤ 1099511627776
instance (n : Int) : Decidable (ok1 n) := by unfold ok1; infer_instance
def okL (l : List Int) : Prop := l.length ≤ 255 ∧ ∀ n ∈ l, ok1 n
instance (l : List Int) : Decidable (okL l) := by unfold okL; infer_instance
def numsI (l : List Int) : List UInt8 := nums (l.map Int.toNat)
theorem numsI_snoc (l : List Int) (x : Int) : numsI (l ++ [x]) = numsI l ++ num x.toNat := by simp [numsI, nums]
theorem numsI_len (l : List Int) (h : ∀ n ∈ l, ok1 n) : (numsI l).length ≤ 7 * l.length := by
  induction l with
  | nil => simp [numsI, nums]
  | cons x l ih =>
    have h1 := ih fun n hn => h n (by simp [hn])
    have h2 := h x (by simp)
    have h3 := dig_len6 x.toNat (by have := h2.2; omega)
    simp only [numsI, nums, List.map_cons, List.flatMap_cons, List.length_append, List.length_cons, num_length] at h1 ⊢
    omega
def listBy (l : List Int) : List UInt8 := if okL l then UInt8.ofNat l.length :: numsI l else []
def listE (l : List Int) : Int := if okL l then 0 else 2

theorem keeps_row {W W' : World} {base : Nat} {e : TypeId} {size k : Nat} {v : Value} {xs : List Value} (hg : W.grownBy W' v.ownBlock) (hr : W.ownsRow base e size v k xs) : KeepsOthers W W' :=
  KeepsOthers.of_grownBy hg fun j o ej hj => by
    rcases hr.2 with ⟨rfl, _⟩ | ⟨g, cap, cur, rfl, _, hgb, _⟩
    · simp [Value.ownBlock] at ej
    · obtain rfl : g = j := by simpa [Value.ownBlock] using ej
      rw [hgb] at hj; cases hj; rfl

set_option maxHeartbeats 1000000 in
theorem List_long (A : Option Addr) (n c : Nat) (w : World) (h : 255 < n) : Calls Tryz.prog 116 #[.slice A n c] w fun e w' => e = .returned (.tuple #[.slice none 0 0, .int .i64 2]) ∧ Below w.heap.size w w' := by
  go_enter Tryz.func116, Tryz.ntmps116
  go_wp2
  refine wp_scope_fwd ?_
  go_wp2
  go_step3
  refine ⟨_, rfl, ?_⟩
  go_wp2
  refine nog_ret ?_
  go_ret2
  exact ⟨rfl, (Below.refl _ _).alloc (Nat.le_refl _) _⟩

set_option maxRecDepth 100000 in
set_option maxHeartbeats 2000000 in
theorem List_loop (A : Option Addr) (c : Nat) (l : List Int) (w : World) (h : Sl w (.slice A l.length c) (iv l)) (hl : l.length ≤ 255) :
    Calls Tryz.prog 116 #[.slice A l.length c] w fun e w' => ∃ v', e = .returned (.tuple #[v', .int .i64 (listE l)]) ∧ Sl w' v' (bv (listBy l)) ∧ Below w.heap.size w w' := by
  refine (callsIn_wide (n := 9)).1 (callsIn_of_wp_marks Tryz.func116 rfl trivial ?_ rfl)
  simp only [Tryz.ntmps116, List.size_toArray, List.length_cons, List.length_nil, Nat.reduceAdd, Nat.reduceSub, Array.replicate_succ, Array.replicate_zero, List.push_toArray, List.append_toArray, List.nil_append, List.cons_append]
  refine wpIn_wide.2 ?_
  have H := Lib.hid h
  clear h
  have bB := Boxed.new w 28 (.slice none 0 0)
  go_wp2
  refine wp_scope_fwd ?_
  go_wp2_with (first
    | (at_builtin; refine wpList_app1 el23 rfl _ _ rfl w.heap.size (.slice none 0 0) 0 [] rfl (World.ownsRow_nil _ _ _ _) _ (.int .u8 (l.length : Int)) rfl (by have := Sl.one (w.alloc (.cells #[.slice none 0 0] 28)) (.int .u8 (l.length : Int)) 5; rwa [World.size_alloc] at this) rfl (by omega) (by simp; omega) (w.heap.size + 2) (by simp) ?_; intro g0 cap0 w1 hown1 hg1 hat1; have hb1 : Boxed w1 w.heap.size 28 (.slice none 0 0) := (bB.alloc _).kept hg1 (by simp [Value.ownBlock]); have hc1 := hb1.cell; have hf1 := hb1.frozen)
    | (go_at_call 130; refine (values22_any _ _ _ _).mono ?_; rintro e w' ⟨rfl, rfl⟩))
  have hO : w1.ownsRow w.heap.size 5 1 (.slice (some ⟨g0, 0, none⟩) (0 + 1) cap0) (0 + 1) (bv [UInt8.ofNat l.length]) := by
    have e : [] ++ [Value.int .u8 (l.length : Int)] = bv [UInt8.ofNat l.length] := by simp [bv]; omega
    rwa [e] at hown1
  have hO2 : (w1.setCell ⟨w.heap.size, 0, none⟩ (.slice (some ⟨g0, 0, none⟩) 1 cap0)).ownsRow w.heap.size 5 1 (.slice (some ⟨g0, 0, none⟩) (0 + 1) cap0) (0 + 1) (bv [UInt8.ofNat l.length]) :=
    hO.kept (grownBy_setCell' w1 _ _) (.inr (hb1.not_row (by decide) hO).symm)
  have hB1 : Below w.heap.size w (w1.setCell ⟨w.heap.size, 0, none⟩ (.slice (some ⟨g0, 0, none⟩) 1 cap0)) :=
    (below_of_none (gr_then (gr_alloc (gr_alloc (gr_refl w none) _) _) hg1 (.inl rfl))).setCell (p := ⟨w.heap.size, 0, none⟩) (Nat.le_refl _) _
  have hbox := hb1.set (.slice (some ⟨g0, 0, none⟩) 1 cap0)
  obtain ⟨W1, hW1⟩ : ∃ W1, w1.setCell ⟨w.heap.size, 0, none⟩ (.slice (some ⟨g0, 0, none⟩) 1 cap0) = W1 := ⟨_, rfl⟩
  have hs1 : w1.heap.size = W1.heap.size := by rw [← hW1]; simp
  rw [hW1] at hO2 hB1 hbox ⊢
  rw [hs1]
  clear hs1 hW1 hO hown1 hg1 hat1 hb1 hc1 hf1
  have hsz := hB1.size
  have bD := Boxed.new W1 22 (.slice A l.length c)
  have HS : Sl W1 (.slice A l.length c) (iv l) := H.out.below hB1
  have hSb : ∀ k, (Value.slice A l.length c).ownBlock = some k → k < w.heap.size := by
    intro k hk
    rcases H.out with ⟨h1, _⟩ | ⟨b, off, c', h1, _, _, h2, _⟩
    · injection h1 with h1; subst h1; cases hk
    · injection h1 with h1; subst h1; have : b = k := by simpa [Value.ownBlock] using hk
      omega
  refine wp_range (gf := 136) (lb := #[.pointer (some ⟨W1.heap.size, 0, none⟩)]) rfl (enters_of Tryz.func136 (by kernel_rfl) rfl)
    (vals22_stops 8 W1.heap.size (fun k => (Value.slice A l.length c).ownBlock = some k) (.slice A l.length c) l (by omega) _ (by simp) bD.cell (HS.alloc _) (fun k hk => hk)) (by intro k hk; have := hSb k hk; simp; omega) (fun _ => rfl)
    (fun pre W => (∃ v, Boxed W w.heap.size 28 v ∧ W.ownsRow w.heap.size 5 1 v ((numsI pre).length + 1) (bv (UInt8.ofNat l.length :: numsI pre)) ∧ ((∀ n ∈ pre, ok1 n) ∧ pre.length ≤ 255)) ∧ Below w.heap.size w W)
    (fun cd pre W => (cd = .goto 0 ∧ ∃ n ∈ pre, ¬ ok1 n) ∧ Below w.heap.size w W)
    (OwnFrom.and (Own.from (holdsRow_own w.heap.size w.heap.size 28 5 1 (fun pre => (numsI pre).length + 1) (fun pre => bv (UInt8.ofNat l.length :: numsI pre)) (fun pre _ => (∀ n ∈ pre, ok1 n) ∧ pre.length ≤ 255)) _)
      (ownFrom_below (Nat.le_refl _) (by simp; omega)))
    (fun cd => OwnFrom.and (ownFrom_pure _ (fun pre => cd = .goto 0 ∧ ∃ n ∈ pre, ¬ ok1 n)) (ownFrom_below (Nat.le_refl _) (by simp; omega)))
    ⟨⟨_, hbox.alloc _, hO2.alloc _, by simp, by simp⟩, hB1.alloc hsz _⟩
    (fun x => { tmps := #[.slice A l.length c, undef, .slice none 0 0, .int .i64 0, .pointer (some ⟨w.heap.size, 0, none⟩), .int .i64 x, .slice A l.length c, .int .i64 l.length, .bool (decide (255 < (l.length : Int))), .slice none 0 0, .slice A l.length c, .int .i64 l.length, .int .u8 l.length, .slice (some ⟨w.heap.size + 1, 0, none⟩) 1 1, .slice (some ⟨g0, 0, none⟩) 1 cap0, .slice A l.length c, .func (.func 136) #[] #[.pointer (some ⟨W1.heap.size, 0, none⟩)], .int .i64 x, undef, undef, undef, undef, undef, undef, undef], defers := [] }) ?assign ?body ?done ?stop
  case assign =>
    intro q x W K hK
    gi_wp2
    exact hK
  case body =>
    rintro q pre x W ⟨⟨v, hv, hrow, hok, hpl⟩, hW⟩ hlt
    have hl7 := numsI_len pre hok
    obtain ⟨g, cap, rfl⟩ := ownsRow_succ hrow
    have hc := hv.cell
    have hwW := hW.size
    by_cases hx : ok1 x
    · have hd : decide (0 ≤ x ∧ x ≤ 1099511627776) = true := decide_eq_true hx
      have HX := Lib.hid hx
      clear hx
      gi_wp2_with (refine ⟨trivial, ?_⟩; first
        | (gi_at_call 105; refine (CallsIn.inRound q (callsIn_wide.2 (mayBePut_any _ _))).mono ?_; rintro e w' ⟨rfl, rfl⟩; rw [hd])
        | (gi_at_call 106; refine (CallsIn.inRound q (callsIn_wide.2 (appendNumber_any x HX.out.1 HX.out.2 w.heap.size (some ⟨g, 0, none⟩) ((numsI pre).length + 1) cap _ _ hrow hwW (by omega)))).mono ?_
           rintro e w2 ⟨v2, rfl, hown2, hg2, hat2⟩
           rw [show (numsI pre).length + 1 + (num x.toNat).length = (numsI (pre ++ [x])).length + 1 by rw [numsI_snoc, List.length_append]; omega, ← bv_append, List.cons_append, ← numsI_snoc] at hown2
           obtain ⟨g2, cap2, rfl⟩ := ownsRow_succ hown2
           have hb2 : Boxed w2 w.heap.size 28 (.slice (some ⟨g, 0, none⟩) ((numsI pre).length + 1) cap) := hv.kept hg2 (hv.not_row (by decide) hrow)
           have hc2 := hb2.cell
           have hf2 := hb2.frozen))
      have hbl : Below w.heap.size W (w2.setCell ⟨w.heap.size, 0, none⟩ (.slice (some ⟨g2, 0, none⟩) ((numsI (pre ++ [x])).length + 1) cap2)) :=
        (((Below.refl _ W).grown hg2 hwW (fun k e => (hrow.lt k e).1))).setCell (p := ⟨w.heap.size, 0, none⟩) (Nat.le_refl _) _
      refine ⟨((keeps_row hg2 hrow).trans (KeepsOthers.setCell _ _ _)).from _, Kps.below hbl hSb, ⟨_, hb2.set _, ?_, ?_, ?_⟩, hW.trans hbl⟩
      · exact hown2.kept (grownBy_setCell' w2 _ _) (.inr (hb2.not_row (by decide) hown2).symm)
      · intro n hn
        rcases List.mem_append.1 hn with h | h
        · exact hok n h
        · simp at h; subst h; exact HX.out
      · simp; omega
    · have hd : decide (0 ≤ x ∧ x ≤ 1099511627776) = false := decide_eq_false hx
      gi_wp2_with (refine ⟨trivial, ?_⟩; gi_at_call 105; refine (CallsIn.inRound q (callsIn_wide.2 (mayBePut_any _ _))).mono ?_; rintro e w' ⟨rfl, rfl⟩; rw [hd])
      refine wpIn_goto ?_
      exact ⟨KeepsFrom.refl _ _, ⟨rfl, x, by simp, hx⟩, hW⟩
  case done =>
    rintro D ys W hDs rfl ⟨⟨v, hv, hrow, hok, hpl⟩, hW⟩ hK
    have hD : w.heap.size < D := by simp at hDs; omega
    have hc := hv.cell
    have HK := Lib.hid hK
    clear hK
    have hokL : okL ys := ⟨hl, hok⟩
    go_wp2
    refine fwd_ret ?_
    refine ⟨by simp, .inl ⟨_, _, rfl, run_takeDeferred HK.out, ?_⟩⟩
    refine ⟨_, results_tmp2 rfl _ _ _, v, ?_, ?_, hW.trans (belowK_b (w := w) (Nat.le_refl _) _ D _ _ (by omega) HK.out rfl rfl)⟩
    · rw [listE, if_pos hokL]; rfl
    · rw [listBy, if_pos hokL]
      exact Sl.of_own (ownsRow_putObj hrow _ HK.out rfl)
  case stop =>
    rintro D cd pre W hDs hpre ⟨⟨rfl, hbad⟩, hW⟩ hK
    have hD : w.heap.size < D := by simp at hDs; omega
    have HK := Lib.hid hK
    clear hK
    have hokL : ¬ okL l := by
      rintro ⟨-, h2⟩
      obtain ⟨n, hn, hb⟩ := hbad
      exact hb (h2 n (hpre.subset hn))
    go_step3
    refine fwd_goto _ rfl ?_
    go_wp2
    refine nog_ret ?_
    refine ⟨by simp, .inl ⟨_, _, rfl, run_takeDeferred HK.out, ?_⟩⟩
    refine ⟨_, results_tmp2 rfl _ _ _, .slice none 0 0, ?_, ?_, hW.trans (belowK_b (w := w) (Nat.le_refl _) _ D _ _ (by omega) HK.out rfl rfl)⟩
    · rw [listE, if_neg hokL]; rfl
    · rw [listBy, if_neg hokL]
      exact Sl.nil_ _

theorem List_any (v : Value) (l : List Int) (w : World) (h : Sl w v (iv l)) :
    Calls Tryz.prog 116 #[v] w fun e w' => ∃ v', e = .returned (.tuple #[v', .int .i64 (listE l)]) ∧ Sl w' v' (bv (listBy l)) ∧ Below w.heap.size w w' := by
  obtain ⟨A, c, rfl⟩ := h.form
  rw [iv_length] at h ⊢
  by_cases hl : l.length ≤ 255
  · exact List_loop A c l w h hl
  · refine (List_long A _ c w (by omega)).mono ?_
    rintro e w' ⟨rfl, hb⟩
    have hn : ¬ okL l := fun h => hl h.1
    refine ⟨.slice none 0 0, ?_, ?_, hb⟩
    · rw [listE, if_neg hn]
    · rw [listBy, if_neg hn]; exact Sl.nil_ _
end Go.Proofs.YtaacjpcckinaiaaGreat.Num
set_option linter.unusedVariables false
set_option maxRecDepth 100000
set_option linter.unusedSimpArgs false
namespace Go.Proofs.YtaacjpcckinaiaaGreat.Num
open Go.RowKit Go.Shelf

def ivn (l : List Nat) : List Value := iv (l.map Int.ofNat)
theorem ivn_length (l : List Nat) : (ivn l).length = l.length := by simp [ivn, iv]
theorem ivn_snoc (l : List Nat) (x : Nat) : ivn (l ++ [x]) = ivn l ++ [.int .i64 (x : Int)] := by simp [ivn, iv]

theorem ownsRow_below {w w' : World} {base : Nat} {e : TypeId} {size n : Nat} {v : Value} {xs : List Value} (h : w.ownsRow base e size v n xs) (hb : Below w.heap.size w w') : w'.ownsRow base e size v n xs := by
  refine ⟨h.1, ?_⟩
  rcases h.2 with h2 | ⟨g, cap, cur, hv, hg, hh, r⟩
  · exact .inl h2
  · exact .inr ⟨g, cap, cur, hv, hg, (hb.block g (Array.getElem?_eq_some_iff.1 hh).1).trans hh, r⟩

set_option maxHeartbeats 1000000 in
theorem TakeList_nil (A : Option Addr) (c : Nat) (w : World) : Calls Tryz.prog 118 #[.slice A 0 c] w fun e w' => e = .returned (.tuple #[.slice none 0 0, .slice none 0 0, .int .i64 11]) ∧ w = w' := by
  go_enter Tryz.func118, Tryz.ntmps118
  go_wp2
  refine wp_scope_fwd ?_
  go_wp2
  go_step3
  refine fwd_goto _ rfl ?_
  go_wp2
  refine nog_ret ?_
  refine bodyPost_ret (results_tmp3 rfl _ _ _) rfl ?_
  exact ⟨rfl, rfl⟩

set_option maxRecDepth 100000 in
set_option maxHeartbeats 2000000 in
theorem TakeList_cons (b off c : Nat) (q : UInt8) (t : List UInt8) (w : World) (h : Sl w (.slice (some ⟨b, off, none⟩) (t.length + 1) c) (bv (q :: t))) (hc : w.cell? ⟨b, off, none⟩ = some (.int .u8 (q.toNat : Int))) (hl : t.length < 140737488355328) :
    Calls Tryz.prog 118 #[.slice (some ⟨b, off, none⟩) (t.length + 1) c] w fun e w' => ∃ v1 v2, e = .returned (.tuple #[v1, v2, .int .i64 ((takeL (q :: t)).2.2 : Nat)]) ∧ Slf w.heap.size w' v1 (ivn (takeL (q :: t)).1) ∧ Slf w.heap.size w' v2 (bv (takeL (q :: t)).2.1) ∧ Below w.heap.size w w' := by
  have hq := q.toNat_lt
  have H := Lib.hid h
  clear h
  have hz : ((t.length : Int) + 1 == 0) = false := by rw [beq_eq_false_iff_ne]; omega
  go_enter Tryz.func118, Tryz.ntmps118
  go_wp2
  refine wp_scope_fwd ?_
  go_wp2
  go_loopw [2, 5, 16] (fun v2 v5 v16 W => ∃ (k : Nat) (ns : List Nat) (at_ : Nat), k ≤ q.toNat ∧ v16 = .int .i64 k ∧ v5 = .int .i64 at_ ∧ at_ ≤ t.length + 1 ∧ W.ownsRow w.heap.size 3 1 v2 k (ivn ns) ∧ takeL (q :: t) = joinN ns (takeN (q.toNat - k) ((q :: t).drop at_)) ∧ Below w.heap.size w W)
    (fun _ _ v16 _ => q.toNat - (intOf v16).toNat)
  case atStart => exact ⟨0, [], 1, Nat.zero_le _, rfl, rfl, by omega, World.ownsRow_nil _ _ _ _, by rw [joinN_nil]; rfl, Below.refl _ _⟩
  case round =>
    obtain ⟨k, ns, at_, hk, rfl, rfl, hat, hrow, htake, hB⟩ := hrel
    have HT := Lib.hid htake
    clear htake
    by_cases hlt : k < q.toNat
    · have hcutl : ((q :: t).drop at_).length = t.length + 1 - at_ := by simp
      have HN := takeE_err ((q :: t).drop at_)
      have HE := num_takeE ((q :: t).drop at_)
      have HJ : ∀ h : (takeE ((q :: t).drop at_)).2.2 = 0, joinN ns (takeN (q.toNat - k) ((q :: t).drop at_)) = joinN (ns ++ [(takeE ((q :: t).drop at_)).1]) (takeN (q.toNat - (k + 1)) (((q :: t).drop at_).drop (takeE ((q :: t).drop at_)).2.1)) := fun h => by
        rw [show q.toNat - k = (q.toNat - (k + 1)) + 1 by omega]; exact joinN_step _ _ _ h
      have HF : ∀ h : (takeE ((q :: t).drop at_)).2.2 ≠ 0, joinN ns (takeN (q.toNat - k) ((q :: t).drop at_)) = ([], [], (takeE ((q :: t).drop at_)).2.2) := fun h => by
        rw [show q.toNat - k = (q.toNat - (k + 1)) + 1 by omega]; exact joinN_fall _ _ _ h
      have hNany := fun v W h => number_any v ((q :: t).drop at_) W h
      generalize hr : takeE ((q :: t).drop at_) = r at *
      obtain ⟨m, k1, er⟩ := r
      dsimp only at HN HE HJ HF hNany
      have HA := Lib.hid hNany
      have HN' := Lib.hid HN
      have HE' := Lib.hid HE
      have HJ' := Lib.hid HJ
      have HF' := Lib.hid HF
      have HL := Lib.hid hcutl
      clear hNany HN HE HJ HF hcutl hr
      by_cases he : er = 0
      · subst he
        obtain ⟨hm, -, hk1, -⟩ := HE'.out rfl
        rw [HL.out] at hk1
        go_wp2_with (first
          | (with_reducible show wpList _ _ _ (Oper.mk _ (Op.slice _ _ _ _ _) _ _ _ _ :: _) _ _
             refine wpList_cut el23 rfl (.tmp 19) (some (.tmp 20)) none rfl _ _ rfl (H.out.below hB) at_ (bv (q :: t)).length (by rw [bv_length]; exact hat) (Nat.le_refl _) (.inl rfl) (.inr ⟨rfl, rfl⟩) ?_
             intro A1 c1 hs1
             rw [List.take_length, bv_drop] at hs1)
          | (go_at_call 107; refine (HA.out _ _ hs1).mono ?_; rintro e w1 ⟨rfl, hb1⟩)
          | (at_builtin; refine wpList_app1 el22 rfl _ _ rfl w.heap.size u2 k (ivn ns) rfl ((ownsRow_below hrow hb1).alloc _) _ (.int .i64 (m : Int)) rfl (Sl.one _ _ _) rfl (by omega) (by have := hB.size; have := hb1.size; simp; omega) (w1.heap.size + 1) (by simp) ?_; intro g2 cap2 w2 hown2 hg2 hat2))
        go_roundw
        case rel =>
          have hbl : Below w.heap.size wr w2 := ((hb1.mono hB.size).alloc (by have := hB.size; have := hb1.size; omega) _).grown hg2 (by have := hB.size; have := hb1.size; simp; omega) (fun g e => (hrow.lt g e).1)
          refine ⟨k + 1, ns ++ [m], at_ + k1, by omega, by simp, by simp, by omega, by rw [ivn_snoc]; exact hown2, ?_, hB.trans hbl⟩
          rw [HT.out, HJ'.out trivial, List.drop_drop]
        case measure => simp [intOf]; omega
      · have hz2 : (er : Int) != 0 := by rw [bne_iff_ne]; omega
        have hfin : takeL (q :: t) = ([], [], er) := by rw [HT.out, HF'.out he]
        have HFIN := Lib.hid hfin
        clear hfin he
        go_wp2_with (first
          | (with_reducible show wpList _ _ _ (Oper.mk _ (Op.slice _ _ _ _ _) _ _ _ _ :: _) _ _
             refine wpList_cut el23 rfl (.tmp 19) (some (.tmp 20)) none rfl _ _ rfl (H.out.below hB) at_ (bv (q :: t)).length (by rw [bv_length]; exact hat) (Nat.le_refl _) (.inl rfl) (.inr ⟨rfl, rfl⟩) ?_
             intro A1 c1 hs1
             rw [List.take_length, bv_drop] at hs1)
          | (go_at_call 107; refine (HA.out _ _ hs1).mono ?_; rintro e w1 ⟨rfl, hb1⟩))
        go_step3
        refine fwd_goto _ rfl ?_
        go_wp2
        refine nog_ret ?_
        refine bodyPost_ret (results_tmp3 rfl _ _ _) rfl ?_
        refine ⟨.slice none 0 0, .slice none 0 0, ?_, ?_, ?_, hB.trans (hb1.mono hB.size)⟩
        · rw [HFIN.out]; rfl
        · rw [HFIN.out]; exact Slf.nil_ _ _
        · rw [HFIN.out]; exact Slf.nil_ _ _
    · obtain rfl : k = q.toNat := by omega
      have htk := HT.out
      rw [Nat.sub_self, joinN_end] at htk
      have HTK := Lib.hid htk
      clear htk
      go_wp2_with (first
        | (with_reducible show wpList _ _ _ (Oper.mk _ (Op.slice _ _ _ _ _) _ _ _ _ :: _) _ _
           refine wpList_cut el23 rfl (.tmp 38) (some (.tmp 39)) none rfl _ _ rfl (H.out.below hB) at_ (bv (q :: t)).length (by rw [bv_length]; exact hat) (Nat.le_refl _) (.inl rfl) (.inr ⟨rfl, rfl⟩) ?_
           intro A1 c1 hs1
           rw [List.take_length, bv_drop] at hs1)
        | (go_at_call 108; refine (own_any _ _ _ hs1 (by rw [List.length_drop, List.length_cons]; omega)).mono ?_; rintro e w2 ⟨v2, rfl, hs2, hb2⟩))
      refine fwd_ret ?_
      refine bodyPost_ret (results_tmp3 rfl _ _ _) rfl ?_
      refine ⟨u2, v2, ?_, ?_, ?_, hB.trans (hb2.mono hB.size)⟩
      · rw [HTK.out]; rfl
      · rw [HTK.out]; exact (Slf.of_own hrow).below hb2
      · rw [HTK.out]; exact hs2.mono hB.size

theorem TakeList_any (v : Value) (l : List UInt8) (w : World) (h : Sl w v (bv l)) (hl : l.length ≤ 140737488355328) :
    Calls Tryz.prog 118 #[v] w fun e w' => ∃ v1 v2, e = .returned (.tuple #[v1, v2, .int .i64 ((takeL l).2.2 : Nat)]) ∧ Slf w.heap.size w' v1 (ivn (takeL l).1) ∧ Slf w.heap.size w' v2 (bv (takeL l).2.1) ∧ Below w.heap.size w w' := by
  cases l with
  | nil =>
    obtain ⟨A, c, rfl⟩ := h.bytes_nil
    refine (TakeList_nil A c w).mono ?_
    rintro e w' ⟨rfl, rfl⟩
    exact ⟨.slice none 0 0, .slice none 0 0, rfl, Slf.nil_ _ _, Slf.nil_ _ _, Below.refl _ _⟩
  | cons q t =>
    obtain ⟨b, off, c, rfl, h1, h2, h3, h4, h5⟩ := h.bytes_cons
    exact TakeList_cons b off c q t w h h4 (by rw [List.length_cons] at hl; omega)
end Go.Proofs.YtaacjpcckinaiaaGreat.Num
set_option linter.unusedVariables false
set_option maxRecDepth 100000
set_option linter.unusedSimpArgs false
namespace Go.Proofs.YtaacjpcckinaiaaGreat.Num
open Go.RowKit Go.Shelf

theorem gr_new {W W' : World} {row : Option Nat} (h : W.grownBy W' row) (hr : ∀ g, row = some g → W.heap.size ≤ g) : Below W.heap.size W W' :=
  ⟨h.os, h.tape, h.output, h.size, fun k hk => h.block k hk (fun e => by have := hr k e.symm; omega)⟩
theorem S_len (S : ByteArray) : S.data.toList.length = S.size := by show S.data.toList.length = S.data.size; exact Array.length_toList
def okB (l : List Int) : Bool := l.all fun n => decide (0 ≤ n ∧ n ≤ 1099511627776)
theorem okB_snoc (l : List Int) (x : Int) : okB (l ++ [x]) = (okB l && decide (0 ≤ x ∧ x ≤ 1099511627776)) := by simp [okB]
theorem okB_iff (l : List Int) : okB l = true ↔ ∀ n ∈ l, ok1 n := by simp [okB, ok1]
theorem _root_.Go.Proofs.YtaacjpcckinaiaaGreat.Sl.ints3 {w : World} {v : Value} {l : List Int} (H : Sl w v (iv l)) : (v = .slice none 0 0 ∧ l = []) ∨ ∃ b off c, v = .slice (some ⟨b, off, none⟩) l.length c ∧ b < w.heap.size ∧ ∀ j (hj : j < l.length), w.cell? ⟨b, off + j, none⟩ = some (.int .i64 l[j]) := by
  rcases H with ⟨rfl, h0⟩ | ⟨b, off, c, rfl, h1, h2, h3, h4⟩
  · exact .inl ⟨rfl, List.eq_nil_of_length_eq_zero (by rw [← iv_length, h0]; rfl)⟩
  · rw [iv_length]
    exact .inr ⟨b, off, c, rfl, h3, fun j hj => h4 j _ (iv_get l j hj)⟩
theorem below_drewN {w : World} (n : Nat) : Below w.heap.size w (w.drewN n) := ⟨rfl, rfl, rfl, Nat.le_refl _, fun _ _ => rfl⟩
theorem ownsRow_one (w : World) (base : Nat) (hb : base ≤ w.heap.size) (e : TypeId) (x : Value) : (w.alloc (.cells #[x] e)).ownsRow base e 1 (.slice (some ⟨w.heap.size, 0, none⟩) 1 1) 1 [x] :=
  ⟨rfl, .inr ⟨w.heap.size, 1, #[x], rfl, hb, heap_alloc_new w _, Nat.le_refl _, by decide, rfl, rfl⟩⟩
theorem below_lit {W W' : World} {o : Obj} (h : (W.alloc o).grownBy W' (some W.heap.size)) : Below W.heap.size W W' :=
  gr_new (gr_then (gr_alloc (gr_refl W (some W.heap.size)) _) h (.inl rfl)) (by intro g e; injection e with e; omega)
theorem mod_u8 (q : Nat) : (q : Int) % 256 = ((UInt8.ofNat q).toNat : Int) := by rw [UInt8.toNat_ofNat']; omega

set_option maxRecDepth 100000 in
set_option maxHeartbeats 1000000 in
theorem refPut_not (n : Int) (h : n < 0 ∨ 1099511627776 < n) (w : World) : Calls Tryz.prog 48 #[.int .i64 n] w fun e w' => e = .returned (.tuple #[.slice none 0 0, .int .i64 2]) ∧ w = w' := by
  go_enter Tryz.func48, Tryz.ntmps48
  go_wp2
  all_goals
    go_ret2
    exact ⟨rfl, rfl⟩

set_option maxRecDepth 100000 in
set_option maxHeartbeats 2000000 in
theorem refPut_oko (n : Nat) (h : n ≤ 1099511627776) (w : World) : Calls Tryz.prog 48 #[.int .i64 (n : Int)] w fun e w' => ∃ v, e = .returned (.tuple #[v, .int .i64 0]) ∧ w'.ownsRow w.heap.size 5 1 v (bv (num n)).length (bv (num n)) ∧ Below w.heap.size w w' := by
  have h0 : (0 : Int) ≤ (n : Int) := Int.natCast_nonneg _
  have h1 : (n : Int) ≤ 1099511627776 := by omega
  go_enter Tryz.func48, Tryz.ntmps48
  go_wp2
  go_loopw [0, 4] (fun t0 t4 W => ∃ (q : Nat) (d : List UInt8) (A : Option Addr) (len c : Nat), q ≤ n ∧ t0 = .int .i64 (q : Int) ∧ t4 = .slice A len c ∧ len = d.length ∧ Sl W (.slice A len c) (bv d) ∧ dig n = dig q ++ d ∧ Below w.heap.size w W)
    (fun t0 _ _ => (intOf t0).toNat)
  case atStart => exact ⟨n, [], none, 0, 0, Nat.le_refl _, rfl, rfl, rfl, Sl.nil_ _, by simp, Below.refl _ _⟩
  case round =>
    obtain ⟨q, d, A, len, c, hq, rfl, rfl, hlen, hs, hd, hB⟩ := hrel
    have h6 := dig_len6 n h
    have hdl := congrArg List.length hd
    rw [List.length_append] at hdl
    have hd6 : d.length ≤ 6 := by omega
    have HLEN := Lib.hid hlen
    have HS := Lib.hid hs
    have HD := Lib.hid hd
    clear hlen hs hd hdl
    by_cases hq0 : 0 < q
    · have hm := mod_u8 q
      have HM := Lib.hid hm
      clear hm
      go_wp2_with (at_builtin; refine wpList_app el23 rfl (.tmp 16) (.tmp 17) rfl w.heap.size (.slice (some ⟨wr.heap.size, 0, none⟩) 1 1) 1 [.int .u8 ((q : Int) % 256)] rfl (ownsRow_one wr w.heap.size hB.size 5 _) _ _ rfl (HS.out.alloc _) (bv_one _) (by have e1 := bv_length d; omega) (by have := hB.size; simp; omega) ?_; intro vA wA hownA hgA hatA; have sA := Sl.of_own hownA; obtain ⟨A2, c2, rfl⟩ := sA.form; have HSA := Lib.hid sA; clear hownA sA hatA)
      go_roundw
      case rel =>
        have hbl := below_lit hgA
        have e : [Value.int .u8 ((q : Int) % 256)] ++ bv d = bv (UInt8.ofNat q :: d) := by rw [HM.out]; rfl
        have hsa := HSA.out
        rw [e] at hsa
        refine ⟨q / 256, UInt8.ofNat q :: d, A2, _, c2, by omega, by congr 1, rfl, by simp [bv], hsa, ?_, hB.trans (hbl.mono hB.size)⟩
        rw [HD.out, dig_pos q (by omega), List.append_assoc]; rfl
      case measure => simp [intOf]; omega
    · obtain rfl : q = 0 := by omega
      have hl7 : len ≤ 6 := by have := HLEN.out; omega
      go_wp2_with (at_builtin; refine wpList_app el23 rfl (.tmp 24) (.tmp 25) rfl w.heap.size (.slice (some ⟨wr.heap.size, 0, none⟩) 1 1) 1 [.int .u8 (len : Int)] rfl (ownsRow_one wr w.heap.size hB.size 5 _) _ _ rfl (HS.out.alloc _) (bv_one _) (by have e1 := bv_length d; omega) (by have := hB.size; simp; omega) ?_; intro vA wA hownA hgA hatA)
      go_ret2
      have hbl := below_lit hgA
      have hd := HD.out
      rw [dig_zero, List.nil_append] at hd
      have e : [Value.int .u8 (len : Int)] ++ bv d = bv (num n) := by
        rw [num, hd, HLEN.out]
        have : ((UInt8.ofNat d.length).toNat : Int) = d.length := by rw [UInt8.toNat_ofNat']; omega
        show [Value.int .u8 (d.length : Int)] ++ bv d = Value.int .u8 ((UInt8.ofNat d.length).toNat : Int) :: bv d
        rw [this]; rfl
      refine ⟨vA, rfl, ?_, hB.trans (hbl.mono hB.size)⟩
      have := hownA
      rw [e] at this
      have hl : 1 + (bv d).length = (bv (num n)).length := by rw [← e]; simp; omega
      rwa [hl] at this
theorem refPut_ok (n : Nat) (h : n ≤ 1099511627776) (w : World) : Calls Tryz.prog 48 #[.int .i64 (n : Int)] w fun e w' => ∃ v, e = .returned (.tuple #[v, .int .i64 0]) ∧ Sl w' v (bv (num n)) ∧ Below w.heap.size w w' :=
  (refPut_oko n h w).mono fun e w' ⟨v, h1, h2, h3⟩ => ⟨v, h1, Sl.of_own h2, h3⟩
theorem refPut_own (n : Int) (w : World) : Calls Tryz.prog 48 #[.int .i64 n] w fun e w' => ∃ v, e = .returned (.tuple #[v, .int .i64 (putE n)]) ∧ w'.ownsRow w.heap.size 5 1 v (bv (putB n)).length (bv (putB n)) ∧ Below w.heap.size w w' := by
  by_cases h : 0 ≤ n ∧ n ≤ 1099511627776
  · rw [putE, putB, if_pos h, if_pos h]
    obtain ⟨q, rfl⟩ := Int.eq_ofNat_of_zero_le h.1
    rw [Int.toNat_natCast]
    exact refPut_oko q (by omega) w
  · rw [putE, putB, if_neg h, if_neg h]
    refine (refPut_not n (by omega) w).mono ?_
    rintro e w' ⟨rfl, rfl⟩
    exact ⟨_, rfl, World.ownsRow_nil _ _ _ _, Below.refl _ _⟩

theorem refPut_any (n : Int) (w : World) : Calls Tryz.prog 48 #[.int .i64 n] w fun e w' => ∃ v, e = .returned (.tuple #[v, .int .i64 (putE n)]) ∧ Sl w' v (bv (putB n)) ∧ Below w.heap.size w w' := by
  by_cases h : 0 ≤ n ∧ n ≤ 1099511627776
  · rw [putE, putB, if_pos h, if_pos h]
    obtain ⟨q, rfl⟩ := Int.eq_ofNat_of_zero_le h.1
    rw [Int.toNat_natCast]
    exact refPut_ok q (by omega) w
  · rw [putE, putB, if_neg h, if_neg h]
    refine (refPut_not n (by omega) w).mono ?_
    rintro e w' ⟨rfl, rfl⟩
    exact ⟨_, rfl, Sl.nil_ _, Below.refl _ _⟩

set_option maxRecDepth 100000 in
set_option maxHeartbeats 1000000 in
theorem refText_own (S : ByteArray) (w : World) : Calls Tryz.prog 30 #[.string S] w fun e w' => ∃ v, e = .returned (.tuple #[v, .int .i64 (textE S.data.toList)]) ∧ w'.ownsRow w.heap.size 5 1 v (bv (textB S.data.toList)).length (bv (textB S.data.toList)) ∧ Below w.heap.size w w' := by
  have hsz := S_len S
  by_cases h : 255 < S.size
  · rw [textB, textE, hsz, if_pos h, if_pos h]
    clear hsz
    go_enter Tryz.func30, Tryz.ntmps30
    go_wp2
    go_ret2
    exact ⟨_, rfl, World.ownsRow_nil _ _ _ _, Below.refl _ _⟩
  · rw [textB, textE, hsz, if_neg h, if_neg h]
    have HS := Lib.hid hsz
    clear hsz
    have h2 : S.size ≤ 255 := by omega
    obtain ⟨i0, hi, hz0, hz1, hz2⟩ := info_parts el23.hi
    go_enter Tryz.func30, Tryz.ntmps30
    go_wp2_with (at_builtin; refine Lib.wpList_append_own_string _ rfl _ _ 28 9 rfl w.heap.size 5 i0 Tryz.underlying28 Tryz.underlying9 hi hz0 hz1 hz2 (.slice (some ⟨w.heap.size, 0, none⟩) 1 1) 1 [.int .u8 (S.size : Int)] rfl (ownsRow_one w w.heap.size (Nat.le_refl _) 5 _) _ rfl (by unfold maxLen; omega) (by omega) (by simp) ?_; intro v2 w2 hown2 hg2 hnil)
    go_ret2
    refine ⟨v2, rfl, ?_, below_lit hg2⟩
    have := hown2
    have e : [Value.int .u8 (S.size : Int)] ++ Lib.strCells S = bv (UInt8.ofNat S.size :: S.data.toList) := by
      simp [bv, Lib.strCells]; omega
    have hl : 1 + S.size = (bv (UInt8.ofNat S.size :: S.data.toList)).length := by rw [bv_length, List.length_cons, HS.out]; omega
    rw [e] at this
    rwa [hl] at this
theorem refText_any (S : ByteArray) (w : World) : Calls Tryz.prog 30 #[.string S] w fun e w' => ∃ v, e = .returned (.tuple #[v, .int .i64 (textE S.data.toList)]) ∧ Sl w' v (bv (textB S.data.toList)) ∧ Below w.heap.size w w' :=
  (refText_own S w).mono fun e w' ⟨v, h1, h2, h3⟩ => ⟨v, h1, Sl.of_own h2, h3⟩

set_option maxRecDepth 100000 in
set_option maxHeartbeats 1000000 in
theorem refList_long (A : Option Addr) (n c : Nat) (w : World) (h : 255 < n) : Calls Tryz.prog 31 #[.slice A n c] w fun e w' => e = .returned (.tuple #[.slice none 0 0, .int .i64 2]) ∧ w = w' := by
  go_enter Tryz.func31, Tryz.ntmps31
  go_wp2
  go_ret2
  exact ⟨rfl, rfl⟩

theorem refput_ok (n : Int) (h0 : 0 ≤ n) (h1 : n ≤ 1099511627776) (w : World) : Calls Tryz.prog 48 #[.int .i64 n] w fun e w' => ∃ v, e = .returned (.tuple #[v, .int .i64 0]) ∧ Sl w' v (bv (num n.toNat)) ∧ Below w.heap.size w w' := by
  have h := refPut_any n w
  rw [putE, putB, if_pos ⟨h0, h1⟩, if_pos ⟨h0, h1⟩] at h
  exact h
theorem refput_not (n : Int) (h : ¬ (0 ≤ n ∧ n ≤ 1099511627776)) (w : World) : Calls Tryz.prog 48 #[.int .i64 n] w fun e w' => ∃ v, e = .returned (.tuple #[v, .int .i64 2]) ∧ Sl w' v (bv []) ∧ Below w.heap.size w w' := by
  have h' := refPut_any n w
  rw [putE, putB, if_neg h, if_neg h] at h'
  exact h'

set_option maxRecDepth 100000 in
set_option maxHeartbeats 2000000 in
theorem refList_loop (A : Option Addr) (n c : Nat) (l : List Int) (w : World) (hA : Sl w (.slice A n c) (iv l)) (hln : l.length = n) (h2 : n ≤ 255) :
    Calls Tryz.prog 31 #[.slice A n c] w fun e w' => ∃ v', e = .returned (.tuple #[v', .int .i64 (listE l)]) ∧ Sl w' v' (bv (listBy l)) ∧ Below w.heap.size w w' := by
  have SA := Lib.hid hA
  have HLN := Lib.hid hln
  clear hA hln
  go_enter Tryz.func31, Tryz.ntmps31
  go_wp2
  go_loopw [4, 5] (fun v4 v5 W => ∃ k : Nat, k ≤ n ∧ v5 = .int .i64 k ∧ okB (l.take k) = true ∧ W.ownsRow w.heap.size 5 1 v4 (1 + (numsI (l.take k)).length) (bv (UInt8.ofNat n :: numsI (l.take k))) ∧ Below w.heap.size w W) (fun _ i _ => n - (intOf i).toNat)
  case atStart =>
    have e : bv (UInt8.ofNat n :: numsI (l.take 0)) = [.int .u8 (n : Int)] := by simp [bv, numsI, nums]; omega
    refine ⟨0, Nat.zero_le _, rfl, rfl, ?_, (Below.refl _ _).alloc (Nat.le_refl _) _⟩
    rw [e]
    exact ownsRow_one w w.heap.size (Nat.le_refl _) 5 _
  case round =>
    obtain ⟨k, hk, rfl, hokk, hrow, hB⟩ := hrel
    have HOKK := Lib.hid hokk
    clear hokk
    by_cases hlt : k < n
    · have hkl : k < l.length := by rw [HLN.out]; exact hlt
      obtain ⟨b, off, rfl, hcell⟩ : ∃ b off, A = some ⟨b, off, none⟩ ∧ wr.cell? ⟨b, off + k, none⟩ = some (.int .i64 l[k]) := by
        rcases (SA.out.below hB).ints3 with ⟨h, hl0⟩ | ⟨b, off, c', h, _, hc⟩
        · rw [hl0] at hkl; simp at hkl
        · injection h with h
          exact ⟨b, off, h, hc k hkl⟩
      have hsn : okB (l.take (k + 1)) = (okB (l.take k) && decide (0 ≤ l[k] ∧ l[k] ≤ 1099511627776)) := by
        rw [List.take_succ_eq_append_getElem hkl, okB_snoc]
      have hnm : numsI (l.take (k + 1)) = numsI (l.take k) ++ num l[k].toNat := by
        rw [List.take_succ_eq_append_getElem hkl, numsI_snoc]
      have HSN := Lib.hid hsn
      have HNM := Lib.hid hnm
      have hl7 := numsI_len (l.take k) ((okB_iff _).1 HOKK.out)
      rw [List.length_take] at hl7
      have hl8 : (numsI (l.take k)).length ≤ 1785 := by omega
      have hmem : l[k] ∈ l := List.getElem_mem hkl
      have HMEM := Lib.hid hmem
      clear hsn hnm hl7 hmem
      generalize l[k] = x at *
      by_cases hx : 0 ≤ x ∧ x ≤ 1099511627776
      · obtain ⟨hx0, hx1⟩ := hx
        have h6 := dig_len6 x.toNat (by omega)
        have hnl := num_length x.toNat
        have HNL := Lib.hid hnl
        clear hnl
        go_wp2_with (first
          | (go_at_call 48; refine (refput_ok x hx0 hx1 _).mono ?_; rintro e w4 ⟨v4, rfl, s4, hb4⟩)
          | (at_builtin; refine wpList_app el23 rfl (.tmp 32) (.tmp 33) rfl w.heap.size _ _ _ rfl (ownsRow_below hrow hb4) _ _ rfl s4 (bv_one _) (by have e1 := bv_length (num x.toNat); have e2 := HNL.out; omega) (by have := hB.size; have := hb4.size; omega) ?_; intro vA wA hownA hgA hatA))
        go_roundw
        case rel =>
          have hbl : Below w.heap.size wr wA := (hb4.mono hB.size).grown hgA (by have := hB.size; have := hb4.size; omega) (fun g e => (hrow.lt g e).1)
          refine ⟨k + 1, by omega, by go_num, by rw [HSN.out, HOKK.out]; simp [hx0, hx1], ?_, hB.trans hbl⟩
          rw [HNM.out, List.length_append, ← List.cons_append, bv_append, ← Nat.add_assoc]
          rw [bv_length (num x.toNat)] at hownA
          exact hownA
        case measure => simp [intOf]; omega
      · go_wp2_with (go_at_call 48; refine (refput_not x hx _).mono ?_; rintro e w4 ⟨v4, rfl, s4, hb4⟩)
        go_ret2
        have hn : ¬ okL l := fun h => hx (h.2 x HMEM.out)
        refine ⟨.slice none 0 0, ?_, ?_, hB.trans (hb4.mono hB.size)⟩
        · rw [listE, if_neg hn]; rfl
        · rw [listBy, if_neg hn]; exact Sl.nil_ _
    · obtain rfl : k = n := by omega
      have hall : l.take k = l := List.take_of_length_le (by rw [HLN.out]; exact Nat.le_refl _)
      have hokk := HOKK.out
      rw [hall] at hrow hokk
      have HO := Lib.hid hokk
      clear hokk hall
      go_wp2
      go_ret2
      have hok : okL l := ⟨by rw [HLN.out]; exact h2, (okB_iff l).1 HO.out⟩
      refine ⟨u4, ?_, ?_, hB⟩
      · rw [listE, if_pos hok]; rfl
      · rw [listBy, if_pos hok, HLN.out]; exact Sl.of_own hrow

theorem refList_any (v : Value) (l : List Int) (w : World) (h : Sl w v (iv l)) :
    Calls Tryz.prog 31 #[v] w fun e w' => ∃ v', e = .returned (.tuple #[v', .int .i64 (listE l)]) ∧ Sl w' v' (bv (listBy l)) ∧ Below w.heap.size w w' := by
  obtain ⟨A, c, rfl⟩ := h.form
  rw [iv_length] at h ⊢
  by_cases hl : l.length ≤ 255
  · exact refList_loop A _ c l w h rfl hl
  · refine (refList_long A _ c w (by omega)).mono ?_
    rintro e w' ⟨rfl, rfl⟩
    have hn : ¬ okL l := fun h => hl h.1
    refine ⟨.slice none 0 0, ?_, ?_, Below.refl _ _⟩
    · rw [listE, if_neg hn]
    · rw [listBy, if_neg hn]; exact Sl.nil_ _
end Go.Proofs.YtaacjpcckinaiaaGreat.Num
set_option linter.unusedVariables false
set_option maxRecDepth 100000
set_option linter.unusedSimpArgs false
namespace Go.Proofs.YtaacjpcckinaiaaGreat.Num
open Go.RowKit Go.Shelf

theorem ownsRow_none (w : World) (base : Nat) (hb : base ≤ w.heap.size) (e : TypeId) : (w.alloc (.cells #[] e)).ownsRow base e 1 (.slice (some ⟨w.heap.size, 0, none⟩) 0 0) 0 [] :=
  ⟨rfl, .inr ⟨w.heap.size, 0, #[], rfl, hb, heap_alloc_new w _, Nat.le_refl _, by decide, rfl, rfl⟩⟩

/-- append, in a region that draws its order. -/
theorem step_app {P : Program} {w : World} {t e : TypeId} {z : Value} {bytes : Nat} (E : ElOf P t e z bytes) {ops : Array Oper} {o : Oper} {a : Act} {K : Act → World → Prop} {Q : Exit → Act → World → Prop} {E0 : Prop} (hgd : o.guard = none) (s x : Operand)
    (ho : o.op = .call { callee := .builtin .append, args := #[s, x], argTypes := #[t, t] })
    (base : Nat) (v : Value) (n : Nat) (xs : List Value) (hs : a.eval s = v) (hown : w.ownsRow base e 1 v n xs)
    (vx : Value) (news : List Value) (hxe : a.eval x = vx) (hx : Sl w vx news) (h1 : ∀ u ∈ news, u.oneCell' = true) (hby : (n + news.length) * bytes ≤ 140737488355328) (hbase : base ≤ w.heap.size)
    (h : ∀ v' w', w'.ownsRow base e 1 v' (n + news.length) (xs ++ news) → w.grownBy w' v.ownBlock → K (a.put o.dst v') w') :
    if Region.wanted o (yielded ops a.tmps) = true then Oper.wp P o a w K Q else E0 := by
  have hw : Region.wanted o (yielded ops a.tmps) = true := by simp [Region.wanted, hgd]
  rw [if_pos hw]
  obtain ⟨v', w', hrun, h2, h3, h4⟩ := run_app (w := w) E base o.type v n xs hown vx news hx h1 hby hbase
  unfold Oper.wp execOp
  simp only [ho, resolve, invoke, builtin, Sem.run_bind, Sem.run_pure, Result.andThen_ok, List.map_toArray, List.map_cons, List.map_nil, hs, hxe, hrun]
  exact h v' w' h2 h3

set_option maxRecDepth 100000 in
set_option maxHeartbeats 400000 in
theorem refTake_nil (A : Option Addr) (c : Nat) (w : World) : Calls Tryz.prog 50 #[.slice A 0 c] w fun e w' => e = .returned (.tuple #[.int .i64 0, .slice none 0 0, .int .i64 11]) ∧ w = w' := by
  go_enter Tryz.func50, Tryz.ntmps50
  go_wp2
  refine bodyPost_ret (results_tmp3 rfl _ _ _) rfl ?_
  exact ⟨rfl, rfl⟩

set_option maxRecDepth 100000 in
set_option maxHeartbeats 400000 in
theorem refTake_big (b off n c q : Nat) (w : World) (hq : 6 < q) (hq' : q < 256) (hc : w.cell? ⟨b, off, none⟩ = some (.int .u8 (q : Int))) (hn : 0 < n) :
    Calls Tryz.prog 50 #[.slice (some ⟨b, off, none⟩) n c] w fun e w' => e = .returned (.tuple #[.int .i64 0, .slice none 0 0, .int .i64 12]) ∧ w = w' := by
  go_enter Tryz.func50, Tryz.ntmps50
  go_wp2
  refine bodyPost_ret (results_tmp3 rfl _ _ _) rfl ?_
  exact ⟨rfl, rfl⟩

set_option maxRecDepth 100000 in
set_option maxHeartbeats 400000 in
theorem refTake_few (b off n c q : Nat) (w : World) (hq : q ≤ 6) (hc : w.cell? ⟨b, off, none⟩ = some (.int .u8 (q : Int))) (hn : 0 < n) (hn' : n < 1 + q) :
    Calls Tryz.prog 50 #[.slice (some ⟨b, off, none⟩) n c] w fun e w' => e = .returned (.tuple #[.int .i64 0, .slice none 0 0, .int .i64 11]) ∧ w = w' := by
  go_enter Tryz.func50, Tryz.ntmps50
  go_wp2
  refine bodyPost_ret (results_tmp3 rfl _ _ _) rfl ?_
  exact ⟨rfl, rfl⟩

set_option maxRecDepth 100000 in
set_option maxHeartbeats 2000000 in
theorem refTake_loop (b off c : Nat) (q : UInt8) (t : List UInt8) (w : World) (hq : q.toNat ≤ 6) (hn : q.toNat ≤ t.length) (hm : t.length < 140737488355328) (hS : Sl w (.slice (some ⟨b, off, none⟩) (t.length + 1) c) (bv (q :: t))) (hc : w.cell? ⟨b, off, none⟩ = some (.int .u8 (q.toNat : Int)))
    (hcs : ∀ j (hj : j < t.length), w.cell? ⟨b, off + 1 + j, none⟩ = some (.int .u8 (t[j].toNat : Int))) :
    Calls Tryz.prog 50 #[.slice (some ⟨b, off, none⟩) (t.length + 1) c] w fun e w' => ∃ v', e = .returned (.tuple #[.int .i64 ((takeE (q :: t)).1 : Nat), v', .int .i64 ((takeE (q :: t)).2.2 : Nat)]) ∧ w'.ownsRow w.heap.size 5 1 v' (restT (q :: t)).length (bv (restT (q :: t))) ∧ Below w.heap.size w w' := by
  have SA := Lib.hid hS
  have HCS := Lib.hid hcs
  clear hS hcs
  go_enter Tryz.func50, Tryz.ntmps50
  go_wp2
  go_loopw [6, 7] (fun v6 v7 W => W = w ∧ ∃ k : Nat, k ≤ q.toNat ∧ v7 = .int .i64 (1 + k : Nat) ∧ v6 = .int .i64 (val (t.take k))) (fun _ i _ => 1 + q.toNat - (intOf i).toNat)
  case atStart => exact ⟨rfl, 0, Nat.zero_le _, rfl, rfl⟩
  case round =>
    obtain ⟨rfl, k, hk, rfl, rfl⟩ := hrel
    have hvl := val_lt (t.take k)
    have hp5 : k < q.toNat → 256 ^ (t.take k).length ≤ 256 ^ 5 := fun h => Nat.pow_le_pow_right (by omega) (by rw [List.length_take]; omega)
    have hp6 : 256 ^ (t.take k).length ≤ 256 ^ 6 := Nat.pow_le_pow_right (by omega) (by rw [List.length_take]; omega)
    by_cases hlt : k < q.toNat
    · have hkt : k < t.length := by omega
      have hcell := HCS.out k hkt
      have hsn : val (t.take (k + 1)) = val (t.take k) * 256 + t[k].toNat := by rw [List.take_succ_eq_append_getElem hkt, val_snoc]
      have hb5 : val (t.take k) < 1099511627776 := by have := hp5 hlt; omega
      have hx := t[k].toNat_lt
      rw [Nat.add_assoc] at hcell
      have HSN := Lib.hid hsn
      clear hsn hvl hp5 hp6
      generalize val (t.take k) = m at *
      generalize t[k] = x at *
      go_wp2
      go_roundw
      case rel => exact ⟨trivial, k + 1, by omega, by (first | (congr 1; done) | (congr 1; omega)), by congr 1; rw [HSN.out]; omega⟩
      case measure => simp [intOf]; omega
    · obtain rfl : k = q.toNat := by omega
      have hbv : val (t.take q.toNat) < 281474976710656 := by omega
      clear hvl hp5 hp6
      by_cases h0 : 0 < q.toNat
      · have hl0 : 0 < t.length := by omega
        have hc1 := HCS.out 0 hl0
        rw [Nat.add_zero] at hc1
        by_cases hz : t[0].toNat = 0
        · have e : takeE (q :: t) = (0, 0, 12) := by
            simp only [takeE]
            rw [if_neg (by omega), if_neg (by omega), if_pos (.inl ⟨h0, by rw [getD_zero _ hl0]; exact UInt8.toNat_inj.1 hz⟩)]
          have e2 : restT (q :: t) = [] := by rw [restT, e]; rfl
          rw [hz] at hc1
          have HE := Lib.hid e
          have HE2 := Lib.hid e2
          clear e e2 hz
          go_wp2
          refine bodyPost_ret (results_tmp3 rfl _ _ _) rfl ?_
          exact ⟨.slice none 0 0, by rw [HE.out]; rfl, by rw [HE2.out]; exact World.ownsRow_nil _ _ _ _, Below.refl _ _⟩
        · by_cases hv : 1099511627776 < val (t.take q.toNat)
          · have e : takeE (q :: t) = (0, 0, 12) := by
              simp only [takeE]
              rw [if_neg (by omega), if_neg (by omega), if_pos (.inr hv)]
            have e2 : restT (q :: t) = [] := by rw [restT, e]; rfl
            have HE := Lib.hid e
            have HE2 := Lib.hid e2
            clear e e2
            have hz' : ((t[0].toNat : Int) == 0) = false := by rw [beq_eq_false_iff_ne]; omega
            generalize t[0] = x at *
            generalize val (t.take q.toNat) = m at *
            go_wp2
            refine bodyPost_ret (results_tmp3 rfl _ _ _) rfl ?_
            exact ⟨.slice none 0 0, by rw [HE.out]; rfl, by rw [HE2.out]; exact World.ownsRow_nil _ _ _ _, Below.refl _ _⟩
          · have e : takeE (q :: t) = (val (t.take q.toNat), 1 + q.toNat, 0) := by
              simp only [takeE]
              rw [if_neg (by omega), if_neg (by omega), if_neg]
              rintro (⟨-, h⟩ | h)
              · rw [getD_zero _ hl0] at h; rw [h] at hz; exact hz rfl
              · exact hv h
            have e2 : restT (q :: t) = (q :: t).drop (1 + q.toNat) := by rw [restT, e]; rfl
            have HE := Lib.hid e
            have HE2 := Lib.hid e2
            clear e e2
            have hz' : ((t[0].toNat : Int) == 0) = false := by rw [beq_eq_false_iff_ne]; omega
            generalize t[0] = x at *
            generalize val (t.take q.toNat) = m at *
            go_wp2_with (first
              | (with_reducible show wpList _ _ _ (Oper.mk _ (Op.slice _ _ _ _ _) _ _ _ _ :: _) _ _
                 refine wpList_cut el23 rfl (.tmp 49) (some (.tmp 51)) none rfl _ _ rfl (SA.out.alloc _) (1 + q.toNat) (bv (q :: t)).length (by rw [bv_length, List.length_cons]; omega) (Nat.le_refl _) (.inl rfl) (.inr ⟨rfl, rfl⟩) ?_
                 intro A1 c1 hs1
                 rw [List.take_length, bv_drop] at hs1)
              | (at_builtin; refine wpList_app el23 rfl (.tmp 48) (.tmp 52) rfl wr.heap.size (.slice (some ⟨wr.heap.size, 0, none⟩) 0 0) 0 [] rfl (ownsRow_none wr _ (Nat.le_refl _) 5) _ _ rfl hs1 (bv_one _) (by rw [bv_length, List.length_drop, List.length_cons]; omega) (by simp) ?_; intro vA wA hownA hgA hatA))
            
            refine bodyPost_ret (results_tmp3 rfl _ _ _) rfl ?_
            refine ⟨vA, by rw [HE.out]; rfl, ?_, below_lit hgA⟩
            rw [HE2.out]
            rw [bv_length, Nat.zero_add, List.nil_append] at hownA
            exact hownA
      · have hq0 : q.toNat = 0 := by omega
        have hv : ¬ 1099511627776 < val (t.take q.toNat) := by rw [hq0, List.take_zero]; decide
        have e : takeE (q :: t) = (val (t.take q.toNat), 1 + q.toNat, 0) := by
          simp only [takeE]
          rw [if_neg (by omega), if_neg (by omega), if_neg]
          rintro (⟨h, -⟩ | h)
          · exact h0 h
          · exact hv h
        have e2 : restT (q :: t) = (q :: t).drop (1 + q.toNat) := by rw [restT, e]; rfl
        have HE := Lib.hid e
        have HE2 := Lib.hid e2
        clear e e2 hq0
        generalize val (t.take q.toNat) = m at *
        go_wp2_with (first
          | (with_reducible show wpList _ _ _ (Oper.mk _ (Op.slice _ _ _ _ _) _ _ _ _ :: _) _ _
             refine wpList_cut el23 rfl (.tmp 49) (some (.tmp 51)) none rfl _ _ rfl (SA.out.alloc _) (1 + q.toNat) (bv (q :: t)).length (by rw [bv_length, List.length_cons]; omega) (Nat.le_refl _) (.inl rfl) (.inr ⟨rfl, rfl⟩) ?_
             intro A1 c1 hs1
             rw [List.take_length, bv_drop] at hs1)
          | (at_builtin; refine wpList_app el23 rfl (.tmp 48) (.tmp 52) rfl wr.heap.size (.slice (some ⟨wr.heap.size, 0, none⟩) 0 0) 0 [] rfl (ownsRow_none wr _ (Nat.le_refl _) 5) _ _ rfl hs1 (bv_one _) (by rw [bv_length, List.length_drop, List.length_cons]; omega) (by simp) ?_; intro vA wA hownA hgA hatA))
        
        refine bodyPost_ret (results_tmp3 rfl _ _ _) rfl ?_
        refine ⟨vA, by rw [HE.out]; rfl, ?_, below_lit hgA⟩
        rw [HE2.out]
        rw [bv_length, Nat.zero_add, List.nil_append] at hownA
        exact hownA

theorem refTake_own (v : Value) (l : List UInt8) (w : World) (h : Sl w v (bv l)) (hl : l.length ≤ 140737488355328) :
    Calls Tryz.prog 50 #[v] w fun e w' => ∃ v', e = .returned (.tuple #[.int .i64 ((takeE l).1 : Nat), v', .int .i64 ((takeE l).2.2 : Nat)]) ∧ w'.ownsRow w.heap.size 5 1 v' (restT l).length (bv (restT l)) ∧ Below w.heap.size w w' := by
  cases l with
  | nil =>
    obtain ⟨A, c, rfl⟩ := h.bytes_nil
    refine (refTake_nil A c w).mono ?_
    rintro e w' ⟨rfl, rfl⟩
    exact ⟨_, rfl, World.ownsRow_nil _ _ _ _, Below.refl _ _⟩
  | cons q t =>
    obtain ⟨b, off, c, rfl, h1, h2, h3, h4, h5⟩ := h.bytes_cons
    have hq := q.toNat_lt
    by_cases k1 : 6 < q.toNat
    · have e : takeE (q :: t) = (0, 0, 12) := by simp only [takeE]; rw [if_pos k1]
      have e2 : restT (q :: t) = [] := by rw [restT, e]; rfl
      rw [e, e2]
      refine (refTake_big b off _ c q.toNat w k1 (by omega) h4 (by omega)).mono ?_
      rintro e w' ⟨rfl, rfl⟩
      exact ⟨_, rfl, World.ownsRow_nil _ _ _ _, Below.refl _ _⟩
    by_cases k2 : t.length < q.toNat
    · have e : takeE (q :: t) = (0, 0, 11) := by simp only [takeE]; rw [if_neg k1, if_pos k2]
      have e2 : restT (q :: t) = [] := by rw [restT, e]; rfl
      rw [e, e2]
      refine (refTake_few b off _ c q.toNat w (by omega) h4 (by omega) (by omega)).mono ?_
      rintro e w' ⟨rfl, rfl⟩
      exact ⟨_, rfl, World.ownsRow_nil _ _ _ _, Below.refl _ _⟩
    exact refTake_loop b off c q t w (by omega) (by omega) (by rw [List.length_cons] at hl; omega) h h4 h5

theorem refTake_any (v : Value) (l : List UInt8) (w : World) (h : Sl w v (bv l)) (hl : l.length ≤ 140737488355328) :
    Calls Tryz.prog 50 #[v] w fun e w' => ∃ v', e = .returned (.tuple #[.int .i64 ((takeE l).1 : Nat), v', .int .i64 ((takeE l).2.2 : Nat)]) ∧ Sl w' v' (bv (restT l)) ∧ Below w.heap.size w w' := by
  refine (refTake_own v l w h hl).mono ?_
  rintro e w' ⟨v', rfl, ho, hb⟩
  exact ⟨v', rfl, Sl.of_own ho, hb⟩

end Go.Proofs.YtaacjpcckinaiaaGreat.Num
set_option linter.unusedVariables false
set_option maxRecDepth 100000
set_option linter.unusedSimpArgs false
namespace Go.Proofs.YtaacjpcckinaiaaGreat.Num
open Go.RowKit Go.Shelf

theorem below_lit2 {W W' : World} {o : Obj} (h : (W.alloc o).drew.grownBy W' (some W.heap.size)) : Below W.heap.size W W' :=
  gr_new (gr_then (gr_drew (gr_alloc (gr_refl W _) _)) h (.inl rfl)) (by intro g e; injection e with e; omega)

set_option maxHeartbeats 1000000 in
theorem refTakeText_nil (A : Option Addr) (c : Nat) (w : World) : Calls Tryz.prog 53 #[.slice A 0 c] w fun e w' => e = .returned (.tuple #[.string ⟨#[]⟩, .slice none 0 0, .int .i64 11]) ∧ w = w' := by
  go_enter Tryz.func53, Tryz.ntmps53
  go_wp2
  refine bodyPost_ret (results_tmp3 rfl _ _ _) rfl ?_
  exact ⟨rfl, rfl⟩

set_option maxHeartbeats 1000000 in
theorem refTakeText_few (b off n c q : Nat) (w : World) (hq' : q < 256) (hc : w.cell? ⟨b, off, none⟩ = some (.int .u8 (q : Int))) (hn : 0 < n) (hn' : n < 1 + q) :
    Calls Tryz.prog 53 #[.slice (some ⟨b, off, none⟩) n c] w fun e w' => e = .returned (.tuple #[.string ⟨#[]⟩, .slice none 0 0, .int .i64 11]) ∧ w = w' := by
  go_enter Tryz.func53, Tryz.ntmps53
  go_wp2
  refine bodyPost_ret (results_tmp3 rfl _ _ _) rfl ?_
  exact ⟨rfl, rfl⟩

set_option maxRecDepth 100000 in
set_option maxHeartbeats 1000000 in
theorem refTakeText_fine (b off n c q : Nat) (l : List UInt8) (w : World) (h : Sl w (.slice (some ⟨b, off, none⟩) n c) (bv l)) (hl : l.length = n) (hq' : q < 256) (hc : w.cell? ⟨b, off, none⟩ = some (.int .u8 (q : Int))) (hn : 0 < n) (hn' : 1 + q ≤ n) (hm : n ≤ 140737488355328) :
    Calls Tryz.prog 53 #[.slice (some ⟨b, off, none⟩) n c] w fun e w' => ∃ v', e = .returned (.tuple #[.string ⟨((l.take (1 + q)).drop 1).toArray⟩, v', .int .i64 0]) ∧ Sl w' v' (bv (l.drop (1 + q))) ∧ Below w.heap.size w w' := by
  obtain ⟨A1, c1, hc1, hs1⟩ := run_cut el23 h 1 (1 + q) (by omega) (by rw [bv_length]; omega) (some (.int .i64 1)) (some (.int .i64 ((1 + q : Nat) : Int))) (.inl rfl) (.inl rfl)
  obtain ⟨A2, c2, hc2, hs2⟩ := run_cut el23 h (1 + q) (bv l).length (by rw [bv_length]; omega) (Nat.le_refl _) (some (.int .i64 ((1 + q : Nat) : Int))) none (.inl rfl) (.inr ⟨rfl, rfl⟩)
  rw [bv_take, bv_drop] at hs1
  rw [List.take_length, bv_drop] at hs2
  rw [bv_length, hl] at hc2 hs2
  simp only [Int.natCast_add, Int.natCast_one, Nat.add_sub_cancel_left] at hc1 hc2 hs1
  generalize (l.take (1 + q)).drop 1 = s at *
  have r1 := run_str (P := Tryz.prog) 28 9 5 Tryz.underlying28 Tryz.underlying5 Tryz.underlying9 _ _ hs1.drew
  have r2 := run_str (P := Tryz.prog) 28 9 5 Tryz.underlying28 Tryz.underlying5 Tryz.underlying9 _ _ (hs1.alloc (.cells #[] 5)).drew
  have H1 := Lib.hid hs1
  have H2 := Lib.hid hs2
  have H := Lib.hid h
  have HL := Lib.hid hl
  clear hs1 hs2 h hl
  have hz : ((n : Int) == 0) = false := by rw [beq_eq_false_iff_ne]; omega
  go_enter Tryz.func53, Tryz.ntmps53
  go_upto_region 4 with (fail)
  go_region_law
    (refine step_app el23 rfl (.tmp 28) (.tmp 31) rfl w.heap.size (.slice (some ⟨w.heap.size, 0, none⟩) 0 0) 0 [] rfl (ownsRow_none w _ (Nat.le_refl _) 5) _ _ rfl (H2.out.alloc _).drew (bv_one _) (by rw [bv_length, List.length_drop, HL.out]; omega) (by simp) ?_
     intro vA wA hownA hgA
     have hbA := below_lit2 hgA
     have r3 := run_str (P := Tryz.prog) 28 9 5 Tryz.underlying28 Tryz.underlying5 Tryz.underlying9 _ _ (H1.out.below hbA))
  all_goals
    go_wp2
    refine bodyPost_ret (results_tmp3 rfl _ _ _) rfl ?_
    exact ⟨vA, rfl, Sl.of_own hownA, hbA⟩

theorem refTakeText_any (v : Value) (l : List UInt8) (w : World) (h : Sl w v (bv l)) (hl : l.length ≤ 140737488355328) :
    Calls Tryz.prog 53 #[v] w fun e w' => ∃ v', e = .returned (.tuple #[.string ⟨(takeT l).1.toArray⟩, v', .int .i64 ((takeT l).2.2 : Nat)]) ∧ Sl w' v' (bv (takeT l).2.1) ∧ Below w.heap.size w w' := by
  cases l with
  | nil =>
    obtain ⟨A, c, rfl⟩ := h.bytes_nil
    refine (refTakeText_nil A c w).mono ?_
    rintro e w' ⟨rfl, rfl⟩
    exact ⟨_, rfl, Sl.nil_ _, Below.refl _ _⟩
  | cons q t =>
    obtain ⟨b, off, c, rfl, h1, h2, h3, h4, h5⟩ := h.bytes_cons
    have hq := q.toNat_lt
    by_cases k2 : t.length < q.toNat
    · have e : takeT (q :: t) = ([], [], 11) := by simp only [takeT]; rw [if_pos k2]
      rw [e]
      refine (refTakeText_few b off _ c q.toNat w (by omega) h4 (by omega) (by omega)).mono ?_
      rintro e w' ⟨rfl, rfl⟩
      exact ⟨_, rfl, Sl.nil_ _, Below.refl _ _⟩
    · have e : takeT (q :: t) = (t.take q.toNat, t.drop q.toNat, 0) := by simp only [takeT]; rw [if_neg k2]
      rw [e]
      refine (refTakeText_fine b off _ c q.toNat (q :: t) w h (by simp) (by omega) h4 (by omega) (by omega) (by rw [List.length_cons] at hl; omega)).mono ?_
      rintro e w' ⟨v', rfl, hs, hb⟩
      refine ⟨v', ?_, ?_, hb⟩
      · rw [show 1 + q.toNat = q.toNat + 1 by omega]; simp
      · rw [show 1 + q.toNat = q.toNat + 1 by omega] at hs; simpa using hs
end Go.Proofs.YtaacjpcckinaiaaGreat.Num
set_option linter.unusedVariables false
set_option maxRecDepth 100000
set_option linter.unusedSimpArgs false
namespace Go.Proofs.YtaacjpcckinaiaaGreat.Num
open Go.RowKit Go.Shelf

/-- What is read is read as before, when a row has turned that lies elsewhere. -/
theorem _root_.Go.Proofs.YtaacjpcckinaiaaGreat.Sl.grown {w w' : World} {v : Value} {xs : List Value} {row : Option Nat} (h : Sl w v xs) (hg : w.grownBy w' row) (hne : ∀ b, v.ownBlock = some b → row ≠ some b) : Sl w' v xs := by
  rcases h with h | ⟨b, off, c, rfl, h1, h2, h3, h4⟩
  · exact .inl h
  · refine .inr ⟨b, off, c, rfl, h1, h2, Nat.lt_of_lt_of_le h3 hg.size, fun j u hu => ?_⟩
    have hb := hg.block b h3 (fun e => hne b rfl e.symm)
    have := h4 j u hu
    simp only [World.cell?] at this ⊢
    rw [hb]
    exact this

set_option maxHeartbeats 1000000 in
theorem refTakeList_nil (A : Option Addr) (c : Nat) (w : World) : Calls Tryz.prog 51 #[.slice A 0 c] w fun e w' => e = .returned (.tuple #[.slice none 0 0, .slice none 0 0, .int .i64 11]) ∧ w = w' := by
  go_enter Tryz.func51, Tryz.ntmps51
  go_wp2
  refine bodyPost_ret (results_tmp3 rfl _ _ _) rfl ?_
  exact ⟨rfl, rfl⟩

set_option maxRecDepth 100000 in
set_option maxHeartbeats 2000000 in
theorem refTakeList_cons (b off c : Nat) (q : UInt8) (t : List UInt8) (w : World) (h : Sl w (.slice (some ⟨b, off, none⟩) (t.length + 1) c) (bv (q :: t))) (hb : b < w.heap.size) (hc : w.cell? ⟨b, off, none⟩ = some (.int .u8 (q.toNat : Int))) (hl : t.length < 140737488355328) :
    Calls Tryz.prog 51 #[.slice (some ⟨b, off, none⟩) (t.length + 1) c] w fun e w' => ∃ v1 v2, e = .returned (.tuple #[v1, v2, .int .i64 ((takeL (q :: t)).2.2 : Nat)]) ∧ Slf w.heap.size w' v1 (ivn (takeL (q :: t)).1) ∧ Sl w' v2 (bv (takeL (q :: t)).2.1) ∧ Below w.heap.size w w' := by
  have hq := q.toNat_lt
  have H := Lib.hid h
  have HC := Lib.hid hc
  clear h hc
  have hz : ((t.length : Int) + 1 == 0) = false := by rw [beq_eq_false_iff_ne]; omega
  go_enter Tryz.func51, Tryz.ntmps51
  go_wp2_with (first
    | (with_reducible show wpList _ _ _ (Oper.mk _ (Op.slice _ _ _ _ _) _ _ _ _ :: _) _ _
       refine wpList_cut el23 rfl (.tmp 14) (some (.const (.int .i64 1))) none rfl _ _ rfl H.out 1 (bv (q :: t)).length (by rw [bv_length, List.length_cons]; omega) (Nat.le_refl _) (.inl rfl) (.inr ⟨rfl, rfl⟩) ?_
       intro A1 c1 hs1
       rw [List.take_length, bv_drop] at hs1))
  go_loopw [5, 6, 7] (fun v5 v6 v7 W => ∃ (k : Nat) (ns : List Nat) (r : List UInt8), k ≤ q.toNat ∧ v7 = .int .i64 k ∧ r.length ≤ t.length ∧ W.ownsRow w.heap.size 3 1 v5 k (ivn ns) ∧ Sl W v6 (bv r) ∧ (∀ g, v6.ownBlock = some g → v5.ownBlock ≠ some g) ∧ takeL (q :: t) = joinN ns (takeN (q.toNat - k) r) ∧ Below w.heap.size w W)
    (fun _ _ v7 _ => q.toNat - (intOf v7).toNat)
  case atStart => exact ⟨0, [], t, Nat.zero_le _, rfl, Nat.le_refl _, World.ownsRow_nil _ _ _ _, hs1, (by intro g _ e; cases e), by rw [joinN_nil]; rfl, Below.refl _ _⟩
  case round =>
    obtain ⟨k, ns, r, hk, rfl, hrl, hrow, hsr, hsep, htake, hB⟩ := hrel
    have HT := Lib.hid htake
    have HSR := Lib.hid hsr
    have HSEP := Lib.hid hsep
    have hcw : wr.cell? ⟨b, off, none⟩ = some (.int .u8 (q.toNat : Int)) := (hB.cell hb).trans HC.out
    clear htake hsr hsep
    by_cases hlt : k < q.toNat
    · have HE := num_takeE r
      have HN := takeE_err r
      have HJ : ∀ h : (takeE r).2.2 = 0, joinN ns (takeN (q.toNat - k) r) = joinN (ns ++ [(takeE r).1]) (takeN (q.toNat - (k + 1)) (r.drop (takeE r).2.1)) := fun h => by
        rw [show q.toNat - k = (q.toNat - (k + 1)) + 1 by omega]; exact joinN_step _ _ _ h
      have HF : ∀ h : (takeE r).2.2 ≠ 0, joinN ns (takeN (q.toNat - k) r) = ([], [], (takeE r).2.2) := fun h => by
        rw [show q.toNat - k = (q.toNat - (k + 1)) + 1 by omega]; exact joinN_fall _ _ _ h
      have hN := fun v W h => refTake_own v r W h (by omega)
      simp only [restT] at hN
      generalize hr : takeE r = rr at *
      obtain ⟨m, k1, er⟩ := rr
      dsimp only at HE HJ HF hN
      have HA := Lib.hid hN
      have HJ' := Lib.hid HJ
      have HF' := Lib.hid HF
      clear hN HE HN HJ HF hr
      by_cases he : er = 0
      · subst he
        simp only [if_true] at HA
        go_wp2_with (first
          | (go_at_call 50; refine (HA.out _ _ HSR.out).mono ?_; rintro e w1 ⟨v1, rfl, ho1, hb1⟩)
          | (at_builtin; refine wpList_app1 el22 rfl _ _ rfl w.heap.size u5 k (ivn ns) rfl ((ownsRow_below hrow hb1).alloc _) _ (.int .i64 (m : Int)) rfl (Sl.one _ _ _) rfl (by omega) (by have := hB.size; have := hb1.size; simp; omega) (w1.heap.size + 1) (by simp) ?_; intro g2 cap2 w2 hown2 hg2 hat2))
        go_roundw
        case rel =>
          have hs1 := hB.size
          have hs2 := hb1.size
          have hbl : Below w.heap.size wr w2 := ((hb1.mono hB.size).alloc (by omega) _).grown hg2 (by simp; omega) (fun g e => (hrow.lt g e).1)
          have hlt1 : ∀ g, v1.ownBlock = some g → wr.heap.size ≤ g ∧ g < w1.heap.size := fun g e => ho1.lt g e
          have hlt5 : ∀ g, u5.ownBlock = some g → w.heap.size ≤ g ∧ g < wr.heap.size := fun g e => hrow.lt g e
          refine ⟨k + 1, ns ++ [m], r.drop k1, by omega, by simp, by rw [List.length_drop]; omega, by rw [ivn_snoc]; exact hown2, ((Sl.of_own ho1).alloc _).grown hg2 ?_, ?_, ?_, hB.trans hbl⟩
          · intro g e e2
            have := hlt1 g e
            have := hlt5 g e2
            omega
          · intro g e e2
            have h1 := hlt1 g e
            have e3 : g2 = g := by simpa [Value.ownBlock] using e2
            rcases hat2 with h | h
            · have := hlt5 g2 h
              omega
            · omega
          · rw [HT.out, HJ'.out trivial]
        case measure => simp [intOf]; omega
      · have hz2 : (er : Int) != 0 := by rw [bne_iff_ne]; omega
        have hfin : takeL (q :: t) = ([], [], er) := by rw [HT.out, HF'.out he]
        have HFIN := Lib.hid hfin
        clear hfin he
        go_wp2_with (go_at_call 50; refine (HA.out _ _ HSR.out).mono ?_; rintro e w1 ⟨v1, rfl, ho1, hb1⟩)
        refine bodyPost_ret (results_tmp3 rfl _ _ _) rfl ?_
        refine ⟨.slice none 0 0, .slice none 0 0, ?_, ?_, ?_, hB.trans (hb1.mono hB.size)⟩
        · rw [HFIN.out]; rfl
        · rw [HFIN.out]; exact Slf.nil_ _ _
        · rw [HFIN.out]; exact Sl.nil_ _
    · obtain rfl : k = q.toNat := by omega
      have htk := HT.out
      rw [Nat.sub_self, joinN_end] at htk
      have HTK := Lib.hid htk
      clear htk
      go_wp2_with (at_builtin; refine wpList_app el23 rfl (.tmp 39) (.tmp 40) rfl wr.heap.size (.slice (some ⟨wr.heap.size, 0, none⟩) 0 0) 0 [] rfl (ownsRow_none wr _ (Nat.le_refl _) 5) _ _ rfl (HSR.out.alloc _) (bv_one _) (by rw [bv_length]; omega) (by simp) ?_; intro vA wA hownA hgA hatA)
      refine bodyPost_ret (results_tmp3 rfl _ _ _) rfl ?_
      have hbl := below_lit hgA
      refine ⟨u5, vA, ?_, ?_, ?_, hB.trans (hbl.mono hB.size)⟩
      · rw [HTK.out]; rfl
      · rw [HTK.out]; exact (Slf.of_own hrow).below hbl
      · rw [HTK.out]; exact Sl.of_own hownA

theorem refTakeList_any (v : Value) (l : List UInt8) (w : World) (h : Sl w v (bv l)) (hl : l.length ≤ 140737488355328) :
    Calls Tryz.prog 51 #[v] w fun e w' => ∃ v1 v2, e = .returned (.tuple #[v1, v2, .int .i64 ((takeL l).2.2 : Nat)]) ∧ Slf w.heap.size w' v1 (ivn (takeL l).1) ∧ Sl w' v2 (bv (takeL l).2.1) ∧ Below w.heap.size w w' := by
  cases l with
  | nil =>
    obtain ⟨A, c, rfl⟩ := h.bytes_nil
    refine (refTakeList_nil A c w).mono ?_
    rintro e w' ⟨rfl, rfl⟩
    exact ⟨.slice none 0 0, .slice none 0 0, rfl, Slf.nil_ _ _, Sl.nil_ _, Below.refl _ _⟩
  | cons q t =>
    obtain ⟨b, off, c, rfl, h1, h2, h3, h4, h5⟩ := h.bytes_cons
    exact refTakeList_cons b off c q t w h h3 h4 (by rw [List.length_cons] at hl; omega)
end Go.Proofs.YtaacjpcckinaiaaGreat.Num
