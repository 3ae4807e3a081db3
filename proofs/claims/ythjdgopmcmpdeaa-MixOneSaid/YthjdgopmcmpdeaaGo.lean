/- Where a row of bytes leads to: the iterator of a key's bytes, 'Go', and the document's own: for any key, from any number. -/
import Derived.Test.YthjdgopmcmpdeaaLeaf
import Derived.Test.YthjdgopmcmpdeaaRng
set_option linter.unusedVariables false
set_option linter.unusedSimpArgs false
namespace Go.Proofs.Ythjdgopmcmpdeaa
open Go.RowKit Go.Shelf
attribute [local go_sem] Oper.semAt_some

/-- From a place by all bytes. -/
def go (a : Int) (l : List UInt8) : Int := l.foldl (fun p x => nx p x.toNat) (pl a)
theorem go_nil (a : Int) : go a [] = pl a := rfl
theorem go_snoc (a : Int) (l : List UInt8) (x : UInt8) : go a (l ++ [x]) = nx (go a l) x.toNat := by unfold go; rw [List.foldl_append]; rfl
theorem go_bd (a : Int) (l : List UInt8) : 0 ≤ go a l ∧ go a l < 65536 := by
  suffices h : ∀ (l : List UInt8) (p : Int), (0 ≤ p ∧ p < 65536) → 0 ≤ l.foldl (fun p x => nx p x.toNat) p ∧ l.foldl (fun p x => nx p x.toNat) p < 65536 from h l _ (pl_bd a)
  intro l
  induction l with
  | nil => exact fun p h => h
  | cons x l ih => exact fun p h => ih _ (nx_bd _ _)
theorem go_pl (a : Int) (l : List UInt8) : go (pl a) l = go a l := by unfold go; rw [pl_pl]
theorem go_append (a : Int) (l r : List UInt8) : go a (l ++ r) = go (go a l) r := by
  have : go (go a l) r = r.foldl (fun p x => nx p x.toNat) (go a l) := by
    show r.foldl _ (pl (go a l)) = _
    rw [pl_of (go_bd a l)]
  rw [this]
  unfold go
  rw [List.foldl_append]
theorem go_inj (l : List UInt8) (a c : Int) : go a l = go c l ↔ pl a = pl c := by
  refine ⟨fun h => ?_, fun h => by rw [← go_pl a, ← go_pl c, h]⟩
  suffices hs : ∀ (l : List UInt8) (p q : Int), (0 ≤ p ∧ p < 65536) → (0 ≤ q ∧ q < 65536) → l.foldl (fun p x => nx p x.toNat) p = l.foldl (fun p x => nx p x.toNat) q → p = q from hs l _ _ (pl_bd a) (pl_bd c) h
  intro l
  induction l with
  | nil => exact fun p q _ _ h => h
  | cons x l ih =>
    intro p q hp hq h
    have := ih _ _ (nx_bd _ _) (nx_bd _ _) h
    have := nx_inj.1 this
    rwa [pl_of hp, pl_of hq] at this
/-- One byte another one: another place. -/
theorem go_one (a : Int) (l r : List UInt8) (x y : UInt8) (h : x ≠ y) : go a (l ++ x :: r) ≠ go a (l ++ y :: r) := by
  intro e
  rw [show l ++ x :: r = (l ++ [x]) ++ r by simp, show l ++ y :: r = (l ++ [y]) ++ r by simp, go_append a (l ++ [x]), go_append a (l ++ [y]), go_inj, pl_of (go_bd _ _), pl_of (go_bd _ _), go_snoc, go_snoc, nx_byte x.toNat_lt y.toNat_lt] at e
  exact h (UInt8.toNat_inj.1 e)

theorem S_len (S : ByteArray) : S.data.toList.length = S.size := by show S.data.toList.length = S.data.size; exact Array.length_toList
theorem run_idx (S : ByteArray) (k : Nat) (h : k < S.data.toList.length) (x : UInt8) (hx : S.data.toList[k] = x) (W : World) : (Instr.index 9 (.string S) (.int .i64 (k : Int))).run Try.prog W = .ok (.int .u8 (x.toNat : Int)) W := by
  subst hx
  have hs := S_len S
  rw [run_index_string W 9 S .i64 k Try.underlying9, dif_pos ⟨by omega, by omega⟩]
  rfl

set_option maxRecDepth 100000 in
set_option maxHeartbeats 2000000 in
theorem bytes_in (n : Nat) (l Bs : Nat) (S : ByteArray) (hreach : S.data.toList.length ≤ 9223372036854775807) (P : Nat → Prop) (hb : P Bs) (J Jx : List UInt8 → World → Prop)
    (hY : ∀ pre x W, J pre W → pre.length < S.data.toList.length → YieldAt Fence.wide (n - 1) Try.prog l #[.int .u8 (x.toNat : Int)] W fun e W' =>
      (e = .returned (.bool true) ∧ J (pre ++ [x]) W' ∧ Kps P W W') ∨ (e = .returned (.bool false) ∧ Jx (pre ++ [x]) W'))
    (W : World) (hBs : W.cell? ⟨Bs, 0, none⟩ = some (.string S)) (h0 : J [] W) :
    CallsIn Fence.wide n Try.prog 25 #[.func (.yield l) #[] #[], .pointer (some ⟨Bs, 0, none⟩)] W fun e W' => (∃ v, e = .returned v) ∧
      ((∃ ys, ys = S.data.toList ∧ J ys W') ∨ (∃ pre, pre <+: S.data.toList ∧ Jx pre W')) := by
  refine callsIn_of_wp Try.func25 rfl trivial ?_ rfl
  simp only [Try.ntmps25, List.size_toArray, List.length_cons, List.length_nil, Nat.reduceAdd, Nat.reduceSub, Array.replicate_succ, Array.replicate_zero, List.push_toArray, List.append_toArray, List.nil_append, List.cons_append]
  have HS := Lib.hid (S_len S)
  gi_wp2
  gi_loopw [6] (fun i wr => ∃ k : Nat, k ≤ S.data.toList.length ∧ i = .int .i64 k ∧ J (S.data.toList.take k) wr ∧ Kps P W wr)
    (fun i _ => S.data.toList.length - (intOf i).toNat)
  case atStart => exact ⟨0, Nat.zero_le _, rfl, by simpa using h0, Kps.refl _ _⟩
  case round =>
    obtain ⟨k, hk, rfl, hJs, hnx⟩ := hrel
    by_cases hlt : k < S.data.toList.length
    · have hcx := (hnx.cell (p := ⟨Bs, 0, none⟩) hb).trans hBs
      have hsz : k < S.size := by rw [← HS.out]; exact hlt
      obtain ⟨x, hx⟩ : ∃ x, S.data.toList[k] = x := ⟨_, rfl⟩
      have hix := fun W => run_idx S k hlt x hx W
      obtain ⟨fn, tmps, assign, body, hy, hR⟩ := hY (S.data.toList.take k) x wr hJs (by rw [List.length_take]; omega)
      rw [← hx, ← List.take_succ_eq_append_getElem hlt] at hR
      have HX := Lib.hid hx
      clear hx
      gi_wp2
      refine ⟨fun h => (by cases h), hR.mono ?_⟩
      rintro e W3 (⟨rfl, hJ3, hk3⟩ | ⟨rfl, hJx3⟩)
      · gi_wp2
        go_roundw
        case rel => exact ⟨k + 1, by omega, by simp, hJ3, hnx.trans hk3⟩
        case measure => simp [intOf]; omega
      · gi_wp2
        refine bodyPost_ret (results_none rfl _ _ _) rfl ?_
        exact ⟨⟨_, rfl⟩, .inr ⟨_, List.take_prefix _ _, hJx3⟩⟩
    · obtain rfl : k = S.data.toList.length := by omega
      have hg : ¬ (S.data.toList.length < S.size) := by rw [HS.out]; omega
      gi_wp2
      go_end0
      exact ⟨⟨_, rfl⟩, .inl ⟨S.data.toList, rfl, by rw [List.take_length] at hJs; exact hJs⟩⟩

theorem bytes_stops (n Bs : Nat) (P : Nat → Prop) (S : ByteArray) (hreach : S.data.toList.length ≤ 9223372036854775807) (w : World) (hBs : Bs < w.heap.size)
    (hc : w.cell? ⟨Bs, 0, none⟩ = some (.string S)) (hP : P Bs) :
    SeqStopsK Fence.wide n Try.prog 25 #[.pointer (some ⟨Bs, 0, none⟩)] (fun x : UInt8 => #[.int .u8 (x.toNat : Int)]) (Kps P) (fun ys => ys = S.data.toList) (fun pre => pre <+: S.data.toList) S.data.toList.length w := fun l J Jx W hW _ _ hY h0 =>
  bytes_in n l Bs S hreach P hP J Jx hY W ((hW.cell (p := ⟨Bs, 0, none⟩) hBs).trans hc) h0

theorem bytes_any (S : ByteArray) (w : World) : Calls Try.prog 23 #[.string S] w fun e w' => e = .returned (.func (.func 25) #[] #[.pointer (some ⟨w.heap.size, 0, none⟩)]) ∧ w' = w.alloc (.cells #[.string S] 9) := by
  go_enter Try.func23, Try.ntmps23
  go_wp2
  go_ret
  exact ⟨rfl, rfl⟩

set_option maxRecDepth 100000 in
set_option maxHeartbeats 2000000 in
theorem Go_any (a : Int) (S : ByteArray) (w : World) (ha : Num a) (hS : S.size ≤ 9223372036854775807) :
    Calls Try.prog 17 #[.int .i64 a, .string S] w fun e w' => e = .returned (.int .i64 (go a S.data.toList)) ∧ Below w.heap.size w w' := by
  have h1 := fun w => place_any a w ha
  refine (callsIn_wide (n := 9)).1 (callsIn_of_wp_marks Try.func17 rfl trivial ?_ rfl)
  simp only [Try.ntmps17, List.size_toArray, List.length_cons, List.length_nil, Nat.reduceAdd, Nat.reduceSub, Array.replicate_succ, Array.replicate_zero, List.push_toArray, List.append_toArray, List.nil_append, List.cons_append]
  refine wpIn_wide.2 ?_
  go_wp2_with fail
  refine (h1 _).mono ?_; rintro e w' ⟨rfl, rfl⟩
  go_wp2_with fail
  refine (bytes_any S _).mono ?_; rintro e w' ⟨rfl, rfl⟩
  go_wp2_with fail
  have b1 := (Boxed.new w 3 (.int .i64 (pl a))).alloc (.cells #[.string S] 9)
  have bz := Boxed.new (w.alloc (.cells #[.int .i64 (pl a)] 3)) 9 (.string S)
  have hB0 : Below w.heap.size w ((w.alloc (.cells #[.int .i64 (pl a)] 3)).alloc (.cells #[.string S] 9)) := ((Below.refl _ w).alloc (Nat.le_refl _) _).alloc (by simp) _
  have hz1 : (w.alloc (.cells #[.int .i64 (pl a)] 3)).heap.size = w.heap.size + 1 := by simp
  rw [hz1] at bz
  generalize hW1 : ((w.alloc (.cells #[.int .i64 (pl a)] 3)).alloc (.cells #[.string S] 9)) = W1 at *
  have hsz : W1.heap.size = w.heap.size + 1 + 1 := by rw [← hW1]; simp
  have HSZ := Lib.hid hsz
  have hsl := S_len S
  clear hsz hW1 hz1
  refine wp_range (gf := 25) (lb := #[.pointer (some ⟨w.heap.size + 1, 0, none⟩)]) rfl (enters_of Try.func25 (by kernel_rfl) rfl)
    (bytes_stops 8 (w.heap.size + 1) (fun k => k = w.heap.size + 1) S (by omega) W1 (by rw [HSZ.out]; omega) bz.cell rfl) (by rintro k rfl; rw [HSZ.out]; omega) (fun _ => rfl)
    (fun pre W => Boxed W w.heap.size 3 (.int .i64 (go a pre)) ∧ Below w.heap.size w W)
    (fun c pre W => False)
    (OwnFrom.and (Own.from (boxed_own w.heap.size 3 (fun pre => .int .i64 (go a pre))) _) (ownFrom_below (Nat.le_refl _) (by rw [HSZ.out]; omega)))
    (fun c => ownFrom_const _)
    ⟨b1, hB0⟩
    (fun x => { tmps := #[.int .i64 a, .string S, .pointer (some ⟨w.heap.size, 0, none⟩), undef, .int .i64 0, .int .u8 (x.toNat : Int), .int .i64 a, .int .i64 (pl a), .string S, .func (.func 25) #[] #[.pointer (some ⟨w.heap.size + 1, 0, none⟩)], .int .u8 (x.toNat : Int), undef, undef, undef, undef], defers := [] }) ?assign ?body ?done ?stop
  case assign =>
    intro l x W K hK
    gi_wp2
    exact hK
  case body =>
    rintro lp pre x W ⟨d1, hW⟩ hlt
    have e1 := d1.cell
    have f1 := d1.frozen
    have hs := go_snoc a pre x
    have k1 := go_bd a pre
    have hx := x.toNat_lt
    have hf := fun w => next_any (go a pre) x.toNat w (num_pl k1) (by omega)
    rw [← hs] at hf
    clear hs
    obtain ⟨q, hq⟩ : ∃ q, go a (pre ++ [x]) = q := ⟨_, rfl⟩
    rw [hq] at hf
    have HQ := Lib.hid hq
    clear hq
    generalize go a pre = p at *
    generalize x.toNat = xn at *
    gi_wp2_with (refine ⟨trivial, ?_⟩; gi_at_call 13; refine (CallsIn.inRound lp (callsIn_wide.2 (hf _))).mono ?_; rintro e w' ⟨rfl, rfl⟩)
    refine ⟨(KeepsOthers.setCell _ _ _).from _, ?_, by rw [HQ.out]; exact d1.set _, hW.setCell (p := ⟨w.heap.size, 0, none⟩) (Nat.le_refl _) _⟩
    refine Kps.set _ ?_ _
    rintro q rfl
    show w.heap.size + 1 ≠ w.heap.size
    omega
  case done =>
    rintro D ys W hDs rfl ⟨d1, hW⟩ hK
    have hD : w.heap.size < D := by rw [HSZ.out] at hDs; omega
    have e1 := d1.cell
    obtain ⟨g, hg⟩ : ∃ g, go a S.data.toList = g := ⟨_, rfl⟩
    rw [hg] at d1 e1
    have HG := Lib.hid hg
    clear hg
    go_wp2_with fail
    refine ⟨by simp, .inl ⟨_, _, rfl, run_takeDeferred hK, ?_⟩⟩
    exact ⟨.int .i64 g, by simp [results, Try.results17, go_sem], by rw [HG.out], hW.trans (belowK_b (w := w) (Nat.le_refl _) _ D _ _ (by omega) hK rfl rfl)⟩
  case stop =>
    rintro D c pre W hDs hp h hK
    exact h.elim

set_option maxRecDepth 100000 in
set_option maxHeartbeats 2000000 in
theorem Go_ref (a : Int) (S : ByteArray) (w : World) (ha : Num a) (hS : S.size ≤ 1000000) :
    Calls Try.prog 18 #[.int .i64 a, .string S] w fun e w' => e = .returned (.int .i64 (go a S.data.toList)) ∧ w = w' := by
  have h1 := fun w => place_ref a w ha
  have HS := Lib.hid (S_len S)
  obtain ⟨r, hr⟩ : ∃ r, go a S.data.toList = r := ⟨_, rfl⟩
  rw [hr]
  have HR := Lib.hid hr
  clear hr
  rw [← go_nil] at h1
  clear ha
  go_enter Try.func18, Try.ntmps18
  go_wp2_with fail
  refine (h1 _).mono ?_; rintro e w' ⟨rfl, rfl⟩
  go_wp2_with fail
  go_loop [0, 5] (fun p i => ∃ k : Nat, k ≤ S.data.toList.length ∧ i = .int .i64 k ∧ p = .int .i64 (go a (S.data.toList.take k))) (fun _ i => S.data.toList.length - (intOf i).toNat)
  case atStart => exact ⟨0, Nat.zero_le _, rfl, by rw [List.take_zero]⟩
  case round =>
    obtain ⟨k, hk, rfl, rfl⟩ := hrel
    by_cases hlt : k < S.data.toList.length
    · have hsz : k < S.size := by rw [← HS.out]; exact hlt
      obtain ⟨x, hx⟩ : ∃ x, S.data.toList[k] = x := ⟨_, rfl⟩
      have hix := fun W => run_idx S k hlt x hx W
      have hs := go_snoc a (S.data.toList.take k) x
      rw [← hx, ← List.take_succ_eq_append_getElem hlt, hx] at hs
      have k1 := go_bd a (S.data.toList.take k)
      have hxn := x.toNat_lt
      have hf := fun w => next_ref (go a (S.data.toList.take k)) x.toNat w (num_pl k1) (by omega)
      have HSN := Lib.hid hs
      have HLT := Lib.hid hlt
      clear hx hs hlt
      generalize go a (S.data.toList.take k) = p at *
      generalize x.toNat = xn at *
      go_wp2_with fail
      refine (hf _).mono ?_; rintro e w' ⟨rfl, rfl⟩
      go_wp2
      go_round
      case rel => exact ⟨k + 1, HLT.out, by go_num, by rw [HSN.out]⟩
      case measure => have := HLT.out; simp [intOf]; omega
    · have hk2 : k = S.data.toList.length := by omega
      have hsz : ¬ k < S.size := by rw [← HS.out]; omega
      have hg : go a (S.data.toList.take k) = r := by rw [hk2, List.take_length, HR.out]
      rw [hg]
      clear hk2 hg hlt
      go_wp2
      go_ret
      exact ⟨rfl, rfl⟩

/-- A key's place and its error. -/
def ofP (l : List UInt8) : Int := if l.length = 0 ∨ 20 < l.length then 0 else go 7 l
def ofE (l : List UInt8) : Int := if l.length = 0 ∨ 20 < l.length then 2 else 0
theorem ofP_bd (l : List UInt8) : 0 ≤ ofP l ∧ ofP l < 65536 := by
  unfold ofP
  split
  · omega
  · exact go_bd _ _
theorem ofE_two (l : List UInt8) : ofE l = 0 ∨ ofE l = 2 := by unfold ofE; split <;> simp

set_option maxRecDepth 100000 in
set_option maxHeartbeats 2000000 in
theorem Of_any (S : ByteArray) (w : World) : Calls Try.prog 9 #[.string S] w fun e w' => e = .returned (.tuple #[.int .i64 (ofP S.data.toList), .int .i64 (ofE S.data.toList)]) ∧ Below w.heap.size w w' := by
  have h1 := fun w h => Go_any 7 S w (num_pl (by omega)) h
  unfold ofP ofE
  rw [S_len]
  by_cases hz : S.size = 0 ∨ 20 < S.size
  · rw [if_pos hz, if_pos hz]
    clear h1
    by_cases h0 : S.size = 0
    · clear hz
      go_enter Try.func9, Try.ntmps9
      go_wp2_with fail
      refine wp_scope_fwd ?_
      go_wp2_with fail
      go_step3
      refine fwd_goto _ rfl ?_
      go_wp2
      refine nog_ret ?_
      go_ret2
      exact ⟨rfl, Below.refl _ _⟩
    · have h2 : 20 < S.size := by omega
      have h3 : ((S.size : Int) == 0) = false := by rw [beq_eq_false_iff_ne]; omega
      clear hz h0
      go_enter Try.func9, Try.ntmps9
      go_wp2_with fail
      refine wp_scope_fwd ?_
      go_wp2_with fail
      go_step3
      refine fwd_goto _ rfl ?_
      go_wp2
      refine nog_ret ?_
      go_ret2
      exact ⟨rfl, Below.refl _ _⟩
  · rw [if_neg hz, if_neg hz]
    have h3 : ((S.size : Int) == 0) = false := by rw [beq_eq_false_iff_ne]; omega
    have h2 : S.size ≤ 20 := by omega
    have h4 := fun w => h1 w (by omega)
    clear hz h1
    generalize go 7 S.data.toList = g at *
    go_enter Try.func9, Try.ntmps9
    go_wp2_with fail
    refine wp_scope_fwd ?_
    go_wp2_with fail
    refine (h4 _).mono ?_; rintro e w' ⟨rfl, hb⟩
    have HB := Lib.hid hb
    clear hb
    go_wp2
    refine fwd_ret ?_
    go_ret2
    exact ⟨rfl, HB.out⟩

set_option maxRecDepth 100000 in
set_option maxHeartbeats 2000000 in
theorem Of_ref (S : ByteArray) (w : World) : Calls Try.prog 10 #[.string S] w fun e w' => e = .returned (.tuple #[.int .i64 (ofP S.data.toList), .int .i64 (ofE S.data.toList)]) ∧ w = w' := by
  have h1 := fun w h => Go_ref 7 S w (num_pl (by omega)) h
  unfold ofP ofE
  rw [S_len]
  by_cases hz : S.size = 0 ∨ 20 < S.size
  · rw [if_pos hz, if_pos hz]
    clear h1
    by_cases h0 : S.size = 0
    · clear hz
      go_enter Try.func10, Try.ntmps10
      go_wp2
      go_ret2
      exact ⟨rfl, rfl⟩
    · have h2 : 20 < S.size := by omega
      have h3 : ¬ (S.size : Int) < 1 := by omega
      clear hz h0
      go_enter Try.func10, Try.ntmps10
      go_wp2
      go_ret2
      exact ⟨rfl, rfl⟩
  · rw [if_neg hz, if_neg hz]
    have h3 : 1 ≤ S.size := by omega
    have h2 : S.size ≤ 20 := by omega
    have h4 := fun w => h1 w (by omega)
    clear hz h1
    generalize go 7 S.data.toList = g at *
    go_enter Try.func10, Try.ntmps10
    go_wp2_with fail
    refine (h4 _).mono ?_; rintro e w' ⟨rfl, rfl⟩
    go_wp2
    go_ret2
    exact ⟨rfl, rfl⟩
end Go.Proofs.Ythjdgopmcmpdeaa
