/- How a number is read from a row of bytes: 'number' and 'Take'. -/
import Derived.Test.YthdlehbelbapeaaPut
import Derived.Deep.Cut
namespace Go.Proofs.Ythdlehbelbapeaa
open Go.RowKit Go.Shelf
attribute [local go_sem] Oper.semAt_some

/-- A slice that reads as bytes, the first one of which is there. -/
theorem Sl.bytes_cons {w : World} {v : Value} {h : UInt8} {t : List UInt8} (H : Sl w v (bv (h :: t))) :
    ∃ b off c, v = .slice (some ⟨b, off, none⟩) (t.length + 1) c ∧ t.length + 1 ≤ c ∧ c ≤ maxLen ∧ b < w.heap.size ∧ w.cell? ⟨b, off, none⟩ = some (.int .u8 (h.toNat : Int)) ∧ ∀ j (hj : j < t.length), w.cell? ⟨b, off + 1 + j, none⟩ = some (.int .u8 (t[j].toNat : Int)) := by
  rcases H with ⟨_, h0⟩ | ⟨b, off, c, rfl, h1, h2, h3, h4⟩
  · simp [bv] at h0
  · rw [bv_length] at h1 ⊢
    refine ⟨b, off, c, rfl, h1, h2, h3, ?_, fun j hj => ?_⟩
    · exact h4 0 _ rfl
    · have := h4 (j + 1) _ (by rw [bv_get _ _ (by simpa using hj)])
      rw [show off + 1 + j = off + (j + 1) by omega]
      simpa using this
theorem Sl.bytes_nil {w : World} {v : Value} (H : Sl w v (bv [])) : ∃ A c, v = .slice A 0 c := by
  rcases H with ⟨rfl, _⟩ | ⟨b, off, c, rfl, _⟩
  · exact ⟨_, _, rfl⟩
  · exact ⟨_, _, rfl⟩

set_option maxRecDepth 100000 in
set_option maxHeartbeats 400000 in
theorem number_nil (A : Option Addr) (c : Nat) (w : World) : Calls Try.prog 27 #[.slice A 0 c] w fun e w' => e = .returned (.tuple #[.int .i64 0, .int .i64 0, .int .i64 11]) ∧ Below w.heap.size w w' := by
  go_enter Try.func27, Try.ntmps27
  go_wp2
  refine wp_scope_fwd ?_
  go_wp2
  go_step3
  refine ⟨_, rfl, ?_⟩
  go_wp2
  refine nog_ret ?_
  exact bodyPost_ret (v := .tuple #[.int .i64 0, .int .i64 0, .int .i64 11]) (by simp [results, Try.results27, go_sem]) rfl ⟨rfl, (Below.refl _ _).alloc (Nat.le_refl _) _⟩

set_option maxRecDepth 100000 in
set_option maxHeartbeats 400000 in
theorem number_big (b off n c q : Nat) (w : World) (hq : 6 < q) (hq' : q < 256) (hb : b < w.heap.size) (hc : w.cell? ⟨b, off, none⟩ = some (.int .u8 (q : Int))) (hn : 0 < n) :
    Calls Try.prog 27 #[.slice (some ⟨b, off, none⟩) n c] w fun e w' => e = .returned (.tuple #[.int .i64 0, .int .i64 0, .int .i64 12]) ∧ Below w.heap.size w w' := by
  go_enter Try.func27, Try.ntmps27
  go_wp2
  refine wp_scope_fwd ?_
  go_wp2
  go_step3
  refine ⟨_, rfl, ?_⟩
  go_wp2
  refine nog_ret ?_
  exact bodyPost_ret (v := .tuple #[.int .i64 0, .int .i64 0, .int .i64 12]) (by simp [results, Try.results27, go_sem]) rfl ⟨rfl, (Below.refl _ _).alloc (Nat.le_refl _) _⟩

set_option maxRecDepth 100000 in
set_option maxHeartbeats 400000 in
theorem number_few (b off n c q : Nat) (w : World) (hq : q ≤ 6) (hb : b < w.heap.size) (hc : w.cell? ⟨b, off, none⟩ = some (.int .u8 (q : Int))) (hn : 0 < n) (hn' : n < 1 + q) :
    Calls Try.prog 27 #[.slice (some ⟨b, off, none⟩) n c] w fun e w' => e = .returned (.tuple #[.int .i64 0, .int .i64 0, .int .i64 11]) ∧ Below w.heap.size w w' := by
  go_enter Try.func27, Try.ntmps27
  go_wp2
  refine wp_scope_fwd ?_
  go_wp2
  go_step3
  refine ⟨_, rfl, ?_⟩
  go_wp2
  refine nog_ret ?_
  exact bodyPost_ret (v := .tuple #[.int .i64 0, .int .i64 0, .int .i64 11]) (by simp [results, Try.results27, go_sem]) rfl ⟨rfl, (Below.refl _ _).alloc (Nat.le_refl _) _⟩

set_option maxRecDepth 100000 in
set_option maxHeartbeats 400000 in
theorem number_nought (b off n c q : Nat) (w : World) (hq0 : 0 < q) (hq : q ≤ 6) (hb : b < w.heap.size) (hc : w.cell? ⟨b, off, none⟩ = some (.int .u8 (q : Int))) (hc1 : w.cell? ⟨b, off + 1, none⟩ = some (.int .u8 0)) (hn : 1 + q ≤ n) :
    Calls Try.prog 27 #[.slice (some ⟨b, off, none⟩) n c] w fun e w' => e = .returned (.tuple #[.int .i64 0, .int .i64 0, .int .i64 12]) ∧ Below w.heap.size w w' := by
  go_enter Try.func27, Try.ntmps27
  go_wp2
  refine wp_scope_fwd ?_
  go_wp2
  go_step3
  refine ⟨_, rfl, ?_⟩
  go_wp2
  refine nog_ret ?_
  exact bodyPost_ret (v := .tuple #[.int .i64 0, .int .i64 0, .int .i64 12]) (by simp [results, Try.results27, go_sem]) rfl ⟨rfl, (Below.refl _ _).alloc (Nat.le_refl _) _⟩

theorem ofInt_i64 (a : Nat) (ha : a < 9223372036854775808) : (BitVec.ofInt 64 (a : Int)).toNat = a := by
  rw [BitVec.ofInt_natCast, BitVec.toNat_ofNat]; exact Nat.mod_eq_of_lt (by omega)
theorem val_snoc_or (pre : List UInt8) (x : UInt8) (h : pre.length ≤ 5) : bits .or .i64 (wrap64 ((val pre : Int) * 256)) (x.toNat : Int) = (val (pre ++ [x]) : Int) := by
  have hp := val_lt pre
  have h5 : 256 ^ pre.length ≤ 256 ^ 5 := Nat.pow_le_pow_right (by omega) h
  have hx := x.toNat_lt
  have e1 : wrap64 ((val pre : Int) * 256) = ((val pre * 256 : Nat) : Int) := by unfold wrap64; omega
  have e2 : val pre * 256 ||| x.toNat = val pre * 256 + x.toNat := by
    have := Nat.shiftLeft_add_eq_or_of_lt hx (val pre)
    rw [Nat.shiftLeft_eq] at this
    exact this.symm
  rw [e1, val_snoc, ← e2]
  have hb : val pre * 256 ||| x.toNat < 2 ^ 63 := Nat.or_lt_two_pow (by omega) (by omega)
  show IntKind.i64.wrap ((BitVec.ofInt 64 ((val pre * 256 : Nat) : Int) ||| BitVec.ofInt 64 (x.toNat : Int)).toNat : Int) = _
  rw [BitVec.toNat_or, ofInt_i64 _ (by omega), ofInt_i64 _ (by omega), IntKind.wrap_i64]
  omega

theorem getD_zero (t : List UInt8) (h : 0 < t.length) : t.getD 0 0 = t[0] := by
  cases t with
  | nil => simp at h
  | cons a r => rfl
theorem Sl.cut1 {b off c q : Nat} {t : List UInt8} {w : World} (hb : b < w.heap.size) (hn : q ≤ t.length) (hcc : t.length + 1 ≤ c) (hcm : c ≤ maxLen)
    (hcs : ∀ j (hj : j < t.length), w.cell? ⟨b, off + 1 + j, none⟩ = some (.int .u8 (t[j].toNat : Int))) : Sl w (.slice (some ⟨b, if c = 1 then off else off + 1, none⟩) q (c - 1)) (bv (t.take q)) := by
  have hl : (bv (t.take q)).length = q := by rw [bv_length, List.length_take]; omega
  refine .inr ⟨b, _, c - 1, by rw [hl], by omega, by omega, hb, fun j u hu => ?_⟩
  have hj : j < q := by
    rcases Nat.lt_or_ge j q with h | h
    · exact h
    · rw [List.getElem?_eq_none (by omega)] at hu; cases hu
  rw [if_neg (by omega), hcs j (by omega)]
  rw [bv_get _ _ (by rw [List.length_take]; omega)] at hu
  simpa using hu

set_option maxRecDepth 100000 in
set_option maxHeartbeats 2000000 in
theorem number_loop (b off n c : Nat) (q : UInt8) (t : List UInt8) (w : World) (hq : q.toNat ≤ 6) (hb : b < w.heap.size) (hn : q.toNat ≤ t.length) (hcc : t.length + 1 ≤ c) (hcm : c ≤ maxLen) (hc : w.cell? ⟨b, off, none⟩ = some (.int .u8 (q.toNat : Int)))
    (hcs : ∀ j (hj : j < t.length), w.cell? ⟨b, off + 1 + j, none⟩ = some (.int .u8 (t[j].toNat : Int))) (h0 : 0 < q.toNat → t.getD 0 0 ≠ 0) :
    Calls Try.prog 27 #[.slice (some ⟨b, off, none⟩) (t.length + 1) c] w fun e w' => e = .returned (.tuple (if 1099511627776 < val (t.take q.toNat) then #[.int .i64 0, .int .i64 0, .int .i64 12] else #[.int .i64 (val (t.take q.toNat)), .int .i64 (1 + q.toNat : Nat), .int .i64 0])) ∧ Below w.heap.size w w' := by
  have hq256 := q.toNat_lt
  have h1 : 0 < q.toNat → ∃ d : Nat, ((d : Int) == 0) = false ∧ w.cell? ⟨b, off + 1, none⟩ = some (.int .u8 (d : Int)) := fun h => by
    have hl : 0 < t.length := by omega
    have := hcs 0 hl
    refine ⟨t[0].toNat, ?_, by simpa using this⟩
    rw [beq_eq_false_iff_ne]
    intro e
    refine h0 h ?_
    rw [getD_zero _ hl]
    exact UInt8.toNat_inj.1 (by simpa using e)
  refine (callsIn_wide (n := 9)).1 (callsIn_of_wp_marks Try.func27 rfl trivial ?_ rfl)
  simp only [Try.ntmps27, List.size_toArray, List.length_cons, List.length_nil, Nat.reduceAdd, Nat.reduceSub, Array.replicate_succ, Array.replicate_zero, List.push_toArray, List.append_toArray, List.nil_append, List.cons_append]
  refine wpIn_wide.2 ?_
  have HS := Sl.cut1 hb hn hcc hcm hcs
  clear hcs
  obtain ⟨o1, ho1⟩ : ∃ o1, (if c = 1 then off else off + 1) = o1 := ⟨_, rfl⟩
  rw [ho1] at HS
  have HO := Lib.hid ho1
  clear ho1
  have H1 := Lib.hid h1
  clear h1
  go_wp2
  refine wp_scope_fwd ?_
  go_upto_region 5 with (fail)
  refine wp_to (fun a' W' => W' = w.alloc (.cells #[.int .i64 0] 3) ∧ ∃ u22 u23 u24 u25 u26 u27 u28, a' = { tmps := #[Value.slice (some { block := b, off := off }) (t.length + 1) c, undef,
          Value.pointer (some { block := w.heap.size, off := 0 }), Value.int IntKind.i64 (1 + ↑q.toNat),
          Value.int IntKind.i64 0, undef, Value.slice (some { block := b, off := off }) (t.length + 1) c,
          Value.int IntKind.i64 (↑t.length + 1), Value.bool false,
          Value.slice (some { block := b, off := off }) (t.length + 1) c,
          Value.pointer (some { block := b, off := off }), Value.int IntKind.u8 ↑q.toNat,
          Value.bool (decide (6 < (q.toNat : Int))), Value.slice (some { block := b, off := off }) (t.length + 1) c,
          Value.pointer (some { block := b, off := off }), Value.int IntKind.u8 ↑q.toNat,
          Value.int IntKind.i64 ↑q.toNat, Value.int IntKind.i64 (1 + ↑q.toNat),
          Value.slice (some { block := b, off := off }) (t.length + 1) c, Value.int IntKind.i64 (↑t.length + 1),
          Value.int IntKind.i64 (1 + ↑q.toNat), Value.bool (decide ((t.length : Int) + 1 < 1 + ↑q.toNat)), u22, u23, u24, u25, u26, u27, u28, .bool false, undef, undef, undef, undef, undef, undef, undef, undef, undef, undef, undef, undef, undef, undef], defers := [] }) ?_ ?_
  · by_cases hq0 : 0 < q.toNat
    · obtain ⟨d, hd, hcd⟩ := H1.out hq0
      go_wp2
      exact ⟨trivial, _, _, _, _, _, _, _, rfl⟩
    · go_wp2
  rintro a' W' ⟨rfl, u22, u23, u24, u25, u26, u27, u28, rfl⟩
  go_upto_region 6 with (fail)
  refine wp_to (fun a' W' => W' = (w.alloc (.cells #[.int .i64 0] 3)).alloc (.cells #[.slice (some ⟨b, o1, none⟩) q.toNat (c - 1)] 23) ∧ a' = { tmps := #[Value.slice (some { block := b, off := off }) (t.length + 1) c, undef,
          Value.pointer (some { block := w.heap.size, off := 0 }), Value.int IntKind.i64 (1 + ↑q.toNat),
          Value.int IntKind.i64 0, undef, Value.slice (some { block := b, off := off }) (t.length + 1) c,
          Value.int IntKind.i64 (↑t.length + 1), Value.bool false,
          Value.slice (some { block := b, off := off }) (t.length + 1) c,
          Value.pointer (some { block := b, off := off }), Value.int IntKind.u8 ↑q.toNat,
          Value.bool (decide (6 < (q.toNat : Int))), Value.slice (some { block := b, off := off }) (t.length + 1) c,
          Value.pointer (some { block := b, off := off }), Value.int IntKind.u8 ↑q.toNat,
          Value.int IntKind.i64 ↑q.toNat, Value.int IntKind.i64 (1 + ↑q.toNat),
          Value.slice (some { block := b, off := off }) (t.length + 1) c, Value.int IntKind.i64 (↑t.length + 1),
          Value.int IntKind.i64 (1 + ↑q.toNat), Value.bool (decide ((t.length : Int) + 1 < 1 + ↑q.toNat)), u22, u23, u24, u25, u26, u27, u28, .bool false, Value.slice (some { block := b, off := off }) (t.length + 1) c, Value.int IntKind.i64 (1 + ↑q.toNat), .slice (some ⟨b, o1, none⟩) q.toNat (c - 1), .func (.func 35) #[] #[.pointer (some ⟨w.heap.size + 1, 0, none⟩)], undef, undef, undef, undef, undef, undef, undef, undef, undef, undef], defers := [] }) ?_ ?_
  · by_cases hc1 : c ≤ 1
    · obtain rfl : off = o1 := by have := HO.out; rwa [if_pos (by omega)] at this
      go_wp2_with (go_at_call 32; refine (values23_any _ _ _ _).mono ?_; rintro e w' ⟨rfl, rfl⟩)
      all_goals
        obtain rfl : c = 1 := by omega
        exact ⟨rfl, rfl⟩
    · obtain rfl : off + 1 = o1 := by have := HO.out; rwa [if_neg (by omega)] at this
      go_wp2_with (go_at_call 32; refine (values23_any _ _ _ _).mono ?_; rintro e w' ⟨rfl, rfl⟩)
      all_goals first | exact ⟨trivial, trivial⟩ | exact ⟨rfl, rfl⟩
  rintro a' W' ⟨rfl, rfl⟩
  have bN := Boxed.new w 3 (.int .i64 0)
  have bS := Boxed.new (w.alloc (.cells #[.int .i64 0] 3)) 23 (.slice (some ⟨b, o1, none⟩) q.toNat (c - 1))
  rw [World.size_alloc] at bS
  have hB0 : Below w.heap.size w ((w.alloc (.cells #[.int .i64 0] 3)).alloc (.cells #[.slice (some ⟨b, o1, none⟩) q.toNat (c - 1)] 23)) := ((Below.refl _ w).alloc (Nat.le_refl _) _).alloc (by simp) _
  have hlt : (t.take q.toNat).length = q.toNat := by rw [List.length_take]; omega
  have HL := Lib.hid hlt
  clear hlt
  go_wp2_with fail
  refine wp_range (gf := 35) (lb := #[.pointer (some ⟨w.heap.size + 1, 0, none⟩)]) rfl (enters_of Try.func35 (by kernel_rfl) rfl)
    (vals23_stops 8 (w.heap.size + 1) (fun k => k = b) (.slice (some ⟨b, o1, none⟩) q.toNat (c - 1)) (t.take q.toNat) (by rw [HL.out]; omega) _ (by simp) bS.cell ((HS.alloc _).alloc _) (by intro k hk; simpa [Value.ownBlock] using hk.symm)) (by rintro k rfl; simp; omega) (fun _ => rfl)
    (fun pre W => (Boxed W w.heap.size 3 (.int .i64 (val pre))) ∧ Below w.heap.size w W)
    (fun _ _ _ => False)
    (OwnFrom.and (Own.from (boxed_own w.heap.size 3 (fun pre => .int .i64 (val pre))) _) (ownFrom_below (Nat.le_refl _) (by simp; omega)))
    (fun _ _ _ _ _ hs _ _ => hs)
    ⟨bN.alloc _, hB0⟩
    (fun x => { tmps := #[Value.slice (some { block := b, off := off }) (t.length + 1) c, undef,
          Value.pointer (some { block := w.heap.size, off := 0 }), Value.int IntKind.i64 (1 + ↑q.toNat),
          Value.int IntKind.i64 0, .int .u8 (x.toNat : Int), Value.slice (some { block := b, off := off }) (t.length + 1) c,
          Value.int IntKind.i64 (↑t.length + 1), Value.bool false,
          Value.slice (some { block := b, off := off }) (t.length + 1) c,
          Value.pointer (some { block := b, off := off }), Value.int IntKind.u8 ↑q.toNat,
          Value.bool (decide (6 < (q.toNat : Int))), Value.slice (some { block := b, off := off }) (t.length + 1) c,
          Value.pointer (some { block := b, off := off }), Value.int IntKind.u8 ↑q.toNat,
          Value.int IntKind.i64 ↑q.toNat, Value.int IntKind.i64 (1 + ↑q.toNat),
          Value.slice (some { block := b, off := off }) (t.length + 1) c, Value.int IntKind.i64 (↑t.length + 1),
          Value.int IntKind.i64 (1 + ↑q.toNat), Value.bool (decide ((t.length : Int) + 1 < 1 + ↑q.toNat)), u22, u23, u24, u25, u26, u27, u28, .bool false, Value.slice (some { block := b, off := off }) (t.length + 1) c, Value.int IntKind.i64 (1 + ↑q.toNat), .slice (some ⟨b, o1, none⟩) q.toNat (c - 1), .func (.func 35) #[] #[.pointer (some ⟨w.heap.size + 1, 0, none⟩)], .int .u8 (x.toNat : Int), undef, undef, undef, undef, undef, undef, undef, undef, undef], defers := [] }) ?assign ?body ?done ?stop
  case assign =>
    intro l x W K hK
    gi_wp2
    exact hK
  case body =>
    rintro l pre x W ⟨hv, hW⟩ hlt
    rw [HL.out] at hlt
    have hc := hv.cell
    have hf := hv.frozen
    have hx := x.toNat_lt
    have hp := val_lt pre
    have hor := val_snoc_or pre x (by omega)
    have HR := Lib.hid hor
    clear hor
    gi_wp2
    rw [HR.out]
    refine ⟨(KeepsOthers.setCell _ _ _).from _, Kps.set _ ?_ _, hv.set _, hW.setCell (p := ⟨w.heap.size, 0, none⟩) (Nat.le_refl _) _⟩
    rintro k rfl
    show k ≠ w.heap.size
    omega
  case done =>
    rintro D ys W hDs rfl ⟨hv, hW⟩ hK
    have hc := hv.cell
    have hf := hv.frozen
    have hD : w.heap.size < D := by simp at hDs; omega
    have HK := Lib.hid hK
    clear hK
    by_cases hbig : 1099511627776 < val (t.take q.toNat)
    · go_wp2
      go_step3
      refine ⟨_, rfl, ?_⟩
      go_wp2
      refine nog_ret ?_
      have hK' := (KeepsOthers.setCell W ⟨w.heap.size, 0, none⟩ (.int .i64 0)).same D _ HK.out rfl
      refine ⟨by simp, .inl ⟨_, _, rfl, run_takeDeferred hK', ?_⟩⟩
      have hc5 := cell_kept (hv.set (.int .i64 0)).cell (grownBy_putObj' _ D (.deferred none)) (fun r e => by cases e; exact ⟨_, hK', rfl⟩)
      refine ⟨.tuple #[.int .i64 0, .int .i64 0, .int .i64 12], by simp [results, Try.results27, go_sem, hc5], by rw [if_pos hbig], (hW.setCell (p := ⟨w.heap.size, 0, none⟩) (Nat.le_refl _) _).trans (belowK_b (w := w) (Nat.le_refl _) _ D _ _ (by omega) hK' rfl rfl)⟩
    · go_wp2
      refine fwd_ret ?_
      have hK' := (KeepsOthers.setCell W ⟨w.heap.size, 0, none⟩ (.int .i64 (val (t.take q.toNat)))).same D _ HK.out rfl
      refine ⟨by simp, .inl ⟨_, _, rfl, run_takeDeferred hK', ?_⟩⟩
      have hc5 := cell_kept (hv.set (.int .i64 (val (t.take q.toNat)))).cell (grownBy_putObj' _ D (.deferred none)) (fun r e => by cases e; exact ⟨_, hK', rfl⟩)
      refine ⟨.tuple #[.int .i64 (val (t.take q.toNat)), .int .i64 (1 + q.toNat : Nat), .int .i64 0], by simp [results, Try.results27, go_sem, hc5], by rw [if_neg hbig], (hW.setCell (p := ⟨w.heap.size, 0, none⟩) (Nat.le_refl _) _).trans (belowK_b (w := w) (Nat.le_refl _) _ D _ _ (by omega) hK' rfl rfl)⟩
  case stop =>
    rintro D c pre W _ _ h _
    exact h.elim

theorem number_any (v : Value) (l : List UInt8) (w : World) (h : Sl w v (bv l)) :
    Calls Try.prog 27 #[v] w fun e w' => e = .returned (.tuple #[.int .i64 ((takeE l).1 : Nat), .int .i64 ((takeE l).2.1 : Nat), .int .i64 ((takeE l).2.2 : Nat)]) ∧ Below w.heap.size w w' := by
  cases l with
  | nil =>
    obtain ⟨A, c, rfl⟩ := h.bytes_nil
    exact number_nil A c w
  | cons q t =>
    obtain ⟨b, off, c, rfl, h1, h2, h3, h4, h5⟩ := h.bytes_cons
    have hq := q.toNat_lt
    by_cases k1 : 6 < q.toNat
    · have e : takeE (q :: t) = (0, 0, 12) := by simp only [takeE]; rw [if_pos k1]
      rw [e]
      exact number_big b off _ c q.toNat w k1 (by omega) h3 h4 (by omega)
    by_cases k2 : t.length < q.toNat
    · have e : takeE (q :: t) = (0, 0, 11) := by simp only [takeE]; rw [if_neg k1, if_pos k2]
      rw [e]
      exact number_few b off _ c q.toNat w (by omega) h3 h4 (by omega) (by omega)
    by_cases k3 : 0 < q.toNat ∧ t.getD 0 0 = 0
    · have e : takeE (q :: t) = (0, 0, 12) := by simp only [takeE]; rw [if_neg k1, if_neg k2, if_pos (.inl k3)]
      rw [e]
      have hl : 0 < t.length := by omega
      refine number_nought b off _ c q.toNat w k3.1 (by omega) h3 h4 ?_ (by omega)
      have := h5 0 hl
      rw [getD_zero _ hl] at k3
      rw [k3.2] at this
      simpa using this
    refine (number_loop b off 0 c q t w (by omega) h3 (by omega) h1 h2 h4 h5 (fun h h0 => k3 ⟨h, h0⟩)).mono ?_
    rintro e w' ⟨rfl, hb⟩
    refine ⟨?_, hb⟩
    simp only [takeE]
    rw [if_neg k1, if_neg k2]
    by_cases k4 : 1099511627776 < val (t.take q.toNat)
    · rw [if_pos k4, if_pos (.inr k4)]; rfl
    · rw [if_neg k4, if_neg (by rintro (h | h); exact k3 h; exact k4 h)]; rfl

theorem Sl.form {w : World} {v : Value} {xs : List Value} (h : Sl w v xs) : ∃ A c, v = .slice A xs.length c := by
  rcases h with ⟨rfl, rfl⟩ | ⟨b, off, c, rfl, _⟩
  · exact ⟨_, _, rfl⟩
  · exact ⟨_, _, rfl⟩
/-- What stands behind a number; nothing with an error. -/
def restT (l : List UInt8) : List UInt8 := if (takeE l).2.2 = 0 then l.drop (takeE l).2.1 else []
theorem bv_drop (l : List UInt8) (k : Nat) : (bv l).drop k = bv (l.drop k) := by simp [bv]
theorem bv_take (l : List UInt8) (k : Nat) : (bv l).take k = bv (l.take k) := by simp [bv]

set_option maxHeartbeats 1000000 in
theorem Take_any (v : Value) (l : List UInt8) (w : World) (h : Sl w v (bv l)) (hl : l.length ≤ 140737488355328) :
    Calls Try.prog 17 #[v] w fun e w' => ∃ v', e = .returned (.tuple #[.int .i64 ((takeE l).1 : Nat), v', .int .i64 ((takeE l).2.2 : Nat)]) ∧ Sl w' v' (bv (restT l)) ∧ Below w.heap.size w w' := by
  have hN := number_any v l w h
  obtain ⟨A0, c0, rfl⟩ := h.form
  have hT := num_takeE l
  have hE := takeE_err l
  rw [restT]
  generalize hr : takeE l = r at *
  obtain ⟨n, k, er⟩ := r
  dsimp only at *
  have HN := Lib.hid hN
  clear hN
  by_cases he : er = 0
  · subst he
    obtain ⟨-, -, hk, -⟩ := hT rfl
    clear hE hr hT
    rw [if_pos rfl]
    have H := Lib.hid h
    clear h
    go_enter Try.func17, Try.ntmps17
    go_wp2
    refine wp_scope_fwd ?_
    go_wp2_with (first
      | (go_at_call 27; refine HN.out.mono ?_; rintro e w1 ⟨rfl, hb1⟩)
      | (with_reducible show wpList _ _ _ (Oper.mk _ (Op.slice _ _ _ _ _) _ _ _ _ :: _) _ _
         refine wpList_cut el23 rfl (.tmp 15) (some (.tmp 16)) none rfl _ _ rfl (H.out.below hb1) k (bv l).length (by rw [bv_length]; exact hk) (Nat.le_refl _) (.inl rfl) (.inr ⟨rfl, rfl⟩) ?_
         intro A1 c1 hs1
         rw [List.take_length, bv_drop] at hs1)
      | (go_at_call 28; refine (own_any _ _ _ hs1 (by rw [List.length_drop]; omega)).mono ?_; rintro e w2 ⟨v2, rfl, hs2, hb2⟩))
    refine fwd_ret ?_
    refine bodyPost_ret (results_tmp3 rfl _ _ _) rfl ?_
    exact ⟨v2, rfl, hs2, hb1.trans (hb2.mono hb1.size)⟩
  · have hz : (er : Int) != 0 := by rw [bne_iff_ne]; omega
    have hn : n = 0 := by
      rcases hE with h | h | h
      · exact absurd h he
      · injection h
      · injection h
    subst hn
    clear hE hr hT h
    rw [if_neg he]
    clear he
    go_enter Try.func17, Try.ntmps17
    go_wp2
    refine wp_scope_fwd ?_
    go_wp2_with (go_at_call 27; refine HN.out.mono ?_; rintro e w1 ⟨rfl, hb1⟩)
    go_step3
    refine ⟨_, rfl, ?_⟩
    go_wp2
    refine nog_ret ?_
    refine bodyPost_ret (results_tmp3 rfl _ _ _) rfl ?_
    exact ⟨_, rfl, Sl.nil_ _, hb1⟩
end Go.Proofs.Ythdlehbelbapeaa
