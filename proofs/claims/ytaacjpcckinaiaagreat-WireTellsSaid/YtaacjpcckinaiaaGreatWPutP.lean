/- The parts of a message, put. -/
import Derived.Test.YtaacjpcckinaiaaGreatWCh
set_option linter.unusedVariables false
set_option maxRecDepth 100000
set_option linter.unusedSimpArgs false
namespace Go.Proofs.YtaacjpcckinaiaaGreat
open Go.RowKit Go.Shelf Ms

/-- What a part's numbers must be, to be put. -/
def OkD (m : M) (l : List Int) : D → Prop
  | .u8 => 0 ≤ m.kind ∧ m.kind ≤ 255
  | .int o more => okI o = true ∧ 0 ≤ geti m o + more ∧ geti m o + more ≤ 1099511627776
  | .err => 0 ≤ m.code ∧ m.code ≤ 1099511627776
  | .flag o => okF o = true
  | .text => m.it.key.size ≤ 255
  | .list => Num.okL l
  | .pair => OkIt m.it
  | .side => m.code = 0 → OkIt m.it
theorem textE_ok {S : ByteArray} (h : S.size ≤ 255) : Num.textE S.data.toList = 0 := by
  have hz : S.data.toList.length = S.size := by show S.data.toList.length = S.data.size; exact Array.length_toList
  unfold Num.textE; rw [if_neg (by omega)]
theorem nB_7 (n : Int) (h : n ≤ 1099511627776) : (nB n).length ≤ 7 := by
  unfold nB
  rw [Num.num_length]
  have := Num.dig_len6 n.toNat (by omega)
  omega

def pf (k : Nat) : FuncId := [111, 87, 87, 87].getD k 0
def pt (k : Nat) : FuncId := [113, 88, 88, 109].getD k 0
def pcp (g1 g2 h2 g3 h3 g4 h4 : Nat) (k : Nat) : Array Value := [#[ptr g1], #[ptr g2, ptr h2], #[ptr g3, ptr h3], #[ptr g4, ptr h4]].getD k #[]
def pct (g1 g2 h2 g3 h3 q4 n4 f4 : Nat) (k : Nat) : Array Value := [#[ptr g1], #[ptr h2, ptr g2], #[ptr h3, ptr g3], #[ptr q4, ptr n4, ptr f4]].getD k #[]
def pseg (x : It) (k : Nat) : List UInt8 := [Num.textB x.key.data.toList, nB x.val, nB x.ver, nB (b2i x.gone)].getD k []
theorem pair_cell (g1 g2 h2 g3 h3 g4 h4 q4 n4 f4 k : Nat) (hk : k < 4) : (pairC g1 g2 h2 g3 h3 g4 h4 q4 n4 f4)[k * 2]? = some (.func (.func (pf k)) #[] (pcp g1 g2 h2 g3 h3 g4 h4 k)) ∧ (pairC g1 g2 h2 g3 h3 g4 h4 q4 n4 f4)[k * 2 + 1]? = some (.func (.func (pt k)) #[] (pct g1 g2 h2 g3 h3 q4 n4 f4 k)) := by
  match k, hk with
  | 0, _ => exact ⟨rfl, rfl⟩
  | 1, _ => exact ⟨rfl, rfl⟩
  | 2, _ => exact ⟨rfl, rfl⟩
  | 3, _ => exact ⟨rfl, rfl⟩
theorem pf_enters (k : Nat) (hk : k < 4) (args : Array Value) (w : World) : (callFunc (pf k) args).run Tryz.prog w = .ok (.enter (pf k) args) w := by
  match k, hk with
  | 0, _ => exact enters_of Tryz.func111 (by kernel_rfl) rfl args w
  | 1, _ => exact enters_of Tryz.func87 (by kernel_rfl) rfl args w
  | 2, _ => exact enters_of Tryz.func87 (by kernel_rfl) rfl args w
  | 3, _ => exact enters_of Tryz.func87 (by kernel_rfl) rfl args w
theorem pt_enters (k : Nat) (hk : k < 4) (args : Array Value) (w : World) : (callFunc (pt k) args).run Tryz.prog w = .ok (.enter (pt k) args) w := by
  match k, hk with
  | 0, _ => exact enters_of Tryz.func113 (by kernel_rfl) rfl args w
  | 1, _ => exact enters_of Tryz.func88 (by kernel_rfl) rfl args w
  | 2, _ => exact enters_of Tryz.func88 (by kernel_rfl) rfl args w
  | 3, _ => exact enters_of Tryz.func109 (by kernel_rfl) rfl args w

theorem pair_put {w : World} {b : Nat} {x : Int} {s g g1 g2 h2 g3 h3 g4 h4 q4 n4 f4 : Nat} (H : IsQ w b x s g g1 g2 h2 g3 h3 g4 h4 q4 n4 f4) (m : M) (lv : Value) (hr : Rw w b 27 (m.c lv)) (hx : x = b2i m.it.gone) (ok : OkIt m.it) :
    Calls Tryz.prog 128 #[ptr s] w fun e w' => ∃ v', e = .returned v' ∧ Sl w' v' (bv (itB m.it)) ∧ Below w.heap.size w w' := by
  subst hx
  obtain ⟨k1, k2, k3, k4, k5⟩ := ok
  have hgb := b2i_le m.it.gone
  have hb := hr.lt
  have hseg : (List.range 4).flatMap (pseg m.it) = itB m.it := by
    rw [show List.range 4 = [0, 1, 2, 3] from rfl]
    simp only [List.flatMap_cons, List.flatMap_nil, List.append_nil]
    rfl
  rw [← hseg]
  have hc : ∀ (o : Nat) (v : Value), (m.c lv)[o]? = some v → ∀ W, Below w.heap.size w W → W.cell? ⟨b, o, none⟩ = some v := fun o v ho W hW => (hW.cell (p := ⟨b, o, none⟩) hb).trans ((hr.cell o).trans ho)
  refine row_put s g 4 _ w H.bs H.rg (by omega) pf pt (pcp g1 g2 h2 g3 h3 g4 h4) (pct g1 g2 h2 g3 h3 q4 n4 f4) (pair_cell g1 g2 h2 g3 h3 g4 h4 q4 n4 f4) pf_enters (pseg m.it) (fun k hk => ?_) (fun k hk W hW => ?_)
  · match k, hk with
    | 0, _ => show (Num.textB m.it.key.data.toList).length ≤ 1000; rw [textB_len _ (by omega)]; omega
    | 1, _ => have := nB_7 m.it.val (by omega); show (nB m.it.val).length ≤ 1000; omega
    | 2, _ => have := nB_7 m.it.ver (by omega); show (nB m.it.ver).length ≤ 1000; omega
    | 3, _ => have := nB_7 (b2i m.it.gone) (by omega); show (nB (b2i m.it.gone)).length ≤ 1000; omega
  · have hbW := Nat.lt_of_lt_of_le hb hW.size
    match k, hk with
    | 0, _ => exact text_put g1 ⟨b, 10, none⟩ m.it.key W (boxed_below H.b1 hW) hbW (hc 10 _ rfl W hW) (textE_ok (by omega))
    | 1, _ =>
      have := numI_put g2 h2 ⟨b, 11, none⟩ m.it.val 0 W (boxed_below H.b2 hW) (boxed_below H.c2 hW) hbW (hc 11 _ rfl W hW) (by omega)
      rw [Int.add_zero] at this
      exact this
    | 2, _ =>
      have := numI_put g3 h3 ⟨b, 12, none⟩ m.it.ver 0 W (boxed_below H.b3 hW) (boxed_below H.c3 hW) hbW (hc 12 _ rfl W hW) (by omega)
      rw [Int.add_zero] at this
      exact this
    | 3, _ =>
      have hF := H.f4.kt (Kt.below hW) (T := T27) tp27
      have := numI_put g4 h4 ⟨n4, 0, none⟩ (b2i m.it.gone) 0 W hF.bg hF.bh hF.bn.lt hF.bn.cell (by omega)
      rw [Int.add_zero] at this
      exact this

set_option maxHeartbeats 1000000 in
theorem side_put0 (c r : Nat) (p : Addr) (s : Nat) (x : Int) (w : World) (hc : Boxed w c 114 (.pointer (some p))) (hp : w.cell? p = some (.int .i64 x)) (h0 : x ≠ 0) :
    Calls Tryz.prog 121 #[ptr c, ptr r] w fun e w' => ∃ v', e = .returned v' ∧ Sl w' v' (bv []) ∧ Below w.heap.size w w' := by
  have cc := hc.cell
  have hb : (x != 0) = true := by simp [h0]
  clear h0
  go_enter Tryz.func121, Tryz.ntmps121
  go_wp2
  go_ret
  exact ⟨_, rfl, Sl.nil_ _, Below.refl _ _⟩
set_option maxHeartbeats 1000000 in
theorem side_put1 (c r : Nat) (p : Addr) (s : Nat) (B : List UInt8) (w : World) (hc : Boxed w c 114 (.pointer (some p))) (hr : Rw w r 71 (partC 128 129 #[ptr s] #[ptr s])) (hp : w.cell? p = some (.int .i64 0))
    (hrow : Calls Tryz.prog 128 #[ptr s] w fun e w' => ∃ v', e = .returned v' ∧ Sl w' v' (bv B) ∧ Below w.heap.size w w') :
    Calls Tryz.prog 121 #[ptr c, ptr r] w fun e w' => ∃ v', e = .returned v' ∧ Sl w' v' (bv B) ∧ Below w.heap.size w w' := by
  have cc := hc.cell
  have cr : w.cell? ⟨r, 0, none⟩ = some (.func (.func 128) #[] #[ptr s]) := hr.cell 0
  have HR := Lib.hid hrow
  clear hrow
  go_enter Tryz.func121, Tryz.ntmps121
  go_wp2_with fail
  refine HR.out.mono ?_
  rintro e w' ⟨v', rfl, hs, hb⟩
  have HS := Lib.hid hs
  clear hs
  go_wp2
  go_ret
  exact ⟨_, rfl, HS.out, hb⟩

theorem listBy_len {l : List Int} (h : Num.okL l) : (Num.listBy l).length ≤ 2000 := by
  have : (Num.numsI l).length ≤ 7 * l.length := by
    unfold Num.numsI Num.nums
    obtain ⟨-, h⟩ := h
    induction l with
    | nil => simp
    | cons x l ih =>
      simp only [List.map_cons, List.flatMap_cons, List.length_append, List.length_cons]
      have hx := h x (by simp)
      unfold Num.ok1 at hx
      have a := nB_7 x (by omega)
      unfold nB at a
      have b := ih fun n hn => h n (by simp [hn])
      omega
  have := h.1
  unfold Num.listBy
  rw [if_pos h, List.length_cons]
  omega

/-- A part of a message, put. -/
theorem part_put {w : World} {b : Nat} {m : M} {A : Option Addr} {n c : Nat} {l : List Int} {v : Value} {d : D} (hd : PartIs w b m v d) (hr : Rw w b 27 (m.c (.slice A n c))) (hs : Sl w (.slice A n c) (iv l)) (hok : OkD m l d) :
    ∃ f t cp ct, v = partV f t cp ct ∧ (∀ args w, (callFunc f args).run Tryz.prog w = .ok (.enter f args) w) ∧ (dB m l d).length ≤ 2000 ∧ Calls Tryz.prog f cp w fun e w' => ∃ v', e = .returned v' ∧ Sl w' v' (bv (dB m l d)) ∧ Below w.heap.size w w' := by
  have hb := hr.lt
  cases d with
  | u8 =>
    obtain ⟨g, h, rfl, bg, bh⟩ := hd
    obtain ⟨k0, k1⟩ := hok
    have := numU_put g h ⟨b, 0, none⟩ m.kind 0 w bg bh hb (hr.cell 0) (by omega) ⟨k0, k1⟩
    rw [Int.add_zero] at this
    exact ⟨_, _, _, _, rfl, enters_of Tryz.func83 (by kernel_rfl) rfl, Nat.le_trans (nB_7 m.kind (by omega)) (by omega), this⟩
  | int o more =>
    obtain ⟨g, h, rfl, bg, bh⟩ := hd
    obtain ⟨ho, k0, k1⟩ := hok
    have hcell : w.cell? ⟨b, o, none⟩ = some (.int .i64 (geti m o)) := by
      rw [hr.cell o]
      simp only [okI, Bool.or_eq_true, beq_iff_eq] at ho
      rcases ho with ((((rfl | rfl) | rfl) | rfl) | rfl) | rfl <;> rfl
    exact ⟨_, _, _, _, rfl, enters_of Tryz.func87 (by kernel_rfl) rfl, Nat.le_trans (nB_7 _ k1) (by omega), numI_put g h ⟨b, o, none⟩ (geti m o) more w bg bh hb hcell ⟨k0, k1⟩⟩
  | err =>
    obtain ⟨g, h, rfl, bg, bh⟩ := hd
    obtain ⟨k0, k1⟩ := hok
    have := numE_put g h ⟨b, 14, none⟩ m.code 0 w bg bh hb (hr.cell 14) (by omega)
    rw [Int.add_zero] at this
    exact ⟨_, _, _, _, rfl, enters_of Tryz.func119 (by kernel_rfl) rfl, Nat.le_trans (nB_7 m.code (by omega)) (by omega), this⟩
  | flag o =>
    obtain ⟨g, h, q, n', f, rfl, F, hn⟩ := hd
    have hgb := b2i_le (getb m o)
    have := numI_put g h ⟨n', 0, none⟩ (b2i (getb m o)) 0 w F.bg F.bh F.bn.lt F.bn.cell (by omega)
    rw [Int.add_zero] at this
    exact ⟨_, _, _, _, rfl, enters_of Tryz.func87 (by kernel_rfl) rfl, Nat.le_trans (nB_7 _ (by omega)) (by omega), this⟩
  | text =>
    obtain ⟨g, rfl, bg⟩ := hd
    have hk : m.it.key.size ≤ 255 := hok
    exact ⟨_, _, _, _, rfl, enters_of Tryz.func111 (by kernel_rfl) rfl, by show (Num.textB m.it.key.data.toList).length ≤ 2000; rw [textB_len _ hk]; omega, text_put g ⟨b, 10, none⟩ m.it.key w bg hb (hr.cell 10) (textE_ok hk)⟩
  | list =>
    obtain ⟨g, rfl, bg⟩ := hd
    have hk : Num.okL l := hok
    exact ⟨_, _, _, _, rfl, enters_of Tryz.func115 (by kernel_rfl) rfl, listBy_len hk, list_put g ⟨b, 9, none⟩ A n c l w bg hb (hr.cell 9) hs (listE_ok hk)⟩
  | pair =>
    obtain ⟨s, g, g1, g2, h2, g3, h3, g4, h4, q4, n4, f4, rfl, H⟩ := hd
    have hk : OkIt m.it := hok
    exact ⟨_, _, _, _, rfl, enters_of Tryz.func128 (by kernel_rfl) rfl, Nat.le_trans (itB_le hk) (by omega), pair_put H m _ hr rfl hk⟩
  | side =>
    obtain ⟨c', r, s, rfl, bc, br, hP⟩ := hd
    refine ⟨_, _, _, _, rfl, enters_of Tryz.func121 (by kernel_rfl) rfl, ?_, ?_⟩
    · by_cases h0 : m.code = 0
      · show (if m.code = 0 then itB m.it else []).length ≤ 2000
        rw [if_pos h0]
        exact Nat.le_trans (itB_le (hok h0)) (by omega)
      · show (if m.code = 0 then itB m.it else []).length ≤ 2000
        rw [if_neg h0]
        simp
    · by_cases h0 : m.code = 0
      · show Calls _ _ _ _ fun e w' => ∃ v', e = .returned v' ∧ Sl w' v' (bv (if m.code = 0 then itB m.it else [])) ∧ Below w.heap.size w w'
        rw [if_pos h0]
        obtain ⟨s', g, g1, g2, h2, g3, h3, g4, h4, q4, n4, f4, e, H⟩ := hP
        have : s = s' := by
          simp only [partV, partC, Value.agg.injEq] at e
          simp at e
          exact e
        subst this
        exact side_put1 c' r ⟨b, 14, none⟩ s _ w bc br (by rw [hr.cell 14, ← h0]; rfl) (pair_put H m _ hr rfl (hok h0))
      · show Calls _ _ _ _ fun e w' => ∃ v', e = .returned v' ∧ Sl w' v' (bv (if m.code = 0 then itB m.it else [])) ∧ Below w.heap.size w w'
        rw [if_neg h0]
        exact side_put0 c' r ⟨b, 14, none⟩ s m.code w bc (hr.cell 14) h0
end Go.Proofs.YtaacjpcckinaiaaGreat
