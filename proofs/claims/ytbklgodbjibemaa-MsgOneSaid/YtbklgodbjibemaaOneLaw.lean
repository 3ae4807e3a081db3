/- 'MsgOne': the walk of the law: a message that may be may not be with something that its kind does not have. -/
import Derived.Test.YtbklgodbjibemaaWakes
set_option linter.unusedVariables false
set_option linter.unusedSimpArgs false
namespace Go.Proofs.Ytbklgodbjibemaa
open Go.RowKit Go.Shelf

theorem getB_val {m : M} (h : getB m = true) : (m.code = 0 ∨ m.code = 201) ∧ 0 ≤ m.it.val := by
  unfold getB at h
  simp only [Bool.or_eq_true, Bool.and_eq_true, beq_iff_eq, itEq_iff] at h
  rcases h with ⟨h1, h2⟩ | ⟨h1, h2⟩
  · simp only [pairB, valB, Bool.and_eq_true, decide_eq_true_eq] at h2
    exact ⟨.inl h1, h2.1.2.1⟩
  · exact ⟨.inr h1, by rw [h2]; decide⟩
theorem right_parts {m : M} {l : List Int} (h : rightB m l = true) : (m.code = 0 ∨ m.code = 200 ∨ m.code = 201) ∧ 0 ≤ m.key ∧ 0 ≤ m.place ∧ -1 ≤ m.pred ∧ 0 ≤ m.it.val := by
  obtain ⟨_, ⟨hb, _⟩, hh⟩ := rightB_iff.1 h
  obtain ⟨kind, call, frm, to, key, slow, done, place, pred, it, code⟩ := m
  have n0 : noIt.val = 0 := rfl
  by_cases h4 : kind = 4
  · subst h4
    simp [bareM, headM, M.head, noM, hasB, place_iff] at hb hh
    obtain ⟨_, e1, e2, e3, e4⟩ := hb
    simp only [e1, e2, e3, e4, n0]
    exact ⟨by simp, hh.1, by omega, by omega, by omega⟩
  by_cases h5 : kind = 5
  · subst h5
    simp [bareM, headM, M.head, noM, hasB, pairB, valB] at hb hh
    obtain ⟨e1, _, _, e2, e3, e4⟩ := hb
    simp only [e1, e2, e3, e4]
    exact ⟨by simp, by omega, by omega, by omega, hh.1.2.1⟩
  by_cases h6 : kind = 6
  · subst h6
    simp [bareM, headM, M.head, noM, hasB, pairB, valB] at hb hh
    obtain ⟨e1, _, _, e2, e3, e4⟩ := hb
    simp only [e1, e2, e3, e4]
    exact ⟨by simp, by omega, by omega, by omega, hh.1.1.2.1⟩
  by_cases h7 : kind = 7
  · subst h7
    simp [bareM, headM, M.head, noM, hasB, place_iff] at hb hh
    obtain ⟨e1, _, _, e2, e3, e4⟩ := hb
    simp only [e1, e2, e3, e4, n0]
    exact ⟨by simp, by omega, by omega, by omega, by omega⟩
  by_cases h10 : kind = 10
  · subst h10
    simp [bareM, headM, M.head, noM, hasB, place_iff] at hb hh
    obtain ⟨e1, _, e2, e3, e4⟩ := hb
    simp only [e1, e2, e3, e4, n0]
    exact ⟨by simp, by omega, hh.1, by omega, by omega⟩
  by_cases h11 : kind = 11
  · subst h11
    simp [bareM, headM, M.head, noM, hasB] at hb hh
    obtain ⟨e1, _, _, e2, e3, e4⟩ := hb
    simp only [e1, e2, e3, e4, n0]
    exact ⟨by omega, by omega, by omega, by omega, by omega⟩
  by_cases h12 : kind = 12
  · subst h12
    have hg : getB _ = true := hh
    have := getB_val hg
    simp [bareM, headM, M.head, noM] at hb
    obtain ⟨e1, _, _, e2, e3⟩ := hb
    simp only [e1, e2, e3]
    exact ⟨by have := this.1; simp at this; omega, by omega, by omega, by omega, this.2⟩
  simp [bareM, headM, M.head, noM, h4, h5, h6, h7, h10, h11, h12] at hb
  obtain ⟨e1, _, _, e2, e3, e4, e5⟩ := hb
  simp only [e1, e2, e3, e4, e5, n0]
  exact ⟨by simp, by omega, by omega, by omega, by omega⟩

/-- The nine. -/
def mk9 (m : M) (n : Int) : Nat → M
  | 0 => { m with to := m.frm }
  | 1 => { m with call := m.call + 1048576 * n }
  | 2 => { m with kind := 0 }
  | 3 => { m with frm := 65536 + n }
  | 4 => { m with code := 5 }
  | 5 => { m with key := -n }
  | 6 => { m with place := -n }
  | 7 => { m with pred := -1 - n }
  | _ => { m with it := { m.it with val := -n } }
theorem mk9_not {m : M} {l : List Int} {n : Int} (h : rightB m l = true) (h1 : 1 ≤ n) (h2 : n ≤ 60000) (k : Nat) (hk : k < 9) : rightB (mk9 m n k) l = false := by
  rw [Bool.eq_false_iff]
  intro h'
  obtain ⟨a1, a2, a3, a4, a5⟩ := right_parts h'
  obtain ⟨o1, o2, o3, o4, o5, o6, o7⟩ := (rightB_iff.1 h).1
  obtain ⟨q1, q2, q3, q4, q5, q6, q7⟩ := (rightB_iff.1 h').1
  match k, hk with
  | 0, _ => exact q5 rfl
  | 1, _ =>
    have e : askerI (mk9 m n 1) = askerI m := rfl
    rw [e] at q7
    have q7 : m.call + 1048576 * n ≤ (askerI m + 1) * 1048576 := q7
    omega
  | 2, _ => exact absurd q1 (by show ¬ (0 : Int) < 0; decide)
  | 3, _ =>
    have : 0 ≤ 65536 + n ∧ 65536 + n < 65536 := place_iff.1 q3
    omega
  | 4, _ => exact absurd a1 (by show ¬ ((5 : Int) = 0 ∨ (5 : Int) = 200 ∨ (5 : Int) = 201); decide)
  | 5, _ => have : (0 : Int) ≤ -n := a2; omega
  | 6, _ => have : (0 : Int) ≤ -n := a3; omega
  | 7, _ => have : (-1 : Int) ≤ -1 - n := a4; omega
  | 8, _ => have : (0 : Int) ≤ -n := a5; omega
theorem mk9_same {m : M} {l : List Int} {n : Int} (h : rightB m l = true) (h1 : 1 ≤ n) (h2 : n ≤ 60000) (k : Nat) (hk : k < 9) : same (mk9 m n k) m l l = false := by
  rw [Bool.eq_false_iff]
  intro h'
  have := mk9_not h h1 h2 k hk
  rw [(same_iff.1 h').1, h] at this
  cases this
theorem mk9_kind {m : M} (n : Int) (h : 0 ≤ m.kind) (k : Nat) : 0 ≤ (mk9 m n k).kind := by
  unfold mk9
  split <;> first | exact h | exact Int.le_refl _

/-! ### An array of nine messages -/
structure A9 (w : World) (b : Nat) (F : Nat → Array Value) : Prop where
  lt : b < w.heap.size
  cell : ∀ i j v, i < 9 → (F i)[j]? = some v → w.cell? ⟨b, i * 15 + j, none⟩ = some v
  free : ∀ j, w.frozen? ⟨b, j, none⟩ = false
theorem A9.below {w w' : World} {b : Nat} {F : Nat → Array Value} (h : A9 w b F) (hb : Below w.heap.size w w') : A9 w' b F :=
  ⟨Nat.lt_of_lt_of_le h.lt hb.size, fun i j v hi hv => (hb.cell (p := ⟨b, i * 15 + j, none⟩) h.lt).trans (h.cell i j v hi hv), fun j => by
    have := h.free j
    unfold World.frozen? at *
    rwa [hb.block b h.lt]⟩
theorem A9.run {w : World} {b : Nat} {F : Nat → Array Value} (h : A9 w b F) (i : Nat) (hi : i < 9) (hs : (F i).size = 15) : (Instr.loadAt 27 (.pointer (some ⟨b, i * 15, none⟩))).run Try.prog w = .ok (.agg (F i)) w := by
  obtain ⟨d, hu, hd⟩ := agg27.hu
  have := run_loadAt_mid (P := Try.prog) w b (i * 15) 27 (F i).toList d (fun j v hv => h.cell i j v hi (by simpa using hv)) hu hd (by rw [agg27.hi]; simp [hs])
  simpa using this
theorem A9.setRow {w : World} {b : Nat} {F : Nat → Array Value} (h : A9 w b F) (hF : ∀ i, (F i).size = 15) (k : Nat) (hk : k < 9) (c : Array Value) (hc : c.size = 15) : A9 (w.setCells b (k * 15) c.toList) b (fun i => if i = k then c else F i) := by
  have hsome : ∀ j, j < c.toList.length → (w.cell? ⟨b, k * 15 + j, none⟩).isSome = true := fun j hj => by
    have hj : j < 15 := by simpa [hc] using hj
    rw [h.cell k j ((F k)[j]'(by rw [hF]; exact hj)) hk (Array.getElem?_eq_getElem _)]
    rfl
  refine ⟨?_, fun i j v hi hv => ?_, fun j => by rw [World.frozen?_setCells]; exact h.free j⟩
  · have := World.isSome_setCells b c.toList (k * 15) w ⟨b, k * 15, none⟩ (by have := hsome 0 (by simp [hc]); simpa using this)
    obtain ⟨u, hu⟩ := Option.isSome_iff_exists.1 this
    exact World.block_lt_of_cell? _ _ hu
  · by_cases hik : i = k
    · subst hik
      simp only [if_true] at hv
      have hj : j < c.size := (Array.getElem?_eq_some_iff.1 hv).1
      rw [World.cell?_setCells_in b c.toList (i * 15) w hsome j (by simpa using hj)]
      rw [Array.getElem?_eq_getElem hj] at hv
      simpa using hv
    · simp only [hik, if_false] at hv
      have hj : j < 15 := by rw [← hF i]; exact (Array.getElem?_eq_some_iff.1 hv).1
      rw [World.cell?_setCells_out b c.toList (k * 15) w ⟨b, i * 15 + j, none⟩ (fun _ _ => by
        simp only [Array.length_toList, hc]
        omega)]
      exact h.cell i j v hi hv
theorem A9.set {w : World} {b : Nat} {F : Nat → Array Value} (h : A9 w b F) (hF : ∀ i, (F i).size = 15) (k q : Nat) (hk : k < 9) (hq : q < 15) (u : Value) : A9 (w.setCell ⟨b, k * 15 + q, none⟩ u) b (fun i => if i = k then (F k).setIfInBounds q u else F i) := by
  have hc := h.cell k q ((F k)[q]'(by rw [hF]; exact hq)) hk (Array.getElem?_eq_getElem _)
  refine ⟨by rw [World.size_setCell]; exact h.lt, fun i j v hi hv => ?_, fun j => by rw [World.frozen?_setCell]; exact h.free j⟩
  by_cases hik : i = k
  · subst hik
    simp only [if_true] at hv
    by_cases hjq : q = j
    · subst hjq
      rw [World.cell?_setCell_same _ _ _ hc]
      rw [Array.getElem?_setIfInBounds_self_of_lt (by rw [hF]; exact hq)] at hv
      exact hv
    · rw [World.cell?_setCell_other _ _ _ _ (by intro e; injection e with _ e2; omega)]
      rw [Array.getElem?_setIfInBounds_ne hjq] at hv
      exact h.cell i j v hi hv
  · simp only [hik, if_false] at hv
    have hj : j < 15 := by rw [← hF i]; exact (Array.getElem?_eq_some_iff.1 hv).1
    rw [World.cell?_setCell_other _ _ _ _ (by intro e; injection e with _ e2; omega)]
    exact h.cell i j v hi hv
theorem Rw.setCells_other {b g : Nat} {t : TypeId} {c : Array Value} (hne : b ≠ g) : ∀ (vs : List Value) (o : Nat) (w : World), Rw w b t c → Rw (w.setCells g o vs) b t c
  | [], _, _, h => h
  | v :: r, o, w, h => Rw.setCells_other hne r (o + 1) _ (h.set_other hne o v)
theorem below_setCells {w0 : World} {g : Nat} (hg : w0.heap.size ≤ g) : ∀ (vs : List Value) (o : Nat) (w : World), Below w0.heap.size w0 w → Below w0.heap.size w0 (w.setCells g o vs)
  | [], _, _, h => h
  | v :: r, o, w, h => below_setCells hg r (o + 1) _ (h.setCell (p := ⟨g, o, none⟩) hg v)

/-- Nine empty ones. -/
def Z38 : Array Value := ((List.range 135).map fun k => ((noM.c nilS)[k % 15]?).getD (.bool false)).toArray
theorem zero38 : (Try.prog.info? 38).map (·.zero) = some (some (.agg Z38)) := by kernel_rfl
theorem Z38_get (i j : Nat) (v : Value) (hi : i < 9) (hv : (noM.c nilS)[j]? = some v) : Z38[i * 15 + j]? = some v := by
  have hj : j < 15 := (Array.getElem?_eq_some_iff.1 hv).1
  unfold Z38
  rw [List.getElem?_toArray, List.getElem?_map, List.getElem?_range (by omega), Option.map_some, show (i * 15 + j) % 15 = j by omega, hv]
  rfl
theorem A9.new (w : World) : A9 (w.alloc (.cells Z38 38)) w.heap.size (fun _ => noM.c nilS) := by
  have h : Rw (w.alloc (.cells Z38 38)) w.heap.size 38 Z38 := Rw.new w Z38 38
  exact ⟨h.lt, fun i j v hi hv => by rw [h.cell]; exact Z38_get i j v hi hv, h.free⟩
structure S9 (w X : World) (b2 b5 : Nat) (c2 : Array Value) (F : Nat → Array Value) : Prop where
  r2 : Rw X b2 27 c2
  a : A9 X b5 F
  hF : ∀ i, (F i).size = 15
  n : w.heap.size ≤ b5 ∧ b2 ≠ b5
  below : Below w.heap.size w X
section
variable {w X Y : World} {b2 b5 : Nat} {c2 : Array Value} {F : Nat → Array Value} (h : S9 w X b2 b5 c2 F)
include h
theorem S9.on (hb : Below X.heap.size X Y) : S9 w Y b2 b5 c2 F := ⟨h.r2.below hb, h.a.below hb, h.hF, h.n, h.below.trans (hb.mono h.below.size)⟩
theorem S9.row (k : Nat) (hk : k < 9) (c : Array Value) (hc : c.size = 15) {G : Nat → Array Value} (hG : ∀ i, G i = if i = k then c else F i) : S9 w (X.setCells b5 (k * 15) c.toList) b2 b5 c2 G := by
  obtain rfl : G = fun i => if i = k then c else F i := funext hG
  exact ⟨Rw.setCells_other h.n.2 _ _ _ h.r2, h.a.setRow h.hF k hk c hc, fun i => by split; exact hc; exact h.hF i, h.n, below_setCells h.n.1 _ _ _ h.below⟩
theorem S9.set (k q : Nat) (hk : k < 9) (hq : q < 15) (u : Value) {G : Nat → Array Value} (hG : ∀ i, G i = if i = k then (F k).setIfInBounds q u else F i) : S9 w (X.setCell ⟨b5, k * 15 + q, none⟩ u) b2 b5 c2 G := by
  obtain rfl : G = fun i => if i = k then (F k).setIfInBounds q u else F i := funext hG
  exact ⟨h.r2.set_other h.n.2 _ _, h.a.set h.hF k q hk hq u, fun i => by split; rw [Array.size_setIfInBounds]; exact h.hF k; exact h.hF i, h.n, h.below.setCell (p := ⟨b5, k * 15 + q, none⟩) h.n.1 u⟩
end
section
variable {P : Program} {ops : Array Oper} {rest : List Oper} {o : Oper} {a : Act} {w X : World} {Q : Exit → Act → World → Prop} {b2 b5 : Nat} {c2 : Array Value} {F : Nat → Array Value}
theorem gen_9 (h : S9 w X b2 b5 c2 F) (k : ∀ X, S9 w X b2 b5 c2 F → wpList P ops Q rest a X) : wpList P ops Q rest a X := k X h
theorem wpList_allocR (hw : Region.wanted o (yielded ops a.tmps) = true) {ty : TypeId} {z : Value} (ho : o.op = .alloc ty) (hz : (P.info? ty).map (·.zero) = some (some z)) (h : wpList P ops Q rest (a.put o.dst (.pointer (some ⟨X.heap.size, 0, none⟩))) (X.alloc (.cells z.cells ty))) : wpList P ops Q (o :: rest) a X := by
  refine wpList_step fun K hK => ?_
  rw [if_pos hw]
  unfold Oper.wp execOp
  have hr : (Instr.alloc ty true (.tuple #[])).run P X = .ok (.pointer (some ⟨X.heap.size, 0, none⟩)) (X.alloc (.cells z.cells ty)) := by
    cases hq : P.info? ty with
    | none => simp [hq] at hz
    | some i =>
      have h : i.zero = some z := by simpa [hq] using hz
      simp [Instr.alloc, zeroValue, typeInfo, hq, h, newVar, newRow]
  simp only [ho, Sem.run_bind, Sem.run_pure, Result.andThen_ok, hr]
  exact hK _ _ h
theorem wpList_store9 (S : S9 w X b2 b5 c2 F) {m : M} {l : Value} (hl : l.oneCell' = true) {k : Nat} (hk : k < 9) (hw : Region.wanted o (yielded ops a.tmps) = true) (x y : Operand) (ho : o.op = .store 27 x y) (hx : a.eval x = .pointer (some ⟨b5, k * 15, none⟩)) (hy : a.eval y = .agg (m.c l))
    (h : wpList Try.prog ops Q rest (a.put o.dst undef) (X.setCells b5 (k * 15) (m.c l).toList)) : wpList Try.prog ops Q (o :: rest) a X := by
  refine wpList_step fun K hK => ?_
  rw [if_pos hw]
  unfold Oper.wp execOp
  have hr := run_storeAt_mid (P := Try.prog) X b5 (k * 15) 27 (m.c l) (fun j hj => ⟨by
    have hj : j < 15 := hj
    rw [S.a.cell k j ((F k)[j]'(by rw [S.hF]; exact hj)) hk (Array.getElem?_eq_getElem _)]; rfl, S.a.free _⟩) agg27.hi (M.one m hl)
  simp only [ho, hx, hy, Sem.run_bind, Sem.run_pure, Result.andThen_ok, hr]
  exact hK _ _ h
theorem wpList_set9 (S : S9 w X b2 b5 c2 F) {ty : TypeId} (k q : Nat) (hk : k < 9) (hq : q < 15) (hi : (P.info? ty).map (·.size) = some 1) (hw : Region.wanted o (yielded ops a.tmps) = true) (x y : Operand) (ho : o.op = .store ty x y) (hx : a.eval x = .pointer (some ⟨b5, k * 15 + q, none⟩)) {v : Value} (hy : a.eval y = v)
    (hv : v.cells = #[v]) (h1 : v.oneCell' = true) (h : wpList P ops Q rest (a.put o.dst undef) (X.setCell ⟨b5, k * 15 + q, none⟩ v)) : wpList P ops Q (o :: rest) a X := by
  refine wpList_step fun K hK => ?_
  rw [if_pos hw]
  unfold Oper.wp execOp
  have hr : (Instr.storeAt ty (.pointer (some ⟨b5, k * 15 + q, none⟩)) v).run P X = .ok () (X.setCell ⟨b5, k * 15 + q, none⟩ v) := by
    simp only [Instr.storeAt, Instr.sureAddr, Sem.run_bind, Sem.run_pure, Result.andThen]
    cases hq0 : P.info? ty with
    | none => simp [hq0] at hi
    | some i =>
      have hs : i.size = 1 := by simpa [hq0] using hi
      have hadd : (⟨b5, k * 15 + q, none⟩ : Addr).add 0 = ⟨b5, k * 15 + q, none⟩ := by rw [add_plain, Nat.add_zero]
      have hst := run_store P X ⟨b5, k * 15 + q, none⟩ v .plain h1
      unfold stored at hst
      rw [S.a.cell k q ((F k)[q]'(by rw [S.hF]; exact hq)) hk (Array.getElem?_eq_getElem _)] at hst
      simp only [S.a.free, Bool.false_eq_true, if_false] at hst
      simp [storeVar, sizeOf, typeInfo, hq0, hv, hs, storeCells, hadd, hst]
  simp only [ho, hx, hy, Sem.run_bind, Sem.run_pure, Result.andThen_ok, hr]
  exact hK _ _ h
end

/-- What lies when j of the nine are turned. -/
def G9 (m : M) (s : Value) (n : Int) (j : Nat) (i : Nat) : Array Value := if i < 9 then (if i < j then (mk9 m n i).c s else m.c s) else noM.c nilS
theorem G9_step {m : M} {s : Value} {n : Int} (k q : Nat) (hk : k < 9) (u : Value) (hu : (m.c s).setIfInBounds q u = (mk9 m n k).c s) : ∀ i, G9 m s n (k + 1) i = if i = k then (G9 m s n k k).setIfInBounds q u else G9 m s n k i := by
  intro i
  unfold G9
  by_cases h : i = k
  · subst h
    rw [if_pos hk, if_pos (by omega), if_pos rfl, if_pos hk, if_neg (by omega), hu]
  · rw [if_neg h]
    by_cases h9 : i < 9
    · rw [if_pos h9, if_pos h9]
      by_cases h2 : i < k
      · rw [if_pos h2, if_pos (by omega)]
      · rw [if_neg h2, if_neg (by omega)]
    · rw [if_neg h9, if_neg h9]
theorem G9_zero {m : M} {s : Value} {n : Int} : (fun i => if i < 9 then m.c s else noM.c nilS) = G9 m s n 0 := by
  funext i
  unfold G9
  simp
theorem G9_nine {m : M} {s : Value} {n : Int} (k : Nat) (hk : k < 9) : G9 m s n 9 k = (mk9 m n k).c s := by
  unfold G9
  rw [if_pos hk, if_pos hk]

set_option maxRecDepth 100000 in
set_option maxHeartbeats 8000000 in
theorem one_main (m : M) (A : Option Addr) (c : Nat) (l : List Int) (n : Int) (hk0 : 0 ≤ m.kind) (w : World) (hs : Sl w (.slice A l.length c) (iv l)) (hg : (decide (30 < l.length) || decide (100 < m.it.key.size)) = false) (hr : rightB m l = true) (h1 : 1 ≤ n) (h2 : n ≤ 60000) (hcall : m.call < 9223372036854775807 - 1048576 * 60001 ∧ 0 ≤ m.call) :
    Calls Try.prog 5 #[.agg (m.c (.slice A l.length c)), .int .i64 n] w fun e w' => e = .returned (.bool true) ∧ Below w.heap.size w w' := by
  have WK := Lib.hid wakes_any
  have r2 := Rw.new w (m.c (.slice A l.length c)) 27
  have hB := box_below w (.cells (m.c (.slice A l.length c)) 27)
  generalize hW : w.alloc (.cells (m.c (.slice A l.length c)) 27) = W at r2 hB
  have kg := fun w => great_any m A l.length c w
  rw [hg] at kg
  have KG := Lib.hid kg
  have HS := Lib.hid hs
  have kr := fun w h => rRight_any m A c l hk0 w h
  rw [hr] at kr
  have KR := Lib.hid kr
  have d1 : decide (n < 1) = false := decide_eq_false (by omega)
  have d2 : decide (60000 < n) = false := decide_eq_false (by omega)
  have HN := Lib.hid (And.intro h1 h2)
  have HR := Lib.hid hr
  have HK := Lib.hid hk0
  have hlt := r2.lt
  clear kg hg hs kr hk0 hr
  go_enter Try.func5, Try.ntmps5
  go_wp2_with (first
    | (with_reducible show wpList _ _ _ (Oper.mk _ (Op.load 27 _) _ _ _ _ :: _) _ _
       refine wpList_loadW r2 agg27 rfl _ rfl rfl ?_))
  refine (KG.out _).mono ?_; rintro e w1 ⟨rfl, hb⟩
  replace r2 := r2.below hb
  replace hB := hB.trans (hb.mono hB.size)
  clear hb hW
  go_wp2_with (first
    | (with_reducible show wpList _ _ _ (Oper.mk _ (Op.load 27 _) _ _ _ _ :: _) _ _
       refine wpList_loadW r2 agg27 rfl _ rfl rfl ?_))
  refine (KR.out _ (HS.out.below hB)).mono ?_; rintro e w2 ⟨rfl, hb⟩
  replace r2 := r2.below hb
  replace hB := hB.trans (hb.mono hB.size)
  have hlt2 := r2.lt
  clear hb hlt
  go_wp2_with (first
    | (with_reducible show wpList _ _ _ (Oper.mk _ (Op.alloc 38) _ _ _ _ :: _) _ _
       refine wpList_allocR rfl rfl zero38 ?_
       refine gen_9 (S9.mk (w := w) (b5 := w2.heap.size) (F := fun _ => noM.c nilS) (r2.alloc (.cells Z38 38)) (A9.new w2) (fun _ => rfl) ⟨hB.size, by omega⟩ (hB.alloc hB.size _)) ?_
       intro X SX))
  generalize w2.heap.size = b5 at SX ⊢
  clear r2 hB hlt2
  go_loopw [6] (fun i w' => ∃ k : Nat, k ≤ 9 ∧ i = .int .i64 k ∧ S9 w w' w.heap.size b5 (m.c (.slice A l.length c)) (fun i => if i < k then m.c (.slice A l.length c) else noM.c nilS)) (fun i _ => 9 - (intOf i).toNat)
  case atStart => exact ⟨0, by omega, rfl, SX⟩
  case round =>
    clear SX
    obtain ⟨k, hk, rfl, SX⟩ := hrel
    by_cases hlt : k < 9
    · have HLT := Lib.hid hlt
      go_wp2_with (first
        | (with_reducible show wpList _ _ _ (Oper.mk _ (Op.load 27 _) _ _ _ _ :: _) _ _
           refine wpList_loadW SX.r2 agg27 rfl _ rfl rfl ?_)
        | (with_reducible show wpList _ _ _ (Oper.mk _ (Op.store 27 _ _) _ _ _ _ :: _) _ _
           refine wpList_store9 SX (m := m) (l := .slice A l.length c) rfl HLT.out rfl _ _ rfl rfl rfl ?_
           refine gen_9 (SX.row k HLT.out (m.c (.slice A l.length c)) rfl (G := fun i => if i < k + 1 then m.c (.slice A l.length c) else noM.c nilS) (fun i => by by_cases h : i = k <;> by_cases h2 : i < k <;> simp [h, h2] <;> omega)) ?_
           clear SX
           intro X SX))
      go_roundw
      case rel => exact ⟨k + 1, by omega, by go_num, SX⟩
      case measure => simp [intOf]; omega
    · obtain rfl : k = 9 := by omega
      rw [G9_zero (n := n)] at SX
      have c2 := SX.r2.cell
      go_wp2_with (first
        | (with_reducible show wpList _ _ _ (Oper.mk _ (Op.store 3 _ _) _ _ _ _ :: _) _ _
           refine wpList_set9 SX 0 3 (by decide) (by decide) (by kernel_rfl) rfl _ _ rfl rfl (v := .int .i64 m.frm) rfl rfl rfl ?_
           refine gen_9 (SX.set 0 3 (by decide) (by decide) (.int .i64 m.frm) (G9_step 0 3 (by decide) _ rfl)) ?_
           clear SX c2
           intro X SX
           have c2 := SX.r2.cell)
        | (with_reducible show wpList _ _ _ (Oper.mk _ (Op.store 3 _ _) _ _ _ _ :: _) _ _
           refine wpList_set9 SX 1 1 (by decide) (by decide) (by kernel_rfl) rfl _ _ rfl rfl (v := .int .i64 (m.call + 1048576 * n)) rfl rfl rfl ?_
           refine gen_9 (SX.set 1 1 (by decide) (by decide) (.int .i64 (m.call + 1048576 * n)) (G9_step 1 1 (by decide) _ rfl)) ?_
           clear SX c2
           intro X SX
           have c2 := SX.r2.cell)
        | (with_reducible show wpList _ _ _ (Oper.mk _ (Op.store 5 _ _) _ _ _ _ :: _) _ _
           refine wpList_set9 SX 2 0 (by decide) (by decide) (by kernel_rfl) rfl _ _ rfl rfl (v := .int .u8 0) rfl rfl rfl ?_
           refine gen_9 (SX.set 2 0 (by decide) (by decide) (.int .u8 0) (G9_step 2 0 (by decide) _ rfl)) ?_
           clear SX c2
           intro X SX
           have c2 := SX.r2.cell)
        | (with_reducible show wpList _ _ _ (Oper.mk _ (Op.store 3 _ _) _ _ _ _ :: _) _ _
           refine wpList_set9 SX 3 2 (by decide) (by decide) (by kernel_rfl) rfl _ _ rfl rfl (v := .int .i64 (65536 + n)) rfl rfl rfl ?_
           refine gen_9 (SX.set 3 2 (by decide) (by decide) (.int .i64 (65536 + n)) (G9_step 3 2 (by decide) _ rfl)) ?_
           clear SX c2
           intro X SX
           have c2 := SX.r2.cell)
        | (with_reducible show wpList _ _ _ (Oper.mk _ (Op.store 25 _ _) _ _ _ _ :: _) _ _
           refine wpList_set9 SX 4 14 (by decide) (by decide) (by kernel_rfl) rfl _ _ rfl rfl (v := .int .i64 5) rfl rfl rfl ?_
           refine gen_9 (SX.set 4 14 (by decide) (by decide) (.int .i64 5) (G9_step 4 14 (by decide) _ rfl)) ?_
           clear SX c2
           intro X SX
           have c2 := SX.r2.cell)
        | (with_reducible show wpList _ _ _ (Oper.mk _ (Op.store 3 _ _) _ _ _ _ :: _) _ _
           refine wpList_set9 SX 5 4 (by decide) (by decide) (by kernel_rfl) rfl _ _ rfl rfl (v := .int .i64 (-n)) rfl rfl rfl ?_
           refine gen_9 (SX.set 5 4 (by decide) (by decide) (.int .i64 (-n)) (G9_step 5 4 (by decide) _ rfl)) ?_
           clear SX c2
           intro X SX
           have c2 := SX.r2.cell)
        | (with_reducible show wpList _ _ _ (Oper.mk _ (Op.store 3 _ _) _ _ _ _ :: _) _ _
           refine wpList_set9 SX 6 7 (by decide) (by decide) (by kernel_rfl) rfl _ _ rfl rfl (v := .int .i64 (-n)) rfl rfl rfl ?_
           refine gen_9 (SX.set 6 7 (by decide) (by decide) (.int .i64 (-n)) (G9_step 6 7 (by decide) _ rfl)) ?_
           clear SX c2
           intro X SX
           have c2 := SX.r2.cell)
        | (with_reducible show wpList _ _ _ (Oper.mk _ (Op.store 3 _ _) _ _ _ _ :: _) _ _
           refine wpList_set9 SX 7 8 (by decide) (by decide) (by kernel_rfl) rfl _ _ rfl rfl (v := .int .i64 (-1 - n)) rfl rfl rfl ?_
           refine gen_9 (SX.set 7 8 (by decide) (by decide) (.int .i64 (-1 - n)) (G9_step 7 8 (by decide) _ rfl)) ?_
           clear SX c2
           intro X SX
           have c2 := SX.r2.cell)
        | (with_reducible show wpList _ _ _ (Oper.mk _ (Op.store 3 _ _) _ _ _ _ :: _) _ _
           refine wpList_set9 SX 8 11 (by decide) (by decide) (by kernel_rfl) rfl _ _ rfl rfl (v := .int .i64 (-n)) rfl rfl rfl ?_
           refine gen_9 (SX.set 8 11 (by decide) (by decide) (.int .i64 (-n)) (G9_step 8 11 (by decide) _ rfl)) ?_
           clear SX c2
           intro X SX
           have c2 := SX.r2.cell))
      go_loopw [7] (fun i w' => ∃ k : Nat, k ≤ 9 ∧ i = .int .i64 k ∧ S9 w w' w.heap.size b5 (m.c (.slice A l.length c)) (G9 m (.slice A l.length c) n 9)) (fun i _ => 9 - (intOf i).toNat)
      case atStart => exact ⟨0, by omega, rfl, SX⟩
      case round =>
        clear SX c2
        obtain ⟨k, hk, rfl, SX⟩ := hrel
        by_cases hlt : k < 9
        · have hr9 := fun w h => Right_any (mk9 m n k) A c l (mk9_kind n HK.out k) w h
          have hs9 := fun w h => Same_any (mk9 m n k) m (.slice A l.length c) (.slice A l.length c) l l w h h
          have run9 : ∀ y : Wd wr, (Instr.loadAt 27 (.pointer (some ⟨b5, k * 15, none⟩))).run Try.prog y.w = .ok (.agg ((mk9 m n k).c (.slice A l.length c))) y.w := fun y => by
            have := (SX.on y.below).a.run k hlt (SX.hF k)
            rwa [G9_nine k hlt] at this
          rw [right_eq, mk9_not HR.out HN.out.1 HN.out.2 k hlt] at hr9
          rw [mk9_same HR.out HN.out.1 HN.out.2 k hlt] at hs9
          generalize mk9 m n k = m9 at hr9 hs9 run9
          have H14 := Lib.hid (fun y : Wd wr => y.call (hr9 y.w (HS.out.below (SX.on y.below).below)))
          have H23 := Lib.hid (fun y : Wd wr => y.call (hs9 y.w (HS.out.below (SX.on y.below).below)))
          have RUN := Lib.hid run9
          have Q2 := Lib.hid (fun y => Wd.row SX.r2 y)
          have i9 : (k : Int) < 9 := by omega
          have i0 : (0 : Int) ≤ k := by omega
          clear hr9 hs9 run9
          go_wp2_with fail
          refine wp_region_behind ⟨wr, Below.refl _ _⟩ (by kernel_rfl) (by kernel_rfl) ?_
          repeat (first
            | go_big_quiet_skip
            | (go_big_quiet_want
               first
               | (refine quiet_load _ rfl rfl (v := .agg (m.c (.slice A l.length c))) (p := ⟨w.heap.size, 0, none⟩) (fun y => run_loadR (c := m.c _) agg27 (Q2.out y)) ?_
                  simp only [Act.put, List.setIfInBounds_toArray, List.set_cons_zero, List.set_cons_succ]
                  go_big_quiet_on)
               | (refine quiet_load _ rfl rfl RUN.out ?_
                  simp only [Act.put, List.setIfInBounds_toArray, List.set_cons_zero, List.set_cons_succ]
                  go_big_quiet_on)
               | (go_big_quiet_op; first | go_big_quiet_on | (apply Exists.intro; refine ⟨fun _ => rfl, ?_⟩; go_big_quiet_on) | go_big_quiet_call ((first | (go_at_call 14; exact H14.out _) | (go_at_call 23; exact H23.out _))))))
          refine wpQuiet_nil ?_
          intro y
          replace SX := SX.on y.below
          clear H14 H23 RUN Q2
          go_wp2
          go_roundw
          case rel => exact ⟨k + 1, by omega, by go_num, SX⟩
          case measure => simp [intOf]; omega
        · obtain rfl : k = 9 := by omega
          have hrm := fun w h => Right_any m A c l HK.out w h
          rw [right_eq, HR.out] at hrm
          have HRM := Lib.hid hrm
          clear hrm
          go_wp2_with (first
            | (with_reducible show wpList _ _ _ (Oper.mk _ (Op.load 27 _) _ _ _ _ :: _) _ _
               refine wpList_loadW SX.r2 agg27 rfl _ rfl rfl ?_))
          refine (HRM.out _ (HS.out.below SX.below)).mono ?_; rintro e w5 ⟨rfl, hb⟩
          replace SX := SX.on hb
          clear hb
          go_wp2_with (first
            | (with_reducible show wpList _ _ _ (Oper.mk _ (Op.load 27 _) _ _ _ _ :: _) _ _
               refine wpList_loadW SX.r2 agg27 rfl _ rfl rfl ?_))
          refine (Same_any m m _ _ l l _ (HS.out.below SX.below) (HS.out.below SX.below)).mono ?_; rintro e w6 ⟨rfl, hb⟩
          rw [show same m m l l = true from same_iff.2 ⟨rfl, rfl⟩]
          replace SX := SX.on hb
          clear hb
          go_wp2_with fail
          refine (WK.out _).mono ?_; rintro e w7 ⟨rfl, hb⟩
          go_wp2
          go_ret
          exact ⟨rfl, SX.below.trans (hb.mono SX.below.size)⟩

set_option maxRecDepth 100000 in
set_option maxHeartbeats 4000000 in
theorem one_quick (m : M) (A : Option Addr) (c : Nat) (l : List Int) (n : Int) (hk0 : 0 ≤ m.kind) (w : World) (hs : Sl w (.slice A l.length c) (iv l)) (h : (decide (30 < l.length) || decide (100 < m.it.key.size)) = true ∨ rightB m l = false ∨ n < 1 ∨ 60000 < n) :
    Calls Try.prog 5 #[.agg (m.c (.slice A l.length c)), .int .i64 n] w fun e w' => e = .returned (.bool true) ∧ Below w.heap.size w w' := by
  have WK := Lib.hid wakes_any
  have r2 := Rw.new w (m.c (.slice A l.length c)) 27
  have hB := box_below w (.cells (m.c (.slice A l.length c)) 27)
  generalize hW : w.alloc (.cells (m.c (.slice A l.length c)) 27) = W at r2 hB
  obtain ⟨bg, hbg⟩ : ∃ b, (decide (30 < l.length) || decide (100 < m.it.key.size)) = b := ⟨_, rfl⟩
  obtain ⟨br, hbr⟩ : ∃ b, rightB m l = b := ⟨_, rfl⟩
  have kg := fun w => great_any m A l.length c w
  rw [hbg] at kg h
  have KG := Lib.hid kg
  have HS := Lib.hid hs
  have kr := fun w h => rRight_any m A c l hk0 w h
  rw [hbr] at kr h
  have KR := Lib.hid kr
  clear kg hbg hs kr hbr hk0
  go_enter Try.func5, Try.ntmps5
  go_wp2_with (first
    | (with_reducible show wpList _ _ _ (Oper.mk _ (Op.load 27 _) _ _ _ _ :: _) _ _
       refine wpList_loadW r2 agg27 rfl _ rfl rfl ?_))
  refine (KG.out _).mono ?_; rintro e w1 ⟨rfl, hb⟩
  replace r2 := r2.below hb
  replace hB := hB.trans (hb.mono hB.size)
  clear hb hW
  cases bg
  · go_wp2_with (first
      | (with_reducible show wpList _ _ _ (Oper.mk _ (Op.load 27 _) _ _ _ _ :: _) _ _
         refine wpList_loadW r2 agg27 rfl _ rfl rfl ?_))
    refine (KR.out _ (HS.out.below hB)).mono ?_; rintro e w2 ⟨rfl, hb⟩
    replace hB := hB.trans (hb.mono hB.size)
    clear hb r2
    cases br
    · clear h
      go_wp2_with fail
      refine (WK.out _).mono ?_; rintro e w3 ⟨rfl, hb⟩
      go_wp2
      go_ret
      exact ⟨rfl, hB.trans (hb.mono hB.size)⟩
    · by_cases h1 : n < 1
      · have d1 : decide (n < 1) = true := decide_eq_true h1
        clear h h1
        go_wp2_with fail
        refine (WK.out _).mono ?_; rintro e w3 ⟨rfl, hb⟩
        go_wp2
        go_ret
        exact ⟨rfl, hB.trans (hb.mono hB.size)⟩
      · have d1 : decide (n < 1) = false := decide_eq_false h1
        have d2 : decide (60000 < n) = true := decide_eq_true (by rcases h with h | h | h | h; cases h; cases h; omega; exact h)
        clear h h1
        go_wp2_with fail
        refine (WK.out _).mono ?_; rintro e w3 ⟨rfl, hb⟩
        go_wp2
        go_ret
        exact ⟨rfl, hB.trans (hb.mono hB.size)⟩
  · clear h r2
    go_wp2_with fail
    refine (WK.out _).mono ?_; rintro e w3 ⟨rfl, hb⟩
    go_wp2
    go_ret
    exact ⟨rfl, hB.trans (hb.mono hB.size)⟩

theorem one_walk (W : World) (m : M) (v : Value) (l : List Int) (hs : Sl W v (iv l)) (hk0 : 0 ≤ m.kind) (n : Int) (_ : (Lit.int .i64 n).wf = true) :
    Calls Try.prog 5 #[.agg (m.c v), .int .i64 n] W fun e w' => e = .returned (.bool true) ∧ Below W.heap.size W w' := by
  obtain ⟨A, k, c, rfl⟩ := hs.slice
  obtain ⟨rfl, _⟩ := hs.llen
  by_cases h : (decide (30 < l.length) || decide (100 < m.it.key.size)) = true ∨ rightB m l = false ∨ n < 1 ∨ 60000 < n
  · exact one_quick m A c l n hk0 W hs h
  · have hr : rightB m l = true := by cases hb : rightB m l with | true => rfl | false => exact absurd (.inr (.inl hb)) h
    obtain ⟨o1, o2, o3, o4, o5, o6, o7⟩ := (rightB_iff.1 hr).1
    have ha : 0 ≤ askerI m ∧ askerI m < 65536 := by
      unfold askerI
      split
      · exact place_iff.1 o3
      · exact place_iff.1 o4
    exact one_main m A c l n hk0 W hs (by rw [Bool.eq_false_iff]; exact fun h' => h (.inl h')) hr (by have := fun h' => h (.inr (.inr (.inl h'))); omega) (by have := fun h' => h (.inr (.inr (.inr h'))); omega) (by omega)
end Go.Proofs.Ytbklgodbjibemaa
