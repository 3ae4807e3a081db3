/- Slices of structs of a number, bytes, a truth, that a call makes, each one's bytes in a block of their own. No program is named here. -/
import Derived.Test.YtjkhancjfaegiaaDoorSw
set_option linter.unusedVariables false
set_option maxRecDepth 100000
set_option linter.unusedSimpArgs false
namespace Go.Proofs.YtjkhancjfaegiaaDoor
open Go.RowKit Go.Shelf Go.ChangeShapes Go.WideShapes Go.ChangeAt

/-- t is a slice of e, whose zero value is z, of so many cells, of so many bytes. -/
structure ElN (P : Program) (t e : TypeId) (z : Value) (size bytes : Nat) : Prop where
  ht : P.underlying t = some (.slice e)
  hi : (P.info? e).map (fun i => (i.zero, i.size, i.bytes)) = some (some z, size, bytes)
  hz : z.cells.size = size
  hs : 0 < size
  hb : 0 < bytes
theorem info_parts' {P : Program} {e : TypeId} {z : Value} {size bytes : Nat} (h : (P.info? e).map (fun i => (i.zero, i.size, i.bytes)) = some (some z, size, bytes)) : ∃ i, P.info? e = some i ∧ i.zero = some z ∧ i.size = size ∧ i.bytes = bytes := by
  obtain ⟨i, h1, h2⟩ := Option.map_eq_some_iff.1 h
  simp only [Prod.mk.injEq] at h2
  exact ⟨i, h1, h2.1, h2.2.1, h2.2.2⟩
/-- What is owned, and lies elsewhere, lies. -/
theorem owns_other {w w' : World} {n s m : Nat} {e : TypeId} {u : Value} {xs : List Value} {row : Option Nat} (h : w.ownsRow n e s u m xs) (hg : w.grownBy w' row) (hne : ∀ k, u.ownBlock = some k → row ≠ some k) : w'.ownsRow n e s u m xs := by
  refine ⟨h.1, ?_⟩
  rcases h.2 with h1 | ⟨g, cap, cur, rfl, hb, hh, h3⟩
  · exact .inl h1
  · exact .inr ⟨g, cap, cur, rfl, hb, (hg.block g (Array.getElem?_eq_some_iff.1 hh).1 (fun e => hne g rfl e.symm)).trans hh, h3⟩
theorem owns_below {w w' : World} {n s m : Nat} {e : TypeId} {u : Value} {xs : List Value} (h : w.ownsRow n e s u m xs) (hb : Below w.heap.size w w') : w'.ownsRow n e s u m xs :=
  owns_other h (gr_of_below hb none) (fun k _ e => by cases e)
theorem owns_mono {w : World} {n k s m : Nat} {e : TypeId} {u : Value} {xs : List Value} (h : w.ownsRow n e s u m xs) (hk : k ≤ n) : w.ownsRow k e s u m xs := by
  refine ⟨h.1, ?_⟩
  rcases h.2 with h1 | ⟨g, cap, cur, rfl, hb, h3⟩
  · exact .inl h1
  · exact .inr ⟨g, cap, cur, rfl, Nat.le_trans hk hb, h3⟩

theorem owns_of {w w' : World} {n s m : Nat} {e : TypeId} {u : Value} {xs : List Value} (h : w.ownsRow n e s u m xs) (hk : ∀ k, n ≤ k → k < w.heap.size → w'.heap[k]? = w.heap[k]?) : w'.ownsRow n e s u m xs := by
  refine ⟨h.1, ?_⟩
  rcases h.2 with h1 | ⟨g, cap, cur, rfl, hg, hh, h3⟩
  · exact .inl h1
  · exact .inr ⟨g, cap, cur, rfl, hg, (hk g hg (Array.getElem?_eq_some_iff.1 hh).1).trans hh, h3⟩
theorem owns_set {w : World} {n s m b : Nat} {e : TypeId} {u : Value} {xs : List Value} (h : w.ownsRow n e s u m xs) (hb : b < n) (j : Nat) (v : Value) : (w.setCell ⟨b, j, none⟩ v).ownsRow n e s u m xs :=
  owns_of h fun k hk _ => Below.heap_setCell w ⟨b, j, none⟩ v k (by show k ≠ b; omega)
theorem owns_setRow {w : World} {n s m b : Nat} {e : TypeId} {u : Value} {xs : List Value} (h : w.ownsRow n e s u m xs) (hb : b < n) (c : Array Value) : (w.setRow b c).ownsRow n e s u m xs :=
  owns_of h fun k hk _ => Go.setRow_other w b k c (by omega)
def cells3 (g : Gr) (u : Value) : List Value := [.int .i64 g.to, u, .bool g.harm]
/-- The cells of structs, each with its slice. -/
def cellsG : List (Gr × Value) → List Value
  | [] => []
  | p :: ps => cells3 p.1 p.2 ++ cellsG ps
theorem cellsG_append (l r : List (Gr × Value)) : cellsG (l ++ r) = cellsG l ++ cellsG r := by
  induction l with
  | nil => rfl
  | cons p l ih => simp only [List.cons_append, cellsG, ih, List.append_assoc]
theorem cellsG_length (l : List (Gr × Value)) : (cellsG l).length = l.length * 3 := by
  induction l with
  | nil => rfl
  | cons p l ih => simp only [cellsG, List.length_append, ih, cells3, List.length_cons, List.length_nil]; omega
theorem cellsG_get : ∀ (l : List (Gr × Value)) (j : Nat) (hj : j < l.length), (cellsG l)[j * 3]? = some (.int .i64 l[j].1.to) ∧ (cellsG l)[j * 3 + 1]? = some l[j].2 ∧ (cellsG l)[j * 3 + 2]? = some (.bool l[j].1.harm)
  | p :: l, 0, _ => ⟨rfl, rfl, rfl⟩
  | p :: l, j + 1, hj => by
    have := cellsG_get l j (by simpa using hj)
    simp only [cellsG, cells3, List.getElem_cons_succ]
    rw [show (j + 1) * 3 = j * 3 + 3 by omega]
    simpa [List.getElem?_cons_succ] using this
/-- Bytes of each in a block of its own, from n on, not the row's own block. -/
structure Nest (n : Nat) (w : World) (v : Value) (ps : List (Gr × Value)) : Prop where
  own : ∀ p ∈ ps, w.ownsRow n 5 1 p.2 p.1.bytes.length (bv p.1.bytes)
  out : ∀ p ∈ ps, ∀ k, v.ownBlock = some k → p.2.ownBlock ≠ some k
  apart : ps.Pairwise fun p q => ∀ k, p.2.ownBlock = some k → q.2.ownBlock ≠ some k
/-- A row of such structs that was made since w0. -/
def MadeG (w0 w : World) (e : TypeId) (v : Value) (gs : List Gr) : Prop :=
  ∃ ps : List (Gr × Value), ps.map (·.1) = gs ∧ w.ownsRow w0.heap.size e 3 v ps.length (cellsG ps) ∧ Nest w0.heap.size w v ps ∧ Below w0.heap.size w0 w
theorem MadeG.nil_ (w : World) (e : TypeId) : MadeG w w e (.slice none 0 0) [] := ⟨[], rfl, World.ownsRow_nil _ _ _ _, ⟨by simp, by simp, List.Pairwise.nil⟩, Below.refl _ _⟩
theorem MadeG.below {w0 w : World} {e : TypeId} {v : Value} {gs : List Gr} (h : MadeG w0 w e v gs) : Below w0.heap.size w0 w := by
  obtain ⟨ps, _, _, _, h⟩ := h
  exact h
theorem MadeG.behind {w0 w w' : World} {e : TypeId} {v : Value} {gs : List Gr} (h : MadeG w0 w e v gs) (hb : Below w.heap.size w w') : MadeG w0 w' e v gs := by
  obtain ⟨ps, h1, h2, h3, h4⟩ := h
  exact ⟨ps, h1, owns_below h2 hb, ⟨fun p hp => owns_below (h3.own p hp) hb, h3.out, h3.apart⟩, h4.trans (hb.mono h4.size)⟩
/-- It reads so. -/
theorem MadeG.swG {w0 w : World} {e : TypeId} {v : Value} {gs : List Gr} (h : MadeG w0 w e v gs) : SwG w v gs := by
  obtain ⟨ps, rfl, h2, h3, _⟩ := h
  have hl := cellsG_length ps
  by_cases h0 : ps = []
  · subst h0
    rcases h2.2 with ⟨rfl, _⟩ | ⟨g, cap, cur, rfl, _, _, _, hc, _⟩
    · exact SwG.nil_ w
    · exact .inl ⟨rfl, _, _, rfl, hc⟩
  · rcases h2.2 with ⟨rfl, hz⟩ | ⟨g, cap, cur, rfl, hb, hh, h5, h6, h7, h8⟩
    · exact absurd (List.eq_nil_of_length_eq_zero hz) h0
    · refine .inr ⟨g, 0, cap, by rw [List.length_map], by simpa using h0, by simpa using h5, h6, (Array.getElem?_eq_some_iff.1 hh).1, fun j hj => ?_⟩
      have hj' : j < ps.length := by simpa using hj
      have key : ∀ k u, k < ps.length * 3 → (cellsG ps)[k]? = some u → w.cell? ⟨g, k, none⟩ = some u := by
        intro k u hk hu
        rw [← h8, List.getElem?_take, if_pos hk] at hu
        unfold World.cell?
        dsimp only
        rw [hh]
        simpa using hu
      obtain ⟨c0, c1, c2⟩ := cellsG_get ps j hj'
      simp only [List.getElem_map, Nat.zero_add]
      exact ⟨key _ _ (by omega) c0, ⟨_, key _ _ (by omega) c1, .inl (Sl.of_own (h3.own _ (List.getElem_mem hj')))⟩, key _ _ (by omega) c2⟩
/-- One more behind it. -/
theorem run_snocG {P : Program} {w0 w1 w : World} {t e : TypeId} {z : Value} {bytes : Nat} (E : ElN P t e z 3 bytes) (ty : TypeId) {v : Value} {gs : List Gr} (hM : MadeG w0 w1 e v gs) (hb : Below w1.heap.size w1 w) {g : Gr} {u : Value} (hu : w.ownsRow w1.heap.size 5 1 u g.bytes.length (bv g.bytes))
    (a : Addr) (c : Nat) (hc : ∀ j x, (cells3 g u)[j]? = some x → w.cell? (a.add j) = some x) (hby : (gs.length + 1) * bytes ≤ 140737488355328) (hu1 : u.oneCell' = true) :
    ∃ v' w', (Builtin.append_ #[t, t] ty #[v, .slice (some a) 1 c]).run P w = .ok v' w' ∧ MadeG w0 w' e v' (gs ++ [g]) := by
  obtain ⟨i, hi, hz0, hz1, hz2⟩ := info_parts' E.hi
  obtain ⟨ps, rfl, h2, h3, h4⟩ := hM
  have h4' := h4.trans (hb.mono h4.size)
  have hbb := E.hb
  rw [List.length_map] at hby
  have hle : ps.length + 1 ≤ (ps.length + 1) * bytes := Nat.le_mul_of_pos_right _ hbb
  obtain ⟨v', w', r1, r2, r3, _, r5⟩ := run_append_own_at (P := P) w w0.heap.size t ty e i z 3 bytes E.ht hi hz0 hz1 hz2 E.hz (by omega) v ps.length (cellsG ps) (owns_below h2 hb) a 1 c (cells3 g u) rfl hc
    (by intro x hx; simp [cells3] at hx; rcases hx with rfl | rfl | rfl <;> first | rfl | exact hu1) (by unfold maxLen; omega) hby h4'.size
  have hvlt : ∀ k, v.ownBlock = some k → k < w1.heap.size := fun k hk => (h2.lt k hk).2
  have hug : ∀ k, u.ownBlock = some k → w1.heap.size ≤ k ∧ k < w.heap.size := fun k hk => hu.lt k hk
  have hpl : ∀ p ∈ ps, ∀ k, p.2.ownBlock = some k → k < w1.heap.size := fun p hp k hk => ((h3.own p hp).lt k hk).2
  have hvr : ∀ k, v.ownBlock = some k → w0.heap.size ≤ k := fun k hk => (h2.lt k hk).1
  refine ⟨v', w', r1, ps ++ [(g, u)], by simp, ?_, ⟨?_, ?_, ?_⟩, ?_⟩
  · rw [List.length_append, cellsG_append]
    simpa [cellsG] using r2
  · intro p hp
    rcases List.mem_append.1 hp with hp | hp
    · exact owns_other (owns_below (h3.own p hp) hb) r3 fun k hk e => h3.out p hp k e hk
    · simp only [List.mem_cons, List.not_mem_nil, or_false] at hp
      subst hp
      exact owns_other (owns_mono hu h4.size) r3 fun k hk e => by have := hvlt k e; have := (hug k hk).1; omega
  · intro p hp k hk hpk
    rcases List.mem_append.1 hp with hp | hp
    · rcases r5 with r5 | r5
      · rw [r5] at hk; exact h3.out p hp k hk hpk
      · rw [r5] at hk
        injection hk with hk
        have := hpl p hp k hpk
        have := hb.size
        omega
    · simp only [List.mem_cons, List.not_mem_nil, or_false] at hp
      subst hp
      have h6 := hug k hpk
      rcases r5 with r5 | r5
      · rw [r5] at hk; have := hvlt k hk; omega
      · rw [r5] at hk
        injection hk with hk
        omega
  · rw [List.pairwise_append]
    refine ⟨h3.apart, by simp, fun p hp q hq k hk hqk => ?_⟩
    simp only [List.mem_cons, List.not_mem_nil, or_false] at hq
    subst hq
    have := hpl p hp k hk
    have := (hug k hqk).1
    omega
  · have := gr_then (gr_of_below h4' none) r3 (.inr hvr)
    exact below_of_none this
theorem wpList_snocG {P : Program} {w0 w1 w : World} {t e : TypeId} {z : Value} {bytes : Nat} (E : ElN P t e z 3 bytes) {ops : Array Oper} {rest : List Oper} {o : Oper} {a : Act} {Q : Exit → Act → World → Prop} (hw : Region.wanted o (yielded ops a.tmps) = true) (s x : Operand)
    (ho : o.op = .call { callee := .builtin .append, args := #[s, x], argTypes := #[t, t] }) {v : Value} {gs : List Gr} (hs : a.eval s = v) (hM : MadeG w0 w1 e v gs) (hb : Below w1.heap.size w1 w) {g : Gr} {u : Value} (hu : w.ownsRow w1.heap.size 5 1 u g.bytes.length (bv g.bytes))
    {ad : Addr} {c : Nat} (hxe : a.eval x = .slice (some ad) 1 c) (hc : ∀ j y, (cells3 g u)[j]? = some y → w.cell? (ad.add j) = some y) (hby : (gs.length + 1) * bytes ≤ 140737488355328) (hu1 : u.oneCell' = true)
    (h : ∀ v' w', MadeG w0 w' e v' (gs ++ [g]) → wpList P ops Q rest (a.put o.dst v') w') : wpList P ops Q (o :: rest) a w := by
  refine wpList_step fun K hK => ?_
  rw [if_pos hw]
  obtain ⟨v', w', hrun, h2⟩ := run_snocG (w := w) E o.type hM hb hu ad c hc hby hu1
  unfold Oper.wp execOp
  simp only [ho, resolve, invoke, builtin, Sem.run_bind, Sem.run_pure, Result.andThen_ok, List.map_toArray, List.map_cons, List.map_nil, hs, hxe, hrun]
  exact hK _ _ (h v' w' h2)
/-- Behind a world where only blocks from before it was begun have turned. -/
theorem MadeG.lift {w B W W' : World} {e : TypeId} {v : Value} {gs : List Gr} (h : MadeG B W e v gs) (hB : w.heap.size ≤ B.heap.size) (hk : ∀ k, B.heap.size ≤ k → k < W.heap.size → W'.heap[k]? = W.heap[k]?) (hb : Below w.heap.size w W') : MadeG w W' e v gs := by
  obtain ⟨ps, h1, h2, h3, h4⟩ := h
  have key : ∀ {e' s m u xs}, W.ownsRow B.heap.size e' s u m xs → W'.ownsRow w.heap.size e' s u m xs := by
    intro e' s m u xs h
    refine ⟨h.1, ?_⟩
    rcases h.2 with h1 | ⟨g, cap, cur, rfl, hg, hh, h3⟩
    · exact .inl h1
    · exact .inr ⟨g, cap, cur, rfl, Nat.le_trans hB hg, (hk g hg (Array.getElem?_eq_some_iff.1 hh).1).trans hh, h3⟩
  exact ⟨ps, h1, key h2, ⟨fun p hp => key (h3.own p hp), h3.out, h3.apart⟩, hb⟩
/-! ### The same, with what lies elsewhere apart -/
/-- A row of such structs, all of it in blocks from n on. -/
def OwnG (n : Nat) (w : World) (e : TypeId) (v : Value) (gs : List Gr) : Prop :=
  ∃ ps : List (Gr × Value), ps.map (·.1) = gs ∧ w.ownsRow n e 3 v ps.length (cellsG ps) ∧ Nest n w v ps
theorem MadeG.ownG {w0 w : World} {e : TypeId} {v : Value} {gs : List Gr} (h : MadeG w0 w e v gs) : OwnG w0.heap.size w e v gs := by
  obtain ⟨ps, h1, h2, h3, _⟩ := h
  exact ⟨ps, h1, h2, h3⟩
theorem OwnG.made {w0 w : World} {e : TypeId} {v : Value} {gs : List Gr} (h : OwnG w0.heap.size w e v gs) (hb : Below w0.heap.size w0 w) : MadeG w0 w e v gs := by
  obtain ⟨ps, h1, h2, h3⟩ := h
  exact ⟨ps, h1, h2, h3, hb⟩
theorem OwnG.of {n : Nat} {w w' : World} {e : TypeId} {v : Value} {gs : List Gr} (h : OwnG n w e v gs) (hk : ∀ k, n ≤ k → k < w.heap.size → w'.heap[k]? = w.heap[k]?) : OwnG n w' e v gs := by
  obtain ⟨ps, h1, h2, h3⟩ := h
  exact ⟨ps, h1, owns_of h2 hk, ⟨fun p hp => owns_of (h3.own p hp) hk, h3.out, h3.apart⟩⟩
theorem OwnG.below {n : Nat} {w w' : World} {e : TypeId} {v : Value} {gs : List Gr} (h : OwnG n w e v gs) (hb : Below w.heap.size w w') : OwnG n w' e v gs := h.of fun k _ hk => hb.block k hk
theorem OwnG.set {n b : Nat} {w : World} {e : TypeId} {v : Value} {gs : List Gr} (h : OwnG n w e v gs) (hb : b < n) (j : Nat) (u : Value) : OwnG n (w.setCell ⟨b, j, none⟩ u) e v gs :=
  h.of fun k hk _ => Below.heap_setCell w ⟨b, j, none⟩ u k (by show k ≠ b; omega)
theorem OwnG.setRow {n b : Nat} {w : World} {e : TypeId} {v : Value} {gs : List Gr} (h : OwnG n w e v gs) (hb : b < n) (c : Array Value) : OwnG n (w.setRow b c) e v gs :=
  h.of fun k hk _ => Go.setRow_other w b k c (by omega)
theorem OwnG.mono {n k : Nat} {w : World} {e : TypeId} {v : Value} {gs : List Gr} (h : OwnG n w e v gs) (hk : k ≤ n) : OwnG k w e v gs := by
  obtain ⟨ps, h1, h2, h3⟩ := h
  exact ⟨ps, h1, owns_mono h2 hk, ⟨fun p hp => owns_mono (h3.own p hp) hk, h3.out, h3.apart⟩⟩
/-- What is there of the worlds behind: nothing of it below n turned. -/
theorem below_grown {m n : Nat} {W w w' : World} {v : Value} (h : Below m W w) (hg : w.grownBy w' v.ownBlock) (hv : ∀ k, v.ownBlock = some k → n ≤ k) (hm : m ≤ n) (hn : n ≤ w.heap.size) : Below m W w' :=
  ⟨hg.os.trans h.os, hg.tape.trans h.tape, hg.output.trans h.output, Nat.le_trans h.size hg.size, fun k hk => (hg.block k (by omega) (fun e => by have := hv k e.symm; omega)).trans (h.block k hk)⟩
theorem OwnG.row {n : Nat} {w : World} {e : TypeId} {v : Value} {gs : List Gr} (h : OwnG n w e v gs) : ∀ k, v.ownBlock = some k → n ≤ k ∧ k < w.heap.size := by
  obtain ⟨ps, _, h2, _⟩ := h
  exact fun k hk => h2.lt k hk
theorem OwnG.swG {n : Nat} {w : World} {e : TypeId} {v : Value} {gs : List Gr} (h : OwnG n w e v gs) (hn : n ≤ w.heap.size) : SwG w v gs := by
  have h' := h.mono (k := 0) (Nat.zero_le _)
  obtain ⟨ps, h1, h2, h3⟩ := h'
  have hw : (({ w with heap := #[] } : World)).heap.size = 0 := rfl
  exact MadeG.swG (w0 := { w with heap := #[] }) ⟨ps, h1, by rw [hw]; exact h2, by rw [hw]; exact h3, by rw [hw]; exact ⟨rfl, rfl, rfl, Nat.zero_le _, fun k hk => absurd hk (by omega)⟩⟩
theorem run_snocO {P : Program} {n : Nat} {w1 w : World} {t e : TypeId} {z : Value} {bytes : Nat} (E : ElN P t e z 3 bytes) (ty : TypeId) {v : Value} {gs : List Gr} (hM : OwnG n w1 e v gs) (hn : n ≤ w1.heap.size) (hb : Below w1.heap.size w1 w) {g : Gr} {u : Value} (hu : w.ownsRow w1.heap.size 5 1 u g.bytes.length (bv g.bytes))
    (a : Addr) (c : Nat) (hc : ∀ j x, (cells3 g u)[j]? = some x → w.cell? (a.add j) = some x) (hby : (gs.length + 1) * bytes ≤ 140737488355328) (hu1 : u.oneCell' = true) :
    ∃ v' w', (Builtin.append_ #[t, t] ty #[v, .slice (some a) 1 c]).run P w = .ok v' w' ∧ OwnG n w' e v' (gs ++ [g]) ∧ w.grownBy w' v.ownBlock := by
  obtain ⟨i, hi, hz0, hz1, hz2⟩ := info_parts' E.hi
  obtain ⟨ps, rfl, h2, h3⟩ := hM
  have hbb := E.hb
  rw [List.length_map] at hby
  have hle : ps.length + 1 ≤ (ps.length + 1) * bytes := Nat.le_mul_of_pos_right _ hbb
  obtain ⟨v', w', r1, r2, r3, _, r5⟩ := run_append_own_at (P := P) w n t ty e i z 3 bytes E.ht hi hz0 hz1 hz2 E.hz (by omega) v ps.length (cellsG ps) (owns_below h2 hb) a 1 c (cells3 g u) rfl hc
    (by intro x hx; simp [cells3] at hx; rcases hx with rfl | rfl | rfl <;> first | rfl | exact hu1) (by unfold maxLen; omega) hby (Nat.le_trans hn hb.size)
  have hvlt : ∀ k, v.ownBlock = some k → k < w1.heap.size := fun k hk => (h2.lt k hk).2
  have hug : ∀ k, u.ownBlock = some k → w1.heap.size ≤ k ∧ k < w.heap.size := fun k hk => hu.lt k hk
  have hpl : ∀ p ∈ ps, ∀ k, p.2.ownBlock = some k → k < w1.heap.size := fun p hp k hk => ((h3.own p hp).lt k hk).2
  refine ⟨v', w', r1, ⟨ps ++ [(g, u)], by simp, ?_, ⟨?_, ?_, ?_⟩⟩, r3⟩
  · rw [List.length_append, cellsG_append]
    simpa [cellsG] using r2
  · intro p hp
    rcases List.mem_append.1 hp with hp | hp
    · exact owns_other (owns_below (h3.own p hp) hb) r3 fun k hk e => h3.out p hp k e hk
    · simp only [List.mem_cons, List.not_mem_nil, or_false] at hp
      subst hp
      exact owns_other (owns_mono hu hn) r3 fun k hk e => by have := hvlt k e; have := (hug k hk).1; omega
  · intro p hp k hk hpk
    rcases List.mem_append.1 hp with hp | hp
    · rcases r5 with r5 | r5
      · rw [r5] at hk; exact h3.out p hp k hk hpk
      · rw [r5] at hk
        injection hk with hk
        have := hpl p hp k hpk
        have := hb.size
        omega
    · simp only [List.mem_cons, List.not_mem_nil, or_false] at hp
      subst hp
      have h6 := hug k hpk
      rcases r5 with r5 | r5
      · rw [r5] at hk; have := hvlt k hk; omega
      · rw [r5] at hk
        injection hk with hk
        omega
  · rw [List.pairwise_append]
    refine ⟨h3.apart, by simp, fun p hp q hq k hk hqk => ?_⟩
    simp only [List.mem_cons, List.not_mem_nil, or_false] at hq
    subst hq
    have := hpl p hp k hk
    have := (hug k hqk).1
    omega
/-- In a region that draws. -/
theorem step_snocO {P : Program} {n : Nat} {w1 w : World} {t e : TypeId} {z : Value} {bytes : Nat} (E : ElN P t e z 3 bytes) {ops : Array Oper} {o : Oper} {a : Act} {K : Act → World → Prop} {Q : Exit → Act → World → Prop} {E0 : Prop} (hw : Region.wanted o (yielded ops a.tmps) = true) (s x : Operand)
    (ho : o.op = .call { callee := .builtin .append, args := #[s, x], argTypes := #[t, t] }) {v : Value} {gs : List Gr} (hs : a.eval s = v) (hM : OwnG n w1 e v gs) (hn : n ≤ w1.heap.size) (hb : Below w1.heap.size w1 w) {g : Gr} {u : Value} (hu : w.ownsRow w1.heap.size 5 1 u g.bytes.length (bv g.bytes))
    {ad : Addr} {c : Nat} (hxe : a.eval x = .slice (some ad) 1 c) (hc : ∀ j y, (cells3 g u)[j]? = some y → w.cell? (ad.add j) = some y) (hby : (gs.length + 1) * bytes ≤ 140737488355328) (hu1 : u.oneCell' = true)
    (h : ∀ v' w', OwnG n w' e v' (gs ++ [g]) → w.grownBy w' v.ownBlock → K (a.put o.dst v') w') : if Region.wanted o (yielded ops a.tmps) = true then Oper.wp P o a w K Q else E0 := by
  rw [if_pos hw]
  obtain ⟨v', w', hrun, h2, h3⟩ := run_snocO (w := w) E o.type hM hn hb hu ad c hc hby hu1
  unfold Oper.wp execOp
  simp only [ho, resolve, invoke, builtin, Sem.run_bind, Sem.run_pure, Result.andThen_ok, List.map_toArray, List.map_cons, List.map_nil, hs, hxe, hrun]
  exact h v' w' h2 h3
end Go.Proofs.YtjkhancjfaegiaaDoor
