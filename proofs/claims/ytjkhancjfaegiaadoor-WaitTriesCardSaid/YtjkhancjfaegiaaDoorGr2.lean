/- Slices of structs: parts of them, and what 'append' makes of such parts. No program is named here. -/
import Derived.Test.YtjkhancjfaegiaaDoorGr
set_option linter.unusedVariables false
set_option maxRecDepth 100000
set_option linter.unusedSimpArgs false
namespace Go.Proofs.YtjkhancjfaegiaaDoor
open Go.RowKit Go.Shelf Go.ChangeShapes Go.WideShapes Go.ChangeAt

/-- From here on these cells lie. -/
def Rd (w : World) (a : Addr) (cs : List Value) : Prop := ∀ (j : Nat) (u : Value), cs[j]? = some u → w.cell? (a.add j) = some u
theorem cell_lt {w : World} {a : Addr} {u : Value} (h : w.cell? a = some u) : a.block < w.heap.size := by
  unfold World.cell? at h
  cases hh : w.heap[a.block]? with
  | none => simp [hh] at h
  | some o => exact (Array.getElem?_eq_some_iff.1 hh).1
theorem add_block (a : Addr) (j : Nat) : (a.add j).block = a.block := by unfold Addr.add; split <;> rfl
theorem Rd.below {w w' : World} {a : Addr} {cs : List Value} (h : Rd w a cs) (hb : Below w.heap.size w w') : Rd w' a cs := fun j u hu => by
  have h1 := h j u hu
  have := cell_lt h1
  exact (hb.cell (p := a.add j) this).trans h1
/-- A slice of structs that lie side by side: what lies there, each with its slice. -/
structure Ln (w : World) (b off n c : Nat) (ps : List (Gr × Value)) : Prop where
  len : ps.length = n
  cap : n ≤ c
  max : c ≤ maxLen
  cells : Rd w ⟨b, off, none⟩ (cellsG ps)
  sw : ∀ p ∈ ps, Sw w p.2 (bv p.1.bytes)
theorem choose_lt' {α : Type} [Inhabited α] {n : Nat} {p : Nat → α → Prop} (h : ∀ i, i < n → ∃ x, p i x) : ∃ f : Nat → α, ∀ i, i < n → p i (f i) := Go.Deep.choose_lt h
theorem cellsG_get' (ps : List (Gr × Value)) (k : Nat) (u : Value) (h : (cellsG ps)[k]? = some u) : ∃ j, ∃ hj : j < ps.length, (k = j * 3 ∧ u = .int .i64 ps[j].1.to) ∨ (k = j * 3 + 1 ∧ u = ps[j].2) ∨ (k = j * 3 + 2 ∧ u = .bool ps[j].1.harm) := by
  have hk : k < ps.length * 3 := by
    have := (List.getElem?_eq_some_iff.1 h).1
    rwa [cellsG_length] at this
  have hj : k / 3 < ps.length := by omega
  obtain ⟨c0, c1, c2⟩ := cellsG_get ps (k / 3) hj
  refine ⟨k / 3, hj, ?_⟩
  have : k % 3 < 3 := Nat.mod_lt _ (by decide)
  rcases (by omega : k = k / 3 * 3 ∨ k = k / 3 * 3 + 1 ∨ k = k / 3 * 3 + 2) with e | e | e
  · rw [e, c0] at h; injection h with h; exact .inl ⟨e, h.symm⟩
  · rw [e, c1] at h; injection h with h; exact .inr (.inl ⟨e, h.symm⟩)
  · rw [e, c2] at h; injection h with h; exact .inr (.inr ⟨e, h.symm⟩)
theorem SwG.ln {w : World} {A : Option Addr} {n c : Nat} {gs : List Gr} (h : SwG w (.slice A n c) gs) (h0 : gs ≠ []) : ∃ b off ps, A = some ⟨b, off, none⟩ ∧ ps.map (·.1) = gs ∧ Ln w b off n c ps := by
  rcases h with ⟨rfl, _⟩ | ⟨b, off, c', h1, _, h3, h4, h5, h6⟩
  · exact absurd rfl h0
  · injection h1 with h1 h2 h7
    subst h1 h2 h7
    have each : ∀ i, i < gs.length → ∃ u : Value, ∀ hi : i < gs.length, w.cell? ⟨b, off + i * 3 + 1, none⟩ = some u ∧ Sw w u (bv gs[i].bytes) := fun i hi => by
      obtain ⟨u, hu⟩ := (h6 i hi).c1
      exact ⟨u, fun _ => hu⟩
    have : Inhabited Value := ⟨.slice none 0 0⟩
    obtain ⟨f, hf⟩ := Go.Deep.choose_lt each
    refine ⟨b, off, (List.range gs.length).pmap (fun i hi => (gs[i], f i)) (fun i hi => List.mem_range.1 hi), rfl, ?_, by simp, h3, h4, fun k u hu => ?_, fun p hp => ?_⟩
    · refine List.ext_getElem (by simp) fun i h1 h2 => by simp
    · obtain ⟨j, hj, hk⟩ := cellsG_get' _ _ _ hu
      have hj' : j < gs.length := by simpa using hj
      have g := h6 j hj'
      rw [add_plain]
      simp only [List.getElem_pmap, List.getElem_range] at hk
      rcases hk with ⟨rfl, rfl⟩ | ⟨rfl, rfl⟩ | ⟨rfl, rfl⟩
      · exact g.c0
      · exact (hf j hj' hj').1
      · exact g.c2
    · obtain ⟨i, hi, rfl⟩ := List.mem_pmap.1 hp
      exact (hf i (List.mem_range.1 hi) (List.mem_range.1 hi)).2
theorem OwnG.ln {n0 : Nat} {w : World} {e : TypeId} {A : Option Addr} {n c : Nat} {ps : List (Gr × Value)} (h : w.ownsRow n0 e 3 (.slice A n c) ps.length (cellsG ps)) (hN : Nest n0 w (.slice A n c) ps) (h0 : ps ≠ []) : ∃ g, A = some ⟨g, 0, none⟩ ∧ Ln w g 0 n c ps ∧ n0 ≤ g ∧ g < w.heap.size := by
  rcases h.2 with ⟨hv, hz⟩ | ⟨g, cap, cur, hv, hb, hh, h5, h6, h7, h8⟩
  · exact absurd (List.eq_nil_of_length_eq_zero hz) h0
  · injection hv with hv1 hv2 hv3
    subst hv1 hv2 hv3
    refine ⟨g, rfl, ⟨rfl, h5, h6, fun k u hu => ?_, fun p hp => .inl (Sl.of_own (hN.own p hp))⟩, hb, (Array.getElem?_eq_some_iff.1 hh).1⟩
    rw [add_plain]
    have hk : k < ps.length * 3 := by
      have := (List.getElem?_eq_some_iff.1 hu).1
      rwa [cellsG_length] at this
    rw [← h8, List.getElem?_take, if_pos hk] at hu
    unfold World.cell?
    dsimp only
    rw [hh]
    simpa using hu
theorem Ln.below {w w' : World} {b off n c : Nat} {ps : List (Gr × Value)} (h : Ln w b off n c ps) (hb : Below w.heap.size w w') : Ln w' b off n c ps :=
  ⟨h.len, h.cap, h.max, h.cells.below hb, fun p hp => (h.sw p hp).below hb⟩
theorem cellsG_take (ps : List (Gr × Value)) (m : Nat) : cellsG (ps.take m) = (cellsG ps).take (m * 3) := by
  induction ps generalizing m with
  | nil => simp [cellsG]
  | cons p ps ih =>
    cases m with
    | zero => simp [cellsG]
    | succ m =>
      simp only [List.take_succ_cons, cellsG, ih, cells3]
      rw [show (m + 1) * 3 = m * 3 + 3 by omega]
      simp
theorem cellsG_drop (ps : List (Gr × Value)) (m : Nat) : cellsG (ps.drop m) = (cellsG ps).drop (m * 3) := by
  induction ps generalizing m with
  | nil => simp [cellsG]
  | cons p ps ih =>
    cases m with
    | zero => simp
    | succ m =>
      simp only [List.drop_succ_cons, cellsG, ih, cells3]
      rw [show (m + 1) * 3 = m * 3 + 3 by omega]
      simp
section
variable {P : Program} {w w0 : World} {t e : TypeId} {z : Value} {bytes : Nat}
/-- 's[lo:hi]' of such. -/
theorem run_cut3 (E : ElN P t e z 3 bytes) {b off n c : Nat} {ps : List (Gr × Value)} (h : Ln w b off n c ps) (k m : Nat) (hk : k ≤ m) (hm : m ≤ n) (lo hi : Option Value)
    (hlo : lo = some (.int .i64 (k : Int)) ∨ (lo = none ∧ k = 0)) (hhi : hi = some (.int .i64 (m : Int)) ∨ (hi = none ∧ m = n)) :
    ∃ a' : Addr, (∀ W, (Instr.slice t (.slice (some ⟨b, off, none⟩) n c) lo hi none).run P W = .ok (.slice (some a') (m - k) (c - k)) W) ∧ Rd w a' (cellsG ((ps.take m).drop k)) := by
  obtain ⟨i, hi0, hz0, hz1, hz2⟩ := info_parts' E.hi
  have size1 : ∀ W, (sizeOf e).run P W = .ok 3 W := fun W => by simp [sizeOf, typeInfo, hi0, hz1]
  have hmax := h.max
  have hcap := h.cap
  unfold maxLen at hmax
  have bounds : ∀ W, (Instr.sliceBounds true n c lo hi none).run P W = .ok (k, m, c) W := fun W => by
    have b1 := run_sliceBound (P := P) (w := W) .i64 (m : Int) c .sliceAcap (by omega) (by omega)
    have b2 := run_sliceBound (P := P) (w := W) .i64 (k : Int) m .sliceB (by omega) (by omega)
    rcases hlo with rfl | ⟨rfl, rfl⟩ <;> rcases hhi with rfl | ⟨rfl, rfl⟩ <;> simp [Instr.sliceBounds, b1, b2]
  refine ⟨⟨b, if c = k then off else off + k * 3, none⟩, fun W => ?_, ?_⟩
  · simp only [Instr.slice, run_underlying E.ht, Sem.run_bind, Result.andThen_ok, bounds W, size1, Sem.run_pure]
    by_cases hck : c = k
    · simp [hck]
    · simp only [hck, if_false, Option.map_some, add_plain]
  · rw [cellsG_drop, cellsG_take]
    intro j u hu
    rw [List.getElem?_drop, List.getElem?_take] at hu
    have hj : k * 3 + j < m * 3 := by
      rcases Nat.lt_or_ge (k * 3 + j) (m * 3) with hh | hh
      · exact hh
      · rw [if_neg (by omega)] at hu; cases hu
    rw [if_pos hj] at hu
    have := h.cells _ u hu
    rw [add_plain] at this ⊢
    rw [if_neg (by omega), Nat.add_assoc]
    exact this
theorem cellsG_one {ps : List (Gr × Value)} (h : ∀ p ∈ ps, p.2.oneCell' = true) : ∀ u ∈ cellsG ps, u.oneCell' = true := by
  induction ps with
  | nil => simp [cellsG]
  | cons p ps ih =>
    intro u hu
    simp only [cellsG, List.mem_append] at hu
    rcases hu with hu | hu
    · simp [cells3] at hu
      rcases hu with rfl | rfl | rfl
      · rfl
      · exact h p (by simp)
      · rfl
    · exact ih (fun q hq => h q (by simp [hq])) u hu
theorem Sw.one {w : World} {v : Value} {xs : List Value} (h : Sw w v xs) : v.oneCell' = true := by
  obtain ⟨A, c, rfl⟩ := h.form
  rfl
theorem Ln.one {b off n c : Nat} {ps : List (Gr × Value)} (h : Ln w b off n c ps) : ∀ p ∈ ps, p.2.oneCell' = true := fun p hp => (h.sw p hp).one
/-- 'append' of such a part. -/
theorem run_joinG (E : ElN P t e z 3 bytes) (ty : TypeId) {base : Nat} {v : Value} {qs : List (Gr × Value)} (hown : w.ownsRow base e 3 v qs.length (cellsG qs)) {a : Addr} {m c : Nat} {ps : List (Gr × Value)} (hl : ps.length = m) (hr : Rd w a (cellsG ps))
    (h1 : ∀ p ∈ ps, p.2.oneCell' = true) (hby : (qs.length + m) * bytes ≤ 140737488355328) (hbase : base ≤ w.heap.size) :
    ∃ v' w', (Builtin.append_ #[t, t] ty #[v, .slice (some a) m c]).run P w = .ok v' w' ∧ w'.ownsRow base e 3 v' (qs ++ ps).length (cellsG (qs ++ ps)) ∧ w.grownBy w' v.ownBlock ∧ (v'.ownBlock = v.ownBlock ∨ v'.ownBlock = some w.heap.size) := by
  obtain ⟨i, hi, hz0, hz1, hz2⟩ := info_parts' E.hi
  have hbb := E.hb
  have hle : qs.length + m ≤ (qs.length + m) * bytes := Nat.le_mul_of_pos_right _ hbb
  obtain ⟨v', w', r1, r2, r3, _, r5⟩ := run_append_own_at (P := P) w base t ty e i z 3 bytes E.ht hi hz0 hz1 hz2 E.hz (by omega) v qs.length (cellsG qs) hown a m c (cellsG ps) (by rw [cellsG_length, hl]) (fun j u hu => hr j u hu)
    (cellsG_one h1) (by unfold maxLen; omega) hby hbase
  refine ⟨v', w', r1, ?_, r3, r5⟩
  rw [cellsG_append, List.length_append, hl]
  exact r2
end
/-- Structs of a row lie in a row of their own, the rest as it was. -/
theorem OwnG.part {n : Nat} {w w' : World} {e : TypeId} {v v' : Value} {ps qs : List (Gr × Value)} (hN : Nest n w v ps) (hq : qs.Sublist ps) (hk : ∀ k, n ≤ k → k < w.heap.size → w'.heap[k]? = w.heap[k]?) (hv : ∀ k, v'.ownBlock = some k → w.heap.size ≤ k) (ho : w'.ownsRow n e 3 v' qs.length (cellsG qs)) : OwnG n w' e v' (qs.map (·.1)) :=
  ⟨qs, rfl, ho, fun p hp => owns_of (hN.own p (hq.mem hp)) hk, fun p hp k hk e => by
    have h1 := ((hN.own p (hq.mem hp)).lt k e).2
    have h2 := hv k hk
    omega, hN.apart.sublist hq⟩
/-! ### A row of structs, all of it in blocks of some kind -/
def OwnP (p : Nat → Prop) (w : World) (e : TypeId) (v : Value) (gs : List Gr) : Prop :=
  ∃ ps : List (Gr × Value), ps.map (·.1) = gs ∧ w.ownsRow 0 e 3 v ps.length (cellsG ps) ∧ Nest 0 w v ps ∧ (∀ k, v.ownBlock = some k → p k) ∧ (∀ q ∈ ps, ∀ k, q.2.ownBlock = some k → p k)
theorem owns_from {w : World} {n k s m : Nat} {e : TypeId} {u : Value} {xs : List Value} (h : w.ownsRow n e s u m xs) (hk : ∀ g, u.ownBlock = some g → k ≤ g) : w.ownsRow k e s u m xs := by
  refine ⟨h.1, ?_⟩
  rcases h.2 with h1 | ⟨g, cap, cur, rfl, hb, h3⟩
  · exact .inl h1
  · exact .inr ⟨g, cap, cur, rfl, hk g rfl, h3⟩
theorem owns_still {w w' : World} {n s m : Nat} {e : TypeId} {u : Value} {xs : List Value} (h : w.ownsRow n e s u m xs) (hk : ∀ k, u.ownBlock = some k → w'.heap[k]? = w.heap[k]?) : w'.ownsRow n e s u m xs := by
  refine ⟨h.1, ?_⟩
  rcases h.2 with h1 | ⟨g, cap, cur, rfl, hb, hh, h3⟩
  · exact .inl h1
  · exact .inr ⟨g, cap, cur, rfl, hb, (hk g rfl).trans hh, h3⟩
theorem OwnG.ownP {n : Nat} {w : World} {e : TypeId} {v : Value} {gs : List Gr} (h : OwnG n w e v gs) : OwnP (fun k => n ≤ k) w e v gs := by
  obtain ⟨ps, h1, h2, h3⟩ := h
  exact ⟨ps, h1, owns_mono h2 (Nat.zero_le _), ⟨fun p hp => owns_mono (h3.own p hp) (Nat.zero_le _), h3.out, h3.apart⟩, fun k hk => (h2.lt k hk).1, fun q hq k hk => ((h3.own q hq).lt k hk).1⟩
theorem OwnP.imp {p q : Nat → Prop} {w : World} {e : TypeId} {v : Value} {gs : List Gr} (h : OwnP p w e v gs) (hpq : ∀ k, k < w.heap.size → p k → q k) : OwnP q w e v gs := by
  obtain ⟨ps, h1, h2, h3, h4, h5⟩ := h
  exact ⟨ps, h1, h2, h3, fun k hk => hpq k (h2.lt k hk).2 (h4 k hk), fun r hr k hk => hpq k ((h3.own r hr).lt k hk).2 (h5 r hr k hk)⟩
theorem OwnP.ownG {n : Nat} {p : Nat → Prop} {w : World} {e : TypeId} {v : Value} {gs : List Gr} (h : OwnP p w e v gs) (hp : ∀ k, p k → n ≤ k) : OwnG n w e v gs := by
  obtain ⟨ps, h1, h2, h3, h4, h5⟩ := h
  exact ⟨ps, h1, owns_from h2 fun k hk => hp k (h4 k hk), ⟨fun q hq => owns_from (h3.own q hq) fun k hk => hp k (h5 q hq k hk), h3.out, h3.apart⟩⟩
theorem OwnP.of {p : Nat → Prop} {w w' : World} {e : TypeId} {v : Value} {gs : List Gr} (h : OwnP p w e v gs) (hk : ∀ k, p k → k < w.heap.size → w'.heap[k]? = w.heap[k]?) : OwnP p w' e v gs := by
  obtain ⟨ps, h1, h2, h3, h4, h5⟩ := h
  exact ⟨ps, h1, owns_still h2 fun k e => hk k (h4 k e) (h2.lt k e).2, ⟨fun q hq => owns_still (h3.own q hq) fun k e => hk k (h5 q hq k e) ((h3.own q hq).lt k e).2, h3.out, h3.apart⟩, h4, h5⟩
theorem OwnP.below {p : Nat → Prop} {w w' : World} {e : TypeId} {v : Value} {gs : List Gr} (h : OwnP p w e v gs) (hb : Below w.heap.size w w') : OwnP p w' e v gs := h.of fun k _ hk => hb.block k hk
theorem OwnP.set {p : Nat → Prop} {b : Nat} {w : World} {e : TypeId} {v : Value} {gs : List Gr} (h : OwnP p w e v gs) (hb : ¬ p b) (j : Nat) (u : Value) : OwnP p (w.setCell ⟨b, j, none⟩ u) e v gs :=
  h.of fun k hk _ => Below.heap_setCell w ⟨b, j, none⟩ u k (by show k ≠ b; rintro rfl; exact hb hk)
theorem OwnP.setRow {p : Nat → Prop} {b : Nat} {w : World} {e : TypeId} {v : Value} {gs : List Gr} (h : OwnP p w e v gs) (hb : ¬ p b) (c : Array Value) : OwnP p (w.setRow b c) e v gs :=
  h.of fun k hk _ => Go.setRow_other w b k c (by rintro rfl; exact hb hk)
theorem OwnP.row {p : Nat → Prop} {w : World} {e : TypeId} {v : Value} {gs : List Gr} (h : OwnP p w e v gs) : ∀ k, v.ownBlock = some k → p k ∧ k < w.heap.size := by
  obtain ⟨ps, h1, h2, h3, h4, h5⟩ := h
  exact fun k hk => ⟨h4 k hk, (h2.lt k hk).2⟩
theorem OwnP.swG {p : Nat → Prop} {w : World} {e : TypeId} {v : Value} {gs : List Gr} (h : OwnP p w e v gs) : SwG w v gs := (h.ownG (n := 0) (fun _ _ => Nat.zero_le _)).swG (Nat.zero_le _)
theorem OwnP.nil_ (p : Nat → Prop) (w : World) (e : TypeId) : OwnP p w e (.slice none 0 0) [] := ⟨[], rfl, World.ownsRow_nil _ _ _ _, ⟨by simp, by simp, List.Pairwise.nil⟩, fun k hk => by simp [Value.ownBlock] at hk, by simp⟩
theorem MadeG.ownP {w0 w : World} {e : TypeId} {v : Value} {gs : List Gr} (h : MadeG w0 w e v gs) : OwnP (fun k => w0.heap.size ≤ k) w e v gs := h.ownG.ownP
theorem OwnP.made {p : Nat → Prop} {w0 w : World} {e : TypeId} {v : Value} {gs : List Gr} (h : OwnP p w e v gs) (hp : ∀ k, p k → w0.heap.size ≤ k) (hb : Below w0.heap.size w0 w) : MadeG w0 w e v gs := (h.ownG hp).made hb
/-- One more behind it. -/
theorem run_snocP {P : Program} {p q : Nat → Prop} {w1 w : World} {t e : TypeId} {z : Value} {bytes : Nat} (E : ElN P t e z 3 bytes) (ty : TypeId) {v : Value} {gs : List Gr} (hM : OwnP p w1 e v gs) (hpq : ∀ k, p k → q k) (hq1 : ∀ k, w1.heap.size ≤ k → q k) (hb : Below w1.heap.size w1 w) {g : Gr} {u : Value} (hu : w.ownsRow w1.heap.size 5 1 u g.bytes.length (bv g.bytes))
    (a : Addr) (c : Nat) (hc : ∀ j x, (cells3 g u)[j]? = some x → w.cell? (a.add j) = some x) (hby : (gs.length + 1) * bytes ≤ 140737488355328) (hu1 : u.oneCell' = true) :
    ∃ v' w', (Builtin.append_ #[t, t] ty #[v, .slice (some a) 1 c]).run P w = .ok v' w' ∧ OwnP q w' e v' (gs ++ [g]) ∧ w.grownBy w' v.ownBlock := by
  obtain ⟨i, hi, hz0, hz1, hz2⟩ := info_parts' E.hi
  obtain ⟨ps, rfl, h2, h3, h4, h5⟩ := hM
  have hbb := E.hb
  rw [List.length_map] at hby
  have hle : ps.length + 1 ≤ (ps.length + 1) * bytes := Nat.le_mul_of_pos_right _ hbb
  obtain ⟨v', w', r1, r2, r3, _, r5⟩ := run_append_own_at (P := P) w 0 t ty e i z 3 bytes E.ht hi hz0 hz1 hz2 E.hz (by omega) v ps.length (cellsG ps) (owns_below h2 hb) a 1 c (cells3 g u) rfl hc
    (by intro x hx; simp [cells3] at hx; rcases hx with rfl | rfl | rfl <;> first | rfl | exact hu1) (by unfold maxLen; omega) hby (Nat.zero_le _)
  have hvlt : ∀ k, v.ownBlock = some k → k < w1.heap.size := fun k hk => (h2.lt k hk).2
  have hug : ∀ k, u.ownBlock = some k → w1.heap.size ≤ k ∧ k < w.heap.size := fun k hk => hu.lt k hk
  have hpl : ∀ r ∈ ps, ∀ k, r.2.ownBlock = some k → k < w1.heap.size := fun r hr k hk => ((h3.own r hr).lt k hk).2
  have hbs := hb.size
  refine ⟨v', w', r1, ⟨ps ++ [(g, u)], by simp, ?_, ⟨?_, ?_, ?_⟩, ?_, ?_⟩, r3⟩
  · rw [List.length_append, cellsG_append]
    simpa [cellsG] using r2
  · intro r hr
    rcases List.mem_append.1 hr with hr | hr
    · exact owns_other (owns_below (h3.own r hr) hb) r3 fun k hk e => h3.out r hr k e hk
    · simp only [List.mem_cons, List.not_mem_nil, or_false] at hr
      subst hr
      exact owns_other (owns_mono hu (Nat.zero_le _)) r3 fun k hk e => by have := hvlt k e; have := (hug k hk).1; omega
  · intro r hr k hk hrk
    rcases List.mem_append.1 hr with hr | hr
    · rcases r5 with r5 | r5
      · rw [r5] at hk; exact h3.out r hr k hk hrk
      · rw [r5] at hk
        injection hk with hk
        have := hpl r hr k hrk
        omega
    · simp only [List.mem_cons, List.not_mem_nil, or_false] at hr
      subst hr
      have h6 := hug k hrk
      rcases r5 with r5 | r5
      · rw [r5] at hk; have := hvlt k hk; omega
      · rw [r5] at hk
        injection hk with hk
        omega
  · rw [List.pairwise_append]
    refine ⟨h3.apart, by simp, fun r hr s hs k hk hsk => ?_⟩
    simp only [List.mem_cons, List.not_mem_nil, or_false] at hs
    subst hs
    have := hpl r hr k hk
    have := (hug k hsk).1
    omega
  · intro k hk
    rcases r5 with r5 | r5
    · rw [r5] at hk; exact hpq k (h4 k hk)
    · rw [r5] at hk
      injection hk with hk
      exact hq1 k (by omega)
  · intro r hr k hk
    rcases List.mem_append.1 hr with hr | hr
    · exact hpq k (h5 r hr k hk)
    · simp only [List.mem_cons, List.not_mem_nil, or_false] at hr
      subst hr
      exact hq1 k (hug k hk).1
theorem step_snocP {P : Program} {p q : Nat → Prop} {w1 w : World} {t e : TypeId} {z : Value} {bytes : Nat} (E : ElN P t e z 3 bytes) {ops : Array Oper} {o : Oper} {a : Act} {K : Act → World → Prop} {Q : Exit → Act → World → Prop} {E0 : Prop} (hw : Region.wanted o (yielded ops a.tmps) = true) (s x : Operand)
    (ho : o.op = .call { callee := .builtin .append, args := #[s, x], argTypes := #[t, t] }) {v : Value} {gs : List Gr} (hs : a.eval s = v) (hM : OwnP p w1 e v gs) (hpq : ∀ k, p k → q k) (hq1 : ∀ k, w1.heap.size ≤ k → q k) (hb : Below w1.heap.size w1 w) {g : Gr} {u : Value} (hu : w.ownsRow w1.heap.size 5 1 u g.bytes.length (bv g.bytes))
    {ad : Addr} {c : Nat} (hxe : a.eval x = .slice (some ad) 1 c) (hc : ∀ j y, (cells3 g u)[j]? = some y → w.cell? (ad.add j) = some y) (hby : (gs.length + 1) * bytes ≤ 140737488355328) (hu1 : u.oneCell' = true)
    (h : ∀ v' w', OwnP q w' e v' (gs ++ [g]) → w.grownBy w' v.ownBlock → K (a.put o.dst v') w') : if Region.wanted o (yielded ops a.tmps) = true then Oper.wp P o a w K Q else E0 := by
  rw [if_pos hw]
  obtain ⟨v', w', hrun, h2, h3⟩ := run_snocP (w := w) E o.type hM hpq hq1 hb hu ad c hc hby hu1
  unfold Oper.wp execOp
  simp only [ho, resolve, invoke, builtin, Sem.run_bind, Sem.run_pure, Result.andThen_ok, List.map_toArray, List.map_cons, List.map_nil, hs, hxe, hrun]
  exact h v' w' h2 h3
end Go.Proofs.YtjkhancjfaegiaaDoor
