/- A slice that was made since a world, of cells of its own: what 'append' makes of it, time after time, with nothing turned of what lay. And a scope that is jumped about in. No program is named here. -/
import Derived.Test.YtjkhancjfaegiaaDoorRng
set_option linter.unusedVariables false
set_option maxRecDepth 100000
set_option linter.unusedSimpArgs false
namespace Go.Proofs.YtjkhancjfaegiaaDoor
open Go.RowKit Go.Shelf

theorem bv_take (l : List UInt8) (n : Nat) : (bv l).take n = bv (l.take n) := by unfold bv; rw [List.map_take]
theorem bv_drop (l : List UInt8) (n : Nat) : (bv l).drop n = bv (l.drop n) := by unfold bv; rw [List.map_drop]
theorem gr_new {W W' : World} {row : Option Nat} (h : W.grownBy W' row) (hr : ∀ g, row = some g → W.heap.size ≤ g) : Below W.heap.size W W' :=
  ⟨h.os, h.tape, h.output, h.size, fun k hk => h.block k hk (fun e => by have := hr k e.symm; omega)⟩
theorem gr_of_below {W W' : World} (h : Below W.heap.size W W') (row : Option Nat) : W.grownBy W' row := ⟨h.os, h.tape, h.output, h.size, fun k hk _ => h.block k hk⟩
theorem Sl.form {w : World} {v : Value} {xs : List Value} (h : Sl w v xs) : ∃ A c, v = .slice A xs.length c := by
  rcases h with ⟨rfl, rfl⟩ | ⟨b, off, c, rfl, _⟩
  · exact ⟨_, _, rfl⟩
  · exact ⟨_, _, rfl⟩
theorem below_drewN {w : World} (n : Nat) : Below w.heap.size w (w.drewN n) := ⟨rfl, rfl, rfl, Nat.le_refl _, fun _ _ => rfl⟩
/-- The j-th byte of a slice. -/
theorem Sl.at_ {w : World} {A : Option Addr} {n c : Nat} {l : List UInt8} (h : Sl w (.slice A n c) (bv l)) (j : Nat) (hj : j < l.length) : ∃ b off, A = some ⟨b, off, none⟩ ∧ b < w.heap.size ∧ w.cell? ⟨b, off + j, none⟩ = some (.int .u8 (l[j].toNat : Int)) := by
  rcases h with ⟨_, hz⟩ | ⟨b, off, c, hv, h1, h2, h3, h4⟩
  · have : l.length = 0 := by rw [← bv_length, hz]; rfl
    omega
  · injection hv with hv
    exact ⟨b, off, hv, h3, h4 j _ (bv_get l j hj)⟩
/-- An array literal's slice. -/
theorem Sl.lit (w : World) (xs : List Value) (t : TypeId) (n : Nat) (hn : xs.length = n) (hm : n ≤ 1000000) : Sl (w.alloc (.cells xs.toArray t)) (.slice (some ⟨w.heap.size, 0, none⟩) n n) xs := by
  subst hn
  refine .inr ⟨w.heap.size, 0, xs.length, rfl, Nat.le_refl _, by unfold maxLen; omega, by simp, fun j u hu => ?_⟩
  have hb : (w.alloc (.cells xs.toArray t)).heap[w.heap.size]? = some (.cells xs.toArray t (0, 0)) := World.alloc_heap_new w _
  unfold World.cell?
  dsimp only
  rw [hb]
  simpa using hu

/-- v was made since w0, its cells are xs, and all that lay then lies. -/
structure Made (w0 w : World) (e : TypeId) (v : Value) (xs : List Value) : Prop where
  own : w.ownsRow w0.heap.size e 1 v xs.length xs
  below : Below w0.heap.size w0 w
theorem Made.sl {w0 w : World} {e : TypeId} {v : Value} {xs : List Value} (h : Made w0 w e v xs) : Sl w v xs := Sl.of_own h.own
theorem Made.row {w0 w : World} {e : TypeId} {v : Value} {xs : List Value} (h : Made w0 w e v xs) : ∀ g, v.ownBlock = some g → w0.heap.size ≤ g := by
  intro g hg
  rcases h.own.2 with ⟨rfl, _⟩ | ⟨g', cap, cur, rfl, hb, _⟩
  · cases hg
  · have : g' = g := by simpa [Value.ownBlock] using hg
    omega
theorem Made.nil_ (w : World) (e : TypeId) : Made w w e (.slice none 0 0) [] := ⟨World.ownsRow_nil _ _ _ _, Below.refl _ _⟩
theorem Made.lit (w : World) (e : TypeId) (xs : List Value) (n : Nat) (hn : xs.length = n) (hm : n ≤ 1000000) : Made w (w.alloc (.cells xs.toArray e)) e (.slice (some ⟨w.heap.size, 0, none⟩) n n) xs := by
  subst hn
  exact ⟨⟨by simp, .inr ⟨w.heap.size, xs.length, xs.toArray, rfl, Nat.le_refl _, World.alloc_heap_new w _, Nat.le_refl _, by unfold maxLen; omega, by simp, by simp⟩⟩, (Below.refl _ w).alloc (Nat.le_refl _) _⟩
theorem Made.alloc {w0 w : World} {e : TypeId} {v : Value} {xs : List Value} (h : Made w0 w e v xs) (o : Obj) : Made w0 (w.alloc o) e v xs := ⟨h.own.alloc _, h.below.alloc h.below.size _⟩
theorem Made.drewN {w0 w : World} {e : TypeId} {v : Value} {xs : List Value} (h : Made w0 w e v xs) (n : Nat) : Made w0 (w.drewN n) e v xs := ⟨h.own, h.below.os, h.below.tape, h.below.output, h.below.size, h.below.block⟩
theorem Made.drew {w0 w : World} {e : TypeId} {v : Value} {xs : List Value} (h : Made w0 w e v xs) : Made w0 w.drew e v xs := ⟨h.own, h.below.os, h.below.tape, h.below.output, h.below.size, h.below.block⟩
theorem Made.behind {w0 w w' : World} {e : TypeId} {v : Value} {xs : List Value} (h : Made w0 w e v xs) (hb : Below w.heap.size w w') : Made w0 w' e v xs := by
  refine ⟨⟨h.own.1, ?_⟩, h.below.trans (hb.mono h.below.size)⟩
  rcases h.own.2 with h1 | ⟨g, cap, cur, rfl, h1, h2, h3⟩
  · exact .inl h1
  · exact .inr ⟨g, cap, cur, rfl, h1, (hb.block g (Array.getElem?_eq_some_iff.1 h2).1).trans h2, h3⟩
/-- The j-th cell of it: where it lies, that it may be written, and what is there behind that. -/
theorem Made.cell_ {w0 w : World} {e : TypeId} {v : Value} {xs : List Value} (h : Made w0 w e v xs) (j : Nat) (hj : j < xs.length) : ∃ g cap, v = .slice (some ⟨g, 0, none⟩) xs.length cap ∧ w0.heap.size ≤ g ∧ w.cell? ⟨g, j, none⟩ = some xs[j] ∧ w.frozen? ⟨g, j, none⟩ = false ∧
    ∀ u, Made w0 (w.setCell ⟨g, j, none⟩ u) e v (xs.set j u) := by
  have ho := h.own
  rcases ho.2 with ⟨_, h0⟩ | ⟨g, cap, cur, rfl, hb, hg, h3, h4, h5, h6⟩
  · omega
  · refine ⟨g, cap, rfl, hb, ?_, ?_, fun u => ⟨?_, h.below.setCell (p := ⟨g, j, none⟩) hb u⟩⟩
    · have := Sl.of_own ho
      have := this.parts.2.2.2.2 j xs[j] (List.getElem?_eq_getElem hj)
      rwa [Nat.zero_add] at this
    · unfold World.frozen?
      rw [hg]
      simp
    · rw [List.length_set]
      exact (ho.stored j u).1
theorem Made.byte_ {w0 w : World} {e : TypeId} {v : Value} {l : List UInt8} (h : Made w0 w e v (bv l)) (j : Nat) (hj : j < l.length) : ∃ g cap, v = .slice (some ⟨g, 0, none⟩) l.length cap ∧ w0.heap.size ≤ g ∧ w.cell? ⟨g, j, none⟩ = some (.int .u8 (l[j].toNat : Int)) ∧ w.frozen? ⟨g, j, none⟩ = false ∧
    ∀ z : UInt8, Made w0 (w.setCell ⟨g, j, none⟩ (.int .u8 (z.toNat : Int))) e v (bv (l.set j z)) := by
  obtain ⟨g, cap, h1, h2, h3, h4, h5⟩ := h.cell_ j (by rw [bv_length]; exact hj)
  refine ⟨g, cap, by rw [h1, bv_length], h2, by rw [h3]; simp [bv], h4, fun z => ?_⟩
  have := h5 (.int .u8 (z.toNat : Int))
  rwa [show (bv l).set j (.int .u8 (z.toNat : Int)) = bv (l.set j z) by unfold bv; rw [List.map_set]] at this

section
variable {P : Program} {w0 w : World} {t e : TypeId} {z : Value} {bytes : Nat}
theorem run_more (E : ElOf P t e z bytes) (ty : TypeId) {v : Value} {xs : List Value} (hM : Made w0 w e v xs) {vx : Value} {news : List Value} (hx : Sl w vx news) (h1 : ∀ u ∈ news, u.oneCell' = true) (hby : (xs.length + news.length) * bytes ≤ 140737488355328) :
    ∃ v' w', (Builtin.append_ #[t, t] ty #[v, vx]).run P w = .ok v' w' ∧ Made w0 w' e v' (xs ++ news) := by
  obtain ⟨v', w', a1, a2, a3, a4⟩ := run_app E w0.heap.size ty v xs.length xs hM.own vx news hx h1 hby hM.below.size
  refine ⟨v', w', a1, by rw [List.length_append]; exact a2, ?_⟩
  have := gr_then (gr_of_below hM.below none) a3 (.inr hM.row)
  exact below_of_none this
theorem wpList_more (E : ElOf P t e z bytes) {ops : Array Oper} {rest : List Oper} {o : Oper} {a : Act} {Q : Exit → Act → World → Prop} (hw : Region.wanted o (yielded ops a.tmps) = true) (s x : Operand)
    (ho : o.op = .call { callee := .builtin .append, args := #[s, x], argTypes := #[t, t] }) {v : Value} {xs : List Value} (hs : a.eval s = v) (hM : Made w0 w e v xs)
    {vx : Value} {news : List Value} (hxe : a.eval x = vx) (hx : Sl w vx news) (h1 : ∀ u ∈ news, u.oneCell' = true) (hby : (xs.length + news.length) * bytes ≤ 140737488355328)
    (h : ∀ v' w', Made w0 w' e v' (xs ++ news) → wpList P ops Q rest (a.put o.dst v') w') : wpList P ops Q (o :: rest) a w := by
  refine wpList_step fun K hK => ?_
  rw [if_pos hw]
  obtain ⟨v', w', hrun, h2⟩ := run_more (w := w) E o.type hM hx h1 hby
  unfold Oper.wp execOp
  simp only [ho, resolve, invoke, builtin, Sem.run_bind, Sem.run_pure, Result.andThen_ok, List.map_toArray, List.map_cons, List.map_nil, hs, hxe, hrun]
  exact hK _ _ (h v' w' h2)
/-- A cut, under a guard that says yes. -/
theorem wpList_cutw (E : ElOf P t e z bytes) {ops : Array Oper} {rest : List Oper} {o : Oper} {a : Act} {Q : Exit → Act → World → Prop} (hw : Region.wanted o (yielded ops a.tmps) = true) (x : Operand) (lo hi : Option Operand)
    (ho : o.op = .slice t x lo hi none) (v : Value) (xs : List Value) (hx : a.eval x = v) (h : Sl w v xs) (k m : Nat) (hk : k ≤ m) (hm : m ≤ xs.length)
    (hlo : lo.map a.eval = some (.int .i64 (k : Int)) ∨ (lo.map a.eval = none ∧ k = 0)) (hhi : hi.map a.eval = some (.int .i64 (m : Int)) ∨ (hi.map a.eval = none ∧ m = xs.length))
    (hn : ∀ A c, Sl w (.slice A (m - k) c) ((xs.take m).drop k) → wpList P ops Q rest (a.put o.dst (.slice A (m - k) c)) w) : wpList P ops Q (o :: rest) a w := by
  refine wpList_step fun K hK => ?_
  rw [if_pos hw]
  obtain ⟨A, c, hrun, h2⟩ := run_cut (w := w) E h k m hk hm (lo.map a.eval) (hi.map a.eval) hlo hhi
  unfold Oper.wp execOp
  have hel : P.underlying t = some (.slice (P.elem t)) := by rw [E.ht]; simp [Program.elem, E.ht]
  simp only [ho, hx, Option.map_none, Sem.run_bind, run_sliceAt_slice w t v _ _ _ hel, hrun, Result.andThen_ok, Sem.run_pure]
  exact hK _ _ (hn A c h2)
/-- 'make([]T, n)': n zeros. -/
theorem wpList_zeros (E : ElOf P t e z bytes) (hzc : z.cells = #[z]) {ops : Array Oper} {rest : List Oper} {o : Oper} {a : Act} {Q : Exit → Act → World → Prop} (hgd : o.guard = none) (l c : Operand) (ho : o.op = Op.makeSlice t l c)
    (n : Nat) (hl : a.eval l = .int .i64 (n : Int)) (hc : a.eval c = .int .i64 (n : Int)) (hb : bytes * n ≤ 281474976710656) (hn : n ≤ maxLen)
    (h : ∀ w', Made w w' e (.slice (some ⟨w.heap.size, 0, none⟩) n n) (List.replicate n z) → wpList P ops Q rest (a.put o.dst (.slice (some ⟨w.heap.size, 0, none⟩) n n)) w') : wpList P ops Q (o :: rest) a w := by
  obtain ⟨i, hi, hz0, hz1, hz2⟩ := info_parts E.hi
  refine wpList_make_full w hgd l c t ho w.heap.size e i z 1 E.ht hi hz0 hz1 .i64 .i64 _ _ n hl hc rfl rfl (by rw [hz2]; exact hb) hn (Nat.le_refl _) ?_
  intro w' h1 h2
  rw [hzc, Nat.mul_one, toList_madeCells_one] at h1
  exact h w' ⟨by rw [List.length_replicate]; exact h1, below_of_none h2⟩
/-- In a region that draws. -/
theorem step_more (E : ElOf P t e z bytes) {ops : Array Oper} {o : Oper} {a : Act} {K : Act → World → Prop} {Q : Exit → Act → World → Prop} {E0 : Prop} (hw : Region.wanted o (yielded ops a.tmps) = true) (s x : Operand)
    (ho : o.op = .call { callee := .builtin .append, args := #[s, x], argTypes := #[t, t] }) {v : Value} {xs : List Value} (hs : a.eval s = v) (hM : Made w0 w e v xs)
    {vx : Value} {news : List Value} (hxe : a.eval x = vx) (hx : Sl w vx news) (h1 : ∀ u ∈ news, u.oneCell' = true) (hby : (xs.length + news.length) * bytes ≤ 140737488355328)
    (h : ∀ v' w', Made w0 w' e v' (xs ++ news) → K (a.put o.dst v') w') :
    if Region.wanted o (yielded ops a.tmps) = true then Oper.wp P o a w K Q else E0 := by
  rw [if_pos hw]
  obtain ⟨v', w', hrun, h2⟩ := run_more (w := w) E o.type hM hx h1 hby
  unfold Oper.wp execOp
  simp only [ho, resolve, invoke, builtin, Sem.run_bind, Sem.run_pure, Result.andThen_ok, List.map_toArray, List.map_cons, List.map_nil, hs, hxe, hrun]
  exact h v' w' h2
end

/-- As Q; by a goto to l: J; by a goto to another label: what stands behind it, to the end. -/
def Exit.back (P : Program) (c : Code) (l : Nat) (J : Act → World → Prop) (Q : Exit → Act → World → Prop) : Exit → Act → World → Prop
  | .goto l', a, w => (l' = l ∧ J a w) ∨ ∃ rest, findLabel c l' = some rest ∧ rest.wp P (Exit.noGoto Q) a w
  | e, a, w => Q e a w
/-- A scope that jumps back to one label, and on to others: what holds at every jump back, and a measure. -/
theorem wp_scope_back {P : Program} {c rest : Code} {Q : Exit → Act → World → Prop} {a : Act} {w : World} (l : Nat) (J : Act → World → Prop) (μ : Act → World → Nat) (hf : findLabel c l = some rest)
    (first : c.wp P (Exit.back P c l J Q) a w)
    (pass : ∀ a w, J a w → rest.wp P (Exit.back P c l (fun a' w' => J a' w' ∧ μ a' w' < μ a w) Q) a w) : (Code.scope c).wp P Q a w := by
  intro b k cs
  have hg : gotoIn l (.inScope c :: k) = some (.code rest :: .inScope c :: k) := by simp [gotoIn, hf]
  have on : ∀ (l' : Nat) (rest' : Code) (a₁ : Act) (w₁ : World) (m : Machine), findLabel c l' = some rest' → rest'.wp P (Exit.noGoto Q) a₁ w₁ → (∀ k', gotoIn l' (.inScope c :: k) = some k' → Steps P m (lone (b.at a₁ k') cs w₁)) →
      ∃ e a' w', Q e a' w' ∧ Arrives P m b k cs e a' w' := by
    intro l' rest' a₁ w₁ m hf' hr harr
    have hg' : gotoIn l' (.inScope c :: k) = some (.code rest' :: .inScope c :: k) := by simp [gotoIn, hf']
    obtain ⟨e₂, a₂, w₂, hq₂, harr₂⟩ := hr b (.inScope c :: k) cs
    have hs := harr _ hg'
    cases e₂ with
    | normal => exact ⟨.normal, a₂, w₂, hq₂, hs.trans (Steps.trans harr₂ (.one step_inScope))⟩
    | exit id => exact ⟨.exit id, a₂, w₂, hq₂, fun k' hk => hs.trans (harr₂ k' (by simp [exitTo, hk]))⟩
    | goto l => exact hq₂.elim
    | ret => exact ⟨_, a₂, w₂, hq₂, .of_steps hs harr₂⟩
    | panic ch => exact ⟨_, a₂, w₂, hq₂, .of_steps hs harr₂⟩
    | outgrown => exact ⟨_, a₂, w₂, hq₂, .of_steps (b := b) (k := k) (cs := cs) (e := .outgrown) hs harr₂⟩
  have key : ∀ n a w, μ a w = n → J a w → ∃ e a' w', Q e a' w' ∧ Arrives P (lone (b.at a (.code rest :: .inScope c :: k)) cs w) b k cs e a' w' := by
    intro n
    induction n using Nat.strongRecOn with
    | _ n ih =>
      intro a w hn hJ
      obtain ⟨e, a₁, w₁, hq, harr⟩ := pass a w hJ b (.inScope c :: k) cs
      cases e with
      | normal => exact ⟨.normal, a₁, w₁, hq, Steps.trans harr (.one step_inScope)⟩
      | exit id => exact ⟨.exit id, a₁, w₁, hq, fun k' hk => harr k' (by simp [exitTo, hk])⟩
      | goto l' =>
        rcases hq with ⟨rfl, hJ', hlt⟩ | ⟨rest', hf', hr⟩
        · obtain ⟨e₂, a₂, w₂, hq₂, harr₂⟩ := ih _ (by omega) a₁ w₁ rfl hJ'
          exact ⟨e₂, a₂, w₂, hq₂, .of_steps (harr _ hg) harr₂⟩
        · exact on l' rest' a₁ w₁ _ hf' hr harr
      | ret => exact ⟨_, a₁, w₁, hq, harr⟩
      | panic ch => exact ⟨_, a₁, w₁, hq, harr⟩
      | outgrown => exact ⟨_, a₁, w₁, hq, harr⟩
  obtain ⟨e, a₁, w₁, hq, harr⟩ := first b (.inScope c :: k) cs
  cases e with
  | normal => exact ⟨.normal, a₁, w₁, hq, .head step_scope (Steps.trans harr (.one step_inScope))⟩
  | exit id => exact ⟨.exit id, a₁, w₁, hq, fun k' hk => .head step_scope (harr k' (by simp [exitTo, hk]))⟩
  | goto l' =>
    rcases hq with ⟨rfl, hJ'⟩ | ⟨rest', hf', hr⟩
    · obtain ⟨e₂, a₂, w₂, hq₂, harr₂⟩ := key _ a₁ w₁ rfl hJ'
      exact ⟨e₂, a₂, w₂, hq₂, .of_steps (.head step_scope (harr _ hg)) harr₂⟩
    · exact on l' rest' a₁ w₁ _ hf' hr fun k' hk => .head step_scope (harr k' hk)
  | ret => exact ⟨_, a₁, w₁, hq, .of_steps (.one step_scope) harr⟩
  | panic ch => exact ⟨_, a₁, w₁, hq, .of_steps (.one step_scope) harr⟩
  | outgrown => exact ⟨_, a₁, w₁, hq, .of_steps (b := b) (k := k) (cs := cs) (e := .outgrown) (.one step_scope) harr⟩
theorem back_ret {P : Program} {c : Code} {l : Nat} {J : Act → World → Prop} {Q : Exit → Act → World → Prop} {a : Act} {w : World} (h : Q .ret a w) : Exit.back P c l J Q .ret a w := h
theorem back_on {P : Program} {c : Code} {l : Nat} {J : Act → World → Prop} {Q : Exit → Act → World → Prop} {a : Act} {w : World} {l' : Nat} (rest : Code) (hf : findLabel c l' = some rest) (h : rest.wp P (Exit.noGoto Q) a w) : Exit.back P c l J Q (.goto l') a w := .inr ⟨rest, hf, h⟩
theorem back_again {P : Program} {c : Code} {l : Nat} {J : Act → World → Prop} {Q : Exit → Act → World → Prop} {a : Act} {w : World} (h : J a w) : Exit.back P c l J Q (.goto l) a w := .inl ⟨rfl, h⟩
theorem then_goto {K : Act → World → Prop} {Q : Exit → Act → World → Prop} {l : Nat} {a : Act} {w : World} (h : Q (.goto l) a w) : Exit.then K Q (.goto l) a w := h
/-- A scope whose first part ends at the label that is jumped back to. -/
theorem wp_scope_loop {P : Program} {c0 rest : Code} {Q : Exit → Act → World → Prop} {a : Act} {w : World} (l : Nat) (J : Act → World → Prop) (μ : Act → World → Nat) (hf : findLabel (c0.seq ((Code.label l).seq rest)) l = some (Code.skip.seq rest))
    (first : c0.wp P (Exit.then J (fun _ _ _ => False)) a w)
    (pass : ∀ a w, J a w → rest.wp P (Exit.back P (c0.seq ((Code.label l).seq rest)) l (fun a' w' => J a' w' ∧ μ a' w' < μ a w) Q) a w) : (Code.scope (c0.seq ((Code.label l).seq rest))).wp P Q a w := by
  refine wp_scope_back l J μ hf ?_ fun a w hJ => wp_seq (wp_skip (pass a w hJ))
  refine wp_seq (wp_mono first ?_)
  intro e a' w' h
  cases e with
  | normal =>
    refine wp_seq (wp_label ?_)
    refine wp_mono (pass a' w' h) ?_
    intro e a'' w'' h2
    cases e with
    | goto l' => exact h2.imp (fun h => ⟨h.1, h.2.1⟩) id
    | _ => exact h2
  | _ => exact h.elim
end Go.Proofs.YtjkhancjfaegiaaDoor
