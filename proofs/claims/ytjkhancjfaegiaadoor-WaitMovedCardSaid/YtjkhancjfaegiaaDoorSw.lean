/- Slices that lie in memory, within others: one of no room may name any place at all. Slices of structs of a number, bytes, a truth. No program is named here. -/
import Derived.Test.YtjkhancjfaegiaaDoorRow
import Derived.Test.YtjkhancjfaegiaaDoorMade
import Derived.Deep.Slices
import Derived.Deep.Strs
import Derived.Laws.BytesArg
set_option linter.unusedVariables false
set_option maxRecDepth 100000
set_option linter.unusedSimpArgs false
namespace Go.Proofs.YtjkhancjfaegiaaDoor
open Go.RowKit Go.Shelf Go.ChangeShapes Go.WideShapes Go.ChangeAt

/-- As 'Sl'; or of no room, wherever. -/
def Sw (w : World) (v : Value) (xs : List Value) : Prop := Sl w v xs ∨ (xs = [] ∧ ∃ a, v = .slice (some a) 0 0)
theorem Sw.of_sl {w : World} {v : Value} {xs : List Value} (h : Sl w v xs) : Sw w v xs := .inl h
theorem Sw.below {w w' : World} {v : Value} {xs : List Value} (h : Sw w v xs) (hb : Below w.heap.size w w') : Sw w' v xs := h.imp (fun h => h.below hb) id
theorem Sw.form {w : World} {v : Value} {xs : List Value} (h : Sw w v xs) : ∃ A c, v = .slice A xs.length c := by
  rcases h with h | ⟨rfl, a, rfl⟩
  · exact h.form
  · exact ⟨_, _, rfl⟩
theorem Sw.sl {w : World} {v : Value} {xs : List Value} (h : Sw w v xs) (h0 : xs ≠ []) : Sl w v xs := h.resolve_right fun h => h0 h.1
theorem Sw.len {w : World} {v : Value} {xs : List Value} (h : Sw w v xs) : (xs.length : Int) ≤ 9223372036854775807 := by
  rcases h with h | ⟨rfl, _⟩
  · rcases h with ⟨_, rfl⟩ | ⟨b, off, c, _, h1, h2, _⟩
    · simp
    · unfold maxLen at h2; omega
  · simp

section
variable {P : Program} {w w0 : World} {t e : TypeId} {z : Value} {bytes : Nat}
theorem run_app_w (E : ElOf P t e z bytes) (base : Nat) (ty : TypeId) (v : Value) (n : Nat) (xs : List Value) (hown : w.ownsRow base e 1 v n xs)
    (vx : Value) (news : List Value) (hx : Sw w vx news) (h1 : ∀ u ∈ news, u.oneCell' = true) (hby : (n + news.length) * bytes ≤ 140737488355328) (hbase : base ≤ w.heap.size) :
    ∃ v' w', (Builtin.append_ #[t, t] ty #[v, vx]).run P w = .ok v' w' ∧ w'.ownsRow base e 1 v' (n + news.length) (xs ++ news) ∧ w.grownBy w' v.ownBlock ∧ (v'.ownBlock = v.ownBlock ∨ v'.ownBlock = some w.heap.size) := by
  rcases hx with hx | ⟨rfl, a, rfl⟩
  · exact run_app E base ty v n xs hown vx news hx h1 hby hbase
  · obtain ⟨i, hi, hz0, hz1, hz2⟩ := info_parts E.hi
    have hb := E.hb
    have hle : n + 0 ≤ (n + 0) * bytes := Nat.le_mul_of_pos_right _ hb
    simp only [List.length_nil] at hby
    obtain ⟨v', w', a1, a2, a3, _, a5⟩ := run_append_own_at (P := P) w base t ty e i z 1 bytes E.ht hi hz0 hz1 hz2 E.hz (by omega) v n xs hown a 0 0 [] rfl
      (fun j u hu => by cases hu) h1 (by unfold maxLen; omega) hby hbase
    exact ⟨v', w', a1, a2, a3, a5⟩
/-- 'append' of what lies so, to a slice of the call's own. -/
theorem run_more_w (E : ElOf P t e z bytes) (ty : TypeId) {v : Value} {xs : List Value} (hM : Made w0 w e v xs) {vx : Value} {news : List Value} (hx : Sw w vx news) (h1 : ∀ u ∈ news, u.oneCell' = true) (hby : (xs.length + news.length) * bytes ≤ 140737488355328) :
    ∃ v' w', (Builtin.append_ #[t, t] ty #[v, vx]).run P w = .ok v' w' ∧ Made w0 w' e v' (xs ++ news) ∧ w.grownBy w' v.ownBlock := by
  obtain ⟨v', w', a1, a2, a3, a4⟩ := run_app_w E w0.heap.size ty v xs.length xs hM.own vx news hx h1 hby hM.below.size
  refine ⟨v', w', a1, ⟨by rw [List.length_append]; exact a2, ?_⟩, a3⟩
  have := gr_then (gr_of_below hM.below none) a3 (.inr hM.row)
  exact below_of_none this
theorem wpList_more_w (E : ElOf P t e z bytes) {ops : Array Oper} {rest : List Oper} {o : Oper} {a : Act} {Q : Exit → Act → World → Prop} (hw : Region.wanted o (yielded ops a.tmps) = true) (s x : Operand)
    (ho : o.op = .call { callee := .builtin .append, args := #[s, x], argTypes := #[t, t] }) {v : Value} {xs : List Value} (hs : a.eval s = v) (hM : Made w0 w e v xs)
    {vx : Value} {news : List Value} (hxe : a.eval x = vx) (hx : Sw w vx news) (h1 : ∀ u ∈ news, u.oneCell' = true) (hby : (xs.length + news.length) * bytes ≤ 140737488355328)
    (h : ∀ v' w', Made w0 w' e v' (xs ++ news) → w.grownBy w' v.ownBlock → wpList P ops Q rest (a.put o.dst v') w') : wpList P ops Q (o :: rest) a w := by
  refine wpList_step fun K hK => ?_
  rw [if_pos hw]
  obtain ⟨v', w', hrun, h2, h3⟩ := run_more_w (w := w) E o.type hM hx h1 hby
  unfold Oper.wp execOp
  simp only [ho, resolve, invoke, builtin, Sem.run_bind, Sem.run_pure, Result.andThen_ok, List.map_toArray, List.map_cons, List.map_nil, hs, hxe, hrun]
  exact hK _ _ (h v' w' h2 h3)
/-- 'string(b)'. -/
theorem run_str_w (src dst e : TypeId) (hs : P.underlying src = some (.slice e)) (he : P.underlying e = some (.int .u8)) (hd : P.underlying dst = some .string) (v : Value) (l : List UInt8) (h : Sw w v (bv l)) :
    (convert src dst v).run P w = .ok (.string ⟨l.toArray⟩) w := by
  rcases h with h | ⟨h0, a, rfl⟩
  · exact run_str src dst e hs he hd v l h
  · have : l = [] := List.eq_nil_of_length_eq_zero (by rw [← bv_length, h0]; rfl)
    subst this
    have hl : (loadCells a 0).run P w = .ok (([] : List Int).map (Value.int .u8)).toArray w := by
      simpa using run_loadCells_list (P := P) w a [] (fun j v hj => by cases hj)
    rw [run_convert_bytes_string w src dst e _ 0 0 hs he hd, run_bytesToString w a 0 0 [] hl]
    rfl
end

/-! ### Slices of structs of a number, bytes, a truth -/
structure Gr where
  to : Int
  bytes : List UInt8
  harm : Bool
/-- Such a struct lies here. -/
structure GrAt (w : World) (b o : Nat) (g : Gr) : Prop where
  c0 : w.cell? ⟨b, o, none⟩ = some (.int .i64 g.to)
  c1 : ∃ u, w.cell? ⟨b, o + 1, none⟩ = some u ∧ Sw w u (bv g.bytes)
  c2 : w.cell? ⟨b, o + 2, none⟩ = some (.bool g.harm)
def SwG (w : World) (v : Value) (gs : List Gr) : Prop :=
  (gs = [] ∧ ∃ A c, v = .slice A 0 c ∧ c ≤ maxLen) ∨
  ∃ b off c, v = .slice (some ⟨b, off, none⟩) gs.length c ∧ gs ≠ [] ∧ gs.length ≤ c ∧ c ≤ maxLen ∧ b < w.heap.size ∧ ∀ (j : Nat) (hj : j < gs.length), GrAt w b (off + j * 3) gs[j]
theorem GrAt.below {w w' : World} {b o : Nat} {g : Gr} (h : GrAt w b o g) (hl : b < w.heap.size) (hb : Below w.heap.size w w') : GrAt w' b o g := by
  obtain ⟨u, h1, h2⟩ := h.c1
  exact ⟨(hb.cell (p := ⟨b, o, none⟩) hl).trans h.c0, ⟨u, (hb.cell (p := ⟨b, o + 1, none⟩) hl).trans h1, h2.below hb⟩, (hb.cell (p := ⟨b, o + 2, none⟩) hl).trans h.c2⟩
theorem SwG.below {w w' : World} {v : Value} {gs : List Gr} (h : SwG w v gs) (hb : Below w.heap.size w w') : SwG w' v gs := by
  rcases h with h | ⟨b, off, c, h1, h2, h3, h4, h5, h6⟩
  · exact .inl h
  · exact .inr ⟨b, off, c, h1, h2, h3, h4, Nat.lt_of_lt_of_le h5 hb.size, fun j hj => (h6 j hj).below h5 hb⟩
theorem SwG.form {w : World} {v : Value} {gs : List Gr} (h : SwG w v gs) : ∃ A c, v = .slice A gs.length c := by
  rcases h with ⟨rfl, A, c, rfl, _⟩ | ⟨b, off, c, h1, _⟩
  · exact ⟨A, c, rfl⟩
  · exact ⟨_, c, h1⟩
theorem SwG.at_ {w : World} {A : Option Addr} {n c : Nat} {gs : List Gr} (h : SwG w (.slice A n c) gs) (j : Nat) (hj : j < gs.length) : ∃ b off, A = some ⟨b, off, none⟩ ∧ b < w.heap.size ∧ GrAt w b (off + j * 3) gs[j] := by
  rcases h with ⟨rfl, _⟩ | ⟨b, off, c, h1, _, _, _, h5, h6⟩
  · simp at hj
  · injection h1 with h1
    exact ⟨b, off, h1, h5, h6 j hj⟩
theorem SwG.len {w : World} {v : Value} {gs : List Gr} (h : SwG w v gs) : (gs.length : Int) ≤ 9223372036854775807 := by
  rcases h with ⟨rfl, _⟩ | ⟨b, off, c, _, _, h3, h4, _⟩
  · simp
  · unfold maxLen at h4; omega
theorem SwG.nil_ (w : World) : SwG w (.slice none 0 0) [] := .inl ⟨rfl, none, 0, rfl, by decide⟩

section
variable {H : Type} {enc : TypeId × Value → H} {P : Program} {W : World}
/-- Bytes that are read in memory. -/
theorem sw_of_trod {t e : TypeId} {fuel : Nat} {u : Value} {x : DataW H × List MemPlace} (ht : P.underlying t = some (.slice e)) (he : P.underlying e = some (.int .u8)) (hc : P.cellsOf e = 1)
    (h : DataW.trod enc P W 0 (fun _ => true) true fuel t [u] = some x) : ∃ l : List UInt8, Sw W u (bv l) := by
  rcases open_ints ht he hc h with ⟨hcs, _⟩ | ⟨a, len, cap, zs, hcs, _, hl, hm, hz, _, hcell, hwz⟩
  · simp at hcs
    subst hcs
    exact ⟨[], .inl (Sl.nil_ W)⟩
  · simp at hcs
    subst hcs
    simp only [if_true] at hz
    by_cases h0 : cap = 0
    · subst h0
      obtain rfl : len = 0 := by omega
      exact ⟨[], .inr ⟨rfl, a, rfl⟩⟩
    · have hc0 := hcell 0 (by omega)
      obtain ⟨b, off, spot⟩ := a
      have hs : spot = none ∧ b < W.heap.size := by
        unfold World.cell? Addr.add at hc0
        simp only [if_true] at hc0
        cases hh : W.heap[b]? with
        | none => simp [hh] at hc0
        | some o =>
          refine ⟨?_, (Array.getElem?_eq_some_iff.1 hh).1⟩
          cases o <;> simp [hh] at hc0
          exact hc0.1
      obtain ⟨rfl, hb⟩ := hs
      refine ⟨(zs.take len).map fun n => UInt8.ofNat n.toNat, .inl (.inr ⟨b, off, cap, ?_, ?_, hm, hb, fun j v hu => ?_⟩)⟩
      · simp [bv, List.length_take]; omega
      · simp [bv, List.length_take]; omega
      · have hj : j < len := by
          rcases Nat.lt_or_ge j len with h | h
          · exact h
          · rw [List.getElem?_eq_none (by simp [bv, List.length_take]; omega)] at hu; cases hu
        have hj2 : j < zs.length := by omega
        have h1 := hcell j hj2
        rw [add_plain] at h1
        rw [h1]
        have hw := hwz zs[j] (List.getElem_mem hj2)
        have hbd := bounds_u8 hw
        simp [bv, hj, hj2, List.getElem?_take] at hu
        rw [← hu]
        simp [List.getD, hj2]
        omega
/-- How such structs are laid in a program. -/
structure GrTy (P : Program) (t e : TypeId) : Prop where
  ht : P.underlying t = some (.slice e)
  fs : ∃ f0 f1 f2 : Field, ∃ b : TypeId, P.underlying e = some (.struct #[f0, f1, f2]) ∧ f0.offset = 0 ∧ f1.offset = 1 ∧ f2.offset = 2 ∧ P.cellsOf f0.type = 1 ∧ P.cellsOf f1.type = 1 ∧ P.cellsOf f2.type = 1 ∧
    P.underlying f0.type = some (.int .i64) ∧ P.underlying f1.type = some (.slice b) ∧ P.underlying b = some (.int .u8) ∧ P.cellsOf b = 1 ∧ P.underlying f2.type = some .bool
  ce : P.cellsOf e = 3
/-- One struct's cells. -/
theorem gr_of_trod {t e : TypeId} (T : GrTy P t e) {fuel : Nat} {cs : List Value} {x : DataW H × List MemPlace} (h : DataW.trod enc P W 0 (fun _ => true) true fuel e cs = some x) :
    ∃ (g : Gr) (u : Value), cs = [.int .i64 g.to, u, .bool g.harm] ∧ Sw W u (bv g.bytes) ∧ (Lit.int .i64 g.to).wf = true := by
  obtain ⟨f0, f1, f2, b, he, o0, o1, o2, c0, c1, c2, k0, k1, kb, cb, k2⟩ := T.fs
  obtain ⟨y0, y1, y2, n, _, hl, h0, h1, h2⟩ := Go.Deep.trod_struct3 he h
  rw [T.ce] at hl
  match cs, hl with
  | [v0, v1, v2], _ =>
    simp [o0, o1, o2, c0, c1, c2] at h0 h1 h2
    obtain ⟨m, e0, _, hw⟩ := DataW.trod_int k0 h0
    obtain ⟨l, hs⟩ := sw_of_trod k1 kb cb h1
    obtain ⟨q, e2, _⟩ := DataW.trod_bool k2 h2
    injection e0 with e0
    injection e2 with e2
    subst e0 e2
    exact ⟨⟨m, l, q⟩, v1, rfl, hs, hw⟩
theorem swG_of_trod {t e : TypeId} (T : GrTy P t e) {fuel : Nat} {v : Value} {x : DataW H × List MemPlace} (h : DataW.trod enc P W 0 (fun _ => true) true fuel t [v] = some x) :
    ∃ gs : List Gr, SwG W v gs ∧ ∀ g ∈ gs, (Lit.int .i64 g.to).wf = true := by
  rcases Go.Deep.open_slice T.ht h with ⟨hcs, _⟩ | ⟨a, len, cap, m, n, D, Pl, hcs, _, hl, hm, hmm, _, hx⟩
  · simp at hcs
    subst hcs
    exact ⟨[], SwG.nil_ W, by simp⟩
  · simp at hcs
    subst hcs
    simp only [if_true] at hmm
    subst hmm
    by_cases h0 : len = 0
    · subst h0
      exact ⟨[], .inl ⟨rfl, _, _, rfl, hm⟩, by simp⟩
    · have each : ∀ i, i < m → ∃ q : Gr × Value, W.cell? (a.add (i * 3)) = some (.int .i64 q.1.to) ∧ W.cell? (a.add (i * 3 + 1)) = some q.2 ∧ W.cell? (a.add (i * 3 + 2)) = some (.bool q.1.harm) ∧ Sw W q.2 (bv q.1.bytes) ∧ (Lit.int .i64 q.1.to).wf = true := by
        intro i hi
        obtain ⟨cs', h1, h2⟩ := hx i hi
        obtain ⟨g, u, rfl, hs, hw⟩ := gr_of_trod T h2
        rw [T.ce] at h1
        obtain ⟨_, _, hcell⟩ := World.cells?_some h1
        have e0 := hcell 0 (by omega)
        have e1 := hcell 1 (by omega)
        have e2 := hcell 2 (by omega)
        rw [Go.Deep.add_add] at e0 e1 e2
        exact ⟨(g, u), by simpa using e0, by simpa using e1, by simpa using e2, hs, hw⟩
      have hm0 : 0 < m := by omega
      have : Inhabited (Gr × Value) := ⟨(⟨0, [], false⟩, .slice none 0 0)⟩
      obtain ⟨q, hq⟩ := Go.Deep.choose_lt each
      obtain ⟨b, off, spot⟩ := a
      have hs : spot = none ∧ b < W.heap.size := by
        have hc0 := (hq 0 hm0).1
        unfold World.cell? Addr.add at hc0
        simp only [Nat.zero_mul, if_true] at hc0
        cases hh : W.heap[b]? with
        | none => simp [hh] at hc0
        | some o =>
          refine ⟨?_, (Array.getElem?_eq_some_iff.1 hh).1⟩
          cases o <;> simp [hh] at hc0
          exact hc0.1
      obtain ⟨rfl, hb⟩ := hs
      refine ⟨(List.range len).map fun i => (q i).1, .inr ⟨b, off, m, by simp, by simp [h0], by simpa using hl, hm, hb, fun j hj => ?_⟩, fun g hg => ?_⟩
      · simp at hj
        obtain ⟨g0, g1, g2, g3, _⟩ := hq j (by omega)
        rw [add_plain] at g0 g1 g2
        simp only [List.getElem_map, List.getElem_range]
        exact ⟨g0, ⟨_, by rw [Nat.add_assoc]; exact g1, g3⟩, by rw [Nat.add_assoc]; exact g2⟩
      · obtain ⟨i, hi, rfl⟩ := List.mem_map.1 hg
        exact (hq i (by have := List.mem_range.1 hi; omega)).2.2.2.2
end
end Go.Proofs.YtjkhancjfaegiaaDoor
