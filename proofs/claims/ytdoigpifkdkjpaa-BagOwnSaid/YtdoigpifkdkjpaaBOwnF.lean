/- Facts for what is stored into results: rows that nobody reads, bytes of which none is told. -/
import Derived.Test.YtdoigpifkdkjpaaFacts
import Derived.Test.YtdoigpifkdkjpaaBRef
import Derived.Great.BuildSlice
set_option linter.unusedVariables false
set_option maxRecDepth 100000
set_option linter.unusedSimpArgs false
namespace Go.Proofs.Ytdoigpifkdkjpaa.Ms
open Go.RowKit Go.Shelf

def F.ownQ (p : Nat → Prop) (e : TypeId) (v : Value) (ps : List (Gr × Value)) : F := ⟨fun W => OwnQ p W e v ps, p, fun W W' h hk => h.of hk.block⟩
theorem F.ownQ_fp (p : Nat → Prop) (e : TypeId) (v : Value) (ps : List (Gr × Value)) (k : Nat) : (F.ownQ p e v ps).fp k = p k := rfl
/-- Of some rows, all but the i-th: each is owned, in its blocks. -/
def F.jk (e : TypeId) (R : List (Nat × Nat × Value)) (i : Nat) : F :=
  ⟨fun W => ∀ (j : Nat) (hj : j < R.length), j ≠ i → ∃ gs, OwnP (fun k => R[j].1 ≤ k ∧ k < R[j].2.1) W e R[j].2.2 gs, fun k => ∃ (j : Nat) (hj : j < R.length), j ≠ i ∧ R[j].1 ≤ k ∧ k < R[j].2.1,
   fun W W' h hk j hj hne => by
    obtain ⟨gs, h1⟩ := h j hj hne
    exact ⟨gs, h1.of fun k hp hlt => hk.block k ⟨j, hj, hne, hp⟩ hlt⟩⟩
theorem F.jk_fp (e : TypeId) (R : List (Nat × Nat × Value)) (i k : Nat) : (F.jk e R i).fp k = ∃ (j : Nat) (hj : j < R.length), j ≠ i ∧ R[j].1 ≤ k ∧ k < R[j].2.1 := rfl
/-- The intervals lie apart, one behind the other. -/
def Apart (R : List (Nat × Nat × Value)) : Prop := R.Pairwise fun a b => a.2.1 ≤ b.1
theorem jk_out {e : TypeId} {R : List (Nat × Nat × Value)} (h : Apart R) {i : Nat} (hi : i < R.length) {b : Nat} (hb : R[i].1 ≤ b ∧ b < R[i].2.1) : ¬ (F.jk e R i).fp b := by
  rintro ⟨j, hj, hne, h1, h2⟩
  rcases Nat.lt_or_ge i j with hij | hij
  · have := (List.pairwise_iff_getElem.1 h) i j hi hj hij
    omega
  · have := (List.pairwise_iff_getElem.1 h) j i hj hi (by omega)
    omega
/-- Bytes lie there, whatever they are. -/
def Sb (W : World) (lo : Nat) (u : Value) (n : Nat) : Prop := ∃ l : List UInt8, l.length = n ∧ W.ownsRow lo 5 1 u n (bv l)
theorem Sb.of {W W' : World} {lo : Nat} {u : Value} {n : Nat} (h : Sb W lo u n) (hk : ∀ k, u.ownBlock = some k → k < W.heap.size → W'.heap[k]? = W.heap[k]?) : Sb W' lo u n := by
  obtain ⟨l, h1, h2⟩ := h
  exact ⟨l, h1, owns_still h2 fun k e => hk k e (h2.lt k e).2⟩
theorem Sb.below {W W' : World} {lo : Nat} {u : Value} {n : Nat} (h : Sb W lo u n) (hb : Below W.heap.size W W') : Sb W' lo u n := h.of fun k _ hk => hb.block k hk
theorem Sb.row {W : World} {lo b : Nat} {u : Value} {n : Nat} {c : Array Value} {t : TypeId} (h : Sb W lo u n) (hr : W.heap[b]? = some (.cells c t (0, 0))) (ht : t ≠ 5) (j : Nat) (x : Value) : Sb (W.setCell ⟨b, j, none⟩ x) lo u n := by
  refine h.of fun k e _ => Below.heap_setCell W ⟨b, j, none⟩ x k ?_
  show k ≠ b
  rintro rfl
  obtain ⟨l, h1, h2⟩ := h
  rcases h2.2 with ⟨rfl, _⟩ | ⟨g, cap, cur, rfl, _, hg, _⟩
  · cases e
  · injection e with e
    subst e
    rw [hr] at hg
    injection hg with hg
    injection hg with h1 h2
    exact ht h2
theorem Sb.byte {W : World} {lo b : Nat} {u : Value} {n : Nat} (h : Sb W lo u n) (j : Nat) (z : UInt8) : Sb (W.setCell ⟨b, j, none⟩ (.int .u8 (z.toNat : Int))) lo u n := by
  obtain ⟨l, h1, h2⟩ := h
  by_cases hb : u.ownBlock = some b
  · rcases h2.2 with ⟨rfl, _⟩ | ⟨g, cap, cur, rfl, h3⟩
    · cases hb
    · have hgb : g = b := by injection hb
      subst hgb
      have := (h2.stored j (.int .u8 (z.toNat : Int))).1
      refine ⟨l.set j z, by simpa using h1, ?_⟩
      rw [show bv (l.set j z) = (bv l).set j (.int .u8 (z.toNat : Int)) by unfold bv; rw [List.map_set]]
      exact this
  · exact ⟨l, h1, owns_still h2 fun k e => Below.heap_setCell W ⟨b, j, none⟩ _ k (by show k ≠ b; rintro rfl; exact hb e)⟩
/-- One fact turned by a store, the others apart from it. -/
theorem Fs.turn {l : List F} {W : World} (h : Fs l W) (i : Nat) {f : F} (hi : l[i]? = some f) (f' : F) {b j : Nat} {x : Value} (hf : f'.ok (W.setCell ⟨b, j, none⟩ x)) (hap : aparts b (l.eraseIdx i)) : Fs (l.set i f') (W.setCell ⟨b, j, none⟩ x) := ⟨fun g hg => by
  have hd := aparts_mem hap
  have hlt : i < l.length := (List.getElem?_eq_some_iff.1 hi).1
  obtain ⟨k, hk⟩ := List.mem_iff_getElem?.1 hg
  by_cases hik : i = k
  · subst hik
    rw [List.getElem?_set_self hlt] at hk
    injection hk with hk
    subst hk
    exact hf
  · rw [List.getElem?_set_ne hik] at hk
    exact g.keep W _ (h.get k hk) (Kp.setCell x (hd g (by
      rw [List.mem_eraseIdx_iff_getElem?]
      exact ⟨k, fun e => hik e.symm, hk⟩)))⟩
theorem Fs.out {l : List F} {W : World} (h : Fs l W) {b j : Nat} {x : Value} (hap : aparts b l) : Fs l (W.setCell ⟨b, j, none⟩ x) := ⟨fun g hg => g.keep W _ (h.all g hg) (Kp.setCell x (aparts_mem hap g hg))⟩
theorem Fs.ownQAt {l : List F} {W : World} (h : Fs l W) (i : Nat) {p : Nat → Prop} {e : TypeId} {v : Value} {ps : List (Gr × Value)} (hi : l[i]? = some (.ownQ p e v ps)) : OwnQ p W e v ps := h.get i hi
theorem Fs.jkAt {l : List F} {W : World} (h : Fs l W) (i : Nat) {e : TypeId} {R : List (Nat × Nat × Value)} {m : Nat} (hi : l[i]? = some (.jk e R m)) : ∀ (j : Nat) (hj : j < R.length), j ≠ m → ∃ gs, OwnP (fun k => R[j].1 ≤ k ∧ k < R[j].2.1) W e R[j].2.2 gs := h.get i hi
theorem aparts_append {b : Nat} : ∀ {l m : List F}, aparts b l → aparts b m → aparts b (l ++ m)
  | [], m, _, h => h
  | f :: l, m, h1, h => ⟨h1.1, aparts_append h1.2 h⟩
theorem _root_.Go.Proofs.Ytdoigpifkdkjpaa.OwnQ.heapAt {p : Nat → Prop} {w : World} {e : TypeId} {b n c : Nat} {ps : List (Gr × Value)} (h : OwnQ p w e (.slice (some ⟨b, 0, none⟩) n c) ps) : ∃ cs, w.heap[b]? = some (.cells cs e (0, 0)) := by
  rcases h.row.2 with ⟨h', _⟩ | ⟨g, cap, cur, h', _, hg, _⟩
  · cases h'
  · injection h' with h1
    injection h1 with h1
    injection h1 with h1
    subst h1
    exact ⟨cur, hg⟩
theorem run_loadB {P : Program} {ty : TypeId} {w : World} {b o : Nat} {v : Value} {n : Int} (A : Agg P ty 2) (h0 : w.cell? ⟨b, o, none⟩ = some v) (h1 : w.cell? ⟨b, o + 1, none⟩ = some (.int .i64 n)) :
    (Instr.loadAt ty (.pointer (some ⟨b, o, none⟩))).run P w = .ok (.agg (bagC v n)) w := by
  obtain ⟨d, hu, hd⟩ := A.hu
  have := run_loadAt_mid w b o ty [v, .int .i64 n] d (fun j v hv => by
    match j, hv with
    | 0, hv => injection hv with hv; subst hv; simpa using h0
    | 1, hv => injection hv with hv; subst hv; simpa using h1
    | j + 2, hv => simp at hv) hu hd (by rw [A.hi]; rfl)
  simpa [bagC] using this
/-- Bags side by side. -/
def bagsC (L : List (Value × Int)) : Array Value := (L.flatMap fun q => [q.1, .int .i64 q.2]).toArray
theorem bags_get : ∀ (L : List (Value × Int)) (j : Nat) (hj : j < L.length), (bagsC L)[j * 2]? = some L[j].1 ∧ (bagsC L)[j * 2 + 1]? = some (.int .i64 L[j].2)
  | [], j, hj => by simp at hj
  | q :: L, 0, _ => by simp [bagsC]
  | q :: L, j + 1, hj => by
    have := bags_get L j (by simpa using hj)
    simp only [bagsC, List.getElem?_toArray, List.flatMap_cons, List.getElem_cons_succ] at this ⊢
    rw [show (j + 1) * 2 = j * 2 + 2 by omega]
    simpa [List.getElem?_cons_succ] using this
section
variable {P : Program} {ops : Array Oper} {o : Oper} {a : Act} {w w0 : World} {K : Act → World → Prop} {Q : Exit → Act → World → Prop} {E0 : Prop} {t e : TypeId} {z : Value} {bytes : Nat}
theorem step_buildS (hw : Region.wanted o (yielded ops a.tmps) = true) {ty : TypeId} {n : Nat} (parts : List (Nat × Operand)) (ho : o.op = .buildSlice ty n parts.toArray) {vals : List (Nat × Value)} (hv : parts.map (fun p => (p.1, a.eval p.2)) = vals) {v : Value} {w' : World} (hr : (Instr.buildSlice ty n vals.toArray).run P w = .ok v w')
    (h : K (a.put o.dst v) w') : if Region.wanted o (yielded ops a.tmps) = true then Oper.wp P o a w K Q else E0 := by
  rw [if_pos hw]
  unfold Oper.wp execOp
  subst hv
  simp only [ho, Sem.run_bind, Sem.run_pure, Result.andThen_ok, List.map_toArray, hr]
  exact h
theorem step_more_w (E : ElOf P t e z bytes) (hw : Region.wanted o (yielded ops a.tmps) = true) (s x : Operand)
    (ho : o.op = .call { callee := .builtin .append, args := #[s, x], argTypes := #[t, t] }) {v : Value} {xs : List Value} (hs : a.eval s = v) (hM : Made w0 w e v xs)
    {vx : Value} {news : List Value} (hxe : a.eval x = vx) (hx : Sw w vx news) (h1 : ∀ u ∈ news, u.oneCell' = true) (hby : (xs.length + news.length) * bytes ≤ 140737488355328)
    (h : ∀ v' w', Made w0 w' e v' (xs ++ news) → w.grownBy w' v.ownBlock → (v'.ownBlock = v.ownBlock ∨ v'.ownBlock = some w.heap.size) → K (a.put o.dst v') w') :
    if Region.wanted o (yielded ops a.tmps) = true then Oper.wp P o a w K Q else E0 := by
  rw [if_pos hw]
  obtain ⟨v', w', hrun, a2, h3, h4⟩ := run_app_w (w := w) E w0.heap.size o.type v xs.length xs hM.own vx news hx h1 hby hM.below.size
  have hm : Made w0 w' e v' (xs ++ news) := ⟨by rw [List.length_append]; exact a2, below_of_none (gr_then (gr_of_below hM.below none) h3 (.inr hM.row))⟩
  unfold Oper.wp execOp
  simp only [ho, resolve, invoke, builtin, Sem.run_bind, Sem.run_pure, Result.andThen_ok, List.map_toArray, List.map_cons, List.map_nil, hs, hxe, hrun]
  exact h v' w' hm h3 h4
end
theorem run_none8 (w : World) : (Instr.buildSlice 27 0 #[]).run Try.prog w = .ok (.slice (some ⟨w.heap.size, 0, none⟩) 0 0) (w.alloc (.cells #[] 5)) := by kernel_rfl
theorem run_six (v0 v1 v2 v3 v4 v5 : Value) (n0 n1 n2 n3 n4 n5 : Int) (w : World) : (Instr.buildSlice 50 6 #[(0, .agg (bagC v0 n0)), (1, .agg (bagC v1 n1)), (2, .agg (bagC v2 n2)), (3, .agg (bagC v3 n3)), (4, .agg (bagC v4 n4)), (5, .agg (bagC v5 n5))]).run Try.prog w = .ok (.slice (some ⟨w.heap.size, 0, none⟩) 6 6) (w.alloc (.cells (bagsC [(v0, n0), (v1, n1), (v2, n2), (v3, n3), (v4, n4), (v5, n5)]) 24)) :=
  run_buildSlice w 50 24 6 _ _ _ _ (by kernel_rfl) rfl rfl (by decide) (by decide) (by kernel_rfl)
end Go.Proofs.Ytdoigpifkdkjpaa.Ms
