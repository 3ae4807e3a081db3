/- Stores into a row of structs, and into their bytes. No program is named here. -/
import Derived.Test.YtdoigpifkdkjpaaGr2
import Derived.Laws.OwnMore
set_option linter.unusedVariables false
set_option maxRecDepth 100000
set_option linter.unusedSimpArgs false
namespace Go.Proofs.Ytdoigpifkdkjpaa
open Go.RowKit Go.Shelf Go.ChangeShapes Go.WideShapes Go.ChangeAt

/-- As 'OwnP', each struct with its slice. -/
structure OwnQ (p : Nat → Prop) (w : World) (e : TypeId) (v : Value) (ps : List (Gr × Value)) : Prop where
  row : w.ownsRow 0 e 3 v ps.length (cellsG ps)
  nest : Nest 0 w v ps
  vp : ∀ k, v.ownBlock = some k → p k
  up : ∀ q ∈ ps, ∀ k, q.2.ownBlock = some k → p k
theorem OwnQ.ownP {p : Nat → Prop} {w : World} {e : TypeId} {v : Value} {ps : List (Gr × Value)} (h : OwnQ p w e v ps) : OwnP p w e v (ps.map (·.1)) := ⟨ps, rfl, h.row, h.nest, h.vp, h.up⟩
theorem OwnP.ownQ {p : Nat → Prop} {w : World} {e : TypeId} {v : Value} {gs : List Gr} (h : OwnP p w e v gs) : ∃ ps, ps.map (·.1) = gs ∧ OwnQ p w e v ps := by
  obtain ⟨ps, h1, h2, h3, h4, h5⟩ := h
  exact ⟨ps, h1, h2, h3, h4, h5⟩
theorem cellsG_set : ∀ (ps : List (Gr × Value)) (k : Nat) (hk : k < ps.length) (g : Gr), cellsG (ps.set k (g, ps[k].2)) = ((cellsG ps).set (k * 3) (.int .i64 g.to)).set (k * 3 + 2) (.bool g.harm)
  | q :: ps, 0, _, g => by simp [cellsG, cells3]
  | q :: ps, k + 1, hk, g => by
    have ih := cellsG_set ps k (by simpa using hk) g
    simp only [List.set_cons_succ, List.getElem_cons_succ, cellsG, cells3]
    rw [ih, show (k + 1) * 3 = k * 3 + 3 by omega]
    simp [List.set_cons_succ]
theorem cellsG_same (ps : List (Gr × Value)) (k : Nat) (hk : k < ps.length) (g : Gr) (h1 : g.to = ps[k].1.to) (h2 : g.harm = ps[k].1.harm) : cellsG (ps.set k (g, ps[k].2)) = cellsG ps := by
  rw [cellsG_set ps k hk g, h1, h2]
  obtain ⟨c0, _, c2⟩ := cellsG_get ps k hk
  refine List.ext_getElem? fun j => ?_
  rw [List.getElem?_set, List.getElem?_set]
  have hl := cellsG_length ps
  by_cases e2 : k * 3 + 2 = j
  · subst e2
    rw [if_pos rfl, if_pos (by rw [List.length_set]; omega), c2]
  · rw [if_neg e2]
    by_cases e0 : k * 3 = j
    · subst e0
      rw [if_pos rfl, if_pos (by omega), c0]
    · rw [if_neg e0]
theorem pair_ne {ps : List (Gr × Value)} {n : Nat} {w : World} {v : Value} (h : Nest n w v ps) {i j : Nat} (hi : i < ps.length) (hj : j < ps.length) (hne : i ≠ j) : ∀ k, ps[i].2.ownBlock = some k → ps[j].2.ownBlock ≠ some k := by
  rcases Nat.lt_or_gt_of_ne hne with hlt | hlt
  · exact (List.pairwise_iff_getElem.1 h.apart) i j hi hj hlt
  · intro k h1 h2
    exact (List.pairwise_iff_getElem.1 h.apart) j i hj hi hlt k h2 h1
theorem OwnQ.of {p : Nat → Prop} {w w' : World} {e : TypeId} {v : Value} {ps : List (Gr × Value)} (h : OwnQ p w e v ps) (hk : ∀ k, p k → k < w.heap.size → w'.heap[k]? = w.heap[k]?) : OwnQ p w' e v ps :=
  ⟨owns_still h.row fun k e => hk k (h.vp k e) (h.row.lt k e).2, ⟨fun q hq => owns_still (h.nest.own q hq) fun k e => hk k (h.up q hq k e) ((h.nest.own q hq).lt k e).2, h.nest.out, h.nest.apart⟩, h.vp, h.up⟩
theorem OwnQ.below {p : Nat → Prop} {w w' : World} {e : TypeId} {v : Value} {ps : List (Gr × Value)} (h : OwnQ p w e v ps) (hb : Below w.heap.size w w') : OwnQ p w' e v ps := h.of fun k _ hk => hb.block k hk
/-- What bytes lie there. -/
theorem OwnQ.bytes_ {p : Nat → Prop} {w : World} {e : TypeId} {v : Value} {ps : List (Gr × Value)} (h : OwnQ p w e v ps) (k : Nat) (hk : k < ps.length) (i : Nat) (hi : i < ps[k].1.bytes.length) :
    ∃ ub cap, ps[k].2 = .slice (some ⟨ub, 0, none⟩) ps[k].1.bytes.length cap ∧ w.cell? ⟨ub, i, none⟩ = some (.int .u8 (ps[k].1.bytes[i].toNat : Int)) ∧ w.frozen? ⟨ub, i, none⟩ = false ∧ p ub ∧ ub < w.heap.size := by
  have ho := h.nest.own _ (List.getElem_mem hk)
  rcases ho.2 with ⟨_, h0⟩ | ⟨g, cap, cur, hv, hb, hg, h3, h4, h5, h6⟩
  · omega
  · refine ⟨g, cap, hv, ?_, ?_, h.up _ (List.getElem_mem hk) g (by rw [hv]; rfl), (Array.getElem?_eq_some_iff.1 hg).1⟩
    · have := (Sl.of_own ho)
      rw [hv] at this
      have := this.parts.2.2.2.2 i _ (bv_get _ i hi)
      rwa [Nat.zero_add] at this
    · unfold World.frozen?
      rw [hg]
      simp
/-- Where the row lies. -/
theorem OwnQ.at_ {p : Nat → Prop} {w : World} {e : TypeId} {A : Option Addr} {n c : Nat} {ps : List (Gr × Value)} (h : OwnQ p w e (.slice A n c) ps) (k : Nat) (hk : k < ps.length) : ∃ b, A = some ⟨b, 0, none⟩ ∧ p b ∧ b < w.heap.size ∧ n = ps.length ∧ w.cell? ⟨b, k * 3, none⟩ = some (.int .i64 ps[k].1.to) ∧ w.cell? ⟨b, k * 3 + 1, none⟩ = some ps[k].2 ∧ w.cell? ⟨b, k * 3 + 2, none⟩ = some (.bool ps[k].1.harm) ∧
    (∀ j, w.frozen? ⟨b, j, none⟩ = false) := by
  have h0 : ps ≠ [] := by rintro rfl; simp at hk
  obtain ⟨g, rfl, hl, _, hlt⟩ := OwnG.ln h.row h.nest h0
  obtain ⟨c0, c1, c2⟩ := cellsG_get ps k hk
  have x0 := hl.cells _ _ c0
  have x1 := hl.cells _ _ c1
  have x2 := hl.cells _ _ c2
  rw [add_plain, Nat.zero_add] at x0 x1 x2
  refine ⟨g, rfl, h.vp g rfl, hlt, hl.len.symm, x0, x1, x2, fun j => ?_⟩
  rcases h.row.2 with ⟨hv, hz⟩ | ⟨g', cap, cur, hv, hb, hg, _⟩
  · cases hv
  · injection hv with hv1
    injection hv1 with hv1
    injection hv1 with hv1
    subst hv1
    unfold World.frozen?
    rw [hg]
    simp
theorem OwnQ.byte {p : Nat → Prop} {w : World} {e : TypeId} {v : Value} {ps : List (Gr × Value)} (h : OwnQ p w e v ps) (k : Nat) (hk : k < ps.length) (i : Nat) (hi : i < ps[k].1.bytes.length) {ub len cap : Nat} (hu : ps[k].2 = .slice (some ⟨ub, 0, none⟩) len cap) (z : UInt8) :
    OwnQ p (w.setCell ⟨ub, i, none⟩ (.int .u8 (z.toNat : Int))) e v (ps.set k (⟨ps[k].1.to, ps[k].1.bytes.set i z, ps[k].1.harm⟩, ps[k].2)) := by
  have hke : ps[k].2.ownBlock = some ub := by rw [hu]; rfl
  have hout := h.nest.out _ (List.getElem_mem hk)
  have hvn : ∀ q, v.ownBlock = some q → q ≠ ub := fun q hq e => hout q hq (by rw [hke, e])
  have hmem : ∀ r ∈ ps.set k (⟨ps[k].1.to, ps[k].1.bytes.set i z, ps[k].1.harm⟩, ps[k].2), (∃ j, ∃ hj : j < ps.length, j ≠ k ∧ r = ps[j]) ∨ r = (⟨ps[k].1.to, ps[k].1.bytes.set i z, ps[k].1.harm⟩, ps[k].2) := fun r hr => by
    obtain ⟨j, hj, rfl⟩ := List.mem_iff_getElem.1 hr
    rw [List.length_set] at hj
    rw [List.getElem_set]
    by_cases e : k = j
    · rw [if_pos e]; exact .inr rfl
    · rw [if_neg e]; exact .inl ⟨j, hj, fun e' => e e'.symm, rfl⟩
  refine ⟨?_, ⟨?_, ?_, ?_⟩, h.vp, ?_⟩
  · rw [cellsG_same ps k hk ⟨ps[k].1.to, ps[k].1.bytes.set i z, ps[k].1.harm⟩ rfl rfl, List.length_set]
    exact owns_still h.row fun q hq => Below.heap_setCell w ⟨ub, i, none⟩ _ q (hvn q hq)
  · intro r hr
    rcases hmem r hr with ⟨j, hj, hne, rfl⟩ | rfl
    · exact owns_still (h.nest.own _ (List.getElem_mem hj)) fun q hq => Below.heap_setCell w ⟨ub, i, none⟩ _ q (fun e => pair_ne h.nest hj hk hne q hq (by rw [hke]; exact congrArg some e.symm))
    · have ho := h.nest.own _ (List.getElem_mem hk)
      show World.ownsRow _ _ _ _ _ _ _
      dsimp only
      rw [List.length_set]
      rw [show bv (ps[k].1.bytes.set i z) = (bv ps[k].1.bytes).set i (.int .u8 (z.toNat : Int)) by unfold bv; rw [List.map_set]]
      rw [hu] at ho ⊢
      obtain rfl : len = ps[k].1.bytes.length := by
        rcases ho.2 with ⟨hv, _⟩ | ⟨g, cap, cur, hv, _⟩
        · cases hv
        · injection hv
      exact (ho.stored i _).1
  · intro r hr q hq
    rcases hmem r hr with ⟨j, hj, hne, rfl⟩ | rfl
    · exact h.nest.out _ (List.getElem_mem hj) q hq
    · exact hout q hq
  · refine List.pairwise_iff_getElem.2 fun i' j' hi' hj' hlt => ?_
    rw [List.length_set] at hi' hj'
    have hs : ∀ t (ht : t < ps.length), ((ps.set k (⟨ps[k].1.to, ps[k].1.bytes.set i z, ps[k].1.harm⟩, ps[k].2))[t]'(by rw [List.length_set]; exact ht)).2 = ps[t].2 := fun t ht => by
      rw [List.getElem_set]
      by_cases e : k = t
      · subst e; rw [if_pos rfl]
      · rw [if_neg e]
    rw [hs i' hi', hs j' hj']
    exact (List.pairwise_iff_getElem.1 h.nest.apart) i' j' hi' hj' hlt
  · intro r hr q hq
    rcases hmem r hr with ⟨j, hj, hne, rfl⟩ | rfl
    · exact h.up _ (List.getElem_mem hj) q hq
    · exact h.up _ (List.getElem_mem hk) q hq
/-- A cell of the row itself. -/
theorem OwnQ.cell {p : Nat → Prop} {w : World} {e : TypeId} {b n c : Nat} {ps : List (Gr × Value)} (h : OwnQ p w e (.slice (some ⟨b, 0, none⟩) n c) ps) (k : Nat) (hk : k < ps.length) (g : Gr) (hb : g.bytes = ps[k].1.bytes) (j : Nat) (x : Value) (hc : cellsG (ps.set k (g, ps[k].2)) = (cellsG ps).set j x) :
    OwnQ p (w.setCell ⟨b, j, none⟩ x) e (.slice (some ⟨b, 0, none⟩) n c) (ps.set k (g, ps[k].2)) := by
  have hmem : ∀ r ∈ ps.set k (g, ps[k].2), ∃ j, ∃ hj : j < ps.length, r.2 = ps[j].2 ∧ r.1.bytes = ps[j].1.bytes := fun r hr => by
    obtain ⟨j, hj, rfl⟩ := List.mem_iff_getElem.1 hr
    rw [List.length_set] at hj
    refine ⟨j, hj, ?_⟩
    rw [List.getElem_set]
    by_cases e : k = j
    · subst e; rw [if_pos rfl]; exact ⟨rfl, hb⟩
    · rw [if_neg e]; exact ⟨rfl, rfl⟩
  have hn : n = ps.length := by
    rcases h.row.2 with ⟨hv, _⟩ | ⟨g, cap, cur, hv, _⟩
    · cases hv
    · injection hv
  subst hn
  refine ⟨?_, ⟨?_, ?_, ?_⟩, h.vp, ?_⟩
  · rw [hc, List.length_set]
    exact (h.row.stored j x).1
  · intro r hr
    obtain ⟨t, ht, e1, e2⟩ := hmem r hr
    rw [e1, e2]
    exact owns_still (h.nest.own _ (List.getElem_mem ht)) fun q hq => Below.heap_setCell w ⟨b, j, none⟩ _ q (fun e => h.nest.out _ (List.getElem_mem ht) b rfl (by rw [hq]; exact congrArg some e))
  · intro r hr q hq
    obtain ⟨t, ht, e1, e2⟩ := hmem r hr
    rw [e1]
    exact h.nest.out _ (List.getElem_mem ht) q hq
  · refine List.pairwise_iff_getElem.2 fun i' j' hi' hj' hlt => ?_
    rw [List.length_set] at hi' hj'
    have hs : ∀ t (ht : t < ps.length), ((ps.set k (g, ps[k].2))[t]'(by rw [List.length_set]; exact ht)).2 = ps[t].2 := fun t ht => by
      rw [List.getElem_set]
      by_cases e : k = t
      · subst e; rw [if_pos rfl]
      · rw [if_neg e]
    rw [hs i' hi', hs j' hj']
    exact (List.pairwise_iff_getElem.1 h.nest.apart) i' j' hi' hj' hlt
  · intro r hr q hq
    obtain ⟨t, ht, e1, e2⟩ := hmem r hr
    rw [e1] at hq
    exact h.up _ (List.getElem_mem ht) q hq
theorem cellsG_harm (ps : List (Gr × Value)) (k : Nat) (hk : k < ps.length) (z : Bool) : cellsG (ps.set k (⟨ps[k].1.to, ps[k].1.bytes, z⟩, ps[k].2)) = (cellsG ps).set (k * 3 + 2) (.bool z) := by
  rw [cellsG_set ps k hk]
  obtain ⟨c0, _, _⟩ := cellsG_get ps k hk
  congr 1
  refine List.ext_getElem? fun j => ?_
  rw [List.getElem?_set]
  have hl := cellsG_length ps
  by_cases e0 : k * 3 = j
  · subst e0
    rw [if_pos rfl, if_pos (by omega), c0]
  · rw [if_neg e0]
theorem cellsG_to (ps : List (Gr × Value)) (k : Nat) (hk : k < ps.length) (t : Int) : cellsG (ps.set k (⟨t, ps[k].1.bytes, ps[k].1.harm⟩, ps[k].2)) = (cellsG ps).set (k * 3) (.int .i64 t) := by
  rw [cellsG_set ps k hk]
  obtain ⟨_, _, c2⟩ := cellsG_get ps k hk
  refine List.ext_getElem? fun j => ?_
  rw [List.getElem?_set]
  have hl := cellsG_length ps
  by_cases e2 : k * 3 + 2 = j
  · subst e2
    rw [if_pos rfl, if_pos (by rw [List.length_set]; omega), List.getElem?_set, if_neg (by omega), c2]
  · rw [if_neg e2]
/-- The k-th's truth, stored. -/
theorem OwnQ.harm_ {p : Nat → Prop} {w : World} {e : TypeId} {b n c : Nat} {ps : List (Gr × Value)} {k : Nat} {g : Gr} {u : Value} (hk : k < ps.length) (h : OwnQ p w e (.slice (some ⟨b, 0, none⟩) n c) (ps.set k (g, u))) (z : Bool) :
    OwnQ p (w.setCell ⟨b, k * 3 + 2, none⟩ (.bool z)) e (.slice (some ⟨b, 0, none⟩) n c) (ps.set k (⟨g.to, g.bytes, z⟩, u)) := by
  have hk' : k < (ps.set k (g, u)).length := by rw [List.length_set]; exact hk
  have hg : (ps.set k (g, u))[k] = (g, u) := List.getElem_set_self ..
  have h1 := cellsG_harm (ps.set k (g, u)) k hk' z
  have h2 := h.cell k hk' ⟨g.to, g.bytes, z⟩ (by rw [hg]) (k * 3 + 2) (.bool z) (by rw [← h1, hg])
  rwa [hg, List.set_set] at h2
/-- The k-th's number, stored. -/
theorem OwnQ.to_ {p : Nat → Prop} {w : World} {e : TypeId} {b n c : Nat} {ps : List (Gr × Value)} {k : Nat} (hk : k < ps.length) (h : OwnQ p w e (.slice (some ⟨b, 0, none⟩) n c) ps) (t : Int) :
    OwnQ p (w.setCell ⟨b, k * 3, none⟩ (.int .i64 t)) e (.slice (some ⟨b, 0, none⟩) n c) (ps.set k (⟨t, ps[k].1.bytes, ps[k].1.harm⟩, ps[k].2)) :=
  h.cell k hk ⟨t, ps[k].1.bytes, ps[k].1.harm⟩ rfl (k * 3) (.int .i64 t) (cellsG_to ps k hk t)
end Go.Proofs.Ytdoigpifkdkjpaa
