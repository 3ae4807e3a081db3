/- Slices, that came in, of elements of some cells each. No program is named here. -/
import Derived.Test.YtdoigpifkdkjpaaSw
set_option linter.unusedVariables false
set_option maxRecDepth 100000
set_option linter.unusedSimpArgs false
namespace Go.Proofs.Ytdoigpifkdkjpaa
open Go.RowKit Go.Shelf Go.ChangeShapes Go.WideShapes Go.ChangeAt

/-- How an element lies: so many cells, what they read as, in which world. -/
structure El (α : Type) where
  n : Nat
  rel : World → List Value → α → Prop
  below : ∀ {w w' : World} {cs : List Value} {x : α}, Below w.heap.size w w' → rel w cs x → rel w' cs x
  len : ∀ {w : World} {cs : List Value} {x : α}, rel w cs x → cs.length = n
/-- Such an element lies here. -/
def ElAt {α : Type} (E : El α) (w : World) (b o : Nat) (x : α) : Prop := ∃ cs, E.rel w cs x ∧ ∀ (i : Nat) (u : Value), cs[i]? = some u → w.cell? ⟨b, o + i, none⟩ = some u
def SwR {α : Type} (E : El α) (w : World) (v : Value) (xs : List α) : Prop :=
  (xs = [] ∧ ∃ A c, v = .slice A 0 c ∧ c ≤ maxLen) ∨
  ∃ b off c, v = .slice (some ⟨b, off, none⟩) xs.length c ∧ xs ≠ [] ∧ xs.length ≤ c ∧ c ≤ maxLen ∧ b < w.heap.size ∧ ∀ (j : Nat) (hj : j < xs.length), ElAt E w b (off + j * E.n) xs[j]
section
variable {α : Type} {E : El α}
theorem ElAt.below {w w' : World} {b o : Nat} {x : α} (h : ElAt E w b o x) (hl : b < w.heap.size) (hb : Below w.heap.size w w') : ElAt E w' b o x := by
  obtain ⟨cs, h1, h2⟩ := h
  exact ⟨cs, E.below hb h1, fun i u hu => (hb.cell (p := ⟨b, o + i, none⟩) hl).trans (h2 i u hu)⟩
theorem SwR.below {w w' : World} {v : Value} {xs : List α} (h : SwR E w v xs) (hb : Below w.heap.size w w') : SwR E w' v xs := by
  rcases h with h | ⟨b, off, c, h1, h2, h3, h4, h5, h6⟩
  · exact .inl h
  · exact .inr ⟨b, off, c, h1, h2, h3, h4, Nat.lt_of_lt_of_le h5 hb.size, fun j hj => (h6 j hj).below h5 hb⟩
theorem SwR.form {w : World} {v : Value} {xs : List α} (h : SwR E w v xs) : ∃ A c, v = .slice A xs.length c := by
  rcases h with ⟨rfl, A, c, rfl, _⟩ | ⟨b, off, c, h1, _⟩
  · exact ⟨A, c, rfl⟩
  · exact ⟨_, c, h1⟩
theorem SwR.at_ {w : World} {A : Option Addr} {n c : Nat} {xs : List α} (h : SwR E w (.slice A n c) xs) (j : Nat) (hj : j < xs.length) : ∃ b off, A = some ⟨b, off, none⟩ ∧ b < w.heap.size ∧ ElAt E w b (off + j * E.n) xs[j] := by
  rcases h with ⟨rfl, _⟩ | ⟨b, off, c, h1, _, _, _, h5, h6⟩
  · simp at hj
  · injection h1 with h1
    exact ⟨b, off, h1, h5, h6 j hj⟩
theorem SwR.len {w : World} {v : Value} {xs : List α} (h : SwR E w v xs) : (xs.length : Int) ≤ 9223372036854775807 := by
  rcases h with ⟨rfl, _⟩ | ⟨b, off, c, _, _, h3, h4, _⟩
  · simp
  · unfold maxLen at h4; omega
theorem SwR.qlen {w : World} {A : Option Addr} {q c : Nat} {xs : List α} (h : SwR E w (.slice A q c) xs) : q = xs.length := by
  obtain ⟨_, _, h1⟩ := h.form
  injection h1
theorem SwR.nil_ (w : World) : SwR E w (.slice none 0 0) [] := .inl ⟨rfl, none, 0, rfl, by decide⟩
variable {H : Type} {enc : TypeId × Value → H} {P : Program} {W : World}
theorem swR_of_trod {t e : TypeId} (ok : α → Prop) (ht : P.underlying t = some (.slice e)) (ce : P.cellsOf e = E.n) (h0 : 0 < E.n) (hopen : ∀ (fuel : Nat) (cs : List Value) (x : DataW H × List MemPlace), DataW.trod enc P W 0 (fun _ => true) true fuel e cs = some x → ∃ a, E.rel W cs a ∧ ok a)
    {fuel : Nat} {v : Value} {x : DataW H × List MemPlace} (h : DataW.trod enc P W 0 (fun _ => true) true fuel t [v] = some x) : ∃ xs : List α, SwR E W v xs ∧ ∀ a ∈ xs, ok a := by
  rcases Go.Deep.open_slice ht h with ⟨hcs, _⟩ | ⟨a, len, cap, m, n, D, Pl, hcs, _, hl, hm, hmm, _, hx⟩
  · simp at hcs
    subst hcs
    exact ⟨[], SwR.nil_ W, by simp⟩
  · simp at hcs
    subst hcs
    simp only [if_true] at hmm
    subst hmm
    by_cases hz : len = 0
    · subst hz
      exact ⟨[], .inl ⟨rfl, _, _, rfl, hm⟩, by simp⟩
    · have each : ∀ i, i < m → ∃ q : α × List Value, E.rel W q.2 q.1 ∧ ok q.1 ∧ ∀ (k : Nat) (u : Value), q.2[k]? = some u → W.cell? ((a.add (i * E.n)).add k) = some u := by
        intro i hi
        obtain ⟨cs', h1, h2⟩ := hx i hi
        obtain ⟨y, hy, hok⟩ := hopen _ _ _ h2
        rw [ce] at h1
        obtain ⟨_, hlen, hcell⟩ := World.cells?_some h1
        refine ⟨(y, cs'), hy, hok, fun k u hu => ?_⟩
        have hk : k < cs'.length := (List.getElem?_eq_some_iff.1 hu).1
        have := hcell k (by have := E.len hy; omega)
        rw [this]
        exact hu
      have hm0 : 0 < m := by omega
      obtain ⟨q0, -⟩ := each 0 hm0
      have : Inhabited (α × List Value) := ⟨q0⟩
      obtain ⟨q, hq⟩ := Go.Deep.choose_lt each
      obtain ⟨b, off, spot⟩ := a
      have hs : spot = none ∧ b < W.heap.size := by
        obtain ⟨h1, _, h3⟩ := hq 0 hm0
        have hlen := E.len h1
        obtain ⟨u, hu⟩ : ∃ u, (q 0).2[0]? = some u := ⟨(q 0).2[0]'(by omega), List.getElem?_eq_getElem _⟩
        have hc0 := h3 0 u hu
        unfold World.cell? Addr.add at hc0
        simp only [Nat.zero_mul, if_true] at hc0
        cases hh : W.heap[b]? with
        | none => simp [hh] at hc0
        | some o =>
          refine ⟨?_, (Array.getElem?_eq_some_iff.1 hh).1⟩
          cases o <;> simp [hh] at hc0
          exact hc0.1
      obtain ⟨rfl, hb⟩ := hs
      refine ⟨(List.range len).map fun i => (q i).1, .inr ⟨b, off, m, by simp, by simp [hz], by simpa using hl, hm, hb, fun j hj => ?_⟩, fun y hy => ?_⟩
      · simp at hj
        obtain ⟨g0, _, g2⟩ := hq j (by omega)
        simp only [List.getElem_map, List.getElem_range]
        refine ⟨_, g0, fun k u hu => ?_⟩
        have := g2 k u hu
        rwa [add_plain, add_plain] at this
      · obtain ⟨i, hi, rfl⟩ := List.mem_map.1 hy
        exact (hq i (by have := List.mem_range.1 hi; omega)).2.1
end
end Go.Proofs.Ytdoigpifkdkjpaa
