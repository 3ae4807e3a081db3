/- What a message's parts are, in memory; what changes and what stays. -/
import Derived.Test.YtaacjpcckinaiaaGreatWRow
set_option linter.unusedVariables false
set_option maxRecDepth 100000
set_option linter.unusedSimpArgs false
namespace Go.Proofs.YtaacjpcckinaiaaGreat
open Go.RowKit Go.Shelf Ms

/-- Block b and what lies behind it has changed, in cells of types that T tells alone. -/
structure Ch (T : TypeId → Bool) (b : Nat) (w w' : World) : Prop where
  below : Below b w w'
  kt : Kt T w w'
  others : ∀ (k : Nat) (o : Obj), w.heap[k]? = some o → o.isCells = false → w'.heap[k]? = some o
theorem Ch.refl (T : TypeId → Bool) (b : Nat) (w : World) : Ch T b w w := ⟨Below.refl _ _, Kt.refl _ _, fun _ _ h _ => h⟩
theorem Ch.trans {T : TypeId → Bool} {b : Nat} {w w' w'' : World} (h : Ch T b w w') (k : Ch T b w' w'') : Ch T b w w'' := ⟨h.below.trans k.below, h.kt.trans k.kt, fun i o hi ho => k.others i o (h.others i o hi ho) ho⟩
theorem Ch.mono {T U : TypeId → Bool} {b : Nat} {w w' : World} (h : Ch T b w w') (hu : ∀ t, T t = true → U t = true) : Ch U b w w' := ⟨h.below, h.kt.mono hu, h.others⟩
theorem Ch.behind {T : TypeId → Bool} {b : Nat} {w w' : World} (h : Below w.heap.size w w') (hb : b ≤ w.heap.size) : Ch T b w w' :=
  ⟨h.mono hb, Kt.below h, fun k o hk _ => (h.block k (Array.getElem?_eq_some_iff.1 hk).1).trans hk⟩
theorem Ch.setCell {T : TypeId → Bool} {b : Nat} {w : World} {p : Addr} {c : Array Value} {t : TypeId} {s : Nat × Nat} (h : w.heap[p.block]? = some (.cells c t s)) (ht : T t = true) (hb : b ≤ p.block) (u : Value) : Ch T b w (w.setCell p u) :=
  ⟨(Below.refl _ w).setCell hb u, Kt.setCell h ht u, fun k o hk ho => (Below.heap_setCell w p u k (fun e => by subst e; rw [h] at hk; cases hk; cases ho)).trans hk⟩
def T27 : TypeId → Bool := fun t => t == 27
def T3 : TypeId → Bool := fun t => t == 27 || t == 3
theorem T27_3 (t : TypeId) (h : T27 t = true) : T3 t = true := by unfold T27 at h; unfold T3; rw [h]; rfl
/-- The types of what parts have caught. -/
def Tp (T : TypeId → Bool) : Prop := T 3 = false ∧ T 71 = false ∧ T 93 = false ∧ T 91 = false ∧ T 114 = false ∧ T 110 = false ∧ T 112 = false ∧ T 106 = false ∧ T 94 = false
theorem tp27 : Tp T27 := by unfold Tp T27; decide

def IsI (W : World) (v : Value) (p : Addr) (more : Int) : Prop := ∃ g h, v = partV 87 88 #[ptr g, ptr h] #[ptr h, ptr g] ∧ Boxed W g 93 (.pointer (some p)) ∧ Boxed W h 3 (.int .i64 more)
theorem IsI.kt {T : TypeId → Bool} {W W' : World} {v : Value} {p : Addr} {more : Int} (h : IsI W v p more) (k : Kt T W W') (hT : Tp T) : IsI W' v p more := by
  obtain ⟨t3, t71, t93, t91, t114, t110, t112, t106, t94⟩ := hT
  obtain ⟨g, h, rfl, a, b⟩ := h
  exact ⟨g, h, rfl, k.boxed a (by assumption), k.boxed b t3⟩
def IsU (W : World) (v : Value) (p : Addr) (more : Int) : Prop := ∃ g h, v = partV 83 85 #[ptr g, ptr h] #[ptr h, ptr g] ∧ Boxed W g 91 (.pointer (some p)) ∧ Boxed W h 3 (.int .i64 more)
theorem IsU.kt {T : TypeId → Bool} {W W' : World} {v : Value} {p : Addr} {more : Int} (h : IsU W v p more) (k : Kt T W W') (hT : Tp T) : IsU W' v p more := by
  obtain ⟨t3, t71, t93, t91, t114, t110, t112, t106, t94⟩ := hT
  obtain ⟨g, h, rfl, a, b⟩ := h
  exact ⟨g, h, rfl, k.boxed a (by assumption), k.boxed b t3⟩
def IsE (W : World) (v : Value) (p : Addr) (more : Int) : Prop := ∃ g h, v = partV 119 120 #[ptr g, ptr h] #[ptr h, ptr g] ∧ Boxed W g 114 (.pointer (some p)) ∧ Boxed W h 3 (.int .i64 more)
theorem IsE.kt {T : TypeId → Bool} {W W' : World} {v : Value} {p : Addr} {more : Int} (h : IsE W v p more) (k : Kt T W W') (hT : Tp T) : IsE W' v p more := by
  obtain ⟨t3, t71, t93, t91, t114, t110, t112, t106, t94⟩ := hT
  obtain ⟨g, h, rfl, a, b⟩ := h
  exact ⟨g, h, rfl, k.boxed a (by assumption), k.boxed b t3⟩
def IsT (W : World) (v : Value) (p : Addr) : Prop := ∃ g, v = partV 111 113 #[ptr g] #[ptr g] ∧ Boxed W g 110 (.pointer (some p))
theorem IsT.kt {T : TypeId → Bool} {W W' : World} {v : Value} {p : Addr} (h : IsT W v p) (k : Kt T W W') (hT : Tp T) : IsT W' v p := by
  obtain ⟨t3, t71, t93, t91, t114, t110, t112, t106, t94⟩ := hT
  obtain ⟨g, rfl, a⟩ := h
  exact ⟨g, rfl, k.boxed a (by assumption)⟩
def IsL (W : World) (v : Value) (p : Addr) : Prop := ∃ g, v = partV 115 117 #[ptr g] #[ptr g] ∧ Boxed W g 112 (.pointer (some p))
theorem IsL.kt {T : TypeId → Bool} {W W' : World} {v : Value} {p : Addr} (h : IsL W v p) (k : Kt T W W') (hT : Tp T) : IsL W' v p := by
  obtain ⟨t3, t71, t93, t91, t114, t110, t112, t106, t94⟩ := hT
  obtain ⟨g, rfl, a⟩ := h
  exact ⟨g, rfl, k.boxed a (by assumption)⟩
theorem IsF.kt {T : TypeId → Bool} {W W' : World} {g h q n f : Nat} {p : Addr} {x : Int} (H : IsF W g h q n f p x) (k : Kt T W W') (hT : Tp T) : IsF W' g h q n f p x := by
  obtain ⟨t3, t71, t93, t91, t114, t110, t112, t106, t94⟩ := hT
  exact ⟨k.boxed H.bg t93, k.boxed H.bh t3, k.boxed H.bn t3, k.same _ _ _ _ t71 H.rq, k.boxed H.bf t106⟩
def IsFl (W : World) (v : Value) (p : Addr) (x : Int) : Prop := ∃ g h q n f, v = partV 87 109 #[ptr g, ptr h] #[ptr q, ptr n, ptr f] ∧ IsF W g h q n f p x ∧ p.block ≤ n
theorem IsFl.kt {T : TypeId → Bool} {W W' : World} {v : Value} {p : Addr} {x : Int} (h : IsFl W v p x) (k : Kt T W W') (hT : Tp T) : IsFl W' v p x := by
  obtain ⟨g, h, q, n, f, rfl, a, b⟩ := h
  exact ⟨g, h, q, n, f, rfl, a.kt k hT, b⟩
def pairC (g1 g2 h2 g3 h3 g4 h4 q4 n4 f4 : Nat) : Array Value := #[.func (.func 111) #[] #[ptr g1], .func (.func 113) #[] #[ptr g1], .func (.func 87) #[] #[ptr g2, ptr h2], .func (.func 88) #[] #[ptr h2, ptr g2], .func (.func 87) #[] #[ptr g3, ptr h3], .func (.func 88) #[] #[ptr h3, ptr g3], .func (.func 87) #[] #[ptr g4, ptr h4], .func (.func 109) #[] #[ptr q4, ptr n4, ptr f4]]
/-- A pair's part. -/
structure IsQ (W : World) (b : Nat) (x : Int) (s g g1 g2 h2 g3 h3 g4 h4 q4 n4 f4 : Nat) : Prop where
  bs : Boxed W s 94 (.slice (some ⟨g, 0, none⟩) 4 4)
  rg : Rw W g 71 (pairC g1 g2 h2 g3 h3 g4 h4 q4 n4 f4)
  b1 : Boxed W g1 110 (.pointer (some ⟨b, 10, none⟩))
  b2 : Boxed W g2 93 (.pointer (some ⟨b, 11, none⟩))
  c2 : Boxed W h2 3 (.int .i64 0)
  b3 : Boxed W g3 93 (.pointer (some ⟨b, 12, none⟩))
  c3 : Boxed W h3 3 (.int .i64 0)
  f4 : IsF W g4 h4 q4 n4 f4 ⟨b, 13, none⟩ x
  n4 : b ≤ n4
theorem IsQ.kt {T : TypeId → Bool} {W W' : World} {b : Nat} {x : Int} {s g g1 g2 h2 g3 h3 g4 h4 q4 n4 f4 : Nat} (h : IsQ W b x s g g1 g2 h2 g3 h3 g4 h4 q4 n4 f4) (k : Kt T W W') (hT : Tp T) : IsQ W' b x s g g1 g2 h2 g3 h3 g4 h4 q4 n4 f4 := by
  obtain ⟨t3, t71, t93, t91, t114, t110, t112, t106, t94⟩ := hT
  exact ⟨k.boxed h.bs t94, k.same _ _ _ _ t71 h.rg, k.boxed h.b1 t110, k.boxed h.b2 t93, k.boxed h.c2 t3, k.boxed h.b3 t93, k.boxed h.c3 t3, h.f4.kt k ⟨t3, t71, t93, t91, t114, t110, t112, t106, t94⟩, h.n4⟩
def IsP (W : World) (v : Value) (b : Nat) (x : Int) : Prop := ∃ s g g1 g2 h2 g3 h3 g4 h4 q4 n4 f4, v = partV 128 129 #[ptr s] #[ptr s] ∧ IsQ W b x s g g1 g2 h2 g3 h3 g4 h4 q4 n4 f4
theorem IsP.kt {T : TypeId → Bool} {W W' : World} {v : Value} {b : Nat} {x : Int} (h : IsP W v b x) (k : Kt T W W') (hT : Tp T) : IsP W' v b x := by
  obtain ⟨s, g, g1, g2, h2, g3, h3, g4, h4, q4, n4, f4, rfl, a⟩ := h
  exact ⟨s, g, g1, g2, h2, g3, h3, g4, h4, q4, n4, f4, rfl, a.kt k hT⟩
/-- The pair's part beside the error. -/
def IsB (W : World) (v : Value) (b : Nat) (x : Int) : Prop := ∃ c r s, v = partV 121 122 #[ptr c, ptr r] #[ptr c, ptr r] ∧ Boxed W c 114 (.pointer (some ⟨b, 14, none⟩)) ∧ Rw W r 71 (partC 128 129 #[ptr s] #[ptr s]) ∧ IsP W (partV 128 129 #[ptr s] #[ptr s]) b x
theorem IsB.kt {T : TypeId → Bool} {W W' : World} {v : Value} {b : Nat} {x : Int} (h : IsB W v b x) (k : Kt T W W') (hT : Tp T) : IsB W' v b x := by
  obtain ⟨c, r, s, rfl, a1, a2, a3⟩ := h
  have hT' := hT
  obtain ⟨t3, t71, t93, t91, t114, t110, t112, t106, t94⟩ := hT
  exact ⟨c, r, s, rfl, k.boxed a1 t114, k.same _ _ _ _ t71 a2, a3.kt k hT'⟩
/-- v is the part d of the message in block b, as the message m was then. -/
def PartIs (W : World) (b : Nat) (m : M) (v : Value) : D → Prop
  | .u8 => IsU W v ⟨b, 0, none⟩ 0
  | .int o more => IsI W v ⟨b, o, none⟩ more
  | .err => IsE W v ⟨b, 14, none⟩ 0
  | .flag o => IsFl W v ⟨b, o, none⟩ (b2i (getb m o))
  | .text => IsT W v ⟨b, 10, none⟩
  | .list => IsL W v ⟨b, 9, none⟩
  | .pair => IsP W v b (b2i m.it.gone)
  | .side => IsB W v b (b2i m.it.gone)
theorem PartIs.kt {T : TypeId → Bool} {W W' : World} {b : Nat} {m : M} {v : Value} {d : D} (h : PartIs W b m v d) (k : Kt T W W') (hT : Tp T) : PartIs W' b m v d := by
  cases d with
  | u8 => exact IsU.kt h k hT
  | int o more => exact IsI.kt h k hT
  | err => exact IsE.kt h k hT
  | flag o => exact IsFl.kt h k hT
  | text => exact IsT.kt h k hT
  | list => exact IsL.kt h k hT
  | pair => exact IsP.kt h k hT
  | side => exact IsB.kt h k hT
end Go.Proofs.YtaacjpcckinaiaaGreat
