/- A slice value reads as a list of cells in a world: what that is, and how it is kept. No program is named here. -/
import Derived.WalkKit
import Derived.Maps.AppendAt
import Derived.Deep.AppendLies
import Derived.Lib.AppendStr
import Derived.Deep.Draws
import Derived.OwnWalkIn
import Derived.RangeFuncBox
set_option linter.unusedVariables false
set_option maxRecDepth 100000
set_option linter.unusedSimpArgs false
namespace Go.Proofs.YtjkhancjfaegiaaDoor
open Go.RowKit

def bv (l : List UInt8) : List Value := l.map fun x => Value.int .u8 (x.toNat : Int)
def iv (l : List Int) : List Value := l.map (Value.int .i64)
theorem bv_length (l : List UInt8) : (bv l).length = l.length := by simp [bv]
theorem iv_length (l : List Int) : (iv l).length = l.length := by simp [iv]
theorem bv_append (l r : List UInt8) : bv (l ++ r) = bv l ++ bv r := by simp [bv]
theorem iv_append (l r : List Int) : iv (l ++ r) = iv l ++ iv r := by simp [iv]
theorem bv_one (l : List UInt8) : ∀ u ∈ bv l, u.oneCell' = true := by
  intro u hu; simp [bv] at hu; obtain ⟨x, _, rfl⟩ := hu; rfl
theorem iv_one (l : List Int) : ∀ u ∈ iv l, u.oneCell' = true := by
  intro u hu; simp [iv] at hu; obtain ⟨x, _, rfl⟩ := hu; rfl
theorem bv_get (l : List UInt8) (k : Nat) (h : k < l.length) : (bv l)[k]? = some (.int .u8 (l[k].toNat : Int)) := by simp [bv, h]
theorem iv_get (l : List Int) (k : Nat) (h : k < l.length) : (iv l)[k]? = some (.int .i64 l[k]) := by simp [iv, h]

/-- The slice value v reads as the one-cell elements xs. -/
def Sl (w : World) (v : Value) (xs : List Value) : Prop :=
  (v = .slice none 0 0 ∧ xs = []) ∨ ∃ b off c, v = .slice (some ⟨b, off, none⟩) xs.length c ∧ xs.length ≤ c ∧ c ≤ maxLen ∧ b < w.heap.size ∧ ∀ j u, xs[j]? = some u → w.cell? ⟨b, off + j, none⟩ = some u

theorem Sl.nil_ (w : World) : Sl w (.slice none 0 0) [] := .inl ⟨rfl, rfl⟩
theorem Sl.keep {w w' : World} {v : Value} {xs : List Value} (h : Sl w v xs) (hs : w.heap.size ≤ w'.heap.size) (hc : ∀ a : Addr, a.block < w.heap.size → w'.cell? a = w.cell? a) : Sl w' v xs := by
  rcases h with h | ⟨b, off, c, rfl, h1, h2, h3, h4⟩
  · exact .inl h
  · exact .inr ⟨b, off, c, rfl, h1, h2, Nat.lt_of_lt_of_le h3 hs, fun j u hu => (hc _ h3).trans (h4 j u hu)⟩
theorem Sl.below {w w' : World} {v : Value} {xs : List Value} (h : Sl w v xs) (hb : Below w.heap.size w w') : Sl w' v xs := h.keep hb.size fun _ ha => hb.cell ha
theorem Sl.drewN {w : World} {v : Value} {xs : List Value} (h : Sl w v xs) (n : Nat) : Sl (w.drewN n) v xs := h
theorem Sl.drew {w : World} {v : Value} {xs : List Value} (h : Sl w v xs) : Sl w.drew v xs := h
theorem Sl.alloc {w : World} {v : Value} {xs : List Value} (h : Sl w v xs) (o : Obj) : Sl (w.alloc o) v xs := h.below ((Below.refl _ w).alloc (Nat.le_refl _) o)
/-- What is there of a slice with an address. -/
theorem Sl.parts {w : World} {b off n c : Nat} {xs : List Value} (h : Sl w (.slice (some ⟨b, off, none⟩) n c) xs) : xs.length = n ∧ n ≤ c ∧ c ≤ maxLen ∧ b < w.heap.size ∧ ∀ j u, xs[j]? = some u → w.cell? ⟨b, off + j, none⟩ = some u := by
  rcases h with ⟨e, _⟩ | ⟨b', off', c', e, h1, h2, h3, h4⟩
  · cases e
  · injection e with e1 e2 e3
    injection e1 with e1
    injection e1 with a1 a2 a3
    subst a1 a2 e3
    exact ⟨e2.symm, by omega, h2, h3, h4⟩
theorem Sl.slice {w : World} {v : Value} {xs : List Value} (h : Sl w v xs) : ∃ A n c, v = .slice A n c := by
  rcases h with ⟨e, _⟩ | ⟨b', off', c', e, _⟩
  · exact ⟨_, _, _, e⟩
  · exact ⟨_, _, _, e⟩
/-- A slice of something has an address. -/
theorem Sl.some_ {w : World} {A : Option Addr} {n c : Nat} {xs : List Value} (h : Sl w (.slice A n c) xs) (hn : 0 < n) : ∃ b off, A = some ⟨b, off, none⟩ := by
  rcases h with ⟨e, _⟩ | ⟨b', off', c', e, _⟩
  · injection e with e1 e2 e3; omega
  · injection e with e1 e2 e3; exact ⟨b', off', e1⟩
theorem Sl.len {w : World} {A : Option Addr} {n c : Nat} {xs : List Value} (h : Sl w (.slice A n c) xs) : xs.length = n := by
  rcases h with ⟨e, h⟩ | ⟨b', off', c', e, _⟩
  · injection e with e1 e2 e3; rw [h, e2]; rfl
  · injection e with e1 e2 e3; exact e2.symm
/-- What is owned reads. -/
theorem Sl.of_own {w : World} {base : Nat} {e : TypeId} {v : Value} {n : Nat} {xs : List Value} (h : w.ownsRow base e 1 v n xs) : Sl w v xs := by
  have hl := h.1
  rcases h.2 with ⟨rfl, rfl⟩ | ⟨g, cap, cur, rfl, hb, hg, hnc, hcm, hcs, ht⟩
  · exact .inl ⟨rfl, List.eq_nil_of_length_eq_zero (by simpa using hl)⟩
  · have hn : n = xs.length := by omega
    subst hn
    refine .inr ⟨g, 0, cap, rfl, hnc, hcm, (Array.getElem?_eq_some_iff.1 hg).1, fun j u hu => ?_⟩
    have := h.cells (g := g) rfl j u hu
    have hadd : (⟨g, 0, none⟩ : Addr).add j = ⟨g, 0 + j, none⟩ := by unfold Addr.add; split <;> simp_all
    rwa [hadd] at this
theorem add_plain (b off j : Nat) : (⟨b, off, none⟩ : Addr).add j = ⟨b, off + j, none⟩ := by unfold Addr.add; split <;> simp_all

section
variable {P : Program} {w : World}
/-- 'string(b)'. -/
theorem run_str (src dst e : TypeId) (hs : P.underlying src = some (.slice e)) (he : P.underlying e = some (.int .u8)) (hd : P.underlying dst = some .string) (v : Value) (l : List UInt8) (h : Sl w v (bv l)) :
    (convert src dst v).run P w = .ok (.string ⟨l.toArray⟩) w := by
  rcases h with ⟨rfl, h0⟩ | ⟨b, off, c, rfl, h1, h2, h3, h4⟩
  · have : l = [] := List.eq_nil_of_length_eq_zero (by rw [← bv_length, h0]; rfl)
    subst this
    exact run_convert_bytes_nil w src e hs he 0 0 dst hd
  · rw [bv_length] at h1 ⊢
    have := run_convert_bytes_arg (P := P) w src e hs he b off l.length c (l.map fun x => (x.toNat : Int)) (by simp) (fun i hi => by
      rw [h4 i _ (bv_get l i hi)]
      simp [List.getD, hi]) dst hd
    rw [this]
    congr 3
    simp [strOfNums]
    congr 1
    simp [List.map_map, Function.comp_def]
end

theorem Sl.one (w : World) (x : Value) (t : TypeId) : Sl (w.alloc (.cells #[x] t)) (.slice (some ⟨w.heap.size, 0, none⟩) 1 1) [x] := by
  refine .inr ⟨w.heap.size, 0, 1, rfl, Nat.le_refl _, by decide, by simp, fun j u hu => ?_⟩
  rw [← add_plain]
  exact cell_one_new w x t j u hu

/-- t is a slice of e, whose zero value is z, of one cell, of so many bytes. -/
structure ElOf (P : Program) (t e : TypeId) (z : Value) (bytes : Nat) : Prop where
  ht : P.underlying t = some (.slice e)
  hi : (P.info? e).map (fun i => (i.zero, i.size, i.bytes)) = some (some z, 1, bytes)
  hz : z.cells.size = 1
  hb : 0 < bytes

section
variable {P : Program} {w : World} {t e : TypeId} {z : Value} {bytes : Nat}
theorem run_app (E : ElOf P t e z bytes) (base : Nat) (ty : TypeId) (v : Value) (n : Nat) (xs : List Value) (hown : w.ownsRow base e 1 v n xs)
    (vx : Value) (news : List Value) (hx : Sl w vx news) (h1 : ∀ u ∈ news, u.oneCell' = true) (hby : (n + news.length) * bytes ≤ 140737488355328) (hbase : base ≤ w.heap.size) :
    ∃ v' w', (Builtin.append_ #[t, t] ty #[v, vx]).run P w = .ok v' w' ∧ w'.ownsRow base e 1 v' (n + news.length) (xs ++ news) ∧ w.grownBy w' v.ownBlock ∧ (v'.ownBlock = v.ownBlock ∨ v'.ownBlock = some w.heap.size) := by
  obtain ⟨i, hi, hz0, hz1, hz2⟩ := info_parts E.hi
  have hb := E.hb
  rcases hx with ⟨rfl, rfl⟩ | ⟨b, off, c, rfl, h3, h4, h5, h6⟩
  · refine ⟨v, w, ?_, by simpa using hown, World.grownBy.refl w _, .inl rfl⟩
    rcases hown.2 with ⟨rfl, rfl⟩ | ⟨g, cap, cur, rfl, _, _, hnc, _⟩
    · simp [Builtin.append_, run_underlying E.ht, sizeOf, typeInfo, hi, Builtin.lenOf, Builtin.firstCells]
    · simp [Builtin.append_, run_underlying E.ht, sizeOf, typeInfo, hi, Builtin.lenOf, Builtin.firstCells, hnc, storeCells]
  · have hle : n + news.length ≤ (n + news.length) * bytes := Nat.le_mul_of_pos_right _ hb
    obtain ⟨v', w', a1, a2, a3, _, a5⟩ := run_append_own_at (P := P) w base t ty e i z 1 bytes E.ht hi hz0 hz1 hz2 E.hz (by omega) v n xs hown ⟨b, off, none⟩ news.length c news (by simp)
      (fun j u hu => by rw [add_plain]; exact h6 j u hu) h1 (by unfold maxLen; omega) hby hbase
    exact ⟨v', w', a1, a2, a3, a5⟩

theorem wpList_app (E : ElOf P t e z bytes) {ops : Array Oper} {rest : List Oper} {o : Oper} {a : Act} {Q : Exit → Act → World → Prop} (hgd : o.guard = none) (s x : Operand)
    (ho : o.op = .call { callee := .builtin .append, args := #[s, x], argTypes := #[t, t] })
    (base : Nat) (v : Value) (n : Nat) (xs : List Value) (hs : a.eval s = v) (hown : w.ownsRow base e 1 v n xs)
    (vx : Value) (news : List Value) (hxe : a.eval x = vx) (hx : Sl w vx news) (h1 : ∀ u ∈ news, u.oneCell' = true) (hby : (n + news.length) * bytes ≤ 140737488355328) (hbase : base ≤ w.heap.size)
    (h : ∀ v' w', w'.ownsRow base e 1 v' (n + news.length) (xs ++ news) → w.grownBy w' v.ownBlock → (v'.ownBlock = v.ownBlock ∨ v'.ownBlock = some w.heap.size) → wpList P ops Q rest (a.put o.dst v') w') : wpList P ops Q (o :: rest) a w := by
  refine wpList_plain hgd fun K hK => ?_
  obtain ⟨v', w', hrun, h2, h3, h4⟩ := run_app (w := w) E base o.type v n xs hown vx news hx h1 hby hbase
  unfold Oper.wp execOp
  simp only [ho, resolve, invoke, builtin, Sem.run_bind, Sem.run_pure, Result.andThen_ok, List.map_toArray, List.map_cons, List.map_nil, hs, hxe, hrun]
  exact hK _ _ (h v' w' h2 h3 h4)

/-- As 'wpList_app', under a guard that says yes. -/
theorem wpList_appw (E : ElOf P t e z bytes) {ops : Array Oper} {rest : List Oper} {o : Oper} {a : Act} {Q : Exit → Act → World → Prop} (hw : Region.wanted o (yielded ops a.tmps) = true) (s x : Operand)
    (ho : o.op = .call { callee := .builtin .append, args := #[s, x], argTypes := #[t, t] })
    (base : Nat) (v : Value) (n : Nat) (xs : List Value) (hs : a.eval s = v) (hown : w.ownsRow base e 1 v n xs)
    (vx : Value) (news : List Value) (hxe : a.eval x = vx) (hx : Sl w vx news) (h1 : ∀ u ∈ news, u.oneCell' = true) (hby : (n + news.length) * bytes ≤ 140737488355328) (hbase : base ≤ w.heap.size)
    (h : ∀ v' w', w'.ownsRow base e 1 v' (n + news.length) (xs ++ news) → w.grownBy w' v.ownBlock → (v'.ownBlock = v.ownBlock ∨ v'.ownBlock = some w.heap.size) → wpList P ops Q rest (a.put o.dst v') w') : wpList P ops Q (o :: rest) a w := by
  refine wpList_step fun K hK => ?_
  rw [if_pos hw]
  obtain ⟨v', w', hrun, h2, h3, h4⟩ := run_app (w := w) E base o.type v n xs hown vx news hx h1 hby hbase
  unfold Oper.wp execOp
  simp only [ho, resolve, invoke, builtin, Sem.run_bind, Sem.run_pure, Result.andThen_ok, List.map_toArray, List.map_cons, List.map_nil, hs, hxe, hrun]
  exact hK _ _ (h v' w' h2 h3 h4)

/-- One element more, in a region that draws its order: the new slice written out. -/
theorem step_app1 (E : ElOf P t e z bytes) {ops : Array Oper} {o : Oper} {a : Act} {K : Act → World → Prop} {Q : Exit → Act → World → Prop} {E0 : Prop} (hgd : o.guard = none) (s x : Operand)
    (ho : o.op = .call { callee := .builtin .append, args := #[s, x], argTypes := #[t, t] })
    (base : Nat) (v : Value) (n : Nat) (xs : List Value) (hs : a.eval s = v) (hown : w.ownsRow base e 1 v n xs)
    (vx y : Value) (hxe : a.eval x = vx) (hx : Sl w vx [y]) (h1 : y.oneCell' = true) (hby : (n + 1) * bytes ≤ 140737488355328) (hbase : base ≤ w.heap.size) (H : Nat) (hH : w.heap.size = H)
    (h : ∀ g cap w', w'.ownsRow base e 1 (.slice (some ⟨g, 0, none⟩) (n + 1) cap) (n + 1) (xs ++ [y]) → w.grownBy w' v.ownBlock → (v.ownBlock = some g ∨ g = H) → K (a.put o.dst (.slice (some ⟨g, 0, none⟩) (n + 1) cap)) w') :
    if Region.wanted o (yielded ops a.tmps) = true then Oper.wp P o a w K Q else E0 := by
  have hw : Region.wanted o (yielded ops a.tmps) = true := by simp [Region.wanted, hgd]
  rw [if_pos hw]
  obtain ⟨v', w', hrun, h2, h3, h4⟩ := run_app (w := w) E base o.type v n xs hown vx [y] hx (by simpa using h1) hby hbase
  obtain ⟨g, cap, rfl⟩ := ownsRow_succ h2
  unfold Oper.wp execOp
  simp only [ho, resolve, invoke, builtin, Sem.run_bind, Sem.run_pure, Result.andThen_ok, List.map_toArray, List.map_cons, List.map_nil, hs, hxe, hrun]
  refine h _ _ w' h2 h3 ?_
  rcases h4 with h4 | h4
  · exact .inl h4.symm
  · right
    injection h4 with h4
    exact h4.trans hH

theorem wpList_app1 (E : ElOf P t e z bytes) {ops : Array Oper} {rest : List Oper} {o : Oper} {a : Act} {Q : Exit → Act → World → Prop} (hgd : o.guard = none) (s x : Operand)
    (ho : o.op = .call { callee := .builtin .append, args := #[s, x], argTypes := #[t, t] })
    (base : Nat) (v : Value) (n : Nat) (xs : List Value) (hs : a.eval s = v) (hown : w.ownsRow base e 1 v n xs)
    (vx y : Value) (hxe : a.eval x = vx) (hx : Sl w vx [y]) (h1 : y.oneCell' = true) (hby : (n + 1) * bytes ≤ 140737488355328) (hbase : base ≤ w.heap.size) (H : Nat) (hH : w.heap.size = H)
    (h : ∀ g cap w', w'.ownsRow base e 1 (.slice (some ⟨g, 0, none⟩) (n + 1) cap) (n + 1) (xs ++ [y]) → w.grownBy w' v.ownBlock → (v.ownBlock = some g ∨ g = H) → wpList P ops Q rest (a.put o.dst (.slice (some ⟨g, 0, none⟩) (n + 1) cap)) w') : wpList P ops Q (o :: rest) a w := by
  refine wpList_plain hgd fun K hK => ?_
  obtain ⟨v', w', hrun, h2, h3, h4⟩ := run_app (w := w) E base o.type v n xs hown vx [y] hx (by simpa using h1) hby hbase
  obtain ⟨g, cap, rfl⟩ := ownsRow_succ h2
  unfold Oper.wp execOp
  simp only [ho, resolve, invoke, builtin, Sem.run_bind, Sem.run_pure, Result.andThen_ok, List.map_toArray, List.map_cons, List.map_nil, hs, hxe, hrun]
  refine hK _ _ (h g cap w' h2 h3 ?_)
  rcases h4 with h4 | h4
  · exact .inl h4.symm
  · right; injection h4 with h4; exact h4.trans hH
theorem wpListIn_app1 (E : ElOf P t e z bytes) {F : Fence} {m : Nat} {ops : Array Oper} {rest : List Oper} {o : Oper} {a : Act} {Q : Exit → Act → World → Prop} (hgd : o.guard = none) (s x : Operand)
    (ho : o.op = .call { callee := .builtin .append, args := #[s, x], argTypes := #[t, t] })
    (base : Nat) (v : Value) (n : Nat) (xs : List Value) (hs : a.eval s = v) (hown : w.ownsRow base e 1 v n xs)
    (vx y : Value) (hxe : a.eval x = vx) (hx : Sl w vx [y]) (h1 : y.oneCell' = true) (hby : (n + 1) * bytes ≤ 140737488355328) (hbase : base ≤ w.heap.size) (H : Nat) (hH : w.heap.size = H)
    (h : ∀ g cap w', w'.ownsRow base e 1 (.slice (some ⟨g, 0, none⟩) (n + 1) cap) (n + 1) (xs ++ [y]) → w.grownBy w' v.ownBlock → (v.ownBlock = some g ∨ g = H) → wpListIn F m P ops Q rest (a.put o.dst (.slice (some ⟨g, 0, none⟩) (n + 1) cap)) w') : wpListIn F m P ops Q (o :: rest) a w := by
  refine wpListIn_plain hgd fun K hK => ?_
  obtain ⟨v', w', hrun, h2, h3, h4⟩ := run_app (w := w) E base o.type v n xs hown vx [y] hx (by simpa using h1) hby hbase
  obtain ⟨g, cap, rfl⟩ := ownsRow_succ h2
  unfold Oper.wpIn
  refine ⟨?_, ?_⟩
  · simp [Oper.about, ho, resolve, Target.leads, Sem.run_pure]
  · rw [Oper.semAt_plain F _ _ (by rw [ho]; intro c hc'; cases hc')]
    simp [execOp, ho, resolve, invoke, builtin, hs, hxe, hrun, Result.andThen]
    refine hK _ _ (h g cap w' h2 h3 ?_)
    rcases h4 with h4 | h4
    · exact .inl h4.symm
    · right; injection h4 with h4; exact h4.trans hH

/-- 's[lo:]', 's[lo:hi]': what is cut out reads as the list that is cut out. -/
theorem run_cut (E : ElOf P t e z bytes) {v : Value} {xs : List Value} (h : Sl w v xs) (k m : Nat) (hk : k ≤ m) (hm : m ≤ xs.length) (lo hi : Option Value)
    (hlo : lo = some (.int .i64 (k : Int)) ∨ (lo = none ∧ k = 0)) (hhi : hi = some (.int .i64 (m : Int)) ∨ (hi = none ∧ m = xs.length)) :
    ∃ A c, (∀ W, (Instr.slice t v lo hi none).run P W = .ok (.slice A (m - k) c) W) ∧ Sl w (.slice A (m - k) c) ((xs.take m).drop k) := by
  obtain ⟨i, hi0, hz0, hz1, hz2⟩ := info_parts E.hi
  have hl : ((xs.take m).drop k).length = m - k := by simp; omega
  have size1 : ∀ W, (sizeOf e).run P W = .ok 1 W := fun W => by simp [sizeOf, typeInfo, hi0, hz1]
  have bounds : ∀ cap W, xs.length ≤ cap → (Instr.sliceBounds true xs.length cap lo hi none).run P W = .ok (k, m, cap) W := fun cap W hc => by
    have b1 := run_sliceBound (P := P) (w := W) .i64 (m : Int) cap .sliceAcap (by omega) (by omega)
    have b2 := run_sliceBound (P := P) (w := W) .i64 (k : Int) m .sliceB (by omega) (by omega)
    rcases hlo with rfl | ⟨rfl, rfl⟩ <;> rcases hhi with rfl | ⟨rfl, rfl⟩ <;> simp [Instr.sliceBounds, b1, b2]
  rcases h with ⟨rfl, rfl⟩ | ⟨b, off, c, rfl, h1, h2, h3, h4⟩
  · have hm0 : m = 0 := by simpa using hm
    subst hm0
    obtain rfl : k = 0 := by omega
    refine ⟨none, 0, fun W => ?_, by simpa using Sl.nil_ w⟩
    have := bounds 0 W (Nat.le_refl _)
    simp at this
    simp [Instr.slice, run_underlying E.ht, this, size1]
  · refine ⟨some ⟨b, if c = k then off else off + k, none⟩, c - k, fun W => ?_, ?_⟩
    · simp only [Instr.slice, run_underlying E.ht, Sem.run_bind, Result.andThen_ok, bounds c W h1, size1, Sem.run_pure]
      by_cases hck : c = k
      · simp [hck]
      · simp only [hck, if_false, Option.map_some, Nat.mul_one, add_plain]
    · refine .inr ⟨b, _, c - k, by rw [hl], by rw [hl]; omega, by omega, h3, fun j u hu => ?_⟩
      have hj : j < m - k := by
        rcases Nat.lt_or_ge j (m - k) with hh | hh
        · exact hh
        · rw [List.getElem?_eq_none (by omega)] at hu; cases hu
      rw [if_neg (by omega), Nat.add_assoc]
      refine h4 (k + j) u ?_
      rw [List.getElem?_drop, List.getElem?_take] at hu
      rwa [if_pos (by omega)] at hu

theorem wpList_cut (E : ElOf P t e z bytes) {ops : Array Oper} {rest : List Oper} {o : Oper} {a : Act} {Q : Exit → Act → World → Prop} (hgd : o.guard = none) (x : Operand) (lo hi : Option Operand)
    (ho : o.op = .slice t x lo hi none) (v : Value) (xs : List Value) (hx : a.eval x = v) (h : Sl w v xs) (k m : Nat) (hk : k ≤ m) (hm : m ≤ xs.length)
    (hlo : lo.map a.eval = some (.int .i64 (k : Int)) ∨ (lo.map a.eval = none ∧ k = 0)) (hhi : hi.map a.eval = some (.int .i64 (m : Int)) ∨ (hi.map a.eval = none ∧ m = xs.length))
    (hn : ∀ A c, Sl w (.slice A (m - k) c) ((xs.take m).drop k) → wpList P ops Q rest (a.put o.dst (.slice A (m - k) c)) w) : wpList P ops Q (o :: rest) a w := by
  refine wpList_plain hgd fun K hK => ?_
  obtain ⟨A, c, hrun, h2⟩ := run_cut (w := w) E h k m hk hm (lo.map a.eval) (hi.map a.eval) hlo hhi
  unfold Oper.wp execOp
  have hel : P.underlying t = some (.slice (P.elem t)) := by rw [E.ht]; simp [Program.elem, E.ht]
  simp only [ho, hx, Option.map_none, Sem.run_bind, run_sliceAt_slice w t v _ _ _ hel, hrun, Result.andThen_ok, Sem.run_pure]
  exact hK _ _ (hn A c h2)

/-- A call of a function of one argument that leaves the world alone, in a region that draws its order. -/
theorem step_call1 {ops : Array Oper} {o : Oper} {a : Act} {K : Act → World → Prop} {Q : Exit → Act → World → Prop} {E0 : Prop} (hgd : o.guard = none) (f : FuncId) (x : Operand) (ts : Array TypeId)
    (ho : o.op = .call { callee := .value (.func f), args := #[x], argTypes := ts }) (vx : Value) (hx : a.eval x = vx) (v : Value) (hr : ∀ args w, (callFunc f args).run P w = .ok (.enter f args) w) (hc : Calls P f #[vx] w fun e w' => e = .returned v ∧ w = w') (h : K (a.put o.dst v) w) :
    if Region.wanted o (yielded ops a.tmps) = true then Oper.wp P o a w K Q else E0 := by
  have hw : Region.wanted o (yielded ops a.tmps) = true := by simp [Region.wanted, hgd]
  rw [if_pos hw]
  unfold Oper.wp execOp
  have hev : a.eval (.func f) = .func (.func f) #[] #[] := rfl
  simp only [ho, resolve, invoke, Sem.run_bind, Sem.run_pure, Result.andThen_ok, List.map_toArray, List.map_cons, List.map_nil, hx, hev, Deferred.ofValue, Array.append_empty, hr]
  refine hc.mono ?_
  rintro e w' ⟨rfl, rfl⟩
  exact h

theorem wpListIn_app (E : ElOf P t e z bytes) {F : Fence} {m : Nat} {ops : Array Oper} {rest : List Oper} {o : Oper} {a : Act} {Q : Exit → Act → World → Prop} (hgd : o.guard = none) (s x : Operand)
    (ho : o.op = .call { callee := .builtin .append, args := #[s, x], argTypes := #[t, t] })
    (base : Nat) (v : Value) (n : Nat) (xs : List Value) (hs : a.eval s = v) (hown : w.ownsRow base e 1 v n xs)
    (vx : Value) (news : List Value) (hxe : a.eval x = vx) (hx : Sl w vx news) (h1 : ∀ u ∈ news, u.oneCell' = true) (hby : (n + news.length) * bytes ≤ 140737488355328) (hbase : base ≤ w.heap.size)
    (h : ∀ v' w', w'.ownsRow base e 1 v' (n + news.length) (xs ++ news) → w.grownBy w' v.ownBlock → (v'.ownBlock = v.ownBlock ∨ v'.ownBlock = some w.heap.size) → wpListIn F m P ops Q rest (a.put o.dst v') w') : wpListIn F m P ops Q (o :: rest) a w := by
  refine wpListIn_plain hgd fun K hK => ?_
  obtain ⟨v', w', hrun, h2, h3, h4⟩ := run_app (w := w) E base o.type v n xs hown vx news hx h1 hby hbase
  unfold Oper.wpIn
  refine ⟨?_, ?_⟩
  · simp [Oper.about, ho, resolve, Target.leads, Sem.run_pure]
  · rw [Oper.semAt_plain F _ _ (by rw [ho]; intro c hc'; cases hc')]
    simp [execOp, ho, resolve, invoke, builtin, hs, hxe, hrun, Result.andThen]
    exact hK _ _ (h v' w' h2 h3 h4)
end

/-- A piece that ends in no other way than by going on. -/
theorem wp_on {P : Program} {c : Code} {K : Act → World → Prop} {Q : Exit → Act → World → Prop} {a : Act} {w : World} (h : c.wp P (Exit.then K (fun _ _ _ => False)) a w) : c.wp P (Exit.then K Q) a w :=
  wp_mono h fun e a w hq => by cases e <;> first | exact hq | exact hq.elim
/-- What a piece leaves, said once: whatever ways led through it. -/
theorem wp_to {P : Program} {c : Code} {K : Act → World → Prop} {Q : Exit → Act → World → Prop} {a : Act} {w : World} (R : Act → World → Prop) (h : c.wp P (Exit.then R (fun _ _ _ => False)) a w) (hK : ∀ a w, R a w → K a w) : c.wp P (Exit.then K Q) a w :=
  wp_mono h fun e a w hq => by cases e <;> first | exact hK _ _ hq | exact hq.elim
/-- As Q; by a goto: what stands behind its label, walked on to the end. -/
def Exit.fwd (P : Program) (c : Code) (Q : Exit → Act → World → Prop) : Exit → Act → World → Prop
  | .goto l, a, w => ∃ rest, findLabel c l = some rest ∧ rest.wp P (Exit.noGoto Q) a w
  | e, a, w => Q e a w
/-- A scope whose jumps all go forward. -/
theorem wp_scope_fwd {P : Program} {c : Code} {Q : Exit → Act → World → Prop} {a : Act} {w : World} (h : c.wp P (Exit.fwd P c Q) a w) : (Code.scope c).wp P Q a w := by
  intro b k cs
  obtain ⟨e, a₁, w₁, hq, harr⟩ := h b (.inScope c :: k) cs
  cases e with
  | normal => exact ⟨.normal, a₁, w₁, hq, .head step_scope (Steps.trans harr (.one step_inScope))⟩
  | exit id => exact ⟨.exit id, a₁, w₁, hq, fun k' hk => .head step_scope (harr k' (by simp [exitTo, hk]))⟩
  | goto l =>
    obtain ⟨rest, hf, hr⟩ := hq
    have hg : gotoIn l (.inScope c :: k) = some (.code rest :: .inScope c :: k) := by simp [gotoIn, hf]
    obtain ⟨e₂, a₂, w₂, hq₂, harr₂⟩ := hr b (.inScope c :: k) cs
    have hs := Steps.head step_scope (harr _ hg)
    cases e₂ with
    | normal => exact ⟨.normal, a₂, w₂, hq₂, hs.trans (Steps.trans harr₂ (.one step_inScope))⟩
    | exit id => exact ⟨.exit id, a₂, w₂, hq₂, fun k' hk => hs.trans (harr₂ k' (by simp [exitTo, hk]))⟩
    | goto l => exact hq₂.elim
    | ret => exact ⟨_, a₂, w₂, hq₂, .of_steps hs harr₂⟩
    | panic ch => exact ⟨_, a₂, w₂, hq₂, .of_steps hs harr₂⟩
    | outgrown => exact ⟨_, a₂, w₂, hq₂, .of_steps (b := b) (k := k) (cs := cs) (e := .outgrown) hs harr₂⟩
  | ret => exact ⟨_, a₁, w₁, hq, .of_steps (.one step_scope) harr⟩
  | panic ch => exact ⟨_, a₁, w₁, hq, .of_steps (.one step_scope) harr⟩
  | outgrown => exact ⟨_, a₁, w₁, hq, .of_steps (b := b) (k := k) (cs := cs) (e := .outgrown) (.one step_scope) harr⟩
theorem fwd_ret {P : Program} {c : Code} {Q : Exit → Act → World → Prop} {a : Act} {w : World} (h : Q .ret a w) : Exit.fwd P c Q .ret a w := h
theorem fwd_goto {P : Program} {c : Code} {Q : Exit → Act → World → Prop} {a : Act} {w : World} {l : Nat} (rest : Code) (hf : findLabel c l = some rest) (h : rest.wp P (Exit.noGoto Q) a w) : Exit.fwd P c Q (.goto l) a w := ⟨rest, hf, h⟩
theorem nog_ret {Q : Exit → Act → World → Prop} {a : Act} {w : World} (h : Q .ret a w) : Exit.noGoto Q .ret a w := h
theorem gr_refl (w : World) (row : Option Nat) : w.grownBy w row := World.grownBy.refl w row
theorem gr_alloc {a w : World} {row : Option Nat} (h : a.grownBy w row) (o : Obj) : a.grownBy (w.alloc o) row :=
  ⟨h.os, h.tape, h.output, Nat.le_trans h.size (by simp), fun i hi hne => (Below.heap_alloc w o i (Nat.lt_of_lt_of_le hi h.size)).trans (h.block i hi hne)⟩
theorem gr_drew {a w : World} {row : Option Nat} (h : a.grownBy w row) : a.grownBy w.drew row := ⟨h.os, h.tape, h.output, h.size, h.block⟩
theorem gr_drewN {a w : World} {row : Option Nat} (h : a.grownBy w row) (n : Nat) : a.grownBy (w.drewN n) row := ⟨h.os, h.tape, h.output, h.size, h.block⟩
theorem gr_set {a w : World} {row : Option Nat} (h : a.grownBy w row) {p : Addr} (hp : a.heap.size ≤ p.block ∨ some p.block = row) (u : Value) : a.grownBy (w.setCell p u) row :=
  ⟨h.os, h.tape, h.output, by simpa [World.setCell] using h.size, fun i hi hne => (Below.heap_setCell w p u i (by
    rintro rfl
    rcases hp with hp | hp
    · omega
    · exact hne hp)).trans (h.block i hi hne)⟩
/-- Behind it another row has turned, one that is the same or new. -/
theorem gr_then {a b c : World} {row row' : Option Nat} (h : a.grownBy b row) (k : b.grownBy c row') (hr : row' = row ∨ ∀ g, row' = some g → a.heap.size ≤ g) : a.grownBy c row :=
  ⟨k.os.trans h.os, k.tape.trans h.tape, k.output.trans h.output, Nat.le_trans h.size k.size, fun i hi hne => (k.block i (Nat.lt_of_lt_of_le hi h.size) (by
    rcases hr with hr | hr
    · rw [hr]; exact hne
    · intro e; have := hr i e.symm; omega)).trans (h.block i hi hne)⟩
theorem gr_below {a b c : World} {row : Option Nat} (h : a.grownBy b row) (k : Below b.heap.size b c) : a.grownBy c row :=
  ⟨k.os.trans h.os, k.tape.trans h.tape, k.output.trans h.output, Nat.le_trans h.size k.size, fun i hi hne => (k.block i (Nat.lt_of_lt_of_le hi h.size)).trans (h.block i hi hne)⟩
theorem boxed_drew {W : World} {B : Nat} {t : TypeId} {v : Value} (h : Boxed W B t v) : Boxed W.drew B t v := h
theorem boxed_drewN {W : World} {B : Nat} {t : TypeId} {v : Value} (h : Boxed W B t v) (n : Nat) : Boxed (W.drewN n) B t v := h
/-- Only a row of the call's own, or nothing, has turned: all that lay below lies. -/
theorem below_of_none {w w' : World} (h : w.grownBy w' none) : Below w.heap.size w w' := ⟨h.os, h.tape, h.output, h.size, fun k hk => h.block k hk (by simp)⟩
/-- v reads as xs, and its cells lie in a block from n on. -/
structure Slf (n : Nat) (w : World) (v : Value) (xs : List Value) : Prop where
  sl : Sl w v xs
  new : ∀ g, v.ownBlock = some g → n ≤ g
theorem Slf.nil_ (n : Nat) (w : World) : Slf n w (.slice none 0 0) [] := ⟨Sl.nil_ w, fun g h => by simp [Value.ownBlock] at h⟩
theorem Slf.below {n : Nat} {w w' : World} {v : Value} {xs : List Value} (h : Slf n w v xs) (hb : Below w.heap.size w w') : Slf n w' v xs := ⟨h.sl.below hb, h.new⟩
theorem Slf.mono {n k : Nat} {w : World} {v : Value} {xs : List Value} (h : Slf n w v xs) (hk : k ≤ n) : Slf k w v xs := ⟨h.sl, fun g e => Nat.le_trans hk (h.new g e)⟩
theorem Slf.of_own {n : Nat} {w : World} {e : TypeId} {v : Value} {k : Nat} {xs : List Value} (h : w.ownsRow n e 1 v k xs) : Slf n w v xs := ⟨Sl.of_own h, fun g e => (h.lt g e).1⟩
/-- What is stored into another block leaves it as it was. -/
theorem Slf.other {n b : Nat} {w w' : World} {v : Value} {xs : List Value} (h : Slf n w v xs) (hb : b < n) (hs : w.heap.size ≤ w'.heap.size) (hk : ∀ k, k < w.heap.size → k ≠ b → w'.heap[k]? = w.heap[k]?) : Slf n w' v xs := by
  refine ⟨?_, h.new⟩
  rcases h.sl with h1 | ⟨b', off, c, rfl, h1, h2, h3, h4⟩
  · exact .inl h1
  · have hn := h.new b' rfl
    exact .inr ⟨b', off, c, rfl, h1, h2, Nat.lt_of_lt_of_le h3 hs, fun j u hu => (World.cell?_of_block (a := ⟨b', off + j, none⟩) (hk b' h3 (by omega))).trans (h4 j u hu)⟩
theorem Slf.set_ {n b : Nat} {w : World} {v : Value} {xs : List Value} (h : Slf n w v xs) (hb : b < n) (j : Nat) (u : Value) : Slf n (w.setCell ⟨b, j, none⟩ u) v xs :=
  h.other hb (by simp [World.setCell]) fun k _ hk => Below.heap_setCell w ⟨b, j, none⟩ u k hk
theorem Slf.setRow_ {n b : Nat} {w : World} {v : Value} {xs : List Value} (h : Slf n w v xs) (hb : b < n) (c : Array Value) : Slf n (w.setRow b c) v xs :=
  h.other hb (by simp [World.setRow]) fun k _ hk => Go.setRow_other w b k c hk
end Go.Proofs.YtjkhancjfaegiaaDoor
