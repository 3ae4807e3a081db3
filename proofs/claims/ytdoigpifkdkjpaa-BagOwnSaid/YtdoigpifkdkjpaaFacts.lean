/- Facts on a world, each with the blocks that it speaks of; kept by calls, changed by a store of a whole row. No program is named here. -/
import Derived.Test.YtdoigpifkdkjpaaGr3
import Derived.Test.YtdoigpifkdkjpaaRwG
set_option linter.unusedVariables false
set_option maxRecDepth 100000
set_option linter.unusedSimpArgs false
namespace Go.Proofs.Ytdoigpifkdkjpaa.Ms
open Go.RowKit Go.Shelf

/-- W' has what W has in these blocks. -/
structure Kp (fp : Nat → Prop) (W W' : World) : Prop where
  os : W'.os = W.os
  tape : W'.tape = W.tape
  output : W'.output = W.output
  size : W.heap.size ≤ W'.heap.size
  block : ∀ k, fp k → k < W.heap.size → W'.heap[k]? = W.heap[k]?
theorem Kp.below {fp : Nat → Prop} {W W' : World} (h : Below W.heap.size W W') : Kp fp W W' := ⟨h.os, h.tape, h.output, h.size, fun k _ hk => h.block k hk⟩
theorem Kp.setRow {fp : Nat → Prop} {W : World} {b : Nat} (c : Array Value) (h : ¬ fp b) : Kp fp W (W.setRow b c) :=
  ⟨rfl, rfl, rfl, by simp [World.setRow], fun k hk _ => Go.setRow_other W b k c (by rintro rfl; exact h hk)⟩
structure F where
  ok : World → Prop
  fp : Nat → Prop
  keep : ∀ W W' : World, ok W → Kp fp W W' → ok W'
def F.row (b : Nat) (t : TypeId) (c : Array Value) : F := ⟨fun W => Rw W b t c, fun k => k = b, fun W W' h hk => (hk.block b rfl h.lt).trans h⟩
def F.base (w : World) : F := ⟨fun W => Below w.heap.size w W, fun k => k < w.heap.size, fun W W' h hk => ⟨hk.os.trans h.os, hk.tape.trans h.tape, hk.output.trans h.output, Nat.le_trans h.size hk.size, fun k hlt => (hk.block k hlt (Nat.lt_of_lt_of_le hlt h.size)).trans (h.block k hlt)⟩⟩
def F.own (p : Nat → Prop) (e : TypeId) (v : Value) (gs : List Gr) : F := ⟨fun W => OwnP p W e v gs, p, fun W W' h hk => h.of hk.block⟩
theorem F.row_fp (b : Nat) (t : TypeId) (c : Array Value) (k : Nat) : (F.row b t c).fp k = (k = b) := rfl
theorem F.base_fp (w : World) (k : Nat) : (F.base w).fp k = (k < w.heap.size) := rfl
theorem F.own_fp (p : Nat → Prop) (e : TypeId) (v : Value) (gs : List Gr) (k : Nat) : (F.own p e v gs).fp k = p k := rfl
def F.bytes (p : Nat → Prop) (v : Value) (l : List UInt8) : F := ⟨fun W => W.ownsRow 0 5 1 v l.length (bv l) ∧ ∀ k, v.ownBlock = some k → p k, p, fun W W' h hk => ⟨owns_still h.1 fun k e => hk.block k (h.2 k e) (h.1.lt k e).2, h.2⟩⟩
theorem F.bytes_fp (p : Nat → Prop) (v : Value) (l : List UInt8) (k : Nat) : (F.bytes p v l).fp k = p k := rfl
structure Fs (l : List F) (W : World) : Prop where
  all : ∀ f ∈ l, f.ok W
theorem Fs.get {l : List F} {W : World} (h : Fs l W) (i : Nat) {f : F} (hi : l[i]? = some f) : f.ok W := h.all f (List.mem_of_getElem? hi)
theorem Fs.rowAt {l : List F} {W : World} (h : Fs l W) (i : Nat) {b : Nat} {t : TypeId} {c : Array Value} (hi : l[i]? = some (.row b t c)) : Rw W b t c := h.get i hi
theorem Fs.baseAt {l : List F} {W : World} (h : Fs l W) (i : Nat) {w : World} (hi : l[i]? = some (.base w)) : Below w.heap.size w W := h.get i hi
theorem Fs.ownAt {l : List F} {W : World} (h : Fs l W) (i : Nat) {p : Nat → Prop} {e : TypeId} {v : Value} {gs : List Gr} (hi : l[i]? = some (.own p e v gs)) : OwnP p W e v gs := h.get i hi
theorem Fs.bytesAt {l : List F} {W : World} (h : Fs l W) (i : Nat) {p : Nat → Prop} {v : Value} {xs : List UInt8} (hi : l[i]? = some (.bytes p v xs)) : W.ownsRow 0 5 1 v xs.length (bv xs) := (h.get i hi : _ ∧ _).1
theorem Fs.call {l : List F} {W W' : World} (h : Fs l W) (hb : Below W.heap.size W W') : Fs l W' := ⟨fun f hf => f.keep W W' (h.all f hf) (Kp.below hb)⟩
theorem Fs.drew {l : List F} {W : World} (h : Fs l W) : Fs l W.drew := h.call (Below.refl _ _).drew
theorem Fs.alloc {l : List F} {W : World} (h : Fs l W) (o : Obj) : Fs l (W.alloc o) := h.call (box_below W o)
theorem Fs.nil (W : World) : Fs [] W := ⟨fun f hf => by simp at hf⟩
theorem Fs.snoc {l : List F} {W : World} (h : Fs l W) (f : F) (hf : f.ok W) : Fs (l ++ [f]) W := ⟨fun g hg => by
  rcases List.mem_append.1 hg with hg | hg
  · exact h.all g hg
  · simp at hg; subst hg; exact hf⟩
theorem Fs.sub {l m : List F} {W : World} (h : Fs l W) (hm : ∀ f ∈ m, f ∈ l) : Fs m W := ⟨fun f hf => h.all f (hm f hf)⟩
def aparts (b : Nat) : List F → Prop
  | [] => True
  | f :: l => ¬ f.fp b ∧ aparts b l
theorem aparts_mem {b : Nat} : ∀ {l : List F}, aparts b l → ∀ f ∈ l, ¬ f.fp b
  | [], _, f, hf => by simp at hf
  | g :: l, h, f, hf => by
    rcases List.mem_cons.1 hf with rfl | hf
    · exact h.1
    · exact aparts_mem h.2 f hf
theorem Fs.setRow {l : List F} {W : World} (h : Fs l W) (i : Nat) {b : Nat} {t : TypeId} {c : Array Value} (hi : l[i]? = some (.row b t c)) (c' : Array Value) (hap : aparts b (l.eraseIdx i)) : Fs (l.set i (.row b t c')) (W.setRow b c') := ⟨fun f hf => by
  have hd := aparts_mem hap
  have hr : Rw W b t c := h.get i hi
  have hlt : i < l.length := (List.getElem?_eq_some_iff.1 hi).1
  obtain ⟨j, hj⟩ := List.mem_iff_getElem?.1 hf
  by_cases hij : i = j
  · subst hij
    rw [List.getElem?_set_self hlt] at hj
    injection hj with hj
    subst hj
    exact hr.setRow
  · rw [List.getElem?_set_ne hij] at hj
    exact f.keep W _ (h.get j hj) (Kp.setRow c' (hd f (by
      rw [List.mem_eraseIdx_iff_getElem?]
      exact ⟨j, fun e => hij e.symm, hj⟩)))⟩
theorem Kp.setCell {fp : Nat → Prop} {W : World} {b j : Nat} (v : Value) (h : ¬ fp b) : Kp fp W (W.setCell ⟨b, j, none⟩ v) :=
  ⟨rfl, rfl, rfl, by simp [World.setCell], fun k hk _ => Below.heap_setCell W ⟨b, j, none⟩ v k (by show k ≠ b; rintro rfl; exact h hk)⟩
theorem Fs.setCell {l : List F} {W : World} (h : Fs l W) (i : Nat) {b : Nat} {t : TypeId} {c : Array Value} (hi : l[i]? = some (.row b t c)) (j : Nat) (v : Value) (hap : aparts b (l.eraseIdx i)) : Fs (l.set i (.row b t (c.setIfInBounds j v))) (W.setCell ⟨b, j, none⟩ v) := ⟨fun f hf => by
  have hd := aparts_mem hap
  have hr : Rw W b t c := h.get i hi
  have hlt : i < l.length := (List.getElem?_eq_some_iff.1 hi).1
  obtain ⟨k, hk⟩ := List.mem_iff_getElem?.1 hf
  by_cases hik : i = k
  · subst hik
    rw [List.getElem?_set_self hlt] at hk
    injection hk with hk
    subst hk
    exact hr.set j v
  · rw [List.getElem?_set_ne hik] at hk
    exact f.keep W _ (h.get k hk) (Kp.setCell v (hd f (by
      rw [List.mem_eraseIdx_iff_getElem?]
      exact ⟨k, fun e => hik e.symm, hk⟩)))⟩
section
variable {P : Program} {ops : Array Oper} {rest : List Oper} {a : Act} {Q : Exit → Act → World → Prop}
theorem Fs.gen {l : List F} {w : World} (h : Fs l w) (k : ∀ X, Fs l X → wpList P ops Q rest a X) : wpList P ops Q rest a w := k w h
end
end Go.Proofs.Ytdoigpifkdkjpaa.Ms
