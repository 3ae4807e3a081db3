/- A range over a function whose variable is boxed anew in each round. No program is named here. -/
import Derived.Test.YtjkhancjfaegiaaDoorRng
import Derived.Test.YtjkhancjfaegiaaDoorGr2
import Derived.Test.YtjkhancjfaegiaaDoorRwG
import Derived.Test.YtjkhancjfaegiaaDoorFen
set_option linter.unusedVariables false
set_option linter.unusedSimpArgs false
namespace Go.Proofs.YtjkhancjfaegiaaDoor
open Go.RowKit Go.Shelf Ms

/-- A range over a function, at the wide fence, whose variables may be laid in new blocks at each round. -/
theorem wp_rangeH {P : Program} {α : Type} {g : Operand} {ps : Array Tmp} {assign body : Code} {Q : Exit → Act → World → Prop} {a : Act} {w : World}
    {gf : Nat} {lb : Array Value} (hg : a.eval g = .func (.func gf) #[] lb) (eg : ∀ args w, (callFunc gf args).run P w = .ok (.enter gf args) w)
    {encs : α → Array Value} {S : Nat → Prop} {Sf Sp : List α → Prop} {N : Nat} (hseq : SeqStopsK Fence.wide 8 P gf lb encs (Kps S) Sf Sp N w) (hS : ∀ k, S k → k < w.heap.size) (hps : ∀ x, (encs x).size = ps.size)
    (I : List α → World → Prop) (Ix : Code → List α → World → Prop) (hI : OwnFrom w.heap.size I) (hIx : ∀ c, OwnFrom w.heap.size (Ix c)) (h0 : I [] w) (Ax : α → Act → World → Prop) (hAx : ∀ x a', OwnFrom w.heap.size (fun (_ : Unit) W => Ax x a' W))
    (hassign : ∀ (l : Nat) (pre : List α) (x : α) (W : World) (K : Act → World → Prop), I pre W → (∀ a' W', Below W.heap.size W W' → I pre W' → Ax x a' W' → K a' W') →
      assign.wpIn (Fence.wide.inRound l) 7 P (Exit.then K (fun _ _ _ => False)) { tmps := (ps.zip (encs x)).foldl (fun t (p, v) => t.setIfInBounds p v) a.tmps, defers := [] } W)
    (hIS : ∀ pre W, I pre W → ∀ k, S k → k < W.heap.size)
    (hbody : ∀ (l : Nat) (pre : List α) (x : α) (a' : Act) (W : World), I pre W → Ax x a' W → pre.length < N → body.wpIn (Fence.wide.inRound l) 7 P (ownPostG w.heap.size (Kps S) I Ix (pre ++ [x]) W) a' W)
    (hdone : ∀ (D : Nat) (xs : List α) (W : World), w.heap.size ≤ D → Sf xs → I xs W → W.heap[D]? = some (.deferred (some [])) → Q .normal { a with defers := { target := .collected D, args := #[] } :: a.defers } W)
    (hstop : ∀ (D : Nat) (c : Code) (pre : List α) (W : World), w.heap.size ≤ D → Sp pre → Ix c pre W → W.heap[D]? = some (.deferred (some [])) → c.wp P Q { a with defers := { target := .collected D, args := #[] } :: a.defers } W) :
    (Code.rangeFunc g ps assign body).wp P Q a w :=
  (wpIn_wide (n := 9)).1 (wpIn_rangeFunc_ownH rfl (by omega) hg trivial eg hseq (fun h k => Kps.trans h k) (fun W l o o' h1 h2 h3 h4 => Kps.putObj hS W l o o' h1 h2 h3 h4) (Below.refl _ _) hps I Ix hI hIx h0 Ax hAx
    (fun l pre x W K hi hK => hassign l pre x W K hi (fun a' W' hb hi' hax => hK a' W' ⟨hb.size, fun k o _ hk _ => (hb.block k (Array.getElem?_eq_some_iff.1 hk).1).trans hk⟩ (Kps.below hb (hIS pre W hi)) hi' hax))
    (fun l pre x a' W _ _ hi hax hlt => hbody l pre x a' W hi hax hlt) hdone
    (fun D c pre W h1 h2 h3 h4 => wpIn_wide.2 (hstop D c pre W h1 h2 h3 h4)))
/-- What holds cells lies, and all below B; the rest may have turned. -/
structure Bides (B : Nat) (W W' : World) : Prop where
  os : W'.os = W.os
  tape : W'.tape = W.tape
  output : W'.output = W.output
  size : W.heap.size ≤ W'.heap.size
  low : ∀ k, k < B → k < W.heap.size → W'.heap[k]? = W.heap[k]?
  cells : ∀ (k : Nat) (o : Obj), W.heap[k]? = some o → o.isCells = true → W'.heap[k]? = some o
theorem ownFrom_still {β : Type} {B : Nat} {I : β → World → Prop} (h : ∀ s W W', I s W → Bides B W W' → I s W') : OwnFrom B I := fun s W W' row hs hg hr =>
  h s W W' hs ⟨hg.os, hg.tape, hg.output, hg.size, fun k hk hl => hg.block k hl (fun e => by have := (hr k e.symm).1; omega), fun k o hk ho => (hg.block k (Array.getElem?_eq_some_iff.1 hk).1 (fun e => by
    obtain ⟨_, o', ho', hc⟩ := hr k e.symm
    rw [hk] at ho'
    injection ho' with ho'
    subst ho'
    rw [ho] at hc
    cases hc)).trans hk⟩
theorem Bides.rw_ {B : Nat} {W W' : World} (h : Bides B W W') {b : Nat} {t : TypeId} {c : Array Value} (hr : Rw W b t c) : Rw W' b t c := h.cells b _ hr rfl
theorem Bides.below {B n : Nat} {W W' w : World} (h : Bides B W W') (hb : Below n w W) (hn : n ≤ B) (hw : n ≤ w.heap.size) : Below n w W' :=
  ⟨h.os.trans hb.os, h.tape.trans hb.tape, h.output.trans hb.output, Nat.le_trans hb.size h.size, fun k hk => (h.low k (by omega) (by have := hb.size; omega)).trans (hb.block k hk)⟩
theorem Bides.owns {B : Nat} {W W' : World} (h : Bides B W W') {n s m : Nat} {e : TypeId} {u : Value} {xs : List Value} (ho : W.ownsRow n e s u m xs) : W'.ownsRow n e s u m xs := by
  refine ⟨ho.1, ?_⟩
  rcases ho.2 with h1 | ⟨g, cap, cur, rfl, hb, hh, h3⟩
  · exact .inl h1
  · exact .inr ⟨g, cap, cur, rfl, hb, h.cells g _ hh rfl, h3⟩
theorem Bides.ownP {B : Nat} {W W' : World} (h : Bides B W W') {p : Nat → Prop} {e : TypeId} {v : Value} {gs : List Gr} (ho : OwnP p W e v gs) : OwnP p W' e v gs := by
  obtain ⟨ps, h1, h2, h3, h4, h5⟩ := ho
  exact ⟨ps, h1, h.owns h2, ⟨fun q hq => h.owns (h3.own q hq), h3.out, h3.apart⟩, h4, h5⟩
/-- A step that turns cells alone. -/
theorem keeps_below {B : Nat} {W W' : World} (h : Below W.heap.size W W') : KeepsFrom B W W' := ⟨h.size, fun k o _ hk _ => (h.block k (Array.getElem?_eq_some_iff.1 hk).1).trans hk⟩
theorem keeps_row {B : Nat} {W W' : World} {row : Option Nat} (h : W.grownBy W' row) (hr : ∀ k, row = some k → ∃ o, W.heap[k]? = some o ∧ o.isCells = true) : KeepsFrom B W W' := ⟨h.size, fun k o _ hk ho => (h.block k (Array.getElem?_eq_some_iff.1 hk).1 (fun e => by
  obtain ⟨o', ho', hc⟩ := hr k e.symm
  rw [hk] at ho'
  injection ho' with ho'
  subst ho'
  rw [ho] at hc
  cases hc)).trans hk⟩
theorem OwnP.cells_ {p : Nat → Prop} {w : World} {e : TypeId} {v : Value} {gs : List Gr} (h : OwnP p w e v gs) : ∀ k, v.ownBlock = some k → ∃ o, w.heap[k]? = some o ∧ o.isCells = true := by
  obtain ⟨ps, h1, h2, h3, h4, h5⟩ := h
  intro k hk
  rcases h2.2 with ⟨rfl, _⟩ | ⟨g, cap, cur, rfl, hb, hh, _⟩
  · cases hk
  · have : g = k := by simpa [Value.ownBlock] using hk
    subst this
    exact ⟨_, hh, rfl⟩
theorem bides_put {B D : Nat} {W : World} {o o' : Obj} (h : W.heap[D]? = some o) (ho : o.isCells = false) (hD : B ≤ D) : Bides B W (W.putObj D o') := by
  have hg := grownBy_putObj' W D o'
  have hl := (Array.getElem?_eq_some_iff.1 h).1
  refine ⟨hg.os, hg.tape, hg.output, hg.size, fun k hk hs => hg.block k hs (fun e => by injection e; omega), fun k q hk hq => (hg.block k (Array.getElem?_eq_some_iff.1 hk).1 (fun e => ?_)).trans hk⟩
  injection e with e
  subst e
  rw [h] at hk
  injection hk with hk
  subst hk
  rw [ho] at hq
  cases hq
end Go.Proofs.YtjkhancjfaegiaaDoor
