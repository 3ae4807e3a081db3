/- A bag, a datagram, a row of them that came in, opened. -/
import Derived.Test.YtdoigpifkdkjpaaBRef
import Derived.Test.YtdoigpifkdkjpaaRow
set_option linter.unusedVariables false
set_option maxRecDepth 100000
set_option linter.unusedSimpArgs false
namespace Go.Proofs.Ytdoigpifkdkjpaa
open Go.ChangeShapes Go.WideShapes Go.ChangeAt Go.RowKit Ms

section
variable {P : Program} {w : World} {r : Reach} {b : Nat} {t : TypeId} {v : Value}
theorem cell_i {k : IntKind} (ht : P.underlying t = some (.int k)) (h : Cell.okWide P w r b t v) : ∃ n, v = .int k n ∧ k.has n := by
  unfold Cell.okWide Cell.ok at h
  rw [ht] at h
  cases v <;> simp at h
  obtain ⟨rfl, h⟩ := h
  exact ⟨_, rfl, h⟩
end
theorem grTy : GrTy Try.prog 22 29 := ⟨Try.underlying22, ⟨_, _, _, 5, Try.underlying29, rfl, rfl, rfl, by kernel_rfl, by kernel_rfl, by kernel_rfl, Try.underlying3, Try.underlying27, Try.underlying5, by kernel_rfl, Try.underlying4⟩, by kernel_rfl⟩
theorem typesB : Try.prog.cellTypes Try.prog.depth 24 = some [22, 3] := by kernel_rfl
theorem sizeB : Try.prog.cellsOf 24 = 2 := by kernel_rfl
theorem array2' {α : Type} {cs : Array α} (h : cs.size = 2) : ∃ c0 c1, cs = #[c0, c1] := by
  obtain ⟨l⟩ := cs
  match l, h with
  | [c0, c1], _ => exact ⟨c0, c1, rfl⟩
section
variable {H : Type} {enc : TypeId × Value → H}
theorem open_bag {W : World} {b0 : Nat} {v : Value} {d : DataW H} {ps : List MemPlace} (hval : Value.okWide Try.prog W .any b0 24 v) (hd : DataW.Trod enc Try.prog W 0 (fun _ => true) true 24 v d ps) : ∃ (s : Value) (n : Int) (gs : List Gr), v = .agg (bagC s n) ∧ SwG W s gs ∧ (∀ g ∈ gs, (Lit.int .i64 g.to).wf = true) ∧ IntKind.i64.has n := by
  unfold Value.okWide at hval
  rw [Try.underlying24] at hval
  obtain ⟨cs, rfl, hsz, ts, hts, _, hc⟩ := hval
  rw [typesB] at hts
  obtain rfl := Option.some.inj hts
  obtain ⟨c0, c1, rfl⟩ := array2' (hsz.trans sizeB)
  obtain ⟨u1, hu1, h1⟩ := hc 1 c1 rfl
  obtain rfl : 3 = u1 := Option.some.inj hu1
  obtain ⟨a1, rfl, b1⟩ := cell_i Try.underlying3 h1
  obtain ⟨fuel, hf⟩ := hd
  obtain ⟨xs, n, _, _, _, hlen, hx⟩ := DataW.trod_struct Try.underlying24 hf
  have h0' := hx 0 _ rfl
  obtain ⟨y, hy⟩ : ∃ y, xs[0]? = some y := ⟨xs[0]'(by rw [hlen]; decide), List.getElem?_eq_getElem _⟩
  rw [hy] at h0'
  obtain ⟨gs, h2, h3⟩ := swG_of_trod grTy (v := c0) h0'
  exact ⟨c0, a1, gs, rfl, h2, h3, b1⟩
theorem open_grams {W : World} {v : Value} {d : DataW H} {ps : List MemPlace} {b0 : Nat} (hval : Value.okWide Try.prog W .any b0 22 v) (hd : DataW.Trod enc Try.prog W 0 (fun _ => true) true 22 v d ps) : ∃ gs : List Gr, SwG W v gs ∧ ∀ g ∈ gs, (Lit.int .i64 g.to).wf = true := by
  obtain ⟨A, len, cap, rfl⟩ := okWide_slice Try.underlying22 hval
  obtain ⟨fuel, hf⟩ := hd
  exact swG_of_trod grTy (v := .slice A len cap) hf
theorem open_gram {W : World} {b0 : Nat} {v : Value} {d : DataW H} {ps : List MemPlace} (hval : Value.okWide Try.prog W .any b0 29 v) (hd : DataW.Trod enc Try.prog W 0 (fun _ => true) true 29 v d ps) : ∃ (g : Gr) (u : Value), v = .agg (g.c u) ∧ Sw W u (bv g.bytes) ∧ (Lit.int .i64 g.to).wf = true := by
  unfold Value.okWide at hval
  rw [Try.underlying29] at hval
  obtain ⟨cs, rfl, hsz, ts, hts, _, hc⟩ := hval
  obtain ⟨fuel, hf⟩ := hd
  obtain ⟨g, u, h1, h2, h3⟩ := gr_of_trod grTy hf
  refine ⟨g, u, ?_, h2, h3⟩
  congr 1
  apply Array.ext'
  have h4 : cs.toList = [.int .i64 g.to, u, .bool g.harm] := h1
  simpa [Gr.c] using h4
end
end Go.Proofs.Ytdoigpifkdkjpaa
