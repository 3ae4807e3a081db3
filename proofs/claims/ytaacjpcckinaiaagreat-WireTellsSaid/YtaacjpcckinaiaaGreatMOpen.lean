/- A message, a pair, that came in, opened. -/
import Derived.Test.YtaacjpcckinaiaaGreatMsgA
import Derived.Test.YtaacjpcckinaiaaGreatRow
set_option linter.unusedVariables false
set_option maxRecDepth 100000
set_option linter.unusedSimpArgs false
namespace Go.Proofs.YtaacjpcckinaiaaGreat.Ms
open Go.ChangeShapes Go.WideShapes Go.ChangeAt Go.RowKit

theorem array15 {α : Type} {cs : Array α} (h : cs.size = 15) : ∃ c0 c1 c2 c3 c4 c5 c6 c7 c8 c9 c10 c11 c12 c13 c14, cs = #[c0, c1, c2, c3, c4, c5, c6, c7, c8, c9, c10, c11, c12, c13, c14] := by
  obtain ⟨l⟩ := cs
  match l, h with
  | [c0, c1, c2, c3, c4, c5, c6, c7, c8, c9, c10, c11, c12, c13, c14], _ => exact ⟨c0, c1, c2, c3, c4, c5, c6, c7, c8, c9, c10, c11, c12, c13, c14, rfl⟩
theorem array4' {α : Type} {cs : Array α} (h : cs.size = 4) : ∃ c0 c1 c2 c3, cs = #[c0, c1, c2, c3] := by
  obtain ⟨l⟩ := cs
  match l, h with
  | [c0, c1, c2, c3], _ => exact ⟨c0, c1, c2, c3, rfl⟩
section
variable {P : Program} {w : World} {r : Reach} {b : Nat} {t : TypeId} {v : Value}
theorem cell_i {k : IntKind} (ht : P.underlying t = some (.int k)) (h : Cell.okWide P w r b t v) : ∃ n, v = .int k n ∧ k.has n := by
  unfold Cell.okWide Cell.ok at h
  rw [ht] at h
  cases v <;> simp at h
  obtain ⟨rfl, h⟩ := h
  exact ⟨_, rfl, h⟩
theorem cell_b (ht : P.underlying t = some .bool) (h : Cell.okWide P w r b t v) : ∃ x, v = .bool x := by
  unfold Cell.okWide Cell.ok at h
  rw [ht] at h
  cases v <;> simp at h
  exact ⟨_, rfl⟩
theorem cell_s (ht : P.underlying t = some .string) (h : Cell.okWide P w r b t v) : ∃ x, v = .string x := by
  unfold Cell.okWide Cell.ok at h
  rw [ht] at h
  cases v <;> simp at h
  exact ⟨_, rfl⟩
end
theorem types27 : Tryz.prog.cellTypes Tryz.prog.depth 27 = some [5, 3, 3, 3, 3, 4, 4, 3, 3, 22, 9, 3, 3, 4, 25] := by kernel_rfl
theorem types24 : Tryz.prog.cellTypes Tryz.prog.depth 24 = some [9, 3, 3, 4] := by kernel_rfl
theorem size27 : Tryz.prog.cellsOf 27 = 15 := by kernel_rfl
theorem size24 : Tryz.prog.cellsOf 24 = 4 := by kernel_rfl

section
variable {H : Type} {enc : TypeId × Value → H}
theorem open_it {W : World} {b0 : Nat} {v : Value} (hval : Value.okWide Tryz.prog W .any b0 24 v) : ∃ x : It, v = .agg x.c := by
  unfold Value.okWide at hval
  rw [Tryz.underlying24] at hval
  obtain ⟨cs, rfl, hsz, ts, hts, _, hc⟩ := hval
  rw [types24] at hts
  obtain rfl := Option.some.inj hts
  obtain ⟨c0, c1, c2, c3, rfl⟩ := array4' (hsz.trans size24)
  obtain ⟨u0, hu0, h0⟩ := hc 0 c0 rfl
  obtain rfl : 9 = u0 := Option.some.inj hu0
  obtain ⟨a0, rfl⟩ := cell_s Tryz.underlying9 h0
  obtain ⟨u1, hu1, h1⟩ := hc 1 c1 rfl
  obtain rfl : 3 = u1 := Option.some.inj hu1
  obtain ⟨a1, rfl, _⟩ := cell_i Tryz.underlying3 h1
  obtain ⟨u2, hu2, h2⟩ := hc 2 c2 rfl
  obtain rfl : 3 = u2 := Option.some.inj hu2
  obtain ⟨a2, rfl, _⟩ := cell_i Tryz.underlying3 h2
  obtain ⟨u3, hu3, h3⟩ := hc 3 c3 rfl
  obtain rfl : 4 = u3 := Option.some.inj hu3
  obtain ⟨a3, rfl⟩ := cell_b Tryz.underlying4 h3
  exact ⟨⟨a0, a1, a2, a3⟩, rfl⟩
theorem open_msg {W : World} {b0 : Nat} {v : Value} {d : DataW H} {ps : List MemPlace} (hval : Value.okWide Tryz.prog W .any b0 27 v) (hd : DataW.Trod enc Tryz.prog W 0 (fun _ => true) true 27 v d ps) : ∃ (m : M) (sl : Value) (l : List Int), v = .agg (m.c sl) ∧ Sl W sl (iv l) ∧ 0 ≤ m.kind := by
  unfold Value.okWide at hval
  rw [Tryz.underlying27] at hval
  obtain ⟨cs, rfl, hsz, ts, hts, _, hc⟩ := hval
  rw [types27] at hts
  obtain rfl := Option.some.inj hts
  obtain ⟨c0, c1, c2, c3, c4, c5, c6, c7, c8, c9, c10, c11, c12, c13, c14, rfl⟩ := array15 (hsz.trans size27)
  obtain ⟨u0, hu0, h0⟩ := hc 0 c0 rfl
  obtain rfl : 5 = u0 := Option.some.inj hu0
  obtain ⟨a0, rfl, bk⟩ := cell_i Tryz.underlying5 h0
  obtain ⟨u1, hu1, h1⟩ := hc 1 c1 rfl
  obtain rfl : 3 = u1 := Option.some.inj hu1
  obtain ⟨a1, rfl, b1⟩ := cell_i Tryz.underlying3 h1
  obtain ⟨u2, hu2, h2⟩ := hc 2 c2 rfl
  obtain rfl : 3 = u2 := Option.some.inj hu2
  obtain ⟨a2, rfl, b2⟩ := cell_i Tryz.underlying3 h2
  obtain ⟨u3, hu3, h3⟩ := hc 3 c3 rfl
  obtain rfl : 3 = u3 := Option.some.inj hu3
  obtain ⟨a3, rfl, b3⟩ := cell_i Tryz.underlying3 h3
  obtain ⟨u4, hu4, h4⟩ := hc 4 c4 rfl
  obtain rfl : 3 = u4 := Option.some.inj hu4
  obtain ⟨a4, rfl, b4⟩ := cell_i Tryz.underlying3 h4
  obtain ⟨u5, hu5, h5⟩ := hc 5 c5 rfl
  obtain rfl : 4 = u5 := Option.some.inj hu5
  obtain ⟨a5, rfl⟩ := cell_b Tryz.underlying4 h5
  obtain ⟨u6, hu6, h6⟩ := hc 6 c6 rfl
  obtain rfl : 4 = u6 := Option.some.inj hu6
  obtain ⟨a6, rfl⟩ := cell_b Tryz.underlying4 h6
  obtain ⟨u7, hu7, h7⟩ := hc 7 c7 rfl
  obtain rfl : 3 = u7 := Option.some.inj hu7
  obtain ⟨a7, rfl, b7⟩ := cell_i Tryz.underlying3 h7
  obtain ⟨u8, hu8, h8⟩ := hc 8 c8 rfl
  obtain rfl : 3 = u8 := Option.some.inj hu8
  obtain ⟨a8, rfl, b8⟩ := cell_i Tryz.underlying3 h8
  obtain ⟨u9, hu9, h9⟩ := hc 9 c9 rfl
  obtain rfl : 22 = u9 := Option.some.inj hu9
  obtain ⟨u10, hu10, h10⟩ := hc 10 c10 rfl
  obtain rfl : 9 = u10 := Option.some.inj hu10
  obtain ⟨a10, rfl⟩ := cell_s Tryz.underlying9 h10
  obtain ⟨u11, hu11, h11⟩ := hc 11 c11 rfl
  obtain rfl : 3 = u11 := Option.some.inj hu11
  obtain ⟨a11, rfl, b11⟩ := cell_i Tryz.underlying3 h11
  obtain ⟨u12, hu12, h12⟩ := hc 12 c12 rfl
  obtain rfl : 3 = u12 := Option.some.inj hu12
  obtain ⟨a12, rfl, b12⟩ := cell_i Tryz.underlying3 h12
  obtain ⟨u13, hu13, h13⟩ := hc 13 c13 rfl
  obtain rfl : 4 = u13 := Option.some.inj hu13
  obtain ⟨a13, rfl⟩ := cell_b Tryz.underlying4 h13
  obtain ⟨u14, hu14, h14⟩ := hc 14 c14 rfl
  obtain rfl : 25 = u14 := Option.some.inj hu14
  obtain ⟨a14, rfl, b14⟩ := cell_i Tryz.underlying25 h14
  obtain ⟨fuel, hf⟩ := hd
  obtain ⟨xs, n, _, _, _, hlen, hx⟩ := DataW.trod_struct Tryz.underlying27 hf
  have h9' := hx 9 _ rfl
  have hv9 : Value.okWide Tryz.prog W .any b0 22 c9 := by
    unfold Value.okWide
    rw [Tryz.underlying22]
    exact h9
  obtain ⟨y, hy⟩ : ∃ y, xs[9]? = some y := ⟨xs[9]'(by rw [hlen]; decide), List.getElem?_eq_getElem _⟩
  rw [hy] at h9'
  obtain ⟨A, len, cap, rfl⟩ := okWide_slice Tryz.underlying22 hv9
  obtain ⟨l, hs, _⟩ := open_sl_ints (enc := enc) (d := y.1) (ps := y.2) Tryz.underlying22 Tryz.underlying3 (by kernel_rfl) hv9 ⟨n, h9'⟩
  refine ⟨⟨a0, a1, a2, a3, a4, a5, a6, a7, a8, ⟨a10, a11, a12, a13⟩, a14⟩, _, l, rfl, hs, ?_⟩
  simp only [IntKind.has] at bk
  have := bk.1
  exact this
end
end Go.Proofs.YtaacjpcckinaiaaGreat.Ms
