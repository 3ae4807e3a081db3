/- Deeds, a slice of them, that came in. -/
import Derived.Test.YtdoigpifkdkjpaaSwR
import Derived.Test.YtdoigpifkdkjpaaBOpen
import Derived.Test.YtdoigpifkdkjpaaBRef
set_option linter.unusedVariables false
set_option maxRecDepth 100000
set_option linter.unusedSimpArgs false
namespace Go.Proofs.Ytdoigpifkdkjpaa
open Go.RowKit Go.Shelf Go.ChangeShapes Go.WideShapes Go.ChangeAt Ms

structure Dd where
  what : Int
  pos : Int
  i : Int
  z : UInt8
  g : Gr
def Dd.c (d : Dd) (u : Value) : Array Value := #[.int .i64 d.what, .int .i64 d.pos, .int .i64 d.i, .int .u8 (d.z.toNat : Int), .int .i64 d.g.to, u, .bool d.g.harm]
@[go_sem] theorem Dd.cn (d : Dd) (u : Value) : (d.c u).size = 7 := rfl
@[go_sem] theorem Dd.c0 (d : Dd) (u : Value) : (d.c u)[0]? = some (.int .i64 d.what) := rfl
@[go_sem] theorem Dd.c1 (d : Dd) (u : Value) : (d.c u)[1]? = some (.int .i64 d.pos) := rfl
@[go_sem] theorem Dd.c2 (d : Dd) (u : Value) : (d.c u)[2]? = some (.int .i64 d.i) := rfl
@[go_sem] theorem Dd.c3 (d : Dd) (u : Value) : (d.c u)[3]? = some (.int .u8 (d.z.toNat : Int)) := rfl
@[go_sem] theorem Dd.c4 (d : Dd) (u : Value) : (d.c u)[4]? = some (.int .i64 d.g.to) := rfl
@[go_sem] theorem Dd.c5 (d : Dd) (u : Value) : (d.c u)[5]? = some u := rfl
@[go_sem] theorem Dd.c6 (d : Dd) (u : Value) : (d.c u)[6]? = some (.bool d.g.harm) := rfl
def elD : El Dd where
  n := 7
  rel := fun w cs d => ∃ u, cs = (d.c u).toList ∧ Sw w u (bv d.g.bytes)
  below := fun hb ⟨u, h1, h2⟩ => ⟨u, h1, h2.below hb⟩
  len := fun ⟨u, h1, _⟩ => by rw [h1]; rfl
theorem aggD : Agg Try.prog 45 7 := ⟨⟨_, Try.underlying45, rfl⟩, by kernel_rfl⟩
theorem run_loadD {w : World} {b o : Nat} {d : Dd} {u : Value} (h : ∀ (i : Nat) (x : Value), (d.c u).toList[i]? = some x → w.cell? ⟨b, o + i, none⟩ = some x) :
    (Instr.loadAt 45 (.pointer (some ⟨b, o, none⟩))).run Try.prog w = .ok (.agg (d.c u)) w := by
  obtain ⟨e, hu, hd⟩ := aggD.hu
  have := run_loadAt_mid w b o 45 (d.c u).toList e (fun j v hv => h j v hv) hu hd (by rw [aggD.hi]; rfl)
  simpa using this
theorem byte_of {a : Int} (h : (Lit.int .u8 a).wf = true) : ∃ z : UInt8, a = (z.toNat : Int) := by
  have hb := bounds_u8 h
  refine ⟨UInt8.ofNat a.toNat, ?_⟩
  simp
  omega
section
variable {H : Type} {enc : TypeId × Value → H} {W : World}
theorem deed_of_trod {fuel : Nat} {cs : List Value} {x : DataW H × List MemPlace} (h : DataW.trod enc Try.prog W 0 (fun _ => true) true fuel 45 cs = some x) :
    ∃ d : Dd, elD.rel W cs d ∧ ((Lit.int .i64 d.what).wf = true ∧ (Lit.int .i64 d.pos).wf = true ∧ (Lit.int .i64 d.i).wf = true) := by
  obtain ⟨xs, n, _, _, hl, hlen, hx⟩ := DataW.trod_struct Try.underlying45 h
  rw [show Try.prog.cellsOf 45 = 7 by kernel_rfl] at hl
  have get : ∀ k, k < 5 → ∃ y, xs[k]? = some y := fun k hk => ⟨xs[k]'(by rw [hlen]; exact hk), List.getElem?_eq_getElem _⟩
  match cs, hl with
  | [v0, v1, v2, v3, v4, v5, v6], _ =>
    obtain ⟨y0, e0⟩ := get 0 (by decide)
    obtain ⟨y1, e1⟩ := get 1 (by decide)
    obtain ⟨y2, e2⟩ := get 2 (by decide)
    obtain ⟨y3, e3⟩ := get 3 (by decide)
    obtain ⟨y4, e4⟩ := get 4 (by decide)
    have h0 : DataW.trod enc Try.prog W 0 (fun _ => true) true n 3 (([v0, v1, v2, v3, v4, v5, v6].drop 0).take (Try.prog.cellsOf 3)) = some y0 := (hx 0 _ rfl).trans e0
    have h1 : DataW.trod enc Try.prog W 0 (fun _ => true) true n 3 (([v0, v1, v2, v3, v4, v5, v6].drop 1).take (Try.prog.cellsOf 3)) = some y1 := (hx 1 _ rfl).trans e1
    have h2 : DataW.trod enc Try.prog W 0 (fun _ => true) true n 3 (([v0, v1, v2, v3, v4, v5, v6].drop 2).take (Try.prog.cellsOf 3)) = some y2 := (hx 2 _ rfl).trans e2
    have h3 : DataW.trod enc Try.prog W 0 (fun _ => true) true n 5 (([v0, v1, v2, v3, v4, v5, v6].drop 3).take (Try.prog.cellsOf 5)) = some y3 := (hx 3 _ rfl).trans e3
    have h4 : DataW.trod enc Try.prog W 0 (fun _ => true) true n 29 (([v0, v1, v2, v3, v4, v5, v6].drop 4).take (Try.prog.cellsOf 29)) = some y4 := (hx 4 _ rfl).trans e4
    rw [show Try.prog.cellsOf 3 = 1 by kernel_rfl] at h0 h1 h2
    rw [show Try.prog.cellsOf 5 = 1 by kernel_rfl] at h3
    rw [show Try.prog.cellsOf 29 = 3 by kernel_rfl] at h4
    simp only [List.drop_zero, List.drop_succ_cons, List.take_succ_cons, List.take_zero] at h0 h1 h2 h3 h4
    obtain ⟨m0, q0, _, w0⟩ := DataW.trod_int Try.underlying3 h0
    obtain ⟨m1, q1, _, w1⟩ := DataW.trod_int Try.underlying3 h1
    obtain ⟨m2, q2, _, w2⟩ := DataW.trod_int Try.underlying3 h2
    obtain ⟨m3, q3, _, w3⟩ := DataW.trod_int Try.underlying5 h3
    obtain ⟨g, u, q4, hs, hw⟩ := gr_of_trod grTy h4
    injection q0 with q0
    injection q1 with q1
    injection q2 with q2
    injection q3 with q3
    injection q4 with q4 q5
    injection q5 with q5 q6
    injection q6 with q6
    obtain ⟨z, rfl⟩ := byte_of w3
    subst q0 q1 q2 q3 q4 q5 q6
    exact ⟨⟨m0, m1, m2, z, g⟩, ⟨v5, rfl, hs⟩, w0, w1, w2⟩
theorem open_deeds {v : Value} {d : DataW H} {ps : List MemPlace} {b0 : Nat} (hval : Value.okWide Try.prog W .any b0 43 v) (hd : DataW.Trod enc Try.prog W 0 (fun _ => true) true 43 v d ps) :
    ∃ ds : List Dd, SwR elD W v ds ∧ ∀ d ∈ ds, (Lit.int .i64 d.what).wf = true ∧ (Lit.int .i64 d.pos).wf = true ∧ (Lit.int .i64 d.i).wf = true := by
  obtain ⟨A, len, cap, rfl⟩ := okWide_slice Try.underlying43 hval
  obtain ⟨fuel, hf⟩ := hd
  exact swR_of_trod (E := elD) (v := .slice A len cap) _ Try.underlying43 (by kernel_rfl) (by decide) (fun _ _ _ h => deed_of_trod h) hf
end
end Go.Proofs.Ytdoigpifkdkjpaa
