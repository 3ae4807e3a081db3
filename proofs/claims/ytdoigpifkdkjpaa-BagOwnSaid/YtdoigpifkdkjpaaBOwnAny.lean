/- 'BagOwn' answers true, whatever comes in. -/
import Derived.Test.YtdoigpifkdkjpaaBOwnLaw
set_option linter.unusedVariables false
set_option maxRecDepth 100000
set_option linter.unusedSimpArgs false
namespace Go.Proofs.Ytdoigpifkdkjpaa
open Go.RowKit Go.Shelf Ms

set_option maxHeartbeats 8000000 in
theorem own_great (s : Value) (n : Int) (gs : List Gr) (g : Gr) (u : Value) (i j : Int) (w : World) (hs : SwG w s gs) (hu : Sw w u (bv g.bytes)) (hg : 40 < gs.length ∨ (gs.length ≤ 40 ∧ greatG gs = true) ∨ (gs.length ≤ 40 ∧ greatG gs = false ∧ 300 < g.bytes.length)) :
    Calls Try.prog 6 #[.agg (bagC s n), .agg (g.c u), .int .i64 i, .int .i64 j] w fun e w' => e = .returned (.bool true) ∧ Below w.heap.size w w' := by
  obtain ⟨A0, c0, rfl⟩ := hs.form
  obtain ⟨Au, cu, rfl⟩ := hu.form
  rw [bv_length] at hu ⊢
  obtain ⟨r1, r2, B0⟩ := two_boxes w (bagC (.slice A0 gs.length c0) n) (g.c (.slice Au g.bytes.length cu)) 24 29
  have H0 := (((Fs.nil _).snoc (.base w) B0).snoc (.row w.heap.size 24 (bagC (.slice A0 gs.length c0) n)) r1).snoc (.row (w.heap.size + 1) 29 (g.c (.slice Au g.bytes.length cu))) r2
  simp only [List.nil_append, List.cons_append] at H0
  have c4 := (H0.rowAt 1 rfl).cell
  have HS := Lib.hid hs
  have HU := Lib.hid hu
  clear r1 r2 B0 hs hu
  go_enter Try.func6, Try.ntmps6
  by_cases h4 : 40 < gs.length
  · have e1 : decide ((gs.length : Int) > 40) = true := decide_eq_true (by omega)
    have e2 : decide (40 < (gs.length : Int)) = true := decide_eq_true (by omega)
    clear hg
    go_wp2_with fail
    refine (wakes_any _).mono ?_; rintro e z3 ⟨rfl, h3⟩
    have G3 := Lib.hid ((H0.call h3).baseAt 0 rfl)
    clear H0 h3 c4
    go_wp2
    go_ret
    exact ⟨rfl, G3.out⟩
  · have e1 : decide ((gs.length : Int) > 40) = false := decide_eq_false (by omega)
    have e2 : decide (40 < (gs.length : Int)) = false := decide_eq_false (by omega)
    go_wp2_with (first
      | (with_reducible show wpList _ _ _ (Oper.mk _ (Op.load 24 (.tmp 4)) _ _ _ _ :: _) _ _
         refine wpList_loadW (H0.rowAt 1 rfl) aggB rfl _ rfl rfl ?_))
    refine (rGreat_any _ n gs _ (HS.out.below (H0.baseAt 0 rfl))).mono ?_; rintro e w1 ⟨rfl, hb1⟩
    replace H0 := H0.call hb1
    clear hb1 c4
    have c5 := (H0.rowAt 2 rfl).cell
    rcases hg with hg | ⟨_, hg⟩ | ⟨_, hg, hb⟩
    · exact absurd hg h4
    · rw [hg]
      go_wp2_with fail
      refine (wakes_any _).mono ?_; rintro e z3 ⟨rfl, h3⟩
      have G3 := Lib.hid ((H0.call h3).baseAt 0 rfl)
      clear H0 h3 c5
      go_wp2
      go_ret
      exact ⟨rfl, G3.out⟩
    · rw [hg]
      have e3 : decide ((g.bytes.length : Int) > 300) = true := decide_eq_true (by omega)
      have e4 : decide (300 < (g.bytes.length : Int)) = true := decide_eq_true (by omega)
      go_wp2_with fail
      refine (wakes_any _).mono ?_; rintro e z3 ⟨rfl, h3⟩
      have G3 := Lib.hid ((H0.call h3).baseAt 0 rfl)
      clear H0 h3 c5
      go_wp2
      go_ret
      exact ⟨rfl, G3.out⟩
/-- As the law's row wants it. -/
theorem BagOwn_walk (w : World) (s : Value) (n : Int) (gs : List Gr) (hs : SwG w s gs) (_ : ∀ g ∈ gs, (Lit.int .i64 g.to).wf = true) (_ : IntKind.i64.has n) (g : Gr) (u : Value) (hu : Sw w u (bv g.bytes)) (_ : (Lit.int .i64 g.to).wf = true) (i : Int) (_ : (Lit.int .i64 i).wf = true) (j : Int) (_ : (Lit.int .i64 j).wf = true) :
    Calls Try.prog 6 #[.agg (bagC s n), .agg (g.c u), .int .i64 i, .int .i64 j] w fun e w' => e = .returned (.bool true) ∧ Below w.heap.size w w' := by
  by_cases h4 : 40 < gs.length
  · exact own_great s n gs g u i j w hs hu (.inl h4)
  · cases hg : greatG gs with
    | true => exact own_great s n gs g u i j w hs hu (.inr (.inl ⟨by omega, hg⟩))
    | false =>
      by_cases hb : 300 < g.bytes.length
      · exact own_great s n gs g u i j w hs hu (.inr (.inr ⟨by omega, hg, hb⟩))
      · exact own_ok s n gs g u i j w hs hu (by omega) hg (by omega)
end Go.Proofs.Ytdoigpifkdkjpaa
