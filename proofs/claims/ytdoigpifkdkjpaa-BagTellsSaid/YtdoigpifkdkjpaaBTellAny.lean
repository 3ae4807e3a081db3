/- 'BagTells' answers true, whatever comes in. -/
import Derived.Test.YtdoigpifkdkjpaaBTellLaw
set_option linter.unusedVariables false
set_option maxRecDepth 100000
set_option linter.unusedSimpArgs false
namespace Go.Proofs.Ytdoigpifkdkjpaa
open Go.RowKit Go.Shelf Ms

set_option maxHeartbeats 8000000 in
theorem tells_great (s t : Value) (n k : Int) (gs os : List Gr) (v : Value) (ls : List Gr) (i j : Int) (z : UInt8) (to : Int) (w : World) (hs : SwG w s gs) (ht : SwG w t os) (hv : SwG w v ls) (hg : greatG gs = true ∨ (greatG gs = false ∧ greatG os = true) ∨ (greatG gs = false ∧ greatG os = false ∧ 20 < ls.length) ∨ (greatG gs = false ∧ greatG os = false ∧ ls.length ≤ 20 ∧ greatG ls = true)) :
    Calls Try.prog 3 #[.agg (bagC s n), .agg (bagC t k), v, .int .i64 i, .int .i64 j, .int .u8 (z.toNat : Int), .int .i64 to] w fun e w' => e = .returned (.bool true) ∧ Below w.heap.size w w' := by
  obtain ⟨A0, c0, rfl⟩ := hs.form
  obtain ⟨A1, c1, rfl⟩ := ht.form
  obtain ⟨Av, cv, rfl⟩ := hv.form
  obtain ⟨r1, r2, B0⟩ := two_boxes w (bagC (.slice A0 gs.length c0) n) (bagC (.slice A1 os.length c1) k) 24 24
  have H0 := (((Fs.nil _).snoc (.base w) B0).snoc (.row w.heap.size 24 (bagC (.slice A0 gs.length c0) n)) r1).snoc (.row (w.heap.size + 1) 24 (bagC (.slice A1 os.length c1) k)) r2
  simp only [List.nil_append, List.cons_append] at H0
  have HS := Lib.hid hs
  have HT := Lib.hid ht
  have HV := Lib.hid hv
  clear r1 r2 B0 hs ht hv
  go_enter Try.func3, Try.ntmps3
  go_wp2_with (first
    | (with_reducible show wpList _ _ _ (Oper.mk _ (Op.load 24 (.tmp 7)) _ _ _ _ :: _) _ _
       refine wpList_loadW (H0.rowAt 1 rfl) aggB rfl _ rfl rfl ?_)
    | (with_reducible show wpList _ _ _ (Oper.mk _ (Op.load 24 (.tmp 8)) _ _ _ _ :: _) _ _
       refine wpList_loadW (H0.rowAt 2 rfl) aggB rfl _ rfl rfl ?_))
  refine (rGreat_any _ n gs _ (HS.out.below (H0.baseAt 0 rfl))).mono ?_; rintro e w1 ⟨rfl, hb1⟩
  replace H0 := H0.call hb1
  clear hb1
  rcases hg with hg | hg
  · rw [hg]
    go_wp2_with fail
    refine (wakes_any _).mono ?_; rintro e z3 ⟨rfl, h3⟩
    have G3 := Lib.hid ((H0.call h3).baseAt 0 rfl)
    clear H0 h3
    go_wp2
    go_ret
    exact ⟨rfl, G3.out⟩
  rcases hg with ⟨hg, ho⟩ | hg
  · rw [hg]
    go_wp2_with (first
      | (with_reducible show wpList _ _ _ (Oper.mk _ (Op.load 24 (.tmp 7)) _ _ _ _ :: _) _ _
         refine wpList_loadW (H0.rowAt 1 rfl) aggB rfl _ rfl rfl ?_)
      | (with_reducible show wpList _ _ _ (Oper.mk _ (Op.load 24 (.tmp 8)) _ _ _ _ :: _) _ _
         refine wpList_loadW (H0.rowAt 2 rfl) aggB rfl _ rfl rfl ?_))
    refine (rGreat_any _ k os _ (HT.out.below (H0.baseAt 0 rfl))).mono ?_; rintro e w2 ⟨rfl, hb1⟩
    rw [ho]
    replace H0 := H0.call hb1
    clear hb1
    go_wp2_with fail
    refine (wakes_any _).mono ?_; rintro e z3 ⟨rfl, h3⟩
    have G3 := Lib.hid ((H0.call h3).baseAt 0 rfl)
    clear H0 h3
    go_wp2
    go_ret
    exact ⟨rfl, G3.out⟩
  have hgo : greatG gs = false ∧ greatG os = false := by rcases hg with ⟨h1, h2, _⟩ | ⟨h1, h2, _⟩ <;> exact ⟨h1, h2⟩
  rw [hgo.1]
  go_wp2_with (first
    | (with_reducible show wpList _ _ _ (Oper.mk _ (Op.load 24 (.tmp 7)) _ _ _ _ :: _) _ _
       refine wpList_loadW (H0.rowAt 1 rfl) aggB rfl _ rfl rfl ?_)
    | (with_reducible show wpList _ _ _ (Oper.mk _ (Op.load 24 (.tmp 8)) _ _ _ _ :: _) _ _
       refine wpList_loadW (H0.rowAt 2 rfl) aggB rfl _ rfl rfl ?_))
  refine (rGreat_any _ k os _ (HT.out.below (H0.baseAt 0 rfl))).mono ?_; rintro e w2 ⟨rfl, hb1⟩
  rw [hgo.2]
  replace H0 := H0.call hb1
  clear hb1
  rcases hg with ⟨-, -, h20⟩ | ⟨-, -, h20, hgl⟩
  · have e4 : decide ((ls.length : Int) > 20) = true := decide_eq_true (by omega)
    have e5 : decide (20 < (ls.length : Int)) = true := decide_eq_true (by omega)
    go_wp2_with fail
    refine (wakes_any _).mono ?_; rintro e z3 ⟨rfl, h3⟩
    have G3 := Lib.hid ((H0.call h3).baseAt 0 rfl)
    clear H0 h3
    go_wp2
    go_ret
    exact ⟨rfl, G3.out⟩
  · have e4 : decide ((ls.length : Int) > 20) = false := decide_eq_false (by omega)
    have e5 : decide (20 < (ls.length : Int)) = false := decide_eq_false (by omega)
    go_wp2_with fail
    refine (rGreat_any _ 0 ls _ (HV.out.below (H0.baseAt 0 rfl))).mono ?_; rintro e w3 ⟨rfl, hb1⟩
    rw [hgl]
    replace H0 := H0.call hb1
    clear hb1
    go_wp2_with fail
    refine (wakes_any _).mono ?_; rintro e z3 ⟨rfl, h3⟩
    have G3 := Lib.hid ((H0.call h3).baseAt 0 rfl)
    clear H0 h3
    go_wp2
    go_ret
    exact ⟨rfl, G3.out⟩
theorem byte_of {a : Int} (h : (Lit.int .u8 a).wf = true) : ∃ z : UInt8, a = (z.toNat : Int) := by
  have hb := bounds_u8 h
  refine ⟨UInt8.ofNat a.toNat, ?_⟩
  simp
  omega
theorem BagTells_any (s t : Value) (n k : Int) (gs os : List Gr) (v : Value) (ls : List Gr) (i j : Int) (z : UInt8) (to : Int) (w : World) (hs : SwG w s gs) (ht : SwG w t os) (hv : SwG w v ls) :
    Calls Try.prog 3 #[.agg (bagC s n), .agg (bagC t k), v, .int .i64 i, .int .i64 j, .int .u8 (z.toNat : Int), .int .i64 to] w fun e w' => e = .returned (.bool true) ∧ Below w.heap.size w w' := by
  cases hg : greatG gs with
  | true => exact tells_great s t n k gs os v ls i j z to w hs ht hv (.inl hg)
  | false =>
    cases ho : greatG os with
    | true => exact tells_great s t n k gs os v ls i j z to w hs ht hv (.inr (.inl ⟨hg, ho⟩))
    | false =>
      by_cases h20 : 20 < ls.length
      · exact tells_great s t n k gs os v ls i j z to w hs ht hv (.inr (.inr (.inl ⟨hg, ho, h20⟩)))
      · cases hl : greatG ls with
        | true => exact tells_great s t n k gs os v ls i j z to w hs ht hv (.inr (.inr (.inr ⟨hg, ho, by omega, hl⟩)))
        | false => exact tells_ok s t n k gs os v ls i j z to w hs ht hv hg ho (by omega) hl
/-- As the law's row wants it. -/
theorem BagTells_walk (w : World) (s : Value) (n : Int) (gs : List Gr) (hs : SwG w s gs) (_ : ∀ g ∈ gs, (Lit.int .i64 g.to).wf = true) (_ : IntKind.i64.has n) (t : Value) (k : Int) (os : List Gr) (ht : SwG w t os) (_ : ∀ g ∈ os, (Lit.int .i64 g.to).wf = true) (_ : IntKind.i64.has k)
    (v : Value) (ls : List Gr) (hv : SwG w v ls) (_ : ∀ g ∈ ls, (Lit.int .i64 g.to).wf = true) (i : Int) (_ : (Lit.int .i64 i).wf = true) (j : Int) (_ : (Lit.int .i64 j).wf = true) (a : Int) (h5 : (Lit.int .u8 a).wf = true) (to : Int) (_ : (Lit.int .i64 to).wf = true) :
    Calls Try.prog 3 #[.agg (bagC s n), .agg (bagC t k), v, .int .i64 i, .int .i64 j, .int .u8 a, .int .i64 to] w fun e w' => e = .returned (.bool true) ∧ Below w.heap.size w w' := by
  obtain ⟨z, rfl⟩ := byte_of h5
  exact BagTells_any s t n k gs os v ls i j z to w hs ht hv
end Go.Proofs.Ytdoigpifkdkjpaa
