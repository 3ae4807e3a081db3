/- 'ArcTells': it answers as the document's own text does: for any numbers, a list of at most 60, the table of starts laid. -/
import Derived.Test.YtnbabohhmcbhcaaDoorRefs
import Derived.Test.YtnbabohhmcbhcaaDoorWakes
set_option linter.unusedVariables false
set_option linter.unusedSimpArgs false
namespace Go.Proofs.YtnbabohhmcbhcaaDoor
open Go.RowKit Go.Shelf

set_option maxRecDepth 100000 in
set_option maxHeartbeats 8000000 in
theorem tells_long (W : World) (hT : Tab W) (a x b i : Int) (A : Option Addr) (n c : Nat) (h : 60 < n) :
    Calls Tryd.prog 3 #[.int .i64 a, .int .i64 x, .int .i64 b, .int .i64 i, .slice A n c] W fun e w' => e = .returned (.bool true) ∧ Below W.heap.size W w' := by
  have WK := Lib.hid (wakes_any W hT)
  clear hT
  go_enter Tryd.func3, Tryd.ntmps3
  go_wp2_with fail
  refine WK.out.mono ?_; rintro e w' ⟨rfl, hb⟩
  go_wp2
  go_ret
  exact ⟨rfl, hb⟩
set_option maxRecDepth 100000 in
set_option maxHeartbeats 8000000 in
theorem tells_main (W : World) (hT : Tab W) (a x b i : Int) (ha : Num a) (hx : Num x) (hb : Num b) (hi : Num i) (A : Option Addr) (n c : Nat) (l : List Int) (hI : Sl W (.slice A n c) (iv l)) (hz : ∀ z ∈ l, Num z) (h : n ≤ 60) :
    Calls Tryd.prog 3 #[.int .i64 a, .int .i64 x, .int .i64 b, .int .i64 i, .slice A n c] W fun e w' => e = .returned (.bool true) ∧ Below W.heap.size W w' := by
  have o1 := fun w h => owner_any A n c l x w h hz hx
  have o2 := fun w h => owner_ref A n c l x w h hz hx
  have p1 := fun w => place_any a w ha
  have p2 := fun w => place_ref a w ha
  have f1 := fun w => far_any a b w ha hb
  have f2 := fun w => far_ref a b w ha hb
  have i1 := fun w => in_any a x b w ha hx hb
  have i2 := fun w => in_ref a x b w ha hx hb
  have u1 := fun w => upTo_any a x b w ha hx hb
  have u2 := fun w => upTo_ref a x b w ha hx hb
  have s1 := fun w h => start_any a i w ha hi h
  have s2 := fun w => start_ref a i w ha hi
  have r1 := fun w h => rises_any A n c l a w h hz ha
  have r2 := fun w h => rises_ref A n c l a w h hz ha
  have HI := Lib.hid hI
  have HT := Lib.hid hT
  have hT0 := hT.size
  have WK := Lib.hid wakes_any
  have O1 := Lib.hid o1
  have O2 := Lib.hid o2
  have S1 := Lib.hid s1
  have R1 := Lib.hid r1
  have R2 := Lib.hid r2
  clear hI hz hT o1 o2 s1 r1 r2 ha hx hb hi
  generalize own x l = ow at *
  generalize decide (l ≠ []) = ok at *
  generalize pl a = p at *
  generalize far a b = f at *
  generalize inB a x b = iB at *
  generalize upB a x b = uB at *
  generalize stI a i = st at *
  generalize ris a l = rs at *
  go_enter Tryd.func3, Tryd.ntmps3
  go_wp2_with fail
  refine (O1.out _ HI.out).mono ?_; rintro e w1 ⟨rfl, hB⟩
  go_wp2_with fail
  refine (O2.out _ (HI.out.below hB)).mono ?_; rintro e w' ⟨rfl, rfl⟩
  go_wp2_with fail
  refine (p1 _).mono ?_; rintro e w' ⟨rfl, rfl⟩
  go_wp2_with fail
  refine (p2 _).mono ?_; rintro e w' ⟨rfl, rfl⟩
  go_wp2_with fail
  refine (f1 _).mono ?_; rintro e w' ⟨rfl, rfl⟩
  go_wp2_with fail
  refine (f2 _).mono ?_; rintro e w' ⟨rfl, rfl⟩
  go_wp2_with fail
  refine (i1 _).mono ?_; rintro e w' ⟨rfl, rfl⟩
  go_wp2_with fail
  refine (i2 _).mono ?_; rintro e w' ⟨rfl, rfl⟩
  go_wp2_with fail
  refine (u1 _).mono ?_; rintro e w' ⟨rfl, rfl⟩
  go_wp2_with fail
  refine (u2 _).mono ?_; rintro e w' ⟨rfl, rfl⟩
  go_wp2_with fail
  refine (S1.out _ (HT.out.below hT0 hB)).mono ?_; rintro e w3 ⟨rfl, hm⟩
  replace hB := hB.trans ((below_drewN hm).mono hB.size)
  clear hm
  go_wp2_with fail
  refine (s2 _).mono ?_; rintro e w' ⟨rfl, rfl⟩
  go_wp2_with fail
  refine (R1.out _ (HI.out.below hB)).mono ?_; rintro e w4 ⟨rfl, hb⟩
  replace hB := hB.trans (hb.mono hB.size)
  clear hb
  go_wp2_with fail
  refine (R2.out _ (HI.out.below hB)).mono ?_; rintro e w' ⟨rfl, rfl⟩
  go_wp2_with fail
  refine (WK.out _ (HT.out.below hT0 hB)).mono ?_; rintro e w5 ⟨rfl, hb⟩
  replace hB := hB.trans (hb.mono hB.size)
  go_wp2
  go_ret
  exact ⟨rfl, hB⟩
theorem tells_walk (W : World) (hT : Tab W) (a : Int) (w0 : (Lit.int .i64 a).wf = true) (x : Int) (w1 : (Lit.int .i64 x).wf = true) (b : Int) (w2 : (Lit.int .i64 b).wf = true) (i : Int) (w3 : (Lit.int .i64 i).wf = true) (v : Value) (l : List Int) (hs : Sl W v (iv l)) (w4 : ∀ n ∈ l, (Lit.int .i64 n).wf = true) :
    Calls Tryd.prog 3 #[.int .i64 a, .int .i64 x, .int .i64 b, .int .i64 i, v] W fun e w' => e = .returned (.bool true) ∧ Below W.heap.size W w' := by
  obtain ⟨A, n, c, rfl⟩ := hs.slice
  rcases Nat.lt_or_ge 60 n with h | h
  · exact tells_long W hT a x b i A n c h
  · exact tells_main W hT a x b i (bounds_i64 w0) (bounds_i64 w1) (bounds_i64 w2) (bounds_i64 w3) A n c l hs (fun z hz => bounds_i64 (w4 z hz)) h
end Go.Proofs.YtnbabohhmcbhcaaDoor
