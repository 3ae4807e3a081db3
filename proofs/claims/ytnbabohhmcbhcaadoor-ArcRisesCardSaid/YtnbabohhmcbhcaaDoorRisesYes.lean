/- 'ArcRises', where they rise: parts of them rise, each is between the one ahead and those behind, and turned about they don't. -/
import Derived.Deep.RegionHeld3
import Derived.Test.YtnbabohhmcbhcaaDoorRisesNo
set_option linter.unusedVariables false
set_option linter.unusedSimpArgs false
namespace Go.Proofs.YtnbabohhmcbhcaaDoor
open Go.RowKit Go.Shelf

theorem el22 : ElOf Tryd.prog 22 3 (.int .i64 0) 8 := ⟨Tryd.underlying22, by kernel_rfl, rfl, by decide⟩
theorem iv_take (l : List Int) (k : Nat) : (iv l).take k = iv (l.take k) := by simp [iv, List.map_take]
theorem iv_drop (l : List Int) (k : Nat) : (iv l).drop k = iv (l.drop k) := by simp [iv, List.map_drop]

/-- A region that draws its order, whose operations yield the same in every world of a class, and leave one of it: walked once. -/
theorem wp_region_class {P : Program} {id : Nat} {Q : Exit → Act → World → Prop} {a : Act} {w : World} {l : List Oper} (C : World → Prop) (hm : P.follows .mixedOrders = true) (hB : Region.lexB .any l.toArray = true) (hC : C w.drew)
    (h : wpQuiet P l.toArray C (fun a' => ∀ w', C w' → Q .normal a' w') l a) : (Code.region id l.toArray true).wp P Q a w :=
  wp_region_quiet hm hB hC (by simpa using h)
/-- What is cut off a slice: from one of its places on; up to one. -/
theorem Sl.from_ {w : World} {b off n c : Nat} {xs : List Value} (h : Sl w (.slice (some ⟨b, off, none⟩) n c) xs) {k : Nat} (hk : k < n) : Sl w (.slice (some ⟨b, off + k, none⟩) (n - k) (c - k)) (xs.drop k) := by
  obtain ⟨h1, h2, h3, h4, h5⟩ := h.parts
  have hl : (xs.drop k).length = n - k := by rw [List.length_drop, h1]
  refine .inr ⟨b, off + k, c - k, by rw [hl], by omega, by omega, h4, fun j u hu => ?_⟩
  rw [Nat.add_assoc]
  exact h5 (k + j) u (by rwa [List.getElem?_drop] at hu)
theorem Sl.upto {w : World} {b off n c : Nat} {xs : List Value} (h : Sl w (.slice (some ⟨b, off, none⟩) n c) xs) {k : Nat} (hk : k ≤ n) : Sl w (.slice (some ⟨b, off, none⟩) k c) (xs.take k) := by
  obtain ⟨h1, h2, h3, h4, h5⟩ := h.parts
  have hl : (xs.take k).length = k := by rw [List.length_take, h1]; omega
  refine .inr ⟨b, off, c, by rw [hl], by omega, h3, h4, fun j u hu => ?_⟩
  have hj : j < k := by
    rcases Nat.lt_or_ge j k with hh | hh
    · exact hh
    · rw [List.getElem?_eq_none (by omega)] at hu; cases hu
  rw [List.getElem?_take, if_pos hj] at hu
  exact h5 j u hu

set_option maxRecDepth 100000 in
set_option maxHeartbeats 8000000 in
theorem rises_yes (W : World) (hT : Tab W) (b off c : Nat) (l : List Int) (a : Int) (hI : Sl W (.slice (some ⟨b, off, none⟩) l.length c) (iv l)) (hz : ∀ z ∈ l, Num z) (ha : Num a) (h2 : l.length ≤ 60) (hr : ris a l = true) :
    Calls Tryd.prog 7 #[.int .i64 a, .slice (some ⟨b, off, none⟩) l.length c] W fun e w' => e = .returned (.bool true) ∧ Below W.heap.size W w' := by
  obtain ⟨_, hlc, hcm, hbs, hcells⟩ := hI.parts
  have hc : ∀ k (h : k < l.length), W.cell? ⟨b, off + k, none⟩ = some (.int .i64 l[k]) := fun k h => hcells k _ (iv_get l k h)
  have o1 := fun w h => rises_any (some ⟨b, off, none⟩) l.length c l a w h hz ha
  rw [hr] at o1
  have HI := Lib.hid hI
  have HZ := Lib.hid hz
  have HC := Lib.hid hc
  have HT := Lib.hid hT
  have hT0 := hT.size
  have WK := Lib.hid wakes_any
  have O1 := Lib.hid o1
  have HR := Lib.hid hr
  have HA := Lib.hid ha
  clear hI hz hc hT o1 ha hcells hr
  unfold maxLen at hcm
  go_enter Tryd.func7, Tryd.ntmps7
  go_wp2_with fail
  refine (O1.out _ HI.out).mono ?_; rintro e w1 ⟨rfl, hB⟩
  go_wp2_with fail
  go_loopw [7] (fun i w => ∃ k : Nat, k ≤ l.length ∧ i = .int .i64 k ∧ Below W.heap.size W w) (fun i _ => l.length - (intOf i).toNat)
  case atStart => exact ⟨0, by omega, rfl, hB⟩
  case round =>
    clear hB
    obtain ⟨k, hk, rfl, hB⟩ := hrel
    by_cases hlt : k < l.length
    · have s1 := Sl.from_ HI.out hlt
      have s2 := Sl.upto HI.out (k := k) (by omega)
      rw [iv_drop] at s1
      rw [iv_take] at s2
      have c1 : ∀ w, Below W.heap.size W w → Calls Tryd.prog 22 #[.int .i64 a, .slice (some ⟨b, off + k, none⟩) (l.length - k) (c - k)] w fun e w' => e = .returned (.bool true) ∧ Below W.heap.size W w' := fun w hB => by
        refine (rises_any _ _ _ (l.drop k) a w (s1.below hB) (fun z hz => HZ.out z (List.mem_of_mem_drop hz)) HA.out).mono ?_
        rw [ris_drop a l k HR.out]
        rintro e w' ⟨rfl, hb⟩
        exact ⟨rfl, hB.trans (hb.mono hB.size)⟩
      have c2 : ∀ w, Below W.heap.size W w → Calls Tryd.prog 22 #[.int .i64 a, .slice (some ⟨b, off, none⟩) k c] w fun e w' => e = .returned (.bool true) ∧ Below W.heap.size W w' := fun w hB => by
        refine (rises_any _ _ _ (l.take k) a w (s2.below hB) (fun z hz => HZ.out z (List.mem_of_mem_take hz)) HA.out).mono ?_
        rw [ris_take a l k HR.out]
        rintro e w' ⟨rfl, hb⟩
        exact ⟨rfl, hB.trans (hb.mono hB.size)⟩
      clear s1 s2
      rcases Nat.eq_zero_or_pos k with h0 | h0
      · subst h0
        rw [show ((0 : Nat) : Int) = 0 from rfl]
        have C1 := Lib.hid c1
        have C2 := Lib.hid c2
        clear c1 c2
        go_wp2_with fail
        refine wp_region_class (fun w' => Below W.heap.size W w') (by kernel_rfl) (by kernel_rfl) hB.drew ?_
        repeat (first | go_big_quiet_skip | (go_big_quiet_want; go_big_quiet_op; first | go_big_quiet_on | (apply Exists.intro; refine ⟨fun _ _ => rfl, ?_⟩; go_big_quiet_on) | go_big_quiet_call ((intro hC; first | (go_at_call_of 22 (Value.slice (some ⟨b, off, none⟩) l.length c); exact C1.out _ hC) | (go_at_call_of 22 (Value.slice (some ⟨b, off, none⟩) 0 c); exact C2.out _ hC)))))
        refine wpQuiet_nil ?_
        intro w3 hB3
        go_wp2
        go_roundw
        case rel => exact ⟨0 + 1, by omega, by go_num, hB3⟩
        case measure => simp [intOf]; omega
      · obtain ⟨j, rfl⟩ : ∃ j, k = j + 1 := ⟨k - 1, by omega⟩
        have hj : j < l.length := by omega
        obtain ⟨m1, m2⟩ := in_rises a l j hlt HR.out
        have hcy0 := HC.out j hj
        have hcz0 := HC.out (j + 1) hlt
        have hcy := (hB.cell (p := ⟨b, off + j, none⟩) hbs).trans hcy0
        have hcz := (hB.cell (p := ⟨b, off + (j + 1), none⟩) hbs).trans hcz0
        have hny := HZ.out _ (List.getElem_mem hj)
        have hnz := HZ.out _ (List.getElem_mem hlt)
        generalize l[j + 1] = z at *
        generalize l[j] = y at *
        have i1 := fun w => in_any a y z w HA.out hny hnz
        rw [m1] at i1
        have i3 : (0 : Int) ≤ j := by omega
        have i4 : (j : Int) < l.length := by omega
        have i5 : (0 : Int) ≤ ((j + 1 : Nat) : Int) := by omega
        have i6 : ((j + 1 : Nat) : Int) < l.length := by omega
        have hgt : decide ((0 : Int) < ((j + 1 : Nat) : Int)) = true := decide_eq_true (by omega)
        have hw : IntKind.i64.wrap (((j + 1 : Nat) : Int) - 1) = (j : Int) := by rw [show (((j + 1 : Nat) : Int) - 1) = j by omega]; exact IntWalk.i64_in _ ⟨by omega, by omega⟩
        have hcne : ¬ c = j + 1 := by omega
        have hgt2 : decide ((0 : Int) < (j : Int) + 1) = true := decide_eq_true (by omega)
        have hw2 : IntKind.i64.wrap ((j : Int) + 1 - 1) = (j : Int) := by rw [show ((j : Int) + 1 - 1) = j by omega]; exact IntWalk.i64_in _ ⟨by omega, by omega⟩
        have hw3 : IntKind.i64.wrap (j : Int) = (j : Int) := IntWalk.i64_in _ ⟨by omega, by omega⟩
        have i7 : (0 : Int) ≤ (j : Int) + 1 := by omega
        have i8 : (j : Int) + 1 < l.length := by omega
        have i10 : (j : Int) + 1 ≤ l.length := by omega
        have i11 : (j : Int) + 1 ≤ c := by omega
        have i9 : ((j : Int) + 1).toNat = j + 1 := by omega
        have hS : ∀ w, Below W.heap.size W w → Below W.heap.size W w ∧ w.cell? ⟨b, off + j, none⟩ = some (.int .i64 y) ∧ w.cell? ⟨b, off + (j + 1), none⟩ = some (.int .i64 z) := fun w h =>
          ⟨h, (h.cell (p := ⟨b, off + j, none⟩) hbs).trans hcy0, (h.cell (p := ⟨b, off + (j + 1), none⟩) hbs).trans hcz0⟩
        have c3 : ∀ w, Below W.heap.size W w → Calls Tryd.prog 22 #[.int .i64 a, .slice (some ⟨w.heap.size, 0, none⟩) 2 2] (w.alloc (.cells #[.int .i64 z, .int .i64 y] 3)) fun e w' => e = .returned (.bool false) ∧ Below W.heap.size W w' := fun w hB => by
          refine (rises_any _ _ _ [z, y] a _ (Sl.lit w (iv [z, y]) 3 2 rfl (by decide)) (by intro u hu; simp at hu; rcases hu with rfl | rfl; exact hnz; exact hny) HA.out).mono ?_
          rw [m2]
          rintro e w' ⟨rfl, hb⟩
          exact ⟨rfl, (hB.alloc hB.size _).trans (hb.mono (Nat.le_trans hB.size (by simp)))⟩
        have C1 := Lib.hid c1
        have C2 := Lib.hid c2
        have C3 := Lib.hid c3
        have HS := Lib.hid hS
        clear c1 c2 c3 hS hcy0 hcz0 m1 m2
        go_wp2_with fail
        go_region_held3 (fun w' => Below W.heap.size W w' ∧ w'.cell? ⟨b, off + j, none⟩ = some (.int .i64 y) ∧ w'.cell? ⟨b, off + (j + 1), none⟩ = some (.int .i64 z))
          (first
            | exact ⟨hB.drew, hcy, hcz⟩
            | assumption
            | exact HS.out _ (by assumption)
            | exact HS.out _ (Below.alloc (And.left (by assumption)) (Below.size (And.left (by assumption))) _))
          (first
            | (go_at_call_of 22 l; refine (C1.out _ (And.left (by assumption))).mono ?_; rintro e w' ⟨rfl, hb⟩)
            | (go_at_call_of 22 off; refine (C2.out _ (And.left (by assumption))).mono ?_; rintro e w' ⟨rfl, hb⟩)
            | (go_at_call 16; refine (i1 _).mono ?_; rintro e w' ⟨rfl, rfl⟩)
            | (go_at_call 22; refine (C3.out _ (by assumption)).mono ?_; rintro e w' ⟨rfl, hb⟩))
        go_wp2
        go_roundw
        case rel => exact ⟨j + 1 + 1, by omega, by go_num, by assumption⟩
        case measure => simp [intOf]; omega
    · obtain rfl : k = l.length := by omega
      go_wp2_with fail
      refine (WK.out _ (HT.out.below hT0 hB)).mono ?_; rintro e w4 ⟨rfl, hb⟩
      replace hB := hB.trans (hb.mono hB.size)
      go_wp2
      go_ret
      exact ⟨rfl, hB⟩
/-- A list of nothing, whatever its slice. -/
theorem rises_empty (W : World) (hT : Tab W) (A : Option Addr) (c : Nat) (a : Int) (ha : Num a) (hs : Sl W (.slice A 0 c) (iv [])) :
    Calls Tryd.prog 7 #[.int .i64 a, .slice A 0 c] W fun e w' => e = .returned (.bool true) ∧ Below W.heap.size W w' := by
  have o1 := rises_any A 0 c [] a W hs (by simp) ha
  rw [show ris a [] = true from rfl] at o1
  have HT := Lib.hid hT
  have hT0 := hT.size
  have WK := Lib.hid wakes_any
  have O1 := Lib.hid o1
  clear hT o1 hs ha
  go_enter Tryd.func7, Tryd.ntmps7
  go_wp2_with fail
  refine O1.out.mono ?_; rintro e w1 ⟨rfl, hB⟩
  go_wp2_with fail
  go_loop [7] (fun i => i = .int .i64 0) (fun _ => 0)
  case atStart => rfl
  case round =>
    subst hrel
    go_wp2_with fail
    refine (WK.out _ (HT.out.below hT0 hB)).mono ?_; rintro e w4 ⟨rfl, hb⟩
    replace hB := hB.trans (hb.mono hB.size)
    go_wp2
    go_ret
    exact ⟨rfl, hB⟩
theorem rises_walk (W : World) (hT : Tab W) (a : Int) (w0 : (Lit.int .i64 a).wf = true) (v : Value) (l : List Int) (hs : Sl W v (iv l)) (w1 : ∀ n ∈ l, (Lit.int .i64 n).wf = true) :
    Calls Tryd.prog 7 #[.int .i64 a, v] W fun e w' => e = .returned (.bool true) ∧ Below W.heap.size W w' := by
  obtain ⟨A, n, c, rfl⟩ := hs.slice
  rcases Nat.lt_or_ge 60 n with h | h
  · exact rises_long W hT A n c a h
  · have hl := hs.len
    rw [iv_length] at hl
    subst hl
    rcases Nat.eq_zero_or_pos l.length with h0 | h0
    · obtain rfl := List.eq_nil_of_length_eq_zero h0
      exact rises_empty W hT A c a (bounds_i64 w0) hs
    · obtain ⟨b, off, rfl⟩ := hs.some_ h0
      cases hr : ris a l
      · exact rises_no W hT b off c l a hs (fun z hz => bounds_i64 (w1 z hz)) (bounds_i64 w0) h hr
      · exact rises_yes W hT b off c l a hs (fun z hz => bounds_i64 (w1 z hz)) (bounds_i64 w0) h hr
end Go.Proofs.YtnbabohhmcbhcaaDoor
