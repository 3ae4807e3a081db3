/- 'ArcRises', where they don't rise: one of them is no farther than the one ahead. -/
import Derived.Deep.RegionWith
import Derived.Test.YtnbabohhmcbhcaaDoorRisMath
import Derived.Test.YtnbabohhmcbhcaaDoorWakes
set_option linter.unusedVariables false
set_option linter.unusedSimpArgs false
namespace Go.Proofs.YtnbabohhmcbhcaaDoor
open Go.RowKit Go.Shelf

/-- One of the first k is no farther than the one ahead. -/
def bad (a : Int) (l : List Int) (k : Nat) : Bool := !ris a (l.take k)
theorem bad_succ (a : Int) (l : List Int) (k : Nat) (h : k < l.length) : bad a l (k + 1) = (bad a l k || !decide (ahead a l k < far a l[k])) := by
  unfold bad
  rw [ris_take_succ a l k h, Bool.not_and]
theorem bad_zero (a : Int) (l : List Int) : bad a l 0 = false := rfl
theorem bad_all (a : Int) (l : List Int) : bad a l l.length = !ris a l := by unfold bad; rw [List.take_length]

set_option maxRecDepth 100000 in
set_option maxHeartbeats 4000000 in
theorem rises_long (W : World) (hT : Tab W) (A : Option Addr) (n c : Nat) (a : Int) (h : 60 < n) :
    Calls Tryd.prog 7 #[.int .i64 a, .slice A n c] W fun e w' => e = .returned (.bool true) ∧ Below W.heap.size W w' := by
  have WK := Lib.hid (wakes_any W hT)
  clear hT
  go_enter Tryd.func7, Tryd.ntmps7
  go_wp2_with fail
  refine WK.out.mono ?_; rintro e w' ⟨rfl, hb⟩
  go_wp2
  go_ret
  exact ⟨rfl, hb⟩

set_option maxRecDepth 100000 in
set_option maxHeartbeats 8000000 in
theorem rises_no (W : World) (hT : Tab W) (b off c : Nat) (l : List Int) (a : Int) (hI : Sl W (.slice (some ⟨b, off, none⟩) l.length c) (iv l)) (hz : ∀ z ∈ l, Num z) (ha : Num a) (h2 : l.length ≤ 60) (hr : ris a l = false) :
    Calls Tryd.prog 7 #[.int .i64 a, .slice (some ⟨b, off, none⟩) l.length c] W fun e w' => e = .returned (.bool true) ∧ Below W.heap.size W w' := by
  obtain ⟨_, hlc, hcm, hbs, hcells⟩ := hI.parts
  have hc : ∀ k (h : k < l.length), W.cell? ⟨b, off + k, none⟩ = some (.int .i64 l[k]) := fun k h => hcells k _ (iv_get l k h)
  have o1 := fun w h => rises_any (some ⟨b, off, none⟩) l.length c l a w h hz ha
  rw [hr] at o1
  have ff := fun z (hn : Num z) w => far_any a z w ha hn
  have HI := Lib.hid hI
  have HZ := Lib.hid hz
  have HC := Lib.hid hc
  have HT := Lib.hid hT
  have hT0 := hT.size
  have WK := Lib.hid wakes_any
  have O1 := Lib.hid o1
  have FF := Lib.hid ff
  have HR := Lib.hid hr
  clear hI hz hc hT o1 ha hcells hlc hcm ff hr
  go_enter Tryd.func7, Tryd.ntmps7
  go_wp2_with fail
  refine (O1.out _ HI.out).mono ?_; rintro e w1 ⟨rfl, hB⟩
  go_wp2_with fail
  go_loopw [5, 6] (fun t i w => ∃ k : Nat, k ≤ l.length ∧ i = .int .i64 k ∧ t = .bool (bad a l k) ∧ Below W.heap.size W w) (fun _ i _ => l.length - (intOf i).toNat)
  case atStart => exact ⟨0, by omega, rfl, by rw [bad_zero], hB⟩
  case round =>
    clear hB
    obtain ⟨k, hk, rfl, rfl, hB⟩ := hrel
    by_cases hlt : k < l.length
    · have hzk := HZ.out _ (List.getElem_mem hlt)
      have hc0 := HC.out k hlt
      have his := bad_succ a l k hlt
      have f1 := FF.out l[k] hzk
      have hcw := (hB.cell (p := ⟨b, off + k, none⟩) hbs).trans hc0
      have q1 := far_bd a l[k]
      have q2 := ahead_bd a l k
      have i1 : (0 : Int) ≤ k := by omega
      have i2 : (k : Int) < l.length := by omega
      have HIs := Lib.hid his
      have HAz := Lib.hid (ahead_zero a l)
      have HAs := Lib.hid (ahead_succ a l)
      clear hc0 his
      cases hno : bad a l k
      · rw [hno] at HIs
        by_cases hf0 : far a l[k] = 0
        · rw [hf0, decide_eq_false (by omega)] at HIs
          rw [hf0] at f1
          generalize l[k] = z at *
          go_wp2_with fail
          go_quiet ((first | (go_at_call 14; exact still (f1 _) ⟨_, rfl⟩)))
          go_wp2
          go_roundw
          case rel => exact ⟨k + 1, by omega, by go_num, by simp [HIs.out], hB.trans ((below_drewN ⟨_, rfl⟩).mono hB.size)⟩
          case measure => simp [intOf]; omega
        · have hg0 : (far a l[k] == 0) = false := by simpa using hf0
          rcases Nat.eq_zero_or_pos k with h0 | h0
          · subst h0
            have hz0 := HAz.out
            rw [hz0, decide_eq_true (by omega)] at HIs
            simp only [Nat.add_zero] at hcw
            generalize l[0] = z at *
            generalize far a z = fz at *
            go_wp2_with fail
            go_quiet ((first | (go_at_call 14; exact still (f1 _) ⟨_, rfl⟩)))
            go_wp2
            go_roundw
            case rel => exact ⟨0 + 1, by omega, by go_num, by simp [HIs.out], hB.trans ((below_drewN ⟨_, rfl⟩).mono hB.size)⟩
            case measure => simp [intOf]; omega
          · obtain ⟨j, rfl⟩ : ∃ j, k = j + 1 := ⟨k - 1, by omega⟩
            have hj : j < l.length := by omega
            have hs := HAs.out j hj
            rw [hs] at HIs
            have f2 := FF.out l[j] (HZ.out _ (List.getElem_mem hj))
            have hcj := (hB.cell (p := ⟨b, off + j, none⟩) hbs).trans (HC.out j hj)
            have q3 := far_bd a l[j]
            have i3 : (0 : Int) ≤ j := by omega
            have i4 : (j : Int) < l.length := by omega
            have i5 : (((j + 1 : Nat) : Int) - 1) = j := by omega
            have hgt : decide ((0 : Int) < ((j + 1 : Nat) : Int)) = true := decide_eq_true (by omega)
            have hw : IntKind.i64.wrap (((j + 1 : Nat) : Int) - 1) = (j : Int) := by rw [i5]; exact IntWalk.i64_in _ ⟨by omega, by omega⟩
            generalize l[j + 1] = z at *
            generalize l[j] = y at *
            generalize far a z = fz at *
            generalize far a y = fy at *
            clear hs i5
            by_cases hl2 : fy < fz
            · have hl3 : decide (fz ≤ fy) = false := by simp; omega
              rw [decide_eq_true hl2] at HIs
              go_wp2_with fail
              go_quiet ((first | (go_at_call_of 14 (Value.int IntKind.i64 z); exact still (f1 _) ⟨_, rfl⟩) | (go_at_call 14; exact still (f2 _) ⟨_, rfl⟩)))
              go_wp2
              go_roundw
              case rel => exact ⟨j + 1 + 1, by omega, by go_num, by simp [HIs.out], hB.trans ((below_drewN ⟨_, rfl⟩).mono hB.size)⟩
              case measure => simp [intOf]; omega
            · have hl3 : decide (fz ≤ fy) = true := by simp; omega
              rw [decide_eq_false hl2] at HIs
              go_wp2_with fail
              go_quiet ((first | (go_at_call_of 14 (Value.int IntKind.i64 z); exact still (f1 _) ⟨_, rfl⟩) | (go_at_call 14; exact still (f2 _) ⟨_, rfl⟩)))
              go_wp2
              go_roundw
              case rel => exact ⟨j + 1 + 1, by omega, by go_num, by simp [HIs.out], hB.trans ((below_drewN ⟨_, rfl⟩).mono hB.size)⟩
              case measure => simp [intOf]; omega
      · rw [hno] at HIs
        go_wp2_with fail
        go_quiet (fail)
        go_wp2
        go_roundw
        case rel => exact ⟨k + 1, by omega, by go_num, by simp [HIs.out], hB.trans ((below_drewN ⟨_, rfl⟩).mono hB.size)⟩
        case measure => simp [intOf]; omega
    · obtain rfl : k = l.length := by omega
      rw [bad_all, HR.out, Bool.not_false]
      go_wp2_with fail
      refine (WK.out _ (HT.out.below hT0 hB)).mono ?_; rintro e w4 ⟨rfl, hb⟩
      replace hB := hB.trans (hb.mono hB.size)
      go_wp2
      go_ret
      exact ⟨rfl, hB⟩
end Go.Proofs.YtnbabohhmcbhcaaDoor
