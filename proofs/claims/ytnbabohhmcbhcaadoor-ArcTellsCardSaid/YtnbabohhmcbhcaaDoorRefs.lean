/- The document's own answers of owners and of rising: the same, for any list. -/
import Derived.Test.YtnbabohhmcbhcaaDoorRisMath
import Derived.Test.YtnbabohhmcbhcaaDoorOwnMath
import Derived.Test.YtnbabohhmcbhcaaDoorStart
set_option linter.unusedVariables false
set_option linter.unusedSimpArgs false
namespace Go.Proofs.YtnbabohhmcbhcaaDoor
open Go.RowKit Go.Shelf

theorem oAt_two {key : Int} {l : List Int} (h : l ≠ []) : (oAt key l).2 = far key (own key l) := by
  rcases oAt_spec key l with ⟨e, _⟩ | ⟨⟨x, hx, e⟩, _⟩
  · exact absurd e h
  · unfold own; rw [e, far_plr]
/-- What the document's loop holds behind so many rounds. -/
def outAt (key : Int) (l : List Int) (k : Nat) : Int := own key (l.take (max 1 k))
theorem outAt_zero (key : Int) (l : List Int) (h : 0 < l.length) : outAt key l 0 = pl l[0] := by
  obtain ⟨x, l', rfl⟩ := List.exists_cons_of_length_pos h
  show (oStep key (0, 65536) x).1 = _
  unfold oStep
  rw [if_pos (far_bd key x).2]
  rfl
theorem outAt_all (key : Int) (l : List Int) (h : 0 < l.length) : outAt key l l.length = own key l := by
  unfold outAt
  rw [show max 1 l.length = l.length by omega, List.take_length]
theorem outAt_succ (key : Int) (l : List Int) (k : Nat) (h : k < l.length) : outAt key l (k + 1) = if far key l[k] < far key (outAt key l k) then pl l[k] else outAt key l k := by
  rcases Nat.eq_zero_or_pos k with rfl | hk
  · rw [outAt_zero key l h, far_plr, if_neg (by omega)]
    rw [← outAt_zero key l h]
    rfl
  · have e1 : outAt key l (k + 1) = own key (l.take (k + 1)) := by unfold outAt; rw [show max 1 (k + 1) = k + 1 by omega]
    have e2 : outAt key l k = own key (l.take k) := by unfold outAt; rw [show max 1 k = k by omega]
    have hne : l.take k ≠ [] := by
      intro e
      have := congrArg List.length e
      rw [List.length_take, List.length_nil] at this
      omega
    rw [e1, e2, List.take_succ_eq_append_getElem h, ← oAt_two hne]
    unfold own
    rw [oAt_snoc]
    unfold oStep
    split <;> rfl
theorem outAt_bd (key : Int) (l : List Int) (k : Nat) : 0 ≤ outAt key l k ∧ outAt key l k < 65536 := own_bd _ _

set_option maxRecDepth 100000 in
set_option maxHeartbeats 2000000 in
theorem owner_ref_nil (key : Int) (w : World) : Calls Tryd.prog 11 #[.slice none 0 0, .int .i64 key] w fun e w' => e = .returned (.tuple #[.int .i64 (own key []), .bool (decide (([] : List Int) ≠ []))]) ∧ w = w' := by
  rw [show own key [] = 0 from rfl, show decide (([] : List Int) ≠ []) = false from rfl]
  go_enter Tryd.func11, Tryd.ntmps11
  go_wp2
  go_ret2
  exact ⟨rfl, rfl⟩
set_option maxRecDepth 100000 in
set_option maxHeartbeats 2000000 in
theorem owner_ref_zero (b off c : Nat) (key : Int) (w : World) : Calls Tryd.prog 11 #[.slice (some ⟨b, off, none⟩) 0 c, .int .i64 key] w fun e w' => e = .returned (.tuple #[.int .i64 (own key []), .bool (decide (([] : List Int) ≠ []))]) ∧ w = w' := by
  rw [show own key [] = 0 from rfl, show decide (([] : List Int) ≠ []) = false from rfl]
  go_enter Tryd.func11, Tryd.ntmps11
  go_wp2
  go_ret2
  exact ⟨rfl, rfl⟩
set_option maxRecDepth 100000 in
set_option maxHeartbeats 2000000 in
theorem owner_ref_some (b off c : Nat) (l : List Int) (key : Int) (w : World) (hI : Sl w (.slice (some ⟨b, off, none⟩) l.length c) (iv l)) (h1 : 0 < l.length) (hz : ∀ z ∈ l, Num z) (hk : Num key) :
    Calls Tryd.prog 11 #[.slice (some ⟨b, off, none⟩) l.length c, .int .i64 key] w fun e w' => e = .returned (.tuple #[.int .i64 (own key l), .bool (decide (l ≠ []))]) ∧ w = w' := by
  have h0 : l ≠ [] := by rintro rfl; simp at h1
  obtain ⟨_, hlc, hcm, hbs, hcells⟩ := hI.parts
  have hc : ∀ k (h : k < l.length), w.cell? ⟨b, off + k, none⟩ = some (.int .i64 l[k]) := fun k h => hcells k _ (iv_get l k h)
  unfold maxLen at hcm
  rw [show decide (l ≠ []) = true by simp [h0]]
  obtain ⟨o, ho⟩ : ∃ o, own key l = o := ⟨_, rfl⟩
  rw [ho]
  have hg : ((l.length : Int) == 0) = false := by simp; omega
  have hc0 := hc 0 h1
  rw [Nat.add_zero] at hc0
  have p0 := fun w => place_ref l[0] w (hz _ (List.getElem_mem h1))
  rw [← outAt_zero key l h1] at p0
  have HO := Lib.hid ho
  have HZ := Lib.hid hz
  have HC := Lib.hid hc
  have HK := Lib.hid hk
  have hpos : (0 : Int) < l.length := by omega
  clear hI hcells hz hc ho hk
  generalize l[0] = z0 at *
  go_enter Tryd.func11, Tryd.ntmps11
  go_wp2_with fail
  refine (p0 _).mono ?_; rintro e w' ⟨rfl, rfl⟩
  go_wp2_with fail
  go_loop [6, 7] (fun t i => ∃ k : Nat, k ≤ l.length ∧ i = .int .i64 k ∧ t = .int .i64 (outAt key l k)) (fun _ i => l.length - (intOf i).toNat)
  case atStart => exact ⟨0, by omega, rfl, rfl⟩
  case round =>
    obtain ⟨k, hk, rfl, rfl⟩ := hrel
    by_cases hlt : k < l.length
    · have hzk := HZ.out _ (List.getElem_mem hlt)
      have hcw := HC.out k hlt
      have his := outAt_succ key l k hlt
      have p1 := fun w => place_ref l[k] w hzk
      have f1 := fun w => far_ref key l[k] w HK.out hzk
      have ob := outAt_bd key l k
      have f2 := fun w => far_ref key (outAt key l k) w HK.out ⟨by omega, by omega⟩
      have HIs := Lib.hid his
      have q1 := far_bd key l[k]
      have q2 := far_bd key (outAt key l k)
      clear his
      generalize l[k] = z at *
      generalize outAt key l k = out at *
      generalize far key z = fz at *
      generalize far key out = fo at *
      generalize pl z = pz at *
      by_cases hf : fz < fo
      · rw [if_pos hf] at HIs
        go_wp2_with fail
        refine (f1 _).mono ?_; rintro e w' ⟨rfl, rfl⟩
        go_wp2_with fail
        refine (f2 _).mono ?_; rintro e w' ⟨rfl, rfl⟩
        go_wp2_with fail
        refine (p1 _).mono ?_; rintro e w' ⟨rfl, rfl⟩
        go_wp2
        go_round
        case rel => exact ⟨k + 1, by omega, by go_num, by rw [HIs.out]⟩
        case measure => simp [intOf]; omega
      · rw [if_neg hf] at HIs
        have hf2 : decide (fz < fo) = false := decide_eq_false hf
        go_wp2_with fail
        refine (f1 _).mono ?_; rintro e w' ⟨rfl, rfl⟩
        go_wp2_with fail
        refine (f2 _).mono ?_; rintro e w' ⟨rfl, rfl⟩
        go_wp2
        go_round
        case rel => exact ⟨k + 1, by omega, by go_num, by rw [HIs.out]⟩
        case measure => simp [intOf]; omega
    · obtain rfl : k = l.length := by omega
      rw [outAt_all key l h1, HO.out]
      go_wp2
      go_ret2
      exact ⟨rfl, rfl⟩
theorem owner_ref (A : Option Addr) (n c : Nat) (l : List Int) (key : Int) (w : World) (hI : Sl w (.slice A n c) (iv l)) (hz : ∀ z ∈ l, Num z) (hk : Num key) :
    Calls Tryd.prog 11 #[.slice A n c, .int .i64 key] w fun e w' => e = .returned (.tuple #[.int .i64 (own key l), .bool (decide (l ≠ []))]) ∧ w = w' := by
  have hl := hI.len
  rw [iv_length] at hl
  subst hl
  rcases Nat.eq_zero_or_pos l.length with h | h
  · rcases hI with ⟨e, _⟩ | ⟨b, off, c', e, h1, h2, h3, h4⟩
    · obtain rfl := List.eq_nil_of_length_eq_zero h
      injection e with e1 e2 e3
      subst e1 e3
      exact owner_ref_nil key w
    · obtain rfl := List.eq_nil_of_length_eq_zero h
      injection e with e1 e2 e3
      subst e1
      exact owner_ref_zero b off c key w
  · obtain ⟨b, off, rfl⟩ := hI.some_ h
    exact owner_ref_some b off c l key w hI h hz hk

set_option maxRecDepth 100000 in
set_option maxHeartbeats 2000000 in
theorem rises_ref (A : Option Addr) (n c : Nat) (l : List Int) (a : Int) (w : World) (hI : Sl w (.slice A n c) (iv l)) (hz : ∀ z ∈ l, Num z) (ha : Num a) :
    Calls Tryd.prog 23 #[.int .i64 a, .slice A n c] w fun e w' => e = .returned (.bool (ris a l)) ∧ w = w' := by
  have hl := hI.len
  rw [iv_length] at hl
  subst hl
  have hlm : l.length ≤ 9223372036854775807 := by
    rcases hI with ⟨e, h⟩ | ⟨b, off, c', e, h1, h2, h3, h4⟩
    · have := congrArg List.length h; rw [iv_length, List.length_nil] at this; omega
    · rw [iv_length] at h1; unfold maxLen at h2; omega
  have hc : ∀ k (h : k < l.length), ∃ b off, A = some ⟨b, off, none⟩ ∧ w.cell? ⟨b, off + k, none⟩ = some (.int .i64 l[k]) := fun k h => by
    obtain ⟨b, off, rfl⟩ := hI.some_ (by omega)
    exact ⟨b, off, rfl, hI.parts.2.2.2.2 k _ (iv_get l k h)⟩
  obtain ⟨bo, hbo⟩ : ∃ bo, ris a l = bo := ⟨_, rfl⟩
  rw [hbo]
  have HBO := Lib.hid hbo
  have HZ := Lib.hid hz
  have HC := Lib.hid hc
  have HA := Lib.hid ha
  clear hI hz hc hbo ha
  go_enter Tryd.func23, Tryd.ntmps23
  go_wp2_with fail
  go_loop [5, 6] (fun t i => ∃ k : Nat, k ≤ l.length ∧ i = .int .i64 k ∧ t = .int .i64 (ahead a l k) ∧ ris a (l.take k) = true) (fun _ i => l.length - (intOf i).toNat)
  case atStart => exact ⟨0, by omega, rfl, by rw [ahead_zero], rfl⟩
  case round =>
    obtain ⟨k, hk, rfl, rfl, hr⟩ := hrel
    by_cases hlt : k < l.length
    · have hzk := HZ.out _ (List.getElem_mem hlt)
      obtain ⟨b, off, hA, hcw⟩ := HC.out k hlt
      subst hA
      have his := ahead_succ a l k hlt
      have hrs := ris_take_succ a l k hlt
      rw [hr, Bool.true_and] at hrs
      have f1 := fun w => far_ref a l[k] w HA.out hzk
      have hno : ¬ (ahead a l k < far a l[k]) → bo = false := fun h => by
        have h1 := HBO.out
        cases hb : bo
        · rfl
        · rw [hb] at h1
          have := ris_less a l k hlt h1
          exact absurd this h
      have HIs := Lib.hid his
      have HRs := Lib.hid hrs
      have q1 := far_bd a l[k]
      have q2 := ahead_bd a l k
      clear his hrs hr
      generalize l[k] = z at *
      generalize far a z = fz at *
      generalize ahead a l k = fo at *
      by_cases hf : fo < fz
      · rw [decide_eq_true hf] at HRs
        have hf2 : decide (fz ≤ fo) = false := decide_eq_false (by omega)
        clear hno
        go_wp2_with fail
        refine (f1 _).mono ?_; rintro e w' ⟨rfl, rfl⟩
        go_wp2_with fail
        refine (f1 _).mono ?_; rintro e w' ⟨rfl, rfl⟩
        go_wp2
        go_round
        case rel => exact ⟨k + 1, by omega, by go_num, by rw [HIs.out], HRs.out⟩
        case measure => simp [intOf]; omega
      · obtain rfl := hno hf
        have hf2 : decide (fz ≤ fo) = true := decide_eq_true (by omega)
        clear hno
        go_wp2_with fail
        refine (f1 _).mono ?_; rintro e w' ⟨rfl, rfl⟩
        go_wp2
        go_ret
        exact ⟨rfl, rfl⟩
    · obtain rfl : k = l.length := by omega
      rw [List.take_length] at hr
      have hb := HBO.out
      rw [hr] at hb
      subst hb
      clear hr
      go_wp2
      go_ret
      exact ⟨rfl, rfl⟩
end Go.Proofs.YtnbabohhmcbhcaaDoor
