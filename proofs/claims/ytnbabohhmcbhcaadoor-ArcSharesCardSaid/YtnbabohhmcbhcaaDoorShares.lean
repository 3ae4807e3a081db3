/- 'ArcShares': owners' shares are whole stretches: for from 1 to 60 numbers, any key, the table of starts laid. -/
import Derived.Deep.RegionWith
import Derived.Test.YtnbabohhmcbhcaaDoorOwnerLaw
set_option linter.unusedVariables false
set_option linter.unusedSimpArgs false
namespace Go.Proofs.YtnbabohhmcbhcaaDoor
open Go.RowKit Go.Shelf

set_option maxRecDepth 100000 in
set_option maxHeartbeats 4000000 in
theorem shares_long (W : World) (hT : Tab W) (A : Option Addr) (n c : Nat) (key : Int) (h : n < 1 ∨ 60 < n) :
    Calls Tryd.prog 8 #[.slice A n c, .int .i64 key] W fun e w' => e = .returned (.bool true) ∧ Below W.heap.size W w' := by
  have WK := Lib.hid (wakes_any W hT)
  clear hT
  rcases h with h | h
  · obtain rfl : n = 0 := by omega
    go_enter Tryd.func8, Tryd.ntmps8
    go_wp2_with fail
    refine WK.out.mono ?_; rintro e w' ⟨rfl, hb⟩
    go_wp2
    go_ret
    exact ⟨rfl, hb⟩
  · have h2 : ¬ n < 1 := by omega
    go_enter Tryd.func8, Tryd.ntmps8
    go_wp2_with fail
    refine WK.out.mono ?_; rintro e w' ⟨rfl, hb⟩
    go_wp2
    go_ret
    exact ⟨rfl, hb⟩

set_option maxRecDepth 100000 in
set_option maxHeartbeats 8000000 in
theorem shares_main (W : World) (hT : Tab W) (b off c : Nat) (l : List Int) (key : Int) (hI : Sl W (.slice (some ⟨b, off, none⟩) l.length c) (iv l)) (hz : ∀ z ∈ l, Num z) (hk : Num key) (h1 : 1 ≤ l.length) (h2 : l.length ≤ 60) :
    Calls Tryd.prog 8 #[.slice (some ⟨b, off, none⟩) l.length c, .int .i64 key] W fun e w' => e = .returned (.bool true) ∧ Below W.heap.size W w' := by
  have h0 : l ≠ [] := by rintro rfl; simp at h1
  obtain ⟨_, hlc, hcm, hbs, hcells⟩ := hI.parts
  have hc : ∀ k (h : k < l.length), W.cell? ⟨b, off + k, none⟩ = some (.int .i64 l[k]) := fun k h => hcells k _ (iv_get l k h)
  have pb := pl_bd key
  have hp1 : Num (pl key + 1) := ⟨by omega, by omega⟩
  have o1 := fun w h => owner_any (some ⟨b, off, none⟩) l.length c l (pl key) w h hz (pl_num key)
  rw [show decide (l ≠ []) = true by simp [h0]] at o1
  have o2 := fun w h => owner_any (some ⟨b, off, none⟩) l.length c l (pl key + 1) w h hz hp1
  rw [show decide (l ≠ []) = true by simp [h0]] at o2
  have p0 := fun w => place_any key w hk
  have f1 := fun w => far_any (pl key) (own (pl key + 1) l) w (pl_num key) (own_num _ l)
  have ff := fun z (hn : Num z) w => far_any (pl key) z w (pl_num key) hn
  have HI := Lib.hid hI
  have HZ := Lib.hid hz
  have HC := Lib.hid hc
  have HT := Lib.hid hT
  have hT0 := hT.size
  have WK := Lib.hid wakes_any
  have O1 := Lib.hid o1
  have O2 := Lib.hid o2
  have FF := Lib.hid ff
  have F1 := Lib.hid f1
  have HA := Lib.hid (own_at (key := key) h0)
  have HX := Lib.hid (own_next (key := key) h0)
  have HB := Lib.hid (fun z (h : z ∈ l) => own_behind (key := key) h)
  have kb := own_bd (pl key) l
  have kb2 := own_bd (pl key + 1) l
  clear hI hz hc hT o1 o2 hk hcells hlc hcm hp1 ff f1
  generalize own (pl key) l = a at *
  generalize own (pl key + 1) l = bb at *
  generalize pl key = p at *
  go_enter Tryd.func8, Tryd.ntmps8
  go_wp2_with fail
  refine (p0 _).mono ?_; rintro e w' ⟨rfl, rfl⟩
  go_wp2_with fail
  go_loop [6, 7] (fun t i => ∃ k : Nat, k ≤ l.length ∧ i = .int .i64 k ∧ t = .bool (isAt p l k)) (fun _ i => l.length - (intOf i).toNat)
  case atStart => exact ⟨0, by omega, rfl, by rw [isAt_zero]⟩
  case round =>
    obtain ⟨k, hk, rfl, rfl⟩ := hrel
    by_cases hlt : k < l.length
    · have hzk := HZ.out _ (List.getElem_mem hlt)
      have hc0 := HC.out k hlt
      have his := isAt_succ p l k hlt
      have p1 := fun w => place_any l[k] w hzk
      have HIs := Lib.hid his
      clear his
      generalize l[k] = z at *
      generalize isAt p l k = is at *
      generalize pl z = pz at *
      by_cases he : pz = p
      · subst he
        rw [show (pz == pz) = true by simp] at HIs
        cases is
        · go_wp2_with fail
          refine (p1 _).mono ?_; rintro e w' ⟨rfl, rfl⟩
          go_wp2
          go_round
          case rel => exact ⟨k + 1, by omega, by go_num, by rw [HIs.out]; rfl⟩
          case measure => simp [intOf]; omega
        · go_wp2
          go_round
          case rel => exact ⟨k + 1, by omega, by go_num, by rw [HIs.out]; rfl⟩
          case measure => simp [intOf]; omega
      · have he1 : (pz == p) = false := by simpa using he
        rw [he1] at HIs
        cases is
        · go_wp2_with fail
          refine (p1 _).mono ?_; rintro e w' ⟨rfl, rfl⟩
          go_wp2
          go_round
          case rel => exact ⟨k + 1, by omega, by go_num, by rw [HIs.out]; rfl⟩
          case measure => simp [intOf]; omega
        · go_wp2
          go_round
          case rel => exact ⟨k + 1, by omega, by go_num, by rw [HIs.out]; rfl⟩
          case measure => simp [intOf]; omega
    · obtain rfl : k = l.length := by omega
      have hany : isAt p l l.length = decide (∃ x ∈ l, pl x = p) := by
        rw [isAt_all, Bool.eq_iff_iff]
        simp
      have hAny := Lib.hid hany
      clear hany
      go_wp2_with fail
      refine (O1.out _ HI.out).mono ?_; rintro e w1 ⟨rfl, hB⟩
      go_wp2_with fail
      refine (O2.out _ (HI.out.below hB)).mono ?_; rintro e w2 ⟨rfl, hb⟩
      replace hB := hB.trans (hb.mono hB.size)
      clear hb
      by_cases hex : ∃ x ∈ l, pl x = p
      · have ha : a = p := HA.out.2 hex
        subst ha
        rw [decide_eq_true hex] at hAny
        rw [hAny.out]
        go_wp2_with fail
        go_loopw [12] (fun i w => ∃ k : Nat, k ≤ l.length ∧ i = .int .i64 k ∧ Below W.heap.size W w) (fun i _ => l.length - (intOf i).toNat)
        case atStart => exact ⟨0, by omega, rfl, hB⟩
        case round =>
          clear hB
          obtain ⟨k, hk, rfl, hB⟩ := hrel
          by_cases hlt : k < l.length
          · have hzk := HZ.out _ (List.getElem_mem hlt)
            have hmem : l[k] ∈ l := List.getElem_mem hlt
            have hc0 := HC.out k hlt
            have p1 := fun w => place_any l[k] w hzk
            have f2 := FF.out l[k] hzk
            have f1 := F1.out
            have hbe := HB.out _ hmem
            have hcw := (hB.cell (p := ⟨b, off + k, none⟩) hbs).trans hc0
            have q1 := far_bd a l[k]
            have q2 := far_bd a bb
            have i1 : (0 : Int) ≤ k := by omega
            have i2 : (k : Int) < l.length := by omega
            clear hc0 hmem
            generalize l[k] = z at *
            generalize pl z = pz at *
            generalize far a z = fz at *
            generalize far a bb = fb at *
            have ST := Lib.hid hbe
            clear hbe
            by_cases he : pz = a
            · subst he
              go_wp2_with fail
              go_quiet ((first | (go_at_call 12; exact still (p1 _) ⟨_, rfl⟩)))
              go_wp2
              go_roundw
              case rel => exact ⟨k + 1, by omega, by go_num, hB.trans ((below_drewN ⟨_, rfl⟩).mono hB.size)⟩
              case measure => simp [intOf]; omega
            · have he1 : (pz != a) = true := by simpa using he
              by_cases hf : fz < fb
              · have hba : bb = a := by
                  have := ST.out he
                  by_cases e : bb = a
                  · exact e
                  · have := this e; omega
                subst hba
                go_wp2_with fail
                go_quiet ((first | (go_at_call 12; exact still (p1 _) ⟨_, rfl⟩) | (go_at_call_of 14 (Value.int IntKind.i64 z); exact still (f2 _) ⟨_, rfl⟩) | (go_at_call 14; exact still (f1 _) ⟨_, rfl⟩)))
                go_wp2
                go_roundw
                case rel => exact ⟨k + 1, by omega, by go_num, hB.trans ((below_drewN ⟨_, rfl⟩).mono hB.size)⟩
                case measure => simp [intOf]; omega
              · have hf1 : decide (fz < fb) = false := by simpa using hf
                go_wp2_with fail
                go_quiet ((first | (go_at_call 12; exact still (p1 _) ⟨_, rfl⟩) | (go_at_call_of 14 (Value.int IntKind.i64 z); exact still (f2 _) ⟨_, rfl⟩) | (go_at_call 14; exact still (f1 _) ⟨_, rfl⟩)))
                go_wp2
                go_roundw
                case rel => exact ⟨k + 1, by omega, by go_num, hB.trans ((below_drewN ⟨_, rfl⟩).mono hB.size)⟩
                case measure => simp [intOf]; omega
          · obtain rfl : k = l.length := by omega
            go_wp2_with fail
            refine (WK.out _ (HT.out.below hT0 hB)).mono ?_; rintro e w4 ⟨rfl, hb⟩
            replace hB := hB.trans (hb.mono hB.size)
            go_wp2
            go_ret
            exact ⟨rfl, hB⟩
      · have hne : a ≠ p := fun h => hex (HA.out.1 h)
        have hab : a = bb := HX.out (fun x hx e => hex ⟨x, hx, e⟩)
        subst hab
        rw [decide_eq_false hex] at hAny
        rw [hAny.out]
        have hne1 : (a == p) = false := by simpa using hne
        clear hne hex
        go_wp2_with fail
        go_loopw [12] (fun i w => ∃ k : Nat, k ≤ l.length ∧ i = .int .i64 k ∧ Below W.heap.size W w) (fun i _ => l.length - (intOf i).toNat)
        case atStart => exact ⟨0, by omega, rfl, hB⟩
        case round =>
          clear hB
          obtain ⟨k, hk, rfl, hB⟩ := hrel
          by_cases hlt : k < l.length
          · go_wp2_with fail
            go_quiet (fail)
            go_wp2
            go_roundw
            case rel => exact ⟨k + 1, by omega, by go_num, hB.trans ((below_drewN ⟨_, rfl⟩).mono hB.size)⟩
            case measure => simp [intOf]; omega
          · obtain rfl : k = l.length := by omega
            go_wp2_with fail
            refine (WK.out _ (HT.out.below hT0 hB)).mono ?_; rintro e w4 ⟨rfl, hb⟩
            replace hB := hB.trans (hb.mono hB.size)
            go_wp2
            go_ret
            exact ⟨rfl, hB⟩
theorem shares_walk (W : World) (hT : Tab W) (v : Value) (l : List Int) (hs : Sl W v (iv l)) (w0 : ∀ n ∈ l, (Lit.int .i64 n).wf = true) (key : Int) (w1 : (Lit.int .i64 key).wf = true) :
    Calls Tryd.prog 8 #[v, .int .i64 key] W fun e w' => e = .returned (.bool true) ∧ Below W.heap.size W w' := by
  obtain ⟨A, n, c, rfl⟩ := hs.slice
  by_cases h : n < 1 ∨ 60 < n
  · exact shares_long W hT A n c key h
  · have hl := hs.len
    rw [iv_length] at hl
    subst hl
    obtain ⟨b, off, rfl⟩ := hs.some_ (by omega)
    exact shares_main W hT b off c l key hs (fun z hz => bounds_i64 (w0 z hz)) (bounds_i64 w1) (by omega) (by omega)
end Go.Proofs.YtnbabohhmcbhcaaDoor
