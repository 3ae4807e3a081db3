/- The document's own test of a list that is told: for any list. -/
import Derived.Test.YtbklgodbjibemaaList
import Derived.Test.YtbklgodbjibemaaLeaf
set_option linter.unusedVariables false
set_option linter.unusedSimpArgs false
namespace Go.Proofs.Ytbklgodbjibemaa
open Go.RowKit Go.Shelf

/-- All are places, none is id, no two the same. -/
def listP (id : Int) (l : List Int) : Prop := (∀ p ∈ l, placeB p = true) ∧ othersP id l
instance (id : Int) (l : List Int) : Decidable (listP id l) := by unfold listP; exact inferInstance
theorem listP_succ (id : Int) (l : List Int) (k : Nat) (hk : k < l.length) : listP id (l.take (k + 1)) ↔ listP id (l.take k) ∧ placeB l[k] = true ∧ l[k] ≠ id ∧ l[k] ∉ l.take k := by
  unfold listP
  rw [othersP_succ id l k hk]
  constructor
  · rintro ⟨h1, h2, h3, h4⟩
    exact ⟨⟨fun p hp => h1 p (by rw [List.take_succ_eq_append_getElem hk]; exact List.mem_append.2 (.inl hp)), h2⟩, h1 _ (by rw [List.take_succ_eq_append_getElem hk]; exact List.mem_append.2 (.inr (List.mem_singleton.2 rfl))), h3, h4⟩
  · rintro ⟨⟨h1, h2⟩, h0, h3, h4⟩
    refine ⟨fun p hp => ?_, h2, h3, h4⟩
    rw [List.take_succ_eq_append_getElem hk, List.mem_append, List.mem_singleton] at hp
    rcases hp with hp | rfl
    · exact h1 p hp
    · exact h0
theorem listP_take (id : Int) (l : List Int) (k : Nat) (h : listP id l) : listP id (l.take k) := ⟨fun p hp => h.1 p (List.mem_of_mem_take hp), othersP_take id l k h.2⟩
theorem not_listP (id : Int) (l : List Int) (k : Nat) (hk : k < l.length) (h : ¬ (placeB l[k] = true ∧ l[k] ≠ id ∧ l[k] ∉ l.take k)) : decide (listP id l ∧ l.length ≤ 3) = false :=
  decide_eq_false fun hl => h ((listP_succ id l k hk).1 (listP_take id l (k + 1) hl.1)).2

set_option maxRecDepth 100000 in
set_option maxHeartbeats 4000000 in
theorem rlist_any (id : Int) (v : Value) (l : List Int) (w : World) (h : Sl w v (iv l)) :
    Calls Try.prog 40 #[v, .int .i64 id] w fun e w' => e = .returned (.bool (decide (listP id l ∧ l.length ≤ 3))) ∧ Below w.heap.size w w' := by
  rcases h.ints with ⟨rfl, rfl⟩ | ⟨b, off, c, rfl, hc, hcm, h3, h4⟩
  · go_enter Try.func40, Try.ntmps40
    go_wp2
    go_loop [5] (fun i => i = .int .i64 0) (fun _ => 0)
    case atStart => rfl
    case round =>
      obtain rfl := hrel
      go_wp2
      go_ret
      exact ⟨ret_b (by simp [listP, othersP]), Below.refl _ _⟩
  · have H4 := Lib.hid h4
    have hlm : (l.length : Int) ≤ 9223372036854775807 := by omega
    have K := Lib.hid (fun p w => rplace_any p w)
    clear h4 h h3 hcm hc
    go_enter Try.func40, Try.ntmps40
    go_wp2
    go_loopw [5] (fun i W => ∃ k : Nat, k ≤ l.length ∧ i = .int .i64 k ∧ listP id (l.take k) ∧ ∃ n, W = w.drewN n) (fun i _ => l.length - (intOf i).toNat)
    case atStart => exact ⟨0, by omega, rfl, by simp [listP, othersP], 0, rfl⟩
    case round =>
      obtain ⟨k, hk, rfl, ht, nq, rfl⟩ := hrel
      have HT := Lib.hid ht
      clear ht
      by_cases hlt : k < l.length
      · have hc1 := H4.out k hlt
        have HN := Lib.hid (not_listP id l k hlt)
        have HI := Lib.hid (listP_succ id l k hlt)
        obtain ⟨z, hz⟩ : ∃ z, z = l[k] := ⟨_, rfl⟩
        rw [← hz] at hc1
        have k1 := fun w => K.out z w
        have HZ := Lib.hid hz
        clear hz
        cases hp : placeB z
        · rw [hp] at k1
          have HP := Lib.hid hp
          clear hp
          go_wp2_with fail
          refine (k1 _).mono ?_; rintro e w1 ⟨rfl, rfl⟩
          go_wp2_with fail
          go_ret
          exact ⟨ret_b (HN.out (by rw [← HZ.out, HP.out]; simp)).symm, below_drewN nq⟩
        · rw [hp] at k1
          have HP := Lib.hid hp
          clear hp
          by_cases he : z = id
          · have hn : (z == id) = true := by simp [he]
            have HE := Lib.hid he
            clear he
            go_wp2_with fail
            refine (k1 _).mono ?_; rintro e w1 ⟨rfl, rfl⟩
            go_wp2_with fail
            go_ret
            exact ⟨ret_b (HN.out (by rw [← HZ.out, HE.out]; simp)).symm, below_drewN nq⟩
          · have hn : (z == id) = false := by simp [he]
            have HE := Lib.hid he
            clear he
            go_wp2_with fail
            refine (k1 _).mono ?_; rintro e w1 ⟨rfl, rfl⟩
            go_wp2_with fail
            go_loopw [6] (fun i W => ∃ j : Nat, j ≤ k ∧ i = .int .i64 j ∧ z ∉ l.take j ∧ ∃ n, W = w.drewN n) (fun i _ => k - (intOf i).toNat)
            case atStart => exact ⟨0, by omega, rfl, by simp, nq, rfl⟩
            case round =>
              obtain ⟨j, hj, rfl, hu, nr, rfl⟩ := hrel
              have HU := Lib.hid hu
              clear hu
              by_cases hjl : j < k
              · have hjl2 : j < l.length := by omega
                have hc2 := H4.out j hjl2
                by_cases hy : l[j] = z
                · have hn2 : (l[j] == z) = true := by simp [hy]
                  have HY := Lib.hid hy
                  clear hy
                  go_wp2
                  go_quiet (fail)
                  go_wp2
                  go_ret
                  refine ⟨ret_b (HN.out ?_).symm, ?_⟩
                  · rintro ⟨_, _, h⟩
                    refine h ?_
                    rw [← HZ.out, ← HY.out]
                    exact List.mem_take_iff_getElem.2 ⟨j, by omega, rfl⟩
                  · first | exact below_drewN _ | (rw [World.drewN_drewN]; exact below_drewN _)
                · have hn2 : (l[j] == z) = false := by simp [hy]
                  have HY := Lib.hid hy
                  clear hy
                  go_wp2
                  go_quiet (fail)
                  go_wp2
                  go_roundw
                  case rel =>
                    refine ⟨j + 1, by omega, by go_num, ?_, _, by first | rfl | exact World.drewN_drewN _ _ _⟩
                    rw [List.take_succ_eq_append_getElem hjl2, List.mem_append]
                    rintro (h | h)
                    · exact HU.out h
                    · simp at h; exact HY.out h.symm
                  case measure => simp [intOf]; omega
              · obtain rfl : j = k := by omega
                go_wp2
                go_roundw
                case rel =>
                  refine ⟨j + 1, by omega, by go_num, HI.out.2 ⟨HT.out, by rw [← HZ.out]; exact HP.out, by rw [← HZ.out]; exact HE.out, by rw [← HZ.out]; exact HU.out⟩, nr, rfl⟩
                case measure => simp [intOf]; omega
      · obtain rfl : k = l.length := by omega
        go_wp2
        go_ret
        have := HT.out
        rw [List.take_length] at this
        exact ⟨ret_b (by rw [Bool.eq_iff_iff, decide_eq_true_iff, decide_eq_true_iff]; constructor <;> intro h <;> first | exact ⟨this, by omega⟩ | omega), below_drewN nq⟩
end Go.Proofs.Ytbklgodbjibemaa
