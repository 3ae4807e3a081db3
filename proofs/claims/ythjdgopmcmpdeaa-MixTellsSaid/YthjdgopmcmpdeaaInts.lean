/- Whether two lists of numbers are the same: 'Ints' of the document's own answers. -/
import Derived.Test.YthjdgopmcmpdeaaGo
set_option linter.unusedVariables false
set_option linter.unusedSimpArgs false
namespace Go.Proofs.Ythjdgopmcmpdeaa
open Go.RowKit Go.Shelf

theorem Sl.ints {w : World} {v : Value} {l : List Int} (H : Sl w v (iv l)) : (v = .slice none 0 0 ∧ l = []) ∨ ∃ b off c, v = .slice (some ⟨b, off, none⟩) l.length c ∧ b < w.heap.size ∧ ∀ j (hj : j < l.length), w.cell? ⟨b, off + j, none⟩ = some (.int .i64 l[j]) := by
  rcases H with ⟨rfl, h0⟩ | ⟨b, off, c, rfl, h1, h2, h3, h4⟩
  · exact .inl ⟨rfl, List.eq_nil_of_length_eq_zero (by rw [← iv_length, h0]; rfl)⟩
  · rw [iv_length]
    exact .inr ⟨b, off, c, rfl, h3, fun j hj => h4 j _ (iv_get l j hj)⟩

theorem Sl.form {w : World} {v : Value} {xs : List Value} (h : Sl w v xs) : ∃ A c, v = .slice A xs.length c := by
  rcases h with ⟨rfl, rfl⟩ | ⟨b, off, c, rfl, _⟩
  · exact ⟨_, _, rfl⟩
  · exact ⟨_, _, rfl⟩
theorem below_drewN {w : World} (n : Nat) : Below w.heap.size w (w.drewN n) := ⟨rfl, rfl, rfl, Nat.le_refl _, fun _ _ => rfl⟩
set_option maxHeartbeats 1000000 in
theorem Ints_len (A B : Option Addr) (n m c d : Nat) (w : World) (h : n ≠ m) : Calls Try.prog 19 #[.slice A n c, .slice B m d] w fun e w' => e = .returned (.bool false) ∧ w = w' := by
  have hz : ((n : Int) != m) = true := by rw [bne_iff_ne]; omega
  clear h
  go_enter Try.func19, Try.ntmps19
  go_wp2
  go_ret
  exact ⟨rfl, rfl⟩

set_option maxHeartbeats 1000000 in
theorem Ints_zero (A B : Option Addr) (c d : Nat) (w : World) : Calls Try.prog 19 #[.slice A 0 c, .slice B 0 d] w fun e w' => e = .returned (.bool true) ∧ w = w' := by
  go_enter Try.func19, Try.ntmps19
  go_wp2
  go_loop [5] (fun i => i = .int .i64 0) (fun _ => 0)
  case atStart => rfl
  case round =>
    obtain rfl := hrel
    go_wp2
    go_ret
    exact ⟨rfl, rfl⟩

set_option maxRecDepth 100000 in
set_option maxHeartbeats 1000000 in
theorem Ints_loop (b off c b2 off2 d : Nat) (la lb : List Int) (w : World) (hl : la.length = lb.length) (hm : la.length ≤ 140737488355328) (h1 : ∀ j (hj : j < la.length), w.cell? ⟨b, off + j, none⟩ = some (.int .i64 la[j])) (h2 : ∀ j (hj : j < lb.length), w.cell? ⟨b2, off2 + j, none⟩ = some (.int .i64 lb[j])) :
    Calls Try.prog 19 #[.slice (some ⟨b, off, none⟩) la.length c, .slice (some ⟨b2, off2, none⟩) la.length d] w fun e w' => e = .returned (.bool (decide (la = lb))) ∧ ∃ n, w' = w.drewN n := by
  have H1 := Lib.hid h1
  have H2 := Lib.hid h2
  have HL := Lib.hid hl
  clear h1 h2 hl
  have hz : ((la.length : Int) != la.length) = false := by simp
  go_enter Try.func19, Try.ntmps19
  go_wp2
  go_loopw [5] (fun i W => ∃ k : Nat, k ≤ la.length ∧ i = .int .i64 k ∧ la.take k = lb.take k ∧ ∃ n, W = w.drewN n) (fun i _ => la.length - (intOf i).toNat)
  case atStart => exact ⟨0, by omega, rfl, by simp, 0, rfl⟩
  case round =>
    obtain ⟨k, hk, rfl, ht, nq, rfl⟩ := hrel
    have HT := Lib.hid ht
    clear ht
    by_cases hlt : k < la.length
    · have hc1 := H1.out k hlt
      have hc2 := H2.out k (by rw [← HL.out]; exact hlt)
      by_cases he : la[k] = lb[k]'(by rw [← HL.out]; exact hlt)
      · have hn : (la[k] != lb[k]'(by rw [← HL.out]; exact hlt)) = false := by simp [he]
        have HE := Lib.hid he
        clear he
        go_wp2
        go_quiet (fail)
        go_wp2
        go_roundw
        case rel =>
          refine ⟨k + 1, by omega, by simp, ?_, _, by first | rfl | exact World.drewN_drewN _ _ _⟩
          · rw [List.take_succ_eq_append_getElem hlt, List.take_succ_eq_append_getElem (by rw [← HL.out]; exact hlt), HT.out, HE.out]
        case measure => simp [intOf]; omega
      · have hn : (la[k] != lb[k]'(by rw [← HL.out]; exact hlt)) = true := by simp [he]
        have HE := Lib.hid he
        clear he
        go_wp2
        go_quiet (fail)
        go_wp2
        go_ret
        refine ⟨?_, _, by first | rfl | exact World.drewN_drewN _ _ _⟩
        · have : ¬ la = lb := fun e => HE.out (by simp [e])
          simp [this]
    · obtain rfl : k = la.length := by omega
      go_wp2
      go_ret
      refine ⟨?_, nq, rfl⟩
      have h1 := HT.out
      rw [List.take_length, HL.out, List.take_length] at h1
      simp [h1]

theorem Ints_any (va vb : Value) (la lb : List Int) (w : World) (h1 : Sl w va (iv la)) (h2 : Sl w vb (iv lb)) (hm : la.length ≤ 140737488355328) :
    Calls Try.prog 19 #[va, vb] w fun e w' => e = .returned (.bool (decide (la = lb))) ∧ Below w.heap.size w w' := by
  by_cases hl : la.length = lb.length
  · rcases h1.ints with ⟨rfl, rfl⟩ | ⟨b, off, c, rfl, h3, h4⟩
    · have hb0 : lb = [] := List.eq_nil_of_length_eq_zero hl.symm
      subst hb0
      obtain ⟨B, d, rfl⟩ := h2.form
      refine (Ints_zero none B 0 d w).mono ?_
      rintro e w' ⟨rfl, rfl⟩
      exact ⟨rfl, Below.refl _ _⟩
    · rcases h2.ints with ⟨rfl, rfl⟩ | ⟨b2, off2, d, rfl, h5, h6⟩
      · have ha0 : la = [] := List.eq_nil_of_length_eq_zero hl
        subst ha0
        refine (Ints_zero _ none c 0 w).mono ?_
        rintro e w' ⟨rfl, rfl⟩
        exact ⟨rfl, Below.refl _ _⟩
      · rw [← hl]
        refine (Ints_loop b off c b2 off2 d la lb w hl hm h4 h6).mono ?_
        rintro e w' ⟨rfl, n, rfl⟩
        exact ⟨rfl, below_drewN n⟩
  · obtain ⟨A, c, rfl⟩ := h1.form
    obtain ⟨B, d, rfl⟩ := h2.form
    refine (Ints_len A B _ _ c d w (by rw [iv_length, iv_length]; exact hl)).mono ?_
    rintro e w' ⟨rfl, rfl⟩
    have : ¬ la = lb := fun e => hl (by rw [e])
    exact ⟨by simp [this], Below.refl _ _⟩
end Go.Proofs.Ythjdgopmcmpdeaa
