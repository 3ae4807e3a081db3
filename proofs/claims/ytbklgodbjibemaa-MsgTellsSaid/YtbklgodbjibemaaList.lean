/- Lists of numbers: two the same, one in it, all others and unlike; the document's own: for any lists. -/
import Derived.Test.YtbklgodbjibemaaRec
set_option linter.unusedVariables false
set_option linter.unusedSimpArgs false
namespace Go.Proofs.Ytbklgodbjibemaa
open Go.RowKit Go.Shelf

theorem el22 : ElOf Try.prog 22 3 (.int .i64 0) 8 := ⟨Try.underlying22, by kernel_rfl, rfl, by decide⟩
theorem iv_take (l : List Int) (k : Nat) : (iv l).take k = iv (l.take k) := by simp [iv, List.map_take]
theorem iv_drop (l : List Int) (k : Nat) : (iv l).drop k = iv (l.drop k) := by simp [iv, List.map_drop]
theorem Sl.ints {w : World} {v : Value} {l : List Int} (H : Sl w v (iv l)) : (v = .slice none 0 0 ∧ l = []) ∨ ∃ b off c, v = .slice (some ⟨b, off, none⟩) l.length c ∧ l.length ≤ c ∧ (c : Int) ≤ 9223372036854775807 ∧ b < w.heap.size ∧ ∀ j (hj : j < l.length), w.cell? ⟨b, off + j, none⟩ = some (.int .i64 l[j]) := by
  rcases H with ⟨rfl, h0⟩ | ⟨b, off, c, rfl, h1, h2, h3, h4⟩
  · exact .inl ⟨rfl, List.eq_nil_of_length_eq_zero (by rw [← iv_length, h0]; rfl)⟩
  · rw [iv_length] at *
    exact .inr ⟨b, off, c, rfl, h1, by unfold maxLen at h2; omega, h3, fun j hj => h4 j _ (iv_get l j hj)⟩

set_option maxHeartbeats 1000000 in
theorem Equal_len (A B : Option Addr) (n m c d : Nat) (w : World) (h : n ≠ m) : Calls Try.prog 37 #[.slice A n c, .slice B m d] w fun e w' => e = .returned (.bool false) ∧ w = w' := by
  have hz : ((n : Int) != m) = true := by rw [bne_iff_ne]; omega
  clear h
  go_enter Try.func37, Try.ntmps37
  go_wp2
  go_ret
  exact ⟨rfl, rfl⟩

set_option maxHeartbeats 1000000 in
theorem Equal_zero (A B : Option Addr) (c d : Nat) (w : World) : Calls Try.prog 37 #[.slice A 0 c, .slice B 0 d] w fun e w' => e = .returned (.bool true) ∧ w = w' := by
  go_enter Try.func37, Try.ntmps37
  go_wp2
  go_loop [13] (fun i => i = .int .i64 0) (fun _ => 0)
  case atStart => rfl
  case round =>
    obtain rfl := hrel
    go_wp2
    go_ret
    exact ⟨rfl, rfl⟩

set_option maxRecDepth 100000 in
set_option maxHeartbeats 1000000 in
theorem Equal_loop (b off c b2 off2 d : Nat) (la lb : List Int) (w : World) (hl : la.length = lb.length) (hm : (la.length : Int) ≤ 9223372036854775807) (h1 : ∀ j (hj : j < la.length), w.cell? ⟨b, off + j, none⟩ = some (.int .i64 la[j])) (h2 : ∀ j (hj : j < lb.length), w.cell? ⟨b2, off2 + j, none⟩ = some (.int .i64 lb[j])) :
    Calls Try.prog 37 #[.slice (some ⟨b, off, none⟩) la.length c, .slice (some ⟨b2, off2, none⟩) la.length d] w fun e w' => e = .returned (.bool (decide (la = lb))) ∧ ∃ n, w' = w.drewN n := by
  have H1 := Lib.hid h1
  have H2 := Lib.hid h2
  have HL := Lib.hid hl
  clear h1 h2 hl
  have hz : ((la.length : Int) != la.length) = false := by simp
  go_enter Try.func37, Try.ntmps37
  go_wp2
  go_loopw [13] (fun i W => ∃ k : Nat, k ≤ la.length ∧ i = .int .i64 k ∧ la.take k = lb.take k ∧ ∃ n, W = w.drewN n) (fun i _ => la.length - (intOf i).toNat)
  case atStart => exact ⟨0, by omega, rfl, by simp, 0, rfl⟩
  case round =>
    obtain ⟨k, hk, rfl, ht, nq, rfl⟩ := hrel
    have HT := Lib.hid ht
    clear ht
    by_cases hlt : k < la.length
    · have hc1 := H1.out k hlt
      have hc2 := H2.out k (by rw [← HL.out]; exact hlt)
      by_cases he : la[k] = lb[k]'(by rw [← HL.out]; exact hlt)
      · have hn : (la[k] != lb[k]'(by rw [← HL.out]; exact hlt)) = false := by simp [he]
        have HE := Lib.hid he
        clear he
        go_wp2
        go_quiet (fail)
        go_wp2
        go_roundw
        case rel =>
          refine ⟨k + 1, by omega, by go_num, ?_, _, by first | rfl | exact World.drewN_drewN _ _ _⟩
          · rw [List.take_succ_eq_append_getElem hlt, List.take_succ_eq_append_getElem (by rw [← HL.out]; exact hlt), HT.out, HE.out]
        case measure => simp [intOf]; omega
      · have hn : (la[k] != lb[k]'(by rw [← HL.out]; exact hlt)) = true := by simp [he]
        have HE := Lib.hid he
        clear he
        go_wp2
        go_quiet (fail)
        go_wp2
        go_ret
        refine ⟨?_, _, by first | rfl | exact World.drewN_drewN _ _ _⟩
        · have : ¬ la = lb := fun e => HE.out (by simp [e])
          simp [this]
    · obtain rfl : k = la.length := by omega
      go_wp2
      go_ret
      refine ⟨?_, nq, rfl⟩
      have h1 := HT.out
      rw [List.take_length, HL.out, List.take_length] at h1
      simp [h1]

theorem Equal_any (va vb : Value) (la lb : List Int) (w : World) (h1 : Sl w va (iv la)) (h2 : Sl w vb (iv lb)) :
    Calls Try.prog 37 #[va, vb] w fun e w' => e = .returned (.bool (decide (la = lb))) ∧ Below w.heap.size w w' := by
  by_cases hl : la.length = lb.length
  · rcases h1.ints with ⟨rfl, rfl⟩ | ⟨b, off, c, rfl, hc, hcm, h3, h4⟩
    · have hb0 : lb = [] := List.eq_nil_of_length_eq_zero hl.symm
      subst hb0
      obtain ⟨B, d, rfl⟩ := h2.form
      refine (Equal_zero none B 0 d w).mono ?_
      rintro e w' ⟨rfl, rfl⟩
      exact ⟨rfl, Below.refl _ _⟩
    · rcases h2.ints with ⟨rfl, rfl⟩ | ⟨b2, off2, d, rfl, _, _, h5, h6⟩
      · have ha0 : la = [] := List.eq_nil_of_length_eq_zero hl
        subst ha0
        refine (Equal_zero _ none c 0 w).mono ?_
        rintro e w' ⟨rfl, rfl⟩
        exact ⟨rfl, Below.refl _ _⟩
      · rw [← hl]
        refine (Equal_loop b off c b2 off2 d la lb w hl (by omega) h4 h6).mono ?_
        rintro e w' ⟨rfl, n, rfl⟩
        exact ⟨rfl, below_drewN n⟩
  · obtain ⟨A, c, rfl⟩ := h1.form
    obtain ⟨B, d, rfl⟩ := h2.form
    refine (Equal_len A B _ _ c d w (by rw [iv_length, iv_length]; exact hl)).mono ?_
    rintro e w' ⟨rfl, rfl⟩
    have : ¬ la = lb := fun e => hl (by rw [e])
    exact ⟨by simp [this], Below.refl _ _⟩

/-! ### Is one of them -/
set_option maxRecDepth 100000 in
set_option maxHeartbeats 1000000 in
theorem Index_any (v : Value) (l : List Int) (p : Int) (w : World) (h : Sl w v (iv l)) :
    Calls Try.prog 41 #[v, .int .i64 p] w fun e w' => ∃ r : Int, e = .returned (.int .i64 r) ∧ decide (0 ≤ r) = decide (p ∈ l) ∧ w = w' := by
  rcases h.ints with ⟨rfl, rfl⟩ | ⟨b, off, c, rfl, hc, hcm, h3, h4⟩
  · go_enter Try.func41, Try.ntmps41
    go_wp2
    go_loop [8] (fun i => i = .int .i64 0) (fun _ => 0)
    case atStart => rfl
    case round =>
      obtain rfl := hrel
      go_wp2
      go_ret
      exact ⟨_, rfl, by simp, rfl⟩
  · have H4 := Lib.hid h4
    clear h4 h h3
    go_enter Try.func41, Try.ntmps41
    go_wp2
    go_loop [8] (fun i => ∃ k : Nat, k ≤ l.length ∧ i = .int .i64 k ∧ p ∉ l.take k) (fun i => l.length - (intOf i).toNat)
    case atStart => exact ⟨0, by omega, rfl, by simp⟩
    case round =>
      obtain ⟨k, hk, rfl, ht⟩ := hrel
      have HT := Lib.hid ht
      clear ht
      by_cases hlt : k < l.length
      · have hc1 := H4.out k hlt
        by_cases he : p = l[k]
        · have hn : (p == l[k]) = true := by simp [he]
          have HE := Lib.hid he
          clear he
          go_wp2
          go_ret
          refine ⟨_, rfl, ?_, rfl⟩
          have : p ∈ l := by rw [HE.out]; exact List.getElem_mem hlt
          simp [this]
        · have hn : (p == l[k]) = false := by simp [he]
          have HE := Lib.hid he
          clear he
          go_wp2
          go_round
          case rel =>
            refine ⟨k + 1, by omega, by go_num, ?_⟩
            rw [List.take_succ_eq_append_getElem hlt, List.mem_append]
            rintro (h | h)
            · exact HT.out h
            · simp at h; exact HE.out h
          case measure => simp [intOf]; omega
      · obtain rfl : k = l.length := by omega
        go_wp2
        go_ret
        refine ⟨_, rfl, ?_, rfl⟩
        have := HT.out
        rw [List.take_length] at this
        simp [this]
theorem Contains_any (v : Value) (l : List Int) (p : Int) (w : World) (h : Sl w v (iv l)) :
    Calls Try.prog 39 #[v, .int .i64 p] w fun e w' => e = .returned (.bool (decide (p ∈ l))) ∧ w = w' := by
  go_enter Try.func39, Try.ntmps39
  go_wp2_with fail
  refine (Index_any v l p w h).mono ?_; rintro e w1 ⟨r, rfl, hr, rfl⟩
  go_wp2_with fail
  go_ret
  exact ⟨rfl, rfl⟩

/-! ### Others, unlike -/
def othersP (id : Int) (l : List Int) : Prop := id ∉ l ∧ l.Nodup
instance (id : Int) (l : List Int) : Decidable (othersP id l) := by unfold othersP; exact inferInstance
theorem othersP_succ (id : Int) (l : List Int) (k : Nat) (hk : k < l.length) : othersP id (l.take (k + 1)) ↔ othersP id (l.take k) ∧ l[k] ≠ id ∧ l[k] ∉ l.take k := by
  unfold othersP
  rw [List.take_succ_eq_append_getElem hk, List.nodup_append]
  simp only [List.mem_append, List.mem_singleton, List.nodup_cons, List.not_mem_nil, not_false_eq_true, List.nodup_nil, and_self, true_and]
  constructor
  · rintro ⟨h1, h2, h3⟩
    exact ⟨⟨fun h => h1 (.inl h), h2⟩, fun h => h1 (.inr h.symm), fun h => h3 _ h _ rfl rfl⟩
  · rintro ⟨⟨h1, h2⟩, h3, h4⟩
    exact ⟨fun h => h.elim h1 (fun e => h3 e.symm), h2, fun a ha b hb e => h4 (by rw [← hb, ← e]; exact ha)⟩
theorem othersP_take (id : Int) (l : List Int) (k : Nat) (h : othersP id l) : othersP id (l.take k) := ⟨fun hm => h.1 (List.mem_of_mem_take hm), h.2.sublist (List.take_sublist k l)⟩

set_option maxRecDepth 100000 in
set_option maxHeartbeats 1000000 in
theorem others_any (id : Int) (v : Value) (l : List Int) (w : World) (h : Sl w v (iv l)) :
    Calls Try.prog 32 #[.int .i64 id, v] w fun e w' => e = .returned (.bool (decide (othersP id l))) ∧ w = w' := by
  have HS := Lib.hid h
  rcases h.ints with ⟨rfl, rfl⟩ | ⟨b, off, c, rfl, hc, hcm, h3, h4⟩
  · go_enter Try.func32, Try.ntmps32
    go_wp2
    go_loop [9] (fun i => i = .int .i64 0) (fun _ => 0)
    case atStart => rfl
    case round =>
      obtain rfl := hrel
      go_wp2
      go_ret
      exact ⟨ret_b (by simp [othersP]), rfl⟩
  · have H4 := Lib.hid h4
    clear h4 h h3
    go_enter Try.func32, Try.ntmps32
    go_wp2
    go_loop [9] (fun i => ∃ k : Nat, k ≤ l.length ∧ i = .int .i64 k ∧ othersP id (l.take k)) (fun i => l.length - (intOf i).toNat)
    case atStart => exact ⟨0, by omega, rfl, by simp [othersP]⟩
    case round =>
      obtain ⟨k, hk, rfl, ht⟩ := hrel
      have HT := Lib.hid ht
      clear ht
      by_cases hlt : k < l.length
      · have hc1 := H4.out k hlt
        have HI := Lib.hid (othersP_succ id l k hlt)
        by_cases he : l[k] = id
        · have hn : (l[k] == id) = true := by simp [he]
          have HE := Lib.hid he
          clear he
          go_wp2
          go_ret
          refine ⟨?_, rfl⟩
          have : ¬ othersP id l := fun h => (HI.out.1 (othersP_take id l _ h)).2.1 HE.out
          simp [this]
        · have hn : (l[k] == id) = false := by simp [he]
          have HE := Lib.hid he
          clear he
          have hcut := fun A c' (hs : Sl w (.slice A (k - 0) c') (((iv l).take k).drop 0)) => Contains_any (.slice A (k - 0) c') (l.take k) l[k] w (by rw [List.drop_zero, iv_take] at hs; exact hs)
          have HC := Lib.hid hcut
          clear hcut
          go_wp2_with (with_reducible show wpList _ _ _ (Oper.mk _ (Op.slice _ _ _ _ _) _ _ _ _ :: _) _ _
                       refine wpList_cutw el22 rfl _ _ _ rfl _ _ rfl HS.out 0 k (by omega) (by rw [iv_length]; exact hk) (.inr ⟨rfl, rfl⟩) (.inl rfl) ?_
                       intro A6 c6 s6)
          refine (HC.out _ _ s6).mono ?_; rintro e w1 ⟨rfl, rfl⟩
          by_cases hm : l[k] ∈ l.take k
          · rw [decide_eq_true hm]
            have HM := Lib.hid hm
            clear hm
            go_wp2_with fail
            go_ret
            refine ⟨?_, rfl⟩
            have : ¬ othersP id l := fun h => (HI.out.1 (othersP_take id l _ h)).2.2 HM.out
            simp [this]
          · rw [decide_eq_false hm]
            have HM := Lib.hid hm
            clear hm
            go_wp2_with fail
            go_round
            case rel => exact ⟨k + 1, by omega, by go_num, HI.out.2 ⟨HT.out, HE.out, HM.out⟩⟩
            case measure => simp [intOf]; omega
      · obtain rfl : k = l.length := by omega
        go_wp2
        go_ret
        have := HT.out
        rw [List.take_length] at this
        exact ⟨by simp [this], rfl⟩
end Go.Proofs.Ytbklgodbjibemaa
