/- The owner, as mathematics: it is one of them, none lies nearer, and so it is told. -/
import Derived.Test.YtnbabohhmcbhcaaDoorOwner
set_option linter.unusedVariables false
set_option linter.unusedSimpArgs false
namespace Go.Proofs.YtnbabohhmcbhcaaDoor
open Go.RowKit

theorem oAt_spec (key : Int) (l : List Int) : (l = [] ∧ oAt key l = (0, 65536)) ∨ (∃ x ∈ l, oAt key l = (pl x, far key x)) ∧ ∀ x ∈ l, (oAt key l).2 ≤ far key x := by
  suffices h : ∀ n (l : List Int), l.length = n → ((l = [] ∧ oAt key l = (0, 65536)) ∨ (∃ x ∈ l, oAt key l = (pl x, far key x)) ∧ ∀ x ∈ l, (oAt key l).2 ≤ far key x) from h _ l rfl
  intro n
  induction n with
  | zero => intro l hl; exact .inl ⟨List.eq_nil_of_length_eq_zero hl, by rw [List.eq_nil_of_length_eq_zero hl]; rfl⟩
  | succ n ih =>
    intro l hl
    right
    rcases List.eq_nil_or_concat l with rfl | ⟨l', y, rfl⟩
    · simp at hl
    · rw [List.concat_eq_append] at hl ⊢
      rw [oAt_snoc]
      have hy := far_bd key y
      rcases ih l' (by simpa using hl) with ⟨rfl, e⟩ | ⟨⟨x, hx, e⟩, hall⟩
      · rw [e]
        rw [show oStep key (0, 65536) y = (pl y, far key y) from if_pos hy.2]
        exact ⟨⟨y, by simp, rfl⟩, by simp⟩
      · rw [e] at hall ⊢
        unfold oStep
        simp only at hall ⊢
        by_cases h : far key y < far key x
        · rw [if_pos h]
          refine ⟨⟨y, by simp, rfl⟩, fun z hz => ?_⟩
          rcases List.mem_append.1 hz with hz | hz
          · have := hall z hz; simp only; omega
          · rw [List.mem_singleton.1 hz]; exact Int.le_refl _
        · rw [if_neg h]
          refine ⟨⟨x, by simp [hx], rfl⟩, fun z hz => ?_⟩
          rcases List.mem_append.1 hz with hz | hz
          · exact hall z hz
          · rw [List.mem_singleton.1 hz]; simp only; omega
theorem own_mem {key : Int} {l : List Int} (h : l ≠ []) : ∃ x ∈ l, own key l = pl x := by
  rcases oAt_spec key l with ⟨e, _⟩ | ⟨⟨x, hx, e⟩, _⟩
  · exact absurd e h
  · exact ⟨x, hx, by unfold own; rw [e]⟩
theorem own_least {key : Int} {l : List Int} {z : Int} (hz : z ∈ l) : far key (own key l) ≤ far key z := by
  rcases oAt_spec key l with ⟨e, _⟩ | ⟨⟨x, hx, e⟩, h⟩
  · rw [e] at hz; cases hz
  · unfold own
    have := h z hz
    rw [e] at this ⊢
    rw [far_plr]
    exact this
theorem own_bd (key : Int) (l : List Int) : 0 ≤ own key l ∧ own key l < 65536 := by have := oAt_bd key l; exact ⟨this.1, this.2.1⟩
theorem own_num (key : Int) (l : List Int) : Num (own key l) := by have := own_bd key l; exact ⟨by omega, by omega⟩
theorem pl_own (key : Int) (l : List Int) : pl (own key l) = own key l := by have := own_bd key l; unfold pl; omega
/-- It is told by that alone. -/
theorem own_is {key : Int} {l : List Int} {z : Int} (hz : z ∈ l) (h : ∀ x ∈ l, far key z ≤ far key x) : own key l = pl z := by
  have h0 : l ≠ [] := by rintro rfl; cases hz
  obtain ⟨x, hx, e⟩ := own_mem (key := key) h0
  have h1 := own_least (key := key) hz
  have h2 := h x hx
  rw [e, far_plr] at h1
  rw [e]
  unfold far at h1 h2
  unfold pl
  omega
theorem own_self {l : List Int} {z : Int} (hz : z ∈ l) : own z l = pl z := own_is hz fun x _ => by have := far_bd z x; unfold far at *; omega
/-- Each key is up to the owner from another one. -/
theorem up_own {key : Int} {l : List Int} {z : Int} (hz : z ∈ l) (hne : pl z ≠ own key l) : upB z key (own key l) = true := by
  have h1 := own_least (key := key) hz
  have h2 := own_bd key l
  generalize own key l = o at *
  unfold upB inB rnd
  by_cases hk : pl key = pl o
  · simp [hk]
  · have hp : 0 < far z o := by unfold far pl at *; omega
    have hc : 0 < far z key ∧ far z key < far z o := by unfold far pl at *; omega
    rw [if_pos hp]
    simp [hc]
/-- The share of each is a whole stretch. -/
theorem own_next {key : Int} {l : List Int} (h0 : l ≠ []) (h : ∀ x ∈ l, pl x ≠ pl key) : own (pl key) l = own (pl key + 1) l := by
  obtain ⟨x, hx, e⟩ := own_mem (key := pl key + 1) h0
  rw [e]
  refine own_is hx fun y hy => ?_
  have h1 := own_least (key := pl key + 1) hy
  rw [e, far_plr] at h1
  have h2 := h x hx
  have h3 := h y hy
  unfold far pl at *
  omega
theorem own_at {key : Int} {l : List Int} (h0 : l ≠ []) : own (pl key) l = pl key ↔ ∃ x ∈ l, pl x = pl key := by
  constructor
  · intro h
    obtain ⟨x, hx, e⟩ := own_mem (key := pl key) h0
    exact ⟨x, hx, by rw [← e, h]⟩
  · rintro ⟨x, hx, e⟩
    rw [← e]
    have := own_is (key := pl x) hx fun y _ => by have := far_bd (pl x) y; unfold far pl at *; omega
    exact this
theorem own_behind {key : Int} {l : List Int} {z : Int} (hz : z ∈ l) (h1 : pl z ≠ pl key) (h2 : own (pl key + 1) l ≠ pl key) : far (pl key) (own (pl key + 1) l) ≤ far (pl key) z := by
  have h3 := own_least (key := pl key + 1) hz
  have h4 := own_bd (pl key + 1) l
  generalize own (pl key + 1) l = o at *
  unfold far pl at *
  omega
end Go.Proofs.YtnbabohhmcbhcaaDoor
