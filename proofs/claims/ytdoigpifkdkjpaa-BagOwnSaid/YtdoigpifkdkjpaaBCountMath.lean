/- 'BagCounts': what holds behind each deed. -/
import Derived.Test.YtdoigpifkdkjpaaBTellLaw
import Derived.Test.YtdoigpifkdkjpaaBDd
set_option linter.unusedVariables false
set_option maxRecDepth 100000
set_option linter.unusedSimpArgs false
namespace Go.Proofs.Ytdoigpifkdkjpaa
open Go.RowKit Go.Shelf Ms

structure InvB (m sent taken n : Int) (gs : List Gr) : Prop where
  sum : sent = gs.length + taken + n
  t0 : 0 ≤ taken
  n0 : 0 ≤ n
  few : sent ≤ m
  room : gs.length ≤ 400
  short : ∀ g ∈ gs, g.bytes.length ≤ 120
theorem InvB.same {m s t n : Int} {gs : List Gr} (h : InvB m s t n gs) : InvB (m + 1) s t n gs := ⟨h.sum, h.t0, h.n0, by have := h.few; omega, h.room, h.short⟩
theorem InvB.send {m s t n : Int} {gs : List Gr} (h : InvB m s t n gs) (hm : m ≤ 60) (g : Gr) : InvB (m + 1) (s + 1) t (sentS (gs, n) g).2 (sentS (gs, n) g).1 := by
  obtain ⟨h1, h2, h3, h4, h5, h6⟩ := h
  unfold sentS
  dsimp only
  split
  · rename_i hc
    show InvB (m + 1) (s + 1) t n (gs ++ [g])
    refine ⟨by simp; omega, h2, h3, by omega, by simp; omega, fun x hx => ?_⟩
    rcases List.mem_append.1 hx with hx | hx
    · exact h6 x hx
    · simp at hx; subst hx; exact hc.2
  · have hw : IntKind.i64.wrap (n + 1) = n + 1 := by rw [IntKind.wrap_i64]; omega
    rw [hw]
    show InvB (m + 1) (s + 1) t (n + 1) gs
    exact ⟨by omega, h2, by omega, by omega, h5, h6⟩
theorem InvB.but {m s t n : Int} {gs : List Gr} (h : InvB m s t n gs) {k : Nat} (hk : k < gs.length) : InvB (m + 1) s (t + 1) n (butK gs k) := by
  obtain ⟨h1, h2, h3, h4, h5, h6⟩ := h
  have := butK_len gs k hk
  exact ⟨by omega, by omega, h3, by omega, by omega, fun x hx => h6 x ((butK_sub gs k).mem hx)⟩
theorem InvB.drop {m s t n : Int} {gs : List Gr} (h : InvB m s t n gs) (hm : m ≤ 60) {k : Nat} (hk : k < gs.length) : InvB (m + 1) s t (IntKind.i64.wrap (n + 1)) (butK gs k) := by
  obtain ⟨h1, h2, h3, h4, h5, h6⟩ := h
  have := butK_len gs k hk
  have hw : IntKind.i64.wrap (n + 1) = n + 1 := by rw [IntKind.wrap_i64]; omega
  rw [hw]
  exact ⟨by omega, h2, by omega, by omega, by omega, fun x hx => h6 x ((butK_sub gs k).mem hx)⟩
theorem harmS_len (gs : List Gr) (k i : Nat) (z : UInt8) : (harmS gs k i z).length = gs.length := by
  unfold harmS
  split <;> simp
theorem harmS_at {gs : List Gr} {k : Nat} (hk : k < gs.length) (i : Nat) (z : UInt8) : ((harmS gs k i z).getD k noG).harm = true := by
  unfold harmS
  rw [List.getElem?_eq_getElem hk]
  simp [hk]
theorem InvB.harm {m s t n : Int} {gs : List Gr} (h : InvB m s t n gs) (k i : Nat) (z : UInt8) : InvB (m + 1) s t n (harmS gs k i z) := by
  obtain ⟨h1, h2, h3, h4, h5, h6⟩ := h
  refine ⟨by rw [harmS_len]; exact h1, h2, h3, by omega, by rw [harmS_len]; exact h5, fun x hx => ?_⟩
  unfold harmS at hx
  split at hx
  · rename_i g hg
    rcases List.mem_or_eq_of_mem_set hx with hx | rfl
    · exact h6 x hx
    · simp; exact h6 g (List.mem_of_getElem? hg)
  · exact h6 x hx
theorem pick_isSome (gs : List Gr) (i : Int) : (pick gs i).isSome = (decide (0 ≤ i) && decide (i < (gs.length : Int))) := by
  unfold pick
  by_cases h : 0 ≤ i ∧ i < gs.length
  · rw [if_pos h]; simp [h.1, h.2]
  · rw [if_neg h]
    simp only [Option.isSome_none]
    rcases Int.lt_or_le i 0 with h1 | h1
    · simp; omega
    · have : ¬ i < gs.length := fun h2 => h ⟨h1, h2⟩
      simp; omega
end Go.Proofs.Ytdoigpifkdkjpaa
