/- Both say the same of which messages may be: plain mathematics. -/
import Derived.Test.YtbklgodbjibemaaRight
import Derived.Test.YtbklgodbjibemaaRRight
set_option linter.unusedVariables false
set_option linter.unusedSimpArgs false
namespace Go.Proofs.Ytbklgodbjibemaa
open Go.RowKit

/-- What Right asks, said plainly. -/
def OkAll (m : M) (l : List Int) : Prop := 0 < m.kind ∧ m.kind < 13 ∧ placeB m.frm = true ∧ placeB m.to = true ∧ m.frm ≠ m.to ∧ askerI m * 1048576 < m.call ∧ m.call ≤ (askerI m + 1) * 1048576
theorem same_iff {a b : M} {l r : List Int} : same a b l r = true ↔ a = b ∧ l = r := by simp [same, mEq_iff]
theorem rightB_iff {m : M} {l : List Int} : rightB m l = true ↔ OkAll m l ∧ (bareM m = headM m ∧ bareLL m l = []) ∧ hasB m l = true := by
  unfold rightB OkAll
  simp only [Bool.and_eq_true, decide_eq_true_eq, same_iff, Bool.not_eq_true', beq_eq_false_iff_ne, ne_eq]
  constructor
  · rintro ⟨⟨h1, h2, h3, h4, h5⟩, ⟨h6, h7⟩, h8, h9⟩
    exact ⟨⟨by omega, h2, h3, h4, h5, by omega, by omega⟩, h8, h9⟩
  · rintro ⟨⟨h1, h2, h3, h4, h5, h6, h7⟩, h8, h9⟩
    exact ⟨⟨by omega, h2, h3, h4, h5⟩, ⟨by omega, by omega⟩, h8, h9⟩
theorem rightD_iff {m : M} {l : List Int} : rightD m l = true ↔ (0 < m.kind ∧ m.kind < 13 ∧ m.frm ≠ m.to) ∧ (l.length ≤ 3 ∧ m = onlyM m ∧ l = onlyLL m l) ∧ (∀ p ∈ placesL m l, placeB p = true) ∧ (askerI m * 1048576 < m.call ∧ m.call ≤ (askerI m + 1) * 1048576) ∧ othersP m.frm l ∧ filledB m = true := by
  unfold rightD callB
  simp only [Bool.and_eq_true, decide_eq_true_eq, same_iff, List.all_eq_true, and_assoc]
theorem places_all {m : M} {l : List Int} : (∀ p ∈ placesL m l, placeB p = true) ↔ placeB m.frm = true ∧ placeB m.to = true ∧ placeB m.key = true ∧ placeB m.place = true ∧ (m.pred = -1 ∨ placeB m.pred = true) ∧ ∀ p ∈ l, placeB p = true := by
  unfold placesL four predL
  by_cases h : m.pred = -1
  · simp [h, or_imp, forall_and, and_assoc]
  · simp [h, or_imp, forall_and, and_assoc]
theorem place0 : placeB 0 = true := by decide
theorem It.mk_key (x : It) : x = { noIt with key := x.key } ↔ x.val = 0 ∧ x.ver = 0 ∧ x.gone = false := by
  obtain ⟨k, v, r, g⟩ := x
  simp [noIt]
theorem pair_key {x : It} (h : x = { noIt with key := x.key }) : pairB x = keyB x.key := by
  rw [h]
  simp [pairB, noIt, valB]
theorem right_eq (m : M) (l : List Int) : rightD m l = rightB m l := by
  rw [Bool.eq_iff_iff, rightD_iff, rightB_iff, places_all]
  unfold OkAll
  obtain ⟨kind, call, frm, to, key, slow, done, place, pred, it, code⟩ := m
  simp only [askerI]
  generalize (if asksB _ = true then frm else to) = id
  have p0 := place0
  by_cases h4 : kind = 4
  · subst h4
    simp [onlyM, onlyLL, bareM, bareLL, headM, M.head, noM, hasB, filledB, othersP, listP, p0]
    constructor
    · rintro ⟨h1, ⟨h2, h3, h4⟩, ⟨q1, q2, q3, q4, q5, q6⟩, ⟨c1, c2⟩, rest⟩
      exact ⟨⟨q1, q2, h1, c1, c2⟩, ⟨h3, h4⟩, q3⟩
    · rintro ⟨⟨q1, q2, h1, c1, c2⟩, ⟨h3, h4⟩, x⟩
      exact ⟨h1, ⟨by simp [h4], h3, h4⟩, ⟨q1, q2, (by first | assumption | simp [h3, p0]), (by first | assumption | simp [h3, p0]), (by simp [h3, p0]), by simp [h4]⟩, ⟨c1, c2⟩, by simp [h4]⟩
  by_cases h5 : kind = 5
  · subst h5
    simp [onlyM, onlyLL, bareM, bareLL, headM, M.head, noM, hasB, filledB, othersP, listP, p0]
    constructor
    · rintro ⟨h1, ⟨h2, h3, h4⟩, ⟨q1, q2, q3, q4, q5, q6⟩, ⟨c1, c2⟩, rest⟩
      exact ⟨⟨q1, q2, h1, c1, c2⟩, ⟨h3, h4⟩, rest.2⟩
    · rintro ⟨⟨q1, q2, h1, c1, c2⟩, ⟨h3, h4⟩, x⟩
      exact ⟨h1, ⟨by simp [h4], h3, h4⟩, ⟨q1, q2, (by first | assumption | simp [h3, p0]), (by first | assumption | simp [h3, p0]), (by simp [h3, p0]), by simp [h4]⟩, ⟨c1, c2⟩, ⟨by simp [h4], x⟩⟩
  by_cases h6 : kind = 6
  · subst h6
    simp [onlyM, onlyLL, bareM, bareLL, headM, M.head, noM, hasB, filledB, othersP, listP, p0]
    constructor
    · rintro ⟨h1, ⟨h2, ⟨e1, e2, e3, e4, e5, e6, e7⟩, h4⟩, ⟨q1, q2, q3, q4, q5, q6⟩, ⟨c1, c2⟩, rest⟩
      refine ⟨⟨q1, q2, h1, c1, c2⟩, ⟨⟨e1, e2, e3, e4, e5, e7⟩, h4⟩, ?_, ?_⟩
      · rw [pair_key e6]; exact rest.2
      · rw [itEq_iff]; exact e6
    · rintro ⟨⟨q1, q2, h1, c1, c2⟩, ⟨⟨e1, e2, e3, e4, e5, e7⟩, h4⟩, x, y⟩
      rw [itEq_iff] at y
      exact ⟨h1, ⟨by simp [h4], ⟨e1, e2, e3, e4, e5, y, e7⟩, h4⟩, ⟨q1, q2, (by simp [e1, p0]), (by simp [e4, p0]), (by simp [e5, p0]), by simp [h4]⟩, ⟨c1, c2⟩, by simp [h4], by rw [← pair_key y]; exact x⟩
  by_cases h7 : kind = 7
  · subst h7
    simp [onlyM, onlyLL, bareM, bareLL, headM, M.head, noM, hasB, filledB, othersP, listP, p0]
    constructor
    · rintro ⟨h1, ⟨h2, h3⟩, ⟨q1, q2, q3, q4, q5, q6⟩, ⟨c1, c2⟩, n1, n2⟩
      exact ⟨⟨q1, q2, h1, c1, c2⟩, h3, q5, @decide_eq_true _ _ ⟨⟨q6, n1, n2⟩, h2⟩⟩
    · rintro ⟨⟨q1, q2, h1, c1, c2⟩, h3, q5, x⟩
      have x := @of_decide_eq_true _ _ x
      exact ⟨h1, ⟨x.2, h3⟩, ⟨q1, q2, (by simp [h3, p0]), (by simp [h3, p0]), q5, x.1.1⟩, ⟨c1, c2⟩, x.1.2.1, x.1.2.2⟩
  by_cases h10 : kind = 10
  · subst h10
    simp [onlyM, onlyLL, bareM, bareLL, headM, M.head, noM, hasB, filledB, othersP, listP, p0]
    constructor
    · rintro ⟨h1, ⟨h2, h3, h4⟩, ⟨q1, q2, q3, q4, q5, q6⟩, ⟨c1, c2⟩, rest⟩
      exact ⟨⟨q1, q2, h1, c1, c2⟩, ⟨h3, h4⟩, q4⟩
    · rintro ⟨⟨q1, q2, h1, c1, c2⟩, ⟨h3, h4⟩, x⟩
      exact ⟨h1, ⟨by simp [h4], h3, h4⟩, ⟨q1, q2, (by first | assumption | simp [h3, p0]), (by first | assumption | simp [h3, p0]), (by simp [h3, p0]), by simp [h4]⟩, ⟨c1, c2⟩, by simp [h4]⟩
  by_cases h11 : kind = 11
  · subst h11
    simp [onlyM, onlyLL, bareM, bareLL, headM, M.head, noM, hasB, filledB, othersP, listP, p0]
    constructor
    · rintro ⟨h1, ⟨h2, h3, h4⟩, ⟨q1, q2, q3, q4, q5, q6⟩, ⟨c1, c2⟩, rest⟩
      exact ⟨⟨q1, q2, h1, c1, c2⟩, ⟨h3, h4⟩, rest.2⟩
    · rintro ⟨⟨q1, q2, h1, c1, c2⟩, ⟨h3, h4⟩, x⟩
      exact ⟨h1, ⟨by simp [h4], h3, h4⟩, ⟨q1, q2, (by first | assumption | simp [h3, p0]), (by first | assumption | simp [h3, p0]), (by simp [h3, p0]), by simp [h4]⟩, ⟨c1, c2⟩, ⟨by simp [h4], x⟩⟩
  by_cases h12 : kind = 12
  · subst h12
    simp [onlyM, onlyLL, bareM, bareLL, headM, M.head, noM, hasB, filledB, othersP, listP, p0]
    constructor
    · rintro ⟨h1, ⟨h2, h3, h4⟩, ⟨q1, q2, q3, q4, q5, q6⟩, ⟨c1, c2⟩, rest⟩
      exact ⟨⟨q1, q2, h1, c1, c2⟩, ⟨h3, h4⟩, rest.2⟩
    · rintro ⟨⟨q1, q2, h1, c1, c2⟩, ⟨h3, h4⟩, x⟩
      exact ⟨h1, ⟨by simp [h4], h3, h4⟩, ⟨q1, q2, (by first | assumption | simp [h3, p0]), (by first | assumption | simp [h3, p0]), (by simp [h3, p0]), by simp [h4]⟩, ⟨c1, c2⟩, ⟨by simp [h4], x⟩⟩
  simp [onlyM, onlyLL, bareM, bareLL, headM, M.head, noM, hasB, filledB, othersP, listP, p0, h4, h5, h6, h7, h10, h11, h12]
  constructor
  · rintro ⟨⟨k1, k2, h1⟩, ⟨h2, h3, h4⟩, ⟨q1, q2, q3, q4, q5, q6⟩, ⟨c1, c2⟩, rest⟩
    exact ⟨⟨k1, k2, q1, q2, h1, c1, c2⟩, h3, h4⟩
  · rintro ⟨⟨k1, k2, q1, q2, h1, c1, c2⟩, h3, h4⟩
    exact ⟨⟨k1, k2, h1⟩, ⟨by simp [h4], h3, h4⟩, ⟨q1, q2, (by simp [h3, p0]), (by simp [h3, p0]), (by simp [h3, p0]), by simp [h4]⟩, ⟨c1, c2⟩, by simp [h4]⟩
end Go.Proofs.Ytbklgodbjibemaa
