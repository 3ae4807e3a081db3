/- What the document's own reading takes, number by number. Plain mathematics. -/
import Derived.Test.YtaacjpcckinaiaaGreatWReadMath
set_option linter.unusedVariables false
set_option maxRecDepth 100000
set_option linter.unusedSimpArgs false
namespace Go.Proofs.YtaacjpcckinaiaaGreat
open Go.RowKit Go.Shelf Ms

/-- So many numbers that stand at the beginning, and what is behind them. -/
def takeI : Nat → List UInt8 → Option (List Int × List UInt8)
  | 0, bs => some ([], bs)
  | k + 1, bs => (takeI k bs).bind fun s => (tI s.2).map fun r => (s.1 ++ [r.1], r.2)
theorem takeI_none {k : Nat} {bs : List UInt8} (h : takeI k bs = none) : ∀ j, takeI (k + j) bs = none
  | 0 => h
  | j + 1 => by
    show (takeI (k + j) bs).bind _ = none
    rw [takeI_none h j]
    rfl
theorem takeI_len : ∀ {k : Nat} {bs : List UInt8} {s : List Int × List UInt8}, takeI k bs = some s → s.1.length = k ∧ s.2.length ≤ bs.length
  | 0, bs, s, h => by
    obtain rfl := Option.some.inj h
    exact ⟨rfl, Nat.le_refl _⟩
  | k + 1, bs, s, h => by
    obtain ⟨s', h1, h2⟩ := Option.bind_eq_some_iff.1 h
    obtain ⟨r, h3, rfl⟩ := Option.map_eq_some_iff.1 h2
    have := takeI_len h1
    have := tI_len h3
    simp only [List.length_append, List.length_cons, List.length_nil]
    omega
theorem takeI_step {k : Nat} {bs : List UInt8} {s : List Int × List UInt8} (h : takeI k bs = some s) : takeI (k + 1) bs = (tI s.2).map fun r => (s.1 ++ [r.1], r.2) := by
  show (takeI k bs).bind _ = _
  rw [h]
  rfl
theorem takeI_heads {m : M} (h : OkHead m) (r : List UInt8) : takeI 4 (heads.flatMap (dB m []) ++ r) = some ([m.kind, m.call, m.frm, m.to], r) := by
  obtain ⟨k0, k1, c0, c1, f0, f1, t0, t1⟩ := h
  simp only [takeI, heads, List.flatMap_cons, List.flatMap_nil, List.append_nil, dB, geti, Int.add_zero, List.append_assoc, Option.bind_some]
  rw [tI_num m.kind (by omega) (by omega)]
  simp only [Option.map_some, Option.bind_some]
  rw [tI_num m.call (by omega) (by omega)]
  simp only [Option.map_some, Option.bind_some]
  rw [tI_num m.frm (by omega) (by omega)]
  simp only [Option.map_some, Option.bind_some]
  rw [tI_num m.to (by omega) (by omega)]
  rfl
theorem parse_4 (m : M) (bs : List UInt8) : parse (tail 4) m [] bs = (takeI 2 bs).map fun s => ({ m with key := s.1.getD 0 0, slow := decide (s.1.getD 1 0 = 1) }, [], s.2) := by
  simp only [tail_4, parse, takeD, takeI, Option.bind_some]
  cases tI bs with
  | none => rfl
  | some a =>
    simp only [Option.map_some, Option.bind_some]
    cases tI a.2 with
    | none => rfl
    | some b => simp [seti, setb]
theorem parse_10 (m : M) (bs : List UInt8) : parse (tail 10) m [] bs = (takeI 2 bs).map fun s => ({ m with place := s.1.getD 0 0, done := decide (s.1.getD 1 0 = 1) }, [], s.2) := by
  simp only [tail_10, parse, takeD, takeI, Option.bind_some]
  cases tI bs with
  | none => rfl
  | some a =>
    simp only [Option.map_some, Option.bind_some]
    cases tI a.2 with
    | none => rfl
    | some b => simp [seti, setb]
theorem parse_5 (m : M) (bs : List UInt8) : parse (tail 5) m [] bs = (tP bs).map fun r => ({ m with it := r.1 }, [], r.2) := by
  simp only [tail_5, parse, takeD]
  cases tP bs <;> rfl
theorem parse_6 (m : M) (bs : List UInt8) : parse (tail 6) m [] bs = (tT bs).map fun r => ({ m with it := { m.it with key := r.1 } }, [], r.2) := by
  simp only [tail_6, parse, takeD]
  cases tT bs <;> rfl
theorem parse_7 (m : M) (bs : List UInt8) : parse (tail 7) m [] bs = (takeI 1 bs).bind fun s => (tL s.2).map fun r => ({ m with pred := s.1.getD 0 0 - 1 }, r.1, r.2) := by
  simp only [tail_7, parse, takeD, takeI, Option.bind_some]
  cases tI bs with
  | none => rfl
  | some a =>
    simp only [Option.map_some, Option.bind_some]
    cases tL a.2 with
    | none => rfl
    | some b => simp [seti]
theorem parse_11 (m : M) (bs : List UInt8) : parse (tail 11) m [] bs = (takeI 1 bs).map fun s => ({ m with code := s.1.getD 0 0 }, [], s.2) := by
  simp only [tail_11, parse, takeD, takeI, Option.bind_some]
  cases tI bs with
  | none => rfl
  | some a => rfl
theorem parse_12 (m : M) (bs : List UInt8) : parse (tail 12) m [] bs = (takeI 1 bs).bind fun s => if s.1.getD 0 0 = 0 then (tP s.2).map fun r => ({ m with code := s.1.getD 0 0, it := r.1 }, [], r.2) else some ({ m with code := s.1.getD 0 0 }, [], s.2) := by
  simp only [tail_12, parse, takeD, takeI, Option.bind_some]
  cases tI bs with
  | none => rfl
  | some a =>
    simp only [Option.map_some, Option.bind_some]
    by_cases h : a.1 = 0
    · simp only [h, if_true, List.nil_append, List.getD_cons_zero]
      cases tP a.2 <;> rfl
    · simp only [h, if_false, List.nil_append, List.getD_cons_zero]
      rfl
theorem parse_not (m : M) (bs : List UInt8) {k : Int} (h4 : k ≠ 4) (h5 : k ≠ 5) (h6 : k ≠ 6) (h7 : k ≠ 7) (h10 : k ≠ 10) (h11 : k ≠ 11) (h12 : k ≠ 12) : parse (tail k) m [] bs = some (m, [], bs) := by
  rw [tail_not h4 h5 h6 h7 h10 h11 h12]; rfl
/-- A pair, taken: the text, then three numbers. -/
theorem tP_eq (bs : List UInt8) : tP bs = (tT bs).bind fun s => (takeI 3 s.2).map fun a => (⟨s.1, a.1.getD 0 0, a.1.getD 1 0, decide (a.1.getD 2 0 = 1)⟩, a.2) := by
  unfold tP
  cases tT bs with
  | none => rfl
  | some s =>
    simp only [Option.bind_some, takeI]
    cases tI s.2 with
    | none => rfl
    | some a =>
      simp only [Option.map_some, Option.bind_some]
      cases tI a.2 with
      | none => rfl
      | some b =>
        simp only [Option.map_some, Option.bind_some]
        cases tI b.2 with
        | none => rfl
        | some c => simp
/-- What is read begins with the four numbers of the message, and the rest tells the rest. -/
theorem readF_parts {bs : List UInt8} {m : M} {l : List Int} (h : readF bs = some (m, l)) : ∃ rest, takeI 4 bs = some ([m.kind, m.call, m.frm, m.to], rest) ∧ m.kind < 13 ∧ parse (tail m.kind) (headM m) [] rest = some (m, l, []) := by
  obtain ⟨h1, h2⟩ := readF_iff.1 h
  have hk := okHead h1
  refine ⟨(tail m.kind).flatMap (dB m l), ?_, by have := hk.k1; omega, parse_tail h1⟩
  rw [← h2, payB_eq]
  exact takeI_heads hk _
end Go.Proofs.YtaacjpcckinaiaaGreat
