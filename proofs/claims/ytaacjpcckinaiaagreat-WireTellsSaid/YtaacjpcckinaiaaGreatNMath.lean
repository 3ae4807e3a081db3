/- The plain mathematics of numbers, texts and lists as bytes: no program is named here. -/
import Derived.Lib.BitFns
set_option linter.unusedVariables false
set_option maxRecDepth 100000
set_option linter.unusedSimpArgs false
namespace Go.Proofs.YtaacjpcckinaiaaGreat.Num

theorem snoc_ind {α : Type} {p : List α → Prop} (h0 : p []) (h1 : ∀ l x, p l → p (l ++ [x])) : ∀ l, p l := by
  intro l
  rw [← List.reverse_reverse l]
  induction l.reverse with
  | nil => simpa using h0
  | cons a r ih => rw [List.reverse_cons]; exact h1 _ _ ih

/-- A number by 256, the highest first; none of 0. -/
def dig (n : Nat) : List UInt8 := if h : n = 0 then [] else dig (n / 256) ++ [UInt8.ofNat n]
decreasing_by omega

theorem dig_zero : dig 0 = [] := by unfold dig; simp
theorem dig_pos (n : Nat) (h : n ≠ 0) : dig n = dig (n / 256) ++ [UInt8.ofNat n] := by rw [dig]; simp [h]

/-- The number that bytes tell. -/
def val (l : List UInt8) : Nat := l.foldl (fun a d => a * 256 + d.toNat) 0
theorem val_nil : val [] = 0 := rfl
theorem val_snoc (l : List UInt8) (d : UInt8) : val (l ++ [d]) = val l * 256 + d.toNat := by simp [val]
theorem val_lt : ∀ l : List UInt8, val l < 256 ^ l.length := by
  refine snoc_ind (by simp [val]) fun l d ih => ?_
  rw [val_snoc, List.length_append, List.length_singleton, Nat.pow_succ]
  have := d.toNat_lt
  omega
theorem val_dig (n : Nat) : val (dig n) = n := by
  induction n using Nat.strongRecOn with
  | _ n ih =>
    by_cases h : n = 0
    · subst h; rw [dig_zero]; rfl
    · rw [dig_pos n h, val_snoc, ih (n / 256) (by omega)]
      simp
      omega
theorem dig_ne_nil (n : Nat) (h : n ≠ 0) : dig n ≠ [] := by rw [dig_pos n h]; simp
theorem dig_head (n : Nat) : ∀ d l, dig n = d :: l → d ≠ 0 := by
  induction n using Nat.strongRecOn with
  | _ n ih =>
    intro d l e
    by_cases h : n = 0
    · subst h; rw [dig_zero] at e; cases e
    · rw [dig_pos n h] at e
      by_cases h2 : n / 256 = 0
      · rw [h2, dig_zero] at e
        simp at e
        obtain ⟨rfl, _⟩ := e
        intro h0
        have := congrArg UInt8.toNat h0
        simp at this
        omega
      · cases e2 : dig (n / 256) with
        | nil => exact absurd e2 (dig_ne_nil _ h2)
        | cons d' l' =>
          rw [e2] at e
          simp at e
          obtain ⟨rfl, _⟩ := e
          exact ih _ (by omega) _ _ e2
/-- No nought ahead: the bytes are the number's. -/
theorem dig_val : ∀ l : List UInt8, (∀ d r, l = d :: r → d ≠ 0) → dig (val l) = l := by
  refine snoc_ind (fun _ => by rw [val_nil, dig_zero]) fun l d ih h => ?_
  rw [val_snoc]
  have hd := d.toNat_lt
  have e : UInt8.ofNat (val l * 256 + d.toNat) = d := by
    apply UInt8.toNat_inj.1
    simp
  have e2 : (val l * 256 + d.toNat) / 256 = val l := by omega
  by_cases h0 : val l * 256 + d.toNat = 0
  · exfalso
    cases l with
    | nil => exact h d [] rfl (UInt8.toNat_inj.1 (by simp; omega))
    | cons c r =>
      have h1 := ih fun d' r' e => by cases e; exact h _ _ rfl
      rw [show val (c :: r) = 0 by omega, dig_zero] at h1
      cases h1
  · rw [dig_pos _ h0, e2, e]
    cases l with
    | nil => rw [val_nil, dig_zero]
    | cons c r => rw [ih fun d' r' e => by cases e; exact h _ _ rfl]
theorem dig_len_lt (k n : Nat) : (dig n).length ≤ k ↔ n < 256 ^ k := by
  induction k generalizing n with
  | zero =>
    simp
    constructor
    · intro h; have := val_dig n; rw [h] at this; simpa [val] using this.symm
    · intro h; subst h; exact dig_zero
  | succ k ih =>
    by_cases h : n = 0
    · subst h; rw [dig_zero]; simp [Nat.pow_pos]
    · rw [dig_pos n h, List.length_append, List.length_singleton, Nat.add_le_add_iff_right, ih, Nat.pow_succ]
      omega
theorem dig_len6 (n : Nat) (h : n ≤ 1099511627776) : (dig n).length ≤ 6 := (dig_len_lt 6 n).2 (by omega)

theorem bitLen_zero : Lib.bitLen 0 = 0 := by decide
theorem bitLen_pow (n : Nat) (h : n < 2 ^ 64) : n < 2 ^ Lib.bitLen n := by
  induction n using Nat.strongRecOn with
  | _ n ih =>
    by_cases h0 : n = 0
    · subst h0; rw [bitLen_zero]; simp
    · rw [Lib.bitLen_half n h0 h, Nat.pow_add]
      have := ih (n / 2) (by omega) (by omega)
      omega
theorem bitLen_pow_le (n : Nat) (h : n < 2 ^ 64) (h0 : n ≠ 0) : 2 ^ (Lib.bitLen n - 1) ≤ n ∧ 0 < Lib.bitLen n := by
  induction n using Nat.strongRecOn with
  | _ n ih =>
    rw [Lib.bitLen_half n h0 h]
    by_cases h2 : n / 2 = 0
    · rw [h2, bitLen_zero]; simp; omega
    · obtain ⟨h3, h4⟩ := ih (n / 2) (by omega) (by omega) h2
      refine ⟨?_, by omega⟩
      rw [show 1 + Lib.bitLen (n / 2) - 1 = (Lib.bitLen (n / 2) - 1) + 1 by omega, Nat.pow_succ]
      omega
/-- So many bytes as the bits want. -/
theorem size_eq (n : Nat) (h : n < 2 ^ 64) : (Lib.bitLen n + 7) / 8 = (dig n).length := by
  have p : ∀ k, 256 ^ k = 2 ^ (8 * k) := fun k => by rw [Nat.pow_mul]
  have h1 := bitLen_pow n h
  apply Nat.le_antisymm
  · by_cases h0 : n = 0
    · subst h0; rw [bitLen_zero, dig_zero]; simp
    · obtain ⟨h2, h3⟩ := bitLen_pow_le n h h0
      have h4 := (dig_len_lt (dig n).length n).1 (Nat.le_refl _)
      rw [p] at h4
      have : 2 ^ (Lib.bitLen n - 1) < 2 ^ (8 * (dig n).length) := by omega
      have := (Nat.pow_lt_pow_iff_right (by omega)).1 this
      omega
  · rw [dig_len_lt, p]
    refine Nat.lt_of_lt_of_le h1 (Nat.pow_le_pow_right (by omega) (by omega))
/-- The digit k places ahead of the last. -/
theorem dig_get (n : Nat) : ∀ k, k < (dig n).length → (dig n)[(dig n).length - 1 - k]? = some (UInt8.ofNat (n / 256 ^ k)) := by
  induction n using Nat.strongRecOn with
  | _ n ih =>
    intro k hk
    have h : n ≠ 0 := by intro h; subst h; rw [dig_zero] at hk; simp at hk
    rw [dig_pos n h] at hk ⊢
    rw [List.length_append, List.length_singleton] at hk ⊢
    cases k with
    | zero => simp
    | succ k =>
      have := ih (n / 256) (by omega) k (by omega)
      rw [List.getElem?_append_left (by omega), show (dig (n / 256)).length + 1 - 1 - (k + 1) = (dig (n / 256)).length - 1 - k by omega, this, Nat.div_div_eq_div_mul, ← Nat.pow_succ']
theorem dig_take_succ (n k : Nat) (hk : k < (dig n).length) : (dig n).take (k + 1) = (dig n).take k ++ [UInt8.ofNat (n / 256 ^ ((dig n).length - 1 - k))] := by
  have := dig_get n ((dig n).length - 1 - k) (by omega)
  rw [show (dig n).length - 1 - ((dig n).length - 1 - k) = k by omega] at this
  rw [List.take_add_one, this]
  rfl

/-- A number's bytes. -/
def num (n : Nat) : List UInt8 := UInt8.ofNat (dig n).length :: dig n
/-- What Take tells: the number, where it ends, the error. -/
def takeE : List UInt8 → Nat × Nat × Nat
  | [] => (0, 0, 11)
  | h :: t => if 6 < h.toNat then (0, 0, 12) else if t.length < h.toNat then (0, 0, 11)
    else if (0 < h.toNat ∧ t.getD 0 0 = 0) ∨ 1099511627776 < val (t.take h.toNat) then (0, 0, 12) else (val (t.take h.toNat), 1 + h.toNat, 0)

theorem num_length (n : Nat) : (num n).length = 1 + (dig n).length := by simp [num]; omega
theorem takeE_num (n : Nat) (h : n ≤ 1099511627776) (r : List UInt8) : takeE (num n ++ r) = (n, (num n).length, 0) := by
  have h6 := dig_len6 n h
  have e : (UInt8.ofNat (dig n).length).toNat = (dig n).length := by simp; omega
  rw [num_length]
  simp only [num, List.cons_append, takeE, e]
  rw [if_neg (by omega), if_neg (by simp), List.take_left, val_dig, if_neg]
  rintro (⟨h1, h2⟩ | h1)
  · cases hd : dig n with
    | nil => rw [hd] at h1; simp at h1
    | cons d l =>
      rw [hd] at h2
      exact dig_head n d l hd h2
  · omega
theorem takeE_err (b : List UInt8) : (takeE b).2.2 = 0 ∨ takeE b = (0, 0, 11) ∨ takeE b = (0, 0, 12) := by
  cases b with
  | nil => exact .inr (.inl rfl)
  | cons h t =>
    simp only [takeE]
    split
    · exact .inr (.inr rfl)
    · split
      · exact .inr (.inl rfl)
      · split
        · exact .inr (.inr rfl)
        · exact .inl rfl
/-- What is taken has just those bytes. -/
theorem num_takeE (b : List UInt8) (h0 : (takeE b).2.2 = 0) : (takeE b).1 ≤ 1099511627776 ∧ num (takeE b).1 = b.take (takeE b).2.1 ∧ (takeE b).2.1 ≤ b.length ∧ (takeE b).2.1 = (num (takeE b).1).length := by
  cases b with
  | nil => simp [takeE] at h0
  | cons h t =>
    simp only [takeE] at h0 ⊢
    by_cases h1 : 6 < h.toNat
    · rw [if_pos h1] at h0; cases h0
    by_cases h2 : t.length < h.toNat
    · rw [if_neg h1, if_pos h2] at h0; cases h0
    by_cases h3 : (0 < h.toNat ∧ t.getD 0 0 = 0) ∨ 1099511627776 < val (t.take h.toNat)
    · rw [if_neg h1, if_neg h2, if_pos h3] at h0; cases h0
    rw [if_neg h1, if_neg h2, if_neg h3]
    simp only [not_or, not_and] at h3
    have hd : dig (val (t.take h.toNat)) = t.take h.toNat := dig_val _ fun d r e => by
      intro hd
      subst hd
      have hp : 0 < h.toNat := by
        rcases Nat.eq_zero_or_pos h.toNat with h0' | h0'
        · rw [h0'] at e; simp at e
        · exact h0'
      refine h3.1 hp ?_
      cases t with
      | nil => simp at e
      | cons c u =>
        obtain ⟨k, hk⟩ : ∃ k, h.toNat = k + 1 := ⟨h.toNat - 1, by omega⟩
        rw [hk] at e
        simp at e
        simp [e.1]
    have hl : (t.take h.toNat).length = h.toNat := by rw [List.length_take]; omega
    refine ⟨by omega, ?_, by simp; omega, by rw [num_length]; simp only [hd, hl]⟩
    simp only [num, hd, hl]
    rw [show 1 + h.toNat = h.toNat + 1 by omega, List.take_succ_cons]
    simp
theorem num_inj (n m : Nat) (h : num n = num m) : n = m := by
  have : dig n = dig m := by simp only [num, List.cons.injEq] at h; exact h.2
  rw [← val_dig n, this, val_dig]

/-- A list's bytes. -/
def nums (l : List Nat) : List UInt8 := l.flatMap num
def listB (l : List Nat) : List UInt8 := UInt8.ofNat l.length :: nums l
/-- k numbers, one behind the other: the numbers, what stands behind, the error. -/
def takeN : Nat → List UInt8 → List Nat × List UInt8 × Nat
  | 0, b => ([], b, 0)
  | k + 1, b => let r := takeE b
    if r.2.2 = 0 then let s := takeN k (b.drop r.2.1); if s.2.2 = 0 then (r.1 :: s.1, s.2.1, 0) else ([], [], s.2.2) else ([], [], r.2.2)
def takeL : List UInt8 → List Nat × List UInt8 × Nat
  | [] => ([], [], 11)
  | h :: t => takeN h.toNat t

theorem takeN_nums : ∀ (l : List Nat) (r : List UInt8), (∀ n ∈ l, n ≤ 1099511627776) → takeN l.length (nums l ++ r) = (l, r, 0)
  | [], r, _ => rfl
  | n :: l, r, h => by
    have h1 : takeE (nums (n :: l) ++ r) = (n, (num n).length, 0) := by
      rw [nums, List.flatMap_cons, List.append_assoc]; exact takeE_num n (h n (by simp)) _
    have h2 : (nums (n :: l) ++ r).drop (num n).length = nums l ++ r := by
      rw [nums, List.flatMap_cons, List.append_assoc]; exact List.drop_left
    have h3 := takeN_nums l r fun m hm => h m (by simp [hm])
    simp only [List.length_cons, takeN, h1, h2, h3, if_true]
theorem takeL_list (l : List Nat) (r : List UInt8) (hl : l.length ≤ 255) (h : ∀ n ∈ l, n ≤ 1099511627776) : takeL (listB l ++ r) = (l, r, 0) := by
  have e : (UInt8.ofNat l.length).toNat = l.length := by simp; omega
  simp only [listB, List.cons_append, takeL, e]
  exact takeN_nums l r h
theorem takeN_err : ∀ (k : Nat) (b : List UInt8), (takeN k b).2.2 = 0 ∨ takeN k b = ([], [], 11) ∨ takeN k b = ([], [], 12)
  | 0, b => .inl rfl
  | k + 1, b => by
    have h := takeE_err b
    simp only [takeN]
    split
    · have h2 := takeN_err k (b.drop (takeE b).2.1)
      split
      · exact .inl rfl
      · rcases h2 with h2 | h2 | h2
        · contradiction
        · rw [h2]; exact .inr (.inl rfl)
        · rw [h2]; exact .inr (.inr rfl)
    · rcases h with h | h | h
      · contradiction
      · rw [h]; exact .inr (.inl rfl)
      · rw [h]; exact .inr (.inr rfl)
theorem nums_takeN : ∀ (k : Nat) (b : List UInt8), (takeN k b).2.2 = 0 → (∀ n ∈ (takeN k b).1, n ≤ 1099511627776) ∧ (takeN k b).1.length = k ∧ nums (takeN k b).1 ++ (takeN k b).2.1 = b
  | 0, b, _ => by simp [takeN, nums]
  | k + 1, b, h => by
    simp only [takeN] at h ⊢
    by_cases h1 : (takeE b).2.2 = 0
    · rw [if_pos h1] at h ⊢
      by_cases h2 : (takeN k (b.drop (takeE b).2.1)).2.2 = 0
      · rw [if_pos h2] at h ⊢
        obtain ⟨a1, a2, a3⟩ := nums_takeN k _ h2
        obtain ⟨b1, b2, b3, _⟩ := num_takeE b h1
        refine ⟨?_, by simp [a2], ?_⟩
        · intro n hn
          rcases List.mem_cons.1 hn with rfl | hn
          · exact b1
          · exact a1 n hn
        · simp only [nums, List.flatMap_cons, List.append_assoc] at a3 ⊢
          rw [a3, b2, List.take_append_drop]
      · rw [if_neg h2] at h
        exact absurd h h2
    · rw [if_neg h1] at h
      exact absurd h h1
/-- Numbers that came, and what comes of the rest. -/
def joinN (ns : List Nat) (s : List Nat × List UInt8 × Nat) : List Nat × List UInt8 × Nat := if s.2.2 = 0 then (ns ++ s.1, s.2.1, 0) else ([], [], s.2.2)
theorem joinN_nil (k : Nat) (b : List UInt8) : joinN [] (takeN k b) = takeN k b := by
  unfold joinN
  rcases takeN_err k b with h | h | h
  · rw [if_pos h]; simp; rw [← h]
  · rw [h]; rfl
  · rw [h]; rfl
theorem joinN_step (ns : List Nat) (k : Nat) (b : List UInt8) (h : (takeE b).2.2 = 0) : joinN ns (takeN (k + 1) b) = joinN (ns ++ [(takeE b).1]) (takeN k (b.drop (takeE b).2.1)) := by
  simp only [takeN, if_pos h, joinN]
  by_cases h2 : (takeN k (b.drop (takeE b).2.1)).2.2 = 0
  · simp [h2]
  · simp [h2]
theorem joinN_fall (ns : List Nat) (k : Nat) (b : List UInt8) (h : (takeE b).2.2 ≠ 0) : joinN ns (takeN (k + 1) b) = ([], [], (takeE b).2.2) := by
  simp only [takeN, if_neg h, joinN]
theorem joinN_end (ns : List Nat) (b : List UInt8) : joinN ns (takeN 0 b) = (ns, b, 0) := by simp [joinN, takeN]
theorem byte_at (q j : Nat) : ((UInt8.ofNat (q / 256 ^ j)).toNat : Int) = (q : Int) / 2 ^ (8 * j) % 256 := by
  have e : (256 : Nat) ^ j = 2 ^ (8 * j) := by rw [Nat.pow_mul]
  rw [e, UInt8.toNat_ofNat']
  simp
end Go.Proofs.YtaacjpcckinaiaaGreat.Num
