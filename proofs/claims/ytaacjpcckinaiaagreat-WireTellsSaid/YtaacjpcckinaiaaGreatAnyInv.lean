/- A region that draws its order: what each of its operations yields, said of its value and of the world, and kept by all that come behind: whatever the order. No program is named here. -/
import Derived.Test.YtaacjpcckinaiaaGreatRngP
import Derived.Orders
set_option linter.unusedVariables false
set_option maxRecDepth 100000
set_option linter.unusedSimpArgs false
namespace Go.Proofs.YtaacjpcckinaiaaGreat
open Go.RowKit Go.Shelf

theorem countP_lt {p q : Nat → Bool} (h : ∀ j, q j = true → p j = true) {i : Nat} (hp : p i = true) (hq : q i = false) : ∀ l : List Nat, i ∈ l → l.countP q < l.countP p
  | [], hi => by simp at hi
  | x :: l, hi => by
    have hle : l.countP q ≤ l.countP p := List.countP_mono_left fun j _ hj => h j hj
    by_cases hx : x = i
    · subst hx
      rw [List.countP_cons_of_pos hp, List.countP_cons_of_neg (by simp [hq])]
      omega
    · have := countP_lt h hp hq l (by rcases List.mem_cons.1 hi with e | e; exact absurd e.symm hx; exact e)
      rw [List.countP_cons, List.countP_cons]
      have hb : (if q x = true then 1 else 0) ≤ (if p x = true then 1 else 0) := by
        by_cases hqx : q x = true
        · rw [if_pos hqx, if_pos (h x hqx)]
          exact Nat.le_refl _
        · rw [if_neg hqx]; omega
      omega

section
variable {P : Program} {ops : Array Oper} {Q : Exit → Act → World → Prop}
def dstO (ops : Array Oper) (i : Nat) : Option Tmp := (ops[i]?).bind (·.dst)
def waitsOn (ops : Array Oper) (i j : Nat) : Bool := match ops[i]? with
  | some o => o.after.any (fun e => Region.binds .any e && e.on == j)
  | none => false
/-- What an operation finds: what it waits for, and the slots that no operation fills. -/
structure Sees (ops : Array Oper) (R : Nat → Value → World → Prop) (a0 a : Act) (w : World) (i : Nat) : Prop where
  dep : ∀ j t, waitsOn ops i j = true → dstO ops j = some t → ∃ v, a.tmps.getD t undef = v ∧ R j v w
  base : ∀ t, (List.range ops.size).all (fun j => dstO ops j != some t) = true → a.tmps.getD t undef = a0.tmps.getD t undef
  defers : a.defers = a0.defers
  size : a.tmps.size = a0.tmps.size
/-- The first k operations fill slots of their own that there are, and wait for earlier ones alone; those behind wait for all of them. -/
def invB0 (ops : Array Oper) (k sz : Nat) : Bool :=
  (List.range k).all (fun i => match ops[i]? with
    | some o => o.after.all (fun e => !Region.binds .any e || decide (e.on < i)) && (match o.dst with
      | some d => decide (d < sz) && (List.range k).all (fun j => j == i || dstO ops j != some d)
      | none => true)
    | none => false)
  && (List.range ops.size).all (fun i => decide (i < k) || (List.range k).all (fun j => waitsOn ops i j))

/-- .. and are free of guards. -/
def invB (ops : Array Oper) (k sz : Nat) : Bool := invB0 ops k sz && (List.range k).all (fun i => match ops[i]? with
  | some o => o.guard.isNone
  | none => false)
/-- A guard that is always met. -/
def GuardOk (ops : Array Oper) (R : Nat → Value → World → Prop) (k i : Nat) (o : Oper) : Prop := ∀ j want, o.guard = some (j, want) → j < k ∧ waitsOn ops i j = true ∧ (dstO ops j).isSome = true ∧ ∀ u w, R j u w → u = .bool want
theorem guards_none {R : Nat → Value → World → Prop} {k sz : Nat} (h : invB ops k sz = true) : ∀ i o, i < k → ops[i]? = some o → GuardOk ops R k i o := by
  intro i o hi ho j want hg
  have h1 := List.all_eq_true.1 (Bool.and_eq_true _ _ ▸ h).2 i (List.mem_range.2 hi)
  rw [ho] at h1
  simp only [hg] at h1
  cases h1
theorem invB_0 {k sz : Nat} (h : invB ops k sz = true) : invB0 ops k sz = true := (Bool.and_eq_true _ _ ▸ h).1

/-- What is known when these have come up. -/
structure InvA (ops : Array Oper) (R : Nat → Value → World → Prop) (a0 : Act) (k : Nat) (listed : Array Bool) (a : Act) (w : World) : Prop where
  size : listed.size = ops.size
  late : ∀ i, k ≤ i → i < ops.size → listed.getD i true = false
  facts : ∀ i, i < k → listed.getD i false = true → ∃ v, (∀ t, dstO ops i = some t → a.tmps.getD t undef = v) ∧ R i v w
  base : ∀ t, (List.range ops.size).all (fun j => dstO ops j != some t) = true → a.tmps.getD t undef = a0.tmps.getD t undef
  defers : a.defers = a0.defers
  tsize : a.tmps.size = a0.tmps.size

theorem put_getD {a : Act} {d : Option Tmp} {v : Value} {t : Tmp} (h : d ≠ some t) : (a.put d v).tmps.getD t undef = a.tmps.getD t undef := by
  cases d with
  | none => rfl
  | some x =>
    have hne : x ≠ t := fun e => h (by rw [e])
    simp [Act.put, Array.getElem?_setIfInBounds_ne hne]
theorem put_getD_same {a : Act} {d : Tmp} {v : Value} (h : d < a.tmps.size) : (a.put (some d) v).tmps.getD d undef = v := by
  simp [Act.put, h]
theorem put_size {a : Act} {d : Option Tmp} {v : Value} : (a.put d v).tmps.size = a.tmps.size := by
  cases d <;> simp [Act.put]
theorem put_defers {a : Act} {d : Option Tmp} {v : Value} : (a.put d v).defers = a.defers := by
  cases d <;> simp [Act.put]

/-- What is owed of an operation. -/
def Owed (R : Nat → Value → World → Prop) (C : World → Prop) (k i : Nat) (o : Oper) (a : Act) (w : World) : Act → World → Prop := fun a' w' => ∃ v, a' = a.put o.dst v ∧ C w' ∧ R i v w' ∧ ∀ j u, j < k → R j u w → R j u w'
theorem wpAny_inv {R : Nat → Value → World → Prop} {C : World → Prop} {a0 : Act} {k : Nat} (hk : k ≤ ops.size) (hB : invB0 ops k a0.tmps.size = true) (hG : ∀ i o, i < k → ops[i]? = some o → GuardOk ops R k i o)
    (H : ∀ i o, i < k → ops[i]? = some o → ∀ a w, C w → Sees ops R a0 a w i → o.wp P a w (Owed R C k i o a w) Q)
    (hfin : ∀ fuel listed a w, ops.size - k ≤ fuel → C w → (∀ i, i < k → listed.getD i false = true) → InvA ops R a0 k listed a w → wpAny P .any ops Q fuel listed a w) :
    ∀ (fuel : Nat) (listed : Array Bool) (a : Act) (w : World), C w → InvA ops R a0 k listed a w → (List.range ops.size).countP (fun i => !listed.getD i true) ≤ fuel → wpAny P .any ops Q fuel listed a w := by
  have hB1 := (Bool.and_eq_true _ _ ▸ hB).1
  have hB2 := (Bool.and_eq_true _ _ ▸ hB).2
  have row : ∀ i, i < k → ∃ o, ops[i]? = some o ∧ (∀ e ∈ o.after, Region.binds .any e = true → e.on < i) ∧ ∀ d, o.dst = some d → d < a0.tmps.size ∧ ∀ j, j < k → j ≠ i → dstO ops j ≠ some d := by
    intro i hi
    have h := List.all_eq_true.1 hB1 i (List.mem_range.2 hi)
    cases ho : ops[i]? with
    | none => rw [ho] at h; cases h
    | some o =>
      rw [ho] at h
      simp only [Bool.and_eq_true] at h
      obtain ⟨h2, h3⟩ := h
      refine ⟨o, rfl, fun e he hb => ?_, fun d hd => ?_⟩
      · have := (Array.all_eq_true_iff_forall_mem.1 h2) e he
        simpa [hb] using this
      · rw [hd] at h3
        simp only [Bool.and_eq_true, decide_eq_true_eq, List.all_eq_true, Bool.or_eq_true, beq_iff_eq, bne_iff_ne] at h3
        exact ⟨h3.1, fun j hj hne => (h3.2 j (List.mem_range.2 hj)).resolve_left hne⟩
  have later : ∀ i j, k ≤ i → i < ops.size → j < k → waitsOn ops i j = true := by
    intro i j hi hin hj
    have h := List.all_eq_true.1 hB2 i (List.mem_range.2 hin)
    simp only [Bool.or_eq_true, decide_eq_true_eq, List.all_eq_true] at h
    rcases h with h | h
    · omega
    · exact h j (List.mem_range.2 hj)
  have waits : ∀ {i j : Nat} {listed : Array Bool}, waitsOn ops i j = true → i ∈ Region.ready .any ops listed → listed.getD j false = true := by
    intro i j listed hw hr
    obtain ⟨_, o, ho, hall⟩ := mem_ready.1 hr
    unfold waitsOn at hw
    rw [ho] at hw
    simp only [Array.any_eq_true] at hw
    obtain ⟨n, hn, h⟩ := hw
    simp only [Bool.and_eq_true, beq_iff_eq] at h
    rw [← h.2]
    exact hall _ (Array.getElem_mem hn) h.1
  intro fuel
  induction fuel with
  | zero =>
    intro listed a w hC hI hc
    refine hfin 0 listed a w ?_ hC (fun i hi => ?_) hI
    · rcases Nat.lt_or_ge k ops.size with h | h
      · exfalso
        have h1 := hI.late k (Nat.le_refl _) h
        have : 0 < (List.range ops.size).countP (fun i => !listed.getD i true) := List.countP_pos_iff.2 ⟨k, List.mem_range.2 h, by simp only [h1, Bool.not_false]⟩
        omega
      · omega
    · cases h1 : listed.getD i false with
      | true => rfl
      | false =>
        exfalso
        have h2 : listed.getD i true = false := by
          have hlt : i < listed.size := by rw [hI.size]; omega
          simp [hlt] at h1 ⊢; exact h1
        have : 0 < (List.range ops.size).countP (fun i => !listed.getD i true) := List.countP_pos_iff.2 ⟨i, List.mem_range.2 (by omega), by simp only [h2, Bool.not_false]⟩
        omega
  | succ fuel ih =>
    intro listed a w hC hI hc
    by_cases hall : ∀ i, i < k → listed.getD i false = true
    · refine hfin _ listed a w ?_ hC hall hI
      -- those behind are all still to come
      have : ∀ m, m ≤ ops.size - k → m ≤ (List.range ops.size).countP (fun i => !listed.getD i true) := by
        intro m hm
        have hsub : (List.range ops.size).countP (fun i => decide (k ≤ i)) ≤ (List.range ops.size).countP (fun i => !listed.getD i true) := by
          apply List.countP_mono_left
          intro i hi h
          rw [hI.late i (of_decide_eq_true h) (List.mem_range.1 hi)]; rfl
        have hcnt : ∀ n, n - k ≤ (List.range n).countP (fun i => decide (k ≤ i)) := by
          intro n
          induction n with
          | zero => simp
          | succ n ihn =>
            rw [List.range_succ, List.countP_append]
            by_cases hkn : k ≤ n
            · simp [hkn]; omega
            · simp [hkn]; omega
        have := hcnt ops.size
        omega
      have := this _ (Nat.le_refl _)
      omega
    · have hall' : ∃ i, i < k ∧ listed.getD i false ≠ true := by
        by_cases h : ∃ i, i < k ∧ listed.getD i false ≠ true
        · exact h
        · exact absurd (fun i hi => Classical.byContradiction fun h' => h ⟨i, hi, h'⟩) hall
      constructor
      · intro hr
        exfalso
        obtain ⟨i0, hi0, hn0⟩ := hall'
        have key : ∀ n i, i < n → i < k → listed.getD i false = true := by
          intro n
          induction n with
          | zero => intro i hi; omega
          | succ n ihn =>
            intro i hi hik
            by_cases hin : i < n
            · exact ihn i hin hik
            · cases h1 : listed.getD i false with
              | true => rfl
              | false =>
                exfalso
                obtain ⟨o, ho, hdep, -⟩ := row i hik
                have : i ∈ Region.ready .any ops listed := mem_ready.2 ⟨by
                  have hlt : i < listed.size := by rw [hI.size]; omega
                  simp [hlt] at h1 ⊢; exact h1, o, ho, fun e he hb => ihn e.on (by have := hdep e he hb; omega) (by have := hdep e he hb; omega)⟩
                rw [hr] at this
                simp at this
        exact hn0 (key k i0 hi0 hi0)
      · intro i hi
        have hil : listed.getD i true = false := (mem_ready.1 hi).1
        have hin : i < ops.size := by
          obtain ⟨_, o, ho, _⟩ := mem_ready.1 hi
          exact (Array.getElem?_eq_some_iff.1 ho).1
        have hik : i < k := by
          rcases Nat.lt_or_ge i k with h | h
          · exact h
          · exfalso
            obtain ⟨j, hj, hn⟩ := hall'
            exact hn (waits (later i j h hin hj) hi)
        obtain ⟨o, ho, hdep, hdst⟩ := row i hik
        have hwant : Region.wanted o (yielded ops a.tmps) = true := by
          unfold Region.wanted
          cases hg : o.guard with
          | none => rfl
          | some jw =>
            obtain ⟨j, want⟩ := jw
            obtain ⟨hjk, hw, hds, hR⟩ := hG i o hik ho j want hg
            obtain ⟨t, ht⟩ := Option.isSome_iff_exists.1 hds
            obtain ⟨u, hu, hRu⟩ := hI.facts j hjk (waits hw hi)
            have hub := hR u w hRu
            obtain ⟨oj, hoj, -, hdj⟩ := row j hjk
            have htj : oj.dst = some t := by unfold dstO at ht; rw [hoj] at ht; exact ht
            have htz : t < a.tmps.size := by rw [hI.tsize]; exact (hdj t htj).1
            have hue := hu t ht
            subst hub
            have e : a.tmps[t]? = some (.bool want) := by
              rw [← hue]
              simp [htz]
            have hy : yielded ops a.tmps j = some want := by
              unfold yielded
              simp [hoj, htj, e]
            show (yielded ops a.tmps j == some want) = true
            rw [hy]
            simp
        unfold wpOp
        simp only [ho]
        rw [if_pos hwant]
        left
        refine Oper.wp_mono ?_ (H i o hik ho a w hC ⟨fun j t hw hd => ?_, hI.base, hI.defers, hI.tsize⟩)
        · rintro a' w' ⟨v, rfl, hC', hR, hst⟩
          refine ih _ _ _ hC' ⟨by simp [hI.size], fun j hj hjn => ?_, fun j hj hl => ?_, fun t ht => ?_, by rw [put_defers]; exact hI.defers, by rw [put_size]; exact hI.tsize⟩ ?_
          · rw [getD_set_ne true (by omega)]; exact hI.late j hj hjn
          · by_cases hji : j = i
            · subst hji
              refine ⟨v, fun t ht => ?_, hR⟩
              have hd : o.dst = some t := by unfold dstO at ht; rw [ho] at ht; exact ht
              rw [hd]
              exact put_getD_same (by rw [hI.tsize]; exact (hdst t hd).1)
            · rw [getD_set_ne false (Ne.symm hji)] at hl
              obtain ⟨u, hu, hRu⟩ := hI.facts j hj hl
              refine ⟨u, fun t ht => ?_, hst j u hj hRu⟩
              rw [put_getD (fun e => (hdst t e).2 j hj hji ht)]
              exact hu t ht
          · rw [put_getD (fun e => ?_)]
            · exact hI.base t ht
            · have := List.all_eq_true.1 ht i (List.mem_range.2 hin)
              unfold dstO at this
              rw [ho] at this
              simp [e] at this
          · have := countP_lt (p := fun j => !listed.getD j true) (q := fun j => !(listed.setIfInBounds i true).getD j true) (fun j hj => by
              by_cases hji : i = j
              · subst hji; rw [hil]; rfl
              · rw [getD_set_ne true hji] at hj; exact hj) (i := i) (by simp only [hil, Bool.not_false]) (by
              have hlt : i < listed.size := by rw [hI.size]; omega
              simp [hlt]) (List.range ops.size) (List.mem_range.2 hin)
            omega
        · have hl := waits hw hi
          have hjk : j < k := by
            unfold waitsOn at hw
            rw [ho] at hw
            simp only [Array.any_eq_true] at hw
            obtain ⟨n, hn, h⟩ := hw
            simp only [Bool.and_eq_true, beq_iff_eq] at h
            have := hdep _ (Array.getElem_mem hn) h.1
            omega
          obtain ⟨u, hu, hRu⟩ := hI.facts j hjk hl
          exact ⟨u, hu t hd, hRu⟩

/-- What is known behind all of them. -/
structure After (ops : Array Oper) (R : Nat → Value → World → Prop) (a0 : Act) (k : Nat) (a : Act) (w : World) : Prop where
  facts : ∀ i t, i < k → dstO ops i = some t → ∃ v, a.tmps.getD t undef = v ∧ R i v w
  base : ∀ t, (List.range ops.size).all (fun j => dstO ops j != some t) = true → a.tmps.getD t undef = a0.tmps.getD t undef
  defers : a.defers = a0.defers
  size : a.tmps.size = a0.tmps.size

/-- **A REGION THAT DRAWS, ALL OF IT.** -/
theorem wp_region_invG {id : Nat} {a0 : Act} {w0 : World} (R : Nat → Value → World → Prop) (C : World → Prop) (hm : P.follows .mixedOrders = true) (hB : invB0 ops ops.size a0.tmps.size = true) (hG : ∀ i o, i < ops.size → ops[i]? = some o → GuardOk ops R ops.size i o) (hC : C w0.drew)
    (H : ∀ i o, i < ops.size → ops[i]? = some o → ∀ a w, C w → Sees ops R a0 a w i → o.wp P a w (Owed R C ops.size i o a w) Q)
    (hfin : ∀ a w, C w → After ops R a0 ops.size a w → Q .normal a w) : (Code.region id ops true).wp P Q a0 w0 := by
  refine wp_region_any hm ?_
  refine wpAny_inv (k := ops.size) (Nat.le_refl _) hB hG H (fun fuel listed a w _ hC hall hI => ?_) ops.size _ a0 _ hC ⟨by simp, fun i h1 h2 => by omega, fun i hi hl => by simp [hi] at hl, fun _ _ => rfl, rfl, rfl⟩ (Nat.le_trans List.countP_le_length (by simp))
  have hq : Q .normal a w := hfin a w hC ⟨fun i t hi hd => by obtain ⟨v, hv, hR⟩ := hI.facts i hi (hall i hi); exact ⟨v, hv t hd, hR⟩, hI.base, hI.defers, hI.tsize⟩
  have hr : Region.ready .any ops listed = [] := by
    cases h : Region.ready .any ops listed with
    | nil => rfl
    | cons i l =>
      exfalso
      have hi : i ∈ Region.ready .any ops listed := by rw [h]; simp
      obtain ⟨hu, o, ho, _⟩ := mem_ready.1 hi
      have hlt := (Array.getElem?_eq_some_iff.1 ho).1
      have := hall i hlt
      have hls : i < listed.size := by rw [hI.size]; exact hlt
      simp [hls] at hu this
      rw [hu] at this
      cases this
  cases fuel with
  | zero => exact ⟨hr, hq⟩
  | succ fuel => exact ⟨fun _ => hq, fun i hi => by rw [hr] at hi; simp at hi⟩
theorem wp_region_inv {id : Nat} {a0 : Act} {w0 : World} (R : Nat → Value → World → Prop) (C : World → Prop) (hm : P.follows .mixedOrders = true) (hB : invB ops ops.size a0.tmps.size = true) (hC : C w0.drew)
    (H : ∀ i o, i < ops.size → ops[i]? = some o → ∀ a w, C w → Sees ops R a0 a w i → o.wp P a w (Owed R C ops.size i o a w) Q)
    (hfin : ∀ a w, C w → After ops R a0 ops.size a w → Q .normal a w) : (Code.region id ops true).wp P Q a0 w0 := wp_region_invG R C hm (invB_0 hB) (guards_none hB) hC H hfin
/-- **.. ALL BUT THE LAST ONE, WHICH WAITS FOR THE REST.** -/
theorem wp_region_inv1 {id : Nat} {a0 : Act} {w0 : World} (k : Nat) (R : Nat → Value → World → Prop) (C : World → Prop) (o : Oper) (hm : P.follows .mixedOrders = true) (hk : ops.size = k + 1) (ho : ops[k]? = some o) (hg : o.guard = none) (hw : o.after.all (fun e => decide (e.on < k)) = true) (hB : invB ops k a0.tmps.size = true) (hC : C w0.drew)
    (H : ∀ i o, i < k → ops[i]? = some o → ∀ a w, C w → Sees ops R a0 a w i → o.wp P a w (Owed R C k i o a w) Q)
    (hfin : ∀ a w, C w → After ops R a0 k a w → o.wp P a w (fun a w => Q .normal a w) Q) : (Code.region id ops true).wp P Q a0 w0 := by
  refine wp_region_any hm ?_
  refine wpAny_inv (k := k) (by omega) (invB_0 hB) (guards_none hB) H (fun fuel listed a w hf hC hall hI => ?_) ops.size _ a0 _ hC ⟨by simp, fun i h1 h2 => by simp [h2], fun i hi hl => by simp [show i < ops.size by omega] at hl, fun _ _ => rfl, rfl, rfl⟩ (Nat.le_trans List.countP_le_length (by simp))
  have hq := hfin a w hC ⟨fun i t hi hd => by obtain ⟨v, hv, hR⟩ := hI.facts i hi (hall i hi); exact ⟨v, hv t hd, hR⟩, hI.base, hI.defers, hI.tsize⟩
  have only : ∀ i, i ∈ Region.ready .any ops listed → i = k := by
    intro i hi
    obtain ⟨hu, o', ho', _⟩ := mem_ready.1 hi
    have hlt := (Array.getElem?_eq_some_iff.1 ho').1
    rcases Nat.lt_or_ge i k with h | h
    · exfalso
      have := hall i h
      have hls : i < listed.size := by rw [hI.size]; exact hlt
      simp [hls] at hu this
      rw [hu] at this
      cases this
    · omega
  have hkr : k ∈ Region.ready .any ops listed := by
    refine mem_ready.2 ⟨hI.late k (Nat.le_refl _) (by omega), o, ho, fun e he hb => ?_⟩
    exact hall _ (of_decide_eq_true ((Array.all_eq_true_iff_forall_mem.1 hw) e he))
  cases fuel with
  | zero => omega
  | succ fuel =>
    refine ⟨fun h0 => by rw [h0] at hkr; simp at hkr, fun i hi => ?_⟩
    obtain rfl := only i hi
    unfold wpOp
    simp only [ho]
    rw [if_pos (by simp [Region.wanted, hg])]
    left
    refine Oper.wp_mono (fun a' w' hq' => ?_) hq
    have hr : Region.ready .any ops (listed.setIfInBounds i true) = [] := by
      cases h : Region.ready .any ops (listed.setIfInBounds i true) with
      | nil => rfl
      | cons j l =>
        exfalso
        have hj : j ∈ Region.ready .any ops (listed.setIfInBounds i true) := by rw [h]; simp
        obtain ⟨hu, o', ho', _⟩ := mem_ready.1 hj
        have hlt := (Array.getElem?_eq_some_iff.1 ho').1
        by_cases hji : i = j
        · subst hji
          have hls : i < listed.size := by rw [hI.size]; exact hlt
          simp [hls] at hu
        · rw [getD_set_ne true hji] at hu
          have := hall j (by omega)
          have hls : j < listed.size := by rw [hI.size]; exact hlt
          simp [hls] at hu this
          rw [hu] at this
          cases this
    cases fuel with
    | zero => exact ⟨hr, hq'⟩
    | succ fuel => exact ⟨fun _ => hq', fun i hi => by rw [hr] at hi; simp at hi⟩
/-- Owed of each, one behind the other. -/
def OwedAll (P : Program) (ops : Array Oper) (Q : Exit → Act → World → Prop) (R : Nat → Value → World → Prop) (C : World → Prop) (k : Nat) (a0 : Act) : Nat → List Oper → Prop
  | _, [] => True
  | i, o :: rest => (∀ a w, C w → Sees ops R a0 a w i → o.wp P a w (Owed R C k i o a w) Q) ∧ OwedAll P ops Q R C k a0 (i + 1) rest
theorem OwedAll.get {R : Nat → Value → World → Prop} {C : World → Prop} {k : Nat} {a0 : Act} : ∀ (l : List Oper) (n : Nat), OwedAll P ops Q R C k a0 n l → ∀ i o, l[i]? = some o → ∀ a w, C w → Sees ops R a0 a w (n + i) → o.wp P a w (Owed R C k (n + i) o a w) Q
  | [], _, _, i, o, ho => by simp at ho
  | x :: l, n, h, 0, o, ho => by
    simp at ho
    subst ho
    exact h.1
  | x :: l, n, h, i + 1, o, ho => by
    have := OwedAll.get l (n + 1) h.2 i o (by simpa using ho)
    rw [show n + (i + 1) = n + 1 + i by omega]
    exact this
/-- **A REGION THAT DRAWS, ALL OF IT.** -/
theorem wp_region_all {id : Nat} {a0 : Act} {w0 : World} {l : List Oper} (R : Nat → Value → World → Prop) (C : World → Prop) (hm : P.follows .mixedOrders = true) (hB : invB l.toArray l.length a0.tmps.size = true) (hC : C w0.drew)
    (H : OwedAll P l.toArray Q R C l.length a0 0 l) (hfin : ∀ a w, C w → After l.toArray R a0 l.length a w → Q .normal a w) : (Code.region id l.toArray true).wp P Q a0 w0 := by
  have hz : l.toArray.size = l.length := by simp
  refine wp_region_inv R C hm (by rw [hz]; exact hB) hC (fun i o hi ho a w hc hs => ?_) (fun a w hc ha => hfin a w hc (by rw [hz] at ha; exact ha))
  have := OwedAll.get l 0 H i o (by simpa using ho) a w hc (by rw [Nat.zero_add]; exact hs)
  rw [Nat.zero_add] at this
  rw [hz]
  exact this
/-- Guards that are always met, one behind the other. -/
def GuardsAll (ops : Array Oper) (R : Nat → Value → World → Prop) (k : Nat) : Nat → List Oper → Prop
  | _, [] => True
  | i, o :: rest => GuardOk ops R k i o ∧ GuardsAll ops R k (i + 1) rest
theorem GuardsAll.get {R : Nat → Value → World → Prop} {k : Nat} : ∀ (l : List Oper) (n : Nat), GuardsAll ops R k n l → ∀ i o, l[i]? = some o → GuardOk ops R k (n + i) o
  | [], _, _, i, o, ho => by simp at ho
  | x :: l, n, h, 0, o, ho => by
    simp at ho
    subst ho
    exact h.1
  | x :: l, n, h, i + 1, o, ho => by
    have := GuardsAll.get l (n + 1) h.2 i o (by simpa using ho)
    rw [show n + (i + 1) = n + 1 + i by omega]
    exact this
theorem guard_no {R : Nat → Value → World → Prop} {k i : Nat} {o : Oper} (h : o.guard = none) : GuardOk ops R k i o := fun j want hg => by rw [h] at hg; cases hg
theorem guard_yes {R : Nat → Value → World → Prop} {k i : Nat} {o : Oper} (j : Nat) (want : Bool) (h : o.guard = some (j, want)) (hj : decide (j < k) = true) (hw : waitsOn ops i j = true) (hd : (dstO ops j).isSome = true) (hR : ∀ u w, R j u w → u = .bool want) : GuardOk ops R k i o := fun j' want' hg => by
  rw [h] at hg
  injection hg with hg
  injection hg with h1 h2
  subst h1 h2
  exact ⟨of_decide_eq_true hj, hw, hd, hR⟩
/-- **A REGION THAT DRAWS, ITS GUARDS ALL MET.** -/
theorem wp_region_guards {id : Nat} {a0 : Act} {w0 : World} {l : List Oper} (R : Nat → Value → World → Prop) (C : World → Prop) (hm : P.follows .mixedOrders = true) (hB : invB0 l.toArray l.length a0.tmps.size = true) (hC : C w0.drew)
    (G : GuardsAll l.toArray R l.length 0 l) (H : OwedAll P l.toArray Q R C l.length a0 0 l) (hfin : ∀ a w, C w → After l.toArray R a0 l.length a w → Q .normal a w) : (Code.region id l.toArray true).wp P Q a0 w0 := by
  have hz : l.toArray.size = l.length := by simp
  refine wp_region_invG R C hm (by rw [hz]; exact hB) (fun i o hi ho => ?_) hC (fun i o hi ho a w hc hs => ?_) (fun a w hc ha => hfin a w hc (by rw [hz] at ha; exact ha))
  · have := GuardsAll.get l 0 G i o (by simpa using ho)
    rw [Nat.zero_add] at this
    rw [hz]
    exact this
  · have := OwedAll.get l 0 H i o (by simpa using ho) a w hc (by rw [Nat.zero_add]; exact hs)
    rw [Nat.zero_add] at this
    rw [hz]
    exact this
/-- **.. ALL BUT THE LAST.** -/
theorem wp_region_last {id : Nat} {a0 : Act} {w0 : World} {l : List Oper} {o : Oper} (R : Nat → Value → World → Prop) (C : World → Prop) (hm : P.follows .mixedOrders = true) (hg : o.guard = none) (hw : o.after.all (fun e => decide (e.on < l.length)) = true) (hB : invB (l ++ [o]).toArray l.length a0.tmps.size = true) (hC : C w0.drew)
    (H : OwedAll P (l ++ [o]).toArray Q R C l.length a0 0 l) (hfin : ∀ a w, C w → After (l ++ [o]).toArray R a0 l.length a w → o.wp P a w (fun a w => Q .normal a w) Q) : (Code.region id (l ++ [o]).toArray true).wp P Q a0 w0 := by
  refine wp_region_inv1 l.length R C o hm (by simp) (by simp) hg hw hB hC (fun i o' hi ho a w hc hs => ?_) hfin
  have hl : l[i]? = some o' := by
    simp only [List.getElem?_toArray] at ho
    rwa [List.getElem?_append_left hi] at ho
  have := OwedAll.get l 0 H i o' hl a w hc (by rw [Nat.zero_add]; exact hs)
  rw [Nat.zero_add] at this
  exact this
end
end Go.Proofs.YtaacjpcckinaiaaGreat
