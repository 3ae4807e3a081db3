/- A region that draws its order, up to one of its operations that waits for all ahead of it: these yield the same in every world behind one: walked once; what stands behind it is left. No program is named here. -/
import Derived.Deep.RegionHeld3
import Derived.Test.YtaacjpcckinaiaaGreatMsgB
set_option linter.unusedVariables false
set_option maxRecDepth 100000
set_option linter.unusedSimpArgs false
namespace Go.Proofs.YtaacjpcckinaiaaGreat.Ms
open Go.RowKit Go.Shelf

section
variable {P : Program} {ops : Array Oper} {md : Region.Mode} {C : World → Prop}

/-- Whatever order is picked, till operation g has come up: then R. -/
def quietTo (P : Program) (md : Region.Mode) (ops : Array Oper) (C : World → Prop) (g : Nat) (R : Array Bool → Act → Prop) : Nat → Array Bool → Act → Prop
  | 0, _, _ => False
  | fuel + 1, listed, a => (listed.getD g true = true → R listed a) ∧ (listed.getD g true = false → Region.ready md ops listed ≠ [] ∧ ∀ i ∈ Region.ready md ops listed, qOp P ops C i (quietTo P md ops C g R fuel (listed.setIfInBounds i true)) a)
/-- What has come up has what it waits for. -/
def Clo (md : Region.Mode) (ops : Array Oper) (listed : Array Bool) : Prop := ∀ j o, ops[j]? = some o → listed.getD j true = true → ∀ e ∈ o.after, Region.binds md e = true → listed.getD e.on false = true
theorem Clo.set {listed : Array Bool} {j : Nat} (h : Clo md ops listed) (hj : j ∈ Region.ready md ops listed) : Clo md ops (listed.setIfInBounds j true) := by
  intro k o ho hk e he hb
  by_cases hjk : j = k
  · subst hjk
    obtain ⟨_, o', ho', hall⟩ := mem_ready.1 hj
    rw [ho] at ho'
    cases ho'
    exact getD_set_true (hall e he hb)
  · rw [getD_set_ne true hjk] at hk
    exact getD_set_true (h k o ho hk e he hb)
theorem Clo.none : Clo md ops (Array.replicate ops.size false) := by
  intro j o ho hj
  have := (Array.getElem?_eq_some_iff.1 ho).1
  simp [this] at hj
def depB (md : Region.Mode) (ops : Array Oper) (k j : Nat) : Bool := match ops[j]? with
  | some o => o.after.any (fun e => Region.binds md e && e.on == k)
  | none => false
/-- Each ahead of g has one behind it, up to g, that waits for it. -/
def succB (md : Region.Mode) (ops : Array Oper) (g : Nat) : Bool := (List.range g).all fun k => (List.range (g + 1)).any fun j => decide (k < j) && depB md ops k j
theorem dep_spec {k j : Nat} (h : depB md ops k j = true) : ∃ o, ops[j]? = some o ∧ ∃ e ∈ o.after, Region.binds md e = true ∧ e.on = k := by
  unfold depB at h
  cases ho : ops[j]? with
  | none => rw [ho] at h; cases h
  | some o =>
    rw [ho] at h
    simp only [Array.any_eq_true] at h
    obtain ⟨i, hi, h⟩ := h
    simp only [Bool.and_eq_true, beq_iff_eq] at h
    exact ⟨o, rfl, _, Array.getElem_mem hi, h⟩
theorem getD_up {listed : Array Bool} {k : Nat} (h : listed.getD k false = true) : listed.getD k true = true := by
  rcases Nat.lt_or_ge k listed.size with h' | h'
  · simp [h'] at h ⊢; exact h
  · simp [Array.getElem?_eq_none h'] at h
theorem all_ahead {g : Nat} {listed : Array Bool} (hc : Clo md ops listed) (hs : succB md ops g = true) (hg : g ∈ Region.ready md ops listed) : ∀ (m k : Nat), g - k = m → k < g → listed.getD k false = true := by
  intro m
  induction m using Nat.strongRecOn with
  | _ m ih =>
    intro k hm hk
    have h1 := List.all_eq_true.1 hs k (List.mem_range.2 hk)
    obtain ⟨j, hj, h2⟩ := List.any_eq_true.1 h1
    have hj := List.mem_range.1 hj
    simp only [Bool.and_eq_true, decide_eq_true_eq] at h2
    obtain ⟨hkj, hd⟩ := h2
    obtain ⟨o, ho, e, he, hb, rfl⟩ := dep_spec hd
    by_cases hjg : j = g
    · subst hjg
      obtain ⟨_, o', ho', hall⟩ := mem_ready.1 hg
      rw [ho] at ho'
      cases ho'
      exact hall e he hb
    · exact hc j o ho (getD_up (ih (g - j) (by omega) j rfl (by omega))) e he hb

/-- Operation i stands apart from all that have not come up and do not wait for it. -/
def Apt (md : Region.Mode) (ops : Array Oper) (i : Nat) (oi : Oper) (listed : Array Bool) : Prop :=
  ∀ j oj, ops[j]? = some oj → j ≠ i → listed.getD j true = false → (∀ e ∈ oj.after, Region.binds md e = true → e.on ≠ i) → oi.apart ops oj = true
theorem Apt.set {i j : Nat} {oi : Oper} {listed : Array Bool} (h : Apt md ops i oi listed) (hj : listed.getD j true = false) : Apt md ops i oi (listed.setIfInBounds j true) := by
  intro k ok ho hne hun hno
  rcases Nat.lt_trichotomy j k with hlt | rfl | hlt
  · exact h k ok ho hne (by rwa [getD_set_ne true (by omega)] at hun) hno
  · exact h j ok ho hne hj hno
  · exact h k ok ho hne (by rwa [getD_set_ne true (by omega)] at hun) hno
/-- Of two that may come up none waits for the other. -/
theorem waits_not {i j : Nat} {oj : Oper} {listed : Array Bool} (hi : i ∈ Region.ready md ops listed) (hj : j ∈ Region.ready md ops listed) (ho : ops[j]? = some oj) : ∀ e ∈ oj.after, Region.binds md e = true → e.on ≠ i := by
  rintro e he hb rfl
  obtain ⟨_, o, ho', hall⟩ := mem_ready.1 hj
  obtain rfl : oj = o := Option.some.inj (ho.symm.trans ho')
  have hup := getD_up (hall e he hb)
  rw [(mem_ready.1 hi).1] at hup
  exact Bool.noConfusion hup
/-- One that may come up now, ahead of g, quiet, and apart from the rest, may be taken first. -/
theorem quietTo_first {g i : Nat} {oi : Oper} {v : Value} {R : Array Bool → Act → Prop} (hi : ops[i]? = some oi) (hns : Region.noSelect ops = true) (hig : i < g) (hs : succB md ops g = true) :
    ∀ (fuel : Nat) (listed : Array Bool) (a : Act), Clo md ops listed → listed.getD g true = false → Apt md ops i oi listed → i ∈ Region.ready md ops listed → YieldsIn P ops C oi v a →
      quietTo P md ops C g R fuel (listed.setIfInBounds i true) (a.put oi.dst v) → quietTo P md ops C g R (fuel + 1) listed a
  | 0, _, _, _, _, _, _, _, H => H.elim
  | fuel + 1, listed, a, hclo, hg, hapt, hr, hy, H => by
    have step : ∀ j ∈ Region.ready md ops listed, j ≠ i → qOp P ops C j (quietTo P md ops C g R (fuel + 1) (listed.setIfInBounds j true)) a := by
      intro j hj hne
      obtain ⟨hun, oj, hoj, _⟩ := mem_ready.1 hj
      have hjg : j ≠ g := by
        rintro rfl
        have hup := getD_up (all_ahead hclo hs hj _ i rfl hig)
        rw [(mem_ready.1 hr).1] at hup
        exact Bool.noConfusion hup
      have hH := (H.2 ((getD_set_ne true (Nat.ne_of_lt hig)).trans hg)).2 j (ready_mono hj hne)
      have both := qOp_put hoj (hapt j oj hoj hne hun (waits_not hr hj hoj)) (fun cs b => Region.noSelect_spec hns i oi cs b hi) (fun cs b => Region.noSelect_spec hns j oj cs b hoj) hy hH
      refine qOp_mono (fun a' ⟨ya, qa⟩ => ?_) both
      refine quietTo_first hi hns hig hs fuel _ a' (hclo.set hj) ((getD_set_ne true hjg).trans hg) (hapt.set hun) (ready_mono hr (Ne.symm hne)) ya ?_
      rwa [Array.setIfInBounds_comm _ _ hne]
    constructor
    · intro h'
      rw [hg] at h'
      exact Bool.noConfusion h'
    · intro _
      refine ⟨List.ne_nil_of_mem hr, fun j hj => ?_⟩
      by_cases hne : j = i
      · rw [hne]
        exact hy.qOp hi H
      · exact step j hj hne

/-- n operations from k on have come up. -/
def lexSet : Nat → Nat → Array Bool → Array Bool
  | 0, _, listed => listed
  | n + 1, k, listed => lexSet n (k + 1) (listed.setIfInBounds k true)
/-- The lexical order is one, up to g, which comes up alone. -/
def lexTo (md : Region.Mode) (ops : Array Oper) : Nat → Nat → Array Bool → Bool
  | 0, k, listed => (Region.ready md ops listed == [k]) && !listed.getD k true
  | n + 1, k, listed => (Region.ready md ops listed).contains k && Region.free md ops listed k && !listed.getD (k + n + 1) true && lexTo md ops n (k + 1) (listed.setIfInBounds k true)
def splitB (md : Region.Mode) (ops : Array Oper) (g : Nat) : Bool := Region.noSelect ops && succB md ops g && decide (g < ops.size) && lexTo md ops g 0 (Array.replicate ops.size false)

theorem cons_of {α : Type} {l : List α} {n : Nat} (h : l.length = n + 1) : ∃ o r, l = o :: r ∧ r.length = n := by
  cases l with
  | nil => cases h
  | cons o r => exact ⟨o, r, rfl, by simpa using h⟩
theorem quietTo_lex {g : Nat} {R : Array Bool → Act → Prop} (hn : Region.noSelect ops = true) (hs : succB md ops g = true) (hgs : g < ops.size) : ∀ (n k : Nat) (l : List Oper) (listed : Array Bool) (a : Act), l.length = n + 1 → (∀ j, j < l.length → l[j]? = ops[k + j]?) → k + n = g → listed.size = ops.size →
    Clo md ops listed → lexTo md ops n k listed = true → wpQuiet P ops C (fun a' => R (lexSet (n + 1) k listed) a') l a → quietTo P md ops C g R (n + 2) listed a := by
  intro n
  induction n with
  | zero =>
    intro k l listed a hlen hl hk hsz hclo hB h
    obtain rfl : k = g := by omega
    obtain ⟨o, r, rfl, hr0⟩ := cons_of hlen
    obtain rfl := List.eq_nil_of_length_eq_zero hr0
    · have h0 : ops[k]? = some o := by have := hl 0 (by simp); rw [Nat.add_zero] at this; exact this.symm
      simp only [lexTo, Bool.and_eq_true, beq_iff_eq, Bool.not_eq_true'] at hB
      refine ⟨fun h' => (by rw [hB.2] at h'; cases h'), fun _ => ⟨by rw [hB.1]; simp, ?_⟩⟩
      rw [hB.1]
      intro i hi
      obtain rfl : i = k := by simpa using hi
      have hst : qOp P ops C i (wpQuiet P ops C (fun a' => R (lexSet 1 i listed) a') []) a := by unfold qOp; simp only [h0]; exact h
      refine qOp_mono (fun a' h' => ?_) hst
      refine ⟨fun _ => h', fun hf => ?_⟩
      simp [hsz, hgs] at hf
  | succ n ih =>
    intro k l listed a hlen hl hk hsz hclo hB h
    obtain ⟨o, l', rfl, hl1⟩ := cons_of hlen
    · have h0 : ops[k]? = some o := by have := hl 0 (by simp); rw [Nat.add_zero] at this; exact this.symm
      simp only [lexTo, Bool.and_eq_true, Bool.not_eq_true'] at hB
      obtain ⟨⟨⟨hr, hf⟩, hg⟩, hB'⟩ := hB
      rw [show k + n + 1 = g by omega] at hg
      have hr' : k ∈ Region.ready md ops listed := by simpa using hr
      have hst : qOp P ops C k (wpQuiet P ops C (fun a' => R (lexSet (n + 1 + 1) k listed) a') l') a := by unfold qOp; simp only [h0]; exact h
      obtain ⟨v, hy, hK⟩ := yieldsIn_of_qOp h0 hst
      exact quietTo_first h0 hn (by omega) hs (n + 2) listed a hclo hg (Region.free_spec h0 hf) hr' hy
        (ih (k + 1) l' _ _ hl1 (fun j hj => by have := hl (j + 1) (by simpa using hj); rw [List.getElem?_cons_succ] at this; rw [this, Nat.add_assoc, Nat.add_comm 1 j]) (by omega) (by simpa using hsz) (hclo.set hr') hB' hK)

theorem wpAny_of_to {g T : Nat} {R : Array Bool → Act → Prop} {Q' : Exit → Act → World → Prop} (hR : ∀ listed a w f, C w → R listed a → wpAny P md ops Q' (f + 1 + T) listed a w) : ∀ (fuel : Nat) (listed : Array Bool) (a : Act) (w : World), C w →
    quietTo P md ops C g R fuel listed a → wpAny P md ops Q' (fuel + T) listed a w
  | 0, _, _, _, _, h => h.elim
  | fuel + 1, listed, a, w, hw, h => by
    cases hl : listed.getD g true with
    | true => exact hR _ _ _ fuel hw (h.1 hl)
    | false =>
      obtain ⟨h1, h2⟩ := h.2 hl
      rw [show fuel + 1 + T = (fuel + T) + 1 by omega]
      exact ⟨fun h0 => absurd h0 h1, fun i hi => wpOp_of_qOp hw (fun a' w' hw' h' => wpAny_of_to hR fuel _ a' w' hw' h') (h2 i hi)⟩

/-- **UP TO AN OPERATION THAT WAITS FOR ALL AHEAD OF IT**: one walk of the lexical order; behind it: whatever order is picked of what is left. -/
theorem wp_region_split {id : Nat} {Q : Exit → Act → World → Prop} {a : Act} {W : World} (x : Wd W) {l : List Oper} (g T : Nat) (hm : P.follows .mixedOrders = true) (hT : l.length = g + 2 + T) (hB : splitB .any l.toArray g = true)
    (h : wpQuiet P l.toArray (fun w => ∃ y : Wd W, w = y.w) (fun a' => ∀ (y : Wd W) (f : Nat), wpAny P .any l.toArray Q (f + 1 + T) (lexSet (g + 1) 0 (Array.replicate l.length false)) a' y.w) (l.take (g + 1)) a) : (Code.region id l.toArray true).wp P Q a x.w := by
  simp only [splitB, Bool.and_eq_true, decide_eq_true_eq] at hB
  obtain ⟨⟨⟨h1, h2⟩, h3⟩, h4⟩ := hB
  have hsz : l.toArray.size = l.length := by simp
  refine wp_region_any hm ?_
  rw [hsz, hT]
  obtain ⟨y0, hy0⟩ := x.drew
  refine wpAny_of_to (C := fun w => ∃ y : Wd W, w = y.w) (g := g) (R := fun listed a' => ∀ (y : Wd W) (f : Nat), wpAny P .any l.toArray Q (f + 1 + T) listed a' y.w) (fun listed a w f ⟨y, e⟩ hr => by rw [e]; exact hr y f) (g + 2) _ _ _ ⟨y0, hy0⟩ ?_
  rw [← hT]
  refine quietTo_lex h1 h2 h3 g 0 (l.take (g + 1)) _ a (by rw [List.length_take]; omega) (fun j hj => ?_) (by omega) (by simp) (by have := Clo.none (md := .any) (ops := l.toArray); rwa [hsz] at this) (by rw [hsz] at h4; exact h4) h
  rw [List.length_take] at hj
  rw [List.getElem?_take, if_pos (by omega), Nat.zero_add]
  simp
end
end Go.Proofs.YtaacjpcckinaiaaGreat.Ms
