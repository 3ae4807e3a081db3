/- The parts of a message, taken. -/
import Derived.Test.YtaacjpcckinaiaaGreatWPutP
set_option linter.unusedVariables false
set_option maxRecDepth 100000
set_option linter.unusedSimpArgs false
namespace Go.Proofs.YtaacjpcckinaiaaGreat
open Go.RowKit Go.Shelf Ms

theorem tI_some {bs : List UInt8} (h : (Num.takeE bs).2.2 = 0) : tI bs = some (((Num.takeE bs).1 : Int), Num.restT bs) := by unfold tI; rw [if_pos h]
theorem tI_none {bs : List UInt8} (h : (Num.takeE bs).2.2 ≠ 0) : tI bs = none := by unfold tI; rw [if_neg h]
theorem tT_some {bs : List UInt8} (h : (Num.takeT bs).2.2 = 0) : tT bs = some (⟨(Num.takeT bs).1.toArray⟩, (Num.takeT bs).2.1) := by unfold tT; rw [if_pos h]
theorem tT_none {bs : List UInt8} (h : (Num.takeT bs).2.2 ≠ 0) : tT bs = none := by unfold tT; rw [if_neg h]
theorem tL_some {bs : List UInt8} (h : (Num.takeL bs).2.2 = 0) : tL bs = some ((Num.takeL bs).1.map Int.ofNat, (Num.takeL bs).2.1) := by unfold tL; rw [if_pos h]
theorem tL_none {bs : List UInt8} (h : (Num.takeL bs).2.2 ≠ 0) : tL bs = none := by unfold tL; rw [if_neg h]
theorem restT_len (bs : List UInt8) : (Num.restT bs).length ≤ bs.length := by
  unfold Num.restT
  split <;> simp
theorem takeT_len (bs : List UInt8) : (Num.takeT bs).2.1.length ≤ bs.length := by
  cases bs with
  | nil => simp [Num.takeT]
  | cons h t =>
    simp only [Num.takeT]
    split <;> simp
    omega

/-- How far a pair is taken. -/
def prog (x0 : It) (bs : List UInt8) : Nat → It → List UInt8 → Prop
  | 0, x, bk => x = x0 ∧ bk = bs
  | 1, x, bk => ∃ s, tT bs = some (s, bk) ∧ x = { x0 with key := s }
  | 2, x, bk => ∃ s r a, tT bs = some (s, r) ∧ tI r = some (a, bk) ∧ x = { x0 with key := s, val := a }
  | 3, x, bk => ∃ s r a r2 b, tT bs = some (s, r) ∧ tI r = some (a, r2) ∧ tI r2 = some (b, bk) ∧ x = { x0 with key := s, val := a, ver := b }
  | _, x, bk => tP bs = some (x, bk)
theorem rw_at {w : World} {b : Nat} {c : Array Value} {t : TypeId} (h : Rw w b t c) {w1 : World} (hb : Below w.heap.size w w1) (o : Nat) (v : Value) : Rw (w1.setCell ⟨b, o, none⟩ v) b t (c.setIfInBounds o v) := (h.below hb).set o v

/-- A step that ends by a store into the message. -/
theorem Ch.step {T : TypeId → Bool} {b : Nat} {w w1 : World} {c : Array Value} (hr : Rw w b 27 c) (hb1 : Below w.heap.size w w1) (hT : T 27 = true) (o : Nat) (v : Value) : Ch T b w (w1.setCell ⟨b, o, none⟩ v) :=
  (Ch.behind hb1 (Nat.le_of_lt hr.lt)).trans (Ch.setCell (p := ⟨b, o, none⟩) (hr.below hb1) hT (Nat.le_refl _) v)
theorem Ch.step3 {b n : Nat} {w w1 : World} {c : Array Value} {x : Value} (hr : Rw w b 27 c) (hn : Boxed w n 3 x) (hbn : b ≤ n) (hb1 : Below w.heap.size w w1) (o : Nat) (u v : Value) : Ch T3 b w ((w1.setCell ⟨n, 0, none⟩ u).setCell ⟨b, o, none⟩ v) := by
  have hne : b ≠ n := by rintro rfl; have := hr.symm.trans hn; simp at this
  exact ((Ch.behind hb1 (Nat.le_of_lt hr.lt)).trans (Ch.setCell (p := ⟨n, 0, none⟩) (boxed_below hn hb1) rfl hbn u)).trans (Ch.setCell (p := ⟨b, o, none⟩) ((hr.below hb1).set_other hne 0 u) rfl (Nat.le_refl _) v)

set_option maxHeartbeats 2000000 in
theorem pair_take {w : World} {b : Nat} {x : Int} {s g g1 g2 h2 g3 h3 g4 h4 q4 n4 f4 : Nat} (H : IsQ w b x s g g1 g2 h2 g3 h3 g4 h4 q4 n4 f4) (m : M) (hr : Rw w b 27 (m.c nilS)) (v : Value) (bs : List UInt8) (hv : Sl w v (bv bs)) (hl : bs.length ≤ 140737488355328) :
    Calls Tryz.prog 129 #[v, ptr s] w fun e w' => (∃ v' y bs', tP bs = some (y, bs') ∧ e = .returned v' ∧ Sl w' v' (bv bs') ∧ Rw w' b 27 (({ m with it := y } : M).c nilS) ∧ Ch T3 b w w') ∨ (tP bs = none ∧ e = .panicked (wrong 12) ∧ Ch T3 b w w') := by
  refine (row_take s g 4 _ w H.bs (by omega) pf pt (pcp g1 g2 h2 g3 h3 g4 h4) (pct g1 g2 h2 g3 h3 q4 n4 f4) (pair_cell g1 g2 h2 g3 h3 g4 h4 q4 n4 f4) pt_enters
    (fun k bk W => bk.length ≤ 140737488355328 ∧ Rw W g 71 (pairC g1 g2 h2 g3 h3 g4 h4 q4 n4 f4) ∧ (k < 4 → IsQ W b x s g g1 g2 h2 g3 h3 g4 h4 q4 n4 f4) ∧ Ch T3 b w W ∧ ∃ y, prog m.it bs k y bk ∧ Rw W b 27 (({ m with it := y } : M).c nilS))
    (fun ch W => ch = wrong 12 ∧ tP bs = none ∧ Ch T3 b w W)
    (fun k bk W W' ⟨a1, a2, a3, a4, y, a5, a6⟩ hb => ⟨a1, a2.below hb, fun hk => (a3 hk).kt (Kt.below hb) tp27, a4.trans (Ch.behind hb (Nat.le_of_lt a6.lt)), y, a5, a6.below hb⟩)
    (fun k bk W hR => hR.2.1) (fun k hk W v bk hR hS => ?_) v bs hv ⟨hl, H.rg, fun _ => H, Ch.refl _ _ _, m.it, ⟨rfl, rfl⟩, hr⟩).mono ?_
  · obtain ⟨a1, a2, a3, a4, y, a5, a6⟩ := hR
    have Q := a3 hk
    match k, hk with
    | 0, _ =>
      obtain ⟨rfl, rfl⟩ := a5
      by_cases h0 : (Num.takeT bk).2.2 = 0
      · refine (text_take g1 ⟨b, 10, none⟩ _ v bk W Q.b1 a6.lt (a6.cell 10) (a6.free 10) hS a1 h0).mono ?_
        rintro e W' ⟨v', w1, rfl, rfl, hb1, hs1⟩
        have c1 := Ch.step (T := T27) a6 hb1 rfl 10 (.string ⟨(Num.takeT bk).1.toArray⟩)
        exact .inl ⟨v', _, rfl, (hs1.set_ a6.lt _ _).sl, Nat.le_trans (takeT_len bk) a1, c1.kt.same _ _ _ _ rfl a2, fun _ => Q.kt c1.kt tp27, a4.trans (c1.mono T27_3), _, ⟨_, tT_some h0, rfl⟩, rw_at a6 hb1 10 _⟩
      · refine (text_fall g1 v bk W hS a1 h0).mono ?_
        rintro e W' ⟨rfl, hb1⟩
        exact .inr ⟨_, rfl, rfl, by unfold tP; rw [tT_none h0]; rfl, a4.trans (Ch.behind hb1 (Nat.le_of_lt a6.lt))⟩
    | 1, _ =>
      obtain ⟨s1, e1, rfl⟩ := a5
      by_cases h0 : (Num.takeE bk).2.2 = 0
      · have := numI_take g2 h2 ⟨b, 11, none⟩ _ 0 v bk W Q.b2 Q.c2 (by omega) a6.lt (a6.cell 11) (a6.free 11) hS a1 h0
        rw [Int.sub_zero] at this
        refine this.mono ?_
        rintro e W' ⟨v', w1, rfl, rfl, hb1, hs1⟩
        have c1 := Ch.step (T := T27) a6 hb1 rfl 11 (.int .i64 ((Num.takeE bk).1 : Int))
        exact .inl ⟨v', _, rfl, (hs1.set_ a6.lt _ _).sl, Nat.le_trans (restT_len bk) a1, c1.kt.same _ _ _ _ rfl a2, fun _ => Q.kt c1.kt tp27, a4.trans (c1.mono T27_3), _, ⟨_, _, _, e1, tI_some h0, rfl⟩, rw_at a6 hb1 11 _⟩
      · refine (numI_fall g2 h2 v bk W hS a1 h0).mono ?_
        rintro e W' ⟨rfl, hb1⟩
        exact .inr ⟨_, rfl, rfl, by unfold tP; rw [e1]; simp only [Option.bind_some]; rw [tI_none h0]; rfl, a4.trans (Ch.behind hb1 (Nat.le_of_lt a6.lt))⟩
    | 2, _ =>
      obtain ⟨s1, r1, x1, e1, e2, rfl⟩ := a5
      by_cases h0 : (Num.takeE bk).2.2 = 0
      · have := numI_take g3 h3 ⟨b, 12, none⟩ _ 0 v bk W Q.b3 Q.c3 (by omega) a6.lt (a6.cell 12) (a6.free 12) hS a1 h0
        rw [Int.sub_zero] at this
        refine this.mono ?_
        rintro e W' ⟨v', w1, rfl, rfl, hb1, hs1⟩
        have c1 := Ch.step (T := T27) a6 hb1 rfl 12 (.int .i64 ((Num.takeE bk).1 : Int))
        exact .inl ⟨v', _, rfl, (hs1.set_ a6.lt _ _).sl, Nat.le_trans (restT_len bk) a1, c1.kt.same _ _ _ _ rfl a2, fun _ => Q.kt c1.kt tp27, a4.trans (c1.mono T27_3), _, ⟨_, _, _, _, _, e1, e2, tI_some h0, rfl⟩, rw_at a6 hb1 12 _⟩
      · refine (numI_fall g3 h3 v bk W hS a1 h0).mono ?_
        rintro e W' ⟨rfl, hb1⟩
        exact .inr ⟨_, rfl, rfl, by unfold tP; rw [e1]; simp only [Option.bind_some]; rw [e2]; simp only [Option.bind_some]; rw [tI_none h0]; rfl, a4.trans (Ch.behind hb1 (Nat.le_of_lt a6.lt))⟩
    | 3, _ =>
      obtain ⟨s1, r1, x1, r2, x2, e1, e2, e3, rfl⟩ := a5
      have hne : b ≠ n4 := by rintro rfl; have := a6.symm.trans Q.f4.bn; simp at this
      by_cases h0 : (Num.takeE bk).2.2 = 0
      · refine (flag_take g4 h4 q4 n4 f4 ⟨b, 13, none⟩ x _ v bk W Q.f4 a6.lt hne (a6.cell 13) (a6.free 13) hS a1 h0).mono ?_
        rintro e W' ⟨v', w1, rfl, rfl, hb1, hs1⟩
        have c1 := Ch.step3 a6 Q.f4.bn Q.n4 hb1 13 (.int .i64 (Num.takeE bk).1) (.bool (decide (((Num.takeE bk).1 : Int) = 1)))
        refine .inl ⟨v', _, rfl, ((hs1.set_ Q.f4.bn.lt _ _).set_ a6.lt _ _).sl, Nat.le_trans (restT_len bk) a1, c1.kt.same _ _ _ _ rfl a2, fun h => absurd h (by omega), a4.trans c1, ⟨s1, x1, x2, decide (((Num.takeE bk).1 : Int) = 1)⟩, ?_, ((a6.below hb1).set_other hne 0 _).set 13 _⟩
        show tP bs = some (_, _)
        unfold tP
        rw [e1]; simp only [Option.bind_some]; rw [e2]; simp only [Option.bind_some]; rw [e3]; simp only [Option.bind_some]; rw [tI_some h0]; rfl
      · refine (flag_fall g4 h4 q4 n4 f4 ⟨b, 13, none⟩ x v bk W Q.f4 hS a1 h0).mono ?_
        rintro e W' ⟨rfl, hb1⟩
        exact .inr ⟨_, rfl, rfl, by unfold tP; rw [e1]; simp only [Option.bind_some]; rw [e2]; simp only [Option.bind_some]; rw [e3]; simp only [Option.bind_some]; rw [tI_none h0]; rfl, a4.trans (Ch.behind hb1 (Nat.le_of_lt a6.lt))⟩
  · rintro e W' (⟨v', bk, rfl, hS, a1, a2, a3, a4, y, a5, a6⟩ | ⟨ch, rfl, rfl, a1, a2⟩)
    · exact .inl ⟨v', y, bk, a5, rfl, hS, a6, a4⟩
    · exact .inr ⟨a1, rfl, a2⟩
end Go.Proofs.YtaacjpcckinaiaaGreat
