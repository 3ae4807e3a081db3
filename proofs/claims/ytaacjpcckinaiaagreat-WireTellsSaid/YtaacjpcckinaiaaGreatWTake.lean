/- A part of a message, taken. -/
import Derived.Test.YtaacjpcckinaiaaGreatWTakeP
set_option linter.unusedVariables false
set_option maxRecDepth 100000
set_option linter.unusedSimpArgs false
namespace Go.Proofs.YtaacjpcckinaiaaGreat
open Go.RowKit Go.Shelf Ms

set_option maxHeartbeats 1000000 in
theorem side_take0 (c r : Nat) (p : Addr) (x : Int) (v : Value) (w : World) (hc : Boxed w c 114 (.pointer (some p))) (hp : w.cell? p = some (.int .i64 x)) (h0 : x ≠ 0) (hv : ∃ A n c, v = .slice A n c) :
    Calls Tryz.prog 122 #[v, ptr c, ptr r] w fun e w' => e = .returned v ∧ w = w' := by
  obtain ⟨A, n, c', rfl⟩ := hv
  have cc := hc.cell
  have hb : (x != 0) = true := by simp [h0]
  clear h0
  go_enter Tryz.func122, Tryz.ntmps122
  go_wp2
  go_ret
  exact ⟨rfl, rfl⟩
set_option maxHeartbeats 1000000 in
theorem side_take1 (c r : Nat) (p : Addr) (s : Nat) (v : Value) (w : World) (R : Ending → World → Prop) (hc : Boxed w c 114 (.pointer (some p))) (hr : Rw w r 71 (partC 128 129 #[ptr s] #[ptr s])) (hp : w.cell? p = some (.int .i64 0)) (hv : ∃ A n c, v = .slice A n c)
    (hrow : Calls Tryz.prog 129 #[v, ptr s] w fun e w' => R e w' ∧ ((∃ A n c, e = .returned (.slice A n c)) ∨ ∃ ch, e = .panicked ch)) :
    Calls Tryz.prog 122 #[v, ptr c, ptr r] w fun e w' => R e w' := by
  obtain ⟨A, n, c', rfl⟩ := hv
  have cc := hc.cell
  have cr : w.cell? ⟨r, 1, none⟩ = some (.func (.func 129) #[] #[ptr s]) := hr.cell 1
  have HR := Lib.hid hrow
  clear hrow
  go_enter Tryz.func122, Tryz.ntmps122
  go_wp2_with fail
  refine HR.out.mono ?_
  rintro e w' ⟨hR, (⟨A', n', c2, rfl⟩ | ⟨ch, rfl⟩)⟩
  · have H := Lib.hid hR
    clear hR
    go_wp2
    exact H.out
  · exact ⟨rfl, hR⟩

def OkT : D → Prop
  | .int o more => okI o = true ∧ 0 ≤ more ∧ more ≤ 1
  | .flag o => okF o = true
  | _ => True
/-- Which cells may change when a part is taken. -/
def Td : D → TypeId → Bool
  | .flag _ => T3
  | .pair => T3
  | .side => T3
  | _ => T27
/-- A list's slice, behind block b. -/
def LV (w : World) (b : Nat) (d : D) (lv : Value) (l : List Int) : Prop := ∃ A n c, lv = .slice A n c ∧ Slf (b + 1) w lv (iv l) ∧ ((∀ _ : d = .list, False) → lv = nilS ∧ l = [])
theorem LV.nil_ (w : World) (b : Nat) (d : D) : LV w b d nilS [] := ⟨_, _, _, rfl, Slf.nil_ _ _, fun _ => ⟨rfl, rfl⟩⟩
/-- What comes of taking a part. -/
def Taken (w : World) (b : Nat) (m : M) (bs : List UInt8) (d : D) (e : Ending) (w' : World) : Prop :=
  (∃ v' m' l' bs' lv', takeD d m [] bs = some (m', l', bs') ∧ e = .returned v' ∧ Sl w' v' (bv bs') ∧ Rw w' b 27 (m'.c lv') ∧ LV w' b d lv' l' ∧ Ch (Td d) b w w') ∨ (takeD d m [] bs = none ∧ e = .panicked (wrong 12) ∧ Ch (Td d) b w w')
theorem partV_inj {f t f' t' : FuncId} {s s' : Nat} (h : partV f t #[ptr s] #[ptr s] = partV f' t' #[ptr s'] #[ptr s']) : s = s' := by
  simp only [partV, partC, Value.agg.injEq] at h
  simp at h
  exact h.1.2

theorem part_take {w : World} {b : Nat} {m m0 : M} {v : Value} {d : D} {bs : List UInt8} (hd : PartIs w b m0 v d) (hr : Rw w b 27 (m.c nilS)) (hok : OkT d) (hl : bs.length ≤ 140737488355328) :
    ∃ f t cp ct, v = partV f t cp ct ∧ (∀ args w, (callFunc t args).run Tryz.prog w = .ok (.enter t args) w) ∧ ∀ rv, Sl w rv (bv bs) → Calls Tryz.prog t (#[rv] ++ ct) w (Taken w b m bs d) := by
  have hb := hr.lt
  cases d with
  | u8 =>
    obtain ⟨g, h, rfl, bg, bh⟩ := hd
    refine ⟨_, _, _, _, rfl, enters_of Tryz.func85 (by kernel_rfl) rfl, fun rv hs => ?_⟩
    by_cases h0 : (Num.takeE bs).2.2 = 0
    · have := numU_take g h ⟨b, 0, none⟩ _ 0 rv bs w bg bh (by omega) hb (hr.cell 0) (hr.free 0) hs hl h0
      rw [Int.sub_zero] at this
      refine this.mono ?_
      rintro e W' ⟨v', w1, rfl, rfl, hb1, hs1⟩
      exact .inl ⟨v', _, _, _, nilS, by unfold takeD; rw [tI_some h0]; rfl, rfl, (hs1.set_ hb _ _).sl, rw_at hr hb1 0 _, LV.nil_ _ _ _, Ch.step (T := T27) hr hb1 rfl 0 _⟩
    · refine (numU_fall g h rv bs w hs hl h0).mono ?_
      rintro e W' ⟨rfl, hb1⟩
      exact .inr ⟨by unfold takeD; rw [tI_none h0]; rfl, rfl, Ch.behind hb1 (Nat.le_of_lt hb)⟩
  | int o more =>
    obtain ⟨g, h, rfl, bg, bh⟩ := hd
    obtain ⟨ho, k0, k1⟩ := hok
    refine ⟨_, _, _, _, rfl, enters_of Tryz.func88 (by kernel_rfl) rfl, fun rv hs => ?_⟩
    have hcell : w.cell? ⟨b, o, none⟩ = some (.int .i64 (geti m o)) := by
      rw [hr.cell o]
      simp only [okI, Bool.or_eq_true, beq_iff_eq] at ho
      rcases ho with ((((rfl | rfl) | rfl) | rfl) | rfl) | rfl <;> rfl
    have hset : ∀ z, (m.c nilS).setIfInBounds o (.int .i64 z) = (seti m z o).c nilS := by
      intro z
      simp only [okI, Bool.or_eq_true, beq_iff_eq] at ho
      rcases ho with ((((rfl | rfl) | rfl) | rfl) | rfl) | rfl <;> rfl
    by_cases h0 : (Num.takeE bs).2.2 = 0
    · refine (numI_take g h ⟨b, o, none⟩ _ more rv bs w bg bh ⟨k0, k1⟩ hb hcell (hr.free o) hs hl h0).mono ?_
      rintro e W' ⟨v', w1, rfl, rfl, hb1, hs1⟩
      exact .inl ⟨v', _, _, _, nilS, by unfold takeD; rw [tI_some h0]; rfl, rfl, (hs1.set_ hb _ _).sl, by rw [← hset]; exact rw_at hr hb1 o _, LV.nil_ _ _ _, Ch.step (T := T27) hr hb1 rfl o _⟩
    · refine (numI_fall g h rv bs w hs hl h0).mono ?_
      rintro e W' ⟨rfl, hb1⟩
      exact .inr ⟨by unfold takeD; rw [tI_none h0]; rfl, rfl, Ch.behind hb1 (Nat.le_of_lt hb)⟩
  | err =>
    obtain ⟨g, h, rfl, bg, bh⟩ := hd
    refine ⟨_, _, _, _, rfl, enters_of Tryz.func120 (by kernel_rfl) rfl, fun rv hs => ?_⟩
    by_cases h0 : (Num.takeE bs).2.2 = 0
    · have := numE_take g h ⟨b, 14, none⟩ _ 0 rv bs w bg bh (by omega) hb (hr.cell 14) (hr.free 14) hs hl h0
      rw [Int.sub_zero] at this
      refine this.mono ?_
      rintro e W' ⟨v', w1, rfl, rfl, hb1, hs1⟩
      exact .inl ⟨v', _, _, _, nilS, by unfold takeD; rw [tI_some h0]; rfl, rfl, (hs1.set_ hb _ _).sl, rw_at hr hb1 14 _, LV.nil_ _ _ _, Ch.step (T := T27) hr hb1 rfl 14 _⟩
    · refine (numE_fall g h rv bs w hs hl h0).mono ?_
      rintro e W' ⟨rfl, hb1⟩
      exact .inr ⟨by unfold takeD; rw [tI_none h0]; rfl, rfl, Ch.behind hb1 (Nat.le_of_lt hb)⟩
  | flag o =>
    obtain ⟨g, h, q, n, f, rfl, F, hn⟩ := hd
    have ho : okF o = true := hok
    refine ⟨_, _, _, _, rfl, enters_of Tryz.func109 (by kernel_rfl) rfl, fun rv hs => ?_⟩
    have hne : b ≠ n := by rintro rfl; have := hr.symm.trans F.bn; simp at this
    have hcell : w.cell? ⟨b, o, none⟩ = some (.bool (getb m o)) := by
      rw [hr.cell o]
      simp only [okF, Bool.or_eq_true, beq_iff_eq] at ho
      rcases ho with rfl | rfl <;> rfl
    have hset : ∀ z, (m.c nilS).setIfInBounds o (.bool z) = (setb m z o).c nilS := by
      intro z
      simp only [okF, Bool.or_eq_true, beq_iff_eq] at ho
      rcases ho with rfl | rfl <;> rfl
    by_cases h0 : (Num.takeE bs).2.2 = 0
    · refine (flag_take g h q n f ⟨b, o, none⟩ _ _ rv bs w F hb hne hcell (hr.free o) hs hl h0).mono ?_
      rintro e W' ⟨v', w1, rfl, rfl, hb1, hs1⟩
      exact .inl ⟨v', _, _, _, nilS, by unfold takeD; rw [tI_some h0]; rfl, rfl, ((hs1.set_ F.bn.lt _ _).set_ hb _ _).sl, by rw [← hset]; exact ((hr.below hb1).set_other hne 0 _).set o _, LV.nil_ _ _ _, Ch.step3 hr F.bn hn hb1 o _ _⟩
    · refine (flag_fall g h q n f ⟨b, o, none⟩ _ rv bs w F hs hl h0).mono ?_
      rintro e W' ⟨rfl, hb1⟩
      exact .inr ⟨by unfold takeD; rw [tI_none h0]; rfl, rfl, Ch.behind hb1 (Nat.le_of_lt hb)⟩
  | text =>
    obtain ⟨g, rfl, bg⟩ := hd
    refine ⟨_, _, _, _, rfl, enters_of Tryz.func113 (by kernel_rfl) rfl, fun rv hs => ?_⟩
    by_cases h0 : (Num.takeT bs).2.2 = 0
    · refine (text_take g ⟨b, 10, none⟩ _ rv bs w bg hb (hr.cell 10) (hr.free 10) hs hl h0).mono ?_
      rintro e W' ⟨v', w1, rfl, rfl, hb1, hs1⟩
      exact .inl ⟨v', _, _, _, nilS, by unfold takeD; rw [tT_some h0]; rfl, rfl, (hs1.set_ hb _ _).sl, rw_at hr hb1 10 _, LV.nil_ _ _ _, Ch.step (T := T27) hr hb1 rfl 10 _⟩
    · refine (text_fall g rv bs w hs hl h0).mono ?_
      rintro e W' ⟨rfl, hb1⟩
      exact .inr ⟨by unfold takeD; rw [tT_none h0]; rfl, rfl, Ch.behind hb1 (Nat.le_of_lt hb)⟩
  | list =>
    obtain ⟨g, rfl, bg⟩ := hd
    refine ⟨_, _, _, _, rfl, enters_of Tryz.func117 (by kernel_rfl) rfl, fun rv hs => ?_⟩
    by_cases h0 : (Num.takeL bs).2.2 = 0
    · refine (list_take g ⟨b, 9, none⟩ _ rv bs w bg hb (hr.cell 9) (hr.free 9) hs hl h0).mono ?_
      rintro e W' ⟨v', w1, A, n, c, rfl, rfl, hb1, hs1, hs2⟩
      exact .inl ⟨v', _, _, _, .slice A n c, by unfold takeD; rw [tL_some h0]; rfl, rfl, (hs2.set_ hb _ _).sl, rw_at hr hb1 9 _, ⟨A, n, c, rfl, (hs1.set_ hb _ _).mono (by omega), fun h => (h rfl).elim⟩, Ch.step (T := T27) hr hb1 rfl 9 _⟩
    · refine (list_fall g rv bs w hs hl h0).mono ?_
      rintro e W' ⟨rfl, hb1⟩
      exact .inr ⟨by unfold takeD; rw [tL_none h0]; rfl, rfl, Ch.behind hb1 (Nat.le_of_lt hb)⟩
  | pair =>
    obtain ⟨s, g, g1, g2, h2, g3, h3, g4, h4, q4, n4, f4, rfl, H⟩ := hd
    refine ⟨_, _, _, _, rfl, enters_of Tryz.func129 (by kernel_rfl) rfl, fun rv hs => ?_⟩
    refine (pair_take H m hr rv bs hs hl).mono ?_
    rintro e W' (⟨v', y, bs', h0, rfl, hs1, hr1, c1⟩ | ⟨h0, rfl, c1⟩)
    · exact .inl ⟨v', _, _, _, nilS, by unfold takeD; rw [h0]; rfl, rfl, hs1, hr1, LV.nil_ _ _ _, c1⟩
    · exact .inr ⟨by unfold takeD; rw [h0]; rfl, rfl, c1⟩
  | side =>
    obtain ⟨c', r, s, rfl, bc, br, hP⟩ := hd
    refine ⟨_, _, _, _, rfl, enters_of Tryz.func122 (by kernel_rfl) rfl, fun rv hs => ?_⟩
    by_cases h0 : m.code = 0
    · obtain ⟨s', g, g1, g2, h2, g3, h3, g4, h4, q4, n4, f4, e, H⟩ := hP
      obtain rfl := partV_inj e
      refine side_take1 c' r ⟨b, 14, none⟩ s rv w _ bc br (by rw [hr.cell 14, ← h0]; rfl) hs.slice ((pair_take H m hr rv bs hs hl).mono ?_)
      rintro e W' (⟨v', y, bs', h1, rfl, hs1, hr1, c1⟩ | ⟨h1, rfl, c1⟩)
      · obtain ⟨A, n, c2, rfl⟩ := hs1.slice
        exact ⟨.inl ⟨_, _, _, _, nilS, by unfold takeD; rw [if_pos h0, h1]; rfl, rfl, hs1, hr1, LV.nil_ _ _ _, c1⟩, .inl ⟨_, _, _, rfl⟩⟩
      · exact ⟨.inr ⟨by unfold takeD; rw [if_pos h0, h1]; rfl, rfl, c1⟩, .inr ⟨_, rfl⟩⟩
    · refine (side_take0 c' r ⟨b, 14, none⟩ m.code rv w bc (hr.cell 14) h0 hs.slice).mono ?_
      rintro e W' ⟨rfl, rfl⟩
      exact .inl ⟨_, _, _, _, nilS, by unfold takeD; rw [if_neg h0], rfl, hs, hr, LV.nil_ _ _ _, Ch.refl _ _ _⟩
end Go.Proofs.YtaacjpcckinaiaaGreat
