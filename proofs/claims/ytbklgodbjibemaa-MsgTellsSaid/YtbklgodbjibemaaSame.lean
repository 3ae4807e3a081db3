/- 'Same', and the document's own: for any two messages. -/
import Derived.Deep.RegionWith
import Derived.Test.YtbklgodbjibemaaEq
import Derived.Test.YtbklgodbjibemaaFlat
set_option linter.unusedVariables false
set_option linter.unusedSimpArgs false
namespace Go.Proofs.Ytbklgodbjibemaa
open Go.RowKit Go.Shelf

/-- A region that draws its order, whose operations yield the same in every world behind one: walked once. -/
theorem wp_region_behind {P : Program} {id : Nat} {Q : Exit → Act → World → Prop} {a : Act} {W : World} (x : Wd W) {l : List Oper} (hm : P.follows .mixedOrders = true) (hB : Region.lexB .any l.toArray = true)
    (h : wpQuiet P l.toArray (fun w => ∃ y : Wd W, w = y.w) (fun a' => ∀ y : Wd W, Q .normal a' y.w) l a) : (Code.region id l.toArray true).wp P Q a x.w := by
  obtain ⟨y, hy⟩ := x.drew
  refine wp_region_quiet (C := fun w => ∃ y : Wd W, w = y.w) hm hB ⟨y, hy⟩ ?_
  have : (fun a' => ∀ w', (∃ y : Wd W, w' = y.w) → Q .normal a' w') = fun a' => ∀ y : Wd W, Q .normal a' y.w := by
    funext a'
    exact propext ⟨fun h y => h _ ⟨y, rfl⟩, fun h w' ⟨y, e⟩ => by rw [e]; exact h y⟩
  simp only [List.toList_toArray] at *
  rw [this]
  exact h
section
variable {P : Program} {o : Oper} {a : Act} {W : World} {K : Act → Prop} {ty : TypeId} {v : Value}
/-- What yields one value in every world behind one, and leaves it. -/
theorem quiet_run (h : ∀ y : Wd W, (execOp a.eval o).run P y.w = .ok (.value v) y.w) (hk : K (a.put o.dst v)) : o.quiet P a (fun w => ∃ y : Wd W, w = y.w) K :=
  ⟨v, fun w ⟨y, hy⟩ => by subst hy; unfold Oper.quietAt; rw [h y]; exact ⟨rfl, rfl⟩, hk⟩
theorem quiet_load (x : Operand) (ho : o.op = .load ty x) {p : Addr} (hx : a.eval x = .pointer (some p)) (hr : ∀ y : Wd W, (Instr.loadAt ty (.pointer (some p))).run P y.w = .ok v y.w) (hk : K (a.put o.dst v)) : o.quiet P a (fun w => ∃ y : Wd W, w = y.w) K :=
  quiet_run (fun y => by unfold execOp; simp only [ho, hx, Sem.run_bind, Sem.run_pure, Result.andThen_ok, hr]) hk
theorem quiet_eq (x y : Operand) (ho : o.op = .binOp .eql ty x y ty) {c c' : Array Value} (hx : a.eval x = .agg c) (hy : a.eval y = .agg c') (hg : P.eqGuardType P.depth ty = false) (hr : ∀ w, (binOp .eql ty (.agg c) (.agg c')).run P w = .ok v w) (hk : K (a.put o.dst v)) : o.quiet P a (fun w => ∃ y : Wd W, w = y.w) K :=
  quiet_run (fun z => exec_eqA x y ho hx hy hg (hr z.w)) hk
end

def same (a b : M) (la lb : List Int) : Bool := mEq a b && decide (la = lb)
set_option maxRecDepth 100000 in
set_option maxHeartbeats 2000000 in
theorem Same_any (a b : M) (va vb : Value) (la lb : List Int) (w : World) (h1 : Sl w va (iv la)) (h2 : Sl w vb (iv lb)) :
    Calls Try.prog 23 #[.agg (a.c va), .agg (b.c vb)] w fun e w' => e = .returned (.bool (same a b la lb)) ∧ Below w.heap.size w w' := by
  obtain ⟨A, n, c, rfl⟩ := h1.slice
  obtain ⟨B, n', c', rfl⟩ := h2.slice
  obtain ⟨r1, r2, r3⟩ := two_boxes w (a.c (.slice A n c)) (b.c (.slice B n' c')) 27 27
  generalize hW : (w.alloc (.cells (a.c (.slice A n c)) 27)).alloc (.cells (b.c (.slice B n' c')) 27) = W at r1 r2 r3
  unfold same
  obtain ⟨b0, hb0⟩ : ∃ b0, mEq a b = b0 := ⟨_, rfl⟩
  obtain ⟨b1, hb1⟩ : ∃ b1, decide (la = lb) = b1 := ⟨_, rfl⟩
  have e1 := fun w => run_eqF w a b
  rw [hb0] at e1 ⊢
  have R1 := Lib.hid (fun y => Wd.row r1 y)
  have R2 := Lib.hid (fun y => Wd.row r2 y)
  have c1 := fun y j => (Wd.row r1 y).cell j
  have c2 := fun y j => (Wd.row r2 y).cell j
  have s1 := h1.below r3
  have s2 := h2.below r3
  have K1 := fun y : Wd W => y.call (flatOf_any a (.slice A n c) y.w)
  have K2 := fun y : Wd W => y.call (flatOf_any b (.slice B n' c') y.w)
  have K3 := fun y : Wd W => y.call (Equal_any _ _ la lb y.w (Wd.sl s1 y) (Wd.sl s2 y))
  rw [hb1] at K3 ⊢
  have HK1 := Lib.hid K1
  have HK2 := Lib.hid K2
  have HK3 := Lib.hid K3
  have HE := Lib.hid e1
  have HB := Lib.hid (fun y : Wd W => r3.trans (y.below.mono r3.size))
  clear K1 K2 K3 e1 h1 h2 s1 s2 r1 r2 r3 hb0 hb1
  go_enter Try.func23, Try.ntmps23
  go_wp2_with fail
  try rw [hW]
  clear hW
  refine wp_region_behind ⟨W, Below.refl _ _⟩ (by kernel_rfl) (by kernel_rfl) ?_
  cases b0
  · repeat (first
      | go_big_quiet_skip
      | (go_big_quiet_want
         first
         | (refine quiet_load _ rfl rfl (fun y => run_loadR (c := a.c _) agg27 (R1.out y)) ?_
            simp only [Act.put, List.setIfInBounds_toArray, List.set_cons_zero, List.set_cons_succ]
            go_big_quiet_on)
         | (refine quiet_load _ rfl rfl (fun y => run_loadR (c := b.c _) agg27 (R2.out y)) ?_
            simp only [Act.put, List.setIfInBounds_toArray, List.set_cons_zero, List.set_cons_succ]
            go_big_quiet_on)
         | (refine quiet_eq _ _ rfl rfl rfl eg50 HE.out ?_
            simp only [Act.put, List.setIfInBounds_toArray, List.set_cons_zero, List.set_cons_succ]
            go_big_quiet_on)
         | (go_big_quiet_op; first | go_big_quiet_on | (apply Exists.intro; refine ⟨fun _ => rfl, ?_⟩; go_big_quiet_on) | go_big_quiet_call ((first | (go_at_call_of 36 a; exact HK1.out _) | (go_at_call_of 36 b; exact HK2.out _) | (go_at_call 37; exact HK3.out _))))))
    refine wpQuiet_nil ?_
    intro y
    go_wp2
    go_ret
    exact ⟨rfl, HB.out y⟩
  · repeat (first
      | go_big_quiet_skip
      | (go_big_quiet_want
         first
         | (refine quiet_load _ rfl rfl (fun y => run_loadR (c := a.c _) agg27 (R1.out y)) ?_
            simp only [Act.put, List.setIfInBounds_toArray, List.set_cons_zero, List.set_cons_succ]
            go_big_quiet_on)
         | (refine quiet_load _ rfl rfl (fun y => run_loadR (c := b.c _) agg27 (R2.out y)) ?_
            simp only [Act.put, List.setIfInBounds_toArray, List.set_cons_zero, List.set_cons_succ]
            go_big_quiet_on)
         | (refine quiet_eq _ _ rfl rfl rfl eg50 HE.out ?_
            simp only [Act.put, List.setIfInBounds_toArray, List.set_cons_zero, List.set_cons_succ]
            go_big_quiet_on)
         | (go_big_quiet_op; first | go_big_quiet_on | (apply Exists.intro; refine ⟨fun _ => rfl, ?_⟩; go_big_quiet_on) | go_big_quiet_call ((first | (go_at_call_of 36 a; exact HK1.out _) | (go_at_call_of 36 b; exact HK2.out _) | (go_at_call 37; exact HK3.out _))))))
    refine wpQuiet_nil ?_
    intro y
    go_wp2
    go_ret
    exact ⟨by simp, HB.out y⟩
end Go.Proofs.Ytbklgodbjibemaa
