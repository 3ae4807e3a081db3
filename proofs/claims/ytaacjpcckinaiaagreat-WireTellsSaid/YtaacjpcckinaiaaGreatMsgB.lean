/- 'Same', and the document's own: for any two messages. The document's own test of a list that is told: for any list. Whether what a kind has is as it is to be: 'isFilled', and the document's own 'has': for any message. The document's own 'has': for any message. The document's own 'Same': for any two messages. The iterator 'placesOf': what it hands to a loop's body. The document's own 'Right': for any message. 'Right': for any message. Both say the same of which messages may be: plain mathematics. -/
import Derived.Deep.RegionWith
import Derived.Test.YtaacjpcckinaiaaGreatMsgA
set_option linter.unusedVariables false
set_option maxRecDepth 100000
set_option linter.unusedSimpArgs false
namespace Go.Proofs.YtaacjpcckinaiaaGreat.Ms
open Go.RowKit Go.Shelf

/-- A region that draws its order, whose operations yield the same in every world behind one: walked once. -/
theorem wp_region_behind {P : Program} {id : Nat} {Q : Exit → Act → World → Prop} {a : Act} {W : World} (x : Wd W) {l : List Oper} (hm : P.follows .mixedOrders = true) (hB : Region.lexB .any l.toArray = true)
    (h : wpQuiet P l.toArray (fun w => ∃ y : Wd W, w = y.w) (fun a' => ∀ y : Wd W, Q .normal a' y.w) l a) : (Code.region id l.toArray true).wp P Q a x.w := by
  obtain ⟨y, hy⟩ := x.drew
  refine wp_region_quiet (C := fun w => ∃ y : Wd W, w = y.w) hm hB ⟨y, hy⟩ ?_
  have : (fun a' => ∀ w', (∃ y : Wd W, w' = y.w) → Q .normal a' w') = fun a' => ∀ y : Wd W, Q .normal a' y.w := by
    funext a'
    exact propext ⟨fun h y => h _ ⟨y, rfl⟩, fun h w' ⟨y, e⟩ => by rw [e]; exact h y⟩
  simp only [List.toList_toArray] at *
  rw [this]
  exact h
section
variable {P : Program} {o : Oper} {a : Act} {W : World} {K : Act → Prop} {ty : TypeId} {v : Value}
/-- What yields one value in every world behind one, and leaves it. -/
theorem quiet_run (h : ∀ y : Wd W, (execOp a.eval o).run P y.w = .ok (.value v) y.w) (hk : K (a.put o.dst v)) : o.quiet P a (fun w => ∃ y : Wd W, w = y.w) K :=
  ⟨v, fun w ⟨y, hy⟩ => by subst hy; unfold Oper.quietAt; rw [h y]; exact ⟨rfl, rfl⟩, hk⟩
theorem quiet_load (x : Operand) (ho : o.op = .load ty x) {p : Addr} (hx : a.eval x = .pointer (some p)) (hr : ∀ y : Wd W, (Instr.loadAt ty (.pointer (some p))).run P y.w = .ok v y.w) (hk : K (a.put o.dst v)) : o.quiet P a (fun w => ∃ y : Wd W, w = y.w) K :=
  quiet_run (fun y => by unfold execOp; simp only [ho, hx, Sem.run_bind, Sem.run_pure, Result.andThen_ok, hr]) hk
theorem quiet_eq (x y : Operand) (ho : o.op = .binOp .eql ty x y ty) {c c' : Array Value} (hx : a.eval x = .agg c) (hy : a.eval y = .agg c') (hg : P.eqGuardType P.depth ty = false) (hr : ∀ w, (binOp .eql ty (.agg c) (.agg c')).run P w = .ok v w) (hk : K (a.put o.dst v)) : o.quiet P a (fun w => ∃ y : Wd W, w = y.w) K :=
  quiet_run (fun z => exec_eqA x y ho hx hy hg (hr z.w)) hk
end

def same (a b : M) (la lb : List Int) : Bool := mEq a b && decide (la = lb)
set_option maxRecDepth 100000 in
set_option maxHeartbeats 2000000 in
theorem Same_any (a b : M) (va vb : Value) (la lb : List Int) (w : World) (h1 : Sl w va (iv la)) (h2 : Sl w vb (iv lb)) :
    Calls Tryz.prog 63 #[.agg (a.c va), .agg (b.c vb)] w fun e w' => e = .returned (.bool (same a b la lb)) ∧ Below w.heap.size w w' := by
  obtain ⟨A, n, c, rfl⟩ := h1.slice
  obtain ⟨B, n', c', rfl⟩ := h2.slice
  obtain ⟨r1, r2, r3⟩ := two_boxes w (a.c (.slice A n c)) (b.c (.slice B n' c')) 27 27
  generalize hW : (w.alloc (.cells (a.c (.slice A n c)) 27)).alloc (.cells (b.c (.slice B n' c')) 27) = W at r1 r2 r3
  unfold same
  obtain ⟨b0, hb0⟩ : ∃ b0, mEq a b = b0 := ⟨_, rfl⟩
  obtain ⟨b1, hb1⟩ : ∃ b1, decide (la = lb) = b1 := ⟨_, rfl⟩
  have e1 := fun w => run_eqF w a b
  rw [hb0] at e1 ⊢
  have R1 := Lib.hid (fun y => Wd.row r1 y)
  have R2 := Lib.hid (fun y => Wd.row r2 y)
  have c1 := fun y j => (Wd.row r1 y).cell j
  have c2 := fun y j => (Wd.row r2 y).cell j
  have s1 := h1.below r3
  have s2 := h2.below r3
  have K1 := fun y : Wd W => y.call (flatOf_any a (.slice A n c) y.w)
  have K2 := fun y : Wd W => y.call (flatOf_any b (.slice B n' c') y.w)
  have K3 := fun y : Wd W => y.call (Equal_any _ _ la lb y.w (Wd.sl s1 y) (Wd.sl s2 y))
  rw [hb1] at K3 ⊢
  have HK1 := Lib.hid K1
  have HK2 := Lib.hid K2
  have HK3 := Lib.hid K3
  have HE := Lib.hid e1
  have HB := Lib.hid (fun y : Wd W => r3.trans (y.below.mono r3.size))
  clear K1 K2 K3 e1 h1 h2 s1 s2 r1 r2 r3 hb0 hb1
  go_enter Tryz.func63, Tryz.ntmps63
  go_wp2_with fail
  try rw [hW]
  clear hW
  refine wp_region_behind ⟨W, Below.refl _ _⟩ (by kernel_rfl) (by kernel_rfl) ?_
  cases b0
  · repeat (first
      | go_big_quiet_skip
      | (go_big_quiet_want
         first
         | (refine quiet_load _ rfl rfl (fun y => run_loadR (c := a.c _) agg27 (R1.out y)) ?_
            simp only [Act.put, List.setIfInBounds_toArray, List.set_cons_zero, List.set_cons_succ]
            go_big_quiet_on)
         | (refine quiet_load _ rfl rfl (fun y => run_loadR (c := b.c _) agg27 (R2.out y)) ?_
            simp only [Act.put, List.setIfInBounds_toArray, List.set_cons_zero, List.set_cons_succ]
            go_big_quiet_on)
         | (refine quiet_eq _ _ rfl rfl rfl eg50 HE.out ?_
            simp only [Act.put, List.setIfInBounds_toArray, List.set_cons_zero, List.set_cons_succ]
            go_big_quiet_on)
         | (go_big_quiet_op; first | go_big_quiet_on | (apply Exists.intro; refine ⟨fun _ => rfl, ?_⟩; go_big_quiet_on) | go_big_quiet_call ((first | (go_at_call_of 76 a; exact HK1.out _) | (go_at_call_of 76 b; exact HK2.out _) | (go_at_call 77; exact HK3.out _))))))
    refine wpQuiet_nil ?_
    intro y
    go_wp2
    go_ret
    exact ⟨rfl, HB.out y⟩
  · repeat (first
      | go_big_quiet_skip
      | (go_big_quiet_want
         first
         | (refine quiet_load _ rfl rfl (fun y => run_loadR (c := a.c _) agg27 (R1.out y)) ?_
            simp only [Act.put, List.setIfInBounds_toArray, List.set_cons_zero, List.set_cons_succ]
            go_big_quiet_on)
         | (refine quiet_load _ rfl rfl (fun y => run_loadR (c := b.c _) agg27 (R2.out y)) ?_
            simp only [Act.put, List.setIfInBounds_toArray, List.set_cons_zero, List.set_cons_succ]
            go_big_quiet_on)
         | (refine quiet_eq _ _ rfl rfl rfl eg50 HE.out ?_
            simp only [Act.put, List.setIfInBounds_toArray, List.set_cons_zero, List.set_cons_succ]
            go_big_quiet_on)
         | (go_big_quiet_op; first | go_big_quiet_on | (apply Exists.intro; refine ⟨fun _ => rfl, ?_⟩; go_big_quiet_on) | go_big_quiet_call ((first | (go_at_call_of 76 a; exact HK1.out _) | (go_at_call_of 76 b; exact HK2.out _) | (go_at_call 77; exact HK3.out _))))))
    refine wpQuiet_nil ?_
    intro y
    go_wp2
    go_ret
    exact ⟨by simp, HB.out y⟩
end Go.Proofs.YtaacjpcckinaiaaGreat.Ms
set_option linter.unusedVariables false
set_option maxRecDepth 100000
set_option linter.unusedSimpArgs false
namespace Go.Proofs.YtaacjpcckinaiaaGreat.Ms
open Go.RowKit Go.Shelf

/-- All are places, none is id, no two the same. -/
def listP (id : Int) (l : List Int) : Prop := (∀ p ∈ l, placeB p = true) ∧ othersP id l
instance (id : Int) (l : List Int) : Decidable (listP id l) := by unfold listP; exact inferInstance
theorem listP_succ (id : Int) (l : List Int) (k : Nat) (hk : k < l.length) : listP id (l.take (k + 1)) ↔ listP id (l.take k) ∧ placeB l[k] = true ∧ l[k] ≠ id ∧ l[k] ∉ l.take k := by
  unfold listP
  rw [othersP_succ id l k hk]
  constructor
  · rintro ⟨h1, h2, h3, h4⟩
    exact ⟨⟨fun p hp => h1 p (by rw [List.take_succ_eq_append_getElem hk]; exact List.mem_append.2 (.inl hp)), h2⟩, h1 _ (by rw [List.take_succ_eq_append_getElem hk]; exact List.mem_append.2 (.inr (List.mem_singleton.2 rfl))), h3, h4⟩
  · rintro ⟨⟨h1, h2⟩, h0, h3, h4⟩
    refine ⟨fun p hp => ?_, h2, h3, h4⟩
    rw [List.take_succ_eq_append_getElem hk, List.mem_append, List.mem_singleton] at hp
    rcases hp with hp | rfl
    · exact h1 p hp
    · exact h0
theorem listP_take (id : Int) (l : List Int) (k : Nat) (h : listP id l) : listP id (l.take k) := ⟨fun p hp => h.1 p (List.mem_of_mem_take hp), othersP_take id l k h.2⟩
theorem not_listP (id : Int) (l : List Int) (k : Nat) (hk : k < l.length) (h : ¬ (placeB l[k] = true ∧ l[k] ≠ id ∧ l[k] ∉ l.take k)) : decide (listP id l ∧ l.length ≤ 3) = false :=
  decide_eq_false fun hl => h ((listP_succ id l k hk).1 (listP_take id l (k + 1) hl.1)).2

set_option maxRecDepth 100000 in
set_option maxHeartbeats 4000000 in
theorem rlist_any (id : Int) (v : Value) (l : List Int) (w : World) (h : Sl w v (iv l)) :
    Calls Tryz.prog 61 #[v, .int .i64 id] w fun e w' => e = .returned (.bool (decide (listP id l ∧ l.length ≤ 3))) ∧ Below w.heap.size w w' := by
  rcases h.ints with ⟨rfl, rfl⟩ | ⟨b, off, c, rfl, hc, hcm, h3, h4⟩
  · go_enter Tryz.func61, Tryz.ntmps61
    go_wp2
    go_loop [5] (fun i => i = .int .i64 0) (fun _ => 0)
    case atStart => rfl
    case round =>
      obtain rfl := hrel
      go_wp2
      go_ret
      exact ⟨ret_b (by simp [listP, othersP]), Below.refl _ _⟩
  · have H4 := Lib.hid h4
    have hlm : (l.length : Int) ≤ 9223372036854775807 := by omega
    have K := Lib.hid (fun p w => rplace_any p w)
    clear h4 h h3 hcm hc
    go_enter Tryz.func61, Tryz.ntmps61
    go_wp2
    go_loopw [5] (fun i W => ∃ k : Nat, k ≤ l.length ∧ i = .int .i64 k ∧ listP id (l.take k) ∧ ∃ n, W = w.drewN n) (fun i _ => l.length - (intOf i).toNat)
    case atStart => exact ⟨0, by omega, rfl, by simp [listP, othersP], 0, rfl⟩
    case round =>
      obtain ⟨k, hk, rfl, ht, nq, rfl⟩ := hrel
      have HT := Lib.hid ht
      clear ht
      by_cases hlt : k < l.length
      · have hc1 := H4.out k hlt
        have HN := Lib.hid (not_listP id l k hlt)
        have HI := Lib.hid (listP_succ id l k hlt)
        obtain ⟨z, hz⟩ : ∃ z, z = l[k] := ⟨_, rfl⟩
        rw [← hz] at hc1
        have k1 := fun w => K.out z w
        have HZ := Lib.hid hz
        clear hz
        cases hp : placeB z
        · rw [hp] at k1
          have HP := Lib.hid hp
          clear hp
          go_wp2_with fail
          refine (k1 _).mono ?_; rintro e w1 ⟨rfl, rfl⟩
          go_wp2_with fail
          go_ret
          exact ⟨ret_b (HN.out (by rw [← HZ.out, HP.out]; simp)).symm, below_drewN nq⟩
        · rw [hp] at k1
          have HP := Lib.hid hp
          clear hp
          by_cases he : z = id
          · have hn : (z == id) = true := by simp [he]
            have HE := Lib.hid he
            clear he
            go_wp2_with fail
            refine (k1 _).mono ?_; rintro e w1 ⟨rfl, rfl⟩
            go_wp2_with fail
            go_ret
            exact ⟨ret_b (HN.out (by rw [← HZ.out, HE.out]; simp)).symm, below_drewN nq⟩
          · have hn : (z == id) = false := by simp [he]
            have HE := Lib.hid he
            clear he
            go_wp2_with fail
            refine (k1 _).mono ?_; rintro e w1 ⟨rfl, rfl⟩
            go_wp2_with fail
            go_loopw [6] (fun i W => ∃ j : Nat, j ≤ k ∧ i = .int .i64 j ∧ z ∉ l.take j ∧ ∃ n, W = w.drewN n) (fun i _ => k - (intOf i).toNat)
            case atStart => exact ⟨0, by omega, rfl, by simp, nq, rfl⟩
            case round =>
              obtain ⟨j, hj, rfl, hu, nr, rfl⟩ := hrel
              have HU := Lib.hid hu
              clear hu
              by_cases hjl : j < k
              · have hjl2 : j < l.length := by omega
                have hc2 := H4.out j hjl2
                by_cases hy : l[j] = z
                · have hn2 : (l[j] == z) = true := by simp [hy]
                  have HY := Lib.hid hy
                  clear hy
                  go_wp2
                  go_quiet (fail)
                  go_wp2
                  go_ret
                  refine ⟨ret_b (HN.out ?_).symm, ?_⟩
                  · rintro ⟨_, _, h⟩
                    refine h ?_
                    rw [← HZ.out, ← HY.out]
                    exact List.mem_take_iff_getElem.2 ⟨j, by omega, rfl⟩
                  · first | exact below_drewN _ | (rw [World.drewN_drewN]; exact below_drewN _)
                · have hn2 : (l[j] == z) = false := by simp [hy]
                  have HY := Lib.hid hy
                  clear hy
                  go_wp2
                  go_quiet (fail)
                  go_wp2
                  go_roundw
                  case rel =>
                    refine ⟨j + 1, by omega, by go_num, ?_, _, by first | rfl | exact World.drewN_drewN _ _ _⟩
                    rw [List.take_succ_eq_append_getElem hjl2, List.mem_append]
                    rintro (h | h)
                    · exact HU.out h
                    · simp at h; exact HY.out h.symm
                  case measure => simp [intOf]; omega
              · obtain rfl : j = k := by omega
                go_wp2
                go_roundw
                case rel =>
                  refine ⟨j + 1, by omega, by go_num, HI.out.2 ⟨HT.out, by rw [← HZ.out]; exact HP.out, by rw [← HZ.out]; exact HE.out, by rw [← HZ.out]; exact HU.out⟩, nr, rfl⟩
                case measure => simp [intOf]; omega
      · obtain rfl : k = l.length := by omega
        go_wp2
        go_ret
        have := HT.out
        rw [List.take_length] at this
        exact ⟨ret_b (by rw [Bool.eq_iff_iff, decide_eq_true_iff, decide_eq_true_iff]; constructor <;> intro h <;> first | exact ⟨this, by omega⟩ | omega), below_drewN nq⟩
end Go.Proofs.YtaacjpcckinaiaaGreat.Ms
set_option linter.unusedVariables false
set_option maxRecDepth 100000
set_option linter.unusedSimpArgs false
namespace Go.Proofs.YtaacjpcckinaiaaGreat.Ms
open Go.RowKit Go.Shelf

def getB (m : M) : Bool := m.code == 0 && pairB m.it || m.code == 201 && itEq m.it noIt
def filledB (m : M) : Bool :=
  if m.kind = 5 then pairB m.it else if m.kind = 6 then keyB m.it.key else if m.kind = 11 then m.code == 0 || m.code == 200 else if m.kind = 12 then getB m else true
set_option maxRecDepth 100000 in
set_option maxHeartbeats 2000000 in
theorem filled_5 (m : M) (A : Option Addr) (n c : Nat) (w : World) (hk : m.kind = 5) : Calls Tryz.prog 70 #[.agg (m.c (.slice A n c))] w fun e w' => e = .returned (.bool (pairB m.it)) ∧ Below w.heap.size w w' := by
  have R := Lib.hid (Rw.new w (m.c (.slice A n c)) 27)
  have IT := Lib.hid (m.item (.slice A n c))
  have HB := Lib.hid (box_below w (.cells (m.c (.slice A n c)) 27))
  have e5 : (m.kind == 5) = true := by rw [hk]; rfl
  have e6 : (m.kind == 6) = false := by rw [hk]; rfl
  have e11 : (m.kind == 11) = false := by rw [hk]; rfl
  have e12 : (m.kind == 12) = false := by rw [hk]; rfl
  clear hk
  go_enter Tryz.func70, Tryz.ntmps70
  go_wp2_with (first
    | (with_reducible show wpList _ _ _ (Oper.mk _ (Op.load 24 _) _ _ _ _ :: _) _ _
       refine wpList_loadPt R.out IT.out agg24 rfl _ rfl rfl ?_))
  refine (Pair_any m.it _).mono ?_; rintro e w1 ⟨rfl, hb⟩
  go_wp2_with fail
  go_ret
  exact ⟨rfl, HB.out.trans (hb.mono HB.out.size)⟩
set_option maxRecDepth 100000 in
set_option maxHeartbeats 2000000 in
theorem filled_6 (m : M) (A : Option Addr) (n c : Nat) (w : World) (hk : m.kind = 6) : Calls Tryz.prog 70 #[.agg (m.c (.slice A n c))] w fun e w' => e = .returned (.bool (keyB m.it.key)) ∧ Below w.heap.size w w' := by
  have R := Lib.hid (Rw.new w (m.c (.slice A n c)) 27)
  have IT := Lib.hid (m.item (.slice A n c))
  have HB := Lib.hid (box_below w (.cells (m.c (.slice A n c)) 27))
  have e5 : (m.kind == 5) = false := by rw [hk]; rfl
  have e6 : (m.kind == 6) = true := by rw [hk]; rfl
  have e11 : (m.kind == 11) = false := by rw [hk]; rfl
  have e12 : (m.kind == 12) = false := by rw [hk]; rfl
  clear hk
  go_enter Tryz.func70, Tryz.ntmps70
  go_wp2_with (first
    | (with_reducible show wpList _ _ _ (Oper.mk _ (Op.load 24 _) _ _ _ _ :: _) _ _
       refine wpList_loadPt R.out IT.out agg24 rfl _ rfl rfl ?_))
  refine (key_any m.it.key _).mono ?_; rintro e w1 ⟨rfl, rfl⟩
  go_wp2_with fail
  go_ret
  exact ⟨rfl, HB.out⟩
set_option maxRecDepth 100000 in
set_option maxHeartbeats 2000000 in
theorem filled_11 (m : M) (A : Option Addr) (n c : Nat) (w : World) (hk : m.kind = 11) : Calls Tryz.prog 70 #[.agg (m.c (.slice A n c))] w fun e w' => e = .returned (.bool (m.code == 0 || m.code == 200)) ∧ Below w.heap.size w w' := by
  have R := Lib.hid (Rw.new w (m.c (.slice A n c)) 27)
  have IT := Lib.hid (m.item (.slice A n c))
  have HB := Lib.hid (box_below w (.cells (m.c (.slice A n c)) 27))
  have e5 : (m.kind == 5) = false := by rw [hk]; rfl
  have e6 : (m.kind == 6) = false := by rw [hk]; rfl
  have e11 : (m.kind == 11) = true := by rw [hk]; rfl
  have e12 : (m.kind == 12) = false := by rw [hk]; rfl
  clear hk
  obtain ⟨b0, h0⟩ : ∃ b, (m.code == 0) = b := ⟨_, rfl⟩
  obtain ⟨b1, h1⟩ : ∃ b, (m.code == 200) = b := ⟨_, rfl⟩
  rw [h0, h1]
  go_enter Tryz.func70, Tryz.ntmps70
  cases b0
  · go_wp2_with fail
    go_ret
    exact ⟨by simp, HB.out⟩
  · go_wp2_with fail
    go_ret
    exact ⟨rfl, HB.out⟩
set_option maxRecDepth 100000 in
set_option maxHeartbeats 2000000 in
theorem filled_12 (m : M) (A : Option Addr) (n c : Nat) (w : World) (hk : m.kind = 12) : Calls Tryz.prog 70 #[.agg (m.c (.slice A n c))] w fun e w' => e = .returned (.bool (getB m)) ∧ Below w.heap.size w w' := by
  have R := Lib.hid (Rw.new w (m.c (.slice A n c)) 27)
  have IT := Lib.hid (m.item (.slice A n c))
  have HB := Lib.hid (box_below w (.cells (m.c (.slice A n c)) 27))
  have e5 : (m.kind == 5) = false := by rw [hk]; rfl
  have e6 : (m.kind == 6) = false := by rw [hk]; rfl
  have e11 : (m.kind == 11) = false := by rw [hk]; rfl
  have e12 : (m.kind == 12) = true := by rw [hk]; rfl
  clear hk
  unfold getB
  obtain ⟨b0, h0⟩ : ∃ b, (m.code == 0) = b := ⟨_, rfl⟩
  obtain ⟨b1, h1⟩ : ∃ b, (m.code == 201) = b := ⟨_, rfl⟩
  obtain ⟨b2, h2⟩ : ∃ b, itEq m.it noIt = b := ⟨_, rfl⟩
  obtain ⟨b3, h3⟩ : ∃ b, pairB m.it = b := ⟨_, rfl⟩
  have k1 := fun w => Pair_any m.it w
  have HE := fun w => run_eqI w m.it noIt
  rw [h3] at k1
  rw [h2] at HE
  rw [h0, h1, h2, h3]
  have HE := Lib.hid HE
  have R1 := R
  clear h2 h3
  go_enter Tryz.func70, Tryz.ntmps70
  cases b0
  · cases b1
    · go_wp2_with (first
    | (with_reducible show wpList _ _ _ (Oper.mk _ (Op.load 24 _) _ _ _ _ :: _) _ _
       refine wpList_loadPt R.out IT.out agg24 rfl _ rfl rfl ?_)
    | (with_reducible show wpList _ _ _ (Oper.mk _ (Op.binOp _ 24 _ _ _) _ _ _ _ :: _) _ _
       refine wpList_eqR rfl _ _ rfl rfl rfl eg24 (HE.out _) ?_))
      go_ret
      exact ⟨by simp, HB.out⟩
    · go_wp2_with (first
    | (with_reducible show wpList _ _ _ (Oper.mk _ (Op.load 24 _) _ _ _ _ :: _) _ _
       refine wpList_loadPt R.out IT.out agg24 rfl _ rfl rfl ?_)
    | (with_reducible show wpList _ _ _ (Oper.mk _ (Op.binOp _ 24 _ _ _) _ _ _ _ :: _) _ _
       refine wpList_eqR rfl _ _ rfl rfl rfl eg24 (HE.out _) ?_))
      go_ret
      exact ⟨by simp, HB.out⟩
  · go_wp2_with (first
    | (with_reducible show wpList _ _ _ (Oper.mk _ (Op.load 24 _) _ _ _ _ :: _) _ _
       refine wpList_loadPt R.out IT.out agg24 rfl _ rfl rfl ?_)
    | (with_reducible show wpList _ _ _ (Oper.mk _ (Op.binOp _ 24 _ _ _) _ _ _ _ :: _) _ _
       refine wpList_eqR rfl _ _ rfl rfl rfl eg24 (HE.out _) ?_))
    refine (k1 _).mono ?_; rintro e w1 ⟨rfl, hb⟩
    have R1 := Lib.hid (R.out.below hb)
    have c1 := R1.out.cell
    cases b3
    · cases b1
      · go_wp2_with (first
    | (with_reducible show wpList _ _ _ (Oper.mk _ (Op.load 24 _) _ _ _ _ :: _) _ _
       refine wpList_loadPt R1.out IT.out agg24 rfl _ rfl rfl ?_)
    | (with_reducible show wpList _ _ _ (Oper.mk _ (Op.binOp _ 24 _ _ _) _ _ _ _ :: _) _ _
       refine wpList_eqR rfl _ _ rfl rfl rfl eg24 (HE.out _) ?_))
        go_ret
        exact ⟨by simp, HB.out.trans (hb.mono HB.out.size)⟩
      · go_wp2_with (first
    | (with_reducible show wpList _ _ _ (Oper.mk _ (Op.load 24 _) _ _ _ _ :: _) _ _
       refine wpList_loadPt R1.out IT.out agg24 rfl _ rfl rfl ?_)
    | (with_reducible show wpList _ _ _ (Oper.mk _ (Op.binOp _ 24 _ _ _) _ _ _ _ :: _) _ _
       refine wpList_eqR rfl _ _ rfl rfl rfl eg24 (HE.out _) ?_))
        go_ret
        exact ⟨by simp, HB.out.trans (hb.mono HB.out.size)⟩
    · go_wp2_with (first
    | (with_reducible show wpList _ _ _ (Oper.mk _ (Op.load 24 _) _ _ _ _ :: _) _ _
       refine wpList_loadPt R1.out IT.out agg24 rfl _ rfl rfl ?_)
    | (with_reducible show wpList _ _ _ (Oper.mk _ (Op.binOp _ 24 _ _ _) _ _ _ _ :: _) _ _
       refine wpList_eqR rfl _ _ rfl rfl rfl eg24 (HE.out _) ?_))
      go_ret
      exact ⟨by simp, HB.out.trans (hb.mono HB.out.size)⟩
set_option maxRecDepth 100000 in
set_option maxHeartbeats 2000000 in
theorem filled_x (m : M) (A : Option Addr) (n c : Nat) (w : World) (hk : m.kind ≠ 5 ∧ m.kind ≠ 6 ∧ m.kind ≠ 11 ∧ m.kind ≠ 12) : Calls Tryz.prog 70 #[.agg (m.c (.slice A n c))] w fun e w' => e = .returned (.bool (true)) ∧ Below w.heap.size w w' := by
  have R := Lib.hid (Rw.new w (m.c (.slice A n c)) 27)
  have IT := Lib.hid (m.item (.slice A n c))
  have HB := Lib.hid (box_below w (.cells (m.c (.slice A n c)) 27))
  have e5 : (m.kind == 5) = false := by simp [hk]
  have e6 : (m.kind == 6) = false := by simp [hk]
  have e11 : (m.kind == 11) = false := by simp [hk]
  have e12 : (m.kind == 12) = false := by simp [hk]
  clear hk
  go_enter Tryz.func70, Tryz.ntmps70
  go_wp2_with fail
  go_ret
  exact ⟨rfl, HB.out⟩
theorem filled_any (m : M) (A : Option Addr) (n c : Nat) (w : World) : Calls Tryz.prog 70 #[.agg (m.c (.slice A n c))] w fun e w' => e = .returned (.bool (filledB m)) ∧ Below w.heap.size w w' := by
  by_cases h5 : m.kind = 5
  · have := filled_5 m A n c w h5; simpa only [filledB, h5, if_true] using this
  by_cases h6 : m.kind = 6
  · have := filled_6 m A n c w h6; rw [filledB, if_neg h5, if_pos h6]; exact this
  by_cases h11 : m.kind = 11
  · have := filled_11 m A n c w h11; rw [filledB, if_neg h5, if_neg h6, if_pos h11]; exact this
  by_cases h12 : m.kind = 12
  · have := filled_12 m A n c w h12; rw [filledB, if_neg h5, if_neg h6, if_neg h11, if_pos h12]; exact this
  have := filled_x m A n c w ⟨h5, h6, h11, h12⟩
  rw [filledB, if_neg h5, if_neg h6, if_neg h11, if_neg h12]; exact this
end Go.Proofs.YtaacjpcckinaiaaGreat.Ms
set_option linter.unusedVariables false
set_option maxRecDepth 100000
set_option linter.unusedSimpArgs false
namespace Go.Proofs.YtaacjpcckinaiaaGreat.Ms
open Go.RowKit Go.Shelf

def hasB (m : M) (l : List Int) : Bool :=
  if m.kind = 4 then placeB m.key else if m.kind = 5 then pairB m.it else if m.kind = 6 then pairB m.it && itEq m.it { noIt with key := m.it.key }
  else if m.kind = 7 then (m.pred == -1 || placeB m.pred) && decide (listP m.frm l ∧ l.length ≤ 3) else if m.kind = 10 then placeB m.place
  else if m.kind = 11 then m.code == 0 || m.code == 200 else if m.kind = 12 then getB m else true
set_option maxRecDepth 100000 in
set_option maxHeartbeats 2000000 in
theorem has_4 (m : M) (A : Option Addr) (n c : Nat) (l : List Int) (w : World) (hs : Sl w (.slice A n c) (iv l)) (hk : m.kind = 4) : Calls Tryz.prog 42 #[.agg (m.c (.slice A n c))] w fun e w' => e = .returned (.bool (placeB m.key)) ∧ Below w.heap.size w w' := by
  have R := Lib.hid (Rw.new w (m.c (.slice A n c)) 27)
  have IT := Lib.hid (m.item (.slice A n c))
  have HB := Lib.hid (box_below w (.cells (m.c (.slice A n c)) 27))
  have HS := Lib.hid hs
  clear hs
  have e4 : (m.kind == 4) = true := by rw [hk]; rfl
  have e5 : (m.kind == 5) = false := by rw [hk]; rfl
  have e6 : (m.kind == 6) = false := by rw [hk]; rfl
  have e7 : (m.kind == 7) = false := by rw [hk]; rfl
  have e10 : (m.kind == 10) = false := by rw [hk]; rfl
  have e11 : (m.kind == 11) = false := by rw [hk]; rfl
  have e12 : (m.kind == 12) = false := by rw [hk]; rfl
  clear hk
  go_enter Tryz.func42, Tryz.ntmps42
  go_wp2_with fail
  refine (rplace_any m.key _).mono ?_; rintro e w1 ⟨rfl, rfl⟩
  go_wp2_with fail
  go_ret
  exact ⟨rfl, HB.out⟩
set_option maxRecDepth 100000 in
set_option maxHeartbeats 2000000 in
theorem has_5 (m : M) (A : Option Addr) (n c : Nat) (l : List Int) (w : World) (hs : Sl w (.slice A n c) (iv l)) (hk : m.kind = 5) : Calls Tryz.prog 42 #[.agg (m.c (.slice A n c))] w fun e w' => e = .returned (.bool (pairB m.it)) ∧ Below w.heap.size w w' := by
  have R := Lib.hid (Rw.new w (m.c (.slice A n c)) 27)
  have IT := Lib.hid (m.item (.slice A n c))
  have HB := Lib.hid (box_below w (.cells (m.c (.slice A n c)) 27))
  have HS := Lib.hid hs
  clear hs
  have e4 : (m.kind == 4) = false := by rw [hk]; rfl
  have e5 : (m.kind == 5) = true := by rw [hk]; rfl
  have e6 : (m.kind == 6) = false := by rw [hk]; rfl
  have e7 : (m.kind == 7) = false := by rw [hk]; rfl
  have e10 : (m.kind == 10) = false := by rw [hk]; rfl
  have e11 : (m.kind == 11) = false := by rw [hk]; rfl
  have e12 : (m.kind == 12) = false := by rw [hk]; rfl
  clear hk
  go_enter Tryz.func42, Tryz.ntmps42
  go_wp2_with (first
    | (with_reducible show wpList _ _ _ (Oper.mk _ (Op.load 24 _) _ _ _ _ :: _) _ _
       refine wpList_loadPt R.out IT.out agg24 rfl _ rfl rfl ?_))
  refine (rPair_any m.it _).mono ?_; rintro e w1 ⟨rfl, hb⟩
  go_wp2_with fail
  go_ret
  exact ⟨rfl, HB.out.trans (hb.mono HB.out.size)⟩
set_option maxRecDepth 100000 in
set_option maxHeartbeats 2000000 in
theorem has_6 (m : M) (A : Option Addr) (n c : Nat) (l : List Int) (w : World) (hs : Sl w (.slice A n c) (iv l)) (hk : m.kind = 6) : Calls Tryz.prog 42 #[.agg (m.c (.slice A n c))] w fun e w' => e = .returned (.bool (pairB m.it && itEq m.it { noIt with key := m.it.key })) ∧ Below w.heap.size w w' := by
  have R := Lib.hid (Rw.new w (m.c (.slice A n c)) 27)
  have IT := Lib.hid (m.item (.slice A n c))
  have HB := Lib.hid (box_below w (.cells (m.c (.slice A n c)) 27))
  have HS := Lib.hid hs
  clear hs
  have e4 : (m.kind == 4) = false := by rw [hk]; rfl
  have e5 : (m.kind == 5) = false := by rw [hk]; rfl
  have e6 : (m.kind == 6) = true := by rw [hk]; rfl
  have e7 : (m.kind == 7) = false := by rw [hk]; rfl
  have e10 : (m.kind == 10) = false := by rw [hk]; rfl
  have e11 : (m.kind == 11) = false := by rw [hk]; rfl
  have e12 : (m.kind == 12) = false := by rw [hk]; rfl
  clear hk
  obtain ⟨b2, h2⟩ : ∃ b, itEq m.it { noIt with key := m.it.key } = b := ⟨_, rfl⟩
  obtain ⟨b3, h3⟩ : ∃ b, pairB m.it = b := ⟨_, rfl⟩
  have k1 := fun w => rPair_any m.it w
  have HE := fun w => run_eqI w m.it { noIt with key := m.it.key }
  rw [h3] at k1
  rw [h2] at HE
  rw [h2, h3]
  have HE := Lib.hid HE
  clear h2 h3
  go_enter Tryz.func42, Tryz.ntmps42
  go_wp2_with (first
    | (with_reducible show wpList _ _ _ (Oper.mk _ (Op.load 24 _) _ _ _ _ :: _) _ _
       refine wpList_loadPt R.out IT.out agg24 rfl _ rfl rfl ?_))
  refine (k1 _).mono ?_; rintro e w1 ⟨rfl, hb⟩
  have R1 := Lib.hid (R.out.below hb)
  have c1 := R1.out.cell
  cases b3
  · go_wp2_with fail
    go_ret
    exact ⟨by simp, HB.out.trans (hb.mono HB.out.size)⟩
  · go_wp2_with (first
      | (with_reducible show wpList _ _ _ (Oper.mk _ (Op.load 24 _) _ _ _ _ :: _) _ _
         refine wpList_loadPt R1.out IT.out agg24 rfl _ rfl rfl ?_)
      | (with_reducible show wpList _ _ _ (Oper.mk _ (Op.binOp _ 24 _ _ _) _ _ _ _ :: _) _ _
         refine wpList_eqR rfl _ _ rfl rfl rfl eg24 (HE.out _) ?_))
    go_ret
    exact ⟨by simp, HB.out.trans (hb.mono HB.out.size)⟩
set_option maxRecDepth 100000 in
set_option maxHeartbeats 2000000 in
theorem has_7 (m : M) (A : Option Addr) (n c : Nat) (l : List Int) (w : World) (hs : Sl w (.slice A n c) (iv l)) (hk : m.kind = 7) : Calls Tryz.prog 42 #[.agg (m.c (.slice A n c))] w fun e w' => e = .returned (.bool ((m.pred == -1 || placeB m.pred) && decide (listP m.frm l ∧ l.length ≤ 3))) ∧ Below w.heap.size w w' := by
  have R := Lib.hid (Rw.new w (m.c (.slice A n c)) 27)
  have IT := Lib.hid (m.item (.slice A n c))
  have HB := Lib.hid (box_below w (.cells (m.c (.slice A n c)) 27))
  have HS := Lib.hid hs
  clear hs
  have e4 : (m.kind == 4) = false := by rw [hk]; rfl
  have e5 : (m.kind == 5) = false := by rw [hk]; rfl
  have e6 : (m.kind == 6) = false := by rw [hk]; rfl
  have e7 : (m.kind == 7) = true := by rw [hk]; rfl
  have e10 : (m.kind == 10) = false := by rw [hk]; rfl
  have e11 : (m.kind == 11) = false := by rw [hk]; rfl
  have e12 : (m.kind == 12) = false := by rw [hk]; rfl
  clear hk
  obtain ⟨b0, h0⟩ : ∃ b, (m.pred == -1) = b := ⟨_, rfl⟩
  obtain ⟨b1, h1⟩ : ∃ b, placeB m.pred = b := ⟨_, rfl⟩
  obtain ⟨b2, h2⟩ : ∃ b, decide (listP m.frm l ∧ l.length ≤ 3) = b := ⟨_, rfl⟩
  have k1 := fun w => rplace_any m.pred w
  have k2 := fun w h => rlist_any m.frm (.slice A n c) l w h
  rw [h1] at k1
  rw [h2] at k2
  rw [h0, h1, h2]
  have HK1 := Lib.hid k1
  have HK2 := Lib.hid k2
  clear h1 h2 k1 k2
  go_enter Tryz.func42, Tryz.ntmps42
  cases b0
  · go_wp2_with fail
    refine (HK1.out _).mono ?_; rintro e w1 ⟨rfl, rfl⟩
    cases b1
    · go_wp2_with fail
      go_ret
      exact ⟨by simp, HB.out⟩
    · go_wp2_with fail
      refine (HK2.out _ (HS.out.alloc _)).mono ?_; rintro e w1 ⟨rfl, hb⟩
      go_wp2_with fail
      go_ret
      exact ⟨by simp, HB.out.trans (hb.mono HB.out.size)⟩
  · go_wp2_with fail
    refine (HK2.out _ (HS.out.alloc _)).mono ?_; rintro e w1 ⟨rfl, hb⟩
    go_wp2_with fail
    go_ret
    exact ⟨by simp, HB.out.trans (hb.mono HB.out.size)⟩
set_option maxRecDepth 100000 in
set_option maxHeartbeats 2000000 in
theorem has_10 (m : M) (A : Option Addr) (n c : Nat) (l : List Int) (w : World) (hs : Sl w (.slice A n c) (iv l)) (hk : m.kind = 10) : Calls Tryz.prog 42 #[.agg (m.c (.slice A n c))] w fun e w' => e = .returned (.bool (placeB m.place)) ∧ Below w.heap.size w w' := by
  have R := Lib.hid (Rw.new w (m.c (.slice A n c)) 27)
  have IT := Lib.hid (m.item (.slice A n c))
  have HB := Lib.hid (box_below w (.cells (m.c (.slice A n c)) 27))
  have HS := Lib.hid hs
  clear hs
  have e4 : (m.kind == 4) = false := by rw [hk]; rfl
  have e5 : (m.kind == 5) = false := by rw [hk]; rfl
  have e6 : (m.kind == 6) = false := by rw [hk]; rfl
  have e7 : (m.kind == 7) = false := by rw [hk]; rfl
  have e10 : (m.kind == 10) = true := by rw [hk]; rfl
  have e11 : (m.kind == 11) = false := by rw [hk]; rfl
  have e12 : (m.kind == 12) = false := by rw [hk]; rfl
  clear hk
  go_enter Tryz.func42, Tryz.ntmps42
  go_wp2_with fail
  refine (rplace_any m.place _).mono ?_; rintro e w1 ⟨rfl, rfl⟩
  go_wp2_with fail
  go_ret
  exact ⟨rfl, HB.out⟩
set_option maxRecDepth 100000 in
set_option maxHeartbeats 2000000 in
theorem has_11 (m : M) (A : Option Addr) (n c : Nat) (l : List Int) (w : World) (hs : Sl w (.slice A n c) (iv l)) (hk : m.kind = 11) : Calls Tryz.prog 42 #[.agg (m.c (.slice A n c))] w fun e w' => e = .returned (.bool (m.code == 0 || m.code == 200)) ∧ Below w.heap.size w w' := by
  have R := Lib.hid (Rw.new w (m.c (.slice A n c)) 27)
  have IT := Lib.hid (m.item (.slice A n c))
  have HB := Lib.hid (box_below w (.cells (m.c (.slice A n c)) 27))
  have HS := Lib.hid hs
  clear hs
  have e4 : (m.kind == 4) = false := by rw [hk]; rfl
  have e5 : (m.kind == 5) = false := by rw [hk]; rfl
  have e6 : (m.kind == 6) = false := by rw [hk]; rfl
  have e7 : (m.kind == 7) = false := by rw [hk]; rfl
  have e10 : (m.kind == 10) = false := by rw [hk]; rfl
  have e11 : (m.kind == 11) = true := by rw [hk]; rfl
  have e12 : (m.kind == 12) = false := by rw [hk]; rfl
  clear hk
  obtain ⟨b0, h0⟩ : ∃ b, (m.code == 0) = b := ⟨_, rfl⟩
  obtain ⟨b1, h1⟩ : ∃ b, (m.code == 200) = b := ⟨_, rfl⟩
  rw [h0, h1]
  go_enter Tryz.func42, Tryz.ntmps42
  cases b0
  · go_wp2_with fail
    go_ret
    exact ⟨by simp, HB.out⟩
  · go_wp2_with fail
    go_ret
    exact ⟨rfl, HB.out⟩
set_option maxRecDepth 100000 in
set_option maxHeartbeats 2000000 in
theorem has_12 (m : M) (A : Option Addr) (n c : Nat) (l : List Int) (w : World) (hs : Sl w (.slice A n c) (iv l)) (hk : m.kind = 12) : Calls Tryz.prog 42 #[.agg (m.c (.slice A n c))] w fun e w' => e = .returned (.bool (getB m)) ∧ Below w.heap.size w w' := by
  have R := Lib.hid (Rw.new w (m.c (.slice A n c)) 27)
  have IT := Lib.hid (m.item (.slice A n c))
  have HB := Lib.hid (box_below w (.cells (m.c (.slice A n c)) 27))
  have HS := Lib.hid hs
  clear hs
  have e4 : (m.kind == 4) = false := by rw [hk]; rfl
  have e5 : (m.kind == 5) = false := by rw [hk]; rfl
  have e6 : (m.kind == 6) = false := by rw [hk]; rfl
  have e7 : (m.kind == 7) = false := by rw [hk]; rfl
  have e10 : (m.kind == 10) = false := by rw [hk]; rfl
  have e11 : (m.kind == 11) = false := by rw [hk]; rfl
  have e12 : (m.kind == 12) = true := by rw [hk]; rfl
  clear hk
  unfold getB
  obtain ⟨b0, h0⟩ : ∃ b, (m.code == 0) = b := ⟨_, rfl⟩
  obtain ⟨b1, h1⟩ : ∃ b, (m.code == 201) = b := ⟨_, rfl⟩
  obtain ⟨b2, h2⟩ : ∃ b, itEq m.it noIt = b := ⟨_, rfl⟩
  obtain ⟨b3, h3⟩ : ∃ b, pairB m.it = b := ⟨_, rfl⟩
  have k1 := fun w => rPair_any m.it w
  have HE := fun w => run_eqI w m.it noIt
  rw [h3] at k1
  rw [h2] at HE
  rw [h0, h1, h2, h3]
  have HE := Lib.hid HE
  have R1 := R
  clear h2 h3
  go_enter Tryz.func42, Tryz.ntmps42
  cases b0
  · cases b1
    · go_wp2_with (first
    | (with_reducible show wpList _ _ _ (Oper.mk _ (Op.load 24 _) _ _ _ _ :: _) _ _
       refine wpList_loadPt R.out IT.out agg24 rfl _ rfl rfl ?_)
    | (with_reducible show wpList _ _ _ (Oper.mk _ (Op.binOp _ 24 _ _ _) _ _ _ _ :: _) _ _
       refine wpList_eqR rfl _ _ rfl rfl rfl eg24 (HE.out _) ?_))
      go_ret
      exact ⟨by simp, HB.out⟩
    · go_wp2_with (first
    | (with_reducible show wpList _ _ _ (Oper.mk _ (Op.load 24 _) _ _ _ _ :: _) _ _
       refine wpList_loadPt R.out IT.out agg24 rfl _ rfl rfl ?_)
    | (with_reducible show wpList _ _ _ (Oper.mk _ (Op.binOp _ 24 _ _ _) _ _ _ _ :: _) _ _
       refine wpList_eqR rfl _ _ rfl rfl rfl eg24 (HE.out _) ?_))
      go_ret
      exact ⟨by simp, HB.out⟩
  · go_wp2_with (first
    | (with_reducible show wpList _ _ _ (Oper.mk _ (Op.load 24 _) _ _ _ _ :: _) _ _
       refine wpList_loadPt R.out IT.out agg24 rfl _ rfl rfl ?_)
    | (with_reducible show wpList _ _ _ (Oper.mk _ (Op.binOp _ 24 _ _ _) _ _ _ _ :: _) _ _
       refine wpList_eqR rfl _ _ rfl rfl rfl eg24 (HE.out _) ?_))
    refine (k1 _).mono ?_; rintro e w1 ⟨rfl, hb⟩
    have R1 := Lib.hid (R.out.below hb)
    have c1 := R1.out.cell
    cases b3
    · cases b1
      · go_wp2_with (first
    | (with_reducible show wpList _ _ _ (Oper.mk _ (Op.load 24 _) _ _ _ _ :: _) _ _
       refine wpList_loadPt R1.out IT.out agg24 rfl _ rfl rfl ?_)
    | (with_reducible show wpList _ _ _ (Oper.mk _ (Op.binOp _ 24 _ _ _) _ _ _ _ :: _) _ _
       refine wpList_eqR rfl _ _ rfl rfl rfl eg24 (HE.out _) ?_))
        go_ret
        exact ⟨by simp, HB.out.trans (hb.mono HB.out.size)⟩
      · go_wp2_with (first
    | (with_reducible show wpList _ _ _ (Oper.mk _ (Op.load 24 _) _ _ _ _ :: _) _ _
       refine wpList_loadPt R1.out IT.out agg24 rfl _ rfl rfl ?_)
    | (with_reducible show wpList _ _ _ (Oper.mk _ (Op.binOp _ 24 _ _ _) _ _ _ _ :: _) _ _
       refine wpList_eqR rfl _ _ rfl rfl rfl eg24 (HE.out _) ?_))
        go_ret
        exact ⟨by simp, HB.out.trans (hb.mono HB.out.size)⟩
    · go_wp2_with (first
    | (with_reducible show wpList _ _ _ (Oper.mk _ (Op.load 24 _) _ _ _ _ :: _) _ _
       refine wpList_loadPt R1.out IT.out agg24 rfl _ rfl rfl ?_)
    | (with_reducible show wpList _ _ _ (Oper.mk _ (Op.binOp _ 24 _ _ _) _ _ _ _ :: _) _ _
       refine wpList_eqR rfl _ _ rfl rfl rfl eg24 (HE.out _) ?_))
      go_ret
      exact ⟨by simp, HB.out.trans (hb.mono HB.out.size)⟩
set_option maxRecDepth 100000 in
set_option maxHeartbeats 2000000 in
theorem has_x (m : M) (A : Option Addr) (n c : Nat) (l : List Int) (w : World) (hs : Sl w (.slice A n c) (iv l)) (hk : m.kind ≠ 4 ∧ m.kind ≠ 5 ∧ m.kind ≠ 6 ∧ m.kind ≠ 7 ∧ m.kind ≠ 10 ∧ m.kind ≠ 11 ∧ m.kind ≠ 12) : Calls Tryz.prog 42 #[.agg (m.c (.slice A n c))] w fun e w' => e = .returned (.bool (true)) ∧ Below w.heap.size w w' := by
  have R := Lib.hid (Rw.new w (m.c (.slice A n c)) 27)
  have IT := Lib.hid (m.item (.slice A n c))
  have HB := Lib.hid (box_below w (.cells (m.c (.slice A n c)) 27))
  have HS := Lib.hid hs
  clear hs
  have e4 : (m.kind == 4) = false := by simp [hk]
  have e5 : (m.kind == 5) = false := by simp [hk]
  have e6 : (m.kind == 6) = false := by simp [hk]
  have e7 : (m.kind == 7) = false := by simp [hk]
  have e10 : (m.kind == 10) = false := by simp [hk]
  have e11 : (m.kind == 11) = false := by simp [hk]
  have e12 : (m.kind == 12) = false := by simp [hk]
  clear hk
  go_enter Tryz.func42, Tryz.ntmps42
  go_wp2_with fail
  go_ret
  exact ⟨rfl, HB.out⟩
theorem has_any (m : M) (A : Option Addr) (n c : Nat) (l : List Int) (w : World) (hs : Sl w (.slice A n c) (iv l)) : Calls Tryz.prog 42 #[.agg (m.c (.slice A n c))] w fun e w' => e = .returned (.bool (hasB m l)) ∧ Below w.heap.size w w' := by
  by_cases h4 : m.kind = 4
  · have := has_4 m A n c l w hs h4; rw [hasB, if_pos h4]; exact this
  by_cases h5 : m.kind = 5
  · have := has_5 m A n c l w hs h5; rw [hasB, if_neg h4, if_pos h5]; exact this
  by_cases h6 : m.kind = 6
  · have := has_6 m A n c l w hs h6; rw [hasB, if_neg h4, if_neg h5, if_pos h6]; exact this
  by_cases h7 : m.kind = 7
  · have := has_7 m A n c l w hs h7; rw [hasB, if_neg h4, if_neg h5, if_neg h6, if_pos h7]; exact this
  by_cases h10 : m.kind = 10
  · have := has_10 m A n c l w hs h10; rw [hasB, if_neg h4, if_neg h5, if_neg h6, if_neg h7, if_pos h10]; exact this
  by_cases h11 : m.kind = 11
  · have := has_11 m A n c l w hs h11; rw [hasB, if_neg h4, if_neg h5, if_neg h6, if_neg h7, if_neg h10, if_pos h11]; exact this
  by_cases h12 : m.kind = 12
  · have := has_12 m A n c l w hs h12; rw [hasB, if_neg h4, if_neg h5, if_neg h6, if_neg h7, if_neg h10, if_neg h11, if_pos h12]; exact this
  have := has_x m A n c l w hs ⟨h4, h5, h6, h7, h10, h11, h12⟩
  rw [hasB, if_neg h4, if_neg h5, if_neg h6, if_neg h7, if_neg h10, if_neg h11, if_neg h12]; exact this
end Go.Proofs.YtaacjpcckinaiaaGreat.Ms
set_option linter.unusedVariables false
set_option maxRecDepth 100000
set_option linter.unusedSimpArgs false
namespace Go.Proofs.YtaacjpcckinaiaaGreat.Ms
open Go.RowKit Go.Shelf

theorem _root_.Go.Proofs.YtaacjpcckinaiaaGreat.Sl.q_ {w : World} {A : Option Addr} {n c : Nat} {l : List Int} (h : Sl w (.slice A n c) (iv l)) (j : Nat) (hj : j < l.length) : ∃ g off, A = some ⟨g, off, none⟩ ∧ w.cell? ⟨g, off + j, none⟩ = some (.int .i64 l[j]) := by
  rcases h.ints with ⟨_, rfl⟩ | ⟨b, off, c', e, _, _, _, h4⟩
  · cases hj
  · injection e with e
    exact ⟨b, off, e, h4 j hj⟩
theorem _root_.Go.Proofs.YtaacjpcckinaiaaGreat.Sl.llen {w : World} {A : Option Addr} {n c : Nat} {l : List Int} (h : Sl w (.slice A n c) (iv l)) : n = l.length ∧ (n : Int) ≤ 9223372036854775807 := by
  have := h.len
  rw [iv_length] at this
  refine ⟨this.symm, ?_⟩
  rcases h.ints with ⟨e, rfl⟩ | ⟨b, off, c', e, h1, h2, _⟩
  · rw [← this]; simp
  · omega

set_option maxRecDepth 100000 in
set_option maxHeartbeats 4000000 in
theorem rSame_any (a b : M) (va vb : Value) (la lb : List Int) (w : World) (h1 : Sl w va (iv la)) (h2 : Sl w vb (iv lb)) :
    Calls Tryz.prog 15 #[.agg (a.c va), .agg (b.c vb)] w fun e w' => e = .returned (.bool (same a b la lb)) ∧ Below w.heap.size w w' := by
  obtain ⟨A, n, c, rfl⟩ := h1.slice
  obtain ⟨B, n', c', rfl⟩ := h2.slice
  obtain ⟨rfl, hm⟩ := h1.llen
  obtain ⟨rfl, _⟩ := h2.llen
  obtain ⟨r1, r2, r3⟩ := two_boxes w (a.c (.slice A la.length c)) (b.c (.slice B lb.length c')) 27 27
  generalize hW : (w.alloc (.cells (a.c (.slice A la.length c)) 27)).alloc (.cells (b.c (.slice B lb.length c')) 27) = W at r1 r2 r3
  obtain ⟨r, hr⟩ : ∃ r, same a b la lb = r := ⟨_, rfl⟩
  rw [hr]
  have HR := Lib.hid hr
  have R1 := Lib.hid r1
  have R2 := Lib.hid r2
  have c1 := r1.cell
  have c2 := r2.cell
  have s1 := h1.below r3
  have s2 := h2.below r3
  have Q1 := Lib.hid (fun j hj => s1.q_ j hj)
  have Q2 := Lib.hid (fun j hj => s2.q_ j hj)
  have HE := Lib.hid (fun w => run_eqI w a.it b.it)
  have HB := Lib.hid (fun n => r3.trans ((below_drewN (w := W) n).mono r3.size))
  have IA := Lib.hid (a.item (.slice A la.length c))
  have IB := Lib.hid (b.item (.slice B lb.length c'))
  by_cases hl : la.length = lb.length
  · have hz : ((la.length : Int) != (lb.length : Int)) = false := by simp [hl]
    have HL := Lib.hid hl
    clear h1 h2 s1 s2 r1 r2 r3 hr hl
    go_enter Tryz.func15, Tryz.ntmps15
    simp only [List.append_eq, List.cons_append, List.nil_append]
    go_wp2_with fail
    try rw [hW]
    clear hW
    go_loopw [5] (fun i w' => ∃ k : Nat, k ≤ la.length ∧ i = .int .i64 k ∧ la.take k = lb.take k ∧ ∃ n, w' = W.drewN n) (fun i _ => la.length - (intOf i).toNat)
    case atStart => exact ⟨0, by omega, rfl, by simp, 0, rfl⟩
    case round =>
      obtain ⟨k, hk, rfl, ht, nq, rfl⟩ := hrel
      have HT := Lib.hid ht
      clear ht
      by_cases hlt : k < la.length
      · obtain ⟨g1, o1, rfl, hc1⟩ := Q1.out k hlt
        obtain ⟨g2, o2, rfl, hc2⟩ := Q2.out k (by rw [← HL.out]; exact hlt)
        have i2 : (k : Int) < lb.length := by rw [← HL.out]; omega
        by_cases he : la[k] = lb[k]'(by rw [← HL.out]; exact hlt)
        · have hn : (la[k] != lb[k]'(by rw [← HL.out]; exact hlt)) = false := by simp [he]
          have HEQ := Lib.hid he
          clear he
          go_wp2
          go_quiet (fail)
          go_wp2
          go_roundw
          case rel =>
            refine ⟨k + 1, by omega, by go_num, ?_, _, by first | rfl | exact World.drewN_drewN _ _ _⟩
            rw [List.take_succ_eq_append_getElem hlt, List.take_succ_eq_append_getElem (by rw [← HL.out]; exact hlt), HT.out, HEQ.out]
          case measure => simp [intOf]; omega
        · have hn : (la[k] != lb[k]'(by rw [← HL.out]; exact hlt)) = true := by simp [he]
          have HEQ := Lib.hid he
          clear he
          go_wp2
          go_quiet (fail)
          go_wp2
          go_ret
          refine ⟨?_, ?_⟩
          · have : ¬ la = lb := fun e => HEQ.out (by simp [e])
            rw [← HR.out]
            simp [same, this]
          · first | exact HB.out _ | (rw [World.drewN_drewN]; exact HB.out _)
      · obtain rfl : k = la.length := by omega
        have hll : la = lb := by
          have := HT.out
          rw [List.take_length, HL.out, List.take_length] at this
          exact this
        have HLL := Lib.hid hll
        clear hll
        have HR1 := Lib.hid (show Rw (W.drewN nq) _ _ _ from R1.out)
        have HR2 := Lib.hid (show Rw (W.drewN nq) _ _ _ from R2.out)
        obtain ⟨b0, e0⟩ : ∃ y, (a.kind == b.kind) = y := ⟨_, rfl⟩
        obtain ⟨b1, e1⟩ : ∃ y, (a.call == b.call) = y := ⟨_, rfl⟩
        obtain ⟨b2, e2⟩ : ∃ y, (a.frm == b.frm) = y := ⟨_, rfl⟩
        obtain ⟨b3, e3⟩ : ∃ y, (a.to == b.to) = y := ⟨_, rfl⟩
        obtain ⟨b4, e4⟩ : ∃ y, (a.key == b.key) = y := ⟨_, rfl⟩
        obtain ⟨b5, e5⟩ : ∃ y, (a.slow == b.slow) = y := ⟨_, rfl⟩
        obtain ⟨b6, e6⟩ : ∃ y, (a.done == b.done) = y := ⟨_, rfl⟩
        obtain ⟨b7, e7⟩ : ∃ y, (a.place == b.place) = y := ⟨_, rfl⟩
        obtain ⟨b8, e8⟩ : ∃ y, (a.pred == b.pred) = y := ⟨_, rfl⟩
        obtain ⟨b9, e9⟩ : ∃ y, itEq a.it b.it = y := ⟨_, rfl⟩
        obtain ⟨b10, e10⟩ : ∃ y, (a.code == b.code) = y := ⟨_, rfl⟩
        have hres : r = (b0 && (b1 && (b2 && (b3 && (b4 && (b7 && (b8 && (b5 && (b6 && (b9 && b10)))))))))) := by
          rw [← HR.out, same, decide_eq_true HLL.out, Bool.and_true, mEq, e0, e1, e2, e3, e4, e5, e6, e7, e8, e9, e10]
        have HRES := Lib.hid hres
        have E9 := Lib.hid e9
        have HE9 := HE.out
        rw [e9] at HE9
        have HE := Lib.hid HE9
        clear HE9 hres e9
        cases b0
        · go_wp2_with (first
            | (with_reducible show wpList _ _ _ (Oper.mk _ (Op.load 24 _) _ _ _ _ :: _) _ _
               refine wpList_loadPt HR1.out IA.out agg24 rfl _ rfl rfl ?_)
            | (with_reducible show wpList _ _ _ (Oper.mk _ (Op.load 24 _) _ _ _ _ :: _) _ _
               refine wpList_loadPt HR2.out IB.out agg24 rfl _ rfl rfl ?_)
            | (with_reducible show wpList _ _ _ (Oper.mk _ (Op.binOp _ 24 _ _ _) _ _ _ _ :: _) _ _
               refine wpList_eqR rfl _ _ rfl rfl rfl eg24 (HE.out _) ?_))
          go_ret
          exact ⟨ret_b (by rw [HRES.out]; simp), HB.out _⟩
        cases b1
        · go_wp2_with (first
            | (with_reducible show wpList _ _ _ (Oper.mk _ (Op.load 24 _) _ _ _ _ :: _) _ _
               refine wpList_loadPt HR1.out IA.out agg24 rfl _ rfl rfl ?_)
            | (with_reducible show wpList _ _ _ (Oper.mk _ (Op.load 24 _) _ _ _ _ :: _) _ _
               refine wpList_loadPt HR2.out IB.out agg24 rfl _ rfl rfl ?_)
            | (with_reducible show wpList _ _ _ (Oper.mk _ (Op.binOp _ 24 _ _ _) _ _ _ _ :: _) _ _
               refine wpList_eqR rfl _ _ rfl rfl rfl eg24 (HE.out _) ?_))
          go_ret
          exact ⟨ret_b (by rw [HRES.out]; simp), HB.out _⟩
        cases b2
        · go_wp2_with (first
            | (with_reducible show wpList _ _ _ (Oper.mk _ (Op.load 24 _) _ _ _ _ :: _) _ _
               refine wpList_loadPt HR1.out IA.out agg24 rfl _ rfl rfl ?_)
            | (with_reducible show wpList _ _ _ (Oper.mk _ (Op.load 24 _) _ _ _ _ :: _) _ _
               refine wpList_loadPt HR2.out IB.out agg24 rfl _ rfl rfl ?_)
            | (with_reducible show wpList _ _ _ (Oper.mk _ (Op.binOp _ 24 _ _ _) _ _ _ _ :: _) _ _
               refine wpList_eqR rfl _ _ rfl rfl rfl eg24 (HE.out _) ?_))
          go_ret
          exact ⟨ret_b (by rw [HRES.out]; simp), HB.out _⟩
        cases b3
        · go_wp2_with (first
            | (with_reducible show wpList _ _ _ (Oper.mk _ (Op.load 24 _) _ _ _ _ :: _) _ _
               refine wpList_loadPt HR1.out IA.out agg24 rfl _ rfl rfl ?_)
            | (with_reducible show wpList _ _ _ (Oper.mk _ (Op.load 24 _) _ _ _ _ :: _) _ _
               refine wpList_loadPt HR2.out IB.out agg24 rfl _ rfl rfl ?_)
            | (with_reducible show wpList _ _ _ (Oper.mk _ (Op.binOp _ 24 _ _ _) _ _ _ _ :: _) _ _
               refine wpList_eqR rfl _ _ rfl rfl rfl eg24 (HE.out _) ?_))
          go_ret
          exact ⟨ret_b (by rw [HRES.out]; simp), HB.out _⟩
        cases b4
        · go_wp2_with (first
            | (with_reducible show wpList _ _ _ (Oper.mk _ (Op.load 24 _) _ _ _ _ :: _) _ _
               refine wpList_loadPt HR1.out IA.out agg24 rfl _ rfl rfl ?_)
            | (with_reducible show wpList _ _ _ (Oper.mk _ (Op.load 24 _) _ _ _ _ :: _) _ _
               refine wpList_loadPt HR2.out IB.out agg24 rfl _ rfl rfl ?_)
            | (with_reducible show wpList _ _ _ (Oper.mk _ (Op.binOp _ 24 _ _ _) _ _ _ _ :: _) _ _
               refine wpList_eqR rfl _ _ rfl rfl rfl eg24 (HE.out _) ?_))
          go_ret
          exact ⟨ret_b (by rw [HRES.out]; simp), HB.out _⟩
        cases b5
        · go_wp2_with (first
            | (with_reducible show wpList _ _ _ (Oper.mk _ (Op.load 24 _) _ _ _ _ :: _) _ _
               refine wpList_loadPt HR1.out IA.out agg24 rfl _ rfl rfl ?_)
            | (with_reducible show wpList _ _ _ (Oper.mk _ (Op.load 24 _) _ _ _ _ :: _) _ _
               refine wpList_loadPt HR2.out IB.out agg24 rfl _ rfl rfl ?_)
            | (with_reducible show wpList _ _ _ (Oper.mk _ (Op.binOp _ 24 _ _ _) _ _ _ _ :: _) _ _
               refine wpList_eqR rfl _ _ rfl rfl rfl eg24 (HE.out _) ?_))
          go_ret
          exact ⟨ret_b (by rw [HRES.out]; simp), HB.out _⟩
        cases b6
        · go_wp2_with (first
            | (with_reducible show wpList _ _ _ (Oper.mk _ (Op.load 24 _) _ _ _ _ :: _) _ _
               refine wpList_loadPt HR1.out IA.out agg24 rfl _ rfl rfl ?_)
            | (with_reducible show wpList _ _ _ (Oper.mk _ (Op.load 24 _) _ _ _ _ :: _) _ _
               refine wpList_loadPt HR2.out IB.out agg24 rfl _ rfl rfl ?_)
            | (with_reducible show wpList _ _ _ (Oper.mk _ (Op.binOp _ 24 _ _ _) _ _ _ _ :: _) _ _
               refine wpList_eqR rfl _ _ rfl rfl rfl eg24 (HE.out _) ?_))
          go_ret
          exact ⟨ret_b (by rw [HRES.out]; simp), HB.out _⟩
        cases b7
        · go_wp2_with (first
            | (with_reducible show wpList _ _ _ (Oper.mk _ (Op.load 24 _) _ _ _ _ :: _) _ _
               refine wpList_loadPt HR1.out IA.out agg24 rfl _ rfl rfl ?_)
            | (with_reducible show wpList _ _ _ (Oper.mk _ (Op.load 24 _) _ _ _ _ :: _) _ _
               refine wpList_loadPt HR2.out IB.out agg24 rfl _ rfl rfl ?_)
            | (with_reducible show wpList _ _ _ (Oper.mk _ (Op.binOp _ 24 _ _ _) _ _ _ _ :: _) _ _
               refine wpList_eqR rfl _ _ rfl rfl rfl eg24 (HE.out _) ?_))
          go_ret
          exact ⟨ret_b (by rw [HRES.out]; simp), HB.out _⟩
        cases b8
        · go_wp2_with (first
            | (with_reducible show wpList _ _ _ (Oper.mk _ (Op.load 24 _) _ _ _ _ :: _) _ _
               refine wpList_loadPt HR1.out IA.out agg24 rfl _ rfl rfl ?_)
            | (with_reducible show wpList _ _ _ (Oper.mk _ (Op.load 24 _) _ _ _ _ :: _) _ _
               refine wpList_loadPt HR2.out IB.out agg24 rfl _ rfl rfl ?_)
            | (with_reducible show wpList _ _ _ (Oper.mk _ (Op.binOp _ 24 _ _ _) _ _ _ _ :: _) _ _
               refine wpList_eqR rfl _ _ rfl rfl rfl eg24 (HE.out _) ?_))
          go_ret
          exact ⟨ret_b (by rw [HRES.out]; simp), HB.out _⟩
        cases b9
        · go_wp2_with (first
            | (with_reducible show wpList _ _ _ (Oper.mk _ (Op.load 24 _) _ _ _ _ :: _) _ _
               refine wpList_loadPt HR1.out IA.out agg24 rfl _ rfl rfl ?_)
            | (with_reducible show wpList _ _ _ (Oper.mk _ (Op.load 24 _) _ _ _ _ :: _) _ _
               refine wpList_loadPt HR2.out IB.out agg24 rfl _ rfl rfl ?_)
            | (with_reducible show wpList _ _ _ (Oper.mk _ (Op.binOp _ 24 _ _ _) _ _ _ _ :: _) _ _
               refine wpList_eqR rfl _ _ rfl rfl rfl eg24 (HE.out _) ?_))
          go_ret
          exact ⟨ret_b (by rw [HRES.out]; simp), HB.out _⟩
        cases b10
        · go_wp2_with (first
            | (with_reducible show wpList _ _ _ (Oper.mk _ (Op.load 24 _) _ _ _ _ :: _) _ _
               refine wpList_loadPt HR1.out IA.out agg24 rfl _ rfl rfl ?_)
            | (with_reducible show wpList _ _ _ (Oper.mk _ (Op.load 24 _) _ _ _ _ :: _) _ _
               refine wpList_loadPt HR2.out IB.out agg24 rfl _ rfl rfl ?_)
            | (with_reducible show wpList _ _ _ (Oper.mk _ (Op.binOp _ 24 _ _ _) _ _ _ _ :: _) _ _
               refine wpList_eqR rfl _ _ rfl rfl rfl eg24 (HE.out _) ?_))
          go_ret
          exact ⟨ret_b (by rw [HRES.out]; simp), HB.out _⟩
        go_wp2_with (first
          | (with_reducible show wpList _ _ _ (Oper.mk _ (Op.load 24 _) _ _ _ _ :: _) _ _
             refine wpList_loadPt HR1.out IA.out agg24 rfl _ rfl rfl ?_)
          | (with_reducible show wpList _ _ _ (Oper.mk _ (Op.load 24 _) _ _ _ _ :: _) _ _
             refine wpList_loadPt HR2.out IB.out agg24 rfl _ rfl rfl ?_)
          | (with_reducible show wpList _ _ _ (Oper.mk _ (Op.binOp _ 24 _ _ _) _ _ _ _ :: _) _ _
             refine wpList_eqR rfl _ _ rfl rfl rfl eg24 (HE.out _) ?_))
        go_ret
        exact ⟨ret_b (by rw [HRES.out]; simp), HB.out _⟩
  · have hz : ((la.length : Int) != (lb.length : Int)) = true := by rw [bne_iff_ne]; omega
    have HL := Lib.hid hl
    clear h1 h2 s1 s2 r1 r2 r3 hr hl
    go_enter Tryz.func15, Tryz.ntmps15
    simp only [List.append_eq, List.cons_append, List.nil_append]
    go_wp2_with fail
    try rw [hW]
    go_ret
    refine ⟨?_, HB.out 0⟩
    have : ¬ la = lb := fun e => HL.out (by rw [e])
    rw [← HR.out]
    simp [same, this]
end Go.Proofs.YtaacjpcckinaiaaGreat.Ms
set_option linter.unusedVariables false
set_option maxRecDepth 100000
set_option linter.unusedSimpArgs false
namespace Go.Proofs.YtaacjpcckinaiaaGreat.Ms
open Go.RowKit Go.Shelf
attribute [local go_sem] Oper.semAt_some

def four (m : M) : List Int := [m.frm, m.to, m.key, m.place]
def predL (m : M) : List Int := if m.pred = -1 then [] else [m.pred]
/-- All places that a message tells of. -/
def placesL (m : M) (l : List Int) : List Int := (four m ++ predL m) ++ l
theorem idx4 (a b c d : Int) (k : Nat) (hk : k < 4) (W : World) : (Instr.index 103 (.agg #[.int .i64 a, .int .i64 b, .int .i64 c, .int .i64 d]) (.int .i64 (k : Int))).run Tryz.prog W = .ok (.int .i64 ([a, b, c, d][k]'(by simpa using hk))) W := by
  have h0 : (Instr.index 103 (.agg #[.int .i64 a, .int .i64 b, .int .i64 c, .int .i64 d]) (.int .i64 0)).run Tryz.prog W = .ok (.int .i64 a) W := by kernel_rfl
  have h1 : (Instr.index 103 (.agg #[.int .i64 a, .int .i64 b, .int .i64 c, .int .i64 d]) (.int .i64 1)).run Tryz.prog W = .ok (.int .i64 b) W := by kernel_rfl
  have h2 : (Instr.index 103 (.agg #[.int .i64 a, .int .i64 b, .int .i64 c, .int .i64 d]) (.int .i64 2)).run Tryz.prog W = .ok (.int .i64 c) W := by kernel_rfl
  have h3 : (Instr.index 103 (.agg #[.int .i64 a, .int .i64 b, .int .i64 c, .int .i64 d]) (.int .i64 3)).run Tryz.prog W = .ok (.int .i64 d) W := by kernel_rfl
  match k, hk with
  | 0, _ => exact h0
  | 1, _ => exact h1
  | 2, _ => exact h2
  | 3, _ => exact h3

set_option maxRecDepth 100000 in
set_option maxHeartbeats 4000000 in
theorem places_in (n : Nat) (l Bs : Nat) (m : M) (A : Option Addr) (c : Nat) (ls : List Int) (S : Nat → Prop) (hb : S Bs) (hreach : (ls.length : Int) ≤ 9223372036854775807) (J Jx : List Int → World → Prop)
    (hY : ∀ pre x W, J pre W → pre.length < (placesL m ls).length → YieldAt Fence.wide (n - 1) Tryz.prog l #[.int .i64 x] W fun e W' =>
      (e = .returned (.bool true) ∧ J (pre ++ [x]) W' ∧ Kps S W W') ∨ (e = .returned (.bool false) ∧ Jx (pre ++ [x]) W'))
    (W : World) (hBs : ∀ j, W.cell? ⟨Bs, j, none⟩ = (m.c (.slice A ls.length c))[j]?)
    (hl : ∀ j (hj : j < ls.length), ∃ g off, A = some ⟨g, off, none⟩ ∧ S g ∧ W.cell? ⟨g, off + j, none⟩ = some (.int .i64 ls[j])) (h0 : J [] W) :
    CallsIn Fence.wide n Tryz.prog 78 #[.func (.yield l) #[] #[], .pointer (some ⟨Bs, 0, none⟩)] W fun e W' => (∃ v, e = .returned v) ∧
      ((∃ ys, ys = placesL m ls ∧ J ys W') ∨ (∃ pre, pre <+: placesL m ls ∧ Jx pre W')) := by
  have HL := Lib.hid hl
  have hlen : (placesL m ls).length = 4 + (predL m).length + ls.length := by simp [placesL, four]; omega
  have HLEN := Lib.hid hlen
  have B2 := Lib.hid hBs
  have HY := Lib.hid hY
  clear hl hlen hY
  refine callsIn_of_wp Tryz.func78 rfl trivial ?_ rfl
  simp only [Tryz.ntmps78, List.size_toArray, List.length_cons, List.length_nil, Nat.reduceAdd, Nat.reduceSub, Array.replicate_succ, Array.replicate_zero, List.push_toArray, List.append_toArray, List.nil_append, List.cons_append]
  gi_wp2
  gi_loopw [16] (fun i wr => ∃ k : Nat, k ≤ 4 ∧ i = .int .i64 k ∧ J ((four m).take k) wr ∧ Kps S W wr) (fun i _ => 4 - (intOf i).toNat)
  case atStart => exact ⟨0, Nat.zero_le _, rfl, by simpa using h0, Kps.refl _ _⟩
  case round =>
    obtain ⟨k, hk, rfl, hJs, hnx⟩ := hrel
    by_cases hlt : k < 4
    · have hi := fun W => idx4 m.frm m.to m.key m.place k hlt W
      obtain ⟨z, hz⟩ : ∃ z, z = ([m.frm, m.to, m.key, m.place][k]'(by simpa using hlt)) := ⟨_, rfl⟩
      rw [← hz] at hi
      have htk : (four m).take (k + 1) = (four m).take k ++ [z] := by
        rw [hz]
        exact List.take_succ_eq_append_getElem (l := four m) (by simpa [four] using hlt)
      obtain ⟨fn, tmps, assign, body, hy, hR⟩ := HY.out ((four m).take k) z wr hJs (by rw [HLEN.out, List.length_take]; simp [four]; omega)
      rw [← htk] at hR
      have HTK := Lib.hid htk
      have HZ := Lib.hid hz
      clear htk hz hBs
      gi_wp2
      refine ⟨fun h => (by cases h), hR.mono ?_⟩
      rintro e W3 (⟨rfl, hJ3, hk3⟩ | ⟨rfl, hJx3⟩)
      · gi_wp2
        go_roundw
        case rel => exact ⟨k + 1, by omega, by go_num, hJ3, hnx.trans hk3⟩
        case measure => simp [intOf]; omega
      · gi_wp2
        refine bodyPost_ret (results_none rfl _ _ _) rfl ?_
        refine ⟨⟨_, rfl⟩, .inr ⟨_, ?_, hJx3⟩⟩
        unfold placesL
        rw [List.append_assoc]
        exact (List.take_prefix _ _).trans (List.prefix_append _ _)
    · obtain rfl : k = 4 := by omega
      have hc2 : ∀ j, wr.cell? ⟨Bs, j, none⟩ = (m.c (.slice A ls.length c))[j]? := fun j => (hnx.cell (p := ⟨Bs, j, none⟩) hb).trans (B2.out j)
      have hJ4 : J (four m) wr := by simpa [four] using hJs
      clear hBs hJs
      have last : ∀ W1, Kps S W W1 → J (four m ++ predL m) W1 → ∀ k : Nat, k ≤ ls.length → True := fun _ _ _ _ _ => trivial
      by_cases hp : m.pred = -1
      · have hpb : (m.pred != -1) = false := by simp [hp]
        have hpl : four m ++ predL m = four m := by simp [predL, hp]
        have HPL := Lib.hid hpl
        clear hpl hp
        gi_wp2
        repeat (refine ⟨fun f h => (by cases h), ?_⟩; gi_wp2)
        gi_loopw [37] (fun i wr => ∃ k : Nat, k ≤ ls.length ∧ i = .int .i64 k ∧ J (four m ++ predL m ++ ls.take k) wr ∧ Kps S W wr) (fun i _ => ls.length - (intOf i).toNat)
        case atStart => exact ⟨0, Nat.zero_le _, rfl, by simpa [HPL.out] using hJ4, hnx⟩
        case round =>
          clear hnx hc2
          obtain ⟨k, hk, rfl, hJs, hnx⟩ := hrel
          by_cases hlt : k < ls.length
          · obtain ⟨g, off, rfl, hsg, hcx0⟩ := HL.out k hlt
            have hcx := (hnx.cell (p := ⟨g, off + k, none⟩) hsg).trans hcx0
            obtain ⟨fn, tmps, assign, body, hy, hR⟩ := HY.out (four m ++ predL m ++ ls.take k) ls[k] wr hJs (by rw [HLEN.out]; simp [four]; omega)
            rw [List.append_assoc, ← List.take_succ_eq_append_getElem hlt] at hR
            clear hcx0
            gi_wp2
            refine ⟨fun h => (by cases h), hR.mono ?_⟩
            rintro e W3 (⟨rfl, hJ3, hk3⟩ | ⟨rfl, hJx3⟩)
            · gi_wp2
              go_roundw
              case rel => exact ⟨k + 1, by omega, by go_num, hJ3, hnx.trans hk3⟩
              case measure => simp [intOf]; omega
            · gi_wp2
              refine bodyPost_ret (results_none rfl _ _ _) rfl ?_
              refine ⟨⟨_, rfl⟩, .inr ⟨_, ?_, hJx3⟩⟩
              exact (List.prefix_append_right_inj _).2 (List.take_prefix _ _)
          · obtain rfl : k = ls.length := by omega
            gi_wp2
            go_end0
            exact ⟨⟨_, rfl⟩, .inl ⟨_, rfl, by simpa [placesL] using hJs⟩⟩
      · have hpb : (m.pred != -1) = true := by simp [hp]
        have hpl : four m ++ predL m = four m ++ [m.pred] := by simp [predL, hp]
        have HPL := Lib.hid hpl
        obtain ⟨fn, tmps, assign, body, hy, hR⟩ := HY.out (four m) m.pred wr hJ4 (by rw [HLEN.out]; simp [predL, hp, four]; omega)
        rw [← hpl] at hR
        clear hpl hp
        gi_wp2
        refine ⟨fun h => (by cases h), hR.mono ?_⟩
        rintro e W3 (⟨rfl, hJ3, hk3⟩ | ⟨rfl, hJx3⟩)
        · have hc3 : ∀ j, W3.cell? ⟨Bs, j, none⟩ = (m.c (.slice A ls.length c))[j]? := fun j => (hk3.cell (p := ⟨Bs, j, none⟩) hb).trans (hc2 j)
          clear hc2
          gi_wp2
          gi_loopw [37] (fun i wr => ∃ k : Nat, k ≤ ls.length ∧ i = .int .i64 k ∧ J (four m ++ predL m ++ ls.take k) wr ∧ Kps S W wr) (fun i _ => ls.length - (intOf i).toNat)
          case atStart => exact ⟨0, Nat.zero_le _, rfl, by simpa using hJ3, hnx.trans hk3⟩
          case round =>
            clear hnx hc3 hk3
            obtain ⟨k, hk, rfl, hJs, hnx⟩ := hrel
            by_cases hlt : k < ls.length
            · obtain ⟨g, off, rfl, hsg, hcx0⟩ := HL.out k hlt
              have hcx := (hnx.cell (p := ⟨g, off + k, none⟩) hsg).trans hcx0
              obtain ⟨fn, tmps, assign, body, hy, hR⟩ := HY.out (four m ++ predL m ++ ls.take k) ls[k] wr hJs (by rw [HLEN.out]; simp [four]; omega)
              rw [List.append_assoc, ← List.take_succ_eq_append_getElem hlt] at hR
              clear hcx0
              gi_wp2
              refine ⟨fun h => (by cases h), hR.mono ?_⟩
              rintro e W3 (⟨rfl, hJ3, hk3⟩ | ⟨rfl, hJx3⟩)
              · gi_wp2
                go_roundw
                case rel => exact ⟨k + 1, by omega, by go_num, hJ3, hnx.trans hk3⟩
                case measure => simp [intOf]; omega
              · gi_wp2
                refine bodyPost_ret (results_none rfl _ _ _) rfl ?_
                refine ⟨⟨_, rfl⟩, .inr ⟨_, ?_, hJx3⟩⟩
                exact (List.prefix_append_right_inj _).2 (List.take_prefix _ _)
            · obtain rfl : k = ls.length := by omega
              gi_wp2
              go_end0
              exact ⟨⟨_, rfl⟩, .inl ⟨_, rfl, by simpa [placesL] using hJs⟩⟩
        · gi_wp2
          refine bodyPost_ret (results_none rfl _ _ _) rfl ?_
          refine ⟨⟨_, rfl⟩, .inr ⟨_, ?_, hJx3⟩⟩
          exact List.prefix_append _ _

theorem places_stops (n Bs : Nat) (m : M) (A : Option Addr) (c : Nat) (S : Nat → Prop) (ls : List Int) (w : World) (hBs : Rw w Bs 27 (m.c (.slice A ls.length c)))
    (hI : Sl w (.slice A ls.length c) (iv ls)) (hb : S Bs) (hS : ∀ k, (Value.slice A ls.length c).ownBlock = some k → S k) :
    SeqStopsK Fence.wide n Tryz.prog 78 #[.pointer (some ⟨Bs, 0, none⟩)] (fun x : Int => #[.int .i64 x]) (Kps S) (fun ys => ys = placesL m ls) (fun pre => pre <+: placesL m ls) (placesL m ls).length w := fun l J Jx W hW _ _ hY h0 => by
  have h1 := hBs.below hW
  refine places_in n l Bs m A c ls S hb hI.llen.2 J Jx hY W h1.cell (fun j hj => ?_) h0
  obtain ⟨g, off, rfl, hc⟩ := (hI.below hW).q_ j hj
  exact ⟨g, off, rfl, hS g rfl, hc⟩

theorem places_any (m : M) (l : Value) (w : World) : Calls Tryz.prog 65 #[.agg (m.c l)] w fun e w' => e = .returned (.func (.func 78) #[] #[.pointer (some ⟨w.heap.size, 0, none⟩)]) ∧ w' = w.alloc (.cells (m.c l) 27) := by
  go_enter Tryz.func65, Tryz.ntmps65
  go_wp2
  go_ret
  exact ⟨rfl, rfl⟩
end Go.Proofs.YtaacjpcckinaiaaGreat.Ms
set_option linter.unusedVariables false
set_option maxRecDepth 100000
set_option linter.unusedSimpArgs false
namespace Go.Proofs.YtaacjpcckinaiaaGreat.Ms
open Go.RowKit Go.Shelf

def bareLL (m : M) (l : List Int) : List Int := if m.kind = 7 then [] else l
def rightB (m : M) (l : List Int) : Bool :=
  (decide (1 ≤ m.kind) && (decide (m.kind < 13) && (placeB m.frm && (placeB m.to && !(m.frm == m.to))))) && ((decide (askerI m * 1048576 + 1 ≤ m.call) && decide (m.call < askerI m * 1048576 + 1 + 1048576)) && (same (bareM m) (headM m) (bareLL m l) [] && hasB m l))
theorem bareL_sl {w : World} {m : M} {v : Value} {l : List Int} (h : Sl w v (iv l)) : Sl w (bareL m v) (iv (bareLL m l)) := by
  unfold bareL bareLL
  split
  · exact Sl.nil_ w
  · exact h
theorem gen_w {P : Program} {ops : Array Oper} {rest : List Oper} {a : Act} {w : World} {Q : Exit → Act → World → Prop} (p : World → Prop) (hp : p w) (h : ∀ W, p W → wpList P ops Q rest a W) : wpList P ops Q rest a w := h w hp

structure S7 (w V : World) (cm : Array Value) (Bs : Nat) (ch : Array Value) (v : Value) (xs : List Value) : Prop where
  r1 : Rw V w.heap.size 27 cm
  r2 : Rw V Bs 27 ch
  s : Sl V v xs
  below : Below w.heap.size w V
theorem gen_7 {P : Program} {ops : Array Oper} {rest : List Oper} {a : Act} {w0 w : World} {Q : Exit → Act → World → Prop} {cm ch : Array Value} {Bs : Nat} {v : Value} {xs : List Value} (hp : S7 w0 w cm Bs ch v xs) (h : ∀ W, S7 w0 W cm Bs ch v xs → wpList P ops Q rest a W) : wpList P ops Q rest a w := h w hp

set_option maxRecDepth 100000 in
set_option maxHeartbeats 4000000 in
theorem rRight_any (m : M) (A : Option Addr) (c : Nat) (l : List Int) (hk0 : 0 ≤ m.kind) (w : World) (hs : Sl w (.slice A l.length c) (iv l)) :
    Calls Tryz.prog 20 #[.agg (m.c (.slice A l.length c))] w fun e w' => e = .returned (.bool (rightB m l)) ∧ Below w.heap.size w w' := by
  obtain ⟨r, hr⟩ : ∃ r, rightB m l = r := ⟨_, rfl⟩
  rw [hr]
  have HR := Lib.hid hr
  have R0 := Rw.new w (m.c (.slice A l.length c)) 27
  have B0 := box_below w (.cells (m.c (.slice A l.length c)) 27)
  have S0 := hs.below B0
  generalize hW : w.alloc (.cells (m.c (.slice A l.length c)) 27) = W at R0 B0 S0
  have HLT := Lib.hid R0.lt
  have c0 := R0.cell
  have R1 := Lib.hid (fun y => Wd.row R0 y)
  have c1 := fun y j => (Wd.row R0 y).cell j
  have S1 := Lib.hid (fun y => Wd.sl S0 y)
  have HB := Lib.hid B0
  clear hr hs
  by_cases h1 : 1 ≤ m.kind
  · have d1 : decide (m.kind < 1) = false := decide_eq_false (by omega)
    by_cases h2 : m.kind < 13
    · have d2 : decide (13 ≤ m.kind) = false := decide_eq_false (by omega)
      obtain ⟨bf, hbf⟩ : ∃ b, placeB m.frm = b := ⟨_, rfl⟩
      obtain ⟨bt, hbt⟩ : ∃ b, placeB m.to = b := ⟨_, rfl⟩
      have k1 := fun w => rplace_any m.frm w
      have k2 := fun w => rplace_any m.to w
      rw [hbf] at k1
      rw [hbt] at k2
      have HK1 := Lib.hid k1
      have HK2 := Lib.hid k2
      have HBF := Lib.hid hbf
      have HBT := Lib.hid hbt
      have H12 := Lib.hid (And.intro h1 h2)
      clear k1 k2 hbf hbt h1 h2 hk0
      go_enter Tryz.func20, Tryz.ntmps20
      go_wp2_with fail
      refine (HK1.out _).mono ?_; rintro e w1 ⟨rfl, rfl⟩
      cases bf
      · go_wp2_with fail
        go_ret
        exact ⟨ret_b (by rw [← HR.out, rightB, HBF.out]; simp), HB.out⟩
      · go_wp2_with fail
        refine (HK2.out _).mono ?_; rintro e w1 ⟨rfl, rfl⟩
        cases bt
        · go_wp2_with fail
          go_ret
          exact ⟨ret_b (by rw [← HR.out, rightB, HBT.out]; simp), HB.out⟩
        · by_cases h3 : m.frm = m.to
          · have d3 : (m.frm == m.to) = true := by simp [h3]
            have HE := Lib.hid d3
            clear h3
            go_wp2_with fail
            go_ret
            exact ⟨ret_b (by rw [← HR.out, rightB, HE.out]; simp), HB.out⟩
          · have d3 : (m.frm == m.to) = false := by simp [h3]
            have HE := Lib.hid d3
            have hap : placeB (askerI m) = true := by unfold askerI; split; exact HBF.out; exact HBT.out
            have hpp := place_iff.1 hap
            have K19 := Lib.hid (fun w => rAsker_any m (.slice A l.length c) w)
            obtain ⟨id, hid⟩ : ∃ id, askerI m = id := ⟨_, rfl⟩
            rw [hid] at hpp
            have HID := Lib.hid hid
            clear h3 hap hid
            go_wp2_with (first
              | (with_reducible show wpList _ _ _ (Oper.mk _ (Op.load 27 _) _ _ _ _ :: _) _ _
                 refine wpList_loadW R0 agg27 rfl _ rfl rfl ?_))
            refine (K19.out _).mono ?_; rintro e w1 ⟨rfl, hb1⟩
            obtain ⟨y, rfl⟩ := Wd.ex hb1
            rw [HID.out]
            clear hb1
            by_cases h4 : id * 1048576 + 1 ≤ m.call
            · have d4 : decide (m.call < id * 1048576 + 1) = false := decide_eq_false (by omega)
              by_cases h5 : m.call < id * 1048576 + 1 + 1048576
              · have d5 : decide (id * 1048576 + 1 + 1048576 ≤ m.call) = false := decide_eq_false (by omega)
                have H45 := Lib.hid (And.intro h4 h5)
                have BB := below_setRow (W := y.w) (box_below y.w (.cells (noM.c nilS) 27)) (Nat.le_refl _) ((headM m).c nilS)
                have T2 := Lib.hid (Rw.new y.w (noM.c nilS) 27)
                have HBy := HB.out.trans (y.below.mono HB.out.size)
                have T6 := Lib.hid (S7.mk (ch := (headM m).c nilS) ((R1.out y).below BB) T2.out.setRow ((S1.out y).below BB) (HBy.trans (BB.mono HBy.size)))
                clear BB HBy h4 h5
                go_wp2_with (first
                  | (with_reducible show wpList _ _ _ (Oper.mk _ (Op.store 27 _ _) _ _ _ _ :: _) _ _
                     refine wpList_storeR (c := (headM m).c nilS) rfl _ _ rfl rfl rfl agg27.hi T2.out rfl (M.one _ rfl) ?_
                     refine gen_7 T6.out ?_
                     clear c1
                     intro V hV))
                obtain ⟨v1, v2, v3, v4⟩ := hV
                generalize y.w.heap.size = Bs at v2 ⊢
                have HV1 := Lib.hid (fun y => Wd.row v1 y)
                have HV2 := Lib.hid (fun y => Wd.row v2 y)
                have HVB := Lib.hid (fun y : Wd V => v4.trans (y.below.mono v4.size))
                obtain ⟨bs, hbs⟩ : ∃ b, same (bareM m) (headM m) (bareLL m l) [] = b := ⟨_, rfl⟩
                obtain ⟨bh, hbh⟩ : ∃ b, hasB m l = b := ⟨_, rfl⟩
                have K34 := Lib.hid (fun y : Wd V => y.call (bare_any m A l.length c y.w))
                have K20 := fun y : Wd V => y.call (rSame_any (bareM m) (headM m) (bareL m (.slice A l.length c)) nilS (bareLL m l) [] y.w (bareL_sl (Wd.sl v3 y)) (Sl.nil_ y.w))
                have K35 := fun y : Wd V => y.call (has_any m A l.length c l y.w (Wd.sl v3 y))
                rw [hbs] at K20
                rw [hbh] at K35
                have K20 := Lib.hid K20
                have K35 := Lib.hid K35
                have hres : r = (bs && bh) := by
                  rw [← HR.out, rightB, HBF.out, HBT.out, HE.out, HID.out, decide_eq_true H45.out.1, decide_eq_true H45.out.2, decide_eq_true H12.out.1, decide_eq_true H12.out.2, hbs, hbh]
                  simp
                have HRES := Lib.hid hres
                clear v1 v2 v3 v4 hbs hbh hres
                go_wp2_with fail
                simp only [Act.put]
                refine wp_region_behind ⟨V, Below.refl _ _⟩ (by kernel_rfl) (by kernel_rfl) ?_
                cases bs
                · repeat (first
                    | go_big_quiet_skip
                    | (go_big_quiet_want
                       first
                       | (refine quiet_load _ rfl rfl (fun y => run_loadR (c := m.c _) agg27 (HV1.out y)) ?_
                          simp only [Act.put, List.setIfInBounds_toArray, List.set_cons_zero, List.set_cons_succ]
                          go_big_quiet_on)
                       | (refine quiet_load _ rfl rfl (fun y => run_loadR (c := (headM m).c _) agg27 (HV2.out y)) ?_
                          simp only [Act.put, List.setIfInBounds_toArray, List.set_cons_zero, List.set_cons_succ]
                          go_big_quiet_on)
                       | (go_big_quiet_op; first | go_big_quiet_on | (apply Exists.intro; refine ⟨fun _ => rfl, ?_⟩; go_big_quiet_on) | go_big_quiet_call ((first | (go_at_call 41; exact K34.out _) | (go_at_call 15; exact K20.out _) | (go_at_call 42; exact K35.out _))))))
                  refine wpQuiet_nil ?_
                  intro y
                  go_wp2_with fail
                  go_ret
                  exact ⟨ret_b (by rw [HRES.out]; simp), HVB.out y⟩
                · repeat (first
                    | go_big_quiet_skip
                    | (go_big_quiet_want
                       first
                       | (refine quiet_load _ rfl rfl (fun y => run_loadR (c := m.c _) agg27 (HV1.out y)) ?_
                          simp only [Act.put, List.setIfInBounds_toArray, List.set_cons_zero, List.set_cons_succ]
                          go_big_quiet_on)
                       | (refine quiet_load _ rfl rfl (fun y => run_loadR (c := (headM m).c _) agg27 (HV2.out y)) ?_
                          simp only [Act.put, List.setIfInBounds_toArray, List.set_cons_zero, List.set_cons_succ]
                          go_big_quiet_on)
                       | (go_big_quiet_op; first | go_big_quiet_on | (apply Exists.intro; refine ⟨fun _ => rfl, ?_⟩; go_big_quiet_on) | go_big_quiet_call ((first | (go_at_call 41; exact K34.out _) | (go_at_call 15; exact K20.out _) | (go_at_call 42; exact K35.out _))))))
                  refine wpQuiet_nil ?_
                  intro y
                  go_wp2_with fail
                  go_ret
                  exact ⟨ret_b (by rw [HRES.out]; simp), HVB.out y⟩
              · have d5 : decide (id * 1048576 + 1 + 1048576 ≤ m.call) = true := decide_eq_true (by omega)
                have H5 := Lib.hid h5
                clear h4 h5
                go_wp2_with fail
                go_ret
                exact ⟨ret_b (by rw [← HR.out, rightB, HID.out, show decide (m.call < id * 1048576 + 1 + 1048576) = false from decide_eq_false (by have := H5.out; omega)]; simp), HB.out.trans (y.below.mono HB.out.size)⟩
            · have d4 : decide (m.call < id * 1048576 + 1) = true := decide_eq_true (by omega)
              have H4 := Lib.hid h4
              clear h4
              go_wp2_with fail
              go_ret
              exact ⟨ret_b (by rw [← HR.out, rightB, HID.out, show decide (id * 1048576 + 1 ≤ m.call) = false from decide_eq_false (by have := H4.out; omega)]; simp), HB.out.trans (y.below.mono HB.out.size)⟩
    · have d2 : decide (13 ≤ m.kind) = true := decide_eq_true (by omega)
      have H2 := Lib.hid h2
      clear h1 h2
      go_enter Tryz.func20, Tryz.ntmps20
      go_wp2_with fail
      go_ret
      exact ⟨ret_b (by rw [← HR.out, rightB, show decide (m.kind < 13) = false from decide_eq_false (by have := H2.out; omega)]; simp), HB.out⟩
  · have d1 : decide (m.kind < 1) = true := decide_eq_true (by omega)
    have H1 := Lib.hid h1
    clear h1
    go_enter Tryz.func20, Tryz.ntmps20
    go_wp2_with fail
    go_ret
    exact ⟨ret_b (by rw [← HR.out, rightB, show decide (1 ≤ m.kind) = false from decide_eq_false (by have := H1.out; omega)]; simp), HB.out⟩
end Go.Proofs.YtaacjpcckinaiaaGreat.Ms
set_option linter.unusedVariables false
set_option maxRecDepth 100000
set_option linter.unusedSimpArgs false
namespace Go.Proofs.YtaacjpcckinaiaaGreat.Ms
open Go.RowKit Go.Shelf
attribute [local go_sem] Oper.semAt_some

def callB (id c : Int) : Bool := decide (id * 1048576 < c) && decide (c ≤ (id + 1) * 1048576)
def onlyLL (m : M) (l : List Int) : List Int := if m.kind = 7 then l else []
def rightD (m : M) (l : List Int) : Bool :=
  (decide (0 < m.kind) && decide (m.kind < 13) && decide (m.frm ≠ m.to)) && ((decide (l.length ≤ 3) && same m (onlyM m) l (onlyLL m l)) && ((placesL m l).all placeB && (callB (askerI m) m.call && (decide (othersP m.frm l) && filledB m))))
theorem onlyL_sl {w : World} {m : M} {v : Value} {l : List Int} (h : Sl w v (iv l)) : Sl w (onlyL m v) (iv (onlyLL m l)) := by
  unfold onlyL onlyLL
  split
  · exact h
  · exact Sl.nil_ w
theorem asker_place {m : M} {l : List Int} (h : (placesL m l).all placeB = true) : placeB (askerI m) = true := by
  rw [List.all_eq_true] at h
  unfold askerI
  split
  · exact h _ (by simp [placesL, four])
  · exact h _ (by simp [placesL, four])

set_option maxRecDepth 100000 in
set_option maxHeartbeats 4000000 in
theorem Right_any (m : M) (A : Option Addr) (c : Nat) (l : List Int) (hk0 : 0 ≤ m.kind) (w : World) (hs : Sl w (.slice A l.length c) (iv l)) :
    Calls Tryz.prog 46 #[.agg (m.c (.slice A l.length c))] w fun e w' => e = .returned (.bool (rightD m l)) ∧ Below w.heap.size w w' := by
  obtain ⟨r, hr⟩ : ∃ r, rightD m l = r := ⟨_, rfl⟩
  rw [hr]
  have HR := Lib.hid hr
  have R0 := Rw.new w (m.c (.slice A l.length c)) 27
  have B0 := box_below w (.cells (m.c (.slice A l.length c)) 27)
  have S0 := hs.below B0
  have hown : ∀ k, (Value.slice A l.length c).ownBlock = some k → k < w.heap.size := by
    intro k hk
    rcases hs with ⟨e, _⟩ | ⟨b, off, c', e, _, _, hb, _⟩
    · rw [e] at hk; cases hk
    · rw [e] at hk; cases hk; exact hb
  have HOWN := Lib.hid hown
  have HLM := Lib.hid hs.llen.2
  generalize hW : w.alloc (.cells (m.c (.slice A l.length c)) 27) = W at R0 B0 S0
  have hlt : w.heap.size < W.heap.size := R0.lt
  have c0 := R0.cell
  have R1 := Lib.hid (fun y => Wd.row R0 y)
  have c1 := fun y j => (Wd.row R0 y).cell j
  have S1 := Lib.hid (fun y => Wd.sl S0 y)
  have HB := Lib.hid B0
  have HLT := Lib.hid hlt
  clear hr hown hlt hs
  refine (callsIn_wide (n := 9)).1 (callsIn_of_wp_marks Tryz.func46 rfl trivial ?_ rfl)
  simp only [Tryz.ntmps46, List.size_toArray, List.length_cons, List.length_nil, Nat.reduceAdd, Nat.reduceSub, Array.replicate_succ, Array.replicate_zero, List.push_toArray, List.append_toArray, List.nil_append, List.cons_append]
  refine wpIn_wide.2 ?_
  go_wp2_with fail
  refine wp_scope_fwd ?_
  by_cases hk : 0 < m.kind ∧ m.kind < 13 ∧ m.frm ≠ m.to
  · have d1 : (m.kind == 0) = false := by simp; omega
    have d2 : decide (13 ≤ m.kind) = false := decide_eq_false (by omega)
    have d3 : (m.frm == m.to) = false := by simp [hk.2.2]
    have HK := Lib.hid hk
    clear hk hk0
    go_wp2_with fail
    by_cases hlen : l.length ≤ 3
    · have d4 : decide ((3 : Int) < (l.length : Int)) = false := decide_eq_false (by omega)
      obtain ⟨bs, hbs⟩ : ∃ b, same m (onlyM m) l (onlyLL m l) = b := ⟨_, rfl⟩
      have K1 := fun y : Wd W => y.call (only_any m A l.length c y.w)
      have K2 := fun y : Wd W => y.call (Same_any m (onlyM m) (.slice A l.length c) (onlyL m (.slice A l.length c)) l (onlyLL m l) y.w (S1.out y) (onlyL_sl (S1.out y)))
      rw [hbs] at K2
      have HK1 := Lib.hid K1
      have HK2 := Lib.hid K2
      have HBS := Lib.hid hbs
      clear K1 K2 hbs
      refine wp_region_behind ⟨W, Below.refl _ _⟩ (by kernel_rfl) (by kernel_rfl) ?_
      repeat (first
        | go_big_quiet_skip
        | (go_big_quiet_want
           first
           | (refine quiet_load _ rfl rfl (fun y => run_loadR (c := m.c _) agg27 (R1.out y)) ?_
              simp only [Act.put, List.setIfInBounds_toArray, List.set_cons_zero, List.set_cons_succ]
              go_big_quiet_on)
           | (go_big_quiet_op; first | go_big_quiet_on | (apply Exists.intro; refine ⟨fun _ => rfl, ?_⟩; go_big_quiet_on) | go_big_quiet_call ((first | (go_at_call 64; exact HK1.out _) | (go_at_call 63; exact HK2.out _))))))
      refine wpQuiet_nil ?_
      intro y
      cases bs
      · go_wp2_with fail
        go_step3; refine fwd_goto _ rfl ?_; go_wp2; refine nog_ret ?_
        refine ⟨.bool false, by simp [results, Tryz.results46, go_sem], ret_b ?_, HB.out.trans (y.below.mono HB.out.size)⟩
        rw [← HR.out, rightD, HBS.out]
        simp
      · go_wp2_with fail
        refine (places_any m (.slice A l.length c) y.w).mono ?_; rintro e w' ⟨rfl, rfl⟩
        go_wp2_with fail
        have r1 := (R1.out y).alloc (.cells (m.c (.slice A l.length c)) 27)
        have q1 := Rw.new y.w (m.c (.slice A l.length c)) 27
        have s1 := (S1.out y).alloc (.cells (m.c (.slice A l.length c)) 27)
        have hB1 : Below w.heap.size w (y.w.alloc (.cells (m.c (.slice A l.length c)) 27)) := (HB.out.trans (y.below.mono HB.out.size)).alloc (Nat.le_trans HB.out.size y.below.size) _
        have hsz : y.w.heap.size < (y.w.alloc (.cells (m.c (.slice A l.length c)) 27)).heap.size := by simp
        have hsw : w.heap.size < y.w.heap.size := Nat.lt_of_lt_of_le HLT.out y.below.size
        obtain ⟨Bs, hBs⟩ : ∃ Bs, y.w.heap.size = Bs := ⟨_, rfl⟩
        rw [hBs] at q1 hsz hsw ⊢
        generalize hV : y.w.alloc (.cells (m.c (.slice A l.length c)) 27) = V at r1 q1 s1 hB1 hsz ⊢
        clear hV hBs c0 c1
        have HOW := HOWN.out
        refine wp_range (gf := 78) (lb := #[.pointer (some ⟨Bs, 0, none⟩)]) rfl (enters_of Tryz.func78 (by kernel_rfl) rfl)
          (places_stops 8 Bs m A c (fun k => k = Bs ∨ k < w.heap.size) l V q1 s1 (.inl rfl) (fun k h => .inr (HOW k h))) (by rintro k (rfl | h) <;> omega) (fun _ => rfl)
          (fun pre W' => Below V.heap.size V W' ∧ pre.all placeB = true)
          (fun c pre W' => Below V.heap.size V W' ∧ (c = .goto 0 ∧ pre.all placeB = false))
          (OwnFrom.and (ownFrom_below (Nat.le_refl _) (Nat.le_refl _)) (ownFrom_const _))
          (fun c => OwnFrom.and (ownFrom_below (Nat.le_refl _) (Nat.le_refl _)) (ownFrom_const _))
          ⟨Below.refl _ _, rfl⟩
          (fun x => { tmps := #[.agg (m.c (.slice A l.length c)), .pointer (some ⟨w.heap.size, 0, none⟩), .bool false, .int .i64 x, .pointer (some ⟨w.heap.size, 0, none⟩), .int .u8 m.kind, .bool false, .bool false, .pointer (some ⟨w.heap.size, 0, none⟩), .int .u8 m.kind, .bool false,
            .bool false, .bool false, .pointer (some ⟨w.heap.size, 2, none⟩), .int .i64 m.frm, .pointer (some ⟨w.heap.size, 3, none⟩), .int .i64 m.to, .bool false, .bool false, .pointer (some ⟨w.heap.size, 9, none⟩), .slice A l.length c, .int .i64 (l.length : Int), .bool false, .bool false,
            .agg (m.c (.slice A l.length c)), .agg (m.c (.slice A l.length c)), .agg ((onlyM m).c (onlyL m (.slice A l.length c))), .bool true, .bool false, .bool false, .agg (m.c (.slice A l.length c)), .func (.func 78) #[] #[.pointer (some ⟨Bs, 0, none⟩)], .int .i64 x, undef,
            undef, undef, undef, undef, undef, undef, undef, undef, undef, undef, undef, undef, undef, undef, undef, undef, undef, undef], defers := [] }) ?assign ?body ?done ?stop
        case assign =>
          intro lp x W K hK
          gi_wp2
          exact hK
        case body =>
          rintro lp pre x W1 ⟨hW1, hp⟩ hlt
          have kf := fun w => place_any x w
          obtain ⟨b, hb⟩ : ∃ b, placeB x = b := ⟨_, rfl⟩
          rw [hb] at kf
          have hpre : (pre ++ [x]).all placeB = b := by rw [List.all_append, hp]; simp [hb]
          have HP := Lib.hid hpre
          clear hpre hp hb
          cases b
          · gi_wp2_with (refine ⟨trivial, ?_⟩; gi_at_call 66; refine (CallsIn.inRound lp (callsIn_wide.2 (kf _))).mono ?_; rintro e w' ⟨rfl, rfl⟩)
            refine wpIn_goto ?_
            exact ⟨(KeepsOthers.refl _).from _, hW1, rfl, HP.out⟩
          · gi_wp2_with (refine ⟨trivial, ?_⟩; gi_at_call 66; refine (CallsIn.inRound lp (callsIn_wide.2 (kf _))).mono ?_; rintro e w' ⟨rfl, rfl⟩)
            exact ⟨(KeepsOthers.refl _).from _, Kps.refl _ _, hW1, HP.out⟩
        case done =>
          rintro D ys W1 hDs rfl ⟨hW1, hp⟩ hK
          have R6 := Lib.hid (fun y => Wd.row (r1.below hW1) y)
          have c6 := fun y j => (Wd.row (r1.below hW1) y).cell j
          have s6 := s1.below hW1
          have hpa := asker_place hp
          have hDW : D < W1.heap.size := (Array.getElem?_eq_some_iff.1 hK).1
          have HKD := Lib.hid (fun y : Wd W1 => (y.below.block D hDW).trans hK)
          have HB6 := Lib.hid (fun y : Wd W1 => (hB1.trans (hW1.mono hB1.size)).trans (y.below.mono (hB1.trans (hW1.mono hB1.size)).size))
          have HD := Lib.hid (show w.heap.size ≤ D by omega)
          have K18 := fun y : Wd W1 => y.call (Asker_any m (.slice A l.length c) y.w)
          have K31 := fun y : Wd W1 => callOf_any (askerI m) m.call hpa y.w
          have K32 := fun y : Wd W1 => others_any m.frm (.slice A l.length c) l y.w (Wd.sl s6 y)
          have K33 := fun y : Wd W1 => y.call (filled_any m A l.length c y.w)
          obtain ⟨bc, hbc⟩ : ∃ b, (decide (askerI m * 1048576 < m.call) && decide (m.call ≤ (askerI m + 1) * 1048576)) = b := ⟨_, rfl⟩
          obtain ⟨bo, hbo⟩ : ∃ b, decide (othersP m.frm l) = b := ⟨_, rfl⟩
          obtain ⟨bf, hbf⟩ : ∃ b, filledB m = b := ⟨_, rfl⟩
          rw [hbc] at K31
          rw [hbo] at K32
          rw [hbf] at K33
          have hres : r = (bc && (bo && bf)) := by
            rw [← HR.out, rightD, HBS.out, decide_eq_true hlen, hp, callB, hbc, hbo, hbf]
            simp [HK.out]
          have K31 := fun y : Wd W1 => y.call ((K31 y).mono fun e w' ⟨he, hw⟩ => ⟨he, by rw [hw]; exact Below.refl _ _⟩)
          have K32 := fun y : Wd W1 => y.call ((K32 y).mono fun e w' ⟨he, hw⟩ => ⟨he, by rw [← hw]; exact Below.refl _ _⟩)
          have HK18 := Lib.hid K18
          have HK31 := Lib.hid K31
          have HK32 := Lib.hid K32
          have HK33 := Lib.hid K33
          have HRES := Lib.hid hres
          clear K18 K31 K32 K33 hbc hbo hbf hres hp hpa hK hDW hDs hW1 r1 q1 s1 s6 hB1
          go_wp2_with fail
          refine wp_region_behind ⟨W1, Below.refl _ _⟩ (by kernel_rfl) (by kernel_rfl) ?_
          cases bc
          · repeat (first
              | go_big_quiet_skip
              | (go_big_quiet_want
                 first
                 | (refine quiet_load _ rfl rfl (fun y => run_loadR (c := m.c _) agg27 (R6.out y)) ?_
                    simp only [Act.put, List.setIfInBounds_toArray, List.set_cons_zero, List.set_cons_succ]
                    go_big_quiet_on)
                 | (go_big_quiet_op; first | go_big_quiet_on | (apply Exists.intro; refine ⟨fun _ => rfl, ?_⟩; go_big_quiet_on) | go_big_quiet_call ((first | (go_at_call 68; exact HK18.out _) | (go_at_call 67; exact HK31.out _) | (go_at_call 69; exact HK32.out _) | (go_at_call 70; exact HK33.out _))))))
            refine wpQuiet_nil ?_
            intro y
            go_wp2_with fail
            refine fwd_ret ?_
            refine ⟨by simp, .inl ⟨_, _, rfl, run_takeDeferred (HKD.out y), ?_⟩⟩
            exact ⟨.bool false, by simp [results, Tryz.results46, go_sem], ret_b (by rw [HRES.out]; simp), (HB6.out y).trans (belowK_b (w := w) (Nat.le_refl _) _ D _ _ HD.out (HKD.out y) rfl rfl)⟩
          · cases bo
            · repeat (first
                | go_big_quiet_skip
                | (go_big_quiet_want
                   first
                   | (refine quiet_load _ rfl rfl (fun y => run_loadR (c := m.c _) agg27 (R6.out y)) ?_
                      simp only [Act.put, List.setIfInBounds_toArray, List.set_cons_zero, List.set_cons_succ]
                      go_big_quiet_on)
                   | (go_big_quiet_op; first | go_big_quiet_on | (apply Exists.intro; refine ⟨fun _ => rfl, ?_⟩; go_big_quiet_on) | go_big_quiet_call ((first | (go_at_call 68; exact HK18.out _) | (go_at_call 67; exact HK31.out _) | (go_at_call 69; exact HK32.out _) | (go_at_call 70; exact HK33.out _))))))
              refine wpQuiet_nil ?_
              intro y
              go_wp2_with fail
              refine fwd_ret ?_
              refine ⟨by simp, .inl ⟨_, _, rfl, run_takeDeferred (HKD.out y), ?_⟩⟩
              exact ⟨.bool false, by simp [results, Tryz.results46, go_sem], ret_b (by rw [HRES.out]; simp), (HB6.out y).trans (belowK_b (w := w) (Nat.le_refl _) _ D _ _ HD.out (HKD.out y) rfl rfl)⟩
            · repeat (first
                | go_big_quiet_skip
                | (go_big_quiet_want
                   first
                   | (refine quiet_load _ rfl rfl (fun y => run_loadR (c := m.c _) agg27 (R6.out y)) ?_
                      simp only [Act.put, List.setIfInBounds_toArray, List.set_cons_zero, List.set_cons_succ]
                      go_big_quiet_on)
                   | (go_big_quiet_op; first | go_big_quiet_on | (apply Exists.intro; refine ⟨fun _ => rfl, ?_⟩; go_big_quiet_on) | go_big_quiet_call ((first | (go_at_call 68; exact HK18.out _) | (go_at_call 67; exact HK31.out _) | (go_at_call 69; exact HK32.out _) | (go_at_call 70; exact HK33.out _))))))
              refine wpQuiet_nil ?_
              intro y
              go_wp2_with fail
              refine fwd_ret ?_
              refine ⟨by simp, .inl ⟨_, _, rfl, run_takeDeferred (HKD.out y), ?_⟩⟩
              exact ⟨.bool bf, by simp [results, Tryz.results46, go_sem], ret_b (by rw [HRES.out]; simp), (HB6.out y).trans (belowK_b (w := w) (Nat.le_refl _) _ D _ _ HD.out (HKD.out y) rfl rfl)⟩
        case stop =>
          rintro D cc pre W1 hDs hp ⟨hW1, rfl, hr⟩ hK
          go_step3
          refine fwd_goto _ rfl ?_
          go_wp2
          refine nog_ret ?_
          refine ⟨by simp, .inl ⟨_, _, rfl, run_takeDeferred hK, ?_⟩⟩
          have hB6 := hB1.trans (hW1.mono hB1.size)
          refine ⟨.bool false, by simp [results, Tryz.results46, go_sem], ret_b ?_, hB6.trans (belowK_b (w := w) (Nat.le_refl _) _ D _ _ (by omega) hK rfl rfl)⟩
          have : (placesL m l).all placeB = false := by
            obtain ⟨t, ht⟩ := hp
            rw [← ht, List.all_append, hr, Bool.false_and]
          rw [← HR.out, rightD, this]
          simp
    · have d4 : decide ((3 : Int) < (l.length : Int)) = true := decide_eq_true (by omega)
      have HLEN := Lib.hid hlen
      clear hlen
      refine wp_region_behind ⟨W, Below.refl _ _⟩ (by kernel_rfl) (by kernel_rfl) ?_
      repeat (first
        | go_big_quiet_skip
        | (go_big_quiet_want
           (go_big_quiet_op; first | go_big_quiet_on | (apply Exists.intro; refine ⟨fun _ => rfl, ?_⟩; go_big_quiet_on))))
      refine wpQuiet_nil ?_
      intro y
      go_wp2_with fail
      go_step3; refine fwd_goto _ rfl ?_; go_wp2; refine nog_ret ?_
      refine ⟨.bool false, by simp [results, Tryz.results46, go_sem], ret_b ?_, HB.out.trans (y.below.mono HB.out.size)⟩
      rw [← HR.out, rightD, decide_eq_false HLEN.out]
      simp
  · have HK := Lib.hid hk
    clear hk
    have hf : rightD m l = false := by
      have : (decide (0 < m.kind) && decide (m.kind < 13) && decide (m.frm ≠ m.to)) = false := by
        rw [Bool.eq_false_iff]
        intro h
        simp only [Bool.and_eq_true, decide_eq_true_eq] at h
        exact HK.out ⟨h.1.1, h.1.2, h.2⟩
      rw [rightD, this, Bool.false_and]
    have HF := Lib.hid hf
    clear hf
    by_cases h1 : m.kind = 0
    · have d1 : (m.kind == 0) = true := by simp [h1]
      clear h1
      go_wp2_with fail
      go_step3; refine fwd_goto _ rfl ?_; go_wp2; refine nog_ret ?_
      exact ⟨.bool false, by simp [results, Tryz.results46, go_sem], ret_b (by rw [← HR.out, HF.out]), HB.out⟩
    · have d1 : (m.kind == 0) = false := by simp [h1]
      by_cases h2 : 13 ≤ m.kind
      · have d2 : decide (13 ≤ m.kind) = true := decide_eq_true h2
        clear h1 h2
        go_wp2_with fail
        go_step3; refine fwd_goto _ rfl ?_; go_wp2; refine nog_ret ?_
        exact ⟨.bool false, by simp [results, Tryz.results46, go_sem], ret_b (by rw [← HR.out, HF.out]), HB.out⟩
      · have d2 : decide (13 ≤ m.kind) = false := decide_eq_false h2
        have h3 : m.frm = m.to := Classical.byContradiction fun h => HK.out ⟨by omega, by omega, h⟩
        have d3 : (m.frm == m.to) = true := by simp [h3]
        clear h1 h2 h3
        go_wp2_with fail
        go_step3; refine fwd_goto _ rfl ?_; go_wp2; refine nog_ret ?_
        exact ⟨.bool false, by simp [results, Tryz.results46, go_sem], ret_b (by rw [← HR.out, HF.out]), HB.out⟩
end Go.Proofs.YtaacjpcckinaiaaGreat.Ms
set_option linter.unusedVariables false
set_option maxRecDepth 100000
set_option linter.unusedSimpArgs false
namespace Go.Proofs.YtaacjpcckinaiaaGreat.Ms
open Go.RowKit

/-- What Right asks, said plainly. -/
def OkAll (m : M) (l : List Int) : Prop := 0 < m.kind ∧ m.kind < 13 ∧ placeB m.frm = true ∧ placeB m.to = true ∧ m.frm ≠ m.to ∧ askerI m * 1048576 < m.call ∧ m.call ≤ (askerI m + 1) * 1048576
theorem same_iff {a b : M} {l r : List Int} : same a b l r = true ↔ a = b ∧ l = r := by simp [same, mEq_iff]
theorem rightB_iff {m : M} {l : List Int} : rightB m l = true ↔ OkAll m l ∧ (bareM m = headM m ∧ bareLL m l = []) ∧ hasB m l = true := by
  unfold rightB OkAll
  simp only [Bool.and_eq_true, decide_eq_true_eq, same_iff, Bool.not_eq_true', beq_eq_false_iff_ne, ne_eq]
  constructor
  · rintro ⟨⟨h1, h2, h3, h4, h5⟩, ⟨h6, h7⟩, h8, h9⟩
    exact ⟨⟨by omega, h2, h3, h4, h5, by omega, by omega⟩, h8, h9⟩
  · rintro ⟨⟨h1, h2, h3, h4, h5, h6, h7⟩, h8, h9⟩
    exact ⟨⟨by omega, h2, h3, h4, h5⟩, ⟨by omega, by omega⟩, h8, h9⟩
theorem rightD_iff {m : M} {l : List Int} : rightD m l = true ↔ (0 < m.kind ∧ m.kind < 13 ∧ m.frm ≠ m.to) ∧ (l.length ≤ 3 ∧ m = onlyM m ∧ l = onlyLL m l) ∧ (∀ p ∈ placesL m l, placeB p = true) ∧ (askerI m * 1048576 < m.call ∧ m.call ≤ (askerI m + 1) * 1048576) ∧ othersP m.frm l ∧ filledB m = true := by
  unfold rightD callB
  simp only [Bool.and_eq_true, decide_eq_true_eq, same_iff, List.all_eq_true, and_assoc]
theorem places_all {m : M} {l : List Int} : (∀ p ∈ placesL m l, placeB p = true) ↔ placeB m.frm = true ∧ placeB m.to = true ∧ placeB m.key = true ∧ placeB m.place = true ∧ (m.pred = -1 ∨ placeB m.pred = true) ∧ ∀ p ∈ l, placeB p = true := by
  unfold placesL four predL
  by_cases h : m.pred = -1
  · simp [h, or_imp, forall_and, and_assoc]
  · simp [h, or_imp, forall_and, and_assoc]
theorem place0 : placeB 0 = true := by decide
theorem It.mk_key (x : It) : x = { noIt with key := x.key } ↔ x.val = 0 ∧ x.ver = 0 ∧ x.gone = false := by
  obtain ⟨k, v, r, g⟩ := x
  simp [noIt]
theorem pair_key {x : It} (h : x = { noIt with key := x.key }) : pairB x = keyB x.key := by
  rw [h]
  simp [pairB, noIt, valB]
theorem right_eq (m : M) (l : List Int) : rightD m l = rightB m l := by
  rw [Bool.eq_iff_iff, rightD_iff, rightB_iff, places_all]
  unfold OkAll
  obtain ⟨kind, call, frm, to, key, slow, done, place, pred, it, code⟩ := m
  simp only [askerI]
  generalize (if asksB _ = true then frm else to) = id
  have p0 := place0
  by_cases h4 : kind = 4
  · subst h4
    simp [onlyM, onlyLL, bareM, bareLL, headM, M.head, noM, hasB, filledB, othersP, listP, p0]
    constructor
    · rintro ⟨h1, ⟨h2, h3, h4⟩, ⟨q1, q2, q3, q4, q5, q6⟩, ⟨c1, c2⟩, rest⟩
      exact ⟨⟨q1, q2, h1, c1, c2⟩, ⟨h3, h4⟩, q3⟩
    · rintro ⟨⟨q1, q2, h1, c1, c2⟩, ⟨h3, h4⟩, x⟩
      exact ⟨h1, ⟨by simp [h4], h3, h4⟩, ⟨q1, q2, (by first | assumption | simp [h3, p0]), (by first | assumption | simp [h3, p0]), (by simp [h3, p0]), by simp [h4]⟩, ⟨c1, c2⟩, by simp [h4]⟩
  by_cases h5 : kind = 5
  · subst h5
    simp [onlyM, onlyLL, bareM, bareLL, headM, M.head, noM, hasB, filledB, othersP, listP, p0]
    constructor
    · rintro ⟨h1, ⟨h2, h3, h4⟩, ⟨q1, q2, q3, q4, q5, q6⟩, ⟨c1, c2⟩, rest⟩
      exact ⟨⟨q1, q2, h1, c1, c2⟩, ⟨h3, h4⟩, rest.2⟩
    · rintro ⟨⟨q1, q2, h1, c1, c2⟩, ⟨h3, h4⟩, x⟩
      exact ⟨h1, ⟨by simp [h4], h3, h4⟩, ⟨q1, q2, (by first | assumption | simp [h3, p0]), (by first | assumption | simp [h3, p0]), (by simp [h3, p0]), by simp [h4]⟩, ⟨c1, c2⟩, ⟨by simp [h4], x⟩⟩
  by_cases h6 : kind = 6
  · subst h6
    simp [onlyM, onlyLL, bareM, bareLL, headM, M.head, noM, hasB, filledB, othersP, listP, p0]
    constructor
    · rintro ⟨h1, ⟨h2, ⟨e1, e2, e3, e4, e5, e6, e7⟩, h4⟩, ⟨q1, q2, q3, q4, q5, q6⟩, ⟨c1, c2⟩, rest⟩
      refine ⟨⟨q1, q2, h1, c1, c2⟩, ⟨⟨e1, e2, e3, e4, e5, e7⟩, h4⟩, ?_, ?_⟩
      · rw [pair_key e6]; exact rest.2
      · rw [itEq_iff]; exact e6
    · rintro ⟨⟨q1, q2, h1, c1, c2⟩, ⟨⟨e1, e2, e3, e4, e5, e7⟩, h4⟩, x, y⟩
      rw [itEq_iff] at y
      exact ⟨h1, ⟨by simp [h4], ⟨e1, e2, e3, e4, e5, y, e7⟩, h4⟩, ⟨q1, q2, (by simp [e1, p0]), (by simp [e4, p0]), (by simp [e5, p0]), by simp [h4]⟩, ⟨c1, c2⟩, by simp [h4], by rw [← pair_key y]; exact x⟩
  by_cases h7 : kind = 7
  · subst h7
    simp [onlyM, onlyLL, bareM, bareLL, headM, M.head, noM, hasB, filledB, othersP, listP, p0]
    constructor
    · rintro ⟨h1, ⟨h2, h3⟩, ⟨q1, q2, q3, q4, q5, q6⟩, ⟨c1, c2⟩, n1, n2⟩
      exact ⟨⟨q1, q2, h1, c1, c2⟩, h3, q5, @decide_eq_true _ _ ⟨⟨q6, n1, n2⟩, h2⟩⟩
    · rintro ⟨⟨q1, q2, h1, c1, c2⟩, h3, q5, x⟩
      have x := @of_decide_eq_true _ _ x
      exact ⟨h1, ⟨x.2, h3⟩, ⟨q1, q2, (by simp [h3, p0]), (by simp [h3, p0]), q5, x.1.1⟩, ⟨c1, c2⟩, x.1.2.1, x.1.2.2⟩
  by_cases h10 : kind = 10
  · subst h10
    simp [onlyM, onlyLL, bareM, bareLL, headM, M.head, noM, hasB, filledB, othersP, listP, p0]
    constructor
    · rintro ⟨h1, ⟨h2, h3, h4⟩, ⟨q1, q2, q3, q4, q5, q6⟩, ⟨c1, c2⟩, rest⟩
      exact ⟨⟨q1, q2, h1, c1, c2⟩, ⟨h3, h4⟩, q4⟩
    · rintro ⟨⟨q1, q2, h1, c1, c2⟩, ⟨h3, h4⟩, x⟩
      exact ⟨h1, ⟨by simp [h4], h3, h4⟩, ⟨q1, q2, (by first | assumption | simp [h3, p0]), (by first | assumption | simp [h3, p0]), (by simp [h3, p0]), by simp [h4]⟩, ⟨c1, c2⟩, by simp [h4]⟩
  by_cases h11 : kind = 11
  · subst h11
    simp [onlyM, onlyLL, bareM, bareLL, headM, M.head, noM, hasB, filledB, othersP, listP, p0]
    constructor
    · rintro ⟨h1, ⟨h2, h3, h4⟩, ⟨q1, q2, q3, q4, q5, q6⟩, ⟨c1, c2⟩, rest⟩
      exact ⟨⟨q1, q2, h1, c1, c2⟩, ⟨h3, h4⟩, rest.2⟩
    · rintro ⟨⟨q1, q2, h1, c1, c2⟩, ⟨h3, h4⟩, x⟩
      exact ⟨h1, ⟨by simp [h4], h3, h4⟩, ⟨q1, q2, (by first | assumption | simp [h3, p0]), (by first | assumption | simp [h3, p0]), (by simp [h3, p0]), by simp [h4]⟩, ⟨c1, c2⟩, ⟨by simp [h4], x⟩⟩
  by_cases h12 : kind = 12
  · subst h12
    simp [onlyM, onlyLL, bareM, bareLL, headM, M.head, noM, hasB, filledB, othersP, listP, p0]
    constructor
    · rintro ⟨h1, ⟨h2, h3, h4⟩, ⟨q1, q2, q3, q4, q5, q6⟩, ⟨c1, c2⟩, rest⟩
      exact ⟨⟨q1, q2, h1, c1, c2⟩, ⟨h3, h4⟩, rest.2⟩
    · rintro ⟨⟨q1, q2, h1, c1, c2⟩, ⟨h3, h4⟩, x⟩
      exact ⟨h1, ⟨by simp [h4], h3, h4⟩, ⟨q1, q2, (by first | assumption | simp [h3, p0]), (by first | assumption | simp [h3, p0]), (by simp [h3, p0]), by simp [h4]⟩, ⟨c1, c2⟩, ⟨by simp [h4], x⟩⟩
  simp [onlyM, onlyLL, bareM, bareLL, headM, M.head, noM, hasB, filledB, othersP, listP, p0, h4, h5, h6, h7, h10, h11, h12]
  constructor
  · rintro ⟨⟨k1, k2, h1⟩, ⟨h2, h3, h4⟩, ⟨q1, q2, q3, q4, q5, q6⟩, ⟨c1, c2⟩, rest⟩
    exact ⟨⟨k1, k2, q1, q2, h1, c1, c2⟩, h3, h4⟩
  · rintro ⟨⟨k1, k2, q1, q2, h1, c1, c2⟩, h3, h4⟩
    exact ⟨⟨k1, k2, h1⟩, ⟨by simp [h4], h3, h4⟩, ⟨q1, q2, (by simp [h3, p0]), (by simp [h3, p0]), (by simp [h3, p0]), by simp [h4]⟩, ⟨c1, c2⟩, by simp [h4]⟩
end Go.Proofs.YtaacjpcckinaiaaGreat.Ms
