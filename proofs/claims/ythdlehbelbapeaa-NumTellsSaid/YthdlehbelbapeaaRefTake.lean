/- The document's own answers when numbers, texts and lists are taken: that they are the same. -/
import Derived.Test.YthdlehbelbapeaaRef
namespace Go.Proofs.Ythdlehbelbapeaa
open Go.RowKit Go.Shelf

theorem ownsRow_none (w : World) (base : Nat) (hb : base ≤ w.heap.size) (e : TypeId) : (w.alloc (.cells #[] e)).ownsRow base e 1 (.slice (some ⟨w.heap.size, 0, none⟩) 0 0) 0 [] :=
  ⟨rfl, .inr ⟨w.heap.size, 0, #[], rfl, hb, heap_alloc_new w _, Nat.le_refl _, by decide, rfl, rfl⟩⟩

/-- append, in a region that draws its order. -/
theorem step_app {P : Program} {w : World} {t e : TypeId} {z : Value} {bytes : Nat} (E : ElOf P t e z bytes) {ops : Array Oper} {o : Oper} {a : Act} {K : Act → World → Prop} {Q : Exit → Act → World → Prop} {E0 : Prop} (hgd : o.guard = none) (s x : Operand)
    (ho : o.op = .call { callee := .builtin .append, args := #[s, x], argTypes := #[t, t] })
    (base : Nat) (v : Value) (n : Nat) (xs : List Value) (hs : a.eval s = v) (hown : w.ownsRow base e 1 v n xs)
    (vx : Value) (news : List Value) (hxe : a.eval x = vx) (hx : Sl w vx news) (h1 : ∀ u ∈ news, u.oneCell' = true) (hby : (n + news.length) * bytes ≤ 140737488355328) (hbase : base ≤ w.heap.size)
    (h : ∀ v' w', w'.ownsRow base e 1 v' (n + news.length) (xs ++ news) → w.grownBy w' v.ownBlock → K (a.put o.dst v') w') :
    if Region.wanted o (yielded ops a.tmps) = true then Oper.wp P o a w K Q else E0 := by
  have hw : Region.wanted o (yielded ops a.tmps) = true := by simp [Region.wanted, hgd]
  rw [if_pos hw]
  obtain ⟨v', w', hrun, h2, h3, h4⟩ := run_app (w := w) E base o.type v n xs hown vx news hx h1 hby hbase
  unfold Oper.wp execOp
  simp only [ho, resolve, invoke, builtin, Sem.run_bind, Sem.run_pure, Result.andThen_ok, List.map_toArray, List.map_cons, List.map_nil, hs, hxe, hrun]
  exact h v' w' h2 h3

set_option maxRecDepth 100000 in
set_option maxHeartbeats 400000 in
theorem refTake_nil (A : Option Addr) (c : Nat) (w : World) : Calls Try.prog 18 #[.slice A 0 c] w fun e w' => e = .returned (.tuple #[.int .i64 0, .slice none 0 0, .int .i64 11]) ∧ w = w' := by
  go_enter Try.func18, Try.ntmps18
  go_wp2
  refine bodyPost_ret (results_tmp3 rfl _ _ _) rfl ?_
  exact ⟨rfl, rfl⟩

set_option maxRecDepth 100000 in
set_option maxHeartbeats 400000 in
theorem refTake_big (b off n c q : Nat) (w : World) (hq : 6 < q) (hq' : q < 256) (hc : w.cell? ⟨b, off, none⟩ = some (.int .u8 (q : Int))) (hn : 0 < n) :
    Calls Try.prog 18 #[.slice (some ⟨b, off, none⟩) n c] w fun e w' => e = .returned (.tuple #[.int .i64 0, .slice none 0 0, .int .i64 12]) ∧ w = w' := by
  go_enter Try.func18, Try.ntmps18
  go_wp2
  refine bodyPost_ret (results_tmp3 rfl _ _ _) rfl ?_
  exact ⟨rfl, rfl⟩

set_option maxRecDepth 100000 in
set_option maxHeartbeats 400000 in
theorem refTake_few (b off n c q : Nat) (w : World) (hq : q ≤ 6) (hc : w.cell? ⟨b, off, none⟩ = some (.int .u8 (q : Int))) (hn : 0 < n) (hn' : n < 1 + q) :
    Calls Try.prog 18 #[.slice (some ⟨b, off, none⟩) n c] w fun e w' => e = .returned (.tuple #[.int .i64 0, .slice none 0 0, .int .i64 11]) ∧ w = w' := by
  go_enter Try.func18, Try.ntmps18
  go_wp2
  refine bodyPost_ret (results_tmp3 rfl _ _ _) rfl ?_
  exact ⟨rfl, rfl⟩

set_option maxRecDepth 100000 in
set_option maxHeartbeats 2000000 in
theorem refTake_loop (b off c : Nat) (q : UInt8) (t : List UInt8) (w : World) (hq : q.toNat ≤ 6) (hn : q.toNat ≤ t.length) (hm : t.length < 140737488355328) (hS : Sl w (.slice (some ⟨b, off, none⟩) (t.length + 1) c) (bv (q :: t))) (hc : w.cell? ⟨b, off, none⟩ = some (.int .u8 (q.toNat : Int)))
    (hcs : ∀ j (hj : j < t.length), w.cell? ⟨b, off + 1 + j, none⟩ = some (.int .u8 (t[j].toNat : Int))) :
    Calls Try.prog 18 #[.slice (some ⟨b, off, none⟩) (t.length + 1) c] w fun e w' => ∃ v', e = .returned (.tuple #[.int .i64 ((takeE (q :: t)).1 : Nat), v', .int .i64 ((takeE (q :: t)).2.2 : Nat)]) ∧ w'.ownsRow w.heap.size 5 1 v' (restT (q :: t)).length (bv (restT (q :: t))) ∧ Below w.heap.size w w' := by
  have SA := Lib.hid hS
  have HCS := Lib.hid hcs
  clear hS hcs
  go_enter Try.func18, Try.ntmps18
  go_wp2
  go_loopw [6, 7] (fun v6 v7 W => W = w ∧ ∃ k : Nat, k ≤ q.toNat ∧ v7 = .int .i64 (1 + k : Nat) ∧ v6 = .int .i64 (val (t.take k))) (fun _ i _ => 1 + q.toNat - (intOf i).toNat)
  case atStart => exact ⟨rfl, 0, Nat.zero_le _, rfl, rfl⟩
  case round =>
    obtain ⟨rfl, k, hk, rfl, rfl⟩ := hrel
    have hvl := val_lt (t.take k)
    have hp5 : k < q.toNat → 256 ^ (t.take k).length ≤ 256 ^ 5 := fun h => Nat.pow_le_pow_right (by omega) (by rw [List.length_take]; omega)
    have hp6 : 256 ^ (t.take k).length ≤ 256 ^ 6 := Nat.pow_le_pow_right (by omega) (by rw [List.length_take]; omega)
    by_cases hlt : k < q.toNat
    · have hkt : k < t.length := by omega
      have hcell := HCS.out k hkt
      have hsn : val (t.take (k + 1)) = val (t.take k) * 256 + t[k].toNat := by rw [List.take_succ_eq_append_getElem hkt, val_snoc]
      have hb5 : val (t.take k) < 1099511627776 := by have := hp5 hlt; omega
      have hx := t[k].toNat_lt
      rw [Nat.add_assoc] at hcell
      have HSN := Lib.hid hsn
      clear hsn hvl hp5 hp6
      generalize val (t.take k) = m at *
      generalize t[k] = x at *
      go_wp2
      go_roundw
      case rel => exact ⟨trivial, k + 1, by omega, by (first | (congr 1; done) | (congr 1; omega)), by congr 1; rw [HSN.out]; omega⟩
      case measure => simp [intOf]; omega
    · obtain rfl : k = q.toNat := by omega
      have hbv : val (t.take q.toNat) < 281474976710656 := by omega
      clear hvl hp5 hp6
      by_cases h0 : 0 < q.toNat
      · have hl0 : 0 < t.length := by omega
        have hc1 := HCS.out 0 hl0
        rw [Nat.add_zero] at hc1
        by_cases hz : t[0].toNat = 0
        · have e : takeE (q :: t) = (0, 0, 12) := by
            simp only [takeE]
            rw [if_neg (by omega), if_neg (by omega), if_pos (.inl ⟨h0, by rw [getD_zero _ hl0]; exact UInt8.toNat_inj.1 hz⟩)]
          have e2 : restT (q :: t) = [] := by rw [restT, e]; rfl
          rw [hz] at hc1
          have HE := Lib.hid e
          have HE2 := Lib.hid e2
          clear e e2 hz
          go_wp2
          refine bodyPost_ret (results_tmp3 rfl _ _ _) rfl ?_
          exact ⟨.slice none 0 0, by rw [HE.out]; rfl, by rw [HE2.out]; exact World.ownsRow_nil _ _ _ _, Below.refl _ _⟩
        · by_cases hv : 1099511627776 < val (t.take q.toNat)
          · have e : takeE (q :: t) = (0, 0, 12) := by
              simp only [takeE]
              rw [if_neg (by omega), if_neg (by omega), if_pos (.inr hv)]
            have e2 : restT (q :: t) = [] := by rw [restT, e]; rfl
            have HE := Lib.hid e
            have HE2 := Lib.hid e2
            clear e e2
            have hz' : ((t[0].toNat : Int) == 0) = false := by rw [beq_eq_false_iff_ne]; omega
            generalize t[0] = x at *
            generalize val (t.take q.toNat) = m at *
            go_wp2
            refine bodyPost_ret (results_tmp3 rfl _ _ _) rfl ?_
            exact ⟨.slice none 0 0, by rw [HE.out]; rfl, by rw [HE2.out]; exact World.ownsRow_nil _ _ _ _, Below.refl _ _⟩
          · have e : takeE (q :: t) = (val (t.take q.toNat), 1 + q.toNat, 0) := by
              simp only [takeE]
              rw [if_neg (by omega), if_neg (by omega), if_neg]
              rintro (⟨-, h⟩ | h)
              · rw [getD_zero _ hl0] at h; rw [h] at hz; exact hz rfl
              · exact hv h
            have e2 : restT (q :: t) = (q :: t).drop (1 + q.toNat) := by rw [restT, e]; rfl
            have HE := Lib.hid e
            have HE2 := Lib.hid e2
            clear e e2
            have hz' : ((t[0].toNat : Int) == 0) = false := by rw [beq_eq_false_iff_ne]; omega
            generalize t[0] = x at *
            generalize val (t.take q.toNat) = m at *
            go_wp2_with (first
              | (with_reducible show wpList _ _ _ (Oper.mk _ (Op.slice _ _ _ _ _) _ _ _ _ :: _) _ _
                 refine wpList_cut el23 rfl (.tmp 49) (some (.tmp 51)) none rfl _ _ rfl (SA.out.alloc _) (1 + q.toNat) (bv (q :: t)).length (by rw [bv_length, List.length_cons]; omega) (Nat.le_refl _) (.inl rfl) (.inr ⟨rfl, rfl⟩) ?_
                 intro A1 c1 hs1
                 rw [List.take_length, bv_drop] at hs1)
              | (at_builtin; refine wpList_app el23 rfl (.tmp 48) (.tmp 52) rfl wr.heap.size (.slice (some ⟨wr.heap.size, 0, none⟩) 0 0) 0 [] rfl (ownsRow_none wr _ (Nat.le_refl _) 5) _ _ rfl hs1 (bv_one _) (by rw [bv_length, List.length_drop, List.length_cons]; omega) (by simp) ?_; intro vA wA hownA hgA hatA))
            
            refine bodyPost_ret (results_tmp3 rfl _ _ _) rfl ?_
            refine ⟨vA, by rw [HE.out]; rfl, ?_, below_lit hgA⟩
            rw [HE2.out]
            rw [bv_length, Nat.zero_add, List.nil_append] at hownA
            exact hownA
      · have hq0 : q.toNat = 0 := by omega
        have hv : ¬ 1099511627776 < val (t.take q.toNat) := by rw [hq0, List.take_zero]; decide
        have e : takeE (q :: t) = (val (t.take q.toNat), 1 + q.toNat, 0) := by
          simp only [takeE]
          rw [if_neg (by omega), if_neg (by omega), if_neg]
          rintro (⟨h, -⟩ | h)
          · exact h0 h
          · exact hv h
        have e2 : restT (q :: t) = (q :: t).drop (1 + q.toNat) := by rw [restT, e]; rfl
        have HE := Lib.hid e
        have HE2 := Lib.hid e2
        clear e e2 hq0
        generalize val (t.take q.toNat) = m at *
        go_wp2_with (first
          | (with_reducible show wpList _ _ _ (Oper.mk _ (Op.slice _ _ _ _ _) _ _ _ _ :: _) _ _
             refine wpList_cut el23 rfl (.tmp 49) (some (.tmp 51)) none rfl _ _ rfl (SA.out.alloc _) (1 + q.toNat) (bv (q :: t)).length (by rw [bv_length, List.length_cons]; omega) (Nat.le_refl _) (.inl rfl) (.inr ⟨rfl, rfl⟩) ?_
             intro A1 c1 hs1
             rw [List.take_length, bv_drop] at hs1)
          | (at_builtin; refine wpList_app el23 rfl (.tmp 48) (.tmp 52) rfl wr.heap.size (.slice (some ⟨wr.heap.size, 0, none⟩) 0 0) 0 [] rfl (ownsRow_none wr _ (Nat.le_refl _) 5) _ _ rfl hs1 (bv_one _) (by rw [bv_length, List.length_drop, List.length_cons]; omega) (by simp) ?_; intro vA wA hownA hgA hatA))
        
        refine bodyPost_ret (results_tmp3 rfl _ _ _) rfl ?_
        refine ⟨vA, by rw [HE.out]; rfl, ?_, below_lit hgA⟩
        rw [HE2.out]
        rw [bv_length, Nat.zero_add, List.nil_append] at hownA
        exact hownA

theorem refTake_own (v : Value) (l : List UInt8) (w : World) (h : Sl w v (bv l)) (hl : l.length ≤ 140737488355328) :
    Calls Try.prog 18 #[v] w fun e w' => ∃ v', e = .returned (.tuple #[.int .i64 ((takeE l).1 : Nat), v', .int .i64 ((takeE l).2.2 : Nat)]) ∧ w'.ownsRow w.heap.size 5 1 v' (restT l).length (bv (restT l)) ∧ Below w.heap.size w w' := by
  cases l with
  | nil =>
    obtain ⟨A, c, rfl⟩ := h.bytes_nil
    refine (refTake_nil A c w).mono ?_
    rintro e w' ⟨rfl, rfl⟩
    exact ⟨_, rfl, World.ownsRow_nil _ _ _ _, Below.refl _ _⟩
  | cons q t =>
    obtain ⟨b, off, c, rfl, h1, h2, h3, h4, h5⟩ := h.bytes_cons
    have hq := q.toNat_lt
    by_cases k1 : 6 < q.toNat
    · have e : takeE (q :: t) = (0, 0, 12) := by simp only [takeE]; rw [if_pos k1]
      have e2 : restT (q :: t) = [] := by rw [restT, e]; rfl
      rw [e, e2]
      refine (refTake_big b off _ c q.toNat w k1 (by omega) h4 (by omega)).mono ?_
      rintro e w' ⟨rfl, rfl⟩
      exact ⟨_, rfl, World.ownsRow_nil _ _ _ _, Below.refl _ _⟩
    by_cases k2 : t.length < q.toNat
    · have e : takeE (q :: t) = (0, 0, 11) := by simp only [takeE]; rw [if_neg k1, if_pos k2]
      have e2 : restT (q :: t) = [] := by rw [restT, e]; rfl
      rw [e, e2]
      refine (refTake_few b off _ c q.toNat w (by omega) h4 (by omega) (by omega)).mono ?_
      rintro e w' ⟨rfl, rfl⟩
      exact ⟨_, rfl, World.ownsRow_nil _ _ _ _, Below.refl _ _⟩
    exact refTake_loop b off c q t w (by omega) (by omega) (by rw [List.length_cons] at hl; omega) h h4 h5

theorem refTake_any (v : Value) (l : List UInt8) (w : World) (h : Sl w v (bv l)) (hl : l.length ≤ 140737488355328) :
    Calls Try.prog 18 #[v] w fun e w' => ∃ v', e = .returned (.tuple #[.int .i64 ((takeE l).1 : Nat), v', .int .i64 ((takeE l).2.2 : Nat)]) ∧ Sl w' v' (bv (restT l)) ∧ Below w.heap.size w w' := by
  refine (refTake_own v l w h hl).mono ?_
  rintro e w' ⟨v', rfl, ho, hb⟩
  exact ⟨v', rfl, Sl.of_own ho, hb⟩

end Go.Proofs.Ythdlehbelbapeaa
