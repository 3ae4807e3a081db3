/- The deeds: dropped, taken, twice, harmed. -/
import Derived.Test.YtdoigpifkdkjpaaBDone
import Derived.Test.YtdoigpifkdkjpaaBSend
import Derived.Deep.RegionLaw
import Derived.StillTailTactics
set_option linter.unusedVariables false
set_option maxRecDepth 100000
set_option linter.unusedSimpArgs false
namespace Go.Proofs.Ytdoigpifkdkjpaa
open Go.RowKit Go.Shelf Ms

/-- A call of a function of two arguments, in a region that draws. -/
theorem step_callG2 {P : Program} {ops : Array Oper} {o : Oper} {a : Act} {w : World} {K : Act → World → Prop} {Q : Exit → Act → World → Prop} {E0 : Prop} (hw : Region.wanted o (yielded ops a.tmps) = true) (f : FuncId) (x y : Operand) (ts : Array TypeId)
    (ho : o.op = .call { callee := .value (.func f), args := #[x, y], argTypes := ts }) {vx vy : Value} (hx : a.eval x = vx) (hy : a.eval y = vy) (hr : ∀ args w, (callFunc f args).run P w = .ok (.enter f args) w) {R : Value → World → Prop} (hc : Calls P f #[vx, vy] w fun e w' => ∃ v, e = .returned v ∧ R v w') (h : ∀ v w', R v w' → K (a.put o.dst v) w') :
    if Region.wanted o (yielded ops a.tmps) = true then Oper.wp P o a w K Q else E0 := by
  rw [if_pos hw]
  unfold Oper.wp execOp
  have hev : a.eval (.func f) = .func (.func f) #[] #[] := rfl
  simp only [ho, resolve, invoke, Sem.run_bind, Sem.run_pure, Result.andThen_ok, List.map_toArray, List.map_cons, List.map_nil, hx, hy, hev, Deferred.ofValue, Array.append_empty, hr]
  refine hc.mono ?_
  rintro e w' ⟨v, rfl, hR⟩
  exact h v w' hR
theorem ownP_part {p : Nat → Prop} {w w' : World} {e : TypeId} {v v' : Value} {ps qs : List (Gr × Value)} (hN : Nest 0 w v ps) (h5 : ∀ r ∈ ps, ∀ k, r.2.ownBlock = some k → p k) (hq : qs.Sublist ps) (hb : Below w.heap.size w w') (ho : w'.ownsRow w.heap.size e 3 v' qs.length (cellsG qs)) :
    OwnP (fun k => p k ∨ w.heap.size ≤ k) w' e v' (qs.map (·.1)) :=
  ⟨qs, rfl, owns_mono ho (Nat.zero_le _), ⟨fun r hr => owns_below (hN.own r (hq.mem hr)) hb, fun r hr k hk e => by
    have h1 := ((hN.own r (hq.mem hr)).lt k e).2
    have h2 := (ho.lt k hk).1
    omega, hN.apart.sublist hq⟩, fun k hk => .inr (ho.lt k hk).1, fun r hr k hk => .inl (h5 r (hq.mem hr) k hk)⟩
theorem OwnP.parts {p : Nat → Prop} {w : World} {e : TypeId} {A : Option Addr} {n c : Nat} {gs : List Gr} (h : OwnP p w e (.slice A n c) gs) (h0 : gs ≠ []) : ∃ b ps, A = some ⟨b, 0, none⟩ ∧ ps.map (·.1) = gs ∧ Ln w b 0 n c ps ∧ Nest 0 w (.slice A n c) ps ∧ (∀ r ∈ ps, ∀ k, r.2.ownBlock = some k → p k) ∧ w.ownsRow 0 e 3 (.slice A n c) ps.length (cellsG ps) ∧ p b := by
  obtain ⟨ps, rfl, h2, h3, h4, h5⟩ := h
  obtain ⟨g, rfl, hl, _, _⟩ := OwnG.ln h2 h3 (by rintro rfl; exact h0 rfl)
  exact ⟨g, ps, rfl, rfl, hl, h3, h5, h2, h4 g rfl⟩
theorem owns_slice {w : World} {n s m : Nat} {e : TypeId} {u : Value} {xs : List Value} (h : w.ownsRow n e s u m xs) : ∃ A c, u = .slice A m c := by
  rcases h.2 with ⟨rfl, rfl⟩ | ⟨g, cap, cur, rfl, _⟩
  · exact ⟨_, _, rfl⟩
  · exact ⟨_, _, rfl⟩
set_option maxHeartbeats 4000000 in
theorem drop_deed (T : Nat) (w : World) (gs : List Gr) (n : Int) (k : Nat) (hT : Rw w T 3 #[.int .i64 (k : Int)]) (hk : k < gs.length) (hn : gs.length ≤ 1000) : Deed 36 #[.pointer (some ⟨T, 0, none⟩)] w gs n true (butK gs k) (IntKind.i64.wrap (n + 1)) none (fun _ => True) := by
  intro X A c B p hX hB hp hpB hR hO
  obtain ⟨b, ps, rfl, rfl, hln, hN, h5, h2, hpb⟩ := hO.parts (by rintro rfl; simp at hk)
  rw [List.length_map] at hk hn hR hO hln hN h2
  rw [← butK_map]
  show Calls Try.prog 36 #[.pointer (some ⟨B, 0, none⟩), .pointer (some ⟨T, 0, none⟩)] X _
  have hTX := hT.below hX
  have hTB : T ≠ B := by have := hT.lt; omega
  obtain ⟨K, hK⟩ : ∃ K, IntKind.i64.wrap (n + 1) = K := ⟨_, rfl⟩
  rw [hK]
  have hb0 : Below X.heap.size X X.drew := (Below.refl _ _).drew
  have k1 : ∀ Y, Below X.heap.size X Y → Y.cell? ⟨B, 0, none⟩ = some (.slice (some ⟨b, 0, none⟩) ps.length c) := fun Y h => (hR.below h).cell 0
  have k2 : ∀ Y, Below X.heap.size X Y → Y.cell? ⟨T, 0, none⟩ = some (.int .i64 (k : Int)) := fun Y h => (hTX.below h).cell 0
  have HW := Lib.hid (without_any b 0 ps.length c ps k X.drew (hln.below hb0) hk (by omega))
  have HR := Lib.hid hR
  have HN := Lib.hid (And.intro hN h5)
  have HP := Lib.hid (And.intro hpB hp)
  clear hN h5 hR hTX hT hO h2 hln hpB hp
  go_enter Try.func36, Try.ntmps36
  go_wp2_with fail
  go_region_law
    (first
      | (refine step_callG2 rfl 32 (.tmp 8) (.tmp 9) _ rfl rfl rfl (enters_of Try.func32 (by kernel_rfl) rfl) (R := fun u w' => w'.ownsRow X.heap.size 29 3 u (butK ps k).length (cellsG (butK ps k)) ∧ Below X.heap.size X w') (HW.out.mono (by rintro e w' ⟨u, rfl, ho, hb⟩; exact ⟨u, rfl, ho, hb0.trans hb⟩)) ?_
         rintro v2 w2 ⟨ho2, hb2⟩
         obtain ⟨A2, c2, rfl⟩ := owns_slice ho2
         have r2 := HR.out.below hb2
         have x2 := r2.cell
         have y2 := r2.free
         have hP := ownP_part HN.out.1 HN.out.2 (butK_sub ps k) hb2 ho2
         have HQ := Lib.hid (And.intro r2 (And.intro hP hb2))
         generalize (butK ps k).length = q2 at *
         clear r2 ho2 hP))
  all_goals
    have hlt := HR.out.lt
    refine gen_exit (fun Y => Rw Y B 24 (bagC (.slice A2 q2 c2) n) ∧ OwnP (fun k => p k ∨ X.heap.size ≤ k) Y 29 (.slice A2 q2 c2) ((butK ps k).map (·.1)) ∧ Turns (fun k => k = B ∨ p k ∨ none = some k) X Y)
      ⟨HQ.out.1.set 0 _, HQ.out.2.1.set (by rintro (h | h); exact HP.out.1 h; omega) 0 _, (Turns.of_below HQ.out.2.2).trans (Turns.set w2 B 0 _) (fun k _ h => .inl h)⟩ ?_
    clear x2 y2 HQ k1 k2
    rintro Y ⟨rY, oY, tY⟩
    have cY := rY.cell
    have fY := rY.free
    have HY := Lib.hid (And.intro rY (And.intro oY tY))
    clear rY oY tY
    go_wp2_with (first
      | (with_reducible show wpList _ _ _ (Oper.mk _ (Op.store 3 _ _) _ _ _ _ :: _) _ _
         refine wpList_store1 HY.out.1 (by kernel_rfl) rfl _ _ rfl (j := 1) rfl (v := .int .i64 K) rfl (by show 1 < 2; decide) rfl rfl ?_))
    refine bodyPost_ret (results_tmp rfl _ _ _) rfl ⟨rfl, A2, q2, c2, HY.out.1.set 1 _, HY.out.2.1.set (by rintro (h | h); exact HP.out.1 h; omega) 1 _, HY.out.2.2.trans (Turns.set Y B 1 _) (fun k _ h => .inl h), trivial⟩
theorem Ln.at_ {w : World} {b off n c : Nat} {ps : List (Gr × Value)} (h : Ln w b off n c ps) (k : Nat) (hk : k < ps.length) : w.cell? ⟨b, off + k * 3, none⟩ = some (.int .i64 ps[k].1.to) ∧ w.cell? ⟨b, off + k * 3 + 1, none⟩ = some ps[k].2 ∧ w.cell? ⟨b, off + k * 3 + 2, none⟩ = some (.bool ps[k].1.harm) := by
  obtain ⟨c0, c1, c2⟩ := cellsG_get ps k hk
  have h0 := h.cells _ _ c0
  have h1 := h.cells _ _ c1
  have h2 := h.cells _ _ c2
  rw [add_plain] at h0 h1 h2
  exact ⟨h0, by rw [Nat.add_assoc]; exact h1, by rw [Nat.add_assoc]; exact h2⟩
set_option maxHeartbeats 4000000 in
theorem take_deed (T U : Nat) (cu : Array Value) (w : World) (gs : List Gr) (n : Int) (k : Nat) (hT : Rw w T 3 #[.int .i64 (k : Int)]) (hU : Rw w U 29 cu) (hcu : cu.size = 3) (hk : k < gs.length) (hn : gs.length ≤ 1000) :
    Deed 31 #[.pointer (some ⟨T, 0, none⟩), .pointer (some ⟨U, 0, none⟩)] w gs n true (butK gs k) n (some U) (fun Y => ∃ u, Rw Y U 29 (gs[k].c u) ∧ Y.ownsRow (w.heap.size + 1 + 1) 5 1 u gs[k].bytes.length (bv gs[k].bytes)) := by
  intro X A c B p hX hB hp hpB hR hO
  obtain ⟨b, ps, rfl, rfl, hln, hN, h5, h2, hpb⟩ := hO.parts (by rintro rfl; simp at hk)
  have hk' := hk
  rw [List.length_map] at hk' hn hR hO hln hN h2
  rw [← butK_map]
  rw [List.getElem_map]
  show Calls Try.prog 31 #[.pointer (some ⟨B, 0, none⟩), .pointer (some ⟨T, 0, none⟩), .pointer (some ⟨U, 0, none⟩)] X _
  have hTX := hT.below hX
  have hUX := hU.below hX
  have hUw := hU.lt
  obtain ⟨x1, x2, x3⟩ := hln.at_ k hk'
  rw [Nat.zero_add] at x1 x2 x3
  have cB := hR.cell
  have cT := hTX.cell
  have HU := Lib.hid (show X.ownsRow (w.heap.size + 1 + 1) 5 1 ps[k].2 ps[k].1.bytes.length (bv ps[k].1.bytes) from owns_from (hN.own _ (List.getElem_mem hk')) fun g e => hp _ (h5 _ (List.getElem_mem hk') g e))
  have HPU := Lib.hid (fun g e => h5 _ (List.getElem_mem hk') g e)
  have HH := Lib.hid (And.intro hR (And.intro hTX (And.intro hUX (And.intro h2 (And.intro hN h5)))))
  have HP := Lib.hid (And.intro hpB hp)
  have HO1 := Lib.hid (gr_one' (g := ps[k].1) (hln.sw _ (List.getElem_mem hk')))
  have ik : (0 : Int) ≤ (k : Int) := by omega
  have ik2 : (k : Int) < (ps.length : Int) := by omega
  clear hN h5 hR hTX hT hO h2 hln hpB hp hUX hU
  go_enter Try.func31, Try.ntmps31
  go_wp2_with fail
  go_still_tail 7, (by kernel_rfl)
  change wpList _ _ _ _ _ X.drew
  have hTU : T ≠ U := by
    rintro rfl
    have h1 := HH.out.2.1
    have h2 := HH.out.2.2.1
    unfold Rw at h1 h2
    rw [h1] at h2
    injection h2 with h2
    injection h2 with _ h2 _
    exact absurd h2 (by decide)
  refine wpList_storeR (c := ps[k].1.c ps[k].2) rfl _ _ rfl rfl rfl aggG.hi (c0 := cu) (show Rw X.drew U 29 cu from HH.out.2.2.1) (by rw [hcu]; rfl) HO1.out ?_
  have hS : ∀ q, p q → (X.drew.setRow U (ps[k].1.c ps[k].2)).heap[q]? = X.heap[q]? := fun q hq => Go.setRow_other X.drew U q _ (by have := HP.out.2 q hq; omega)
  refine gen_w (fun Y => Rw Y B 24 (bagC (.slice (some ⟨b, 0, none⟩) ps.length c) n) ∧ Rw Y T 3 #[.int .i64 (k : Int)] ∧ Rw Y U 29 (ps[k].1.c ps[k].2) ∧ Y.ownsRow 0 29 3 (.slice (some ⟨b, 0, none⟩) ps.length c) ps.length (cellsG ps) ∧ Nest 0 Y (.slice (some ⟨b, 0, none⟩) ps.length c) ps ∧ Turns (fun q => q = U) X Y ∧ Y.heap.size = X.heap.size)
    ⟨HH.out.1.setRow_other (by omega), HH.out.2.1.setRow_other hTU, Rw.setRow (c := cu) HH.out.2.2.1, owns_still HH.out.2.2.2.1 (fun q e => by injection e with e; subst e; exact hS _ hpb), ⟨fun r hr => owns_still (HH.out.2.2.2.2.1.own r hr) (fun q e => hS q (HH.out.2.2.2.2.2 r hr q e)), HH.out.2.2.2.2.1.out, HH.out.2.2.2.2.1.apart⟩, (Turns.of_below (Below.refl X.heap.size X).drew).trans (Turns.setRow X.drew U _) (fun q _ h => h), by simp [World.setRow]⟩ ?_
  clear cB cT x1 x2 x3
  rintro X1 ⟨y1, y2, y3, y4, y5, y6, y7⟩
  go_wp2_with fail
  have hps : ps ≠ [] := by rintro rfl; simp at hk'
  obtain ⟨b', hb', hln, _, _⟩ := OwnG.ln y4 y5 hps
  injection hb' with hb'
  injection hb' with hb'
  subst hb'
  have hb0 : Below X1.heap.size X1 X1.drew := (Below.refl _ _).drew
  have k1 : ∀ Y, Below X1.heap.size X1 Y → Y.cell? ⟨B, 0, none⟩ = some (.slice (some ⟨b, 0, none⟩) ps.length c) := fun Y h => (y1.below h).cell 0
  have k2 : ∀ Y, Below X1.heap.size X1 Y → Y.cell? ⟨T, 0, none⟩ = some (.int .i64 (k : Int)) := fun Y h => (y2.below h).cell 0
  have HW := Lib.hid (without_any b 0 ps.length c ps k X1.drew (hln.below hb0) hk' (by omega))
  have HR := Lib.hid (And.intro y1 (And.intro y3 (And.intro y5 (And.intro y6 y7))))
  clear y1 y2 y3 y4 y5 y6 y7 hln ik ik2
  go_region_law
    (first
      | (refine step_callG2 rfl 32 (.tmp 16) (.tmp 17) _ rfl rfl rfl (enters_of Try.func32 (by kernel_rfl) rfl) (R := fun u w' => w'.ownsRow X1.heap.size 29 3 u (butK ps k).length (cellsG (butK ps k)) ∧ Below X1.heap.size X1 w') (HW.out.mono (by rintro e w' ⟨u, rfl, ho, hb⟩; exact ⟨u, rfl, ho, hb0.trans hb⟩)) ?_
         rintro v2 w2 ⟨ho2, hb2⟩
         obtain ⟨A2, c2, rfl⟩ := owns_slice ho2
         have r2 := HR.out.1.below hb2
         have x2 := r2.cell
         have y2 := r2.free
         have hP := ownP_part HR.out.2.2.1 HH.out.2.2.2.2.2 (butK_sub ps k) hb2 ho2
         have HQ := Lib.hid (And.intro r2 (And.intro hP hb2))
         generalize (butK ps k).length = q2 at *
         clear r2 ho2 hP))
  all_goals
    have hlt := HR.out.1.lt
    have hsz := HR.out.2.2.2.2
    have hBU : B ≠ U := by omega
    refine gen_exit (fun Y => Rw Y B 24 (bagC (.slice A2 q2 c2) n) ∧ OwnP (fun k => p k ∨ X.heap.size ≤ k) Y 29 (.slice A2 q2 c2) ((butK ps k).map (·.1)) ∧ Turns (fun k => k = B ∨ U = k) X Y ∧ Rw Y U 29 (ps[k].1.c ps[k].2))
      ⟨HQ.out.1.set 0 _, (HQ.out.2.1.imp (q := fun k => p k ∨ X.heap.size ≤ k) (fun q _ h => by rcases h with h | h; exact .inl h; exact .inr (by omega))).set (by rintro (h | h); exact HP.out.1 h; omega) 0 _, ((HR.out.2.2.2.1.imp (r := fun k => k = B ∨ U = k) (fun q _ h => .inr h.symm)).trans (Turns.of_below (q := fun _ => False) HQ.out.2.2) (fun q _ h => h.elim)).trans (Turns.set w2 B 0 _) (fun k _ h => .inl h), (HR.out.2.1.below HQ.out.2.2).set_other (fun e => hBU e.symm) 0 _⟩ ?_
    clear x2 y2 HQ k1 k2
    rintro Y ⟨rY, oY, tY, uY⟩
    go_wp2_with fail
    refine bodyPost_ret (results_tmp rfl _ _ _) rfl ⟨rfl, A2, q2, c2, rY, oY, tY.imp (fun q _ h => by rcases h with h | h; exact .inl h; exact .inr (.inr (by rw [h]))), ps[k].2, uY, owns_still HU.out (fun q e => tY.block q (HU.out.lt q e).2 ?_)⟩
    have := HPU.out q e
    have h3 := HP.out.2 q this
    rintro (h | h)
    · subst h; exact HP.out.1 this
    · omega
end Go.Proofs.Ytdoigpifkdkjpaa
