/- slices.Concat and slices.Grow, of structs. -/
import Derived.Test.YtdoigpifkdkjpaaChecked
import Derived.Test.YtdoigpifkdkjpaaGr2
import Derived.Test.YtdoigpifkdkjpaaBRef
set_option linter.unusedVariables false
set_option maxRecDepth 100000
set_option linter.unusedSimpArgs false
namespace Go.Proofs.Ytdoigpifkdkjpaa
open Go.RowKit Go.Shelf Ms

theorem run_append_make {P : Program} (w : World) (t it ty e : TypeId) (i : TypeInfo) (z : Value) (ht : P.underlying t = some (.slice e)) (hi : P.info? e = some i) (hz : i.zero = some z) (hit : P.underlying it = some (.int .i64))
    (n : Nat) (h0 : 0 < n * z.cells.size) (hs : 0 < i.size) (h63 : (n : Int) ≤ 1000000) (h48 : n * i.bytes ≤ 281474976710656) :
    ∃ cs, (Builtin.append_ #[t, it] ty #[.slice none 0 0, .int .i64 (n : Int)]).run P w = .ok (.slice (some ⟨w.heap.size, 0, none⟩) n (grownCap w n 0 e)) (w.drew.alloc (.cells cs e)) ∧ cs.size = n * z.cells.size + (grownCap w n 0 e - n) * z.cells.size := by
  have hn0 : 0 < n := Nat.pos_of_mul_pos_right h0
  have hn : n ≠ 0 := by omega
  have hwr : IntKind.i64.wrap (n : Int) = (n : Int) := by rw [IntKind.wrap_i64]; omega
  have hai : ∀ W, (asInt (.int .i64 (n : Int))).run P W = .ok (n : Int) W := fun W => by simp [asInt, asIntOf]
  have h63' : ¬ (9223372036854775807 < (n : Int)) := by omega
  have h48' : ¬ (281474976710656 < Builtin.nextslicecap n 0 * i.bytes) := by rw [nextslicecap_zero hn0]; omega
  have h48i : ¬ ((281474976710656 : Int) < (n : Int) * (i.bytes : Int)) := by
    have : ((n * i.bytes : Nat) : Int) ≤ 281474976710656 := by omega
    rw [Int.natCast_mul] at this
    omega
  have hsz : n * i.size ≠ 0 := by have := Nat.mul_pos hn0 hs; omega
  have hneg : ¬ ((n : Int) < 0) := by omega
  refine ⟨Builtin.zeroCells z.cells n ++ Builtin.zeroCells z.cells (grownCap w n 0 e - n), ?_, by simp [size_zeroCells]⟩
  simp [Builtin.append_, run_underlying ht, run_underlying hit, sizeOf, typeInfo, zeroValue, hi, hz, hai, hwr, hn, hsz, hneg, h63', h48', h48i, Question.forced, run_firstCells_none, newRow, grownCap]

/-- 'append', as it is known to end. -/
theorem wpList_appR {P : Program} {ops : Array Oper} {rest : List Oper} {o : Oper} {a : Act} {w : World} {Q : Exit → Act → World → Prop} (hw : Region.wanted o (yielded ops a.tmps) = true) (s x : Operand) (ts : Array TypeId)
    (ho : o.op = .call { callee := .builtin .append, args := #[s, x], argTypes := ts }) {vs vx : Value} (hs : a.eval s = vs) (hx : a.eval x = vx) {v : Value} {w' : World} (hr : (Builtin.append_ ts o.type #[vs, vx]).run P w = .ok v w')
    (h : wpList P ops Q rest (a.put o.dst v) w') : wpList P ops Q (o :: rest) a w := by
  refine wpList_step fun K hK => ?_
  rw [if_pos hw]
  unfold Oper.wp execOp
  simp only [ho, resolve, invoke, builtin, Sem.run_bind, Sem.run_pure, Result.andThen_ok, List.map_toArray, List.map_cons, List.map_nil, hs, hx, hr]
  exact hK _ _ h
/-- A row without anything in it, of room. -/
theorem owns_none {w : World} {base g cap : Nat} {e : TypeId} {cs : Array Value} (hb : base ≤ g) (hg : w.heap[g]? = some (.cells cs e (0, 0))) (hc : cap ≤ maxLen) (hs : cs.size = cap * 3) : w.ownsRow base e 3 (.slice (some ⟨g, 0, none⟩) 0 cap) 0 [] :=
  ⟨rfl, .inr ⟨g, cap, cs, rfl, hb, hg, Nat.zero_le _, hc, hs, by simp⟩⟩
set_option maxHeartbeats 4000000 in
theorem grow_any (n : Nat) (w : World) (hn : n ≤ 10000) :
    Calls Try.prog 44 #[.slice none 0 0, .int .i64 (n : Int)] w fun e w' => ∃ v, e = .returned v ∧ w'.ownsRow w.heap.size 29 3 v 0 [] ∧ Below w.heap.size w w' := by
  by_cases h0 : 0 < n
  · obtain ⟨i, hi, hz, hsz, hby⟩ := info_parts' elG.hi
    have hzs : ∀ z, i.zero = some z → z.cells.size = 3 := by
      intro z h
      rw [hz] at h
      injection h with h
      rw [← h]
      exact elG.hz
    obtain ⟨cs, hrun, hcs⟩ := run_append_make (P := Try.prog) w 22 3 22 29 i _ elG.ht hi hz (by kernel_rfl) n (by rw [hzs _ hz]; omega) (by omega) (by omega) (by rw [hby]; omega)
    rw [hzs _ hz] at hcs
    have hge := grownCap_ge w n 0 29
    have hle := grownCap_le_maxLen w n 0 29 (by unfold maxLen; omega)
    have hcs' : cs.size = grownCap w n 0 29 * 3 := by omega
    have hown := owns_none (w := w.drew.alloc (.cells cs 29)) (base := w.heap.size) (Nat.le_refl _) (heap_alloc_new w.drew _) hle hcs'
    have hB : Below w.heap.size w (w.drew.alloc (.cells cs 29)) := (Below.refl w.heap.size w).drew.alloc (Nat.le_refl _) _
    obtain ⟨cap, hcap⟩ : ∃ cap, grownCap w n 0 29 = cap := ⟨_, rfl⟩
    rw [hcap] at hrun hown hle hge
    have HO := Lib.hid hown
    have HB := Lib.hid hB
    clear hown hB hcs hcs' hcap hzs
    go_enter Try.func44, Try.ntmps44
    have hcut : ∀ W, (Instr.slice 22 (.slice (some ⟨w.heap.size, 0, none⟩) n cap) none (some (.int .i64 0)) none).run Try.prog W = .ok (.slice (some ⟨w.heap.size, 0, none⟩) 0 cap) W := fun W => by
      have b1 := run_sliceBound (P := Try.prog) (w := W) .i64 (0 : Int) cap .sliceAcap (by omega) (by omega)
      have size1 : (sizeOf 29).run Try.prog W = .ok 3 W := by simp [sizeOf, typeInfo, hi, hsz]
      have hcc : cap ≠ 0 := by omega
      simp [Instr.slice, Instr.sliceBounds, run_underlying elG.ht, b1, size1, hcc]
      simp [Addr.add]
    have hcutn : ∀ W, (Instr.slice 22 (.slice none 0 0) none (some (.int .i64 0)) none).run Try.prog W = .ok (.slice none 0 0) W := fun W => by
      have b1 := run_sliceBound (P := Try.prog) (w := W) .i64 (0 : Int) 0 .sliceAcap (by omega) (by omega)
      have size1 : (sizeOf 29).run Try.prog W = .ok 3 W := by simp [sizeOf, typeInfo, hi, hsz]
      simp [Instr.slice, Instr.sliceBounds, run_underlying elG.ht, b1, size1]
    go_wp2_with (at_builtin
                 refine wpList_appR rfl (.tmp 20) (.tmp 21) _ rfl rfl rfl hrun ?_)
    go_ret
    exact ⟨_, rfl, HO.out, HB.out⟩
  · obtain rfl : n = 0 := by omega
    go_enter Try.func44, Try.ntmps44
    go_wp2
    go_ret
    exact ⟨_, rfl, World.ownsRow_nil _ _ _ _, Below.refl _ _⟩
/-- One of the slices that are put side by side. -/
structure Pc where
  a : Addr
  c : Nat
  ps : List (Gr × Value)
def Pc.v (p : Pc) : Value := .slice (some p.a) p.ps.length p.c
/-- What they hold, one behind the other. -/
def pcs (L : List Pc) : List (Gr × Value) := (L.map (·.ps)).flatten
theorem pcs_snoc (L : List Pc) (p : Pc) : pcs (L ++ [p]) = pcs L ++ p.ps := by simp [pcs]
theorem pcs_take {L : List Pc} {k : Nat} (hk : k < L.length) : pcs (L.take (k + 1)) = pcs (L.take k) ++ L[k].ps := by rw [List.take_succ_eq_append_getElem hk, pcs_snoc]
theorem pcs_take_le (L : List Pc) (k : Nat) : (pcs (L.take k)).length ≤ (pcs L).length := by
  have : pcs L = pcs (L.take k) ++ pcs (L.drop k) := by
    unfold pcs
    rw [← List.flatten_append, ← List.map_append, List.take_append_drop]
  rw [this, List.length_append]
  omega
set_option maxHeartbeats 8000000 in
theorem concat_any (L : List Pc) (v : Value) (w : World) (hs : Sl w v (L.map Pc.v)) (hr : ∀ p ∈ L, Rd w p.a (cellsG p.ps) ∧ ∀ q ∈ p.ps, q.2.oneCell' = true) (hL : L.length ≤ 10) (hn : (pcs L).length ≤ 10000) :
    Calls Try.prog 41 #[v] w fun e w' => ∃ u, e = .returned u ∧ w'.ownsRow w.heap.size 29 3 u (pcs L).length (cellsG (pcs L)) ∧ Below w.heap.size w w' := by
  obtain ⟨A, c, rfl⟩ := hs.form
  rw [List.length_map] at hs ⊢
  have HS := Lib.hid hs
  have HR := Lib.hid hr
  have HN := Lib.hid hn
  have HL := Lib.hid hL
  clear hs hr
  go_enter Try.func41, Try.ntmps41
  go_wp2
  go_loopw [3, 11] (fun t i W => ∃ k : Nat, k ≤ L.length ∧ i = .int .i64 (k : Int) ∧ t = .int .i64 ((pcs (L.take k)).length : Int) ∧ W = w) (fun _ i _ => L.length - (intOf i).toNat)
  case atStart => exact ⟨0, Nat.zero_le _, rfl, rfl, rfl⟩
  case round =>
    obtain ⟨k, hk, rfl, rfl, hw⟩ := hrel
    subst wr
    by_cases hkn : k < L.length
    · obtain ⟨b, off, hA, hb, hc⟩ : ∃ b off, A = some ⟨b, off, none⟩ ∧ b < w.heap.size ∧ w.cell? ⟨b, off + k, none⟩ = some (.slice (some L[k].a) L[k].ps.length L[k].c) := by
        obtain ⟨b, off, rfl⟩ := HS.out.some_ (by omega)
        obtain ⟨_, _, _, h4, h5⟩ := HS.out.parts
        exact ⟨b, off, rfl, h4, h5 k _ (by simp [hkn, Pc.v])⟩
      subst hA
      have h1 := pcs_take hkn
      have h2 := pcs_take_le L (k + 1)
      have h3 := congrArg List.length h1
      rw [List.length_append] at h3
      have HP := Lib.hid h3
      have hn' := HN.out
      have hneg : decide (((pcs (L.take k)).length : Int) + (L[k].ps.length : Int) < 0) = false := decide_eq_false (by omega)
      clear h1
      generalize hq : (pcs (L.take k)).length = q at *
      generalize hm : L[k].ps.length = m at *
      generalize L[k].a = ad at *
      generalize L[k].c = cd at *
      clear hm
      go_wp2
      go_roundw
      case rel => exact ⟨k + 1, by omega, by go_num, by rw [HP.out]; go_num, by first | rfl | trivial⟩
      case measure => simp [intOf]; omega
    · obtain rfl : k = L.length := by omega
      rw [List.take_length]
      go_wp2_with fail
      refine (grow_any _ _ HN.out).mono ?_; rintro e w1 ⟨u, rfl, hu, hB⟩
      have HU := Lib.hid hu
      have HB := Lib.hid hB
      clear hu hB
      go_wp2_with fail
      go_loopw [6, 27] (fun t i W => ∃ k : Nat, k ≤ L.length ∧ i = .int .i64 (k : Int) ∧ W.ownsRow w.heap.size 29 3 t (pcs (L.take k)).length (cellsG (pcs (L.take k))) ∧ Below w.heap.size w W) (fun _ i _ => L.length - (intOf i).toNat)
      case atStart => exact ⟨0, Nat.zero_le _, rfl, HU.out, HB.out⟩
      case round =>
        obtain ⟨k, hk, rfl, ho, hb⟩ := hrel
        by_cases hkn : k < L.length
        · obtain ⟨b, off, hA, hb0, hc⟩ : ∃ b off, A = some ⟨b, off, none⟩ ∧ b < w.heap.size ∧ w.cell? ⟨b, off + k, none⟩ = some (.slice (some L[k].a) L[k].ps.length L[k].c) := by
            obtain ⟨b, off, rfl⟩ := HS.out.some_ (by omega)
            obtain ⟨_, _, _, h4, h5⟩ := HS.out.parts
            exact ⟨b, off, rfl, h4, h5 k _ (by simp [hkn, Pc.v])⟩
          subst hA
          have hc := (hb.cell (p := ⟨b, off + k, none⟩) hb0).trans hc
          have h1 := pcs_take hkn
          have h2 := pcs_take_le L (k + 1)
          have h3 := congrArg List.length h1
          rw [List.length_append] at h3
          have hn' := HN.out
          obtain ⟨r1, r2⟩ := HR.out L[k] (List.getElem_mem hkn)
          obtain ⟨v2, w2, hrun2, ho2, hg2, -⟩ := run_joinG (P := Try.prog) elG 22 ho (c := L[k].c) rfl (r1.below hb) r2 (by omega) hb.size
          rw [← h1] at ho2
          have hb2 : Below w.heap.size w w2 := below_of_none (gr_then (gr_of_below hb none) hg2 (.inr (fun g e => (ho.lt g e).1)))
          have HO2 := Lib.hid ho2
          have HB2 := Lib.hid hb2
          clear h1 h2 h3 ho r1 r2 ho2 hb2 hg2
          generalize L[k].ps.length = m at *
          generalize L[k].a = ad at *
          generalize L[k].c = cd at *
          go_wp2_with (at_builtin
                       refine wpList_appR rfl (.tmp 31) (.tmp 32) _ rfl rfl rfl hrun2 ?_)
          go_roundw
          case rel => exact ⟨k + 1, by omega, by go_num, HO2.out, HB2.out⟩
          case measure => simp [intOf]; omega
        · obtain rfl : k = L.length := by omega
          rw [List.take_length] at ho
          go_wp2
          go_ret
          exact ⟨_, rfl, ho, hb⟩
end Go.Proofs.Ytdoigpifkdkjpaa
