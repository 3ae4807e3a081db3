/- The iterator 'gramsOf': each datagram of a row, with its place. -/
import Derived.Test.YtdoigpifkdkjpaaBSent
import Derived.Test.YtdoigpifkdkjpaaFen
set_option linter.unusedVariables false
set_option maxRecDepth 100000
set_option linter.unusedSimpArgs false
namespace Go.Proofs.Ytdoigpifkdkjpaa
open Go.RowKit Go.Shelf Ms
attribute [local go_sem] Oper.semAt_some

/-- Where these lie. -/
def Lies (w : World) (A : Option Addr) (ps : List (Gr × Value)) : Prop :=
  ∀ j (hj : j < ps.length), ∃ b off, A = some ⟨b, off, none⟩ ∧ b < w.heap.size ∧ w.cell? ⟨b, off + j * 3, none⟩ = some (.int .i64 ps[j].1.to) ∧ w.cell? ⟨b, off + j * 3 + 1, none⟩ = some ps[j].2 ∧ w.cell? ⟨b, off + j * 3 + 2, none⟩ = some (.bool ps[j].1.harm) ∧ Sw w ps[j].2 (bv ps[j].1.bytes)
theorem Lies.below {w w' : World} {A : Option Addr} {ps : List (Gr × Value)} (h : Lies w A ps) (hb : Below w.heap.size w w') : Lies w' A ps := fun j hj => by
  obtain ⟨b, off, h1, h2, h3, h4, h5, h6⟩ := h j hj
  exact ⟨b, off, h1, Nat.lt_of_lt_of_le h2 hb.size, (hb.cell (p := ⟨b, _, none⟩) h2).trans h3, (hb.cell (p := ⟨b, _, none⟩) h2).trans h4, (hb.cell (p := ⟨b, _, none⟩) h2).trans h5, h6.below hb⟩
theorem SwG.lies {w : World} {v : Value} {gs : List Gr} (h : SwG w v gs) : ∃ A c ps, v = .slice A ps.length c ∧ ps.map (·.1) = gs ∧ Lies w A ps := by
  obtain ⟨A, c, rfl⟩ := h.form
  by_cases h0 : gs = []
  · subst h0
    exact ⟨A, c, [], rfl, rfl, fun j hj => absurd hj (by simp)⟩
  · obtain ⟨b, off, ps, rfl, hp, L⟩ := h.ln h0
    refine ⟨_, c, ps, by rw [← hp, List.length_map], hp, fun j hj => ?_⟩
    obtain ⟨c0, c1, c2⟩ := cellsG_get ps j hj
    have h1 := L.cells _ _ c0
    have h2 := L.cells _ _ c1
    have h3 := L.cells _ _ c2
    rw [add_plain] at h1 h2 h3
    exact ⟨b, off, rfl, cell_lt h1, h1, by rw [Nat.add_assoc]; exact h2, by rw [Nat.add_assoc]; exact h3, L.sw _ (List.getElem_mem hj)⟩
/-- What the j-th round is handed. -/
def encG (ps : List (Gr × Value)) (i : Fin ps.length) : Array Value := #[.int .i64 (i.1 : Int), .agg (ps[i.1].1.c ps[i.1].2)]
theorem fin_take {n k : Nat} (h : k < n) : (List.finRange n).take (k + 1) = (List.finRange n).take k ++ [⟨k, h⟩] := by
  rw [List.take_succ_eq_append_getElem (by simpa using h)]
  simp
theorem fin_map {α : Type} (ps : List α) : (List.finRange ps.length).map (fun i => ps[i.1]) = ps := by
  refine List.ext_getElem (by simp) fun i h1 h2 => by simp
theorem Kps.lt {S : Nat → Prop} {W W' : World} (h : Kps S W W') (hS : ∀ k, S k → k < W.heap.size) : ∀ k, S k → k < W'.heap.size := fun k hk => by
  have h1 := h k hk
  have h2 := hS k hk
  rw [Array.getElem?_eq_getElem h2] at h1
  exact (Array.getElem?_eq_some_iff.1 h1).1
theorem gr_one' {w : World} {g : Gr} {u : Value} {xs : List Value} (h : Sw w u xs) : (g.c u).all (·.oneCell') = true := by
  obtain ⟨A, c, rfl⟩ := h.form
  exact Gr.one g A _ _
theorem gramsOf_any (A : Option Addr) (q c : Nat) (w : World) : Calls Try.prog 33 #[.slice A q c] w fun e w' => e = .returned (.func (.func 42) #[] #[.pointer (some ⟨w.heap.size, 0, none⟩)]) ∧ w' = w.alloc (.cells #[.slice A q c] 22) := by
  go_enter Try.func33, Try.ntmps33
  go_wp2
  go_ret
  exact ⟨rfl, rfl⟩
set_option maxHeartbeats 4000000 in
theorem grams_in (n l Bs : Nat) (A : Option Addr) (c : Nat) (ps : List (Gr × Value)) (S : Nat → Prop) (hBs : S Bs) (hA : ps ≠ [] → ∀ b off, A = some ⟨b, off, none⟩ → S b) (hreach : (ps.length : Int) ≤ 9223372036854775807) (J Jx : List (Fin ps.length) → World → Prop)
    (hY : ∀ pre x W, J pre W → pre.length < ps.length → YieldAt Fence.wide (n - 1) Try.prog l (encG ps x) W fun e W' =>
      (e = .returned (.bool true) ∧ J (pre ++ [x]) W' ∧ Kps S W W') ∨ (e = .returned (.bool false) ∧ Jx (pre ++ [x]) W'))
    (hJ : ∀ xs X Y, J xs X → Below X.heap.size X Y → J xs Y)
    (W : World) (hSW : ∀ k, S k → k < W.heap.size) (hc : W.cell? ⟨Bs, 0, none⟩ = some (.slice A ps.length c)) (hL : Lies W A ps) (h0 : J [] W) :
    CallsIn Fence.wide n Try.prog 42 #[.func (.yield l) #[] #[], .pointer (some ⟨Bs, 0, none⟩)] W fun e W' => (∃ v, e = .returned v) ∧
      ((∃ ys, ys = List.finRange ps.length ∧ J ys W') ∨ (∃ pre, pre <+: List.finRange ps.length ∧ Jx pre W')) := by
  have HL := Lib.hid hL
  have HY := Lib.hid hY
  have HA := Lib.hid hA
  have HS := Lib.hid hSW
  clear hL hY hA hSW
  refine callsIn_of_wp Try.func42 rfl trivial ?_ rfl
  simp only [Try.ntmps42, List.size_toArray, List.length_cons, List.length_nil, Nat.reduceAdd, Nat.reduceSub, Array.replicate_succ, Array.replicate_zero, List.push_toArray, List.append_toArray, List.nil_append, List.cons_append]
  gi_wp2
  gi_loopw [7] (fun i wr => ∃ k : Nat, k ≤ ps.length ∧ i = .int .i64 k ∧ J ((List.finRange ps.length).take k) wr ∧ Kps S W wr) (fun i _ => ps.length - (intOf i).toNat)
  case atStart => exact ⟨0, Nat.zero_le _, rfl, by simpa using h0, Kps.refl _ _⟩
  case round =>
    obtain ⟨k, hk, rfl, hJs, hnx⟩ := hrel
    by_cases hlt : k < ps.length
    · obtain ⟨b, off, hAe, hb, x1, x2, x3, s1⟩ := HL.out k hlt
      have hsb := HA.out (by rintro rfl; simp at hlt) b off hAe
      subst hAe
      have x1 := (hnx.cell (p := ⟨b, _, none⟩) hsb).trans x1
      have x2 := (hnx.cell (p := ⟨b, _, none⟩) hsb).trans x2
      have x3 := (hnx.cell (p := ⟨b, _, none⟩) hsb).trans x3
      have LG := run_loadG (P := Try.prog) aggG x1 x2 x3
      have HNX := Lib.hid hnx
      have HSW := Lib.hid s1
      have HJS := Lib.hid hJs
      have HLG := Lib.hid LG
      clear LG x1 x2 x3 hnx hJs
      gi_wp2_with (with_reducible show wpListIn _ _ _ _ _ (Oper.mk _ (Op.indexAddr _ _ _) _ _ _ _ :: _) _ _
                   refine listW_of (by rintro ⟨_, _, ⟨⟨_, h⟩, _⟩⟩; cases h) rfl ?_)
      go_wp2_with (first
        | (with_reducible show wpList _ _ _ (Oper.mk _ (Op.load 29 _) _ _ _ _ :: _) _ _
           refine wpList_loadR rfl _ rfl rfl HLG.out ?_)
        | (with_reducible show wpList _ _ _ (Oper.mk _ (Op.store 29 _ _) _ _ _ _ :: _) _ _
           refine wpList_storeR (c := ps[k].1.c ps[k].2) rfl _ _ rfl rfl rfl aggG.hi (Rw.new wr (noG.c nilB) 29) rfl (gr_one' HSW.out) ?_
           refine gen_w (fun X => Rw X wr.heap.size 29 (ps[k].1.c ps[k].2) ∧ Below wr.heap.size wr X) ⟨(Rw.new wr (noG.c nilB) 29).setRow, below_setRow (box_below wr _) (Nat.le_refl _) _⟩ ?_
           rintro X ⟨rX, bX⟩))
      have hJX := hJ _ _ _ HJS.out bX
      obtain ⟨fn, tmps, assign, body, hy, hR⟩ := HY.out _ ⟨k, hlt⟩ X hJX (by rw [List.length_take]; simp; omega)
      rw [← fin_take hlt] at hR
      have cX := rX.cell
      have hKX : Kps S W X := HNX.out.trans (Kps.below bX (HNX.out.lt HS.out))
      have HKX := Lib.hid hKX
      clear hKX hJX rX bX
      replace hy : (Instr.yield l #[.int .i64 (k : Int), .agg #[.int .i64 ps[k].1.to, ps[k].2, .bool ps[k].1.harm]]).run Try.prog X = _ := hy
      gi_wp2
      refine ⟨fun h => (by cases h), hR.mono ?_⟩
      rintro e W3 (⟨rfl, hJ3, hk3⟩ | ⟨rfl, hJx3⟩)
      · gi_wp2
        go_roundw
        case rel => exact ⟨k + 1, by omega, by go_num, hJ3, HKX.out.trans hk3⟩
        case measure => simp [intOf]; omega
      · gi_wp2
        refine bodyPost_ret (results_none rfl _ _ _) rfl ?_
        exact ⟨⟨_, rfl⟩, .inr ⟨_, List.take_prefix _ _, hJx3⟩⟩
    · obtain rfl : k = ps.length := by omega
      gi_wp2
      go_end0
      exact ⟨⟨_, rfl⟩, .inl ⟨_, rfl, by rwa [List.take_of_length_le (by simp)] at hJs⟩⟩
theorem grams_stops (n Bs : Nat) (A : Option Addr) (c : Nat) (ps : List (Gr × Value)) (S : Nat → Prop) (w : World) (hBs : S Bs) (hA : ps ≠ [] → ∀ b off, A = some ⟨b, off, none⟩ → S b) (hS : ∀ k, S k → k < w.heap.size) (hreach : (ps.length : Int) ≤ 9223372036854775807)
    (hc : Rw w Bs 22 #[.slice A ps.length c]) (hL : Lies w A ps) :
    SeqStopsK Fence.wide n Try.prog 42 #[.pointer (some ⟨Bs, 0, none⟩)] (encG ps) (Kps S) (fun ys => ys = List.finRange ps.length) (fun pre => pre <+: List.finRange ps.length) ps.length w := fun l J Jx W hW hJ _ hY h0 =>
  grams_in n l Bs A c ps S hBs hA hreach J Jx hY (fun xs X Y h hb => hJ xs X Y none h (gr_of_below hb none) (fun r e => by cases e)) W (fun k hk => Nat.lt_of_lt_of_le (hS k hk) hW.size) ((hc.below hW).cell 0) (hL.below hW) h0
end Go.Proofs.Ytdoigpifkdkjpaa
