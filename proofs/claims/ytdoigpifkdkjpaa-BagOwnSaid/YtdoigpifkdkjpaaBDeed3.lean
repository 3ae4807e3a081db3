/- The deed: harmed. -/
import Derived.Test.YtdoigpifkdkjpaaBDeed2
import Derived.Test.YtdoigpifkdkjpaaGr3
import Derived.Laws.BitsAllLaws
set_option linter.unusedVariables false
set_option maxRecDepth 100000
set_option linter.unusedSimpArgs false
namespace Go.Proofs.Ytdoigpifkdkjpaa
open Go.RowKit Go.Shelf Ms

/-- The k-th one harmed: its byte i put together with z. -/
def harmS (gs : List Gr) (k i : Nat) (z : UInt8) : List Gr := match gs[k]? with
  | some g => gs.set k ⟨g.to, g.bytes.set i (g.bytes.getD i 0 ^^^ z), true⟩
  | none => gs
/-- May it be harmed so? -/
def mayHarm (g : Gr) (i : Int) (z : UInt8) : Bool := !(g.harm) && (!(z == 0) && (decide (0 ≤ i) && decide (i < g.bytes.length)))

theorem xor_nat (x y : UInt8) : bits .xor .u8 (x.toNat : Int) (y.toNat : Int) = ((x ^^^ y).toNat : Int) := by
  rw [u8_xor_nat _ _ x.toNat_lt y.toNat_lt, UInt8.toNat_xor]
set_option maxHeartbeats 4000000 in
theorem harm_not (T Z I : Nat) (w : World) (gs : List Gr) (n : Int) (k : Nat) (i : Int) (z : UInt8) (hT : Rw w T 3 #[.int .i64 (k : Int)]) (hZ : Rw w Z 5 #[.int .u8 (z.toNat : Int)]) (hI : Rw w I 3 #[.int .i64 i]) (hk : k < gs.length) (hn : gs.length ≤ 1000) (hm : mayHarm gs[k] i z = false) :
    Deed 38 #[.pointer (some ⟨T, 0, none⟩), .pointer (some ⟨Z, 0, none⟩), .pointer (some ⟨I, 0, none⟩)] w gs n false gs n none (fun _ => True) := by
  intro X A c B p hX hB hp hpB hR hO
  obtain ⟨b, ps, rfl, hgs, hln, hN, h5, h2, hpb⟩ := hO.parts (by rintro rfl; simp at hk)
  have hk' : k < ps.length := by rw [← hgs, List.length_map] at hk; exact hk
  have hg : ps[k].1 = gs[k] := by simp [← hgs]
  show Calls Try.prog 38 #[.pointer (some ⟨B, 0, none⟩), .pointer (some ⟨T, 0, none⟩), .pointer (some ⟨Z, 0, none⟩), .pointer (some ⟨I, 0, none⟩)] X _
  have hTX := hT.below hX
  have hZX := hZ.below hX
  have hIX := hI.below hX
  obtain ⟨x1, x2, x3⟩ := hln.at_ k hk'
  rw [Nat.zero_add] at x1 x2 x3
  have hsw := hln.sw _ (List.getElem_mem hk')
  have hblt := cell_lt x1
  rw [hg] at x1 x3 hsw
  generalize ps[k].2 = u at *
  generalize gs[k] = g at *
  obtain ⟨A1, c1, rfl⟩ := hsw.form
  rw [bv_length] at *
  have cB := hR.cell
  have cT := hTX.cell
  have ik : (0 : Int) ≤ (k : Int) := by omega
  have ik2 : (k : Int) < (gs.length : Int) := by omega
  have HH := Lib.hid (And.intro hR hO)
  have d5 := fun (y : Wd X.drew) => (y.below.cell (p := ⟨b, k * 3 + 1, none⟩) hblt).trans x2
  have d6 := fun (y : Wd X.drew) => (y.below.cell (p := ⟨b, k * 3 + 2, none⟩) hblt).trans x3
  have d7 := fun (y : Wd X.drew) (j : Nat) => (Wd.row (W := X.drew) hZX y).cell j
  have d8 := fun (y : Wd X.drew) (j : Nat) => (Wd.row (W := X.drew) hIX y).cell j
  have hzz := z.toNat_lt
  have hgl := hsw.len
  rw [bv_length] at hgl
  clear hN h5 hR hTX hT hO h2 hln hpB hp hsw hgs hg hk' hZX hIX hZ hI
  unfold mayHarm at hm
  by_cases h1 : g.harm = true
  · rw [h1] at d6 x3
    clear hm
    go_enter Try.func38, Try.ntmps38
    go_wp2_with fail
    go_still_tail 6, (by kernel_rfl)
    change wpList _ _ _ _ _ X.drew
    go_wp2_with fail
    refine wpRegion_behind ⟨X.drew, Below.refl _ _⟩ (by kernel_rfl) (by kernel_rfl) ?_
    repeat (first
      | go_big_quiet_skip
      | (go_big_quiet_want; go_big_quiet_op; first | go_big_quiet_on | (apply Exists.intro; refine ⟨fun _ => rfl, ?_⟩; go_big_quiet_on)))
    refine wpQuiet_nil ?_
    intro y
    have hy : Below X.heap.size X y.w := (Below.refl X.heap.size X).drew.trans y.below
    go_wp2
    exact bodyPost_ret (results_tmp rfl _ _ _) rfl ⟨rfl, some ⟨b, 0, none⟩, _, c, HH.out.1.below hy, (HH.out.2.below hy).imp (fun q _ h => .inl h), Turns.of_below hy, trivial⟩
  · have h1' : g.harm = false := by simpa using h1
    rw [h1'] at d6 x3 hm
    by_cases h2 : (z.toNat : Int) = 0
    · have e2 : ((z.toNat : Int) == 0) = true := by simpa using h2
      clear h2
      clear hm
      go_enter Try.func38, Try.ntmps38
      go_wp2_with fail
      go_still_tail 6, (by kernel_rfl)
      change wpList _ _ _ _ _ X.drew
      go_wp2_with fail
      refine wpRegion_behind ⟨X.drew, Below.refl _ _⟩ (by kernel_rfl) (by kernel_rfl) ?_
      repeat (first
        | go_big_quiet_skip
        | (go_big_quiet_want; go_big_quiet_op; first | go_big_quiet_on | (apply Exists.intro; refine ⟨fun _ => rfl, ?_⟩; go_big_quiet_on)))
      refine wpQuiet_nil ?_
      intro y
      have hy : Below X.heap.size X y.w := (Below.refl X.heap.size X).drew.trans y.below
      go_wp2
      exact bodyPost_ret (results_tmp rfl _ _ _) rfl ⟨rfl, some ⟨b, 0, none⟩, _, c, HH.out.1.below hy, (HH.out.2.below hy).imp (fun q _ h => .inl h), Turns.of_below hy, trivial⟩
    · have e2 : ((z.toNat : Int) == 0) = false := by simpa using h2
      by_cases h3 : i < 0
      · have e3 : decide (i < 0) = true := decide_eq_true h3
        clear h2 h3
        clear hm
        go_enter Try.func38, Try.ntmps38
        go_wp2_with fail
        go_still_tail 6, (by kernel_rfl)
        change wpList _ _ _ _ _ X.drew
        go_wp2_with fail
        refine wpRegion_behind ⟨X.drew, Below.refl _ _⟩ (by kernel_rfl) (by kernel_rfl) ?_
        repeat (first
          | go_big_quiet_skip
          | (go_big_quiet_want; go_big_quiet_op; first | go_big_quiet_on | (apply Exists.intro; refine ⟨fun _ => rfl, ?_⟩; go_big_quiet_on)))
        refine wpQuiet_nil ?_
        intro y
        have hy : Below X.heap.size X y.w := (Below.refl X.heap.size X).drew.trans y.below
        go_wp2
        exact bodyPost_ret (results_tmp rfl _ _ _) rfl ⟨rfl, some ⟨b, 0, none⟩, _, c, HH.out.1.below hy, (HH.out.2.below hy).imp (fun q _ h => .inl h), Turns.of_below hy, trivial⟩
      · have e3 : decide (i < 0) = false := decide_eq_false h3
        have e4 : decide (i ≥ (g.bytes.length : Int)) = true := by
          refine decide_eq_true ?_
          have hz : (z == 0) = false := by
            rw [beq_eq_false_iff_ne]
            rintro rfl
            exact h2 rfl
          rw [hz] at hm
          have h3' : decide (0 ≤ i) = true := decide_eq_true (by omega)
          rw [h3'] at hm
          have : decide (i < (g.bytes.length : Int)) = false := by simpa using hm
          have := of_decide_eq_false this
          omega
        clear h2 h3
        clear hm
        go_enter Try.func38, Try.ntmps38
        go_wp2_with fail
        go_still_tail 6, (by kernel_rfl)
        change wpList _ _ _ _ _ X.drew
        go_wp2_with fail
        refine wpRegion_behind ⟨X.drew, Below.refl _ _⟩ (by kernel_rfl) (by kernel_rfl) ?_
        repeat (first
          | go_big_quiet_skip
          | (go_big_quiet_want; go_big_quiet_op; first | go_big_quiet_on | (apply Exists.intro; refine ⟨fun _ => rfl, ?_⟩; go_big_quiet_on)))
        refine wpQuiet_nil ?_
        intro y
        have hy : Below X.heap.size X y.w := (Below.refl X.heap.size X).drew.trans y.below
        go_wp2
        exact bodyPost_ret (results_tmp rfl _ _ _) rfl ⟨rfl, some ⟨b, 0, none⟩, _, c, HH.out.1.below hy, (HH.out.2.below hy).imp (fun q _ h => .inl h), Turns.of_below hy, trivial⟩
set_option maxHeartbeats 4000000 in
theorem harm_yes (T Z I : Nat) (w : World) (gs : List Gr) (n : Int) (k : Nat) (i : Nat) (z : UInt8) (hT : Rw w T 3 #[.int .i64 (k : Int)]) (hZ : Rw w Z 5 #[.int .u8 (z.toNat : Int)]) (hI : Rw w I 3 #[.int .i64 (i : Int)]) (hk : k < gs.length) (hn : gs.length ≤ 1000) (hm : mayHarm gs[k] (i : Int) z = true) :
    Deed 38 #[.pointer (some ⟨T, 0, none⟩), .pointer (some ⟨Z, 0, none⟩), .pointer (some ⟨I, 0, none⟩)] w gs n true (harmS gs k i z) n none (fun _ => True) := by
  intro X A c B p hX hB hp hpB hR hO
  obtain ⟨ps, hgs, hQ⟩ := hO.ownQ
  have hk' : k < ps.length := by rw [← hgs, List.length_map] at hk; exact hk
  have hlen : gs.length = ps.length := by rw [← hgs, List.length_map]
  have hg : ps[k].1 = gs[k] := by simp [← hgs]
  show Calls Try.prog 38 #[.pointer (some ⟨B, 0, none⟩), .pointer (some ⟨T, 0, none⟩), .pointer (some ⟨Z, 0, none⟩), .pointer (some ⟨I, 0, none⟩)] X _
  have hTX := hT.below hX
  have hZX := hZ.below hX
  have hIX := hI.below hX
  have hm' := hm
  rw [← hg] at hm'
  simp only [mayHarm, Bool.and_eq_true, Bool.not_eq_true', decide_eq_true_eq, beq_eq_false_iff_ne] at hm'
  obtain ⟨h1', hz0, _, hi⟩ := hm'
  have hi : i < ps[k].1.bytes.length := by omega
  obtain ⟨b, rfl, hpb, hblt, -, x1, x2, x3, hfz⟩ := hQ.at_ k hk'
  obtain ⟨ub, cap, hu, xb, fb, hpu, hult⟩ := hQ.bytes_ k hk' i hi
  rw [hu] at x2
  rw [h1'] at x3
  have hQ2 := hQ.byte k hk' i hi hu (ps[k].1.bytes[i] ^^^ z)
  have hxor := xor_nat ps[k].1.bytes[i] z
  have hiL : (i : Int) < (ps[k].1.bytes.length : Int) := by omega
  have hi0 : (0 : Int) ≤ (i : Int) := by omega
  have hgl : (ps[k].1.bytes.length : Int) ≤ 9223372036854775807 := by
    have ho := hQ.nest.own _ (List.getElem_mem hk')
    have := (Sw.of_sl (Sl.of_own ho)).len
    rwa [bv_length] at this
  have cB := hR.cell
  have cT := hTX.cell
  have ik : (0 : Int) ≤ (k : Int) := by omega
  have ik2 : (k : Int) < (gs.length : Int) := by omega
  have HH := Lib.hid (And.intro hR hO)
  have d5 := fun (y : Wd X.drew) => (y.below.cell (p := ⟨b, k * 3 + 1, none⟩) hblt).trans x2
  have d6 := fun (y : Wd X.drew) => (y.below.cell (p := ⟨b, k * 3 + 2, none⟩) hblt).trans x3
  have d7 := fun (y : Wd X.drew) (j : Nat) => (Wd.row (W := X.drew) hZX y).cell j
  have d8 := fun (y : Wd X.drew) (j : Nat) => (Wd.row (W := X.drew) hIX y).cell j
  have hzz := z.toNat_lt
  have e2 : ((z.toNat : Int) == 0) = false := by
    rw [beq_eq_false_iff_ne]
    intro h
    exact hz0 (UInt8.toNat_inj.1 (by simpa using h))
  have e3 : decide ((i : Int) < 0) = false := decide_eq_false (by omega)
  have e4 : decide ((i : Int) ≥ (ps[k].1.bytes.length : Int)) = false := decide_eq_false (by omega)
  have hZXX := hZX.cell
  have hIXX := hIX.cell
  have HQ := Lib.hid (And.intro hQ hQ2)
  have HP := Lib.hid (And.intro hpB (And.intro hpb hpu))
  have hh : harmS gs k i z = (ps.set k (⟨ps[k].1.to, ps[k].1.bytes.set i (ps[k].1.bytes[i] ^^^ z), true⟩, ps[k].2)).map (·.1) := by
    unfold harmS
    rw [← hgs]
    simp [hk', hi, List.map_set]
  rw [hh]
  have e5 : decide (ps[k].1.bytes.length ≤ i) = false := decide_eq_false (by omega)
  have hRX := hR.lt
  have HF := Lib.hid (And.intro hk' (And.intro hi (And.intro hR (And.intro hu h1'))))
  have d9 := fun (y : Wd X.drew) => (y.below.cell (p := ⟨ub, i, none⟩) hult).trans xb
  have d10 := fun (y : Wd X.drew) => (World.frozen?_of_block (a := ⟨ub, i, none⟩) (y.below.block ub hult)).trans fb
  have HX := Lib.hid hxor
  generalize hzr : (ps[k].1.bytes[i] ^^^ z) = zr at *
  have HZR := Lib.hid hzr
  clear hh hg hgs hlen hQ hQ2 hpb hpu hpB hR hO hTX hZX hIX hT hZ hI hu h1' hm hp hfz hk hzr
  go_enter Try.func38, Try.ntmps38
  go_wp2_with fail
  go_still_tail 6, (by kernel_rfl)
  change wpList _ _ _ _ _ X.drew
  go_wp2_with fail
  refine wpRegion_behind ⟨X.drew, Below.refl _ _⟩ (by kernel_rfl) (by kernel_rfl) ?_
  repeat (first
    | go_big_quiet_skip
    | (go_big_quiet_want; go_big_quiet_op; first | go_big_quiet_on | (apply Exists.intro; refine ⟨fun _ => rfl, ?_⟩; go_big_quiet_on)))
  refine wpQuiet_nil ?_
  intro y
  go_wp2_with fail
  go_still_tail 10, (by kernel_rfl)
  change wpList _ _ _ _ _ y.w.drew
  have hy : Below X.heap.size X y.w.drew := ((Below.refl X.heap.size X).drew.trans y.below).drew
  obtain ⟨hk2, hi2, hR, hu, h1'⟩ := HF.out
  have q1 : OwnQ p ((y.w.setCell ⟨ub, i, none⟩ (.int .u8 (zr.toNat : Int))).drew) 29 (.slice (some ⟨b, 0, none⟩) gs.length c) (ps.set k (⟨ps[k].1.to, ps[k].1.bytes.set i zr, ps[k].1.harm⟩, ps[k].2)) := (HQ.out.1.below hy).byte k hk2 i hi2 hu zr
  have q2 := q1.harm_ hk2 true
  obtain ⟨b2, hb2, _, _, _, _, _, f2, f3⟩ := q1.at_ k (by rw [List.length_set]; exact hk2)
  injection hb2 with hb2
  injection hb2 with hb2
  subst hb2
  have f4 := f3 (k * 3 + 2)
  have hQ2 := Lib.hid q2
  have hBb : b ≠ B := fun e => HP.out.1 (e ▸ HP.out.2.1)
  have hBu : ub ≠ B := fun e => HP.out.1 (e ▸ HP.out.2.2)
  have hRy := (show Rw ((y.w.setCell ⟨ub, i, none⟩ (.int .u8 (zr.toNat : Int))).drew) B 24 _ from (hR.below hy).set_other (fun e => hBu e.symm) i (.int .u8 (zr.toNat : Int))).set_other (fun e => hBb e.symm) (k * 3 + 2) (.bool true)
  have htu := (show Turns (fun q => q = B ∨ p q ∨ none = some q) X ((y.w.setCell ⟨ub, i, none⟩ (.int .u8 (zr.toNat : Int))).drew) from (Turns.of_below (q := fun q => q = B ∨ p q ∨ none = some q) hy).trans (Turns.set y.w.drew ub i (.int .u8 (zr.toNat : Int))) (fun q _ h => .inr (.inl (h ▸ HP.out.2.2)))).trans (Turns.set _ b (k * 3 + 2) (.bool true)) (fun q _ h => .inr (.inl (h ▸ HP.out.2.1)))
  have HT := Lib.hid (And.intro hRy htu)
  clear q1 q2 hRy htu f3 hR hu h1'
  go_wp2_with fail
  refine bodyPost_ret (results_tmp rfl _ _ _) rfl ⟨rfl, some ⟨b, 0, none⟩, gs.length, c, ?_, ?_, ?_⟩
  · exact HT.out.1
  · have h := hQ2.out.ownP.imp (q := fun q => p q ∨ X.heap.size ≤ q) (fun q _ h => .inl h)
    rw [List.map_set] at h
    exact h
  · exact Turns.imp (q := fun q => q = B ∨ p q ∨ none = some q) HT.out.2 (fun q _ h => by rcases h with h | h | h; exact .inl h; exact .inr h; cases h)
end Go.Proofs.Ytdoigpifkdkjpaa
