/- 'MsgLists': the walk of the law: which lists may be told. -/
import Derived.Deep.CutRange
import Derived.Test.YtbklgodbjibemaaWakes
set_option linter.unusedVariables false
set_option linter.unusedSimpArgs false
namespace Go.Proofs.Ytbklgodbjibemaa
open Go.RowKit Go.Shelf

/-- The state that is told. -/
def stM (frm tt pred : Int) : M := { M.head 7 (tt * 1048576 + 1) frm tt with pred := pred }
def fine0 (n : Nat) (pred : Int) : Bool := decide (n ≤ 3) && (decide (-1 ≤ pred) && decide (pred < 65536))
def fineL (frm pred : Int) (l : List Int) : Bool := fine0 l.length pred && decide (listP frm l)
def okZ (frm z : Int) : Bool := decide (0 ≤ z) && (decide (z < 65536) && (z != frm))
theorem okZ_iff {frm z : Int} : okZ frm z = true ↔ placeB z = true ∧ z ≠ frm := by simp [okZ, placeB, and_assoc]
theorem st_right (frm tt pred : Int) (l : List Int) (hf : placeB frm = true) (ht : placeB tt = true) (hne : frm ≠ tt) : rightD (stM frm tt pred) l = fineL frm pred l := by
  rw [right_eq, Bool.eq_iff_iff, rightB_iff]
  have h2 : bareM (stM frm tt pred) = headM (stM frm tt pred) := by simp [bareM, headM, stM, M.head, noM]
  have h3 : bareLL (stM frm tt pred) l = [] := by simp [bareLL, stM, M.head]
  have h4 : hasB (stM frm tt pred) l = ((pred == -1 || placeB pred) && decide (listP frm l ∧ l.length ≤ 3)) := rfl
  have h5 : askerI (stM frm tt pred) = tt := by simp [askerI, asksB, stM, M.head]
  have h6 : OkAll (stM frm tt pred) l := by
    unfold OkAll
    rw [h5]
    exact ⟨by simp [stM, M.head], by simp [stM, M.head], hf, ht, hne, by simp [stM, M.head]; omega, by simp [stM, M.head]; omega⟩
  rw [h4]
  simp only [h6, h2, h3, true_and, and_self, Bool.and_eq_true, Bool.or_eq_true, beq_iff_eq, decide_eq_true_eq, fineL, fine0, place_iff]
  constructor
  · rintro ⟨h, h1, h2⟩
    exact ⟨⟨h2, by omega, by omega⟩, h1⟩
  · rintro ⟨⟨h1, h2, h3⟩, h4⟩
    exact ⟨by omega, h4, h1⟩

structure L15 (w X : World) (b1 b2 : Nat) (c1 c2 : Array Value) (s1 s2 : Value) (l : List Int) : Prop where
  r1 : Rw X b1 27 c1
  r2 : Rw X b2 27 c2
  s1 : Sl X s1 (iv l)
  s2 : Sl X s2 (iv l)
  below : Below w.heap.size w X
theorem L15.on {w X Y : World} {b1 b2 : Nat} {c1 c2 : Array Value} {s1 s2 : Value} {l : List Int} (h : L15 w X b1 b2 c1 c2 s1 s2 l) (hb : Below X.heap.size X Y) : L15 w Y b1 b2 c1 c2 s1 s2 l := ⟨h.r1.below hb, h.r2.below hb, h.s1.below hb, h.s2.below hb, h.below.trans (hb.mono h.below.size)⟩
theorem gen_15 {P : Program} {ops : Array Oper} {rest : List Oper} {a : Act} {w X : World} {Q : Exit → Act → World → Prop} {b1 b2 : Nat} {c1 c2 : Array Value} {s1 s2 : Value} {l : List Int} (h : L15 w X b1 b2 c1 c2 s1 s2 l) (k : ∀ X, L15 w X b1 b2 c1 c2 s1 s2 l → wpList P ops Q rest a X) : wpList P ops Q rest a X := k X h

set_option maxRecDepth 100000 in
set_option maxHeartbeats 4000000 in
theorem lists_long (A : Option Addr) (n c : Nat) (frm pred : Int) (W : World) (h : 6 < n ∨ frm < 0 ∨ 65535 < frm) :
    Calls Try.prog 7 #[.slice A n c, .int .i64 frm, .int .i64 pred] W fun e w' => e = .returned (.bool true) ∧ Below W.heap.size W w' := by
  have K := Lib.hid wakes_any
  by_cases h1 : 6 < n
  · have d1 : decide ((6 : Int) < (n : Int)) = true := decide_eq_true (by omega)
    clear h h1
    go_enter Try.func7, Try.ntmps7
    go_wp2_with fail
    refine (K.out _).mono ?_; rintro e w1 ⟨rfl, hb⟩
    go_wp2
    go_ret
    exact ⟨rfl, hb⟩
  · have d1 : decide ((6 : Int) < (n : Int)) = false := decide_eq_false (by omega)
    by_cases h2 : frm < 0
    · have d2 : decide (frm < 0) = true := decide_eq_true h2
      clear h h1 h2
      go_enter Try.func7, Try.ntmps7
      go_wp2_with fail
      refine (K.out _).mono ?_; rintro e w1 ⟨rfl, hb⟩
      go_wp2
      go_ret
      exact ⟨rfl, hb⟩
    · have d2 : decide (frm < 0) = false := decide_eq_false h2
      have d3 : decide (65535 < frm) = true := decide_eq_true (by omega)
      clear h h1 h2
      go_enter Try.func7, Try.ntmps7
      go_wp2_with fail
      refine (K.out _).mono ?_; rintro e w1 ⟨rfl, hb⟩
      go_wp2
      go_ret
      exact ⟨rfl, hb⟩

set_option maxRecDepth 100000 in
set_option maxHeartbeats 4000000 in
theorem lists_main (A : Option Addr) (c : Nat) (l : List Int) (frm pred : Int) (W : World) (hs : Sl W (.slice A l.length c) (iv l)) (h1 : l.length ≤ 6) (h2 : placeB frm = true) :
    Calls Try.prog 7 #[.slice A l.length c, .int .i64 frm, .int .i64 pred] W fun e w' => e = .returned (.bool true) ∧ Below W.heap.size W w' := by
  obtain ⟨q1, q2⟩ := place_iff.1 h2
  have d1 : decide ((6 : Int) < (l.length : Int)) = false := decide_eq_false (by omega)
  have d2 : decide (frm < 0) = false := decide_eq_false (by omega)
  have d3 : decide (65535 < frm) = false := decide_eq_false (by omega)
  obtain ⟨f0, hf0⟩ : ∃ b, fine0 l.length pred = b := ⟨_, rfl⟩
  have Q := Lib.hid (fun j hj => hs.q_ j hj)
  have HS := Lib.hid hs
  have H2 := Lib.hid h2
  have HL := Lib.hid h1
  have HF0 := Lib.hid hf0
  clear hs h2 hf0
  go_enter Try.func7, Try.ntmps7
  go_upto_region 4 with fail
  go_cut [8] from 24 to 38 (fun b wx => b = .bool f0 ∧ wx = W)
  case first =>
    by_cases c1 : l.length ≤ 3
    · have e1 : decide ((l.length : Int) ≤ 3) = true := decide_eq_true (by omega)
      have C1 := Lib.hid c1
      clear c1
      by_cases c2 : -1 ≤ pred
      · have e2 : decide (-1 ≤ pred) = true := decide_eq_true c2
        have C2 := Lib.hid c2
        clear c2
        go_wp2_with fail
        all_goals (go_meet; exact ⟨congrArg Value.bool (by rw [← HF0.out, fine0, decide_eq_true C1.out, decide_eq_true C2.out]; simp), rfl⟩)
      · have e2 : decide (-1 ≤ pred) = false := decide_eq_false c2
        have C2 := Lib.hid e2
        clear c2
        go_wp2_with fail
        all_goals (go_meet; exact ⟨congrArg Value.bool (by rw [← HF0.out, fine0, C2.out]; simp), rfl⟩)
    · have e1 : decide ((l.length : Int) ≤ 3) = false := decide_eq_false (by omega)
      have C1 := Lib.hid (decide_eq_false c1)
      clear c1
      go_wp2_with fail
      all_goals (go_meet; exact ⟨congrArg Value.bool (by rw [← HF0.out, fine0, C1.out]; simp), rfl⟩)
  case rest =>
    obtain ⟨rfl, rfl⟩ := hcut
    go_wp2_with fail
    go_loopw [8, 9] (fun b i w' => ∃ k : Nat, k ≤ l.length ∧ i = .int .i64 k ∧ b = .bool (f0 && decide (listP frm (l.take k))) ∧ ∃ n, w' = wc.drewN n) (fun _ i _ => l.length - (intOf i).toNat)
    case atStart => exact ⟨0, by omega, rfl, by simp [listP, othersP], 0, rfl⟩
    case round =>
      obtain ⟨k, hk, rfl, rfl, nq, rfl⟩ := hrel
      by_cases hlt : k < l.length
      · obtain ⟨g, off, rfl, hcx⟩ := Q.out k hlt
        have HI := Lib.hid (listP_succ frm l k hlt)
        obtain ⟨z, hz⟩ : ∃ z, z = l[k] := ⟨_, rfl⟩
        rw [← hz] at hcx
        have HZ := Lib.hid hz
        obtain ⟨b0, hb0⟩ : ∃ b, (f0 && decide (listP frm (l.take k))) = b := ⟨_, rfl⟩
        rw [hb0]
        have HB0 := Lib.hid hb0
        obtain ⟨g0, hg0⟩ : ∃ b, (b0 && okZ frm z) = b := ⟨_, rfl⟩
        have HG0 := Lib.hid hg0
        clear hz hb0 hg0
        go_upto_region 8 with fail
        go_cut [8] from 45 to 67 (fun b wx => b = .bool g0 ∧ wx = wc.drewN nq)
        case first =>
          cases b0
          · go_wp2_with fail
            go_meet
            exact ⟨congrArg Value.bool (by rw [← HG0.out]; rfl), rfl⟩
          · by_cases c1 : 0 ≤ z
            · have e1 : decide (0 ≤ z) = true := decide_eq_true c1
              have C1 := Lib.hid e1
              clear c1
              by_cases c2 : z < 65536
              · have e2 : decide (z < 65536) = true := decide_eq_true c2
                have C2 := Lib.hid e2
                clear c2
                go_wp2_with fail
                all_goals (go_meet; exact ⟨congrArg Value.bool (by rw [← HG0.out, okZ, C1.out, C2.out]; simp), rfl⟩)
              · have e2 : decide (z < 65536) = false := decide_eq_false c2
                have C2 := Lib.hid e2
                clear c2
                go_wp2_with fail
                all_goals (go_meet; exact ⟨congrArg Value.bool (by rw [← HG0.out, okZ, C2.out]; simp), rfl⟩)
            · have e1 : decide (0 ≤ z) = false := decide_eq_false c1
              have C1 := Lib.hid e1
              clear c1
              go_wp2_with fail
              all_goals (go_meet; exact ⟨congrArg Value.bool (by rw [← HG0.out, okZ, C1.out]; simp), rfl⟩)
        case rest =>
          obtain ⟨rfl, hwc⟩ := hcut
          subst hwc
          go_wp2_with fail
          go_loopw [8, 10] (fun b i w' => ∃ j : Nat, j ≤ k ∧ i = .int .i64 j ∧ b = .bool (g0 && decide (z ∉ l.take j)) ∧ ∃ n, w' = wc.drewN n) (fun _ i _ => k - (intOf i).toNat)
          case atStart => exact ⟨0, by omega, rfl, by simp, nq, rfl⟩
          case round =>
            obtain ⟨j, hj, rfl, rfl, nr, rfl⟩ := hrel
            by_cases hjl : j < k
            · have hjl2 : j < l.length := by omega
              obtain ⟨g2, o2, hg2, hcy⟩ := Q.out j hjl2
              injection hg2 with hg2
              injection hg2 with hg2 ho2 _
              subst hg2 ho2
              have htk : ∀ b : Bool, (b && decide (z ∉ l.take (j + 1))) = (b && decide (z ∉ l.take j) && (z != l[j])) := fun b => by
                have hm : (z ∉ l.take (j + 1)) ↔ (z ∉ l.take j ∧ z ≠ l[j]) := by rw [List.take_succ_eq_append_getElem hjl2, List.mem_append, List.mem_singleton, not_or]
                cases b
                · rfl
                · rw [Bool.eq_iff_iff]; simp only [Bool.true_and, Bool.and_eq_true, decide_eq_true_eq, bne_iff_ne, hm]
              obtain ⟨b2, hb2⟩ : ∃ b, (z != l[j]) = b := ⟨_, rfl⟩
              rw [hb2] at htk
              have HTK := Lib.hid htk
              obtain ⟨b1, hb1⟩ : ∃ b, (g0 && decide (z ∉ l.take j)) = b := ⟨_, rfl⟩
              rw [hb1]
              have HB1 := Lib.hid hb1
              clear hb1 htk
              have ii : (j : Int) < l.length := by omega
              have ik : (k : Int) < l.length := by omega
              cases b1
              · go_wp2
                go_quiet (fail)
                go_wp2
                go_roundw
                case rel => exact ⟨j + 1, by omega, by go_num, congrArg Value.bool (by rw [HTK.out, HB1.out]; rfl), _, by first | rfl | exact World.drewN_drewN _ _ _⟩
                case measure => simp [intOf]; omega
              · go_wp2
                go_quiet (fail)
                go_wp2
                go_roundw
                case rel => exact ⟨j + 1, by omega, by go_num, congrArg Value.bool (by rw [HTK.out, HB1.out]; simp), _, by first | rfl | exact World.drewN_drewN _ _ _⟩
                case measure => simp [intOf]; omega
            · obtain rfl : j = k := by omega
              go_wp2
              go_roundw
              case rel =>
                refine ⟨j + 1, by omega, by go_num, congrArg Value.bool ?_, nr, rfl⟩
                rw [← HG0.out, ← HB0.out, Bool.eq_iff_iff]
                simp only [Bool.and_eq_true, decide_eq_true_eq, okZ_iff]
                rw [HI.out, ← HZ.out]
                constructor
                · rintro ⟨⟨⟨a1, a2⟩, a3, a4⟩, a5⟩; exact ⟨a1, a2, a3, a4, a5⟩
                · rintro ⟨a1, a2, a3, a4, a5⟩; exact ⟨⟨⟨a1, a2⟩, a3, a4⟩, a5⟩
              case measure => simp [intOf]; omega
      · obtain rfl : k = l.length := by omega
        rw [List.take_length]
        obtain ⟨fl, hfl⟩ : ∃ b, (f0 && decide (listP frm l)) = b := ⟨_, rfl⟩
        rw [hfl]
        have hfine : fineL frm pred l = fl := by rw [← hfl, fineL, HF0.out]
        have hsv := HS.out.below (below_drewN nq)
        have hbv := below_drewN (w := wc) nq
        generalize wc.drewN nq = V at hsv hbv ⊢
        obtain ⟨t2, ht2⟩ : ∃ t, (frm + 1) % 65536 = t := ⟨_, rfl⟩
        have ht3 : placeB t2 = true ∧ frm ≠ t2 := by
          rw [place_iff, ← ht2]
          omega
        have hr := fun y => Right_any (stM frm t2 pred) A c l (by show (0 : Int) ≤ 7; decide) y
        rw [st_right frm t2 pred l H2.out ht3.1 ht3.2, hfine] at hr
        have HRT := Lib.hid hr
        obtain ⟨p1, p2⟩ := place_iff.1 ht3.1
        have HSV := Lib.hid hsv
        have HBV := Lib.hid hbv
        have HBX := Lib.hid (box_below V (.cells ((stM frm t2 pred).c (.slice A l.length c)) 27))
        have WK := Lib.hid wakes_any
        clear hr ht3 hfine hfl Q hsv hbv hk hlt
        rw [ht2]
        go_wp2_with (first
          | (with_reducible show wpList _ _ _ (Oper.mk _ (Op.load 27 _) _ _ _ _ :: _) _ _
             refine wpList_loadW (Rw.new V ((stM frm t2 pred).c (.slice A l.length c)) 27) agg27 rfl _ rfl rfl ?_))
        refine (Own_any (stM frm t2 pred) (.slice A l.length c) l _ (HSV.out.below HBX.out) (by have := HL.out; omega)).mono ?_
        rintro e w3 ⟨A2, n2, c2, rfl, hs2, hb3⟩
        obtain ⟨rfl, hn2⟩ := hs2.llen
        have r11 := (Rw.new V ((stM frm t2 pred).c (.slice A l.length c)) 27).below hb3
        have hs1 := (HSV.out.below HBX.out).below hb3
        have hB3 := (HBV.out.trans (HBX.out.mono HBV.out.size)).trans (hb3.mono (HBV.out.trans (HBX.out.mono HBV.out.size)).size)
        have hfr := fresh w3 ((stM frm t2 pred).c (.slice A2 l.length c2)) (noM.c nilS)
        have L := Lib.hid (L15.mk (r11.below hfr.2) hfr.1 (hs1.below hfr.2) (hs2.below hfr.2) (hB3.trans (hfr.2.mono hB3.size)))
        have HF := Lib.hid (Rw.new w3 (noM.c nilS) 27)
        have HLN := Lib.hid (show l.length ≤ 6 from h1)
        clear hfr r11 hs1 hs2 hB3 hb3 hn2 HSV HBV HBX
        generalize V.heap.size = b11 at L ⊢
        go_wp2_with (first
          | (with_reducible show wpList _ _ _ (Oper.mk _ (Op.load 27 _) _ _ _ _ :: _) _ _
             refine wpList_loadW LX.r1 agg27 rfl _ rfl rfl ?_)
          | (with_reducible show wpList _ _ _ (Oper.mk _ (Op.store 27 _ _) _ _ _ _ :: _) _ _
             refine wpList_storeR (c := (stM frm t2 pred).c (.slice A2 l.length c2)) rfl _ _ rfl rfl rfl agg27.hi HF.out rfl (M.one _ rfl) ?_
             refine gen_15 L.out ?_
             intro X LX))
        refine (HRT.out X LX.s1).mono ?_
        rintro e w5 ⟨rfl, hb5⟩
        have LY := LX.on hb5
        clear hb5 LX
        have c2 := LY.r2.cell
        generalize w3.heap.size = b12 at LY c2 ⊢
        go_wp2_with (first
          | (with_reducible show wpList _ _ _ (Oper.mk _ (Op.load 27 _) _ _ _ _ :: _) _ _
             first
             | (refine wpList_loadW LY.r1 agg27 rfl _ rfl rfl ?_)
             | (refine wpList_loadW LY.r2 agg27 rfl _ rfl rfl ?_)))
        refine (Same_any (stM frm t2 pred) (stM frm t2 pred) _ _ l l _ LY.s2 LY.s1).mono ?_
        rintro e w6 ⟨rfl, hb6⟩
        rw [show same (stM frm t2 pred) (stM frm t2 pred) l l = true from same_iff.2 ⟨rfl, rfl⟩]
        have LZ := LY.on hb6
        clear hb6 LY c2
        go_wp2_with fail
        refine (WK.out _).mono ?_
        rintro e w7 ⟨rfl, hb7⟩
        have hB := LZ.below.trans (hb7.mono LZ.below.size)
        clear LZ hb7
        go_wp2_with fail
        go_ret
        exact ⟨rfl, hB⟩

theorem lists_walk (W : World) (v : Value) (l : List Int) (hs : Sl W v (iv l)) (_ : ∀ n ∈ l, (Lit.int .i64 n).wf = true) (frm : Int) (_ : (Lit.int .i64 frm).wf = true) (pred : Int) (_ : (Lit.int .i64 pred).wf = true) :
    Calls Try.prog 7 #[v, .int .i64 frm, .int .i64 pred] W fun e w' => e = .returned (.bool true) ∧ Below W.heap.size W w' := by
  obtain ⟨A, n, c, rfl⟩ := hs.slice
  obtain ⟨rfl, _⟩ := hs.llen
  by_cases h : 6 < l.length ∨ frm < 0 ∨ 65535 < frm
  · exact lists_long A _ c frm pred W h
  · exact lists_main A c l frm pred W hs (by omega) (place_iff.2 (by omega))
end Go.Proofs.Ytbklgodbjibemaa
