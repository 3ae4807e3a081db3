/- 'FrameSums': the walk of the law: sums go on by steps; the sum of three rows put together is that of the sums. -/
import Derived.Deep.RegionHeld3
import Derived.StillTailTactics
import Derived.Test.YthjfjlkkbdjgfaaOnlyLaw
import Derived.Test.YthjfjlkkbdjgfaaSumsMath
set_option linter.unusedVariables false
set_option linter.unusedSimpArgs false
namespace Go.Proofs.Ythjfjlkkbdjgfaa
open Go.RowKit Go.Shelf

theorem Sl.q_ {w : World} {A : Option Addr} {m c : Nat} {l : List UInt8} (h : Sl w (.slice A m c) (bv l)) (n j : Nat) (hj : j < n) (hn : n ≤ l.length) : ∃ g off x, A = some ⟨g, off, none⟩ ∧ g < w.heap.size ∧ (l.take n)[j]? = some x ∧ w.cell? ⟨g, off + j, none⟩ = some (.int .u8 (x.toNat : Int)) := by
  obtain ⟨g, off, h1, h2, h3⟩ := h.at_ j (Nat.lt_of_lt_of_le hj hn)
  exact ⟨g, off, _, h1, h2, by rw [List.getElem?_take, if_pos hj, List.getElem?_eq_getElem], h3⟩

set_option maxRecDepth 100000 in
set_option maxHeartbeats 4000000 in
theorem sums_long (A B C : Option Addr) (la ca lb cb lc cc n : Nat) (W : World) (hn : (if (lc : Int) < (if lb < la then (lb : Int) else (la : Int)) then (lc : Int) else (if lb < la then (lb : Int) else (la : Int))) = (n : Int)) (h1 : 100 < n) :
    Calls Try.prog 6 #[.slice A la ca, .slice B lb cb, .slice C lc cc] W fun e w' => e = .returned (.bool true) ∧ Below W.heap.size W w' := by
  go_enter Try.func6, Try.ntmps6
  go_wp2_with fail
  refine (wakes_any _).mono ?_; rintro e w6 ⟨rfl, hb6⟩
  go_wp2
  go_ret
  exact ⟨rfl, hb6⟩

/-- A region that draws its order, whose operations yield the same in every world of a class, and leave one of it: walked once. -/
theorem wp_region_class {P : Program} {id : Nat} {Q : Exit → Act → World → Prop} {a : Act} {w : World} {l : List Oper} (C : World → Prop) (hm : P.follows .mixedOrders = true) (hB : Region.lexB .any l.toArray = true) (hC : C w.drew)
    (h : wpQuiet P l.toArray C (fun a' => ∀ w', C w' → Q .normal a' w') l a) : (Code.region id l.toArray true).wp P Q a w :=
  wp_region_quiet hm hB hC (by simpa using h)

set_option maxRecDepth 100000 in
set_option maxHeartbeats 4000000 in
theorem sums_main (A B C : Option Addr) (ca cb cc : Nat) (a b c : List UInt8) (n : Nat) (W : World) (hsa : Sl W (.slice A a.length ca) (bv a)) (hsb : Sl W (.slice B b.length cb) (bv b)) (hsc : Sl W (.slice C c.length cc) (bv c))
    (hn : (if (c.length : Int) < (if b.length < a.length then (b.length : Int) else (a.length : Int)) then (c.length : Int) else (if b.length < a.length then (b.length : Int) else (a.length : Int))) = (n : Int))
    (h1 : n ≤ 100) (hla : n ≤ a.length) (hlb : n ≤ b.length) (hlc : n ≤ c.length) :
    Calls Try.prog 6 #[.slice A a.length ca, .slice B b.length cb, .slice C c.length cc] W fun e w' => e = .returned (.bool true) ∧ Below W.heap.size W w' := by
  obtain ⟨a', ha'⟩ : ∃ a', a.take n = a' := ⟨_, rfl⟩
  obtain ⟨b', hb'⟩ : ∃ b', b.take n = b' := ⟨_, rfl⟩
  obtain ⟨c', hc'⟩ : ∃ c', c.take n = c' := ⟨_, rfl⟩
  have la' : a'.length = n := by rw [← ha', List.length_take]; omega
  have lb' : b'.length = n := by rw [← hb', List.length_take]; omega
  have lc' : c'.length = n := by rw [← hc', List.length_take]; omega
  obtain ⟨X, hX⟩ : ∃ X, xr a' b' c' = X := ⟨_, rfl⟩
  have hXl : X.length = n := by rw [← hX]; exact xr_length a' b' c' n la' lb' lc'
  have hXg : ∀ j x y z, a'[j]? = some x → b'[j]? = some y → c'[j]? = some z → X[j]? = some (x ^^^ y ^^^ z) := fun j x y z => by rw [← hX]; exact xr_some a' b' c' j x y z
  have hca : ∀ j, j < n → ∃ g off x, A = some ⟨g, off, none⟩ ∧ g < W.heap.size ∧ a'[j]? = some x ∧ W.cell? ⟨g, off + j, none⟩ = some (.int .u8 (x.toNat : Int)) := fun j h => by
    rw [← ha']
    exact hsa.q_ n j h hla
  have hcb : ∀ j, j < n → ∃ g off x, B = some ⟨g, off, none⟩ ∧ g < W.heap.size ∧ b'[j]? = some x ∧ W.cell? ⟨g, off + j, none⟩ = some (.int .u8 (x.toNat : Int)) := fun j h => by
    rw [← hb']
    exact hsb.q_ n j h hlb
  have hcc : ∀ j, j < n → ∃ g off x, C = some ⟨g, off, none⟩ ∧ g < W.heap.size ∧ c'[j]? = some x ∧ W.cell? ⟨g, off + j, none⟩ = some (.int .u8 (x.toNat : Int)) := fun j h => by
    rw [← hc']
    exact hsc.q_ n j h hlc
  have HCA := Lib.hid hca
  have HCB := Lib.hid hcb
  have HCC := Lib.hid hcc
  have HXG := Lib.hid hXg
  have HXL := Lib.hid hXl
  have HLA := Lib.hid la'
  have HLB := Lib.hid lb'
  have HLC := Lib.hid lc'
  have HX := Lib.hid hX
  have HA := Lib.hid ha'
  have HB := Lib.hid hb'
  have HC := Lib.hid hc'
  have HSA := Lib.hid hsa
  have HSB := Lib.hid hsb
  have HSC := Lib.hid hsc
  have hr0 : List.replicate n (Value.int .u8 0) = bv (dl X n 0) := by rw [dl_zero]; unfold bv; rw [List.map_replicate]; rfl
  have HR0 := Lib.hid hr0
  clear hca hcb hcc hXg hXl la' lb' lc' hX ha' hb' hc' hsa hsb hsc hr0
  go_enter Try.func6, Try.ntmps6
  go_wp2_with (at_make; refine wpList_zeros el23 rfl rfl _ _ rfl n rfl rfl (by omega) (by unfold maxLen; omega) ?_; intro w1 hm1; rw [HR0.out] at hm1)
  go_loopw [9, 10, 11] (fun s i k wr => ∃ j : Nat, j ≤ n ∧ i = .int .i64 j ∧ s = .int .u32 ((run ones (bit a') (8 * j)).toNat : Int) ∧ Made W wr 5 (.slice (some ⟨W.heap.size, 0, none⟩) n n) (bv (dl X n j))) (fun _ i _ _ => n - (intOf i).toNat)
  case atStart => exact ⟨0, Nat.zero_le _, rfl, rfl, hm1⟩
  case round =>
    obtain ⟨j, hj, rfl, rfl, hmr⟩ := hrel
    by_cases hlt : j < n
    · obtain ⟨ga, oa, xa, rfl, hga, hxa, hca⟩ := HCA.out j hlt
      obtain ⟨gb, ob, xb, rfl, hgb, hxb, hcb⟩ := HCB.out j hlt
      obtain ⟨gc, oc, xc, rfl, hgc, hxc, hcc⟩ := HCC.out j hlt
      have hca0 := hca
      replace hca := (hmr.below.cell (p := ⟨ga, oa + j, none⟩) hga).trans hca
      replace hcb := (hmr.below.cell (p := ⟨gb, ob + j, none⟩) hgb).trans hcb
      replace hcc := (hmr.below.cell (p := ⟨gc, oc + j, none⟩) hgc).trans hcc
      obtain ⟨g, cap, hg1, _, hcd, hfd, hset⟩ := hmr.byte_ j (by rw [dl_length X n j HXL.out hj]; exact hlt)
      injection hg1 with hg1 hg3 hg2
      injection hg1 with hg1
      injection hg1 with hg1
      subst hg1
      have hxg := HXG.out j xa xb xc hxa hxb hxc
      have hx1 := xor_nat xa xb
      have hx2 := xor_nat (xa ^^^ xb) xc
      have hset2 := hset (xa ^^^ xb ^^^ xc)
      rw [dl_some X n j HXL.out hlt _ hxg] at hset2
      generalize hq1 : xa ^^^ xb = q1 at *
      generalize hq2 : q1 ^^^ xc = q2 at *
      generalize ((dl X n j)[j]'(by rw [dl_length X n j HXL.out hj]; exact hlt)) = q3 at *
      have HSET := Lib.hid hset2
      have HXA := Lib.hid hxa
      have HMR := Lib.hid hmr
      clear hset hset2 hxg hxa hxb hxc hmr hq1 hq2 hg2 hg3 hn
      have i1 : (j : Int) < a.length := by omega
      have i2 : (j : Int) < b.length := by omega
      have i3 : (j : Int) < c.length := by omega
      have i4 : (j : Int) < n := by omega
      have i5 : (0 : Int) ≤ j := by omega
      go_wp2
      go_still_tail 17, (by kernel_rfl)
      change wpList _ _ _ _ _ wr.drew
      go_wp2
      have hm2 := HSET.out.drew
      clear hca hcb hcc hcd hfd hx1 hx2 i2 i3
      generalize (wr.setCell ⟨W.heap.size, j, none⟩ (.int .u8 (q2.toNat : Int))).drew = w2 at *
      have hca := (hm2.below.cell (p := ⟨ga, oa + j, none⟩) hga).trans hca0
      have HM2 := Lib.hid hm2
      have HAT := Lib.hid (show ∀ m, m < 8 → bit a' (8 * j + m) = xa.toBitVec.getLsbD (7 - m) from fun m hm => by
        unfold bit
        rw [show (8 * j + m) / 8 = j by omega, show (8 * j + m) % 8 = m by omega, HXA.out])
      clear hca0 hm2 HSET HMR
      go_loop [9, 11] (fun s k => ∃ m : Nat, m ≤ 8 ∧ k = .int .i64 (7 - m : Int) ∧ s = .int .u32 ((run ones (bit a') (8 * j + m)).toNat : Int)) (fun _ k => (intOf k + 1).toNat)
      case atStart => exact ⟨0, by omega, rfl, rfl⟩
      case round =>
        obtain ⟨m, hm, rfl, rfl⟩ := hrel
        by_cases hm8 : m < 8
        · have hb := shr_bit xa (7 - m) (by omega)
          rw [← HAT.out m hm8] at hb
          have hstep := fun w b => Step_any (run ones (bit a') (8 * j + m)) b w
          have hk : (7 - (m : Int)) = ((7 - m : Nat) : Int) := by omega
          have hrs := run_succ ones (bit a') (8 * j + m)
          obtain ⟨bb, hbb⟩ : ∃ bb, bit a' (8 * j + m) = bb := ⟨_, rfl⟩
          rw [hbb] at hb hrs
          have hs2 := fun w => hstep w bb
          rw [hrs] at hs2
          have HRS := Lib.hid hrs
          clear hstep hrs hbb
          go_wp2_with fail
          refine (hs2 _).mono ?_; rintro e w' ⟨rfl, rfl⟩
          go_wp2
          go_round
          case rel => exact ⟨m + 1, by omega, by go_num; try omega, rfl⟩
          case measure => simp [intOf]; omega
        · obtain rfl : m = 8 := by omega
          go_wp2
          go_roundw
          case rel => exact ⟨j + 1, hlt, by go_num, by rw [show 8 * (j + 1) = 8 * j + 8 by omega], HM2.out⟩
          case measure => simp [intOf]; omega
    · obtain rfl : j = n := by omega
      clear hn
      rw [dl_all X j HXL.out] at hmr
      obtain ⟨X1, d1, hc1, hs1⟩ := run_cut el23 HSA.out 0 j (by omega) (by rw [bv_length]; exact hla) none (some (.int .i64 (j : Int))) (.inr ⟨rfl, rfl⟩) (.inl rfl)
      obtain ⟨X2, d2, hc2, hs2⟩ := run_cut el23 HSB.out 0 j (by omega) (by rw [bv_length]; exact hlb) none (some (.int .i64 (j : Int))) (.inr ⟨rfl, rfl⟩) (.inl rfl)
      obtain ⟨X3, d3, hc3, hs3⟩ := run_cut el23 HSC.out 0 j (by omega) (by rw [bv_length]; exact hlc) none (some (.int .i64 (j : Int))) (.inr ⟨rfl, rfl⟩) (.inl rfl)
      rw [bv_take, List.drop_zero, HA.out] at hs1
      rw [bv_take, List.drop_zero, HB.out] at hs2
      rw [bv_take, List.drop_zero, HC.out] at hs3
      simp only [Nat.sub_zero] at hc1 hc2 hc3 hs1 hs2 hs3
      have K : ∀ (v : Value) (l : List UInt8), Sl W v (bv l) → ∀ w, Made W w 5 (.slice (some ⟨W.heap.size, 0, none⟩) j j) (bv X) → Calls Try.prog 16 #[v] w fun e w' => e = .returned (.int .u32 ((sumB l).toNat : Int)) ∧ Made W w' 5 (.slice (some ⟨W.heap.size, 0, none⟩) j j) (bv X) := fun v l hs w hm => by
        refine (Sum_any v l w (hs.below hm.below)).mono ?_
        rintro e w' ⟨rfl, hb⟩
        exact ⟨rfl, hm.behind hb⟩
      have KX : ∀ w, Made W w 5 (.slice (some ⟨W.heap.size, 0, none⟩) j j) (bv X) → Calls Try.prog 16 #[.slice (some ⟨W.heap.size, 0, none⟩) j j] w fun e w' => e = .returned (.int .u32 ((sumB X).toNat : Int)) ∧ Made W w' 5 (.slice (some ⟨W.heap.size, 0, none⟩) j j) (bv X) := fun w hm => by
        refine (Sum_any _ X w hm.sl).mono ?_
        rintro e w' ⟨rfl, hb⟩
        exact ⟨rfl, hm.behind hb⟩
      have KW : ∀ w, Made W w 5 (.slice (some ⟨W.heap.size, 0, none⟩) j j) (bv X) → Calls Try.prog 9 #[] w fun e w' => e = .returned (.bool true) ∧ Made W w' 5 (.slice (some ⟨W.heap.size, 0, none⟩) j j) (bv X) := fun w hm => by
        refine (wakes_any w).mono ?_
        rintro e w' ⟨rfl, hb⟩
        exact ⟨rfl, hm.behind hb⟩
      have K1 := K _ _ hs1
      have K2 := K _ _ hs2
      have K3 := K _ _ hs3
      have e1 := u32_xor_bv (sumB a') (sumB b')
      have e2 := u32_xor_bv (sumB a' ^^^ sumB b') (sumB c')
      have e3 : sumB a' ^^^ sumB b' ^^^ sumB c' = sumB X := by rw [← HX.out, xr_sum a' b' c' j HLA.out HLB.out HLC.out]
      rw [e3] at e2
      have hsa : run ones (bit a') (8 * j + 32) = sumB a' := by unfold sumB; rw [HLA.out]
      have HSUM := Lib.hid hsa
      generalize sumB X = sX at *
      generalize sumB a' ^^^ sumB b' = sAB at *
      generalize sumB c' = sC at *
      generalize sumB b' = sB at *
      generalize sumB a' = sA at *
      clear e3 hsa K hs1 hs2 hs3 HCA HCB HCC HR0 hm1 hlt hj HXG
      have hbo := fun m (h : m < 32) => bit_out a' (8 * j + m) (by rw [HLA.out]; omega)
      have HBO := Lib.hid hbo
      have HK1 := Lib.hid K1
      have HK2 := Lib.hid K2
      have HK3 := Lib.hid K3
      have HKX := Lib.hid KX
      have HKW := Lib.hid KW
      clear hbo K1 K2 K3 KX KW
      go_wp2
      go_loop [9, 12] (fun s k => ∃ m : Nat, m ≤ 32 ∧ k = .int .i64 m ∧ s = .int .u32 ((run ones (bit a') (8 * j + m)).toNat : Int)) (fun _ k => 32 - (intOf k).toNat)
      case atStart => exact ⟨0, by omega, rfl, rfl⟩
      case round =>
        obtain ⟨m, hm, rfl, rfl⟩ := hrel
        by_cases hm8 : m < 32
        · have hs2 := fun w => Step_any (run ones (bit a') (8 * j + m)) false w
          rw [show stp (run ones (bit a') (8 * j + m)) false = run ones (bit a') (8 * j + (m + 1)) by rw [← Nat.add_assoc, ← run_succ, HBO.out m hm8]] at hs2
          go_wp2_with fail
          refine (hs2 _).mono ?_; rintro e w' ⟨rfl, rfl⟩
          go_wp2
          go_round
          case rel => exact ⟨m + 1, by omega, by go_num, rfl⟩
          case measure => simp [intOf]; omega
        · obtain rfl : m = 32 := by omega
          rw [HSUM.out]
          go_wp2_with fail
          refine wp_region_class (fun w' => Made W w' 5 (.slice (some ⟨W.heap.size, 0, none⟩) j j) (bv X)) (by kernel_rfl) (by kernel_rfl) hmr.drew ?_
          repeat (first | go_big_quiet_skip | (go_big_quiet_want; go_big_quiet_op; first | go_big_quiet_on | (apply Exists.intro; refine ⟨fun _ _ => rfl, ?_⟩; go_big_quiet_on) | go_big_quiet_call ((intro hC; first | (go_at_call_of 16 X1; exact HK1.out _ hC) | (go_at_call_of 16 X2; exact HK2.out _ hC) | (go_at_call_of 16 X3; exact HK3.out _ hC) | (go_at_call 9; exact HKW.out _ hC) | (go_at_call 16; exact HKX.out _ hC)))))
          refine wpQuiet_nil ?_
          intro w3 hm3
          go_wp2
          go_ret
          exact ⟨rfl, hm3.below⟩

theorem sums_walk (W : World) (u : Value) (a : List UInt8) (hsa : Sl W u (bv a)) (v : Value) (b : List UInt8) (hsb : Sl W v (bv b)) (x : Value) (c : List UInt8) (hsc : Sl W x (bv c)) :
    Calls Try.prog 6 #[u, v, x] W fun e w' => e = .returned (.bool true) ∧ Below W.heap.size W w' := by
  obtain ⟨A, ca, rfl⟩ := hsa.form
  obtain ⟨B, cb, rfl⟩ := hsb.form
  obtain ⟨C, cc, rfl⟩ := hsc.form
  rw [bv_length] at *
  rw [bv_length] at *
  rw [bv_length] at *
  have hn : (if (c.length : Int) < (if b.length < a.length then (b.length : Int) else (a.length : Int)) then (c.length : Int) else (if b.length < a.length then (b.length : Int) else (a.length : Int))) = ((min (min a.length b.length) c.length : Nat) : Int) := by
    by_cases h1 : b.length < a.length
    · rw [if_pos h1]
      by_cases h2 : (c.length : Int) < b.length
      · rw [if_pos h2]; omega
      · rw [if_neg h2]; omega
    · rw [if_neg h1]
      by_cases h2 : (c.length : Int) < a.length
      · rw [if_pos h2]; omega
      · rw [if_neg h2]; omega
  by_cases h : 100 < min (min a.length b.length) c.length
  · exact sums_long A B C _ ca _ cb _ cc _ W hn h
  · exact sums_main A B C ca cb cc a b c _ W hsa hsb hsc hn (by omega) (by omega) (by omega) (by omega)
end Go.Proofs.Ythjfjlkkbdjgfaa
