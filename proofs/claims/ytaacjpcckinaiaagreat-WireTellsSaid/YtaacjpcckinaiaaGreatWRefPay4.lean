/- The document's own payload of a message that may be, kind by kind. -/
import Derived.Test.YtaacjpcckinaiaaGreatWRefL
set_option linter.unusedVariables false
set_option maxRecDepth 100000
set_option linter.unusedSimpArgs false
namespace Go.Proofs.YtaacjpcckinaiaaGreat
open Go.RowKit Go.Shelf Ms

set_option maxHeartbeats 16000000 in
theorem Payload_ref_12 (m : M) (A : Option Addr) (c : Nat) (l : List Int) (hk0 : 0 ≤ m.kind) (w : World) (hs : Sl w (.slice A l.length c) (iv l)) (h : rightB m l = true) (hk : m.kind = 12) :
    Calls Tryz.prog 11 #[.agg (m.c (.slice A l.length c))] w fun e w' => ∃ v, e = .returned (.tuple #[v, .int .i64 0]) ∧ Sl w' v (bv (payB m l)) ∧ Below w.heap.size w w' := by
  have HKK := Lib.hid hk
  clear hk
  have R0 := Rw.new w (m.c (.slice A l.length c)) 27
  have B0 := box_below w (.cells (m.c (.slice A l.length c)) 27)
  have S0 := hs.below B0
  generalize hW : w.alloc (.cells (m.c (.slice A l.length c)) 27) = W at R0 B0 S0
  have HR0 := Lib.hid R0
  have HB0 := Lib.hid B0
  have HS0 := Lib.hid S0
  have c0 := R0.cell
  have HK := Lib.hid (fun (X : World) (hb : Below W.heap.size W X) => (R0.below hb).cell)
  have a1 := fun w h => rRight_any m A c l hk0 w h
  rw [h] at a1
  have A1 := Lib.hid a1
  have hh := okHead h
  obtain ⟨k0, k1, c00, c1, f0, f1, t0, t1⟩ := hh
  have HH := Lib.hid (And.intro k0 (And.intro k1 (And.intro c00 (And.intro c1 (And.intro f0 (And.intro f1 (And.intro t0 t1)))))))
  have hl : (bv (nB m.kind)).length ≤ 7 ∧ (bv (nB m.call)).length ≤ 7 ∧ (bv (nB m.frm)).length ≤ 7 ∧ (bv (nB m.to)).length ≤ 7 := by
    simp only [bv_length]
    exact ⟨nB_7 _ (by omega), nB_7 _ (by omega), nB_7 _ (by omega), nB_7 _ (by omega)⟩
  have HL := Lib.hid hl
  have hwk : IntKind.i64.wrap m.kind = m.kind := wrap_i64 (by omega) (by omega)
  have OKD := Lib.hid (okD_of_right h)
  have LEN := Lib.hid (payB_len h)
  clear h hl hs R0 B0 S0 hk0 a1 k0 k1 c00 c1 f0 f1 t0 t1
  go_enter Tryz.func11, Tryz.ntmps11
  go_wp2_with (first
    | (with_reducible show wpList _ _ _ (Oper.mk _ (Op.load 27 (.tmp 1)) _ _ _ _ :: _) _ _
       refine wpList_loadW HR0.out agg27 rfl _ rfl rfl ?_))
  refine (A1.out _ HS0.out).mono ?_; rintro e w1 ⟨rfl, hb⟩
  have HB := Lib.hid hb
  clear hb
  go_wp2_with fail
  have hS : ∀ X, Below W.heap.size W X → Below W.heap.size W X ∧ X.cell? ⟨w.heap.size, 0, none⟩ = some (.int .u8 m.kind) ∧ X.cell? ⟨w.heap.size, 1, none⟩ = some (.int .i64 m.call) ∧ X.cell? ⟨w.heap.size, 2, none⟩ = some (.int .i64 m.frm) ∧ X.cell? ⟨w.heap.size, 3, none⟩ = some (.int .i64 m.to) := fun X hb => ⟨hb, HK.out X hb 0, HK.out X hb 1, HK.out X hb 2, HK.out X hb 3⟩
  have HS := Lib.hid hS
  clear hS
  go_region_held3 (fun X => Below W.heap.size W X ∧ X.cell? ⟨w.heap.size, 0, none⟩ = some (.int .u8 m.kind) ∧ X.cell? ⟨w.heap.size, 1, none⟩ = some (.int .i64 m.call) ∧ X.cell? ⟨w.heap.size, 2, none⟩ = some (.int .i64 m.frm) ∧ X.cell? ⟨w.heap.size, 3, none⟩ = some (.int .i64 m.to))
    (first
      | exact HS.out _ HB.out.drew
      | assumption
      | exact HS.out _ (HB.out.drew.trans ((Made.below (by assumption)).mono HB.out.drew.size))
      | exact HS.out _ (And.left (by assumption)))
    (first
      | (go_at_call_of 27 (m.kind); refine (number_ok m.kind (by have := HH.out; omega) (by have := HH.out; omega) _).mono ?_; rintro e w2 ⟨va, rfl, ha⟩)
      | (go_at_call_of 27 (m.call); refine (number_ok m.call (by have := HH.out; omega) (by have := HH.out; omega) _).mono ?_; rintro e w3 ⟨vb, rfl, hb⟩; have h1 := ha.behind hb.below)
      | (refine step_more Frm.el23 rfl (.tmp 15) (.tmp 18) rfl rfl h1 rfl hb.sl (bv_one _) (by have := HL.out; (try simp only [List.length_append]); omega) ?_; intro v4 w4 h2)
      | (go_at_call_of 27 (m.frm); refine (number_ok m.frm (by have := HH.out; omega) (by have := HH.out; omega) _).mono ?_; rintro e w5 ⟨vc, rfl, hc⟩; have h3 := h2.behind hc.below)
      | (refine step_more Frm.el23 rfl (.tmp 19) (.tmp 22) rfl rfl h3 rfl hc.sl (bv_one _) (by have := HL.out; (try simp only [List.length_append]); omega) ?_; intro v6 w6 h4)
      | (go_at_call_of 27 (m.to); refine (number_ok m.to (by have := HH.out; omega) (by have := HH.out; omega) _).mono ?_; rintro e w7 ⟨vd, rfl, hd⟩; have h5 := h4.behind hd.below)
      | (refine step_more Frm.el23 rfl (.tmp 23) (.tmp 26) rfl rfl h5 rfl hd.sl (bv_one _) (by have := HL.out; (try simp only [List.length_append]); omega) ?_; intro v8 w8 h6))
  have HB8 := Lib.hid (HB.out.drew.trans (h6.below.mono HB.out.drew.size))
  have e0 : heads.flatMap (dB m []) = nB m.kind ++ nB m.call ++ nB m.frm ++ nB m.to := by simp [heads, dB, geti, List.append_assoc]
  obtain ⟨Hd, hHd⟩ : ∃ Hd, heads.flatMap (dB m []) = Hd := ⟨_, rfl⟩
  have H2 := Lib.hid (show payB m l = Hd ++ (tail m.kind).flatMap (dB m l) by rw [payB_eq, hHd])
  have HD28 := Lib.hid (show (bv Hd).length ≤ 28 by have := HL.out; rw [← hHd, e0, bv_append, bv_append, bv_append]; simp only [List.length_append]; omega)
  rw [← bv_append, ← bv_append, ← bv_append, ← e0, hHd] at h6
  have HM := Lib.hid h6
  clear hHd e0 h6 h5 h4 h3 h2 h1 ha hb hc hd
  have c8 := HK.out _ HB8.out
  have IT := Lib.hid (m.item (.slice A l.length c))
  clear c0
  have q4 : (m.kind == 4) = false := by rw [HKK.out]; rfl
  have q5 : (m.kind == 5) = false := by rw [HKK.out]; rfl
  have q6 : (m.kind == 6) = false := by rw [HKK.out]; rfl
  have q7 : (m.kind == 7) = false := by rw [HKK.out]; rfl
  have q10 : (m.kind == 10) = false := by rw [HKK.out]; rfl
  have q11 : (m.kind == 11) = false := by rw [HKK.out]; rfl
  have q12 : (m.kind == 12) = true := by rw [HKK.out]; rfl
  have o1 : 0 ≤ m.code ∧ m.code ≤ 1099511627776 := OKD.out (.err) (by rw [HKK.out]; simp [tail_12])
  have o2 : m.code = 0 → OkIt m.it := OKD.out (.side) (by rw [HKK.out]; simp [tail_12])
  have L1 := Lib.hid (show (bv (nB (m.code))).length ≤ 7 by rw [bv_length]; exact nB_7 _ (by omega))
  go_wp2_with fail
  refine (number_ok m.code o1.1 o1.2 _).mono ?_; rintro e w9 ⟨va, rfl, ha⟩
  have h1 := HM.out.behind ha.below
  by_cases hc : m.code = 0
  · have qc : (m.code == 0) = true := by rw [hc]; rfl
    have L2 := Lib.hid (itB_le (o2 hc))
    go_wp2_with (first
      | (at_builtin; refine wpList_more Frm.el23 rfl (.tmp 98) (.tmp 101) rfl rfl h1 rfl ha.sl (bv_one _) (by have := L1.out; have := HD28.out; (try simp only [List.length_append]); omega) ?_; intro h2v h2w h2
         have HX := Lib.hid (HB.out.drew.trans (h2.below.mono HB.out.drew.size))
         have cx := HK.out _ HX.out)
      | (with_reducible show wpList _ _ _ (Oper.mk _ (Op.load 24 _) _ _ _ _ :: _) _ _
         refine wpList_loadPt (HR0.out.below HX.out) IT.out agg24 rfl _ rfl rfl ?_))
    refine (pair_ok m.it (o2 hc) _).mono ?_; rintro e wa ⟨vb, rfl, sb, hb⟩
    have h3 := h2.behind hb
    go_wp2_with (at_builtin; refine wpList_more Frm.el23 rfl (.tmp 106) (.tmp 109) rfl rfl h3 rfl sb (bv_one _) (by have := L1.out; have := HD28.out; have := L2.out; have := bv_length (itB m.it); (try simp only [List.length_append]); omega) ?_; intro h4v h4w h4)
    go_wp2_with fail
    go_ret2
    refine ⟨_, rfl, ?_, HB0.out.trans ((HB.out.drew.trans (h4.below.mono HB.out.drew.size)).mono HB0.out.size)⟩
    have e : bv (payB m l) = bv Hd ++ bv (nB m.code) ++ bv (itB m.it) := by rw [H2.out, HKK.out, tail_12]; simp [dB, geti, getb, bv_append, hc]
    rw [e]
    exact h4.sl
  · have qc : (m.code == 0) = false := by simp [hc]
    go_wp2_with (first
      | (at_builtin; refine wpList_more Frm.el23 rfl (.tmp 98) (.tmp 101) rfl rfl h1 rfl ha.sl (bv_one _) (by have := L1.out; have := HD28.out; (try simp only [List.length_append]); omega) ?_; intro h2v h2w h2
         have HX := Lib.hid (HB.out.drew.trans (h2.below.mono HB.out.drew.size))
         have cx := HK.out _ HX.out))
    go_wp2_with fail
    go_ret2
    refine ⟨_, rfl, ?_, HB0.out.trans ((HB.out.drew.trans (h2.below.mono HB.out.drew.size)).mono HB0.out.size)⟩
    have e : bv (payB m l) = bv Hd ++ bv (nB m.code) := by rw [H2.out, HKK.out, tail_12]; simp [dB, geti, getb, bv_append, hc]
    rw [e]
    exact h2.sl

set_option maxHeartbeats 16000000 in
theorem Payload_ref_0 (m : M) (A : Option Addr) (c : Nat) (l : List Int) (hk0 : 0 ≤ m.kind) (w : World) (hs : Sl w (.slice A l.length c) (iv l)) (h : rightB m l = true) (n4 : m.kind ≠ 4) (n5 : m.kind ≠ 5) (n6 : m.kind ≠ 6) (n7 : m.kind ≠ 7) (n10 : m.kind ≠ 10) (n11 : m.kind ≠ 11) (n12 : m.kind ≠ 12) :
    Calls Tryz.prog 11 #[.agg (m.c (.slice A l.length c))] w fun e w' => ∃ v, e = .returned (.tuple #[v, .int .i64 0]) ∧ Sl w' v (bv (payB m l)) ∧ Below w.heap.size w w' := by
  have R0 := Rw.new w (m.c (.slice A l.length c)) 27
  have B0 := box_below w (.cells (m.c (.slice A l.length c)) 27)
  have S0 := hs.below B0
  generalize hW : w.alloc (.cells (m.c (.slice A l.length c)) 27) = W at R0 B0 S0
  have HR0 := Lib.hid R0
  have HB0 := Lib.hid B0
  have HS0 := Lib.hid S0
  have c0 := R0.cell
  have HK := Lib.hid (fun (X : World) (hb : Below W.heap.size W X) => (R0.below hb).cell)
  have a1 := fun w h => rRight_any m A c l hk0 w h
  rw [h] at a1
  have A1 := Lib.hid a1
  have hh := okHead h
  obtain ⟨k0, k1, c00, c1, f0, f1, t0, t1⟩ := hh
  have HH := Lib.hid (And.intro k0 (And.intro k1 (And.intro c00 (And.intro c1 (And.intro f0 (And.intro f1 (And.intro t0 t1)))))))
  have hl : (bv (nB m.kind)).length ≤ 7 ∧ (bv (nB m.call)).length ≤ 7 ∧ (bv (nB m.frm)).length ≤ 7 ∧ (bv (nB m.to)).length ≤ 7 := by
    simp only [bv_length]
    exact ⟨nB_7 _ (by omega), nB_7 _ (by omega), nB_7 _ (by omega), nB_7 _ (by omega)⟩
  have HL := Lib.hid hl
  have hwk : IntKind.i64.wrap m.kind = m.kind := wrap_i64 (by omega) (by omega)
  have OKD := Lib.hid (okD_of_right h)
  have LEN := Lib.hid (payB_len h)
  clear h hl hs R0 B0 S0 hk0 a1 k0 k1 c00 c1 f0 f1 t0 t1
  go_enter Tryz.func11, Tryz.ntmps11
  go_wp2_with (first
    | (with_reducible show wpList _ _ _ (Oper.mk _ (Op.load 27 (.tmp 1)) _ _ _ _ :: _) _ _
       refine wpList_loadW HR0.out agg27 rfl _ rfl rfl ?_))
  refine (A1.out _ HS0.out).mono ?_; rintro e w1 ⟨rfl, hb⟩
  have HB := Lib.hid hb
  clear hb
  go_wp2_with fail
  have hS : ∀ X, Below W.heap.size W X → Below W.heap.size W X ∧ X.cell? ⟨w.heap.size, 0, none⟩ = some (.int .u8 m.kind) ∧ X.cell? ⟨w.heap.size, 1, none⟩ = some (.int .i64 m.call) ∧ X.cell? ⟨w.heap.size, 2, none⟩ = some (.int .i64 m.frm) ∧ X.cell? ⟨w.heap.size, 3, none⟩ = some (.int .i64 m.to) := fun X hb => ⟨hb, HK.out X hb 0, HK.out X hb 1, HK.out X hb 2, HK.out X hb 3⟩
  have HS := Lib.hid hS
  clear hS
  go_region_held3 (fun X => Below W.heap.size W X ∧ X.cell? ⟨w.heap.size, 0, none⟩ = some (.int .u8 m.kind) ∧ X.cell? ⟨w.heap.size, 1, none⟩ = some (.int .i64 m.call) ∧ X.cell? ⟨w.heap.size, 2, none⟩ = some (.int .i64 m.frm) ∧ X.cell? ⟨w.heap.size, 3, none⟩ = some (.int .i64 m.to))
    (first
      | exact HS.out _ HB.out.drew
      | assumption
      | exact HS.out _ (HB.out.drew.trans ((Made.below (by assumption)).mono HB.out.drew.size))
      | exact HS.out _ (And.left (by assumption)))
    (first
      | (go_at_call_of 27 (m.kind); refine (number_ok m.kind (by have := HH.out; omega) (by have := HH.out; omega) _).mono ?_; rintro e w2 ⟨va, rfl, ha⟩)
      | (go_at_call_of 27 (m.call); refine (number_ok m.call (by have := HH.out; omega) (by have := HH.out; omega) _).mono ?_; rintro e w3 ⟨vb, rfl, hb⟩; have h1 := ha.behind hb.below)
      | (refine step_more Frm.el23 rfl (.tmp 15) (.tmp 18) rfl rfl h1 rfl hb.sl (bv_one _) (by have := HL.out; (try simp only [List.length_append]); omega) ?_; intro v4 w4 h2)
      | (go_at_call_of 27 (m.frm); refine (number_ok m.frm (by have := HH.out; omega) (by have := HH.out; omega) _).mono ?_; rintro e w5 ⟨vc, rfl, hc⟩; have h3 := h2.behind hc.below)
      | (refine step_more Frm.el23 rfl (.tmp 19) (.tmp 22) rfl rfl h3 rfl hc.sl (bv_one _) (by have := HL.out; (try simp only [List.length_append]); omega) ?_; intro v6 w6 h4)
      | (go_at_call_of 27 (m.to); refine (number_ok m.to (by have := HH.out; omega) (by have := HH.out; omega) _).mono ?_; rintro e w7 ⟨vd, rfl, hd⟩; have h5 := h4.behind hd.below)
      | (refine step_more Frm.el23 rfl (.tmp 23) (.tmp 26) rfl rfl h5 rfl hd.sl (bv_one _) (by have := HL.out; (try simp only [List.length_append]); omega) ?_; intro v8 w8 h6))
  have HB8 := Lib.hid (HB.out.drew.trans (h6.below.mono HB.out.drew.size))
  have e0 : heads.flatMap (dB m []) = nB m.kind ++ nB m.call ++ nB m.frm ++ nB m.to := by simp [heads, dB, geti, List.append_assoc]
  obtain ⟨Hd, hHd⟩ : ∃ Hd, heads.flatMap (dB m []) = Hd := ⟨_, rfl⟩
  have H2 := Lib.hid (show payB m l = Hd ++ (tail m.kind).flatMap (dB m l) by rw [payB_eq, hHd])
  have HD28 := Lib.hid (show (bv Hd).length ≤ 28 by have := HL.out; rw [← hHd, e0, bv_append, bv_append, bv_append]; simp only [List.length_append]; omega)
  rw [← bv_append, ← bv_append, ← bv_append, ← e0, hHd] at h6
  have HM := Lib.hid h6
  clear hHd e0 h6 h5 h4 h3 h2 h1 ha hb hc hd
  have c8 := HK.out _ HB8.out
  have IT := Lib.hid (m.item (.slice A l.length c))
  clear c0
  have q4 : (m.kind == 4) = false := by simp [n4]
  have q5 : (m.kind == 5) = false := by simp [n5]
  have q6 : (m.kind == 6) = false := by simp [n6]
  have q7 : (m.kind == 7) = false := by simp [n7]
  have q10 : (m.kind == 10) = false := by simp [n10]
  have q11 : (m.kind == 11) = false := by simp [n11]
  have q12 : (m.kind == 12) = false := by simp [n12]
  go_wp2_with fail
  go_ret2
  refine ⟨_, rfl, ?_, HB0.out.trans ((HB.out.drew.trans (HM.out.below.mono HB.out.drew.size)).mono HB0.out.size)⟩
  have e : bv (payB m l) = bv Hd := by rw [H2.out, tail_not n4 n5 n6 n7 n10 n11 n12]; simp
  rw [e]
  exact HM.out.sl
end Go.Proofs.YtaacjpcckinaiaaGreat
