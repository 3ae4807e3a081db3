/- The document's own payload of a message that may be, kind by kind. -/
import Derived.Test.YtaacjpcckinaiaaGreatWRefL
set_option linter.unusedVariables false
set_option maxRecDepth 100000
set_option linter.unusedSimpArgs false
namespace Go.Proofs.YtaacjpcckinaiaaGreat
open Go.RowKit Go.Shelf Ms

set_option maxHeartbeats 16000000 in
theorem Payload_ref_6 (m : M) (A : Option Addr) (c : Nat) (l : List Int) (hk0 : 0 ≤ m.kind) (w : World) (hs : Sl w (.slice A l.length c) (iv l)) (h : rightB m l = true) (hk : m.kind = 6) :
    Calls Tryz.prog 11 #[.agg (m.c (.slice A l.length c))] w fun e w' => ∃ v, e = .returned (.tuple #[v, .int .i64 0]) ∧ Sl w' v (bv (payB m l)) ∧ Below w.heap.size w w' := by
  have HKK := Lib.hid hk
  clear hk
  have R0 := Rw.new w (m.c (.slice A l.length c)) 27
  have B0 := box_below w (.cells (m.c (.slice A l.length c)) 27)
  have S0 := hs.below B0
  generalize hW : w.alloc (.cells (m.c (.slice A l.length c)) 27) = W at R0 B0 S0
  have HR0 := Lib.hid R0
  have HB0 := Lib.hid B0
  have HS0 := Lib.hid S0
  have c0 := R0.cell
  have HK := Lib.hid (fun (X : World) (hb : Below W.heap.size W X) => (R0.below hb).cell)
  have a1 := fun w h => rRight_any m A c l hk0 w h
  rw [h] at a1
  have A1 := Lib.hid a1
  have hh := okHead h
  obtain ⟨k0, k1, c00, c1, f0, f1, t0, t1⟩ := hh
  have HH := Lib.hid (And.intro k0 (And.intro k1 (And.intro c00 (And.intro c1 (And.intro f0 (And.intro f1 (And.intro t0 t1)))))))
  have hl : (bv (nB m.kind)).length ≤ 7 ∧ (bv (nB m.call)).length ≤ 7 ∧ (bv (nB m.frm)).length ≤ 7 ∧ (bv (nB m.to)).length ≤ 7 := by
    simp only [bv_length]
    exact ⟨nB_7 _ (by omega), nB_7 _ (by omega), nB_7 _ (by omega), nB_7 _ (by omega)⟩
  have HL := Lib.hid hl
  have hwk : IntKind.i64.wrap m.kind = m.kind := wrap_i64 (by omega) (by omega)
  have OKD := Lib.hid (okD_of_right h)
  have LEN := Lib.hid (payB_len h)
  clear h hl hs R0 B0 S0 hk0 a1 k0 k1 c00 c1 f0 f1 t0 t1
  go_enter Tryz.func11, Tryz.ntmps11
  go_wp2_with (first
    | (with_reducible show wpList _ _ _ (Oper.mk _ (Op.load 27 (.tmp 1)) _ _ _ _ :: _) _ _
       refine wpList_loadW HR0.out agg27 rfl _ rfl rfl ?_))
  refine (A1.out _ HS0.out).mono ?_; rintro e w1 ⟨rfl, hb⟩
  have HB := Lib.hid hb
  clear hb
  go_wp2_with fail
  have hS : ∀ X, Below W.heap.size W X → Below W.heap.size W X ∧ X.cell? ⟨w.heap.size, 0, none⟩ = some (.int .u8 m.kind) ∧ X.cell? ⟨w.heap.size, 1, none⟩ = some (.int .i64 m.call) ∧ X.cell? ⟨w.heap.size, 2, none⟩ = some (.int .i64 m.frm) ∧ X.cell? ⟨w.heap.size, 3, none⟩ = some (.int .i64 m.to) := fun X hb => ⟨hb, HK.out X hb 0, HK.out X hb 1, HK.out X hb 2, HK.out X hb 3⟩
  have HS := Lib.hid hS
  clear hS
  go_region_held3 (fun X => Below W.heap.size W X ∧ X.cell? ⟨w.heap.size, 0, none⟩ = some (.int .u8 m.kind) ∧ X.cell? ⟨w.heap.size, 1, none⟩ = some (.int .i64 m.call) ∧ X.cell? ⟨w.heap.size, 2, none⟩ = some (.int .i64 m.frm) ∧ X.cell? ⟨w.heap.size, 3, none⟩ = some (.int .i64 m.to))
    (first
      | exact HS.out _ HB.out.drew
      | assumption
      | exact HS.out _ (HB.out.drew.trans ((Made.below (by assumption)).mono HB.out.drew.size))
      | exact HS.out _ (And.left (by assumption)))
    (first
      | (go_at_call_of 27 (m.kind); refine (number_ok m.kind (by have := HH.out; omega) (by have := HH.out; omega) _).mono ?_; rintro e w2 ⟨va, rfl, ha⟩)
      | (go_at_call_of 27 (m.call); refine (number_ok m.call (by have := HH.out; omega) (by have := HH.out; omega) _).mono ?_; rintro e w3 ⟨vb, rfl, hb⟩; have h1 := ha.behind hb.below)
      | (refine step_more Frm.el23 rfl (.tmp 15) (.tmp 18) rfl rfl h1 rfl hb.sl (bv_one _) (by have := HL.out; (try simp only [List.length_append]); omega) ?_; intro v4 w4 h2)
      | (go_at_call_of 27 (m.frm); refine (number_ok m.frm (by have := HH.out; omega) (by have := HH.out; omega) _).mono ?_; rintro e w5 ⟨vc, rfl, hc⟩; have h3 := h2.behind hc.below)
      | (refine step_more Frm.el23 rfl (.tmp 19) (.tmp 22) rfl rfl h3 rfl hc.sl (bv_one _) (by have := HL.out; (try simp only [List.length_append]); omega) ?_; intro v6 w6 h4)
      | (go_at_call_of 27 (m.to); refine (number_ok m.to (by have := HH.out; omega) (by have := HH.out; omega) _).mono ?_; rintro e w7 ⟨vd, rfl, hd⟩; have h5 := h4.behind hd.below)
      | (refine step_more Frm.el23 rfl (.tmp 23) (.tmp 26) rfl rfl h5 rfl hd.sl (bv_one _) (by have := HL.out; (try simp only [List.length_append]); omega) ?_; intro v8 w8 h6))
  have HB8 := Lib.hid (HB.out.drew.trans (h6.below.mono HB.out.drew.size))
  have e0 : heads.flatMap (dB m []) = nB m.kind ++ nB m.call ++ nB m.frm ++ nB m.to := by simp [heads, dB, geti, List.append_assoc]
  obtain ⟨Hd, hHd⟩ : ∃ Hd, heads.flatMap (dB m []) = Hd := ⟨_, rfl⟩
  have H2 := Lib.hid (show payB m l = Hd ++ (tail m.kind).flatMap (dB m l) by rw [payB_eq, hHd])
  have HD28 := Lib.hid (show (bv Hd).length ≤ 28 by have := HL.out; rw [← hHd, e0, bv_append, bv_append, bv_append]; simp only [List.length_append]; omega)
  rw [← bv_append, ← bv_append, ← bv_append, ← e0, hHd] at h6
  have HM := Lib.hid h6
  clear hHd e0 h6 h5 h4 h3 h2 h1 ha hb hc hd
  have c8 := HK.out _ HB8.out
  have IT := Lib.hid (m.item (.slice A l.length c))
  clear c0
  have q4 : (m.kind == 4) = false := by rw [HKK.out]; rfl
  have q5 : (m.kind == 5) = false := by rw [HKK.out]; rfl
  have q6 : (m.kind == 6) = true := by rw [HKK.out]; rfl
  have q7 : (m.kind == 7) = false := by rw [HKK.out]; rfl
  have q10 : (m.kind == 10) = false := by rw [HKK.out]; rfl
  have q11 : (m.kind == 11) = false := by rw [HKK.out]; rfl
  have q12 : (m.kind == 12) = false := by rw [HKK.out]; rfl
  have o1 : m.it.key.size ≤ 255 := OKD.out (.text) (by rw [HKK.out]; simp [tail_6])
  have L1 := Lib.hid (textB_256 m.it.key)
  go_wp2_with fail
  refine (Num.refText_any m.it.key _).mono ?_; rintro e w9 ⟨va, rfl, sa, hb⟩
  have h1 := HM.out.behind hb
  go_wp2_with (at_builtin; refine wpList_more Frm.el23 rfl (.tmp 58) (.tmp 59) rfl rfl h1 rfl sa (bv_one _) (by have := L1.out; have := HD28.out; (try simp only [List.length_append]); omega) ?_; intro h2v h2w h2)
  go_wp2_with fail
  go_ret2
  refine ⟨_, rfl, ?_, HB0.out.trans ((HB.out.drew.trans (h2.below.mono HB.out.drew.size)).mono HB0.out.size)⟩
  have e : bv (payB m l) = bv Hd ++ bv (Num.textB m.it.key.data.toList) := by rw [H2.out, HKK.out, tail_6]; simp [dB, geti, getb, bv_append]
  rw [e]
  exact h2.sl

set_option maxHeartbeats 16000000 in
theorem Payload_ref_7 (m : M) (A : Option Addr) (c : Nat) (l : List Int) (hk0 : 0 ≤ m.kind) (w : World) (hs : Sl w (.slice A l.length c) (iv l)) (h : rightB m l = true) (hk : m.kind = 7) :
    Calls Tryz.prog 11 #[.agg (m.c (.slice A l.length c))] w fun e w' => ∃ v, e = .returned (.tuple #[v, .int .i64 0]) ∧ Sl w' v (bv (payB m l)) ∧ Below w.heap.size w w' := by
  have HKK := Lib.hid hk
  clear hk
  have R0 := Rw.new w (m.c (.slice A l.length c)) 27
  have B0 := box_below w (.cells (m.c (.slice A l.length c)) 27)
  have S0 := hs.below B0
  generalize hW : w.alloc (.cells (m.c (.slice A l.length c)) 27) = W at R0 B0 S0
  have HR0 := Lib.hid R0
  have HB0 := Lib.hid B0
  have HS0 := Lib.hid S0
  have c0 := R0.cell
  have HK := Lib.hid (fun (X : World) (hb : Below W.heap.size W X) => (R0.below hb).cell)
  have a1 := fun w h => rRight_any m A c l hk0 w h
  rw [h] at a1
  have A1 := Lib.hid a1
  have hh := okHead h
  obtain ⟨k0, k1, c00, c1, f0, f1, t0, t1⟩ := hh
  have HH := Lib.hid (And.intro k0 (And.intro k1 (And.intro c00 (And.intro c1 (And.intro f0 (And.intro f1 (And.intro t0 t1)))))))
  have hl : (bv (nB m.kind)).length ≤ 7 ∧ (bv (nB m.call)).length ≤ 7 ∧ (bv (nB m.frm)).length ≤ 7 ∧ (bv (nB m.to)).length ≤ 7 := by
    simp only [bv_length]
    exact ⟨nB_7 _ (by omega), nB_7 _ (by omega), nB_7 _ (by omega), nB_7 _ (by omega)⟩
  have HL := Lib.hid hl
  have hwk : IntKind.i64.wrap m.kind = m.kind := wrap_i64 (by omega) (by omega)
  have OKD := Lib.hid (okD_of_right h)
  have LEN := Lib.hid (payB_len h)
  clear h hl hs R0 B0 S0 hk0 a1 k0 k1 c00 c1 f0 f1 t0 t1
  go_enter Tryz.func11, Tryz.ntmps11
  go_wp2_with (first
    | (with_reducible show wpList _ _ _ (Oper.mk _ (Op.load 27 (.tmp 1)) _ _ _ _ :: _) _ _
       refine wpList_loadW HR0.out agg27 rfl _ rfl rfl ?_))
  refine (A1.out _ HS0.out).mono ?_; rintro e w1 ⟨rfl, hb⟩
  have HB := Lib.hid hb
  clear hb
  go_wp2_with fail
  have hS : ∀ X, Below W.heap.size W X → Below W.heap.size W X ∧ X.cell? ⟨w.heap.size, 0, none⟩ = some (.int .u8 m.kind) ∧ X.cell? ⟨w.heap.size, 1, none⟩ = some (.int .i64 m.call) ∧ X.cell? ⟨w.heap.size, 2, none⟩ = some (.int .i64 m.frm) ∧ X.cell? ⟨w.heap.size, 3, none⟩ = some (.int .i64 m.to) := fun X hb => ⟨hb, HK.out X hb 0, HK.out X hb 1, HK.out X hb 2, HK.out X hb 3⟩
  have HS := Lib.hid hS
  clear hS
  go_region_held3 (fun X => Below W.heap.size W X ∧ X.cell? ⟨w.heap.size, 0, none⟩ = some (.int .u8 m.kind) ∧ X.cell? ⟨w.heap.size, 1, none⟩ = some (.int .i64 m.call) ∧ X.cell? ⟨w.heap.size, 2, none⟩ = some (.int .i64 m.frm) ∧ X.cell? ⟨w.heap.size, 3, none⟩ = some (.int .i64 m.to))
    (first
      | exact HS.out _ HB.out.drew
      | assumption
      | exact HS.out _ (HB.out.drew.trans ((Made.below (by assumption)).mono HB.out.drew.size))
      | exact HS.out _ (And.left (by assumption)))
    (first
      | (go_at_call_of 27 (m.kind); refine (number_ok m.kind (by have := HH.out; omega) (by have := HH.out; omega) _).mono ?_; rintro e w2 ⟨va, rfl, ha⟩)
      | (go_at_call_of 27 (m.call); refine (number_ok m.call (by have := HH.out; omega) (by have := HH.out; omega) _).mono ?_; rintro e w3 ⟨vb, rfl, hb⟩; have h1 := ha.behind hb.below)
      | (refine step_more Frm.el23 rfl (.tmp 15) (.tmp 18) rfl rfl h1 rfl hb.sl (bv_one _) (by have := HL.out; (try simp only [List.length_append]); omega) ?_; intro v4 w4 h2)
      | (go_at_call_of 27 (m.frm); refine (number_ok m.frm (by have := HH.out; omega) (by have := HH.out; omega) _).mono ?_; rintro e w5 ⟨vc, rfl, hc⟩; have h3 := h2.behind hc.below)
      | (refine step_more Frm.el23 rfl (.tmp 19) (.tmp 22) rfl rfl h3 rfl hc.sl (bv_one _) (by have := HL.out; (try simp only [List.length_append]); omega) ?_; intro v6 w6 h4)
      | (go_at_call_of 27 (m.to); refine (number_ok m.to (by have := HH.out; omega) (by have := HH.out; omega) _).mono ?_; rintro e w7 ⟨vd, rfl, hd⟩; have h5 := h4.behind hd.below)
      | (refine step_more Frm.el23 rfl (.tmp 23) (.tmp 26) rfl rfl h5 rfl hd.sl (bv_one _) (by have := HL.out; (try simp only [List.length_append]); omega) ?_; intro v8 w8 h6))
  have HB8 := Lib.hid (HB.out.drew.trans (h6.below.mono HB.out.drew.size))
  have e0 : heads.flatMap (dB m []) = nB m.kind ++ nB m.call ++ nB m.frm ++ nB m.to := by simp [heads, dB, geti, List.append_assoc]
  obtain ⟨Hd, hHd⟩ : ∃ Hd, heads.flatMap (dB m []) = Hd := ⟨_, rfl⟩
  have H2 := Lib.hid (show payB m l = Hd ++ (tail m.kind).flatMap (dB m l) by rw [payB_eq, hHd])
  have HD28 := Lib.hid (show (bv Hd).length ≤ 28 by have := HL.out; rw [← hHd, e0, bv_append, bv_append, bv_append]; simp only [List.length_append]; omega)
  rw [← bv_append, ← bv_append, ← bv_append, ← e0, hHd] at h6
  have HM := Lib.hid h6
  clear hHd e0 h6 h5 h4 h3 h2 h1 ha hb hc hd
  have c8 := HK.out _ HB8.out
  have IT := Lib.hid (m.item (.slice A l.length c))
  clear c0
  have q4 : (m.kind == 4) = false := by rw [HKK.out]; rfl
  have q5 : (m.kind == 5) = false := by rw [HKK.out]; rfl
  have q6 : (m.kind == 6) = false := by rw [HKK.out]; rfl
  have q7 : (m.kind == 7) = true := by rw [HKK.out]; rfl
  have q10 : (m.kind == 10) = false := by rw [HKK.out]; rfl
  have q11 : (m.kind == 11) = false := by rw [HKK.out]; rfl
  have q12 : (m.kind == 12) = false := by rw [HKK.out]; rfl
  have o1 : 0 ≤ m.pred + 1 ∧ m.pred + 1 ≤ 1099511627776 := by have := OKD.out (.int 8 1) (by rw [HKK.out]; simp [tail_7]); simpa [OkD, geti, okI] using this
  have o3 : Num.okL l := OKD.out (.list) (by rw [HKK.out]; simp [tail_7])
  have hwp : IntKind.i64.wrap (m.pred + 1) = m.pred + 1 := wrap_i64 o1.1 o1.2
  have L2 := Lib.hid (listBy_len o3)
  have L1 := Lib.hid (show (bv (nB (m.pred + 1))).length ≤ 7 by rw [bv_length]; exact nB_7 _ (by omega))
  have GB := Lib.hid (fun g (e : v8.ownBlock = some g) => (HM.out.own.lt g e).2)
  go_wp2_with fail
  refine (Num.refList_own A l.length c l _ (HS0.out.below HB8.out) rfl o3.1).mono ?_; rintro e w9 ⟨va, rfl, sa, hb⟩
  have h1 := HM.out.behind hb
  have c9 := HK.out _ (HB.out.drew.trans (h1.below.mono HB.out.drew.size))
  clear hb c8
  go_wp2_with fail
  refine (number_ok (m.pred + 1) o1.1 o1.2 _).mono ?_; rintro e wa ⟨vb, rfl, hb⟩
  have h2 := h1.behind hb.below
  have sa2 := sa.below hb.below
  go_wp2_with (at_builtin; first
    | (refine wpList_moreK Frm.el23 rfl (.tmp 69) (.tmp 73) rfl rfl h2 rfl hb.sl (bv_one _) (by have := L1.out; have := HD28.out; (try simp only [List.length_append]); omega) ?_; intro h3v h3w h3 hk3
       have sa3 := hk3 _ _ _ sa2 GB.out)
    | (refine wpList_more Frm.el23 rfl (.tmp 74) (.tmp 75) rfl rfl h3 rfl sa3.sl (bv_one _) (by have := L1.out; have := HD28.out; have := L2.out; have := bv_length (Num.listBy l); (try simp only [List.length_append]); omega) ?_; intro h4v h4w h4))
  go_wp2_with fail
  go_ret2
  refine ⟨_, rfl, ?_, HB0.out.trans ((HB.out.drew.trans (h4.below.mono HB.out.drew.size)).mono HB0.out.size)⟩
  have e : bv (payB m l) = bv Hd ++ bv (nB (m.pred + 1)) ++ bv (Num.listBy l) := by rw [H2.out, HKK.out, tail_7]; simp [dB, geti, getb, bv_append]
  rw [e]
  exact h4.sl
end Go.Proofs.YtaacjpcckinaiaaGreat
