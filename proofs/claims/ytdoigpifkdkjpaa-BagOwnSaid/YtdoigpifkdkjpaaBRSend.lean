/- The document's own: datagrams that are sent. -/
import Derived.Test.YtdoigpifkdkjpaaBRef2
import Derived.Test.YtdoigpifkdkjpaaBSend
import Derived.Deep.RegionLaw
set_option linter.unusedVariables false
set_option maxRecDepth 100000
set_option linter.unusedSimpArgs false
namespace Go.Proofs.Ytdoigpifkdkjpaa
open Go.RowKit Go.Shelf Ms

set_option maxHeartbeats 8000000 in
theorem rSend_any (s : Value) (n : Int) (gs : List Gr) (v : Value) (ls : List Gr) (w : World) (hs : SwG w s gs) (hv : SwG w v ls) (hl : ∀ g ∈ gs, g.bytes.length ≤ 1000) (hn : gs.length ≤ 1000) :
    Calls Try.prog 14 #[.agg (bagC s n), v] w fun e w' => ∃ A q c, e = .returned (.agg (bagC (.slice A q c) (sendS (gs, n) ls).2)) ∧ MadeG w w' 29 (.slice A q c) (sendS (gs, n) ls).1 := by
  have hsl := hv.len
  obtain ⟨A, c, rfl⟩ := hv.form
  obtain ⟨A0, c0, rfl⟩ := hs.form
  obtain ⟨r1, r2, B0⟩ := two_boxes w (bagC (.slice A0 gs.length c0) n) (bagC nilB 0) 24 24
  have hsz : ((w.alloc (.cells (bagC (.slice A0 gs.length c0) n) 24)).alloc (.cells (bagC nilB 0) 24)).heap.size = w.heap.size + 1 + 1 := by simp
  have HV := Lib.hid hv
  have H0 := Lib.hid (And.intro r1 (And.intro r2 (And.intro B0 (And.intro hsz (hs.below B0)))))
  have HLE := Lib.hid hl
  have HN := Lib.hid hn
  clear r1 r2 B0 hs hv hsz hl hn
  go_enter Try.func14, Try.ntmps14
  go_wp2_with (first
    | (with_reducible show wpList _ _ _ (Oper.mk _ (Op.load 24 _) _ _ _ _ :: _) _ _
       refine wpList_loadW H0.out.1 aggB rfl _ rfl rfl ?_))
  refine (rOwn_any _ n gs _ H0.out.2.2.2.2 HLE.out HN.out).mono ?_; rintro e w2 ⟨A2, q2, c2, rfl, hm⟩
  obtain rfl : q2 = gs.length := by
    obtain ⟨_, _, hv2⟩ := hm.swG.form
    injection hv2
  have q1 := H0.out.1.below hm.below
  have q2 := H0.out.2.1.below hm.below
  have hb := H0.out.2.2.1.trans (hm.below.mono H0.out.2.2.1.size)
  have hz : w.heap.size + 1 + 1 ≤ w2.heap.size := by have := hm.below.size; have := H0.out.2.2.2.1; omega
  have hO : OwnP (fun k => w.heap.size + 1 + 1 ≤ k) w2 29 (.slice A2 gs.length c2) gs := hm.ownP.imp (fun k _ hk => by have := H0.out.2.2.2.1; omega)
  have HQ := Lib.hid (And.intro q1 (And.intro q2 (And.intro hb (And.intro hz hO))))
  clear q1 q2 hb hz hO H0 hm
  go_wp2_with (first
    | (with_reducible show wpList _ _ _ (Oper.mk _ (Op.store 24 _ _) _ _ _ _ :: _) _ _
       refine wpList_storeR (c := bagC (.slice A2 gs.length c2) n) rfl _ _ rfl rfl rfl aggB.hi HQ.out.1 rfl (bag_one _ _ _ _) ?_
       refine gen_w (fun X => Rw X w.heap.size 24 (bagC (.slice A2 gs.length c2) n) ∧ Rw X (w.heap.size + 1) 24 (bagC nilB 0) ∧ Below w.heap.size w X ∧ w.heap.size + 1 + 1 ≤ X.heap.size ∧ OwnP (fun k => w.heap.size + 1 + 1 ≤ k) X 29 (.slice A2 gs.length c2) gs)
         ⟨HQ.out.1.setRow, HQ.out.2.1.setRow_other (by omega), below_setRow HQ.out.2.2.1 (Nat.le_refl _) _, by have := HQ.out.2.2.2.1; simp [World.setRow]; omega, HQ.out.2.2.2.2.setRow (by omega) _⟩ ?_
       clear HQ
       rintro X ⟨r1, r2, B0, hsz, hO⟩))
  go_loopw [5] (fun i W => ∃ (k : Nat) (A' : Option Addr) (c' : Nat) (st : List Gr × Int), k ≤ ls.length ∧ i = .int .i64 (k : Int) ∧ sendS (gs, n) (ls.take k) = st ∧ Rw W w.heap.size 24 (bagC (.slice A' st.1.length c') st.2) ∧ Rw W (w.heap.size + 1) 24 (bagC nilB 0) ∧ Below w.heap.size w W ∧ w.heap.size + 1 + 1 ≤ W.heap.size ∧ OwnP (fun k => w.heap.size + 1 + 1 ≤ k) W 29 (.slice A' st.1.length c') st.1) (fun i _ => ls.length - (intOf i).toNat)
  case atStart => exact ⟨0, A2, c2, (gs, n), Nat.zero_le _, rfl, rfl, r1, r2, B0, hsz, hO⟩
  case round =>
    clear r1 r2 B0 hsz hO
    obtain ⟨k, A', c', st, hk, rfl, hst, r1, r2, B0, hsz, hO⟩ := hrel
    by_cases hkn : k < ls.length
    · have hsnoc : sendS (gs, n) (ls.take (k + 1)) = sentS st ls[k] := by rw [List.take_succ_eq_append_getElem hkn, sendS_snoc, hst]
      obtain ⟨b1, o1, rfl, hb1, x1, ⟨u1, y1, s1⟩, z1⟩ := (HV.out.below B0).at_ k hkn
      obtain ⟨A1, q1, rfl⟩ := s1.form
      rw [bv_length] at *
      obtain ⟨gl, nl⟩ := st
      generalize ls[k] = g at *
      dsimp only at r1 hO
      have c1 := r1.cell
      have hgl := hO.swG.len
      have hul := s1.len
      rw [bv_length] at hul
      by_cases h4 : gl.length < 400
      · have e4 : decide ((gl.length : Int) ≥ 400) = false := decide_eq_false (by omega)
        by_cases h5 : g.bytes.length ≤ 120
        · have e5 : decide ((g.bytes.length : Int) > 120) = false := decide_eq_false (by omega)
          have HST := Lib.hid (hsnoc.trans (show sentS (gl, nl) g = (gl ++ [g], nl) from if_pos ⟨h4, h5⟩))
          have R1 := Lib.hid r1
          have R2 := Lib.hid r2
          have HB := Lib.hid B0
          have HO := Lib.hid hO
          have HU := Lib.hid s1
          have H45 := Lib.hid (And.intro h4 h5)
          have hb0 : Below wr.heap.size wr wr.drew := (Below.refl _ _).drew
          have k1 : ∀ X, Below wr.heap.size wr X → X.cell? ⟨w.heap.size, 0, none⟩ = some (.slice A' gl.length c') := fun X h => (r1.below h).cell 0
          have k2 : ∀ X, Below wr.heap.size wr X → X.cell? ⟨b1, o1 + k * 3, none⟩ = some (.int .i64 g.to) := fun X h => (h.cell (p := ⟨b1, _, none⟩) hb1).trans x1
          have k3 : ∀ X, Below wr.heap.size wr X → X.cell? ⟨b1, o1 + k * 3 + 1, none⟩ = some (.slice A1 g.bytes.length q1) := fun X h => (h.cell (p := ⟨b1, _, none⟩) hb1).trans y1
          have k4 : ∀ X, Below wr.heap.size wr X → X.cell? ⟨b1, o1 + k * 3 + 2, none⟩ = some (.bool g.harm) := fun X h => (h.cell (p := ⟨b1, _, none⟩) hb1).trans z1
          have hrow := fun q e => (hO.row q e).1
          have HRW := Lib.hid hrow
          clear hst hsnoc r1 r2 B0 hO s1 h4 h5 hrow
          go_wp2_with fail
          go_region_law
            (first
              | (refine step_callG rfl 35 (.tmp 36) _ rfl rfl (enters_of Try.func35 (by kernel_rfl) rfl) (R := fun v w' => ∃ A' q c', v = .agg (g.c (.slice A' q c')) ∧ Made wr.drew w' 5 (.slice A' q c') (bv g.bytes)) ((rown_any g _ wr.drew (HU.out.below hb0) (by have := H45.out.2; omega)).mono (by rintro e w' ⟨A', q', c', rfl, hm⟩; exact ⟨_, rfl, A', q', c', rfl, hm⟩)) ?_
                 rintro v2 w2 ⟨A2, q2, d2, rfl, hm2⟩
                 have hb2 : Below wr.heap.size wr w2 := hb0.trans hm2.below
                 have hb3 : Below wr.heap.size wr (w2.alloc (.cells (g.c (.slice A2 q2 d2)) 29)) := hb2.alloc hb2.size _
                 have k5 : ∀ o, (w2.alloc o).cell? ⟨w.heap.size, 0, none⟩ = some (.slice A' gl.length c') := fun o => k1 _ (hb2.alloc hb2.size o)
                 have HM2 := Lib.hid (owns_below hm2.own (box_below w2 (.cells (g.c (.slice A2 q2 d2)) 29)))
                 clear hm2)
              | (refine step_snocP (q := fun k => w.heap.size + 1 + 1 ≤ k) elG rfl (.tmp 32) (.tmp 38) rfl rfl HO.out (fun k hk => hk) (fun k hk => by omega) hb3 (by have := HM2.out; rw [bv_length] at this; exact this) rfl (cells_one w2 g _) (by have := H45.out.1; omega) rfl ?_
                 intro v4 w4 hm4 hg4
                 obtain ⟨A4, c4, hv4⟩ := hm4.swG.form
                 rw [show (gl ++ [g]).length = gl.length + 1 by simp] at hv4
                 subst hv4
                 have r14 := rw_grown (R1.out.below hb3) hg4 (fun e => by have := HRW.out _ e; omega)
                 have r24 := rw_grown (R2.out.below hb3) hg4 (fun e => by have := HRW.out _ e; omega)
                 have hgw := gr_then (gr_of_below hb3 (Value.slice A' gl.length c').ownBlock) hg4 (.inl rfl)
                 have hbw := below_grown HB.out hgw HRW.out (by omega) (by omega)
                 have hszw := hgw.size
                 have x4 := r14.cell
                 have y4 := r14.free
                 have H14 := Lib.hid (And.intro r14 (And.intro r24 (And.intro hbw hm4)))
                 clear r14 r24 hg4 hm4 hgw hbw))
          all_goals
            refine gen_exit (fun X => Rw X w.heap.size 24 (bagC (.slice A4 (gl.length + 1) c4) nl) ∧ Rw X (w.heap.size + 1) 24 (bagC nilB 0) ∧ Below w.heap.size w X ∧ w.heap.size + 1 + 1 ≤ X.heap.size ∧ OwnP (fun k => w.heap.size + 1 + 1 ≤ k) X 29 (.slice A4 (gl.length + 1) c4) (gl ++ [g]))
              ⟨H14.out.1.set 0 _, H14.out.2.1.set_other (by omega) 0 _, H14.out.2.2.1.setCell (p := ⟨w.heap.size, 0, none⟩) (Nat.le_refl _) _, by simp [World.setCell]; omega, H14.out.2.2.2.set (by omega) 0 _⟩ ?_
            clear k1 k2 k3 k4 k5 x4 y4 H14
            rintro X ⟨q1, q2, q3, q4, q5⟩
            go_wp2_with fail
            go_roundw
            case rel => exact ⟨k + 1, A4, c4, (gl ++ [g], nl), by omega, by go_num, HST.out, by simpa using q1, q2, q3, q4, by simpa using q5⟩
            case measure => simp [intOf]; omega
        · have e5 : decide ((g.bytes.length : Int) > 120) = true := decide_eq_true (by omega)
          have HST := Lib.hid (hsnoc.trans (show sentS (gl, nl) g = (gl, IntKind.i64.wrap (nl + 1)) from if_neg (show ¬ (gl.length < 400 ∧ g.bytes.length ≤ 120) by omega)))
          obtain ⟨K, hK⟩ : ∃ K, IntKind.i64.wrap (nl + 1) = K := ⟨_, rfl⟩
          rw [hK] at HST
          have HR := Lib.hid (And.intro r1 (And.intro r2 (And.intro B0 (And.intro hsz hO))))
          clear hst hsnoc r1 r2 B0 hO s1
          go_wp2_with (first
            | (with_reducible show wpList _ _ _ (Oper.mk _ (Op.store 3 _ _) _ _ _ _ :: _) _ _
               refine wpList_store1 HR.out.1 (by kernel_rfl) rfl _ _ rfl (j := 1) rfl (v := .int .i64 K) rfl (by show 1 < 2; decide) rfl rfl ?_))
          obtain ⟨r1, r2, B0, hsz, hO⟩ := HR.out
          go_roundw
          case rel => exact ⟨k + 1, A', c', (gl, K), by omega, by go_num, HST.out, r1.set 1 _, r2.set_other (by omega) 1 _, B0.setCell (p := ⟨w.heap.size, 1, none⟩) (Nat.le_refl _) _, by simp [World.setCell]; omega, hO.set (by omega) 1 _⟩
          case measure => simp [intOf]; omega
      · have e4 : decide ((gl.length : Int) ≥ 400) = true := decide_eq_true (by omega)
        have HST := Lib.hid (hsnoc.trans (show sentS (gl, nl) g = (gl, IntKind.i64.wrap (nl + 1)) from if_neg (show ¬ (gl.length < 400 ∧ g.bytes.length ≤ 120) by omega)))
        obtain ⟨K, hK⟩ : ∃ K, IntKind.i64.wrap (nl + 1) = K := ⟨_, rfl⟩
        rw [hK] at HST
        have HR := Lib.hid (And.intro r1 (And.intro r2 (And.intro B0 (And.intro hsz hO))))
        clear hst hsnoc r1 r2 B0 hO s1
        go_wp2_with (first
          | (with_reducible show wpList _ _ _ (Oper.mk _ (Op.store 3 _ _) _ _ _ _ :: _) _ _
             refine wpList_store1 HR.out.1 (by kernel_rfl) rfl _ _ rfl (j := 1) rfl (v := .int .i64 K) rfl (by show 1 < 2; decide) rfl rfl ?_))
        obtain ⟨r1, r2, B0, hsz, hO⟩ := HR.out
        go_roundw
        case rel => exact ⟨k + 1, A', c', (gl, K), by omega, by go_num, HST.out, r1.set 1 _, r2.set_other (by omega) 1 _, B0.setCell (p := ⟨w.heap.size, 1, none⟩) (Nat.le_refl _) _, by simp [World.setCell]; omega, hO.set (by omega) 1 _⟩
        case measure => simp [intOf]; omega
    · obtain rfl : k = ls.length := by omega
      rw [List.take_length] at hst
      obtain ⟨gl, nl⟩ := st
      dsimp only at r1 hO
      have HST := Lib.hid hst
      have HR := Lib.hid (And.intro r1 (And.intro r2 (And.intro B0 (And.intro hsz hO))))
      clear r1 r2 B0 hO hst
      go_wp2_with (first
        | (with_reducible show wpList _ _ _ (Oper.mk _ (Op.load 24 _) _ _ _ _ :: _) _ _
           refine wpList_loadW HR.out.1 aggB rfl _ rfl rfl ?_)
        | (with_reducible show wpList _ _ _ (Oper.mk _ (Op.store 24 _ _) _ _ _ _ :: _) _ _
           refine wpList_storeR (c := bagC (.slice A' gl.length c') nl) rfl _ _ rfl rfl rfl aggB.hi HR.out.2.1 rfl (bag_one _ _ _ _) ?_))
      obtain ⟨r1, r2, B0, hsz, hO⟩ := HR.out
      exact bodyPost_ret (results_cell_row rfl _ _ _ _ _ _ _ rfl (r2.setRow (c' := bagC (.slice A' gl.length c') nl)) Try.underlying24 rfl aggB.hi) rfl (by rw [HST.out]; exact ⟨A', _, c', rfl, (hO.setRow (by omega) _).made (fun k hk => by omega) (below_setRow B0 (by omega) _)⟩)
end Go.Proofs.Ytdoigpifkdkjpaa
