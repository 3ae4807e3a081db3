/- The document's own: one that is dropped; one that is there twice. -/
import Derived.Test.YtdoigpifkdkjpaaBRTake
set_option linter.unusedVariables false
set_option maxRecDepth 100000
set_option linter.unusedSimpArgs false
namespace Go.Proofs.Ytdoigpifkdkjpaa
open Go.RowKit Go.Shelf Ms

set_option maxHeartbeats 8000000 in
theorem rDrop_any (s : Value) (n : Int) (gs : List Gr) (i : Int) (w : World) (hs : SwG w s gs) (hl : ∀ g ∈ gs, g.bytes.length ≤ 1000) (hn : gs.length ≤ 1000) :
    Calls Try.prog 17 #[.agg (bagC s n), .int .i64 i] w fun e w' => ∃ A q c, e = .returned (.tuple #[.agg (bagC (.slice A q c) (dropS gs n i).2.1), .int .i64 (dropS gs n i).2.2]) ∧ MadeG w w' 29 (.slice A q c) (dropS gs n i).1 := by
  obtain ⟨A0, c0, rfl⟩ := hs.form
  obtain ⟨r1, r2, B0⟩ := two_boxes w (bagC (.slice A0 gs.length c0) n) (bagC nilB 0) 24 24
  have hsz : ((w.alloc (.cells (bagC (.slice A0 gs.length c0) n) 24)).alloc (.cells (bagC nilB 0) 24)).heap.size = w.heap.size + 1 + 1 := by simp
  have H0 := Lib.hid (And.intro r1 (And.intro r2 (And.intro B0 (And.intro hsz (hs.below B0)))))
  have HLE := Lib.hid hl
  have HN := Lib.hid hn
  clear r1 r2 B0 hs hsz hl hn
  have hT : takeS gs i = match pick gs i with | some k => (butK gs k, gs.getD k noG, true) | none => (gs, noG, false) := rfl
  have hDr : dropS gs n i = match pick gs i with | some k => (butK gs k, IntKind.i64.wrap (n + 1), 0) | none => (gs, n, 2) := rfl
  obtain ⟨pk, hpk⟩ : ∃ pk, pick gs i = pk := ⟨_, rfl⟩
  rw [hpk] at hT hDr
  rw [hDr]
  have HTK := Lib.hid hT
  clear hT hDr hpk
  obtain ⟨K, hK⟩ : ∃ K, IntKind.i64.wrap (n + 1) = K := ⟨_, rfl⟩
  rw [hK]
  go_enter Try.func17, Try.ntmps17
  go_wp2_with (first
    | (with_reducible show wpList _ _ _ (Oper.mk _ (Op.load 24 _) _ _ _ _ :: _) _ _
       refine wpList_loadW H0.out.1 aggB rfl _ rfl rfl ?_))
  refine (rTake_any _ n gs i _ H0.out.2.2.2.2 HLE.out HN.out).mono ?_; rintro e w2 ⟨A2, q2, c2, u, rfl, hm, hu⟩
  rw [HTK.out] at hm hu ⊢
  have HQ := Lib.hid (And.intro (H0.out.2.1.below hm.below) (And.intro (hm.ownP.imp (q := fun k => w.heap.size + 1 + 1 ≤ k) (fun k _ hk => by have := H0.out.2.2.2.1; omega)) (And.intro (H0.out.2.2.1.trans (hm.below.mono H0.out.2.2.1.size)) (And.intro (show w.heap.size + 1 + 1 ≤ w2.heap.size by have := H0.out.2.2.2.1; have := hm.below.size; omega) (fun g : Gr => gr_one' (g := g) (Sw.of_sl (Sl.of_own hu)))))))
  clear hm hu H0
  cases pk with
  | none =>
    dsimp only at HQ ⊢
    go_wp2_with (first
      | (with_reducible show wpList _ _ _ (Oper.mk _ (Op.store 24 (.tmp 6) _) _ _ _ _ :: _) _ _
         refine wpList_storeR (c := bagC (.slice A2 q2 c2) n) rfl _ _ rfl rfl rfl aggB.hi ((Rw.new w2 (bagC nilB 0) 24).alloc _) rfl (bag_one _ _ _ _) ?_
         refine gen_w (fun X => Rw X w2.heap.size 24 (bagC (.slice A2 q2 c2) n) ∧ Rw X (w2.heap.size + 1) 29 (noG.c nilB) ∧ Below w2.heap.size w2 X) ⟨((Rw.new w2 (bagC nilB 0) 24).alloc _).setRow, (by have := Rw.new (w2.alloc (.cells (bagC nilB 0) 24)) (noG.c nilB) 29; rw [World.size_alloc] at this; exact this.setRow_other (by omega)), below_setRow ((box_below w2 _).alloc (by simp) _) (Nat.le_refl _) _⟩ ?_
         rintro X ⟨rX, rY, bX⟩
         have HX := Lib.hid (And.intro rX (And.intro rY bX))
         clear rX rY bX)
      | (with_reducible show wpList _ _ _ (Oper.mk _ (Op.store 29 (.tmp 7) _) _ _ _ _ :: _) _ _
         refine wpList_storeR (c := noG.c u) rfl _ _ rfl rfl rfl aggG.hi HX.out.2.1 rfl (HQ.out.2.2.2.2 _) ?_
         refine gen_w (fun Y => Rw Y w2.heap.size 24 (bagC (.slice A2 q2 c2) n) ∧ Below w2.heap.size w2 Y) ⟨HX.out.1.setRow_other (by omega), below_setRow HX.out.2.2 (by omega) _⟩ ?_
         rintro Y ⟨rX, bX⟩
         have HY := Lib.hid (And.intro rX bX)
         clear rX bX HX)
      | (with_reducible show wpList _ _ _ (Oper.mk _ (Op.load 24 (.tmp 6)) _ _ _ _ :: _) _ _
         refine wpList_loadW HY.out.1 aggB rfl _ rfl rfl ?_)
      | (with_reducible show wpList _ _ _ (Oper.mk _ (Op.store 24 (.tmp 4) _) _ _ _ _ :: _) _ _
         refine wpList_storeR (c := bagC (.slice A2 q2 c2) n) rfl _ _ rfl rfl rfl aggB.hi (HQ.out.1.below HY.out.2) rfl (bag_one _ _ _ _) ?_))
    obtain ⟨rX, bX⟩ := HY.out
    obtain ⟨r2, hO, hb, hz, _⟩ := HQ.out
    exact bodyPost_ret (results_cr rfl rfl rfl ((r2.below bX).setRow (c' := bagC (.slice A2 q2 c2) n)) aggB) rfl ⟨A2, q2, c2, rfl, ((hO.below bX).setRow (by omega) _).made (fun k hk => by omega) (below_setRow (hb.trans (bX.mono hb.size)) (by omega) _)⟩
  | some k =>
    dsimp only at HQ ⊢
    go_wp2_with (first
      | (with_reducible show wpList _ _ _ (Oper.mk _ (Op.store 24 (.tmp 6) _) _ _ _ _ :: _) _ _
         refine wpList_storeR (c := bagC (.slice A2 q2 c2) n) rfl _ _ rfl rfl rfl aggB.hi ((Rw.new w2 (bagC nilB 0) 24).alloc _) rfl (bag_one _ _ _ _) ?_
         refine gen_w (fun X => Rw X w2.heap.size 24 (bagC (.slice A2 q2 c2) n) ∧ Rw X (w2.heap.size + 1) 29 (noG.c nilB) ∧ Below w2.heap.size w2 X) ⟨((Rw.new w2 (bagC nilB 0) 24).alloc _).setRow, (by have := Rw.new (w2.alloc (.cells (bagC nilB 0) 24)) (noG.c nilB) 29; rw [World.size_alloc] at this; exact this.setRow_other (by omega)), below_setRow ((box_below w2 _).alloc (by simp) _) (Nat.le_refl _) _⟩ ?_
         rintro X ⟨rX, rY, bX⟩
         have HX := Lib.hid (And.intro rX (And.intro rY bX))
         clear rX rY bX)
      | (with_reducible show wpList _ _ _ (Oper.mk _ (Op.store 29 (.tmp 7) _) _ _ _ _ :: _) _ _
         refine wpList_storeR (c := (gs.getD k noG).c u) rfl _ _ rfl rfl rfl aggG.hi HX.out.2.1 rfl (HQ.out.2.2.2.2 _) ?_
         refine gen_w (fun Y => Rw Y w2.heap.size 24 (bagC (.slice A2 q2 c2) n) ∧ Below w2.heap.size w2 Y) ⟨HX.out.1.setRow_other (by omega), below_setRow HX.out.2.2 (by omega) _⟩ ?_
         rintro Y ⟨rX, bX⟩
         have cY := rX.cell
         have HY := Lib.hid (And.intro rX bX)
         clear rX bX HX)
      | (with_reducible show wpList _ _ _ (Oper.mk _ (Op.store 3 _ _) _ _ _ _ :: _) _ _
         refine wpList_store1 HY.out.1 (by kernel_rfl) rfl _ _ rfl (j := 1) rfl (v := .int .i64 K) rfl (by show 1 < 2; decide) rfl rfl ?_
         refine gen_w (fun Z => Rw Z w2.heap.size 24 (bagC (.slice A2 q2 c2) K) ∧ Below w2.heap.size w2 Z) ⟨HY.out.1.set 1 _, HY.out.2.setCell (p := ⟨w2.heap.size, 1, none⟩) (Nat.le_refl _) _⟩ ?_
         rintro Z ⟨rX, bX⟩
         have HZ := Lib.hid (And.intro rX bX)
         clear rX bX HY cY)
      | (with_reducible show wpList _ _ _ (Oper.mk _ (Op.load 24 (.tmp 6)) _ _ _ _ :: _) _ _
         refine wpList_loadW HZ.out.1 aggB rfl _ rfl rfl ?_)
      | (with_reducible show wpList _ _ _ (Oper.mk _ (Op.store 24 (.tmp 4) _) _ _ _ _ :: _) _ _
         refine wpList_storeR (c := bagC (.slice A2 q2 c2) K) rfl _ _ rfl rfl rfl aggB.hi (HQ.out.1.below HZ.out.2) rfl (bag_one _ _ _ _) ?_))
    obtain ⟨rX, bX⟩ := HZ.out
    obtain ⟨r2, hO, hb, hz, _⟩ := HQ.out
    exact bodyPost_ret (results_cr rfl rfl rfl ((r2.below bX).setRow (c' := bagC (.slice A2 q2 c2) K)) aggB) rfl ⟨A2, q2, c2, rfl, ((hO.below bX).setRow (by omega) _).made (fun k hk => by omega) (below_setRow (hb.trans (bX.mono hb.size)) (by omega) _)⟩
end Go.Proofs.Ytdoigpifkdkjpaa
