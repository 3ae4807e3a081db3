/- One that is harmed. -/
import Derived.Test.YtdoigpifkdkjpaaBActs
set_option linter.unusedVariables false
set_option maxRecDepth 100000
set_option linter.unusedSimpArgs false
namespace Go.Proofs.Ytdoigpifkdkjpaa
open Go.RowKit Go.Shelf Ms

theorem five_boxes (w : World) (c z y x v : Array Value) (t u s r q : TypeId) : Rw (((((w.alloc (.cells c t)).alloc (.cells z u)).alloc (.cells y s)).alloc (.cells x r)).alloc (.cells v q)) w.heap.size t c ∧ Rw (((((w.alloc (.cells c t)).alloc (.cells z u)).alloc (.cells y s)).alloc (.cells x r)).alloc (.cells v q)) (w.heap.size + 1) u z ∧
    Rw (((((w.alloc (.cells c t)).alloc (.cells z u)).alloc (.cells y s)).alloc (.cells x r)).alloc (.cells v q)) (w.heap.size + 1 + 1) s y ∧ Rw (((((w.alloc (.cells c t)).alloc (.cells z u)).alloc (.cells y s)).alloc (.cells x r)).alloc (.cells v q)) (w.heap.size + 1 + 1 + 1) r x ∧
    Rw (((((w.alloc (.cells c t)).alloc (.cells z u)).alloc (.cells y s)).alloc (.cells x r)).alloc (.cells v q)) (w.heap.size + 1 + 1 + 1 + 1) q v ∧ Below w.heap.size w (((((w.alloc (.cells c t)).alloc (.cells z u)).alloc (.cells y s)).alloc (.cells x r)).alloc (.cells v q)) := by
  obtain ⟨r1, r2, r3, B0⟩ := three_boxes w c z y t u s
  have a := Rw.new (((w.alloc (.cells c t)).alloc (.cells z u)).alloc (.cells y s)) x r
  have b := Rw.new ((((w.alloc (.cells c t)).alloc (.cells z u)).alloc (.cells y s)).alloc (.cells x r)) v q
  refine ⟨(r1.alloc _).alloc _, (r2.alloc _).alloc _, (r3.alloc _).alloc _, ?_, ?_, (B0.alloc B0.size _).alloc (by simp; omega) _⟩
  · simpa using a.alloc (.cells v q)
  · simpa using b
set_option maxHeartbeats 4000000 in
theorem Harm_any (s : Value) (n : Int) (gs : List Gr) (i j : Int) (z : UInt8) (w : World) (hs : SwG w s gs) (hl : ∀ g ∈ gs, g.bytes.length ≤ 1000) (hn : gs.length ≤ 1000) :
    Calls Try.prog 20 #[.agg (bagC s n), .int .i64 i, .int .i64 j, .int .u8 (z.toNat : Int)] w fun e w' => ∃ A q c, e = .returned (.tuple #[.agg (bagC (.slice A q c) (harmT gs n i j z).2.1), .int .i64 (harmT gs n i j z).2.2]) ∧ MadeG w w' 29 (.slice A q c) (harmT gs n i j z).1 := by
  obtain ⟨A0, c0, rfl⟩ := hs.form
  obtain ⟨r1, r2, r4, r5, r3, B0⟩ := five_boxes w (bagC (.slice A0 gs.length c0) n) #[.int .i64 i] #[.int .i64 j] #[.int .u8 (z.toNat : Int)] (bagC nilB 0) 24 3 3 5 24
  have hsz : (((((w.alloc (.cells (bagC (.slice A0 gs.length c0) n) 24)).alloc (.cells #[.int .i64 i] 3)).alloc (.cells #[.int .i64 j] 3)).alloc (.cells #[.int .u8 (z.toNat : Int)] 5)).alloc (.cells (bagC nilB 0) 24)).heap.size = w.heap.size + 1 + 1 + 1 + 1 + 1 := by simp
  have H0 := Lib.hid (And.intro r1 (And.intro r2 (And.intro r3 (And.intro B0 (And.intro hsz (hs.below B0))))))
  have H4 := Lib.hid (And.intro r4 r5)
  have HLE := Lib.hid hl
  have HN := Lib.hid hn
  have c2 := r2.cell
  clear r1 r2 r3 r4 r5 B0 hs hsz hl hn
  obtain ⟨pk, hpk⟩ : ∃ pk, pick gs i = pk := ⟨_, rfl⟩
  unfold harmT
  rw [hpk]
  cases pk with
  | none =>
    have hout := Lib.hid (pick_none hpk)
    clear hpk
    dsimp only
    go_enter Try.func20, Try.ntmps20
    go_wp2_with (first
      | (with_reducible show wpList _ _ _ (Oper.mk _ (Op.load 24 _) _ _ _ _ :: _) _ _
         refine wpList_loadW H0.out.1 aggB rfl _ rfl rfl ?_))
    refine (done_out _ n gs i _ _ H0.out.2.2.2.2.2 HLE.out HN.out hout.out).mono ?_; rintro e w3 ⟨A', q', c', rfl, hm⟩
    have HQ := Lib.hid (And.intro (H0.out.2.2.1.below hm.below) (And.intro (hm.ownP.imp (q := fun k => w.heap.size + 1 + 1 + 1 + 1 + 1 ≤ k) (fun k _ hk => by have := H0.out.2.2.2.2.1; omega)) (H0.out.2.2.2.1.trans (hm.below.mono H0.out.2.2.2.1.size))))
    clear hm H0 c2
    go_wp2_with (first
      | (with_reducible show wpList _ _ _ (Oper.mk _ (Op.store 24 _ _) _ _ _ _ :: _) _ _
         refine wpList_storeR (c := bagC (.slice A' q' c') n) rfl _ _ rfl rfl rfl aggB.hi HQ.out.1 rfl (bag_one _ _ _ _) ?_))
    obtain ⟨r3, hm, hb⟩ := HQ.out
    exact bodyPost_ret (results_cr rfl rfl rfl (r3.setRow (c' := bagC (.slice A' q' c') n)) aggB) rfl ⟨A', q', c', rfl, (hm.setRow (by omega) _).made (fun k hk => by omega) (below_setRow hb (by omega) _)⟩
  | some k =>
    obtain ⟨rfl, hk⟩ := pick_some hpk
    clear hpk
    dsimp only
    have hgd := getD_at hk
    by_cases hmh : mayHarm (gs.getD k noG) j z = true
    · have hj : ((j.toNat : Nat) : Int) = j := by
        simp only [mayHarm, Bool.and_eq_true, decide_eq_true_eq] at hmh
        omega
      have hD := harm_yes (w.heap.size + 1) (w.heap.size + 1 + 1 + 1) (w.heap.size + 1 + 1) _ gs n k j.toNat z H0.out.2.1 H4.out.2 (by rw [hj]; exact H4.out.1) hk HN.out (by rw [hj]; rw [hgd] at hmh; exact hmh)
      rw [if_pos hmh]
      dsimp only
      obtain ⟨gs', hgs'⟩ : ∃ x, harmS gs k j.toNat z = x := ⟨_, rfl⟩
      rw [hgs'] at hD ⊢
      have HD := Lib.hid hD
      have HK := Lib.hid hk
      clear hD hk hgd hmh hgs' hj
      go_enter Try.func20, Try.ntmps20
      go_wp2_with (first
        | (with_reducible show wpList _ _ _ (Oper.mk _ (Op.load 24 _) _ _ _ _ :: _) _ _
           refine wpList_loadW H0.out.1 aggB rfl _ rfl rfl ?_))
      refine (done_in _ n gs k 38 _ _ H0.out.2.2.2.2.2 HLE.out HN.out HK.out (enters_of Try.func38 (by kernel_rfl) rfl) HD.out (fun r h => by cases h) (fun _ _ _ => trivial)).mono ?_; rintro e w3 ⟨A', q', c', rfl, hO, hT, -⟩
      have hb := hT.below (fun q _ h => by cases h)
      have HQ := Lib.hid (And.intro (H0.out.2.2.1.below hb) (And.intro (hO.imp (q := fun k => w.heap.size + 1 + 1 + 1 + 1 + 1 ≤ k) (fun k _ hk => by have := H0.out.2.2.2.2.1; omega)) (H0.out.2.2.2.1.trans (hb.mono H0.out.2.2.2.1.size))))
      clear hO hT hb H0 c2
      go_wp2_with (first
        | (with_reducible show wpList _ _ _ (Oper.mk _ (Op.store 24 _ _) _ _ _ _ :: _) _ _
           refine wpList_storeR (c := bagC (.slice A' q' c') n) rfl _ _ rfl rfl rfl aggB.hi HQ.out.1 rfl (bag_one _ _ _ _) ?_))
      obtain ⟨r3, hm, hb⟩ := HQ.out
      exact bodyPost_ret (results_cr rfl rfl rfl (r3.setRow (c' := bagC (.slice A' q' c') n)) aggB) rfl ⟨A', q', c', rfl, (hm.setRow (by omega) _).made (fun k hk => by omega) (below_setRow hb (by omega) _)⟩
    · have hD := harm_not (w.heap.size + 1) (w.heap.size + 1 + 1 + 1) (w.heap.size + 1 + 1) _ gs n k j z H0.out.2.1 H4.out.2 H4.out.1 hk HN.out (by rw [hgd] at hmh; simpa using hmh)
      rw [if_neg hmh]
      dsimp only
      have HD := Lib.hid hD
      have HK := Lib.hid hk
      clear hD hk hgd hmh
      go_enter Try.func20, Try.ntmps20
      go_wp2_with (first
        | (with_reducible show wpList _ _ _ (Oper.mk _ (Op.load 24 _) _ _ _ _ :: _) _ _
           refine wpList_loadW H0.out.1 aggB rfl _ rfl rfl ?_))
      refine (done_in _ n gs k 38 _ _ H0.out.2.2.2.2.2 HLE.out HN.out HK.out (enters_of Try.func38 (by kernel_rfl) rfl) HD.out (fun r h => by cases h) (fun _ _ _ => trivial)).mono ?_; rintro e w3 ⟨A', q', c', rfl, hO, hT, -⟩
      have hb := hT.below (fun q _ h => by cases h)
      have HQ := Lib.hid (And.intro (H0.out.2.2.1.below hb) (And.intro (hO.imp (q := fun k => w.heap.size + 1 + 1 + 1 + 1 + 1 ≤ k) (fun k _ hk => by have := H0.out.2.2.2.2.1; omega)) (H0.out.2.2.2.1.trans (hb.mono H0.out.2.2.2.1.size))))
      clear hO hT hb H0 c2
      go_wp2_with (first
        | (with_reducible show wpList _ _ _ (Oper.mk _ (Op.store 24 _ _) _ _ _ _ :: _) _ _
           refine wpList_storeR (c := bagC (.slice A' q' c') n) rfl _ _ rfl rfl rfl aggB.hi HQ.out.1 rfl (bag_one _ _ _ _) ?_))
      obtain ⟨r3, hm, hb⟩ := HQ.out
      exact bodyPost_ret (results_cr rfl rfl rfl (r3.setRow (c' := bagC (.slice A' q' c') n)) aggB) rfl ⟨A', q', c', rfl, (hm.setRow (by omega) _).made (fun k hk => by omega) (below_setRow hb (by omega) _)⟩
end Go.Proofs.Ytdoigpifkdkjpaa
