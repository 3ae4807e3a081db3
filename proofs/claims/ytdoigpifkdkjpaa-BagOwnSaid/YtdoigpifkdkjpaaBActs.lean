/- What is done to one that is on its way. -/
import Derived.Test.YtdoigpifkdkjpaaBDeed3
set_option linter.unusedVariables false
set_option maxRecDepth 100000
set_option linter.unusedSimpArgs false
namespace Go.Proofs.Ytdoigpifkdkjpaa
open Go.RowKit Go.Shelf Ms

/-- Which one is at a place. -/
def pick (gs : List Gr) (i : Int) : Option Nat := if 0 ≤ i ∧ i < gs.length then some i.toNat else none
theorem pick_some {gs : List Gr} {i : Int} {k : Nat} (h : pick gs i = some k) : i = (k : Int) ∧ k < gs.length := by
  unfold pick at h
  split at h
  · injection h with h
    omega
  · cases h
theorem pick_none {gs : List Gr} {i : Int} (h : pick gs i = none) : i < 0 ∨ (gs.length : Int) ≤ i := by
  unfold pick at h
  split at h
  · cases h
  · omega
def dropS (gs : List Gr) (n : Int) (i : Int) : List Gr × Int × Int := match pick gs i with
  | some k => (butK gs k, IntKind.i64.wrap (n + 1), 0)
  | none => (gs, n, 2)
def twiceS (gs : List Gr) (n : Int) (i : Int) : List Gr × Int × Int := match pick gs i with
  | some k => ((sentS (gs, n) (gs.getD k noG)).1, (sentS (gs, n) (gs.getD k noG)).2, 0)
  | none => (gs, n, 2)
def harmT (gs : List Gr) (n : Int) (i j : Int) (z : UInt8) : List Gr × Int × Int := match pick gs i with
  | some k => if mayHarm (gs.getD k noG) j z = true then (harmS gs k j.toNat z, n, 0) else (gs, n, 2)
  | none => (gs, n, 2)
/-- What is left, what is taken, whether. -/
def takeS (gs : List Gr) (i : Int) : List Gr × Gr × Bool := match pick gs i with
  | some k => (butK gs k, gs.getD k noG, true)
  | none => (gs, noG, false)
theorem getD_at {gs : List Gr} {k : Nat} (h : k < gs.length) : gs.getD k noG = gs[k] := by simp [h]
theorem OwnP.lift {p : Nat → Prop} {w0 w w' : World} {e : TypeId} {v : Value} {gs : List Gr} (h : OwnP p w' e v gs) (hp : ∀ k, p k → w0.heap.size ≤ k) (hb : Below w0.heap.size w0 w') : MadeG w0 w' e v gs := h.made hp hb
set_option maxHeartbeats 4000000 in
theorem Drop_any (s : Value) (n : Int) (gs : List Gr) (i : Int) (w : World) (hs : SwG w s gs) (hl : ∀ g ∈ gs, g.bytes.length ≤ 1000) (hn : gs.length ≤ 1000) :
    Calls Try.prog 16 #[.agg (bagC s n), .int .i64 i] w fun e w' => ∃ A q c, e = .returned (.tuple #[.agg (bagC (.slice A q c) (dropS gs n i).2.1), .int .i64 (dropS gs n i).2.2]) ∧ MadeG w w' 29 (.slice A q c) (dropS gs n i).1 := by
  obtain ⟨A0, c0, rfl⟩ := hs.form
  obtain ⟨r1, r2, r3, B0⟩ := three_boxes w (bagC (.slice A0 gs.length c0) n) #[.int .i64 i] (bagC nilB 0) 24 3 24
  have hsz : (((w.alloc (.cells (bagC (.slice A0 gs.length c0) n) 24)).alloc (.cells #[.int .i64 i] 3)).alloc (.cells (bagC nilB 0) 24)).heap.size = w.heap.size + 1 + 1 + 1 := by simp
  have H0 := Lib.hid (And.intro r1 (And.intro r2 (And.intro r3 (And.intro B0 (And.intro hsz (hs.below B0))))))
  have HLE := Lib.hid hl
  have HN := Lib.hid hn
  have c2 := r2.cell
  clear r1 r2 r3 B0 hs hsz hl hn
  obtain ⟨pk, hpk⟩ : ∃ pk, pick gs i = pk := ⟨_, rfl⟩
  unfold dropS
  rw [hpk]
  cases pk with
  | none =>
    have hout := Lib.hid (pick_none hpk)
    clear hpk
    dsimp only
    go_enter Try.func16, Try.ntmps16
    go_wp2_with (first
      | (with_reducible show wpList _ _ _ (Oper.mk _ (Op.load 24 _) _ _ _ _ :: _) _ _
         refine wpList_loadW H0.out.1 aggB rfl _ rfl rfl ?_))
    refine (done_out _ n gs i _ _ H0.out.2.2.2.2.2 HLE.out HN.out hout.out).mono ?_; rintro e w3 ⟨A', q', c', rfl, hm⟩
    have HQ := Lib.hid (And.intro (H0.out.2.2.1.below hm.below) (And.intro (hm.ownP.imp (q := fun k => w.heap.size + 1 + 1 + 1 ≤ k) (fun k _ hk => by have := H0.out.2.2.2.2.1; omega)) (H0.out.2.2.2.1.trans (hm.below.mono H0.out.2.2.2.1.size))))
    clear hm H0 c2
    go_wp2_with (first
      | (with_reducible show wpList _ _ _ (Oper.mk _ (Op.store 24 _ _) _ _ _ _ :: _) _ _
         refine wpList_storeR (c := bagC (.slice A' q' c') n) rfl _ _ rfl rfl rfl aggB.hi HQ.out.1 rfl (bag_one _ _ _ _) ?_))
    obtain ⟨r3, hm, hb⟩ := HQ.out
    exact bodyPost_ret (results_cr rfl rfl rfl (r3.setRow (c' := bagC (.slice A' q' c') n)) aggB) rfl ⟨A', q', c', rfl, (hm.setRow (by omega) _).made (fun k hk => by omega) (below_setRow hb (by omega) _)⟩
  | some k =>
    obtain ⟨rfl, hk⟩ := pick_some hpk
    clear hpk
    dsimp only
    have hgd := getD_at hk
    have hD := drop_deed (w.heap.size + 1) _ gs n k H0.out.2.1 hk HN.out
    obtain ⟨gs', hgs'⟩ : ∃ x, butK gs k = x := ⟨_, rfl⟩
    obtain ⟨n', hn'⟩ : ∃ x, IntKind.i64.wrap (n + 1) = x := ⟨_, rfl⟩
    rw [hgs', hn'] at hD
    rw [hgs', hn']
    have HD := Lib.hid hD
    have HK := Lib.hid hk
    clear hgs' hn' hD hk hgd
    go_enter Try.func16, Try.ntmps16
    go_wp2_with (first
      | (with_reducible show wpList _ _ _ (Oper.mk _ (Op.load 24 _) _ _ _ _ :: _) _ _
         refine wpList_loadW H0.out.1 aggB rfl _ rfl rfl ?_))
    refine (done_in _ n gs k 36 _ _ H0.out.2.2.2.2.2 HLE.out HN.out HK.out (enters_of Try.func36 (by kernel_rfl) rfl) HD.out (fun r h => by cases h) (fun _ _ _ => trivial)).mono ?_; rintro e w3 ⟨A', q', c', rfl, hO, hT, -⟩
    have hb := hT.below (fun q _ h => by cases h)
    have HQ := Lib.hid (And.intro (H0.out.2.2.1.below hb) (And.intro (hO.imp (q := fun k => w.heap.size + 1 + 1 + 1 ≤ k) (fun k _ hk => by have := H0.out.2.2.2.2.1; omega)) (H0.out.2.2.2.1.trans (hb.mono H0.out.2.2.2.1.size))))
    clear hO hT hb H0 c2
    go_wp2_with (first
      | (with_reducible show wpList _ _ _ (Oper.mk _ (Op.store 24 _ _) _ _ _ _ :: _) _ _
         refine wpList_storeR (c := bagC (.slice A' q' c') n') rfl _ _ rfl rfl rfl aggB.hi HQ.out.1 rfl (bag_one _ _ _ _) ?_))
    obtain ⟨r3, hm, hb⟩ := HQ.out
    exact bodyPost_ret (results_cr rfl rfl rfl (r3.setRow (c' := bagC (.slice A' q' c') n')) aggB) rfl ⟨A', q', c', rfl, (hm.setRow (by omega) _).made (fun k hk => by omega) (below_setRow hb (by omega) _)⟩
set_option maxHeartbeats 4000000 in
theorem Twice_any (s : Value) (n : Int) (gs : List Gr) (i : Int) (w : World) (hs : SwG w s gs) (hl : ∀ g ∈ gs, g.bytes.length ≤ 1000) (hn : gs.length ≤ 1000) :
    Calls Try.prog 18 #[.agg (bagC s n), .int .i64 i] w fun e w' => ∃ A q c, e = .returned (.tuple #[.agg (bagC (.slice A q c) (twiceS gs n i).2.1), .int .i64 (twiceS gs n i).2.2]) ∧ MadeG w w' 29 (.slice A q c) (twiceS gs n i).1 := by
  obtain ⟨A0, c0, rfl⟩ := hs.form
  obtain ⟨r1, r2, r3, B0⟩ := three_boxes w (bagC (.slice A0 gs.length c0) n) #[.int .i64 i] (bagC nilB 0) 24 3 24
  have hsz : (((w.alloc (.cells (bagC (.slice A0 gs.length c0) n) 24)).alloc (.cells #[.int .i64 i] 3)).alloc (.cells (bagC nilB 0) 24)).heap.size = w.heap.size + 1 + 1 + 1 := by simp
  have H0 := Lib.hid (And.intro r1 (And.intro r2 (And.intro r3 (And.intro B0 (And.intro hsz (hs.below B0))))))
  have HLE := Lib.hid hl
  have HN := Lib.hid hn
  have c2 := r2.cell
  clear r1 r2 r3 B0 hs hsz hl hn
  obtain ⟨pk, hpk⟩ : ∃ pk, pick gs i = pk := ⟨_, rfl⟩
  unfold twiceS
  rw [hpk]
  cases pk with
  | none =>
    have hout := Lib.hid (pick_none hpk)
    clear hpk
    dsimp only
    go_enter Try.func18, Try.ntmps18
    go_wp2_with (first
      | (with_reducible show wpList _ _ _ (Oper.mk _ (Op.load 24 _) _ _ _ _ :: _) _ _
         refine wpList_loadW H0.out.1 aggB rfl _ rfl rfl ?_))
    refine (done_out _ n gs i _ _ H0.out.2.2.2.2.2 HLE.out HN.out hout.out).mono ?_; rintro e w3 ⟨A', q', c', rfl, hm⟩
    have HQ := Lib.hid (And.intro (H0.out.2.2.1.below hm.below) (And.intro (hm.ownP.imp (q := fun k => w.heap.size + 1 + 1 + 1 ≤ k) (fun k _ hk => by have := H0.out.2.2.2.2.1; omega)) (H0.out.2.2.2.1.trans (hm.below.mono H0.out.2.2.2.1.size))))
    clear hm H0 c2
    go_wp2_with (first
      | (with_reducible show wpList _ _ _ (Oper.mk _ (Op.store 24 _ _) _ _ _ _ :: _) _ _
         refine wpList_storeR (c := bagC (.slice A' q' c') n) rfl _ _ rfl rfl rfl aggB.hi HQ.out.1 rfl (bag_one _ _ _ _) ?_))
    obtain ⟨r3, hm, hb⟩ := HQ.out
    exact bodyPost_ret (results_cr rfl rfl rfl (r3.setRow (c' := bagC (.slice A' q' c') n)) aggB) rfl ⟨A', q', c', rfl, (hm.setRow (by omega) _).made (fun k hk => by omega) (below_setRow hb (by omega) _)⟩
  | some k =>
    obtain ⟨rfl, hk⟩ := pick_some hpk
    clear hpk
    dsimp only
    have hgd := getD_at hk
    rw [hgd]
    have hD := twice_deed (w.heap.size + 1) _ gs n k H0.out.2.1 hk HN.out HLE.out
    obtain ⟨gs', hgs'⟩ : ∃ x, (sentS (gs, n) gs[k]).1 = x := ⟨_, rfl⟩
    obtain ⟨n', hn'⟩ : ∃ x, (sentS (gs, n) gs[k]).2 = x := ⟨_, rfl⟩
    rw [hgs', hn'] at hD
    rw [hgs', hn']
    have HD := Lib.hid hD
    have HK := Lib.hid hk
    clear hgs' hn' hD hk hgd
    go_enter Try.func18, Try.ntmps18
    go_wp2_with (first
      | (with_reducible show wpList _ _ _ (Oper.mk _ (Op.load 24 _) _ _ _ _ :: _) _ _
         refine wpList_loadW H0.out.1 aggB rfl _ rfl rfl ?_))
    refine (done_in _ n gs k 37 _ _ H0.out.2.2.2.2.2 HLE.out HN.out HK.out (enters_of Try.func37 (by kernel_rfl) rfl) HD.out (fun r h => by cases h) (fun _ _ _ => trivial)).mono ?_; rintro e w3 ⟨A', q', c', rfl, hO, hT, -⟩
    have hb := hT.below (fun q _ h => by cases h)
    have HQ := Lib.hid (And.intro (H0.out.2.2.1.below hb) (And.intro (hO.imp (q := fun k => w.heap.size + 1 + 1 + 1 ≤ k) (fun k _ hk => by have := H0.out.2.2.2.2.1; omega)) (H0.out.2.2.2.1.trans (hb.mono H0.out.2.2.2.1.size))))
    clear hO hT hb H0 c2
    go_wp2_with (first
      | (with_reducible show wpList _ _ _ (Oper.mk _ (Op.store 24 _ _) _ _ _ _ :: _) _ _
         refine wpList_storeR (c := bagC (.slice A' q' c') n') rfl _ _ rfl rfl rfl aggB.hi HQ.out.1 rfl (bag_one _ _ _ _) ?_))
    obtain ⟨r3, hm, hb⟩ := HQ.out
    exact bodyPost_ret (results_cr rfl rfl rfl (r3.setRow (c' := bagC (.slice A' q' c') n')) aggB) rfl ⟨A', q', c', rfl, (hm.setRow (by omega) _).made (fun k hk => by omega) (below_setRow hb (by omega) _)⟩
end Go.Proofs.Ytdoigpifkdkjpaa
