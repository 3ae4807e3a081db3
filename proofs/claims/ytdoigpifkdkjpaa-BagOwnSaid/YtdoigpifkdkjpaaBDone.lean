/- A deed to a bag that was made anew: what comes of it. -/
import Derived.Test.YtdoigpifkdkjpaaBOwnL
set_option linter.unusedVariables false
set_option maxRecDepth 100000
set_option linter.unusedSimpArgs false
namespace Go.Proofs.Ytdoigpifkdkjpaa
open Go.RowKit Go.Shelf Ms

section
variable {P : Program} {fn : Func} {w : World} {tmps : Array Value}
theorem results_cr {p u : Tmp} {ty : TypeId} (h : fn.results = #[.cell p ty, .tmp u]) {g : Nat} {t : TypeId} {cs : Array Value} (hp : tmps.getD p undef = .pointer (some ⟨g, 0, none⟩)) {v : Value} (hv : tmps.getD u undef = v) (hg : Rw w g t cs) (A : Agg P ty cs.size) :
    (results fn tmps).run P w = .ok (.tuple #[.agg cs, v]) w := by
  obtain ⟨d, hu, hd⟩ := A.hu
  have hp' : tmps[p]?.getD undef = .pointer (some ⟨g, 0, none⟩) := by simpa using hp
  have hv' : tmps[u]?.getD undef = v := by simpa using hv
  have hr := run_loadVar_row (P := P) w g t ty cs (0, 0) d hg hu (by cases d <;> simp_all [TypeDesc.isRow]) A.hi
  simp [results, h, hp', hv', asAddr, hr]
theorem results_ccr {p q u : Tmp} {ty tz : TypeId} (h : fn.results = #[.cell p ty, .cell q tz, .tmp u]) {g k : Nat} {t s : TypeId} {cs ds : Array Value} (hp : tmps.getD p undef = .pointer (some ⟨g, 0, none⟩)) (hq : tmps.getD q undef = .pointer (some ⟨k, 0, none⟩)) {v : Value} (hv : tmps.getD u undef = v)
    (hg : Rw w g t cs) (A : Agg P ty cs.size) (hk : Rw w k s ds) (B : Agg P tz ds.size) : (results fn tmps).run P w = .ok (.tuple #[.agg cs, .agg ds, v]) w := by
  obtain ⟨d, hu, hd⟩ := A.hu
  obtain ⟨e, he, hf⟩ := B.hu
  have hp' : tmps[p]?.getD undef = .pointer (some ⟨g, 0, none⟩) := by simpa using hp
  have hq' : tmps[q]?.getD undef = .pointer (some ⟨k, 0, none⟩) := by simpa using hq
  have hv' : tmps[u]?.getD undef = v := by simpa using hv
  have hr := run_loadVar_row (P := P) w g t ty cs (0, 0) d hg hu (by cases d <;> simp_all [TypeDesc.isRow]) A.hi
  have hr2 := run_loadVar_row (P := P) w k s tz ds (0, 0) e hk he (by cases e <;> simp_all [TypeDesc.isRow]) B.hi
  simp [results, h, hp', hq', hv', asAddr, hr, hr2]
end
/-- From one world to the next: only blocks of this kind have turned, others have come. -/
structure Turns (q : Nat → Prop) (w w' : World) : Prop where
  os : w'.os = w.os
  tape : w'.tape = w.tape
  output : w'.output = w.output
  size : w.heap.size ≤ w'.heap.size
  block : ∀ k, k < w.heap.size → ¬ q k → w'.heap[k]? = w.heap[k]?
theorem Turns.refl (q : Nat → Prop) (w : World) : Turns q w w := ⟨rfl, rfl, rfl, Nat.le_refl _, fun _ _ _ => rfl⟩
theorem Turns.of_below {q : Nat → Prop} {w w' : World} (h : Below w.heap.size w w') : Turns q w w' := ⟨h.os, h.tape, h.output, h.size, fun k hk _ => h.block k hk⟩
theorem Turns.of_grown {q : Nat → Prop} {w w' : World} {row : Option Nat} (h : w.grownBy w' row) (hr : ∀ k, row = some k → q k) : Turns q w w' := ⟨h.os, h.tape, h.output, h.size, fun k hk hq => h.block k hk (fun e => hq (hr k e.symm))⟩
theorem Turns.trans {q r : Nat → Prop} {a b c : World} (h : Turns q a b) (k : Turns r b c) (hr : ∀ k, k < a.heap.size → r k → q k) : Turns q a c :=
  ⟨k.os.trans h.os, k.tape.trans h.tape, k.output.trans h.output, Nat.le_trans h.size k.size, fun i hi hq => (k.block i (Nat.lt_of_lt_of_le hi h.size) (fun e => hq (hr i hi e))).trans (h.block i hi hq)⟩
theorem Turns.imp {q r : Nat → Prop} {a b : World} (h : Turns q a b) (hr : ∀ k, k < a.heap.size → q k → r k) : Turns r a b := ⟨h.os, h.tape, h.output, h.size, fun i hi hq => h.block i hi (fun e => hq (hr i hi e))⟩
theorem Turns.rw_ {q : Nat → Prop} {w w' : World} (h : Turns q w w') {b : Nat} {t : TypeId} {c : Array Value} (hr : Rw w b t c) (hb : ¬ q b) : Rw w' b t c := (h.block b hr.lt hb).trans hr
theorem Turns.below {q : Nat → Prop} {w w' : World} (h : Turns q w w') (hq : ∀ k, k < w.heap.size → ¬ q k) : Below w.heap.size w w' := ⟨h.os, h.tape, h.output, h.size, fun k hk => h.block k hk (hq k hk)⟩
theorem Turns.setRow (w : World) (b : Nat) (c : Array Value) : Turns (fun k => k = b) w (w.setRow b c) := ⟨rfl, rfl, rfl, by simp [World.setRow], fun k _ hk => Go.setRow_other w b k c hk⟩
theorem Turns.set (w : World) (b j : Nat) (v : Value) : Turns (fun k => k = b) w (w.setCell ⟨b, j, none⟩ v) := ⟨rfl, rfl, rfl, by simp [World.setCell], fun k _ hk => Below.heap_setCell w ⟨b, j, none⟩ v k hk⟩
theorem OwnP.turns {p q : Nat → Prop} {w w' : World} {e : TypeId} {v : Value} {gs : List Gr} (h : OwnP p w e v gs) (ht : Turns q w w') (hq : ∀ k, p k → ¬ q k) : OwnP p w' e v gs := h.of fun k h1 h2 => ht.block k h2 (hq k h1)

/-- What a deed does: to the bag that lies at B, all of it in blocks of kind p; besides only one more block may turn. -/
def Deed (f : Nat) (lb : Array Value) (w : World) (gs : List Gr) (n : Int) (ok : Bool) (gs' : List Gr) (n' : Int) (row : Option Nat) (E : World → Prop) : Prop :=
  ∀ (X : World) (A : Option Addr) (c B : Nat) (p : Nat → Prop), Below w.heap.size w X → w.heap.size ≤ B → (∀ k, p k → w.heap.size + 1 + 1 ≤ k) → ¬ p B → Rw X B 24 (bagC (.slice A gs.length c) n) → OwnP p X 29 (.slice A gs.length c) gs →
    Calls Try.prog f (#[.pointer (some ⟨B, 0, none⟩)] ++ lb) X fun e X' => e = .returned (.bool ok) ∧ ∃ A' q' c', Rw X' B 24 (bagC (.slice A' q' c') n') ∧ OwnP (fun k => p k ∨ X.heap.size ≤ k) X' 29 (.slice A' q' c') gs' ∧
      Turns (fun k => k = B ∨ p k ∨ row = some k) X X' ∧ E X'

set_option maxHeartbeats 4000000 in
theorem done_out (s : Value) (n : Int) (gs : List Gr) (at_ : Int) (dv : Value) (w : World) (hs : SwG w s gs) (hl : ∀ g ∈ gs, g.bytes.length ≤ 1000) (hn : gs.length ≤ 1000) (hat : at_ < 0 ∨ (gs.length : Int) ≤ at_) :
    Calls Try.prog 30 #[.agg (bagC s n), .int .i64 at_, dv] w fun e w' => ∃ A q c, e = .returned (.tuple #[.agg (bagC (.slice A q c) n), .int .i64 2]) ∧ MadeG w w' 29 (.slice A q c) gs := by
  obtain ⟨A0, c0, rfl⟩ := hs.form
  obtain ⟨r1, r2, B0⟩ := two_boxes w (bagC (.slice A0 gs.length c0) n) (bagC nilB 0) 24 24
  have hsz : ((w.alloc (.cells (bagC (.slice A0 gs.length c0) n) 24)).alloc (.cells (bagC nilB 0) 24)).heap.size = w.heap.size + 1 + 1 := by simp
  have H0 := Lib.hid (And.intro r1 (And.intro r2 (And.intro B0 (And.intro hsz (hs.below B0)))))
  have HLE := Lib.hid hl
  have HN := Lib.hid hn
  have hat' := hat
  clear r1 r2 B0 hs hsz hl hn
  go_enter Try.func30, Try.ntmps30
  go_wp2_with fail
  refine wp_scope_fwd ?_
  go_wp2_with (first
    | (with_reducible show wpList _ _ _ (Oper.mk _ (Op.load 24 _) _ _ _ _ :: _) _ _
       refine wpList_loadW H0.out.1 aggB rfl _ rfl rfl ?_))
  refine (Own_any _ n gs _ H0.out.2.2.2.2 HLE.out HN.out).mono ?_; rintro e w2 ⟨A2, q2, c2, rfl, hm⟩
  obtain rfl : q2 = gs.length := by
    obtain ⟨_, _, hv2⟩ := hm.swG.form
    injection hv2
  have q2 := H0.out.2.1.below hm.below
  have hb := H0.out.2.2.1.trans (hm.below.mono H0.out.2.2.1.size)
  have hz : w.heap.size + 1 + 1 ≤ w2.heap.size := by have := hm.below.size; have := H0.out.2.2.2.1; omega
  have hO : OwnP (fun k => w.heap.size + 1 + 1 ≤ k) w2 29 (.slice A2 gs.length c2) gs := hm.ownP.imp (fun k _ hk => by have := H0.out.2.2.2.1; omega)
  have HQ := Lib.hid (And.intro q2 (And.intro hb (And.intro hz hO)))
  have hgn := HN.out
  clear q2 hb hz hO H0 hm
  by_cases hneg : at_ < 0
  · have d1 : decide (at_ < 0) = true := decide_eq_true hneg
    clear hneg hat hat'
    go_wp2_with (first
      | (with_reducible show wpList _ _ _ (Oper.mk _ (Op.store 24 _ _) _ _ _ _ :: _) _ _
         refine wpList_storeR (c := bagC (.slice A2 gs.length c2) n) rfl _ _ rfl rfl rfl aggB.hi (Rw.new w2 (bagC nilB 0) 24) rfl (bag_one _ _ _ _) ?_
         refine gen_w (fun X => Rw X w2.heap.size 24 (bagC (.slice A2 gs.length c2) n) ∧ Below w2.heap.size w2 X) ⟨(Rw.new w2 (bagC nilB 0) 24).setRow, below_setRow (box_below w2 _) (Nat.le_refl _) _⟩ ?_
         rintro X ⟨rX, bX⟩
         have HX := Lib.hid (And.intro rX bX)
         have cX := rX.cell
         clear rX bX))
    go_step3; refine fwd_goto _ rfl ?_
    go_wp2_with (first
      | (with_reducible show wpList _ _ _ (Oper.mk _ (Op.load 24 _) _ _ _ _ :: _) _ _
         refine wpList_loadW HX.out.1 aggB rfl _ rfl rfl ?_)
      | (with_reducible show wpList _ _ _ (Oper.mk _ (Op.store 24 _ _) _ _ _ _ :: _) _ _
         refine wpList_storeR (c := bagC (.slice A2 gs.length c2) n) rfl _ _ rfl rfl rfl aggB.hi (HQ.out.1.below HX.out.2) rfl (bag_one _ _ _ _) ?_))
    obtain ⟨rX, bX⟩ := HX.out
    obtain ⟨q2, hb, hz, hO⟩ := HQ.out
    exact nog_ret (bodyPost_ret (results_cr rfl rfl rfl ((q2.below bX).setRow (c' := bagC (.slice A2 gs.length c2) n)) aggB) rfl ⟨A2, _, c2, rfl, ((hO.below bX).setRow (by omega) _).made (fun k hk => by omega) (below_setRow (hb.trans (bX.mono hb.size)) (by omega) _)⟩)
  · have d1 : decide (at_ < 0) = false := decide_eq_false hneg
    have d2 : decide (at_ ≥ (gs.length : Int)) = true := decide_eq_true (hat.resolve_left hneg)
    clear hneg hat hat'
    go_wp2_with (first
      | (with_reducible show wpList _ _ _ (Oper.mk _ (Op.store 24 _ _) _ _ _ _ :: _) _ _
         refine wpList_storeR (c := bagC (.slice A2 gs.length c2) n) rfl _ _ rfl rfl rfl aggB.hi (Rw.new w2 (bagC nilB 0) 24) rfl (bag_one _ _ _ _) ?_
         refine gen_w (fun X => Rw X w2.heap.size 24 (bagC (.slice A2 gs.length c2) n) ∧ Below w2.heap.size w2 X) ⟨(Rw.new w2 (bagC nilB 0) 24).setRow, below_setRow (box_below w2 _) (Nat.le_refl _) _⟩ ?_
         rintro X ⟨rX, bX⟩
         have HX := Lib.hid (And.intro rX bX)
         have cX := rX.cell
         clear rX bX))
    go_step3; refine fwd_goto _ rfl ?_
    go_wp2_with (first
      | (with_reducible show wpList _ _ _ (Oper.mk _ (Op.load 24 _) _ _ _ _ :: _) _ _
         refine wpList_loadW HX.out.1 aggB rfl _ rfl rfl ?_)
      | (with_reducible show wpList _ _ _ (Oper.mk _ (Op.store 24 _ _) _ _ _ _ :: _) _ _
         refine wpList_storeR (c := bagC (.slice A2 gs.length c2) n) rfl _ _ rfl rfl rfl aggB.hi (HQ.out.1.below HX.out.2) rfl (bag_one _ _ _ _) ?_))
    obtain ⟨rX, bX⟩ := HX.out
    obtain ⟨q2, hb, hz, hO⟩ := HQ.out
    exact nog_ret (bodyPost_ret (results_cr rfl rfl rfl ((q2.below bX).setRow (c' := bagC (.slice A2 gs.length c2) n)) aggB) rfl ⟨A2, _, c2, rfl, ((hO.below bX).setRow (by omega) _).made (fun k hk => by omega) (below_setRow (hb.trans (bX.mono hb.size)) (by omega) _)⟩)

set_option maxHeartbeats 4000000 in
theorem done_in (s : Value) (n : Int) (gs : List Gr) (k : Nat) (f : Nat) (lb : Array Value) (w : World) (hs : SwG w s gs) (hl : ∀ g ∈ gs, g.bytes.length ≤ 1000) (hn : gs.length ≤ 1000) (hk : k < gs.length)
    {ok : Bool} {gs' : List Gr} {n' : Int} {row : Option Nat} {E : World → Prop} (eg : ∀ args w, (callFunc f args).run Try.prog w = .ok (.enter f args) w) (hD : Deed f lb w gs n ok gs' n' row E) (hrow : ∀ r, row = some r → r < w.heap.size) (hE : ∀ X c, E X → E (X.setRow (w.heap.size + 1) c)) :
    Calls Try.prog 30 #[.agg (bagC s n), .int .i64 (k : Int), .func (.func f) #[] lb] w fun e w' => ∃ A q c, e = .returned (.tuple #[.agg (bagC (.slice A q c) n'), .int .i64 (if ok then 0 else 2)]) ∧ OwnP (fun k => w.heap.size ≤ k) w' 29 (.slice A q c) gs' ∧ Turns (fun k => row = some k) w w' ∧ E w' := by
  obtain ⟨A0, c0, rfl⟩ := hs.form
  obtain ⟨r1, r2, B0⟩ := two_boxes w (bagC (.slice A0 gs.length c0) n) (bagC nilB 0) 24 24
  have hsz : ((w.alloc (.cells (bagC (.slice A0 gs.length c0) n) 24)).alloc (.cells (bagC nilB 0) 24)).heap.size = w.heap.size + 1 + 1 := by simp
  have H0 := Lib.hid (And.intro r1 (And.intro r2 (And.intro B0 (And.intro hsz (hs.below B0)))))
  have HLE := Lib.hid hl
  have HN := Lib.hid hn
  have HD := Lib.hid hD
  have HE := Lib.hid hE
  have HROW := Lib.hid hrow
  clear r1 r2 B0 hs hsz hl hn hD hE hrow
  go_enter Try.func30, Try.ntmps30
  go_wp2_with fail
  refine wp_scope_fwd ?_
  go_wp2_with (first
    | (with_reducible show wpList _ _ _ (Oper.mk _ (Op.load 24 _) _ _ _ _ :: _) _ _
       refine wpList_loadW H0.out.1 aggB rfl _ rfl rfl ?_))
  refine (Own_any _ n gs _ H0.out.2.2.2.2 HLE.out HN.out).mono ?_; rintro e w2 ⟨A2, q2, c2, rfl, hm⟩
  obtain rfl : q2 = gs.length := by
    obtain ⟨_, _, hv2⟩ := hm.swG.form
    injection hv2
  have q2 := H0.out.2.1.below hm.below
  have hb := H0.out.2.2.1.trans (hm.below.mono H0.out.2.2.1.size)
  have hz : w.heap.size + 1 + 1 ≤ w2.heap.size := by have := hm.below.size; have := H0.out.2.2.2.1; omega
  have hO : OwnP (fun k => w.heap.size + 1 + 1 ≤ k ∧ k < w2.heap.size) w2 29 (.slice A2 gs.length c2) gs := hm.ownP.imp (fun k h1 hk => ⟨by have := H0.out.2.2.2.1; omega, h1⟩)
  have HQ := Lib.hid (And.intro q2 (And.intro hb (And.intro hz hO)))
  have hgn := HN.out
  clear q2 hb hz hO H0 hm
  have d1 : decide ((k : Int) < 0) = false := decide_eq_false (by omega)
  have d2 : decide ((k : Int) ≥ (gs.length : Int)) = false := decide_eq_false (by omega)
  have d3 : decide (gs.length ≤ k) = false := decide_eq_false (by omega)
  go_wp2_with (first
    | (with_reducible show wpList _ _ _ (Oper.mk _ (Op.store 24 _ _) _ _ _ _ :: _) _ _
       refine wpList_storeR (c := bagC (.slice A2 gs.length c2) n) rfl _ _ rfl rfl rfl aggB.hi (Rw.new w2 (bagC nilB 0) 24) rfl (bag_one _ _ _ _) ?_
       refine gen_w (fun X => Rw X w2.heap.size 24 (bagC (.slice A2 gs.length c2) n) ∧ Below w2.heap.size w2 X) ⟨(Rw.new w2 (bagC nilB 0) 24).setRow, below_setRow (box_below w2 _) (Nat.le_refl _) _⟩ ?_
       rintro X ⟨rX, bX⟩
       have HX := Lib.hid (And.intro rX bX)
       have cX := rX.cell
       clear rX bX))
  have hcall := HD.out X A2 c2 w2.heap.size (fun k => w.heap.size + 1 + 1 ≤ k ∧ k < w2.heap.size) (HQ.out.2.1.trans (HX.out.2.mono HQ.out.2.1.size)) (by have := HQ.out.2.2.1; omega) (fun k hk => by omega) (by omega) HX.out.1 (HQ.out.2.2.2.below HX.out.2)
  refine hcall.mono ?_; rintro e X' ⟨rfl, A', q', c', hR', hO', hT', hE'⟩
  clear hcall cX
  have r6 : Rw X' (w.heap.size + 1) 24 (bagC nilB 0) := hT'.rw_ (HQ.out.1.below HX.out.2) (by
    have := HQ.out.2.2.1
    have hr := HROW.out (w.heap.size + 1)
    rintro (h | h | h)
    · omega
    · omega
    · have := hr h; omega)
  have HF := Lib.hid (And.intro hR' (And.intro r6 (And.intro hO' (And.intro hT' hE'))))
  clear hR' r6 hO' hT' hE' d1 d2 d3
  cases ok
  · go_wp2_with fail
    go_step3; refine fwd_goto _ rfl ?_
    go_wp2_with (first
      | (with_reducible show wpList _ _ _ (Oper.mk _ (Op.load 24 _) _ _ _ _ :: _) _ _
         refine wpList_loadW HF.out.1 aggB rfl _ rfl rfl ?_)
      | (with_reducible show wpList _ _ _ (Oper.mk _ (Op.store 24 _ _) _ _ _ _ :: _) _ _
         refine wpList_storeR (c := bagC (.slice A' q' c') n') rfl _ _ rfl rfl rfl aggB.hi HF.out.2.1 rfl (bag_one _ _ _ _) ?_))
    obtain ⟨rX, r6, hO', hT', hE'⟩ := HF.out
    obtain ⟨q2, hb, hz, hO⟩ := HQ.out
    obtain ⟨rX0, bX⟩ := HX.out
    have hfin : Turns (fun k => row = some k) w (X'.setRow (w.heap.size + 1) (bagC (.slice A' q' c') n')) :=
      ((Turns.of_below (hb.trans (bX.mono hb.size))).trans hT' (fun i h1 h2 => by rcases h2 with h2 | h2 | h2 <;> first | exact h2 | omega)).trans (Turns.setRow X' (w.heap.size + 1) _) (fun i h1 h2 => by omega)
    exact nog_ret (bodyPost_ret (results_cr rfl rfl rfl (r6.setRow (c' := bagC (.slice A' q' c') n')) aggB) rfl ⟨A', _, c', rfl, (hO'.setRow (by have := bX.size; omega) _).imp (fun k _ hk => by have := bX.size; omega), hfin, HE.out _ _ hE'⟩)
  · have h0 : True := trivial
    go_wp2_with (first
      | (with_reducible show wpList _ _ _ (Oper.mk _ (Op.load 24 _) _ _ _ _ :: _) _ _
         refine wpList_loadW HF.out.1 aggB rfl _ rfl rfl ?_)
      | (with_reducible show wpList _ _ _ (Oper.mk _ (Op.store 24 _ _) _ _ _ _ :: _) _ _
         refine wpList_storeR (c := bagC (.slice A' q' c') n') rfl _ _ rfl rfl rfl aggB.hi HF.out.2.1 rfl (bag_one _ _ _ _) ?_))
    obtain ⟨rX, r6, hO', hT', hE'⟩ := HF.out
    obtain ⟨q2, hb, hz, hO⟩ := HQ.out
    obtain ⟨rX0, bX⟩ := HX.out
    have hfin : Turns (fun k => row = some k) w (X'.setRow (w.heap.size + 1) (bagC (.slice A' q' c') n')) :=
      ((Turns.of_below (hb.trans (bX.mono hb.size))).trans hT' (fun i h1 h2 => by rcases h2 with h2 | h2 | h2 <;> first | exact h2 | omega)).trans (Turns.setRow X' (w.heap.size + 1) _) (fun i h1 h2 => by omega)
    exact fwd_ret (bodyPost_ret (results_cr rfl rfl rfl (r6.setRow (c' := bagC (.slice A' q' c') n')) aggB) rfl ⟨A', _, c', rfl, (hO'.setRow (by have := bX.size; omega) _).imp (fun k _ hk => by have := bX.size; omega), hfin, HE.out _ _ hE'⟩)
end Go.Proofs.Ytdoigpifkdkjpaa
