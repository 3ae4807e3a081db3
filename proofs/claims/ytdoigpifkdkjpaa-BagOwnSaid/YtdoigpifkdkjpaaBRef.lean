/- The document's own answers of bags: datagrams in memory of their own, the same, for whom. -/
import Derived.Test.YtdoigpifkdkjpaaChecked
import Derived.Test.YtdoigpifkdkjpaaGr
import Derived.Test.YtdoigpifkdkjpaaRwG
import Derived.Great.BuildSlice
import Derived.Deep.RegionHeld3
import Derived.Deep.RegionWith
set_option linter.unusedVariables false
set_option maxRecDepth 100000
set_option linter.unusedSimpArgs false
namespace Go.Proofs.Ytdoigpifkdkjpaa
open Go.RowKit Go.Shelf Ms

def Gr.c (g : Gr) (u : Value) : Array Value := #[.int .i64 g.to, u, .bool g.harm]
def bagC (s : Value) (n : Int) : Array Value := #[s, .int .i64 n]
section
variable (g : Gr) (u s v : Value) (n : Int)
@[go_sem] theorem Gr.cn : (g.c u).size = 3 := rfl
@[go_sem] theorem Gr.c0 : (g.c u)[0]? = some (.int .i64 g.to) := rfl
@[go_sem] theorem Gr.c1 : (g.c u)[1]? = some u := rfl
@[go_sem] theorem Gr.c2 : (g.c u)[2]? = some (.bool g.harm) := rfl
@[go_sem] theorem bag_n : (bagC s n).size = 2 := rfl
@[go_sem] theorem bag_0 : (bagC s n)[0]? = some s := rfl
@[go_sem] theorem bag_1 : (bagC s n)[1]? = some (.int .i64 n) := rfl
theorem Gr.set1 : (g.c u).setIfInBounds 1 v = g.c v := rfl
theorem Gr.one (A : Option Addr) (k q : Nat) : (g.c (.slice A k q)).all (·.oneCell') = true := by simp [Gr.c, Value.oneCell']
theorem bag_one (A : Option Addr) (k q : Nat) : (bagC (.slice A k q) n).all (·.oneCell') = true := by simp [bagC, Value.oneCell']
end
def noG : Gr := ⟨0, [], false⟩
@[reducible] def nilB : Value := .slice none 0 0
theorem aggG : Agg Try.prog 29 3 := ⟨⟨_, Try.underlying29, rfl⟩, by kernel_rfl⟩
theorem aggB : Agg Try.prog 24 2 := ⟨⟨_, Try.underlying24, rfl⟩, by kernel_rfl⟩
theorem elB : ElOf Try.prog 27 5 (.int .u8 0) 1 := ⟨Try.underlying27, by kernel_rfl, rfl, by decide⟩
theorem elG : ElN Try.prog 22 29 (.agg (noG.c nilB)) 3 40 := ⟨Try.underlying22, by kernel_rfl, rfl, by decide, by decide⟩
theorem run_one (g : Gr) (u : Value) (w : World) : (Instr.buildSlice 22 1 #[(0, .agg (g.c u))]).run Try.prog w = .ok (.slice (some ⟨w.heap.size, 0, none⟩) 1 1) (w.alloc (.cells (g.c u) 29)) :=
  run_buildSlice w 22 29 1 _ _ _ _ (by kernel_rfl) rfl rfl (by decide) (by decide) (by kernel_rfl)

set_option maxHeartbeats 2000000 in
theorem rown_any (g : Gr) (u : Value) (w : World) (hu : Sw w u (bv g.bytes)) (hl : g.bytes.length ≤ 1000) :
    Calls Try.prog 35 #[.agg (g.c u)] w fun e w' => ∃ A n c, e = .returned (.agg (g.c (.slice A n c))) ∧ Made w w' 5 (.slice A n c) (bv g.bytes) := by
  obtain ⟨A0, c0, rfl⟩ := hu.form
  rw [bv_length] at hu ⊢
  obtain ⟨r1, r2, B0⟩ := two_boxes w (g.c (.slice A0 g.bytes.length c0)) (noG.c nilB) 29 29
  have hsz : ((w.alloc (.cells (g.c (.slice A0 g.bytes.length c0)) 29)).alloc (.cells (noG.c nilB) 29)).heap.size = w.heap.size + 1 + 1 := by simp
  have S0 := hu.below B0
  have hm0 := Made.lit ((w.alloc (.cells (g.c (.slice A0 g.bytes.length c0)) 29)).alloc (.cells (noG.c nilB) 29)) 5 [] 0 rfl (by decide)
  rw [hsz] at hm0
  have HM := Lib.hid hm0
  have HS := Lib.hid (S0.below hm0.below)
  have R1 := Lib.hid (r1.below hm0.below)
  have R2 := Lib.hid (r2.below hm0.below)
  have HB := Lib.hid (B0.trans (hm0.below.mono B0.size))
  have HZ := Lib.hid hsz
  have R0 := Lib.hid (And.intro r1 (And.intro r2 B0))
  clear hm0
  have HL := Lib.hid hl
  have c1 := r1.cell
  clear S0 r2 hu hl hsz
  go_enter Try.func35, Try.ntmps35
  go_wp2_with (first
    | (at_builtin
       refine wpList_more_w (xs := []) elB rfl (.tmp 3) (.tmp 5) rfl rfl HM.out rfl HS.out (bv_one _) (by have := HL.out; have := bv_length g.bytes; (try simp only [List.length_nil]); omega) ?_
       intro v' w' hm hg
       rw [List.nil_append] at hm
       obtain ⟨A, c, rfl⟩ := hm.sl.form
       have hbb : Below w'.heap.size w' w' := Below.refl _ _
       have hW0 := HZ.out
       have o1 := hm.own
       rw [hW0] at o1
       have r1 := (show Rw _ w.heap.size 29 (g.c (.slice A0 g.bytes.length c0)) from R0.out.1).below hm.below
       have r2 := R0.out.2.1.below hm.below
       have b1 := R0.out.2.2.trans (hm.below.mono R0.out.2.2.size)
       refine gen_w (fun X => Rw X w.heap.size 29 (g.c (.slice A0 g.bytes.length c0)) ∧ Rw X (w.heap.size + 1) 29 (noG.c nilB) ∧ X.ownsRow (w.heap.size + 1 + 1) 5 1 (.slice A (bv g.bytes).length c) (bv g.bytes).length (bv g.bytes) ∧ Below w.heap.size w X)
         ⟨r1, r2, o1, b1⟩ ?_
       clear r1 r2 o1 b1 hm hg
       rintro X ⟨q1, q2, q3, q4⟩)
    | (with_reducible show wpList _ _ _ (Oper.mk _ (Op.store 27 _ _) _ _ _ _ :: _) _ _
       refine wpList_store1 q1 (by kernel_rfl) rfl _ _ rfl (j := 1) rfl (v := .slice A (bv g.bytes).length c) rfl (by show 1 < 3; decide) rfl rfl ?_
       refine gen_w (fun X => Rw X w.heap.size 29 (g.c (.slice A (bv g.bytes).length c)) ∧ Rw X (w.heap.size + 1) 29 (noG.c nilB) ∧ X.ownsRow (w.heap.size + 1 + 1) 5 1 (.slice A (bv g.bytes).length c) (bv g.bytes).length (bv g.bytes) ∧ Below w.heap.size w X)
         ⟨q1.set 1 _, q2.set_other (by omega) 1 _, owns_set q3 (by omega) 1 _, q4.setCell (p := ⟨w.heap.size, 1, none⟩) (Nat.le_refl _) _⟩ ?_
       clear q1 q2 q3 q4
       rintro X ⟨q1, q2, q3, q4⟩)
    | (with_reducible show wpList _ _ _ (Oper.mk _ (Op.load 29 _) _ _ _ _ :: _) _ _
       refine wpList_loadW q1 aggG rfl _ rfl rfl ?_)
    | (with_reducible show wpList _ _ _ (Oper.mk _ (Op.store 29 _ _) _ _ _ _ :: _) _ _
       refine wpList_storeR (c := g.c (.slice A (bv g.bytes).length c)) rfl _ _ rfl rfl rfl aggG.hi q2 rfl (Gr.one _ _ _ _) ?_))
  refine bodyPost_ret (results_cell_row rfl _ _ _ _ _ _ _ rfl (q2.setRow (c' := g.c (.slice A (bv g.bytes).length c))) Try.underlying29 rfl aggG.hi) rfl ⟨A, _, c, rfl, ?_, below_setRow q4 (by omega) _⟩
  exact owns_mono (owns_setRow q3 (by omega) _) (by omega)
instance : DecidableEq Gr := fun a b => by
  cases a; cases b
  simp only [Gr.mk.injEq]
  infer_instance
theorem gr_ext {a b : Gr} : a = b ↔ a.to = b.to ∧ a.harm = b.harm ∧ a.bytes = b.bytes := by
  cases a; cases b
  simp only [Gr.mk.injEq]
  constructor
  · rintro ⟨rfl, rfl, rfl⟩; exact ⟨rfl, rfl, rfl⟩
  · rintro ⟨rfl, rfl, rfl⟩; exact ⟨rfl, rfl, rfl⟩
set_option maxHeartbeats 4000000 in
theorem rgram_any (a b : Gr) (ua ub : Value) (w : World) (ha : Sw w ua (bv a.bytes)) (hb : Sw w ub (bv b.bytes)) :
    Calls Try.prog 15 #[.agg (a.c ua), .agg (b.c ub)] w fun e w' => e = .returned (.bool (decide (a = b))) ∧ Below w.heap.size w w' := by
  obtain ⟨r1, r2, B0⟩ := two_boxes w (a.c ua) (b.c ub) 29 29
  have t1 := run_str_w (P := Try.prog) 27 9 5 Try.underlying27 Try.underlying5 Try.underlying9 ua a.bytes (ha.below B0)
  have t2 := run_str_w (P := Try.prog) 27 9 5 Try.underlying27 Try.underlying5 Try.underlying9 ub b.bytes (hb.below B0)
  have c1 := r1.cell
  have c2 := r2.cell
  have HB := Lib.hid B0
  clear r1 r2 B0 ha hb
  by_cases h1 : a.to = b.to
  · have e1 : (a.to == b.to) = true := by simp [h1]
    by_cases h2 : a.harm = b.harm
    · have e2 : (a.harm == b.harm) = true := by simp [h2]
      have hd : decide (a = b) = decide (a.bytes = b.bytes) := by rw [decide_eq_decide, gr_ext]; exact ⟨fun h => h.2.2, fun h => ⟨h1, h2, h⟩⟩
      rw [hd]
      clear h1 h2 hd
      go_enter Try.func15, Try.ntmps15
      go_wp2
      go_ret
      refine ⟨ret_b ?_, HB.out⟩
      rw [Bool.eq_iff_iff, beq_iff_eq, decide_eq_true_iff]
    · have e2 : (a.harm == b.harm) = false := by simp [h2]
      have hd : decide (a = b) = false := decide_eq_false fun h => h2 (gr_ext.1 h).2.1
      rw [hd]
      clear h1 h2 hd
      go_enter Try.func15, Try.ntmps15
      go_wp2
      go_ret
      exact ⟨rfl, HB.out⟩
  · have e1 : (a.to == b.to) = false := by simp [h1]
    have hd : decide (a = b) = false := decide_eq_false fun h => h1 (gr_ext.1 h).1
    rw [hd]
    clear h1 hd
    go_enter Try.func15, Try.ntmps15
    go_wp2
    go_ret
    exact ⟨rfl, HB.out⟩
set_option maxHeartbeats 8000000 in
theorem rgrams_any (va vb : Value) (la lb : List Gr) (w : World) (ha : SwG w va la) (hb : SwG w vb lb) :
    Calls Try.prog 27 #[va, vb] w fun e w' => e = .returned (.bool (decide (la = lb))) ∧ Below w.heap.size w w' := by
  obtain ⟨A, c, rfl⟩ := ha.form
  obtain ⟨B, d, rfl⟩ := hb.form
  have hla := ha.len
  have hlb := hb.len
  have HA := Lib.hid ha
  have HB := Lib.hid hb
  clear ha hb
  by_cases hl : la.length = lb.length
  · have HL := Lib.hid hl
    have hl' : ((la.length : Int) != lb.length) = false := by simp [hl]
    clear hl
    go_enter Try.func27, Try.ntmps27
    go_wp2
    go_loopw [5] (fun i W => ∃ k : Nat, k ≤ la.length ∧ i = .int .i64 (k : Int) ∧ la.take k = lb.take k ∧ Below w.heap.size w W) (fun i _ => la.length - (intOf i).toNat)
    case atStart => exact ⟨0, Nat.zero_le _, rfl, rfl, Below.refl _ _⟩
    case round =>
      obtain ⟨k, hk, rfl, htk, hW⟩ := hrel
      have HT := Lib.hid htk
      clear htk
      by_cases hkn : k < la.length
      · obtain ⟨b1, o1, rfl, hb1, x1, ⟨u1, y1, s1⟩, z1⟩ := (HA.out.below hW).at_ k hkn
        obtain ⟨b2, o2, rfl, hb2, x2, ⟨u2, y2, s2⟩, z2⟩ := (HB.out.below hW).at_ k (by rw [← HL.out]; exact hkn)
        have HG := Lib.hid (show la.take (k + 1) = la.take k ++ [la[k]] from List.take_succ_eq_append_getElem hkn)
        have HG2 := Lib.hid (show lb.take (k + 1) = lb.take k ++ [lb[k]'(by rw [← HL.out]; exact hkn)] from List.take_succ_eq_append_getElem _)
        have HNE := Lib.hid (show la[k] ≠ lb[k]'(by rw [← HL.out]; exact hkn) → la ≠ lb from fun h e => h (by subst e; rfl))
        have hkn2 : k < lb.length := by rw [← HL.out]; exact hkn
        generalize la[k] = ga at *
        generalize lb[k]'(by rw [← HL.out]; exact hkn) = gb at *
        obtain ⟨q, hq⟩ : ∃ q, decide (ga = gb) = q := ⟨_, rfl⟩
        have k1 := fun X h1 h2 => rgram_any ga gb u1 u2 X h1 h2
        rw [hq] at k1
        have K1 := Lib.hid k1
        have HQ := Lib.hid hq
        clear k1 hq
        have S1 := Lib.hid s1
        have S2 := Lib.hid s2
        have hS : ∀ X, Below wr.heap.size wr X → Below wr.heap.size wr X ∧ X.cell? ⟨b1, o1 + k * 3, none⟩ = some (.int .i64 ga.to) ∧ X.cell? ⟨b1, o1 + k * 3 + 1, none⟩ = some u1 ∧ X.cell? ⟨b1, o1 + k * 3 + 2, none⟩ = some (.bool ga.harm) ∧
            X.cell? ⟨b2, o2 + k * 3, none⟩ = some (.int .i64 gb.to) ∧ X.cell? ⟨b2, o2 + k * 3 + 1, none⟩ = some u2 ∧ X.cell? ⟨b2, o2 + k * 3 + 2, none⟩ = some (.bool gb.harm) := fun X h =>
          ⟨h, (h.cell (p := ⟨b1, _, none⟩) hb1).trans x1, (h.cell (p := ⟨b1, _, none⟩) hb1).trans y1, (h.cell (p := ⟨b1, _, none⟩) hb1).trans z1, (h.cell (p := ⟨b2, _, none⟩) hb2).trans x2, (h.cell (p := ⟨b2, _, none⟩) hb2).trans y2, (h.cell (p := ⟨b2, _, none⟩) hb2).trans z2⟩
        have HS := Lib.hid hS
        have HW := Lib.hid hW
        clear hS s1 s2 x1 y1 z1 x2 y2 z2 hW hb1 hb2
        go_wp2_with fail
        go_region_held3 (fun X => Below wr.heap.size wr X ∧ X.cell? ⟨b1, o1 + k * 3, none⟩ = some (.int .i64 ga.to) ∧ X.cell? ⟨b1, o1 + k * 3 + 1, none⟩ = some u1 ∧ X.cell? ⟨b1, o1 + k * 3 + 2, none⟩ = some (.bool ga.harm) ∧
            X.cell? ⟨b2, o2 + k * 3, none⟩ = some (.int .i64 gb.to) ∧ X.cell? ⟨b2, o2 + k * 3 + 1, none⟩ = some u2 ∧ X.cell? ⟨b2, o2 + k * 3 + 2, none⟩ = some (.bool gb.harm))
          (first
            | exact HS.out _ (Below.refl _ _).drew
            | assumption
            | exact HS.out _ ((Below.refl wr.heap.size wr).drew.trans hb))
          (first
            | (go_at_call 15; refine (K1.out _ (S1.out.below (Below.refl _ _).drew) (S2.out.below (Below.refl _ _).drew)).mono ?_; rintro e w2 ⟨rfl, hb⟩))
        have HW2 := HW.out.trans (((Below.refl wr.heap.size wr).drew.trans hb).mono HW.out.size)
        cases q
        · go_wp2
          go_ret
          exact ⟨ret_b (by symm; exact decide_eq_false (HNE.out (of_decide_eq_false HQ.out))), HW2⟩
        · have hge : ga = gb := of_decide_eq_true HQ.out
          go_wp2
          go_roundw
          case rel => exact ⟨k + 1, by omega, by go_num, by rw [HG.out, HG2.out, HT.out, hge], HW2⟩
          case measure => simp [intOf]; omega
      · obtain rfl : k = la.length := by omega
        have heq : la = lb := by
          have := HT.out
          rw [List.take_length, HL.out, List.take_length] at this
          exact this
        go_wp2
        go_ret
        exact ⟨ret_b (by symm; exact decide_eq_true heq), hW⟩
  · have hd : decide (la = lb) = false := decide_eq_false fun h => hl (by rw [h])
    have hl' : ((la.length : Int) != lb.length) = true := by rw [bne_iff_ne]; omega
    rw [hd]
    clear hl hd
    go_enter Try.func27, Try.ntmps27
    go_wp2
    go_ret
    exact ⟨rfl, Below.refl _ _⟩
set_option maxHeartbeats 4000000 in
theorem rsame_any (s t : Value) (n k : Int) (la lb : List Gr) (w : World) (ha : SwG w s la) (hb : SwG w t lb) :
    Calls Try.prog 12 #[.agg (bagC s n), .agg (bagC t k)] w fun e w' => e = .returned (.bool (decide (n = k ∧ la = lb))) ∧ Below w.heap.size w w' := by
  obtain ⟨r1, r2, B0⟩ := two_boxes w (bagC s n) (bagC t k) 24 24
  have c1 := r1.cell
  have c2 := r2.cell
  have HB := Lib.hid B0
  have HA := Lib.hid (ha.below B0)
  have HC := Lib.hid (hb.below B0)
  clear r1 r2 B0 ha hb
  by_cases h : n = k
  · have e1 : (n == k) = true := by simp [h]
    have hd : decide (n = k ∧ la = lb) = decide (la = lb) := by rw [decide_eq_decide]; exact ⟨fun x => x.2, fun x => ⟨h, x⟩⟩
    rw [hd]
    clear h hd
    go_enter Try.func12, Try.ntmps12
    go_wp2_with fail
    refine (rgrams_any s t la lb _ HA.out HC.out).mono ?_; rintro e w1 ⟨rfl, hb⟩
    go_wp2
    go_ret
    exact ⟨rfl, HB.out.trans (hb.mono HB.out.size)⟩
  · have e1 : (n == k) = false := by simp [h]
    have hd : decide (n = k ∧ la = lb) = false := decide_eq_false fun x => h x.1
    rw [hd]
    clear h hd
    go_enter Try.func12, Try.ntmps12
    go_wp2
    go_ret
    exact ⟨rfl, HB.out⟩

/-- A struct that lies so, loaded. -/
theorem run_loadG {P : Program} {ty : TypeId} {w : World} {b o : Nat} {g : Gr} {u : Value} (A : Agg P ty 3) (h0 : w.cell? ⟨b, o, none⟩ = some (.int .i64 g.to)) (h1 : w.cell? ⟨b, o + 1, none⟩ = some u) (h2 : w.cell? ⟨b, o + 2, none⟩ = some (.bool g.harm)) :
    (Instr.loadAt ty (.pointer (some ⟨b, o, none⟩))).run P w = .ok (.agg (g.c u)) w := by
  obtain ⟨d, hu, hd⟩ := A.hu
  have := run_loadAt_mid w b o ty [.int .i64 g.to, u, .bool g.harm] d (fun j v hv => by
    match j, hv with
    | 0, hv => injection hv with hv; subst hv; simpa using h0
    | 1, hv => injection hv with hv; subst hv; simpa using h1
    | 2, hv => injection hv with hv; subst hv; simpa using h2
    | j + 3, hv => simp at hv) hu hd (by rw [A.hi]; rfl)
  simpa [Gr.c] using this

set_option maxHeartbeats 8000000 in
theorem rOwn_any (s : Value) (n : Int) (gs : List Gr) (w : World) (hs : SwG w s gs) (hl : ∀ g ∈ gs, g.bytes.length ≤ 1000) (hn : gs.length ≤ 1000) :
    Calls Try.prog 28 #[.agg (bagC s n)] w fun e w' => ∃ A q c, e = .returned (.agg (bagC (.slice A q c) n)) ∧ MadeG w w' 29 (.slice A q c) gs := by
  obtain ⟨A, c, rfl⟩ := hs.form
  obtain ⟨r1, r2, B0⟩ := two_boxes w (bagC (.slice A gs.length c) n) (bagC nilB 0) 24 24
  have hsz : ((w.alloc (.cells (bagC (.slice A gs.length c) n) 24)).alloc (.cells (bagC nilB 0) 24)).heap.size = w.heap.size + 1 + 1 := by simp
  have S0 := hs.below B0
  have HB0 := Lib.hid B0
  have HR1 := Lib.hid r1
  have HR2 := Lib.hid r2
  have HS := Lib.hid S0
  have HZ := Lib.hid hsz
  have HL := Lib.hid hl
  have HN := Lib.hid hn
  have c1 := r1.cell
  clear r1 r2 B0 S0 hs hsz hl hn
  go_enter Try.func28, Try.ntmps28
  go_wp2
  go_loopw [3, 4] (fun t i W => ∃ k : Nat, k ≤ gs.length ∧ i = .int .i64 (k : Int) ∧ MadeG ((w.alloc (.cells (bagC (.slice A gs.length c) n) 24)).alloc (.cells (bagC nilB 0) 24)) W 29 t (gs.take k)) (fun _ i _ => gs.length - (intOf i).toNat)
  case atStart => exact ⟨0, Nat.zero_le _, rfl, MadeG.nil_ _ _⟩
  case round =>
    obtain ⟨k, hk, rfl, hM⟩ := hrel
    have HM := Lib.hid hM
    have cw := (HR1.out.below hM.below).cell
    have hnn := HN.out
    by_cases hkn : k < gs.length
    · obtain ⟨b1, o1, rfl, hb1, x1, ⟨u1, y1, s1⟩, z1⟩ := (HS.out.below hM.below).at_ k hkn
      have HG := Lib.hid (show gs.take (k + 1) = gs.take k ++ [gs[k]] from List.take_succ_eq_append_getElem hkn)
      have HGL := Lib.hid (HL.out _ (List.getElem_mem hkn))
      generalize gs[k] = g at *
      have LG := Lib.hid (run_loadG (P := Try.prog) aggG x1 y1 z1)
      have S1 := Lib.hid s1
      clear hM s1 x1 y1 z1 hb1
      go_wp2_with (first
        | (with_reducible show wpList _ _ _ (Oper.mk _ (Op.load 29 _) _ _ _ _ :: _) _ _
           refine wpList_loadR rfl _ rfl rfl LG.out ?_))
      refine (rown_any g u1 _ S1.out HGL.out).mono ?_; rintro e w1 ⟨A', q', c', rfl, hm⟩
      have RN := Rw.new w1 (g.c (.slice A' q' c')) 29
      have BN := box_below w1 (.cells (g.c (.slice A' q' c')) 29)
      have HO := Lib.hid (owns_below hm.own BN)
      have HBW := Lib.hid (hm.below.trans (BN.mono hm.below.size))
      have HCL := Lib.hid (show ∀ j y, (cells3 g (.slice A' q' c'))[j]? = some y → (w1.alloc (.cells (g.c (.slice A' q' c')) 29)).cell? ((⟨w1.heap.size, 0, none⟩ : Addr).add j) = some y from fun j y hy => by
        rw [add_plain, Nat.zero_add, RN.cell]
        simpa [Gr.c, cells3] using hy)
      clear hm RN BN
      go_wp2_with (first
        | (with_reducible show wpList _ _ _ (Oper.mk _ (Op.buildSlice _ _ _) _ _ _ _ :: _) _ _
           fail)
        | (at_builtin
           refine wpList_snocG elG rfl (.tmp 12) (.tmp 19) rfl rfl HM.out HBW.out (by have := HO.out; rw [bv_length] at this; exact this) rfl HCL.out (by have := HN.out; rw [List.length_take]; omega) rfl ?_
           intro v2 w2 hm2
           rw [← HG.out] at hm2))
      go_roundw
      case rel => exact ⟨k + 1, by omega, by go_num, hm2⟩
      case measure => simp [intOf]; omega
    · obtain rfl : k = gs.length := by omega
      rw [List.take_length] at hM HM
      obtain ⟨A2, c2, rfl⟩ := hM.swG.form
      have r1 := HR1.out.below hM.below
      have r2 := HR2.out.below hM.below
      have hb2 := HB0.out.trans (hM.below.mono HB0.out.size)
      go_wp2_with (first
        | (with_reducible show wpList _ _ _ (Oper.mk _ (Op.store 22 _ _) _ _ _ _ :: _) _ _
           refine wpList_store1 r1 (by kernel_rfl) rfl _ _ rfl (j := 0) rfl (v := .slice A2 gs.length c2) rfl (by show 0 < 2; decide) rfl rfl ?_
           refine gen_w (fun X => Rw X w.heap.size 24 (bagC (.slice A2 gs.length c2) n) ∧ Rw X (w.heap.size + 1) 24 (bagC nilB 0) ∧ (∀ k, w.heap.size + 1 + 1 ≤ k → X.heap[k]? = wr.heap[k]?) ∧ Below w.heap.size w X)
             ⟨r1.set 0 _, r2.set_other (by omega) 0 _, fun k hk => Below.heap_setCell wr ⟨w.heap.size, 0, none⟩ _ k (by show k ≠ w.heap.size; omega), hb2.setCell (p := ⟨w.heap.size, 0, none⟩) (Nat.le_refl _) _⟩ ?_
           clear r1 r2 hb2
           rintro X ⟨r1, r2, hkk, hb2⟩)
        | (with_reducible show wpList _ _ _ (Oper.mk _ (Op.load 24 _) _ _ _ _ :: _) _ _
           refine wpList_loadW r1 aggB rfl _ rfl rfl ?_)
        | (with_reducible show wpList _ _ _ (Oper.mk _ (Op.store 24 _ _) _ _ _ _ :: _) _ _
           refine wpList_storeR (c := bagC (.slice A2 gs.length c2) n) rfl _ _ rfl rfl rfl aggB.hi r2 rfl (bag_one _ _ _ _) ?_))
      refine bodyPost_ret (results_cell_row rfl _ _ _ _ _ _ _ rfl (r2.setRow (c' := bagC (.slice A2 gs.length c2) n)) Try.underlying24 rfl aggB.hi) rfl ⟨A2, _, c2, rfl, ?_⟩
      refine HM.out.lift (by rw [HZ.out]; omega) (fun k h1 h2 => ?_) (below_setRow hb2 (by omega) _)
      rw [HZ.out] at h1
      exact (Go.setRow_other X (w.heap.size + 1) k _ (by omega)).trans (hkk k h1)
end Go.Proofs.Ytdoigpifkdkjpaa
