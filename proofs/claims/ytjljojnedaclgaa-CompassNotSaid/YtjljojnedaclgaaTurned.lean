/- 'turned': a point, so many quarters on; 'Turned'; 'At'; 'Of'. -/
import Derived.Test.YtjljojnedaclgaaTurns
set_option linter.unusedVariables false
set_option linter.unusedSimpArgs false
namespace Go.Proofs.Ytjljojnedaclgaa
open Go.RowKit Go.Shelf
open Ieee (double)
attribute [local go_sem] Oper.semAt_some

theorem run_store_complex {P : Program} {w : World} {a : Addr} {m : Mode} (k : FloatKind) (x y : Nat) : (store a (.complex k x y) m).run P w = stored P w a (.complex k x y) m := run_store P w a _ m rfl
attribute [local go_sem] run_store_complex

/-- A range over a function, at the wide fence. -/
theorem wp_range {P : Program} {α : Type} {g : Operand} {ps : Array Tmp} {assign body : Code} {Q : Exit → Act → World → Prop} {a : Act} {w : World}
    {gf : Nat} {lb : Array Value} (hg : a.eval g = .func (.func gf) #[] lb) (eg : ∀ args w, (callFunc gf args).run P w = .ok (.enter gf args) w)
    {encs : α → Array Value} {S : Nat → Prop} {Sf Sp : List α → Prop} {N : Nat} (hseq : SeqStopsK Fence.wide 8 P gf lb encs (Kps S) Sf Sp N w) (hS : ∀ k, S k → k < w.heap.size) (hps : ∀ x, (encs x).size = ps.size)
    (I : List α → World → Prop) (Ix : Code → List α → World → Prop) (hI : OwnFrom w.heap.size I) (hIx : ∀ c, OwnFrom w.heap.size (Ix c)) (h0 : I [] w) (a₁ : α → Act)
    (hassign : ∀ (l : Nat) (x : α) (W : World) (K : Act → World → Prop), K (a₁ x) W →
      assign.wpIn (Fence.wide.inRound l) 7 P (Exit.then K (fun _ _ _ => False)) { tmps := (ps.zip (encs x)).foldl (fun t (p, v) => t.setIfInBounds p v) a.tmps, defers := [] } W)
    (hbody : ∀ (l : Nat) (pre : List α) (x : α) (W : World), I pre W → pre.length < N → body.wpIn (Fence.wide.inRound l) 7 P (ownPostG w.heap.size (Kps S) I Ix (pre ++ [x]) W) (a₁ x) W)
    (hdone : ∀ (D : Nat) (xs : List α) (W : World), w.heap.size ≤ D → Sf xs → I xs W → W.heap[D]? = some (.deferred (some [])) → Q .normal { a with defers := { target := .collected D, args := #[] } :: a.defers } W)
    (hstop : ∀ (D : Nat) (c : Code) (pre : List α) (W : World), w.heap.size ≤ D → Sp pre → Ix c pre W → W.heap[D]? = some (.deferred (some [])) → c.wp P Q { a with defers := { target := .collected D, args := #[] } :: a.defers } W) :
    (Code.rangeFunc g ps assign body).wp P Q a w :=
  (wpIn_wide (n := 9)).1 (wpIn_rangeFunc_ownG rfl (by omega) hg trivial eg hseq (fun h k => Kps.trans h k) (fun W l o o' h1 h2 h3 h4 => Kps.putObj hS W l o o' h1 h2 h3 h4) (Below.refl _ _) hps I Ix hI hIx h0 a₁ hassign hbody hdone
    (fun D c pre W h1 h2 h3 h4 => wpIn_wide.2 (hstop D c pre W h1 h2 h3 h4)))
theorem ownFrom_below {β : Type} {B n : Nat} {w₀ : World} (hn : n ≤ w₀.heap.size) (hB : n ≤ B) : OwnFrom B (fun (_ : β) W => Below n w₀ W) := by
  intro s X Y r hs hg hr
  exact hs.grown hg (Nat.le_trans hn hs.size) (fun k e => Nat.le_trans hB (hr k e).1)
theorem ownFrom_const {β : Type} {B : Nat} (p : β → Prop) : OwnFrom B (fun s (_ : World) => p s) := fun s X Y r hs _ _ => hs

set_option maxRecDepth 100000 in
set_option maxHeartbeats 2000000 in
theorem turned_any (x y : Nat) (p q : Int) (T : Nat → Nat × Nat) (hT : TurnW x y p q T) (on : Int) (hon : Num on) (r : Nat) (hr : (r : Int) = on % 4) (w : World) :
    Calls Try.prog 22 #[.complex .f64 x y, .int .i64 on] w fun e w' => e = .returned (.complex .f64 (T r).1 (T r).2) ∧ Below w.heap.size w w' := by
  have hr4 : r < 4 := by omega
  have HR := Lib.hid hr
  clear hr
  refine (callsIn_wide (n := 9)).1 (callsIn_of_wp_marks Try.func22 rfl trivial ?_ rfl)
  simp only [Try.ntmps22, List.size_toArray, List.length_cons, List.length_nil, Nat.reduceAdd, Nat.reduceSub, Array.replicate_succ, Array.replicate_zero, List.push_toArray, List.append_toArray, List.nil_append, List.cons_append]
  refine wpIn_wide.2 ?_
  have b1 := Boxed.new w 3 (.int .i64 on)
  have b2 := Boxed.new (w.alloc (.cells #[.int .i64 on] 3)) 23 (.complex .f64 0 0)
  rw [World.size_alloc] at b2
  go_wp2_with (go_at_call 26; refine (turns_any x y _).mono ?_; rintro e w' ⟨rfl, rfl⟩)
  go_wp2_with fail
  have bz := Boxed.new ((w.alloc (.cells #[.int .i64 on] 3)).alloc (.cells #[.complex .f64 0 0] 23)) 23 (.complex .f64 x y)
  have hB0 : Below w.heap.size w (((w.alloc (.cells #[.int .i64 on] 3)).alloc (.cells #[.complex .f64 0 0] 23)).alloc (.cells #[.complex .f64 x y] 23)) := (((Below.refl _ w).alloc (Nat.le_refl _) _).alloc (by simp) _).alloc (by simp; omega) _
  have hz : ((w.alloc (.cells #[.int .i64 on] 3)).alloc (.cells #[.complex .f64 0 0] 23)).heap.size = w.heap.size + 1 + 1 := by simp
  rw [hz] at bz
  replace b1 := (b1.alloc (.cells #[.complex .f64 0 0] 23)).alloc (.cells #[.complex .f64 x y] 23)
  replace b2 := b2.alloc (.cells #[.complex .f64 x y] 23)
  generalize hW1 : (((w.alloc (.cells #[.int .i64 on] 3)).alloc (.cells #[.complex .f64 0 0] 23)).alloc (.cells #[.complex .f64 x y] 23)) = W1 at *
  have hsz : W1.heap.size = w.heap.size + 1 + 1 + 1 := by rw [← hW1]; simp
  have HSZ := Lib.hid hsz
  clear hsz hW1 hz
  refine wp_range (gf := 31) (lb := #[.pointer (some ⟨w.heap.size + 1 + 1, 0, none⟩)]) rfl (enters_of Try.func31 (by kernel_rfl) rfl)
    (turns_stops 8 (w.heap.size + 1 + 1) x y p q T hT (fun k => k = w.heap.size + 1 + 1) W1 (by rw [HSZ.out]; omega) rfl bz.cell) (by rintro k rfl; rw [HSZ.out]; omega) (fun _ => rfl)
    (fun pre W => (Boxed W w.heap.size 3 (.int .i64 on) ∧ Boxed W (w.heap.size + 1) 23 (.complex .f64 0 0)) ∧ (Below w.heap.size w W ∧ ∀ j ∈ pre, j.val ≠ r))
    (fun c pre W => (Boxed W (w.heap.size + 1) 23 (.complex .f64 (T r).1 (T r).2)) ∧ (Below w.heap.size w W ∧ c = .ret))
    (OwnFrom.and (OwnFrom.and (Own.from (boxed_own w.heap.size 3 (fun _ => .int .i64 on)) _) (Own.from (boxed_own (w.heap.size + 1) 23 (fun _ => .complex .f64 0 0)) _)) (OwnFrom.and (ownFrom_below (Nat.le_refl _) (by rw [HSZ.out]; omega)) (ownFrom_const _)))
    (fun c => OwnFrom.and (Own.from (boxed_own (w.heap.size + 1) 23 (fun _ => .complex .f64 (T r).1 (T r).2)) _) (OwnFrom.and (ownFrom_below (Nat.le_refl _) (by rw [HSZ.out]; omega)) (ownFrom_const _)))
    ⟨⟨b1, b2⟩, hB0, by simp⟩
    (fun k => { tmps := #[.complex .f64 x y, .int .i64 on, undef, .pointer (some ⟨w.heap.size, 0, none⟩), .pointer (some ⟨w.heap.size + 1, 0, none⟩), .int .i64 (k.val : Int), .complex .f64 (T k.val).1 (T k.val).2, .complex .f64 x y, .func (.func 31) #[] #[.pointer (some ⟨w.heap.size + 1 + 1, 0, none⟩)], .int .i64 (k.val : Int), .complex .f64 (T k.val).1 (T k.val).2, undef, undef, undef, undef, undef], defers := [] }) ?assign ?body ?done ?stop
  case assign =>
    intro l k W K hK
    simp only [encT]
    gi_wp2
    exact hK
  case body =>
    rintro l pre k W ⟨⟨c1, c2⟩, hW, hr⟩ hlt
    have e1 := c1.cell
    have f1 := c1.frozen
    have e2 := c2.cell
    have f2 := c2.frozen
    obtain ⟨k, hk4⟩ := k
    simp only
    by_cases hk : k = r
    · subst hk
      have hd : ((k : Int) == on % 4) = true := by rw [← HR.out]; simp
      gi_wp2_with (refine ⟨trivial, ?_⟩; gi_at_call 30; refine (CallsIn.inRound l (callsIn_wide.2 (rest_sides on _ hon))).mono ?_; rintro e w' ⟨rfl, rfl⟩)
      refine ⟨(KeepsOthers.setCell _ _ _).from _, c2.set _, hW.setCell (p := ⟨w.heap.size + 1, 0, none⟩) (by show w.heap.size ≤ w.heap.size + 1; omega) _, rfl⟩
    · have hd : ((k : Int) == on % 4) = false := by rw [← HR.out]; simp; omega
      gi_wp2_with (refine ⟨trivial, ?_⟩; gi_at_call 30; refine (CallsIn.inRound l (callsIn_wide.2 (rest_sides on _ hon))).mono ?_; rintro e w' ⟨rfl, rfl⟩)
      refine ⟨(KeepsOthers.refl _).from _, Kps.refl _ _, ⟨c1, c2⟩, hW, ?_⟩
      intro j hj
      rcases List.mem_append.1 hj with h | h
      · exact hr j h
      · rw [List.mem_singleton.1 h]; exact hk
  case done =>
    rintro D ys W hDs rfl ⟨_, _, hr⟩ hK
    exfalso
    exact hr ⟨r, hr4⟩ (mem_all4 _) rfl
  case stop =>
    rintro D c pre W hDs _ ⟨hv, hW, rfl⟩ hK
    have hD : w.heap.size < D := by rw [HSZ.out] at hDs; omega
    have hc := hv.cell
    go_wp2
    refine ⟨by simp, .inl ⟨_, _, rfl, run_takeDeferred hK, ?_⟩⟩
    have hc5 := cell_kept hc (grownBy_putObj' _ D (.deferred none)) (fun r e => by cases e; exact ⟨_, hK, rfl⟩)
    refine ⟨.complex .f64 (T r).1 (T r).2, by simp [results, Try.results22, go_sem, hc5], rfl, hW.trans (belowK_b (w := w) (Nat.le_refl _) _ D _ _ (by omega) hK rfl rfl)⟩

/-- A place's point, in whole numbers. -/
def px (p : Int) : Int := if p < 32768 then 16384 - p else p - 49152
def py (p : Int) : Int := if p < 16384 then p else if p < 49152 then 32768 - p else p - 65536
def Place (p : Int) : Prop := 0 ≤ p ∧ p < 65536
/-- The two parts are the point of p. -/
def Pt (x y : Nat) (p : Int) : Prop := Place p ∧ Wh x (px p) ∧ Wh y (py p)
theorem Pt.dia {x y : Nat} {p : Int} (h : Pt x y p) : Dia x y (px p) (py p) := by
  obtain ⟨⟨h0, h1⟩, h2, h3⟩ := h
  refine ⟨h2, h3, ?_⟩
  unfold px py
  split <;> split <;> (try split) <;> omega
theorem dia_pt {x y : Nat} {n m : Int} (h : Dia x y n m) : ∃ p, Pt x y p := by
  obtain ⟨h1, h2, h3⟩ := h
  have hp : ∃ p, Place p ∧ n = px p ∧ m = py p := by
    by_cases c1 : 0 < n ∧ 0 ≤ m
    · exact ⟨m, ⟨by omega, by omega⟩, by unfold px; rw [if_pos (by omega)]; omega, by unfold py; rw [if_pos (by omega)]⟩
    · by_cases c2 : n ≤ 0 ∧ 0 < m
      · exact ⟨32768 - m, ⟨by omega, by omega⟩, by unfold px; rw [if_pos (by omega)]; omega, by unfold py; rw [if_neg (by omega), if_pos (by omega)]; omega⟩
      · by_cases c3 : n < 0 ∧ m ≤ 0
        · by_cases c4 : m = 0
          · exact ⟨32768, ⟨by omega, by omega⟩, by unfold px; rw [if_neg (by omega)]; omega, by unfold py; rw [if_neg (by omega), if_pos (by omega)]; omega⟩
          · exact ⟨32768 - m, ⟨by omega, by omega⟩, by unfold px; rw [if_neg (by omega)]; omega, by unfold py; rw [if_neg (by omega), if_pos (by omega)]; omega⟩
        · exact ⟨65536 + m, ⟨by omega, by omega⟩, by unfold px; rw [if_neg (by omega)]; omega, by unfold py; rw [if_neg (by omega), if_neg (by omega)]; omega⟩
  obtain ⟨p, hp, rfl, rfl⟩ := hp
  exact ⟨p, hp, h1, h2⟩
theorem pt_iff (x y : Nat) : (∃ p, Pt x y p) ↔ ∃ n m, Dia x y n m := ⟨fun ⟨p, h⟩ => ⟨_, _, h.dia⟩, fun ⟨_, _, h⟩ => dia_pt h⟩
theorem Pt.inj {x y : Nat} {p q : Int} (h : Pt x y p) (k : Pt x y q) : p = q := by
  obtain ⟨⟨a0, a1⟩, a2, a3⟩ := h
  obtain ⟨⟨b0, b1⟩, b2, b3⟩ := k
  have e1 := wh_inj a2 b2
  have e2 := wh_inj a3 b3
  unfold px at e1
  unfold py at e2
  split at e1 <;> split at e1 <;> split at e2 <;> (try split at e2) <;> (try split at e2) <;> omega

theorem px_rot (p : Int) (hp : Place p) (r : Nat) (hr : r < 4) : px ((p + 16384 * r) % 65536) = rotX r (px p) (py p) := by
  obtain ⟨h0, h1⟩ := hp
  unfold px py
  match r, hr with
  | 0, _ => simp only [rotX]; split <;> split <;> (try split) <;> omega
  | 1, _ => simp only [rotX]; split <;> split <;> (try split) <;> omega
  | 2, _ => simp only [rotX]; split <;> split <;> (try split) <;> omega
  | 3, _ => simp only [rotX]; split <;> split <;> (try split) <;> omega
theorem py_rot (p : Int) (hp : Place p) (r : Nat) (hr : r < 4) : py ((p + 16384 * r) % 65536) = rotY r (px p) (py p) := by
  obtain ⟨h0, h1⟩ := hp
  unfold px py
  match r, hr with
  | 0, _ => simp only [rotY]; split <;> split <;> (try split) <;> (try split) <;> omega
  | 1, _ => simp only [rotY]; split <;> split <;> (try split) <;> (try split) <;> omega
  | 2, _ => simp only [rotY]; split <;> split <;> (try split) <;> (try split) <;> omega
  | 3, _ => simp only [rotY]; split <;> split <;> (try split) <;> (try split) <;> omega
theorem turn_pt {x y : Nat} {p : Int} (h : Pt x y p) : ∃ T, TurnW x y (px p) (py p) T ∧ ∀ r < 4, (Pt (T r).1 (T r).2 ((p + 16384 * r) % 65536) ∧ Fits (T r).1 (T r).2) := by
  obtain ⟨h1, h2, h3⟩ := h.dia
  obtain ⟨T, hT⟩ := turnW_of x y _ _ h1 h2 (by omega) (by omega)
  refine ⟨T, hT, fun r hr => ⟨⟨⟨by omega, by omega⟩, ?_, ?_⟩, hT.fit r hr⟩⟩
  · rw [px_rot p h.1 r hr]; exact (hT.wh r hr).1
  · rw [py_rot p h.1 r hr]; exact (hT.wh r hr).2
theorem turned_pt (x y : Nat) (p on : Int) (h : Pt x y p) (hon : Num on) (w : World) :
    Calls Try.prog 22 #[.complex .f64 x y, .int .i64 on] w fun e w' => (∃ x' y', e = .returned (.complex .f64 x' y') ∧ Pt x' y' ((p + 16384 * on) % 65536) ∧ Fits x' y') ∧ Below w.heap.size w w' := by
  obtain ⟨T, hT, h4⟩ := turn_pt h
  have e : ((on % 4).toNat : Int) = on % 4 := by omega
  refine (turned_any x y _ _ T hT on hon (on % 4).toNat e w).mono fun e' w' ⟨he, hb⟩ => ⟨⟨_, _, he, ?_⟩, hb⟩
  have := h4 (on % 4).toNat (by omega)
  rw [e] at this
  rwa [show (p + 16384 * on) % 65536 = (p + 16384 * (on % 4)) % 65536 by omega]

set_option maxHeartbeats 400000 in
theorem Turned_yes (x y : Nat) (p on : Int) (h : Pt x y p) (hf : Fits x y) (hon : Num on) (w : World) :
    Calls Try.prog 14 #[.complex .f64 x y, .int .i64 on] w fun e w' => (∃ x' y', e = .returned (.complex .f64 x' y') ∧ Pt x' y' ((p + 16384 * on) % 65536) ∧ Fits x' y') ∧ Below w.heap.size w w' := by
  have c1 := fun w => right_yes x y _ _ h.dia hf.1 hf.2 w
  have c2 := fun w => turned_pt x y p on h hon w
  clear h hf
  go_enter Try.func14, Try.ntmps14
  go_wp2_with fail
  refine wp_scope_fwd ?_
  go_wp2_with fail
  refine (c1 _).mono ?_; rintro e w' ⟨rfl, rfl⟩
  go_wp2_with fail
  refine (c2 _).mono ?_; rintro e w' ⟨⟨x', y', rfl, h⟩, hb⟩
  have H := Lib.hid h
  clear h
  go_wp2
  refine fwd_ret ?_
  go_ret
  exact ⟨⟨_, _, rfl, H.out⟩, hb⟩
set_option maxHeartbeats 400000 in
theorem Turned_no (x y : Nat) (on : Int) (h : ¬ ∃ p, Pt x y p) (hf : Fits x y) (w : World) :
    Calls Try.prog 14 #[.complex .f64 x y, .int .i64 on] w fun e w' => e = .returned (.complex .f64 0 0) ∧ Below w.heap.size w w' := by
  have c1 := fun w => right_no x y (fun k => h ((pt_iff x y).2 k)) hf.1 hf.2 w
  clear h hf
  go_enter Try.func14, Try.ntmps14
  go_wp2_with fail
  refine wp_scope_fwd ?_
  go_wp2_with fail
  refine (c1 _).mono ?_; rintro e w' ⟨rfl, hb⟩
  go_wp2_with fail
  go_step3
  refine fwd_goto _ rfl ?_
  go_wp2
  refine nog_ret ?_
  go_ret
  exact ⟨rfl, hb⟩

set_option maxHeartbeats 400000 in
theorem At_yes (p : Int) (h : Place p) (w : World) :
    Calls Try.prog 8 #[.int .i64 p] w fun e w' => (∃ x y, e = .returned (.tuple #[.complex .f64 x y, .int .i64 0]) ∧ Pt x y p ∧ Fits x y) ∧ Below w.heap.size w w' := by
  obtain ⟨h0, h1⟩ := h
  have hq := quB_in h0 h1
  have c1 : ∀ w, Calls Try.prog 18 #[.int .i64 p] w fun e w' => e = .returned (.int .i64 (p / 16384)) ∧ w = w' := fun w => by
    have := quarter_any p w ⟨by omega, by omega⟩; rwa [hq] at this
  clear hq
  have b0 : 0 ≤ p / 16384 := by omega
  have b1 : p / 16384 ≤ 3 := by omega
  have hm : 0 ≤ p - p / 16384 * 16384 ∧ p - p / 16384 * 16384 < 16384 := by omega
  have c2 := fun w => inFirst_any (p - p / 16384 * 16384) w hm.1 (by omega)
  have ht : (p - p / 16384 * 16384 + 16384 * (p / 16384)) % 65536 = p := by omega
  have HT := Lib.hid ht
  clear ht
  go_enter Try.func8, Try.ntmps8
  go_wp2_with fail
  refine wp_scope_fwd ?_
  go_wp2_with fail
  refine (c1 _).mono ?_; rintro e w' ⟨rfl, rfl⟩
  go_wp2_with fail
  refine (c2 _).mono ?_; rintro e w' ⟨⟨x, y, rfl, hx, hy⟩, rfl⟩
  have hpt : Pt x y (p - p / 16384 * 16384) := ⟨⟨by omega, by omega⟩, by unfold px; rw [if_pos (by omega)]; exact hx, by unfold py; rw [if_pos (by omega)]; exact hy⟩
  have c3 := fun w => turned_pt x y _ (p / 16384) hpt ⟨by omega, by omega⟩ w
  clear hx hy hpt
  go_wp2_with fail
  refine (c3 _).mono ?_; rintro e w' ⟨⟨x', y', rfl, h⟩, hb⟩
  rw [HT.out] at h
  have H := Lib.hid h
  clear h
  go_wp2
  refine fwd_ret ?_
  go_ret2
  exact ⟨⟨_, _, rfl, H.out⟩, hb⟩
set_option maxHeartbeats 400000 in
theorem At_no (p : Int) (h : ¬ Place p) (hp : Num p) (w : World) :
    Calls Try.prog 8 #[.int .i64 p] w fun e w' => e = .returned (.tuple #[.complex .f64 0 0, .int .i64 2]) ∧ Below w.heap.size w w' := by
  have hq := quB_out (p := p) (by unfold Place at h; omega)
  have c1 : ∀ w, Calls Try.prog 18 #[.int .i64 p] w fun e w' => e = .returned (.int .i64 (-1)) ∧ w = w' := fun w => by
    have := quarter_any p w hp; rwa [hq] at this
  clear hq h
  go_enter Try.func8, Try.ntmps8
  go_wp2_with fail
  refine wp_scope_fwd ?_
  go_wp2_with fail
  refine (c1 _).mono ?_; rintro e w' ⟨rfl, rfl⟩
  go_wp2_with fail
  go_step3
  refine fwd_goto _ rfl ?_
  go_wp2
  refine nog_ret ?_
  go_ret2
  exact ⟨rfl, Below.refl _ _⟩

end Go.Proofs.Ytjljojnedaclgaa
