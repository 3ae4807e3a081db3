/- How a number's bytes are put behind a row of bytes: 'appendNumber' and 'Put'. -/
import Derived.Deep.RegionLaw
import Derived.Test.YthdlehbelbapeaaIter
namespace Go.Proofs.Ythdlehbelbapeaa
open Go.RowKit Go.Shelf

/-- A range over a function, at the wide fence. -/
theorem wp_range {P : Program} {α : Type} {g : Operand} {ps : Array Tmp} {assign body : Code} {Q : Exit → Act → World → Prop} {a : Act} {w : World}
    {gf : Nat} {lb : Array Value} (hg : a.eval g = .func (.func gf) #[] lb) (eg : ∀ args w, (callFunc gf args).run P w = .ok (.enter gf args) w)
    {encs : α → Array Value} {S : Nat → Prop} {Sf Sp : List α → Prop} {N : Nat} (hseq : SeqStopsK Fence.wide 8 P gf lb encs (Kps S) Sf Sp N w) (hS : ∀ k, S k → k < w.heap.size) (hps : ∀ x, (encs x).size = ps.size)
    (I : List α → World → Prop) (Ix : Code → List α → World → Prop) (hI : OwnFrom w.heap.size I) (hIx : ∀ c, OwnFrom w.heap.size (Ix c)) (h0 : I [] w) (a₁ : α → Act)
    (hassign : ∀ (l : Nat) (x : α) (W : World) (K : Act → World → Prop), K (a₁ x) W →
      assign.wpIn (Fence.wide.inRound l) 7 P (Exit.then K (fun _ _ _ => False)) { tmps := (ps.zip (encs x)).foldl (fun t (p, v) => t.setIfInBounds p v) a.tmps, defers := [] } W)
    (hbody : ∀ (l : Nat) (pre : List α) (x : α) (W : World), I pre W → pre.length < N → body.wpIn (Fence.wide.inRound l) 7 P (ownPostG w.heap.size (Kps S) I Ix (pre ++ [x]) W) (a₁ x) W)
    (hdone : ∀ (D : Nat) (xs : List α) (W : World), w.heap.size ≤ D → Sf xs → I xs W → W.heap[D]? = some (.deferred (some [])) → Q .normal { a with defers := { target := .collected D, args := #[] } :: a.defers } W)
    (hstop : ∀ (D : Nat) (c : Code) (pre : List α) (W : World), w.heap.size ≤ D → Sp pre → Ix c pre W → W.heap[D]? = some (.deferred (some [])) → c.wp P Q { a with defers := { target := .collected D, args := #[] } :: a.defers } W) :
    (Code.rangeFunc g ps assign body).wp P Q a w :=
  (wpIn_wide (n := 9)).1 (wpIn_rangeFunc_ownG rfl (by omega) hg trivial eg hseq (fun h k => Kps.trans h k) (fun W l o o' h1 h2 h3 h4 => Kps.putObj hS W l o o' h1 h2 h3 h4) (Below.refl _ _) hps I Ix hI hIx h0 a₁ hassign hbody hdone
    (fun D c pre W h1 h2 h3 h4 => wpIn_wide.2 (hstop D c pre W h1 h2 h3 h4)))

theorem ownFrom_grownBy {β : Type} {B : Nat} {w₀ : World} {row : Option Nat} (hB : w₀.heap.size ≤ B) : OwnFrom B (fun (_ : β) W => w₀.grownBy W row) := by
  intro s X Y r hs hg hr
  refine ⟨hg.os.trans hs.os, hg.tape.trans hs.tape, hg.output.trans hs.output, Nat.le_trans hs.size hg.size, fun k hk hne => (hg.block k (Nat.lt_of_lt_of_le hk hs.size) fun e => ?_).trans (hs.block k hk hne)⟩
  obtain ⟨h1, _⟩ := hr k e.symm
  omega

attribute [local go_sem] Oper.semAt_some
set_option maxRecDepth 100000 in
set_option maxHeartbeats 200000 in
theorem appendNumber_any (m : Int) (hm0 : 0 ≤ m) (hm1 : m ≤ 1099511627776) (base : Nat) (A : Option Addr) (k c : Nat) (xs : List Value) (w : World) (hown : w.ownsRow base 5 1 (.slice A k c) k xs) (hbase : base ≤ w.heap.size) (hk : k ≤ 1099511627776) :
    Calls Try.prog 25 #[.slice A k c, .int .i64 m] w fun e w' => ∃ v', e = .returned v' ∧ w'.ownsRow base 5 1 v' (k + (num m.toNat).length) (xs ++ bv (num m.toNat)) ∧ w.grownBy w' (Value.slice A k c).ownBlock ∧
      (v'.ownBlock = (Value.slice A k c).ownBlock ∨ ∃ g, v'.ownBlock = some g ∧ w.heap.size ≤ g) := by
  have h6 := dig_len6 m.toNat (by omega)
  refine (callsIn_wide (n := 9)).1 (callsIn_of_wp_marks Try.func25 rfl trivial ?_ rfl)
  simp only [Try.ntmps25, List.size_toArray, List.length_cons, List.length_nil, Nat.reduceAdd, Nat.reduceSub, Array.replicate_succ, Array.replicate_zero, List.push_toArray, List.append_toArray, List.nil_append, List.cons_append]
  refine wpIn_wide.2 ?_
  have bB := Boxed.new w 23 (.slice A k c)
  have hd : IntKind.u8.wrap ((dig m.toNat).length : Int) = ((UInt8.ofNat (dig m.toNat).length).toNat : Int) := by
    rw [IntKind.wrap_u8, UInt8.toNat_ofNat']; omega
  have Hd := Lib.hid hd
  clear hd
  go_wp2_with fail
  refine wp_to (fun a' W => ∃ u6 u7 u8 u9 u10 u11 g cap, a' = { tmps := #[.slice A k c, .int .i64 m, .pointer (some ⟨w.heap.size, 0, none⟩), undef, .slice none 0 0, undef, u6, u7, u8, u9, u10, u11, undef, undef, undef, undef, undef, undef, undef, undef], defers := [] } ∧
      Boxed W w.heap.size 23 (.slice (some ⟨g, 0, none⟩) (k + 1) cap) ∧ W.ownsRow base 5 1 (.slice (some ⟨g, 0, none⟩) (k + 1) cap) (k + 1) (xs ++ bv [UInt8.ofNat (dig m.toNat).length]) ∧ w.grownBy W (Value.slice A k c).ownBlock ∧ ((Value.slice A k c).ownBlock = some g ∨ w.heap.size ≤ g)) ?_ ?_
  · go_region_law
      (first
        | (refine step_app1 el23 rfl _ _ rfl base (.slice A k c) k xs rfl ?_ _ (.int .u8 (IntKind.u8.wrap (dig m.toNat).length)) rfl ?_ ?_ ?_ ?_ (w.heap.size + 2) ?_ ?_
           · exact ((hown.alloc _).alloc _).drew
           · have := (Sl.one (w.alloc (.cells #[.slice A k c] 23)) (.int .u8 (IntKind.u8.wrap (dig m.toNat).length)) 5).drew; rwa [World.size_alloc] at this
           · rfl
           · omega
           · simp; omega
           · simp
           intro g cap w1 hown1 hgrow hat
           have hb1 : Boxed w1 w.heap.size 23 (.slice A k c) := (boxed_drew (bB.alloc _)).kept hgrow (bB.not_row (by decide) (hown.alloc _))
           have hc1 := hb1.cell
           have hf1 := hb1.frozen)
        | (refine step_call1 rfl 29 _ _ rfl _ rfl _ (enters_of Try.func29 (by kernel_rfl) rfl) (size_any m _ hm0 hm1) ?_))
    all_goals
      refine ⟨_, _, _, _, _, _, g, cap, rfl, hb1.set _, ?_, ?_, ?_⟩
      · rw [Hd.out] at hown1
        exact hown1.kept (grownBy_setCell' w1 _ _) (.inr (hb1.not_row (by decide) hown1).symm)
      · exact gr_set (gr_then (gr_drew (gr_alloc (gr_alloc (gr_refl _ _) _) _)) hgrow (.inl rfl)) (.inl (Nat.le_refl _)) _
      · exact hat.imp id (fun e => by omega)
  rintro a' W1 ⟨u6, u7, u8, u9, u10, u11, g, cap, rfl, hB, hO, hG, hat⟩
  have bD := Boxed.new W1 3 (.int .i64 m)
  have HB := hB
  clear hB
  go_wp2_with (go_at_call 30; refine (digits_any m _).mono ?_; rintro e w' ⟨rfl, rfl⟩)
  refine wp_range (gf := 34) (lb := #[.pointer (some ⟨W1.heap.size, 0, none⟩)]) rfl (enters_of Try.func34 (by kernel_rfl) rfl)
    (digs_stops 8 W1.heap.size (fun k => k = W1.heap.size) m hm0 hm1 _ (by simp) rfl bD.cell) (by rintro k rfl; simp) (fun _ => rfl)
    (fun pre W => (∃ v, Boxed W w.heap.size 23 v ∧ W.ownsRow base 5 1 v (k + 1 + pre.length) (xs ++ bv (UInt8.ofNat (dig m.toNat).length :: pre)) ∧ (v.ownBlock = (Value.slice A k c).ownBlock ∨ ∃ g, v.ownBlock = some g ∧ w.heap.size ≤ g)) ∧ (Boxed W W1.heap.size 3 (.int .i64 m) ∧ w.grownBy W (Value.slice A k c).ownBlock))
    (fun _ _ _ => False)
    (OwnFrom.and (Own.from (holdsRow_own base w.heap.size 23 5 1 (fun pre => k + 1 + pre.length) (fun pre => xs ++ bv (UInt8.ofNat (dig m.toNat).length :: pre)) (fun _ v => v.ownBlock = (Value.slice A k c).ownBlock ∨ ∃ g, v.ownBlock = some g ∧ w.heap.size ≤ g)) _)
      (OwnFrom.and (Own.from (boxed_own W1.heap.size 3 (fun _ => .int .i64 m)) _) (ownFrom_grownBy (by have := hG.size; simp; omega))))
    (fun _ _ _ _ _ hs _ _ => hs)
    ⟨⟨_, HB.alloc _, hO.alloc _, hat.imp (fun h => h.symm) (fun h => ⟨g, rfl, h⟩)⟩, bD, gr_alloc hG _⟩
    (fun x => { tmps := #[.slice A k c, .int .i64 m, .pointer (some ⟨w.heap.size, 0, none⟩), undef, .slice none 0 0, .int .u8 (x.toNat : Int), u6, u7, u8, u9, u10, u11, .int .i64 m, .func (.func 34) #[] #[.pointer (some ⟨W1.heap.size, 0, none⟩)], .int .u8 (x.toNat : Int), undef, undef, undef, undef, undef], defers := [] }) ?assign ?body ?done ?stop
  case assign =>
    intro l x W K hK
    gi_wp2
    exact hK
  case body =>
    rintro l pre x W ⟨⟨v, hv, hrow, hvb⟩, hD, hW⟩ hlt
    have hc := hv.cell
    have hwW := hW.size
    gi_wp2_with (gi_at_builtin; refine wpListIn_app1 el23 rfl _ _ rfl base v (k + 1 + pre.length) _ rfl (hrow.alloc _) _ (.int .u8 (x.toNat : Int)) rfl (Sl.one _ _ _) rfl (by omega) (by simp; omega) (W.heap.size + 1) (by simp) ?_; intro g2 cap2 w2 hown2 hgrow2 hat2; obtain ⟨hv1, hv2, hr2, hk2, hb2⟩ := hv.appended (by decide) hrow (by omega) hbase hown2 hgrow2; have hc1 := hv1.cell; have hf1 := hv1.frozen)
    have hDr : some W1.heap.size ≠ v.ownBlock := hD.not_row (by decide) hrow
    refine ⟨hk2.from _, ?_, ⟨_, hv2, ?_, ?_⟩, ?_, ?_⟩
    · refine Kps.trans (Kps.grown (gr_then (gr_alloc (gr_refl W _) _) hgrow2 (.inl rfl)) ?_) (Kps.set _ ?_ _)
      · rintro q rfl; exact ⟨hD.lt, hDr⟩
      · rintro q rfl; have := HB.lt; show W1.heap.size ≠ w.heap.size; omega
    · rw [show k + 1 + (pre ++ [x]).length = k + 1 + pre.length + 1 by simp; omega, show xs ++ bv (UInt8.ofNat (dig m.toNat).length :: (pre ++ [x])) = xs ++ bv (UInt8.ofNat (dig m.toNat).length :: pre) ++ [.int .u8 (x.toNat : Int)] by simp [bv]]
      exact hr2
    · rcases hat2 with h | h
      · rw [h] at hvb; exact hvb
      · exact .inr ⟨g2, rfl, by omega⟩
    · refine ((hD.alloc _).kept hgrow2 hDr).kept (grownBy_setCell' _ _ _) ?_
      have := HB.lt
      intro e; injection e; omega
    · exact gr_set (gr_then (gr_alloc hW _) hgrow2 (hvb.imp id (fun ⟨g, h1, h2⟩ g' h3 => by rw [h1] at h3; injection h3; omega))) (.inl (Nat.le_refl _)) _
  case done =>
    rintro D ys W hDs rfl ⟨⟨v, hv, hrow, hvb⟩, hD, hW⟩ hK
    have hc := hv.cell
    go_wp2
    refine ⟨by simp, .inl ⟨_, _, rfl, run_takeDeferred hK, ?_⟩⟩
    refine ⟨_, results_tmp rfl _ _ _, v, rfl, ?_, gr_then hW (grownBy_putObj' _ _ _) (.inr fun g e => by injection e; have := hG.size; simp at hDs; omega), hvb⟩
    rw [show k + (num m.toNat).length = k + 1 + (dig m.toNat).length by rw [num_length]; omega]
    exact ownsRow_putObj hrow _ hK rfl
  case stop =>
    rintro D c pre W _ _ h _
    exact h.elim

def putB (n : Int) : List UInt8 := if 0 ≤ n ∧ n ≤ 1099511627776 then num n.toNat else []
def putE (n : Int) : Int := if 0 ≤ n ∧ n ≤ 1099511627776 then 0 else 2

set_option maxHeartbeats 400000 in
theorem Put_any (n : Int) (w : World) : Calls Try.prog 10 #[.int .i64 n] w fun e w' => ∃ v, e = .returned (.tuple #[v, .int .i64 (putE n)]) ∧ Sl w' v (bv (putB n)) ∧ Below w.heap.size w w' := by
  by_cases h : 0 ≤ n ∧ n ≤ 1099511627776
  · have hd : decide (0 ≤ n ∧ n ≤ 1099511627776) = true := decide_eq_true h
    have H := Lib.hid h
    rw [putB, putE, if_pos h, if_pos h]
    clear h
    go_enter Try.func10, Try.ntmps10
    go_wp2
    refine wp_scope_fwd ?_
    go_wp2_with (first | (go_at_call 24; refine (mayBePut_any _ _).mono ?_; rintro e w' ⟨rfl, rfl⟩; rw [hd]) | (go_at_call 25; refine (appendNumber_any n H.out.1 H.out.2 0 none 0 0 [] _ (World.ownsRow_nil _ _ _ _) (Nat.zero_le _) (Nat.zero_le _)).mono ?_; rintro e w' ⟨v, rfl, hown, hg, _⟩))
    refine fwd_ret ?_
    go_ret2
    refine ⟨v, rfl, ?_, below_of_none hg⟩
    have := Sl.of_own hown
    simpa using this
  · have hd : decide (0 ≤ n ∧ n ≤ 1099511627776) = false := decide_eq_false h
    rw [putB, putE, if_neg h, if_neg h]
    clear h
    go_enter Try.func10, Try.ntmps10
    go_wp2
    refine wp_scope_fwd ?_
    go_wp2_with (go_at_call 24; refine (mayBePut_any _ _).mono ?_; rintro e w' ⟨rfl, rfl⟩; rw [hd])
    go_step3
    refine ⟨_, rfl, ?_⟩
    go_wp2
    refine nog_ret ?_
    go_ret2
    exact ⟨_, rfl, .nil_ _, .refl _ _⟩
end Go.Proofs.Ythdlehbelbapeaa
