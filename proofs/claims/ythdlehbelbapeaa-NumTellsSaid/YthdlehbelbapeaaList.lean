/- Lists of numbers as bytes: 'List'. -/
import Derived.Test.YthdlehbelbapeaaText
namespace Go.Proofs.Ythdlehbelbapeaa
open Go.RowKit Go.Shelf
attribute [local go_sem] Oper.semAt_some

/-- May be put as a number; as a list. -/
def ok1 (n : Int) : Prop := 0 ≤ n ∧ n ≤ 1099511627776
instance (n : Int) : Decidable (ok1 n) := by unfold ok1; infer_instance
def okL (l : List Int) : Prop := l.length ≤ 255 ∧ ∀ n ∈ l, ok1 n
instance (l : List Int) : Decidable (okL l) := by unfold okL; infer_instance
def numsI (l : List Int) : List UInt8 := nums (l.map Int.toNat)
theorem numsI_snoc (l : List Int) (x : Int) : numsI (l ++ [x]) = numsI l ++ num x.toNat := by simp [numsI, nums]
theorem numsI_len (l : List Int) (h : ∀ n ∈ l, ok1 n) : (numsI l).length ≤ 7 * l.length := by
  induction l with
  | nil => simp [numsI, nums]
  | cons x l ih =>
    have h1 := ih fun n hn => h n (by simp [hn])
    have h2 := h x (by simp)
    have h3 := dig_len6 x.toNat (by have := h2.2; omega)
    simp only [numsI, nums, List.map_cons, List.flatMap_cons, List.length_append, List.length_cons, num_length] at h1 ⊢
    omega
def listBy (l : List Int) : List UInt8 := if okL l then UInt8.ofNat l.length :: numsI l else []
def listE (l : List Int) : Int := if okL l then 0 else 2

theorem keeps_row {W W' : World} {base : Nat} {e : TypeId} {size k : Nat} {v : Value} {xs : List Value} (hg : W.grownBy W' v.ownBlock) (hr : W.ownsRow base e size v k xs) : KeepsOthers W W' :=
  KeepsOthers.of_grownBy hg fun j o ej hj => by
    rcases hr.2 with ⟨rfl, _⟩ | ⟨g, cap, cur, rfl, _, hgb, _⟩
    · simp [Value.ownBlock] at ej
    · obtain rfl : g = j := by simpa [Value.ownBlock] using ej
      rw [hgb] at hj; cases hj; rfl

set_option maxHeartbeats 1000000 in
theorem List_long (A : Option Addr) (n c : Nat) (w : World) (h : 255 < n) : Calls Try.prog 15 #[.slice A n c] w fun e w' => e = .returned (.tuple #[.slice none 0 0, .int .i64 2]) ∧ Below w.heap.size w w' := by
  go_enter Try.func15, Try.ntmps15
  go_wp2
  refine wp_scope_fwd ?_
  go_wp2
  go_step3
  refine ⟨_, rfl, ?_⟩
  go_wp2
  refine nog_ret ?_
  go_ret2
  exact ⟨rfl, (Below.refl _ _).alloc (Nat.le_refl _) _⟩

set_option maxRecDepth 100000 in
set_option maxHeartbeats 2000000 in
theorem List_loop (A : Option Addr) (c : Nat) (l : List Int) (w : World) (h : Sl w (.slice A l.length c) (iv l)) (hl : l.length ≤ 255) :
    Calls Try.prog 15 #[.slice A l.length c] w fun e w' => ∃ v', e = .returned (.tuple #[v', .int .i64 (listE l)]) ∧ Sl w' v' (bv (listBy l)) ∧ Below w.heap.size w w' := by
  refine (callsIn_wide (n := 9)).1 (callsIn_of_wp_marks Try.func15 rfl trivial ?_ rfl)
  simp only [Try.ntmps15, List.size_toArray, List.length_cons, List.length_nil, Nat.reduceAdd, Nat.reduceSub, Array.replicate_succ, Array.replicate_zero, List.push_toArray, List.append_toArray, List.nil_append, List.cons_append]
  refine wpIn_wide.2 ?_
  have H := Lib.hid h
  clear h
  have bB := Boxed.new w 23 (.slice none 0 0)
  go_wp2
  refine wp_scope_fwd ?_
  go_wp2_with (first
    | (at_builtin; refine wpList_app1 el23 rfl _ _ rfl w.heap.size (.slice none 0 0) 0 [] rfl (World.ownsRow_nil _ _ _ _) _ (.int .u8 (l.length : Int)) rfl (by have := Sl.one (w.alloc (.cells #[.slice none 0 0] 23)) (.int .u8 (l.length : Int)) 5; rwa [World.size_alloc] at this) rfl (by omega) (by simp; omega) (w.heap.size + 2) (by simp) ?_; intro g0 cap0 w1 hown1 hg1 hat1; have hb1 : Boxed w1 w.heap.size 23 (.slice none 0 0) := (bB.alloc _).kept hg1 (by simp [Value.ownBlock]); have hc1 := hb1.cell; have hf1 := hb1.frozen)
    | (go_at_call 26; refine (values22_any _ _ _ _).mono ?_; rintro e w' ⟨rfl, rfl⟩))
  have hO : w1.ownsRow w.heap.size 5 1 (.slice (some ⟨g0, 0, none⟩) (0 + 1) cap0) (0 + 1) (bv [UInt8.ofNat l.length]) := by
    have e : [] ++ [Value.int .u8 (l.length : Int)] = bv [UInt8.ofNat l.length] := by simp [bv]; omega
    rwa [e] at hown1
  have hO2 : (w1.setCell ⟨w.heap.size, 0, none⟩ (.slice (some ⟨g0, 0, none⟩) 1 cap0)).ownsRow w.heap.size 5 1 (.slice (some ⟨g0, 0, none⟩) (0 + 1) cap0) (0 + 1) (bv [UInt8.ofNat l.length]) :=
    hO.kept (grownBy_setCell' w1 _ _) (.inr (hb1.not_row (by decide) hO).symm)
  have hB1 : Below w.heap.size w (w1.setCell ⟨w.heap.size, 0, none⟩ (.slice (some ⟨g0, 0, none⟩) 1 cap0)) :=
    (below_of_none (gr_then (gr_alloc (gr_alloc (gr_refl w none) _) _) hg1 (.inl rfl))).setCell (p := ⟨w.heap.size, 0, none⟩) (Nat.le_refl _) _
  have hbox := hb1.set (.slice (some ⟨g0, 0, none⟩) 1 cap0)
  obtain ⟨W1, hW1⟩ : ∃ W1, w1.setCell ⟨w.heap.size, 0, none⟩ (.slice (some ⟨g0, 0, none⟩) 1 cap0) = W1 := ⟨_, rfl⟩
  have hs1 : w1.heap.size = W1.heap.size := by rw [← hW1]; simp
  rw [hW1] at hO2 hB1 hbox ⊢
  rw [hs1]
  clear hs1 hW1 hO hown1 hg1 hat1 hb1 hc1 hf1
  have hsz := hB1.size
  have bD := Boxed.new W1 22 (.slice A l.length c)
  have HS : Sl W1 (.slice A l.length c) (iv l) := H.out.below hB1
  have hSb : ∀ k, (Value.slice A l.length c).ownBlock = some k → k < w.heap.size := by
    intro k hk
    rcases H.out with ⟨h1, _⟩ | ⟨b, off, c', h1, _, _, h2, _⟩
    · injection h1 with h1; subst h1; cases hk
    · injection h1 with h1; subst h1; have : b = k := by simpa [Value.ownBlock] using hk
      omega
  refine wp_range (gf := 31) (lb := #[.pointer (some ⟨W1.heap.size, 0, none⟩)]) rfl (enters_of Try.func31 (by kernel_rfl) rfl)
    (vals22_stops 8 W1.heap.size (fun k => (Value.slice A l.length c).ownBlock = some k) (.slice A l.length c) l (by omega) _ (by simp) bD.cell (HS.alloc _) (fun k hk => hk)) (by intro k hk; have := hSb k hk; simp; omega) (fun _ => rfl)
    (fun pre W => (∃ v, Boxed W w.heap.size 23 v ∧ W.ownsRow w.heap.size 5 1 v ((numsI pre).length + 1) (bv (UInt8.ofNat l.length :: numsI pre)) ∧ ((∀ n ∈ pre, ok1 n) ∧ pre.length ≤ 255)) ∧ Below w.heap.size w W)
    (fun cd pre W => (cd = .goto 0 ∧ ∃ n ∈ pre, ¬ ok1 n) ∧ Below w.heap.size w W)
    (OwnFrom.and (Own.from (holdsRow_own w.heap.size w.heap.size 23 5 1 (fun pre => (numsI pre).length + 1) (fun pre => bv (UInt8.ofNat l.length :: numsI pre)) (fun pre _ => (∀ n ∈ pre, ok1 n) ∧ pre.length ≤ 255)) _)
      (ownFrom_below (Nat.le_refl _) (by simp; omega)))
    (fun cd => OwnFrom.and (ownFrom_pure _ (fun pre => cd = .goto 0 ∧ ∃ n ∈ pre, ¬ ok1 n)) (ownFrom_below (Nat.le_refl _) (by simp; omega)))
    ⟨⟨_, hbox.alloc _, hO2.alloc _, by simp, by simp⟩, hB1.alloc hsz _⟩
    (fun x => { tmps := #[.slice A l.length c, undef, .slice none 0 0, .int .i64 0, .pointer (some ⟨w.heap.size, 0, none⟩), .int .i64 x, .slice A l.length c, .int .i64 l.length, .bool (decide (255 < (l.length : Int))), .slice none 0 0, .slice A l.length c, .int .i64 l.length, .int .u8 l.length, .slice (some ⟨w.heap.size + 1, 0, none⟩) 1 1, .slice (some ⟨g0, 0, none⟩) 1 cap0, .slice A l.length c, .func (.func 31) #[] #[.pointer (some ⟨W1.heap.size, 0, none⟩)], .int .i64 x, undef, undef, undef, undef, undef, undef, undef], defers := [] }) ?assign ?body ?done ?stop
  case assign =>
    intro q x W K hK
    gi_wp2
    exact hK
  case body =>
    rintro q pre x W ⟨⟨v, hv, hrow, hok, hpl⟩, hW⟩ hlt
    have hl7 := numsI_len pre hok
    obtain ⟨g, cap, rfl⟩ := ownsRow_succ hrow
    have hc := hv.cell
    have hwW := hW.size
    by_cases hx : ok1 x
    · have hd : decide (0 ≤ x ∧ x ≤ 1099511627776) = true := decide_eq_true hx
      have HX := Lib.hid hx
      clear hx
      gi_wp2_with (refine ⟨trivial, ?_⟩; first
        | (gi_at_call 24; refine (CallsIn.inRound q (callsIn_wide.2 (mayBePut_any _ _))).mono ?_; rintro e w' ⟨rfl, rfl⟩; rw [hd])
        | (gi_at_call 25; refine (CallsIn.inRound q (callsIn_wide.2 (appendNumber_any x HX.out.1 HX.out.2 w.heap.size (some ⟨g, 0, none⟩) ((numsI pre).length + 1) cap _ _ hrow hwW (by omega)))).mono ?_
           rintro e w2 ⟨v2, rfl, hown2, hg2, hat2⟩
           rw [show (numsI pre).length + 1 + (num x.toNat).length = (numsI (pre ++ [x])).length + 1 by rw [numsI_snoc, List.length_append]; omega, ← bv_append, List.cons_append, ← numsI_snoc] at hown2
           obtain ⟨g2, cap2, rfl⟩ := ownsRow_succ hown2
           have hb2 : Boxed w2 w.heap.size 23 (.slice (some ⟨g, 0, none⟩) ((numsI pre).length + 1) cap) := hv.kept hg2 (hv.not_row (by decide) hrow)
           have hc2 := hb2.cell
           have hf2 := hb2.frozen))
      have hbl : Below w.heap.size W (w2.setCell ⟨w.heap.size, 0, none⟩ (.slice (some ⟨g2, 0, none⟩) ((numsI (pre ++ [x])).length + 1) cap2)) :=
        (((Below.refl _ W).grown hg2 hwW (fun k e => (hrow.lt k e).1))).setCell (p := ⟨w.heap.size, 0, none⟩) (Nat.le_refl _) _
      refine ⟨((keeps_row hg2 hrow).trans (KeepsOthers.setCell _ _ _)).from _, Kps.below hbl hSb, ⟨_, hb2.set _, ?_, ?_, ?_⟩, hW.trans hbl⟩
      · exact hown2.kept (grownBy_setCell' w2 _ _) (.inr (hb2.not_row (by decide) hown2).symm)
      · intro n hn
        rcases List.mem_append.1 hn with h | h
        · exact hok n h
        · simp at h; subst h; exact HX.out
      · simp; omega
    · have hd : decide (0 ≤ x ∧ x ≤ 1099511627776) = false := decide_eq_false hx
      gi_wp2_with (refine ⟨trivial, ?_⟩; gi_at_call 24; refine (CallsIn.inRound q (callsIn_wide.2 (mayBePut_any _ _))).mono ?_; rintro e w' ⟨rfl, rfl⟩; rw [hd])
      refine wpIn_goto ?_
      exact ⟨KeepsFrom.refl _ _, ⟨rfl, x, by simp, hx⟩, hW⟩
  case done =>
    rintro D ys W hDs rfl ⟨⟨v, hv, hrow, hok, hpl⟩, hW⟩ hK
    have hD : w.heap.size < D := by simp at hDs; omega
    have hc := hv.cell
    have HK := Lib.hid hK
    clear hK
    have hokL : okL ys := ⟨hl, hok⟩
    go_wp2
    refine fwd_ret ?_
    refine ⟨by simp, .inl ⟨_, _, rfl, run_takeDeferred HK.out, ?_⟩⟩
    refine ⟨_, results_tmp2 rfl _ _ _, v, ?_, ?_, hW.trans (belowK_b (w := w) (Nat.le_refl _) _ D _ _ (by omega) HK.out rfl rfl)⟩
    · rw [listE, if_pos hokL]; rfl
    · rw [listBy, if_pos hokL]
      exact Sl.of_own (ownsRow_putObj hrow _ HK.out rfl)
  case stop =>
    rintro D cd pre W hDs hpre ⟨⟨rfl, hbad⟩, hW⟩ hK
    have hD : w.heap.size < D := by simp at hDs; omega
    have HK := Lib.hid hK
    clear hK
    have hokL : ¬ okL l := by
      rintro ⟨-, h2⟩
      obtain ⟨n, hn, hb⟩ := hbad
      exact hb (h2 n (hpre.subset hn))
    go_step3
    refine fwd_goto _ rfl ?_
    go_wp2
    refine nog_ret ?_
    refine ⟨by simp, .inl ⟨_, _, rfl, run_takeDeferred HK.out, ?_⟩⟩
    refine ⟨_, results_tmp2 rfl _ _ _, .slice none 0 0, ?_, ?_, hW.trans (belowK_b (w := w) (Nat.le_refl _) _ D _ _ (by omega) HK.out rfl rfl)⟩
    · rw [listE, if_neg hokL]; rfl
    · rw [listBy, if_neg hokL]
      exact Sl.nil_ _

theorem List_any (v : Value) (l : List Int) (w : World) (h : Sl w v (iv l)) :
    Calls Try.prog 15 #[v] w fun e w' => ∃ v', e = .returned (.tuple #[v', .int .i64 (listE l)]) ∧ Sl w' v' (bv (listBy l)) ∧ Below w.heap.size w w' := by
  obtain ⟨A, c, rfl⟩ := h.form
  rw [iv_length] at h ⊢
  by_cases hl : l.length ≤ 255
  · exact List_loop A c l w h hl
  · refine (List_long A _ c w (by omega)).mono ?_
    rintro e w' ⟨rfl, hb⟩
    have hn : ¬ okL l := fun h => hl h.1
    refine ⟨.slice none 0 0, ?_, ?_, hb⟩
    · rw [listE, if_neg hn]
    · rw [listBy, if_neg hn]; exact Sl.nil_ _
end Go.Proofs.Ythdlehbelbapeaa
