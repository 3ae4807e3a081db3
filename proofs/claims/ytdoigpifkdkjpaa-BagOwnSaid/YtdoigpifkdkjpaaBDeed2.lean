/- The deeds: twice, harmed. -/
import Derived.Test.YtdoigpifkdkjpaaBDeeds
import Derived.Test.YtdoigpifkdkjpaaQuiet
set_option linter.unusedVariables false
set_option maxRecDepth 100000
set_option linter.unusedSimpArgs false
namespace Go.Proofs.Ytdoigpifkdkjpaa
open Go.RowKit Go.Shelf Ms

set_option maxHeartbeats 4000000 in
theorem twice_deed (T : Nat) (w : World) (gs : List Gr) (n : Int) (k : Nat) (hT : Rw w T 3 #[.int .i64 (k : Int)]) (hk : k < gs.length) (hn : gs.length ≤ 1000) (hl : ∀ g ∈ gs, g.bytes.length ≤ 1000) :
    Deed 37 #[.pointer (some ⟨T, 0, none⟩)] w gs n true (sentS (gs, n) gs[k]).1 (sentS (gs, n) gs[k]).2 none (fun _ => True) := by
  intro X A c B p hX hB hp hpB hR hO
  obtain ⟨b, ps, rfl, hgs, hln, hN, h5, h2, hpb⟩ := hO.parts (by rintro rfl; simp at hk)
  have hk' : k < ps.length := by rw [← hgs, List.length_map] at hk; exact hk
  have hlen : gs.length = ps.length := by rw [← hgs, List.length_map]
  have hg : ps[k].1 = gs[k] := by simp [← hgs]
  show Calls Try.prog 37 #[.pointer (some ⟨B, 0, none⟩), .pointer (some ⟨T, 0, none⟩)] X _
  have hTX := hT.below hX
  obtain ⟨x1, x2, x3⟩ := hln.at_ k hk'
  rw [Nat.zero_add] at x1 x2 x3
  have hsw := hln.sw _ (List.getElem_mem hk')
  rw [hg] at x1 x3 hsw
  generalize ps[k].2 = u at *
  generalize gs[k] = g at *
  have cB := hR.cell
  have cT := hTX.cell
  have ik : (0 : Int) ≤ (k : Int) := by omega
  have ik2 : (k : Int) < (gs.length : Int) := by omega
  have HH := Lib.hid (And.intro hR (And.intro hO hsw))
  have HP := Lib.hid (And.intro hpB hp)
  have hBX := hR.lt
  clear hN h5 hR hTX hT hO h2 hln hpB hp hsw hgs hg hk' hlen
  have hb0 : Below X.heap.size X X.drew := (Below.refl _ _).drew
  by_cases hq : gs.length < 400 ∧ g.bytes.length ≤ 120
  · have hst : sentS (gs, n) g = (gs ++ [g], n) := if_pos hq
    rw [hst]
    have HC := Lib.hid (sent_put (some ⟨b, 0, none⟩) c n gs g u p X.drew (HH.out.2.1.below hb0) (HH.out.2.2.below hb0) hq.1 hq.2)
    clear hst hq
    go_enter Try.func37, Try.ntmps37
    go_wp2_with fail
    go_region_law
      (first
        | (refine step_callG2 rfl 34 (.tmp 7) (.tmp 14) _ rfl rfl rfl (enters_of Try.func34 (by kernel_rfl) rfl) (R := fun v w' => ∃ A3 q3 c3, v = .agg #[.slice A3 q3 c3, .int .i64 n] ∧ OwnP (fun k => p k ∨ X.heap.size ≤ k) w' 29 (.slice A3 q3 c3) (gs ++ [g]) ∧ X.grownBy w' (Value.slice (some ⟨b, 0, none⟩) gs.length c).ownBlock)
             (HC.out.mono (by rintro e w' ⟨A3, q3, c3, rfl, ho, hg⟩; exact ⟨_, rfl, A3, q3, c3, rfl, ho.imp (fun q _ h => by rcases h with h | h; exact .inl h.1; exact .inr h), gr_then (gr_of_below hb0 _) hg (.inl rfl)⟩)) ?_
           rintro v3 w3 ⟨A3, q3, c3, rfl, hO3, hg3⟩
           have r3 := rw_grown (HH.out.1) hg3 (fun e => by injection e with e; subst e; exact HP.out.1 hpb)
           have x3 := r3.cell
           have y3 := r3.free
           have HQ := Lib.hid (And.intro r3 (And.intro hO3 hg3))
           clear r3 hO3 hg3))
    all_goals
      have hBp : ¬ (p B ∨ X.heap.size ≤ B) := by rintro (h | h); exact HP.out.1 h; omega
      obtain ⟨r3, hO3, hg3⟩ := HQ.out
      go_wp2_with fail
      refine bodyPost_ret (results_tmp rfl _ _ _) rfl ⟨rfl, A3, q3, c3, (r3.set 0 _).set 1 _, (hO3.set hBp 0 _).set hBp 1 _, (((Turns.of_grown (q := fun k => k = B ∨ p k ∨ none = some k) hg3 (fun q e => by injection e with e; subst e; exact .inr (.inl hpb))).trans (Turns.set w3 B 0 _) (fun q _ h => .inl h))).trans (Turns.set _ B 1 _) (fun q _ h => .inl h), trivial⟩
  · have hst : sentS (gs, n) g = (gs, IntKind.i64.wrap (n + 1)) := if_neg hq
    rw [hst]
    obtain ⟨K, hK⟩ : ∃ K, IntKind.i64.wrap (n + 1) = K := ⟨_, rfl⟩
    have HC := Lib.hid (sent_lost (some ⟨b, 0, none⟩) gs.length c n g u X.drew (by omega) (HH.out.2.2.below hb0) (by omega))
    rw [hK] at HC ⊢
    clear hst hq
    go_enter Try.func37, Try.ntmps37
    go_wp2_with fail
    go_region_law
      (first
        | (refine step_callG2 rfl 34 (.tmp 7) (.tmp 14) _ rfl rfl rfl (enters_of Try.func34 (by kernel_rfl) rfl) (R := fun v w' => v = .agg #[.slice (some ⟨b, 0, none⟩) gs.length c, .int .i64 K] ∧ Below X.heap.size X w')
             (HC.out.mono (by rintro e w' ⟨rfl, hb⟩; exact ⟨_, rfl, rfl, hb0.trans hb⟩)) ?_
           rintro v3 w3 ⟨rfl, hb3⟩
           have r3 := HH.out.1.below hb3
           have x3 := r3.cell
           have y3 := r3.free
           have HQ := Lib.hid (And.intro r3 (And.intro (HH.out.2.1.below hb3) hb3))
           clear r3 hb3))
    all_goals
      obtain ⟨r3, hO3, hb3⟩ := HQ.out
      go_wp2_with fail
      refine bodyPost_ret (results_tmp rfl _ _ _) rfl ⟨rfl, some ⟨b, 0, none⟩, _, c, (r3.set 0 _).set 1 _, ((hO3.set HP.out.1 0 _).set HP.out.1 1 _).imp (fun q _ h => .inl h), (((Turns.of_below (q := fun k => k = B ∨ p k ∨ none = some k) hb3).trans (Turns.set w3 B 0 _) (fun q _ h => .inl h))).trans (Turns.set _ B 1 _) (fun q _ h => .inl h), trivial⟩
end Go.Proofs.Ytdoigpifkdkjpaa
