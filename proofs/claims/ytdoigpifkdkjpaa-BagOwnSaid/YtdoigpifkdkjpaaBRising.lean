/- Are these just the places of those to one? -/
import Derived.Test.YtdoigpifkdkjpaaBWakes
set_option linter.unusedVariables false
set_option maxRecDepth 100000
set_option linter.unusedSimpArgs false
namespace Go.Proofs.Ytdoigpifkdkjpaa
open Go.RowKit Go.Shelf Ms

theorem forK_pre (gs : List Gr) (to : Int) {k m : Nat} (h : k ≤ m) : forK gs to k <+: forK gs to m := by
  unfold forK
  refine List.IsPrefix.map _ (List.IsPrefix.filter _ ?_)
  have : List.range k = (List.range m).take k := by rw [List.take_range, Nat.min_eq_left h]
  rw [this]
  exact List.take_prefix _ _
theorem forK_at {gs : List Gr} {to : Int} {k : Nat} (hk : k < gs.length) (h : gs[k].to = to) : (iv (forK gs to gs.length))[(forK gs to k).length]? = some (.int .i64 (k : Int)) := by
  obtain ⟨t, ht⟩ := forK_pre gs to (show k + 1 ≤ gs.length from hk)
  rw [← ht, forK_yes hk h]
  simp [iv]
theorem forK_lt {gs : List Gr} {to : Int} {k : Nat} (hk : k < gs.length) (h : gs[k].to = to) : (forK gs to k).length < (forK gs to gs.length).length := by
  obtain ⟨t, ht⟩ := forK_pre gs to (show k + 1 ≤ gs.length from hk)
  rw [← ht, forK_yes hk h]
  simp
set_option maxHeartbeats 8000000 in
theorem rising_any (s : Value) (n : Int) (gs : List Gr) (to : Int) (v : Value) (w : World) (hs : SwG w s gs) (hn : gs.length ≤ 1000) (hv : Sl w v (iv (forK gs to gs.length))) :
    Calls Try.prog 29 #[.agg (bagC s n), .int .i64 to, v] w fun e w' => e = .returned (.bool true) ∧ Below w.heap.size w w' := by
  obtain ⟨A, c, rfl⟩ := hs.form
  obtain ⟨A1, c1', rfl⟩ := hv.form
  rw [iv_length] at hv ⊢
  have r1 := Rw.new w (bagC (.slice A gs.length c) n) 24
  have B0 := box_below w (.cells (bagC (.slice A gs.length c) n) 24)
  have HR := Lib.hid (And.intro r1 (And.intro B0 (And.intro (hs.below B0) (hv.below B0))))
  have HN := Lib.hid hn
  have c1 := r1.cell
  clear r1 B0 hs hv hn
  go_enter Try.func29, Try.ntmps29
  go_wp2
  go_loopw [7, 8] (fun t i W => ∃ k : Nat, k ≤ gs.length ∧ i = .int .i64 (k : Int) ∧ t = .int .i64 ((forK gs to k).length : Int) ∧ W = w.alloc (.cells (bagC (.slice A gs.length c) n) 24)) (fun _ i _ => gs.length - (intOf i).toNat)
  case atStart => exact ⟨0, Nat.zero_le _, rfl, rfl, rfl⟩
  case round =>
    obtain ⟨k, hk, rfl, rfl, hW⟩ := hrel
    subst wr
    have hnn := HN.out
    have hlk := forK_len gs to k
    by_cases hkn : k < gs.length
    · obtain ⟨b1, o1, rfl, hb1, x1, -, -⟩ := HR.out.2.2.1.at_ k hkn
      by_cases ht : gs[k].to = to
      · have HF := Lib.hid (show (forK gs to (k + 1)).length = (forK gs to k).length + 1 by rw [forK_yes hkn ht, List.length_append]; rfl)
        have hat := forK_at hkn ht
        have hlt := forK_lt hkn ht
        obtain ⟨b2, o2, rfl⟩ := HR.out.2.2.2.some_ (by omega)
        have x2 := HR.out.2.2.2.parts.2.2.2.2 _ _ hat
        have e1 : (gs[k].to != to) = false := by simp [ht]
        have e2 : decide (((forK gs to k).length : Int) ≥ ((forK gs to gs.length).length : Int)) = false := decide_eq_false (by omega)
        have e3 : decide ((forK gs to gs.length).length ≤ (forK gs to k).length) = false := decide_eq_false (by omega)
        have e4 : (((k : Int)) != (k : Int)) = false := by simp
        generalize gs[k].to = q at *
        generalize hq1 : (forK gs to k).length = q1 at *
        generalize (forK gs to gs.length).length = q2 at *
        clear hat ht hq1
        go_wp2
        go_roundw
        case rel => exact ⟨k + 1, by omega, by go_num, by rw [HF.out]; go_num, by first | rfl | trivial⟩
        case measure => simp [intOf]; omega
      · have HF := Lib.hid (forK_no hkn ht)
        have e1 : (gs[k].to != to) = true := by simp [ht]
        generalize gs[k].to = q at *
        clear ht
        go_wp2
        go_roundw
        case rel => exact ⟨k + 1, by omega, by go_num, by rw [HF.out], by first | rfl | trivial⟩
        case measure => simp [intOf]; omega
    · obtain rfl : k = gs.length := by omega
      go_wp2
      go_ret
      exact ⟨by simp, HR.out.2.1⟩
end Go.Proofs.Ytdoigpifkdkjpaa
