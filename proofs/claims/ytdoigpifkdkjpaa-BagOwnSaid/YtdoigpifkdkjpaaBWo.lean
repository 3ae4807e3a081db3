/- A row of datagrams but the one at a place. -/
import Derived.Test.YtdoigpifkdkjpaaBCat
set_option linter.unusedVariables false
set_option maxRecDepth 100000
set_option linter.unusedSimpArgs false
namespace Go.Proofs.Ytdoigpifkdkjpaa
open Go.RowKit Go.Shelf Ms

/-- All but the k-th. -/
def butK {α : Type} (l : List α) (k : Nat) : List α := l.take k ++ l.drop (k + 1)
theorem butK_sub {α : Type} (l : List α) (k : Nat) : (butK l k).Sublist l := by
  have h : l.take k ++ l.drop k = l := List.take_append_drop k l
  have h2 : (l.take k ++ l.drop (k + 1)).Sublist (l.take k ++ l.drop k) := by
    refine List.Sublist.append (List.Sublist.refl _) ?_
    rw [← List.drop_drop]
    exact List.drop_sublist _ _
  rwa [h] at h2
theorem butK_map {α β : Type} (f : α → β) (l : List α) (k : Nat) : (butK l k).map f = butK (l.map f) k := by simp [butK, List.map_drop, List.map_take]
theorem butK_len {α : Type} (l : List α) (k : Nat) (h : k < l.length) : (butK l k).length + 1 = l.length := by simp [butK]; omega
set_option maxHeartbeats 8000000 in
theorem without_any (b off n c : Nat) (ps : List (Gr × Value)) (k : Nat) (w : World) (h : Ln w b off n c ps) (hk : k < n) (hn : n ≤ 5000) :
    Calls Try.prog 32 #[.slice (some ⟨b, off, none⟩) n c, .int .i64 (k : Int)] w fun e w' => ∃ u, e = .returned u ∧ w'.ownsRow w.heap.size 29 3 u (butK ps k).length (cellsG (butK ps k)) ∧ Below w.heap.size w w' := by
  obtain ⟨a1, cut1, rd1⟩ := run_cut3 (P := Try.prog) elG h 0 k (Nat.zero_le _) (by omega) none (some (.int .i64 (k : Int))) (.inr ⟨rfl, rfl⟩) (.inl rfl)
  obtain ⟨a2, cut2, rd2⟩ := run_cut3 (P := Try.prog) elG h (k + 1) n (by omega) (Nat.le_refl _) (some (.int .i64 ((k : Int) + 1))) none (.inl (by simp)) (.inr ⟨rfl, rfl⟩)
  have hlen := h.len
  have e1 : (ps.take k).drop 0 = ps.take k := by simp
  have e2 : (ps.take n).drop (k + 1) = ps.drop (k + 1) := by rw [List.take_of_length_le (by omega)]
  rw [e1] at rd1
  rw [e2] at rd2
  have l1 : (ps.take k).length = k - 0 := by simp; omega
  have l2 : (ps.drop (k + 1)).length = n - (k + 1) := by simp; omega
  have o1 : ∀ q ∈ ps.take k, q.2.oneCell' = true := fun q hq => h.one q (List.mem_of_mem_take hq)
  have o2 : ∀ q ∈ ps.drop (k + 1), q.2.oneCell' = true := fun q hq => h.one q (List.mem_of_mem_drop hq)
  have hp : pcs [⟨a1, c - 0, ps.take k⟩, ⟨a2, c - (k + 1), ps.drop (k + 1)⟩] = butK ps k := by simp [pcs, butK]
  have hv : List.map Pc.v [⟨a1, c - 0, ps.take k⟩, ⟨a2, c - (k + 1), ps.drop (k + 1)⟩] = [.slice (some a1) (k - 0) (c - 0), .slice (some a2) (n - (k + 1)) (c - (k + 1))] := by simp [Pc.v, l1, l2]
  have hpn := (butK_sub ps k).length_le
  have KC := Lib.hid (fun (X : World) (hb : Below w.heap.size w X) => concat_any [⟨a1, c - 0, ps.take k⟩, ⟨a2, c - (k + 1), ps.drop (k + 1)⟩] (.slice (some ⟨X.heap.size, 0, none⟩) 2 2) (X.alloc (.cells #[.slice (some a1) (k - 0) (c - 0), .slice (some a2) (n - (k + 1)) (c - (k + 1))] 22))
    (by rw [hv]; exact Sl.lit X [.slice (some a1) (k - 0) (c - 0), .slice (some a2) (n - (k + 1)) (c - (k + 1))] 22 2 rfl (by decide))
    (by
      intro p hp
      have hb' := hb.alloc hb.size (.cells #[.slice (some a1) (k - 0) (c - 0), .slice (some a2) (n - (k + 1)) (c - (k + 1))] 22)
      simp at hp
      rcases hp with rfl | rfl
      · exact ⟨rd1.below hb', o1⟩
      · exact ⟨rd2.below hb', o2⟩)
    (by simp) (by rw [hp]; omega))
  have HP := Lib.hid hp
  have hcm := h.max
  have hcap := h.cap
  have hwr : IntKind.i64.wrap ((k : Int) + 1) = (k : Int) + 1 := by rw [IntKind.wrap_i64]; omega
  clear hcm hcap
  clear rd1 rd2 e1 e2 l1 l2 o1 o2 hp hv h hlen hpn
  go_enter Try.func32, Try.ntmps32
  go_wp2_with fail
  go_region_held3 (fun X => Below w.heap.size w X)
    (first
      | exact (Below.refl _ _).drew
      | assumption
      | exact (Below.refl _ _).drew.alloc (Nat.le_refl _) _
      | exact hb2)
    (first
      | (go_at_call 41; refine (KC.out _ (Below.refl _ _).drew).mono ?_; rintro e w2 ⟨u, rfl, ho, hb⟩; have hb2 := ((Below.refl w.heap.size w).drew.alloc (Nat.le_refl _) (.cells #[.slice (some a1) (k - 0) (c - 0), .slice (some a2) (n - (k + 1)) (c - (k + 1))] 22)).trans (hb.mono ((Below.refl w.heap.size w).drew.alloc (Nat.le_refl _) _).size)))
  go_wp2
  go_ret
  rw [HP.out] at ho
  exact ⟨u, rfl, owns_mono ho (by simp), hb2⟩
end Go.Proofs.Ytdoigpifkdkjpaa
