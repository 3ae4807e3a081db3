/- 'ArcOwner': an owner is one of them, none lies between the key and it, it owns itself: for from 1 to 60 numbers, any key, the table of starts laid. -/
import Derived.Test.YtnbabohhmcbhcaaDoorWakes
import Derived.Test.YtnbabohhmcbhcaaDoorOwnMath
set_option linter.unusedVariables false
set_option linter.unusedSimpArgs false
namespace Go.Proofs.YtnbabohhmcbhcaaDoor
open Go.RowKit Go.Shelf

/-- One of the first k has the place o. -/
def isAt (o : Int) (l : List Int) (k : Nat) : Bool := (l.take k).any fun z => pl z == o
theorem isAt_zero (o : Int) (l : List Int) : isAt o l 0 = false := by simp [isAt]
theorem isAt_succ (o : Int) (l : List Int) (k : Nat) (h : k < l.length) : isAt o l (k + 1) = (isAt o l k || (pl l[k] == o)) := by
  unfold isAt
  rw [List.take_succ_eq_append_getElem h, List.any_append]
  simp
theorem isAt_all (o : Int) (l : List Int) : isAt o l l.length = l.any fun z => pl z == o := by unfold isAt; rw [List.take_length]

set_option maxRecDepth 100000 in
set_option maxHeartbeats 4000000 in
theorem owner_long (W : World) (hT : Tab W) (A : Option Addr) (n c : Nat) (key : Int) (h : n < 1 ∨ 60 < n) :
    Calls Tryd.prog 5 #[.slice A n c, .int .i64 key] W fun e w' => e = .returned (.bool true) ∧ Below W.heap.size W w' := by
  have WK := Lib.hid (wakes_any W hT)
  clear hT
  rcases h with h | h
  · obtain rfl : n = 0 := by omega
    go_enter Tryd.func5, Tryd.ntmps5
    go_wp2_with fail
    refine WK.out.mono ?_; rintro e w' ⟨rfl, hb⟩
    go_wp2
    go_ret
    exact ⟨rfl, hb⟩
  · have h2 : ¬ n < 1 := by omega
    go_enter Tryd.func5, Tryd.ntmps5
    go_wp2_with fail
    refine WK.out.mono ?_; rintro e w' ⟨rfl, hb⟩
    go_wp2
    go_ret
    exact ⟨rfl, hb⟩

set_option maxRecDepth 100000 in
set_option maxHeartbeats 8000000 in
theorem owner_main (W : World) (hT : Tab W) (b off c : Nat) (l : List Int) (key : Int) (hI : Sl W (.slice (some ⟨b, off, none⟩) l.length c) (iv l)) (hz : ∀ z ∈ l, Num z) (hk : Num key) (h1 : 1 ≤ l.length) (h2 : l.length ≤ 60) :
    Calls Tryd.prog 5 #[.slice (some ⟨b, off, none⟩) l.length c, .int .i64 key] W fun e w' => e = .returned (.bool true) ∧ Below W.heap.size W w' := by
  have h0 : l ≠ [] := by rintro rfl; simp at h1
  obtain ⟨_, hlc, hcm, hbs, hcells⟩ := hI.parts
  have hc : ∀ k (h : k < l.length), W.cell? ⟨b, off + k, none⟩ = some (.int .i64 l[k]) := fun k h => hcells k _ (iv_get l k h)
  have o1 := fun w h => owner_any (some ⟨b, off, none⟩) l.length c l key w h hz hk
  rw [show decide (l ≠ []) = true by simp [h0]] at o1
  have o2 := fun (k : Nat) (h : k < l.length) w hi => owner_any (some ⟨b, off, none⟩) l.length c l l[k] w hi hz (hz _ (List.getElem_mem h))
  rw [show decide (l ≠ []) = true by simp [h0]] at o2
  have f2 := fun w => far_any key (own key l) w hk (own_num key l)
  have HI := Lib.hid hI
  have HZ := Lib.hid hz
  have HC := Lib.hid hc
  have HT := Lib.hid hT
  have hT0 := hT.size
  have WK := Lib.hid wakes_any
  have O1 := Lib.hid o1
  have O2 := Lib.hid o2
  have hkey := Lib.hid hk
  have HL := Lib.hid (fun z (h : z ∈ l) => own_least (key := key) h)
  have HU := Lib.hid (fun z (h : z ∈ l) => up_own (key := key) h)
  have HM := Lib.hid (own_mem (key := key) h0)
  have HN := Lib.hid (own_num key l)
  have kb := own_bd key l
  clear hI hz hc hT o1 o2 hk hcells hlc hcm
  generalize own key l = o at *
  go_enter Tryd.func5, Tryd.ntmps5
  go_wp2_with fail
  refine (O1.out _ HI.out).mono ?_; rintro e w1 ⟨rfl, hB⟩
  go_wp2_with fail
  go_loopw [7, 8] (fun t i w => ∃ k : Nat, k ≤ l.length ∧ i = .int .i64 k ∧ t = .bool (isAt o l k) ∧ Below W.heap.size W w) (fun _ i _ => l.length - (intOf i).toNat)
  case atStart => exact ⟨0, by omega, rfl, by rw [isAt_zero], hB⟩
  case round =>
    clear hB
    obtain ⟨k, hk, rfl, rfl, hB⟩ := hrel
    by_cases hlt : k < l.length
    · have hzk := HZ.out _ (List.getElem_mem hlt)
      have hmem : l[k] ∈ l := List.getElem_mem hlt
      have hc0 := HC.out k hlt
      have his := isAt_succ o l k hlt
      have p1 := fun w => place_any l[k] w hzk
      have f1 := fun w => far_any key l[k] w hkey.out hzk
      have u1 := fun w => upTo_any l[k] key o w hzk hkey.out HN.out
      have O := Lib.hid (O2.out k hlt)
      have hle := HL.out _ hmem
      have hup := HU.out _ hmem
      have hself := own_self hmem
      rw [hself] at O
      have hcw := (hB.cell (p := ⟨b, off + k, none⟩) hbs).trans hc0
      have HIs := Lib.hid his
      clear his hself hc0 hmem
      generalize l[k] = z at *
      have q1 := pl_bd z
      have hlt2 : (far key z < far key o) = False := by simp; omega
      generalize far key z = fz at *
      generalize far key o = fo at *
      generalize isAt o l k = is at *
      generalize pl z = pz at *
      by_cases he : pz = o
      · subst he
        rw [show (pz == pz) = true by simp] at HIs
        cases is
        · go_wp2_with fail
          refine (p1 _).mono ?_; rintro e w' ⟨rfl, rfl⟩
          go_wp2_with fail
          refine (O.out _ (HI.out.below hB)).mono ?_; rintro e w3 ⟨rfl, hb⟩
          have hcw3 := (hb.cell (p := ⟨b, off + k, none⟩) (Nat.lt_of_lt_of_le hbs hB.size)).trans hcw
          replace hB := hB.trans (hb.mono hB.size)
          clear hb hcw
          go_wp2_with fail
          refine (p1 _).mono ?_; rintro e w' ⟨rfl, rfl⟩
          go_wp2_with fail
          refine (f1 _).mono ?_; rintro e w' ⟨rfl, rfl⟩
          go_wp2_with fail
          refine (f2 _).mono ?_; rintro e w' ⟨rfl, rfl⟩
          go_wp2_with fail
          refine (p1 _).mono ?_; rintro e w' ⟨rfl, rfl⟩
          go_wp2
          go_roundw
          case rel => exact ⟨k + 1, by omega, by go_num, by rw [HIs.out]; rfl, hB⟩
          case measure => simp [intOf]; omega
        · go_wp2_with fail
          refine (O.out _ (HI.out.below hB)).mono ?_; rintro e w3 ⟨rfl, hb⟩
          have hcw3 := (hb.cell (p := ⟨b, off + k, none⟩) (Nat.lt_of_lt_of_le hbs hB.size)).trans hcw
          replace hB := hB.trans (hb.mono hB.size)
          clear hb hcw
          go_wp2_with fail
          refine (p1 _).mono ?_; rintro e w' ⟨rfl, rfl⟩
          go_wp2_with fail
          refine (f1 _).mono ?_; rintro e w' ⟨rfl, rfl⟩
          go_wp2_with fail
          refine (f2 _).mono ?_; rintro e w' ⟨rfl, rfl⟩
          go_wp2_with fail
          refine (p1 _).mono ?_; rintro e w' ⟨rfl, rfl⟩
          go_wp2
          go_roundw
          case rel => exact ⟨k + 1, by omega, by go_num, by rw [HIs.out]; rfl, hB⟩
          case measure => simp [intOf]; omega
      · rw [hup he] at u1
        have he1 : (pz == o) = false := by simpa using he
        have he2 : (pz != o) = true := by simpa using he
        rw [he1] at HIs
        cases is
        · go_wp2_with fail
          refine (p1 _).mono ?_; rintro e w' ⟨rfl, rfl⟩
          go_wp2_with fail
          refine (O.out _ (HI.out.below hB)).mono ?_; rintro e w3 ⟨rfl, hb⟩
          have hcw3 := (hb.cell (p := ⟨b, off + k, none⟩) (Nat.lt_of_lt_of_le hbs hB.size)).trans hcw
          replace hB := hB.trans (hb.mono hB.size)
          clear hb hcw
          go_wp2_with fail
          refine (p1 _).mono ?_; rintro e w' ⟨rfl, rfl⟩
          go_wp2_with fail
          refine (f1 _).mono ?_; rintro e w' ⟨rfl, rfl⟩
          go_wp2_with fail
          refine (f2 _).mono ?_; rintro e w' ⟨rfl, rfl⟩
          go_wp2_with fail
          refine (p1 _).mono ?_; rintro e w' ⟨rfl, rfl⟩
          go_wp2_with fail
          refine (u1 _).mono ?_; rintro e w' ⟨rfl, rfl⟩
          go_wp2
          go_roundw
          case rel => exact ⟨k + 1, by omega, by go_num, by rw [HIs.out]; rfl, hB⟩
          case measure => simp [intOf]; omega
        · go_wp2_with fail
          refine (O.out _ (HI.out.below hB)).mono ?_; rintro e w3 ⟨rfl, hb⟩
          have hcw3 := (hb.cell (p := ⟨b, off + k, none⟩) (Nat.lt_of_lt_of_le hbs hB.size)).trans hcw
          replace hB := hB.trans (hb.mono hB.size)
          clear hb hcw
          go_wp2_with fail
          refine (p1 _).mono ?_; rintro e w' ⟨rfl, rfl⟩
          go_wp2_with fail
          refine (f1 _).mono ?_; rintro e w' ⟨rfl, rfl⟩
          go_wp2_with fail
          refine (f2 _).mono ?_; rintro e w' ⟨rfl, rfl⟩
          go_wp2_with fail
          refine (p1 _).mono ?_; rintro e w' ⟨rfl, rfl⟩
          go_wp2_with fail
          refine (u1 _).mono ?_; rintro e w' ⟨rfl, rfl⟩
          go_wp2
          go_roundw
          case rel => exact ⟨k + 1, by omega, by go_num, by rw [HIs.out]; rfl, hB⟩
          case measure => simp [intOf]; omega
    · obtain rfl : k = l.length := by omega
      have hany : isAt o l l.length = true := by
        rw [isAt_all]
        obtain ⟨x, hx, e⟩ := HM.out
        exact List.any_eq_true.2 ⟨x, hx, by rw [e]; simp⟩
      rw [hany]
      go_wp2_with fail
      refine (WK.out _ (HT.out.below hT0 hB)).mono ?_; rintro e w4 ⟨rfl, hb⟩
      replace hB := hB.trans (hb.mono hB.size)
      go_wp2
      go_ret
      exact ⟨rfl, hB⟩
theorem owner_walk (W : World) (hT : Tab W) (v : Value) (l : List Int) (hs : Sl W v (iv l)) (w0 : ∀ n ∈ l, (Lit.int .i64 n).wf = true) (key : Int) (w1 : (Lit.int .i64 key).wf = true) :
    Calls Tryd.prog 5 #[v, .int .i64 key] W fun e w' => e = .returned (.bool true) ∧ Below W.heap.size W w' := by
  obtain ⟨A, n, c, rfl⟩ := hs.slice
  by_cases h : n < 1 ∨ 60 < n
  · exact owner_long W hT A n c key h
  · have hl := hs.len
    rw [iv_length] at hl
    subst hl
    obtain ⟨b, off, rfl⟩ := hs.some_ (by omega)
    exact owner_main W hT b off c l key hs (fun z hz => bounds_i64 (w0 z hz)) (bounds_i64 w1) (by omega) (by omega)
end Go.Proofs.YtnbabohhmcbhcaaDoor
