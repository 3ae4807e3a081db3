/- The document's own answers of bags: whom they are for; which are too great. -/
import Derived.Test.YtdoigpifkdkjpaaBRef
set_option linter.unusedVariables false
set_option maxRecDepth 100000
set_option linter.unusedSimpArgs false
namespace Go.Proofs.Ytdoigpifkdkjpaa
open Go.RowKit Go.Shelf Ms

def forK (gs : List Gr) (to : Int) (k : Nat) : List Int := ((List.range k).filter fun i => decide (((gs[i]?).map (·.to)) = some to)).map Int.ofNat
theorem forK_yes {gs : List Gr} {to : Int} {k : Nat} (hk : k < gs.length) (h : gs[k].to = to) : forK gs to (k + 1) = forK gs to k ++ [(k : Int)] := by
  unfold forK
  rw [List.range_succ, List.filter_append, List.map_append]
  simp [hk, h]
theorem forK_no {gs : List Gr} {to : Int} {k : Nat} (hk : k < gs.length) (h : gs[k].to ≠ to) : forK gs to (k + 1) = forK gs to k := by
  unfold forK
  rw [List.range_succ, List.filter_append, List.map_append]
  simp [hk, h]
theorem forK_len (gs : List Gr) (to : Int) (k : Nat) : (forK gs to k).length ≤ k := by
  unfold forK
  rw [List.length_map]
  exact Nat.le_trans (List.length_filter_le ..) (by simp)
theorem elI : ElOf Try.prog 39 3 (.int .i64 0) 8 := ⟨Try.underlying39, by kernel_rfl, rfl, by decide⟩

set_option maxHeartbeats 8000000 in
theorem rFor_any (s : Value) (n : Int) (gs : List Gr) (to : Int) (w : World) (hs : SwG w s gs) (hn : gs.length ≤ 1000) :
    Calls Try.prog 23 #[.agg (bagC s n), .int .i64 to] w fun e w' => ∃ v, e = .returned v ∧ Made w w' 3 v (iv (forK gs to gs.length)) := by
  obtain ⟨A, c, rfl⟩ := hs.form
  have r1 := Rw.new w (bagC (.slice A gs.length c) n) 24
  have B0 := box_below w (.cells (bagC (.slice A gs.length c) n) 24)
  have HB0 := Lib.hid B0
  have HR1 := Lib.hid r1
  have HS := Lib.hid (hs.below B0)
  have HN := Lib.hid hn
  have c1 := r1.cell
  clear r1 B0 hs hn
  go_enter Try.func23, Try.ntmps23
  go_wp2
  go_loopw [5, 6] (fun t i W => ∃ k : Nat, k ≤ gs.length ∧ i = .int .i64 (k : Int) ∧ Made (w.alloc (.cells (bagC (.slice A gs.length c) n) 24)) W 3 t (iv (forK gs to k))) (fun _ i _ => gs.length - (intOf i).toNat)
  case atStart => exact ⟨0, Nat.zero_le _, rfl, Made.nil_ _ _⟩
  case round =>
    obtain ⟨k, hk, rfl, hM⟩ := hrel
    have HM := Lib.hid hM
    have cw := (HR1.out.below hM.below).cell
    have hnn := HN.out
    by_cases hkn : k < gs.length
    · obtain ⟨b1, o1, rfl, hb1, x1, -, -⟩ := (HS.out.below hM.below).at_ k hkn
      by_cases ht : gs[k].to = to
      · have HF := Lib.hid (forK_yes hkn ht)
        have e1 : (gs[k].to == to) = true := by simp [ht]
        generalize gs[k].to = q at *
        clear hM hb1 ht
        go_wp2_with (at_builtin
                     refine wpList_more elI rfl (.tmp 22) (.tmp 24) rfl rfl (HM.out.alloc _) rfl (Sl.lit wr [.int .i64 (k : Int)] 3 1 rfl (by decide)) (by intro u hu; simp at hu; subst hu; rfl) (by have := forK_len gs to k; have := iv_length (forK gs to k); simp only [List.length_cons, List.length_nil]; omega) ?_
                     intro v2 w2 hm2)
        go_roundw
        case rel => exact ⟨k + 1, by omega, by go_num, by rw [HF.out, iv_append]; exact hm2⟩
        case measure => simp [intOf]; omega
      · have HF := Lib.hid (forK_no hkn ht)
        have e1 : (gs[k].to == to) = false := by simp [ht]
        generalize gs[k].to = q at *
        clear hM hb1 ht
        go_wp2
        go_roundw
        case rel => exact ⟨k + 1, by omega, by go_num, by rw [HF.out]; exact HM.out⟩
        case measure => simp [intOf]; omega
    · obtain rfl : k = gs.length := by omega
      clear hM
      go_wp2
      go_ret
      refine ⟨_, rfl, owns_mono HM.out.own (by simp), HB0.out.trans (HM.out.below.mono HB0.out.size)⟩

/-- Too great: more than 420, or one of the first 421 of more than 300 bytes. -/
def greatG (gs : List Gr) : Bool := (gs.take 421).any (fun g => decide (300 < g.bytes.length)) || decide (420 < gs.length)
set_option maxHeartbeats 8000000 in
theorem rGreat_any (s : Value) (n : Int) (gs : List Gr) (w : World) (hs : SwG w s gs) :
    Calls Try.prog 8 #[.agg (bagC s n)] w fun e w' => e = .returned (.bool (greatG gs)) ∧ Below w.heap.size w w' := by
  obtain ⟨A, c, rfl⟩ := hs.form
  have r1 := Rw.new w (bagC (.slice A gs.length c) n) 24
  have B0 := box_below w (.cells (bagC (.slice A gs.length c) n) 24)
  have HB0 := Lib.hid B0
  have HR1 := Lib.hid r1
  have HS := Lib.hid (hs.below B0)
  have hln := hs.len
  have c1 := r1.cell
  clear r1 B0 hs
  go_enter Try.func8, Try.ntmps8
  go_wp2
  go_loopw [3] (fun i W => ∃ k : Nat, k ≤ gs.length ∧ k ≤ 421 ∧ i = .int .i64 (k : Int) ∧ (gs.take k).any (fun g => decide (300 < g.bytes.length)) = false ∧ Below (w.alloc (.cells (bagC (.slice A gs.length c) n) 24)).heap.size (w.alloc (.cells (bagC (.slice A gs.length c) n) 24)) W) (fun i _ => 422 - (intOf i).toNat)
  case atStart => exact ⟨0, Nat.zero_le _, by omega, rfl, rfl, Below.refl _ _⟩
  case round =>
    obtain ⟨k, hk, hk2, rfl, hany, hW⟩ := hrel
    have cw := (HR1.out.below hW).cell
    have HAN := Lib.hid hany
    have HBW := Lib.hid (HB0.out.trans (hW.mono HB0.out.size))
    clear hany
    by_cases hkn : k < gs.length
    · have d1 : decide ((k : Int) < gs.length) = true := decide_eq_true (by omega)
      by_cases hk3 : k ≤ 420
      · have d2 : decide ((k : Int) ≤ 420) = true := decide_eq_true (by omega)
        obtain ⟨b1, o1, rfl, hb1, -, ⟨u1, y1, s1⟩, -⟩ := (HS.out.below hW).at_ k hkn
        obtain ⟨A1, q1, rfl⟩ := s1.form
        have HG := Lib.hid (show gs.take (k + 1) = gs.take k ++ [gs[k]] from List.take_succ_eq_append_getElem hkn)
        have HI := Lib.hid (show gs[k] ∈ gs.take 421 from by
          rw [List.mem_take_iff_getElem]
          exact ⟨k, by omega, rfl⟩)
        rw [bv_length] at *
        generalize gs[k] = g at *
        have HW := Lib.hid hW
        clear hW s1
        by_cases hb : 300 < g.bytes.length
        · have d3 : decide (300 < (g.bytes.length : Int)) = true := decide_eq_true (by omega)
          go_wp2
          go_ret
          refine ⟨ret_b ?_, HBW.out⟩
          symm
          unfold greatG
          rw [Bool.or_eq_true]
          exact .inl (List.any_eq_true.2 ⟨g, HI.out, decide_eq_true hb⟩)
        · have d3 : decide (300 < (g.bytes.length : Int)) = false := decide_eq_false (by omega)
          go_wp2
          go_roundw
          case rel => exact ⟨k + 1, by omega, by omega, by go_num, by rw [HG.out, List.any_append, HAN.out]; simp [hb], HW.out⟩
          case measure => simp [intOf]; omega
      · have d2 : decide ((k : Int) ≤ 420) = false := decide_eq_false (by omega)
        obtain rfl : k = 421 := by omega
        go_wp2
        go_ret
        refine ⟨ret_b ?_, HBW.out⟩
        unfold greatG
        rw [HAN.out, Bool.false_or, decide_eq_decide]
        omega
    · have d1 : decide ((k : Int) < gs.length) = false := decide_eq_false (by omega)
      obtain rfl : k = gs.length := by omega
      go_wp2
      go_ret
      refine ⟨ret_b ?_, HBW.out⟩
      unfold greatG
      have ht : gs.take 421 = gs.take gs.length := by rw [List.take_length, List.take_of_length_le (by omega)]
      rw [ht, HAN.out, Bool.false_or, decide_eq_decide]
      omega
end Go.Proofs.Ytdoigpifkdkjpaa
