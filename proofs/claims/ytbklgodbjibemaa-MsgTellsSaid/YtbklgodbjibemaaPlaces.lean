/- The iterator 'placesOf': what it hands to a loop's body. -/
import Derived.Test.YtbklgodbjibemaaRSame
set_option linter.unusedVariables false
set_option linter.unusedSimpArgs false
namespace Go.Proofs.Ytbklgodbjibemaa
open Go.RowKit Go.Shelf
attribute [local go_sem] Oper.semAt_some

def four (m : M) : List Int := [m.frm, m.to, m.key, m.place]
def predL (m : M) : List Int := if m.pred = -1 then [] else [m.pred]
/-- All places that a message tells of. -/
def placesL (m : M) (l : List Int) : List Int := (four m ++ predL m) ++ l
theorem idx4 (a b c d : Int) (k : Nat) (hk : k < 4) (W : World) : (Instr.index 53 (.agg #[.int .i64 a, .int .i64 b, .int .i64 c, .int .i64 d]) (.int .i64 (k : Int))).run Try.prog W = .ok (.int .i64 ([a, b, c, d][k]'(by simpa using hk))) W := by
  have h0 : (Instr.index 53 (.agg #[.int .i64 a, .int .i64 b, .int .i64 c, .int .i64 d]) (.int .i64 0)).run Try.prog W = .ok (.int .i64 a) W := by kernel_rfl
  have h1 : (Instr.index 53 (.agg #[.int .i64 a, .int .i64 b, .int .i64 c, .int .i64 d]) (.int .i64 1)).run Try.prog W = .ok (.int .i64 b) W := by kernel_rfl
  have h2 : (Instr.index 53 (.agg #[.int .i64 a, .int .i64 b, .int .i64 c, .int .i64 d]) (.int .i64 2)).run Try.prog W = .ok (.int .i64 c) W := by kernel_rfl
  have h3 : (Instr.index 53 (.agg #[.int .i64 a, .int .i64 b, .int .i64 c, .int .i64 d]) (.int .i64 3)).run Try.prog W = .ok (.int .i64 d) W := by kernel_rfl
  match k, hk with
  | 0, _ => exact h0
  | 1, _ => exact h1
  | 2, _ => exact h2
  | 3, _ => exact h3

set_option maxRecDepth 100000 in
set_option maxHeartbeats 4000000 in
theorem places_in (n : Nat) (l Bs : Nat) (m : M) (A : Option Addr) (c : Nat) (ls : List Int) (S : Nat → Prop) (hb : S Bs) (hreach : (ls.length : Int) ≤ 9223372036854775807) (J Jx : List Int → World → Prop)
    (hY : ∀ pre x W, J pre W → pre.length < (placesL m ls).length → YieldAt Fence.wide (n - 1) Try.prog l #[.int .i64 x] W fun e W' =>
      (e = .returned (.bool true) ∧ J (pre ++ [x]) W' ∧ Kps S W W') ∨ (e = .returned (.bool false) ∧ Jx (pre ++ [x]) W'))
    (W : World) (hBs : ∀ j, W.cell? ⟨Bs, j, none⟩ = (m.c (.slice A ls.length c))[j]?)
    (hl : ∀ j (hj : j < ls.length), ∃ g off, A = some ⟨g, off, none⟩ ∧ S g ∧ W.cell? ⟨g, off + j, none⟩ = some (.int .i64 ls[j])) (h0 : J [] W) :
    CallsIn Fence.wide n Try.prog 38 #[.func (.yield l) #[] #[], .pointer (some ⟨Bs, 0, none⟩)] W fun e W' => (∃ v, e = .returned v) ∧
      ((∃ ys, ys = placesL m ls ∧ J ys W') ∨ (∃ pre, pre <+: placesL m ls ∧ Jx pre W')) := by
  have HL := Lib.hid hl
  have hlen : (placesL m ls).length = 4 + (predL m).length + ls.length := by simp [placesL, four]; omega
  have HLEN := Lib.hid hlen
  have B2 := Lib.hid hBs
  have HY := Lib.hid hY
  clear hl hlen hY
  refine callsIn_of_wp Try.func38 rfl trivial ?_ rfl
  simp only [Try.ntmps38, List.size_toArray, List.length_cons, List.length_nil, Nat.reduceAdd, Nat.reduceSub, Array.replicate_succ, Array.replicate_zero, List.push_toArray, List.append_toArray, List.nil_append, List.cons_append]
  gi_wp2
  gi_loopw [16] (fun i wr => ∃ k : Nat, k ≤ 4 ∧ i = .int .i64 k ∧ J ((four m).take k) wr ∧ Kps S W wr) (fun i _ => 4 - (intOf i).toNat)
  case atStart => exact ⟨0, Nat.zero_le _, rfl, by simpa using h0, Kps.refl _ _⟩
  case round =>
    obtain ⟨k, hk, rfl, hJs, hnx⟩ := hrel
    by_cases hlt : k < 4
    · have hi := fun W => idx4 m.frm m.to m.key m.place k hlt W
      obtain ⟨z, hz⟩ : ∃ z, z = ([m.frm, m.to, m.key, m.place][k]'(by simpa using hlt)) := ⟨_, rfl⟩
      rw [← hz] at hi
      have htk : (four m).take (k + 1) = (four m).take k ++ [z] := by
        rw [hz]
        exact List.take_succ_eq_append_getElem (l := four m) (by simpa [four] using hlt)
      obtain ⟨fn, tmps, assign, body, hy, hR⟩ := HY.out ((four m).take k) z wr hJs (by rw [HLEN.out, List.length_take]; simp [four]; omega)
      rw [← htk] at hR
      have HTK := Lib.hid htk
      have HZ := Lib.hid hz
      clear htk hz hBs
      gi_wp2
      refine ⟨fun h => (by cases h), hR.mono ?_⟩
      rintro e W3 (⟨rfl, hJ3, hk3⟩ | ⟨rfl, hJx3⟩)
      · gi_wp2
        go_roundw
        case rel => exact ⟨k + 1, by omega, by go_num, hJ3, hnx.trans hk3⟩
        case measure => simp [intOf]; omega
      · gi_wp2
        refine bodyPost_ret (results_none rfl _ _ _) rfl ?_
        refine ⟨⟨_, rfl⟩, .inr ⟨_, ?_, hJx3⟩⟩
        unfold placesL
        rw [List.append_assoc]
        exact (List.take_prefix _ _).trans (List.prefix_append _ _)
    · obtain rfl : k = 4 := by omega
      have hc2 : ∀ j, wr.cell? ⟨Bs, j, none⟩ = (m.c (.slice A ls.length c))[j]? := fun j => (hnx.cell (p := ⟨Bs, j, none⟩) hb).trans (B2.out j)
      have hJ4 : J (four m) wr := by simpa [four] using hJs
      clear hBs hJs
      have last : ∀ W1, Kps S W W1 → J (four m ++ predL m) W1 → ∀ k : Nat, k ≤ ls.length → True := fun _ _ _ _ _ => trivial
      by_cases hp : m.pred = -1
      · have hpb : (m.pred != -1) = false := by simp [hp]
        have hpl : four m ++ predL m = four m := by simp [predL, hp]
        have HPL := Lib.hid hpl
        clear hpl hp
        gi_wp2
        repeat (refine ⟨fun f h => (by cases h), ?_⟩; gi_wp2)
        gi_loopw [37] (fun i wr => ∃ k : Nat, k ≤ ls.length ∧ i = .int .i64 k ∧ J (four m ++ predL m ++ ls.take k) wr ∧ Kps S W wr) (fun i _ => ls.length - (intOf i).toNat)
        case atStart => exact ⟨0, Nat.zero_le _, rfl, by simpa [HPL.out] using hJ4, hnx⟩
        case round =>
          clear hnx hc2
          obtain ⟨k, hk, rfl, hJs, hnx⟩ := hrel
          by_cases hlt : k < ls.length
          · obtain ⟨g, off, rfl, hsg, hcx0⟩ := HL.out k hlt
            have hcx := (hnx.cell (p := ⟨g, off + k, none⟩) hsg).trans hcx0
            obtain ⟨fn, tmps, assign, body, hy, hR⟩ := HY.out (four m ++ predL m ++ ls.take k) ls[k] wr hJs (by rw [HLEN.out]; simp [four]; omega)
            rw [List.append_assoc, ← List.take_succ_eq_append_getElem hlt] at hR
            clear hcx0
            gi_wp2
            refine ⟨fun h => (by cases h), hR.mono ?_⟩
            rintro e W3 (⟨rfl, hJ3, hk3⟩ | ⟨rfl, hJx3⟩)
            · gi_wp2
              go_roundw
              case rel => exact ⟨k + 1, by omega, by go_num, hJ3, hnx.trans hk3⟩
              case measure => simp [intOf]; omega
            · gi_wp2
              refine bodyPost_ret (results_none rfl _ _ _) rfl ?_
              refine ⟨⟨_, rfl⟩, .inr ⟨_, ?_, hJx3⟩⟩
              exact (List.prefix_append_right_inj _).2 (List.take_prefix _ _)
          · obtain rfl : k = ls.length := by omega
            gi_wp2
            go_end0
            exact ⟨⟨_, rfl⟩, .inl ⟨_, rfl, by simpa [placesL] using hJs⟩⟩
      · have hpb : (m.pred != -1) = true := by simp [hp]
        have hpl : four m ++ predL m = four m ++ [m.pred] := by simp [predL, hp]
        have HPL := Lib.hid hpl
        obtain ⟨fn, tmps, assign, body, hy, hR⟩ := HY.out (four m) m.pred wr hJ4 (by rw [HLEN.out]; simp [predL, hp, four]; omega)
        rw [← hpl] at hR
        clear hpl hp
        gi_wp2
        refine ⟨fun h => (by cases h), hR.mono ?_⟩
        rintro e W3 (⟨rfl, hJ3, hk3⟩ | ⟨rfl, hJx3⟩)
        · have hc3 : ∀ j, W3.cell? ⟨Bs, j, none⟩ = (m.c (.slice A ls.length c))[j]? := fun j => (hk3.cell (p := ⟨Bs, j, none⟩) hb).trans (hc2 j)
          clear hc2
          gi_wp2
          gi_loopw [37] (fun i wr => ∃ k : Nat, k ≤ ls.length ∧ i = .int .i64 k ∧ J (four m ++ predL m ++ ls.take k) wr ∧ Kps S W wr) (fun i _ => ls.length - (intOf i).toNat)
          case atStart => exact ⟨0, Nat.zero_le _, rfl, by simpa using hJ3, hnx.trans hk3⟩
          case round =>
            clear hnx hc3 hk3
            obtain ⟨k, hk, rfl, hJs, hnx⟩ := hrel
            by_cases hlt : k < ls.length
            · obtain ⟨g, off, rfl, hsg, hcx0⟩ := HL.out k hlt
              have hcx := (hnx.cell (p := ⟨g, off + k, none⟩) hsg).trans hcx0
              obtain ⟨fn, tmps, assign, body, hy, hR⟩ := HY.out (four m ++ predL m ++ ls.take k) ls[k] wr hJs (by rw [HLEN.out]; simp [four]; omega)
              rw [List.append_assoc, ← List.take_succ_eq_append_getElem hlt] at hR
              clear hcx0
              gi_wp2
              refine ⟨fun h => (by cases h), hR.mono ?_⟩
              rintro e W3 (⟨rfl, hJ3, hk3⟩ | ⟨rfl, hJx3⟩)
              · gi_wp2
                go_roundw
                case rel => exact ⟨k + 1, by omega, by go_num, hJ3, hnx.trans hk3⟩
                case measure => simp [intOf]; omega
              · gi_wp2
                refine bodyPost_ret (results_none rfl _ _ _) rfl ?_
                refine ⟨⟨_, rfl⟩, .inr ⟨_, ?_, hJx3⟩⟩
                exact (List.prefix_append_right_inj _).2 (List.take_prefix _ _)
            · obtain rfl : k = ls.length := by omega
              gi_wp2
              go_end0
              exact ⟨⟨_, rfl⟩, .inl ⟨_, rfl, by simpa [placesL] using hJs⟩⟩
        · gi_wp2
          refine bodyPost_ret (results_none rfl _ _ _) rfl ?_
          refine ⟨⟨_, rfl⟩, .inr ⟨_, ?_, hJx3⟩⟩
          exact List.prefix_append _ _

theorem places_stops (n Bs : Nat) (m : M) (A : Option Addr) (c : Nat) (S : Nat → Prop) (ls : List Int) (w : World) (hBs : Rw w Bs 27 (m.c (.slice A ls.length c)))
    (hI : Sl w (.slice A ls.length c) (iv ls)) (hb : S Bs) (hS : ∀ k, (Value.slice A ls.length c).ownBlock = some k → S k) :
    SeqStopsK Fence.wide n Try.prog 38 #[.pointer (some ⟨Bs, 0, none⟩)] (fun x : Int => #[.int .i64 x]) (Kps S) (fun ys => ys = placesL m ls) (fun pre => pre <+: placesL m ls) (placesL m ls).length w := fun l J Jx W hW _ _ hY h0 => by
  have h1 := hBs.below hW
  refine places_in n l Bs m A c ls S hb hI.llen.2 J Jx hY W h1.cell (fun j hj => ?_) h0
  obtain ⟨g, off, rfl, hc⟩ := (hI.below hW).q_ j hj
  exact ⟨g, off, rfl, hS g rfl, hc⟩

theorem places_any (m : M) (l : Value) (w : World) : Calls Try.prog 30 #[.agg (m.c l)] w fun e w' => e = .returned (.func (.func 38) #[] #[.pointer (some ⟨w.heap.size, 0, none⟩)]) ∧ w' = w.alloc (.cells (m.c l) 27) := by
  go_enter Try.func30, Try.ntmps30
  go_wp2
  go_ret
  exact ⟨rfl, rfl⟩
end Go.Proofs.Ytbklgodbjibemaa
