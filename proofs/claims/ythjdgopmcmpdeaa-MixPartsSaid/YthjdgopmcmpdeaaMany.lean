/- Places of many keys: 'Row' of mix, and the document's own: for any keys. -/
import Derived.Test.YthjdgopmcmpdeaaInts
set_option linter.unusedVariables false
set_option linter.unusedSimpArgs false
namespace Go.Proofs.Ythjdgopmcmpdeaa
open Go.RowKit Go.Shelf

theorem ownsRow_below {w w' : World} {base : Nat} {e : TypeId} {size n : Nat} {v : Value} {xs : List Value} (h : w.ownsRow base e size v n xs) (hb : Below w.heap.size w w') : w'.ownsRow base e size v n xs := by
  refine ⟨h.1, ?_⟩
  rcases h.2 with h2 | ⟨g, cap, cur, hv, hg, hh, r⟩
  · exact .inl h2
  · exact .inr ⟨g, cap, cur, hv, hg, (hb.block g (Array.getElem?_eq_some_iff.1 hh).1).trans hh, r⟩
theorem el27 : ElOf Try.prog 27 3 (.int .i64 0) 8 := ⟨Try.underlying27, by kernel_rfl, rfl, by decide⟩
def sv (l : List ByteArray) : List Value := l.map Value.string
theorem sv_length (l : List ByteArray) : (sv l).length = l.length := by simp [sv]
theorem sv_get (l : List ByteArray) (k : Nat) (h : k < l.length) : (sv l)[k]? = some (.string l[k]) := by simp [sv, h]
/-- May all of them be keys? Their places; the error. -/
def keyP (S : ByteArray) : Int := ofP S.data.toList
def keyE (S : ByteArray) : Int := ofE S.data.toList
def fine (l : List ByteArray) : Bool := l.all fun S => decide (keyE S = 0)
def places (l : List ByteArray) : List Int := l.map keyP
def rowI (l : List ByteArray) : List Int := if fine l = true then places l else []
def rowE (l : List ByteArray) : Int := if fine l = true then 0 else 2
theorem fine_snoc (l : List ByteArray) (x : ByteArray) : fine (l ++ [x]) = (fine l && decide (keyE x = 0)) := by simp [fine]
theorem places_snoc (l : List ByteArray) (x : ByteArray) : places (l ++ [x]) = places l ++ [keyP x] := by simp [places]
theorem places_length (l : List ByteArray) : (places l).length = l.length := by simp [places]
theorem iv_snoc (l : List Int) (x : Int) : iv l ++ [.int .i64 x] = iv (l ++ [x]) := by simp [iv]
theorem fine_not (l : List ByteArray) (k : Nat) (h : k < l.length) (he : keyE l[k] = 2) : fine l = false := by
  rw [Bool.eq_false_iff]
  intro hf
  unfold fine at hf
  rw [List.all_eq_true] at hf
  have := hf l[k] (List.getElem_mem h)
  rw [he] at this
  simp at this

set_option maxRecDepth 100000 in
set_option maxHeartbeats 4000000 in
theorem Row_any (A : Option Addr) (n c : Nat) (l : List ByteArray) (w : World) (hI : Sl w (.slice A n c) (sv l)) (hm : l.length ≤ 1000000) :
    Calls Try.prog 11 #[.slice A n c] w fun e w' => ∃ v, e = .returned (.tuple #[v, .int .i64 (rowE l)]) ∧ Sl w' v (iv (rowI l)) ∧ Below w.heap.size w w' := by
  have hl := hI.len
  rw [sv_length] at hl
  subst hl
  obtain ⟨re, hre⟩ : ∃ re, rowE l = re := ⟨_, rfl⟩
  obtain ⟨ri, hri⟩ : ∃ ri, rowI l = ri := ⟨_, rfl⟩
  rw [hre, hri]
  have HRE := Lib.hid hre
  have HRI := Lib.hid hri
  have hc : ∀ k (h : k < l.length), ∃ b off, A = some ⟨b, off, none⟩ ∧ b < w.heap.size ∧ w.cell? ⟨b, off + k, none⟩ = some (.string l[k]) := fun k h => by
    obtain ⟨b, off, rfl⟩ := hI.some_ (by omega)
    exact ⟨b, off, rfl, hI.parts.2.2.2.1, hI.parts.2.2.2.2 k _ (sv_get l k h)⟩
  have HC := Lib.hid hc
  clear hre hri hI hc
  go_enter Try.func11, Try.ntmps11
  go_wp2_with fail
  refine wp_scope_fwd ?_
  go_wp2_with fail
  go_loopw [2, 10] (fun v i W => ∃ k : Nat, k ≤ l.length ∧ i = .int .i64 k ∧ fine (l.take k) = true ∧ W.ownsRow w.heap.size 3 1 v k (iv (places (l.take k))) ∧ Below w.heap.size w W) (fun _ i _ => l.length - (intOf i).toNat)
  case atStart => exact ⟨0, Nat.zero_le _, rfl, rfl, World.ownsRow_nil _ _ _ _, Below.refl _ _⟩
  case round =>
    obtain ⟨k, hk, rfl, hf, hrow, hB⟩ := hrel
    by_cases hlt : k < l.length
    · obtain ⟨b, off, hA, hb, hcell⟩ := HC.out k hlt
      subst hA
      have hcw := (hB.cell (p := ⟨b, off + k, none⟩) hb).trans hcell
      have hfs := fine_snoc (l.take k) l[k]
      have hps := places_snoc (l.take k) l[k]
      rw [← List.take_succ_eq_append_getElem hlt] at hfs hps
      rw [hf, Bool.true_and] at hfs
      have hno := fine_not l k hlt
      have ho := fun w => Of_any l[k] w
      change ∀ w, Calls Try.prog 9 #[.string l[k]] w fun e w' => e = .returned (.tuple #[.int .i64 (keyP l[k]), .int .i64 (keyE l[k])]) ∧ Below w.heap.size w w' at ho
      have htwo : keyE l[k] = 0 ∨ keyE l[k] = 2 := ofE_two _
      have HFS := Lib.hid hfs
      have HPS := Lib.hid hps
      have HLT := Lib.hid hlt
      clear hfs hps hf hcell
      generalize l[k] = S at *
      generalize keyP S = p at *
      generalize keyE S = q at *
      clear hlt
      rcases htwo with rfl | rfl
      · clear hno
        go_wp2_with fail
        refine (ho _).mono ?_; rintro e w1 ⟨rfl, hb1⟩
        have HB1 := Lib.hid hb1
        have HROW := Lib.hid hrow
        have HB := Lib.hid hB
        clear hb1 hrow hB
        go_wp2_with (at_builtin; refine wpList_app1 el27 rfl _ _ rfl w.heap.size u2 k (iv (places (l.take k))) rfl ((ownsRow_below HROW.out HB1.out).alloc _) _ (.int .i64 p) rfl (Sl.one _ _ _) rfl (by have := HLT.out; omega) (by have := HB.out.size; have := HB1.out.size; simp; omega) (w1.heap.size + 1) (by simp) ?_; intro g2 cap2 w2 hown2 hg2 hat2)
        go_roundw
        case rel =>
          have hs1 := HB.out.size
          have hs2 := HB1.out.size
          refine ⟨k + 1, HLT.out, by go_num, by rw [HFS.out]; rfl, ?_, ?_⟩
          · rw [HPS.out, ← iv_snoc]; exact hown2
          · exact HB.out.trans (((HB1.out.mono HB.out.size).alloc (by omega) _).grown hg2 (by simp; omega) (fun g e => (HROW.out.lt g e).1))
        case measure => have := HLT.out; simp [intOf]; omega
      · have hno2 := hno rfl
        have h1 := HRE.out
        have h2 := HRI.out
        unfold rowE at h1
        unfold rowI at h2
        rw [hno2, if_neg (by decide)] at h1 h2
        subst h1 h2
        clear hno hno2
        go_wp2_with fail
        refine (ho _).mono ?_; rintro e w1 ⟨rfl, hb1⟩
        have HB1 := Lib.hid (hB.trans (hb1.mono hB.size))
        clear hb1 hrow hB
        go_wp2_with fail
        go_step3
        refine fwd_goto _ rfl ?_
        go_wp2
        refine nog_ret ?_
        go_ret2
        exact ⟨_, rfl, Sl.nil_ _, HB1.out⟩
    · have hk2 : k = l.length := by omega
      subst hk2
      rw [List.take_length] at hf hrow
      have h1 := HRE.out
      have h2 := HRI.out
      unfold rowE at h1
      unfold rowI at h2
      rw [hf, if_pos rfl] at h1 h2
      subst h1 h2
      have HROW := Lib.hid hrow
      have HB := Lib.hid hB
      clear hrow hB hf hlt
      go_wp2_with fail
      refine fwd_ret ?_
      go_ret2
      exact ⟨_, rfl, Sl.of_own HROW.out, HB.out⟩
set_option maxRecDepth 100000 in
set_option maxHeartbeats 4000000 in
theorem Row_ref (A : Option Addr) (n c : Nat) (l : List ByteArray) (w : World) (hI : Sl w (.slice A n c) (sv l)) (hm : l.length ≤ 1000000) :
    Calls Try.prog 12 #[.slice A n c] w fun e w' => ∃ v, e = .returned (.tuple #[v, .int .i64 (rowE l)]) ∧ Sl w' v (iv (rowI l)) ∧ Below w.heap.size w w' := by
  have hl := hI.len
  rw [sv_length] at hl
  subst hl
  obtain ⟨re, hre⟩ : ∃ re, rowE l = re := ⟨_, rfl⟩
  obtain ⟨ri, hri⟩ : ∃ ri, rowI l = ri := ⟨_, rfl⟩
  rw [hre, hri]
  have HRE := Lib.hid hre
  have HRI := Lib.hid hri
  have hc : ∀ k (h : k < l.length), ∃ b off, A = some ⟨b, off, none⟩ ∧ b < w.heap.size ∧ w.cell? ⟨b, off + k, none⟩ = some (.string l[k]) := fun k h => by
    obtain ⟨b, off, rfl⟩ := hI.some_ (by omega)
    exact ⟨b, off, rfl, hI.parts.2.2.2.1, hI.parts.2.2.2.2 k _ (sv_get l k h)⟩
  have HC := Lib.hid hc
  clear hre hri hI hc
  go_enter Try.func12, Try.ntmps12
  go_wp2_with fail
  go_loopw [4, 5] (fun v i W => ∃ k : Nat, k ≤ l.length ∧ i = .int .i64 k ∧ fine (l.take k) = true ∧ W.ownsRow w.heap.size 3 1 v k (iv (places (l.take k))) ∧ Below w.heap.size w W) (fun _ i _ => l.length - (intOf i).toNat)
  case atStart => exact ⟨0, Nat.zero_le _, rfl, rfl, World.ownsRow_nil _ _ _ _, Below.refl _ _⟩
  case round =>
    obtain ⟨k, hk, rfl, hf, hrow, hB⟩ := hrel
    by_cases hlt : k < l.length
    · obtain ⟨b, off, hA, hb, hcell⟩ := HC.out k hlt
      subst hA
      have hcw := (hB.cell (p := ⟨b, off + k, none⟩) hb).trans hcell
      have hfs := fine_snoc (l.take k) l[k]
      have hps := places_snoc (l.take k) l[k]
      rw [← List.take_succ_eq_append_getElem hlt] at hfs hps
      rw [hf, Bool.true_and] at hfs
      have hno := fine_not l k hlt
      have ho := fun w => Of_ref l[k] w
      change ∀ w, Calls Try.prog 10 #[.string l[k]] w fun e w' => e = .returned (.tuple #[.int .i64 (keyP l[k]), .int .i64 (keyE l[k])]) ∧ w = w' at ho
      have htwo : keyE l[k] = 0 ∨ keyE l[k] = 2 := ofE_two _
      have HFS := Lib.hid hfs
      have HPS := Lib.hid hps
      have HLT := Lib.hid hlt
      clear hfs hps hf hcell
      generalize l[k] = S at *
      generalize keyP S = p at *
      generalize keyE S = q at *
      clear hlt
      rcases htwo with rfl | rfl
      · clear hno
        go_wp2_with fail
        refine (ho _).mono ?_; rintro e w1 ⟨rfl, rfl⟩
        have HB1 := Lib.hid (Below.refl wr.heap.size wr)
        have HROW := Lib.hid hrow
        have HB := Lib.hid hB
        clear hrow hB
        go_wp2_with (at_builtin; refine wpList_app1 el27 rfl _ _ rfl w.heap.size u4 k (iv (places (l.take k))) rfl ((ownsRow_below HROW.out HB1.out).alloc _) _ (.int .i64 p) rfl (Sl.one _ _ _) rfl (by have := HLT.out; omega) (by have := HB.out.size; have := HB1.out.size; simp; omega) (wr.heap.size + 1) (by simp) ?_; intro g2 cap2 w2 hown2 hg2 hat2)
        go_roundw
        case rel =>
          have hs1 := HB.out.size
          have hs2 := HB1.out.size
          refine ⟨k + 1, HLT.out, by go_num, by rw [HFS.out]; rfl, ?_, ?_⟩
          · rw [HPS.out, ← iv_snoc]; exact hown2
          · exact HB.out.trans (((HB1.out.mono HB.out.size).alloc (by omega) _).grown hg2 (by simp; omega) (fun g e => (HROW.out.lt g e).1))
        case measure => have := HLT.out; simp [intOf]; omega
      · have hno2 := hno rfl
        have h1 := HRE.out
        have h2 := HRI.out
        unfold rowE at h1
        unfold rowI at h2
        rw [hno2, if_neg (by decide)] at h1 h2
        subst h1 h2
        clear hno hno2
        go_wp2_with fail
        refine (ho _).mono ?_; rintro e w1 ⟨rfl, rfl⟩
        have HB1 := Lib.hid hB
        clear hrow hB
        go_wp2_with fail
        go_ret2
        exact ⟨_, rfl, Sl.nil_ _, HB1.out⟩
    · have hk2 : k = l.length := by omega
      subst hk2
      rw [List.take_length] at hf hrow
      have h1 := HRE.out
      have h2 := HRI.out
      unfold rowE at h1
      unfold rowI at h2
      rw [hf, if_pos rfl] at h1 h2
      subst h1 h2
      have HROW := Lib.hid hrow
      have HB := Lib.hid hB
      clear hrow hB hf hlt
      go_wp2_with fail
      go_ret2
      exact ⟨_, rfl, Sl.of_own HROW.out, HB.out⟩
end Go.Proofs.Ythjdgopmcmpdeaa
