/- 'BagFor' answers true, whatever comes in. -/
import Derived.Test.YtdoigpifkdkjpaaBForLaw3
set_option linter.unusedVariables false
namespace Go.Proofs.Ytdoigpifkdkjpaa
open Go.RowKit Go.Shelf Ms

theorem BagFor_any (s : Value) (n : Int) (gs : List Gr) (i to : Int) (w : World) (hs : SwG w s gs) :
    Calls Try.prog 7 #[.agg (bagC s n), .int .i64 i, .int .i64 to] w fun e w' => e = .returned (.bool true) ∧ Below w.heap.size w w' := by
  cases hg : greatG gs with
  | true => exact for_wakes s n gs i to w hs (.inl hg)
  | false =>
    by_cases h4 : 400 < gs.length
    · exact for_wakes s n gs i to w hs (.inr ⟨hg, h4⟩)
    · obtain ⟨h420, h300⟩ := great_no hg
      cases hp : pick gs i with
      | none =>
        by_cases hi : i < 0
        · exact for_low s n gs i to w hs hg (by omega) hp hi
        · exact for_high s n gs i to w hs hg (by omega) hp (by omega)
      | some k =>
        obtain ⟨rfl, hk⟩ := pick_some hp
        have hTK : takeS gs (k : Int) = (butK gs k, gs.getD k noG, true) := by unfold takeS; rw [hp]
        have hP : (butK gs k).length + 1 = gs.length := by
          unfold butK
          rw [List.length_append, List.length_take, List.length_drop]
          omega
        by_cases hq : gs.length < 400 ∧ (gs.getD k noG).bytes.length ≤ 120
        · refine for_put s n gs k to w hs hg (by omega) (gs ++ [gs.getD k noG]) (butK gs k) (gs.getD k noG) ?_ hTK ?_ (by omega) ⟨?_, ?_⟩ hP (by omega) (by omega)
          · unfold twiceS
            rw [hp]
            dsimp only
            unfold sentS
            rw [if_pos hq]
          · rw [List.length_append, List.length_singleton]
            omega
          · rw [List.length_append, List.length_singleton]
          · intro h
            simp
        · refine for_lost s n gs k to w hs hg (by omega) (IntKind.i64.wrap (n + 1)) (butK gs k) (gs.getD k noG) ?_ hTK (by omega) rfl hP (by omega) (by omega)
          unfold twiceS
          rw [hp]
          dsimp only
          unfold sentS
          rw [if_neg hq]
/-- As the law's row wants it. -/
theorem BagFor_walk (w : World) (s : Value) (n : Int) (gs : List Gr) (hs : SwG w s gs) (h1 : ∀ g ∈ gs, (Lit.int .i64 g.to).wf = true) (h2 : IntKind.i64.has n) (i : Int) (h3 : (Lit.int .i64 i).wf = true) (to : Int) (h4 : (Lit.int .i64 to).wf = true) :
    Calls Try.prog 7 #[.agg (bagC s n), .int .i64 i, .int .i64 to] w fun e w' => e = .returned (.bool true) ∧ Below w.heap.size w w' := BagFor_any s n gs i to w hs
end Go.Proofs.Ytdoigpifkdkjpaa
