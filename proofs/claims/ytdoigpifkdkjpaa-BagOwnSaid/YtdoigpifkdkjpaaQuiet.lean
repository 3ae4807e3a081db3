/- Regions that draw, whose operations yield the same in every world behind one: walked once; also in a loop's body behind a range over a function. No program is named here. -/
import Derived.Test.YtdoigpifkdkjpaaRwG
import Derived.Test.YtdoigpifkdkjpaaFen
import Derived.Deep.RegionWith
set_option linter.unusedVariables false
set_option maxRecDepth 100000
set_option linter.unusedSimpArgs false
namespace Go.Proofs.Ytdoigpifkdkjpaa
open Go.RowKit Go.Shelf Ms

theorem wpRegion_behind {P : Program} {id : Nat} {Q : Exit → Act → World → Prop} {a : Act} {W : World} (x : Wd W) {l : List Oper} (hm : P.follows .mixedOrders = true) (hB : Region.lexB .any l.toArray = true)
    (h : wpQuiet P l.toArray (fun w => ∃ y : Wd W, w = y.w) (fun a' => ∀ y : Wd W, Q .normal a' y.w) l a) : (Code.region id l.toArray true).wp P Q a x.w := by
  obtain ⟨y, hy⟩ := x.drew
  refine wp_region_quiet (C := fun w => ∃ y : Wd W, w = y.w) hm hB ⟨y, hy⟩ ?_
  have : (fun a' => ∀ w', (∃ y : Wd W, w' = y.w) → Q .normal a' w') = fun a' => ∀ y : Wd W, Q .normal a' y.w := by
    funext a'
    exact propext ⟨fun h y => h _ ⟨y, rfl⟩, fun h w' ⟨y, e⟩ => by rw [e]; exact h y⟩
  simp only [List.toList_toArray] at *
  rw [this]
  exact h
theorem regionIn_behind {P : Program} {id lp n : Nat} {Q : Exit → Act → World → Prop} {a : Act} {W : World} (x : Wd W) {l : List Oper} (hm : P.follows .mixedOrders = true) (hB : Region.lexB .any l.toArray = true) (hq : ¬ LetsOut Q) (hd : l.toArray.all (fun o => !isDefer o) = true)
    (h : wpQuiet P l.toArray (fun w => ∃ y : Wd W, w = y.w) (fun a' => ∀ y : Wd W, Q .normal a' y.w) l a) : (Code.region id l.toArray true).wpIn (Fence.wide.inRound lp) n P Q a x.w := by
  obtain ⟨y, hy⟩ := x.drew
  refine wpIn_region_any hm (anyIn_of hq hd ?_)
  simp only [Region.lexB, Bool.and_eq_true] at hB
  have : (fun a' => ∀ w', (∃ y : Wd W, w' = y.w) → Q .normal a' w') = fun a' => ∀ y : Wd W, Q .normal a' y.w := by
    funext a'
    exact propext ⟨fun h y => h _ ⟨y, rfl⟩, fun h w' ⟨y, e⟩ => by rw [e]; exact h y⟩
  rw [← this] at h
  refine wpAny_of_quiet (C := fun w => ∃ y : Wd W, w = y.w) (Q := fun a' => ∀ w', (∃ y : Wd W, w' = y.w) → Q .normal a' w') (fun _ w' hw' h => h w' hw') _ _ _ _ ⟨y, hy⟩ ?_
  have := wpAnyQ_lex (C := fun w => ∃ y : Wd W, w = y.w) (md := .any) hB.1 l 0 (Array.replicate l.toArray.size false) a (by simp) (by simpa using hB.2) h
  simpa using this
section
variable {P : Program} {o : Oper} {a : Act} {W : World} {K : Act → Prop} {ty : TypeId} {v : Value}
theorem quietRun (h : ∀ y : Wd W, (execOp a.eval o).run P y.w = .ok (.value v) y.w) (hk : K (a.put o.dst v)) : o.quiet P a (fun w => ∃ y : Wd W, w = y.w) K :=
  ⟨v, fun w ⟨y, hy⟩ => by subst hy; unfold Oper.quietAt; rw [h y]; exact ⟨rfl, rfl⟩, hk⟩
theorem quietLoad (x : Operand) (ho : o.op = .load ty x) {p : Addr} (hx : a.eval x = .pointer (some p)) (hr : ∀ y : Wd W, (Instr.loadAt ty (.pointer (some p))).run P y.w = .ok v y.w) (hk : K (a.put o.dst v)) : o.quiet P a (fun w => ∃ y : Wd W, w = y.w) K :=
  quietRun (fun y => by unfold execOp; simp only [ho, hx, Sem.run_bind, Sem.run_pure, Result.andThen_ok, hr]) hk
end
end Go.Proofs.Ytdoigpifkdkjpaa
