/- 'Own', and what is the same of it: for any message. -/
import Derived.Test.YtbklgodbjibemaaRSame
import Derived.Test.YtbklgodbjibemaaBare
set_option linter.unusedVariables false
set_option linter.unusedSimpArgs false
namespace Go.Proofs.Ytbklgodbjibemaa
open Go.RowKit Go.Shelf

theorem S2.below_ {w0 w w' : World} {c1 c2 : Array Value} (h : S2 w0 w c1 c2) (hb : Below w.heap.size w w') : S2 w0 w' c1 c2 := ⟨h.r1.below hb, h.r2.below hb, h.below.trans (hb.mono h.below.size)⟩

theorem gen_2 {P : Program} {ops : Array Oper} {rest : List Oper} {a : Act} {w0 w : World} {Q : Exit → Act → World → Prop} {c1 c2 : Array Value} {v : Value} {xs : List Value} (S : S2 w0 w c1 c2) (H : Sl w v xs) (h : ∀ W, S2 w0 W c1 c2 → Sl W v xs → wpList P ops Q rest a W) : wpList P ops Q rest a w := h w S H
theorem Sl.other {w w' : World} {A : Option Addr} {n c : Nat} {xs : List Value} (h : Sl w (.slice A n c) xs) (hs : w.heap.size ≤ w'.heap.size) (hk : ∀ a, A = some a → w'.heap[a.block]? = w.heap[a.block]?) : Sl w' (.slice A n c) xs := by
  rcases h with h | ⟨b, off, c', e, h1, h2, h3, h4⟩
  · exact .inl h
  · injection e with e1 e2 e3
    subst e1 e2 e3
    exact .inr ⟨b, off, c, rfl, h1, h2, Nat.lt_of_lt_of_le h3 hs, fun j u hu => (World.cell?_of_block (a := ⟨b, off + j, none⟩) (hk ⟨b, off, none⟩ rfl)).trans (h4 j u hu)⟩

set_option maxRecDepth 100000 in
set_option maxHeartbeats 2000000 in
theorem Own_any (m : M) (v : Value) (l : List Int) (w : World) (hs : Sl w v (iv l)) (hlen : l.length ≤ 1000000) :
    Calls Try.prog 24 #[.agg (m.c v)] w fun e w' => ∃ A n c, e = .returned (.agg (m.c (.slice A n c))) ∧ Sl w' (.slice A n c) (iv l) ∧ Below w.heap.size w w' := by
  obtain ⟨A, n, c, rfl⟩ := hs.slice
  have S := S2.new w (m.c (.slice A n c)) (noM.c nilS)
  have hs2 := hs.below S.below
  have hsz : ((w.alloc (.cells (m.c (.slice A n c)) 27)).alloc (.cells (noM.c nilS) 27)).heap.size = w.heap.size + 1 + 1 := by simp
  have HS := Lib.hid hs2
  have HN := Lib.hid (Made.nil_ ((w.alloc (.cells (m.c (.slice A n c)) 27)).alloc (.cells (noM.c nilS) 27)) 3)
  have HZ := Lib.hid hsz
  have HL := Lib.hid (show (([] : List Value).length + (iv l).length) * 8 ≤ 140737488355328 by rw [iv_length]; simp; omega)
  clear hs hs2 hlen hsz
  go_enter Try.func24, Try.ntmps24
  go_wp2_with (first
    | (at_builtin
       refine wpList_more el22 rfl _ _ rfl rfl HN.out rfl HS.out (iv_one _) HL.out ?_
       intro v1 w1 hm1
       rw [List.nil_append] at hm1
       obtain ⟨A1, q1, rfl⟩ := hm1.sl.form
       replace S := S.below_ hm1.below
       have HM := Lib.hid hm1.sl
       have HR := Lib.hid hm1.row
       clear hm1)
    | (with_reducible show wpList _ _ _ (Oper.mk _ (Op.store 22 _ _) _ _ _ _ :: _) _ _
       refine wpList_store1 S.r1 (by kernel_rfl) rfl _ _ rfl (j := 9) rfl (v := .slice A1 (iv l).length q1) rfl (by show 9 < 15; decide) rfl rfl ?_
       refine gen_2 (c1 := m.c (.slice A1 (iv l).length q1)) (S.set1 9 (.slice A1 (iv l).length q1)) (HM.out.other (by simp) (fun a ha => Below.heap_setCell _ _ _ _ (by have := HR.out a.block (by rw [ha]; rfl); rw [HZ.out] at this; show a.block ≠ w.heap.size; omega))) ?_
       clear S HM
       intro W2 S HM)
    | (with_reducible show wpList _ _ _ (Oper.mk _ (Op.load 27 _) _ _ _ _ :: _) _ _
       refine wpList_loadW (c := m.c (.slice A1 (iv l).length q1)) S.r1 agg27 rfl _ rfl rfl ?_)
    | (with_reducible show wpList _ _ _ (Oper.mk _ (Op.store 27 _ _) _ _ _ _ :: _) _ _
       refine wpList_storeR (c := m.c (.slice A1 (iv l).length q1)) rfl _ _ rfl rfl rfl agg27.hi S.r2 rfl (M.one _ rfl) ?_
       refine gen_2 (S.row2 (m.c (.slice A1 (iv l).length q1))) (HM.other (by simp [World.setRow]) (fun a ha => Go.setRow_other _ _ _ _ (by have := HR.out a.block (by rw [ha]; rfl); rw [HZ.out] at this; omega))) ?_
       clear S HM
       intro W3 S HM))
  exact bodyPost_ret (results_cell_row rfl _ _ _ _ _ _ _ rfl S.r2 Try.underlying27 rfl agg27.hi) rfl ⟨_, _, _, rfl, HM, S.below⟩
end Go.Proofs.Ytbklgodbjibemaa
