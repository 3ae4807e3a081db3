/- The parts of a message, one after another. -/
import Derived.Test.YtaacjpcckinaiaaGreatWKinds
import Derived.Carry
set_option linter.unusedVariables false
set_option maxRecDepth 100000
set_option linter.unusedSimpArgs false
namespace Go.Proofs.YtaacjpcckinaiaaGreat
open Go.RowKit Go.Shelf Ms

section
variable {P : Program} {w : World}
theorem run_getMap {r clock : Nat} {es : Array MapEntry} (hb : w.heap[r]? = some (.map es clock)) : (getObj r).run P w = .ok (.map es clock) w := by
  simp [getObj, Sem.run, hb]
theorem run_setMap {r clock : Nat} {es : Array MapEntry} (o : Obj) (hb : w.heap[r]? = some (.map es clock)) : (setObj r o).run P w = .ok () (w.putObj r o) := by
  simp [setObj, Sem.run, hb, World.putObj]
theorem below_putObj {n r : Nat} (w : World) (o : Obj) (hr : n ≤ r) : Below n w (w.putObj r o) := ⟨rfl, rfl, rfl, by simp, fun k hk => World.putObj_heap_other (by omega)⟩
theorem checkKey_int {e : Bool} {n : Nat} {kt : TypeId} {q j : IntKind} {k : Int} (hk : P.underlying kt = some (.int q)) : (Instr.checkKey e (n + 1) kt (.int j k)).run P w = .ok () w := by
  simp [Instr.checkKey, run_underlying hk, go_sem]
theorem run_ins {mt kt et : TypeId} {q : IntKind} (hm : P.underlying mt = some (.map kt et)) (hk : P.underlying kt = some (.int q)) {r clock : Nat} {es : Array MapEntry} {k : Int} {v : Value} (hb : w.heap[r]? = some (.map es clock)) (hn : Instr.findNow (.int q) (.int q k) es.toList 0 = some none) :
    (Instr.mapUpdate mt (.map (some r)) (.int q k) v).run P w = .ok () (w.putObj r (.map (es.push { key := .int q k, val := v, born := clock }) (clock + 1))) := by
  simp [Instr.mapUpdate, run_underlying hm, run_underlying hk, checkKey_int hk, Instr.findKey, hn, run_getMap hb, run_setMap _ hb, go_sem]
theorem run_look {mt kt et : TypeId} {q : IntKind} (hm : P.underlying mt = some (.map kt et)) (hk : P.underlying kt = some (.int q)) {r clock : Nat} {es : Array MapEntry} {k : Int} {v : Value} {i : Nat} (hb : w.heap[r]? = some (.map es clock)) (hn : Instr.findNow (.int q) (.int q k) es.toList 0 = some (some (i, v))) :
    (Instr.lookup mt (.map (some r)) (.int q k) true).run P w = .ok (.tuple #[v, .bool true]) w := by
  simp [Instr.lookup, run_underlying hm, run_underlying hk, checkKey_int hk, Instr.findKey, hn, run_getMap hb, go_sem]
theorem run_look0 {mt kt et : TypeId} {q : IntKind} (hm : P.underlying mt = some (.map kt et)) (hk : P.underlying kt = some (.int q)) {r clock : Nat} {es : Array MapEntry} {k : Int} {z : Value} (hz : (zeroValue et).run P w = .ok z w) (hb : w.heap[r]? = some (.map es clock)) (hn : Instr.findNow (.int q) (.int q k) es.toList 0 = some none) :
    (Instr.lookup mt (.map (some r)) (.int q k) true).run P w = .ok (.tuple #[z, .bool false]) w := by
  simp [Instr.lookup, run_underlying hm, run_underlying hk, checkKey_int hk, Instr.findKey, hn, run_getMap hb, hz, go_sem]
end
def kE (k : Int) (f : FuncId) (i : Nat) : MapEntry := { key := .int .u8 k, val := .func (.func f) #[] #[], born := i }
def kindsE : Array MapEntry := #[kE 4 89 0, kE 5 91 1, kE 6 93 2, kE 7 95 3, kE 10 97 4, kE 11 98 5, kE 12 100 6]
theorem map_u : Tryz.prog.underlying 97 = some (.map 5 95) := by kernel_rfl
theorem put_step {w W : World} {es : Array MapEntry} {c k : Int} {cl : Nat} (f : FuncId) (hb : W.heap[w.heap.size]? = some (.map es cl)) (hB : Below w.heap.size w W) (hn : Instr.findNow (.int .u8) (.int .u8 k) es.toList 0 = some none) : ∃ W', (Instr.mapUpdate 97 (.map (some w.heap.size)) (.int .u8 k) (.func (.func f) #[] #[])).run Tryz.prog W = .ok () W' ∧ W'.heap[w.heap.size]? = some (.map (es.push (kE k f cl)) (cl + 1)) ∧ Below w.heap.size w W' :=
  ⟨_, run_ins map_u (by kernel_rfl) hb hn, World.putObj_heap_same (Array.getElem?_eq_some_iff.1 hb).1, hB.trans (below_putObj W _ (Nat.le_refl _))⟩
set_option maxHeartbeats 2000000 in
theorem ofKinds_any (w : World) : Calls Tryz.prog 74 #[] w fun e w' => ∃ g, e = .returned (.map (some g)) ∧ w'.heap[g]? = some (.map kindsE 7) ∧ Below w.heap.size w w' := by
  have hmk := fun w => run_makeMap (P := Tryz.prog) 97 w
  have hb0 : (w.alloc (.map #[] 0)).heap[w.heap.size]? = some (.map #[] 0) := World.alloc_heap_new w _
  obtain ⟨W1, r1, hb1, hB1⟩ := put_step (c := 0) (k := 4) 89 hb0 ((Below.refl _ w).alloc (Nat.le_refl _) _) (by rfl)
  obtain ⟨W2, r2, hb2, hB2⟩ := put_step (c := 0) (k := 5) 91 hb1 hB1 (by rfl)
  obtain ⟨W3, r3, hb3, hB3⟩ := put_step (c := 0) (k := 6) 93 hb2 hB2 (by rfl)
  obtain ⟨W4, r4, hb4, hB4⟩ := put_step (c := 0) (k := 7) 95 hb3 hB3 (by rfl)
  obtain ⟨W5, r5, hb5, hB5⟩ := put_step (c := 0) (k := 10) 97 hb4 hB4 (by rfl)
  obtain ⟨W6, r6, hb6, hB6⟩ := put_step (c := 0) (k := 11) 98 hb5 hB5 (by rfl)
  obtain ⟨W7, r7, hb7, hB7⟩ := put_step (c := 0) (k := 12) 100 hb6 hB6 (by rfl)
  clear hb0 hb1 hb2 hb3 hb4 hb5 hb6 hB1 hB2 hB3 hB4 hB5 hB6
  have HB := Lib.hid hb7
  clear hb7
  go_enter Tryz.func74, Tryz.ntmps74
  go_wp2_with fail
  exact bodyPost_ret (by simp [results, go_sem]) rfl ⟨w.heap.size, rfl, HB.out, hB7⟩

theorem lit_list {n : Nat} {l : List Value} (h : l.length = n + 1) : ∃ x t, l = x :: t ∧ t.length = n := by
  cases l with
  | nil => cases h
  | cons x t => exact ⟨x, t, rfl, by simpa using h⟩
theorem lit60 (a : Array Value) (h : a.size = 60) : ∃ x0 x1 x2 x3 x4 x5 x6 x7 x8 x9 x10 x11 x12 x13 x14 x15 x16 x17 x18 x19 x20 x21 x22 x23 x24 x25 x26 x27 x28 x29 x30 x31 x32 x33 x34 x35 x36 x37 x38 x39 x40 x41 x42 x43 x44 x45 x46 x47 x48 x49 x50 x51 x52 x53 x54 x55 x56 x57 x58 x59, a = #[x0, x1, x2, x3, x4, x5, x6, x7, x8, x9, x10, x11, x12, x13, x14, x15, x16, x17, x18, x19, x20, x21, x22, x23, x24, x25, x26, x27, x28, x29, x30, x31, x32, x33, x34, x35, x36, x37, x38, x39, x40, x41, x42, x43, x44, x45, x46, x47, x48, x49, x50, x51, x52, x53, x54, x55, x56, x57, x58, x59] := by
  obtain ⟨l⟩ := a
  have h0 : l.length = 60 := h
  clear h
  obtain ⟨x0, l0, rfl, h1⟩ := lit_list h0
  clear h0
  obtain ⟨x1, l1, rfl, h2⟩ := lit_list h1
  clear h1
  obtain ⟨x2, l2, rfl, h3⟩ := lit_list h2
  clear h2
  obtain ⟨x3, l3, rfl, h4⟩ := lit_list h3
  clear h3
  obtain ⟨x4, l4, rfl, h5⟩ := lit_list h4
  clear h4
  obtain ⟨x5, l5, rfl, h6⟩ := lit_list h5
  clear h5
  obtain ⟨x6, l6, rfl, h7⟩ := lit_list h6
  clear h6
  obtain ⟨x7, l7, rfl, h8⟩ := lit_list h7
  clear h7
  obtain ⟨x8, l8, rfl, h9⟩ := lit_list h8
  clear h8
  obtain ⟨x9, l9, rfl, h10⟩ := lit_list h9
  clear h9
  obtain ⟨x10, l10, rfl, h11⟩ := lit_list h10
  clear h10
  obtain ⟨x11, l11, rfl, h12⟩ := lit_list h11
  clear h11
  obtain ⟨x12, l12, rfl, h13⟩ := lit_list h12
  clear h12
  obtain ⟨x13, l13, rfl, h14⟩ := lit_list h13
  clear h13
  obtain ⟨x14, l14, rfl, h15⟩ := lit_list h14
  clear h14
  obtain ⟨x15, l15, rfl, h16⟩ := lit_list h15
  clear h15
  obtain ⟨x16, l16, rfl, h17⟩ := lit_list h16
  clear h16
  obtain ⟨x17, l17, rfl, h18⟩ := lit_list h17
  clear h17
  obtain ⟨x18, l18, rfl, h19⟩ := lit_list h18
  clear h18
  obtain ⟨x19, l19, rfl, h20⟩ := lit_list h19
  clear h19
  obtain ⟨x20, l20, rfl, h21⟩ := lit_list h20
  clear h20
  obtain ⟨x21, l21, rfl, h22⟩ := lit_list h21
  clear h21
  obtain ⟨x22, l22, rfl, h23⟩ := lit_list h22
  clear h22
  obtain ⟨x23, l23, rfl, h24⟩ := lit_list h23
  clear h23
  obtain ⟨x24, l24, rfl, h25⟩ := lit_list h24
  clear h24
  obtain ⟨x25, l25, rfl, h26⟩ := lit_list h25
  clear h25
  obtain ⟨x26, l26, rfl, h27⟩ := lit_list h26
  clear h26
  obtain ⟨x27, l27, rfl, h28⟩ := lit_list h27
  clear h27
  obtain ⟨x28, l28, rfl, h29⟩ := lit_list h28
  clear h28
  obtain ⟨x29, l29, rfl, h30⟩ := lit_list h29
  clear h29
  obtain ⟨x30, l30, rfl, h31⟩ := lit_list h30
  clear h30
  obtain ⟨x31, l31, rfl, h32⟩ := lit_list h31
  clear h31
  obtain ⟨x32, l32, rfl, h33⟩ := lit_list h32
  clear h32
  obtain ⟨x33, l33, rfl, h34⟩ := lit_list h33
  clear h33
  obtain ⟨x34, l34, rfl, h35⟩ := lit_list h34
  clear h34
  obtain ⟨x35, l35, rfl, h36⟩ := lit_list h35
  clear h35
  obtain ⟨x36, l36, rfl, h37⟩ := lit_list h36
  clear h36
  obtain ⟨x37, l37, rfl, h38⟩ := lit_list h37
  clear h37
  obtain ⟨x38, l38, rfl, h39⟩ := lit_list h38
  clear h38
  obtain ⟨x39, l39, rfl, h40⟩ := lit_list h39
  clear h39
  obtain ⟨x40, l40, rfl, h41⟩ := lit_list h40
  clear h40
  obtain ⟨x41, l41, rfl, h42⟩ := lit_list h41
  clear h41
  obtain ⟨x42, l42, rfl, h43⟩ := lit_list h42
  clear h42
  obtain ⟨x43, l43, rfl, h44⟩ := lit_list h43
  clear h43
  obtain ⟨x44, l44, rfl, h45⟩ := lit_list h44
  clear h44
  obtain ⟨x45, l45, rfl, h46⟩ := lit_list h45
  clear h45
  obtain ⟨x46, l46, rfl, h47⟩ := lit_list h46
  clear h46
  obtain ⟨x47, l47, rfl, h48⟩ := lit_list h47
  clear h47
  obtain ⟨x48, l48, rfl, h49⟩ := lit_list h48
  clear h48
  obtain ⟨x49, l49, rfl, h50⟩ := lit_list h49
  clear h49
  obtain ⟨x50, l50, rfl, h51⟩ := lit_list h50
  clear h50
  obtain ⟨x51, l51, rfl, h52⟩ := lit_list h51
  clear h51
  obtain ⟨x52, l52, rfl, h53⟩ := lit_list h52
  clear h52
  obtain ⟨x53, l53, rfl, h54⟩ := lit_list h53
  clear h53
  obtain ⟨x54, l54, rfl, h55⟩ := lit_list h54
  clear h54
  obtain ⟨x55, l55, rfl, h56⟩ := lit_list h55
  clear h55
  obtain ⟨x56, l56, rfl, h57⟩ := lit_list h56
  clear h56
  obtain ⟨x57, l57, rfl, h58⟩ := lit_list h57
  clear h57
  obtain ⟨x58, l58, rfl, h59⟩ := lit_list h58
  clear h58
  obtain ⟨x59, l59, rfl, h60⟩ := lit_list h59
  clear h59
  obtain rfl := List.eq_nil_of_length_eq_zero h60
  exact ⟨x0, x1, x2, x3, x4, x5, x6, x7, x8, x9, x10, x11, x12, x13, x14, x15, x16, x17, x18, x19, x20, x21, x22, x23, x24, x25, x26, x27, x28, x29, x30, x31, x32, x33, x34, x35, x36, x37, x38, x39, x40, x41, x42, x43, x44, x45, x46, x47, x48, x49, x50, x51, x52, x53, x54, x55, x56, x57, x58, x59, rfl⟩
section
variable {F : Fence} {n : Nat} {P : Program} {ops : Array Oper} {rest : List Oper} {o : Oper} {a : Act} {w : World} {Q : Exit → Act → World → Prop} {ty t : TypeId} {b : Nat} {c : Array Value}
theorem wpListIn_loadR (hg : o.guard = none) (x : Operand) (ho : o.op = .load ty x) {p : Addr} (hx : a.eval x = .pointer (some p)) {v : Value} (hr : (Instr.loadAt ty (.pointer (some p))).run P w = .ok v w)
    (h : wpListIn F n P ops Q rest (a.put o.dst v) w) : wpListIn F n P ops Q (o :: rest) a w := by
  refine wpListIn_plain hg fun K hK => ?_
  unfold Oper.wpIn
  refine ⟨by simp [Oper.about, ho], ?_⟩
  rw [Oper.semAt_plain F _ _ (by rw [ho]; intro c hc'; cases hc')]
  unfold execOp
  simp only [ho, hx, Sem.run_bind, Sem.run_pure, Result.andThen_ok, hr]
  exact hK _ _ h
theorem wpListIn_storeR (hg : o.guard = none) (x y : Operand) (ho : o.op = .store ty x y) (hx : a.eval x = .pointer (some ⟨b, 0, none⟩)) (hy : a.eval y = .agg c) (hi : (P.info? ty).map (·.size) = some c.size) {c0 : Array Value} (h0 : Rw w b t c0) (hs : c0.size = c.size) (h1 : c.all (·.oneCell') = true)
    (h : wpListIn F n P ops Q rest (a.put o.dst undef) (w.setRow b c)) : wpListIn F n P ops Q (o :: rest) a w := by
  refine wpListIn_plain hg fun K hK => ?_
  unfold Oper.wpIn
  refine ⟨by simp [Oper.about, ho], ?_⟩
  rw [Oper.semAt_plain F _ _ (by rw [ho]; intro c hc'; cases hc')]
  unfold execOp
  simp only [ho, hx, hy, Sem.run_bind, Sem.run_pure, Result.andThen_ok, run_storeR hi h0 hs h1]
  exact hK _ _ h
end

/-- What may come next, behind what is done: G tells of the message at a time. -/
def NextOf (G : List D → M → Prop) (s : List D) (d : D) : Prop := (s ++ [d]) <+: heads ∨ ∃ m0, G heads m0 ∧ heads <+: s ∧ (s ++ [d]) <+: heads ++ tail m0.kind
def NxP (b : Nat) (G : List D → M → Prop) (s : List D) (x : D × Value) (s' : List D) (W : World) : Prop := s' = s ++ [x.1] ∧ NextOf G s x.1 ∧ ∃ m0 s0, G s0 m0 ∧ PartIs W b m0 x.2 x.1
def KnP (b : Nat) (G : List D → M → Prop) (s : List D) (W : World) : Prop := ∃ m lv, Rw W b 27 (m.c lv) ∧ G s m
def SfP (G : List D → M → Prop) (s : List D) : Prop := ∃ m0, G heads m0 ∧ s = heads ++ tail m0.kind
def Tk (d : D) (t : TypeId) : Bool := t == 27 || t == 28 || t == 5 || Td d t
def KpP (x : D × Value) (A B : World) : Prop := Kt (Tk x.1) A B
def encP (x : D × Value) : Array Value := #[x.2]
theorem tk_box (d : D) : Tk d 67 = false := by cases d <;> rfl
theorem tp_tk {d : D} (h : Td d = T27) : Tp (Tk d) := by
  have e : Tk d = fun t => t == 27 || t == 28 || t == 5 || T27 t := by unfold Tk; rw [h]
  rw [e]
  unfold Tp T27
  decide
/-- The tail of a row of parts that are still to come. -/
def Left (W : World) (b : Nat) (m : M) (g : Nat) (ds : List D) (k : Nat) : Prop := k < ds.length → PartsAt W b m g ds
theorem Left.kt {W W' : World} {b : Nat} {m : M} {g : Nat} {ds : List D} {k : Nat} {d : D} (h : PartsAt W b m g ds) (hd : ds[k]? = some d) (hlast : ∀ (j : Nat) (e : D), ds[j]? = some e → j + 1 < ds.length → Td e = T27) (K : Kt (Tk d) W W') : Left W' b m g ds (k + 1) :=
  fun hk => h.kt K (tp_tk (hlast k d hd hk))
theorem heads_calm : ∀ (j : Nat) (e : D), heads[j]? = some e → Td e = T27 := by
  intro j e h
  match j, h with
  | 0, h => cases h; rfl
  | 1, h => cases h; rfl
  | 2, h => cases h; rfl
  | 3, h => cases h; rfl
theorem tail_le (k : Int) : (tail k).length ≤ 2 := by
  unfold tail
  repeat' split
  all_goals simp
theorem tail_calm (k : Int) : ∀ (j : Nat) (e : D), (tail k)[j]? = some e → j + 1 < (tail k).length → Td e = T27 := by
  intro j e h hl
  unfold tail at h hl
  repeat' split at h
  all_goals simp_all
  all_goals (obtain rfl : j = 0 := by omega)
  all_goals simp at h
  all_goals (subst h; rfl)

def HaveF (f : FuncId) (k : Int) : Prop := (∀ args w, (callFunc f args).run Tryz.prog w = .ok (.enter f args) w) ∧ ∀ (b : Nat) (m : M) (lv : Value) (w : World), Rw w b 27 (m.c lv) → Calls Tryz.prog f #[ptr b] w fun e w' => ∃ g, e = .returned (.slice (some ⟨g, 0, none⟩) (tail k).length (tail k).length) ∧ PartsAt w' b m g (tail k) ∧ Below w.heap.size w w'
theorem look_kinds (k : Int) : (Instr.findNow (.int .u8) (.int .u8 k) kindsE.toList 0 = some none ∧ tail k = []) ∨ ∃ i f, Instr.findNow (.int .u8) (.int .u8 k) kindsE.toList 0 = some (some (i, .func (.func f) #[] #[])) ∧ HaveF f k := by
  by_cases k4 : k = 4
  · subst k4
    exact .inr ⟨0, 89, rfl, enters_of Tryz.func89 (by kernel_rfl) rfl, kinds1⟩
  by_cases k5 : k = 5
  · subst k5
    exact .inr ⟨1, 91, rfl, enters_of Tryz.func91 (by kernel_rfl) rfl, kinds2⟩
  by_cases k6 : k = 6
  · subst k6
    exact .inr ⟨2, 93, rfl, enters_of Tryz.func93 (by kernel_rfl) rfl, kinds3⟩
  by_cases k7 : k = 7
  · subst k7
    exact .inr ⟨3, 95, rfl, enters_of Tryz.func95 (by kernel_rfl) rfl, kinds4⟩
  by_cases k10 : k = 10
  · subst k10
    exact .inr ⟨4, 97, rfl, enters_of Tryz.func97 (by kernel_rfl) rfl, kinds5⟩
  by_cases k11 : k = 11
  · subst k11
    exact .inr ⟨5, 98, rfl, enters_of Tryz.func98 (by kernel_rfl) rfl, kinds6⟩
  by_cases k12 : k = 12
  · subst k12
    exact .inr ⟨6, 100, rfl, enters_of Tryz.func100 (by kernel_rfl) rfl, kinds7⟩
  have e : ∀ j, ¬ k = j → (k == j) = false := fun j h => by simp [h]
  exact .inl ⟨by simp [kindsE, kE, Instr.findNow, Instr.sameNow, e _ k4, e _ k5, e _ k6, e _ k7, e _ k10, e _ k11, e _ k12], tail_not k4 k5 k6 k7 k10 k11 k12⟩
def F5 (b : Nat) (k : Int) (hv : Value) (ok : Bool) : Nat → Value → World → Prop
  | 0, v, W => ∃ g, v = .map (some g) ∧ W.heap[g]? = some (.map kindsE 7)
  | 1, v, _ => v = ptr b
  | 2, v, _ => v = ptr b
  | 3, v, _ => v = ptr b
  | 4, v, _ => v = .int .u8 k
  | 5, v, _ => v = .tuple #[hv, .bool ok]
  | 6, v, _ => v = .tuple #[hv, .bool ok]
  | 7, v, _ => v = hv
  | 8, v, _ => v = .bool ok
  | 9, v, _ => v = hv
  | 10, v, _ => v = .bool ok
  | _, _, _ => True
theorem F5.behind {b : Nat} {k : Int} {hv : Value} {ok : Bool} {W W' : World} (hb : Below W.heap.size W W') (j : Nat) (u : Value) (h : F5 b k hv ok j u W) : F5 b k hv ok j u W' := by
  unfold F5 at h ⊢
  split <;> simp_all
  obtain ⟨g, rfl, hg⟩ := h
  exact ⟨g, rfl, (hb.block g (Array.getElem?_eq_some_iff.1 hg).1).trans hg⟩

set_option maxHeartbeats 8000000 in
theorem parts_seq (bx b : Nat) (G : List D → M → Prop) (w : World) (hbx : Boxed w bx 67 (ptr b)) : SeqP Tryz.prog 71 #[ptr bx] encP KpP (NxP b G) (KnP b G) [] (SfP G) w := by
  intro l J Jp W hbW hJb hJk hY h0
  replace hbx := boxed_below hbx hbW
  obtain ⟨m, lv, hr, hg0⟩ := hJk _ _ h0
  have hcell : ∀ {W' : World}, Below W.heap.size W W' → W'.cell? ⟨bx, 0, none⟩ = some (ptr b) := fun hb => (boxed_below hbx hb).cell
  have HR := Lib.hid hr
  have HX := Lib.hid hbx
  have HY := Lib.hid hY
  clear hr hbx hY
  refine callsIn_of_wp Tryz.func71 rfl trivial ?_ rfl
  simp only [Tryz.ntmps71, List.size_toArray, List.length_cons, List.length_nil, Nat.reduceAdd, Nat.reduceSub, Array.replicate_succ, Array.replicate_zero, List.push_toArray, List.append_toArray, List.nil_append, List.cons_append]
  gi_wp2
  refine wpIn_wide.2 (wp_region_all (RF [.val (ptr b), .val (ptr b), .val (.pointer (some ⟨b, 0, none⟩)), .part b m .u8, .val (ptr b), .val (ptr b), .val (.pointer (some ⟨b, 1, none⟩)), .part b m (.int 1 0), .val (ptr b), .val (ptr b), .val (.pointer (some ⟨b, 2, none⟩)), .part b m (.int 2 0), .val (ptr b), .val (ptr b), .val (.pointer (some ⟨b, 3, none⟩)), .part b m (.int 3 0), .parts b m 4 heads, .val (.int .i64 4), .val (.int .i64 0)]) (fun W' => Below W.heap.size W W') (by kernel_rfl) (by kernel_rfl) (Below.refl _ W).drew ?_ ?_)
  · refine ⟨fun a W hC hS => ?_, fun a W hC hS => ?_, fun a W hC hS => ?_, fun a W hC hS => ?_, fun a W hC hS => ?_, fun a W hC hS => ?_, fun a W hC hS => ?_, fun a W hC hS => ?_, fun a W hC hS => ?_, fun a W hC hS => ?_, fun a W hC hS => ?_, fun a W hC hS => ?_, fun a W hC hS => ?_, fun a W hC hS => ?_, fun a W hC hS => ?_, fun a W hC hS => ?_, fun a W hC hS => ?_, fun a W hC hS => ?_, fun a W hC hS => ?_, trivial⟩
    · have h1 : a.tmps.getD 1 undef = ptr bx := hS.base 1 (by kernel_rfl)
      have hc := hcell hC
      exact owed_pure (v := ptr b) (by simp [execOp, Act.eval, gd h1, go_sem, hc]) hC rfl
    · obtain ⟨v, h0, rfl⟩ := hS.dep 0 9 (by kernel_rfl) (by kernel_rfl)
      exact owed_pure (v := ptr b) (by simp [execOp, Act.eval, h0, go_sem]) hC rfl
    · obtain ⟨v, h0, rfl⟩ := hS.dep 1 10 (by kernel_rfl) (by kernel_rfl)
      exact owed_pure (v := .pointer (some ⟨b, 0, none⟩)) (by simp [execOp, Act.eval, h0, go_sem]) hC rfl
    · obtain ⟨v, h0, rfl⟩ := hS.dep 2 11 (by kernel_rfl) (by kernel_rfl)
      exact owed_call rfl (enters_of Tryz.func72 (by kernel_rfl) rfl) (by simp [Act.eval, h0]) (RF.behind hC _) (numU_part ⟨b, 0, none⟩ 0 W)
    · have h1 : a.tmps.getD 1 undef = ptr bx := hS.base 1 (by kernel_rfl)
      have hc := hcell hC
      exact owed_pure (v := ptr b) (by simp [execOp, Act.eval, gd h1, go_sem, hc]) hC rfl
    · obtain ⟨v, h0, rfl⟩ := hS.dep 4 13 (by kernel_rfl) (by kernel_rfl)
      exact owed_pure (v := ptr b) (by simp [execOp, Act.eval, h0, go_sem]) hC rfl
    · obtain ⟨v, h0, rfl⟩ := hS.dep 5 14 (by kernel_rfl) (by kernel_rfl)
      exact owed_pure (v := .pointer (some ⟨b, 1, none⟩)) (by simp [execOp, Act.eval, h0, go_sem]) hC rfl
    · obtain ⟨v, h0, rfl⟩ := hS.dep 6 15 (by kernel_rfl) (by kernel_rfl)
      exact owed_call rfl (enters_of Tryz.func73 (by kernel_rfl) rfl) (by simp [Act.eval, h0]) (RF.behind hC _) (numI_part ⟨b, 1, none⟩ 0 W)
    · have h1 : a.tmps.getD 1 undef = ptr bx := hS.base 1 (by kernel_rfl)
      have hc := hcell hC
      exact owed_pure (v := ptr b) (by simp [execOp, Act.eval, gd h1, go_sem, hc]) hC rfl
    · obtain ⟨v, h0, rfl⟩ := hS.dep 8 17 (by kernel_rfl) (by kernel_rfl)
      exact owed_pure (v := ptr b) (by simp [execOp, Act.eval, h0, go_sem]) hC rfl
    · obtain ⟨v, h0, rfl⟩ := hS.dep 9 18 (by kernel_rfl) (by kernel_rfl)
      exact owed_pure (v := .pointer (some ⟨b, 2, none⟩)) (by simp [execOp, Act.eval, h0, go_sem]) hC rfl
    · obtain ⟨v, h0, rfl⟩ := hS.dep 10 19 (by kernel_rfl) (by kernel_rfl)
      exact owed_call rfl (enters_of Tryz.func73 (by kernel_rfl) rfl) (by simp [Act.eval, h0]) (RF.behind hC _) (numI_part ⟨b, 2, none⟩ 0 W)
    · have h1 : a.tmps.getD 1 undef = ptr bx := hS.base 1 (by kernel_rfl)
      have hc := hcell hC
      exact owed_pure (v := ptr b) (by simp [execOp, Act.eval, gd h1, go_sem, hc]) hC rfl
    · obtain ⟨v, h0, rfl⟩ := hS.dep 12 21 (by kernel_rfl) (by kernel_rfl)
      exact owed_pure (v := ptr b) (by simp [execOp, Act.eval, h0, go_sem]) hC rfl
    · obtain ⟨v, h0, rfl⟩ := hS.dep 13 22 (by kernel_rfl) (by kernel_rfl)
      exact owed_pure (v := .pointer (some ⟨b, 3, none⟩)) (by simp [execOp, Act.eval, h0, go_sem]) hC rfl
    · obtain ⟨v, h0, rfl⟩ := hS.dep 14 23 (by kernel_rfl) (by kernel_rfl)
      exact owed_call rfl (enters_of Tryz.func73 (by kernel_rfl) rfl) (by simp [Act.eval, h0]) (RF.behind hC _) (numI_part ⟨b, 3, none⟩ 0 W)
    · obtain ⟨v1, e1, hp1⟩ := hS.dep 3 12 (by kernel_rfl) (by kernel_rfl)
      obtain ⟨v2, e2, hp2⟩ := hS.dep 7 16 (by kernel_rfl) (by kernel_rfl)
      obtain ⟨v3, e3, hp3⟩ := hS.dep 11 20 (by kernel_rfl) (by kernel_rfl)
      obtain ⟨v4, e4, hp4⟩ := hS.dep 15 24 (by kernel_rfl) (by kernel_rfl)
      replace hp1 : PartIs W b m v1 .u8 := hp1
      replace hp2 : PartIs W b m v2 (.int 1 0) := hp2
      replace hp3 : PartIs W b m v3 (.int 2 0) := hp3
      replace hp4 : PartIs W b m v4 (.int 3 0) := hp4
      obtain ⟨f1, t1, cp1, ct1, rfl⟩ := PartIs.form hp1
      obtain ⟨f2, t2, cp2, ct2, rfl⟩ := PartIs.form hp2
      obtain ⟨f3, t3, cp3, ct3, rfl⟩ := PartIs.form hp3
      obtain ⟨f4, t4, cp4, ct4, rfl⟩ := PartIs.form hp4
      exact owed_run (by simp [execOp, Act.eval, gd e1, gd e2, gd e3, gd e4, run_slice4]) ((Below.refl _ W).alloc (Nat.le_refl _) _) (RF.behind hC _) ⟨_, rfl, PartsAt.four hp1 hp2 hp3 hp4⟩
    · obtain ⟨v, h0, g, rfl, hp⟩ := hS.dep 16 25 (by kernel_rfl) (by kernel_rfl)
      exact owed_pure (v := .int .i64 4) (by simp [execOp, Act.eval, gd h0, go_sem, resolve, invoke, builtin]) hC rfl
    · exact owed_pure (v := .int .i64 0) (by simp [execOp, Act.eval, go_sem]) hC rfl
  · intro a W1 hC hA
    obtain ⟨v, e25, g1, rfl, hp⟩ := hA.facts 16 25 (by decide) (by kernel_rfl)
    obtain ⟨v, e26, rfl⟩ := hA.facts 17 26 (by decide) (by kernel_rfl)
    obtain ⟨v, e27, rfl⟩ := hA.facts 18 27 (by decide) (by kernel_rfl)
    have e0 : a.tmps.getD 0 undef = .func (.yield l) #[] #[] := hA.base 0 (by kernel_rfl)
    have e1 : a.tmps.getD 1 undef = ptr bx := hA.base 1 (by kernel_rfl)
    have hz : a.tmps.size = 60 := hA.size
    have hd := hA.defers
    have hX1 := boxed_below HX.out hC
    have hJ1 := hJb _ _ _ h0 hC
    clear hA hcell
    obtain ⟨tmps, ds⟩ := a
    obtain rfl : ds = [] := hd
    obtain ⟨x0, x1, x2, x3, x4, x5, x6, x7, x8, x9, x10, x11, x12, x13, x14, x15, x16, x17, x18, x19, x20, x21, x22, x23, x24, x25, x26, x27, x28, x29, x30, x31, x32, x33, x34, x35, x36, x37, x38, x39, x40, x41, x42, x43, x44, x45, x46, x47, x48, x49, x50, x51, x52, x53, x54, x55, x56, x57, x58, x59, rfl⟩ := lit60 tmps hz
    obtain rfl : x0 = .func (.yield l) #[] #[] := e0
    obtain rfl : x1 = ptr bx := e1
    obtain rfl : x25 = _ := e25
    obtain rfl : x26 = _ := e26
    obtain rfl : x27 = _ := e27
    clear hz
    rename_i K1 hK1 K2 hK2
    refine hK2 _ _ ?_
    gi_wp2
    gi_loopw [27] (fun i wr => ∃ k : Nat, k ≤ 4 ∧ i = .int .i64 k ∧ J (heads.take k) wr ∧ Boxed wr bx 67 (ptr b) ∧ Left wr b m g1 heads k) (fun i _ => 4 - (intOf i).toNat)
    case atStart => exact ⟨0, Nat.zero_le _, rfl, hJ1, hX1, fun _ => hp⟩
    case round =>
      obtain ⟨k, hk, rfl, hJs, hbx, hL⟩ := hrel
      by_cases hlt : k < 4
      · have hlt' : (0 : Int) ≤ (k : Int) ∧ (k : Int) < 4 := by omega
        have hw : IntKind.i64.wrap (k + 1 : Int) = k + 1 := by rw [IntKind.wrap_i64]; omega
        have hkl : k < heads.length := hlt
        obtain ⟨cs, hrg, hps⟩ := hL hkl
        obtain ⟨d, hd⟩ : ∃ d, heads[k] = d := ⟨_, rfl⟩
        have hkd : heads[k]? = some d := by rw [← hd]; exact List.getElem?_eq_getElem hkl
        obtain ⟨f, t, cp, ct, c0, c1, hpi⟩ := hps k d hkd
        have htk : heads.take (k + 1) = heads.take k ++ [d] := by rw [← hd]; exact List.take_succ_eq_append_getElem hkl
        have r0 := Rw.new wr #[.nilFunc, .nilFunc] 71
        have r2 := r0.setRow (c' := partC f t cp ct)
        have hB2 : Below wr.heap.size wr ((wr.alloc (.cells #[.nilFunc, .nilFunc] 71)).setRow wr.heap.size (partC f t cp ct)) := below_setRow (box_below wr _) (Nat.le_refl _) _
        have hc0 := r2.cell 0
        have hJ2 := hJb _ _ _ hJs hB2
        have hnx : NxP b G (heads.take k) (d, partV f t cp ct) (heads.take (k + 1)) ((wr.alloc (.cells #[.nilFunc, .nilFunc] 71)).setRow wr.heap.size (partC f t cp ct)) :=
          ⟨htk, .inl (by rw [← htk]; exact List.take_prefix _ _), m, [], hg0, hpi.kt (Kt.below hB2) tp27⟩
        obtain ⟨fn, tm, assign, body, hy, hR⟩ := HY.out _ _ _ _ hJ2 hnx
        dsimp only [encP, partV] at hy
        have hL2 : PartsAt ((wr.alloc (.cells #[.nilFunc, .nilFunc] 71)).setRow wr.heap.size (partC f t cp ct)) b m g1 heads := (hL hkl).kt (Kt.below hB2) tp27
        have hbx2 := boxed_below hbx hB2
        have HN := Lib.hid (And.intro hnx hJ2)
        have HP := Lib.hid (And.intro hL2 hbx2)
        have HK := Lib.hid (And.intro hkd hpi)
        clear hJs hbx hL hps hd hkd hpi htk hB2 hJ2 hnx hL2 hbx2 hp hJ1 hX1 hJb hJk
        gi_wp2_with (first
          | (with_reducible show wpListIn _ _ _ _ _ (Oper.mk _ (Op.load _ (.tmp 29)) _ _ _ _ :: _) _ _
             refine wpListIn_loadR rfl _ rfl rfl (Rw.part_ hrg k c0 c1) ?_)
          | (with_reducible show wpListIn _ _ _ _ _ (Oper.mk _ (Op.load _ (.tmp 4)) _ _ _ _ :: _) _ _
             refine wpListIn_loadR rfl _ rfl rfl (run_loadP (P := Tryz.prog) (cs := partC f t cp ct) aggP r2 (fun j v h => by simpa using h)) ?_)
          | (with_reducible show wpListIn _ _ _ _ _ (Oper.mk _ (Op.store _ (.tmp 4) _) _ _ _ _ :: _) _ _
             refine wpListIn_storeR (c := partC f t cp ct) rfl _ _ rfl rfl rfl aggP.hi r0 rfl (part_one _ _ _ _) ?_))
        refine hR.mono ?_
        clear r0 r2 hc0 hR hy
        rintro e W3 (⟨rfl, hJ3, hk3⟩ | ⟨ch, rfl, hp3⟩)
        · have HJ3 := Lib.hid hJ3
          clear hJ3
          gi_wp2
          go_roundw
          case rel => exact ⟨k + 1, by omega, by go_num, HJ3.out, hk3.boxed HP.out.2 (tk_box _), Left.kt HP.out.1 HK.out.1 (fun j e h _ => heads_calm j e h) hk3⟩
          case measure => simp [intOf]; omega
        · exact ⟨rfl, .inr ⟨ch, rfl, hp3⟩⟩
      · obtain rfl : k = 4 := by omega
        have hJ4 : J heads wr := hJs
        obtain ⟨m1, lv1, hr1, hg1⟩ := hJk _ _ hJ4
        clear hL hp hJ1 hX1 hJs
        gi_wp2
        have hlook : ∃ hv ok, (∀ (W' : World) (g : Nat), W'.heap[g]? = some (.map kindsE 7) → (Instr.lookup 97 (.map (some g)) (.int .u8 m1.kind) true).run Tryz.prog W' = .ok (.tuple #[hv, .bool ok]) W') ∧ ((ok = false ∧ tail m1.kind = []) ∨ (ok = true ∧ ∃ f, hv = .func (.func f) #[] #[] ∧ HaveF f m1.kind)) := by
          rcases look_kinds m1.kind with ⟨e1, e2⟩ | ⟨i, f, e1, e2⟩
          · exact ⟨.nilFunc, false, fun W' g hg => run_look0 map_u (by kernel_rfl) rfl hg e1, .inl ⟨rfl, e2⟩⟩
          · exact ⟨_, true, fun W' g hg => run_look map_u (by kernel_rfl) hg e1, .inr ⟨rfl, f, rfl, e2⟩⟩
        obtain ⟨hv, ok, hlook, hcase⟩ := hlook
        have hJW : ∀ {W' : World}, Below wr.heap.size wr W' → J heads W' := fun hb => hJb _ _ _ hJ4 hb
        have hRW : ∀ {W' : World}, Below wr.heap.size wr W' → Rw W' b 27 (m1.c lv1) := fun hb => hr1.below hb
        have hBW : ∀ {W' : World}, Below wr.heap.size wr W' → Boxed W' bx 67 (ptr b) := fun hb => boxed_below hbx hb
        clear hJ4 hr1 hbx
        refine wpIn_wide.2 (wp_region_all (F5 b m1.kind hv ok) (fun W' => Below wr.heap.size wr W') (by kernel_rfl) (by kernel_rfl) (Below.refl _ wr).drew ?_ ?_)
        · have hbh : ∀ {W1 : World}, Below wr.heap.size wr W1 → ∀ (W' : World), Below W1.heap.size W1 W' → Below wr.heap.size wr W' ∧ ∀ (j : Nat) (u : Value), j < 11 → F5 b m1.kind hv ok j u W1 → F5 b m1.kind hv ok j u W' :=
            fun hC W' hb => ⟨hC.trans (hb.mono hC.size), fun j u _ h => F5.behind hb j u h⟩
          refine ⟨fun a W hC hS => ?_, fun a W hC hS => ?_, fun a W hC hS => ?_, fun a W hC hS => ?_, fun a W hC hS => ?_, fun a W hC hS => ?_, fun a W hC hS => ?_, fun a W hC hS => ?_, fun a W hC hS => ?_, fun a W hC hS => ?_, fun a W hC hS => ?_, trivial⟩
          · exact owed_call rfl (enters_of Tryz.func74 (by kernel_rfl) rfl) (by simp) (hbh hC) ((ofKinds_any W).mono fun e W' ⟨g, h1, h2, h3⟩ => ⟨_, h1, ⟨g, rfl, h2⟩, h3⟩)
          · have h1 : a.tmps.getD 1 undef = ptr bx := hS.base 1 (by kernel_rfl)
            have hc := (hBW hC).cell
            exact owed_pure (v := ptr b) (by simp [execOp, Act.eval, gd h1, go_sem, hc]) hC rfl
          · obtain ⟨v, h0, rfl⟩ := hS.dep 1 38 (by kernel_rfl) (by kernel_rfl)
            exact owed_pure (v := ptr b) (by simp [execOp, Act.eval, h0, go_sem]) hC rfl
          · obtain ⟨v, h0, rfl⟩ := hS.dep 2 39 (by kernel_rfl) (by kernel_rfl)
            exact owed_pure (v := ptr b) (by simp [execOp, Act.eval, h0, go_sem]) hC rfl
          · obtain ⟨v, h0, rfl⟩ := hS.dep 3 40 (by kernel_rfl) (by kernel_rfl)
            have hc : W.cell? ⟨b, 0, none⟩ = some (.int .u8 m1.kind) := Rw.cell (hRW hC) 0
            exact owed_pure (v := .int .u8 m1.kind) (by simp [execOp, Act.eval, gd h0, go_sem, hc]) hC rfl
          · obtain ⟨v, h0, g, rfl, hg⟩ := hS.dep 0 37 (by kernel_rfl) (by kernel_rfl)
            obtain ⟨v, h1, rfl⟩ := hS.dep 4 41 (by kernel_rfl) (by kernel_rfl)
            have hl := hlook W g hg
            exact owed_pure (v := .tuple #[hv, .bool ok]) (by simp [execOp, Act.eval, gd h0, gd h1, hl]) hC rfl
          · obtain ⟨v, h0, rfl⟩ := hS.dep 5 42 (by kernel_rfl) (by kernel_rfl)
            exact owed_pure (v := .tuple #[hv, .bool ok]) (by simp [execOp, Act.eval, h0, go_sem]) hC rfl
          · obtain ⟨v, h0, rfl⟩ := hS.dep 6 36 (by kernel_rfl) (by kernel_rfl)
            exact owed_pure (v := hv) (by simp [execOp, Act.eval, gd h0, go_sem]) hC rfl
          · obtain ⟨v, h0, rfl⟩ := hS.dep 6 36 (by kernel_rfl) (by kernel_rfl)
            exact owed_pure (v := .bool ok) (by simp [execOp, Act.eval, gd h0, go_sem]) hC rfl
          · obtain ⟨v, h0, rfl⟩ := hS.dep 7 43 (by kernel_rfl) (by kernel_rfl)
            exact owed_pure (v := v) (by simp [execOp, Act.eval, h0, go_sem]) hC rfl
          · obtain ⟨v, h0, rfl⟩ := hS.dep 8 44 (by kernel_rfl) (by kernel_rfl)
            exact owed_pure (v := .bool ok) (by simp [execOp, Act.eval, h0, go_sem]) hC rfl
        · intro a W2 hC hA
          obtain ⟨v, e5, rfl⟩ := hA.facts 9 5 (by decide) (by kernel_rfl)
          obtain ⟨v', e6, rfl⟩ := hA.facts 10 6 (by decide) (by kernel_rfl)
          have e0 : a.tmps.getD 0 undef = .func (.yield l) #[] #[] := hA.base 0 (by kernel_rfl)
          have e1 : a.tmps.getD 1 undef = ptr bx := hA.base 1 (by kernel_rfl)
          have hz : a.tmps.size = 60 := hA.size
          have hd := hA.defers
          have hB0 := hBW hC
          have hJ2 := hJW hC
          have hR2 := hRW hC
          clear hA hBW hJW hRW hlook hC
          obtain ⟨tmps, ds⟩ := a
          obtain rfl : ds = [] := hd
          obtain ⟨y0, y1, y2, y3, y4, y5, y6, y7, y8, y9, y10, y11, y12, y13, y14, y15, y16, y17, y18, y19, y20, y21, y22, y23, y24, y25, y26, y27, y28, y29, y30, y31, y32, y33, y34, y35, y36, y37, y38, y39, y40, y41, y42, y43, y44, y45, y46, y47, y48, y49, y50, y51, y52, y53, y54, y55, y56, y57, y58, y59, rfl⟩ := lit60 tmps hz
          obtain rfl : y0 = .func (.yield l) #[] #[] := e0
          obtain rfl : y1 = ptr bx := e1
          obtain rfl : y5 = _ := e5
          obtain rfl : y6 = _ := e6
          clear hz
          rename_i K3 hK3
          refine hK3 _ _ ?_
          have htc := tail_calm m1.kind
          rcases hcase with ⟨rfl, ht⟩ | ⟨rfl, f, rfl, hen, hhave⟩
          · gi_wp2
            refine bodyPost_ret (results_none rfl _ _ _) rfl (.inl ⟨_, rfl, heads, ⟨m1, hg1, by rw [ht, List.append_nil]⟩, hJ2⟩)
          · have hcx := hB0.cell
            obtain ⟨N, hN⟩ : ∃ N, (tail m1.kind).length = N := ⟨_, rfl⟩
            have hN3 : N ≤ 2 := by rw [← hN]; exact tail_le _
            have hcall := hhave b m1 lv1 W2 hR2
            rw [hN] at hcall
            have HC := Lib.hid hcall
            have HB0 := Lib.hid hB0
            have HT := Lib.hid htc
            clear hcall hB0 hhave hR2 htc
            gi_wp2
            refine ⟨trivial, callsIn_wide.2 (HC.out.mono ?_)⟩
            rintro e W3 ⟨g2, rfl, hpa, hb3⟩
            have hJ3 := hJb _ _ _ hJ2 hb3
            have hB3 := boxed_below HB0.out hb3
            clear hcx hb3 hJ2
            gi_wp2
            gi_loopw [51] (fun i wr => ∃ k : Nat, k ≤ N ∧ i = .int .i64 k ∧ J (heads ++ (tail m1.kind).take k) wr ∧ Left wr b m1 g2 (tail m1.kind) k) (fun i _ => N - (intOf i).toNat)
            case atStart => exact ⟨0, Nat.zero_le _, rfl, by simpa using hJ3, fun _ => hpa⟩
            case round =>
              obtain ⟨k, hk, rfl, hJs, hL⟩ := hrel
              by_cases hlt : k < N
              · have hlt' : (0 : Int) ≤ (k : Int) ∧ (k : Int) < N := by omega
                have hw : IntKind.i64.wrap (k + 1 : Int) = k + 1 := by rw [IntKind.wrap_i64]; omega
                have hkl : k < (tail m1.kind).length := by omega
                obtain ⟨cs, hrg, hps⟩ := hL hkl
                obtain ⟨d, hd⟩ : ∃ d, (tail m1.kind)[k] = d := ⟨_, rfl⟩
                have hkd : (tail m1.kind)[k]? = some d := by rw [← hd]; exact List.getElem?_eq_getElem hkl
                obtain ⟨f', t, cp, ct, c0, c1, hpi⟩ := hps k d hkd
                have htk : heads ++ (tail m1.kind).take (k + 1) = (heads ++ (tail m1.kind).take k) ++ [d] := by rw [← hd, List.append_assoc]; congr 1; exact List.take_succ_eq_append_getElem hkl
                have r0 := Rw.new wr #[.nilFunc, .nilFunc] 71
                have r2 := r0.setRow (c' := partC f' t cp ct)
                have hB2 : Below wr.heap.size wr ((wr.alloc (.cells #[.nilFunc, .nilFunc] 71)).setRow wr.heap.size (partC f' t cp ct)) := below_setRow (box_below wr _) (Nat.le_refl _) _
                have hc0 := r2.cell 0
                have hJ2 := hJb _ _ _ hJs hB2
                have hnx : NxP b G (heads ++ (tail m1.kind).take k) (d, partV f' t cp ct) (heads ++ (tail m1.kind).take (k + 1)) ((wr.alloc (.cells #[.nilFunc, .nilFunc] 71)).setRow wr.heap.size (partC f' t cp ct)) :=
                  ⟨htk, .inr ⟨m1, hg1, List.prefix_append _ _, by rw [← htk]; exact (List.prefix_append_right_inj _).2 (List.take_prefix _ _)⟩, m1, heads, hg1, hpi.kt (Kt.below hB2) tp27⟩
                obtain ⟨fn, tm, assign, body, hy, hR⟩ := HY.out _ _ _ _ hJ2 hnx
                dsimp only [encP, partV] at hy
                have hL2 : PartsAt ((wr.alloc (.cells #[.nilFunc, .nilFunc] 71)).setRow wr.heap.size (partC f' t cp ct)) b m1 g2 (tail m1.kind) := (hL hkl).kt (Kt.below hB2) tp27
                have HN := Lib.hid (And.intro hnx hJ2)
                have HP := Lib.hid hL2
                have HK := Lib.hid (And.intro hkd hpi)
                clear hJs hL hps hd hkd hpi htk hB2 hJ2 hnx hL2 hJ3 hB3 hJb hJk hpa
                gi_wp2_with (first
                  | (with_reducible show wpListIn _ _ _ _ _ (Oper.mk _ (Op.load _ (.tmp 53)) _ _ _ _ :: _) _ _
                     refine wpListIn_loadR rfl _ rfl rfl (Rw.part_ hrg k c0 c1) ?_)
                  | (with_reducible show wpListIn _ _ _ _ _ (Oper.mk _ (Op.load _ (.tmp 8)) _ _ _ _ :: _) _ _
                     refine wpListIn_loadR rfl _ rfl rfl (run_loadP (P := Tryz.prog) (cs := partC f' t cp ct) aggP r2 (fun j v h => by simpa using h)) ?_)
                  | (with_reducible show wpListIn _ _ _ _ _ (Oper.mk _ (Op.store _ (.tmp 8) _) _ _ _ _ :: _) _ _
                     refine wpListIn_storeR (c := partC f' t cp ct) rfl _ _ rfl rfl rfl aggP.hi r0 rfl (part_one _ _ _ _) ?_))
                refine hR.mono ?_
                clear r0 r2 hc0 hR hy
                rintro e W4 (⟨rfl, hJ4, hk4⟩ | ⟨ch, rfl, hp4⟩)
                · have HJ4 := Lib.hid hJ4
                  clear hJ4
                  gi_wp2
                  go_roundw
                  case rel => exact ⟨k + 1, by omega, by go_num, HJ4.out, Left.kt HP.out HK.out.1 HT.out hk4⟩
                  case measure => simp [intOf]; omega
                · exact ⟨rfl, .inr ⟨ch, rfl, hp4⟩⟩
              · obtain rfl : k = N := by omega
                have hfin : (tail m1.kind).take k = tail m1.kind := by rw [← hN, List.take_length]
                have HF := Lib.hid hfin
                clear hfin hL hpa hJ3 hB3
                gi_wp2
                go_end0
                exact .inl ⟨_, rfl, _, ⟨m1, hg1, rfl⟩, by rw [HF.out] at hJs; exact hJs⟩
end Go.Proofs.YtaacjpcckinaiaaGreat
