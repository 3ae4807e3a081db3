/- What a message of each kind has, as parts. -/
import Derived.Test.YtaacjpcckinaiaaGreatWInv
import Derived.Great.BuildSlice
set_option linter.unusedVariables false
set_option maxRecDepth 100000
set_option linter.unusedSimpArgs false
namespace Go.Proofs.YtaacjpcckinaiaaGreat
open Go.RowKit Go.Shelf Ms

/-- In block g lie the parts ds of the message in block b. -/
def PartsAt (W : World) (b : Nat) (m : M) (g : Nat) (ds : List D) : Prop := ∃ cs, Rw W g 71 cs ∧ ∀ k d, ds[k]? = some d → ∃ f t cp ct, cs[k * 2]? = some (.func (.func f) #[] cp) ∧ cs[k * 2 + 1]? = some (.func (.func t) #[] ct) ∧ PartIs W b m (partV f t cp ct) d
theorem PartsAt.kt {T : TypeId → Bool} {W W' : World} {b g : Nat} {m : M} {ds : List D} (h : PartsAt W b m g ds) (k : Kt T W W') (hT : Tp T) : PartsAt W' b m g ds := by
  obtain ⟨cs, hr, hp⟩ := h
  exact ⟨cs, k.same _ _ _ _ hT.2.1 hr, fun j d hd => by obtain ⟨f, t, cp, ct, h1, h2, h3⟩ := hp j d hd; exact ⟨f, t, cp, ct, h1, h2, h3.kt k hT⟩⟩
/-- Every part is two functions. -/
theorem PartIs.form {W : World} {b : Nat} {m : M} {v : Value} {d : D} (h : PartIs W b m v d) : ∃ f t cp ct, v = partV f t cp ct := by
  cases d with
  | u8 => obtain ⟨g, h, rfl, _⟩ := h; exact ⟨_, _, _, _, rfl⟩
  | int o more => obtain ⟨g, h, rfl, _⟩ := h; exact ⟨_, _, _, _, rfl⟩
  | err => obtain ⟨g, h, rfl, _⟩ := h; exact ⟨_, _, _, _, rfl⟩
  | flag o => obtain ⟨g, h, q, n, f, rfl, _⟩ := h; exact ⟨_, _, _, _, rfl⟩
  | text => obtain ⟨g, rfl, _⟩ := h; exact ⟨_, _, _, _, rfl⟩
  | list => obtain ⟨g, rfl, _⟩ := h; exact ⟨_, _, _, _, rfl⟩
  | pair => obtain ⟨s, g, g1, g2, h2, g3, h3, g4, h4, q4, n4, f4, rfl, _⟩ := h; exact ⟨_, _, _, _, rfl⟩
  | side => obtain ⟨c, r, s, rfl, _⟩ := h; exact ⟨_, _, _, _, rfl⟩

/-- What is said of a slot's value. -/
inductive Fc where
  | val : Value → Fc
  | part : Nat → M → D → Fc
  | parts : Nat → M → Nat → List D → Fc
  | isI : Addr → Int → Fc
  | isT : Addr → Fc
  | isFl : Addr → Int → Fc
  | isP : Nat → Int → Fc
  | quad : Nat → Int → Fc
  | any : Fc
def Fc.sem : Fc → Value → World → Prop
  | .val x, v, _ => v = x
  | .part b m d, v, W => PartIs W b m v d
  | .parts b m n ds, v, W => ∃ g, v = .slice (some ⟨g, 0, none⟩) n n ∧ PartsAt W b m g ds
  | .isI p more, v, W => IsI W v p more
  | .isT p, v, W => IsT W v p
  | .isFl p x, v, W => IsFl W v p x
  | .isP b x, v, W => IsP W v b x
  | .quad b x, v, W => ∃ g p1 t1 p2 t2 p3 t3 p4 t4, v = .slice (some ⟨g, 0, none⟩) 4 4 ∧ Rw W g 71 #[p1, t1, p2, t2, p3, t3, p4, t4] ∧ IsT W (.agg #[p1, t1]) ⟨b, 10, none⟩ ∧ IsI W (.agg #[p2, t2]) ⟨b, 11, none⟩ 0 ∧ IsI W (.agg #[p3, t3]) ⟨b, 12, none⟩ 0 ∧ IsFl W (.agg #[p4, t4]) ⟨b, 13, none⟩ x
  | .any, _, _ => True
theorem Fc.behind (c : Fc) {v : Value} {W W' : World} (hb : Below W.heap.size W W') (h : c.sem v W) : c.sem v W' := by
  have k : Kt T27 W W' := Kt.below hb
  cases c with
  | val x => exact h
  | part b m d => exact PartIs.kt h k tp27
  | parts b m n ds => obtain ⟨g, h1, h2⟩ := h; exact ⟨g, h1, h2.kt k tp27⟩
  | isI p more => exact IsI.kt h k tp27
  | isT p => exact IsT.kt h k tp27
  | isFl p x => exact IsFl.kt h k tp27
  | isP b x => exact IsP.kt h k tp27
  | quad b x => obtain ⟨g, p1, t1, p2, t2, p3, t3, p4, t4, h0, h1, h2, h3, h4, h5⟩ := h; exact ⟨g, p1, t1, p2, t2, p3, t3, p4, t4, h0, k.same _ _ _ _ tp27.2.1 h1, h2.kt k tp27, h3.kt k tp27, h4.kt k tp27, h5.kt k tp27⟩
  | any => trivial
def RF (fs : List Fc) (i : Nat) (v : Value) (W : World) : Prop := (fs.getD i .any).sem v W
theorem RF.behind {fs : List Fc} {w W : World} (hC : Below w.heap.size w W) (k : Nat) : ∀ W', Below W.heap.size W W' → Below w.heap.size w W' ∧ ∀ j u, j < k → RF fs j u W → RF fs j u W' :=
  fun W' hb => ⟨hC.trans (hb.mono hC.size), fun j u _ h => Fc.behind _ hb h⟩

theorem numI_part (p : Addr) (more : Int) (W : World) : Calls Tryz.prog 73 #[.pointer (some p), .int .i64 more] W fun e w' => ∃ v, e = .returned v ∧ IsI w' v p more ∧ Below W.heap.size W w' :=
  (numI_any p more W).mono fun e w' ⟨g, h, e1, a, b, c⟩ => ⟨_, e1, ⟨g, h, rfl, a, b⟩, c⟩
theorem numU_part (p : Addr) (more : Int) (W : World) : Calls Tryz.prog 72 #[.pointer (some p), .int .i64 more] W fun e w' => ∃ v, e = .returned v ∧ IsU w' v p more ∧ Below W.heap.size W w' :=
  (numU_any p more W).mono fun e w' ⟨g, h, e1, a, b, c⟩ => ⟨_, e1, ⟨g, h, rfl, a, b⟩, c⟩
theorem numE_part (p : Addr) (more : Int) (W : World) : Calls Tryz.prog 99 #[.pointer (some p), .int .i64 more] W fun e w' => ∃ v, e = .returned v ∧ IsE w' v p more ∧ Below W.heap.size W w' :=
  (numE_any p more W).mono fun e w' ⟨g, h, e1, a, b, c⟩ => ⟨_, e1, ⟨g, h, rfl, a, b⟩, c⟩
theorem text_part (p : Addr) (W : World) : Calls Tryz.prog 94 #[.pointer (some p)] W fun e w' => ∃ v, e = .returned v ∧ IsT w' v p ∧ Below W.heap.size W w' :=
  (text_any p W).mono fun e w' ⟨g, e1, a, c⟩ => ⟨_, e1, ⟨g, rfl, a⟩, c⟩
theorem list_part (p : Addr) (W : World) : Calls Tryz.prog 96 #[.pointer (some p)] W fun e w' => ∃ v, e = .returned v ∧ IsL w' v p ∧ Below W.heap.size W w' :=
  (list_any p W).mono fun e w' ⟨g, e1, a, c⟩ => ⟨_, e1, ⟨g, rfl, a⟩, c⟩
theorem flag_part (p : Addr) (b : Bool) (W : World) (hp : p.block < W.heap.size) (hc : W.cell? p = some (.bool b)) : Calls Tryz.prog 90 #[.pointer (some p)] W fun e w' => ∃ v, e = .returned v ∧ IsFl w' v p (b2i b) ∧ Below W.heap.size W w' :=
  (flag_any p b W hp hc).mono fun e w' ⟨g, h, n, q, f, e1, a1, a2, a3, a4, a5, a6, c⟩ => ⟨_, e1, ⟨g, h, q, n, f, rfl, ⟨a1, a2, a3, a4, a5⟩, by omega⟩, c⟩

theorem gd {a : Array Value} {k : Nat} {v : Value} (h : a.getD k undef = v) : a[k]?.getD undef = v := by rw [← h]; simp
theorem done_slot {fn : Func} {R : Ending → World → Prop} {a : Act} {w : World} {v : Value} (s : Tmp) (hf : fn.results = #[.tmp s]) (h0 : a.tmps.getD s undef = v) (hd : a.defers = []) (hR : R (.returned v) w) : bodyPost Tryz.prog fn R .ret a w := by
  exact bodyPost_ret (v := v) (by simp [results, hf, gd h0]) hd hR
theorem wp_storeR {ty : TypeId} {o : Oper} {a : Act} {w : World} {K : Act → World → Prop} {Q : Exit → Act → World → Prop} {b : Nat} {t : TypeId} {c : Array Value} (x y : Operand) (ho : o.op = .store ty x y) (hx : a.eval x = .pointer (some ⟨b, 0, none⟩)) (hy : a.eval y = .agg c) (hi : (Tryz.prog.info? ty).map (·.size) = some c.size) {c0 : Array Value} (h0 : Rw w b t c0) (hs : c0.size = c.size) (h1 : c.all (·.oneCell') = true)
    (h : K (a.put o.dst undef) (w.setRow b c)) : o.wp Tryz.prog a w K Q := by
  unfold Oper.wp execOp
  simp only [ho, hx, hy, Sem.run_bind, Sem.run_pure, Result.andThen_ok, run_storeR hi h0 hs h1]
  exact h
theorem run_slice1 (f1 t1 : FuncId) (cp1 ct1 : Array Value) (w : World) : (Instr.buildSlice 94 1 #[(0, partV f1 t1 cp1 ct1)]).run Tryz.prog w = .ok (.slice (some ⟨w.heap.size, 0, none⟩) 1 1) (w.alloc (.cells (partC f1 t1 cp1 ct1) 71)) :=
  run_buildSlice w 94 71 1 _ _ _ _ (by kernel_rfl) rfl rfl (by decide) (by decide) (by kernel_rfl)
theorem run_slice2 (f1 t1 f2 t2 : FuncId) (cp1 ct1 cp2 ct2 : Array Value) (w : World) : (Instr.buildSlice 94 2 #[(0, partV f1 t1 cp1 ct1), (1, partV f2 t2 cp2 ct2)]).run Tryz.prog w =
    .ok (.slice (some ⟨w.heap.size, 0, none⟩) 2 2) (w.alloc (.cells #[.func (.func f1) #[] cp1, .func (.func t1) #[] ct1, .func (.func f2) #[] cp2, .func (.func t2) #[] ct2] 71)) :=
  run_buildSlice w 94 71 2 _ _ _ _ (by kernel_rfl) rfl rfl (by decide) (by decide) (by kernel_rfl)
theorem run_slice4 (f1 t1 f2 t2 f3 t3 f4 t4 : FuncId) (cp1 ct1 cp2 ct2 cp3 ct3 cp4 ct4 : Array Value) (w : World) : (Instr.buildSlice 94 4 #[(0, partV f1 t1 cp1 ct1), (1, partV f2 t2 cp2 ct2), (2, partV f3 t3 cp3 ct3), (3, partV f4 t4 cp4 ct4)]).run Tryz.prog w =
    .ok (.slice (some ⟨w.heap.size, 0, none⟩) 4 4) (w.alloc (.cells #[.func (.func f1) #[] cp1, .func (.func t1) #[] ct1, .func (.func f2) #[] cp2, .func (.func t2) #[] ct2, .func (.func f3) #[] cp3, .func (.func t3) #[] ct3, .func (.func f4) #[] cp4, .func (.func t4) #[] ct4] 71)) :=
  run_buildSlice w 94 71 4 _ _ _ _ (by kernel_rfl) rfl rfl (by decide) (by decide) (by kernel_rfl)
theorem PartsAt.one {W : World} {b : Nat} {m : M} {d : D} {f t : FuncId} {cp ct : Array Value} (h : PartIs W b m (partV f t cp ct) d) : PartsAt (W.alloc (.cells (partC f t cp ct) 71)) b m W.heap.size [d] := by
  refine ⟨_, Rw.new W _ _, fun k e hk => ?_⟩
  have k0 : Kt T27 W (W.alloc (.cells (partC f t cp ct) 71)) := Kt.below ((Below.refl _ W).alloc (Nat.le_refl _) _)
  match k, hk with
  | 0, hk => cases hk; exact ⟨f, t, cp, ct, rfl, rfl, h.kt k0 tp27⟩
theorem PartsAt.two {W : World} {b : Nat} {m : M} {d e : D} {f1 t1 f2 t2 : FuncId} {cp1 ct1 cp2 ct2 : Array Value} (h1 : PartIs W b m (partV f1 t1 cp1 ct1) d) (h2 : PartIs W b m (partV f2 t2 cp2 ct2) e) :
    PartsAt (W.alloc (.cells #[.func (.func f1) #[] cp1, .func (.func t1) #[] ct1, .func (.func f2) #[] cp2, .func (.func t2) #[] ct2] 71)) b m W.heap.size [d, e] := by
  refine ⟨_, Rw.new W _ _, fun k u hk => ?_⟩
  have k0 : Kt T27 W (W.alloc (.cells #[.func (.func f1) #[] cp1, .func (.func t1) #[] ct1, .func (.func f2) #[] cp2, .func (.func t2) #[] ct2] 71)) := Kt.below ((Below.refl _ W).alloc (Nat.le_refl _) _)
  match k, hk with
  | 0, hk => cases hk; exact ⟨f1, t1, cp1, ct1, rfl, rfl, h1.kt k0 tp27⟩
  | 1, hk => cases hk; exact ⟨f2, t2, cp2, ct2, rfl, rfl, h2.kt k0 tp27⟩
theorem PartsAt.four {W : World} {b : Nat} {m : M} {d1 d2 d3 d4 : D} {f1 t1 f2 t2 f3 t3 f4 t4 : FuncId} {cp1 ct1 cp2 ct2 cp3 ct3 cp4 ct4 : Array Value} (h1 : PartIs W b m (partV f1 t1 cp1 ct1) d1) (h2 : PartIs W b m (partV f2 t2 cp2 ct2) d2) (h3 : PartIs W b m (partV f3 t3 cp3 ct3) d3) (h4 : PartIs W b m (partV f4 t4 cp4 ct4) d4) :
    PartsAt (W.alloc (.cells #[.func (.func f1) #[] cp1, .func (.func t1) #[] ct1, .func (.func f2) #[] cp2, .func (.func t2) #[] ct2, .func (.func f3) #[] cp3, .func (.func t3) #[] ct3, .func (.func f4) #[] cp4, .func (.func t4) #[] ct4] 71)) b m W.heap.size [d1, d2, d3, d4] := by
  refine ⟨_, Rw.new W _ _, fun k u hk => ?_⟩
  have k0 : Kt T27 W (W.alloc (.cells #[.func (.func f1) #[] cp1, .func (.func t1) #[] ct1, .func (.func f2) #[] cp2, .func (.func t2) #[] ct2, .func (.func f3) #[] cp3, .func (.func t3) #[] ct3, .func (.func f4) #[] cp4, .func (.func t4) #[] ct4] 71)) := Kt.below ((Below.refl _ W).alloc (Nat.le_refl _) _)
  match k, hk with
  | 0, hk => cases hk; exact ⟨f1, t1, cp1, ct1, rfl, rfl, h1.kt k0 tp27⟩
  | 1, hk => cases hk; exact ⟨f2, t2, cp2, ct2, rfl, rfl, h2.kt k0 tp27⟩
  | 2, hk => cases hk; exact ⟨f3, t3, cp3, ct3, rfl, rfl, h3.kt k0 tp27⟩
  | 3, hk => cases hk; exact ⟨f4, t4, cp4, ct4, rfl, rfl, h4.kt k0 tp27⟩

set_option maxHeartbeats 2000000 in
theorem kinds1 (b : Nat) (m : M) (lv : Value) (w : World) (hr : Rw w b 27 (m.c lv)) : Calls Tryz.prog 89 #[ptr b] w fun e w' => ∃ g, e = .returned (.slice (some ⟨g, 0, none⟩) 2 2) ∧ PartsAt w' b m g [.int 4 0, .flag 5] ∧ Below w.heap.size w w' := by
  have hrW : ∀ {W : World}, Below w.heap.size w W → Rw W b 27 (m.c lv) := fun hb => (hb.block b hr.lt).trans hr
  have HR := Lib.hid hr
  clear hr
  go_enter Tryz.func89, Tryz.ntmps89
  go_wp2_with fail
  refine wp_region_all (RF [.val (ptr b), .val (ptr b), .val (.pointer (some ⟨b, 4, none⟩)), .part b m (.int 4 0), .val (ptr b), .val (ptr b), .val (.pointer (some ⟨b, 5, none⟩)), .part b m (.flag 5), .parts b m 2 [.int 4 0, .flag 5], .parts b m 2 [.int 4 0, .flag 5]])
    (fun W => Below w.heap.size w W) (by kernel_rfl) (by kernel_rfl) (Below.refl _ w).drew ?_ ?_
  · refine ⟨fun a W hC hS => ?_, fun a W hC hS => ?_, fun a W hC hS => ?_, fun a W hC hS => ?_, fun a W hC hS => ?_, fun a W hC hS => ?_, fun a W hC hS => ?_, fun a W hC hS => ?_, fun a W hC hS => ?_, fun a W hC hS => ?_, trivial⟩
    · have h0 : a.tmps.getD 0 undef = ptr b := hS.base 0 (by kernel_rfl)
      exact owed_pure (v := ptr b) (by simp [execOp, Act.eval, h0, go_sem]) hC rfl
    · obtain ⟨v, h0, rfl⟩ := hS.dep 0 3 (by kernel_rfl) (by kernel_rfl)
      exact owed_pure (v := ptr b) (by simp [execOp, Act.eval, h0, go_sem]) hC rfl
    · obtain ⟨v, h0, rfl⟩ := hS.dep 1 4 (by kernel_rfl) (by kernel_rfl)
      exact owed_pure (v := .pointer (some ⟨b, 4, none⟩)) (by simp [execOp, Act.eval, h0, go_sem]) hC rfl
    · obtain ⟨v, h0, rfl⟩ := hS.dep 2 5 (by kernel_rfl) (by kernel_rfl)
      exact owed_call rfl (enters_of Tryz.func73 (by kernel_rfl) rfl) (by simp [Act.eval, h0]) (RF.behind hC _) (numI_part ⟨b, 4, none⟩ 0 W)
    · have h0 : a.tmps.getD 0 undef = ptr b := hS.base 0 (by kernel_rfl)
      exact owed_pure (v := ptr b) (by simp [execOp, Act.eval, h0, go_sem]) hC rfl
    · obtain ⟨v, h0, rfl⟩ := hS.dep 4 7 (by kernel_rfl) (by kernel_rfl)
      exact owed_pure (v := ptr b) (by simp [execOp, Act.eval, h0, go_sem]) hC rfl
    · obtain ⟨v, h0, rfl⟩ := hS.dep 5 8 (by kernel_rfl) (by kernel_rfl)
      exact owed_pure (v := .pointer (some ⟨b, 5, none⟩)) (by simp [execOp, Act.eval, h0, go_sem]) hC rfl
    · obtain ⟨v, h0, rfl⟩ := hS.dep 6 9 (by kernel_rfl) (by kernel_rfl)
      exact owed_call rfl (enters_of Tryz.func90 (by kernel_rfl) rfl) (by simp [Act.eval, h0]) (RF.behind hC _) (flag_part ⟨b, 5, none⟩ m.slow W (Rw.lt (hrW hC)) (Rw.cell (hrW hC) 5))
    · obtain ⟨v, h0, hp0⟩ := hS.dep 3 6 (by kernel_rfl) (by kernel_rfl)
      obtain ⟨u, h1, hp1⟩ := hS.dep 7 10 (by kernel_rfl) (by kernel_rfl)
      replace hp0 : PartIs W b m v (.int 4 0) := hp0
      replace hp1 : PartIs W b m u (.flag 5) := hp1
      obtain ⟨f1, t1, cp1, ct1, rfl⟩ := PartIs.form hp0
      obtain ⟨f2, t2, cp2, ct2, rfl⟩ := PartIs.form hp1
      exact owed_run (by simp [execOp, Act.eval, gd h0, gd h1, run_slice2]) ((Below.refl _ W).alloc (Nat.le_refl _) _) (RF.behind hC _) ⟨_, rfl, PartsAt.two hp0 hp1⟩
    · obtain ⟨v, h0, g, rfl, hp⟩ := hS.dep 8 11 (by kernel_rfl) (by kernel_rfl)
      exact owed_pure (v := .slice (some ⟨g, 0, none⟩) 2 2) (by simp [execOp, Act.eval, h0, go_sem]) hC ⟨g, rfl, hp⟩
  · intro a W hC hA
    obtain ⟨v, h0, g, rfl, hp⟩ := hA.facts 9 2 (by decide) (by kernel_rfl)
    rename_i K hK
    exact hK a W (wp_ret (done_slot 2 rfl h0 hA.defers ⟨g, rfl, hp, hC⟩))

set_option maxHeartbeats 2000000 in
theorem kinds4 (b : Nat) (m : M) (lv : Value) (w : World) (hr : Rw w b 27 (m.c lv)) : Calls Tryz.prog 95 #[ptr b] w fun e w' => ∃ g, e = .returned (.slice (some ⟨g, 0, none⟩) 2 2) ∧ PartsAt w' b m g [.int 8 1, .list] ∧ Below w.heap.size w w' := by
  have hrW : ∀ {W : World}, Below w.heap.size w W → Rw W b 27 (m.c lv) := fun hb => (hb.block b hr.lt).trans hr
  have HR := Lib.hid hr
  clear hr
  go_enter Tryz.func95, Tryz.ntmps95
  go_wp2_with fail
  refine wp_region_all (RF [.val (ptr b), .val (ptr b), .val (.pointer (some ⟨b, 8, none⟩)), .part b m (.int 8 1), .val (ptr b), .val (ptr b), .val (.pointer (some ⟨b, 9, none⟩)), .part b m (.list), .parts b m 2 [.int 8 1, .list], .parts b m 2 [.int 8 1, .list]])
    (fun W => Below w.heap.size w W) (by kernel_rfl) (by kernel_rfl) (Below.refl _ w).drew ?_ ?_
  · refine ⟨fun a W hC hS => ?_, fun a W hC hS => ?_, fun a W hC hS => ?_, fun a W hC hS => ?_, fun a W hC hS => ?_, fun a W hC hS => ?_, fun a W hC hS => ?_, fun a W hC hS => ?_, fun a W hC hS => ?_, fun a W hC hS => ?_, trivial⟩
    · have h0 : a.tmps.getD 0 undef = ptr b := hS.base 0 (by kernel_rfl)
      exact owed_pure (v := ptr b) (by simp [execOp, Act.eval, h0, go_sem]) hC rfl
    · obtain ⟨v, h0, rfl⟩ := hS.dep 0 3 (by kernel_rfl) (by kernel_rfl)
      exact owed_pure (v := ptr b) (by simp [execOp, Act.eval, h0, go_sem]) hC rfl
    · obtain ⟨v, h0, rfl⟩ := hS.dep 1 4 (by kernel_rfl) (by kernel_rfl)
      exact owed_pure (v := .pointer (some ⟨b, 8, none⟩)) (by simp [execOp, Act.eval, h0, go_sem]) hC rfl
    · obtain ⟨v, h0, rfl⟩ := hS.dep 2 5 (by kernel_rfl) (by kernel_rfl)
      exact owed_call rfl (enters_of Tryz.func73 (by kernel_rfl) rfl) (by simp [Act.eval, h0]) (RF.behind hC _) (numI_part ⟨b, 8, none⟩ 1 W)
    · have h0 : a.tmps.getD 0 undef = ptr b := hS.base 0 (by kernel_rfl)
      exact owed_pure (v := ptr b) (by simp [execOp, Act.eval, h0, go_sem]) hC rfl
    · obtain ⟨v, h0, rfl⟩ := hS.dep 4 7 (by kernel_rfl) (by kernel_rfl)
      exact owed_pure (v := ptr b) (by simp [execOp, Act.eval, h0, go_sem]) hC rfl
    · obtain ⟨v, h0, rfl⟩ := hS.dep 5 8 (by kernel_rfl) (by kernel_rfl)
      exact owed_pure (v := .pointer (some ⟨b, 9, none⟩)) (by simp [execOp, Act.eval, h0, go_sem]) hC rfl
    · obtain ⟨v, h0, rfl⟩ := hS.dep 6 9 (by kernel_rfl) (by kernel_rfl)
      exact owed_call rfl (enters_of Tryz.func96 (by kernel_rfl) rfl) (by simp [Act.eval, h0]) (RF.behind hC _) (list_part ⟨b, 9, none⟩ W)
    · obtain ⟨v, h0, hp0⟩ := hS.dep 3 6 (by kernel_rfl) (by kernel_rfl)
      obtain ⟨u, h1, hp1⟩ := hS.dep 7 10 (by kernel_rfl) (by kernel_rfl)
      replace hp0 : PartIs W b m v (.int 8 1) := hp0
      replace hp1 : PartIs W b m u (.list) := hp1
      obtain ⟨f1, t1, cp1, ct1, rfl⟩ := PartIs.form hp0
      obtain ⟨f2, t2, cp2, ct2, rfl⟩ := PartIs.form hp1
      exact owed_run (by simp [execOp, Act.eval, gd h0, gd h1, run_slice2]) ((Below.refl _ W).alloc (Nat.le_refl _) _) (RF.behind hC _) ⟨_, rfl, PartsAt.two hp0 hp1⟩
    · obtain ⟨v, h0, g, rfl, hp⟩ := hS.dep 8 11 (by kernel_rfl) (by kernel_rfl)
      exact owed_pure (v := .slice (some ⟨g, 0, none⟩) 2 2) (by simp [execOp, Act.eval, h0, go_sem]) hC ⟨g, rfl, hp⟩
  · intro a W hC hA
    obtain ⟨v, h0, g, rfl, hp⟩ := hA.facts 9 2 (by decide) (by kernel_rfl)
    rename_i K hK
    exact hK a W (wp_ret (done_slot 2 rfl h0 hA.defers ⟨g, rfl, hp, hC⟩))

set_option maxHeartbeats 2000000 in
theorem kinds5 (b : Nat) (m : M) (lv : Value) (w : World) (hr : Rw w b 27 (m.c lv)) : Calls Tryz.prog 97 #[ptr b] w fun e w' => ∃ g, e = .returned (.slice (some ⟨g, 0, none⟩) 2 2) ∧ PartsAt w' b m g [.int 7 0, .flag 6] ∧ Below w.heap.size w w' := by
  have hrW : ∀ {W : World}, Below w.heap.size w W → Rw W b 27 (m.c lv) := fun hb => (hb.block b hr.lt).trans hr
  have HR := Lib.hid hr
  clear hr
  go_enter Tryz.func97, Tryz.ntmps97
  go_wp2_with fail
  refine wp_region_all (RF [.val (ptr b), .val (ptr b), .val (.pointer (some ⟨b, 7, none⟩)), .part b m (.int 7 0), .val (ptr b), .val (ptr b), .val (.pointer (some ⟨b, 6, none⟩)), .part b m (.flag 6), .parts b m 2 [.int 7 0, .flag 6], .parts b m 2 [.int 7 0, .flag 6]])
    (fun W => Below w.heap.size w W) (by kernel_rfl) (by kernel_rfl) (Below.refl _ w).drew ?_ ?_
  · refine ⟨fun a W hC hS => ?_, fun a W hC hS => ?_, fun a W hC hS => ?_, fun a W hC hS => ?_, fun a W hC hS => ?_, fun a W hC hS => ?_, fun a W hC hS => ?_, fun a W hC hS => ?_, fun a W hC hS => ?_, fun a W hC hS => ?_, trivial⟩
    · have h0 : a.tmps.getD 0 undef = ptr b := hS.base 0 (by kernel_rfl)
      exact owed_pure (v := ptr b) (by simp [execOp, Act.eval, h0, go_sem]) hC rfl
    · obtain ⟨v, h0, rfl⟩ := hS.dep 0 3 (by kernel_rfl) (by kernel_rfl)
      exact owed_pure (v := ptr b) (by simp [execOp, Act.eval, h0, go_sem]) hC rfl
    · obtain ⟨v, h0, rfl⟩ := hS.dep 1 4 (by kernel_rfl) (by kernel_rfl)
      exact owed_pure (v := .pointer (some ⟨b, 7, none⟩)) (by simp [execOp, Act.eval, h0, go_sem]) hC rfl
    · obtain ⟨v, h0, rfl⟩ := hS.dep 2 5 (by kernel_rfl) (by kernel_rfl)
      exact owed_call rfl (enters_of Tryz.func73 (by kernel_rfl) rfl) (by simp [Act.eval, h0]) (RF.behind hC _) (numI_part ⟨b, 7, none⟩ 0 W)
    · have h0 : a.tmps.getD 0 undef = ptr b := hS.base 0 (by kernel_rfl)
      exact owed_pure (v := ptr b) (by simp [execOp, Act.eval, h0, go_sem]) hC rfl
    · obtain ⟨v, h0, rfl⟩ := hS.dep 4 7 (by kernel_rfl) (by kernel_rfl)
      exact owed_pure (v := ptr b) (by simp [execOp, Act.eval, h0, go_sem]) hC rfl
    · obtain ⟨v, h0, rfl⟩ := hS.dep 5 8 (by kernel_rfl) (by kernel_rfl)
      exact owed_pure (v := .pointer (some ⟨b, 6, none⟩)) (by simp [execOp, Act.eval, h0, go_sem]) hC rfl
    · obtain ⟨v, h0, rfl⟩ := hS.dep 6 9 (by kernel_rfl) (by kernel_rfl)
      exact owed_call rfl (enters_of Tryz.func90 (by kernel_rfl) rfl) (by simp [Act.eval, h0]) (RF.behind hC _) (flag_part ⟨b, 6, none⟩ m.done W (Rw.lt (hrW hC)) (Rw.cell (hrW hC) 6))
    · obtain ⟨v, h0, hp0⟩ := hS.dep 3 6 (by kernel_rfl) (by kernel_rfl)
      obtain ⟨u, h1, hp1⟩ := hS.dep 7 10 (by kernel_rfl) (by kernel_rfl)
      replace hp0 : PartIs W b m v (.int 7 0) := hp0
      replace hp1 : PartIs W b m u (.flag 6) := hp1
      obtain ⟨f1, t1, cp1, ct1, rfl⟩ := PartIs.form hp0
      obtain ⟨f2, t2, cp2, ct2, rfl⟩ := PartIs.form hp1
      exact owed_run (by simp [execOp, Act.eval, gd h0, gd h1, run_slice2]) ((Below.refl _ W).alloc (Nat.le_refl _) _) (RF.behind hC _) ⟨_, rfl, PartsAt.two hp0 hp1⟩
    · obtain ⟨v, h0, g, rfl, hp⟩ := hS.dep 8 11 (by kernel_rfl) (by kernel_rfl)
      exact owed_pure (v := .slice (some ⟨g, 0, none⟩) 2 2) (by simp [execOp, Act.eval, h0, go_sem]) hC ⟨g, rfl, hp⟩
  · intro a W hC hA
    obtain ⟨v, h0, g, rfl, hp⟩ := hA.facts 9 2 (by decide) (by kernel_rfl)
    rename_i K hK
    exact hK a W (wp_ret (done_slot 2 rfl h0 hA.defers ⟨g, rfl, hp, hC⟩))
set_option maxHeartbeats 2000000 in
theorem pair_any (b : Nat) (m : M) (lv : Value) (w : World) (hr : Rw w b 27 (m.c lv)) : Calls Tryz.prog 92 #[.pointer (some ⟨b, 10, none⟩)] w fun e w' => ∃ v, e = .returned v ∧ IsP w' v b (b2i m.it.gone) ∧ Below w.heap.size w w' := by
  have hw0 : ∃ w0, w0 = w.alloc (.cells nilP 71) := ⟨_, rfl⟩
  obtain ⟨w0, hw0⟩ := hw0
  have hb0 : Below w.heap.size w w0 := by rw [hw0]; exact (Below.refl _ w).alloc (Nat.le_refl _) _
  have hr0 : Rw w0 w.heap.size 71 nilP := by rw [hw0]; exact Rw.new w _ _
  have hrW : ∀ {W : World}, Below w0.heap.size w0 W → Rw W b 27 (m.c lv) := fun hb => ((hr.below hb0).below hb)
  have HR := Lib.hid hr
  clear hr
  go_enter Tryz.func92, Tryz.ntmps92
  go_wp2_with fail
  have e0 : w.alloc (.cells #[.nilFunc, .nilFunc] 71) = w0 := hw0.symm
  rw [e0]
  refine wp_region_last (l := [_, _, _, _, _, _, _, _, _, _, _, _, _, _, _, _, _, _]) (RF [.val (.pointer (some ⟨b, 10, none⟩)), .val (.pointer (some ⟨b, 10, none⟩)), .val (.pointer (some ⟨b, 10, none⟩)), .isT ⟨b, 10, none⟩, .val (.pointer (some ⟨b, 10, none⟩)), .val (.pointer (some ⟨b, 10, none⟩)), .val (.pointer (some ⟨b, 11, none⟩)), .isI ⟨b, 11, none⟩ 0, .val (.pointer (some ⟨b, 10, none⟩)), .val (.pointer (some ⟨b, 10, none⟩)), .val (.pointer (some ⟨b, 12, none⟩)), .isI ⟨b, 12, none⟩ 0, .val (.pointer (some ⟨b, 10, none⟩)), .val (.pointer (some ⟨b, 10, none⟩)), .val (.pointer (some ⟨b, 13, none⟩)), .isFl ⟨b, 13, none⟩ (b2i m.it.gone), .quad b (b2i m.it.gone), .isP b (b2i m.it.gone)])
    (fun W => Below w0.heap.size w0 W) (by kernel_rfl) rfl (by kernel_rfl) (by kernel_rfl) (Below.refl _ w0).drew ?_ ?_
  · refine ⟨fun a W hC hS => ?_, fun a W hC hS => ?_, fun a W hC hS => ?_, fun a W hC hS => ?_, fun a W hC hS => ?_, fun a W hC hS => ?_, fun a W hC hS => ?_, fun a W hC hS => ?_, fun a W hC hS => ?_, fun a W hC hS => ?_, fun a W hC hS => ?_, fun a W hC hS => ?_, fun a W hC hS => ?_, fun a W hC hS => ?_, fun a W hC hS => ?_, fun a W hC hS => ?_, fun a W hC hS => ?_, fun a W hC hS => ?_, trivial⟩
    · have h0 : a.tmps.getD 0 undef = .pointer (some ⟨b, 10, none⟩) := hS.base 0 (by kernel_rfl)
      exact owed_pure (v := .pointer (some ⟨b, 10, none⟩)) (by simp [execOp, Act.eval, h0, go_sem]) hC rfl
    · obtain ⟨v, h0, rfl⟩ := hS.dep 0 3 (by kernel_rfl) (by kernel_rfl)
      exact owed_pure (v := .pointer (some ⟨b, 10, none⟩)) (by simp [execOp, Act.eval, h0, go_sem]) hC rfl
    · obtain ⟨v, h0, rfl⟩ := hS.dep 1 4 (by kernel_rfl) (by kernel_rfl)
      exact owed_pure (v := .pointer (some ⟨b, 10, none⟩)) (by simp [execOp, Act.eval, h0, go_sem]) hC rfl
    · obtain ⟨v, h0, rfl⟩ := hS.dep 2 5 (by kernel_rfl) (by kernel_rfl)
      exact owed_call rfl (enters_of Tryz.func94 (by kernel_rfl) rfl) (by simp [Act.eval, h0]) (RF.behind hC _) (text_part ⟨b, 10, none⟩ W)
    · have h0 : a.tmps.getD 0 undef = .pointer (some ⟨b, 10, none⟩) := hS.base 0 (by kernel_rfl)
      exact owed_pure (v := .pointer (some ⟨b, 10, none⟩)) (by simp [execOp, Act.eval, h0, go_sem]) hC rfl
    · obtain ⟨v, h0, rfl⟩ := hS.dep 4 7 (by kernel_rfl) (by kernel_rfl)
      exact owed_pure (v := .pointer (some ⟨b, 10, none⟩)) (by simp [execOp, Act.eval, h0, go_sem]) hC rfl
    · obtain ⟨v, h0, rfl⟩ := hS.dep 5 8 (by kernel_rfl) (by kernel_rfl)
      exact owed_pure (v := .pointer (some ⟨b, 11, none⟩)) (by simp [execOp, Act.eval, h0, go_sem]) hC rfl
    · obtain ⟨v, h0, rfl⟩ := hS.dep 6 9 (by kernel_rfl) (by kernel_rfl)
      exact owed_call rfl (enters_of Tryz.func73 (by kernel_rfl) rfl) (by simp [Act.eval, h0]) (RF.behind hC _) (numI_part ⟨b, 11, none⟩ 0 W)
    · have h0 : a.tmps.getD 0 undef = .pointer (some ⟨b, 10, none⟩) := hS.base 0 (by kernel_rfl)
      exact owed_pure (v := .pointer (some ⟨b, 10, none⟩)) (by simp [execOp, Act.eval, h0, go_sem]) hC rfl
    · obtain ⟨v, h0, rfl⟩ := hS.dep 8 11 (by kernel_rfl) (by kernel_rfl)
      exact owed_pure (v := .pointer (some ⟨b, 10, none⟩)) (by simp [execOp, Act.eval, h0, go_sem]) hC rfl
    · obtain ⟨v, h0, rfl⟩ := hS.dep 9 12 (by kernel_rfl) (by kernel_rfl)
      exact owed_pure (v := .pointer (some ⟨b, 12, none⟩)) (by simp [execOp, Act.eval, h0, go_sem]) hC rfl
    · obtain ⟨v, h0, rfl⟩ := hS.dep 10 13 (by kernel_rfl) (by kernel_rfl)
      exact owed_call rfl (enters_of Tryz.func73 (by kernel_rfl) rfl) (by simp [Act.eval, h0]) (RF.behind hC _) (numI_part ⟨b, 12, none⟩ 0 W)
    · have h0 : a.tmps.getD 0 undef = .pointer (some ⟨b, 10, none⟩) := hS.base 0 (by kernel_rfl)
      exact owed_pure (v := .pointer (some ⟨b, 10, none⟩)) (by simp [execOp, Act.eval, h0, go_sem]) hC rfl
    · obtain ⟨v, h0, rfl⟩ := hS.dep 12 15 (by kernel_rfl) (by kernel_rfl)
      exact owed_pure (v := .pointer (some ⟨b, 10, none⟩)) (by simp [execOp, Act.eval, h0, go_sem]) hC rfl
    · obtain ⟨v, h0, rfl⟩ := hS.dep 13 16 (by kernel_rfl) (by kernel_rfl)
      exact owed_pure (v := .pointer (some ⟨b, 13, none⟩)) (by simp [execOp, Act.eval, h0, go_sem]) hC rfl
    · obtain ⟨v, h0, rfl⟩ := hS.dep 14 17 (by kernel_rfl) (by kernel_rfl)
      exact owed_call rfl (enters_of Tryz.func90 (by kernel_rfl) rfl) (by simp [Act.eval, h0]) (RF.behind hC _) (flag_part ⟨b, 13, none⟩ m.it.gone W (Rw.lt (hrW hC)) (Rw.cell (hrW hC) 13))
    · obtain ⟨v1, e1, g1, rfl, a1⟩ := hS.dep 3 6 (by kernel_rfl) (by kernel_rfl)
      obtain ⟨v2, e2, g2, h2, rfl, a2⟩ := hS.dep 7 10 (by kernel_rfl) (by kernel_rfl)
      obtain ⟨v3, e3, g3, h3, rfl, a3⟩ := hS.dep 11 14 (by kernel_rfl) (by kernel_rfl)
      obtain ⟨v4, e4, g4, h4, q4, n4, f4, rfl, a4⟩ := hS.dep 15 18 (by kernel_rfl) (by kernel_rfl)
      refine owed_run (by simp [execOp, Act.eval, gd e1, gd e2, gd e3, gd e4, run_slice4]; and_intros <;> rfl) ((Below.refl _ W).alloc (Nat.le_refl _) _) (RF.behind hC _) ?_
      have k0 : ∀ o : Obj, Kt T27 W (W.alloc o) := fun o => Kt.below ((Below.refl _ W).alloc (Nat.le_refl _) _)
      exact ⟨W.heap.size, _, _, _, _, _, _, _, _, rfl, Rw.new W _ _, IsT.kt ⟨g1, rfl, a1⟩ (k0 _) tp27, IsI.kt ⟨g2, h2, rfl, a2⟩ (k0 _) tp27, IsI.kt ⟨g3, h3, rfl, a3⟩ (k0 _) tp27, IsFl.kt ⟨g4, h4, q4, n4, f4, rfl, a4⟩ (k0 _) tp27⟩
    · obtain ⟨v, h0, g, p1, t1, p2, t2, p3, t3, p4, t4, rfl, hg, i1, i2, i3, i4⟩ := hS.dep 16 19 (by kernel_rfl) (by kernel_rfl)
      refine owed_call rfl (enters_of Tryz.func110 (by kernel_rfl) rfl) (by simp [Act.eval, h0]; and_intros <;> rfl) (RF.behind hC _) ((row_any _ _ _ W).mono ?_)
      rintro e W' ⟨s, rfl, hs, hb⟩
      refine ⟨_, rfl, ?_, hb⟩
      obtain ⟨g1, u1, a1⟩ := i1
      obtain ⟨g2, h2, u2, a2, c2⟩ := i2
      obtain ⟨g3, h3, u3, a3, c3⟩ := i3
      obtain ⟨g4, h4, q4, n4, f4, u4, a4, b4⟩ := i4
      cases u1; cases u2; cases u3; cases u4
      have k0 : Kt T27 W W' := Kt.below hb
      exact ⟨s, g, g1, g2, h2, g3, h3, g4, h4, q4, n4, f4, rfl, hs, hg.below hb, boxed_below a1 hb, boxed_below a2 hb, boxed_below c2 hb, boxed_below a3 hb, boxed_below c3 hb, a4.kt k0 tp27, b4⟩
  · intro a W hC hA
    obtain ⟨v, h0, s, g, g1, g2, h2, g3, h3, g4, h4, q4, n4, f4, rfl, hq⟩ := hA.facts 17 20 (by decide) (by kernel_rfl)
    have e2 : a.tmps.getD 2 undef = ptr w.heap.size := hA.base 2 (by kernel_rfl)
    have hz := hb0.size
    have hl := hr0.lt
    have hW := hr0.below hC
    refine wp_storeR (c := partC 128 129 #[ptr s] #[ptr s]) (.tmp 2) (.tmp 20) rfl (by simp [Act.eval, gd e2]) (by simp [Act.eval, gd h0]) aggP.hi hW rfl (part_one _ _ _ _) ?_
    rename_i K hK
    refine hK _ _ (wp_ret ?_)
    refine bodyPost_ret (results_cell_row rfl _ _ _ _ _ _ _ (by simp [Act.put, gd e2]) (hW.setRow (c' := partC 128 129 #[ptr s] #[ptr s])) Tryz.underlying71 rfl aggP.hi) (by simp [Act.put, hA.defers]) ⟨_, rfl, ⟨s, g, g1, g2, h2, g3, h3, g4, h4, q4, n4, f4, rfl, ?_⟩, below_setRow (hb0.trans (hC.mono hz)) (by omega) _⟩
    have k : Kt (fun t => t == 71) W (W.setRow w.heap.size (partC 128 129 #[ptr s] #[ptr s])) := Kt.setRow hW rfl _
    have ng : g ≠ w.heap.size := by rintro rfl; have := hq.rg.symm.trans hW; simp [pairC] at this
    have nq : q4 ≠ w.heap.size := by rintro rfl; have := hq.f4.rq.symm.trans hW; simp at this
    exact ⟨k.boxed hq.bs rfl, hq.rg.setRow_other ng, k.boxed hq.b1 rfl, k.boxed hq.b2 rfl, k.boxed hq.c2 rfl, k.boxed hq.b3 rfl, k.boxed hq.c3 rfl, ⟨k.boxed hq.f4.bg rfl, k.boxed hq.f4.bh rfl, k.boxed hq.f4.bn rfl, hq.f4.rq.setRow_other nq, k.boxed hq.f4.bf rfl⟩, hq.n4⟩
set_option maxHeartbeats 2000000 in
theorem kinds2 (b : Nat) (m : M) (lv : Value) (w : World) (hr : Rw w b 27 (m.c lv)) : Calls Tryz.prog 91 #[ptr b] w fun e w' => ∃ g, e = .returned (.slice (some ⟨g, 0, none⟩) 1 1) ∧ PartsAt w' b m g [.pair] ∧ Below w.heap.size w w' := by
  go_enter Tryz.func91, Tryz.ntmps91
  go_wp2_with fail
  refine (pair_any b m lv w hr).mono ?_
  rintro e w1 ⟨v, rfl, ⟨s, g, g1, g2, h2, g3, h3, g4, h4, q4, n4, f4, rfl, h1⟩, hb1⟩
  go_wp2_with (with_reducible show wpList _ _ _ (Oper.mk _ (Op.buildSlice _ _ _) _ _ _ _ :: _) _ _
               refine wpList_buildSlice rfl 94 71 1 _ rfl (partC 128 129 #[ptr s] #[ptr s]) _ _ (by kernel_rfl) rfl rfl (by decide) (by decide) (by kernel_rfl) ?_)
  exact bodyPost_ret (by simp [results, go_sem]) rfl ⟨w1.heap.size, rfl, PartsAt.one ⟨s, g, g1, g2, h2, g3, h3, g4, h4, q4, n4, f4, rfl, h1⟩, hb1.trans (((Below.refl _ w1).alloc (Nat.le_refl _) _).mono hb1.size)⟩
set_option maxHeartbeats 2000000 in
theorem kinds3 (b : Nat) (m : M) (lv : Value) (w : World) (hr : Rw w b 27 (m.c lv)) : Calls Tryz.prog 93 #[ptr b] w fun e w' => ∃ g, e = .returned (.slice (some ⟨g, 0, none⟩) 1 1) ∧ PartsAt w' b m g [.text] ∧ Below w.heap.size w w' := by
  go_enter Tryz.func93, Tryz.ntmps93
  go_wp2_with fail
  refine (text_part ⟨b, 10, none⟩ w).mono ?_
  rintro e w1 ⟨v, rfl, ⟨g, rfl, h1⟩, hb1⟩
  go_wp2_with (with_reducible show wpList _ _ _ (Oper.mk _ (Op.buildSlice _ _ _) _ _ _ _ :: _) _ _
               refine wpList_buildSlice rfl 94 71 1 _ rfl (partC 111 113 #[ptr g] #[ptr g]) _ _ (by kernel_rfl) rfl rfl (by decide) (by decide) (by kernel_rfl) ?_)
  exact bodyPost_ret (by simp [results, go_sem]) rfl ⟨w1.heap.size, rfl, PartsAt.one ⟨g, rfl, h1⟩, hb1.trans (((Below.refl _ w1).alloc (Nat.le_refl _) _).mono hb1.size)⟩
set_option maxHeartbeats 2000000 in
theorem kinds6 (b : Nat) (m : M) (lv : Value) (w : World) (hr : Rw w b 27 (m.c lv)) : Calls Tryz.prog 98 #[ptr b] w fun e w' => ∃ g, e = .returned (.slice (some ⟨g, 0, none⟩) 1 1) ∧ PartsAt w' b m g [.err] ∧ Below w.heap.size w w' := by
  go_enter Tryz.func98, Tryz.ntmps98
  go_wp2_with fail
  refine (numE_part ⟨b, 14, none⟩ 0 w).mono ?_
  rintro e w1 ⟨v, rfl, ⟨g, h, rfl, h1, h2⟩, hb1⟩
  go_wp2_with (with_reducible show wpList _ _ _ (Oper.mk _ (Op.buildSlice _ _ _) _ _ _ _ :: _) _ _
               refine wpList_buildSlice rfl 94 71 1 _ rfl (partC 119 120 #[ptr g, ptr h] #[ptr h, ptr g]) _ _ (by kernel_rfl) rfl rfl (by decide) (by decide) (by kernel_rfl) ?_)
  exact bodyPost_ret (by simp [results, go_sem]) rfl ⟨w1.heap.size, rfl, PartsAt.one ⟨g, h, rfl, h1, h2⟩, hb1.trans (((Below.refl _ w1).alloc (Nat.le_refl _) _).mono hb1.size)⟩
set_option maxHeartbeats 2000000 in
theorem kinds7 (b : Nat) (m : M) (lv : Value) (w : World) (hr : Rw w b 27 (m.c lv)) : Calls Tryz.prog 100 #[ptr b] w fun e w' => ∃ g, e = .returned (.slice (some ⟨g, 0, none⟩) 2 2) ∧ PartsAt w' b m g [.err, .side] ∧ Below w.heap.size w w' := by
  have hrW : ∀ {W : World}, Below w.heap.size w W → Rw W b 27 (m.c lv) := fun hb => (hb.block b hr.lt).trans hr
  have HR := Lib.hid hr
  clear hr
  go_enter Tryz.func100, Tryz.ntmps100
  go_wp2_with fail
  refine wp_region_all (RF [.val (ptr b), .val (ptr b), .val (.pointer (some ⟨b, 14, none⟩)), .part b m .err, .val (ptr b), .val (ptr b), .val (.pointer (some ⟨b, 14, none⟩)), .val (ptr b), .val (ptr b), .val (.pointer (some ⟨b, 10, none⟩)), .isP b (b2i m.it.gone), .part b m .side, .parts b m 2 [.err, .side], .parts b m 2 [.err, .side]])
    (fun W => Below w.heap.size w W) (by kernel_rfl) (by kernel_rfl) (Below.refl _ w).drew ?_ ?_
  · refine ⟨fun a W hC hS => ?_, fun a W hC hS => ?_, fun a W hC hS => ?_, fun a W hC hS => ?_, fun a W hC hS => ?_, fun a W hC hS => ?_, fun a W hC hS => ?_, fun a W hC hS => ?_, fun a W hC hS => ?_, fun a W hC hS => ?_, fun a W hC hS => ?_, fun a W hC hS => ?_, fun a W hC hS => ?_, fun a W hC hS => ?_, trivial⟩
    · have h0 : a.tmps.getD 0 undef = ptr b := hS.base 0 (by kernel_rfl)
      exact owed_pure (v := ptr b) (by simp [execOp, Act.eval, h0, go_sem]) hC rfl
    · obtain ⟨v, h0, rfl⟩ := hS.dep 0 3 (by kernel_rfl) (by kernel_rfl)
      exact owed_pure (v := ptr b) (by simp [execOp, Act.eval, h0, go_sem]) hC rfl
    · obtain ⟨v, h0, rfl⟩ := hS.dep 1 4 (by kernel_rfl) (by kernel_rfl)
      exact owed_pure (v := .pointer (some ⟨b, 14, none⟩)) (by simp [execOp, Act.eval, h0, go_sem]) hC rfl
    · obtain ⟨v, h0, rfl⟩ := hS.dep 2 5 (by kernel_rfl) (by kernel_rfl)
      exact owed_call rfl (enters_of Tryz.func99 (by kernel_rfl) rfl) (by simp [Act.eval, h0]) (RF.behind hC _) (numE_part ⟨b, 14, none⟩ 0 W)
    · have h0 : a.tmps.getD 0 undef = ptr b := hS.base 0 (by kernel_rfl)
      exact owed_pure (v := ptr b) (by simp [execOp, Act.eval, h0, go_sem]) hC rfl
    · obtain ⟨v, h0, rfl⟩ := hS.dep 4 7 (by kernel_rfl) (by kernel_rfl)
      exact owed_pure (v := ptr b) (by simp [execOp, Act.eval, h0, go_sem]) hC rfl
    · obtain ⟨v, h0, rfl⟩ := hS.dep 5 8 (by kernel_rfl) (by kernel_rfl)
      exact owed_pure (v := .pointer (some ⟨b, 14, none⟩)) (by simp [execOp, Act.eval, h0, go_sem]) hC rfl
    · have h0 : a.tmps.getD 0 undef = ptr b := hS.base 0 (by kernel_rfl)
      exact owed_pure (v := ptr b) (by simp [execOp, Act.eval, h0, go_sem]) hC rfl
    · obtain ⟨v, h0, rfl⟩ := hS.dep 7 10 (by kernel_rfl) (by kernel_rfl)
      exact owed_pure (v := ptr b) (by simp [execOp, Act.eval, h0, go_sem]) hC rfl
    · obtain ⟨v, h0, rfl⟩ := hS.dep 8 11 (by kernel_rfl) (by kernel_rfl)
      exact owed_pure (v := .pointer (some ⟨b, 10, none⟩)) (by simp [execOp, Act.eval, h0, go_sem]) hC rfl
    · obtain ⟨v, h0, rfl⟩ := hS.dep 9 12 (by kernel_rfl) (by kernel_rfl)
      exact owed_call rfl (enters_of Tryz.func92 (by kernel_rfl) rfl) (by simp [Act.eval, h0]) (RF.behind hC _) (pair_any b m lv W (hrW hC))
    · obtain ⟨v, h0, rfl⟩ := hS.dep 6 9 (by kernel_rfl) (by kernel_rfl)
      obtain ⟨u, h1, s, g, g1, g2, h2, g3, h3, g4, h4, q4, n4, f4, rfl, hq⟩ := hS.dep 10 13 (by kernel_rfl) (by kernel_rfl)
      refine owed_call rfl (enters_of Tryz.func101 (by kernel_rfl) rfl) (by simp [Act.eval, h0, h1]; and_intros <;> rfl) (RF.behind hC _) ((side_any ⟨b, 14, none⟩ _ _ _ _ W).mono ?_)
      rintro e W' ⟨c, r, rfl, hc, hr, hb⟩
      exact ⟨_, rfl, ⟨c, r, s, rfl, hc, hr, s, g, g1, g2, h2, g3, h3, g4, h4, q4, n4, f4, rfl, hq.kt (Kt.below hb) tp27⟩, hb⟩
    · obtain ⟨v, h0, hp0⟩ := hS.dep 3 6 (by kernel_rfl) (by kernel_rfl)
      obtain ⟨u, h1, hp1⟩ := hS.dep 11 14 (by kernel_rfl) (by kernel_rfl)
      replace hp0 : PartIs W b m v .err := hp0
      replace hp1 : PartIs W b m u .side := hp1
      obtain ⟨f1, t1, cp1, ct1, rfl⟩ := PartIs.form hp0
      obtain ⟨f2, t2, cp2, ct2, rfl⟩ := PartIs.form hp1
      exact owed_run (by simp [execOp, Act.eval, gd h0, gd h1, run_slice2]) ((Below.refl _ W).alloc (Nat.le_refl _) _) (RF.behind hC _) ⟨_, rfl, PartsAt.two hp0 hp1⟩
    · obtain ⟨v, h0, g, rfl, hp⟩ := hS.dep 12 15 (by kernel_rfl) (by kernel_rfl)
      exact owed_pure (v := .slice (some ⟨g, 0, none⟩) 2 2) (by simp [execOp, Act.eval, h0, go_sem]) hC ⟨g, rfl, hp⟩
  · intro a W hC hA
    obtain ⟨v, h0, g, rfl, hp⟩ := hA.facts 13 2 (by decide) (by kernel_rfl)
    rename_i K hK
    exact hK a W (wp_ret (done_slot 2 rfl h0 hA.defers ⟨g, rfl, hp, hC⟩))
end Go.Proofs.YtaacjpcckinaiaaGreat
