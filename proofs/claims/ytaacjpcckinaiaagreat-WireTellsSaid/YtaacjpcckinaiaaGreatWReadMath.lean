/- Reading a message part by part: what is known on the way. -/
import Derived.Test.YtaacjpcckinaiaaGreatWPut
import Derived.Test.YtaacjpcckinaiaaGreatWTake
set_option linter.unusedVariables false
set_option maxRecDepth 100000
set_option linter.unusedSimpArgs false
namespace Go.Proofs.YtaacjpcckinaiaaGreat
open Go.RowKit Go.Shelf Ms

theorem takeN_len : ∀ (k : Nat) (bs : List UInt8), (Num.takeN k bs).2.1.length ≤ bs.length
  | 0, bs => Nat.le_refl _
  | k + 1, bs => by
    unfold Num.takeN
    have ih := takeN_len k (bs.drop (Num.takeE bs).2.1)
    have hd : (bs.drop (Num.takeE bs).2.1).length ≤ bs.length := by simp
    dsimp only
    by_cases h1 : (Num.takeE bs).2.2 = 0
    · rw [if_pos h1]
      by_cases h2 : (Num.takeN k (bs.drop (Num.takeE bs).2.1)).2.2 = 0
      · rw [if_pos h2]
        exact Nat.le_trans ih hd
      · rw [if_neg h2]
        exact Nat.zero_le _
    · rw [if_neg h1]
      exact Nat.zero_le _
theorem takeL_len (bs : List UInt8) : (Num.takeL bs).2.1.length ≤ bs.length := by
  cases bs with
  | nil => simp [Num.takeL]
  | cons h t =>
    have := takeN_len h.toNat t
    show (Num.takeN h.toNat t).2.1.length ≤ t.length + 1
    omega
theorem tI_len {bs : List UInt8} {r : Int × List UInt8} (h : tI bs = some r) : r.2.length ≤ bs.length := by
  unfold tI at h
  split at h
  · injection h with h; subst h; exact restT_len bs
  · cases h
theorem tT_len {bs : List UInt8} {r : ByteArray × List UInt8} (h : tT bs = some r) : r.2.length ≤ bs.length := by
  unfold tT at h
  split at h
  · injection h with h; subst h; exact takeT_len bs
  · cases h
theorem tL_len {bs : List UInt8} {r : List Int × List UInt8} (h : tL bs = some r) : r.2.length ≤ bs.length := by
  unfold tL at h
  split at h
  · injection h with h; subst h; exact takeL_len bs
  · cases h
theorem tP_len {bs : List UInt8} {r : It × List UInt8} (h : tP bs = some r) : r.2.length ≤ bs.length := by
  unfold tP at h
  obtain ⟨s, h1, h⟩ := Option.bind_eq_some_iff.1 h
  obtain ⟨a, h2, h⟩ := Option.bind_eq_some_iff.1 h
  obtain ⟨b, h3, h⟩ := Option.bind_eq_some_iff.1 h
  obtain ⟨c, h4, h⟩ := Option.map_eq_some_iff.1 h
  subst h
  have := tT_len h1
  have := tI_len h2
  have := tI_len h3
  have := tI_len h4
  show c.2.length ≤ _
  omega
theorem takeD_len {d : D} {m : M} {l : List Int} {bs : List UInt8} {r : M × List Int × List UInt8} (h : takeD d m l bs = some r) : r.2.2.length ≤ bs.length := by
  cases d <;> simp only [takeD] at h
  case side =>
    split at h
    · obtain ⟨c, h4, h⟩ := Option.map_eq_some_iff.1 h
      subst h; exact tP_len h4
    · injection h with h; subst h; exact Nat.le_refl _
  all_goals obtain ⟨c, h4, h⟩ := Option.map_eq_some_iff.1 h
  all_goals subst h
  all_goals first | exact tI_len h4 | exact tT_len h4 | exact tL_len h4 | exact tP_len h4
theorem takeD_kind {d : D} {m : M} {l : List Int} {bs : List UInt8} {r : M × List Int × List UInt8} (h : takeD d m l bs = some r) (hk : 0 ≤ m.kind) : 0 ≤ r.1.kind := by
  cases d <;> simp only [takeD] at h
  case side =>
    split at h
    · obtain ⟨c, h4, h⟩ := Option.map_eq_some_iff.1 h
      subst h; exact hk
    · injection h with h; subst h; exact hk
  all_goals obtain ⟨c, h4, h⟩ := Option.map_eq_some_iff.1 h
  all_goals subst h
  case u8 => exact Int.emod_nonneg _ (by decide)
  case int o more => unfold seti; split <;> exact hk
  case flag o => unfold setb; split <;> exact hk
  all_goals exact hk
theorem takeD_list {d : D} {m : M} {bs : List UInt8} {r : M × List Int × List UInt8} (h : takeD d m [] bs = some r) (hd : d = .list → False) : r.2.1 = [] := by
  cases d <;> simp only [takeD] at h
  case list => exact (hd rfl).elim
  case side =>
    split at h
    · obtain ⟨c, h4, h⟩ := Option.map_eq_some_iff.1 h
      subst h; rfl
    · injection h with h; subst h; rfl
  all_goals obtain ⟨c, h4, h⟩ := Option.map_eq_some_iff.1 h
  all_goals subst h
  all_goals rfl
theorem okT_of {d : D} {k : Int} (h : d ∈ heads ++ tail k) : OkT d := by
  rcases List.mem_append.1 h with h | h
  · simp only [heads, List.mem_cons, List.not_mem_nil, or_false] at h
    rcases h with rfl | rfl | rfl | rfl
    · trivial
    all_goals exact ⟨rfl, by decide, by decide⟩
  · unfold tail at h
    repeat' split at h
    all_goals simp only [List.mem_cons, List.not_mem_nil, or_false] at h
    all_goals first | cases h | skip
    all_goals first | trivial | rfl | exact ⟨rfl, by decide, by decide⟩ | (rename_i h; subst h; first | trivial | rfl | exact ⟨rfl, by decide, by decide⟩)
/-- What has been read when a part is asked for. -/
def GR (bs : List UInt8) (s : List D) (m0 : M) : Prop := ∃ l r, parse s noM [] bs = some (m0, l, r)
theorem next_mem_r {bs : List UInt8} {s : List D} {d : D} (h : NextOf (GR bs) s d) : ∃ k, (s ++ [d]) <+: heads ++ tail k := by
  rcases h with h | ⟨m0, _, -, h⟩
  · exact ⟨0, h.trans (List.prefix_append _ _)⟩
  · exact ⟨m0.kind, h⟩
theorem heads_list : D.list ∉ heads := by unfold heads; simp
theorem tail_list (k : Int) : ∀ (t : List D) (d : D), (t ++ [d]) <+: tail k → D.list ∉ t := by
  intro t d h hm
  unfold tail at h
  repeat' split at h
  all_goals obtain ⟨u, hu⟩ := h
  all_goals rcases t with _ | ⟨a, _ | ⟨b, t⟩⟩
  all_goals simp at hu hm
  all_goals simp_all
/-- The list is the last of its message's parts. -/
theorem next_list {s : List D} {d : D} {k : Int} (h : (s ++ [d]) <+: heads ++ tail k) : D.list ∉ s := by
  intro hm
  by_cases hs : s.length < 4
  · have h1 : s <+: heads ++ tail k := (List.prefix_append s [d]).trans h
    have h2 : s <+: heads := List.prefix_of_prefix_length_le h1 (List.prefix_append _ _) (by show s.length ≤ 4; omega)
    exact heads_list (h2.subset hm)
  · have h1 : s <+: heads ++ tail k := (List.prefix_append s [d]).trans h
    have h2 : heads <+: s := List.prefix_of_prefix_length_le (List.prefix_append _ _) h1 (by show 4 ≤ s.length; omega)
    obtain ⟨t, rfl⟩ := h2
    rw [List.append_assoc] at h
    have h3 : (t ++ [d]) <+: tail k := (List.prefix_append_right_inj heads).1 h
    rcases List.mem_append.1 hm with h4 | h4
    · exact heads_list h4
    · exact tail_list k t d h3 h4
theorem parse_pre {s : List D} {d : D} {t : List D} {bs : List UInt8} (h : (s ++ [d]) <+: t) (hn : parse (s ++ [d]) noM [] bs = none) : parse t noM [] bs = none := by
  obtain ⟨u, rfl⟩ := h
  rw [parse_append, hn]
  rfl
/-- Where a part can't be taken there is no message. -/
theorem read_none {bs : List UInt8} {s : List D} {d : D} {m : M} {bs' : List UInt8} (hs : parse s noM [] bs = some (m, [], bs')) (hx : NextOf (GR bs) s d) (hd : takeD d m [] bs' = none) : readF bs = none := by
  have hn : parse (s ++ [d]) noM [] bs = none := by rw [parse_snoc, hs]; exact hd
  unfold readF
  split
  · rfl
  · rcases hx with h | ⟨m0, ⟨l0, r0, h0⟩, -, h⟩
    · rw [parse_pre h hn]; rfl
    · have := parse_pre h hn
      rw [parse_append, h0] at this
      rw [h0]
      simp only [Option.bind_some] at this ⊢
      rw [this]
      rfl
/-- What comes of a payload that was taken to its end. -/
theorem read_end {bs : List UInt8} {m m0 : M} {l : List Int} {r : List UInt8} (hl : bs.length ≤ 46) (h0 : GR bs heads m0) (hs : parse (heads ++ tail m0.kind) noM [] bs = some (m, l, r)) : readF bs = if rightB m l = true ∧ payB m l = bs then some (m, l) else none := by
  obtain ⟨l0, r0, h0⟩ := h0
  rw [parse_append, h0] at hs
  unfold readF
  rw [if_neg (by omega), h0]
  simp only [Option.bind_some] at hs ⊢
  rw [hs]
  rfl
end Go.Proofs.YtaacjpcckinaiaaGreat
