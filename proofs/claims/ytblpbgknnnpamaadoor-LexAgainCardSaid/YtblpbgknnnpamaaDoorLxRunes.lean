/- Runes of a text: one by one, whatever the fuel and whatever stands behind; a rune that is decoded is encoded as it was. -/
import Derived.Test.YtblpbgknnnpamaaDoorLxDef
namespace Go.Proofs.YtblpbgknnnpamaaDoor
set_option linter.unusedVariables false

theorem val_fuel : ∀ (f g : Nat) (l : Nm), l.length ≤ f → l.length ≤ g → Lib.validGoD f l = Lib.validGoD g l
  | 0, g, l, h, _ => by
    obtain rfl : l = [] := List.eq_nil_of_length_eq_zero (by omega)
    cases g <;> simp [Lib.validGoD]
  | f + 1, 0, l, _, h => by
    obtain rfl : l = [] := List.eq_nil_of_length_eq_zero (by omega)
    simp [Lib.validGoD]
  | f + 1, g + 1, l, h1, h2 => by
    have w := dec_w l
    rw [Lib.validGoD, Lib.validGoD]
    by_cases hl : l = []
    · simp [hl]
    · rw [if_neg hl, if_neg hl, val_fuel f g _ (by rw [List.length_drop]; omega) (by rw [List.length_drop]; omega)]
theorem run_fuel : ∀ (f g : Nat) (b : Bool) (l : Nm), l.length ≤ f → l.length ≤ g → runesB f b l = runesB g b l
  | 0, g, b, l, h, _ => by
    obtain rfl : l = [] := List.eq_nil_of_length_eq_zero (by omega)
    rw [runesB_nil, runesB_nil]
  | f + 1, 0, b, l, _, h => by
    obtain rfl : l = [] := List.eq_nil_of_length_eq_zero (by omega)
    rw [runesB_nil, runesB_nil]
  | f + 1, g + 1, b, l, h1, h2 => by
    have w := dec_w l
    by_cases hl : l = []
    · subst hl; rw [runesB_nil, runesB_nil]
    · rw [runesB_step _ _ _ hl, runesB_step _ _ _ hl, run_fuel f g _ _ (by rw [List.length_drop]; omega) (by rw [List.length_drop]; omega)]
/-- Of right runes, that may stand there? -/
def J (b : Bool) (l : Nm) : Bool := Lib.validGoD l.length l && runesB l.length b l
theorem J_nil (b : Bool) : J b [] = true := by simp [J, Lib.validGoD, runesB]
theorem J_step (b : Bool) (l : Nm) (h : l ≠ []) : J b l = (!decide ((Lib.decodeL l).1 = 65533 ∧ (Lib.decodeL l).2 = 1) && (begB ((Lib.decodeL l).1 : Int) || (!b && digB ((Lib.decodeL l).1 : Int))) && J false (l.drop (Lib.decodeL l).2)) := by
  have w := dec_w l
  obtain ⟨n, hn⟩ : ∃ n, l.length = n + 1 := ⟨l.length - 1, by have := List.length_pos_iff.2 h; omega⟩
  unfold J
  rw [hn, Lib.validGoD, if_neg h, runesB_step _ _ _ h]
  rw [val_fuel n (l.drop (Lib.decodeL l).2).length _ (by rw [List.length_drop]; omega) (Nat.le_refl _), run_fuel n (l.drop (Lib.decodeL l).2).length _ _ (by rw [List.length_drop]; omega) (Nat.le_refl _)]
  by_cases hb : (Lib.decodeL l).1 = 65533 ∧ (Lib.decodeL l).2 = 1
  · rw [if_pos hb, decide_eq_true hb]; simp
  · rw [if_neg hb, decide_eq_false hb]
    generalize Lib.validGoD _ _ = x
    generalize runesB _ _ _ = y
    generalize (begB _ || _) = z
    cases x <;> cases y <;> cases z <;> rfl
theorem nameB_J (l : Nm) : nameB l = (decide (l ≠ []) && decide (l.length ≤ 24) && !(l == wWithin) && !(l == wBy) && J true l) := by
  unfold nameB J Lib.validD
  simp [Bool.and_assoc]

/-- The first bytes are a rune. -/
def okR (l : Nm) : Prop := l ≠ [] ∧ ¬ ((Lib.decodeL l).1 = 65533 ∧ (Lib.decodeL l).2 = 1)
theorem byteN {n : Nat} {b : UInt8} (h : n = b.toNat) : UInt8.ofNat n = b := by subst h; simp
theorem dec_shape {l : Nm} (h : okR l) : let b := fun i => (l.getD i 0).toNat; let r := (Lib.decodeL l).1; let d := (Lib.decodeL l).2
    (b 0 < 128 ∧ r = b 0 ∧ d = 1 ∧ l.take d = [l.getD 0 0]) ∨
    (b 0 / 32 = 6 ∧ b 1 / 64 = 2 ∧ r = b 0 % 32 * 64 + b 1 % 64 ∧ 128 ≤ r ∧ d = 2 ∧ l.take d = [l.getD 0 0, l.getD 1 0]) ∨
    (b 0 / 16 = 14 ∧ b 1 / 64 = 2 ∧ b 2 / 64 = 2 ∧ r = b 0 % 16 * 4096 + b 1 % 64 * 64 + b 2 % 64 ∧ 2048 ≤ r ∧ (r < 55296 ∨ 57344 ≤ r) ∧ d = 3 ∧ l.take d = [l.getD 0 0, l.getD 1 0, l.getD 2 0]) ∨
    (b 0 / 8 = 30 ∧ b 1 / 64 = 2 ∧ b 2 / 64 = 2 ∧ b 3 / 64 = 2 ∧ r = b 0 % 8 * 262144 + b 1 % 64 * 4096 + b 2 % 64 * 64 + b 3 % 64 ∧ 65536 ≤ r ∧ r ≤ 1114111 ∧ d = 4 ∧ l.take d = [l.getD 0 0, l.getD 1 0, l.getD 2 0, l.getD 3 0]) := by
  intro b r d
  obtain ⟨hne, hv⟩ := h
  have hl : 0 < l.length := List.length_pos_iff.2 hne
  have e : Lib.decodeL l = Lib.decodeN l.length (b 0) (b 1) (b 2) (b 3) := Lib.decodeL_N l
  rcases Lib.decodeN_shape l.length (b 0) (b 1) (b 2) (b 3) with ⟨c, x⟩ | ⟨c1, c2, c3, cv, x⟩ | ⟨c1, c2, c3, c4, cv, cs, x⟩ | ⟨c1, c2, c3, c4, c5, cv, cw, x⟩ | x
  all_goals rw [x] at e
  · exact .inl ⟨c, by simp only [r, e], by simp only [d, e], by simp only [d, e]; exact Lib.takeA l hl⟩
  · exact .inr (.inl ⟨c1, c3, by simp only [r, e], by simp only [r, e]; exact cv, by simp only [d, e], by simp only [d, e]; exact Lib.takeB l c2⟩)
  · exact .inr (.inr (.inl ⟨c1, c3, c4, by simp only [r, e], by simp only [r, e]; exact cv, by simp only [r, e]; exact cs, by simp only [d, e], by simp only [d, e]; exact Lib.takeC l c2⟩))
  · exact .inr (.inr (.inr ⟨c1, c3, c4, c5, by simp only [r, e], by simp only [r, e]; exact cv, by simp only [r, e]; exact cw, by simp only [d, e], by simp only [d, e]; exact Lib.takeD l c2⟩))
  · exact absurd (by rw [e]; exact ⟨rfl, rfl⟩) hv
/-- What stands behind a rune is of no matter. -/
theorem dec_take {l : Nm} (h : okR l) (x : Nm) : Lib.decodeL (l.take (Lib.decodeL l).2 ++ x) = Lib.decodeL l := by
  have hs := dec_shape h
  simp only at hs
  obtain ⟨r, hr⟩ : ∃ r, (Lib.decodeL l).1 = r := ⟨_, rfl⟩
  obtain ⟨d, hd⟩ : ∃ d, (Lib.decodeL l).2 = d := ⟨_, rfl⟩
  have hp : Lib.decodeL l = (r, d) := Prod.ext hr hd
  rw [hr, hd] at hs
  rw [hp]
  dsimp only
  rcases hs with ⟨c, e, e2, t⟩ | ⟨c1, c2, e, cv, e2, t⟩ | ⟨c1, c2, c3, e, cv, cs, e2, t⟩ | ⟨c1, c2, c3, c4, e, cv, cw, e2, t⟩
  all_goals
    rw [t, Lib.decodeL_N]
    simp only [List.cons_append, List.nil_append, List.getD_cons_zero, List.getD_cons_succ, List.length_cons]
    generalize (l.getD 0 0).toNat = b0 at *
    generalize (l.getD 1 0).toNat = b1 at *
    generalize (l.getD 2 0).toNat = b2 at *
    generalize (l.getD 3 0).toNat = b3 at *
  · rw [Lib.decodeN_ascii _ _ _ _ _ c, e, e2]
  · unfold Lib.decodeN
    rw [if_neg (by omega), if_pos (by omega), if_pos (by omega), e, e2]
  · unfold Lib.decodeN
    rw [if_neg (by omega), if_neg (by omega), if_pos (by omega), if_pos (by omega), e, e2]
  · unfold Lib.decodeN
    rw [if_neg (by omega), if_neg (by omega), if_neg (by omega), if_pos (by omega), if_pos (by omega), e, e2]
theorem dec_app {l : Nm} (h : okR l) (x : Nm) : Lib.decodeL (l ++ x) = Lib.decodeL l := by
  have := dec_take h (l.drop (Lib.decodeL l).2 ++ x)
  rwa [← List.append_assoc, List.take_append_drop] at this
theorem dec_le {l : Nm} (h : l ≠ []) : (Lib.decodeL l).2 ≤ l.length := Lib.decodeL_le l h
theorem okR_app {l : Nm} (h : okR l) (x : Nm) : okR (l ++ x) := ⟨by simp [h.1], by rw [dec_app h]; exact h.2⟩
theorem okR_take {l : Nm} (h : okR l) (x : Nm) : okR (l.take (Lib.decodeL l).2 ++ x) := by
  refine ⟨?_, by rw [dec_take h]; exact h.2⟩
  have := dec_w l
  cases l with
  | nil => exact absurd rfl h.1
  | cons a t =>
    intro e
    have := congrArg List.length e
    simp at this
    omega
set_option maxRecDepth 100000 in
theorem enc_dec {l : Nm} (h : okR l) : enc (Lib.decodeL l).1 = l.take (Lib.decodeL l).2 := by
  have hs := dec_shape h
  simp only at hs
  have k0 := (l.getD 0 0).toNat_lt
  have k1 := (l.getD 1 0).toNat_lt
  have k2 := (l.getD 2 0).toNat_lt
  have k3 := (l.getD 3 0).toNat_lt
  generalize (Lib.decodeL l).1 = r at *
  have hv : Utf8.valid (r : Int) = true := by
    simp only [Utf8.valid, Bool.or_eq_true, Bool.and_eq_true, decide_eq_true_eq]
    omega
  have e : ((r : Int)).toNat = r := Int.toNat_natCast r
  unfold enc Utf8.encode
  rw [hv]
  simp only [if_true, e]
  rcases hs with ⟨c, e, e2, t⟩ | ⟨c1, c2, e, cv, e2, t⟩ | ⟨c1, c2, c3, e, cv, cs, e2, t⟩ | ⟨c1, c2, c3, c4, e, cv, cw, e2, t⟩
  · rw [t, if_pos (by omega), byteN (b := l.getD 0 0) (by omega)]
  · rw [t, if_neg (by omega), if_pos (by omega), byteN (b := l.getD 0 0) (by omega), byteN (b := l.getD 1 0) (by omega)]
  · rw [t, if_neg (by omega), if_neg (by omega), if_pos (by omega), byteN (b := l.getD 0 0) (by omega), byteN (b := l.getD 1 0) (by omega), byteN (b := l.getD 2 0) (by omega)]
  · rw [t, if_neg (by omega), if_neg (by omega), if_neg (by omega), byteN (b := l.getD 0 0) (by omega), byteN (b := l.getD 1 0) (by omega), byteN (b := l.getD 2 0) (by omega), byteN (b := l.getD 3 0) (by omega)]
/-- A letter begins a name. -/
theorem bn_yes {l : Nm} (h : okR l) (hb : begB ((Lib.decodeL l).1 : Int) = true) : bnB l = true := by
  have hs := dec_shape h
  simp only at hs
  have ht := dec_take h []
  have ho := okR_take h []
  rw [List.append_nil] at ht ho
  have hj : J true (l.take (Lib.decodeL l).2) = true := by
    rw [J_step _ _ ho.1, ht, hb, decide_eq_false h.2, List.drop_of_length_le (by rw [List.length_take]; omega), J_nil]
    rfl
  have hlen : (l.take (Lib.decodeL l).2).length ≤ 4 := by rw [List.length_take]; omega
  unfold bnB
  rw [enc_dec h, nameB_J, hj]
  have h6 : (l.take (Lib.decodeL l).2 == wWithin) = false := by
    rw [beq_eq_false_iff_ne]
    intro e
    rw [e] at hlen
    simp [wWithin] at hlen
  have h2 : (l.take (Lib.decodeL l).2 == wBy) = false := by
    rw [beq_eq_false_iff_ne]
    intro e
    rcases hs with ⟨c, e1, e2, t⟩ | ⟨c1, c2, e1, cv, e2, t⟩ | ⟨c1, c2, c3, e1, cv, cs, e2, t⟩ | ⟨c1, c2, c3, c4, e1, cv, cw, e2, t⟩
    · rw [t] at e; simp [wBy] at e
    · rw [t] at e
      have := (List.cons.inj e).1
      rw [this] at c1
      simp at c1
    · rw [t] at e; simp [wBy] at e
    · rw [t] at e; simp [wBy] at e
  have hp : (l.take (Lib.decodeL l).2).isPrefixOf l = true := by rw [List.isPrefixOf_iff_prefix]; exact List.take_prefix _ _
  rw [h6, h2, decide_eq_true ho.1, decide_eq_true (show (l.take (Lib.decodeL l).2).length ≤ 24 by omega), hp]
  rfl
/-- A byte below 128. -/
theorem dec_ascii {b : UInt8} (h : b.toNat < 128) (t : Nm) : Lib.decodeL (b :: t) = (b.toNat, 1) := Lib.decodeL_ascii b t h
theorem ok_ascii {b : UInt8} (h : b.toNat < 128) (t : Nm) : okR (b :: t) := ⟨by simp, by rw [dec_ascii h]; simp only; omega⟩
theorem enc_ascii {b : UInt8} (h : b.toNat < 128) : enc b.toNat = [b] := by
  have := enc_dec (ok_ascii h [])
  rw [dec_ascii h] at this
  simpa using this
set_option maxRecDepth 100000 in
theorem name_ascii : ∀ b : Fin 128, nameB [UInt8.ofNat b.val] = begB (b.val : Int) := by decide +kernel
theorem bn_ascii {b : UInt8} (h : b.toNat < 128) (t : Nm) : bnB (b :: t) = begB (b.toNat : Int) := by
  unfold bnB
  rw [dec_ascii h]
  dsimp only
  rw [enc_ascii h]
  have := name_ascii ⟨b.toNat, h⟩
  simp only [UInt8.ofNat_toNat] at this
  rw [this]
  simp
/-- A rune below 128 is its byte. -/
theorem ascii_of {l : Nm} (h : l ≠ []) (hr : (Lib.decodeL l).1 < 128) : ∃ b t, l = b :: t ∧ b.toNat = (Lib.decodeL l).1 ∧ (Lib.decodeL l).2 = 1 := by
  have ho : okR l := ⟨h, fun x => by omega⟩
  have hs := dec_shape ho
  simp only at hs
  cases l with
  | nil => exact absurd rfl h
  | cons b t =>
    rcases hs with ⟨c, e1, e2, _⟩ | ⟨c1, c2, e1, cv, e2, _⟩ | ⟨c1, c2, c3, e1, cv, cs, e2, _⟩ | ⟨c1, c2, c3, c4, e1, cv, cw, e2, _⟩
    · exact ⟨b, t, rfl, by rw [e1]; rfl, e2⟩
    all_goals omega
end Go.Proofs.YtblpbgknnnpamaaDoor
