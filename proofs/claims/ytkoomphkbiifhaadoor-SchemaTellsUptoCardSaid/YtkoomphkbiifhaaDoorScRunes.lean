/- Runes of a text: one by one, whatever the fuel; a rune that is encoded is decoded as it was. -/
import Derived.Test.YtkoomphkbiifhaaDoorScIsName
import Derived.Lib.TrimUEq
import Derived.Lib.ValidU
namespace Go.Proofs.YtkoomphkbiifhaaDoor
set_option linter.unusedVariables false

theorem dec_w (l : Nm) : 1 ≤ (Lib.decodeL l).2 := Lib.decodeL_width l
theorem val_fuel : ∀ (f g : Nat) (l : Nm), l.length ≤ f → l.length ≤ g → Lib.validGoD f l = Lib.validGoD g l
  | 0, g, l, h, _ => by
    obtain rfl : l = [] := List.eq_nil_of_length_eq_zero (by omega)
    cases g <;> simp [Lib.validGoD]
  | f + 1, 0, l, _, h => by
    obtain rfl : l = [] := List.eq_nil_of_length_eq_zero (by omega)
    simp [Lib.validGoD]
  | f + 1, g + 1, l, h1, h2 => by
    have w := dec_w l
    rw [Lib.validGoD, Lib.validGoD]
    by_cases hl : l = []
    · simp [hl]
    · rw [if_neg hl, if_neg hl, val_fuel f g _ (by rw [List.length_drop]; omega) (by rw [List.length_drop]; omega)]
theorem run_fuel : ∀ (f g : Nat) (b : Bool) (l : Nm), l.length ≤ f → l.length ≤ g → runesB f b l = runesB g b l
  | 0, g, b, l, h, _ => by
    obtain rfl : l = [] := List.eq_nil_of_length_eq_zero (by omega)
    rw [runesB_nil, runesB_nil]
  | f + 1, 0, b, l, _, h => by
    obtain rfl : l = [] := List.eq_nil_of_length_eq_zero (by omega)
    rw [runesB_nil, runesB_nil]
  | f + 1, g + 1, b, l, h1, h2 => by
    have w := dec_w l
    by_cases hl : l = []
    · subst hl; rw [runesB_nil, runesB_nil]
    · rw [runesB_step _ _ _ hl, runesB_step _ _ _ hl, run_fuel f g _ _ (by rw [List.length_drop]; omega) (by rw [List.length_drop]; omega)]
/-- Of right runes, that may stand there? -/
def J (b : Bool) (l : Nm) : Bool := Lib.validGoD l.length l && runesB l.length b l
theorem J_nil (b : Bool) : J b [] = true := by simp [J, Lib.validGoD, runesB]
theorem J_step (b : Bool) (l : Nm) (h : l ≠ []) : J b l = (!decide ((Lib.decodeL l).1 = 65533 ∧ (Lib.decodeL l).2 = 1) && (begB ((Lib.decodeL l).1 : Int) || (!b && digB ((Lib.decodeL l).1 : Int))) && J false (l.drop (Lib.decodeL l).2)) := by
  have w := dec_w l
  obtain ⟨n, hn⟩ : ∃ n, l.length = n + 1 := ⟨l.length - 1, by have := List.length_pos_iff.2 h; omega⟩
  unfold J
  rw [hn, Lib.validGoD, if_neg h, runesB_step _ _ _ h]
  rw [val_fuel n (l.drop (Lib.decodeL l).2).length _ (by rw [List.length_drop]; omega) (Nat.le_refl _), run_fuel n (l.drop (Lib.decodeL l).2).length _ _ (by rw [List.length_drop]; omega) (Nat.le_refl _)]
  by_cases hb : (Lib.decodeL l).1 = 65533 ∧ (Lib.decodeL l).2 = 1
  · rw [if_pos hb, decide_eq_true hb]; simp
  · rw [if_neg hb, decide_eq_false hb]
    generalize Lib.validGoD _ _ = x
    generalize runesB _ _ _ = y
    generalize (begB _ || _) = z
    cases x <;> cases y <;> cases z <;> rfl
theorem nameB_J (l : Nm) : nameB l = (decide (l ≠ []) && decide (l.length ≤ 24) && !(l == wWithin) && !(l == wBy) && J true l) := by
  unfold nameB J Lib.validD
  simp [Bool.and_assoc]

/-- Runes that the statement makes. -/
def Good (r : Nat) : Prop := (97 ≤ r ∧ r ≤ 122) ∨ (128 ≤ r ∧ r < 55296) ∨ (57344 ≤ r ∧ r ≤ 65535)
def enc (r : Nat) : Nm := (Utf8.encode (r : Int)).data.toList
theorem u8of {n : Nat} (h : n < 256) : (UInt8.ofNat n).toNat = n := UInt8.toNat_ofNat_of_lt' h
set_option maxRecDepth 1000000 in
theorem enc_cases {r : Nat} (h : Good r) : (r < 128 ∧ enc r = [UInt8.ofNat r]) ∨ (128 ≤ r ∧ r < 2048 ∧ enc r = [UInt8.ofNat (192 + r / 64), UInt8.ofNat (128 + r % 64)]) ∨
    (2048 ≤ r ∧ enc r = [UInt8.ofNat (224 + r / 4096), UInt8.ofNat (128 + r / 64 % 64), UInt8.ofNat (128 + r % 64)]) := by
  have hv : Utf8.valid (r : Int) = true := by
    unfold Good at h
    simp only [Utf8.valid, Bool.or_eq_true, Bool.and_eq_true, decide_eq_true_eq]
    omega
  have e : ((r : Int)).toNat = r := Int.toNat_natCast r
  unfold enc Utf8.encode
  rw [hv]
  simp only [if_true, e]
  by_cases h1 : r < 128
  · exact .inl ⟨h1, by rw [if_pos h1]⟩
  · rw [if_neg h1]
    by_cases h2 : r < 2048
    · exact .inr (.inl ⟨by omega, h2, by rw [if_pos h2]⟩)
    · refine .inr (.inr ⟨by omega, ?_⟩)
      rw [if_neg h2, if_pos (by unfold Good at h; omega)]
theorem dec_enc {r : Nat} (h : Good r) (t : Nm) : Lib.decodeL (enc r ++ t) = (r, (enc r).length) ∧ 1 ≤ (enc r).length ∧ (enc r).length ≤ 3 ∧ (r = 65533 → (enc r).length = 3) := by
  have hg := h
  unfold Good at hg
  rcases enc_cases h with ⟨h1, e⟩ | ⟨h1, h2, e⟩ | ⟨h1, e⟩
  · rw [e, Lib.decodeL_N]
    refine ⟨?_, by simp, by simp, fun _ => by omega⟩
    simp only [List.cons_append, List.nil_append, List.getD_cons_zero, u8of (show r < 256 by omega)]
    unfold Lib.decodeN
    rw [if_pos (by omega)]
    rfl
  · rw [e, Lib.decodeL_N]
    refine ⟨?_, by simp, by simp, fun _ => by omega⟩
    simp only [List.cons_append, List.nil_append, List.getD_cons_zero, List.getD_cons_succ, u8of (show 192 + r / 64 < 256 by omega), u8of (show 128 + r % 64 < 256 by omega), List.length_cons, List.length_nil]
    unfold Lib.decodeN
    rw [if_neg (by omega), if_pos (by omega), if_pos (by omega)]
    exact Prod.ext (by simp only; omega) rfl
  · rw [e, Lib.decodeL_N]
    refine ⟨?_, by simp, by simp, fun _ => by simp⟩
    simp only [List.cons_append, List.nil_append, List.getD_cons_zero, List.getD_cons_succ, u8of (show 224 + r / 4096 < 256 by omega), u8of (show 128 + r / 64 % 64 < 256 by omega), u8of (show 128 + r % 64 < 256 by omega), List.length_cons, List.length_nil]
    unfold Lib.decodeN
    rw [if_neg (by omega), if_neg (by omega), if_pos (by omega), if_pos (by omega)]
    exact Prod.ext (by simp only; omega) rfl
theorem J_enc {r : Nat} (h : Good r) (b : Bool) (t : Nm) : J b (enc r ++ t) = J false t := by
  obtain ⟨e, h1, h3, h4⟩ := dec_enc h t
  rw [J_step _ _ (by intro e0; have := congrArg List.length e0; rw [List.length_append, List.length_nil] at this; omega), e]
  have hb : begB (r : Int) = true := by unfold begB Good at *; simp; omega
  rw [hb, decide_eq_false (by simp only; intro ⟨a, b⟩; have := h4 a; omega)]
  simp
/-- Runes, put together. -/
def cat (rs : List Nat) : Nm := rs.flatMap enc
theorem J_cat : ∀ (rs : List Nat) (b : Bool) (t : Nm), (∀ r ∈ rs, Good r) → J b (cat rs ++ t) = J (b && rs.isEmpty) t
  | [], b, t, _ => by simp [cat]
  | r :: rs, b, t, h => by
    have e : cat (r :: rs) ++ t = enc r ++ (cat rs ++ t) := by simp [cat]
    rw [e, J_enc (h r (by simp)), J_cat rs false t (fun x hx => h x (by simp [hx]))]
    simp
theorem J_digit (b : Bool) {d : Nat} (h0 : 48 ≤ d) (h1 : d ≤ 57) (t : Nm) : J b (UInt8.ofNat d :: t) = (!b && J false t) := by
  have e : Lib.decodeL (UInt8.ofNat d :: t) = (d, 1) := by
    rw [Lib.decodeL_N]
    simp only [List.getD_cons_zero, u8of (show d < 256 by omega)]
    unfold Lib.decodeN
    rw [if_pos (by omega)]
  rw [J_step _ _ (by simp), e]
  have hb : begB (d : Int) = false := by unfold begB; simp; omega
  have hd : digB (d : Int) = true := by unfold digB; simp; omega
  rw [hb, hd, decide_eq_false (by simp only; omega)]
  simp
theorem J_space (b : Bool) : J b [32] = false := by cases b <;> kernel_rfl
theorem J_ff (b : Bool) : J b [255] = false := by cases b <;> kernel_rfl
theorem enc_first {r : Nat} (h : Good r) : ∃ c t, enc r = c :: t ∧ 97 ≤ c.toNat := by
  have hg := h
  unfold Good at hg
  rcases enc_cases h with ⟨h1, e⟩ | ⟨h1, h2, e⟩ | ⟨h1, e⟩
  · exact ⟨_, _, e, by rw [u8of (by omega)]; omega⟩
  · exact ⟨_, _, e, by rw [u8of (by omega)]; omega⟩
  · exact ⟨_, _, e, by rw [u8of (by omega)]; omega⟩
theorem cat_ne {rs : List Nat} (h : ∀ r ∈ rs, Good r) (t : Nm) : (cat rs = [] ↔ rs = []) ∧ (rs ≠ [] → (cat rs ++ t == wWithin) = false ∧ (cat rs ++ t == wBy) = false) := by
  cases rs with
  | nil => simp [cat]
  | cons r rs =>
    obtain ⟨c, u, e, hc⟩ := enc_first (h r (by simp))
    have e2 : cat (r :: rs) = c :: (u ++ cat rs) := by simp [cat, e]
    refine ⟨by simp [e2], fun _ => ?_⟩
    rw [e2]
    refine ⟨?_, ?_⟩
    · rw [beq_eq_false_iff_ne]
      intro h0
      have := (List.cons.inj h0).1
      subst this
      simp at hc
    · rw [beq_eq_false_iff_ne]
      intro h0
      have := (List.cons.inj h0).1
      subst this
      simp at hc
/-- The statement's five answers. -/
theorem nm1 {rs : List Nat} (h : ∀ r ∈ rs, Good r) : nameB (cat rs) = (decide (cat rs ≠ []) && decide ((cat rs).length ≤ 24)) := by
  have hc := cat_ne h []
  have j := J_cat rs true [] h
  rw [List.append_nil] at *
  rw [J_nil] at j
  by_cases h0 : rs = []
  · subst h0; simp [cat, nameB]
  · rw [nameB_J, (hc.2 h0).1, (hc.2 h0).2, j]; simp
theorem nm2 {rs : List Nat} (h : ∀ r ∈ rs, Good r) {d : Nat} (h0 : 48 ≤ d) (h1 : d ≤ 57) : nameB (cat rs ++ [UInt8.ofNat d]) = (decide (cat rs ≠ []) && decide ((cat rs).length < 24)) := by
  have hc := cat_ne h [UInt8.ofNat d]
  have j := J_cat rs true [UInt8.ofNat d] h
  rw [J_digit _ h0 h1, J_nil] at j
  by_cases h2 : rs = []
  · subst h2; rw [nameB_J, j]; simp [cat]
  · have h3 : cat rs ≠ [] := fun e => h2 (hc.1.1 e)
    have h4 : rs.isEmpty = false := by simpa using h2
    rw [nameB_J, (hc.2 h2).1, (hc.2 h2).2, j, h4]
    simp [h3, Nat.lt_iff_add_one_le]
theorem nm3 {d : Nat} (h0 : 48 ≤ d) (h1 : d ≤ 57) (t : Nm) : nameB (UInt8.ofNat d :: t) = false := by
  rw [nameB_J, J_digit _ h0 h1]; simp
theorem nm4 {rs : List Nat} (h : ∀ r ∈ rs, Good r) : nameB (cat rs ++ [32]) = false := by
  rw [nameB_J, J_cat rs true [32] h, J_space]; simp
theorem nm5 {rs : List Nat} (h : ∀ r ∈ rs, Good r) : nameB (cat rs ++ [255]) = false := by
  rw [nameB_J, J_cat rs true [255] h, J_ff]; simp
theorem cat_len : ∀ {rs : List Nat}, (∀ r ∈ rs, Good r) → (cat rs).length ≤ 3 * rs.length
  | [], _ => by simp [cat]
  | r :: rs, h => by
    have ih := cat_len (rs := rs) (fun x hx => h x (by simp [hx]))
    have := (dec_enc (h r (by simp)) []).2.2.1
    have e : cat (r :: rs) = enc r ++ cat rs := by simp [cat]
    rw [e, List.length_append, List.length_cons]
    omega
end Go.Proofs.YtkoomphkbiifhaaDoor
