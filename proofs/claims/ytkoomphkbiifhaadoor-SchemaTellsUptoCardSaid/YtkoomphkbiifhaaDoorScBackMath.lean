/- What is right, and put, is got as it was. -/
import Derived.Test.YtkoomphkbiifhaaDoorScGet
import Derived.Test.YtkoomphkbiifhaaDoorScRunes
namespace Go.Proofs.YtkoomphkbiifhaaDoor
set_option linter.unusedVariables false

/-- No sign of Put. -/
def okb (x : UInt8) : Prop := x ≠ 40 ∧ x ≠ 41 ∧ x ≠ 44 ∧ x ≠ 59
theorem okb_of {x : UInt8} (h : 128 ≤ x.toNat ∨ begB (x.toNat : Int) = true ∨ digB (x.toNat : Int) = true) : okb x := by
  refine ⟨?_, ?_, ?_, ?_⟩
  all_goals
    rintro rfl
    rcases h with h | h | h
    · simp at h
    · revert h; decide
    · revert h; decide
theorem take_getD {l : Nm} {w : Nat} {x : UInt8} (h : x ∈ l.take w) : ∃ i, i < w ∧ i < l.length ∧ x = l.getD i 0 := by
  obtain ⟨i, hi, rfl⟩ := List.getElem_of_mem h
  rw [List.length_take] at hi
  refine ⟨i, by omega, by omega, ?_⟩
  rw [List.getElem_take]
  simp [List.getD, show i < l.length by omega]
theorem dec_take {l : Nm} (hl : l ≠ []) (hb : ¬ ((Lib.decodeL l).1 = 65533 ∧ (Lib.decodeL l).2 = 1)) (hr : begB ((Lib.decodeL l).1 : Int) = true ∨ digB ((Lib.decodeL l).1 : Int) = true) : ∀ x ∈ l.take (Lib.decodeL l).2, okb x := by
  intro x hx
  obtain ⟨i, hi, hil, rfl⟩ := take_getD hx
  refine okb_of ?_
  rw [Lib.decodeL_N] at hb hr hi
  unfold Lib.decodeN at hb hr hi
  split at hi
  · rename_i h0
    rw [if_pos h0] at hr
    obtain rfl : i = 0 := by omega
    exact .inr hr
  · rename_i h0
    rw [if_neg h0] at hb hr
    split at hi
    · rename_i h1
      refine .inl ?_
      split at hi
      · match i, hi with
        | 0, _ => omega
        | 1, _ => omega
      · obtain rfl : i = 0 := by omega
        omega
    · rename_i h1
      rw [if_neg h1] at hb
      split at hi
      · rename_i h2
        refine .inl ?_
        split at hi
        · match i, hi with
          | 0, _ => omega
          | 1, _ => omega
          | 2, _ => omega
        · obtain rfl : i = 0 := by omega
          omega
      · rename_i h2
        rw [if_neg h2] at hb
        split at hi
        · rename_i h3
          refine .inl ?_
          split at hi
          · match i, hi with
            | 0, _ => omega
            | 1, _ => omega
            | 2, _ => omega
            | 3, _ => omega
          · obtain rfl : i = 0 := by omega
            omega
        · rename_i h3
          rw [if_neg h3] at hb
          exact absurd ⟨rfl, rfl⟩ hb
theorem J_ok : ∀ (n : Nat) (b : Bool) (l : Nm), l.length ≤ n → J b l = true → ∀ x ∈ l, okb x
  | 0, b, l, h, _ => by
    obtain rfl : l = [] := List.eq_nil_of_length_eq_zero (by omega)
    intro x hx; cases hx
  | n + 1, b, l, h, hj => by
    by_cases hl : l = []
    · subst hl; intro x hx; cases hx
    · have w := dec_w l
      rw [J_step b l hl, Bool.and_eq_true, Bool.and_eq_true] at hj
      obtain ⟨⟨h1, h2⟩, h3⟩ := hj
      have hb : ¬ ((Lib.decodeL l).1 = 65533 ∧ (Lib.decodeL l).2 = 1) := by
        intro hh
        rw [decide_eq_true hh] at h1
        cases h1
      have ih := J_ok n false _ (by rw [List.length_drop]; omega) h3
      have ht := dec_take hl hb (by
        rcases Bool.or_eq_true _ _ ▸ h2 with h | h
        · exact .inl h
        · exact .inr (by simpa using (Bool.and_eq_true _ _ ▸ h : _ ∧ _).2))
      intro x hx
      rw [← List.take_append_drop (Lib.decodeL l).2 l] at hx
      rcases List.mem_append.1 hx with hx | hx
      · exact ht x hx
      · exact ih x hx
theorem name_ok {l : Nm} (h : nameB l = true) : l ≠ [] ∧ l.length ≤ 24 ∧ ∀ x ∈ l, okb x := by
  rw [nameB_J] at h
  simp only [Bool.and_eq_true, decide_eq_true_eq] at h
  exact ⟨h.1.1.1.1, h.1.1.1.2, J_ok l.length true l (Nat.le_refl _) h.2⟩

theorem cutB_at (c : UInt8) : ∀ (s t : Nm), (∀ x ∈ s, x ≠ c) → cutB c (s ++ c :: t) = (s, t, true)
  | [], t, _ => by simp [cutB]
  | b :: s, t, h => by
    rw [List.cons_append, cutB, if_neg (h b (by simp)), cutB_at c s t fun x hx => h x (by simp [hx])]
theorem cutB_no (c : UInt8) : ∀ (s : Nm), (∀ x ∈ s, x ≠ c) → cutB c s = (s, [], false)
  | [], _ => rfl
  | b :: s, h => by
    rw [cutB, if_neg (h b (by simp)), cutB_no c s fun x hx => h x (by simp [hx])]
theorem split_join : ∀ (fs : List Nm) (k : Nat), fs ≠ [] → fs.length ≤ k + 1 → (∀ f ∈ fs, ∀ x ∈ f, x ≠ 44) → splitC k (joinC fs) = fs
  | [], _, h, _, _ => absurd rfl h
  | [a], k, _, _, h => by
    rw [joinC]
    cases k with
    | zero => rfl
    | succ k => rw [splitC, cutB_no 44 a (h a (by simp))]; rfl
  | a :: b :: r, k, _, hl, h => by
    obtain ⟨k', rfl⟩ : ∃ k', k = k' + 1 := ⟨k - 1, by simp at hl; omega⟩
    rw [joinC, splitC, cutB_at 44 a _ (h a (by simp))]
    simp only [if_true]
    rw [split_join (b :: r) k' (by simp) (by simp at hl ⊢; omega) fun f hf => h f (by simp [hf])]
theorem joinC_ok {P : UInt8 → Prop} : ∀ (fs : List Nm), (∀ f ∈ fs, ∀ x ∈ f, P x) → P 44 → ∀ x ∈ joinC fs, P x
  | [], _, _ => by intro x hx; cases hx
  | [a], h, _ => by rw [joinC]; exact h a (by simp)
  | a :: b :: r, h, h44 => by
    intro x hx
    rw [joinC] at hx
    rcases List.mem_append.1 hx with hx | hx
    · exact h a (by simp) x hx
    · rcases List.mem_cons.1 hx with rfl | hx
      · exact h44
      · exact joinC_ok (b :: r) (fun f hf => h f (by simp [hf])) h44 x hx
/-- Kinds whose names are right. -/
def NmOk (k : Kd) : Prop := nameB k.1 = true ∧ k.2.length ≤ 8 ∧ ∀ f ∈ k.2, nameB f = true
theorem suffix_has (s : Nm) : Lib.hasSuffix (s ++ [41]) [41] = true := by
  unfold Lib.hasSuffix
  simp
theorem suffix_trim (s : Nm) : Lib.trimSuffix (s ++ [41]) [41] = s := by
  unfold Lib.trimSuffix
  rw [if_pos (suffix_has s)]
  simp
theorem gk_put {k : Kd} (h : NmOk k) : gk (k.1 ++ 40 :: (joinC k.2 ++ [41])) = some k := by
  have hn := name_ok h.1
  have hc := cutB_at 40 k.1 (joinC k.2 ++ [41]) fun x hx => (hn.2.2 x hx).1
  unfold gk
  rw [hc]
  simp only [suffix_has, suffix_trim, and_self, if_true]
  by_cases h0 : k.2 = []
  · rw [h0]
    simp only [joinC, if_true]
    rw [← h0]
  · have hne : joinC k.2 ≠ [] := by
      obtain ⟨nm, fs⟩ := k
      cases fs with
      | nil => exact absurd rfl h0
      | cons a r =>
        have ha := (name_ok (h.2.2 a (by simp))).1
        cases r with
        | nil => simpa [joinC] using ha
        | cons b r => simp [joinC]
    rw [if_neg hne, split_join k.2 8 h0 (by have := h.2.1; omega) fun f hf x hx => ((name_ok (h.2.2 f hf)).2.2 x hx).2.2.1]
theorem kindTxt_eq (k : Kd) (t : Nm) : kindTxt k ++ t = (k.1 ++ 40 :: (joinC k.2 ++ [41])) ++ 59 :: t := by simp [kindTxt]
theorem no59 {k : Kd} (h : NmOk k) : ∀ x ∈ k.1 ++ 40 :: (joinC k.2 ++ [41]), x ≠ 59 := by
  intro x hx
  rcases List.mem_append.1 hx with hx | hx
  · exact ((name_ok h.1).2.2 x hx).2.2.2
  · rcases List.mem_cons.1 hx with rfl | hx
    · decide
    · rcases List.mem_append.1 hx with hx | hx
      · exact joinC_ok k.2 (fun f hf x hx => ((name_ok (h.2.2 f hf)).2.2 x hx).2.2.2) (by decide) x hx
      · simp at hx; subst hx; decide
theorem getL_put : ∀ (ks acc : List Kd) (f : Nat), (∀ k ∈ ks, NmOk k) → acc.length + ks.length ≤ 16 → rightE (acc ++ ks) = 0 → (putL ks).length + 1 ≤ f → getL f acc (putL ks) = some (acc ++ ks)
  | [], acc, f, _, _, hr, hf => by
    obtain ⟨f', rfl⟩ : ∃ f', f = f' + 1 := ⟨f - 1, by omega⟩
    rw [List.append_nil] at *
    rw [getL, if_pos (show putL [] = [] from rfl), if_pos hr]
  | k :: ks, acc, f, h, hl, hr, hf => by
    obtain ⟨f', rfl⟩ : ∃ f', f = f' + 1 := ⟨f - 1, by omega⟩
    have hk := h k (by simp)
    have e : putL (k :: ks) = (k.1 ++ 40 :: (joinC k.2 ++ [41])) ++ 59 :: putL ks := by
      rw [← kindTxt_eq]; rfl
    have hlen := congrArg List.length e
    rw [List.length_append, List.length_cons] at hlen
    rw [e, getL, if_neg (by simp), cutB_at 59 _ _ (no59 hk)]
    simp only [gk_put hk]
    rw [if_pos ⟨trivial, by simp at hl; omega⟩]
    have e2 : acc ++ [k] ++ ks = acc ++ k :: ks := by simp
    have := getL_put ks (acc ++ [k]) f' (fun x hx => h x (by simp [hx])) (by simp at hl ⊢; omega) (by rw [e2]; exact hr) (by omega)
    rwa [e2] at this
theorem nz_zero {f : Nat → Int} : ∀ {n : Nat}, firstNZ f n = 0 → ∀ i, i < n → f i = 0
  | 0, _, i, hi => by omega
  | n + 1, h, i, hi => by
    rw [firstNZ] at h
    by_cases h0 : firstNZ f n = 0
    · rw [if_pos h0] at h
      by_cases e : i = n
      · subst e; exact h
      · exact nz_zero h0 i (by omega)
    · rw [if_neg h0] at h; exact absurd h h0
/-- What Right asks. -/
theorem right_parts {l : List Kd} (h : rightE l = 0) : l ≠ [] ∧ l.length ≤ 16 ∧ ∀ i (hi : i < l.length), NmOk l[i] ∧ idx (fun x : Kd => x.1 == l[i].1) (l.take i) < 0 ∧ ∀ j (hj : j < l[i].2.length), idx (fun x => x == l[i].2[j]) (l[i].2.take j) < 0 := by
  unfold rightE at h
  by_cases h0 : l = [] ∨ 16 < l.length
  · rw [if_pos h0] at h; cases h
  · rw [if_neg h0] at h
    refine ⟨fun e => h0 (.inl e), by omega, fun i hi => ?_⟩
    have hk := nz_zero h i hi
    rw [kindE_at hi] at hk
    unfold rightK at hk
    by_cases h8 : 8 < l[i].2.length
    · rw [if_pos h8] at hk; cases hk
    · rw [if_neg h8] at hk
      by_cases hn : nameB l[i].1 = true ∧ idx (fun x : Kd => x.1 == l[i].1) (l.take i) < 0
      · rw [if_pos hn] at hk
        have hf : ∀ j (hj : j < l[i].2.length), nameB l[i].2[j] = true ∧ idx (fun x => x == l[i].2[j]) (l[i].2.take j) < 0 := by
          intro j hj
          have h1 := nz_zero hk j hj
          unfold fldE at h1
          rw [List.getElem?_eq_getElem hj] at h1
          by_cases h2 : nameB l[i].2[j] = true ∧ idx (fun x => x == l[i].2[j]) (l[i].2.take j) < 0
          · exact h2
          · simp only [if_neg h2] at h1; cases h1
        refine ⟨⟨hn.1, by omega, fun f hfm => ?_⟩, hn.2, fun j hj => (hf j hj).2⟩
        obtain ⟨j, hj, rfl⟩ := List.getElem_of_mem hfm
        exact (hf j hj).1
      · rw [if_neg hn] at hk; cases hk
theorem right_names {l : List Kd} (h : rightE l = 0) : ∀ k ∈ l, NmOk k := by
  intro k hk
  obtain ⟨i, hi, rfl⟩ := List.getElem_of_mem hk
  exact ((right_parts h).2.2 i hi).1
/-- What is right, and put, is got as it was. -/
theorem get_put {l : List Kd} (h : rightE l = 0) : getT (putL l) = some l :=
  getL_put l [] _ (right_names h) (by have := (right_parts h).2.1; simpa using this) h (Nat.le_refl _)
theorem getL_right : ∀ (f : Nat) (acc : List Kd) (t : Nm) (g : List Kd), getL f acc t = some g → rightE g = 0
  | 0, _, _, _, h => by cases h
  | f + 1, acc, t, g, h => by
    rw [getL] at h
    split at h
    · split at h
      · cases h; assumption
      · cases h
    · split at h
      · cases h
      · split at h
        · exact getL_right f _ _ _ h
        · cases h
theorem put_same {a b : List Kd} (ha : rightE a = 0) (hb : rightE b = 0) : (putL a == putL b) = (a == b) := by
  rw [Bool.eq_iff_iff, beq_iff_eq, beq_iff_eq]
  refine ⟨fun h => ?_, fun h => by rw [h]⟩
  have := get_put ha
  rw [h, get_put hb] at this
  exact (Option.some.inj this).symm
theorem idx_neg {α : Type} {p : α → Bool} {l : List α} (h : idx p l < 0) : ∀ x ∈ l, p x = false := by
  unfold idx at h
  split at h
  · omega
  · rename_i e
    exact List.findIdx?_eq_none_iff.1 e
theorem find_right {l : List Kd} (h : rightE l = 0) {i : Nat} (hi : i < l.length) : idx (fun x : Kd => x.1 == l[i].1) l = i := by
  refine idx_at _ l i hi (by simp) fun j hj hji => ?_
  refine idx_neg ((right_parts h).2.2 i hi).2.1 l[j] ?_
  have : l[j] = (l.take i)[j]'(by simp; omega) := by simp
  rw [this]
  exact List.getElem_mem _
theorem field_right {l : List Kd} (h : rightE l = 0) {i : Nat} (hi : i < l.length) {k : Nat} (hk : k < l[i].2.length) : idx (fun x => x == l[i].2[k]) l[i].2 = k ∧ nameB l[i].2[k] = true := by
  refine ⟨idx_at _ _ k hk (by simp) fun j hj hji => ?_, ((right_parts h).2.2 i hi).1.2.2 _ (List.getElem_mem _)⟩
  refine idx_neg (((right_parts h).2.2 i hi).2.2 k hk) l[i].2[j] ?_
  have : l[i].2[j] = (l[i].2.take k)[j]'(by simp; omega) := by simp
  rw [this]
  exact List.getElem_mem _
theorem few_len {l : List Kd} (h : ∀ k ∈ l, k.1.length ≤ 26 ∧ k.2.length ≤ 9 ∧ ∀ f ∈ k.2, f.length ≤ 25) : (putL l).length ≤ 300 * l.length := by
  induction l with
  | nil => simp [putL]
  | cons k l ih =>
    have hk := h k (by simp)
    have hj : ∀ (fs : List Nm), (∀ f ∈ fs, f.length ≤ 25) → (joinC fs).length ≤ 26 * fs.length := by
      intro fs
      induction fs with
      | nil => intro _; simp [joinC]
      | cons a r ih2 =>
        intro hf
        have ha := hf a (by simp)
        cases r with
        | nil => simp [joinC]; omega
        | cons b r =>
          have := ih2 fun f hf2 => hf f (by simp [hf2])
          simp only [joinC, List.length_append, List.length_cons] at *
          omega
    have h1 := hj k.2 hk.2.2
    have h2 := kindTxt_length k
    have h3 := ih fun x hx => h x (by simp [hx])
    have e : putL (k :: l) = kindTxt k ++ putL l := rfl
    rw [e, List.length_append, List.length_cons]
    omega
end Go.Proofs.YtkoomphkbiifhaaDoor
