/- What Get reads, as lists of bytes: the library's Cut, CutSuffix and SplitN in words of our own. -/
import Derived.Test.YtkoomphkbiifhaaDoorScPutMath
import Derived.Lib.IndexMore
import Derived.Lib.Split
import Derived.Lib.Strings
namespace Go.Proofs.YtkoomphkbiifhaaDoor
set_option linter.unusedVariables false

/-- Around the first byte c: what is ahead, what is behind, was there one? -/
def cutB (c : UInt8) : Nm → Nm × Nm × Bool
  | [] => ([], [], false)
  | b :: l => if b = c then ([], l, true) else (b :: (cutB c l).1, (cutB c l).2.1, (cutB c l).2.2)
theorem index_cons (c b : UInt8) (l : Nm) : Lib.index (b :: l) [c] = if b = c then 0 else if Lib.index l [c] = -1 then -1 else Lib.index l [c] + 1 := by
  rw [Lib.index]
  by_cases h : b = c
  · subst h; simp
  · have h2 : ¬ c = b := fun e => h e.symm
    simp [h, h2]
theorem index_ge (c : UInt8) : ∀ l : Nm, -1 ≤ Lib.index l [c]
  | [] => by simp [Lib.index]
  | b :: l => by
    have := index_ge c l
    rw [index_cons]
    split
    · omega
    · split <;> omega
theorem cut_eq (c : UInt8) : ∀ s : Nm, Lib.cut s [c] = cutB c s
  | [] => by simp [Lib.cut, Lib.index, cutB]
  | b :: l => by
    have ih := cut_eq c l
    have ge := index_ge c l
    unfold Lib.cut at ih ⊢
    rw [index_cons, cutB]
    by_cases h : b = c
    · simp [h]
    · rw [if_neg h, if_neg h, ← ih]
      by_cases h1 : Lib.index l [c] = -1
      · rw [if_pos h1, h1]
        simp
      · rw [if_neg h1, if_pos (by omega), if_pos (by omega)]
        have e : (Lib.index l [c] + 1).toNat = (Lib.index l [c]).toNat + 1 := by omega
        rw [e]
        simp
theorem cutB_le (c : UInt8) : ∀ s : Nm, (cutB c s).1.length + (cutB c s).2.1.length ≤ s.length ∧ ((cutB c s).2.2 = true → (cutB c s).1.length + (cutB c s).2.1.length + 1 = s.length)
  | [] => by simp [cutB]
  | b :: l => by
    have ih := cutB_le c l
    rw [cutB]
    by_cases h : b = c
    · simp [h]
    · simp only [if_neg h, List.length_cons]
      exact ⟨by omega, fun hh => by have := ih.2 hh; omega⟩
/-- At the commas, into at most k + 1 pieces. -/
def splitC : Nat → Nm → List Nm
  | 0, s => [s]
  | k + 1, s => if (cutB 44 s).2.2 then (cutB 44 s).1 :: splitC k (cutB 44 s).2.1 else [s]
theorem splitK_eq : ∀ (k : Nat) (s : Nm), Lib.splitK [44] 0 k s = splitC k s
  | 0, s => rfl
  | k + 1, s => by
    have h := cut_eq 44 s
    have ge := index_ge 44 s
    unfold Lib.cut at h
    rw [Lib.splitK, splitC]
    by_cases h1 : Lib.index s [44] = -1
    · rw [if_neg (by omega)] at h
      rw [if_pos (by simp [h1]), ← h]
      rfl
    · rw [if_pos (by omega)] at h
      rw [if_neg (by simp [h1]), ← h, splitK_eq k]
      rfl
theorem splitC_len : ∀ (k : Nat) (s : Nm), 1 ≤ (splitC k s).length ∧ (splitC k s).length ≤ k + 1
  | 0, s => by simp [splitC]
  | k + 1, s => by
    have := splitC_len k (cutB 44 s).2.1
    rw [splitC]
    split <;> simp
    omega
/-- With room for as many pieces as there are bytes nothing more is parted. -/
theorem splitC_more : ∀ (k : Nat) (s : Nm), s.length ≤ k → ∀ m, k ≤ m → splitC m s = splitC k s
  | 0, s, h, m, hm => by
    obtain rfl : s = [] := List.eq_nil_of_length_eq_zero (by omega)
    cases m <;> simp [splitC, cutB]
  | k + 1, s, h, m, hm => by
    obtain ⟨m', rfl⟩ : ∃ m', m = m' + 1 := ⟨m - 1, by omega⟩
    rw [splitC, splitC]
    by_cases hc : (cutB 44 s).2.2 = true
    · rw [if_pos hc, if_pos hc]
      have := (cutB_le 44 s).2 hc
      rw [splitC_more k _ (by omega) m' (by omega)]
    · rw [if_neg hc, if_neg hc]
theorem splitC_min (s : Nm) : splitC (min 8 s.length) s = splitC 8 s := by
  by_cases h : 8 ≤ s.length
  · rw [Nat.min_eq_left h]
  · rw [Nat.min_eq_right (by omega)]
    exact (splitC_more s.length s (Nat.le_refl _) 8 (by omega)).symm
theorem splitC_bytes : ∀ (k : Nat) (s : Nm), ∀ f ∈ splitC k s, f.length ≤ s.length
  | 0, s => by simp [splitC]
  | k + 1, s => by
    have ih := splitC_bytes k (cutB 44 s).2.1
    have le := (cutB_le 44 s).1
    rw [splitC]
    intro f hf
    split at hf
    · rcases List.mem_cons.1 hf with rfl | hf
      · omega
      · have := ih f hf; omega
    · simp at hf; subst hf; exact Nat.le_refl _
/-- One kind, without the `;` behind it. -/
def gk (t : Nm) : Option Kd :=
  if (cutB 40 t).2.2 = true ∧ Lib.hasSuffix (cutB 40 t).2.1 [41] = true then
    some ((cutB 40 t).1, if Lib.trimSuffix (cutB 40 t).2.1 [41] = [] then [] else splitC 8 (Lib.trimSuffix (cutB 40 t).2.1 [41])) else none
theorem trim_le (s : Nm) : (Lib.trimSuffix s [41]).length ≤ s.length := by
  unfold Lib.trimSuffix
  split
  · simp
  · exact Nat.le_refl _
end Go.Proofs.YtkoomphkbiifhaaDoor
