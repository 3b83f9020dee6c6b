/- What Put writes, as lists of bytes. -/
import Derived.Test.YtkoomphkbiifhaaDoorScBase
namespace Go.Proofs.YtkoomphkbiifhaaDoor
set_option linter.unusedVariables false

/-- Texts with a comma between. -/
def joinC : List Nm → Nm
  | [] => []
  | [a] => a
  | a :: b :: r => a ++ 44 :: joinC (b :: r)
theorem joinC_snoc : ∀ (l : List Nm) (f : Nm), l ≠ [] → joinC (l ++ [f]) = joinC l ++ [44] ++ f
  | [], _, h => absurd rfl h
  | [a], f, _ => by simp [joinC]
  | a :: b :: r, f, _ => by
    have := joinC_snoc (b :: r) f (by simp)
    simp only [List.cons_append] at this ⊢
    rw [joinC, this, joinC]
    simp
theorem joinC_take {l : List Nm} {j : Nat} (h : j < l.length) : joinC (l.take (j + 1)) = joinC (l.take j) ++ (if 0 < j then [44] else []) ++ l[j] := by
  rw [List.take_succ_eq_append_getElem h]
  by_cases h0 : 0 < j
  · rw [joinC_snoc _ _ (by intro e; have := congrArg List.length e; rw [List.length_take, List.length_nil] at this; omega), if_pos h0]
  · obtain rfl : j = 0 := by omega
    simp [joinC]
theorem joinC_mono {l : List Nm} : ∀ {j k : Nat}, j ≤ k → k ≤ l.length → (joinC (l.take j)).length ≤ (joinC (l.take k)).length
  | j, k, h, hk => by
    induction k with
    | zero => obtain rfl : j = 0 := by omega
              exact Nat.le_refl _
    | succ n ih =>
      by_cases e : j = n + 1
      · subst e; exact Nat.le_refl _
      · have := ih (by omega) (by omega)
        rw [joinC_take (by omega)]
        simp
        omega
theorem joinC_le {l : List Nm} {j : Nat} (h : j ≤ l.length) : (joinC (l.take j)).length ≤ (joinC l).length := by
  have := joinC_mono (l := l) h (Nat.le_refl _)
  rwa [List.take_length] at this
/-- One kind, put. -/
def kindTxt (k : Kd) : Nm := k.1 ++ [40] ++ joinC k.2 ++ [41, 59]
def putL (l : List Kd) : Nm := l.flatMap kindTxt
theorem putL_take {l : List Kd} {i : Nat} (h : i < l.length) : putL (l.take (i + 1)) = putL (l.take i) ++ kindTxt l[i] := by
  rw [List.take_succ_eq_append_getElem h, putL, List.flatMap_append]
  simp [putL]
theorem putL_split {l : List Kd} {i : Nat} (h : i < l.length) : (putL l).length = (putL (l.take i)).length + (kindTxt l[i]).length + (putL (l.drop (i + 1))).length := by
  have e : l = l.take (i + 1) ++ l.drop (i + 1) := (List.take_append_drop _ _).symm
  conv => lhs; rw [e]
  unfold putL
  rw [List.flatMap_append, List.length_append, ← putL, putL_take h, List.length_append]
  rfl
theorem kindTxt_length (k : Kd) : (kindTxt k).length = k.1.length + (joinC k.2).length + 3 := by simp [kindTxt]; omega
end Go.Proofs.YtkoomphkbiifhaaDoor
