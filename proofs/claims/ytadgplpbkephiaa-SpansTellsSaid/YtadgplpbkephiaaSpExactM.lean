/- Of as many numbers as there may be intervals: what they come to. No model. -/
import Derived.Test.YtadgplpbkephiaaSpMath
namespace Go.Proofs.Ytadgplpbkephiaa
set_option linter.unusedVariables false

/-- Of a few numbers just these are had. -/
structure Pts (S : List Sp) (l : List Int) : Prop where
  rgt : Rgt S
  len : S.length ≤ l.length
  pts : ∀ p ∈ S, p.1 = p.2 ∧ p.1 ∈ l
  all : ∀ m ∈ l, (m, m) ∈ S
theorem pts_nil : Pts [] [] := ⟨rgt_nil, Nat.le_refl _, fun p hp => by simp at hp, fun m hm => by simp at hm⟩
theorem Pts.has {S : List Sp} {l : List Int} (h : Pts S l) (m : Int) : hs S m = decide (m ∈ l) := by
  by_cases hm : m ∈ l
  · rw [decide_eq_true hm]
    exact hs_mem (h.all m hm) (Int.le_refl _) (Int.le_refl _)
  · rw [decide_eq_false hm]
    cases e : hs S m with
    | false => rfl
    | true =>
      obtain ⟨p, hp, h1, h2⟩ := hs_iff.1 e
      obtain ⟨h3, h4⟩ := h.pts p hp
      have : p.1 = m := by omega
      rw [this] at h4
      exact absurd h4 hm
theorem Pts.add {S : List Sp} {l : List Int} (h : Pts S l) (n : Int) (hl : l.length < 4) : Pts (addS S n) (l ++ [n]) := by
  cases hn : hs S n with
  | true =>
    rw [addS_has hn]
    have hm : n ∈ l := by
      rw [h.has] at hn
      exact of_decide_eq_true hn
    refine ⟨h.rgt, by have := h.len; simp; omega, fun p hp => ⟨(h.pts p hp).1, by simp [(h.pts p hp).2]⟩, fun m h1 => ?_⟩
    rcases List.mem_append.1 h1 with h1 | h1
    · exact h.all m h1
    · simp at h1
      subst h1
      exact h.all _ hm
  | false =>
    have hS : S.length < 4 := by have := h.len; omega
    have hr := add_rgt n h.rgt
    rw [addS_put h.rgt hn hS] at hr ⊢
    refine ⟨hr, by have := h.len; rw [putS_len]; simp; omega, fun p hp => ?_, fun m h1 => ?_⟩
    · rcases putS_mem.1 hp with rfl | hp
      · exact ⟨rfl, by simp⟩
      · exact ⟨(h.pts p hp).1, by simp [(h.pts p hp).2]⟩
    · rcases List.mem_append.1 h1 with h1 | h1
      · exact putS_mem.2 (.inr (h.all m h1))
      · simp at h1
        subst h1
        exact putS_mem.2 (.inl rfl)
theorem Pts.again {S : List Sp} {l : List Int} (h : Pts S l) {n : Int} (hn : n ∈ l) : addS S n = S := addS_has (by rw [h.has]; exact decide_eq_true hn)
theorem Pts.cov {S : List Sp} {l : List Int} (h : Pts S l) : cov S l = true := cov_at fun i x hx => by
  rw [h.has]
  exact decide_eq_true (List.mem_of_getElem? hx)
theorem Pts.next {S : List Sp} {l : List Int} {j : Nat} {x : Int} (h : Pts S (l.take j)) (hx : l[j]? = some x) (hj : j < 4) : Pts (addS S x) (l.take (j + 1)) := by
  have hl : j < l.length := by
    rcases Nat.lt_or_ge j l.length with h1 | h1
    · exact h1
    · rw [List.getElem?_eq_none h1] at hx; cases hx
  have e : l.take (j + 1) = l.take j ++ [x] := by
    rw [List.take_add_one, hx]
    rfl
  rw [e]
  exact h.add x (by rw [List.length_take]; omega)
end Go.Proofs.Ytadgplpbkephiaa
