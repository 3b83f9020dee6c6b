/- Layer 7: what a right expression has. -/
import Derived.Test.YtbdfehgofnomhaaDoorExTypeD
namespace Go.Proofs.YtbdfehgofnomhaaDoor
open Go.RowKit
set_option linter.unusedVariables false

/- What a right expression has. -/
theorem right_one {k : Int} {op : Nm} {n : Int} {v f : Nm} {A : Option Addr} {c : Nat} {ks : List ET} (h : rightT (.mk k op n v f A c ks) = true) : oneB k op n v f ks.length = true := by
  cases hb : (rgt () (.mk k op n v f A c ks)).2 with
  | true => exact hb
  | false =>
    unfold rightT at h
    rw [allF_no hb] at h
    cases h
theorem rgt_list : ∀ (ks : List ET) , (allL rgt () ks).2 = true → ∀ t ∈ ks, rightT t = true := by
  intro ks
  induction ks with
  | nil => intro _ t ht; cases ht
  | cons x xs ih =>
    intro h t ht
    cases hb : (allF rgt () x).2 with
    | false => rw [allL_no hb] at h; cases h
    | true =>
      rw [allL_yes hb] at h
      rcases List.mem_cons.1 ht with rfl | ht
      · exact hb
      · exact ih h t ht
theorem right_kids {k : Int} {op : Nm} {n : Int} {v f : Nm} {A : Option Addr} {c : Nat} {ks : List ET} (h : rightT (.mk k op n v f A c ks) = true) : ∀ t ∈ ks, rightT t = true := by
  have h1 := right_one h
  unfold rightT at h
  rw [allF_yes (by exact h1)] at h
  exact rgt_list ks h
theorem right_of {k : Int} {op : Nm} {n : Int} {v f : Nm} {A : Option Addr} {c : Nat} {ks : List ET} (h : oneB k op n v f ks.length = true) (hk : ∀ t ∈ ks, rightT t = true) : rightT (.mk k op n v f A c ks) = true := by
  have hl : ∀ l : List ET, (∀ t ∈ l, rightT t = true) → (allL rgt () l).2 = true := by
    intro l
    induction l with
    | nil => intro _; rw [allL_nil]
    | cons x xs ih =>
      intro hh
      rw [allL_yes (hh x (by simp))]
      exact ih fun t ht => hh t (by simp [ht])
  unfold rightT
  rw [allF_yes (by exact h)]
  exact hl ks hk
theorem one_kinds {k : Int} {op : Nm} {n : Int} {v f : Nm} {m : Nat} (h : oneB k op n v f m = true) :
    (k = 0 ∧ m = 0 ∧ 0 ≤ n ∧ op = [] ∧ v = [] ∧ f = []) ∨ (k = 1 ∧ m = 0 ∧ nameB v = true ∧ nameB f = true ∧ op = [] ∧ n = 0) ∨ (k = 2 ∧ m = 1 ∧ (op = [45] ∨ op = [33]) ∧ n = 0 ∧ v = [] ∧ f = []) ∨ (k = 3 ∧ m = 2 ∧ levB op ≠ 0 ∧ n = 0 ∧ v = [] ∧ f = []) := by
  unfold oneB bareB at h
  by_cases h0 : k = 0
  · subst h0; simp at h; simp [h]
  by_cases h1 : k = 1
  · subst h1; simp at h; simp [h]
  by_cases h2 : k = 2
  · subst h2; simp at h; simp [h]
  by_cases h3 : k = 3
  · subst h3; simp at h; simp [h]
  · simp [h0, h1, h2, h3] at h

/- What an expression of a type has. -/
theorem typ_nil (k : Int) (n : Int) (v f : Nm) (A : Option Addr) (c : Nat) : typT (.mk k [] n v f A c []) = 1 := by
  rw [typT_eq, typL_nil, if_pos rfl]; kernel_rfl
theorem typ_one {k : Int} {op : Nm} {n : Int} {v f : Nm} {A : Option Addr} {c : Nat} {x : ET} (h : typT (.mk k op n v f A c [x]) ≠ 0) : typT x = (opT op).1 ∧ typT (.mk k op n v f A c [x]) = (opT op).2 := by
  rw [typT_eq, typL_cons, typL_nil] at h ⊢
  by_cases hx : typT x = (opT op).1
  · exact ⟨hx, by simp [hx]⟩
  · simp [hx] at h
theorem typ_two {k : Int} {op : Nm} {n : Int} {v f : Nm} {A : Option Addr} {c : Nat} {x y : ET} (h : typT (.mk k op n v f A c [x, y]) ≠ 0) : typT x = (opT op).1 ∧ typT y = (opT op).1 ∧ typT (.mk k op n v f A c [x, y]) = (opT op).2 := by
  rw [typT_eq, typL_cons, typL_cons, typL_nil] at h ⊢
  by_cases hx : typT x = (opT op).1
  · by_cases hy : typT y = (opT op).1
    · exact ⟨hx, hy, by simp [hx, hy]⟩
    · simp [hy] at h
  · simp [hx] at h
theorem opT_pair (op : Nm) : (opT op = (2, 2) ∨ opT op = (1, 2) ∨ opT op = (1, 1)) := by
  unfold opT
  split
  · exact .inl rfl
  · split
    · exact .inr (.inl rfl)
    · split
      · exact .inl rfl
      · exact .inr (.inr rfl)
end Go.Proofs.YtbdfehgofnomhaaDoor
