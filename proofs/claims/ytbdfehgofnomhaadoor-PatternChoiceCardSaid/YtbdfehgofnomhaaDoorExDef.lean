/- Layer 7: expressions as trees, and how they lie in memory. -/
import Derived.Test.YtbdfehgofnomhaaDoorLxDef
namespace Go.Proofs.YtbdfehgofnomhaaDoor
open Go.RowKit
set_option linter.unusedVariables false

/-- An expression; where its Kids lie, and how many there is room for. -/
inductive ET where
  | mk (k : Int) (op : Nm) (n : Int) (v f : Nm) (A : Option Addr) (c : Nat) (ks : List ET)
namespace ET
def k : ET → Int | mk k _ _ _ _ _ _ _ => k
def op : ET → Nm | mk _ op _ _ _ _ _ _ => op
def n : ET → Int | mk _ _ n _ _ _ _ _ => n
def v : ET → Nm | mk _ _ _ v _ _ _ _ => v
def f : ET → Nm | mk _ _ _ _ f _ _ _ => f
def A : ET → Option Addr | mk _ _ _ _ _ A _ _ => A
def c : ET → Nat | mk _ _ _ _ _ _ c _ => c
def ks : ET → List ET | mk _ _ _ _ _ _ _ ks => ks
end ET
/-- An expression as a value. -/
def ex (k : Int) (op : Nm) (n : Int) (v f : Nm) (A : Option Addr) (m c : Nat) : Value := .agg #[.int .i64 k, .string (str op), .int .i64 n, .string (str v), .string (str f), .slice A m c]
def ET.val (t : ET) : Value := ex t.k t.op t.n t.v t.f t.A t.ks.length t.c
theorem ET.ind {P : ET → Prop} (h : ∀ k op n v f A c ks, (∀ t ∈ ks, P t) → P (.mk k op n v f A c ks)) : ∀ t, P t := by
  intro t
  refine ET.rec (motive_1 := P) (motive_2 := fun l => ∀ t ∈ l, P t) ?_ ?_ ?_ t
  · exact fun k op n v f A c ks ih => h k op n v f A c ks ih
  · intro t ht; cases ht
  · intro a l ha hl t ht
    rcases List.mem_cons.1 ht with rfl | ht
    · exact ha
    · exact hl t ht
/-- The i-th place behind A bears this expression. -/
def CellsAt (w : World) (A : Option Addr) (i : Nat) (t : ET) : Prop := ∃ b off, A = some ⟨b, off, none⟩ ∧ w.cell? ⟨b, off + i * 6, none⟩ = some (.int .i64 t.k) ∧ w.cell? ⟨b, off + i * 6 + 1, none⟩ = some (.string (str t.op)) ∧ w.cell? ⟨b, off + i * 6 + 2, none⟩ = some (.int .i64 t.n)
  ∧ w.cell? ⟨b, off + i * 6 + 3, none⟩ = some (.string (str t.v)) ∧ w.cell? ⟨b, off + i * 6 + 4, none⟩ = some (.string (str t.f)) ∧ w.cell? ⟨b, off + i * 6 + 5, none⟩ = some (.slice t.A t.ks.length t.c)
/-- Its numbers and texts are of a machine's size. -/
def okE (n : Int) (op v f : Nm) (A : Option Addr) (m c : Nat) : Prop := -9223372036854775808 ≤ n ∧ n ≤ 9223372036854775807 ∧ op.length ≤ 140737488355328 ∧ v.length ≤ 140737488355328 ∧ f.length ≤ 140737488355328 ∧ (A = none → c = 0) ∧ m ≤ c ∧ c ≤ maxLen
mutual
def ET.In (w : World) : ET → Prop
  | .mk _ op n v f A c ks => okE n op v f A ks.length c ∧ InL w A 0 ks
def InL (w : World) (A : Option Addr) (i : Nat) : List ET → Prop
  | [] => True
  | t :: ts => CellsAt w A i t ∧ ET.In w t ∧ InL w A (i + 1) ts
end
theorem inL_get {w : World} {A : Option Addr} : ∀ {ks : List ET} {i : Nat}, InL w A i ks → ∀ j (h : j < ks.length), CellsAt w A (i + j) ks[j] ∧ ET.In w ks[j]
  | [], _, _, j, h => by simp at h
  | t :: ts, i, hh, j, h => by
    rw [InL] at hh
    cases j with
    | zero => exact ⟨hh.1, hh.2.1⟩
    | succ j =>
      have := inL_get hh.2.2 j (by simpa using h)
      rw [show i + (j + 1) = i + 1 + j from by omega]
      exact this
theorem inL_of {w : World} {A : Option Addr} : ∀ {ks : List ET} {i : Nat}, (∀ j (h : j < ks.length), CellsAt w A (i + j) ks[j] ∧ ET.In w ks[j]) → InL w A i ks
  | [], _, _ => by rw [InL]; trivial
  | t :: ts, i, hh => by
    rw [InL]
    refine ⟨(hh 0 (by simp)).1, (hh 0 (by simp)).2, inL_of fun j h => ?_⟩
    have := hh (j + 1) (by simpa using h)
    rw [show i + (j + 1) = i + 1 + j from by omega] at this
    exact this
theorem ET.In.ok {w : World} {k : Int} {op : Nm} {n : Int} {v f : Nm} {A : Option Addr} {c : Nat} {ks : List ET} (h : ET.In w (.mk k op n v f A c ks)) : okE n op v f A ks.length c := by rw [ET.In] at h; exact h.1
theorem ET.In.kids {w : World} {k : Int} {op : Nm} {n : Int} {v f : Nm} {A : Option Addr} {c : Nat} {ks : List ET} (h : ET.In w (.mk k op n v f A c ks)) : ∀ j (h : j < ks.length), CellsAt w A j ks[j] ∧ ET.In w ks[j] := by
  rw [ET.In] at h
  intro j hj
  have := inL_get h.2 j hj
  rwa [Nat.zero_add] at this
theorem ET.In.of {w : World} {k : Int} {op : Nm} {n : Int} {v f : Nm} {A : Option Addr} {c : Nat} {ks : List ET} (h : okE n op v f A ks.length c) (hk : ∀ j (h : j < ks.length), CellsAt w A j ks[j] ∧ ET.In w ks[j]) : ET.In w (.mk k op n v f A c ks) := by
  rw [ET.In]
  exact ⟨h, inL_of fun j hj => by rw [Nat.zero_add]; exact hk j hj⟩
theorem CellsAt.keep {w w' : World} {A : Option Addr} {i : Nat} {t : ET} (h : CellsAt w A i t) (hk : ∀ p : Addr, p.block < w.heap.size → w'.cell? p = w.cell? p) : CellsAt w' A i t := by
  obtain ⟨b, off, rfl, h0, h1, h2, h3, h4, h5⟩ := h
  have g : ∀ o v, w.cell? ⟨b, o, none⟩ = some v → w'.cell? ⟨b, o, none⟩ = some v := fun o v h => (hk _ (World.block_lt_of_cell? _ _ h)).trans h
  exact ⟨b, off, rfl, g _ _ h0, g _ _ h1, g _ _ h2, g _ _ h3, g _ _ h4, g _ _ h5⟩
theorem ET.In.keep {w w' : World} (hk : ∀ p : Addr, p.block < w.heap.size → w'.cell? p = w.cell? p) : ∀ t : ET, t.In w → t.In w' :=
  ET.ind fun k op n v f A c ks ih h => .of h.ok fun j hj => ⟨(h.kids j hj).1.keep hk, ih _ (List.getElem_mem _) (h.kids j hj).2⟩
theorem ET.In.below {w w' : World} {t : ET} (h : t.In w) (hb : Below w.heap.size w w') : t.In w' := h.keep (fun _ hp => hb.cell hp) t
theorem CellsAt.below {w w' : World} {A : Option Addr} {i : Nat} {t : ET} (h : CellsAt w A i t) (hb : Below w.heap.size w w') : CellsAt w' A i t := h.keep fun _ hp => hb.cell hp

/- How large it is. -/
mutual
def ET.size : ET → Nat
  | .mk _ _ _ _ _ _ _ ks => sizeL ks + 1
def sizeL : List ET → Nat
  | [] => 0
  | t :: ts => ET.size t + sizeL ts
end
theorem size_mk {k : Int} {op : Nm} {n : Int} {v f : Nm} {A : Option Addr} {c : Nat} {ks : List ET} : (ET.mk k op n v f A c ks).size = sizeL ks + 1 := by rw [ET.size]
theorem sizeL_nil : sizeL [] = 0 := by rw [sizeL]
theorem sizeL_cons {t : ET} {ts : List ET} : sizeL (t :: ts) = t.size + sizeL ts := by rw [sizeL]
theorem size_pos : ∀ t : ET, 1 ≤ t.size := by
  rintro ⟨⟩; rw [ET.size]; omega
/- What is gathered by asking of it and of all below it, as long as the answer is true. -/
mutual
def allF {σ : Type} (st : σ → ET → σ × Bool) (s : σ) : ET → σ × Bool
  | .mk k op n v f A c ks => if (st s (.mk k op n v f A c ks)).2 = true then allL st (st s (.mk k op n v f A c ks)).1 ks else ((st s (.mk k op n v f A c ks)).1, false)
def allL {σ : Type} (st : σ → ET → σ × Bool) (s : σ) : List ET → σ × Bool
  | [] => (s, true)
  | t :: ts => if (allF st s t).2 = true then allL st (allF st s t).1 ts else ((allF st s t).1, false)
end
theorem allF_no {σ : Type} {st : σ → ET → σ × Bool} {s : σ} {t : ET} (h : (st s t).2 = false) : allF st s t = ((st s t).1, false) := by
  cases t; rw [allF, if_neg (by rw [h]; decide)]
theorem allF_yes {σ : Type} {st : σ → ET → σ × Bool} {s : σ} {t : ET} (h : (st s t).2 = true) : allF st s t = allL st (st s t).1 t.ks := by
  cases t; rw [allF, if_pos h]; rfl
theorem allL_nil {σ : Type} {st : σ → ET → σ × Bool} {s : σ} : allL st s [] = (s, true) := by rw [allL]
theorem allL_yes {σ : Type} {st : σ → ET → σ × Bool} {s : σ} {t : ET} {ts : List ET} (h : (allF st s t).2 = true) : allL st s (t :: ts) = allL st (allF st s t).1 ts := by rw [allL, if_pos h]
theorem allL_no {σ : Type} {st : σ → ET → σ × Bool} {s : σ} {t : ET} {ts : List ET} (h : (allF st s t).2 = false) : allL st s (t :: ts) = ((allF st s t).1, false) := by rw [allL, if_neg (by rw [h]; decide)]
theorem drop_at {ks : List ET} {j : Nat} (h : j < ks.length) : ks.drop j = ks[j] :: ks.drop (j + 1) := List.drop_eq_getElem_cons h
theorem ET.eta (t : ET) : t = .mk t.k t.op t.n t.v t.f t.A t.c t.ks := by cases t; rfl
end Go.Proofs.YtbdfehgofnomhaaDoor
