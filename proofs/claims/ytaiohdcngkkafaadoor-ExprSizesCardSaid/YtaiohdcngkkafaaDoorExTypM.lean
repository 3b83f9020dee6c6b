/- ExprTypes without the walk: operations, what an operation of two tells, the two boxes. -/
import Derived.Test.YtaiohdcngkkafaaDoorExTreeW
import Derived.Test.YtaiohdcngkkafaaDoorExEx
namespace Go.Proofs.YtaiohdcngkkafaaDoor
open Go.RowKit
set_option linter.unusedVariables false

/-- What the statement asks of an operation. -/
def OpIs (op : Nm) (c : Nat) : Prop :=
  (c = 0 ∧ (op == [38, 38]) = true ∧ opT op = (2, 2) ∧ levB op = 2) ∨ (c = 1 ∧ (op == [38, 38]) = false ∧ (op == [124, 124]) = true ∧ opT op = (2, 2) ∧ levB op = 1) ∨ (c = 2 ∧ (op == [38, 38]) = false ∧ (op == [124, 124]) = false ∧ opT op = (1, 2) ∧ 2 < levB op ∧ levB op ≤ 4) ∨ (c = 3 ∧ (op == [38, 38]) = false ∧ (op == [124, 124]) = false ∧ opT op = (1, 1) ∧ 4 < levB op ∧ levB op ≤ 6)
theorem ops13_at : ∀ j, j < 13 → ∃ op c, opsL[j]? = some op ∧ op.length ≤ 10 ∧ oneB 3 op 0 [] [] 2 = true ∧ OpIs op c
  | 0, _ => ⟨_, 1, rfl, by decide, by kernel_rfl, .inr (.inl ⟨rfl, by decide, by decide, by kernel_rfl, by kernel_rfl⟩)⟩
  | 1, _ => ⟨_, 0, rfl, by decide, by kernel_rfl, .inl ⟨rfl, by decide, by kernel_rfl, by kernel_rfl⟩⟩
  | 2, _ => ⟨_, 2, rfl, by decide, by kernel_rfl, .inr (.inr (.inl ⟨rfl, by decide, by decide, by kernel_rfl, by decide, by decide⟩))⟩
  | 3, _ => ⟨_, 2, rfl, by decide, by kernel_rfl, .inr (.inr (.inl ⟨rfl, by decide, by decide, by kernel_rfl, by decide, by decide⟩))⟩
  | 4, _ => ⟨_, 2, rfl, by decide, by kernel_rfl, .inr (.inr (.inl ⟨rfl, by decide, by decide, by kernel_rfl, by decide, by decide⟩))⟩
  | 5, _ => ⟨_, 2, rfl, by decide, by kernel_rfl, .inr (.inr (.inl ⟨rfl, by decide, by decide, by kernel_rfl, by decide, by decide⟩))⟩
  | 6, _ => ⟨_, 2, rfl, by decide, by kernel_rfl, .inr (.inr (.inl ⟨rfl, by decide, by decide, by kernel_rfl, by decide, by decide⟩))⟩
  | 7, _ => ⟨_, 2, rfl, by decide, by kernel_rfl, .inr (.inr (.inl ⟨rfl, by decide, by decide, by kernel_rfl, by decide, by decide⟩))⟩
  | 8, _ => ⟨_, 3, rfl, by decide, by kernel_rfl, .inr (.inr (.inr ⟨rfl, by decide, by decide, by kernel_rfl, by decide, by decide⟩))⟩
  | 9, _ => ⟨_, 3, rfl, by decide, by kernel_rfl, .inr (.inr (.inr ⟨rfl, by decide, by decide, by kernel_rfl, by decide, by decide⟩))⟩
  | 10, _ => ⟨_, 3, rfl, by decide, by kernel_rfl, .inr (.inr (.inr ⟨rfl, by decide, by decide, by kernel_rfl, by decide, by decide⟩))⟩
  | 11, _ => ⟨_, 3, rfl, by decide, by kernel_rfl, .inr (.inr (.inr ⟨rfl, by decide, by decide, by kernel_rfl, by decide, by decide⟩))⟩
  | 12, _ => ⟨_, 3, rfl, by decide, by kernel_rfl, .inr (.inr (.inr ⟨rfl, by decide, by decide, by kernel_rfl, by decide, by decide⟩))⟩
  | n + 13, h => absurd h (by omega)
theorem typ_of {t : ET} (h : rightT t = true) : typeT t = typT t := by unfold typeT; rw [if_pos h]
theorem type_two {op : Nm} {A : Option Addr} {c : Nat} {a b : ET} {o1 o2 : Int} (h1 : oneB 3 op 0 [] [] 2 = true) (ha : rightT a = true) (hb : rightT b = true) (ho : opT op = (o1, o2)) :
    typeT (.mk 3 op 0 [] [] A c [a, b]) = if typT a = o1 ∧ typT b = o1 then o2 else 0 := by
  rw [typ_of (right2 h1 ha hb), typT_eq, ho, typL_cons, typL_cons, typL_nil]
  by_cases h : typT a = o1 <;> by_cases h2 : typT b = o1 <;> simp [h, h2]
/-- What the two boxes hold, and all else. -/
structure Ty (w : World) (ba bb : Nat) (A : Option Addr) (a b : ET) (X : World) : Prop where
  ha : Has X ba 24 (cs1 a)
  hb : Has X bb 24 (cs1 b)
  ia : a.In X
  ib : b.In X
  ra : rightT a = true
  rb : rightT b = true
  ops : Strs X A 13 opsL
  tabs : Tabs8 X
  bel : Below w.heap.size w X
theorem Ty.below {w : World} {ba bb : Nat} {A : Option Addr} {a b : ET} {X X' : World} (h : Ty w ba bb A a b X) (hb : Below X.heap.size X X') : Ty w ba bb A a b X' :=
  ⟨h.ha.below hb h.ha.lt, h.hb.below hb h.hb.lt, h.ia.below hb, h.ib.below hb, h.ra, h.rb, h.ops.below hb, h.tabs.below hb, h.bel.trans (hb.mono h.bel.size)⟩
theorem strs_other {w : World} {A : Option Addr} {q : Nat} {t : TypeId} {cs : Array Value} (h : Strs w A 13 opsL) (hq : Has w q t cs) (hc : cs.size ≤ 12) : ∀ a, A = some a → a.block ≠ q := by
  intro a ha e
  obtain ⟨b, off, e2, hcell⟩ := h.shape (by decide)
  rw [ha] at e2
  cases e2
  have h12 := hcell 12 (by decide)
  simp only at e
  subst e
  rw [show (⟨b, off + 12, none⟩ : Addr) = ⟨b, off + 12, none⟩ from rfl, hq.cell (off + 12), Array.getElem?_eq_none (by omega)] at h12
  cases h12
/-- A Kid of a tree in new memory. -/
theorem nw_kid {N : Nat} {w : World} {k : Int} {op : Nm} {n : Int} {v f : Nm} {A : Option Addr} {c : Nat} {ks : List ET} (h : Nw N w (.mk k op n v f A c ks)) (i : Nat) (hi : i < ks.length) : Nw N w ks[i] ∧ ∃ b off, A = some ⟨b, off, none⟩ ∧ N ≤ b ∧ b < w.heap.size ∧ w.cell? ⟨b, off + i * 6, none⟩ = some (.int .i64 ks[i].k) ∧ w.cell? ⟨b, off + i * 6 + 1, none⟩ = some (.string (str ks[i].op)) ∧ w.cell? ⟨b, off + i * 6 + 2, none⟩ = some (.int .i64 ks[i].n)
    ∧ w.cell? ⟨b, off + i * 6 + 3, none⟩ = some (.string (str ks[i].v)) ∧ w.cell? ⟨b, off + i * 6 + 4, none⟩ = some (.string (str ks[i].f)) ∧ w.cell? ⟨b, off + i * 6 + 5, none⟩ = some (.slice ks[i].A ks[i].ks.length ks[i].c) := by
  obtain ⟨⟨b, off, rfl, g0, g1, g2, g3, g4, g5⟩, hk⟩ := ET.In.kids h i hi
  obtain ⟨hN, c0⟩ := hidL_cell g0
  exact ⟨hk, b, off, rfl, hN, World.block_lt_of_cell? _ _ c0, c0, (hidL_cell g1).2, (hidL_cell g2).2, (hidL_cell g3).2, (hidL_cell g4).2, (hidL_cell g5).2⟩
theorem kids_typ {k : Int} {op : Nm} {n : Int} {v f : Nm} {A : Option Addr} {c : Nat} {p q : ET} (hr : rightT (.mk k op n v f A c [p, q]) = true) (ht : typT (.mk k op n v f A c [p, q]) = 2) : rightT p = true ∧ rightT q = true ∧ (typT p = 1 ∨ typT p = 2) ∧ (typT q = 1 ∨ typT q = 2) := by
  obtain ⟨t1, t2, t3⟩ := typ_two (by rw [ht]; decide)
  have hp := opT_pair op
  refine ⟨right_kids hr p (by simp), right_kids hr q (by simp), ?_, ?_⟩
  · rw [t1]; rcases hp with e | e | e <;> rw [e] <;> simp
  · rw [t2]; rcases hp with e | e | e <;> rw [e] <;> simp
end Go.Proofs.YtaiohdcngkkafaaDoor
