/- Layer 9: a block of three cells set anew. -/
import Derived.Test.YtbdfehgofnomhaaDoorPaSet
namespace Go.Proofs.YtbdfehgofnomhaaDoor
open Go.RowKit
set_option linter.unusedVariables false

def set3 (w : World) (q : Nat) (u0 u1 u2 : Value) : World := ((w.setCell ⟨q, 0, none⟩ u0).setCell ⟨q, 1, none⟩ u1).setCell ⟨q, 2, none⟩ u2
theorem set3_has {w : World} {q : Nat} {t : TypeId} {z0 z1 z2 : Value} (h : Has w q t #[z0, z1, z2]) (u0 u1 u2 : Value) : Has (set3 w q u0 u1 u2) q t #[u0, u1, u2] := by
  have := ((h.put 0 u0).put 1 u1).put 2 u2
  unfold set3
  simpa using this
theorem set3_below {w : World} {q B : Nat} (h : B ≤ q) (u0 u1 u2 : Value) : Below B w (set3 w q u0 u1 u2) :=
  (((Below.refl B w).setCell (p := ⟨q, 0, none⟩) h _).setCell (p := ⟨q, 1, none⟩) h _).setCell (p := ⟨q, 2, none⟩) h _
theorem set3_same {w : World} {p q : Nat} (u0 u1 u2 : Value) (h : q ≠ p) : (set3 w p u0 u1 u2).heap[q]? = w.heap[q]? := by
  unfold set3
  have hs : ∀ (w : World) i u, (w.setCell ⟨p, i, none⟩ u).heap[q]? = w.heap[q]? := fun w i u => by
    simp [World.setCell, Array.getElem?_modify, Ne.symm h]
  rw [hs, hs, hs]
abbrev zer3 : Array Value := #[.slice none 0 0, .int .i64 0, .string { data := #[] }]
theorem zer3_facts {w : World} {q : Nat} {t : TypeId} (h : Has w q t zer3) : (w.cell? ⟨q, 0, none⟩ = some (.slice none 0 0) ∧ w.cell? ⟨q, 1, none⟩ = some (.int .i64 0) ∧ w.cell? ⟨q, 2, none⟩ = some (.string { data := #[] }))
  ∧ (w.frozen? ⟨q, 0, none⟩ = false ∧ w.frozen? ⟨q, 1, none⟩ = false ∧ w.frozen? ⟨q, 2, none⟩ = false) ∧ q < w.heap.size :=
  ⟨⟨h.cell 0, h.cell 1, h.cell 2⟩, ⟨h.free 0, h.free 1, h.free 2⟩, h.lt⟩
theorem set3_keep {w : World} {p : Nat} {t0 : TypeId} {c0 : Array Value} (hz : Has w p t0 c0) (u0 u1 u2 : Value) (q : Nat) (t : TypeId) (cs : Array Value) (h : Has w q t cs) (hne : cs ≠ c0) : Has (set3 w p u0 u1 u2) q t cs := by
  have hq : q ≠ p := fun e => hne (by subst e; exact has_one h hz)
  exact (set3_same _ _ _ hq).trans h
end Go.Proofs.YtbdfehgofnomhaaDoor
