/- Layer 9: a block of seven cells set anew. -/
import Derived.Test.YtbdfehgofnomhaaDoorPaIt
import Derived.Test.YtbdfehgofnomhaaDoorExTr
import Derived.Test.YtbdfehgofnomhaaDoorExHid
namespace Go.Proofs.YtbdfehgofnomhaaDoor
open Go.RowKit
set_option linter.unusedVariables false
theorem bwA {w w' : World} (h : Below w.heap.size w w') (o : Obj) : Below w.heap.size w (w'.alloc o) := h.alloc h.size o
theorem bwD {w w' : World} (h : Below w.heap.size w w') : Below w.heap.size w w'.drew := h.drew
theorem bwT {w w' w'' : World} (h : Below w.heap.size w w') (h' : Below w'.heap.size w' w'') : Below w.heap.size w w'' := h.trans (h'.mono h.size)
theorem hasA {w : World} {q : Nat} {t : TypeId} {cs : Array Value} (h : Has w q t cs) (o : Obj) : Has (w.alloc o) q t cs := h.below (step1 w o) h.lt
theorem hasD {w : World} {q : Nat} {t : TypeId} {cs : Array Value} (h : Has w q t cs) : Has w.drew q t cs := h
theorem hasB {w w' : World} {q : Nat} {t : TypeId} {cs : Array Value} (hb : Below w.heap.size w w') (h : Has w q t cs) : Has w' q t cs := h.below hb h.lt
theorem hasS {w : World} {p q : Nat} {t : TypeId} {cs : Array Value} (h : Has w q t cs) (i : Nat) (u : Value) (hq : q ≠ p) : Has (w.setCell ⟨p, i, none⟩ u) q t cs := ((set_grown w ⟨p, i, none⟩ u).block q h.lt (by simpa using hq)).trans h
theorem hasP {w : World} {q : Nat} {t : TypeId} {cs : Array Value} (h : Has w q t cs) (i : Nat) (u : Value) : Has (w.setCell ⟨q, i, none⟩ u) q t (cs.setIfInBounds i u) := h.put i u
abbrev zer7 : Array Value := #[.int .i64 0, .string { data := #[] }, .string { data := #[] }, .slice none 0 0, .int .i64 0, .int .i64 0, .slice none 0 0]
theorem zer7_facts {w : World} {q : Nat} {t : TypeId} (h : Has w q t zer7) : (w.cell? ⟨q, 0, none⟩ = some (.int .i64 0) ∧ w.cell? ⟨q, 1, none⟩ = some (.string { data := #[] }) ∧ w.cell? ⟨q, 2, none⟩ = some (.string { data := #[] }) ∧ w.cell? ⟨q, 3, none⟩ = some (.slice none 0 0) ∧ w.cell? ⟨q, 4, none⟩ = some (.int .i64 0) ∧ w.cell? ⟨q, 5, none⟩ = some (.int .i64 0) ∧ w.cell? ⟨q, 6, none⟩ = some (.slice none 0 0))
  ∧ (w.frozen? ⟨q, 0, none⟩ = false ∧ w.frozen? ⟨q, 1, none⟩ = false ∧ w.frozen? ⟨q, 2, none⟩ = false ∧ w.frozen? ⟨q, 3, none⟩ = false ∧ w.frozen? ⟨q, 4, none⟩ = false ∧ w.frozen? ⟨q, 5, none⟩ = false ∧ w.frozen? ⟨q, 6, none⟩ = false) ∧ q < w.heap.size :=
  ⟨⟨h.cell 0, h.cell 1, h.cell 2, h.cell 3, h.cell 4, h.cell 5, h.cell 6⟩, ⟨h.free 0, h.free 1, h.free 2, h.free 3, h.free 4, h.free 5, h.free 6⟩, h.lt⟩
/-- All seven cells of a block set anew. -/
def set7 (w : World) (q : Nat) (u0 u1 u2 u3 u4 u5 u6 : Value) : World := ((((((w.setCell ⟨q, 0, none⟩ u0).setCell ⟨q, 1, none⟩ u1).setCell ⟨q, 2, none⟩ u2).setCell ⟨q, 3, none⟩ u3).setCell ⟨q, 4, none⟩ u4).setCell ⟨q, 5, none⟩ u5).setCell ⟨q, 6, none⟩ u6
theorem set7_has {w : World} {q : Nat} {t : TypeId} {z0 z1 z2 z3 z4 z5 z6 : Value} (h : Has w q t #[z0, z1, z2, z3, z4, z5, z6]) (u0 u1 u2 u3 u4 u5 u6 : Value) : Has (set7 w q u0 u1 u2 u3 u4 u5 u6) q t #[u0, u1, u2, u3, u4, u5, u6] := by
  have := ((((((h.put 0 u0).put 1 u1).put 2 u2).put 3 u3).put 4 u4).put 5 u5).put 6 u6
  unfold set7
  simpa using this
theorem set7_below {w : World} {q B : Nat} (h : B ≤ q) (u0 u1 u2 u3 u4 u5 u6 : Value) : Below B w (set7 w q u0 u1 u2 u3 u4 u5 u6) :=
  ((((((((Below.refl B w).setCell (p := ⟨q, 0, none⟩) h _).setCell (p := ⟨q, 1, none⟩) h _).setCell (p := ⟨q, 2, none⟩) h _).setCell (p := ⟨q, 3, none⟩) h _).setCell (p := ⟨q, 4, none⟩) h _).setCell (p := ⟨q, 5, none⟩) h _).setCell (p := ⟨q, 6, none⟩) h _)
theorem has_one {w : World} {q : Nat} {t t' : TypeId} {cs cs' : Array Value} (h : Has w q t cs) (h' : Has w q t' cs') : cs = cs' := by
  have := h.symm.trans h'
  injection this with e
  injection e
/-- What lies elsewhere is as it was: it is elsewhere if it is another thing. -/
theorem set7_keep {w : World} {p : Nat} {t0 : TypeId} {c0 : Array Value} (hz : Has w p t0 c0) (u0 u1 u2 u3 u4 u5 u6 : Value) (q : Nat) (t : TypeId) (cs : Array Value) (h : Has w q t cs) (hne : cs ≠ c0) : Has (set7 w p u0 u1 u2 u3 u4 u5 u6) q t cs := by
  have hq : q ≠ p := fun e => hne (by subst e; exact has_one h hz)
  exact hasS (hasS (hasS (hasS (hasS (hasS (hasS h _ _ hq) _ _ hq) _ _ hq) _ _ hq) _ _ hq) _ _ hq) _ _ hq
end Go.Proofs.YtbdfehgofnomhaaDoor
