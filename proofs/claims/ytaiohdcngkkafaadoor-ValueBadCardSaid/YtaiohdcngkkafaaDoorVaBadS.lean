/- ValueBad: two readers, set up one behind the other. -/
import Derived.Test.YtaiohdcngkkafaaDoorVaCut
namespace Go.Proofs.YtaiohdcngkkafaaDoor
open Go.RowKit
set_option linter.unusedVariables false

/-- What two predicates lie in. -/
structure Bp (bx by_ : Nat) (t1 t2 : ET) (w : World) : Prop where
  hx : Has w bx 24 (cs1 t1)
  hy : Has w by_ 24 (cs1 t2)
  i1 : t1.In w
  i2 : t2.In w
  tabs : Tabs8 w
theorem Bp.below {bx by_ : Nat} {t1 t2 : ET} {w w' : World} (h : Bp bx by_ t1 t2 w) (hb : Below w.heap.size w w') : Bp bx by_ t1 t2 w' := ⟨h.hx.below hb h.hx.lt, h.hy.below hb h.hy.lt, h.i1.below hb, h.i2.below hb, h.tabs.below hb⟩
/-- The contrary, both, either: where they are made. -/
abbrev bdNot (N : Nat) (t1 : ET) : ET := .mk 2 [33] 0 [] [] (some ⟨N, 0, none⟩) 1 [t1]
abbrev bdAnd (N : Nat) (t1 t2 : ET) : ET := .mk 3 [38, 38] 0 [] [] (some ⟨N + 1 + 1, 0, none⟩) 2 [t1, t2]
abbrev bdOr (N : Nat) (t1 t2 : ET) : ET := .mk 3 [124, 124] 0 [] [] (some ⟨N + 1 + 1 + 1 + 1, 0, none⟩) 2 [t1, t2]
abbrev bdW (w : World) (t1 t2 : ET) : World := (((((w.alloc (.cells (cs1 t1) 24)).alloc (.cells (cs1 (bdNot w.heap.size t1)) 24)).alloc (.cells (cs2 t1 t2) 24)).alloc (.cells (cs1 (bdAnd w.heap.size t1 t2)) 24)).alloc (.cells (cs2 t1 t2) 24)).alloc (.cells (cs1 (bdOr w.heap.size t1 t2)) 24)
structure Bq (N bx by_ : Nat) (t1 t2 : ET) (w : World) : Prop where
  p : Bp bx by_ t1 t2 w
  hn : Has w (N + 1) 24 (cs1 (bdNot N t1))
  ha : Has w (N + 1 + 1 + 1) 24 (cs1 (bdAnd N t1 t2))
  ho : Has w (N + 1 + 1 + 1 + 1 + 1) 24 (cs1 (bdOr N t1 t2))
  n : (bdNot N t1).In w
  a : (bdAnd N t1 t2).In w
  o : (bdOr N t1 t2).In w
theorem Bq.below {N bx by_ : Nat} {t1 t2 : ET} {w w' : World} (h : Bq N bx by_ t1 t2 w) (hb : Below w.heap.size w w') : Bq N bx by_ t1 t2 w' := ⟨h.p.below hb, h.hn.below hb h.hn.lt, h.ha.below hb h.ha.lt, h.ho.below hb h.ho.lt, h.n.below hb, h.a.below hb, h.o.below hb⟩
theorem bdW_q {bx by_ : Nat} {t1 t2 : ET} {w : World} (h : Bp bx by_ t1 t2 w) : Bq w.heap.size bx by_ t1 t2 (bdW w t1 t2) ∧ Below w.heap.size w (bdW w t1 t2) := by
  have key : ∀ (W : World) (k : Nat) (o : Obj) (cs : Array Value), W.heap.size = w.heap.size + k → Below w.heap.size w W → o = .cells cs 24 (0, 0) → ∃ W', W.alloc o = W' ∧ W'.heap.size = w.heap.size + k + 1 ∧ Below w.heap.size w W' ∧ Below W.heap.size W W' ∧ Has W' (w.heap.size + k) 24 cs := by
    intro W k o cs hs hb ho
    exact ⟨_, rfl, by simp [hs], hb.trans ((step1 W o).mono hb.size), step1 W o, has_at ho hs.symm⟩
  obtain ⟨W1, e1, z1, b1, s1, h1⟩ := key w 0 (.cells (cs1 t1) 24) _ rfl (Below.refl _ _) rfl
  have i1 : ET.In W1 (bdNot w.heap.size t1) := in1 2 [33] 0 [] [] 1 h1 (h.i1.below b1) (okE_small _ _ _ _ (by simp) (by omega) (by omega))
  obtain ⟨W2, e2, z2, b2, s2, h2⟩ := key W1 1 (.cells (cs1 (bdNot w.heap.size t1)) 24) _ z1 b1 rfl
  obtain ⟨W3, e3, z3, b3, s3, h3⟩ := key W2 2 (.cells (cs2 t1 t2) 24) _ z2 b2 rfl
  have i3 : ET.In W3 (bdAnd w.heap.size t1 t2) := in2 3 [38, 38] 0 [] [] 2 h3 (h.i1.below b3) (h.i2.below b3) (okE_small _ _ _ _ (by simp) (by omega) (by omega))
  obtain ⟨W4, e4, z4, b4, s4, h4⟩ := key W3 3 (.cells (cs1 (bdAnd w.heap.size t1 t2)) 24) _ z3 b3 rfl
  obtain ⟨W5, e5, z5, b5, s5, h5⟩ := key W4 4 (.cells (cs2 t1 t2) 24) _ z4 b4 rfl
  have i5 : ET.In W5 (bdOr w.heap.size t1 t2) := in2 3 [124, 124] 0 [] [] 2 h5 (h.i1.below b5) (h.i2.below b5) (okE_small _ _ _ _ (by simp) (by omega) (by omega))
  obtain ⟨W6, e6, z6, b6, s6, h6⟩ := key W5 5 (.cells (cs1 (bdOr w.heap.size t1 t2)) 24) _ z5 b5 rfl
  have he : bdW w t1 t2 = W6 := by rw [← e6, ← e5, ← e4, ← e3, ← e2, ← e1]
  rw [he]
  have f4 : Below W4.heap.size W4 W6 := s5.trans (s6.mono s5.size)
  have f3 : Below W3.heap.size W3 W6 := s4.trans (f4.mono s4.size)
  have f2 : Below W2.heap.size W2 W6 := s3.trans (f3.mono s3.size)
  have f1 : Below W1.heap.size W1 W6 := s2.trans (f2.mono s2.size)
  exact ⟨⟨h.below b6, h2.below f2 h2.lt, h4.below f4 h4.lt, h6, i1.below f1, i3.below f3, i5.below s6⟩, b6⟩
end Go.Proofs.YtaiohdcngkkafaaDoor
