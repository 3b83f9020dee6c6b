/- Layer 7: two blocks more. -/
import Derived.Test.YtbdfehgofnomhaaDoorExAll
namespace Go.Proofs.YtbdfehgofnomhaaDoor
open Go.RowKit
set_option linter.unusedVariables false

theorem two_new (w : World) (cs ds : Array Value) (t s : TypeId) : Has ((w.alloc (.cells cs t)).alloc (.cells ds s)) w.heap.size t cs ∧ Has ((w.alloc (.cells cs t)).alloc (.cells ds s)) (w.heap.size + 1) s ds ∧ Below w.heap.size w ((w.alloc (.cells cs t)).alloc (.cells ds s)) := by
  have h1 : Has (w.alloc (.cells cs t)) w.heap.size t cs := heap_alloc_new w _
  have h2 : Has ((w.alloc (.cells cs t)).alloc (.cells ds s)) (w.alloc (.cells cs t)).heap.size s ds := heap_alloc_new _ _
  refine ⟨h1.below ((Below.refl _ _).alloc (Nat.le_refl _) _) (by simp), ?_, ((Below.refl _ _).alloc (Nat.le_refl _) _).alloc (by simp) _⟩
  rw [show w.heap.size + 1 = (w.alloc (.cells cs t)).heap.size by simp]
  exact h2
end Go.Proofs.YtbdfehgofnomhaaDoor
