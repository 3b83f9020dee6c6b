/- A slice of integers that came in. -/
import Derived.Test.YtblpbgknnnpamaaDoorBase
import Derived.Below
namespace Go.Proofs.YtblpbgknnnpamaaDoor
open Go.RowKit
/-- The slice's cells, up to its capacity, hold these numbers. -/
def IsRow (k : IntKind) (w : World) (a : Option Addr) (len cap : Nat) (zs : List Int) : Prop :=
  len ≤ zs.length ∧ zs.length = cap ∧ cap ≤ maxLen ∧ ∀ i, i < zs.length → ∃ x : Addr, a = some x ∧ w.cell? (x.add i) = some (.int k (zs.getD i 0))
theorem IsRow.below {k : IntKind} {w w' : World} {a : Option Addr} {len cap : Nat} {zs : List Int} (h : IsRow k w a len cap zs) (hb : Below w.heap.size w w') : IsRow k w' a len cap zs :=
  ⟨h.1, h.2.1, h.2.2.1, fun i hi => by
    obtain ⟨x, rfl, hx⟩ := h.2.2.2 i hi
    exact ⟨x, rfl, (hb.cell (World.block_lt_of_cell? _ _ hx)).trans hx⟩⟩
theorem IsRow.at_ {k : IntKind} {w : World} {a : Option Addr} {len cap : Nat} {zs : List Int} (h : IsRow k w a len cap zs) {i : Nat} (hi : i < zs.length) : ∃ b off, a = some ⟨b, off, none⟩ ∧ w.cell? ⟨b, off + i, none⟩ = some (.int k (zs.getD i 0)) := by
  obtain ⟨x, rfl, hx⟩ := h.2.2.2 i hi
  obtain ⟨b, off, sp⟩ := x
  have hs : sp = none := by
    obtain ⟨y, e, hy⟩ := h.2.2.2 0 (by omega)
    cases e
    simpa [Addr.add] using World.cell?_spot hy
  subst hs
  exact ⟨b, off, rfl, by rw [← Go.WideShapes.add_plain]; exact hx⟩
end Go.Proofs.YtblpbgknnnpamaaDoor
