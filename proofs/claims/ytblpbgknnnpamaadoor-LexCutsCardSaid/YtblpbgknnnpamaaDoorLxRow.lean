/- How a slice of integers that comes in is opened for the walks: nil or a row of cells, with the numbers up to its capacity. -/
import Derived.Test.YtblpbgknnnpamaaDoorLxLaid
import Derived.Test.YtblpbgknnnpamaaDoorScRowDef
namespace Go.Proofs.YtblpbgknnnpamaaDoor
open Go.ChangeShapes Go.WideShapes Go.ChangeAt Go.RowKit

theorem row_open {H : Type} {enc : TypeId × Value → H} {W : World} {held : Bool} {t e : TypeId} {k : IntKind} {a : Option Addr} {len cap : Nat} {d : DataW H} {p : List MemPlace}
    (ht : Tryd.prog.underlying t = some (.slice e)) (he : Tryd.prog.underlying e = some (.int k)) (hc : Tryd.prog.cellsOf e = 1) (h : DataW.Trod enc Tryd.prog W 0 (fun _ => true) held t (.slice a len cap) d p) :
    ∃ zs, IsRow k W a len cap zs ∧ ∀ n ∈ zs, (Lit.int k n).wf = true := by
  obtain ⟨fuel, hf⟩ := h
  rcases open_ints ht he hc hf with ⟨hcs, _⟩ | ⟨x, l, c, zs, hcs, _, hl, hm, hz, _, hcell, hwz⟩
  · simp [Value.cells] at hcs
    obtain ⟨rfl, rfl, rfl⟩ := hcs
    exact ⟨[], ⟨Nat.le_refl _, rfl, Nat.zero_le _, fun i hi => absurd hi (by simp)⟩, fun n hn => by cases hn⟩
  · simp [Value.cells] at hcs
    obtain ⟨rfl, rfl, rfl⟩ := hcs
    have hz' : zs.length = cap := by simpa using hz
    exact ⟨zs, ⟨by omega, hz', by omega, fun i hi => ⟨x, rfl, hcell i hi⟩⟩, hwz⟩
end Go.Proofs.YtblpbgknnnpamaaDoor
