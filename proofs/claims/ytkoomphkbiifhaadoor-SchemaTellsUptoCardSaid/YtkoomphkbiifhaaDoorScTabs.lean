/- The two tables of unicode/utf8, and ValidString. -/
import Derived.Test.YtkoomphkbiifhaaDoorScName
import Derived.Test.YtkoomphkbiifhaaDoorScShelf
import Derived.Lib.ValidU
import Derived.Lib.TrimUEq
namespace Go.Proofs.YtkoomphkbiifhaaDoor
open Go.RowKit
/-- The tables are as they are written; the variable MaxLen holds a number. -/
def Tabs (w : World) : Prop := Lib.Utf8Tabs 0 1 w ∧ ∃ m : Int, w.cell? ⟨2, 0, none⟩ = some (.int .i64 m)
theorem Tabs.below {w w' : World} (h : Tabs w) (hb : Below w.heap.size w w') : Tabs w' := by
  obtain ⟨⟨h1, h2⟩, m, h3⟩ := h
  exact ⟨⟨fun c hc => (hb.cell (World.block_lt_of_cell? _ _ (h1 c hc))).trans (h1 c hc), fun i hi => ⟨(hb.cell (World.block_lt_of_cell? _ _ (h2 i hi).1)).trans (h2 i hi).1, (hb.cell (World.block_lt_of_cell? _ _ (h2 i hi).2)).trans (h2 i hi).2⟩⟩, m, (hb.cell (World.block_lt_of_cell? _ _ h3)).trans h3⟩
theorem valid_any (l : Nm) (w : World) (hs : l.length ≤ 9223372036854775807) (hT : Tabs w) :
    Calls Tryd.prog 34 #[.string (str l)] w fun e w' => e = .returned (.bool (Lib.validD l)) ∧ Below w.heap.size w w' := by
  have := Tryd.utf8_ValidString (str l) w (by rw [str_size]; exact hs) hT.1
  rwa [str_data] at this
end Go.Proofs.YtkoomphkbiifhaaDoor
