/- Texts made of bytes, and put together. -/
import Derived.Test.YtkoomphkbiifhaaDoorScBase
namespace Go.Proofs.YtkoomphkbiifhaaDoor
open Go.RowKit
set_option linter.unusedVariables false
theorem run_add_str (a b : List UInt8) (h : a.length + b.length ≤ 9223372036854775807) (W : World) : (Op.stringOp .add (str a) (str b)).run Tryd.prog W = .ok (.string (str (a ++ b))) W := by
  rw [run_string_add_sum W _ _ (by rw [str_size, str_size]; exact h), str_append]
theorem conv_bytes {wr : World} {g W : Nat} {l : List UInt8} (h : Has wr g 5 (bcells l)) (hl : l.length = W) :
    (convert 23 9 (.slice (some ⟨g, 0, none⟩) W W)).run Tryd.prog wr = .ok (.string (str l)) wr := by
  subst hl
  refine run_convert_bytes_back wr 23 9 5 ⟨g, 0, none⟩ l.length l Tryd.underlying23 Tryd.underlying5 Tryd.underlying9 ?_
  intro j hj
  rw [Go.WideShapes.add_plain, Nat.zero_add]
  exact (h.cell j).trans (bcells_get l j hj)
/-- A new slice of one byte, as a text. -/
theorem conv_one (x : Nat) (hx : x < 256) (wr : World) (y : Int) (hy : y = (x : Int)) : (convert 23 9 (.slice (some ⟨wr.heap.size, 0, none⟩) 1 1)).run Tryd.prog (wr.alloc (.cells #[.int .u8 y] 5)) = .ok (.string (str [UInt8.ofNat x])) (wr.alloc (.cells #[.int .u8 y] 5)) := by
  subst hy
  refine conv_bytes (l := [UInt8.ofNat x]) (W := 1) ?_ rfl
  have e : bcells [UInt8.ofNat x] = #[.int .u8 (x : Int)] := by
    unfold bcells
    simp only [List.map_cons, List.map_nil, UInt8.toNat_ofNat_of_lt' hx]
  rw [e]
  exact heap_alloc_new wr _
end Go.Proofs.YtkoomphkbiifhaaDoor
