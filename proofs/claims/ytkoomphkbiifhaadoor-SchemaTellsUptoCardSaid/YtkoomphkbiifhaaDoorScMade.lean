/- The names that the statements take. -/
import Derived.Test.YtkoomphkbiifhaaDoorScOwnS
import Derived.Test.YtkoomphkbiifhaaDoorScWords
import Derived.Test.YtkoomphkbiifhaaDoorScRowDef
namespace Go.Proofs.YtkoomphkbiifhaaDoor
open Go.RowKit
set_option linter.unusedVariables false

def nmT : List Nm := [[97], [98], [65, 57], [95, 120], [195, 169, 116, 195, 169], [239, 191, 189], [240, 159, 152, 128], [120, 49], [87, 73, 84, 72, 73, 78], [66, 89], [57, 97], [], [97, 32, 98], [255], [97, 195],
  [97, 98, 99, 100, 101, 102, 103, 104, 105, 106, 107, 108, 109, 110, 111, 112, 113, 114, 115, 116, 117, 118, 119, 120, 121], [237, 160, 128], [192, 128], [66, 89, 69], [97, 44, 98]]
def nmC : Array Value := (nmT.map fun s => Value.string (str s)).toArray
theorem nmT_len : ∀ s ∈ nmT, s.length ≤ 25 := by decide
theorem nm_cell (w : World) {i : Nat} (hi : i < 20) : ∃ s, s.length ≤ 25 ∧ (w.alloc (.cells nmC 9)).cell? ⟨w.heap.size, i, none⟩ = some (.string (str s)) := by
  have hl : nmT.length = 20 := rfl
  refine ⟨nmT[i], nmT_len _ (List.getElem_mem _), ?_⟩
  rw [cell_of_row _ w.heap.size i nmC 9 (0, 0) (heap_alloc_new w _)]
  unfold nmC
  rw [List.getElem?_toArray, List.getElem?_map, List.getElem?_eq_getElem (by omega)]
  rfl
/-- Some text of at most so many bytes. -/
def SomeText (n : Nat) (w : World) (e : Ending) (w' : World) : Prop := ∃ s : Nm, s.length ≤ n ∧ e = .returned (.string (str s)) ∧ Below w.heap.size w w'
set_option maxRecDepth 100000 in
theorem name_any (m : Int) (w : World) (h0 : 0 ≤ m) (h1 : m ≤ 255) : Calls Tryd.prog 9 #[.int .u8 m] w (SomeText 25 w) := by
  obtain ⟨i, hi⟩ : ∃ i : Nat, m % 20 = (i : Int) := ⟨(m % 20).toNat, by omega⟩
  have hi2 : i < 20 := by omega
  obtain ⟨s, hs, hc⟩ := nm_cell w hi2
  have bl : Below w.heap.size w (w.alloc (.cells nmC 9)) := (Below.refl _ _).alloc (Nat.le_refl _) _
  obtain ⟨W, hW⟩ : ∃ W, w.alloc (.cells nmC 9) = W := ⟨_, rfl⟩
  rw [hW] at hc bl
  have hW2 : w.alloc (.cells #[.string { data := #[97] }, .string { data := #[98] }, .string { data := #[65, 57] }, .string { data := #[95, 120] }, .string { data := #[195, 169, 116, 195, 169] }, .string { data := #[239, 191, 189] }, .string { data := #[240, 159, 152, 128] }, .string { data := #[120, 49] }, .string { data := #[87, 73, 84, 72, 73, 78] }, .string { data := #[66, 89] }, .string { data := #[57, 97] }, .string { data := #[] }, .string { data := #[97, 32, 98] }, .string { data := #[255] }, .string { data := #[97, 195] }, .string { data := #[97, 98, 99, 100, 101, 102, 103, 104, 105, 106, 107, 108, 109, 110, 111, 112, 113, 114, 115, 116, 117, 118, 119, 120, 121] }, .string { data := #[237, 160, 128] }, .string { data := #[192, 128] }, .string { data := #[66, 89, 69] }, .string { data := #[97, 44, 98] }] 9) = W := hW
  clear hW
  go_enter Tryd.func9, Tryd.ntmps9
  go_wp2
  go_ret
  exact ⟨s, hs, rfl, bl⟩
end Go.Proofs.YtkoomphkbiifhaaDoor
