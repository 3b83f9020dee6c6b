/- The cells of a slice of bools. -/
import Derived.Test.YtplhdmaiammckaaRkHead
import Derived.Test.YtplhdmaiammckaaApp
namespace Go.Proofs.Ytplhdmaiammckaa
open Go.RowKit
set_option linter.unusedVariables false

def updB (L : Nat → Bool) (m : Nat) (b : Bool) : Nat → Bool := fun j => if j = m then b else L j
theorem updB_same (L : Nat → Bool) (m : Nat) (b : Bool) : updB L m b m = b := by unfold updB; simp
theorem updB_other (L : Nat → Bool) (m : Nat) (b : Bool) (j : Nat) (h : j ≠ m) : updB L m b j = L j := by unfold updB; simp [h]
/-- The cells of bools. -/
def bcl (n : Nat) (L : Nat → Bool) : Array Value := ((List.range n).map fun j => Value.bool (L j)).toArray
theorem bcl_get {n j : Nat} (L : Nat → Bool) (h : j < n) : (bcl n L)[j]? = some (.bool (L j)) := by simp [bcl, h]
theorem bcl_set (n j : Nat) (L : Nat → Bool) (b : Bool) : (bcl n L).setIfInBounds j (.bool b) = bcl n (updB L j b) := by
  unfold bcl
  rw [List.setIfInBounds_toArray]
  congr 1
  apply List.ext_getElem
  · simp
  · intro i h1 h2
    simp only [updB, List.getElem_set, List.getElem_map, List.getElem_range]
    by_cases e : j = i
    · subst e; simp
    · rw [if_neg e, if_neg (fun h => e h.symm)]
theorem bcl_ext {n : Nat} {L M : Nat → Bool} (h : ∀ j, j < n → L j = M j) : bcl n L = bcl n M := by
  unfold bcl
  congr 1
  apply List.map_congr_left
  intro j hj
  rw [h j (by simpa using hj)]
theorem info_bool : (Try.prog.info? 4).map (fun i => (i.zero, i.size, i.bytes)) = some (some (.bool false), 1, 1) := by kernel_rfl
theorem made_bools (W : Nat) : madeCells (Value.bool false).cells W = bcl W (fun _ => false) := by
  have h : (madeCells #[Value.bool false] W).toList = List.replicate W (Value.bool false) := toList_madeCells_one _ W
  apply Array.toList_inj.1
  have e : (Value.bool false).cells = #[Value.bool false] := rfl
  rw [e, h]
  simp [bcl, List.map_const']
theorem make_bools (W : Nat) (h8 : W ≤ 100000) (w : World) : (Instr.makeSlice 43 (.int .i64 W) (.int .i64 W)).run Try.prog w = .ok (.slice (some ⟨w.heap.size, 0, none⟩) W W) (w.alloc (.cells (bcl W (fun _ => false)) 4)) := by
  obtain ⟨i0, hi, hz0, hz1, hz2⟩ := info_parts info_bool
  have h := run_make (P := Try.prog) w 43 4 i0 (.bool false) Try.underlying43 hi hz0 .i64 .i64 W W (by omega) (by omega) (by rw [hz2]; omega) (by omega)
  rw [hz1] at h
  simp only [Int.toNat_natCast, Nat.mul_one] at h
  rw [made_bools W] at h
  exact h
end Go.Proofs.Ytplhdmaiammckaa
