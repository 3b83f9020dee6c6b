/- A text as a row of bytes of the call's own: what []byte(s) leaves. -/
import Derived.Test.YtcmgkmllmdgcbaaWrGetsWalk
namespace Go.Proofs.Ytcmgkmllmdgcbaa
open Go.RowKit
set_option linter.unusedVariables false

/-- From the block's beginning on lie these bytes, and may be written. -/
def RowB (w : World) (g : Nat) (t : List UInt8) : Prop := (∀ j (hj : j < t.length), w.cell? ⟨g, j, none⟩ = some (.int .u8 (t[j].toNat : Int))) ∧ ∀ j, j < t.length → w.frozen? ⟨g, j, none⟩ = false
theorem RowB.set {w : World} {g : Nat} {t : List UInt8} (h : RowB w g t) (i : Nat) (hi : i < t.length) (b : UInt8) : RowB (w.setCell ⟨g, i, none⟩ (.int .u8 (b.toNat : Int))) g (t.set i b) := by
  refine ⟨fun j hj => ?_, fun j hj => ?_⟩
  · rw [List.length_set] at hj
    by_cases e : i = j
    · subst e
      rw [World.cell?_setCell_same _ _ _ (h.1 i hi), List.getElem_set_self]
    · rw [World.cell?_setCell_other _ _ _ _ (fun h => e (congrArg Addr.off h)), List.getElem_set_ne e]
      exact h.1 j hj
  · rw [List.length_set] at hj
    rw [World.frozen?_setCell]
    exact h.2 j hj
theorem RowB.text {w : World} {g : Nat} {t : List UInt8} (h : RowB w g t) (n C : Nat) (hn : n ≤ t.length) :
    (convert 34 9 (.slice (some ⟨g, 0, none⟩) n C)).run Try.prog w = .ok (.string (str (t.take n))) w := by
  have e : (t.take n).length = n := by rw [List.length_take]; omega
  have := run_convert_bytes_back (P := Try.prog) w 34 9 5 ⟨g, 0, none⟩ C (t.take n) Try.underlying34 Try.underlying5 Try.underlying9 (fun j hj => by
    rw [Go.WideShapes.add_plain, Nat.zero_add, List.getElem_take]
    exact h.1 j (by omega))
  rw [e] at this
  exact this
theorem str_row (a : List UInt8) (w : World) (ha : a.length ≤ maxLen) :
    ∃ C w', (convert 9 34 (.string (str a))).run Try.prog w = .ok (.slice (some ⟨w.heap.size, 0, none⟩) a.length C) w' ∧ a.length ≤ C ∧ C ≤ maxLen ∧ Below w.heap.size w w' ∧ RowB w' w.heap.size a := by
  have h := run_bytes_of_string (P := Try.prog) w 9 34 5 (str a) Try.underlying9 Try.underlying34 Try.underlying5
  rw [str_size] at h
  refine ⟨_, _, h, grownCap_ge _ _ _ _, grownCap_le_maxLen _ _ _ _ ha, (Below.refl _ _).drew.alloc (Nat.le_refl _) _, ?_, ?_⟩
  · intro j hj
    have := bytesRow_at (str a) (grownCap w a.length 0 5) j (by simpa [str] using hj)
    refine (cell_of_row _ w.heap.size j _ _ _ (heap_alloc_new w.drew _)).trans (this.trans ?_)
    simp [str]
  · intro j hj
    have := heap_alloc_new w.drew (.cells (bytesRow (str a) (grownCap w a.length 0 5)) 5 ((bytesRow (str a) (grownCap w a.length 0 5)).size, (bytesRow (str a) (grownCap w a.length 0 5)).size + 1))
    simp only [World.frozen?]
    rw [show (w.drew.alloc _).heap[w.heap.size]? = _ from this]
    simp [bytesRow, str]
    omega
end Go.Proofs.Ytcmgkmllmdgcbaa
