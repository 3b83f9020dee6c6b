/- What the statements of layer 1 ask ahead, that the chapter's examples are so, returns true, in any memory in which the table of classes reads as it is written. -/
import Derived.Test.YtbojiphhcciliaaDoorSizeWalks
namespace Go.Proofs.YtbojiphhcciliaaDoor
open Go.RowKit
set_option linter.unusedVariables false

theorem Tab.alloc {w : World} (h : Tab w) (o : Obj) : Tab (w.alloc o) := h.keep fun p hp => World.cell?_alloc_lt w o p hp
/-- A row of numbers that is laid anew. -/
theorem IsRow.fresh (w : World) (vs : List Int) (n : Nat) (hn : vs.length = n) (hm : n ≤ 1000) : IsRow .i64 (w.alloc (.cells (vs.map (Value.int .i64)).toArray 3)) (some ⟨w.heap.size, 0, none⟩) n n vs := by
  refine ⟨by omega, hn, by unfold maxLen; omega, fun i hi => ⟨_, rfl, ?_⟩⟩
  rw [Go.WideShapes.add_plain]
  have := cell_of_row (w.alloc (.cells (vs.map (Value.int .i64)).toArray 3)) w.heap.size (0 + i) _ _ _ (heap_alloc_new w _)
  rw [this]
  simp [List.getD, hi]

set_option maxHeartbeats 800000 in
theorem examples_any (w : World) (ht : Tab w) :
    Calls Tryd.prog 8 #[] w fun e w' => e = .returned (.bool true) ∧ Below w.heap.size w w' := by
  go_enter Tryd.func8, Tryd.ntmps8
  go_wp2_with fail
  refine (round_any 17 _ ht).mono ?_
  rintro e w' ⟨rfl, rfl⟩
  rw [show rnd 17 = 32 by decide, show rok 17 = true by decide]
  go_wp2_with fail
  refine (round_any 1025 _ ht).mono ?_
  rintro e w' ⟨rfl, rfl⟩
  rw [show rnd 1025 = 0 by decide, show rok 1025 = false by decide]
  go_wp2_with fail
  refine (sum_any _ 3 3 [1, 16, 17] _ (ht.alloc _) (IsRow.fresh w [1, 16, 17] 3 rfl (by omega))).mono ?_
  rintro e w' ⟨rfl, rfl⟩
  rw [show smv (List.take 3 [1, 16, 17]) = 64 by decide, show smk (List.take 3 [1, 16, 17]) = true by decide]
  go_wp2_with fail
  refine (class_any 0 _ (ht.alloc _)).mono ?_
  rintro e w' ⟨rfl, rfl⟩
  rw [show cls 0 = 0 by decide]
  go_wp2_with fail
  refine (class_any (-1) _ (ht.alloc _)).mono ?_
  rintro e w' ⟨rfl, rfl⟩
  rw [show cls (-1) = -1 by decide]
  go_wp2_with fail
  refine (classes_any _ (ht.alloc _)).mono ?_
  rintro e w' ⟨rfl, _, hb⟩
  have HB := Lib.hid hb
  clear hb
  go_wp2
  go_ret
  exact ⟨rfl, ((Below.refl _ _).alloc (Nat.le_refl _) _).trans (HB.out.mono (by simp))⟩
end Go.Proofs.YtbojiphhcciliaaDoor
