/- What kinds makes in the statements of layer 5, as kinds with their names and fields. -/
import Derived.Test.YtcmgkmllmdgcbaaWrRefKinds
namespace Go.Proofs.Ytcmgkmllmdgcbaa
open Go.RowKit
set_option linter.unusedVariables false

def k5 : List Kd := [([65], [[107], [120]]), ([66], [[107], [121]]), ([67], [[107], [120], [121]])]
set_option maxHeartbeats 1600000 in
theorem kinds_full (w : World) : Calls Try.prog 15 #[] w fun e w' => ∃ A, e = .returned (.slice A k5.length 3) ∧ Below w.heap.size w w' ∧ Kinds w' A 3 k5 := by
  go_enter Try.func15, Try.ntmps15
  go_wp2
  go_ret
  refine ⟨_, rfl, ((((Below.refl _ _).alloc (Nat.le_refl _) _).alloc (by simp) _).alloc (by simp; omega) _).alloc (by simp; omega) _, ?_⟩
  refine ⟨fun i k hk => ?_, (fun h => by cases h), by decide, by unfold maxLen; omega⟩
  match i, hk with
  | 0, hk =>
    cases hk
    refine ⟨_, 0, some ⟨w.heap.size, 0, none⟩, 2, rfl, by go_simp; rfl, by go_simp, ⟨fun i u hu => ⟨_, rfl, ?_⟩, (fun h => by cases h), by simp, by unfold maxLen; omega⟩⟩
    rw [Go.WideShapes.add_plain]
    match i, hu with
    | 0, hu => cases hu; go_simp; rfl
    | 1, hu => cases hu; go_simp; rfl
  | 1, hk =>
    cases hk
    refine ⟨_, 0, some ⟨w.heap.size + 1, 0, none⟩, 2, rfl, by go_simp; rfl, by go_simp, ⟨fun i u hu => ⟨_, rfl, ?_⟩, (fun h => by cases h), by simp, by unfold maxLen; omega⟩⟩
    rw [Go.WideShapes.add_plain]
    match i, hu with
    | 0, hu => cases hu; go_simp; rfl
    | 1, hu => cases hu; go_simp; rfl
  | 2, hk =>
    cases hk
    refine ⟨_, 0, some ⟨w.heap.size + 1 + 1, 0, none⟩, 3, rfl, by go_simp; rfl, by go_simp, ⟨fun i u hu => ⟨_, rfl, ?_⟩, (fun h => by cases h), by simp, by unfold maxLen; omega⟩⟩
    rw [Go.WideShapes.add_plain]
    match i, hu with
    | 0, hu => cases hu; go_simp; rfl
    | 1, hu => cases hu; go_simp; rfl
    | 2, hu => cases hu; go_simp; rfl
end Go.Proofs.Ytcmgkmllmdgcbaa
