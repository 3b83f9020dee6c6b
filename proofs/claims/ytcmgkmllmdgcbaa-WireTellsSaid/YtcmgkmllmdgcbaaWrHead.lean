/- What the statements of layer 5 ask ahead, that the chapter's examples are so, returns true, in any memory. -/
import Derived.Test.YtcmgkmllmdgcbaaWrFits
namespace Go.Proofs.Ytcmgkmllmdgcbaa
open Go.RowKit
set_option linter.unusedVariables false

/-- What kinds makes: of three kinds, with two, two and three fields. -/
theorem kinds_any (w : World) : Calls Try.prog 15 #[] w fun e w' => ∃ A, e = .returned (.slice A 3 3) ∧ Below w.heap.size w w' ∧ KLies w' A [2, 2, 3] := by
  go_enter Try.func15, Try.ntmps15
  go_wp2
  go_ret
  refine ⟨_, rfl, ((((Below.refl _ _).alloc (Nat.le_refl _) _).alloc (by simp) _).alloc (by simp; omega) _).alloc (by simp; omega) _, ?_⟩
  intro i m hi
  match i, hi with
  | 0, hi => cases hi; exact ⟨_, 0, _, _, rfl, by go_simp; exact ⟨rfl, rfl⟩⟩
  | 1, hi => cases hi; exact ⟨_, 0, _, _, rfl, by go_simp; exact ⟨rfl, rfl⟩⟩
  | 2, hi => cases hi; exact ⟨_, 0, _, _, rfl, by go_simp; exact ⟨rfl, rfl⟩⟩
end Go.Proofs.Ytcmgkmllmdgcbaa
