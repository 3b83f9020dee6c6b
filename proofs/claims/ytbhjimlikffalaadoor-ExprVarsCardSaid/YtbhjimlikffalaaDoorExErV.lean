/- Layer 7: what is gathered of a tree without its places. -/
import Derived.Test.YtbhjimlikffalaaDoorExGen
import Derived.Test.YtbhjimlikffalaaDoorExSort
namespace Go.Proofs.YtbhjimlikffalaaDoor
open Go.RowKit
set_option linter.unusedVariables false

theorem vst_all : ∀ (t : ET) (l : List Nm), (allF vst l t).2 = true ∧ allF vst l t.er = allF vst l t := by
  refine ET.ind fun k op n v f A c ks ih l => ?_
  have hl : ∀ (ks : List ET), (∀ t ∈ ks, ∀ l, (allF vst l t).2 = true ∧ allF vst l t.er = allF vst l t) → ∀ l, (allL vst l ks).2 = true ∧ allL vst l (erL ks) = allL vst l ks := by
    intro ks
    induction ks with
    | nil => intro _ l; rw [erL_nil, allL_nil]; exact ⟨rfl, rfl⟩
    | cons t ts ihl =>
      intro hh l
      obtain ⟨h1, h2⟩ := hh t (by simp) l
      have := ihl (fun t ht => hh t (by simp [ht])) (allF vst l t).1
      rw [erL_cons, allL_yes h1, allL_yes (by rw [h2]; exact h1), h2]
      exact this
  rw [er_mk, allF_yes rfl, allF_yes rfl]
  exact hl ks ih _
theorem gath_er (t : ET) : gath t.er = gath t := by unfold gath; rw [(vst_all t []).2]

end Go.Proofs.YtbhjimlikffalaaDoor
