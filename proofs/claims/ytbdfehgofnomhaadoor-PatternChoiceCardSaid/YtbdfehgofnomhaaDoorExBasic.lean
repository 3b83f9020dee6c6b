/- Layer 7: Level, said, sameAlone, operation. -/
import Derived.Test.YtbdfehgofnomhaaDoorExWords
import Derived.BigQuiet
namespace Go.Proofs.YtbdfehgofnomhaaDoor
open Go.RowKit
set_option linter.unusedVariables false

/-- The level of an operation. -/
def levB (op : Nm) : Int :=
  if op = [124, 124] then 1 else if op = [38, 38] then 2 else if op = [61, 61] then 3 else if op = [33, 61] then 3 else if op = [60] then 4 else if op = [60, 61] then 4 else if op = [62] then 4 else if op = [62, 61] then 4
  else if op = [43] then 5 else if op = [45] then 5 else if op = [42] then 6 else if op = [47] then 6 else if op = [37] then 6 else 0
theorem lev_le (op : Nm) : 0 ≤ levB op ∧ levB op ≤ 6 := by
  unfold levB; repeat' split
  all_goals omega
theorem beq_dec (a b : Nm) : (a == b) = decide (a = b) := by
  by_cases h : a = b <;> simp [h]
set_option maxHeartbeats 1000000 in
theorem level_any (op : Nm) (w : World) : Calls Tryd.prog 76 #[.string (str op)] w fun e w' => e = .returned (.int .i64 (levB op)) ∧ w = w' := by
  have key : ∀ (x : Int), levB op = x → Ending.returned (.int .i64 x) = .returned (.int .i64 (levB op)) := fun x h => by rw [h]
  obtain ⟨lv, hlv⟩ : ∃ x, levB op = x := ⟨_, rfl⟩
  rw [hlv] at key ⊢
  unfold levB at hlv
  have hs := str_toList op
  go_enter Tryd.func76, Tryd.ntmps76
  go_wp2
  all_goals go_ret
  all_goals (refine ⟨?_, rfl⟩; refine ret_int ?_; subst hlv; simp_all)
end Go.Proofs.YtbdfehgofnomhaaDoor
