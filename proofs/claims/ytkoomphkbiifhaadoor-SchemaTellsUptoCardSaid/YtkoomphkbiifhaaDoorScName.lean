/- Letters and digits; what a name is. -/
import Derived.Test.YtkoomphkbiifhaaDoorScSame
namespace Go.Proofs.YtkoomphkbiifhaaDoor
open Go.RowKit
set_option linter.unusedVariables false

/-- May a rune begin a name? -/
def begB (r : Int) : Bool := decide ((97 ≤ r ∧ r ≤ 122) ∨ (65 ≤ r ∧ r ≤ 90) ∨ r = 95 ∨ 128 ≤ r)
def digB (r : Int) : Bool := decide (48 ≤ r ∧ r ≤ 57)
theorem begins_any (r : Int) (w : World) (h0 : 0 ≤ r) (h1 : r ≤ 1114111) :
    Calls Tryd.prog 35 #[.int .i32 r] w fun e w' => e = .returned (.bool (begB r)) ∧ w = w' := by
  go_enter Tryd.func35, Tryd.ntmps35
  go_wp2
  all_goals go_ret
  all_goals exact ⟨ret_bool (by first | rfl | (unfold begB; rw [Bool.eq_iff_iff]; simp; omega)), rfl⟩
theorem isDigit_any (r : Int) (w : World) (h0 : 0 ≤ r) (h1 : r ≤ 1114111) :
    Calls Tryd.prog 36 #[.int .i32 r] w fun e w' => e = .returned (.bool (digB r)) ∧ w = w' := by
  go_enter Tryd.func36, Tryd.ntmps36
  go_wp2
  all_goals go_ret
  all_goals exact ⟨ret_bool (by first | rfl | (unfold digB; rw [Bool.eq_iff_iff]; simp; omega)), rfl⟩
end Go.Proofs.YtkoomphkbiifhaaDoor
