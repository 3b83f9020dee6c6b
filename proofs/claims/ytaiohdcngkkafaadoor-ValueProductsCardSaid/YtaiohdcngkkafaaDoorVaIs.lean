/- Calls of Add and Sub whose answer is named. -/
import Derived.Test.YtaiohdcngkkafaaDoorVaNums
import Derived.Test.YtaiohdcngkkafaaDoorVaRk
namespace Go.Proofs.YtaiohdcngkkafaaDoor
open Go.RowKit
set_option linter.unusedVariables false

theorem ck_cases (x : Int) : (∃ N, ck x = (N, true) ∧ N = x ∧ in64 x) ∨ (ck x = (0, false) ∧ ¬ in64 x) := by
  by_cases h : in64 x
  · exact .inl ⟨x, ck_yes h, rfl, h⟩
  · exact .inr ⟨ck_no h, h⟩
theorem add_is {a b n : Int} {ok : Bool} (ha : in64 a) (hb : in64 b) (h : ck (a + b) = (n, ok)) (w : World) : Calls Tryd.prog 30 #[.int .i64 a, .int .i64 b] w fun e w' => e = .returned (.tuple #[.int .i64 n, .bool ok]) ∧ w = w' := by
  have := add_any a b ha hb w
  rw [addV, h] at this
  exact this
theorem sub_is {a b n : Int} {ok : Bool} (ha : in64 a) (hb : in64 b) (h : ck (a - b) = (n, ok)) (w : World) : Calls Tryd.prog 32 #[.int .i64 a, .int .i64 b] w fun e w' => e = .returned (.tuple #[.int .i64 n, .bool ok]) ∧ w = w' := by
  have := sub_any a b ha hb w
  rw [subV, h] at this
  exact this
theorem pair_of {α β : Type} (p : α × β) : ∃ a b, p = (a, b) := ⟨p.1, p.2, rfl⟩
end Go.Proofs.YtaiohdcngkkafaaDoor
