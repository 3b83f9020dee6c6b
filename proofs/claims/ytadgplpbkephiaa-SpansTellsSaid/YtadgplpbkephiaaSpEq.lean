/- Two arrays of two numbers compared. -/
import Derived.Test.YtadgplpbkephiaaSpDef
namespace Go.Proofs.Ytadgplpbkephiaa
open Go.RowKit
set_option linter.unusedVariables false

/-- Are both ends the same? -/
def sameB (x y x' y' : Int) : Bool := decide (x = x' ∧ y = y')
theorem under_sp : Try.prog.underlying 43 = some (.array 2 2) := by kernel_rfl
theorem part_i64 (cs : Array Value) (i : Nat) (v : Value) (h : cs[i]? = some v) (w : World) : (part 2 cs i).run Try.prog w = .ok v w := by
  have h0 : (isAgg 2).run Try.prog w = .ok false w := by simp [go_sem, isAgg]
  unfold part
  simp [Sem.run_bind, h0, h]
theorem size_i64 (w : World) : (sizeOf 2).run Try.prog w = .ok 1 w := by kernel_rfl
theorem eq_in (x y x' y' : Int) (w : World) : (Op.equalIn (9999 + 1) 43 (.agg #[.int .i64 x, .int .i64 y]) (.agg #[.int .i64 x', .int .i64 y'])).run Try.prog w = .ok (sameB x y x' y') w := by
  have e1 : ∀ a b : Int, ∀ w, (Op.equalIn 9999 2 (.int .i64 a) (.int .i64 b)).run Try.prog w = .ok (a == b) w := fun a b w => run_equalIn_int w 9998 _ .i64 .i64 a b Try.underlying2
  have p0 : ∀ (x y : Int) w, (part 2 #[.int .i64 x, .int .i64 y] 0).run Try.prog w = .ok (.int .i64 x) w := fun x y w => part_i64 #[.int .i64 x, .int .i64 y] 0 _ rfl w
  have p1 : ∀ (x y : Int) w, (part 2 #[.int .i64 x, .int .i64 y] 1).run Try.prog w = .ok (.int .i64 y) w := fun x y w => part_i64 #[.int .i64 x, .int .i64 y] 1 _ rfl w
  unfold Op.equalIn
  simp only [Sem.run_bind, run_underlying under_sp, Result.andThen_ok, size_i64]
  unfold sameB
  by_cases h1 : x = x' <;> by_cases h2 : y = y' <;>
  simp [List.range', p0, p1, e1, h1, h2]
@[go_sem high] theorem guard_sp (op : BinOp) (x y : Operand) (xs ys : Array Value) (w : World) : (eqGuard op 43 x y (.agg xs) (.agg ys)).run Try.prog w = .ok () w := run_eqGuard_agg w op _ x y xs ys (by kernel_rfl)
@[go_sem high] theorem neq_sp (x y x' y' : Int) (w : World) : (binOp .neq 43 (.agg #[.int .i64 x, .int .i64 y]) (.agg #[.int .i64 x', .int .i64 y'])).run Try.prog w = .ok (.bool (!(sameB x y x' y'))) w := by
  rw [run_neq_struct, eq_in]
  rfl
end Go.Proofs.Ytadgplpbkephiaa
