/- A number of two words, divided. -/
import Derived.Test.YtplhdmaiammckaaRkMul
namespace Go.Proofs.Ytplhdmaiammckaa
open Go.RowKit
set_option linter.unusedVariables false

set_option maxRecDepth 100000 in
set_option maxHeartbeats 1000000 in
/-- The upper word is 0. -/
theorem div_low (x y : Nat) (hx : x < 18446744073709551616) (h0 : 1 ≤ y) (hy : y < 9223372036854775808) (w : World) :
    Calls Try.prog 28 #[.int .u64 0, .int .u64 x, .int .u64 y] w fun e w' => e = .returned (.tuple #[.int .u64 ((x / y : Nat) : Int), .int .u64 ((x % y : Nat) : Int)]) ∧ Below w.heap.size w w' := by
  have e1 : ((y : Int) == 0) = false := by simp; omega
  have e2 : decide ((y : Int) ≤ 0) = false := by simp; omega
  have e3 : ¬ (y : Int) ≤ 0 := by omega
  have e4 : (x : Int).tdiv y = ((x / y : Nat) : Int) := by rw [Int.tdiv_eq_ediv_of_nonneg (by omega)]; exact (Int.natCast_ediv x y).symm
  have e5 : (x : Int).tmod y = ((x % y : Nat) : Int) := by rw [Int.tmod_eq_emod_of_nonneg (by omega)]; exact (Int.natCast_emod x y).symm
  have e6 : (x : Int) / y = ((x / y : Nat) : Int) := (Int.natCast_ediv x y).symm
  have e7 : (x : Int) % y = ((x % y : Nat) : Int) := (Int.natCast_emod x y).symm
  have hlt : x / y < 18446744073709551616 := Nat.lt_of_le_of_lt (Nat.div_le_self x y) hx
  have E8 := Lib.hid (show IntKind.u64.wrap ((x : Int) / y) = ((x / y : Nat) : Int) by
    rw [e6]
    generalize x / y = q at *
    rw [IntKind.wrap_u64]; omega)
  have E9 := Lib.hid e7
  have e10 : ((y : Int) = 0) = False := by simp; omega
  have e11 : (y = 0) = False := by simp; omega
  clear e4 e5 e6 e7
  go_enter Try.func28, Try.ntmps28
  go_wp2
  go_quiet (fail)
  go_wp2
  go_ret2
  exact ⟨ret_two E8.out E9.out, below_drewN (Below.refl _ _) _⟩
/-- The func Score where 1000 times the number has room in one word. -/
theorem score_low (a n : Nat) (w : World) (ha : 1000 * a < 18446744073709551616) (h1 : 1 ≤ n) (hn : n < 9223372036854775808) :
    Calls Try.prog 19 #[.int .i64 a, .int .i64 n] w fun e w' => e = .returned (.int .i64 (scF a n)) ∧ Below w.heap.size w w' := by
  obtain ⟨q, hq⟩ : ∃ q, 1000 * min a n / n = q := ⟨_, rfl⟩
  have hf : scF a n = (q : Int) := by
    rw [scF_yes (by omega) (by omega), ← hq, Int.natCast_ediv]
    congr 1
    omega
  rw [hf]
  have hm : 1000 * min a n < 18446744073709551616 := Nat.lt_of_le_of_lt (Nat.mul_le_mul_left _ (Nat.min_le_left a n)) ha
  refine score_yes a n q w h1 (by omega) hn hq fun w => ?_
  have e1 : 1000 * min a n / 18446744073709551616 = 0 := Nat.div_eq_of_lt hm
  have e2 : 1000 * min a n % 18446744073709551616 = 1000 * min a n := Nat.mod_eq_of_lt hm
  rw [e1, e2, ← hq]
  exact (div_low _ n hm h1 hn w).mono fun e w' ⟨h, k⟩ => ⟨⟨_, h⟩, k⟩
end Go.Proofs.Ytplhdmaiammckaa
