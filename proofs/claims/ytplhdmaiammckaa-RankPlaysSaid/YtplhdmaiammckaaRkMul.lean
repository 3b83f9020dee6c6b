/- 1000 times a number, in two words. -/
import Derived.Test.YtplhdmaiammckaaRkHeap
import Derived.Test.YtplhdmaiammckaaBase
import Derived.Laws.Bits64b
import Derived.Deep.QuietTactic
import Derived.BigQuiet
import Derived.BigRegion
import Derived.Handy
namespace Go.Proofs.Ytplhdmaiammckaa
open Go.RowKit
set_option linter.unusedVariables false

theorem mask_nat (a : Nat) (ha : a < 18446744073709551616) : bits .and .u64 (a : Int) 4294967295 = ((a % 4294967296 : Nat) : Int) := by
  have h := bits_and_u64_nat a 4294967295 ha (by omega)
  rw [show a &&& 4294967295 = a % 4294967296 from Nat.and_two_pow_sub_one_eq_mod a 32] at h
  exact h
theorem ret_two {k q : IntKind} {a b c d : Int} (h : a = b) (g : c = d) : Ending.returned (.tuple #[.int k a, .int q c]) = .returned (.tuple #[.int k b, .int q d]) := by rw [h, g]
set_option maxHeartbeats 1000000 in
theorem mul_any (y : Nat) (hy : y < 9223372036854775808) (w : World) :
    Calls Try.prog 27 #[.int .u64 1000, .int .u64 y] w fun e w' => e = .returned (.tuple #[.int .u64 ((1000 * y / 18446744073709551616 : Nat) : Int), .int .u64 ((1000 * y % 18446744073709551616 : Nat) : Int)]) ∧ w = w' := by
  have m0 : bits .and .u64 1000 4294967295 = (1000 : Int) := mask_nat 1000 (by omega)
  have m1 := mask_nat y (by omega)
  obtain ⟨y0, hy0⟩ : ∃ y0, y % 4294967296 = y0 := ⟨_, rfl⟩
  obtain ⟨y1, hy1⟩ : ∃ y1, y / 4294967296 = y1 := ⟨_, rfl⟩
  have k0 : y0 < 4294967296 := by omega
  have k1 : y1 < 2147483648 := by omega
  rw [hy0] at m1
  have d1 : (y : Int) / 4294967296 = (y1 : Int) := by omega
  obtain ⟨t, ht⟩ : ∃ t, 1000 * y0 / 4294967296 = t := ⟨_, rfl⟩
  have k2 : t < 1000 := by omega
  have d2 : 1000 * (y0 : Int) / 4294967296 = (t : Int) := by omega
  have m2 : bits .and .u64 (t : Int) 4294967295 = (t : Int) := by rw [mask_nat t (by omega)]; omega
  have d3 : (t : Int) / 4294967296 = 0 := by omega
  have HQ := Lib.hid (show y = y1 * 4294967296 + y0 by omega)
  have HT := Lib.hid ht
  clear hy0 hy1 ht
  go_enter Try.func27, Try.ntmps27
  go_wp2
  go_ret2
  have q := HQ.out
  have t1 := HT.out
  clear HQ HT
  refine ⟨ret_two ?_ ?_, rfl⟩
  · omega
  · rw [IntKind.wrap_u64]; omega
theorem below_drewN {B : Nat} {a w : World} (h : Below B a w) (n : Nat) : Below B a (w.drewN n) := ⟨h.os, h.tape, h.output, h.size, h.block⟩
/-- The func Score, as exact numbers. -/
def scF (a n : Int) : Int := if a < 0 ∨ n < 1 then 0 else 1000 * min a n / n
theorem scF_no {a n : Int} (h : a < 0 ∨ n < 1) : scF a n = 0 := by unfold scF; rw [if_pos h]
theorem scF_yes {a n : Int} (h0 : 0 ≤ a) (h1 : 1 ≤ n) : scF a n = 1000 * min a n / n := by unfold scF; rw [if_neg (by omega)]
set_option maxHeartbeats 1000000 in
theorem score_no (a n : Int) (w : World) (h : a < 0 ∨ n < 1) : Calls Try.prog 19 #[.int .i64 a, .int .i64 n] w fun e w' => e = .returned (.int .i64 (scF a n)) ∧ Below w.heap.size w w' := by
  rw [scF_no h]
  by_cases h0 : a < 0
  · clear h
    go_enter Try.func19, Try.ntmps19
    go_wp2
    go_ret
    exact ⟨rfl, .refl _ _⟩
  · have h1 : n < 1 := by omega
    clear h
    go_enter Try.func19, Try.ntmps19
    go_wp2
    go_ret
    exact ⟨rfl, .refl _ _⟩
set_option maxHeartbeats 1000000 in
/-- Out of a contract of the division. -/
theorem score_yes (a n q : Nat) (w : World) (h1 : 1 ≤ n) (ha : a < 9223372036854775808) (hn : n < 9223372036854775808) (hq : 1000 * min a n / n = q)
    (hd : ∀ w, Calls Try.prog 28 #[.int .u64 ((1000 * min a n / 18446744073709551616 : Nat) : Int), .int .u64 ((1000 * min a n % 18446744073709551616 : Nat) : Int), .int .u64 n] w fun e w' => (∃ r : Int, e = .returned (.tuple #[.int .u64 (q : Nat), .int .u64 r])) ∧ Below w.heap.size w w') :
    Calls Try.prog 19 #[.int .i64 a, .int .i64 n] w fun e w' => e = .returned (.int .i64 (q : Nat)) ∧ Below w.heap.size w w' := by
  have hq9 : q ≤ 1000 := by
    rw [← hq]
    have h2 : 1000 * min a n ≤ 1000 * n := Nat.mul_le_mul_left _ (Nat.min_le_right _ _)
    exact Nat.div_le_of_le_mul (by rw [Nat.mul_comm n 1000]; exact h2)
  by_cases hle : n < a
  · rw [show min a n = n by omega] at hd
    have HM := Lib.hid (mul_any n (by omega))
    have HD := Lib.hid hd
    clear hd hq
    go_enter Try.func19, Try.ntmps19
    go_wp2_with fail
    refine (HM.out _).mono ?_
    rintro e w1 ⟨rfl, rfl⟩
    clear HM
    generalize ((1000 * n / 18446744073709551616 : Nat) : Int) = x1 at *
    generalize ((1000 * n % 18446744073709551616 : Nat) : Int) = x0 at *
    go_wp2_with fail
    refine (HD.out _).mono ?_
    rintro e w1 ⟨⟨r, rfl⟩, b1⟩
    go_wp2
    go_ret
    exact ⟨rfl, b1⟩
  · rw [show min a n = a by omega] at hd
    have HM := Lib.hid (mul_any a (by omega))
    have HD := Lib.hid hd
    clear hd hq
    go_enter Try.func19, Try.ntmps19
    go_wp2_with fail
    refine (HM.out _).mono ?_
    rintro e w1 ⟨rfl, rfl⟩
    clear HM
    generalize ((1000 * a / 18446744073709551616 : Nat) : Int) = x1 at *
    generalize ((1000 * a % 18446744073709551616 : Nat) : Int) = x0 at *
    go_wp2_with fail
    refine (HD.out _).mono ?_
    rintro e w1 ⟨⟨r, rfl⟩, b1⟩
    go_wp2
    go_ret
    exact ⟨rfl, b1⟩
end Go.Proofs.Ytplhdmaiammckaa
