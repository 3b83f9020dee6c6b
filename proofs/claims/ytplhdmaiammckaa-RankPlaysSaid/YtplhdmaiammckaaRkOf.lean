/- The document's own func Score, digit by digit. -/
import Derived.Test.YtplhdmaiammckaaRkMul
namespace Go.Proofs.Ytplhdmaiammckaa
open Go.RowKit
set_option linter.unusedVariables false

theorem of_no (a n : Int) (w : World) (h : a < 0 ∨ n < 1) : Calls Try.prog 20 #[.int .i64 a, .int .i64 n] w fun e w' => e = .returned (.int .i64 (scF a n)) ∧ w' = w := by
  rw [scF_no h]
  by_cases h0 : a < 0
  · clear h
    go_enter Try.func20, Try.ntmps20
    go_wp2
    go_ret
    exact ⟨rfl, rfl⟩
  · have h1 : n < 1 := by omega
    clear h
    go_enter Try.func20, Try.ntmps20
    go_wp2
    go_ret
    exact ⟨rfl, rfl⟩
theorem of_over (a n : Int) (w : World) (h1 : 1 ≤ n) (h2 : n < a) : Calls Try.prog 20 #[.int .i64 a, .int .i64 n] w fun e w' => e = .returned (.int .i64 (scF a n)) ∧ w' = w := by
  have hs : scF a n = 1000 := by
    rw [scF_yes (by omega) h1, show min a n = n by omega]
    exact Int.mul_ediv_cancel _ (by omega)
  rw [hs]
  have h0 : 0 ≤ a := by omega
  go_enter Try.func20, Try.ntmps20
  go_wp2
  go_ret
  exact ⟨rfl, rfl⟩
/-- What stands behind i digits. -/
structure Dg (a n i whole rest : Nat) : Prop where
  eq : 10 ^ i * a = whole * n + rest
  le : rest ≤ n
  lt : 0 < i → rest < n
  b : whole ≤ 1110 ∧ (i = 0 → whole = 0) ∧ (i = 1 → whole ≤ 10) ∧ (i = 2 → whole ≤ 110)
theorem Dg.next {a n i whole rest digit next : Nat} (h : Dg a n i whole rest) (hi : i < 3) (h10 : 10 * rest = digit * n + next) (hd : digit ≤ 10) (hn : next < n) : Dg a n (i + 1) (whole * 10 + digit) next := by
  have hb := h.b
  have he : 10 ^ (i + 1) * a = (whole * 10 + digit) * n + next := by
    rw [Nat.pow_succ, Nat.mul_right_comm, h.eq, Nat.add_mul, Nat.add_mul (whole * 10) digit n, Nat.mul_right_comm whole n 10]
    omega
  exact ⟨he, by omega, fun _ => hn, by omega⟩
theorem Dg.done {a n whole rest : Nat} (h : Dg a n 3 whole rest) : 1000 * a / n = whole := by
  have he := h.eq
  have hl := h.lt (by omega)
  have e : 1000 * a = whole * n + rest := by
    have : (10 : Nat) ^ 3 * a = 1000 * a := rfl
    omega
  rw [e, Nat.mul_comm whole n]
  rw [Nat.mul_add_div (by omega), Nat.div_eq_of_lt hl]
  omega
set_option maxRecDepth 100000 in
set_option maxHeartbeats 4000000 in
theorem of_yes (a n : Nat) (w : World) (h1 : 1 ≤ n) (h2 : a ≤ n) (hn : n < 9223372036854775808) :
    Calls Try.prog 20 #[.int .i64 a, .int .i64 n] w fun e w' => e = .returned (.int .i64 (1000 * a / n : Nat)) ∧ w' = w := by
  have n9 : (n : Int) ≤ 9223372036854775807 := by omega
  have a9 : (a : Int) ≤ n := by omega
  have n1 : 1 ≤ (n : Int) := by omega
  have HD0 : Hid (Dg a n 0 0 a) := Lib.hid ⟨by simp, h2, fun h => by omega, by omega⟩
  have hd1 : decide ((a : Int) < 0) = false := by simp
  have hd2 : decide ((n : Int) < 1) = false := by simp; omega
  clear hn
  go_enter Try.func20, Try.ntmps20
  go_wp2_with fail
  go_loop [5, 6, 7] (fun wv rv iv => ∃ whole rest i : Nat, i ≤ 3 ∧ wv = .int .i64 whole ∧ rv = .int .u64 rest ∧ iv = .int .i64 i ∧ Hid (Dg a n i whole rest)) (fun _ _ iv => 3 - (intOf iv).toNat)
  case atStart => exact ⟨0, a, 0, by omega, rfl, rfl, rfl, HD0⟩
  case round =>
    obtain ⟨whole, rest, i, hi3, rfl, rfl, rfl, HD⟩ := hrel
    have hrn : (rest : Int) ≤ n := by have := HD.out.le; omega
    have hw9 : (whole : Int) ≤ 1110 := by have := HD.out.b.1; omega
    by_cases hi : i < 3
    · go_wp2_with fail
      go_loop [8, 9, 10] (fun dv xv kv => ∃ digit next k : Nat, k ≤ 10 ∧ dv = .int .i64 digit ∧ xv = .int .u64 next ∧ kv = .int .i64 k ∧ Hid (k * rest = digit * n + next) ∧ next < n ∧ digit ≤ k) (fun _ _ kv => 10 - (intOf kv).toNat)
      case atStart => exact ⟨0, 0, 0, by omega, rfl, rfl, rfl, Lib.hid (by simp), by omega, by omega⟩
      case round =>
        obtain ⟨digit, next, k, hk, rfl, rfl, rfl, HK, hnx, hdk⟩ := hrel
        have hnI : (next : Int) < n := by omega
        by_cases hk10 : k < 10
        · obtain ⟨x, hx⟩ : ∃ x, next + rest = x := ⟨_, rfl⟩
          have e1 : (next : Int) + (rest : Int) = (x : Int) := by omega
          have HX := Lib.hid hx
          clear hx
          by_cases hge : n ≤ x
          · obtain ⟨y, hy⟩ : ∃ y, x - n = y := ⟨_, rfl⟩
            have e2 : (x : Int) - (n : Int) = (y : Int) := by omega
            have hyn : y < n := by have := HX.out; omega
            have HN : Hid ((k + 1) * rest = (digit + 1) * n + y) := Lib.hid (by
              have h3 := HK.out
              have h4 := HX.out
              rw [Nat.add_mul, Nat.one_mul, h3, Nat.add_mul, Nat.one_mul]
              omega)
            have hx9 : (x : Int) ≤ 18446744073709551614 := by omega
            have hgd : decide (n ≤ x) = true := by simpa using hge
            clear hy
            go_wp2_with fail
            go_round
            case rel => exact ⟨digit + 1, y, k + 1, by omega, by go_num, rfl, by go_num, HN, hyn, by omega⟩
            case measure => simp [intOf]; omega
          · have HN : Hid ((k + 1) * rest = digit * n + x) := Lib.hid (by
              have h3 := HK.out
              have h4 := HX.out
              rw [Nat.add_mul, Nat.one_mul, h3]
              omega)
            have hx9 : (x : Int) ≤ 9223372036854775807 := by omega
            have hgd : decide (n ≤ x) = false := by simp; omega
            have hgd2 : x < n := by omega
            go_wp2_with fail
            go_round
            case rel => exact ⟨digit, x, k + 1, by omega, rfl, rfl, by go_num, HN, by omega, by omega⟩
            case measure => simp [intOf]; omega
        · obtain rfl : k = 10 := by omega
          have HN := Lib.hid (HD.out.next hi HK.out hdk hnx)
          go_wp2_with fail
          go_round
          case rel => exact ⟨_, _, _, ⟨whole * 10 + digit, next, i + 1, by omega, by go_num, rfl, by go_num, HN⟩, rfl, rfl, rfl⟩
          case measure => simp [intOf]; omega
    · obtain rfl : i = 3 := by omega
      have hfin := HD.out.done
      go_wp2
      go_ret
      exact ⟨rfl, rfl⟩
theorem of_all (a n : Int) (w : World) (ia : -9223372036854775808 ≤ a ∧ a ≤ 9223372036854775807) (i_n : -9223372036854775808 ≤ n ∧ n ≤ 9223372036854775807) :
    Calls Try.prog 20 #[.int .i64 a, .int .i64 n] w fun e w' => e = .returned (.int .i64 (scF a n)) ∧ w' = w := by
  by_cases h : a < 0 ∨ n < 1
  · exact of_no a n w h
  · by_cases h2 : n < a
    · exact of_over a n w (by omega) h2
    · obtain ⟨x, rfl⟩ : ∃ x : Nat, a = x := ⟨a.toNat, by omega⟩
      obtain ⟨m, rfl⟩ : ∃ m : Nat, n = m := ⟨n.toNat, by omega⟩
      have := of_yes x m w (by omega) (by omega) (by omega)
      rw [scF_yes (by omega) (by omega), show min (x : Int) m = (x : Int) by omega]
      rw [Int.natCast_ediv] at this
      exact this
end Go.Proofs.Ytplhdmaiammckaa
