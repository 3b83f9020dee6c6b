/- Layer 9: small numbers as digits. -/
import Derived.Test.YtbdfehgofnomhaaDoorExPutWalk
namespace Go.Proofs.YtbdfehgofnomhaaDoor
open Go.RowKit
set_option linter.unusedVariables false

theorem small_any (n : Nat) (h0 : 1 ≤ n) (h1 : n ≤ 4) (w : World) : Calls Tryd.prog 58 #[.int .i64 n] w fun e w' => e = .returned (.string (str (Lib.itoa n))) ∧ w = w' := by
  have hc : n = 1 ∨ n = 2 ∨ n = 3 ∨ n = 4 := by omega
  rcases hc with rfl | rfl | rfl | rfl
  all_goals
    go_enter Tryd.func58, Tryd.ntmps58
    go_wp2
    go_ret
    exact ⟨by simp [Lib.itoa, Lib.decDigits, str]; try rfl, rfl⟩
theorem ifmt_any (n : Nat) (h0 : 1 ≤ n) (h1 : n ≤ 4) (w : World) : Calls Tryd.prog 41 #[.int .i64 n, .int .i64 10] w fun e w' => e = .returned (.string (str (Lib.itoa n))) ∧ w = w' := by
  have HC := Lib.hid (small_any n h0 h1)
  obtain ⟨r, hr⟩ : ∃ r, Lib.itoa n = r := ⟨_, rfl⟩
  rw [hr] at HC ⊢
  have d1 : decide ((0 : Int) ≤ (n : Int)) = true := by simp
  have d2 : decide ((n : Int) < 100) = true := by simp; omega
  clear hr
  go_enter Tryd.func41, Tryd.ntmps41
  go_wp2_with (go_at_call 58; refine (HC.out _).mono ?_; rintro e w1 ⟨rfl, rfl⟩)
  go_ret
  exact ⟨rfl, rfl⟩
theorem iitoa_any (n : Nat) (h0 : 1 ≤ n) (h1 : n ≤ 4) (w : World) : Calls Tryd.prog 66 #[.int .i64 n] w fun e w' => e = .returned (.string (str (Lib.itoa n))) ∧ w = w' := by
  have HC := Lib.hid (ifmt_any n h0 h1)
  obtain ⟨r, hr⟩ : ∃ r, Lib.itoa n = r := ⟨_, rfl⟩
  rw [hr] at HC ⊢
  clear hr
  go_enter Tryd.func66, Tryd.ntmps66
  go_wp2_with (go_at_call 41; refine (HC.out _).mono ?_; rintro e w1 ⟨rfl, rfl⟩)
  go_ret
  exact ⟨rfl, rfl⟩
theorem itoaN_any (n : Nat) (h0 : 1 ≤ n) (h1 : n ≤ 4) (w : World) : Calls Tryd.prog 55 #[.int .i64 n] w fun e w' => e = .returned (.string (str (Lib.itoa n))) ∧ w = w' := by
  have HC := Lib.hid (iitoa_any n h0 h1)
  obtain ⟨r, hr⟩ : ∃ r, Lib.itoa n = r := ⟨_, rfl⟩
  rw [hr] at HC ⊢
  clear hr
  go_enter Tryd.func55, Tryd.ntmps55
  go_wp2_with (go_at_call 66; refine (HC.out _).mono ?_; rintro e w1 ⟨rfl, rfl⟩)
  go_ret
  exact ⟨rfl, rfl⟩
/-- A number from 1 to 4, as its digits: nothing turns. -/
theorem itoa4_any (n : Int) (h0 : 1 ≤ n) (h1 : n ≤ 4) (w : World) : Calls Tryd.prog 55 #[.int .i64 n] w fun e w' => e = .returned (.string (str (Lib.itoa n))) ∧ w = w' := by
  obtain ⟨m, rfl⟩ : ∃ m : Nat, n = m := ⟨n.toNat, by omega⟩
  exact itoaN_any m (by omega) (by omega) w
end Go.Proofs.YtbdfehgofnomhaaDoor
