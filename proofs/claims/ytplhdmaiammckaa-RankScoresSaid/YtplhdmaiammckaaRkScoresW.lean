/- The walk of RankScores: it returns true, whatever the three numbers. -/
import Derived.Test.YtplhdmaiammckaaRkHead
namespace Go.Proofs.Ytplhdmaiammckaa
open Go.RowKit
set_option linter.unusedVariables false

/-- The func Score of naturals. -/
def sN (a n : Nat) : Nat := 1000 * min a n / n
theorem scF_nat (a n : Nat) (h : 1 ≤ n) : scF a n = (sN a n : Int) := by
  unfold sN
  rw [scF_yes (by omega) (by omega), Int.natCast_ediv]
  congr 1
  omega
theorem sN_le (a n : Nat) : sN a n ≤ 1000 := by
  unfold sN
  have h2 : 1000 * min a n ≤ 1000 * n := Nat.mul_le_mul_left _ (Nat.min_le_right _ _)
  exact Nat.div_le_of_le_mul (by rw [Nat.mul_comm n 1000]; exact h2)
theorem sN_more (a n : Nat) : sN a n ≤ sN (a + 1) n := by
  unfold sN
  exact Nat.div_le_div_right (Nat.mul_le_mul_left _ (by omega))
theorem sN_self (n : Nat) (h : 1 ≤ n) : sN n n = 1000 := by
  unfold sN
  rw [Nat.min_self]
  exact Nat.mul_div_cancel _ (by omega)
theorem sN_over (a n : Nat) (h : 1 ≤ n) (ha : n ≤ a) : sN a n = 1000 := by
  unfold sN
  rw [Nat.min_eq_right ha]
  exact Nat.mul_div_cancel _ (by omega)
theorem sN_less (a n : Nat) (h : 1 ≤ n) : sN a (n + 1) ≤ sN a n := by
  by_cases ha : n ≤ a
  · rw [sN_over a n h ha]; exact sN_le _ _
  · unfold sN
    rw [Nat.min_eq_left (show a ≤ n + 1 by omega), Nat.min_eq_left (show a ≤ n by omega)]
    exact Nat.div_le_div_left (show n ≤ n + 1 by omega) (by omega)
theorem sN_zero (n : Nat) : sN 0 n = 0 := by
  unfold sN; simp
theorem sN_cut (a n : Nat) (h : 1 ≤ n) (ha : a ≤ n) : sN a n * n ≤ 1000 * a ∧ 1000 * a < (sN a n + 1) * n := by
  unfold sN
  rw [Nat.min_eq_left ha]
  refine ⟨Nat.div_mul_le_self _ _, ?_⟩
  rw [Nat.mul_comm (1000 * a / n + 1) n]
  exact Nat.lt_mul_div_succ _ (by omega)
/-- What the five calls return, and what the products are. -/
structure Five (A N q r s : Nat) : Prop where
  c0 : ∀ w, Calls Try.prog 19 #[.int .i64 A, .int .i64 N] w fun e w' => e = .returned (.int .i64 q) ∧ Below w.heap.size w w'
  c1 : ∀ w, Calls Try.prog 19 #[.int .i64 ((A : Int) + 1), .int .i64 N] w fun e w' => e = .returned (.int .i64 r) ∧ Below w.heap.size w w'
  c2 : ∀ w, Calls Try.prog 19 #[.int .i64 A, .int .i64 ((N : Int) + 1)] w fun e w' => e = .returned (.int .i64 s) ∧ Below w.heap.size w w'
  c3 : ∀ w, Calls Try.prog 19 #[.int .i64 N, .int .i64 N] w fun e w' => e = .returned (.int .i64 1000) ∧ Below w.heap.size w w'
  c4 : ∀ w, Calls Try.prog 19 #[.int .i64 0, .int .i64 N] w fun e w' => e = .returned (.int .i64 0) ∧ Below w.heap.size w w'
theorem five (A N : Nat) (hA : A ≤ 2000000000000) (h1 : 1 ≤ N) (hN : N ≤ 2000000000000) : Five A N (sN A N) (sN (A + 1) N) (sN A (N + 1)) := by
  refine ⟨fun w => ?_, fun w => ?_, fun w => ?_, fun w => ?_, fun w => ?_⟩
  · have := score_low A N w (by omega) h1 (by omega)
    rw [scF_nat A N h1] at this; exact this
  · have := score_low (A + 1) N w (by omega) h1 (by omega)
    rw [scF_nat (A + 1) N h1] at this; exact this
  · have := score_low A (N + 1) w (by omega) (by omega) (by omega)
    rw [scF_nat A (N + 1) (by omega)] at this; exact this
  · have := score_low N N w (by omega) h1 (by omega)
    rw [scF_nat N N h1, sN_self N h1] at this; exact this
  · have := score_low 0 N w (by omega) h1 (by omega)
    rw [scF_nat 0 N h1, sN_zero] at this; exact this
set_option maxRecDepth 100000 in
set_option maxHeartbeats 2000000 in
theorem scores_core (at_ st big A N q r s P R : Nat) (w : World) (h1 : at_ ≤ 255) (h2 : st ≤ 255) (h3 : big ≤ 4294967295) (hA : (if big % 3 = 0 then at_ * big else at_) = A) (hN : (if big % 3 = 0 then (1 + st) * (big / 2 + 1) else 1 + st) = N)
    (bA : A ≤ 2000000000000) (b1 : 1 ≤ N) (bN : N ≤ 2000000000000) (h5 : Five A N q r s) (hq : q ≤ 1000) (hr : q ≤ r) (hr2 : r ≤ 1000) (hs : s ≤ q) (hP : q * N = P) (hR : (q + 1) * N = R) (bP : P ≤ 2002000000000000) (bR : R ≤ 2002000000000000) (hc : A ≤ N → P ≤ 1000 * A ∧ 1000 * A < R) :
    Calls Try.prog 5 #[.int .u8 at_, .int .u8 st, .int .u32 big] w fun e w' => e = .returned (.bool true) ∧ Below w.heap.size w w' := by
  have p1 : (q : Int) * (N : Int) = (P : Int) := by rw [← hP]; exact (Int.natCast_mul q N).symm
  have p2 : ((q : Int) + 1) * (N : Int) = (R : Int) := by rw [← hR]; exact (Int.natCast_mul (q + 1) N).symm
  have H5 := Lib.hid h5
  clear h5 hP hR
  have hcc := hc
  clear hc
  by_cases hb : big % 3 = 0
  · rw [if_pos hb] at hA hN
    obtain ⟨k, hk⟩ : ∃ k, big / 2 + 1 = k := ⟨_, rfl⟩
    have e1 : (at_ : Int) * (big : Int) = (A : Int) := by rw [← hA]; exact (Int.natCast_mul at_ big).symm
    have e2 : (big : Int) / 2 + 1 = (k : Int) := by omega
    have e3 : (1 + (st : Int)) * (k : Int) = (N : Int) := by rw [← hN, hk]; exact (Int.natCast_mul (1 + st) k).symm
    have e4 : (big : Int) % 3 = 0 := by omega
    have hk9 : k ≤ 2147483648 := by omega
    clear hA hN hk hb
    by_cases hAN : N < A
    · clear hcc
      go_enter Try.func5, Try.ntmps5
      go_wp2_with fail
      refine (ex_any w).mono ?_
      rintro e w1 ⟨rfl, t1⟩
      have T1 := Lib.hid t1
      clear t1
      go_wp2_with fail
      refine (H5.out.c0 _).mono ?_
      rintro e w2 ⟨rfl, t2⟩
      have T2 := Lib.hid (T1.out.trans (t2.mono T1.out.size))
      clear t2 T1
      go_wp2_with fail
      refine (H5.out.c1 _).mono ?_
      rintro e w3 ⟨rfl, t3⟩
      have T3 := Lib.hid (T2.out.trans (t3.mono T2.out.size))
      clear t3 T2
      go_wp2_with fail
      refine (H5.out.c2 _).mono ?_
      rintro e w4 ⟨rfl, t4⟩
      have T4 := Lib.hid (T3.out.trans (t4.mono T3.out.size))
      clear t4 T3
      go_wp2_with fail
      refine (H5.out.c3 _).mono ?_
      rintro e w5 ⟨rfl, t5⟩
      have T5 := Lib.hid (T4.out.trans (t5.mono T4.out.size))
      clear t5 T4
      go_wp2_with fail
      refine (H5.out.c4 _).mono ?_
      rintro e w6 ⟨rfl, t6⟩
      have T6 := Lib.hid (T5.out.trans (t6.mono T5.out.size))
      clear t6 T5
      go_wp2
      go_ret
      exact ⟨rfl, T6.out⟩
    · obtain ⟨f1, f2⟩ := hcc (by omega)
      clear hcc
      have fd : decide (1000 * (A : Int) < (R : Int)) = true := by simp; omega
      go_enter Try.func5, Try.ntmps5
      go_wp2_with fail
      refine (ex_any w).mono ?_
      rintro e w1 ⟨rfl, t1⟩
      have T1 := Lib.hid t1
      clear t1
      go_wp2_with fail
      refine (H5.out.c0 _).mono ?_
      rintro e w2 ⟨rfl, t2⟩
      have T2 := Lib.hid (T1.out.trans (t2.mono T1.out.size))
      clear t2 T1
      go_wp2_with fail
      refine (H5.out.c1 _).mono ?_
      rintro e w3 ⟨rfl, t3⟩
      have T3 := Lib.hid (T2.out.trans (t3.mono T2.out.size))
      clear t3 T2
      go_wp2_with fail
      refine (H5.out.c2 _).mono ?_
      rintro e w4 ⟨rfl, t4⟩
      have T4 := Lib.hid (T3.out.trans (t4.mono T3.out.size))
      clear t4 T3
      go_wp2_with fail
      refine (H5.out.c3 _).mono ?_
      rintro e w5 ⟨rfl, t5⟩
      have T5 := Lib.hid (T4.out.trans (t5.mono T4.out.size))
      clear t5 T4
      go_wp2_with fail
      refine (H5.out.c4 _).mono ?_
      rintro e w6 ⟨rfl, t6⟩
      have T6 := Lib.hid (T5.out.trans (t6.mono T5.out.size))
      clear t6 T5
      go_wp2
      go_ret
      exact ⟨rfl, T6.out⟩
  · rw [if_neg hb] at hA hN
    subst hA
    have e3 : 1 + (st : Int) = (N : Int) := by omega
    have e4 : ((big : Int) % 3 == 0) = false := by simp; omega
    clear hN
    by_cases hAN : N < at_
    · clear hcc
      go_enter Try.func5, Try.ntmps5
      go_wp2_with fail
      refine (ex_any w).mono ?_
      rintro e w1 ⟨rfl, t1⟩
      have T1 := Lib.hid t1
      clear t1
      go_wp2_with fail
      refine (H5.out.c0 _).mono ?_
      rintro e w2 ⟨rfl, t2⟩
      have T2 := Lib.hid (T1.out.trans (t2.mono T1.out.size))
      clear t2 T1
      go_wp2_with fail
      refine (H5.out.c1 _).mono ?_
      rintro e w3 ⟨rfl, t3⟩
      have T3 := Lib.hid (T2.out.trans (t3.mono T2.out.size))
      clear t3 T2
      go_wp2_with fail
      refine (H5.out.c2 _).mono ?_
      rintro e w4 ⟨rfl, t4⟩
      have T4 := Lib.hid (T3.out.trans (t4.mono T3.out.size))
      clear t4 T3
      go_wp2_with fail
      refine (H5.out.c3 _).mono ?_
      rintro e w5 ⟨rfl, t5⟩
      have T5 := Lib.hid (T4.out.trans (t5.mono T4.out.size))
      clear t5 T4
      go_wp2_with fail
      refine (H5.out.c4 _).mono ?_
      rintro e w6 ⟨rfl, t6⟩
      have T6 := Lib.hid (T5.out.trans (t6.mono T5.out.size))
      clear t6 T5
      go_wp2
      go_ret
      exact ⟨rfl, T6.out⟩
    · obtain ⟨f1, f2⟩ := hcc (by omega)
      clear hcc
      have fd : decide (1000 * (at_ : Int) < (R : Int)) = true := by simp; omega
      go_enter Try.func5, Try.ntmps5
      go_wp2_with fail
      refine (ex_any w).mono ?_
      rintro e w1 ⟨rfl, t1⟩
      have T1 := Lib.hid t1
      clear t1
      go_wp2_with fail
      refine (H5.out.c0 _).mono ?_
      rintro e w2 ⟨rfl, t2⟩
      have T2 := Lib.hid (T1.out.trans (t2.mono T1.out.size))
      clear t2 T1
      go_wp2_with fail
      refine (H5.out.c1 _).mono ?_
      rintro e w3 ⟨rfl, t3⟩
      have T3 := Lib.hid (T2.out.trans (t3.mono T2.out.size))
      clear t3 T2
      go_wp2_with fail
      refine (H5.out.c2 _).mono ?_
      rintro e w4 ⟨rfl, t4⟩
      have T4 := Lib.hid (T3.out.trans (t4.mono T3.out.size))
      clear t4 T3
      go_wp2_with fail
      refine (H5.out.c3 _).mono ?_
      rintro e w5 ⟨rfl, t5⟩
      have T5 := Lib.hid (T4.out.trans (t5.mono T4.out.size))
      clear t5 T4
      go_wp2_with fail
      refine (H5.out.c4 _).mono ?_
      rintro e w6 ⟨rfl, t6⟩
      have T6 := Lib.hid (T5.out.trans (t6.mono T5.out.size))
      clear t6 T5
      go_wp2
      go_ret
      exact ⟨rfl, T6.out⟩
theorem scores_walk (at_ st big : Nat) (w : World) (h1 : at_ < 256) (h2 : st < 256) (h3 : big < 4294967296) :
    Calls Try.prog 5 #[.int .u8 at_, .int .u8 st, .int .u32 big] w fun e w' => e = .returned (.bool true) ∧ Below w.heap.size w w' := by
  obtain ⟨A, hA⟩ : ∃ A, (if big % 3 = 0 then at_ * big else at_) = A := ⟨_, rfl⟩
  obtain ⟨N, hN⟩ : ∃ N, (if big % 3 = 0 then (1 + st) * (big / 2 + 1) else 1 + st) = N := ⟨_, rfl⟩
  have m1 : at_ * big ≤ 255 * 4294967295 := Nat.mul_le_mul (by omega) (by omega)
  have m2 : (1 + st) * (big / 2 + 1) ≤ 256 * 2147483648 := Nat.mul_le_mul (by omega) (by omega)
  have m3 : 1 ≤ (1 + st) * (big / 2 + 1) := Nat.mul_pos (by omega) (by omega)
  have bA : A ≤ 2000000000000 := by rw [← hA]; split <;> omega
  have bN : N ≤ 2000000000000 := by rw [← hN]; split <;> omega
  have b1 : 1 ≤ N := by rw [← hN]; split <;> omega
  have q9 := sN_le A N
  refine scores_core at_ st big A N _ _ _ _ _ w (by omega) (by omega) (by omega) hA hN bA b1 bN (five A N bA b1 bN) q9 (sN_more A N) (sN_le _ _) (sN_less A N b1) rfl rfl ?_ ?_ (fun h => sN_cut A N b1 h)
  · exact Nat.le_trans (Nat.mul_le_mul q9 bN) (by omega)
  · exact Nat.le_trans (Nat.mul_le_mul (Nat.succ_le_succ q9) bN) (by omega)
theorem scores_int (at_ st : Nat) (big : Int) (w : World) (h1 : at_ < 256) (h2 : st < 256) (h3 : 0 ≤ big ∧ big ≤ 4294967295) :
    Calls Try.prog 5 #[.int .u8 at_, .int .u8 st, .int .u32 big] w fun e w' => e = .returned (.bool true) ∧ Below w.heap.size w w' := by
  obtain ⟨k, rfl⟩ : ∃ k : Nat, big = k := ⟨big.toNat, by omega⟩
  exact scores_walk at_ st k w h1 h2 (by omega)
end Go.Proofs.Ytplhdmaiammckaa
