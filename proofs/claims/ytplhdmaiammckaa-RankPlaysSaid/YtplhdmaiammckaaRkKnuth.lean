/- A number of two words divided by one: the school's way. -/
import Derived.Test.YtplhdmaiammckaaRkLen
import Derived.Test.YtplhdmaiammckaaRkMap
namespace Go.Proofs.Ytplhdmaiammckaa
open Go.RowKit
set_option linter.unusedVariables false

theorem bits8 : ∀ c : Fin 256, c.val = 0 ∨ (2 ^ (Lib.bitLen c.val - 1) ≤ c.val ∧ c.val < 2 ^ Lib.bitLen c.val ∧ 1 ≤ Lib.bitLen c.val) := by decide +kernel
/-- How far a number is from having 64 bits. -/
def Far (y s : Nat) : Prop := 1 ≤ s ∧ s ≤ 9 ∧ 9223372036854775808 ≤ y * 2 ^ s ∧ y * 2 ^ s < 18446744073709551616
theorem far_of (y : Nat) (h1 : 18014398509481984 ≤ y) (h2 : y < 9223372036854775808) : ∃ s, Lib.bitLen y + s = 64 ∧ Far y s := by
  by_cases hb : 72057594037927936 ≤ y
  · have hp := pass56 y hb (by omega)
    obtain ⟨c, hc⟩ : ∃ c, y / 72057594037927936 = c := ⟨_, rfl⟩
    have h8 := bits8 ⟨c, by omega⟩
    have hl := Lib.bitLen_le8 ⟨c, by omega⟩
    simp only at h8 hl
    rw [hc] at hp
    generalize Lib.bitLen c = b at *
    have hcase : b = 1 ∨ b = 2 ∨ b = 3 ∨ b = 4 ∨ b = 5 ∨ b = 6 ∨ b = 7 ∨ b = 8 := by omega
    rcases hcase with rfl | rfl | rfl | rfl | rfl | rfl | rfl | rfl
    · exact ⟨7, by omega, by unfold Far; omega⟩
    · exact ⟨6, by omega, by unfold Far; omega⟩
    · exact ⟨5, by omega, by unfold Far; omega⟩
    · exact ⟨4, by omega, by unfold Far; omega⟩
    · exact ⟨3, by omega, by unfold Far; omega⟩
    · exact ⟨2, by omega, by unfold Far; omega⟩
    · exact ⟨1, by omega, by unfold Far; omega⟩
    · omega
  · have hp := pass48 y (by omega) (by omega)
    obtain ⟨c, hc⟩ : ∃ c, y / 281474976710656 = c := ⟨_, rfl⟩
    have h8 := bits8 ⟨c, by omega⟩
    have hl := Lib.bitLen_le8 ⟨c, by omega⟩
    simp only at h8 hl
    rw [hc] at hp
    generalize Lib.bitLen c = b at *
    have hcase : b ≤ 6 ∨ b = 7 ∨ b = 8 := by omega
    rcases hcase with hb6 | rfl | rfl
    · have : c < 2 ^ 6 := Nat.lt_of_lt_of_le (by omega : c < 2 ^ b) (Nat.pow_le_pow_right (by omega) hb6)
      omega
    · exact ⟨9, by omega, by unfold Far; omega⟩
    · exact ⟨8, by omega, by unfold Far; omega⟩
set_option maxHeartbeats 1000000 in
theorem lz_any (y s : Nat) (h1 : 18014398509481984 ≤ y) (h2 : y < 9223372036854775808) (hs : Lib.bitLen y + s = 64) (w : World) :
    Calls Try.prog 31 #[.int .u64 y] w fun e w' => e = .returned (.int .i64 s) ∧ w = w' := by
  have hl := len_int (y : Int) (by omega) (by omega) w
  rw [Int.toNat_natCast] at hl
  obtain ⟨b, hb⟩ : ∃ b, Lib.bitLen y = b := ⟨_, rfl⟩
  rw [hb] at hl hs
  have e1 : 64 - (b : Int) = (s : Int) := by omega
  have hb9 : b ≤ 64 := by omega
  have HL := Lib.hid hl
  clear hl hb hs h1 h2
  go_enter Try.func31, Try.ntmps31
  go_wp2_with fail
  refine HL.out.mono ?_
  rintro e w' ⟨rfl, rfl⟩
  go_wp2
  go_ret
  exact ⟨rfl, rfl⟩
/-- The words that are met on the way. -/
structure Kn (hi lo y s Y Y1 Y0 T Lw L1 L0 : Nat) : Prop where
  hY : y * 2 ^ s = Y
  hYs : Y = Y1 * 4294967296 + Y0
  y0 : Y0 < 4294967296
  y1 : 2147483648 ≤ Y1
  y1' : Y1 < 4294967296
  hT : hi * 2 ^ s + lo / 2 ^ (64 - s) = T
  t : T ≤ 1000
  hL : lo * 2 ^ s % 18446744073709551616 = Lw
  hLs : Lw = L1 * 4294967296 + L0
  l0 : L0 < 4294967296
  l1 : L1 < 4294967296
  whole : T * 18446744073709551616 + Lw = (hi * 18446744073709551616 + lo) * 2 ^ s
  j1 : hi * 2 ^ s % 2 ^ s = 0
  j2 : lo / 2 ^ (64 - s) < 2 ^ s
  j3 : hi * 2 ^ s < 1000000
set_option maxRecDepth 100000 in
theorem kn_of (hi lo y s : Nat) (hf : Far y s) (hh : hi < 1000) (hlo : lo < 18446744073709551616) (hU : hi * 18446744073709551616 + lo ≤ 1000 * y) : ∃ Y Y1 Y0 T Lw L1 L0, Kn hi lo y s Y Y1 Y0 T Lw L1 L0 := by
  obtain ⟨hs1, hs2, hf1, hf2⟩ := hf
  refine ⟨y * 2 ^ s, y * 2 ^ s / 4294967296, y * 2 ^ s % 4294967296, hi * 2 ^ s + lo / 2 ^ (64 - s), lo * 2 ^ s % 18446744073709551616, lo * 2 ^ s % 18446744073709551616 / 4294967296, lo * 2 ^ s % 18446744073709551616 % 4294967296, ?_⟩
  have hcase : s = 1 ∨ s = 2 ∨ s = 3 ∨ s = 4 ∨ s = 5 ∨ s = 6 ∨ s = 7 ∨ s = 8 ∨ s = 9 := by omega
  rcases hcase with rfl | rfl | rfl | rfl | rfl | rfl | rfl | rfl | rfl
  all_goals exact ⟨rfl, by omega, by omega, by omega, by omega, rfl, by omega, rfl, by omega, by omega, by omega, by omega, by omega, by omega, by omega⟩
/-- Too much was taken. -/
theorem kn_true {Q Y1 Y0 R V L0 q : Nat} (hV : Q * Y1 + R = V) (hq : (V * 4294967296 + L0) / (Y1 * 4294967296 + Y0) = q) (hD : 0 < Y1 * 4294967296 + Y0) (h : 4294967296 * R + L0 < Q * Y0) : q + 1 ≤ Q := by
  have e : Q * (Y1 * 4294967296 + Y0) = Q * Y1 * 4294967296 + Q * Y0 := by rw [Nat.mul_add, Nat.mul_assoc]
  have hlt : V * 4294967296 + L0 < Q * (Y1 * 4294967296 + Y0) := by rw [e]; omega
  have := (Nat.div_lt_iff_lt_mul hD).2 hlt
  omega
theorem kn_false {Q Y1 Y0 R V L0 q : Nat} (hV : Q * Y1 + R = V) (hq : (V * 4294967296 + L0) / (Y1 * 4294967296 + Y0) = q) (hD : 0 < Y1 * 4294967296 + Y0) (h : Q * Y0 ≤ 4294967296 * R + L0) : Q ≤ q := by
  have e : Q * (Y1 * 4294967296 + Y0) = Q * Y1 * 4294967296 + Q * Y0 := by rw [Nat.mul_add, Nat.mul_assoc]
  have hle : Q * (Y1 * 4294967296 + Y0) ≤ V * 4294967296 + L0 := by rw [e]; omega
  have := (Nat.le_div_iff_mul_le hD).2 hle
  omega
theorem pow_int (a s : Nat) : (a : Int) * 2 ^ s = ((a * 2 ^ s : Nat) : Int) := by
  rw [Int.natCast_mul, Int.natCast_pow]; rfl
theorem wrap_nat (a : Nat) : IntKind.u64.wrap (a : Int) = ((a % 18446744073709551616 : Nat) : Int) := by rw [IntKind.wrap_u64]; omega
set_option maxRecDepth 100000 in
theorem kn_or {hi lo y s Y Y1 Y0 T Lw L1 L0 : Nat} (k : Kn hi lo y s Y Y1 Y0 T Lw L1 L0) : bits .or .u64 (IntKind.u64.wrap ((hi : Int) * 2 ^ s)) ((lo : Int) / 2 ^ (64 - s)) = (T : Int) := by
  have hlow : (lo : Int) / 2 ^ (64 - s) = ((lo / 2 ^ (64 - s) : Nat) : Int) := by
    rw [Int.natCast_ediv, Int.natCast_pow]; rfl
  have j3 := k.j3
  have j2 := k.j2
  have hT := k.hT
  have t := k.t
  rw [pow_int, wrap_nat, hlow, u64_or_nat _ _ (by omega) (by omega), Nat.mod_eq_of_lt (by omega), nat_join s _ _ k.j1 k.j2, k.hT]
set_option maxRecDepth 100000 in
theorem quo_same {hi lo y s Y Y1 Y0 T Lw L1 L0 : Nat} (k : Kn hi lo y s Y Y1 Y0 T Lw L1 L0) : ((T * 4294967296 + L1) * 4294967296 + L0) / (Y1 * 4294967296 + Y0) = (hi * 18446744073709551616 + lo) / y := by
  have e : (T * 4294967296 + L1) * 4294967296 + L0 = T * 18446744073709551616 + Lw := by
    have := k.hLs
    omega
  rw [e, ← k.hYs, ← k.hY, ← Nat.mul_div_mul_right (hi * 18446744073709551616 + lo) y (Nat.two_pow_pos s), ← k.whole]
theorem kn_start (V Y1 Y0 L0 : Nat) (h1 : 0 < Y1) (hl : L0 < 4294967296) : (V * 4294967296 + L0) / (Y1 * 4294967296 + Y0) ≤ V / Y1 := by
  rw [Nat.le_div_iff_mul_le h1]
  have h := Nat.div_mul_le_self (V * 4294967296 + L0) (Y1 * 4294967296 + Y0)
  obtain ⟨z, hz⟩ : ∃ z, (V * 4294967296 + L0) / (Y1 * 4294967296 + Y0) = z := ⟨_, rfl⟩
  rw [hz] at h ⊢
  rw [Nat.mul_add, ← Nat.mul_assoc] at h
  obtain ⟨a, ha⟩ : ∃ a, z * Y1 = a := ⟨_, rfl⟩
  obtain ⟨b, hb⟩ : ∃ b, z * Y0 = b := ⟨_, rfl⟩
  rw [ha, hb] at h
  rw [ha]
  omega
set_option maxRecDepth 100000 in
set_option maxHeartbeats 4000000 in
theorem div_high (hi lo y s q Y Y1 Y0 T Lw L1 L0 : Nat) (w : World) (h1 : 18014398509481984 ≤ y) (h2 : y < 9223372036854775808) (hs : Lib.bitLen y + s = 64) (hs1 : 1 ≤ s) (hs2 : s ≤ 9) (hh : 1 ≤ hi) (hh2 : hi < 1000) (hlo : lo < 18446744073709551616)
    (k : Kn hi lo y s Y Y1 Y0 T Lw L1 L0) (hq : (hi * 18446744073709551616 + lo) / y = q) (hq2 : q ≤ 1000) :
    Calls Try.prog 28 #[.int .u64 hi, .int .u64 lo, .int .u64 y] w fun e w' => (∃ r : Int, e = .returned (.tuple #[.int .u64 (q : Nat), .int .u64 r])) ∧ Below w.heap.size w w' := by
  have HLZ := Lib.hid (lz_any y s h1 h2 hs w)
  have n1 : ((y : Int) == 0) = false := by simp; omega
  have n2 : ((hi : Int) == 0) = false := by simp; omega
  have n3 : (hi : Int) < y := by omega
  have n4 : (y : Int) ≤ 9223372036854775807 := by omega
  have n5 : (hi : Int) < 1000 := by omega
  have n6 : (lo : Int) ≤ 18446744073709551615 := by omega
  have n7 : 1 ≤ (s : Int) := by omega
  have n8 : (s : Int) ≤ 9 := by omega
  have ky1 := k.y1
  have ky1' := k.y1'
  have ky0 := k.y0
  have kt := k.t
  have kl0 := k.l0
  have kl1 := k.l1
  have hYs := k.hYs
  have hLs := k.hLs
  have r1 : IntKind.u64.wrap ((y : Int) * 2 ^ s) = (Y : Int) := by rw [pow_int, wrap_nat, k.hY, Nat.mod_eq_of_lt (by omega)]
  have r2 : (Y : Int) / 4294967296 = (Y1 : Int) := by omega
  have r3 : bits .and .u64 (Y : Int) 4294967295 = (Y0 : Int) := by rw [mask_nat Y (by omega)]; omega
  have r4 := kn_or k
  have r5 : IntKind.u64.wrap ((lo : Int) * 2 ^ s) = (Lw : Int) := by rw [pow_int, wrap_nat, k.hL]
  have r6 : (Lw : Int) / 4294967296 = (L1 : Int) := by omega
  have r7 : bits .and .u64 (Lw : Int) 4294967295 = (L0 : Int) := by rw [mask_nat Lw (by omega)]; omega
  have r8 : (T : Int) / (Y1 : Int) = 0 := Int.ediv_eq_zero_of_lt (by omega) (by omega)
  have r8' : (T : Int).tdiv (Y1 : Int) = 0 := by rw [Int.tdiv_eq_ediv_of_nonneg (by omega)]; exact r8
  obtain ⟨V, hV⟩ : ∃ V, T * 4294967296 + L1 = V := ⟨_, rfl⟩
  have r9 : (T : Int) * 4294967296 + (L1 : Int) = (V : Int) := by omega
  have v9 : V ≤ 4299262263296 := by omega
  obtain ⟨Q0, hQ0⟩ : ∃ Q0, V / Y1 = Q0 := ⟨_, rfl⟩
  have r10 : (V : Int) / (Y1 : Int) = (Q0 : Int) := by rw [← hQ0]; exact (Int.natCast_ediv V Y1).symm
  have r10' : (V : Int).tdiv (Y1 : Int) = (Q0 : Int) := by rw [Int.tdiv_eq_ediv_of_nonneg (by omega)]; exact r10
  have q0a : Q0 ≤ 2002 := by
    have h : V / Y1 ≤ V / 2147483648 := Nat.div_le_div_left ky1 (by omega)
    omega
  obtain ⟨M0, hM0⟩ : ∃ M0, Q0 * Y1 = M0 := ⟨_, rfl⟩
  have r11 : (Q0 : Int) * (Y1 : Int) = (M0 : Int) := by rw [← hM0]; exact (Int.natCast_mul Q0 Y1).symm
  have m0 : M0 ≤ V := by rw [← hM0, ← hQ0]; exact Nat.div_mul_le_self V Y1
  obtain ⟨R0, hR0⟩ : ∃ R0, V - M0 = R0 := ⟨_, rfl⟩
  have r12 : (V : Int) - (M0 : Int) = (R0 : Int) := by omega
  have R0lt : R0 < 4294967296 := by
    have h := Nat.mod_lt V (show 0 < Y1 by omega)
    have h2 := Nat.div_add_mod V Y1
    rw [hQ0, Nat.mul_comm, hM0] at h2
    omega
  have hqv : (V * 4294967296 + L0) / (Y1 * 4294967296 + Y0) = q := by rw [← hV, quo_same k, hq]
  have hD : 0 < Y1 * 4294967296 + Y0 := by omega
  have hqQ : q ≤ Q0 := by rw [← hqv, ← hQ0]; exact kn_start V Y1 Y0 L0 (by omega) kl0
  have HV0 : Hid (Q0 * Y1 + R0 = V) := Lib.hid (by omega)
  have HQV := Lib.hid hqv
  have HD := Lib.hid hD
  clear k h1 h2 hs hlo hh hh2 hs1 hs2 hV hQ0 hM0 hR0 hYs hLs hq hqv hD
  go_enter Try.func28, Try.ntmps28
  go_wp2_with fail
  refine HLZ.out.mono ?_
  rintro e w' ⟨rfl, rfl⟩
  clear n1 n2 HLZ
  go_wp2_with fail
  go_loop [15, 16] (fun a b => a = .int .u64 0 ∧ b = .int .u64 T) (fun a _ => (intOf a).toNat)
  case atStart => exact ⟨rfl, rfl⟩
  case round =>
    obtain ⟨rfl, rfl⟩ := hrel
    have nt : ¬ (4294967296 * (T : Int) + (L1 : Int) < 0) := by omega
    go_wp2_with fail
    clear r1 r2 r3 r4 r5 r6 r7 r8 r8' nt
    go_loop [16, 18] (fun rv qv => ∃ R Q : Nat, rv = .int .u64 R ∧ qv = .int .u64 Q ∧ Hid (Q * Y1 + R = V) ∧ q ≤ Q ∧ Q ≤ 2002 ∧ R < 4294967296) (fun _ qv => (intOf qv).toNat)
    case atStart => exact ⟨R0, Q0, rfl, rfl, HV0, hqQ, q0a, R0lt⟩
    case round =>
      obtain ⟨R, Q, rfl, rfl, HV, hq1, hq2', hR⟩ := hrel
      obtain ⟨P, hP⟩ : ∃ P, Q * Y0 = P := ⟨_, rfl⟩
      have p1 : (Q : Int) * (Y0 : Int) = (P : Int) := by rw [← hP]; exact (Int.natCast_mul Q Y0).symm
      have p9 : P ≤ 8598524526592 := by
        rw [← hP]
        exact Nat.le_trans (Nat.mul_le_mul hq2' (show Y0 ≤ 4294967296 by omega)) (by omega)
      obtain ⟨S, hS⟩ : ∃ S, 4294967296 * R + L0 = S := ⟨_, rfl⟩
      have p2 : 4294967296 * (R : Int) + (L0 : Int) = (S : Int) := by omega
      have i1 : (P : Int) ≤ 8598524526592 := by omega
      have i2 : (R : Int) ≤ 4294967295 := by omega
      have i3 : (S : Int) ≤ 18446744073709551615 := by omega
      have i4 : (Q : Int) < 4294967296 := by omega
      have i4d : decide (4294967296 ≤ (Q : Int)) = false := by simp; omega
      have HRR := Lib.hid (And.intro hR p9)
      by_cases hSP : S < P
      · have hq3 := kn_true HV.out HQV.out HD.out (show 4294967296 * R + L0 < Q * Y0 by rw [hS, hP]; exact hSP)
        obtain ⟨Q', hQ'⟩ : ∃ Q', Q - 1 = Q' := ⟨_, rfl⟩
        have p3 : (Q : Int) - 1 = (Q' : Int) := by omega
        obtain ⟨R', hR'⟩ : ∃ R', R + Y1 = R' := ⟨_, rfl⟩
        have p4 : (R : Int) + (Y1 : Int) = (R' : Int) := by omega
        have hQQ : Q = Q' + 1 := by omega
        have HV' : Hid (Q' * Y1 + R' = V) := Lib.hid (by
          have := HV.out
          rw [hQQ, Nat.add_mul, Nat.one_mul] at this
          omega)
        have hle : q ≤ Q' := by omega
        have hQ'9 : Q' < 2002 := by omega
        have hR'9 : R' < 8589934592 := by omega
        have HQQ := Lib.hid hQQ
        by_cases hbr : 4294967296 ≤ R'
        · have hfin : Q' ≤ q := kn_false HV'.out HQV.out HD.out (by
            have h := Nat.mul_le_mul (show Q' ≤ 2002 by omega) (show Y0 ≤ 4294967296 by omega)
            omega)
          obtain rfl : Q' = q := by omega
          have i5 : 4294967296 ≤ (R' : Int) := by omega
          have i6 : (R' : Int) ≤ 8589934591 := by omega
          have i7 : (S : Int) < (P : Int) := by omega
          clear hP hS hq3 hQ' hR' hQQ hle hfin hR p9 hbr hR'9 hSP
          go_wp2
          go_ret2
          exact ⟨⟨_, rfl⟩, .refl _ _⟩
        · have i5 : (R' : Int) < 4294967296 := by omega
          have i8 : decide (4294967296 ≤ (R' : Int)) = false := by simp; omega
          have i7 : (S : Int) < (P : Int) := by omega
          have HBR := Lib.hid hbr
          clear hP hS hq3 hQ' hR' hQQ hR p9 hbr hR'9 hSP
          go_wp2
          go_round
          case rel => exact ⟨R', Q', rfl, rfl, HV', hle, by omega, by have := HBR.out; omega⟩
          case measure => have := HQQ.out; simp [intOf]; omega
      · have hfin : Q ≤ q := kn_false HV.out HQV.out HD.out (by rw [hS, hP]; omega)
        obtain rfl : Q = q := by omega
        have i7 : ¬ (S : Int) < (P : Int) := by omega
        have i8 : decide (S < P) = false := by simp; omega
        have i9 : P ≤ S := by omega
        clear hP hS hfin hR p9 hSP
        go_wp2
        go_ret2
        exact ⟨⟨_, rfl⟩, .refl _ _⟩
/-- The func Score of any two numbers. -/
theorem score_big (a n : Nat) (w : World) (ha : a < 9223372036854775808) (h1 : 1 ≤ n) (hn : n < 9223372036854775808) :
    Calls Try.prog 19 #[.int .i64 a, .int .i64 n] w fun e w' => e = .returned (.int .i64 (scF a n)) ∧ Below w.heap.size w w' := by
  obtain ⟨t, ht⟩ : ∃ t, min a n = t := ⟨_, rfl⟩
  obtain ⟨q, hq⟩ : ∃ q, 1000 * t / n = q := ⟨_, rfl⟩
  have hf : scF a n = (q : Int) := by
    rw [scF_yes (by omega) (by omega), ← hq, Int.natCast_ediv, ← ht]
    congr 1
    omega
  rw [hf]
  have htn : t ≤ n := by omega
  have hq2 : q ≤ 1000 := by
    rw [← hq]
    exact Nat.div_le_of_le_mul (by rw [Nat.mul_comm n 1000]; exact Nat.mul_le_mul_left _ htn)
  refine score_yes a n q w h1 ha hn (by rw [ht]; exact hq) fun w => ?_
  rw [ht]
  by_cases hlow : 1000 * t < 18446744073709551616
  · have e1 : 1000 * t / 18446744073709551616 = 0 := Nat.div_eq_of_lt hlow
    have e2 : 1000 * t % 18446744073709551616 = 1000 * t := Nat.mod_eq_of_lt hlow
    rw [e1, e2, ← hq]
    exact (div_low _ n hlow h1 hn w).mono fun e w' ⟨h, k⟩ => ⟨⟨_, h⟩, k⟩
  · obtain ⟨hi, hhi⟩ : ∃ hi, 1000 * t / 18446744073709551616 = hi := ⟨_, rfl⟩
    obtain ⟨lo, hlo⟩ : ∃ lo, 1000 * t % 18446744073709551616 = lo := ⟨_, rfl⟩
    have hsum : hi * 18446744073709551616 + lo = 1000 * t := by omega
    rw [hhi, hlo]
    have b1 : 18014398509481984 ≤ n := by omega
    obtain ⟨s, hs, hfar⟩ := far_of n b1 hn
    obtain ⟨Y, Y1, Y0, T, Lw, L1, L0, k⟩ := kn_of hi lo n s hfar (by omega) (by omega) (by omega)
    exact div_high hi lo n s q Y Y1 Y0 T Lw L1 L0 w b1 hn hs hfar.1 hfar.2.1 (by omega) (by omega) (by omega) k (by rw [hsum]; exact hq) hq2
/-- .. whatever they are. -/
theorem score_all (a n : Int) (w : World) (ia : I64 a) (i_n : I64 n) :
    Calls Try.prog 19 #[.int .i64 a, .int .i64 n] w fun e w' => e = .returned (.int .i64 (scF a n)) ∧ Below w.heap.size w w' := by
  by_cases h : a < 0 ∨ n < 1
  · exact score_no a n w h
  · obtain ⟨x, rfl⟩ : ∃ x : Nat, a = x := ⟨a.toNat, by omega⟩
    obtain ⟨m, rfl⟩ : ∃ m : Nat, n = m := ⟨n.toNat, by omega⟩
    exact score_big x m w (by unfold I64 at ia; omega) (by omega) (by unfold I64 at i_n; omega)
end Go.Proofs.Ytplhdmaiammckaa
