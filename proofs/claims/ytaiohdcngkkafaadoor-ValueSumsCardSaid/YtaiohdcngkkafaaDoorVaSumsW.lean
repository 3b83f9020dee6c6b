/- ValueSums' walk. -/
import Derived.Test.YtaiohdcngkkafaaDoorVaNear
namespace Go.Proofs.YtaiohdcngkkafaaDoor
open Go.RowKit
set_option linter.unusedVariables false

theorem ck_cases (x : Int) : (∃ N, ck x = (N, true) ∧ N = x ∧ in64 x) ∨ (ck x = (0, false) ∧ ¬ in64 x) := by
  by_cases h : in64 x
  · exact .inl ⟨x, ck_yes h, rfl, h⟩
  · exact .inr ⟨ck_no h, h⟩
theorem add_is {a b n : Int} {ok : Bool} (ha : in64 a) (hb : in64 b) (h : ck (a + b) = (n, ok)) (w : World) : Calls Tryd.prog 30 #[.int .i64 a, .int .i64 b] w fun e w' => e = .returned (.tuple #[.int .i64 n, .bool ok]) ∧ w = w' := by
  have := add_any a b ha hb w
  rw [addV, h] at this
  exact this
theorem sub_is {a b n : Int} {ok : Bool} (ha : in64 a) (hb : in64 b) (h : ck (a - b) = (n, ok)) (w : World) : Calls Tryd.prog 32 #[.int .i64 a, .int .i64 b] w fun e w' => e = .returned (.tuple #[.int .i64 n, .bool ok]) ∧ w = w' := by
  have := sub_any a b ha hb w
  rw [subV, h] at this
  exact this
theorem pair_of {α β : Type} (p : α × β) : ∃ a b, p = (a, b) := ⟨p.1, p.2, rfl⟩
set_option maxHeartbeats 8000000 in
theorem sums_any (a b x y : Int) (ha : in64 a) (hb : in64 b) (hx : 0 ≤ x ∧ x ≤ 255) (hy : 0 ≤ y ∧ y ≤ 255) (w : World) (hT : Tabs8 w) :
    Calls Tryd.prog 9 #[.int .i64 a, .int .i64 b, .int .u8 x, .int .u8 y] w fun e w' => e = .returned (.bool true) ∧ Below w.heap.size w w' := by
  obtain ⟨A, hA, na⟩ := near_any a x ha hx
  obtain ⟨B, hB, nb⟩ := near_any b y hb hy
  have HEX := Lib.hid (ex8_any w hT)
  have HNA := Lib.hid na
  have HNB := Lib.hid nb
  clear hT na nb ha hb hx hy
  obtain ⟨N, ok, hN⟩ := pair_of (ck (A + B))
  obtain ⟨D, fine, hD⟩ := pair_of (ck (A - B))
  have hN2 : ck (B + A) = (N, ok) := by rw [Int.add_comm]; exact hN
  have iN : in64 N := by have := ck_in (A + B); rw [hN] at this; exact this
  have iD : in64 D := by have := ck_in (A - B); rw [hD] at this; exact this
  obtain ⟨C, back, hC⟩ := pair_of (ck (N - B))
  obtain ⟨E, again, hE⟩ := pair_of (ck (D + B))
  have HA1 := Lib.hid (add_is hA hB hN)
  have HA2 := Lib.hid (add_is hB hA hN2)
  have HS1 := Lib.hid (sub_is hA hB hD)
  have HS2 := Lib.hid (sub_is iN hB hC)
  have HA3 := Lib.hid (add_is iD hB hE)
  have hok : (ok = true ∧ A = C ∧ back = true ∧ in64 (A + B)) ∨ (ok = false ∧ N = 0 ∧ ¬ in64 (A + B)) := by
    rcases ck_cases (A + B) with ⟨M, e, rfl, hi⟩ | ⟨e, hi⟩
    · rw [hN] at e
      cases e
      left
      rw [show A + B - B = A by omega, ck_yes hA] at hC
      cases hC
      exact ⟨rfl, rfl, rfl, hi⟩
    · rw [hN] at e
      cases e
      exact .inr ⟨rfl, rfl, hi⟩
  have hfine : (fine = true ∧ A = E ∧ again = true ∧ in64 (A - B)) ∨ (fine = false ∧ D = 0 ∧ ¬ in64 (A - B)) := by
    rcases ck_cases (A - B) with ⟨M, e, rfl, hi⟩ | ⟨e, hi⟩
    · rw [hD] at e
      cases e
      left
      rw [show A - B + B = A by omega, ck_yes hA] at hE
      cases hE
      exact ⟨rfl, rfl, rfl, hi⟩
    · rw [hD] at e
      cases e
      exact .inr ⟨rfl, rfl, hi⟩
  clear hN hD hN2 hC hE iN iD
  unfold in64 at hA hB hok hfine
  rcases hok with ⟨rfl, rfl, rfl, hi⟩ | ⟨rfl, rfl, hi⟩ <;> rcases hfine with ⟨rfl, rfl, rfl, hj⟩ | ⟨rfl, rfl, hj⟩ <;> by_cases hb0 : 0 ≤ B
  · obtain ⟨X, hX⟩ : ∃ X, 9223372036854775807 - B = X := ⟨_, rfl⟩
    obtain ⟨Y, hY⟩ : ∃ Y, -9223372036854775808 + B = Y := ⟨_, rfl⟩
    have g1 : -9223372036854775808 ≤ X ∧ X ≤ 9223372036854775807 := by omega
    have g2 : -9223372036854775808 ≤ Y ∧ Y ≤ 9223372036854775807 := by omega
    have g3 : decide (B < 0) = false := by simp; omega
    have g6 : decide (0 ≤ B) = true := by simp; omega
    have g4 : decide (A ≤ X) = true := by simp; omega
    have g5 : decide (Y ≤ A) = true := by simp; omega
    clear hb0
    clear hi hj
    go_enter Tryd.func9, Tryd.ntmps9
    go_wp2_with fail
    refine HEX.out.mono ?_
    rintro e w1 ⟨rfl, b1⟩
    go_wp2_with fail
    refine (HNA.out w1).mono ?_
    rintro e w2 ⟨rfl, b2⟩
    have b12 := b1.trans (b2.mono b1.size)
    go_wp2_with fail
    refine (HNB.out w2).mono ?_
    rintro e w3 ⟨rfl, b3⟩
    have HB := Lib.hid (b12.trans (b3.mono b12.size))
    clear b1 b2 b12 b3
    go_wp2_with fail
    refine (HA1.out w3).mono ?_
    rintro e w' ⟨rfl, rfl⟩
    go_wp2_with fail
    refine (HA2.out w3).mono ?_
    rintro e w' ⟨rfl, rfl⟩
    go_wp2_with fail
    refine (HS1.out w3).mono ?_
    rintro e w' ⟨rfl, rfl⟩
    go_wp2_with fail
    refine (HS2.out w3).mono ?_
    rintro e w' ⟨rfl, rfl⟩
    go_wp2_with fail
    refine (HA3.out w3).mono ?_
    rintro e w' ⟨rfl, rfl⟩
    go_wp2_with fail
    go_ret
    exact ⟨rfl, HB.out⟩
  · obtain ⟨X, hX⟩ : ∃ X, -9223372036854775808 - B = X := ⟨_, rfl⟩
    obtain ⟨Y, hY⟩ : ∃ Y, 9223372036854775807 + B = Y := ⟨_, rfl⟩
    have g1 : -9223372036854775808 ≤ X ∧ X ≤ 9223372036854775807 := by omega
    have g2 : -9223372036854775808 ≤ Y ∧ Y ≤ 9223372036854775807 := by omega
    have g3 : decide (B < 0) = true := by simp; omega
    have g6 : decide (0 ≤ B) = false := by simp; omega
    have g4 : decide (X ≤ A) = true := by simp; omega
    have g5 : decide (A ≤ Y) = true := by simp; omega
    clear hb0
    clear hi hj
    go_enter Tryd.func9, Tryd.ntmps9
    go_wp2_with fail
    refine HEX.out.mono ?_
    rintro e w1 ⟨rfl, b1⟩
    go_wp2_with fail
    refine (HNA.out w1).mono ?_
    rintro e w2 ⟨rfl, b2⟩
    have b12 := b1.trans (b2.mono b1.size)
    go_wp2_with fail
    refine (HNB.out w2).mono ?_
    rintro e w3 ⟨rfl, b3⟩
    have HB := Lib.hid (b12.trans (b3.mono b12.size))
    clear b1 b2 b12 b3
    go_wp2_with fail
    refine (HA1.out w3).mono ?_
    rintro e w' ⟨rfl, rfl⟩
    go_wp2_with fail
    refine (HA2.out w3).mono ?_
    rintro e w' ⟨rfl, rfl⟩
    go_wp2_with fail
    refine (HS1.out w3).mono ?_
    rintro e w' ⟨rfl, rfl⟩
    go_wp2_with fail
    refine (HS2.out w3).mono ?_
    rintro e w' ⟨rfl, rfl⟩
    go_wp2_with fail
    refine (HA3.out w3).mono ?_
    rintro e w' ⟨rfl, rfl⟩
    go_wp2_with fail
    go_ret
    exact ⟨rfl, HB.out⟩
  · obtain ⟨X, hX⟩ : ∃ X, 9223372036854775807 - B = X := ⟨_, rfl⟩
    obtain ⟨Y, hY⟩ : ∃ Y, -9223372036854775808 + B = Y := ⟨_, rfl⟩
    have g1 : -9223372036854775808 ≤ X ∧ X ≤ 9223372036854775807 := by omega
    have g2 : -9223372036854775808 ≤ Y ∧ Y ≤ 9223372036854775807 := by omega
    have g3 : decide (B < 0) = false := by simp; omega
    have g6 : decide (0 ≤ B) = true := by simp; omega
    have g4 : decide (A ≤ X) = true := by simp; omega
    have g5 : decide (Y ≤ A) = false := by simp; omega
    clear hb0
    clear hi hj
    go_enter Tryd.func9, Tryd.ntmps9
    go_wp2_with fail
    refine HEX.out.mono ?_
    rintro e w1 ⟨rfl, b1⟩
    go_wp2_with fail
    refine (HNA.out w1).mono ?_
    rintro e w2 ⟨rfl, b2⟩
    have b12 := b1.trans (b2.mono b1.size)
    go_wp2_with fail
    refine (HNB.out w2).mono ?_
    rintro e w3 ⟨rfl, b3⟩
    have HB := Lib.hid (b12.trans (b3.mono b12.size))
    clear b1 b2 b12 b3
    go_wp2_with fail
    refine (HA1.out w3).mono ?_
    rintro e w' ⟨rfl, rfl⟩
    go_wp2_with fail
    refine (HA2.out w3).mono ?_
    rintro e w' ⟨rfl, rfl⟩
    go_wp2_with fail
    refine (HS1.out w3).mono ?_
    rintro e w' ⟨rfl, rfl⟩
    go_wp2_with fail
    refine (HS2.out w3).mono ?_
    rintro e w' ⟨rfl, rfl⟩
    go_wp2_with fail
    refine (HA3.out w3).mono ?_
    rintro e w' ⟨rfl, rfl⟩
    go_wp2_with fail
    go_ret
    exact ⟨rfl, HB.out⟩
  · obtain ⟨X, hX⟩ : ∃ X, -9223372036854775808 - B = X := ⟨_, rfl⟩
    obtain ⟨Y, hY⟩ : ∃ Y, 9223372036854775807 + B = Y := ⟨_, rfl⟩
    have g1 : -9223372036854775808 ≤ X ∧ X ≤ 9223372036854775807 := by omega
    have g2 : -9223372036854775808 ≤ Y ∧ Y ≤ 9223372036854775807 := by omega
    have g3 : decide (B < 0) = true := by simp; omega
    have g6 : decide (0 ≤ B) = false := by simp; omega
    have g4 : decide (X ≤ A) = true := by simp; omega
    have g5 : decide (A ≤ Y) = false := by simp; omega
    clear hb0
    clear hi hj
    go_enter Tryd.func9, Tryd.ntmps9
    go_wp2_with fail
    refine HEX.out.mono ?_
    rintro e w1 ⟨rfl, b1⟩
    go_wp2_with fail
    refine (HNA.out w1).mono ?_
    rintro e w2 ⟨rfl, b2⟩
    have b12 := b1.trans (b2.mono b1.size)
    go_wp2_with fail
    refine (HNB.out w2).mono ?_
    rintro e w3 ⟨rfl, b3⟩
    have HB := Lib.hid (b12.trans (b3.mono b12.size))
    clear b1 b2 b12 b3
    go_wp2_with fail
    refine (HA1.out w3).mono ?_
    rintro e w' ⟨rfl, rfl⟩
    go_wp2_with fail
    refine (HA2.out w3).mono ?_
    rintro e w' ⟨rfl, rfl⟩
    go_wp2_with fail
    refine (HS1.out w3).mono ?_
    rintro e w' ⟨rfl, rfl⟩
    go_wp2_with fail
    refine (HS2.out w3).mono ?_
    rintro e w' ⟨rfl, rfl⟩
    go_wp2_with fail
    refine (HA3.out w3).mono ?_
    rintro e w' ⟨rfl, rfl⟩
    go_wp2_with fail
    go_ret
    exact ⟨rfl, HB.out⟩
  · obtain ⟨X, hX⟩ : ∃ X, 9223372036854775807 - B = X := ⟨_, rfl⟩
    obtain ⟨Y, hY⟩ : ∃ Y, -9223372036854775808 + B = Y := ⟨_, rfl⟩
    have g1 : -9223372036854775808 ≤ X ∧ X ≤ 9223372036854775807 := by omega
    have g2 : -9223372036854775808 ≤ Y ∧ Y ≤ 9223372036854775807 := by omega
    have g3 : decide (B < 0) = false := by simp; omega
    have g6 : decide (0 ≤ B) = true := by simp; omega
    have g4 : decide (A ≤ X) = false := by simp; omega
    have g5 : decide (Y ≤ A) = true := by simp; omega
    clear hb0
    clear hi hj
    go_enter Tryd.func9, Tryd.ntmps9
    go_wp2_with fail
    refine HEX.out.mono ?_
    rintro e w1 ⟨rfl, b1⟩
    go_wp2_with fail
    refine (HNA.out w1).mono ?_
    rintro e w2 ⟨rfl, b2⟩
    have b12 := b1.trans (b2.mono b1.size)
    go_wp2_with fail
    refine (HNB.out w2).mono ?_
    rintro e w3 ⟨rfl, b3⟩
    have HB := Lib.hid (b12.trans (b3.mono b12.size))
    clear b1 b2 b12 b3
    go_wp2_with fail
    refine (HA1.out w3).mono ?_
    rintro e w' ⟨rfl, rfl⟩
    go_wp2_with fail
    refine (HA2.out w3).mono ?_
    rintro e w' ⟨rfl, rfl⟩
    go_wp2_with fail
    refine (HS1.out w3).mono ?_
    rintro e w' ⟨rfl, rfl⟩
    go_wp2_with fail
    refine (HS2.out w3).mono ?_
    rintro e w' ⟨rfl, rfl⟩
    go_wp2_with fail
    refine (HA3.out w3).mono ?_
    rintro e w' ⟨rfl, rfl⟩
    go_wp2_with fail
    go_ret
    exact ⟨rfl, HB.out⟩
  · obtain ⟨X, hX⟩ : ∃ X, -9223372036854775808 - B = X := ⟨_, rfl⟩
    obtain ⟨Y, hY⟩ : ∃ Y, 9223372036854775807 + B = Y := ⟨_, rfl⟩
    have g1 : -9223372036854775808 ≤ X ∧ X ≤ 9223372036854775807 := by omega
    have g2 : -9223372036854775808 ≤ Y ∧ Y ≤ 9223372036854775807 := by omega
    have g3 : decide (B < 0) = true := by simp; omega
    have g6 : decide (0 ≤ B) = false := by simp; omega
    have g4 : decide (X ≤ A) = false := by simp; omega
    have g5 : decide (A ≤ Y) = true := by simp; omega
    clear hb0
    clear hi hj
    go_enter Tryd.func9, Tryd.ntmps9
    go_wp2_with fail
    refine HEX.out.mono ?_
    rintro e w1 ⟨rfl, b1⟩
    go_wp2_with fail
    refine (HNA.out w1).mono ?_
    rintro e w2 ⟨rfl, b2⟩
    have b12 := b1.trans (b2.mono b1.size)
    go_wp2_with fail
    refine (HNB.out w2).mono ?_
    rintro e w3 ⟨rfl, b3⟩
    have HB := Lib.hid (b12.trans (b3.mono b12.size))
    clear b1 b2 b12 b3
    go_wp2_with fail
    refine (HA1.out w3).mono ?_
    rintro e w' ⟨rfl, rfl⟩
    go_wp2_with fail
    refine (HA2.out w3).mono ?_
    rintro e w' ⟨rfl, rfl⟩
    go_wp2_with fail
    refine (HS1.out w3).mono ?_
    rintro e w' ⟨rfl, rfl⟩
    go_wp2_with fail
    refine (HS2.out w3).mono ?_
    rintro e w' ⟨rfl, rfl⟩
    go_wp2_with fail
    refine (HA3.out w3).mono ?_
    rintro e w' ⟨rfl, rfl⟩
    go_wp2_with fail
    go_ret
    exact ⟨rfl, HB.out⟩
  · obtain ⟨X, hX⟩ : ∃ X, 9223372036854775807 - B = X := ⟨_, rfl⟩
    obtain ⟨Y, hY⟩ : ∃ Y, -9223372036854775808 + B = Y := ⟨_, rfl⟩
    have g1 : -9223372036854775808 ≤ X ∧ X ≤ 9223372036854775807 := by omega
    have g2 : -9223372036854775808 ≤ Y ∧ Y ≤ 9223372036854775807 := by omega
    have g3 : decide (B < 0) = false := by simp; omega
    have g6 : decide (0 ≤ B) = true := by simp; omega
    have g4 : decide (A ≤ X) = false := by simp; omega
    have g5 : decide (Y ≤ A) = false := by simp; omega
    clear hb0
    clear hi hj
    go_enter Tryd.func9, Tryd.ntmps9
    go_wp2_with fail
    refine HEX.out.mono ?_
    rintro e w1 ⟨rfl, b1⟩
    go_wp2_with fail
    refine (HNA.out w1).mono ?_
    rintro e w2 ⟨rfl, b2⟩
    have b12 := b1.trans (b2.mono b1.size)
    go_wp2_with fail
    refine (HNB.out w2).mono ?_
    rintro e w3 ⟨rfl, b3⟩
    have HB := Lib.hid (b12.trans (b3.mono b12.size))
    clear b1 b2 b12 b3
    go_wp2_with fail
    refine (HA1.out w3).mono ?_
    rintro e w' ⟨rfl, rfl⟩
    go_wp2_with fail
    refine (HA2.out w3).mono ?_
    rintro e w' ⟨rfl, rfl⟩
    go_wp2_with fail
    refine (HS1.out w3).mono ?_
    rintro e w' ⟨rfl, rfl⟩
    go_wp2_with fail
    refine (HS2.out w3).mono ?_
    rintro e w' ⟨rfl, rfl⟩
    go_wp2_with fail
    refine (HA3.out w3).mono ?_
    rintro e w' ⟨rfl, rfl⟩
    go_wp2_with fail
    go_ret
    exact ⟨rfl, HB.out⟩
  · obtain ⟨X, hX⟩ : ∃ X, -9223372036854775808 - B = X := ⟨_, rfl⟩
    obtain ⟨Y, hY⟩ : ∃ Y, 9223372036854775807 + B = Y := ⟨_, rfl⟩
    have g1 : -9223372036854775808 ≤ X ∧ X ≤ 9223372036854775807 := by omega
    have g2 : -9223372036854775808 ≤ Y ∧ Y ≤ 9223372036854775807 := by omega
    have g3 : decide (B < 0) = true := by simp; omega
    have g6 : decide (0 ≤ B) = false := by simp; omega
    have g4 : decide (X ≤ A) = false := by simp; omega
    have g5 : decide (A ≤ Y) = false := by simp; omega
    clear hb0
    clear hi hj
    go_enter Tryd.func9, Tryd.ntmps9
    go_wp2_with fail
    refine HEX.out.mono ?_
    rintro e w1 ⟨rfl, b1⟩
    go_wp2_with fail
    refine (HNA.out w1).mono ?_
    rintro e w2 ⟨rfl, b2⟩
    have b12 := b1.trans (b2.mono b1.size)
    go_wp2_with fail
    refine (HNB.out w2).mono ?_
    rintro e w3 ⟨rfl, b3⟩
    have HB := Lib.hid (b12.trans (b3.mono b12.size))
    clear b1 b2 b12 b3
    go_wp2_with fail
    refine (HA1.out w3).mono ?_
    rintro e w' ⟨rfl, rfl⟩
    go_wp2_with fail
    refine (HA2.out w3).mono ?_
    rintro e w' ⟨rfl, rfl⟩
    go_wp2_with fail
    refine (HS1.out w3).mono ?_
    rintro e w' ⟨rfl, rfl⟩
    go_wp2_with fail
    refine (HS2.out w3).mono ?_
    rintro e w' ⟨rfl, rfl⟩
    go_wp2_with fail
    refine (HA3.out w3).mono ?_
    rintro e w' ⟨rfl, rfl⟩
    go_wp2_with fail
    go_ret
    exact ⟨rfl, HB.out⟩
theorem sums_at (a b x y : Int) (a0 : -9223372036854775808 ≤ a) (a1 : a ≤ 9223372036854775807) (b0 : -9223372036854775808 ≤ b) (b1 : b ≤ 9223372036854775807) (x0 : 0 ≤ x) (x1 : x ≤ 255) (y0 : 0 ≤ y) (y1 : y ≤ 255) (w : World) (hT : Tabs8 w) :
    Calls Tryd.prog 9 #[.int .i64 a, .int .i64 b, .int .u8 x, .int .u8 y] w fun e w' => e = .returned (.bool true) ∧ Below w.heap.size w w' := sums_any a b x y ⟨a0, a1⟩ ⟨b0, b1⟩ ⟨x0, x1⟩ ⟨y0, y1⟩ w hT
end Go.Proofs.YtaiohdcngkkafaaDoor
