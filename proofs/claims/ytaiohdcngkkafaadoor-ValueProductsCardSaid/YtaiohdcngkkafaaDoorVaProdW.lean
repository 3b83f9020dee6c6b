/- ValueProducts' walk. -/
import Derived.Test.YtaiohdcngkkafaaDoorVaNear
import Derived.Test.YtaiohdcngkkafaaDoorVaIs
namespace Go.Proofs.YtaiohdcngkkafaaDoor
open Go.RowKit
set_option linter.unusedVariables false

theorem mul_is {a b n : Int} {ok : Bool} (ha : in64 a) (hb : in64 b) (h : ck (a * b) = (n, ok)) (w : World) : Calls Tryd.prog 34 #[.int .i64 a, .int .i64 b] w fun e w' => e = .returned (.tuple #[.int .i64 n, .bool ok]) ∧ w = w' := by
  have := mul_any a b ha hb w
  rw [mulV, h] at this
  exact this
theorem div_is {a b : Int} (ha : in64 a) (h : divOk a b) (w : World) : Calls Tryd.prog 36 #[.int .i64 a, .int .i64 b] w fun e w' => e = .returned (.tuple #[.int .i64 (a.tdiv b), .bool true]) ∧ w = w' := by
  have := div_any a b ha w
  rw [divV, if_pos h] at this
  exact this
theorem rem_is {a b : Int} (ha : in64 a) (hb : in64 b) (h : divOk a b) (w : World) : Calls Tryd.prog 38 #[.int .i64 a, .int .i64 b] w fun e w' => e = .returned (.tuple #[.int .i64 (a.tmod b), .bool true]) ∧ w = w' := by
  have := rem_any a b ha hb w
  rw [remV, if_pos h] at this
  exact this
theorem div_isnt {a b : Int} (ha : in64 a) (h : ¬ divOk a b) (w : World) : Calls Tryd.prog 36 #[.int .i64 a, .int .i64 b] w fun e w' => e = .returned (.tuple #[.int .i64 0, .bool false]) ∧ w = w' := by
  have := div_any a b ha w
  rw [divV, if_neg h] at this
  exact this
theorem rem_isnt {a b : Int} (ha : in64 a) (hb : in64 b) (h : ¬ divOk a b) (w : World) : Calls Tryd.prog 38 #[.int .i64 a, .int .i64 b] w fun e w' => e = .returned (.tuple #[.int .i64 0, .bool false]) ∧ w = w' := by
  have := rem_any a b ha hb w
  rw [remV, if_neg h] at this
  exact this
/-- The quotient times the divisor has room. -/
theorem quo_in {a b : Int} (ha : in64 a) : in64 (a.tdiv b * b) := by
  have h1 := tdiv_parts a b
  have h2 := tmod_sign (a := a) (b := b)
  have h3 : (a.tmod b).natAbs ≤ a.natAbs := by rw [Int.natAbs_tmod]; exact Nat.mod_le _ _
  rw [Int.mul_comm] at h1
  unfold in64 at *
  generalize a.tdiv b * b = q at *
  generalize a.tmod b = r at *
  omega
/-- What all ways know of a quotient. -/
theorem quo_all {a b : Int} (ha : in64 a) (hb : in64 b) (h : divOk a b) : ∃ q r, in64 q ∧ in64 r ∧ (∀ w, Calls Tryd.prog 36 #[.int .i64 a, .int .i64 b] w fun e w' => e = .returned (.tuple #[.int .i64 q, .bool true]) ∧ w = w')
    ∧ (∀ w, Calls Tryd.prog 38 #[.int .i64 a, .int .i64 b] w fun e w' => e = .returned (.tuple #[.int .i64 r, .bool true]) ∧ w = w')
    ∧ (∃ p, (∀ w, Calls Tryd.prog 34 #[.int .i64 q, .int .i64 b] w fun e w' => e = .returned (.tuple #[.int .i64 p, .bool true]) ∧ w = w') ∧ ∀ w, Calls Tryd.prog 30 #[.int .i64 p, .int .i64 r] w fun e w' => e = .returned (.tuple #[.int .i64 a, .bool true]) ∧ w = w')
    ∧ (r = 0 ∨ (r == 0) = false ∧ decide (0 < r) = decide (0 < a)) := by
  have iq := tdiv_in ha h
  have ir := tmod_in ha hb h
  have ip := quo_in (b := b) ha
  refine ⟨a.tdiv b, a.tmod b, iq, ir, div_is ha h, rem_is ha hb h, ⟨a.tdiv b * b, mul_is iq hb (ck_yes ip), add_is ip ir ?_⟩, ?_⟩
  · rw [show a.tdiv b * b + a.tmod b = a by rw [Int.mul_comm]; exact tdiv_parts a b]
    exact ck_yes ha
  · have h2 := tmod_sign (a := a) (b := b)
    by_cases h0 : a.tmod b = 0
    · exact .inl h0
    · refine .inr ⟨by simpa using h0, ?_⟩
      by_cases h3 : 0 < a <;> simp [h3] <;> omega
set_option maxRecDepth 100000 in
set_option maxHeartbeats 16000000 in
theorem prods_any (a b x y : Int) (ha : in64 a) (hb : in64 b) (hx : 0 ≤ x ∧ x ≤ 255) (hy : 0 ≤ y ∧ y ≤ 255) (w : World) (hT : Tabs8 w) :
    Calls Tryd.prog 10 #[.int .i64 a, .int .i64 b, .int .u8 x, .int .u8 y] w fun e w' => e = .returned (.bool true) ∧ Below w.heap.size w w' := by
  obtain ⟨A, hA, na⟩ := near_any a x ha hx
  obtain ⟨B, hB, nb⟩ := near_any b y hb hy
  have HEX := Lib.hid (ex8_any w hT)
  have HNA := Lib.hid na
  have HNB := Lib.hid nb
  clear hT na nb ha hb hx hy
  obtain ⟨N, ok, hN⟩ := pair_of (ck (A * B))
  have hN2 : ck (B * A) = (N, ok) := by rw [Int.mul_comm]; exact hN
  have HM1 := Lib.hid (mul_is hA hB hN)
  have HM2 := Lib.hid (mul_is hB hA hN2)
  clear hN2
  by_cases hz : B = 0
  · subst hz
    rw [Int.mul_zero, ck_yes in64_0] at hN
    cases hN
    have hd : ¬ divOk A 0 := fun h => h.1 rfl
    have HD := Lib.hid (div_isnt hA hd)
    have HR := Lib.hid (rem_isnt hA in64_0 hd)
    clear hd hA hB
    go_enter Tryd.func10, Tryd.ntmps10
    go_wp2_with fail
    refine HEX.out.mono ?_
    rintro e w1 ⟨rfl, b1⟩
    go_wp2_with fail
    refine (HNA.out w1).mono ?_
    rintro e w2 ⟨rfl, b2⟩
    have b12 := b1.trans (b2.mono b1.size)
    go_wp2_with fail
    refine (HNB.out w2).mono ?_
    rintro e w3 ⟨rfl, b3⟩
    have HB := Lib.hid (b12.trans (b3.mono b12.size))
    clear b1 b2 b12 b3
    go_wp2_with fail
    refine (HM1.out w3).mono ?_
    rintro e w' ⟨rfl, rfl⟩
    go_wp2_with fail
    refine (HM2.out w3).mono ?_
    rintro e w' ⟨rfl, rfl⟩
    go_wp2_with fail
    refine (HD.out w3).mono ?_
    rintro e w' ⟨rfl, rfl⟩
    go_wp2_with fail
    refine (HR.out w3).mono ?_
    rintro e w' ⟨rfl, rfl⟩
    go_wp2_with fail
    go_ret
    exact ⟨rfl, HB.out⟩
  have z0 : (B == 0) = false := by simpa using hz
  have z1 : (B != 0) = true := by simpa using hz
  by_cases hd : divOk A B
  · obtain ⟨q, r, iq, ir, hD, hR, ⟨p, hP, hQ⟩, hrr⟩ := quo_all hA hB hd
    have HD := Lib.hid hD
    have HR := Lib.hid hR
    have HP := Lib.hid hP
    have HQ := Lib.hid hQ
    clear hD hR hP hQ iq ir
    have hmin : (A != -9223372036854775808) = true ∨ (A != -9223372036854775808) = false ∧ (B != -1) = true := by
      by_cases h : A = -9223372036854775808
      · subst h
        exact .inr ⟨by simp, by have := hd.2; simpa using this⟩
      · exact .inl (by simpa using h)
    clear hd
    rcases ck_cases (A * B) with ⟨M, e, rfl, hi⟩ | ⟨e, hi⟩
    · rw [hN] at e
      cases e
      obtain ⟨hd2, hq2⟩ := mul_yes hA hz hi
      have hr2 : (A * B).tmod B = 0 := Int.mul_tmod_left A B
      have hnd := div_is hi hd2
      have hnr := rem_is hi hB hd2
      rw [hq2] at hnd
      rw [hr2] at hnr
      have HND := Lib.hid hnd
      have HNR := Lib.hid hnr
      clear hnd hnr hd2 hq2 hr2 hN
      generalize A * B = N at *
      clear hA hB hi hz
      rcases hmin with hm | ⟨hm, hm2⟩ <;> rcases hrr with rfl | ⟨hr0, hr1⟩
      · go_enter Tryd.func10, Tryd.ntmps10
        go_wp2_with fail
        refine HEX.out.mono ?_
        rintro e w1 ⟨rfl, b1⟩
        go_wp2_with fail
        refine (HNA.out w1).mono ?_
        rintro e w2 ⟨rfl, b2⟩
        have b12 := b1.trans (b2.mono b1.size)
        go_wp2_with fail
        refine (HNB.out w2).mono ?_
        rintro e w3 ⟨rfl, b3⟩
        have HB := Lib.hid (b12.trans (b3.mono b12.size))
        clear b1 b2 b12 b3
        go_wp2_with fail
        refine (HM1.out w3).mono ?_
        rintro e w' ⟨rfl, rfl⟩
        go_wp2_with fail
        refine (HM2.out w3).mono ?_
        rintro e w' ⟨rfl, rfl⟩
        go_wp2_with fail
        refine (HND.out w3).mono ?_
        rintro e w' ⟨rfl, rfl⟩
        go_wp2_with fail
        refine (HNR.out w3).mono ?_
        rintro e w' ⟨rfl, rfl⟩
        go_wp2_with fail
        refine (HD.out w3).mono ?_
        rintro e w' ⟨rfl, rfl⟩
        go_wp2_with fail
        refine (HR.out w3).mono ?_
        rintro e w' ⟨rfl, rfl⟩
        go_wp2_with fail
        refine (HP.out w3).mono ?_
        rintro e w' ⟨rfl, rfl⟩
        go_wp2_with fail
        refine (HQ.out w3).mono ?_
        rintro e w' ⟨rfl, rfl⟩
        go_wp2_with fail
        go_ret
        exact ⟨rfl, HB.out⟩
      · go_enter Tryd.func10, Tryd.ntmps10
        go_wp2_with fail
        refine HEX.out.mono ?_
        rintro e w1 ⟨rfl, b1⟩
        go_wp2_with fail
        refine (HNA.out w1).mono ?_
        rintro e w2 ⟨rfl, b2⟩
        have b12 := b1.trans (b2.mono b1.size)
        go_wp2_with fail
        refine (HNB.out w2).mono ?_
        rintro e w3 ⟨rfl, b3⟩
        have HB := Lib.hid (b12.trans (b3.mono b12.size))
        clear b1 b2 b12 b3
        go_wp2_with fail
        refine (HM1.out w3).mono ?_
        rintro e w' ⟨rfl, rfl⟩
        go_wp2_with fail
        refine (HM2.out w3).mono ?_
        rintro e w' ⟨rfl, rfl⟩
        go_wp2_with fail
        refine (HND.out w3).mono ?_
        rintro e w' ⟨rfl, rfl⟩
        go_wp2_with fail
        refine (HNR.out w3).mono ?_
        rintro e w' ⟨rfl, rfl⟩
        go_wp2_with fail
        refine (HD.out w3).mono ?_
        rintro e w' ⟨rfl, rfl⟩
        go_wp2_with fail
        refine (HR.out w3).mono ?_
        rintro e w' ⟨rfl, rfl⟩
        go_wp2_with fail
        refine (HP.out w3).mono ?_
        rintro e w' ⟨rfl, rfl⟩
        go_wp2_with fail
        refine (HQ.out w3).mono ?_
        rintro e w' ⟨rfl, rfl⟩
        go_wp2_with fail
        go_ret
        exact ⟨rfl, HB.out⟩
      · go_enter Tryd.func10, Tryd.ntmps10
        go_wp2_with fail
        refine HEX.out.mono ?_
        rintro e w1 ⟨rfl, b1⟩
        go_wp2_with fail
        refine (HNA.out w1).mono ?_
        rintro e w2 ⟨rfl, b2⟩
        have b12 := b1.trans (b2.mono b1.size)
        go_wp2_with fail
        refine (HNB.out w2).mono ?_
        rintro e w3 ⟨rfl, b3⟩
        have HB := Lib.hid (b12.trans (b3.mono b12.size))
        clear b1 b2 b12 b3
        go_wp2_with fail
        refine (HM1.out w3).mono ?_
        rintro e w' ⟨rfl, rfl⟩
        go_wp2_with fail
        refine (HM2.out w3).mono ?_
        rintro e w' ⟨rfl, rfl⟩
        go_wp2_with fail
        refine (HND.out w3).mono ?_
        rintro e w' ⟨rfl, rfl⟩
        go_wp2_with fail
        refine (HNR.out w3).mono ?_
        rintro e w' ⟨rfl, rfl⟩
        go_wp2_with fail
        refine (HD.out w3).mono ?_
        rintro e w' ⟨rfl, rfl⟩
        go_wp2_with fail
        refine (HR.out w3).mono ?_
        rintro e w' ⟨rfl, rfl⟩
        go_wp2_with fail
        refine (HP.out w3).mono ?_
        rintro e w' ⟨rfl, rfl⟩
        go_wp2_with fail
        refine (HQ.out w3).mono ?_
        rintro e w' ⟨rfl, rfl⟩
        go_wp2_with fail
        go_ret
        exact ⟨rfl, HB.out⟩
      · go_enter Tryd.func10, Tryd.ntmps10
        go_wp2_with fail
        refine HEX.out.mono ?_
        rintro e w1 ⟨rfl, b1⟩
        go_wp2_with fail
        refine (HNA.out w1).mono ?_
        rintro e w2 ⟨rfl, b2⟩
        have b12 := b1.trans (b2.mono b1.size)
        go_wp2_with fail
        refine (HNB.out w2).mono ?_
        rintro e w3 ⟨rfl, b3⟩
        have HB := Lib.hid (b12.trans (b3.mono b12.size))
        clear b1 b2 b12 b3
        go_wp2_with fail
        refine (HM1.out w3).mono ?_
        rintro e w' ⟨rfl, rfl⟩
        go_wp2_with fail
        refine (HM2.out w3).mono ?_
        rintro e w' ⟨rfl, rfl⟩
        go_wp2_with fail
        refine (HND.out w3).mono ?_
        rintro e w' ⟨rfl, rfl⟩
        go_wp2_with fail
        refine (HNR.out w3).mono ?_
        rintro e w' ⟨rfl, rfl⟩
        go_wp2_with fail
        refine (HD.out w3).mono ?_
        rintro e w' ⟨rfl, rfl⟩
        go_wp2_with fail
        refine (HR.out w3).mono ?_
        rintro e w' ⟨rfl, rfl⟩
        go_wp2_with fail
        refine (HP.out w3).mono ?_
        rintro e w' ⟨rfl, rfl⟩
        go_wp2_with fail
        refine (HQ.out w3).mono ?_
        rintro e w' ⟨rfl, rfl⟩
        go_wp2_with fail
        go_ret
        exact ⟨rfl, HB.out⟩
    · rw [hN] at e
      cases e
      have ha0 : (A != 0) = true := by
        simp
        rintro rfl
        exact hi (by rw [Int.zero_mul]; exact in64_0)
      clear hN hA hB hi hz
      rcases hmin with hm | ⟨hm, hm2⟩ <;> rcases hrr with rfl | ⟨hr0, hr1⟩
      · go_enter Tryd.func10, Tryd.ntmps10
        go_wp2_with fail
        refine HEX.out.mono ?_
        rintro e w1 ⟨rfl, b1⟩
        go_wp2_with fail
        refine (HNA.out w1).mono ?_
        rintro e w2 ⟨rfl, b2⟩
        have b12 := b1.trans (b2.mono b1.size)
        go_wp2_with fail
        refine (HNB.out w2).mono ?_
        rintro e w3 ⟨rfl, b3⟩
        have HB := Lib.hid (b12.trans (b3.mono b12.size))
        clear b1 b2 b12 b3
        go_wp2_with fail
        refine (HM1.out w3).mono ?_
        rintro e w' ⟨rfl, rfl⟩
        go_wp2_with fail
        refine (HM2.out w3).mono ?_
        rintro e w' ⟨rfl, rfl⟩
        go_wp2_with fail
        refine (HD.out w3).mono ?_
        rintro e w' ⟨rfl, rfl⟩
        go_wp2_with fail
        refine (HR.out w3).mono ?_
        rintro e w' ⟨rfl, rfl⟩
        go_wp2_with fail
        refine (HP.out w3).mono ?_
        rintro e w' ⟨rfl, rfl⟩
        go_wp2_with fail
        refine (HQ.out w3).mono ?_
        rintro e w' ⟨rfl, rfl⟩
        go_wp2_with fail
        go_ret
        exact ⟨rfl, HB.out⟩
      · go_enter Tryd.func10, Tryd.ntmps10
        go_wp2_with fail
        refine HEX.out.mono ?_
        rintro e w1 ⟨rfl, b1⟩
        go_wp2_with fail
        refine (HNA.out w1).mono ?_
        rintro e w2 ⟨rfl, b2⟩
        have b12 := b1.trans (b2.mono b1.size)
        go_wp2_with fail
        refine (HNB.out w2).mono ?_
        rintro e w3 ⟨rfl, b3⟩
        have HB := Lib.hid (b12.trans (b3.mono b12.size))
        clear b1 b2 b12 b3
        go_wp2_with fail
        refine (HM1.out w3).mono ?_
        rintro e w' ⟨rfl, rfl⟩
        go_wp2_with fail
        refine (HM2.out w3).mono ?_
        rintro e w' ⟨rfl, rfl⟩
        go_wp2_with fail
        refine (HD.out w3).mono ?_
        rintro e w' ⟨rfl, rfl⟩
        go_wp2_with fail
        refine (HR.out w3).mono ?_
        rintro e w' ⟨rfl, rfl⟩
        go_wp2_with fail
        refine (HP.out w3).mono ?_
        rintro e w' ⟨rfl, rfl⟩
        go_wp2_with fail
        refine (HQ.out w3).mono ?_
        rintro e w' ⟨rfl, rfl⟩
        go_wp2_with fail
        go_ret
        exact ⟨rfl, HB.out⟩
      · go_enter Tryd.func10, Tryd.ntmps10
        go_wp2_with fail
        refine HEX.out.mono ?_
        rintro e w1 ⟨rfl, b1⟩
        go_wp2_with fail
        refine (HNA.out w1).mono ?_
        rintro e w2 ⟨rfl, b2⟩
        have b12 := b1.trans (b2.mono b1.size)
        go_wp2_with fail
        refine (HNB.out w2).mono ?_
        rintro e w3 ⟨rfl, b3⟩
        have HB := Lib.hid (b12.trans (b3.mono b12.size))
        clear b1 b2 b12 b3
        go_wp2_with fail
        refine (HM1.out w3).mono ?_
        rintro e w' ⟨rfl, rfl⟩
        go_wp2_with fail
        refine (HM2.out w3).mono ?_
        rintro e w' ⟨rfl, rfl⟩
        go_wp2_with fail
        refine (HD.out w3).mono ?_
        rintro e w' ⟨rfl, rfl⟩
        go_wp2_with fail
        refine (HR.out w3).mono ?_
        rintro e w' ⟨rfl, rfl⟩
        go_wp2_with fail
        refine (HP.out w3).mono ?_
        rintro e w' ⟨rfl, rfl⟩
        go_wp2_with fail
        refine (HQ.out w3).mono ?_
        rintro e w' ⟨rfl, rfl⟩
        go_wp2_with fail
        go_ret
        exact ⟨rfl, HB.out⟩
      · go_enter Tryd.func10, Tryd.ntmps10
        go_wp2_with fail
        refine HEX.out.mono ?_
        rintro e w1 ⟨rfl, b1⟩
        go_wp2_with fail
        refine (HNA.out w1).mono ?_
        rintro e w2 ⟨rfl, b2⟩
        have b12 := b1.trans (b2.mono b1.size)
        go_wp2_with fail
        refine (HNB.out w2).mono ?_
        rintro e w3 ⟨rfl, b3⟩
        have HB := Lib.hid (b12.trans (b3.mono b12.size))
        clear b1 b2 b12 b3
        go_wp2_with fail
        refine (HM1.out w3).mono ?_
        rintro e w' ⟨rfl, rfl⟩
        go_wp2_with fail
        refine (HM2.out w3).mono ?_
        rintro e w' ⟨rfl, rfl⟩
        go_wp2_with fail
        refine (HD.out w3).mono ?_
        rintro e w' ⟨rfl, rfl⟩
        go_wp2_with fail
        refine (HR.out w3).mono ?_
        rintro e w' ⟨rfl, rfl⟩
        go_wp2_with fail
        refine (HP.out w3).mono ?_
        rintro e w' ⟨rfl, rfl⟩
        go_wp2_with fail
        refine (HQ.out w3).mono ?_
        rintro e w' ⟨rfl, rfl⟩
        go_wp2_with fail
        go_ret
        exact ⟨rfl, HB.out⟩
  · have hAB : A = -9223372036854775808 ∧ B = -1 := by unfold divOk at hd; omega
    obtain ⟨rfl, rfl⟩ := hAB
    rw [show (-9223372036854775808 : Int) * -1 = 9223372036854775808 by decide, ck_no (by unfold in64; decide)] at hN
    cases hN
    have HD := Lib.hid (div_isnt hA hd)
    have HR := Lib.hid (rem_isnt hA hB hd)
    clear hd hA hB hz z0 z1
    go_enter Tryd.func10, Tryd.ntmps10
    go_wp2_with fail
    refine HEX.out.mono ?_
    rintro e w1 ⟨rfl, b1⟩
    go_wp2_with fail
    refine (HNA.out w1).mono ?_
    rintro e w2 ⟨rfl, b2⟩
    have b12 := b1.trans (b2.mono b1.size)
    go_wp2_with fail
    refine (HNB.out w2).mono ?_
    rintro e w3 ⟨rfl, b3⟩
    have HB := Lib.hid (b12.trans (b3.mono b12.size))
    clear b1 b2 b12 b3
    go_wp2_with fail
    refine (HM1.out w3).mono ?_
    rintro e w' ⟨rfl, rfl⟩
    go_wp2_with fail
    refine (HM2.out w3).mono ?_
    rintro e w' ⟨rfl, rfl⟩
    go_wp2_with fail
    refine (HD.out w3).mono ?_
    rintro e w' ⟨rfl, rfl⟩
    go_wp2_with fail
    refine (HR.out w3).mono ?_
    rintro e w' ⟨rfl, rfl⟩
    go_wp2_with fail
    go_ret
    exact ⟨rfl, HB.out⟩
theorem prods_at (a b x y : Int) (a0 : -9223372036854775808 ≤ a) (a1 : a ≤ 9223372036854775807) (b0 : -9223372036854775808 ≤ b) (b1 : b ≤ 9223372036854775807) (x0 : 0 ≤ x) (x1 : x ≤ 255) (y0 : 0 ≤ y) (y1 : y ≤ 255) (w : World) (hT : Tabs8 w) :
    Calls Tryd.prog 10 #[.int .i64 a, .int .i64 b, .int .u8 x, .int .u8 y] w fun e w' => e = .returned (.bool true) ∧ Below w.heap.size w w' := prods_any a b x y ⟨a0, a1⟩ ⟨b0, b1⟩ ⟨x0, x1⟩ ⟨y0, y1⟩ w hT
end Go.Proofs.YtaiohdcngkkafaaDoor
