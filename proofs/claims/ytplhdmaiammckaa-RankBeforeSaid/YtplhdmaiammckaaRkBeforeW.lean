/- The walk of RankBefore: it returns true, whatever the scores and the ids. -/
import Derived.Test.YtplhdmaiammckaaRkHead
namespace Go.Proofs.Ytplhdmaiammckaa
open Go.RowKit
set_option linter.unusedVariables false

set_option maxRecDepth 100000 in
set_option maxHeartbeats 2000000 in
theorem before_few (a b c x y z a' b' c' : Int) (few : Bool) (w : World) (ha : (if few = true then a.tmod 2 else a) = a') (hb : (if few = true then b.tmod 2 else b) = b') (hc : (if few = true then c.tmod 2 else c) = c')
    (ia : I64 a) (ib : I64 b) (ic : I64 c) (p q r : Bool) (hp : ltB (x, a') (y, b') = p) (hq : ltB (y, b') (x, a') = q) (hr : ltB (y, b') (z, c') = r) :
    Calls Try.prog 6 #[.int .i64 a, .int .i64 b, .int .i64 c, .int .i64 x, .int .i64 y, .int .i64 z, .bool few] w fun e w' => e = .returned (.bool true) ∧ Below w.heap.size w w' := by
  have hpq : ¬ (p = true ∧ q = true) := fun ⟨h1, h2⟩ => by
    rw [h1] at hp; rw [h2] at hq
    exact (ltB_true hp).2 (ltB_true hq).1
  have heq : p = false → q = false → a' = b' ∧ x = y := fun h1 h2 => by
    rw [h1] at hp; rw [h2] at hq
    have h3 := ltB_false hp
    have h4 := ltB_false hq
    unfold Le at h3 h4
    simp only at h3 h4
    omega
  have hs : p = true → r = true → ltB (x, a') (z, c') = true := fun h1 h2 => by
    rw [h1] at hp; rw [h2] at hr
    cases h : ltB (x, a') (z, c') with
    | true => rfl
    | false => exact absurd ((ltB_false h).trans (ltB_true hp).1) (ltB_true hr).2
  have ht : ltB (x, a') (x, a') = false := by
    cases h : ltB (x, a') (x, a') with
    | false => rfl
    | true => exact absurd (.refl _) (ltB_true h).2
  have cP : ∀ w, Calls Try.prog 21 #[.int .i64 a', .int .i64 b', .int .i64 x, .int .i64 y] w fun e w' => e = .returned (.bool p) ∧ w = w' := fun w => by have := before_any a' b' x y w; rw [hp] at this; exact this
  have cQ : ∀ w, Calls Try.prog 21 #[.int .i64 b', .int .i64 a', .int .i64 y, .int .i64 x] w fun e w' => e = .returned (.bool q) ∧ w = w' := fun w => by have := before_any b' a' y x w; rw [hq] at this; exact this
  have cR : ∀ w, Calls Try.prog 21 #[.int .i64 b', .int .i64 c', .int .i64 y, .int .i64 z] w fun e w' => e = .returned (.bool r) ∧ w = w' := fun w => by have := before_any b' c' y z w; rw [hr] at this; exact this
  have cS : p = true → r = true → ∀ w, Calls Try.prog 21 #[.int .i64 a', .int .i64 c', .int .i64 x, .int .i64 z] w fun e w' => e = .returned (.bool true) ∧ w = w' := fun h1 h2 w => by have := before_any a' c' x z w; rw [hs h1 h2] at this; exact this
  have cT : ∀ w, Calls Try.prog 21 #[.int .i64 a', .int .i64 a', .int .i64 x, .int .i64 x] w fun e w' => e = .returned (.bool false) ∧ w = w' := fun w => by have := before_any a' a' x x w; rw [ht] at this; exact this
  have hdec : p = true ∨ q = true → ((a' == b') = false ∨ (a' = b' ∧ (x == y) = false)) := fun h => by
    by_cases e1 : a' = b'
    · by_cases e2 : x = y
      · subst e1; subst e2
        rcases h with h | h
        · rw [h] at hp; exact absurd (.refl _) (ltB_true hp).2
        · rw [h] at hq; exact absurd (.refl _) (ltB_true hq).2
      · exact .inr ⟨e1, by simp [e2]⟩
    · exact .inl (by simp [e1])
  have HP := Lib.hid cP
  have HQ := Lib.hid cQ
  have HR := Lib.hid cR
  have HS := Lib.hid cS
  have HT := Lib.hid cT
  clear hp hq hr hs ht cP cQ cR cS cT
  have HA := Lib.hid (And.intro ha (And.intro hb hc))
  clear ha hb hc
  cases p <;> cases q
  case false.false =>
    obtain ⟨rfl, rfl⟩ := heq rfl rfl
    clear hpq heq hdec
    cases few <;> cases r
    all_goals
      obtain ⟨h1, h2, h3⟩ := HA.out
      simp (config := { failIfUnchanged := false }) at h1 h2 h3
      go_enter Try.func6, Try.ntmps6
      go_wp2_with fail
      refine (ex_any w).mono ?_
      rintro e w1 ⟨rfl, b1⟩
      go_wp2_with fail
      refine (HP.out _).mono ?_
      rintro e w2 ⟨rfl, rfl⟩
      go_wp2_with fail
      refine (HQ.out _).mono ?_
      rintro e w2 ⟨rfl, rfl⟩
      go_wp2_with fail
      refine (HR.out _).mono ?_
      rintro e w2 ⟨rfl, rfl⟩
      go_wp2_with fail
      all_goals
        refine (HT.out _).mono ?_
        rintro e w2 ⟨rfl, rfl⟩
        go_wp2
        go_ret
        exact ⟨rfl, b1⟩
  case true.true => exact absurd ⟨rfl, rfl⟩ hpq
  case false.true =>
    have hd := hdec (.inr rfl)
    clear hpq heq hdec
    rcases hd with hd | ⟨rfl, hd⟩
    all_goals cases few <;> cases r
    all_goals
      obtain ⟨h1, h2, h3⟩ := HA.out
      simp (config := { failIfUnchanged := false }) at h1 h2 h3
      go_enter Try.func6, Try.ntmps6
      go_wp2_with fail
      refine (ex_any w).mono ?_
      rintro e w1 ⟨rfl, b1⟩
      go_wp2_with fail
      refine (HP.out _).mono ?_
      rintro e w2 ⟨rfl, rfl⟩
      go_wp2_with fail
      refine (HQ.out _).mono ?_
      rintro e w2 ⟨rfl, rfl⟩
      go_wp2_with fail
      refine (HR.out _).mono ?_
      rintro e w2 ⟨rfl, rfl⟩
      go_wp2_with fail
      all_goals
        refine (HT.out _).mono ?_
        rintro e w2 ⟨rfl, rfl⟩
        go_wp2
        go_ret
        exact ⟨rfl, b1⟩
  case true.false =>
    have hd := hdec (.inl rfl)
    clear hpq heq hdec
    cases r
    case false =>
      rcases hd with hd | ⟨rfl, hd⟩
      all_goals cases few
      all_goals
        obtain ⟨h1, h2, h3⟩ := HA.out
        simp (config := { failIfUnchanged := false }) at h1 h2 h3
        go_enter Try.func6, Try.ntmps6
        go_wp2_with fail
        refine (ex_any w).mono ?_
        rintro e w1 ⟨rfl, b1⟩
        go_wp2_with fail
        refine (HP.out _).mono ?_
        rintro e w2 ⟨rfl, rfl⟩
        go_wp2_with fail
        refine (HQ.out _).mono ?_
        rintro e w2 ⟨rfl, rfl⟩
        go_wp2_with fail
        refine (HR.out _).mono ?_
        rintro e w2 ⟨rfl, rfl⟩
        go_wp2_with fail
        all_goals
          refine (HT.out _).mono ?_
          rintro e w2 ⟨rfl, rfl⟩
          go_wp2
          go_ret
          exact ⟨rfl, b1⟩
    case true =>
      rcases hd with hd | ⟨rfl, hd⟩
      all_goals cases few
      all_goals
        obtain ⟨h1, h2, h3⟩ := HA.out
        simp (config := { failIfUnchanged := false }) at h1 h2 h3
        go_enter Try.func6, Try.ntmps6
        go_wp2_with fail
        refine (ex_any w).mono ?_
        rintro e w1 ⟨rfl, b1⟩
        go_wp2_with fail
        refine (HP.out _).mono ?_
        rintro e w2 ⟨rfl, rfl⟩
        go_wp2_with fail
        refine (HQ.out _).mono ?_
        rintro e w2 ⟨rfl, rfl⟩
        go_wp2_with fail
        refine (HR.out _).mono ?_
        rintro e w2 ⟨rfl, rfl⟩
        go_wp2_with fail
        all_goals
          refine (HS.out (by first | rfl | trivial) (by first | rfl | trivial) _).mono ?_
          rintro e w2 ⟨rfl, rfl⟩
          go_wp2_with fail
          refine (HT.out _).mono ?_
          rintro e w2 ⟨rfl, rfl⟩
          go_wp2
          go_ret
          exact ⟨rfl, b1⟩
theorem before_walk (a b c x y z : Int) (few : Bool) (w : World) (ia : I64 a) (ib : I64 b) (ic : I64 c) (ix : I64 x) (iy : I64 y) (iz : I64 z) :
    Calls Try.prog 6 #[.int .i64 a, .int .i64 b, .int .i64 c, .int .i64 x, .int .i64 y, .int .i64 z, .bool few] w fun e w' => e = .returned (.bool true) ∧ Below w.heap.size w w' :=
  before_few a b c x y z _ _ _ few w rfl rfl rfl ia ib ic _ _ _ rfl rfl rfl
end Go.Proofs.Ytplhdmaiammckaa
