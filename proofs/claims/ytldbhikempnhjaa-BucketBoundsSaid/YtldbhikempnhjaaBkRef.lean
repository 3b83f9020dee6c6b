/- Contracts of the document's own bucket. -/
import Derived.Test.YtldbhikempnhjaaBkTake
namespace Go.Proofs.Ytldbhikempnhjaa
open Go.RowKit
set_option linter.unusedVariables false

set_option maxHeartbeats 800000 in
theorem rright_any (s l k a : Int) (w : World) :
    Calls Try.prog 16 #[bk s l k a] w fun e w' => e = .returned (.bool (rB s l k)) ∧ Below w.heap.size w w' := by
  go_enter Try.func16, Try.ntmps16
  go_wp2
  all_goals
    go_ret
    refine ⟨?_, (Below.refl _ _).alloc (Nat.le_refl _) _⟩
    refine congrArg Ending.returned (congrArg Value.bool ?_)
    unfold rB
    first
      | (symm; apply decide_eq_true; omega)
      | (symm; apply decide_eq_false; omega)
      | (rw [decide_eq_decide]; omega)
set_option maxHeartbeats 1600000 in
theorem rfill_no (s l k a n : Int) (w : World) (ha : I64 a) (hn : I64 n) (hr : rB s l k = false) :
    Calls Try.prog 18 #[bk s l k a, .int .i64 n] w fun e w' => e = .returned (bk s (l) k (a)) ∧ Below w.heap.size w w' := by
  have T0 := two_new w (cs4 s l k a) (cs4 0 0 0 0) 31 31
  go_enter Try.func18, Try.ntmps18
  go_wp2_with fail
  refine (rright_any s l k a _).mono ?_
  rintro e w1 ⟨rfl, h1⟩
  rw [hr]
  have X0 := Lib.hid (Has.below T0.1 h1 T0.1.lt)
  have X1 := Lib.hid (Has.below T0.2.1 h1 T0.2.1.lt)
  have XB := Lib.hid (Below.step T0.2.2 h1 (Nat.le_refl _))
  clear T0 h1
  obtain ⟨⟨c0, c1, c2, c3⟩, g0, g1, g2, g3⟩ := X0.out.fours
  obtain ⟨⟨d0, d1, d2, d3⟩, k0, k1, k2, k3⟩ := X1.out.fours
  go_wp2
  have Y := (X1.out.set4 s l k a).four
  refine bodyPost_ret (v := bk s l k a) (by simp [results, Try.results18, go_sem, Y.1, Y.2.1, Y.2.2.1, Y.2.2.2]) rfl ?_
  exact ⟨rfl, below_set4 XB.out (by omega) _ _ _ _⟩
set_option maxHeartbeats 1600000 in
theorem rfill_full (s k a n : Int) (w : World) (ha : I64 a) (hn : I64 n) (hr : rB s s k = true) :
    Calls Try.prog 18 #[bk s s k a, .int .i64 n] w fun e w' => e = .returned (bk s (s) k (max a n)) ∧ Below w.heap.size w w' := by
  have T0 := two_new w (cs4 s s k a) (cs4 0 0 0 0) 31 31
  go_enter Try.func18, Try.ntmps18
  go_wp2_with fail
  refine (rright_any s s k a _).mono ?_
  rintro e w1 ⟨rfl, h1⟩
  rw [hr]
  have X0 := Lib.hid (Has.below T0.1 h1 T0.1.lt)
  have X1 := Lib.hid (Has.below T0.2.1 h1 T0.2.1.lt)
  have XB := Lib.hid (Below.step T0.2.2 h1 (Nat.le_refl _))
  clear T0 h1
  obtain ⟨⟨c0, c1, c2, c3⟩, g0, g1, g2, g3⟩ := X0.out.fours
  obtain ⟨⟨d0, d1, d2, d3⟩, k0, k1, k2, k3⟩ := X1.out.fours
  go_wp2
  have Y := ((X1.out.set_other ⟨w.heap.size, 3, none⟩ (.int .i64 (max a n)) (by simp)).set4 s s k (max a n)).four
  refine bodyPost_ret (v := bk s s k (max a n)) (by simp [results, Try.results18, go_sem, Y.1, Y.2.1, Y.2.2.1, Y.2.2.2]) rfl ?_
  exact ⟨rfl, below_set4 (XB.out.setCell (p := ⟨w.heap.size, 3, none⟩) (Nat.le_refl _) (.int .i64 (max a n))) (by omega) _ _ _ _⟩
set_option maxHeartbeats 1600000 in
theorem rfill_back (s l k a n : Int) (w : World) (ha : I64 a) (hn : I64 n) (hr : rB s l k = true) (hl : ¬ l = s) (han : n < a) :
    Calls Try.prog 18 #[bk s l k a, .int .i64 n] w fun e w' => e = .returned (bk s (l) k (a)) ∧ Below w.heap.size w w' := by
  have T0 := two_new w (cs4 s l k a) (cs4 0 0 0 0) 31 31
  go_enter Try.func18, Try.ntmps18
  go_wp2_with fail
  refine (rright_any s l k a _).mono ?_
  rintro e w1 ⟨rfl, h1⟩
  rw [hr]
  have X0 := Lib.hid (Has.below T0.1 h1 T0.1.lt)
  have X1 := Lib.hid (Has.below T0.2.1 h1 T0.2.1.lt)
  have XB := Lib.hid (Below.step T0.2.2 h1 (Nat.le_refl _))
  clear T0 h1
  obtain ⟨⟨c0, c1, c2, c3⟩, g0, g1, g2, g3⟩ := X0.out.fours
  obtain ⟨⟨d0, d1, d2, d3⟩, k0, k1, k2, k3⟩ := X1.out.fours
  go_wp2
  have Y := (X1.out.set4 s l k a).four
  refine bodyPost_ret (v := bk s l k a) (by simp [results, Try.results18, go_sem, Y.1, Y.2.1, Y.2.2.1, Y.2.2.2]) rfl ?_
  exact ⟨rfl, below_set4 XB.out (by omega) _ _ _ _⟩
set_option maxHeartbeats 1600000 in
theorem rfill_few (s l k a n D Q Z : Int) (w : World) (ha : I64 a) (hn : I64 n) (hr : rB s l k = true) (hl : ¬ l = s) (han : ¬ n < a)
    (hD : IntKind.u64.wrap (IntKind.u64.wrap n - IntKind.u64.wrap a) = D) (hQ : D.tdiv k = Q) (hQ0 : 0 ≤ Q) (hq : Q < s - l) (hZ : wrap64 (a + wrap64 (Q * k)) = Z) :
    Calls Try.prog 18 #[bk s l k a, .int .i64 n] w fun e w' => e = .returned (bk s (l + Q) k (Z)) ∧ Below w.heap.size w w' := by
  have T0 := two_new w (cs4 s l k a) (cs4 0 0 0 0) 31 31
  go_enter Try.func18, Try.ntmps18
  go_wp2_with fail
  refine (rright_any s l k a _).mono ?_
  rintro e w1 ⟨rfl, h1⟩
  rw [hr]
  have X0 := Lib.hid (Has.below T0.1 h1 T0.1.lt)
  have X1 := Lib.hid (Has.below T0.2.1 h1 T0.2.1.lt)
  have XB := Lib.hid (Below.step T0.2.2 h1 (Nat.le_refl _))
  clear T0 h1
  obtain ⟨⟨c0, c1, c2, c3⟩, g0, g1, g2, g3⟩ := X0.out.fours
  obtain ⟨⟨d0, d1, d2, d3⟩, k0, k1, k2, k3⟩ := X1.out.fours
  obtain ⟨hs0, hs1, hl0, hls, hk1, hk2⟩ := rB_yes hr
  have hqq : ¬ s - l ≤ Q := by omega
  go_wp2
  have Y := (((X1.out.set_other ⟨w.heap.size, 1, none⟩ (.int .i64 (l + Q)) (by simp)).set_other ⟨w.heap.size, 3, none⟩ (.int .i64 (Z)) (by simp)).set4 s (l + Q) k (Z)).four
  refine bodyPost_ret (v := bk s (l + Q) k Z) (by simp [results, Try.results18, go_sem, Y.1, Y.2.1, Y.2.2.1, Y.2.2.2]) rfl ?_
  exact ⟨rfl, below_set4 ((XB.out.setCell (p := ⟨w.heap.size, 1, none⟩) (Nat.le_refl _) (.int .i64 (l + Q))).setCell (p := ⟨w.heap.size, 3, none⟩) (Nat.le_refl _) (.int .i64 (Z))) (by omega) _ _ _ _⟩
set_option maxHeartbeats 1600000 in
theorem rfill_many (s l k a n D Q : Int) (w : World) (ha : I64 a) (hn : I64 n) (hr : rB s l k = true) (hl : ¬ l = s) (han : ¬ n < a)
    (hD : IntKind.u64.wrap (IntKind.u64.wrap n - IntKind.u64.wrap a) = D) (hQ : D.tdiv k = Q) (hQ0 : 0 ≤ Q) (hQ1 : Q ≤ 18446744073709551615) (hq : s - l ≤ Q) :
    Calls Try.prog 18 #[bk s l k a, .int .i64 n] w fun e w' => e = .returned (bk s (s) k (n)) ∧ Below w.heap.size w w' := by
  have T0 := two_new w (cs4 s l k a) (cs4 0 0 0 0) 31 31
  go_enter Try.func18, Try.ntmps18
  go_wp2_with fail
  refine (rright_any s l k a _).mono ?_
  rintro e w1 ⟨rfl, h1⟩
  rw [hr]
  have X0 := Lib.hid (Has.below T0.1 h1 T0.1.lt)
  have X1 := Lib.hid (Has.below T0.2.1 h1 T0.2.1.lt)
  have XB := Lib.hid (Below.step T0.2.2 h1 (Nat.le_refl _))
  clear T0 h1
  obtain ⟨⟨c0, c1, c2, c3⟩, g0, g1, g2, g3⟩ := X0.out.fours
  obtain ⟨⟨d0, d1, d2, d3⟩, k0, k1, k2, k3⟩ := X1.out.fours
  obtain ⟨hs0, hs1, hl0, hls, hk1, hk2⟩ := rB_yes hr
  go_wp2
  have Y := (((X1.out.set_other ⟨w.heap.size, 1, none⟩ (.int .i64 (s)) (by simp)).set_other ⟨w.heap.size, 3, none⟩ (.int .i64 (n)) (by simp)).set4 s (s) k (n)).four
  refine bodyPost_ret (v := bk s s k n) (by simp [results, Try.results18, go_sem, Y.1, Y.2.1, Y.2.2.1, Y.2.2.2]) rfl ?_
  exact ⟨rfl, below_set4 ((XB.out.setCell (p := ⟨w.heap.size, 1, none⟩) (Nat.le_refl _) (.int .i64 (s))).setCell (p := ⟨w.heap.size, 3, none⟩) (Nat.le_refl _) (.int .i64 (n))) (by omega) _ _ _ _⟩
theorem rfill_any (s l k a n : Int) (w : World) (ha : I64 a) (hn : I64 n) :
    Calls Try.prog 18 #[bk s l k a, .int .i64 n] w fun e w' => e = .returned (bk s (fL s l k a n) k (fA s l k a n)) ∧ Below w.heap.size w w' := by
  cases hr : rB s l k with
  | false => rw [(f_no hr).1, (f_no hr).2]; exact rfill_no s l k a n w ha hn hr
  | true =>
    by_cases hl : l = s
    · subst hl
      rw [(f_full hr rfl).1, (f_full hr rfl).2]; exact rfill_full l k a n w ha hn hr
    · by_cases han : n < a
      · rw [(f_back hr hl han).1, (f_back hr hl han).2]; exact rfill_back s l k a n w ha hn hr hl han
      · obtain ⟨hs0, hs1, hl0, hls, hk1, hk2⟩ := rB_yes hr
        have han' : a ≤ n := by omega
        obtain ⟨h0, h1, h2⟩ := div_mul_le (n - a) k (by omega) hk1
        have h3 : (n - a) / k ≤ n - a := Int.ediv_le_self _ (by omega)
        rw [(f_on hr hl han).1, (f_on hr hl han).2]
        by_cases hq : s - l ≤ (n - a) / k
        · rw [if_pos hq, if_pos hq]
          exact rfill_many s l k a n (n - a) _ w ha hn hr hl han (sub_u64 n a han' (by omega)) (tdiv_pos _ _ (by omega) hk1) h0 (by omega) hq
        · rw [if_neg hq, if_neg hq]
          exact rfill_few s l k a n (n - a) _ _ w ha hn hr hl han (sub_u64 n a han' (by omega)) (tdiv_pos _ _ (by omega) hk1) h0 (by omega) (wrap_back a _ (by omega) (by omega))
end Go.Proofs.Ytldbhikempnhjaa
