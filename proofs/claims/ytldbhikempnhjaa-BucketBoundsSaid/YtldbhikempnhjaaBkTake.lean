/- Take and New of package bucket. -/
import Derived.Test.YtldbhikempnhjaaBkCon
namespace Go.Proofs.Ytldbhikempnhjaa
open Go.RowKit
set_option linter.unusedVariables false

set_option maxHeartbeats 800000 in
theorem take_no (s l k a n : Int) (w : World) (hr : rB s l k = false) :
    Calls Try.prog 12 #[bk s l k a, .int .i64 n] w fun e w' => e = .returned (.tuple #[bk s l k a, .bool false]) ∧ Below w.heap.size w w' := by
  have T0 := two_new w (cs4 s l k a) (cs4 0 0 0 0) 23 23
  go_enter Try.func12, Try.ntmps12
  go_wp2_with fail
  refine (right_any s l k a _).mono ?_
  rintro e w1 ⟨rfl, h1⟩
  rw [hr]
  have X0 := Lib.hid (Has.below T0.1 h1 T0.1.lt)
  have X1 := Lib.hid (Has.below T0.2.1 h1 T0.2.1.lt)
  have XB := Lib.hid (Below.step T0.2.2 h1 (Nat.le_refl _))
  clear T0 h1
  obtain ⟨⟨c0, c1, c2, c3⟩, g0, g1, g2, g3⟩ := X0.out.fours
  obtain ⟨⟨d0, d1, d2, d3⟩, k0, k1, k2, k3⟩ := X1.out.fours
  go_wp2
  have Y := (X1.out.set4 s l k a).four
  refine bodyPost_ret (v := .tuple #[bk s l k a, .bool false]) (by simp [results, Try.results12, go_sem, Y.1, Y.2.1, Y.2.2.1, Y.2.2.2]) rfl ?_
  exact ⟨rfl, below_set4 XB.out (by omega) _ _ _ _⟩
set_option maxHeartbeats 1600000 in
theorem take_none (s l k a n T : Int) (w : World) (hr : rB s l k = true)
    (hE : ∀ w, Calls Try.prog 17 #[bk s l k a, .int .i64 n] w fun e w' => e = .returned (bk s 0 k T) ∧ Below w.heap.size w w') :
    Calls Try.prog 12 #[bk s l k a, .int .i64 n] w fun e w' => e = .returned (.tuple #[bk s 0 k T, .bool false]) ∧ Below w.heap.size w w' := by
  have HE := Lib.hid hE
  clear hE
  have T0 := two_new w (cs4 s l k a) (cs4 0 0 0 0) 23 23
  go_enter Try.func12, Try.ntmps12
  go_wp2_with fail
  refine (right_any s l k a _).mono ?_
  rintro e w1 ⟨rfl, h1⟩
  rw [hr]
  have X0 := Lib.hid (Has.below T0.1 h1 T0.1.lt)
  have X1 := Lib.hid (Has.below T0.2.1 h1 T0.2.1.lt)
  have XB := Lib.hid (Below.step T0.2.2 h1 (Nat.le_refl _))
  clear T0 h1
  obtain ⟨⟨c0, c1, c2, c3⟩, g0, g1, g2, g3⟩ := X0.out.fours
  go_wp2_with fail
  refine (HE.out _).mono ?_
  rintro e w2 ⟨rfl, h2⟩
  have X3 := Lib.hid (X0.out.below h2 X0.out.lt)
  have X4 := Lib.hid (X1.out.below h2 X1.out.lt)
  have XC := Lib.hid (Below.step XB.out h2 (Nat.le_refl _))
  clear c0 c1 c2 c3 g0 g1 g2 g3 h2 X0 X1 XB
  obtain ⟨⟨c0, c1, c2, c3⟩, g0, g1, g2, g3⟩ := X3.out.fours
  go_upto_region 4 with fail
  have X5 := Lib.hid (X3.out.set4 s 0 k T)
  have X6 := Lib.hid (X4.out.beside4 (g := w.heap.size) (by omega) s 0 k T)
  have XD := Lib.hid (below_set4 XC.out (Nat.le_refl _) s 0 k T)
  clear c0 c1 c2 c3 g0 g1 g2 g3 X3 X4 XC
  generalize (World.setCell _ ⟨w.heap.size, 3, none⟩ (.int .i64 T)) = w3 at *
  obtain ⟨⟨c0, c1, c2, c3⟩, g0, g1, g2, g3⟩ := X5.out.fours
  obtain ⟨⟨d0, d1, d2, d3⟩, k0, k1, k2, k3⟩ := X6.out.fours
  go_wp2
  have Y := (X6.out.set4 s 0 k T).four
  refine bodyPost_ret (v := .tuple #[bk s 0 k T, .bool false]) (by simp [results, Try.results12, go_sem, Y.1, Y.2.1, Y.2.2.1, Y.2.2.2]) rfl ?_
  exact ⟨rfl, below_set4 XD.out (by omega) _ _ _ _⟩
set_option maxHeartbeats 1600000 in
theorem take_one (s l k a n L T : Int) (w : World) (hr : rB s l k = true) (hL0 : 1 ≤ L) (hL1 : L ≤ 1000000)
    (hE : ∀ w, Calls Try.prog 17 #[bk s l k a, .int .i64 n] w fun e w' => e = .returned (bk s L k T) ∧ Below w.heap.size w w') :
    Calls Try.prog 12 #[bk s l k a, .int .i64 n] w fun e w' => e = .returned (.tuple #[bk s (L - 1) k T, .bool true]) ∧ Below w.heap.size w w' := by
  have HE := Lib.hid hE
  clear hE
  have hne : (L == 0) = false := by simp; omega
  have T0 := two_new w (cs4 s l k a) (cs4 0 0 0 0) 23 23
  go_enter Try.func12, Try.ntmps12
  go_wp2_with fail
  refine (right_any s l k a _).mono ?_
  rintro e w1 ⟨rfl, h1⟩
  rw [hr]
  have X0 := Lib.hid (Has.below T0.1 h1 T0.1.lt)
  have X1 := Lib.hid (Has.below T0.2.1 h1 T0.2.1.lt)
  have XB := Lib.hid (Below.step T0.2.2 h1 (Nat.le_refl _))
  clear T0 h1
  obtain ⟨⟨c0, c1, c2, c3⟩, g0, g1, g2, g3⟩ := X0.out.fours
  go_wp2_with fail
  refine (HE.out _).mono ?_
  rintro e w2 ⟨rfl, h2⟩
  have X3 := Lib.hid (X0.out.below h2 X0.out.lt)
  have X4 := Lib.hid (X1.out.below h2 X1.out.lt)
  have XC := Lib.hid (Below.step XB.out h2 (Nat.le_refl _))
  clear c0 c1 c2 c3 g0 g1 g2 g3 h2 X0 X1 XB
  obtain ⟨⟨c0, c1, c2, c3⟩, g0, g1, g2, g3⟩ := X3.out.fours
  go_upto_region 4 with fail
  have X5 := Lib.hid (X3.out.set4 s L k T)
  have X6 := Lib.hid (X4.out.beside4 (g := w.heap.size) (by omega) s L k T)
  have XD := Lib.hid (below_set4 XC.out (Nat.le_refl _) s L k T)
  clear c0 c1 c2 c3 g0 g1 g2 g3 X3 X4 XC
  generalize (World.setCell _ ⟨w.heap.size, 3, none⟩ (.int .i64 T)) = w3 at *
  obtain ⟨⟨c0, c1, c2, c3⟩, g0, g1, g2, g3⟩ := X5.out.fours
  obtain ⟨⟨d0, d1, d2, d3⟩, k0, k1, k2, k3⟩ := X6.out.fours
  go_wp2
  have Y := ((X6.out.set_other ⟨w.heap.size, 1, none⟩ (.int .i64 (L - 1)) (by simp)).set4 s (L - 1) k T).four
  refine bodyPost_ret (v := .tuple #[bk s (L - 1) k T, .bool true]) (by simp [results, Try.results12, go_sem, Y.1, Y.2.1, Y.2.2.1, Y.2.2.2]) rfl ?_
  exact ⟨rfl, below_set4 (XD.out.setCell (p := ⟨w.heap.size, 1, none⟩) (Nat.le_refl _) _) (by omega) _ _ _ _⟩
set_option maxHeartbeats 400000 in
theorem new_yes (s k : Int) (w : World) (hr : rB s s k = true) :
    Calls Try.prog 10 #[.int .i64 s, .int .i64 k] w fun e w' => e = .returned (.tuple #[bk s s k 0, .int .i64 0]) ∧ Below w.heap.size w w' := by
  have T0 := two_new w (cs4 0 0 0 0) (cs4 s s k 0) 23 23
  go_enter Try.func10, Try.ntmps10
  go_wp2_with fail
  refine (right_any s s k 0 _).mono ?_
  rintro e w1 ⟨rfl, h1⟩
  rw [hr]
  have X0 := Lib.hid (Has.below T0.1 h1 T0.1.lt)
  have X1 := Lib.hid (Has.below T0.2.1 h1 T0.2.1.lt)
  have XB := Lib.hid (Below.step T0.2.2 h1 (Nat.le_refl _))
  clear T0 h1
  obtain ⟨⟨c0, c1, c2, c3⟩, g0, g1, g2, g3⟩ := X0.out.fours
  obtain ⟨⟨d0, d1, d2, d3⟩, k0, k1, k2, k3⟩ := X1.out.fours
  go_wp2
  have Y := (X0.out.set4 s s k 0).four
  refine bodyPost_ret (v := .tuple #[bk s s k 0, .int .i64 0]) (by simp [results, Try.results10, go_sem, Y.1, Y.2.1, Y.2.2.1, Y.2.2.2]) rfl ?_
  exact ⟨rfl, below_set4 XB.out (by omega) _ _ _ _⟩
set_option maxHeartbeats 400000 in
theorem new_no (s k : Int) (w : World) (hr : rB s s k = false) :
    Calls Try.prog 10 #[.int .i64 s, .int .i64 k] w fun e w' => e = .returned (.tuple #[bk 0 0 0 0, .int .i64 1]) ∧ Below w.heap.size w w' := by
  have T0 := two_new w (cs4 0 0 0 0) (cs4 s s k 0) 23 23
  go_enter Try.func10, Try.ntmps10
  go_wp2_with fail
  refine (right_any s s k 0 _).mono ?_
  rintro e w1 ⟨rfl, h1⟩
  rw [hr]
  have X0 := Lib.hid (Has.below T0.1 h1 T0.1.lt)
  have X1 := Lib.hid (Has.below T0.2.1 h1 T0.2.1.lt)
  have XB := Lib.hid (Below.step T0.2.2 h1 (Nat.le_refl _))
  clear T0 h1
  obtain ⟨⟨c0, c1, c2, c3⟩, g0, g1, g2, g3⟩ := X0.out.fours
  go_wp2
  have Y := (X0.out.set4 0 0 0 0).four
  refine bodyPost_ret (v := .tuple #[bk 0 0 0 0, .int .i64 1]) (by simp [results, Try.results10, go_sem, Y.1, Y.2.1, Y.2.2.1, Y.2.2.2]) rfl ?_
  exact ⟨rfl, below_set4 XB.out (by omega) _ _ _ _⟩
end Go.Proofs.Ytldbhikempnhjaa
