/- ExprPuts' walk, where 'same' is true. -/
import Derived.Test.YtbhjimlikffalaaDoorExPutM
import Derived.Test.YtbhjimlikffalaaDoorExTreeW
import Derived.Test.YtbhjimlikffalaaDoorExEx
import Derived.Test.YtbhjimlikffalaaDoorExPutWalk
import Derived.BigQuiet
import Derived.Lib.QuietBelow
import Derived.Deep.QuietTactic
import Derived.IntWalk
namespace Go.Proofs.YtbhjimlikffalaaDoor
open Go.RowKit
set_option linter.unusedVariables false

theorem eight_hasT {w : World} {q : Nat} {t : TypeId} {u0 u1 u2 u3 u4 u5 u6 u7 : Value} (h : Has w q t #[u0, u1, u2, u3, u4, u5, u6, u7]) : w.cell? ⟨q, 0, none⟩ = some u0 ∧ w.cell? ⟨q, 1, none⟩ = some u1 ∧ w.cell? ⟨q, 2, none⟩ = some u2 ∧ w.cell? ⟨q, 3, none⟩ = some u3 ∧ w.cell? ⟨q, 4, none⟩ = some u4 ∧ w.cell? ⟨q, 5, none⟩ = some u5 ∧ w.cell? ⟨q, 6, none⟩ = some u6 ∧ w.cell? ⟨q, 7, none⟩ = some u7 :=
  ⟨h.cell 0, h.cell 1, h.cell 2, h.cell 3, h.cell 4, h.cell 5, h.cell 6, h.cell 7⟩
set_option maxRecDepth 100000 in
set_option maxHeartbeats 32000000 in
theorem puts_T (k1 n1 : Int) (op1 v1 f1 : Nm) (A1 : Option Addr) (m1 c1 : Nat) (o1 : Bool) (x1 : Option Addr) (len1 cap1 : Nat) (z1 : List Int) (k2 n2 : Int) (op2 v2 f2 : Nm) (A2 : Option Addr) (m2 c2 : Nat) (o2 : Bool) (x2 : Option Addr) (len2 cap2 : Nat) (z2 : List Int) (w : World) (r1 : IsRow .u8 w x1 len1 cap1 z1) (hz1 : ∀ n ∈ z1, 0 ≤ n ∧ n ≤ 255) (r2 : IsRow .u8 w x2 len2 cap2 z2) (hz2 : ∀ n ∈ z2, 0 ≤ n ∧ n ≤ 255) (hT : Tabs w) :
    Calls Tryd.prog 3 #[.agg #[.int .i64 k1, .string (str op1), .int .i64 n1, .string (str v1), .string (str f1), .slice A1 m1 c1, .bool o1, .slice x1 len1 cap1], .agg #[.int .i64 k2, .string (str op2), .int .i64 n2, .string (str v2), .string (str f2), .slice A2 m2 c2, .bool o2, .slice x2 len2 cap2], .bool true] w fun e w' => e = .returned (.bool true) ∧ Below w.heap.size w w' := by
  have HTA : Hid (∀ u, Below w.heap.size w u → Calls Tryd.prog 7 #[.agg #[.int .i64 k1, .string (str op1), .int .i64 n1, .string (str v1), .string (str f1), .slice A1 m1 c1, .bool true, .slice x1 len1 cap1]] u fun e w' => ∃ t : ET, e = .returned (.agg (cs1 t)) ∧ (rightT t = true ∧ typT t = 2 ∧ t.size ≤ 63) ∧ Nw u.heap.size w' t ∧ Below u.heap.size u w') := Lib.hid fun u hu => tree_any k1 n1 op1 v1 f1 A1 m1 c1 x1 len1 cap1 z1 u (r1.below hu) hz1
  have HTB : Hid (∀ u, Below w.heap.size w u → Calls Tryd.prog 7 #[.agg #[.int .i64 k1, .string (str op1), .int .i64 n1, .string (str v1), .string (str f1), .slice A1 m1 c1, .bool true, .slice x1 len1 cap1]] u fun e w' => ∃ t : ET, e = .returned (.agg (cs1 t)) ∧ (rightT t = true ∧ typT t = 2 ∧ t.size ≤ 63) ∧ Nw u.heap.size w' t ∧ Below u.heap.size u w') := Lib.hid fun u hu => tree_any k1 n1 op1 v1 f1 A1 m1 c1 x1 len1 cap1 z1 u (r1.below hu) hz1
  obtain ⟨W0, hW0⟩ : ∃ W0, (w.alloc (.cells #[.int .i64 k1, .string (str op1), .int .i64 n1, .string (str v1), .string (str f1), .slice A1 m1 c1, .bool o1, .slice x1 len1 cap1] 27)).alloc (.cells #[.int .i64 k2, .string (str op2), .int .i64 n2, .string (str v2), .string (str f2), .slice A2 m2 c2, .bool o2, .slice x2 len2 cap2] 27) = W0 := ⟨_, rfl⟩
  have b0 : Below w.heap.size w W0 := by rw [← hW0]; exact ((Below.refl _ _).alloc (Nat.le_refl _) _).alloc (by simp) _
  have hx0 : Has W0 w.heap.size 27 #[.int .i64 k1, .string (str op1), .int .i64 n1, .string (str v1), .string (str f1), .slice A1 m1 c1, .bool o1, .slice x1 len1 cap1] := by rw [← hW0]; exact (has_at rfl rfl : Has (w.alloc (.cells #[.int .i64 k1, .string (str op1), .int .i64 n1, .string (str v1), .string (str f1), .slice A1 m1 c1, .bool o1, .slice x1 len1 cap1] 27)) w.heap.size 27 #[.int .i64 k1, .string (str op1), .int .i64 n1, .string (str v1), .string (str f1), .slice A1 m1 c1, .bool o1, .slice x1 len1 cap1]).below (step1 _ _) (by simp)
  have hy0 : Has W0 (w.heap.size + 1) 27 #[.int .i64 k2, .string (str op2), .int .i64 n2, .string (str v2), .string (str f2), .slice A2 m2 c2, .bool o2, .slice x2 len2 cap2] := by rw [← hW0]; exact has_at rfl (by simp)
  have HEX := Lib.hid (ex_any W0 (hT.below b0))
  have HX0 := Lib.hid (And.intro hx0 hy0)
  have HB0 := Lib.hid b0
  have HT := Lib.hid hT
  have HW0 := Lib.hid hW0
  clear hx0 hy0 b0 hT hW0 r1 r2 hz1 hz2
  go_enter Tryd.func3, Tryd.ntmps3
  go_wp2_with fail
  rw [HW0.out]
  refine HEX.out.mono ?_
  rintro e w2 ⟨rfl, b12⟩
  have hx2 := HX0.out.1.below b12 HX0.out.1.lt
  have hy2 := HX0.out.2.below b12 HX0.out.2.lt
  have bw2 := HB0.out.trans (b12.mono HB0.out.size)
  obtain ⟨u6, hu6⟩ : ∃ u : World, w2.setCell ⟨w.heap.size, 6, none⟩ (.bool true) = u := ⟨_, rfl⟩
  have hx3 : Has u6 w.heap.size 27 #[.int .i64 k1, .string (str op1), .int .i64 n1, .string (str v1), .string (str f1), .slice A1 m1 c1, .bool true, .slice x1 len1 cap1] := by rw [← hu6]; exact hx2.put 6 (.bool true)
  have fr6 : FrP w.heap.size w2 u6 := by rw [← hu6]; exact FrP.set hx2.lt 6 (.bool true)
  have hy3 : Has u6 (w.heap.size + 1) 27 #[.int .i64 k2, .string (str op2), .int .i64 n2, .string (str v2), .string (str f2), .slice A2 m2 c2, .bool o2, .slice x2 len2 cap2] := fr6.has hy2 (by omega)
  obtain ⟨W3, hW3⟩ : ∃ u : World, u6.setCell ⟨w.heap.size + 1, 6, none⟩ (.bool true) = u := ⟨_, rfl⟩
  have hy4 : Has W3 (w.heap.size + 1) 27 #[.int .i64 k2, .string (str op2), .int .i64 n2, .string (str v2), .string (str f2), .slice A2 m2 c2, .bool true, .slice x2 len2 cap2] := by rw [← hW3]; exact hy3.put 6 (.bool true)
  have fr7 : FrP (w.heap.size + 1) u6 W3 := by rw [← hW3]; exact FrP.set hy3.lt 6 (.bool true)
  have hx4 : Has W3 w.heap.size 27 #[.int .i64 k1, .string (str op1), .int .i64 n1, .string (str v1), .string (str f1), .slice A1 m1 c1, .bool true, .slice x1 len1 cap1] := fr7.has hx3 (by omega)
  have bw3 : Below w.heap.size w W3 := by rw [← hW3, ← hu6]; exact (bw2.setCell (p := ⟨w.heap.size, 6, none⟩) (Nat.le_refl _) _).setCell (p := ⟨w.heap.size + 1, 6, none⟩) (by simp) _
  have hu6' := hu6
  have hW3' := hW3
  obtain ⟨p0, p1, p2, p3, p4, p5, p6, p7⟩ := eight_hasT hx2
  obtain ⟨q0, q1, q2, q3, q4, q5, q6, q7⟩ := eight_hasT hy3
  obtain ⟨s0, s1, s2, s3, s4, s5, s6, s7⟩ := eight_hasT hx4
  have g6 : w2.frozen? ⟨w.heap.size, 6, none⟩ = false := hx2.free 6
  have g7 : u6.frozen? ⟨w.heap.size + 1, 6, none⟩ = false := hy3.free 6

  have gg0 : W3.frozen? ⟨w.heap.size + 1, 0, none⟩ = false := hy4.free 0
  have gc0 : W3.cell? ⟨w.heap.size + 1, 0, none⟩ = some (.int .i64 k2) := hy4.cell 0
  obtain ⟨V0, hV0⟩ : ∃ u : World, W3.setCell ⟨w.heap.size + 1, 0, none⟩ (.int .i64 k1) = u := ⟨_, rfl⟩
  have hyy0 : Has V0 (w.heap.size + 1) 27 #[.int .i64 k1, .string (str op2), .int .i64 n2, .string (str v2), .string (str f2), .slice A2 m2 c2, .bool true, .slice x2 len2 cap2] := by rw [← hV0]; exact hy4.put 0 (.int .i64 k1)
  have frr0 : FrP (w.heap.size + 1) W3 V0 := by rw [← hV0]; exact FrP.set hy4.lt 0 (.int .i64 k1)
  have hxx0 : Has V0 w.heap.size 27 #[.int .i64 k1, .string (str op1), .int .i64 n1, .string (str v1), .string (str f1), .slice A1 m1 c1, .bool true, .slice x1 len1 cap1] := frr0.has hx4 (by omega)
  have bww0 : Below w.heap.size w V0 := by rw [← hV0]; exact bw3.setCell (p := ⟨w.heap.size + 1, 0, none⟩) (by simp) _
  have gg1 : V0.frozen? ⟨w.heap.size + 1, 1, none⟩ = false := hyy0.free 1
  have gc1 : V0.cell? ⟨w.heap.size + 1, 1, none⟩ = some (.string (str op2)) := hyy0.cell 1
  obtain ⟨V1, hV1⟩ : ∃ u : World, V0.setCell ⟨w.heap.size + 1, 1, none⟩ (.string (str op1)) = u := ⟨_, rfl⟩
  have hyy1 : Has V1 (w.heap.size + 1) 27 #[.int .i64 k1, .string (str op1), .int .i64 n2, .string (str v2), .string (str f2), .slice A2 m2 c2, .bool true, .slice x2 len2 cap2] := by rw [← hV1]; exact hyy0.put 1 (.string (str op1))
  have frr1 : FrP (w.heap.size + 1) V0 V1 := by rw [← hV1]; exact FrP.set hyy0.lt 1 (.string (str op1))
  have hxx1 : Has V1 w.heap.size 27 #[.int .i64 k1, .string (str op1), .int .i64 n1, .string (str v1), .string (str f1), .slice A1 m1 c1, .bool true, .slice x1 len1 cap1] := frr1.has hxx0 (by omega)
  have bww1 : Below w.heap.size w V1 := by rw [← hV1]; exact bww0.setCell (p := ⟨w.heap.size + 1, 1, none⟩) (by simp) _
  have gg2 : V1.frozen? ⟨w.heap.size + 1, 2, none⟩ = false := hyy1.free 2
  have gc2 : V1.cell? ⟨w.heap.size + 1, 2, none⟩ = some (.int .i64 n2) := hyy1.cell 2
  obtain ⟨V2, hV2⟩ : ∃ u : World, V1.setCell ⟨w.heap.size + 1, 2, none⟩ (.int .i64 n1) = u := ⟨_, rfl⟩
  have hyy2 : Has V2 (w.heap.size + 1) 27 #[.int .i64 k1, .string (str op1), .int .i64 n1, .string (str v2), .string (str f2), .slice A2 m2 c2, .bool true, .slice x2 len2 cap2] := by rw [← hV2]; exact hyy1.put 2 (.int .i64 n1)
  have frr2 : FrP (w.heap.size + 1) V1 V2 := by rw [← hV2]; exact FrP.set hyy1.lt 2 (.int .i64 n1)
  have hxx2 : Has V2 w.heap.size 27 #[.int .i64 k1, .string (str op1), .int .i64 n1, .string (str v1), .string (str f1), .slice A1 m1 c1, .bool true, .slice x1 len1 cap1] := frr2.has hxx1 (by omega)
  have bww2 : Below w.heap.size w V2 := by rw [← hV2]; exact bww1.setCell (p := ⟨w.heap.size + 1, 2, none⟩) (by simp) _
  have gg3 : V2.frozen? ⟨w.heap.size + 1, 3, none⟩ = false := hyy2.free 3
  have gc3 : V2.cell? ⟨w.heap.size + 1, 3, none⟩ = some (.string (str v2)) := hyy2.cell 3
  obtain ⟨V3, hV3⟩ : ∃ u : World, V2.setCell ⟨w.heap.size + 1, 3, none⟩ (.string (str v1)) = u := ⟨_, rfl⟩
  have hyy3 : Has V3 (w.heap.size + 1) 27 #[.int .i64 k1, .string (str op1), .int .i64 n1, .string (str v1), .string (str f2), .slice A2 m2 c2, .bool true, .slice x2 len2 cap2] := by rw [← hV3]; exact hyy2.put 3 (.string (str v1))
  have frr3 : FrP (w.heap.size + 1) V2 V3 := by rw [← hV3]; exact FrP.set hyy2.lt 3 (.string (str v1))
  have hxx3 : Has V3 w.heap.size 27 #[.int .i64 k1, .string (str op1), .int .i64 n1, .string (str v1), .string (str f1), .slice A1 m1 c1, .bool true, .slice x1 len1 cap1] := frr3.has hxx2 (by omega)
  have bww3 : Below w.heap.size w V3 := by rw [← hV3]; exact bww2.setCell (p := ⟨w.heap.size + 1, 3, none⟩) (by simp) _
  have gg4 : V3.frozen? ⟨w.heap.size + 1, 4, none⟩ = false := hyy3.free 4
  have gc4 : V3.cell? ⟨w.heap.size + 1, 4, none⟩ = some (.string (str f2)) := hyy3.cell 4
  obtain ⟨V4, hV4⟩ : ∃ u : World, V3.setCell ⟨w.heap.size + 1, 4, none⟩ (.string (str f1)) = u := ⟨_, rfl⟩
  have hyy4 : Has V4 (w.heap.size + 1) 27 #[.int .i64 k1, .string (str op1), .int .i64 n1, .string (str v1), .string (str f1), .slice A2 m2 c2, .bool true, .slice x2 len2 cap2] := by rw [← hV4]; exact hyy3.put 4 (.string (str f1))
  have frr4 : FrP (w.heap.size + 1) V3 V4 := by rw [← hV4]; exact FrP.set hyy3.lt 4 (.string (str f1))
  have hxx4 : Has V4 w.heap.size 27 #[.int .i64 k1, .string (str op1), .int .i64 n1, .string (str v1), .string (str f1), .slice A1 m1 c1, .bool true, .slice x1 len1 cap1] := frr4.has hxx3 (by omega)
  have bww4 : Below w.heap.size w V4 := by rw [← hV4]; exact bww3.setCell (p := ⟨w.heap.size + 1, 4, none⟩) (by simp) _
  have gg5 : V4.frozen? ⟨w.heap.size + 1, 5, none⟩ = false := hyy4.free 5
  have gc5 : V4.cell? ⟨w.heap.size + 1, 5, none⟩ = some (.slice A2 m2 c2) := hyy4.cell 5
  obtain ⟨V5, hV5⟩ : ∃ u : World, V4.setCell ⟨w.heap.size + 1, 5, none⟩ (.slice A1 m1 c1) = u := ⟨_, rfl⟩
  have hyy5 : Has V5 (w.heap.size + 1) 27 #[.int .i64 k1, .string (str op1), .int .i64 n1, .string (str v1), .string (str f1), .slice A1 m1 c1, .bool true, .slice x2 len2 cap2] := by rw [← hV5]; exact hyy4.put 5 (.slice A1 m1 c1)
  have frr5 : FrP (w.heap.size + 1) V4 V5 := by rw [← hV5]; exact FrP.set hyy4.lt 5 (.slice A1 m1 c1)
  have hxx5 : Has V5 w.heap.size 27 #[.int .i64 k1, .string (str op1), .int .i64 n1, .string (str v1), .string (str f1), .slice A1 m1 c1, .bool true, .slice x1 len1 cap1] := frr5.has hxx4 (by omega)
  have bww5 : Below w.heap.size w V5 := by rw [← hV5]; exact bww4.setCell (p := ⟨w.heap.size + 1, 5, none⟩) (by simp) _
  have gg6 : V5.frozen? ⟨w.heap.size + 1, 6, none⟩ = false := hyy5.free 6
  have gc6 : V5.cell? ⟨w.heap.size + 1, 6, none⟩ = some (.bool true) := hyy5.cell 6
  obtain ⟨V6, hV6⟩ : ∃ u : World, V5.setCell ⟨w.heap.size + 1, 6, none⟩ (.bool true) = u := ⟨_, rfl⟩
  have hyy6 : Has V6 (w.heap.size + 1) 27 #[.int .i64 k1, .string (str op1), .int .i64 n1, .string (str v1), .string (str f1), .slice A1 m1 c1, .bool true, .slice x2 len2 cap2] := by rw [← hV6]; exact hyy5.put 6 (.bool true)
  have frr6 : FrP (w.heap.size + 1) V5 V6 := by rw [← hV6]; exact FrP.set hyy5.lt 6 (.bool true)
  have hxx6 : Has V6 w.heap.size 27 #[.int .i64 k1, .string (str op1), .int .i64 n1, .string (str v1), .string (str f1), .slice A1 m1 c1, .bool true, .slice x1 len1 cap1] := frr6.has hxx5 (by omega)
  have bww6 : Below w.heap.size w V6 := by rw [← hV6]; exact bww5.setCell (p := ⟨w.heap.size + 1, 6, none⟩) (by simp) _
  have gg7 : V6.frozen? ⟨w.heap.size + 1, 7, none⟩ = false := hyy6.free 7
  have gc7 : V6.cell? ⟨w.heap.size + 1, 7, none⟩ = some (.slice x2 len2 cap2) := hyy6.cell 7
  obtain ⟨V7, hV7⟩ : ∃ u : World, V6.setCell ⟨w.heap.size + 1, 7, none⟩ (.slice x1 len1 cap1) = u := ⟨_, rfl⟩
  have hyy7 : Has V7 (w.heap.size + 1) 27 #[.int .i64 k1, .string (str op1), .int .i64 n1, .string (str v1), .string (str f1), .slice A1 m1 c1, .bool true, .slice x1 len1 cap1] := by rw [← hV7]; exact hyy6.put 7 (.slice x1 len1 cap1)
  have frr7 : FrP (w.heap.size + 1) V6 V7 := by rw [← hV7]; exact FrP.set hyy6.lt 7 (.slice x1 len1 cap1)
  have hxx7 : Has V7 w.heap.size 27 #[.int .i64 k1, .string (str op1), .int .i64 n1, .string (str v1), .string (str f1), .slice A1 m1 c1, .bool true, .slice x1 len1 cap1] := frr7.has hxx6 (by omega)
  have bww7 : Below w.heap.size w V7 := by rw [← hV7]; exact bww6.setCell (p := ⟨w.heap.size + 1, 7, none⟩) (by simp) _
  obtain ⟨e0, e1, e2, e3, e4, e5, e6, e7⟩ := eight_hasT hxx7
  have HB3 := Lib.hid bww7
  have HXY := Lib.hid (And.intro hxx7 hyy7)
  clear hyy0 frr0 hxx0 bww0 hyy1 frr1 hxx1 bww1 hyy2 frr2 hxx2 bww2 hyy3 frr3 hxx3 bww3 hyy4 frr4 hxx4 bww4 hyy5 frr5 hxx5 bww5 hyy6 frr6 hxx6 bww6 hyy7 frr7 hxx7 bww7
  clear b12 hx2 hy2 bw2 hx3 fr6 hy3 hy4 fr7 hx4 bw3 hu6 hW3
  go_wp2_with fail
  refine (HTA.out V7 HB3.out).mono ?_
  clear p0 p1 p2 p3 p4 p5 p6 p7 q0 q1 q2 q3 q4 q5 q6 q7 s0 s1 s2 s3 s4 s5 s6 s7 g6 g7 hu6' hW3' HX0 HEX gg0 gc0 hV0 gg1 gc1 hV1 gg2 gc2 hV2 gg3 gc3 hV3 gg4 gc4 hV4 gg5 gc5 hV5 gg6 gc6 hV6 gg7 gc7 hV7 e0 e1 e2 e3 e4 e5 e6 e7
  rintro e w4 ⟨t1, rfl, gg1, nn1, b4⟩
  simp only [cs1]
  obtain ⟨Wa, hWa⟩ : ∃ u, w4.alloc (.cells #[.int .i64 t1.k, .string (str t1.op), .int .i64 t1.n, .string (str t1.v), .string (str t1.f), .slice t1.A t1.ks.length t1.c] 24) = u := ⟨_, rfl⟩
  have sa : Below w4.heap.size w4 Wa := by rw [← hWa]; exact step1 _ _
  have ha4 : Has Wa w4.heap.size 24 (cs1 t1) := by rw [← hWa]; exact has_at rfl rfl
  have b4a := b4.trans (sa.mono b4.size)
  have bwa := HB3.out.trans (b4a.mono HB3.out.size)
  have hya := HXY.out.2.below b4a HXY.out.2.lt
  have hc2 := HTB.out Wa bwa
  have HC2 := Lib.hid hc2
  have HBa := Lib.hid bwa
  have HN1 := Lib.hid (And.intro gg1 (And.intro (nn1.in_.below sa) ha4))
  obtain ⟨q0, q1, q2, q3, q4, q5, q6, q7⟩ := eight_hasT hya
  clear sa ha4 b4 b4a bwa hya hc2 HB3 HXY gg1 nn1
  go_wp2_with fail
  refine HC2.out.mono ?_
  clear q0 q1 q2 q3 q4 q5 q6 q7 hWa HC2
  rintro e w5 ⟨t2, rfl, gg2, nn2, b5⟩
  simp only [cs1]
  obtain ⟨Wb, hWb⟩ : ∃ u, w5.alloc (.cells #[.int .i64 t2.k, .string (str t2.op), .int .i64 t2.n, .string (str t2.v), .string (str t2.f), .slice t2.A t2.ks.length t2.c] 24) = u := ⟨_, rfl⟩
  have sb : Below w5.heap.size w5 Wb := by rw [← hWb]; exact step1 _ _
  have hb5 : Has Wb w5.heap.size 24 (cs1 t2) := by rw [← hWb]; exact has_at rfl rfl
  have b5b := b5.trans (sb.mono b5.size)
  have hin1 := HN1.out.2.1.below b5b
  have hin2 := nn2.in_.below sb
  have hbb := HBa.out.trans (b5b.mono HBa.out.size)
  have hTb := HT.out.below hbb
  obtain ⟨a0, a1, a2, a3, a4, a5⟩ : six Wb w4.heap.size t1.k t1.op t1.n t1.v t1.f t1.A t1.ks.length t1.c := six_has (HN1.out.2.2.below b5b HN1.out.2.2.lt)
  obtain ⟨c0, c1', c2', c3, c4, c5⟩ : six Wb w5.heap.size t2.k t2.op t2.n t2.v t2.f t2.A t2.ks.length t2.c := six_has hb5
  obtain ⟨sv, hsv⟩ : ∃ b, sameT t1 t2 = b := ⟨_, rfl⟩
  have hpi := put_iff HN1.out.1.1 gg2.1
  rw [hsv] at hpi
  have hl1 := put_len _ t1 0 (Nat.le_refl _) HN1.out.1.1 hin1
  have hl2 := put_len _ t2 0 (Nat.le_refl _) gg2.1 hin2
  have z1 := HN1.out.1.2.2
  have z2 := gg2.2.2
  have cP1 : ∀ (d : Nat) (os : Array Obj), Calls Tryd.prog 10 #[.agg #[.int .i64 t1.k, .string (str t1.op), .int .i64 t1.n, .string (str t1.v), .string (str t1.f), .slice t1.A t1.ks.length t1.c]] (Sort.grow (redrawn Wb d) os) fun e w'' => e = .returned (.string (str (putT 0 t1))) ∧ ∃ p : Regrown, w'' = Sort.grow (redrawn Wb p.d) p.os := fun d os => by
    have bb := below_regrown Wb d os
    exact Calls.regrown_of (putE_any t1 _ (hin1.below bb) (hTb.below bb) HN1.out.1.1 (by omega))
  have cP2 : ∀ (d : Nat) (os : Array Obj), Calls Tryd.prog 10 #[.agg #[.int .i64 t2.k, .string (str t2.op), .int .i64 t2.n, .string (str t2.v), .string (str t2.f), .slice t2.A t2.ks.length t2.c]] (Sort.grow (redrawn Wb d) os) fun e w'' => e = .returned (.string (str (putT 0 t2))) ∧ ∃ p : Regrown, w'' = Sort.grow (redrawn Wb p.d) p.os := fun d os => by
    have bb := below_regrown Wb d os
    exact Calls.regrown_of (putE_any t2 _ (hin2.below bb) (hTb.below bb) gg2.1 (by omega))
  have cT : ∀ (d : Nat) (os : Array Obj), Calls Tryd.prog 8 #[.agg #[.int .i64 t1.k, .string (str t1.op), .int .i64 t1.n, .string (str t1.v), .string (str t1.f), .slice t1.A t1.ks.length t1.c]] (Sort.grow (redrawn Wb d) os) fun e w'' => e = .returned (.int .i64 2) ∧ ∃ p : Regrown, w'' = Sort.grow (redrawn Wb p.d) p.os := fun d os => by
    have bb := below_regrown Wb d os
    have h := type_any t1 _ (hin1.below bb) (hTb.below bb).1
    rw [typeT, if_pos HN1.out.1.1, HN1.out.1.2.1] at h
    exact Calls.regrown_of h
  have cR : ∀ (d : Nat) (os : Array Obj), Calls Tryd.prog 9 #[.agg #[.int .i64 t2.k, .string (str t2.op), .int .i64 t2.n, .string (str t2.v), .string (str t2.f), .slice t2.A t2.ks.length t2.c]] (Sort.grow (redrawn Wb d) os) fun e w'' => e = .returned (.bool true) ∧ ∃ p : Regrown, w'' = Sort.grow (redrawn Wb p.d) p.os := fun d os => by
    have bb := below_regrown Wb d os
    have h := right_any t2 _ (hin2.below bb) (hTb.below bb).1
    rw [gg2.1] at h
    exact Calls.regrown_of h
  have cS : ∀ (d : Nat) (os : Array Obj), Calls Tryd.prog 11 #[.agg #[.int .i64 t1.k, .string (str t1.op), .int .i64 t1.n, .string (str t1.v), .string (str t1.f), .slice t1.A t1.ks.length t1.c], .agg #[.int .i64 t2.k, .string (str t2.op), .int .i64 t2.n, .string (str t2.v), .string (str t2.f), .slice t2.A t2.ks.length t2.c]] (Sort.grow (redrawn Wb d) os) fun e w'' => e = .returned (.bool sv) ∧ ∃ p : Regrown, w'' = Sort.grow (redrawn Wb p.d) p.os := fun d os => by
    have bb := below_regrown Wb d os
    have h := sameT_any t1 t2 _ (hin1.below bb) (hin2.below bb)
    rw [hsv] at h
    exact Calls.regrown_of h
  obtain ⟨d1, hd1⟩ : ∃ d, putT 0 t1 = d := ⟨_, rfl⟩
  obtain ⟨d2, hd2⟩ : ∃ d, putT 0 t2 = d := ⟨_, rfl⟩
  rw [hd1] at cP1 hpi
  rw [hd2] at cP2 hpi
  have tt1 := str_toList d1
  have tt2 := str_toList d2
  have hq1 : (d1 == d2) = sv := by rw [beq_dec]; exact hpi
  have HBb := Lib.hid hbb
  clear hd1 hd2 hl1 hl2 z1 z2 hsv hpi hTb hbb hin1 hin2 b5 b5b sb hb5 nn2 gg2 HBa HN1
  go_wp2_with fail
  clear hWb
  have za0 := cell_regrown a0
  have za1 := cell_regrown a1
  have za2 := cell_regrown a2
  have za3 := cell_regrown a3
  have za4 := cell_regrown a4
  have za5 := cell_regrown a5
  have zc0 := cell_regrown c0
  have zc1 := cell_regrown c1'
  have zc2 := cell_regrown c2'
  have zc3 := cell_regrown c3
  have zc4 := cell_regrown c4
  have zc5 := cell_regrown c5
  cases sv
  all_goals
    refine wp_region_quiet_below (by kernel_rfl) (by kernel_rfl) ?_
    repeat (quiet_step (first | exact cT _ _ | exact cR _ _ | exact cP1 _ _ | exact cP2 _ _ | exact cS _ _))
    refine wpQuiet_nil ?_
    intro _ hw'
    obtain ⟨⟨dq, osq⟩, hw''⟩ := hw'
    subst hw''
    go_wp2
    go_ret
    exact ⟨rfl, HBb.out.trans ((below_regrown Wb dq osq).mono HBb.out.size)⟩
end Go.Proofs.YtbhjimlikffalaaDoor
