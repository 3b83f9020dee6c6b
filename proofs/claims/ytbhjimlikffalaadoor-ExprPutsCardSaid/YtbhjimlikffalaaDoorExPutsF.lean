/- ExprPuts' walk, where 'same' is false. -/
import Derived.Test.YtbhjimlikffalaaDoorExPutM
import Derived.Test.YtbhjimlikffalaaDoorExTreeW
import Derived.Test.YtbhjimlikffalaaDoorExEx
import Derived.Test.YtbhjimlikffalaaDoorExPutWalk
import Derived.BigQuiet
import Derived.Lib.QuietBelow
import Derived.Deep.QuietTactic
import Derived.IntWalk
namespace Go.Proofs.YtbhjimlikffalaaDoor
open Go.RowKit
set_option linter.unusedVariables false

theorem eight_hasF {w : World} {q : Nat} {t : TypeId} {u0 u1 u2 u3 u4 u5 u6 u7 : Value} (h : Has w q t #[u0, u1, u2, u3, u4, u5, u6, u7]) : w.cell? ⟨q, 0, none⟩ = some u0 ∧ w.cell? ⟨q, 1, none⟩ = some u1 ∧ w.cell? ⟨q, 2, none⟩ = some u2 ∧ w.cell? ⟨q, 3, none⟩ = some u3 ∧ w.cell? ⟨q, 4, none⟩ = some u4 ∧ w.cell? ⟨q, 5, none⟩ = some u5 ∧ w.cell? ⟨q, 6, none⟩ = some u6 ∧ w.cell? ⟨q, 7, none⟩ = some u7 :=
  ⟨h.cell 0, h.cell 1, h.cell 2, h.cell 3, h.cell 4, h.cell 5, h.cell 6, h.cell 7⟩
set_option maxRecDepth 100000 in
set_option maxHeartbeats 32000000 in
theorem puts_F (k1 n1 : Int) (op1 v1 f1 : Nm) (A1 : Option Addr) (m1 c1 : Nat) (o1 : Bool) (x1 : Option Addr) (len1 cap1 : Nat) (z1 : List Int) (k2 n2 : Int) (op2 v2 f2 : Nm) (A2 : Option Addr) (m2 c2 : Nat) (o2 : Bool) (x2 : Option Addr) (len2 cap2 : Nat) (z2 : List Int) (w : World) (r1 : IsRow .u8 w x1 len1 cap1 z1) (hz1 : ∀ n ∈ z1, 0 ≤ n ∧ n ≤ 255) (r2 : IsRow .u8 w x2 len2 cap2 z2) (hz2 : ∀ n ∈ z2, 0 ≤ n ∧ n ≤ 255) (hT : Tabs w) :
    Calls Tryd.prog 3 #[.agg #[.int .i64 k1, .string (str op1), .int .i64 n1, .string (str v1), .string (str f1), .slice A1 m1 c1, .bool o1, .slice x1 len1 cap1], .agg #[.int .i64 k2, .string (str op2), .int .i64 n2, .string (str v2), .string (str f2), .slice A2 m2 c2, .bool o2, .slice x2 len2 cap2], .bool false] w fun e w' => e = .returned (.bool true) ∧ Below w.heap.size w w' := by
  have HTA : Hid (∀ u, Below w.heap.size w u → Calls Tryd.prog 7 #[.agg #[.int .i64 k1, .string (str op1), .int .i64 n1, .string (str v1), .string (str f1), .slice A1 m1 c1, .bool true, .slice x1 len1 cap1]] u fun e w' => ∃ t : ET, e = .returned (.agg (cs1 t)) ∧ (rightT t = true ∧ typT t = 2 ∧ t.size ≤ 63) ∧ Nw u.heap.size w' t ∧ Below u.heap.size u w') := Lib.hid fun u hu => tree_any k1 n1 op1 v1 f1 A1 m1 c1 x1 len1 cap1 z1 u (r1.below hu) hz1
  have HTB : Hid (∀ u, Below w.heap.size w u → Calls Tryd.prog 7 #[.agg #[.int .i64 k2, .string (str op2), .int .i64 n2, .string (str v2), .string (str f2), .slice A2 m2 c2, .bool true, .slice x2 len2 cap2]] u fun e w' => ∃ t : ET, e = .returned (.agg (cs1 t)) ∧ (rightT t = true ∧ typT t = 2 ∧ t.size ≤ 63) ∧ Nw u.heap.size w' t ∧ Below u.heap.size u w') := Lib.hid fun u hu => tree_any k2 n2 op2 v2 f2 A2 m2 c2 x2 len2 cap2 z2 u (r2.below hu) hz2
  obtain ⟨W0, hW0⟩ : ∃ W0, (w.alloc (.cells #[.int .i64 k1, .string (str op1), .int .i64 n1, .string (str v1), .string (str f1), .slice A1 m1 c1, .bool o1, .slice x1 len1 cap1] 27)).alloc (.cells #[.int .i64 k2, .string (str op2), .int .i64 n2, .string (str v2), .string (str f2), .slice A2 m2 c2, .bool o2, .slice x2 len2 cap2] 27) = W0 := ⟨_, rfl⟩
  have b0 : Below w.heap.size w W0 := by rw [← hW0]; exact ((Below.refl _ _).alloc (Nat.le_refl _) _).alloc (by simp) _
  have hx0 : Has W0 w.heap.size 27 #[.int .i64 k1, .string (str op1), .int .i64 n1, .string (str v1), .string (str f1), .slice A1 m1 c1, .bool o1, .slice x1 len1 cap1] := by rw [← hW0]; exact (has_at rfl rfl : Has (w.alloc (.cells #[.int .i64 k1, .string (str op1), .int .i64 n1, .string (str v1), .string (str f1), .slice A1 m1 c1, .bool o1, .slice x1 len1 cap1] 27)) w.heap.size 27 #[.int .i64 k1, .string (str op1), .int .i64 n1, .string (str v1), .string (str f1), .slice A1 m1 c1, .bool o1, .slice x1 len1 cap1]).below (step1 _ _) (by simp)
  have hy0 : Has W0 (w.heap.size + 1) 27 #[.int .i64 k2, .string (str op2), .int .i64 n2, .string (str v2), .string (str f2), .slice A2 m2 c2, .bool o2, .slice x2 len2 cap2] := by rw [← hW0]; exact has_at rfl (by simp)
  have HEX := Lib.hid (ex_any W0 (hT.below b0))
  have HX0 := Lib.hid (And.intro hx0 hy0)
  have HB0 := Lib.hid b0
  have HT := Lib.hid hT
  have HW0 := Lib.hid hW0
  clear hx0 hy0 b0 hT hW0 r1 r2 hz1 hz2
  go_enter Tryd.func3, Tryd.ntmps3
  go_wp2_with fail
  rw [HW0.out]
  refine HEX.out.mono ?_
  rintro e w2 ⟨rfl, b12⟩
  have hx2 := HX0.out.1.below b12 HX0.out.1.lt
  have hy2 := HX0.out.2.below b12 HX0.out.2.lt
  have bw2 := HB0.out.trans (b12.mono HB0.out.size)
  obtain ⟨u6, hu6⟩ : ∃ u : World, w2.setCell ⟨w.heap.size, 6, none⟩ (.bool true) = u := ⟨_, rfl⟩
  have hx3 : Has u6 w.heap.size 27 #[.int .i64 k1, .string (str op1), .int .i64 n1, .string (str v1), .string (str f1), .slice A1 m1 c1, .bool true, .slice x1 len1 cap1] := by rw [← hu6]; exact hx2.put 6 (.bool true)
  have fr6 : FrP w.heap.size w2 u6 := by rw [← hu6]; exact FrP.set hx2.lt 6 (.bool true)
  have hy3 : Has u6 (w.heap.size + 1) 27 #[.int .i64 k2, .string (str op2), .int .i64 n2, .string (str v2), .string (str f2), .slice A2 m2 c2, .bool o2, .slice x2 len2 cap2] := fr6.has hy2 (by omega)
  obtain ⟨W3, hW3⟩ : ∃ u : World, u6.setCell ⟨w.heap.size + 1, 6, none⟩ (.bool true) = u := ⟨_, rfl⟩
  have hy4 : Has W3 (w.heap.size + 1) 27 #[.int .i64 k2, .string (str op2), .int .i64 n2, .string (str v2), .string (str f2), .slice A2 m2 c2, .bool true, .slice x2 len2 cap2] := by rw [← hW3]; exact hy3.put 6 (.bool true)
  have fr7 : FrP (w.heap.size + 1) u6 W3 := by rw [← hW3]; exact FrP.set hy3.lt 6 (.bool true)
  have hx4 : Has W3 w.heap.size 27 #[.int .i64 k1, .string (str op1), .int .i64 n1, .string (str v1), .string (str f1), .slice A1 m1 c1, .bool true, .slice x1 len1 cap1] := fr7.has hx3 (by omega)
  have bw3 : Below w.heap.size w W3 := by rw [← hW3, ← hu6]; exact (bw2.setCell (p := ⟨w.heap.size, 6, none⟩) (Nat.le_refl _) _).setCell (p := ⟨w.heap.size + 1, 6, none⟩) (by simp) _
  have hu6' := hu6
  have hW3' := hW3
  obtain ⟨p0, p1, p2, p3, p4, p5, p6, p7⟩ := eight_hasF hx2
  obtain ⟨q0, q1, q2, q3, q4, q5, q6, q7⟩ := eight_hasF hy3
  obtain ⟨s0, s1, s2, s3, s4, s5, s6, s7⟩ := eight_hasF hx4
  have g6 : w2.frozen? ⟨w.heap.size, 6, none⟩ = false := hx2.free 6
  have g7 : u6.frozen? ⟨w.heap.size + 1, 6, none⟩ = false := hy3.free 6

  have HB3 := Lib.hid bw3
  have HXY := Lib.hid (And.intro hx4 hy4)
  clear b12 hx2 hy2 bw2 hx3 fr6 hy3 hy4 fr7 hx4 bw3 hu6 hW3
  go_wp2_with fail
  refine (HTA.out W3 HB3.out).mono ?_
  clear p0 p1 p2 p3 p4 p5 p6 p7 q0 q1 q2 q3 q4 q5 q6 q7 s0 s1 s2 s3 s4 s5 s6 s7 g6 g7 hu6' hW3' HX0 HEX 
  rintro e w4 ⟨t1, rfl, gg1, nn1, b4⟩
  simp only [cs1]
  obtain ⟨Wa, hWa⟩ : ∃ u, w4.alloc (.cells #[.int .i64 t1.k, .string (str t1.op), .int .i64 t1.n, .string (str t1.v), .string (str t1.f), .slice t1.A t1.ks.length t1.c] 24) = u := ⟨_, rfl⟩
  have sa : Below w4.heap.size w4 Wa := by rw [← hWa]; exact step1 _ _
  have ha4 : Has Wa w4.heap.size 24 (cs1 t1) := by rw [← hWa]; exact has_at rfl rfl
  have b4a := b4.trans (sa.mono b4.size)
  have bwa := HB3.out.trans (b4a.mono HB3.out.size)
  have hya := HXY.out.2.below b4a HXY.out.2.lt
  have hc2 := HTB.out Wa bwa
  have HC2 := Lib.hid hc2
  have HBa := Lib.hid bwa
  have HN1 := Lib.hid (And.intro gg1 (And.intro (nn1.in_.below sa) ha4))
  obtain ⟨q0, q1, q2, q3, q4, q5, q6, q7⟩ := eight_hasF hya
  clear sa ha4 b4 b4a bwa hya hc2 HB3 HXY gg1 nn1
  go_wp2_with fail
  refine HC2.out.mono ?_
  clear q0 q1 q2 q3 q4 q5 q6 q7 hWa HC2
  rintro e w5 ⟨t2, rfl, gg2, nn2, b5⟩
  simp only [cs1]
  obtain ⟨Wb, hWb⟩ : ∃ u, w5.alloc (.cells #[.int .i64 t2.k, .string (str t2.op), .int .i64 t2.n, .string (str t2.v), .string (str t2.f), .slice t2.A t2.ks.length t2.c] 24) = u := ⟨_, rfl⟩
  have sb : Below w5.heap.size w5 Wb := by rw [← hWb]; exact step1 _ _
  have hb5 : Has Wb w5.heap.size 24 (cs1 t2) := by rw [← hWb]; exact has_at rfl rfl
  have b5b := b5.trans (sb.mono b5.size)
  have hin1 := HN1.out.2.1.below b5b
  have hin2 := nn2.in_.below sb
  have hbb := HBa.out.trans (b5b.mono HBa.out.size)
  have hTb := HT.out.below hbb
  obtain ⟨a0, a1, a2, a3, a4, a5⟩ : six Wb w4.heap.size t1.k t1.op t1.n t1.v t1.f t1.A t1.ks.length t1.c := six_has (HN1.out.2.2.below b5b HN1.out.2.2.lt)
  obtain ⟨c0, c1', c2', c3, c4, c5⟩ : six Wb w5.heap.size t2.k t2.op t2.n t2.v t2.f t2.A t2.ks.length t2.c := six_has hb5
  obtain ⟨sv, hsv⟩ : ∃ b, sameT t1 t2 = b := ⟨_, rfl⟩
  have hpi := put_iff HN1.out.1.1 gg2.1
  rw [hsv] at hpi
  have hl1 := put_len _ t1 0 (Nat.le_refl _) HN1.out.1.1 hin1
  have hl2 := put_len _ t2 0 (Nat.le_refl _) gg2.1 hin2
  have z1 := HN1.out.1.2.2
  have z2 := gg2.2.2
  have cP1 : ∀ (d : Nat) (os : Array Obj), Calls Tryd.prog 10 #[.agg #[.int .i64 t1.k, .string (str t1.op), .int .i64 t1.n, .string (str t1.v), .string (str t1.f), .slice t1.A t1.ks.length t1.c]] (Sort.grow (redrawn Wb d) os) fun e w'' => e = .returned (.string (str (putT 0 t1))) ∧ ∃ p : Regrown, w'' = Sort.grow (redrawn Wb p.d) p.os := fun d os => by
    have bb := below_regrown Wb d os
    exact Calls.regrown_of (putE_any t1 _ (hin1.below bb) (hTb.below bb) HN1.out.1.1 (by omega))
  have cP2 : ∀ (d : Nat) (os : Array Obj), Calls Tryd.prog 10 #[.agg #[.int .i64 t2.k, .string (str t2.op), .int .i64 t2.n, .string (str t2.v), .string (str t2.f), .slice t2.A t2.ks.length t2.c]] (Sort.grow (redrawn Wb d) os) fun e w'' => e = .returned (.string (str (putT 0 t2))) ∧ ∃ p : Regrown, w'' = Sort.grow (redrawn Wb p.d) p.os := fun d os => by
    have bb := below_regrown Wb d os
    exact Calls.regrown_of (putE_any t2 _ (hin2.below bb) (hTb.below bb) gg2.1 (by omega))
  have cT : ∀ (d : Nat) (os : Array Obj), Calls Tryd.prog 8 #[.agg #[.int .i64 t1.k, .string (str t1.op), .int .i64 t1.n, .string (str t1.v), .string (str t1.f), .slice t1.A t1.ks.length t1.c]] (Sort.grow (redrawn Wb d) os) fun e w'' => e = .returned (.int .i64 2) ∧ ∃ p : Regrown, w'' = Sort.grow (redrawn Wb p.d) p.os := fun d os => by
    have bb := below_regrown Wb d os
    have h := type_any t1 _ (hin1.below bb) (hTb.below bb).1
    rw [typeT, if_pos HN1.out.1.1, HN1.out.1.2.1] at h
    exact Calls.regrown_of h
  have cR : ∀ (d : Nat) (os : Array Obj), Calls Tryd.prog 9 #[.agg #[.int .i64 t2.k, .string (str t2.op), .int .i64 t2.n, .string (str t2.v), .string (str t2.f), .slice t2.A t2.ks.length t2.c]] (Sort.grow (redrawn Wb d) os) fun e w'' => e = .returned (.bool true) ∧ ∃ p : Regrown, w'' = Sort.grow (redrawn Wb p.d) p.os := fun d os => by
    have bb := below_regrown Wb d os
    have h := right_any t2 _ (hin2.below bb) (hTb.below bb).1
    rw [gg2.1] at h
    exact Calls.regrown_of h
  have cS : ∀ (d : Nat) (os : Array Obj), Calls Tryd.prog 11 #[.agg #[.int .i64 t1.k, .string (str t1.op), .int .i64 t1.n, .string (str t1.v), .string (str t1.f), .slice t1.A t1.ks.length t1.c], .agg #[.int .i64 t2.k, .string (str t2.op), .int .i64 t2.n, .string (str t2.v), .string (str t2.f), .slice t2.A t2.ks.length t2.c]] (Sort.grow (redrawn Wb d) os) fun e w'' => e = .returned (.bool sv) ∧ ∃ p : Regrown, w'' = Sort.grow (redrawn Wb p.d) p.os := fun d os => by
    have bb := below_regrown Wb d os
    have h := sameT_any t1 t2 _ (hin1.below bb) (hin2.below bb)
    rw [hsv] at h
    exact Calls.regrown_of h
  obtain ⟨d1, hd1⟩ : ∃ d, putT 0 t1 = d := ⟨_, rfl⟩
  obtain ⟨d2, hd2⟩ : ∃ d, putT 0 t2 = d := ⟨_, rfl⟩
  rw [hd1] at cP1 hpi
  rw [hd2] at cP2 hpi
  have tt1 := str_toList d1
  have tt2 := str_toList d2
  have hq1 : (d1 == d2) = sv := by rw [beq_dec]; exact hpi
  have HBb := Lib.hid hbb
  clear hd1 hd2 hl1 hl2 z1 z2 hsv hpi hTb hbb hin1 hin2 b5 b5b sb hb5 nn2 gg2 HBa HN1
  go_wp2_with fail
  clear hWb
  have za0 := cell_regrown a0
  have za1 := cell_regrown a1
  have za2 := cell_regrown a2
  have za3 := cell_regrown a3
  have za4 := cell_regrown a4
  have za5 := cell_regrown a5
  have zc0 := cell_regrown c0
  have zc1 := cell_regrown c1'
  have zc2 := cell_regrown c2'
  have zc3 := cell_regrown c3
  have zc4 := cell_regrown c4
  have zc5 := cell_regrown c5
  cases sv
  all_goals
    refine wp_region_quiet_below (by kernel_rfl) (by kernel_rfl) ?_
    repeat (quiet_step (first | exact cT _ _ | exact cR _ _ | exact cP1 _ _ | exact cP2 _ _ | exact cS _ _))
    refine wpQuiet_nil ?_
    intro _ hw'
    obtain ⟨⟨dq, osq⟩, hw''⟩ := hw'
    subst hw''
    go_wp2
    go_ret
    exact ⟨rfl, HBb.out.trans ((below_regrown Wb dq osq).mono HBb.out.size)⟩
end Go.Proofs.YtbhjimlikffalaaDoor
