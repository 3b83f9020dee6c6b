/- ExprVars' walk. -/
import Derived.Test.YtbhjimlikffalaaDoorExVarM
import Derived.Test.YtbhjimlikffalaaDoorExTreeW
import Derived.Test.YtbhjimlikffalaaDoorExEx
import Derived.BigQuiet
import Derived.Deep.QuietTactic
import Derived.IntWalk
import Derived.Laws.Cover1
import Derived.Sort.Walk0
namespace Go.Proofs.YtbhjimlikffalaaDoor
open Go.RowKit
set_option linter.unusedVariables false

theorem below_drewN {B : Nat} {a w : World} (h : Below B a w) (n : Nat) : Below B a (w.drewN n) := ⟨h.os, h.tape, h.output, h.size, h.block⟩
theorem varsT_er {t T : ET} (h : t.er = T) : varsT t = varsT T := by
  unfold varsT
  rw [← gath_er t, h]
/-- What Vars tells of a tree of the reader's. -/
theorem vars_at {t T : ET} {l : List Nm} (h : t.er = T) (hl : varsT T = l) (hs : t.size ≤ 1000000) (w : World) (hin : t.In w) :
    Calls Tryd.prog 12 #[.agg #[.int .i64 t.k, .string (str t.op), .int .i64 t.n, .string (str t.v), .string (str t.f), .slice t.A t.ks.length t.c]] w fun e w' => (∃ A c, e = .returned (.slice A l.length c) ∧ Strs w' A c l) ∧ Below w.heap.size w w' := by
  have := vars_any t w hin hs
  rw [varsT_er h, hl] at this
  exact this
/-- The two lists, and that of both. -/
theorem both_vars (TA TB : ET) : ∃ lv : List Nm, lv.Pairwise (· < ·) ∧ (∀ x, x ∈ lv ↔ x ∈ varsT TA ∨ x ∈ varsT TB) ∧ ∀ (op : Nm) (A : Option Addr) (c : Nat) (a b : ET), a.er = TA → b.er = TB → varsT (.mk 3 op 0 [] [] A c [a, b]) = lv := by
  refine ⟨Lib.compact (srt (gath TA ++ gath TB)), (compact_sorted (srt_pairwise _)).1, fun x => ?_, fun op A c a b ha hb => ?_⟩
  · rw [varsT_mem, varsT_mem, (compact_sorted (srt_pairwise _)).2]
    unfold srt
    rw [List.mem_mergeSort, List.mem_append]
  · unfold varsT
    rw [gath_two, ← gath_er a, ← gath_er b, ha, hb]
theorem eight_has2 {w : World} {q : Nat} {t : TypeId} {u0 u1 u2 u3 u4 u5 u6 u7 : Value} (h : Has w q t #[u0, u1, u2, u3, u4, u5, u6, u7]) : w.cell? ⟨q, 0, none⟩ = some u0 ∧ w.cell? ⟨q, 1, none⟩ = some u1 ∧ w.cell? ⟨q, 2, none⟩ = some u2 ∧ w.cell? ⟨q, 3, none⟩ = some u3 ∧ w.cell? ⟨q, 4, none⟩ = some u4 ∧ w.cell? ⟨q, 5, none⟩ = some u5 ∧ w.cell? ⟨q, 6, none⟩ = some u6 ∧ w.cell? ⟨q, 7, none⟩ = some u7 :=
  ⟨h.cell 0, h.cell 1, h.cell 2, h.cell 3, h.cell 4, h.cell 5, h.cell 6, h.cell 7⟩
/-- Vars of the operation of two trees, whose Kids are made anew. -/
theorem vars_two {TA TB t3 t4 : ET} {lv : List Nm} (hv : ∀ (op : Nm) (A : Option Addr) (c : Nat) (a b : ET), a.er = TA → b.er = TB → varsT (.mk 3 op 0 [] [] A c [a, b]) = lv) (h3 : t3.er = TA) (h4 : t4.er = TB) (g3 : rightT t3 = true ∧ typT t3 = 2 ∧ t3.size ≤ 63) (g4 : rightT t4 = true ∧ typT t4 = 2 ∧ t4.size ≤ 63) (W : World) (i3 : t3.In W) (i4 : t4.In W) :
    Calls Tryd.prog 12 #[.agg #[.int .i64 3, .string { data := #[38, 38] }, .int .i64 0, .string { data := #[] }, .string { data := #[] }, .slice (some ⟨W.heap.size, 0, none⟩) 2 2]] (W.alloc (.cells #[.int .i64 t3.k, .string (str t3.op), .int .i64 t3.n, .string (str t3.v), .string (str t3.f), .slice t3.A t3.ks.length t3.c, .int .i64 t4.k, .string (str t4.op), .int .i64 t4.n, .string (str t4.v), .string (str t4.f), .slice t4.A t4.ks.length t4.c] 24)) fun e w' => (∃ A c, e = .returned (.slice A lv.length c) ∧ Strs w' A c lv) ∧ Below W.heap.size W w' := by
  have hin : ET.In (W.alloc (.cells (cs2 t3 t4) 24)) (.mk 3 [38, 38] 0 [] [] (some ⟨W.heap.size, 0, none⟩) 2 [t3, t4]) := in2 3 [38, 38] 0 [] [] 2 (has_at rfl rfl) (i3.below (step1 _ _)) (i4.below (step1 _ _)) (okE_small _ _ _ _ (by decide) (by omega) (by omega))
  have h := vars_any _ _ hin (by rw [size_mk, sizeL_cons, sizeL_cons, sizeL_nil]; omega)
  rw [hv _ _ _ _ _ h3 h4] at h
  refine h.mono ?_
  rintro e w' ⟨h1, h2⟩
  exact ⟨h1, (step1 W _).trans (h2.mono (step1 W _).size)⟩
set_option maxRecDepth 100000 in
set_option maxHeartbeats 32000000 in
theorem vars2_any (k1 n1 : Int) (op1 v1 f1 : Nm) (A1 : Option Addr) (m1 c1 : Nat) (o1 : Bool) (x1 : Option Addr) (len1 cap1 : Nat) (z1 : List Int) (k2 n2 : Int) (op2 v2 f2 : Nm) (A2 : Option Addr) (m2 c2 : Nat) (o2 : Bool) (x2 : Option Addr) (len2 cap2 : Nat) (z2 : List Int) (w : World) (r1 : IsRow .u8 w x1 len1 cap1 z1) (hz1 : ∀ n ∈ z1, 0 ≤ n ∧ n ≤ 255) (r2 : IsRow .u8 w x2 len2 cap2 z2) (hz2 : ∀ n ∈ z2, 0 ≤ n ∧ n ≤ 255) (hT : Tabs w) :
    Calls Tryd.prog 4 #[.agg #[.int .i64 k1, .string (str op1), .int .i64 n1, .string (str v1), .string (str f1), .slice A1 m1 c1, .bool o1, .slice x1 len1 cap1], .agg #[.int .i64 k2, .string (str op2), .int .i64 n2, .string (str v2), .string (str f2), .slice A2 m2 c2, .bool o2, .slice x2 len2 cap2]] w fun e w' => e = .returned (.bool true) ∧ Below w.heap.size w w' := by
  obtain ⟨TA, hTA⟩ := tree_all len1 z1 hz1
  obtain ⟨TB, hTB⟩ := tree_all len2 z2 hz2
  obtain ⟨lv, hv1, hv2, hv3⟩ := both_vars TA TB
  obtain ⟨la, hla⟩ : ∃ l, varsT TA = l := ⟨_, rfl⟩
  obtain ⟨lb, hlb⟩ : ∃ l, varsT TB = l := ⟨_, rfl⟩
  rw [hla, hlb] at hv2
  have HLA := Lib.hid hla
  have HLB := Lib.hid hlb
  have HV1 := Lib.hid hv1
  have HV2 := Lib.hid hv2
  have HV3 := Lib.hid hv3
  have HTA : Hid (∀ u, Below w.heap.size w u → Calls Tryd.prog 7 #[.agg #[.int .i64 k1, .string (str op1), .int .i64 n1, .string (str v1), .string (str f1), .slice A1 m1 c1, .bool true, .slice x1 len1 cap1]] u fun e w' => ∃ t : ET, e = .returned (.agg (cs1 t)) ∧ t.er = TA ∧ (rightT t = true ∧ typT t = 2 ∧ t.size ≤ 63) ∧ Nw u.heap.size w' t ∧ Below u.heap.size u w') := Lib.hid fun u hu => hTA k1 n1 op1 v1 f1 A1 m1 c1 x1 cap1 u (r1.below hu)
  have HTB : Hid (∀ u, Below w.heap.size w u → Calls Tryd.prog 7 #[.agg #[.int .i64 k2, .string (str op2), .int .i64 n2, .string (str v2), .string (str f2), .slice A2 m2 c2, .bool true, .slice x2 len2 cap2]] u fun e w' => ∃ t : ET, e = .returned (.agg (cs1 t)) ∧ t.er = TB ∧ (rightT t = true ∧ typT t = 2 ∧ t.size ≤ 63) ∧ Nw u.heap.size w' t ∧ Below u.heap.size u w') := Lib.hid fun u hu => hTB k2 n2 op2 v2 f2 A2 m2 c2 x2 cap2 u (r2.below hu)
  clear hTA hTB hv1 hv2 hv3 hla hlb r1 r2 hz1 hz2
  obtain ⟨W0, hW0⟩ : ∃ W0, (w.alloc (.cells #[.int .i64 k1, .string (str op1), .int .i64 n1, .string (str v1), .string (str f1), .slice A1 m1 c1, .bool o1, .slice x1 len1 cap1] 27)).alloc (.cells #[.int .i64 k2, .string (str op2), .int .i64 n2, .string (str v2), .string (str f2), .slice A2 m2 c2, .bool o2, .slice x2 len2 cap2] 27) = W0 := ⟨_, rfl⟩
  have b0 : Below w.heap.size w W0 := by rw [← hW0]; exact ((Below.refl _ _).alloc (Nat.le_refl _) _).alloc (by simp) _
  have hx0 : Has W0 w.heap.size 27 #[.int .i64 k1, .string (str op1), .int .i64 n1, .string (str v1), .string (str f1), .slice A1 m1 c1, .bool o1, .slice x1 len1 cap1] := by rw [← hW0]; exact (has_at rfl rfl : Has (w.alloc (.cells #[.int .i64 k1, .string (str op1), .int .i64 n1, .string (str v1), .string (str f1), .slice A1 m1 c1, .bool o1, .slice x1 len1 cap1] 27)) w.heap.size 27 #[.int .i64 k1, .string (str op1), .int .i64 n1, .string (str v1), .string (str f1), .slice A1 m1 c1, .bool o1, .slice x1 len1 cap1]).below (step1 _ _) (by simp)
  have hy0 : Has W0 (w.heap.size + 1) 27 #[.int .i64 k2, .string (str op2), .int .i64 n2, .string (str v2), .string (str f2), .slice A2 m2 c2, .bool o2, .slice x2 len2 cap2] := by rw [← hW0]; exact has_at rfl (by simp)
  have HEX := Lib.hid (ex_any W0 (hT.below b0))
  have HX0 := Lib.hid (And.intro hx0 hy0)
  have HB0 := Lib.hid b0
  have HW0 := Lib.hid hW0
  clear hx0 hy0 b0 hT hW0
  go_enter Tryd.func4, Tryd.ntmps4
  go_wp2_with fail
  rw [HW0.out]
  refine HEX.out.mono ?_
  rintro e w2 ⟨rfl, b12⟩
  have hx2 := HX0.out.1.below b12 HX0.out.1.lt
  have hy2 := HX0.out.2.below b12 HX0.out.2.lt
  have bw2 := HB0.out.trans (b12.mono HB0.out.size)
  obtain ⟨u6, hu6⟩ : ∃ u : World, w2.setCell ⟨w.heap.size, 6, none⟩ (.bool true) = u := ⟨_, rfl⟩
  have hx3 : Has u6 w.heap.size 27 #[.int .i64 k1, .string (str op1), .int .i64 n1, .string (str v1), .string (str f1), .slice A1 m1 c1, .bool true, .slice x1 len1 cap1] := by rw [← hu6]; exact hx2.put 6 (.bool true)
  have fr6 : FrP w.heap.size w2 u6 := by rw [← hu6]; exact FrP.set hx2.lt 6 (.bool true)
  have hy3 : Has u6 (w.heap.size + 1) 27 #[.int .i64 k2, .string (str op2), .int .i64 n2, .string (str v2), .string (str f2), .slice A2 m2 c2, .bool o2, .slice x2 len2 cap2] := fr6.has hy2 (by omega)
  obtain ⟨W3, hW3⟩ : ∃ u : World, u6.setCell ⟨w.heap.size + 1, 6, none⟩ (.bool true) = u := ⟨_, rfl⟩
  have hy4 : Has W3 (w.heap.size + 1) 27 #[.int .i64 k2, .string (str op2), .int .i64 n2, .string (str v2), .string (str f2), .slice A2 m2 c2, .bool true, .slice x2 len2 cap2] := by rw [← hW3]; exact hy3.put 6 (.bool true)
  have fr7 : FrP (w.heap.size + 1) u6 W3 := by rw [← hW3]; exact FrP.set hy3.lt 6 (.bool true)
  have hx4 : Has W3 w.heap.size 27 #[.int .i64 k1, .string (str op1), .int .i64 n1, .string (str v1), .string (str f1), .slice A1 m1 c1, .bool true, .slice x1 len1 cap1] := fr7.has hx3 (by omega)
  have bw3 : Below w.heap.size w W3 := by rw [← hW3, ← hu6]; exact (bw2.setCell (p := ⟨w.heap.size, 6, none⟩) (Nat.le_refl _) _).setCell (p := ⟨w.heap.size + 1, 6, none⟩) (by simp) _
  have HB3 := Lib.hid bw3
  have HXY := Lib.hid (And.intro hx4 hy4)
  have hu6' := hu6
  have hW3' := hW3
  obtain ⟨p0, p1, p2, p3, p4, p5, p6, p7⟩ := eight_has2 hx2
  obtain ⟨q0, q1, q2, q3, q4, q5, q6, q7⟩ := eight_has2 hy3
  obtain ⟨s0, s1, s2, s3, s4, s5, s6, s7⟩ := eight_has2 hx4
  have g6 : w2.frozen? ⟨w.heap.size, 6, none⟩ = false := hx2.free 6
  have g7 : u6.frozen? ⟨w.heap.size + 1, 6, none⟩ = false := hy3.free 6
  clear b12 hx2 hy2 bw2 hx3 fr6 hy3 hy4 fr7 hx4 bw3 hu6 hW3
  go_wp2_with fail
  refine (HTA.out W3 HB3.out).mono ?_
  clear p0 p1 p2 p3 p4 p5 p6 p7 q0 q1 q2 q3 q4 q5 q6 q7 s0 s1 s2 s3 s4 s5 s6 s7 g6 g7 hu6' hW3' HX0 HEX
  rintro e w4 ⟨t1, rfl, er1, gg1, nn1, b4⟩
  simp only [cs1]
  have HC := Lib.hid (vars_at er1 HLA.out (by omega) w4 nn1.in_)
  have HB4 := Lib.hid (HB3.out.trans (b4.mono HB3.out.size))
  have HX4 := Lib.hid (And.intro (HXY.out.1.below b4 HXY.out.1.lt) (HXY.out.2.below b4 HXY.out.2.lt))
  clear er1 gg1 nn1 b4 HXY HB3
  go_wp2_with fail
  refine HC.out.mono ?_
  clear HC
  rintro e w5 ⟨⟨A1', c1', rfl, sA⟩, b5⟩
  have HB5 := Lib.hid (HB4.out.trans (b5.mono HB4.out.size))
  have HX5 := Lib.hid (And.intro (HX4.out.1.below b5 HX4.out.1.lt) (HX4.out.2.below b5 HX4.out.2.lt))
  have HSA5 := Lib.hid sA
  clear b5 sA HX4 HB4
  obtain ⟨q0, q1, q2, q3, q4, q5, q6, q7⟩ := eight_has2 HX5.out.2
  go_wp2_with fail
  refine (HTB.out w5 HB5.out).mono ?_
  clear q0 q1 q2 q3 q4 q5 q6 q7
  rintro e w6 ⟨t2, rfl, er2, gg2, nn2, b6⟩
  simp only [cs1]
  have HC := Lib.hid (vars_at er2 HLB.out (by omega) w6 nn2.in_)
  have HB6 := Lib.hid (HB5.out.trans (b6.mono HB5.out.size))
  have HX6 := Lib.hid (And.intro (HX5.out.1.below b6 HX5.out.1.lt) (HX5.out.2.below b6 HX5.out.2.lt))
  have HSA6 := Lib.hid (HSA5.out.below b6)
  clear er2 gg2 nn2 b6 HX5 HB5 HSA5
  go_wp2_with fail
  refine HC.out.mono ?_
  clear HC
  rintro e w7 ⟨⟨A2', c2', rfl, sB⟩, b7⟩
  have HB7 := Lib.hid (HB6.out.trans (b7.mono HB6.out.size))
  have HX7 := Lib.hid (And.intro (HX6.out.1.below b7 HX6.out.1.lt) (HX6.out.2.below b7 HX6.out.2.lt))
  have HSA := Lib.hid (HSA6.out.below b7)
  have HSB := Lib.hid sB
  clear b7 sB HX6 HB6 HSA6
  -- REST
  go_upto_region 8 with fail
  go_cut [8] from 23 to 29 (fun sv wr => ∃ (A : Option Addr) (c : Nat), sv = .slice A lv.length c ∧ Strs wr A c lv ∧ Below w7.heap.size w7 wr)
  case first =>
    have bd : Below w7.heap.size w7 w7.drew := (Below.refl _ _).drew
    have HXa := Lib.hid (HTA.out w7.drew (HB7.out.trans (bd.mono HB7.out.size)))
    have HYa := Lib.hid (HTB.out w7.drew (HB7.out.trans (bd.mono HB7.out.size)))
    have HBd := Lib.hid bd
    obtain ⟨p0, p1, p2, p3, p4, p5, p6, p7⟩ := eight_has2 HX7.out.1
    obtain ⟨q0, q1, q2, q3, q4, q5, q6, q7⟩ := eight_has2 HX7.out.2
    obtain ⟨h0, h1, h2, h3, h4, h5, h6, h7⟩ := eight_has2 (HX7.out.1.below bd HX7.out.1.lt)
    obtain ⟨k0, k1', k2', k3, k4, k5, k6, k7⟩ := eight_has2 (HX7.out.2.below bd HX7.out.2.lt)
    clear bd
    go_region_with
      (first
        | (go_at_call 7; with_reducible refine HXa.out.mono ?_; rintro e w8 ⟨t3, rfl, er3, gg3, nn3, b8⟩; simp only [cs1]; have bz := HBd.out.trans (b8.mono HBd.out.size); have HYb := Lib.hid (HTB.out w8 (HB7.out.trans (bz.mono HB7.out.size))); have HF := Lib.hid (And.intro er3 (And.intro gg3 (And.intro nn3 bz))); obtain ⟨j0, j1, j2, j3, j4, j5, j6, j7⟩ := eight_has2 (HX7.out.2.below bz HX7.out.2.lt); clear er3 gg3 nn3 b8 bz HXa HYa)
        | (go_at_call 7; with_reducible refine HYa.out.mono ?_; rintro e w8 ⟨t4, rfl, er4, gg4, nn4, b8⟩; simp only [cs1]; have bz := HBd.out.trans (b8.mono HBd.out.size); have HXb := Lib.hid (HTA.out w8 (HB7.out.trans (bz.mono HB7.out.size))); have HF := Lib.hid (And.intro er4 (And.intro gg4 (And.intro nn4 bz))); obtain ⟨j0, j1, j2, j3, j4, j5, j6, j7⟩ := eight_has2 (HX7.out.1.below bz HX7.out.1.lt); clear er4 gg4 nn4 b8 bz HXa HYa)
        | (go_at_call 7; with_reducible refine HYb.out.mono ?_; rintro e w9 ⟨t4, rfl, er4, gg4, nn4, b9⟩; simp only [cs1]; have hv := vars_two HV3.out HF.out.1 er4 HF.out.2.1 gg4 w9 (HF.out.2.2.1.in_.below b9) nn4.in_; have HV := Lib.hid hv; have HB9 := Lib.hid (HF.out.2.2.2.trans (b9.mono HF.out.2.2.2.size)); clear er4 gg4 nn4 b9 hv HYb HF)
        | (go_at_call 7; with_reducible refine HXb.out.mono ?_; rintro e w9 ⟨t3, rfl, er3, gg3, nn3, b9⟩; simp only [cs1]; have hv := vars_two HV3.out er3 HF.out.1 gg3 HF.out.2.1 w9 nn3.in_ (HF.out.2.2.1.in_.below b9); have HV := Lib.hid hv; have HB9 := Lib.hid (HF.out.2.2.2.trans (b9.mono HF.out.2.2.2.size)); clear er3 gg3 nn3 b9 hv HXb HF)
        | (go_at_call 12; with_reducible refine HV.out.mono ?_; rintro e w10 ⟨⟨A8, c8, rfl, sL⟩, b10⟩; have HL := Lib.hid (And.intro sL (HB9.out.trans (b10.mono HB9.out.size))); clear sL b10 HV))
    all_goals
      go_wp2_with fail
      go_meet
      exact ⟨A8, c8, rfl, HL.out⟩
  case rest =>
    obtain ⟨A8, c8, rfl, sL, bL⟩ := hcut
    rename World => w8
    have HB8 := Lib.hid (HB7.out.trans (bL.mono HB7.out.size))
    have HL := Lib.hid sL
    have HA8 := Lib.hid (HSA.out.below bL)
    have HBB := Lib.hid (HSB.out.below bL)
    have hcl := sL.cap
    have hca := HSA.out.cap
    have hcb := HSB.out.cap
    clear sL bL HSA HSB HB7 HX7 HTA HTB HV3 HLA HLB
    go_wp2_with fail
    go_loopw [9] (fun i wr => ∃ j : Nat, j ≤ lv.length ∧ i = .int .i64 j ∧ Below w8.heap.size w8 wr) (fun i _ => lv.length - (intOf i).toNat)
    case atStart => exact ⟨0, Nat.zero_le _, rfl, Below.refl _ _⟩
    case round =>
      obtain ⟨j, hj, rfl, hb⟩ := hrel
      have HR := Lib.hid hb
      have HAr := Lib.hid (HA8.out.below hb)
      have HBr := Lib.hid (HBB.out.below hb)
      have HLr := Lib.hid (HL.out.below hb)
      clear hb
      by_cases hlt : j < lv.length
      · obtain ⟨bb, oo, rfl, hc⟩ := HLr.out.shape (by omega)
        have cy := hc j hlt
        have hm := (HV2.out lv[j]).1 (List.getElem_mem _)
        have hord : ∀ q, j = q + 1 → ∃ xq : Nm, wr.cell? ⟨bb, oo + q, none⟩ = some (.string (str xq)) ∧ Op.bytesLess lv[j] xq = false ∧ (lv[j] == xq) = false := by
          intro q hq
          have hql : q < lv.length := by omega
          have hlt2 := (List.pairwise_iff_getElem.1 HV1.out) q j hql hlt (by omega)
          refine ⟨lv[q], hc q hql, ?_, ?_⟩
          · rw [bytesLess_eq, decide_eq_false_iff_not]
            exact fun h => List.lt_irrefl _ (List.lt_trans h hlt2)
          · rw [beq_eq_false_iff_ne]
            exact fun e => List.lt_irrefl lv[q] (by rw [← e] at hlt2 ⊢; rw [e] at hlt2 ⊢; exact hlt2)
        have HO := Lib.hid hord
        obtain ⟨y, hy⟩ : ∃ y, lv[j] = y := ⟨_, rfl⟩
        rw [hy] at cy hm
        have HO2 : Hid (∀ q, j = q + 1 → ∃ xq : Nm, wr.cell? ⟨bb, oo + q, none⟩ = some (.string (str xq)) ∧ Op.bytesLess y xq = false ∧ (y == xq) = false) := Lib.hid (by rw [← hy]; exact HO.out)
        have HM := Lib.hid hm
        have HHA : Hid (∀ u, Strs u A1' c1' la → Calls Tryd.prog 13 #[.slice A1' la.length c1', .string (str y)] u fun e w' => e = .returned (.bool (decide (y ∈ la))) ∧ w' = u) := Lib.hid fun u hu => (has_any la A1' c1' y u hu).mono fun _ _ h => ⟨h.1, h.2.symm⟩
        have HHB : Hid (∀ u, Strs u A2' c2' lb → Calls Tryd.prog 13 #[.slice A2' lb.length c2', .string (str y)] u fun e w' => e = .returned (.bool (decide (y ∈ lb))) ∧ w' = u) := Lib.hid fun u hu => (has_any lb A2' c2' y u hu).mono fun _ _ h => ⟨h.1, h.2.symm⟩
        have hjl : (j : Int) < lv.length := by omega
        clear hc hord hy hm HO HLr
        obtain ⟨dA, hdA⟩ : ∃ dA, decide (y ∈ la) = dA := ⟨_, rfl⟩
        obtain ⟨dB, hdB⟩ : ∃ dB, decide (y ∈ lb) = dB := ⟨_, rfl⟩
        rw [hdA] at HHA
        rw [hdB] at HHB
        have hdd : dA = true ∨ (dA = false ∧ dB = true) := by
          by_cases h : y ∈ la
          · exact .inl (by rw [← hdA]; exact decide_eq_true h)
          · exact .inr ⟨by rw [← hdA]; exact decide_eq_false h, by rw [← hdB]; exact decide_eq_true (HM.out.resolve_left h)⟩
        clear hdA hdB
        have HAq : Hid (∀ m : Nat, Calls Tryd.prog 13 #[.slice A1' la.length c1', .string (str y)] (wr.drewN m) fun e w' => e = .returned (.bool dA) ∧ w' = wr.drewN m) := Lib.hid fun m => HHA.out (wr.drewN m) (HAr.out.below (below_drewN (Below.refl wr.heap.size wr) m))
        have HBq : Hid (∀ m : Nat, Calls Tryd.prog 13 #[.slice A2' lb.length c2', .string (str y)] (wr.drewN m) fun e w' => e = .returned (.bool dB) ∧ w' = wr.drewN m) := Lib.hid fun m => HHB.out (wr.drewN m) (HBr.out.below (below_drewN (Below.refl wr.heap.size wr) m))
        clear HHA HHB HV1 HV2 HA8 HBB HL
        rcases Nat.eq_zero_or_pos j with rfl | hj0
        · have hg : decide ((0 : Int) < ((0 : Nat) : Int)) = false := by decide
          have cd : wr.cell? ⟨bb, oo, none⟩ = some (.string (str y)) := by simpa using cy
          rcases hdd with rfl | ⟨rfl, rfl⟩
          all_goals
            go_wp2_with fail
            go_big_quiet ((go_at_call 13; first | (with_reducible exact Calls.quiet_of_same (HAq.out _)) | (with_reducible exact Calls.quiet_of_same (HBq.out _))))
            all_goals
              go_wp2_with fail
              refine ⟨⟨1, by omega, rfl, below_drewN HR.out _⟩, ?_⟩
              simp [intOf] <;> omega
        · obtain ⟨q, rfl⟩ : ∃ q, j = q + 1 := ⟨j - 1, by omega⟩
          obtain ⟨xq, cx, hl1, hl2⟩ := HO2.out q rfl
          have t1 := str_toList y
          have t2 := str_toList xq
          have hg : decide ((0 : Int) < (q : Int) + 1) = true := by simp <;> omega
          have hg2 : decide ((0 : Int) < ((q + 1 : Nat) : Int)) = true := by simp <;> omega
          have hcmp : (Op.bytesLess (str y).toList (str xq).toList || (str y).toList == (str xq).toList) = false := by rw [t1, t2, hl1, hl2]; rfl
          have hw1 : IntKind.i64.wrap ((q : Int) + 1 - 1) = (q : Int) := by rw [IntKind.wrap_i64]; omega
          have hw2 : IntKind.i64.wrap (q : Int) = (q : Int) := by rw [IntKind.wrap_i64]; omega
          have hql : (q : Int) < lv.length := by omega
          have hql1 : (q : Int) + 1 < lv.length := by omega
          have hqz : (0 : Int) ≤ (q : Int) := by omega
          have hqz1 : (0 : Int) ≤ (q : Int) + 1 := by omega
          rcases hdd with rfl | ⟨rfl, rfl⟩
          all_goals
            go_wp2_with fail
            go_big_quiet ((go_at_call 13; first | (with_reducible exact Calls.quiet_of_same (HAq.out _)) | (with_reducible exact Calls.quiet_of_same (HBq.out _))))
            all_goals
              go_wp2_with fail
              refine ⟨⟨q + 1 + 1, by omega, by first | rfl | go_num, below_drewN HR.out _⟩, ?_⟩
              simp [intOf] <;> omega
      · have hge : ¬ (j : Int) < lv.length := by omega
        have HHL : Hid (∀ y : Nm, y ∈ lv → Calls Tryd.prog 13 #[.slice A8 lv.length c8, .string (str y)] wr fun e w' => e = .returned (.bool true) ∧ w' = wr) := Lib.hid fun y hy => (has_any lv A8 c8 y wr HLr.out).mono fun e w' h => ⟨by rw [h.1, decide_eq_true hy], h.2.symm⟩
        have HMA : Hid (∀ y : Nm, y ∈ la → y ∈ lv) := Lib.hid fun y hy => (HV2.out y).2 (.inl hy)
        have HMB : Hid (∀ y : Nm, y ∈ lb → y ∈ lv) := Lib.hid fun y hy => (HV2.out y).2 (.inr hy)
        have h5 := vars_any (nm 5) wr (in_nm wr 5 (by omega) (by omega)) (by decide)
        rw [show varsT (nm 5) = [] from by kernel_rfl] at h5
        have HV5 : Hid (Calls Tryd.prog 12 #[.agg #[.int .i64 0, .string { data := #[] }, .int .i64 5, .string { data := #[] }, .string { data := #[] }, .slice none 0 0]] wr fun e w' => (∃ A c, e = .returned (.slice A 0 c) ∧ Strs w' A c []) ∧ Below wr.heap.size wr w') := Lib.hid h5
        clear h5 HV1 HV2 HA8 HBB HL HLr hj
        go_wp2_with fail
        go_loop [10] (fun i => ∃ k : Nat, k ≤ la.length ∧ i = .int .i64 k) (fun i => la.length - (intOf i).toNat)
        case atStart => exact ⟨0, Nat.zero_le _, rfl⟩
        case round =>
          obtain ⟨k, hk, rfl⟩ := hrel
          by_cases hkl : k < la.length
          · obtain ⟨ab, ao, rfl, hc⟩ := HAr.out.shape (by omega)
            have cy := hc k hkl
            have hm := HHL.out la[k] (HMA.out _ (List.getElem_mem _))
            obtain ⟨y, hy⟩ : ∃ y, la[k] = y := ⟨_, rfl⟩
            rw [hy] at cy hm
            have HM := Lib.hid hm
            have hkI : (k : Int) < la.length := by omega
            clear hc hm hy
            go_wp2_with (go_at_call 13; refine HM.out.mono ?_; rintro e w' ⟨rfl, rfl⟩)
            go_round
            case rel => exact ⟨k + 1, by omega, by go_num⟩
            case measure => simp [intOf]; omega
          · have hkn : ¬ (k : Int) < la.length := by omega
            go_wp2_with fail
            go_loop [11] (fun i => ∃ k : Nat, k ≤ lb.length ∧ i = .int .i64 k) (fun i => lb.length - (intOf i).toNat)
            case atStart => exact ⟨0, Nat.zero_le _, rfl⟩
            case round =>
              obtain ⟨k', hk', rfl⟩ := hrel
              by_cases hkl' : k' < lb.length
              · obtain ⟨ab, ao, rfl, hc⟩ := HBr.out.shape (by omega)
                have cy := hc k' hkl'
                have hm := HHL.out lb[k'] (HMB.out _ (List.getElem_mem _))
                obtain ⟨y, hy⟩ : ∃ y, lb[k'] = y := ⟨_, rfl⟩
                rw [hy] at cy hm
                have HM := Lib.hid hm
                have hkI : (k' : Int) < lb.length := by omega
                clear hc hm hy
                go_wp2_with (go_at_call 13; refine HM.out.mono ?_; rintro e w' ⟨rfl, rfl⟩)
                go_round
                case rel => exact ⟨k' + 1, by omega, by go_num⟩
                case measure => simp [intOf]; omega
              · have hkn' : ¬ (k' : Int) < lb.length := by omega
                go_wp2_with (go_at_call 12; refine HV5.out.mono ?_; rintro e w10 ⟨⟨A9, c9, rfl, -⟩, b10⟩)
                go_ret
                exact ⟨rfl, HB8.out.trans ((HR.out.trans (b10.mono HR.out.size)).mono HB8.out.size)⟩
end Go.Proofs.YtbhjimlikffalaaDoor
