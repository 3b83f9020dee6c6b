/- ExprTypes' walk. -/
import Derived.Test.YtaiohdcngkkafaaDoorExTypM
namespace Go.Proofs.YtaiohdcngkkafaaDoor
open Go.RowKit
set_option linter.unusedVariables false

theorem eight_has {w : World} {q : Nat} {t : TypeId} {u0 u1 u2 u3 u4 u5 u6 u7 : Value} (h : Has w q t #[u0, u1, u2, u3, u4, u5, u6, u7]) : w.cell? ⟨q, 0, none⟩ = some u0 ∧ w.cell? ⟨q, 1, none⟩ = some u1 ∧ w.cell? ⟨q, 2, none⟩ = some u2 ∧ w.cell? ⟨q, 3, none⟩ = some u3 ∧ w.cell? ⟨q, 4, none⟩ = some u4 ∧ w.cell? ⟨q, 5, none⟩ = some u5 ∧ w.cell? ⟨q, 6, none⟩ = some u6 ∧ w.cell? ⟨q, 7, none⟩ = some u7 :=
  ⟨h.cell 0, h.cell 1, h.cell 2, h.cell 3, h.cell 4, h.cell 5, h.cell 6, h.cell 7⟩
theorem nw_kid2 {N : Nat} {w : World} {t : ET} (h : Nw N w t) (i : Nat) (hi : i < t.ks.length) : Nw N w t.ks[i] ∧ ∃ b off, t.A = some ⟨b, off, none⟩ ∧ N ≤ b ∧ b < w.heap.size ∧ w.cell? ⟨b, off + i * 6, none⟩ = some (.int .i64 t.ks[i].k) ∧ w.cell? ⟨b, off + i * 6 + 1, none⟩ = some (.string (str t.ks[i].op)) ∧ w.cell? ⟨b, off + i * 6 + 2, none⟩ = some (.int .i64 t.ks[i].n)
    ∧ w.cell? ⟨b, off + i * 6 + 3, none⟩ = some (.string (str t.ks[i].v)) ∧ w.cell? ⟨b, off + i * 6 + 4, none⟩ = some (.string (str t.ks[i].f)) ∧ w.cell? ⟨b, off + i * 6 + 5, none⟩ = some (.slice t.ks[i].A t.ks[i].ks.length t.ks[i].c) := by
  obtain ⟨k, op, n, v, f, A, c, ks⟩ := t
  exact nw_kid h i hi
theorem len_two2 {α : Type} {l : List α} (h : l.length = 2) : ∃ x y, l = [x, y] := by
  match l, h with
  | [x, y], _ => exact ⟨x, y, rfl⟩
theorem kids_typ2 {t : ET} (hr : rightT t = true) (ht : typT t = 2) (hl : t.ks.length = 2) : (rightT (t.ks[0]'(by omega)) = true ∧ (typT (t.ks[0]'(by omega)) = 1 ∨ typT (t.ks[0]'(by omega)) = 2)) ∧ (rightT (t.ks[1]'(by omega)) = true ∧ (typT (t.ks[1]'(by omega)) = 1 ∨ typT (t.ks[1]'(by omega)) = 2)) := by
  obtain ⟨k, op, n, v, f, A, c, ks⟩ := t
  obtain ⟨p, q, rfl⟩ := len_two2 (show ks.length = 2 from hl)
  obtain ⟨h1, h2, h3, h4⟩ := kids_typ hr ht
  exact ⟨⟨h1, h3⟩, h2, h4⟩
theorem strs_heap {w w' : World} {A : Option Addr} {c : Nat} {l : List Nm} (h : Strs w A c l) (hb : ∀ a, A = some a → w'.heap[a.block]? = w.heap[a.block]?) : Strs w' A c l := by
  refine ⟨fun i u hu => ?_, h.2⟩
  obtain ⟨x, e, hx⟩ := h.1 i u hu
  have eb : (x.add i).block = x.block := by simp only [Addr.add]; split <;> rfl
  exact ⟨x, e, (World.cell?_of_block (by rw [eb]; exact hb x e)).trans hx⟩
theorem block6 {w : World} {q : Nat} {t : TypeId} {cs : Array Value} (h : Has w q t cs) : w.heap[q]? = some (.cells cs t (0, 0)) := h
set_option maxRecDepth 100000 in
set_option maxHeartbeats 32000000 in
theorem types_any (k1 n1 : Int) (op1 v1 f1 : Nm) (A1 : Option Addr) (m1 c1 : Nat) (o1 : Bool) (x1 : Option Addr) (len1 cap1 : Nat) (z1 : List Int) (k2 n2 : Int) (op2 v2 f2 : Nm) (A2 : Option Addr) (m2 c2 : Nat) (o2 : Bool) (x2 : Option Addr) (len2 cap2 : Nat) (z2 : List Int) (K : Int) (numbers : Bool) (hK0 : 0 ≤ K) (hK1 : K ≤ 255) (w : World) (r1 : IsRow .u8 w x1 len1 cap1 z1) (hz1 : ∀ n ∈ z1, 0 ≤ n ∧ n ≤ 255) (r2 : IsRow .u8 w x2 len2 cap2 z2) (hz2 : ∀ n ∈ z2, 0 ≤ n ∧ n ≤ 255) (hT : Tabs w) :
    Calls Tryd.prog 5 #[.agg #[.int .i64 k1, .string (str op1), .int .i64 n1, .string (str v1), .string (str f1), .slice A1 m1 c1, .bool o1, .slice x1 len1 cap1], .agg #[.int .i64 k2, .string (str op2), .int .i64 n2, .string (str v2), .string (str f2), .slice A2 m2 c2, .bool o2, .slice x2 len2 cap2], .int .u8 K, .bool numbers] w fun e w' => e = .returned (.bool true) ∧ Below w.heap.size w w' := by
  obtain ⟨W0, hW0⟩ : ∃ W0, (w.alloc (.cells #[.int .i64 k1, .string (str op1), .int .i64 n1, .string (str v1), .string (str f1), .slice A1 m1 c1, .bool o1, .slice x1 len1 cap1] 27)).alloc (.cells #[.int .i64 k2, .string (str op2), .int .i64 n2, .string (str v2), .string (str f2), .slice A2 m2 c2, .bool o2, .slice x2 len2 cap2] 27) = W0 := ⟨_, rfl⟩
  have b0 : Below w.heap.size w W0 := by rw [← hW0]; exact ((Below.refl _ _).alloc (Nat.le_refl _) _).alloc (by simp) _
  have hx0 : Has W0 w.heap.size 27 #[.int .i64 k1, .string (str op1), .int .i64 n1, .string (str v1), .string (str f1), .slice A1 m1 c1, .bool o1, .slice x1 len1 cap1] := by rw [← hW0]; exact (has_at rfl rfl : Has (w.alloc (.cells #[.int .i64 k1, .string (str op1), .int .i64 n1, .string (str v1), .string (str f1), .slice A1 m1 c1, .bool o1, .slice x1 len1 cap1] 27)) w.heap.size 27 #[.int .i64 k1, .string (str op1), .int .i64 n1, .string (str v1), .string (str f1), .slice A1 m1 c1, .bool o1, .slice x1 len1 cap1]).below (step1 _ _) (by simp)
  have hy0 : Has W0 (w.heap.size + 1) 27 #[.int .i64 k2, .string (str op2), .int .i64 n2, .string (str v2), .string (str f2), .slice A2 m2 c2, .bool o2, .slice x2 len2 cap2] := by rw [← hW0]; exact has_at rfl (by simp)
  have HEX := Lib.hid (ex_any W0 (hT.below b0))
  have HX0 := Lib.hid (And.intro hx0 hy0)
  have HB0 := Lib.hid b0
  have HR := Lib.hid (And.intro (And.intro r1 hz1) (And.intro r2 hz2))
  have HT := Lib.hid hT
  have HW0 := Lib.hid hW0
  obtain ⟨j, hj⟩ : ∃ j : Nat, K % 13 = (j : Int) := ⟨(K % 13).toNat, by omega⟩
  have hKm : K.tmod 13 = (j : Int) := by rw [Int.tmod_eq_emod_of_nonneg hK0]; exact hj
  have hj13 : j < 13 := by omega
  obtain ⟨op, cl, ho, hol, ho1, hcl⟩ := ops13_at j hj13
  have HO := Lib.hid (And.intro ho (And.intro hol (And.intro ho1 hcl)))
  clear hx0 hy0 b0 r1 r2 hz1 hz2 hT hW0 hj ho hol ho1 hcl
  go_enter Tryd.func5, Tryd.ntmps5
  go_wp2_with fail
  rw [HW0.out]
  refine HEX.out.mono ?_
  rintro e w1 ⟨rfl, b1⟩
  go_wp2_with fail
  refine (ops_any w1).mono ?_
  rintro e w2 ⟨A, rfl, hS, b2⟩
  have b12 := b1.trans (b2.mono b1.size)
  have hx2 := HX0.out.1.below b12 HX0.out.1.lt
  have hy2 := HX0.out.2.below b12 HX0.out.2.lt
  have bw2 := HB0.out.trans (b12.mono HB0.out.size)
  have hAx := strs_other hS hx2 (by simp)
  have hAy := strs_other hS hy2 (by simp)
  obtain ⟨u6, hu6⟩ : ∃ u : World, w2.setCell ⟨w.heap.size, 6, none⟩ (.bool true) = u := ⟨_, rfl⟩
  have hx3 : Has u6 w.heap.size 27 #[.int .i64 k1, .string (str op1), .int .i64 n1, .string (str v1), .string (str f1), .slice A1 m1 c1, .bool true, .slice x1 len1 cap1] := by rw [← hu6]; exact hx2.put 6 (.bool true)
  have fr6 : FrP w.heap.size w2 u6 := by rw [← hu6]; exact FrP.set hx2.lt 6 (.bool true)
  have hy3 : Has u6 (w.heap.size + 1) 27 #[.int .i64 k2, .string (str op2), .int .i64 n2, .string (str v2), .string (str f2), .slice A2 m2 c2, .bool o2, .slice x2 len2 cap2] := fr6.has hy2 (by omega)
  obtain ⟨W3, hW3⟩ : ∃ u : World, u6.setCell ⟨w.heap.size + 1, 6, none⟩ (.bool true) = u := ⟨_, rfl⟩
  have hy4 : Has W3 (w.heap.size + 1) 27 #[.int .i64 k2, .string (str op2), .int .i64 n2, .string (str v2), .string (str f2), .slice A2 m2 c2, .bool true, .slice x2 len2 cap2] := by rw [← hW3]; exact hy3.put 6 (.bool true)
  have fr7 : FrP (w.heap.size + 1) u6 W3 := by rw [← hW3]; exact FrP.set hy3.lt 6 (.bool true)
  have hx4 : Has W3 w.heap.size 27 #[.int .i64 k1, .string (str op1), .int .i64 n1, .string (str v1), .string (str f1), .slice A1 m1 c1, .bool true, .slice x1 len1 cap1] := fr7.has hx3 (by omega)
  have hS3 : Strs W3 A 13 opsL := by
    rw [← hW3, ← hu6]
    exact (hS.set _ _ (fun a ha => hAx a ha)).set _ _ (fun a ha => hAy a ha)
  have bw3 : Below w.heap.size w W3 := by rw [← hW3, ← hu6]; exact (bw2.setCell (p := ⟨w.heap.size, 6, none⟩) (Nat.le_refl _) _).setCell (p := ⟨w.heap.size + 1, 6, none⟩) (by simp) _
  have hc1 := tree_any k1 n1 op1 v1 f1 A1 m1 c1 x1 len1 cap1 z1 W3 (HR.out.1.1.below bw3) HR.out.1.2
  have HC1 := Lib.hid hc1
  have HS3 := Lib.hid hS3
  have HB3 := Lib.hid bw3
  have HXY := Lib.hid (And.intro hx4 hy4)
  have hu6' := hu6
  have hW3' := hW3
  have hT3 := Lib.hid (HT.out.below bw3)
  obtain ⟨p0, p1, p2, p3, p4, p5, p6, p7⟩ := eight_has hx2
  obtain ⟨q0, q1, q2, q3, q4, q5, q6, q7⟩ := eight_has hy3
  obtain ⟨s0, s1, s2, s3, s4, s5, s6, s7⟩ := eight_has hx4
  have g6 : w2.frozen? ⟨w.heap.size, 6, none⟩ = false := hx2.free 6
  have g7 : u6.frozen? ⟨w.heap.size + 1, 6, none⟩ = false := hy3.free 6
  clear b1 b2 b12 hx2 hy2 bw2 hAx hAy hx3 fr6 hy3 hy4 fr7 hx4 hS3 bw3 hc1 hu6 hW3 hS
  go_wp2_with fail
  refine HC1.out.mono ?_
  clear p0 p1 p2 p3 p4 p5 p6 p7 q0 q1 q2 q3 q4 q5 q6 q7 s0 s1 s2 s3 s4 s5 s6 s7 g6 g7 hu6' hW3' HC1 HX0 HEX
  rintro e w4 ⟨t1, rfl, gg1, nn1, b4⟩
  simp only [cs1]
  obtain ⟨Wa, hWa⟩ : ∃ u, w4.alloc (.cells #[.int .i64 t1.k, .string (str t1.op), .int .i64 t1.n, .string (str t1.v), .string (str t1.f), .slice t1.A t1.ks.length t1.c] 24) = u := ⟨_, rfl⟩
  have sa : Below w4.heap.size w4 Wa := by rw [← hWa]; exact step1 _ _
  have ha4 : Has Wa w4.heap.size 24 (cs1 t1) := by rw [← hWa]; exact has_at rfl rfl
  have za : Wa.heap.size = w4.heap.size + 1 := by rw [← hWa]; simp
  have b4a := b4.trans (sa.mono b4.size)
  have bwa := HB3.out.trans (b4a.mono HB3.out.size)
  have hya := HXY.out.2.below b4a HXY.out.2.lt
  have hc2 := tree_any k2 n2 op2 v2 f2 A2 m2 c2 x2 len2 cap2 z2 Wa (HR.out.2.1.below bwa) HR.out.2.2
  have HC2 := Lib.hid hc2
  have HSa := Lib.hid (HS3.out.below b4a)
  have HBa := Lib.hid bwa
  have HTa := Lib.hid (hT3.out.below b4a)
  have HN1 := Lib.hid (And.intro gg1 (And.intro (nn1.below (Nat.le_refl _) sa) (And.intro ha4 za)))
  have HN4 := Lib.hid (And.intro nn1 (And.intro sa b4))
  have H0 := Lib.hid (show w.heap.size ≤ W3.heap.size from HB3.out.size)
  obtain ⟨q0, q1, q2, q3, q4, q5, q6, q7⟩ := eight_has hya
  clear sa ha4 za b4 b4a bwa hya hc2 HS3 HB3 hT3 HXY gg1 nn1
  go_wp2_with fail
  refine HC2.out.mono ?_
  clear q0 q1 q2 q3 q4 q5 q6 q7 hWa HC2
  rintro e w5 ⟨t2, rfl, gg2, nn2, b5⟩
  simp only [cs1]
  obtain ⟨Wb, hWb⟩ : ∃ u, w5.alloc (.cells #[.int .i64 t2.k, .string (str t2.op), .int .i64 t2.n, .string (str t2.v), .string (str t2.f), .slice t2.A t2.ks.length t2.c] 24) = u := ⟨_, rfl⟩
  have sb : Below w5.heap.size w5 Wb := by rw [← hWb]; exact step1 _ _
  have hb5 : Has Wb w5.heap.size 24 (cs1 t2) := by rw [← hWb]; exact has_at rfl rfl
  have zb : Wb.heap.size = w5.heap.size + 1 := by rw [← hWb]; simp
  have b5b := b5.trans (sb.mono b5.size)
  have ty : Ty w w4.heap.size w5.heap.size A t1 t2 Wb := ⟨HN1.out.2.2.1.below b5b HN1.out.2.2.1.lt, hb5, (HN1.out.2.1.below (Nat.le_refl _) b5b).in_, (nn2.below (Nat.le_refl _) sb).in_, HN1.out.1.1, gg2.1, HSa.out.below b5b, HTa.out.below b5b, HBa.out.trans (b5b.mono HBa.out.size)⟩
  have HTy := Lib.hid ty
  have HN2 := Lib.hid (And.intro gg2 (And.intro nn2 (And.intro b5 (And.intro sb zb))))
  have hl45 : w4.heap.size < w5.heap.size := by have := b5.size; have := HN1.out.2.2.2; omega
  clear sb hb5 zb b5b ty gg2 nn2 b5 HTa HBa HSa
  obtain ⟨bA, oA, hAe, hcA⟩ := HTy.out.ops.shape (by decide)
  subst hAe
  have cA : Wb.cell? ⟨bA, oA + j, none⟩ = some (.string (str op)) := by
    have hjl : j < opsL.length := hj13
    have := hcA j hjl
    rw [show opsL[j] = op from Option.some.inj ((List.getElem?_eq_getElem hjl).symm.trans HO.out.1)] at this
    exact this
  clear hcA
  obtain ⟨a0, a1, a2, a3, a4, a5⟩ : six Wb w4.heap.size t1.k t1.op t1.n t1.v t1.f t1.A t1.ks.length t1.c := six_has HTy.out.ha
  obtain ⟨c0, c1', c2', c3, c4, c5⟩ : six Wb w5.heap.size t2.k t2.op t2.n t2.v t2.f t2.A t2.ks.length t2.c := six_has HTy.out.hb
  have hjI : (j : Int) < 13 := by omega
  have hjz : (0 : Int) ≤ (j : Int) := by omega
  cases numbers with
  | false =>
    go_wp2_with fail
    clear a0 a1 a2 a3 a4 a5 c0 c1' c2' c3 c4 c5 cA
    have hta := HN1.out.1.2.1
    have htb := HN2.out.1.2.1
    rcases HO.out.2.2.2 with ⟨-, x1, x2, x3⟩ | ⟨-, x1, x2, x3, x4⟩ | ⟨-, x1, x2, x3, x4, x5⟩ | ⟨-, x1, x2, x3, x4, x5⟩
    · have hgot : typeT (.mk 3 op 0 [] [] (some ⟨Wb.heap.size, 0, none⟩) 2 [t1, t2]) = 2 := by rw [type_two HO.out.2.2.1 HTy.out.ra HTy.out.rb x2, hta, htb]; decide
      clear x2 x3
      have hT1 := type_any (.mk 3 op 0 [] [] (some ⟨Wb.heap.size, 0, none⟩) 2 [t1, t2]) (Wb.alloc (.cells (cs2 t1 t2) 24)) (in2 3 op 0 [] [] 2 (has_at rfl rfl) (HTy.out.ia.below (step1 _ _)) (HTy.out.ib.below (step1 _ _)) (okE_small _ _ _ _ HO.out.2.1 (by omega) (by omega))) (HTy.out.tabs.below (step1 _ _))
      rw [hgot] at hT1
      have HT1 : Hid (Calls Tryd.prog 16 #[.agg #[.int .i64 3, .string (str op), .int .i64 0, .string { data := #[] }, .string { data := #[] }, .slice (some ⟨Wb.heap.size, 0, none⟩) 2 2]] (Wb.alloc (.cells #[.int .i64 t1.k, .string (str t1.op), .int .i64 t1.n, .string (str t1.v), .string (str t1.f), .slice t1.A t1.ks.length t1.c, .int .i64 t2.k, .string (str t2.op), .int .i64 t2.n, .string (str t2.v), .string (str t2.f), .slice t2.A t2.ks.length t2.c] 24)) fun e w' => e = .returned (.int .i64 2) ∧ Below (Wb.alloc (.cells #[.int .i64 t1.k, .string (str t1.op), .int .i64 t1.n, .string (str t1.v), .string (str t1.f), .slice t1.A t1.ks.length t1.c, .int .i64 t2.k, .string (str t2.op), .int .i64 t2.n, .string (str t2.v), .string (str t2.f), .slice t2.A t2.ks.length t2.c] 24)).heap.size (Wb.alloc (.cells #[.int .i64 t1.k, .string (str t1.op), .int .i64 t1.n, .string (str t1.v), .string (str t1.f), .slice t1.A t1.ks.length t1.c, .int .i64 t2.k, .string (str t2.op), .int .i64 t2.n, .string (str t2.v), .string (str t2.f), .slice t2.A t2.ks.length t2.c] 24)) w') := Lib.hid hT1
      clear hT1
      refine HT1.out.mono ?_
      clear HT1
      rintro e w6 ⟨rfl, b6⟩
      have HT6 := Lib.hid (HTy.out.below ((step1 Wb (.cells #[.int .i64 t1.k, .string (str t1.op), .int .i64 t1.n, .string (str t1.v), .string (str t1.f), .slice t1.A t1.ks.length t1.c, .int .i64 t2.k, .string (str t2.op), .int .i64 t2.n, .string (str t2.v), .string (str t2.f), .slice t2.A t2.ks.length t2.c] 24)).trans (b6.mono (step1 Wb (.cells #[.int .i64 t1.k, .string (str t1.op), .int .i64 t1.n, .string (str t1.v), .string (str t1.f), .slice t1.A t1.ks.length t1.c, .int .i64 t2.k, .string (str t2.op), .int .i64 t2.n, .string (str t2.v), .string (str t2.f), .slice t2.A t2.ks.length t2.c] 24)).size)))
      clear b6
      obtain ⟨y0, y1, y2, y3, y4, y5⟩ : six w6 w4.heap.size t1.k t1.op t1.n t1.v t1.f t1.A t1.ks.length t1.c := six_has HT6.out.ha
      go_wp2_with fail
      have hT2 := type_any t1 w6 HT6.out.ia HT6.out.tabs
      rw [typ_of HT6.out.ra, hta] at hT2
      have HT2 : Hid (Calls Tryd.prog 16 #[.agg #[.int .i64 t1.k, .string (str t1.op), .int .i64 t1.n, .string (str t1.v), .string (str t1.f), .slice t1.A t1.ks.length t1.c]] w6 fun e w' => e = .returned (.int .i64 2) ∧ Below w6.heap.size w6 w') := Lib.hid hT2
      clear hT2 y0 y1 y2 y3 y4 y5
      refine HT2.out.mono ?_
      clear HT2
      rintro e w7 ⟨rfl, b7⟩
      have HT7 := Lib.hid (HT6.out.below b7)
      clear b7
      obtain ⟨y0, y1, y2, y3, y4, y5⟩ : six w7 w5.heap.size t2.k t2.op t2.n t2.v t2.f t2.A t2.ks.length t2.c := six_has HT7.out.hb
      go_wp2_with fail
      have hT3 := type_any t2 w7 HT7.out.ib HT7.out.tabs
      rw [typ_of HT7.out.rb, htb] at hT3
      have HT3 : Hid (Calls Tryd.prog 16 #[.agg #[.int .i64 t2.k, .string (str t2.op), .int .i64 t2.n, .string (str t2.v), .string (str t2.f), .slice t2.A t2.ks.length t2.c]] w7 fun e w' => e = .returned (.int .i64 2) ∧ Below w7.heap.size w7 w') := Lib.hid hT3
      clear hT3 y0 y1 y2 y3 y4 y5
      refine HT3.out.mono ?_
      clear HT3
      rintro e w8 ⟨rfl, b8⟩
      have HT8 := Lib.hid (HT7.out.below b8)
      clear b8
      have e1 := str_toList op
      go_wp2_with fail
      go_ret
      exact ⟨rfl, HT8.out.bel⟩
    · have hgot : typeT (.mk 3 op 0 [] [] (some ⟨Wb.heap.size, 0, none⟩) 2 [t1, t2]) = 2 := by rw [type_two HO.out.2.2.1 HTy.out.ra HTy.out.rb x3, hta, htb]; decide
      clear x3 x4
      have hT1 := type_any (.mk 3 op 0 [] [] (some ⟨Wb.heap.size, 0, none⟩) 2 [t1, t2]) (Wb.alloc (.cells (cs2 t1 t2) 24)) (in2 3 op 0 [] [] 2 (has_at rfl rfl) (HTy.out.ia.below (step1 _ _)) (HTy.out.ib.below (step1 _ _)) (okE_small _ _ _ _ HO.out.2.1 (by omega) (by omega))) (HTy.out.tabs.below (step1 _ _))
      rw [hgot] at hT1
      have HT1 : Hid (Calls Tryd.prog 16 #[.agg #[.int .i64 3, .string (str op), .int .i64 0, .string { data := #[] }, .string { data := #[] }, .slice (some ⟨Wb.heap.size, 0, none⟩) 2 2]] (Wb.alloc (.cells #[.int .i64 t1.k, .string (str t1.op), .int .i64 t1.n, .string (str t1.v), .string (str t1.f), .slice t1.A t1.ks.length t1.c, .int .i64 t2.k, .string (str t2.op), .int .i64 t2.n, .string (str t2.v), .string (str t2.f), .slice t2.A t2.ks.length t2.c] 24)) fun e w' => e = .returned (.int .i64 2) ∧ Below (Wb.alloc (.cells #[.int .i64 t1.k, .string (str t1.op), .int .i64 t1.n, .string (str t1.v), .string (str t1.f), .slice t1.A t1.ks.length t1.c, .int .i64 t2.k, .string (str t2.op), .int .i64 t2.n, .string (str t2.v), .string (str t2.f), .slice t2.A t2.ks.length t2.c] 24)).heap.size (Wb.alloc (.cells #[.int .i64 t1.k, .string (str t1.op), .int .i64 t1.n, .string (str t1.v), .string (str t1.f), .slice t1.A t1.ks.length t1.c, .int .i64 t2.k, .string (str t2.op), .int .i64 t2.n, .string (str t2.v), .string (str t2.f), .slice t2.A t2.ks.length t2.c] 24)) w') := Lib.hid hT1
      clear hT1
      refine HT1.out.mono ?_
      clear HT1
      rintro e w6 ⟨rfl, b6⟩
      have HT6 := Lib.hid (HTy.out.below ((step1 Wb (.cells #[.int .i64 t1.k, .string (str t1.op), .int .i64 t1.n, .string (str t1.v), .string (str t1.f), .slice t1.A t1.ks.length t1.c, .int .i64 t2.k, .string (str t2.op), .int .i64 t2.n, .string (str t2.v), .string (str t2.f), .slice t2.A t2.ks.length t2.c] 24)).trans (b6.mono (step1 Wb (.cells #[.int .i64 t1.k, .string (str t1.op), .int .i64 t1.n, .string (str t1.v), .string (str t1.f), .slice t1.A t1.ks.length t1.c, .int .i64 t2.k, .string (str t2.op), .int .i64 t2.n, .string (str t2.v), .string (str t2.f), .slice t2.A t2.ks.length t2.c] 24)).size)))
      clear b6
      obtain ⟨y0, y1, y2, y3, y4, y5⟩ : six w6 w4.heap.size t1.k t1.op t1.n t1.v t1.f t1.A t1.ks.length t1.c := six_has HT6.out.ha
      go_wp2_with fail
      have hT2 := type_any t1 w6 HT6.out.ia HT6.out.tabs
      rw [typ_of HT6.out.ra, hta] at hT2
      have HT2 : Hid (Calls Tryd.prog 16 #[.agg #[.int .i64 t1.k, .string (str t1.op), .int .i64 t1.n, .string (str t1.v), .string (str t1.f), .slice t1.A t1.ks.length t1.c]] w6 fun e w' => e = .returned (.int .i64 2) ∧ Below w6.heap.size w6 w') := Lib.hid hT2
      clear hT2 y0 y1 y2 y3 y4 y5
      refine HT2.out.mono ?_
      clear HT2
      rintro e w7 ⟨rfl, b7⟩
      have HT7 := Lib.hid (HT6.out.below b7)
      clear b7
      obtain ⟨y0, y1, y2, y3, y4, y5⟩ : six w7 w5.heap.size t2.k t2.op t2.n t2.v t2.f t2.A t2.ks.length t2.c := six_has HT7.out.hb
      go_wp2_with fail
      have hT3 := type_any t2 w7 HT7.out.ib HT7.out.tabs
      rw [typ_of HT7.out.rb, htb] at hT3
      have HT3 : Hid (Calls Tryd.prog 16 #[.agg #[.int .i64 t2.k, .string (str t2.op), .int .i64 t2.n, .string (str t2.v), .string (str t2.f), .slice t2.A t2.ks.length t2.c]] w7 fun e w' => e = .returned (.int .i64 2) ∧ Below w7.heap.size w7 w') := Lib.hid hT3
      clear hT3 y0 y1 y2 y3 y4 y5
      refine HT3.out.mono ?_
      clear HT3
      rintro e w8 ⟨rfl, b8⟩
      have HT8 := Lib.hid (HT7.out.below b8)
      clear b8
      have e1 := str_toList op
      go_wp2_with fail
      go_ret
      exact ⟨rfl, HT8.out.bel⟩
    · have hgot : typeT (.mk 3 op 0 [] [] (some ⟨Wb.heap.size, 0, none⟩) 2 [t1, t2]) = 0 := by rw [type_two HO.out.2.2.1 HTy.out.ra HTy.out.rb x3, hta, htb]; decide
      clear x3 x4 x5
      have hT1 := type_any (.mk 3 op 0 [] [] (some ⟨Wb.heap.size, 0, none⟩) 2 [t1, t2]) (Wb.alloc (.cells (cs2 t1 t2) 24)) (in2 3 op 0 [] [] 2 (has_at rfl rfl) (HTy.out.ia.below (step1 _ _)) (HTy.out.ib.below (step1 _ _)) (okE_small _ _ _ _ HO.out.2.1 (by omega) (by omega))) (HTy.out.tabs.below (step1 _ _))
      rw [hgot] at hT1
      have HT1 : Hid (Calls Tryd.prog 16 #[.agg #[.int .i64 3, .string (str op), .int .i64 0, .string { data := #[] }, .string { data := #[] }, .slice (some ⟨Wb.heap.size, 0, none⟩) 2 2]] (Wb.alloc (.cells #[.int .i64 t1.k, .string (str t1.op), .int .i64 t1.n, .string (str t1.v), .string (str t1.f), .slice t1.A t1.ks.length t1.c, .int .i64 t2.k, .string (str t2.op), .int .i64 t2.n, .string (str t2.v), .string (str t2.f), .slice t2.A t2.ks.length t2.c] 24)) fun e w' => e = .returned (.int .i64 0) ∧ Below (Wb.alloc (.cells #[.int .i64 t1.k, .string (str t1.op), .int .i64 t1.n, .string (str t1.v), .string (str t1.f), .slice t1.A t1.ks.length t1.c, .int .i64 t2.k, .string (str t2.op), .int .i64 t2.n, .string (str t2.v), .string (str t2.f), .slice t2.A t2.ks.length t2.c] 24)).heap.size (Wb.alloc (.cells #[.int .i64 t1.k, .string (str t1.op), .int .i64 t1.n, .string (str t1.v), .string (str t1.f), .slice t1.A t1.ks.length t1.c, .int .i64 t2.k, .string (str t2.op), .int .i64 t2.n, .string (str t2.v), .string (str t2.f), .slice t2.A t2.ks.length t2.c] 24)) w') := Lib.hid hT1
      clear hT1
      refine HT1.out.mono ?_
      clear HT1
      rintro e w6 ⟨rfl, b6⟩
      have HT6 := Lib.hid (HTy.out.below ((step1 Wb (.cells #[.int .i64 t1.k, .string (str t1.op), .int .i64 t1.n, .string (str t1.v), .string (str t1.f), .slice t1.A t1.ks.length t1.c, .int .i64 t2.k, .string (str t2.op), .int .i64 t2.n, .string (str t2.v), .string (str t2.f), .slice t2.A t2.ks.length t2.c] 24)).trans (b6.mono (step1 Wb (.cells #[.int .i64 t1.k, .string (str t1.op), .int .i64 t1.n, .string (str t1.v), .string (str t1.f), .slice t1.A t1.ks.length t1.c, .int .i64 t2.k, .string (str t2.op), .int .i64 t2.n, .string (str t2.v), .string (str t2.f), .slice t2.A t2.ks.length t2.c] 24)).size)))
      clear b6
      obtain ⟨y0, y1, y2, y3, y4, y5⟩ : six w6 w4.heap.size t1.k t1.op t1.n t1.v t1.f t1.A t1.ks.length t1.c := six_has HT6.out.ha
      go_wp2_with fail
      have hT2 := type_any t1 w6 HT6.out.ia HT6.out.tabs
      rw [typ_of HT6.out.ra, hta] at hT2
      have HT2 : Hid (Calls Tryd.prog 16 #[.agg #[.int .i64 t1.k, .string (str t1.op), .int .i64 t1.n, .string (str t1.v), .string (str t1.f), .slice t1.A t1.ks.length t1.c]] w6 fun e w' => e = .returned (.int .i64 2) ∧ Below w6.heap.size w6 w') := Lib.hid hT2
      clear hT2 y0 y1 y2 y3 y4 y5
      refine HT2.out.mono ?_
      clear HT2
      rintro e w7 ⟨rfl, b7⟩
      have HT7 := Lib.hid (HT6.out.below b7)
      clear b7
      obtain ⟨y0, y1, y2, y3, y4, y5⟩ : six w7 w5.heap.size t2.k t2.op t2.n t2.v t2.f t2.A t2.ks.length t2.c := six_has HT7.out.hb
      go_wp2_with fail
      have hT3 := type_any t2 w7 HT7.out.ib HT7.out.tabs
      rw [typ_of HT7.out.rb, htb] at hT3
      have HT3 : Hid (Calls Tryd.prog 16 #[.agg #[.int .i64 t2.k, .string (str t2.op), .int .i64 t2.n, .string (str t2.v), .string (str t2.f), .slice t2.A t2.ks.length t2.c]] w7 fun e w' => e = .returned (.int .i64 2) ∧ Below w7.heap.size w7 w') := Lib.hid hT3
      clear hT3 y0 y1 y2 y3 y4 y5
      refine HT3.out.mono ?_
      clear HT3
      rintro e w8 ⟨rfl, b8⟩
      have HT8 := Lib.hid (HT7.out.below b8)
      clear b8
      have e1 := str_toList op
      go_wp2_with fail
      go_ret
      exact ⟨rfl, HT8.out.bel⟩
    · have hgot : typeT (.mk 3 op 0 [] [] (some ⟨Wb.heap.size, 0, none⟩) 2 [t1, t2]) = 0 := by rw [type_two HO.out.2.2.1 HTy.out.ra HTy.out.rb x3, hta, htb]; decide
      clear x3 x4 x5
      have hT1 := type_any (.mk 3 op 0 [] [] (some ⟨Wb.heap.size, 0, none⟩) 2 [t1, t2]) (Wb.alloc (.cells (cs2 t1 t2) 24)) (in2 3 op 0 [] [] 2 (has_at rfl rfl) (HTy.out.ia.below (step1 _ _)) (HTy.out.ib.below (step1 _ _)) (okE_small _ _ _ _ HO.out.2.1 (by omega) (by omega))) (HTy.out.tabs.below (step1 _ _))
      rw [hgot] at hT1
      have HT1 : Hid (Calls Tryd.prog 16 #[.agg #[.int .i64 3, .string (str op), .int .i64 0, .string { data := #[] }, .string { data := #[] }, .slice (some ⟨Wb.heap.size, 0, none⟩) 2 2]] (Wb.alloc (.cells #[.int .i64 t1.k, .string (str t1.op), .int .i64 t1.n, .string (str t1.v), .string (str t1.f), .slice t1.A t1.ks.length t1.c, .int .i64 t2.k, .string (str t2.op), .int .i64 t2.n, .string (str t2.v), .string (str t2.f), .slice t2.A t2.ks.length t2.c] 24)) fun e w' => e = .returned (.int .i64 0) ∧ Below (Wb.alloc (.cells #[.int .i64 t1.k, .string (str t1.op), .int .i64 t1.n, .string (str t1.v), .string (str t1.f), .slice t1.A t1.ks.length t1.c, .int .i64 t2.k, .string (str t2.op), .int .i64 t2.n, .string (str t2.v), .string (str t2.f), .slice t2.A t2.ks.length t2.c] 24)).heap.size (Wb.alloc (.cells #[.int .i64 t1.k, .string (str t1.op), .int .i64 t1.n, .string (str t1.v), .string (str t1.f), .slice t1.A t1.ks.length t1.c, .int .i64 t2.k, .string (str t2.op), .int .i64 t2.n, .string (str t2.v), .string (str t2.f), .slice t2.A t2.ks.length t2.c] 24)) w') := Lib.hid hT1
      clear hT1
      refine HT1.out.mono ?_
      clear HT1
      rintro e w6 ⟨rfl, b6⟩
      have HT6 := Lib.hid (HTy.out.below ((step1 Wb (.cells #[.int .i64 t1.k, .string (str t1.op), .int .i64 t1.n, .string (str t1.v), .string (str t1.f), .slice t1.A t1.ks.length t1.c, .int .i64 t2.k, .string (str t2.op), .int .i64 t2.n, .string (str t2.v), .string (str t2.f), .slice t2.A t2.ks.length t2.c] 24)).trans (b6.mono (step1 Wb (.cells #[.int .i64 t1.k, .string (str t1.op), .int .i64 t1.n, .string (str t1.v), .string (str t1.f), .slice t1.A t1.ks.length t1.c, .int .i64 t2.k, .string (str t2.op), .int .i64 t2.n, .string (str t2.v), .string (str t2.f), .slice t2.A t2.ks.length t2.c] 24)).size)))
      clear b6
      obtain ⟨y0, y1, y2, y3, y4, y5⟩ : six w6 w4.heap.size t1.k t1.op t1.n t1.v t1.f t1.A t1.ks.length t1.c := six_has HT6.out.ha
      go_wp2_with fail
      have hT2 := type_any t1 w6 HT6.out.ia HT6.out.tabs
      rw [typ_of HT6.out.ra, hta] at hT2
      have HT2 : Hid (Calls Tryd.prog 16 #[.agg #[.int .i64 t1.k, .string (str t1.op), .int .i64 t1.n, .string (str t1.v), .string (str t1.f), .slice t1.A t1.ks.length t1.c]] w6 fun e w' => e = .returned (.int .i64 2) ∧ Below w6.heap.size w6 w') := Lib.hid hT2
      clear hT2 y0 y1 y2 y3 y4 y5
      refine HT2.out.mono ?_
      clear HT2
      rintro e w7 ⟨rfl, b7⟩
      have HT7 := Lib.hid (HT6.out.below b7)
      clear b7
      obtain ⟨y0, y1, y2, y3, y4, y5⟩ : six w7 w5.heap.size t2.k t2.op t2.n t2.v t2.f t2.A t2.ks.length t2.c := six_has HT7.out.hb
      go_wp2_with fail
      have hT3 := type_any t2 w7 HT7.out.ib HT7.out.tabs
      rw [typ_of HT7.out.rb, htb] at hT3
      have HT3 : Hid (Calls Tryd.prog 16 #[.agg #[.int .i64 t2.k, .string (str t2.op), .int .i64 t2.n, .string (str t2.v), .string (str t2.f), .slice t2.A t2.ks.length t2.c]] w7 fun e w' => e = .returned (.int .i64 2) ∧ Below w7.heap.size w7 w') := Lib.hid hT3
      clear hT3 y0 y1 y2 y3 y4 y5
      refine HT3.out.mono ?_
      clear HT3
      rintro e w8 ⟨rfl, b8⟩
      have HT8 := Lib.hid (HT7.out.below b8)
      clear b8
      have e1 := str_toList op
      go_wp2_with fail
      go_ret
      exact ⟨rfl, HT8.out.bel⟩
  | true =>
    by_cases hl1 : t1.ks.length = 2
    · have hl1' : ((t1.ks.length : Int) == 2) = true := by simp; omega
      by_cases hl2 : t2.ks.length = 2
      · have hl2' : ((t2.ks.length : Int) == 2) = true := by simp; omega
        obtain ⟨n4p, -, -, -, -, -, -⟩ := nw_kid2 HN4.out.1 0 (by omega)
        obtain ⟨-, kb1, ko1, hA1, hNb1, hlt1, g0, g1, g2, g3, g4, g5⟩ := nw_kid2 HN1.out.2.1 0 (by omega)
        obtain ⟨n5s, kb2, ko2, hA2, hNb2, hlt2, i0, i1, i2, i3, i4, i5⟩ := nw_kid2 HN2.out.2.1 1 (by omega)
        have hty1 := (kids_typ2 HN1.out.1.1 HN1.out.1.2.1 hl1).1
        have hty2 := (kids_typ2 HN2.out.1.1 HN2.out.1.2.1 hl2).2
        obtain ⟨p, hp⟩ : ∃ p, t1.ks[0]'(by omega) = p := ⟨_, rfl⟩
        obtain ⟨s, hs⟩ : ∃ s, t2.ks[1]'(by omega) = s := ⟨_, rfl⟩
        rw [hp] at n4p g0 g1 g2 g3 g4 g5 hty1
        rw [hs] at n5s i0 i1 i2 i3 i4 i5 hty2
        have hab := HN2.out.2.2.1.trans (HN2.out.2.2.2.1.mono HN2.out.2.2.1.size)
        have up1 : ∀ o v, Wa.cell? ⟨kb1, o, none⟩ = some v → Wb.cell? ⟨kb1, o, none⟩ = some v := fun o v h => (hab.cell (p := ⟨kb1, o, none⟩) hlt1).trans h
        have up2 : ∀ o v, w5.cell? ⟨kb2, o, none⟩ = some v → Wb.cell? ⟨kb2, o, none⟩ = some v := fun o v h => (HN2.out.2.2.2.1.cell (p := ⟨kb2, o, none⟩) hlt2).trans h
        replace g0 := up1 _ _ g0
        replace g1 := up1 _ _ g1
        replace g2 := up1 _ _ g2
        replace g3 := up1 _ _ g3
        replace g4 := up1 _ _ g4
        replace g5 := up1 _ _ g5
        replace i0 := up2 _ _ i0
        replace i1 := up2 _ _ i1
        replace i2 := up2 _ _ i2
        replace i3 := up2 _ _ i3
        replace i4 := up2 _ _ i4
        replace i5 := up2 _ _ i5
        simp only [Nat.zero_mul, Nat.add_zero, Nat.one_mul] at g0 g1 g2 g3 g4 g5 i0 i1 i2 i3 i4 i5
        have hza := HN1.out.2.2.2
        have hne1 : ¬ kb2 = w4.heap.size := by omega
        have hne2 : ¬ w5.heap.size = w4.heap.size := by omega
        have hne3 : ¬ w4.heap.size = w5.heap.size := by omega
        have hA4 : ¬ bA = w4.heap.size := by have := strs_other HTy.out.ops HTy.out.ha (by simp) _ rfl; exact this
        have hA5 : ¬ bA = w5.heap.size := by have := strs_other HTy.out.ops HTy.out.hb (by simp) _ rfl; exact this
        obtain ⟨ff0, ff1, ff2, ff3, ff4, ff5⟩ := six_free HTy.out.ha
        obtain ⟨hh0, hh1, hh2, hh3, hh4, hh5⟩ := six_free HTy.out.hb
        have hpos1 : 0 < t1.ks.length := by omega
        have hpos2 : 1 < t2.ks.length := by omega
        obtain ⟨X1, hX1⟩ : ∃ X1, set6 Wb w4.heap.size (.int .i64 p.k) (.string (str p.op)) (.int .i64 p.n) (.string (str p.v)) (.string (str p.f)) (.slice p.A p.ks.length p.c) = X1 := ⟨_, rfl⟩
        obtain ⟨X, hX⟩ : ∃ X, set6 X1 w5.heap.size (.int .i64 s.k) (.string (str s.op)) (.int .i64 s.n) (.string (str s.v)) (.string (str s.f)) (.slice s.A s.ks.length s.c) = X := ⟨_, rfl⟩
        have bX1 : ∀ q, q ≠ w4.heap.size → X1.heap[q]? = Wb.heap[q]? := fun q hq => by rw [← hX1]; exact set6_other hq _ _ _ _ _ _
        have bX : ∀ q, q ≠ w5.heap.size → X.heap[q]? = X1.heap[q]? := fun q hq => by rw [← hX]; exact set6_other hq _ _ _ _ _ _
        have hX1a : Has X1 w4.heap.size 24 (cs1 p) := by rw [← hX1]; exact set6_has HTy.out.ha _ _ _ _ _ _
        have hX1b : Has X1 w5.heap.size 24 (cs1 t2) := (bX1 _ hne2).trans HTy.out.hb
        have hXb : Has X w5.heap.size 24 (cs1 s) := by rw [← hX]; exact set6_has hX1b _ _ _ _ _ _
        have hXa : Has X w4.heap.size 24 (cs1 p) := (bX _ hne3).trans hX1a
        have belX : ∀ B, B ≤ w4.heap.size → Below B Wb X := fun B hB => by
          rw [← hX, ← hX1]
          exact (set6_below hB _ _ _ _ _ _).trans (set6_below (by omega) _ _ _ _ _ _)
        have hwB : w.heap.size ≤ w4.heap.size := by have := HN4.out.2.2.size; have := HTy.out.bel.size; have := H0.out; omega
        have ipX : p.In X := (n4p.in_).below ((HN4.out.2.1.trans (hab.mono HN4.out.2.1.size)).trans (belX _ (Nat.le_refl _)))
        have isX : s.In X := (n5s.imp (Nat.le_refl _) (fun b h1 h2 => ((bX b (by omega)).trans (bX1 b (by omega))).trans (HN2.out.2.2.2.1.block b h2))).in_
        have belw : Below w.heap.size w X := HTy.out.bel.trans (belX _ hwB)
        have tyX : Ty w w4.heap.size w5.heap.size (some ⟨bA, oA, none⟩) p s X := ⟨hXa, hXb, ipX, isX, hty1.1, hty2.1, strs_heap HTy.out.ops (fun a ha => by cases ha; exact (bX _ hA5).trans (bX1 _ hA4)), HT.out.below belw, belw⟩
        have HTX := Lib.hid tyX
        have hszX : Wb.heap.size = X.heap.size := by rw [← hX, ← hX1]; simp [set6]
        have HX := Lib.hid (And.intro hX1 hX)
        have HY := Lib.hid (And.intro hty1.2 hty2.2)
        have HH := Lib.hid (And.intro hl1 hl2)
        clear hl1 hl2 n4p n5s hty1 hty2 hp hs up1 up2 hab bX1 bX hX1a hX1b hXb hXa belX hwB ipX isX belw tyX hX hX1 hNb1 hNb2 hlt1 hlt2
        rw [hA1] at a5
        rw [hA2] at c5
        clear hA1 hA2
        go_wp2_with fail
        rw [set6_fold, set6_fold]
        rw [HX.out.1, HX.out.2]
        clear hszX
        clear g0 g1 g2 g3 g4 g5 i0 i1 i2 i3 i4 i5 ff0 ff1 ff2 ff3 ff4 ff5 hh0 hh1 hh2 hh3 hh4 hh5 a0 a1 a2 a3 a4 a5 c0 c1' c2' c3 c4 c5 cA HTy
        have HTy := HTX
        clear HTX
        rcases HY.out.1 with hta | hta <;> rcases HY.out.2 with htb | htb
        · rcases HO.out.2.2.2 with ⟨-, x1, x2, x3⟩ | ⟨-, x1, x2, x3, x4⟩ | ⟨-, x1, x2, x3, x4, x5⟩ | ⟨-, x1, x2, x3, x4, x5⟩
          · have hgot : typeT (.mk 3 op 0 [] [] (some ⟨X.heap.size, 0, none⟩) 2 [p, s]) = 0 := by rw [type_two HO.out.2.2.1 HTy.out.ra HTy.out.rb x2, hta, htb]; decide
            obtain ⟨lv, hlv⟩ : ∃ x, levB op = x := ⟨_, rfl⟩
            have HL : Hid (∀ u : World, Calls Tryd.prog 20 #[.string (str op)] u fun e w' => e = .returned (.int .i64 lv) ∧ u = w') := Lib.hid fun u => by rw [← hlv]; exact level_any op u
            have hL4 : decide (4 < lv) = false := by rw [← hlv]; simp; omega
            have hL2 : decide (2 < lv) = false := by rw [← hlv]; simp; omega
            clear x1 x2 x3 hlv
            have hT1 := type_any (.mk 3 op 0 [] [] (some ⟨X.heap.size, 0, none⟩) 2 [p, s]) (X.alloc (.cells (cs2 p s) 24)) (in2 3 op 0 [] [] 2 (has_at rfl rfl) (HTy.out.ia.below (step1 _ _)) (HTy.out.ib.below (step1 _ _)) (okE_small _ _ _ _ HO.out.2.1 (by omega) (by omega))) (HTy.out.tabs.below (step1 _ _))
            rw [hgot] at hT1
            have HT1 : Hid (Calls Tryd.prog 16 #[.agg #[.int .i64 3, .string (str op), .int .i64 0, .string { data := #[] }, .string { data := #[] }, .slice (some ⟨X.heap.size, 0, none⟩) 2 2]] (X.alloc (.cells #[.int .i64 p.k, .string (str p.op), .int .i64 p.n, .string (str p.v), .string (str p.f), .slice p.A p.ks.length p.c, .int .i64 s.k, .string (str s.op), .int .i64 s.n, .string (str s.v), .string (str s.f), .slice s.A s.ks.length s.c] 24)) fun e w' => e = .returned (.int .i64 0) ∧ Below (X.alloc (.cells #[.int .i64 p.k, .string (str p.op), .int .i64 p.n, .string (str p.v), .string (str p.f), .slice p.A p.ks.length p.c, .int .i64 s.k, .string (str s.op), .int .i64 s.n, .string (str s.v), .string (str s.f), .slice s.A s.ks.length s.c] 24)).heap.size (X.alloc (.cells #[.int .i64 p.k, .string (str p.op), .int .i64 p.n, .string (str p.v), .string (str p.f), .slice p.A p.ks.length p.c, .int .i64 s.k, .string (str s.op), .int .i64 s.n, .string (str s.v), .string (str s.f), .slice s.A s.ks.length s.c] 24)) w') := Lib.hid hT1
            clear hT1
            refine HT1.out.mono ?_
            clear HT1
            rintro e w6 ⟨rfl, b6⟩
            have HT6 := Lib.hid (HTy.out.below ((step1 X (.cells #[.int .i64 p.k, .string (str p.op), .int .i64 p.n, .string (str p.v), .string (str p.f), .slice p.A p.ks.length p.c, .int .i64 s.k, .string (str s.op), .int .i64 s.n, .string (str s.v), .string (str s.f), .slice s.A s.ks.length s.c] 24)).trans (b6.mono (step1 X (.cells #[.int .i64 p.k, .string (str p.op), .int .i64 p.n, .string (str p.v), .string (str p.f), .slice p.A p.ks.length p.c, .int .i64 s.k, .string (str s.op), .int .i64 s.n, .string (str s.v), .string (str s.f), .slice s.A s.ks.length s.c] 24)).size)))
            clear b6
            obtain ⟨y0, y1, y2, y3, y4, y5⟩ : six w6 w4.heap.size p.k p.op p.n p.v p.f p.A p.ks.length p.c := six_has HT6.out.ha
            go_wp2_with fail
            have hT2 := type_any p w6 HT6.out.ia HT6.out.tabs
            rw [typ_of HT6.out.ra, hta] at hT2
            have HT2 : Hid (Calls Tryd.prog 16 #[.agg #[.int .i64 p.k, .string (str p.op), .int .i64 p.n, .string (str p.v), .string (str p.f), .slice p.A p.ks.length p.c]] w6 fun e w' => e = .returned (.int .i64 1) ∧ Below w6.heap.size w6 w') := Lib.hid hT2
            clear hT2 y0 y1 y2 y3 y4 y5
            refine HT2.out.mono ?_
            clear HT2
            rintro e w7 ⟨rfl, b7⟩
            have HT7 := Lib.hid (HT6.out.below b7)
            clear b7
            obtain ⟨y0, y1, y2, y3, y4, y5⟩ : six w7 w5.heap.size s.k s.op s.n s.v s.f s.A s.ks.length s.c := six_has HT7.out.hb
            go_wp2_with fail
            have hT3 := type_any s w7 HT7.out.ib HT7.out.tabs
            rw [typ_of HT7.out.rb, htb] at hT3
            have HT3 : Hid (Calls Tryd.prog 16 #[.agg #[.int .i64 s.k, .string (str s.op), .int .i64 s.n, .string (str s.v), .string (str s.f), .slice s.A s.ks.length s.c]] w7 fun e w' => e = .returned (.int .i64 1) ∧ Below w7.heap.size w7 w') := Lib.hid hT3
            clear hT3 y0 y1 y2 y3 y4 y5
            refine HT3.out.mono ?_
            clear HT3
            rintro e w8 ⟨rfl, b8⟩
            have HT8 := Lib.hid (HT7.out.below b8)
            clear b8
            have e1 := str_toList op
            go_wp2_with (go_at_call 20; refine (HL.out _).mono ?_; rintro e w' ⟨rfl, rfl⟩)
            go_ret
            exact ⟨rfl, HT8.out.bel⟩
          · have hgot : typeT (.mk 3 op 0 [] [] (some ⟨X.heap.size, 0, none⟩) 2 [p, s]) = 0 := by rw [type_two HO.out.2.2.1 HTy.out.ra HTy.out.rb x3, hta, htb]; decide
            obtain ⟨lv, hlv⟩ : ∃ x, levB op = x := ⟨_, rfl⟩
            have HL : Hid (∀ u : World, Calls Tryd.prog 20 #[.string (str op)] u fun e w' => e = .returned (.int .i64 lv) ∧ u = w') := Lib.hid fun u => by rw [← hlv]; exact level_any op u
            have hL4 : decide (4 < lv) = false := by rw [← hlv]; simp; omega
            have hL2 : decide (2 < lv) = false := by rw [← hlv]; simp; omega
            clear x1 x2 x3 x4 hlv
            have hT1 := type_any (.mk 3 op 0 [] [] (some ⟨X.heap.size, 0, none⟩) 2 [p, s]) (X.alloc (.cells (cs2 p s) 24)) (in2 3 op 0 [] [] 2 (has_at rfl rfl) (HTy.out.ia.below (step1 _ _)) (HTy.out.ib.below (step1 _ _)) (okE_small _ _ _ _ HO.out.2.1 (by omega) (by omega))) (HTy.out.tabs.below (step1 _ _))
            rw [hgot] at hT1
            have HT1 : Hid (Calls Tryd.prog 16 #[.agg #[.int .i64 3, .string (str op), .int .i64 0, .string { data := #[] }, .string { data := #[] }, .slice (some ⟨X.heap.size, 0, none⟩) 2 2]] (X.alloc (.cells #[.int .i64 p.k, .string (str p.op), .int .i64 p.n, .string (str p.v), .string (str p.f), .slice p.A p.ks.length p.c, .int .i64 s.k, .string (str s.op), .int .i64 s.n, .string (str s.v), .string (str s.f), .slice s.A s.ks.length s.c] 24)) fun e w' => e = .returned (.int .i64 0) ∧ Below (X.alloc (.cells #[.int .i64 p.k, .string (str p.op), .int .i64 p.n, .string (str p.v), .string (str p.f), .slice p.A p.ks.length p.c, .int .i64 s.k, .string (str s.op), .int .i64 s.n, .string (str s.v), .string (str s.f), .slice s.A s.ks.length s.c] 24)).heap.size (X.alloc (.cells #[.int .i64 p.k, .string (str p.op), .int .i64 p.n, .string (str p.v), .string (str p.f), .slice p.A p.ks.length p.c, .int .i64 s.k, .string (str s.op), .int .i64 s.n, .string (str s.v), .string (str s.f), .slice s.A s.ks.length s.c] 24)) w') := Lib.hid hT1
            clear hT1
            refine HT1.out.mono ?_
            clear HT1
            rintro e w6 ⟨rfl, b6⟩
            have HT6 := Lib.hid (HTy.out.below ((step1 X (.cells #[.int .i64 p.k, .string (str p.op), .int .i64 p.n, .string (str p.v), .string (str p.f), .slice p.A p.ks.length p.c, .int .i64 s.k, .string (str s.op), .int .i64 s.n, .string (str s.v), .string (str s.f), .slice s.A s.ks.length s.c] 24)).trans (b6.mono (step1 X (.cells #[.int .i64 p.k, .string (str p.op), .int .i64 p.n, .string (str p.v), .string (str p.f), .slice p.A p.ks.length p.c, .int .i64 s.k, .string (str s.op), .int .i64 s.n, .string (str s.v), .string (str s.f), .slice s.A s.ks.length s.c] 24)).size)))
            clear b6
            obtain ⟨y0, y1, y2, y3, y4, y5⟩ : six w6 w4.heap.size p.k p.op p.n p.v p.f p.A p.ks.length p.c := six_has HT6.out.ha
            go_wp2_with fail
            have hT2 := type_any p w6 HT6.out.ia HT6.out.tabs
            rw [typ_of HT6.out.ra, hta] at hT2
            have HT2 : Hid (Calls Tryd.prog 16 #[.agg #[.int .i64 p.k, .string (str p.op), .int .i64 p.n, .string (str p.v), .string (str p.f), .slice p.A p.ks.length p.c]] w6 fun e w' => e = .returned (.int .i64 1) ∧ Below w6.heap.size w6 w') := Lib.hid hT2
            clear hT2 y0 y1 y2 y3 y4 y5
            refine HT2.out.mono ?_
            clear HT2
            rintro e w7 ⟨rfl, b7⟩
            have HT7 := Lib.hid (HT6.out.below b7)
            clear b7
            obtain ⟨y0, y1, y2, y3, y4, y5⟩ : six w7 w5.heap.size s.k s.op s.n s.v s.f s.A s.ks.length s.c := six_has HT7.out.hb
            go_wp2_with fail
            have hT3 := type_any s w7 HT7.out.ib HT7.out.tabs
            rw [typ_of HT7.out.rb, htb] at hT3
            have HT3 : Hid (Calls Tryd.prog 16 #[.agg #[.int .i64 s.k, .string (str s.op), .int .i64 s.n, .string (str s.v), .string (str s.f), .slice s.A s.ks.length s.c]] w7 fun e w' => e = .returned (.int .i64 1) ∧ Below w7.heap.size w7 w') := Lib.hid hT3
            clear hT3 y0 y1 y2 y3 y4 y5
            refine HT3.out.mono ?_
            clear HT3
            rintro e w8 ⟨rfl, b8⟩
            have HT8 := Lib.hid (HT7.out.below b8)
            clear b8
            have e1 := str_toList op
            go_wp2_with (go_at_call 20; refine (HL.out _).mono ?_; rintro e w' ⟨rfl, rfl⟩)
            go_ret
            exact ⟨rfl, HT8.out.bel⟩
          · have hgot : typeT (.mk 3 op 0 [] [] (some ⟨X.heap.size, 0, none⟩) 2 [p, s]) = 2 := by rw [type_two HO.out.2.2.1 HTy.out.ra HTy.out.rb x3, hta, htb]; decide
            obtain ⟨lv, hlv⟩ : ∃ x, levB op = x := ⟨_, rfl⟩
            have HL : Hid (∀ u : World, Calls Tryd.prog 20 #[.string (str op)] u fun e w' => e = .returned (.int .i64 lv) ∧ u = w') := Lib.hid fun u => by rw [← hlv]; exact level_any op u
            have hL4 : decide (4 < lv) = false := by rw [← hlv]; simp; omega
            have hL2 : decide (2 < lv) = true := by rw [← hlv]; simp; omega
            clear x1 x2 x3 x4 x5 hlv
            have hT1 := type_any (.mk 3 op 0 [] [] (some ⟨X.heap.size, 0, none⟩) 2 [p, s]) (X.alloc (.cells (cs2 p s) 24)) (in2 3 op 0 [] [] 2 (has_at rfl rfl) (HTy.out.ia.below (step1 _ _)) (HTy.out.ib.below (step1 _ _)) (okE_small _ _ _ _ HO.out.2.1 (by omega) (by omega))) (HTy.out.tabs.below (step1 _ _))
            rw [hgot] at hT1
            have HT1 : Hid (Calls Tryd.prog 16 #[.agg #[.int .i64 3, .string (str op), .int .i64 0, .string { data := #[] }, .string { data := #[] }, .slice (some ⟨X.heap.size, 0, none⟩) 2 2]] (X.alloc (.cells #[.int .i64 p.k, .string (str p.op), .int .i64 p.n, .string (str p.v), .string (str p.f), .slice p.A p.ks.length p.c, .int .i64 s.k, .string (str s.op), .int .i64 s.n, .string (str s.v), .string (str s.f), .slice s.A s.ks.length s.c] 24)) fun e w' => e = .returned (.int .i64 2) ∧ Below (X.alloc (.cells #[.int .i64 p.k, .string (str p.op), .int .i64 p.n, .string (str p.v), .string (str p.f), .slice p.A p.ks.length p.c, .int .i64 s.k, .string (str s.op), .int .i64 s.n, .string (str s.v), .string (str s.f), .slice s.A s.ks.length s.c] 24)).heap.size (X.alloc (.cells #[.int .i64 p.k, .string (str p.op), .int .i64 p.n, .string (str p.v), .string (str p.f), .slice p.A p.ks.length p.c, .int .i64 s.k, .string (str s.op), .int .i64 s.n, .string (str s.v), .string (str s.f), .slice s.A s.ks.length s.c] 24)) w') := Lib.hid hT1
            clear hT1
            refine HT1.out.mono ?_
            clear HT1
            rintro e w6 ⟨rfl, b6⟩
            have HT6 := Lib.hid (HTy.out.below ((step1 X (.cells #[.int .i64 p.k, .string (str p.op), .int .i64 p.n, .string (str p.v), .string (str p.f), .slice p.A p.ks.length p.c, .int .i64 s.k, .string (str s.op), .int .i64 s.n, .string (str s.v), .string (str s.f), .slice s.A s.ks.length s.c] 24)).trans (b6.mono (step1 X (.cells #[.int .i64 p.k, .string (str p.op), .int .i64 p.n, .string (str p.v), .string (str p.f), .slice p.A p.ks.length p.c, .int .i64 s.k, .string (str s.op), .int .i64 s.n, .string (str s.v), .string (str s.f), .slice s.A s.ks.length s.c] 24)).size)))
            clear b6
            obtain ⟨y0, y1, y2, y3, y4, y5⟩ : six w6 w4.heap.size p.k p.op p.n p.v p.f p.A p.ks.length p.c := six_has HT6.out.ha
            go_wp2_with fail
            have hT2 := type_any p w6 HT6.out.ia HT6.out.tabs
            rw [typ_of HT6.out.ra, hta] at hT2
            have HT2 : Hid (Calls Tryd.prog 16 #[.agg #[.int .i64 p.k, .string (str p.op), .int .i64 p.n, .string (str p.v), .string (str p.f), .slice p.A p.ks.length p.c]] w6 fun e w' => e = .returned (.int .i64 1) ∧ Below w6.heap.size w6 w') := Lib.hid hT2
            clear hT2 y0 y1 y2 y3 y4 y5
            refine HT2.out.mono ?_
            clear HT2
            rintro e w7 ⟨rfl, b7⟩
            have HT7 := Lib.hid (HT6.out.below b7)
            clear b7
            obtain ⟨y0, y1, y2, y3, y4, y5⟩ : six w7 w5.heap.size s.k s.op s.n s.v s.f s.A s.ks.length s.c := six_has HT7.out.hb
            go_wp2_with fail
            have hT3 := type_any s w7 HT7.out.ib HT7.out.tabs
            rw [typ_of HT7.out.rb, htb] at hT3
            have HT3 : Hid (Calls Tryd.prog 16 #[.agg #[.int .i64 s.k, .string (str s.op), .int .i64 s.n, .string (str s.v), .string (str s.f), .slice s.A s.ks.length s.c]] w7 fun e w' => e = .returned (.int .i64 1) ∧ Below w7.heap.size w7 w') := Lib.hid hT3
            clear hT3 y0 y1 y2 y3 y4 y5
            refine HT3.out.mono ?_
            clear HT3
            rintro e w8 ⟨rfl, b8⟩
            have HT8 := Lib.hid (HT7.out.below b8)
            clear b8
            have e1 := str_toList op
            go_wp2_with (go_at_call 20; refine (HL.out _).mono ?_; rintro e w' ⟨rfl, rfl⟩)
            go_ret
            exact ⟨rfl, HT8.out.bel⟩
          · have hgot : typeT (.mk 3 op 0 [] [] (some ⟨X.heap.size, 0, none⟩) 2 [p, s]) = 1 := by rw [type_two HO.out.2.2.1 HTy.out.ra HTy.out.rb x3, hta, htb]; decide
            obtain ⟨lv, hlv⟩ : ∃ x, levB op = x := ⟨_, rfl⟩
            have HL : Hid (∀ u : World, Calls Tryd.prog 20 #[.string (str op)] u fun e w' => e = .returned (.int .i64 lv) ∧ u = w') := Lib.hid fun u => by rw [← hlv]; exact level_any op u
            have hL4 : decide (4 < lv) = true := by rw [← hlv]; simp; omega
            have hL2 : decide (2 < lv) = true := by rw [← hlv]; simp; omega
            clear x1 x2 x3 x4 x5 hlv
            have hT1 := type_any (.mk 3 op 0 [] [] (some ⟨X.heap.size, 0, none⟩) 2 [p, s]) (X.alloc (.cells (cs2 p s) 24)) (in2 3 op 0 [] [] 2 (has_at rfl rfl) (HTy.out.ia.below (step1 _ _)) (HTy.out.ib.below (step1 _ _)) (okE_small _ _ _ _ HO.out.2.1 (by omega) (by omega))) (HTy.out.tabs.below (step1 _ _))
            rw [hgot] at hT1
            have HT1 : Hid (Calls Tryd.prog 16 #[.agg #[.int .i64 3, .string (str op), .int .i64 0, .string { data := #[] }, .string { data := #[] }, .slice (some ⟨X.heap.size, 0, none⟩) 2 2]] (X.alloc (.cells #[.int .i64 p.k, .string (str p.op), .int .i64 p.n, .string (str p.v), .string (str p.f), .slice p.A p.ks.length p.c, .int .i64 s.k, .string (str s.op), .int .i64 s.n, .string (str s.v), .string (str s.f), .slice s.A s.ks.length s.c] 24)) fun e w' => e = .returned (.int .i64 1) ∧ Below (X.alloc (.cells #[.int .i64 p.k, .string (str p.op), .int .i64 p.n, .string (str p.v), .string (str p.f), .slice p.A p.ks.length p.c, .int .i64 s.k, .string (str s.op), .int .i64 s.n, .string (str s.v), .string (str s.f), .slice s.A s.ks.length s.c] 24)).heap.size (X.alloc (.cells #[.int .i64 p.k, .string (str p.op), .int .i64 p.n, .string (str p.v), .string (str p.f), .slice p.A p.ks.length p.c, .int .i64 s.k, .string (str s.op), .int .i64 s.n, .string (str s.v), .string (str s.f), .slice s.A s.ks.length s.c] 24)) w') := Lib.hid hT1
            clear hT1
            refine HT1.out.mono ?_
            clear HT1
            rintro e w6 ⟨rfl, b6⟩
            have HT6 := Lib.hid (HTy.out.below ((step1 X (.cells #[.int .i64 p.k, .string (str p.op), .int .i64 p.n, .string (str p.v), .string (str p.f), .slice p.A p.ks.length p.c, .int .i64 s.k, .string (str s.op), .int .i64 s.n, .string (str s.v), .string (str s.f), .slice s.A s.ks.length s.c] 24)).trans (b6.mono (step1 X (.cells #[.int .i64 p.k, .string (str p.op), .int .i64 p.n, .string (str p.v), .string (str p.f), .slice p.A p.ks.length p.c, .int .i64 s.k, .string (str s.op), .int .i64 s.n, .string (str s.v), .string (str s.f), .slice s.A s.ks.length s.c] 24)).size)))
            clear b6
            obtain ⟨y0, y1, y2, y3, y4, y5⟩ : six w6 w4.heap.size p.k p.op p.n p.v p.f p.A p.ks.length p.c := six_has HT6.out.ha
            go_wp2_with fail
            have hT2 := type_any p w6 HT6.out.ia HT6.out.tabs
            rw [typ_of HT6.out.ra, hta] at hT2
            have HT2 : Hid (Calls Tryd.prog 16 #[.agg #[.int .i64 p.k, .string (str p.op), .int .i64 p.n, .string (str p.v), .string (str p.f), .slice p.A p.ks.length p.c]] w6 fun e w' => e = .returned (.int .i64 1) ∧ Below w6.heap.size w6 w') := Lib.hid hT2
            clear hT2 y0 y1 y2 y3 y4 y5
            refine HT2.out.mono ?_
            clear HT2
            rintro e w7 ⟨rfl, b7⟩
            have HT7 := Lib.hid (HT6.out.below b7)
            clear b7
            obtain ⟨y0, y1, y2, y3, y4, y5⟩ : six w7 w5.heap.size s.k s.op s.n s.v s.f s.A s.ks.length s.c := six_has HT7.out.hb
            go_wp2_with fail
            have hT3 := type_any s w7 HT7.out.ib HT7.out.tabs
            rw [typ_of HT7.out.rb, htb] at hT3
            have HT3 : Hid (Calls Tryd.prog 16 #[.agg #[.int .i64 s.k, .string (str s.op), .int .i64 s.n, .string (str s.v), .string (str s.f), .slice s.A s.ks.length s.c]] w7 fun e w' => e = .returned (.int .i64 1) ∧ Below w7.heap.size w7 w') := Lib.hid hT3
            clear hT3 y0 y1 y2 y3 y4 y5
            refine HT3.out.mono ?_
            clear HT3
            rintro e w8 ⟨rfl, b8⟩
            have HT8 := Lib.hid (HT7.out.below b8)
            clear b8
            have e1 := str_toList op
            go_wp2_with (go_at_call 20; refine (HL.out _).mono ?_; rintro e w' ⟨rfl, rfl⟩)
            go_ret
            exact ⟨rfl, HT8.out.bel⟩
        · have hgot : typeT (.mk 3 op 0 [] [] (some ⟨X.heap.size, 0, none⟩) 2 [p, s]) = 0 := by
            obtain ⟨q1, q2, hq⟩ : ∃ q1 q2, opT op = (q1, q2) := ⟨_, _, rfl⟩
            rw [type_two HO.out.2.2.1 HTy.out.ra HTy.out.rb hq, hta, htb, if_neg (by rintro ⟨h1, h2⟩; omega)]
          have hT1 := type_any (.mk 3 op 0 [] [] (some ⟨X.heap.size, 0, none⟩) 2 [p, s]) (X.alloc (.cells (cs2 p s) 24)) (in2 3 op 0 [] [] 2 (has_at rfl rfl) (HTy.out.ia.below (step1 _ _)) (HTy.out.ib.below (step1 _ _)) (okE_small _ _ _ _ HO.out.2.1 (by omega) (by omega))) (HTy.out.tabs.below (step1 _ _))
          rw [hgot] at hT1
          have HT1 : Hid (Calls Tryd.prog 16 #[.agg #[.int .i64 3, .string (str op), .int .i64 0, .string { data := #[] }, .string { data := #[] }, .slice (some ⟨X.heap.size, 0, none⟩) 2 2]] (X.alloc (.cells #[.int .i64 p.k, .string (str p.op), .int .i64 p.n, .string (str p.v), .string (str p.f), .slice p.A p.ks.length p.c, .int .i64 s.k, .string (str s.op), .int .i64 s.n, .string (str s.v), .string (str s.f), .slice s.A s.ks.length s.c] 24)) fun e w' => e = .returned (.int .i64 0) ∧ Below (X.alloc (.cells #[.int .i64 p.k, .string (str p.op), .int .i64 p.n, .string (str p.v), .string (str p.f), .slice p.A p.ks.length p.c, .int .i64 s.k, .string (str s.op), .int .i64 s.n, .string (str s.v), .string (str s.f), .slice s.A s.ks.length s.c] 24)).heap.size (X.alloc (.cells #[.int .i64 p.k, .string (str p.op), .int .i64 p.n, .string (str p.v), .string (str p.f), .slice p.A p.ks.length p.c, .int .i64 s.k, .string (str s.op), .int .i64 s.n, .string (str s.v), .string (str s.f), .slice s.A s.ks.length s.c] 24)) w') := Lib.hid hT1
          clear hT1
          refine HT1.out.mono ?_
          clear HT1
          rintro e w6 ⟨rfl, b6⟩
          have HT6 := Lib.hid (HTy.out.below ((step1 X (.cells #[.int .i64 p.k, .string (str p.op), .int .i64 p.n, .string (str p.v), .string (str p.f), .slice p.A p.ks.length p.c, .int .i64 s.k, .string (str s.op), .int .i64 s.n, .string (str s.v), .string (str s.f), .slice s.A s.ks.length s.c] 24)).trans (b6.mono (step1 X (.cells #[.int .i64 p.k, .string (str p.op), .int .i64 p.n, .string (str p.v), .string (str p.f), .slice p.A p.ks.length p.c, .int .i64 s.k, .string (str s.op), .int .i64 s.n, .string (str s.v), .string (str s.f), .slice s.A s.ks.length s.c] 24)).size)))
          clear b6
          obtain ⟨y0, y1, y2, y3, y4, y5⟩ : six w6 w4.heap.size p.k p.op p.n p.v p.f p.A p.ks.length p.c := six_has HT6.out.ha
          go_wp2_with fail
          have hT2 := type_any p w6 HT6.out.ia HT6.out.tabs
          rw [typ_of HT6.out.ra, hta] at hT2
          have HT2 : Hid (Calls Tryd.prog 16 #[.agg #[.int .i64 p.k, .string (str p.op), .int .i64 p.n, .string (str p.v), .string (str p.f), .slice p.A p.ks.length p.c]] w6 fun e w' => e = .returned (.int .i64 1) ∧ Below w6.heap.size w6 w') := Lib.hid hT2
          clear hT2 y0 y1 y2 y3 y4 y5
          refine HT2.out.mono ?_
          clear HT2
          rintro e w7 ⟨rfl, b7⟩
          have HT7 := Lib.hid (HT6.out.below b7)
          clear b7
          obtain ⟨y0, y1, y2, y3, y4, y5⟩ : six w7 w5.heap.size s.k s.op s.n s.v s.f s.A s.ks.length s.c := six_has HT7.out.hb
          go_wp2_with fail
          have hT3 := type_any s w7 HT7.out.ib HT7.out.tabs
          rw [typ_of HT7.out.rb, htb] at hT3
          have HT3 : Hid (Calls Tryd.prog 16 #[.agg #[.int .i64 s.k, .string (str s.op), .int .i64 s.n, .string (str s.v), .string (str s.f), .slice s.A s.ks.length s.c]] w7 fun e w' => e = .returned (.int .i64 2) ∧ Below w7.heap.size w7 w') := Lib.hid hT3
          clear hT3 y0 y1 y2 y3 y4 y5
          refine HT3.out.mono ?_
          clear HT3
          rintro e w8 ⟨rfl, b8⟩
          have HT8 := Lib.hid (HT7.out.below b8)
          clear b8
          have e1 := str_toList op
          go_wp2_with fail
          go_ret
          exact ⟨rfl, HT8.out.bel⟩
        · have hgot : typeT (.mk 3 op 0 [] [] (some ⟨X.heap.size, 0, none⟩) 2 [p, s]) = 0 := by
            obtain ⟨q1, q2, hq⟩ : ∃ q1 q2, opT op = (q1, q2) := ⟨_, _, rfl⟩
            rw [type_two HO.out.2.2.1 HTy.out.ra HTy.out.rb hq, hta, htb, if_neg (by rintro ⟨h1, h2⟩; omega)]
          have hT1 := type_any (.mk 3 op 0 [] [] (some ⟨X.heap.size, 0, none⟩) 2 [p, s]) (X.alloc (.cells (cs2 p s) 24)) (in2 3 op 0 [] [] 2 (has_at rfl rfl) (HTy.out.ia.below (step1 _ _)) (HTy.out.ib.below (step1 _ _)) (okE_small _ _ _ _ HO.out.2.1 (by omega) (by omega))) (HTy.out.tabs.below (step1 _ _))
          rw [hgot] at hT1
          have HT1 : Hid (Calls Tryd.prog 16 #[.agg #[.int .i64 3, .string (str op), .int .i64 0, .string { data := #[] }, .string { data := #[] }, .slice (some ⟨X.heap.size, 0, none⟩) 2 2]] (X.alloc (.cells #[.int .i64 p.k, .string (str p.op), .int .i64 p.n, .string (str p.v), .string (str p.f), .slice p.A p.ks.length p.c, .int .i64 s.k, .string (str s.op), .int .i64 s.n, .string (str s.v), .string (str s.f), .slice s.A s.ks.length s.c] 24)) fun e w' => e = .returned (.int .i64 0) ∧ Below (X.alloc (.cells #[.int .i64 p.k, .string (str p.op), .int .i64 p.n, .string (str p.v), .string (str p.f), .slice p.A p.ks.length p.c, .int .i64 s.k, .string (str s.op), .int .i64 s.n, .string (str s.v), .string (str s.f), .slice s.A s.ks.length s.c] 24)).heap.size (X.alloc (.cells #[.int .i64 p.k, .string (str p.op), .int .i64 p.n, .string (str p.v), .string (str p.f), .slice p.A p.ks.length p.c, .int .i64 s.k, .string (str s.op), .int .i64 s.n, .string (str s.v), .string (str s.f), .slice s.A s.ks.length s.c] 24)) w') := Lib.hid hT1
          clear hT1
          refine HT1.out.mono ?_
          clear HT1
          rintro e w6 ⟨rfl, b6⟩
          have HT6 := Lib.hid (HTy.out.below ((step1 X (.cells #[.int .i64 p.k, .string (str p.op), .int .i64 p.n, .string (str p.v), .string (str p.f), .slice p.A p.ks.length p.c, .int .i64 s.k, .string (str s.op), .int .i64 s.n, .string (str s.v), .string (str s.f), .slice s.A s.ks.length s.c] 24)).trans (b6.mono (step1 X (.cells #[.int .i64 p.k, .string (str p.op), .int .i64 p.n, .string (str p.v), .string (str p.f), .slice p.A p.ks.length p.c, .int .i64 s.k, .string (str s.op), .int .i64 s.n, .string (str s.v), .string (str s.f), .slice s.A s.ks.length s.c] 24)).size)))
          clear b6
          obtain ⟨y0, y1, y2, y3, y4, y5⟩ : six w6 w4.heap.size p.k p.op p.n p.v p.f p.A p.ks.length p.c := six_has HT6.out.ha
          go_wp2_with fail
          have hT2 := type_any p w6 HT6.out.ia HT6.out.tabs
          rw [typ_of HT6.out.ra, hta] at hT2
          have HT2 : Hid (Calls Tryd.prog 16 #[.agg #[.int .i64 p.k, .string (str p.op), .int .i64 p.n, .string (str p.v), .string (str p.f), .slice p.A p.ks.length p.c]] w6 fun e w' => e = .returned (.int .i64 2) ∧ Below w6.heap.size w6 w') := Lib.hid hT2
          clear hT2 y0 y1 y2 y3 y4 y5
          refine HT2.out.mono ?_
          clear HT2
          rintro e w7 ⟨rfl, b7⟩
          have HT7 := Lib.hid (HT6.out.below b7)
          clear b7
          obtain ⟨y0, y1, y2, y3, y4, y5⟩ : six w7 w5.heap.size s.k s.op s.n s.v s.f s.A s.ks.length s.c := six_has HT7.out.hb
          go_wp2_with fail
          have hT3 := type_any s w7 HT7.out.ib HT7.out.tabs
          rw [typ_of HT7.out.rb, htb] at hT3
          have HT3 : Hid (Calls Tryd.prog 16 #[.agg #[.int .i64 s.k, .string (str s.op), .int .i64 s.n, .string (str s.v), .string (str s.f), .slice s.A s.ks.length s.c]] w7 fun e w' => e = .returned (.int .i64 1) ∧ Below w7.heap.size w7 w') := Lib.hid hT3
          clear hT3 y0 y1 y2 y3 y4 y5
          refine HT3.out.mono ?_
          clear HT3
          rintro e w8 ⟨rfl, b8⟩
          have HT8 := Lib.hid (HT7.out.below b8)
          clear b8
          have e1 := str_toList op
          go_wp2_with fail
          go_ret
          exact ⟨rfl, HT8.out.bel⟩
        · rcases HO.out.2.2.2 with ⟨-, x1, x2, x3⟩ | ⟨-, x1, x2, x3, x4⟩ | ⟨-, x1, x2, x3, x4, x5⟩ | ⟨-, x1, x2, x3, x4, x5⟩
          · have hgot : typeT (.mk 3 op 0 [] [] (some ⟨X.heap.size, 0, none⟩) 2 [p, s]) = 2 := by rw [type_two HO.out.2.2.1 HTy.out.ra HTy.out.rb x2, hta, htb]; decide
            clear x2 x3
            have hT1 := type_any (.mk 3 op 0 [] [] (some ⟨X.heap.size, 0, none⟩) 2 [p, s]) (X.alloc (.cells (cs2 p s) 24)) (in2 3 op 0 [] [] 2 (has_at rfl rfl) (HTy.out.ia.below (step1 _ _)) (HTy.out.ib.below (step1 _ _)) (okE_small _ _ _ _ HO.out.2.1 (by omega) (by omega))) (HTy.out.tabs.below (step1 _ _))
            rw [hgot] at hT1
            have HT1 : Hid (Calls Tryd.prog 16 #[.agg #[.int .i64 3, .string (str op), .int .i64 0, .string { data := #[] }, .string { data := #[] }, .slice (some ⟨X.heap.size, 0, none⟩) 2 2]] (X.alloc (.cells #[.int .i64 p.k, .string (str p.op), .int .i64 p.n, .string (str p.v), .string (str p.f), .slice p.A p.ks.length p.c, .int .i64 s.k, .string (str s.op), .int .i64 s.n, .string (str s.v), .string (str s.f), .slice s.A s.ks.length s.c] 24)) fun e w' => e = .returned (.int .i64 2) ∧ Below (X.alloc (.cells #[.int .i64 p.k, .string (str p.op), .int .i64 p.n, .string (str p.v), .string (str p.f), .slice p.A p.ks.length p.c, .int .i64 s.k, .string (str s.op), .int .i64 s.n, .string (str s.v), .string (str s.f), .slice s.A s.ks.length s.c] 24)).heap.size (X.alloc (.cells #[.int .i64 p.k, .string (str p.op), .int .i64 p.n, .string (str p.v), .string (str p.f), .slice p.A p.ks.length p.c, .int .i64 s.k, .string (str s.op), .int .i64 s.n, .string (str s.v), .string (str s.f), .slice s.A s.ks.length s.c] 24)) w') := Lib.hid hT1
            clear hT1
            refine HT1.out.mono ?_
            clear HT1
            rintro e w6 ⟨rfl, b6⟩
            have HT6 := Lib.hid (HTy.out.below ((step1 X (.cells #[.int .i64 p.k, .string (str p.op), .int .i64 p.n, .string (str p.v), .string (str p.f), .slice p.A p.ks.length p.c, .int .i64 s.k, .string (str s.op), .int .i64 s.n, .string (str s.v), .string (str s.f), .slice s.A s.ks.length s.c] 24)).trans (b6.mono (step1 X (.cells #[.int .i64 p.k, .string (str p.op), .int .i64 p.n, .string (str p.v), .string (str p.f), .slice p.A p.ks.length p.c, .int .i64 s.k, .string (str s.op), .int .i64 s.n, .string (str s.v), .string (str s.f), .slice s.A s.ks.length s.c] 24)).size)))
            clear b6
            obtain ⟨y0, y1, y2, y3, y4, y5⟩ : six w6 w4.heap.size p.k p.op p.n p.v p.f p.A p.ks.length p.c := six_has HT6.out.ha
            go_wp2_with fail
            have hT2 := type_any p w6 HT6.out.ia HT6.out.tabs
            rw [typ_of HT6.out.ra, hta] at hT2
            have HT2 : Hid (Calls Tryd.prog 16 #[.agg #[.int .i64 p.k, .string (str p.op), .int .i64 p.n, .string (str p.v), .string (str p.f), .slice p.A p.ks.length p.c]] w6 fun e w' => e = .returned (.int .i64 2) ∧ Below w6.heap.size w6 w') := Lib.hid hT2
            clear hT2 y0 y1 y2 y3 y4 y5
            refine HT2.out.mono ?_
            clear HT2
            rintro e w7 ⟨rfl, b7⟩
            have HT7 := Lib.hid (HT6.out.below b7)
            clear b7
            obtain ⟨y0, y1, y2, y3, y4, y5⟩ : six w7 w5.heap.size s.k s.op s.n s.v s.f s.A s.ks.length s.c := six_has HT7.out.hb
            go_wp2_with fail
            have hT3 := type_any s w7 HT7.out.ib HT7.out.tabs
            rw [typ_of HT7.out.rb, htb] at hT3
            have HT3 : Hid (Calls Tryd.prog 16 #[.agg #[.int .i64 s.k, .string (str s.op), .int .i64 s.n, .string (str s.v), .string (str s.f), .slice s.A s.ks.length s.c]] w7 fun e w' => e = .returned (.int .i64 2) ∧ Below w7.heap.size w7 w') := Lib.hid hT3
            clear hT3 y0 y1 y2 y3 y4 y5
            refine HT3.out.mono ?_
            clear HT3
            rintro e w8 ⟨rfl, b8⟩
            have HT8 := Lib.hid (HT7.out.below b8)
            clear b8
            have e1 := str_toList op
            go_wp2_with fail
            go_ret
            exact ⟨rfl, HT8.out.bel⟩
          · have hgot : typeT (.mk 3 op 0 [] [] (some ⟨X.heap.size, 0, none⟩) 2 [p, s]) = 2 := by rw [type_two HO.out.2.2.1 HTy.out.ra HTy.out.rb x3, hta, htb]; decide
            clear x3 x4
            have hT1 := type_any (.mk 3 op 0 [] [] (some ⟨X.heap.size, 0, none⟩) 2 [p, s]) (X.alloc (.cells (cs2 p s) 24)) (in2 3 op 0 [] [] 2 (has_at rfl rfl) (HTy.out.ia.below (step1 _ _)) (HTy.out.ib.below (step1 _ _)) (okE_small _ _ _ _ HO.out.2.1 (by omega) (by omega))) (HTy.out.tabs.below (step1 _ _))
            rw [hgot] at hT1
            have HT1 : Hid (Calls Tryd.prog 16 #[.agg #[.int .i64 3, .string (str op), .int .i64 0, .string { data := #[] }, .string { data := #[] }, .slice (some ⟨X.heap.size, 0, none⟩) 2 2]] (X.alloc (.cells #[.int .i64 p.k, .string (str p.op), .int .i64 p.n, .string (str p.v), .string (str p.f), .slice p.A p.ks.length p.c, .int .i64 s.k, .string (str s.op), .int .i64 s.n, .string (str s.v), .string (str s.f), .slice s.A s.ks.length s.c] 24)) fun e w' => e = .returned (.int .i64 2) ∧ Below (X.alloc (.cells #[.int .i64 p.k, .string (str p.op), .int .i64 p.n, .string (str p.v), .string (str p.f), .slice p.A p.ks.length p.c, .int .i64 s.k, .string (str s.op), .int .i64 s.n, .string (str s.v), .string (str s.f), .slice s.A s.ks.length s.c] 24)).heap.size (X.alloc (.cells #[.int .i64 p.k, .string (str p.op), .int .i64 p.n, .string (str p.v), .string (str p.f), .slice p.A p.ks.length p.c, .int .i64 s.k, .string (str s.op), .int .i64 s.n, .string (str s.v), .string (str s.f), .slice s.A s.ks.length s.c] 24)) w') := Lib.hid hT1
            clear hT1
            refine HT1.out.mono ?_
            clear HT1
            rintro e w6 ⟨rfl, b6⟩
            have HT6 := Lib.hid (HTy.out.below ((step1 X (.cells #[.int .i64 p.k, .string (str p.op), .int .i64 p.n, .string (str p.v), .string (str p.f), .slice p.A p.ks.length p.c, .int .i64 s.k, .string (str s.op), .int .i64 s.n, .string (str s.v), .string (str s.f), .slice s.A s.ks.length s.c] 24)).trans (b6.mono (step1 X (.cells #[.int .i64 p.k, .string (str p.op), .int .i64 p.n, .string (str p.v), .string (str p.f), .slice p.A p.ks.length p.c, .int .i64 s.k, .string (str s.op), .int .i64 s.n, .string (str s.v), .string (str s.f), .slice s.A s.ks.length s.c] 24)).size)))
            clear b6
            obtain ⟨y0, y1, y2, y3, y4, y5⟩ : six w6 w4.heap.size p.k p.op p.n p.v p.f p.A p.ks.length p.c := six_has HT6.out.ha
            go_wp2_with fail
            have hT2 := type_any p w6 HT6.out.ia HT6.out.tabs
            rw [typ_of HT6.out.ra, hta] at hT2
            have HT2 : Hid (Calls Tryd.prog 16 #[.agg #[.int .i64 p.k, .string (str p.op), .int .i64 p.n, .string (str p.v), .string (str p.f), .slice p.A p.ks.length p.c]] w6 fun e w' => e = .returned (.int .i64 2) ∧ Below w6.heap.size w6 w') := Lib.hid hT2
            clear hT2 y0 y1 y2 y3 y4 y5
            refine HT2.out.mono ?_
            clear HT2
            rintro e w7 ⟨rfl, b7⟩
            have HT7 := Lib.hid (HT6.out.below b7)
            clear b7
            obtain ⟨y0, y1, y2, y3, y4, y5⟩ : six w7 w5.heap.size s.k s.op s.n s.v s.f s.A s.ks.length s.c := six_has HT7.out.hb
            go_wp2_with fail
            have hT3 := type_any s w7 HT7.out.ib HT7.out.tabs
            rw [typ_of HT7.out.rb, htb] at hT3
            have HT3 : Hid (Calls Tryd.prog 16 #[.agg #[.int .i64 s.k, .string (str s.op), .int .i64 s.n, .string (str s.v), .string (str s.f), .slice s.A s.ks.length s.c]] w7 fun e w' => e = .returned (.int .i64 2) ∧ Below w7.heap.size w7 w') := Lib.hid hT3
            clear hT3 y0 y1 y2 y3 y4 y5
            refine HT3.out.mono ?_
            clear HT3
            rintro e w8 ⟨rfl, b8⟩
            have HT8 := Lib.hid (HT7.out.below b8)
            clear b8
            have e1 := str_toList op
            go_wp2_with fail
            go_ret
            exact ⟨rfl, HT8.out.bel⟩
          · have hgot : typeT (.mk 3 op 0 [] [] (some ⟨X.heap.size, 0, none⟩) 2 [p, s]) = 0 := by rw [type_two HO.out.2.2.1 HTy.out.ra HTy.out.rb x3, hta, htb]; decide
            clear x3 x4 x5
            have hT1 := type_any (.mk 3 op 0 [] [] (some ⟨X.heap.size, 0, none⟩) 2 [p, s]) (X.alloc (.cells (cs2 p s) 24)) (in2 3 op 0 [] [] 2 (has_at rfl rfl) (HTy.out.ia.below (step1 _ _)) (HTy.out.ib.below (step1 _ _)) (okE_small _ _ _ _ HO.out.2.1 (by omega) (by omega))) (HTy.out.tabs.below (step1 _ _))
            rw [hgot] at hT1
            have HT1 : Hid (Calls Tryd.prog 16 #[.agg #[.int .i64 3, .string (str op), .int .i64 0, .string { data := #[] }, .string { data := #[] }, .slice (some ⟨X.heap.size, 0, none⟩) 2 2]] (X.alloc (.cells #[.int .i64 p.k, .string (str p.op), .int .i64 p.n, .string (str p.v), .string (str p.f), .slice p.A p.ks.length p.c, .int .i64 s.k, .string (str s.op), .int .i64 s.n, .string (str s.v), .string (str s.f), .slice s.A s.ks.length s.c] 24)) fun e w' => e = .returned (.int .i64 0) ∧ Below (X.alloc (.cells #[.int .i64 p.k, .string (str p.op), .int .i64 p.n, .string (str p.v), .string (str p.f), .slice p.A p.ks.length p.c, .int .i64 s.k, .string (str s.op), .int .i64 s.n, .string (str s.v), .string (str s.f), .slice s.A s.ks.length s.c] 24)).heap.size (X.alloc (.cells #[.int .i64 p.k, .string (str p.op), .int .i64 p.n, .string (str p.v), .string (str p.f), .slice p.A p.ks.length p.c, .int .i64 s.k, .string (str s.op), .int .i64 s.n, .string (str s.v), .string (str s.f), .slice s.A s.ks.length s.c] 24)) w') := Lib.hid hT1
            clear hT1
            refine HT1.out.mono ?_
            clear HT1
            rintro e w6 ⟨rfl, b6⟩
            have HT6 := Lib.hid (HTy.out.below ((step1 X (.cells #[.int .i64 p.k, .string (str p.op), .int .i64 p.n, .string (str p.v), .string (str p.f), .slice p.A p.ks.length p.c, .int .i64 s.k, .string (str s.op), .int .i64 s.n, .string (str s.v), .string (str s.f), .slice s.A s.ks.length s.c] 24)).trans (b6.mono (step1 X (.cells #[.int .i64 p.k, .string (str p.op), .int .i64 p.n, .string (str p.v), .string (str p.f), .slice p.A p.ks.length p.c, .int .i64 s.k, .string (str s.op), .int .i64 s.n, .string (str s.v), .string (str s.f), .slice s.A s.ks.length s.c] 24)).size)))
            clear b6
            obtain ⟨y0, y1, y2, y3, y4, y5⟩ : six w6 w4.heap.size p.k p.op p.n p.v p.f p.A p.ks.length p.c := six_has HT6.out.ha
            go_wp2_with fail
            have hT2 := type_any p w6 HT6.out.ia HT6.out.tabs
            rw [typ_of HT6.out.ra, hta] at hT2
            have HT2 : Hid (Calls Tryd.prog 16 #[.agg #[.int .i64 p.k, .string (str p.op), .int .i64 p.n, .string (str p.v), .string (str p.f), .slice p.A p.ks.length p.c]] w6 fun e w' => e = .returned (.int .i64 2) ∧ Below w6.heap.size w6 w') := Lib.hid hT2
            clear hT2 y0 y1 y2 y3 y4 y5
            refine HT2.out.mono ?_
            clear HT2
            rintro e w7 ⟨rfl, b7⟩
            have HT7 := Lib.hid (HT6.out.below b7)
            clear b7
            obtain ⟨y0, y1, y2, y3, y4, y5⟩ : six w7 w5.heap.size s.k s.op s.n s.v s.f s.A s.ks.length s.c := six_has HT7.out.hb
            go_wp2_with fail
            have hT3 := type_any s w7 HT7.out.ib HT7.out.tabs
            rw [typ_of HT7.out.rb, htb] at hT3
            have HT3 : Hid (Calls Tryd.prog 16 #[.agg #[.int .i64 s.k, .string (str s.op), .int .i64 s.n, .string (str s.v), .string (str s.f), .slice s.A s.ks.length s.c]] w7 fun e w' => e = .returned (.int .i64 2) ∧ Below w7.heap.size w7 w') := Lib.hid hT3
            clear hT3 y0 y1 y2 y3 y4 y5
            refine HT3.out.mono ?_
            clear HT3
            rintro e w8 ⟨rfl, b8⟩
            have HT8 := Lib.hid (HT7.out.below b8)
            clear b8
            have e1 := str_toList op
            go_wp2_with fail
            go_ret
            exact ⟨rfl, HT8.out.bel⟩
          · have hgot : typeT (.mk 3 op 0 [] [] (some ⟨X.heap.size, 0, none⟩) 2 [p, s]) = 0 := by rw [type_two HO.out.2.2.1 HTy.out.ra HTy.out.rb x3, hta, htb]; decide
            clear x3 x4 x5
            have hT1 := type_any (.mk 3 op 0 [] [] (some ⟨X.heap.size, 0, none⟩) 2 [p, s]) (X.alloc (.cells (cs2 p s) 24)) (in2 3 op 0 [] [] 2 (has_at rfl rfl) (HTy.out.ia.below (step1 _ _)) (HTy.out.ib.below (step1 _ _)) (okE_small _ _ _ _ HO.out.2.1 (by omega) (by omega))) (HTy.out.tabs.below (step1 _ _))
            rw [hgot] at hT1
            have HT1 : Hid (Calls Tryd.prog 16 #[.agg #[.int .i64 3, .string (str op), .int .i64 0, .string { data := #[] }, .string { data := #[] }, .slice (some ⟨X.heap.size, 0, none⟩) 2 2]] (X.alloc (.cells #[.int .i64 p.k, .string (str p.op), .int .i64 p.n, .string (str p.v), .string (str p.f), .slice p.A p.ks.length p.c, .int .i64 s.k, .string (str s.op), .int .i64 s.n, .string (str s.v), .string (str s.f), .slice s.A s.ks.length s.c] 24)) fun e w' => e = .returned (.int .i64 0) ∧ Below (X.alloc (.cells #[.int .i64 p.k, .string (str p.op), .int .i64 p.n, .string (str p.v), .string (str p.f), .slice p.A p.ks.length p.c, .int .i64 s.k, .string (str s.op), .int .i64 s.n, .string (str s.v), .string (str s.f), .slice s.A s.ks.length s.c] 24)).heap.size (X.alloc (.cells #[.int .i64 p.k, .string (str p.op), .int .i64 p.n, .string (str p.v), .string (str p.f), .slice p.A p.ks.length p.c, .int .i64 s.k, .string (str s.op), .int .i64 s.n, .string (str s.v), .string (str s.f), .slice s.A s.ks.length s.c] 24)) w') := Lib.hid hT1
            clear hT1
            refine HT1.out.mono ?_
            clear HT1
            rintro e w6 ⟨rfl, b6⟩
            have HT6 := Lib.hid (HTy.out.below ((step1 X (.cells #[.int .i64 p.k, .string (str p.op), .int .i64 p.n, .string (str p.v), .string (str p.f), .slice p.A p.ks.length p.c, .int .i64 s.k, .string (str s.op), .int .i64 s.n, .string (str s.v), .string (str s.f), .slice s.A s.ks.length s.c] 24)).trans (b6.mono (step1 X (.cells #[.int .i64 p.k, .string (str p.op), .int .i64 p.n, .string (str p.v), .string (str p.f), .slice p.A p.ks.length p.c, .int .i64 s.k, .string (str s.op), .int .i64 s.n, .string (str s.v), .string (str s.f), .slice s.A s.ks.length s.c] 24)).size)))
            clear b6
            obtain ⟨y0, y1, y2, y3, y4, y5⟩ : six w6 w4.heap.size p.k p.op p.n p.v p.f p.A p.ks.length p.c := six_has HT6.out.ha
            go_wp2_with fail
            have hT2 := type_any p w6 HT6.out.ia HT6.out.tabs
            rw [typ_of HT6.out.ra, hta] at hT2
            have HT2 : Hid (Calls Tryd.prog 16 #[.agg #[.int .i64 p.k, .string (str p.op), .int .i64 p.n, .string (str p.v), .string (str p.f), .slice p.A p.ks.length p.c]] w6 fun e w' => e = .returned (.int .i64 2) ∧ Below w6.heap.size w6 w') := Lib.hid hT2
            clear hT2 y0 y1 y2 y3 y4 y5
            refine HT2.out.mono ?_
            clear HT2
            rintro e w7 ⟨rfl, b7⟩
            have HT7 := Lib.hid (HT6.out.below b7)
            clear b7
            obtain ⟨y0, y1, y2, y3, y4, y5⟩ : six w7 w5.heap.size s.k s.op s.n s.v s.f s.A s.ks.length s.c := six_has HT7.out.hb
            go_wp2_with fail
            have hT3 := type_any s w7 HT7.out.ib HT7.out.tabs
            rw [typ_of HT7.out.rb, htb] at hT3
            have HT3 : Hid (Calls Tryd.prog 16 #[.agg #[.int .i64 s.k, .string (str s.op), .int .i64 s.n, .string (str s.v), .string (str s.f), .slice s.A s.ks.length s.c]] w7 fun e w' => e = .returned (.int .i64 2) ∧ Below w7.heap.size w7 w') := Lib.hid hT3
            clear hT3 y0 y1 y2 y3 y4 y5
            refine HT3.out.mono ?_
            clear HT3
            rintro e w8 ⟨rfl, b8⟩
            have HT8 := Lib.hid (HT7.out.below b8)
            clear b8
            have e1 := str_toList op
            go_wp2_with fail
            go_ret
            exact ⟨rfl, HT8.out.bel⟩
      · have hl2' : ((t2.ks.length : Int) == 2) = false := by simp; omega
        have HH := Lib.hid hl1
        clear hl1
        go_wp2_with fail
        clear a0 a1 a2 a3 a4 a5 c0 c1' c2' c3 c4 c5 cA
        have hta := HN1.out.1.2.1
        have htb := HN2.out.1.2.1
        rcases HO.out.2.2.2 with ⟨-, x1, x2, x3⟩ | ⟨-, x1, x2, x3, x4⟩ | ⟨-, x1, x2, x3, x4, x5⟩ | ⟨-, x1, x2, x3, x4, x5⟩
        · have hgot : typeT (.mk 3 op 0 [] [] (some ⟨Wb.heap.size, 0, none⟩) 2 [t1, t2]) = 2 := by rw [type_two HO.out.2.2.1 HTy.out.ra HTy.out.rb x2, hta, htb]; decide
          clear x2 x3
          have hT1 := type_any (.mk 3 op 0 [] [] (some ⟨Wb.heap.size, 0, none⟩) 2 [t1, t2]) (Wb.alloc (.cells (cs2 t1 t2) 24)) (in2 3 op 0 [] [] 2 (has_at rfl rfl) (HTy.out.ia.below (step1 _ _)) (HTy.out.ib.below (step1 _ _)) (okE_small _ _ _ _ HO.out.2.1 (by omega) (by omega))) (HTy.out.tabs.below (step1 _ _))
          rw [hgot] at hT1
          have HT1 : Hid (Calls Tryd.prog 16 #[.agg #[.int .i64 3, .string (str op), .int .i64 0, .string { data := #[] }, .string { data := #[] }, .slice (some ⟨Wb.heap.size, 0, none⟩) 2 2]] (Wb.alloc (.cells #[.int .i64 t1.k, .string (str t1.op), .int .i64 t1.n, .string (str t1.v), .string (str t1.f), .slice t1.A t1.ks.length t1.c, .int .i64 t2.k, .string (str t2.op), .int .i64 t2.n, .string (str t2.v), .string (str t2.f), .slice t2.A t2.ks.length t2.c] 24)) fun e w' => e = .returned (.int .i64 2) ∧ Below (Wb.alloc (.cells #[.int .i64 t1.k, .string (str t1.op), .int .i64 t1.n, .string (str t1.v), .string (str t1.f), .slice t1.A t1.ks.length t1.c, .int .i64 t2.k, .string (str t2.op), .int .i64 t2.n, .string (str t2.v), .string (str t2.f), .slice t2.A t2.ks.length t2.c] 24)).heap.size (Wb.alloc (.cells #[.int .i64 t1.k, .string (str t1.op), .int .i64 t1.n, .string (str t1.v), .string (str t1.f), .slice t1.A t1.ks.length t1.c, .int .i64 t2.k, .string (str t2.op), .int .i64 t2.n, .string (str t2.v), .string (str t2.f), .slice t2.A t2.ks.length t2.c] 24)) w') := Lib.hid hT1
          clear hT1
          refine HT1.out.mono ?_
          clear HT1
          rintro e w6 ⟨rfl, b6⟩
          have HT6 := Lib.hid (HTy.out.below ((step1 Wb (.cells #[.int .i64 t1.k, .string (str t1.op), .int .i64 t1.n, .string (str t1.v), .string (str t1.f), .slice t1.A t1.ks.length t1.c, .int .i64 t2.k, .string (str t2.op), .int .i64 t2.n, .string (str t2.v), .string (str t2.f), .slice t2.A t2.ks.length t2.c] 24)).trans (b6.mono (step1 Wb (.cells #[.int .i64 t1.k, .string (str t1.op), .int .i64 t1.n, .string (str t1.v), .string (str t1.f), .slice t1.A t1.ks.length t1.c, .int .i64 t2.k, .string (str t2.op), .int .i64 t2.n, .string (str t2.v), .string (str t2.f), .slice t2.A t2.ks.length t2.c] 24)).size)))
          clear b6
          obtain ⟨y0, y1, y2, y3, y4, y5⟩ : six w6 w4.heap.size t1.k t1.op t1.n t1.v t1.f t1.A t1.ks.length t1.c := six_has HT6.out.ha
          go_wp2_with fail
          have hT2 := type_any t1 w6 HT6.out.ia HT6.out.tabs
          rw [typ_of HT6.out.ra, hta] at hT2
          have HT2 : Hid (Calls Tryd.prog 16 #[.agg #[.int .i64 t1.k, .string (str t1.op), .int .i64 t1.n, .string (str t1.v), .string (str t1.f), .slice t1.A t1.ks.length t1.c]] w6 fun e w' => e = .returned (.int .i64 2) ∧ Below w6.heap.size w6 w') := Lib.hid hT2
          clear hT2 y0 y1 y2 y3 y4 y5
          refine HT2.out.mono ?_
          clear HT2
          rintro e w7 ⟨rfl, b7⟩
          have HT7 := Lib.hid (HT6.out.below b7)
          clear b7
          obtain ⟨y0, y1, y2, y3, y4, y5⟩ : six w7 w5.heap.size t2.k t2.op t2.n t2.v t2.f t2.A t2.ks.length t2.c := six_has HT7.out.hb
          go_wp2_with fail
          have hT3 := type_any t2 w7 HT7.out.ib HT7.out.tabs
          rw [typ_of HT7.out.rb, htb] at hT3
          have HT3 : Hid (Calls Tryd.prog 16 #[.agg #[.int .i64 t2.k, .string (str t2.op), .int .i64 t2.n, .string (str t2.v), .string (str t2.f), .slice t2.A t2.ks.length t2.c]] w7 fun e w' => e = .returned (.int .i64 2) ∧ Below w7.heap.size w7 w') := Lib.hid hT3
          clear hT3 y0 y1 y2 y3 y4 y5
          refine HT3.out.mono ?_
          clear HT3
          rintro e w8 ⟨rfl, b8⟩
          have HT8 := Lib.hid (HT7.out.below b8)
          clear b8
          have e1 := str_toList op
          go_wp2_with fail
          go_ret
          exact ⟨rfl, HT8.out.bel⟩
        · have hgot : typeT (.mk 3 op 0 [] [] (some ⟨Wb.heap.size, 0, none⟩) 2 [t1, t2]) = 2 := by rw [type_two HO.out.2.2.1 HTy.out.ra HTy.out.rb x3, hta, htb]; decide
          clear x3 x4
          have hT1 := type_any (.mk 3 op 0 [] [] (some ⟨Wb.heap.size, 0, none⟩) 2 [t1, t2]) (Wb.alloc (.cells (cs2 t1 t2) 24)) (in2 3 op 0 [] [] 2 (has_at rfl rfl) (HTy.out.ia.below (step1 _ _)) (HTy.out.ib.below (step1 _ _)) (okE_small _ _ _ _ HO.out.2.1 (by omega) (by omega))) (HTy.out.tabs.below (step1 _ _))
          rw [hgot] at hT1
          have HT1 : Hid (Calls Tryd.prog 16 #[.agg #[.int .i64 3, .string (str op), .int .i64 0, .string { data := #[] }, .string { data := #[] }, .slice (some ⟨Wb.heap.size, 0, none⟩) 2 2]] (Wb.alloc (.cells #[.int .i64 t1.k, .string (str t1.op), .int .i64 t1.n, .string (str t1.v), .string (str t1.f), .slice t1.A t1.ks.length t1.c, .int .i64 t2.k, .string (str t2.op), .int .i64 t2.n, .string (str t2.v), .string (str t2.f), .slice t2.A t2.ks.length t2.c] 24)) fun e w' => e = .returned (.int .i64 2) ∧ Below (Wb.alloc (.cells #[.int .i64 t1.k, .string (str t1.op), .int .i64 t1.n, .string (str t1.v), .string (str t1.f), .slice t1.A t1.ks.length t1.c, .int .i64 t2.k, .string (str t2.op), .int .i64 t2.n, .string (str t2.v), .string (str t2.f), .slice t2.A t2.ks.length t2.c] 24)).heap.size (Wb.alloc (.cells #[.int .i64 t1.k, .string (str t1.op), .int .i64 t1.n, .string (str t1.v), .string (str t1.f), .slice t1.A t1.ks.length t1.c, .int .i64 t2.k, .string (str t2.op), .int .i64 t2.n, .string (str t2.v), .string (str t2.f), .slice t2.A t2.ks.length t2.c] 24)) w') := Lib.hid hT1
          clear hT1
          refine HT1.out.mono ?_
          clear HT1
          rintro e w6 ⟨rfl, b6⟩
          have HT6 := Lib.hid (HTy.out.below ((step1 Wb (.cells #[.int .i64 t1.k, .string (str t1.op), .int .i64 t1.n, .string (str t1.v), .string (str t1.f), .slice t1.A t1.ks.length t1.c, .int .i64 t2.k, .string (str t2.op), .int .i64 t2.n, .string (str t2.v), .string (str t2.f), .slice t2.A t2.ks.length t2.c] 24)).trans (b6.mono (step1 Wb (.cells #[.int .i64 t1.k, .string (str t1.op), .int .i64 t1.n, .string (str t1.v), .string (str t1.f), .slice t1.A t1.ks.length t1.c, .int .i64 t2.k, .string (str t2.op), .int .i64 t2.n, .string (str t2.v), .string (str t2.f), .slice t2.A t2.ks.length t2.c] 24)).size)))
          clear b6
          obtain ⟨y0, y1, y2, y3, y4, y5⟩ : six w6 w4.heap.size t1.k t1.op t1.n t1.v t1.f t1.A t1.ks.length t1.c := six_has HT6.out.ha
          go_wp2_with fail
          have hT2 := type_any t1 w6 HT6.out.ia HT6.out.tabs
          rw [typ_of HT6.out.ra, hta] at hT2
          have HT2 : Hid (Calls Tryd.prog 16 #[.agg #[.int .i64 t1.k, .string (str t1.op), .int .i64 t1.n, .string (str t1.v), .string (str t1.f), .slice t1.A t1.ks.length t1.c]] w6 fun e w' => e = .returned (.int .i64 2) ∧ Below w6.heap.size w6 w') := Lib.hid hT2
          clear hT2 y0 y1 y2 y3 y4 y5
          refine HT2.out.mono ?_
          clear HT2
          rintro e w7 ⟨rfl, b7⟩
          have HT7 := Lib.hid (HT6.out.below b7)
          clear b7
          obtain ⟨y0, y1, y2, y3, y4, y5⟩ : six w7 w5.heap.size t2.k t2.op t2.n t2.v t2.f t2.A t2.ks.length t2.c := six_has HT7.out.hb
          go_wp2_with fail
          have hT3 := type_any t2 w7 HT7.out.ib HT7.out.tabs
          rw [typ_of HT7.out.rb, htb] at hT3
          have HT3 : Hid (Calls Tryd.prog 16 #[.agg #[.int .i64 t2.k, .string (str t2.op), .int .i64 t2.n, .string (str t2.v), .string (str t2.f), .slice t2.A t2.ks.length t2.c]] w7 fun e w' => e = .returned (.int .i64 2) ∧ Below w7.heap.size w7 w') := Lib.hid hT3
          clear hT3 y0 y1 y2 y3 y4 y5
          refine HT3.out.mono ?_
          clear HT3
          rintro e w8 ⟨rfl, b8⟩
          have HT8 := Lib.hid (HT7.out.below b8)
          clear b8
          have e1 := str_toList op
          go_wp2_with fail
          go_ret
          exact ⟨rfl, HT8.out.bel⟩
        · have hgot : typeT (.mk 3 op 0 [] [] (some ⟨Wb.heap.size, 0, none⟩) 2 [t1, t2]) = 0 := by rw [type_two HO.out.2.2.1 HTy.out.ra HTy.out.rb x3, hta, htb]; decide
          clear x3 x4 x5
          have hT1 := type_any (.mk 3 op 0 [] [] (some ⟨Wb.heap.size, 0, none⟩) 2 [t1, t2]) (Wb.alloc (.cells (cs2 t1 t2) 24)) (in2 3 op 0 [] [] 2 (has_at rfl rfl) (HTy.out.ia.below (step1 _ _)) (HTy.out.ib.below (step1 _ _)) (okE_small _ _ _ _ HO.out.2.1 (by omega) (by omega))) (HTy.out.tabs.below (step1 _ _))
          rw [hgot] at hT1
          have HT1 : Hid (Calls Tryd.prog 16 #[.agg #[.int .i64 3, .string (str op), .int .i64 0, .string { data := #[] }, .string { data := #[] }, .slice (some ⟨Wb.heap.size, 0, none⟩) 2 2]] (Wb.alloc (.cells #[.int .i64 t1.k, .string (str t1.op), .int .i64 t1.n, .string (str t1.v), .string (str t1.f), .slice t1.A t1.ks.length t1.c, .int .i64 t2.k, .string (str t2.op), .int .i64 t2.n, .string (str t2.v), .string (str t2.f), .slice t2.A t2.ks.length t2.c] 24)) fun e w' => e = .returned (.int .i64 0) ∧ Below (Wb.alloc (.cells #[.int .i64 t1.k, .string (str t1.op), .int .i64 t1.n, .string (str t1.v), .string (str t1.f), .slice t1.A t1.ks.length t1.c, .int .i64 t2.k, .string (str t2.op), .int .i64 t2.n, .string (str t2.v), .string (str t2.f), .slice t2.A t2.ks.length t2.c] 24)).heap.size (Wb.alloc (.cells #[.int .i64 t1.k, .string (str t1.op), .int .i64 t1.n, .string (str t1.v), .string (str t1.f), .slice t1.A t1.ks.length t1.c, .int .i64 t2.k, .string (str t2.op), .int .i64 t2.n, .string (str t2.v), .string (str t2.f), .slice t2.A t2.ks.length t2.c] 24)) w') := Lib.hid hT1
          clear hT1
          refine HT1.out.mono ?_
          clear HT1
          rintro e w6 ⟨rfl, b6⟩
          have HT6 := Lib.hid (HTy.out.below ((step1 Wb (.cells #[.int .i64 t1.k, .string (str t1.op), .int .i64 t1.n, .string (str t1.v), .string (str t1.f), .slice t1.A t1.ks.length t1.c, .int .i64 t2.k, .string (str t2.op), .int .i64 t2.n, .string (str t2.v), .string (str t2.f), .slice t2.A t2.ks.length t2.c] 24)).trans (b6.mono (step1 Wb (.cells #[.int .i64 t1.k, .string (str t1.op), .int .i64 t1.n, .string (str t1.v), .string (str t1.f), .slice t1.A t1.ks.length t1.c, .int .i64 t2.k, .string (str t2.op), .int .i64 t2.n, .string (str t2.v), .string (str t2.f), .slice t2.A t2.ks.length t2.c] 24)).size)))
          clear b6
          obtain ⟨y0, y1, y2, y3, y4, y5⟩ : six w6 w4.heap.size t1.k t1.op t1.n t1.v t1.f t1.A t1.ks.length t1.c := six_has HT6.out.ha
          go_wp2_with fail
          have hT2 := type_any t1 w6 HT6.out.ia HT6.out.tabs
          rw [typ_of HT6.out.ra, hta] at hT2
          have HT2 : Hid (Calls Tryd.prog 16 #[.agg #[.int .i64 t1.k, .string (str t1.op), .int .i64 t1.n, .string (str t1.v), .string (str t1.f), .slice t1.A t1.ks.length t1.c]] w6 fun e w' => e = .returned (.int .i64 2) ∧ Below w6.heap.size w6 w') := Lib.hid hT2
          clear hT2 y0 y1 y2 y3 y4 y5
          refine HT2.out.mono ?_
          clear HT2
          rintro e w7 ⟨rfl, b7⟩
          have HT7 := Lib.hid (HT6.out.below b7)
          clear b7
          obtain ⟨y0, y1, y2, y3, y4, y5⟩ : six w7 w5.heap.size t2.k t2.op t2.n t2.v t2.f t2.A t2.ks.length t2.c := six_has HT7.out.hb
          go_wp2_with fail
          have hT3 := type_any t2 w7 HT7.out.ib HT7.out.tabs
          rw [typ_of HT7.out.rb, htb] at hT3
          have HT3 : Hid (Calls Tryd.prog 16 #[.agg #[.int .i64 t2.k, .string (str t2.op), .int .i64 t2.n, .string (str t2.v), .string (str t2.f), .slice t2.A t2.ks.length t2.c]] w7 fun e w' => e = .returned (.int .i64 2) ∧ Below w7.heap.size w7 w') := Lib.hid hT3
          clear hT3 y0 y1 y2 y3 y4 y5
          refine HT3.out.mono ?_
          clear HT3
          rintro e w8 ⟨rfl, b8⟩
          have HT8 := Lib.hid (HT7.out.below b8)
          clear b8
          have e1 := str_toList op
          go_wp2_with fail
          go_ret
          exact ⟨rfl, HT8.out.bel⟩
        · have hgot : typeT (.mk 3 op 0 [] [] (some ⟨Wb.heap.size, 0, none⟩) 2 [t1, t2]) = 0 := by rw [type_two HO.out.2.2.1 HTy.out.ra HTy.out.rb x3, hta, htb]; decide
          clear x3 x4 x5
          have hT1 := type_any (.mk 3 op 0 [] [] (some ⟨Wb.heap.size, 0, none⟩) 2 [t1, t2]) (Wb.alloc (.cells (cs2 t1 t2) 24)) (in2 3 op 0 [] [] 2 (has_at rfl rfl) (HTy.out.ia.below (step1 _ _)) (HTy.out.ib.below (step1 _ _)) (okE_small _ _ _ _ HO.out.2.1 (by omega) (by omega))) (HTy.out.tabs.below (step1 _ _))
          rw [hgot] at hT1
          have HT1 : Hid (Calls Tryd.prog 16 #[.agg #[.int .i64 3, .string (str op), .int .i64 0, .string { data := #[] }, .string { data := #[] }, .slice (some ⟨Wb.heap.size, 0, none⟩) 2 2]] (Wb.alloc (.cells #[.int .i64 t1.k, .string (str t1.op), .int .i64 t1.n, .string (str t1.v), .string (str t1.f), .slice t1.A t1.ks.length t1.c, .int .i64 t2.k, .string (str t2.op), .int .i64 t2.n, .string (str t2.v), .string (str t2.f), .slice t2.A t2.ks.length t2.c] 24)) fun e w' => e = .returned (.int .i64 0) ∧ Below (Wb.alloc (.cells #[.int .i64 t1.k, .string (str t1.op), .int .i64 t1.n, .string (str t1.v), .string (str t1.f), .slice t1.A t1.ks.length t1.c, .int .i64 t2.k, .string (str t2.op), .int .i64 t2.n, .string (str t2.v), .string (str t2.f), .slice t2.A t2.ks.length t2.c] 24)).heap.size (Wb.alloc (.cells #[.int .i64 t1.k, .string (str t1.op), .int .i64 t1.n, .string (str t1.v), .string (str t1.f), .slice t1.A t1.ks.length t1.c, .int .i64 t2.k, .string (str t2.op), .int .i64 t2.n, .string (str t2.v), .string (str t2.f), .slice t2.A t2.ks.length t2.c] 24)) w') := Lib.hid hT1
          clear hT1
          refine HT1.out.mono ?_
          clear HT1
          rintro e w6 ⟨rfl, b6⟩
          have HT6 := Lib.hid (HTy.out.below ((step1 Wb (.cells #[.int .i64 t1.k, .string (str t1.op), .int .i64 t1.n, .string (str t1.v), .string (str t1.f), .slice t1.A t1.ks.length t1.c, .int .i64 t2.k, .string (str t2.op), .int .i64 t2.n, .string (str t2.v), .string (str t2.f), .slice t2.A t2.ks.length t2.c] 24)).trans (b6.mono (step1 Wb (.cells #[.int .i64 t1.k, .string (str t1.op), .int .i64 t1.n, .string (str t1.v), .string (str t1.f), .slice t1.A t1.ks.length t1.c, .int .i64 t2.k, .string (str t2.op), .int .i64 t2.n, .string (str t2.v), .string (str t2.f), .slice t2.A t2.ks.length t2.c] 24)).size)))
          clear b6
          obtain ⟨y0, y1, y2, y3, y4, y5⟩ : six w6 w4.heap.size t1.k t1.op t1.n t1.v t1.f t1.A t1.ks.length t1.c := six_has HT6.out.ha
          go_wp2_with fail
          have hT2 := type_any t1 w6 HT6.out.ia HT6.out.tabs
          rw [typ_of HT6.out.ra, hta] at hT2
          have HT2 : Hid (Calls Tryd.prog 16 #[.agg #[.int .i64 t1.k, .string (str t1.op), .int .i64 t1.n, .string (str t1.v), .string (str t1.f), .slice t1.A t1.ks.length t1.c]] w6 fun e w' => e = .returned (.int .i64 2) ∧ Below w6.heap.size w6 w') := Lib.hid hT2
          clear hT2 y0 y1 y2 y3 y4 y5
          refine HT2.out.mono ?_
          clear HT2
          rintro e w7 ⟨rfl, b7⟩
          have HT7 := Lib.hid (HT6.out.below b7)
          clear b7
          obtain ⟨y0, y1, y2, y3, y4, y5⟩ : six w7 w5.heap.size t2.k t2.op t2.n t2.v t2.f t2.A t2.ks.length t2.c := six_has HT7.out.hb
          go_wp2_with fail
          have hT3 := type_any t2 w7 HT7.out.ib HT7.out.tabs
          rw [typ_of HT7.out.rb, htb] at hT3
          have HT3 : Hid (Calls Tryd.prog 16 #[.agg #[.int .i64 t2.k, .string (str t2.op), .int .i64 t2.n, .string (str t2.v), .string (str t2.f), .slice t2.A t2.ks.length t2.c]] w7 fun e w' => e = .returned (.int .i64 2) ∧ Below w7.heap.size w7 w') := Lib.hid hT3
          clear hT3 y0 y1 y2 y3 y4 y5
          refine HT3.out.mono ?_
          clear HT3
          rintro e w8 ⟨rfl, b8⟩
          have HT8 := Lib.hid (HT7.out.below b8)
          clear b8
          have e1 := str_toList op
          go_wp2_with fail
          go_ret
          exact ⟨rfl, HT8.out.bel⟩
    · have hl1' : ((t1.ks.length : Int) == 2) = false := by simp; omega
      go_wp2_with fail
      clear a0 a1 a2 a3 a4 a5 c0 c1' c2' c3 c4 c5 cA
      have hta := HN1.out.1.2.1
      have htb := HN2.out.1.2.1
      rcases HO.out.2.2.2 with ⟨-, x1, x2, x3⟩ | ⟨-, x1, x2, x3, x4⟩ | ⟨-, x1, x2, x3, x4, x5⟩ | ⟨-, x1, x2, x3, x4, x5⟩
      · have hgot : typeT (.mk 3 op 0 [] [] (some ⟨Wb.heap.size, 0, none⟩) 2 [t1, t2]) = 2 := by rw [type_two HO.out.2.2.1 HTy.out.ra HTy.out.rb x2, hta, htb]; decide
        clear x2 x3
        have hT1 := type_any (.mk 3 op 0 [] [] (some ⟨Wb.heap.size, 0, none⟩) 2 [t1, t2]) (Wb.alloc (.cells (cs2 t1 t2) 24)) (in2 3 op 0 [] [] 2 (has_at rfl rfl) (HTy.out.ia.below (step1 _ _)) (HTy.out.ib.below (step1 _ _)) (okE_small _ _ _ _ HO.out.2.1 (by omega) (by omega))) (HTy.out.tabs.below (step1 _ _))
        rw [hgot] at hT1
        have HT1 : Hid (Calls Tryd.prog 16 #[.agg #[.int .i64 3, .string (str op), .int .i64 0, .string { data := #[] }, .string { data := #[] }, .slice (some ⟨Wb.heap.size, 0, none⟩) 2 2]] (Wb.alloc (.cells #[.int .i64 t1.k, .string (str t1.op), .int .i64 t1.n, .string (str t1.v), .string (str t1.f), .slice t1.A t1.ks.length t1.c, .int .i64 t2.k, .string (str t2.op), .int .i64 t2.n, .string (str t2.v), .string (str t2.f), .slice t2.A t2.ks.length t2.c] 24)) fun e w' => e = .returned (.int .i64 2) ∧ Below (Wb.alloc (.cells #[.int .i64 t1.k, .string (str t1.op), .int .i64 t1.n, .string (str t1.v), .string (str t1.f), .slice t1.A t1.ks.length t1.c, .int .i64 t2.k, .string (str t2.op), .int .i64 t2.n, .string (str t2.v), .string (str t2.f), .slice t2.A t2.ks.length t2.c] 24)).heap.size (Wb.alloc (.cells #[.int .i64 t1.k, .string (str t1.op), .int .i64 t1.n, .string (str t1.v), .string (str t1.f), .slice t1.A t1.ks.length t1.c, .int .i64 t2.k, .string (str t2.op), .int .i64 t2.n, .string (str t2.v), .string (str t2.f), .slice t2.A t2.ks.length t2.c] 24)) w') := Lib.hid hT1
        clear hT1
        refine HT1.out.mono ?_
        clear HT1
        rintro e w6 ⟨rfl, b6⟩
        have HT6 := Lib.hid (HTy.out.below ((step1 Wb (.cells #[.int .i64 t1.k, .string (str t1.op), .int .i64 t1.n, .string (str t1.v), .string (str t1.f), .slice t1.A t1.ks.length t1.c, .int .i64 t2.k, .string (str t2.op), .int .i64 t2.n, .string (str t2.v), .string (str t2.f), .slice t2.A t2.ks.length t2.c] 24)).trans (b6.mono (step1 Wb (.cells #[.int .i64 t1.k, .string (str t1.op), .int .i64 t1.n, .string (str t1.v), .string (str t1.f), .slice t1.A t1.ks.length t1.c, .int .i64 t2.k, .string (str t2.op), .int .i64 t2.n, .string (str t2.v), .string (str t2.f), .slice t2.A t2.ks.length t2.c] 24)).size)))
        clear b6
        obtain ⟨y0, y1, y2, y3, y4, y5⟩ : six w6 w4.heap.size t1.k t1.op t1.n t1.v t1.f t1.A t1.ks.length t1.c := six_has HT6.out.ha
        go_wp2_with fail
        have hT2 := type_any t1 w6 HT6.out.ia HT6.out.tabs
        rw [typ_of HT6.out.ra, hta] at hT2
        have HT2 : Hid (Calls Tryd.prog 16 #[.agg #[.int .i64 t1.k, .string (str t1.op), .int .i64 t1.n, .string (str t1.v), .string (str t1.f), .slice t1.A t1.ks.length t1.c]] w6 fun e w' => e = .returned (.int .i64 2) ∧ Below w6.heap.size w6 w') := Lib.hid hT2
        clear hT2 y0 y1 y2 y3 y4 y5
        refine HT2.out.mono ?_
        clear HT2
        rintro e w7 ⟨rfl, b7⟩
        have HT7 := Lib.hid (HT6.out.below b7)
        clear b7
        obtain ⟨y0, y1, y2, y3, y4, y5⟩ : six w7 w5.heap.size t2.k t2.op t2.n t2.v t2.f t2.A t2.ks.length t2.c := six_has HT7.out.hb
        go_wp2_with fail
        have hT3 := type_any t2 w7 HT7.out.ib HT7.out.tabs
        rw [typ_of HT7.out.rb, htb] at hT3
        have HT3 : Hid (Calls Tryd.prog 16 #[.agg #[.int .i64 t2.k, .string (str t2.op), .int .i64 t2.n, .string (str t2.v), .string (str t2.f), .slice t2.A t2.ks.length t2.c]] w7 fun e w' => e = .returned (.int .i64 2) ∧ Below w7.heap.size w7 w') := Lib.hid hT3
        clear hT3 y0 y1 y2 y3 y4 y5
        refine HT3.out.mono ?_
        clear HT3
        rintro e w8 ⟨rfl, b8⟩
        have HT8 := Lib.hid (HT7.out.below b8)
        clear b8
        have e1 := str_toList op
        go_wp2_with fail
        go_ret
        exact ⟨rfl, HT8.out.bel⟩
      · have hgot : typeT (.mk 3 op 0 [] [] (some ⟨Wb.heap.size, 0, none⟩) 2 [t1, t2]) = 2 := by rw [type_two HO.out.2.2.1 HTy.out.ra HTy.out.rb x3, hta, htb]; decide
        clear x3 x4
        have hT1 := type_any (.mk 3 op 0 [] [] (some ⟨Wb.heap.size, 0, none⟩) 2 [t1, t2]) (Wb.alloc (.cells (cs2 t1 t2) 24)) (in2 3 op 0 [] [] 2 (has_at rfl rfl) (HTy.out.ia.below (step1 _ _)) (HTy.out.ib.below (step1 _ _)) (okE_small _ _ _ _ HO.out.2.1 (by omega) (by omega))) (HTy.out.tabs.below (step1 _ _))
        rw [hgot] at hT1
        have HT1 : Hid (Calls Tryd.prog 16 #[.agg #[.int .i64 3, .string (str op), .int .i64 0, .string { data := #[] }, .string { data := #[] }, .slice (some ⟨Wb.heap.size, 0, none⟩) 2 2]] (Wb.alloc (.cells #[.int .i64 t1.k, .string (str t1.op), .int .i64 t1.n, .string (str t1.v), .string (str t1.f), .slice t1.A t1.ks.length t1.c, .int .i64 t2.k, .string (str t2.op), .int .i64 t2.n, .string (str t2.v), .string (str t2.f), .slice t2.A t2.ks.length t2.c] 24)) fun e w' => e = .returned (.int .i64 2) ∧ Below (Wb.alloc (.cells #[.int .i64 t1.k, .string (str t1.op), .int .i64 t1.n, .string (str t1.v), .string (str t1.f), .slice t1.A t1.ks.length t1.c, .int .i64 t2.k, .string (str t2.op), .int .i64 t2.n, .string (str t2.v), .string (str t2.f), .slice t2.A t2.ks.length t2.c] 24)).heap.size (Wb.alloc (.cells #[.int .i64 t1.k, .string (str t1.op), .int .i64 t1.n, .string (str t1.v), .string (str t1.f), .slice t1.A t1.ks.length t1.c, .int .i64 t2.k, .string (str t2.op), .int .i64 t2.n, .string (str t2.v), .string (str t2.f), .slice t2.A t2.ks.length t2.c] 24)) w') := Lib.hid hT1
        clear hT1
        refine HT1.out.mono ?_
        clear HT1
        rintro e w6 ⟨rfl, b6⟩
        have HT6 := Lib.hid (HTy.out.below ((step1 Wb (.cells #[.int .i64 t1.k, .string (str t1.op), .int .i64 t1.n, .string (str t1.v), .string (str t1.f), .slice t1.A t1.ks.length t1.c, .int .i64 t2.k, .string (str t2.op), .int .i64 t2.n, .string (str t2.v), .string (str t2.f), .slice t2.A t2.ks.length t2.c] 24)).trans (b6.mono (step1 Wb (.cells #[.int .i64 t1.k, .string (str t1.op), .int .i64 t1.n, .string (str t1.v), .string (str t1.f), .slice t1.A t1.ks.length t1.c, .int .i64 t2.k, .string (str t2.op), .int .i64 t2.n, .string (str t2.v), .string (str t2.f), .slice t2.A t2.ks.length t2.c] 24)).size)))
        clear b6
        obtain ⟨y0, y1, y2, y3, y4, y5⟩ : six w6 w4.heap.size t1.k t1.op t1.n t1.v t1.f t1.A t1.ks.length t1.c := six_has HT6.out.ha
        go_wp2_with fail
        have hT2 := type_any t1 w6 HT6.out.ia HT6.out.tabs
        rw [typ_of HT6.out.ra, hta] at hT2
        have HT2 : Hid (Calls Tryd.prog 16 #[.agg #[.int .i64 t1.k, .string (str t1.op), .int .i64 t1.n, .string (str t1.v), .string (str t1.f), .slice t1.A t1.ks.length t1.c]] w6 fun e w' => e = .returned (.int .i64 2) ∧ Below w6.heap.size w6 w') := Lib.hid hT2
        clear hT2 y0 y1 y2 y3 y4 y5
        refine HT2.out.mono ?_
        clear HT2
        rintro e w7 ⟨rfl, b7⟩
        have HT7 := Lib.hid (HT6.out.below b7)
        clear b7
        obtain ⟨y0, y1, y2, y3, y4, y5⟩ : six w7 w5.heap.size t2.k t2.op t2.n t2.v t2.f t2.A t2.ks.length t2.c := six_has HT7.out.hb
        go_wp2_with fail
        have hT3 := type_any t2 w7 HT7.out.ib HT7.out.tabs
        rw [typ_of HT7.out.rb, htb] at hT3
        have HT3 : Hid (Calls Tryd.prog 16 #[.agg #[.int .i64 t2.k, .string (str t2.op), .int .i64 t2.n, .string (str t2.v), .string (str t2.f), .slice t2.A t2.ks.length t2.c]] w7 fun e w' => e = .returned (.int .i64 2) ∧ Below w7.heap.size w7 w') := Lib.hid hT3
        clear hT3 y0 y1 y2 y3 y4 y5
        refine HT3.out.mono ?_
        clear HT3
        rintro e w8 ⟨rfl, b8⟩
        have HT8 := Lib.hid (HT7.out.below b8)
        clear b8
        have e1 := str_toList op
        go_wp2_with fail
        go_ret
        exact ⟨rfl, HT8.out.bel⟩
      · have hgot : typeT (.mk 3 op 0 [] [] (some ⟨Wb.heap.size, 0, none⟩) 2 [t1, t2]) = 0 := by rw [type_two HO.out.2.2.1 HTy.out.ra HTy.out.rb x3, hta, htb]; decide
        clear x3 x4 x5
        have hT1 := type_any (.mk 3 op 0 [] [] (some ⟨Wb.heap.size, 0, none⟩) 2 [t1, t2]) (Wb.alloc (.cells (cs2 t1 t2) 24)) (in2 3 op 0 [] [] 2 (has_at rfl rfl) (HTy.out.ia.below (step1 _ _)) (HTy.out.ib.below (step1 _ _)) (okE_small _ _ _ _ HO.out.2.1 (by omega) (by omega))) (HTy.out.tabs.below (step1 _ _))
        rw [hgot] at hT1
        have HT1 : Hid (Calls Tryd.prog 16 #[.agg #[.int .i64 3, .string (str op), .int .i64 0, .string { data := #[] }, .string { data := #[] }, .slice (some ⟨Wb.heap.size, 0, none⟩) 2 2]] (Wb.alloc (.cells #[.int .i64 t1.k, .string (str t1.op), .int .i64 t1.n, .string (str t1.v), .string (str t1.f), .slice t1.A t1.ks.length t1.c, .int .i64 t2.k, .string (str t2.op), .int .i64 t2.n, .string (str t2.v), .string (str t2.f), .slice t2.A t2.ks.length t2.c] 24)) fun e w' => e = .returned (.int .i64 0) ∧ Below (Wb.alloc (.cells #[.int .i64 t1.k, .string (str t1.op), .int .i64 t1.n, .string (str t1.v), .string (str t1.f), .slice t1.A t1.ks.length t1.c, .int .i64 t2.k, .string (str t2.op), .int .i64 t2.n, .string (str t2.v), .string (str t2.f), .slice t2.A t2.ks.length t2.c] 24)).heap.size (Wb.alloc (.cells #[.int .i64 t1.k, .string (str t1.op), .int .i64 t1.n, .string (str t1.v), .string (str t1.f), .slice t1.A t1.ks.length t1.c, .int .i64 t2.k, .string (str t2.op), .int .i64 t2.n, .string (str t2.v), .string (str t2.f), .slice t2.A t2.ks.length t2.c] 24)) w') := Lib.hid hT1
        clear hT1
        refine HT1.out.mono ?_
        clear HT1
        rintro e w6 ⟨rfl, b6⟩
        have HT6 := Lib.hid (HTy.out.below ((step1 Wb (.cells #[.int .i64 t1.k, .string (str t1.op), .int .i64 t1.n, .string (str t1.v), .string (str t1.f), .slice t1.A t1.ks.length t1.c, .int .i64 t2.k, .string (str t2.op), .int .i64 t2.n, .string (str t2.v), .string (str t2.f), .slice t2.A t2.ks.length t2.c] 24)).trans (b6.mono (step1 Wb (.cells #[.int .i64 t1.k, .string (str t1.op), .int .i64 t1.n, .string (str t1.v), .string (str t1.f), .slice t1.A t1.ks.length t1.c, .int .i64 t2.k, .string (str t2.op), .int .i64 t2.n, .string (str t2.v), .string (str t2.f), .slice t2.A t2.ks.length t2.c] 24)).size)))
        clear b6
        obtain ⟨y0, y1, y2, y3, y4, y5⟩ : six w6 w4.heap.size t1.k t1.op t1.n t1.v t1.f t1.A t1.ks.length t1.c := six_has HT6.out.ha
        go_wp2_with fail
        have hT2 := type_any t1 w6 HT6.out.ia HT6.out.tabs
        rw [typ_of HT6.out.ra, hta] at hT2
        have HT2 : Hid (Calls Tryd.prog 16 #[.agg #[.int .i64 t1.k, .string (str t1.op), .int .i64 t1.n, .string (str t1.v), .string (str t1.f), .slice t1.A t1.ks.length t1.c]] w6 fun e w' => e = .returned (.int .i64 2) ∧ Below w6.heap.size w6 w') := Lib.hid hT2
        clear hT2 y0 y1 y2 y3 y4 y5
        refine HT2.out.mono ?_
        clear HT2
        rintro e w7 ⟨rfl, b7⟩
        have HT7 := Lib.hid (HT6.out.below b7)
        clear b7
        obtain ⟨y0, y1, y2, y3, y4, y5⟩ : six w7 w5.heap.size t2.k t2.op t2.n t2.v t2.f t2.A t2.ks.length t2.c := six_has HT7.out.hb
        go_wp2_with fail
        have hT3 := type_any t2 w7 HT7.out.ib HT7.out.tabs
        rw [typ_of HT7.out.rb, htb] at hT3
        have HT3 : Hid (Calls Tryd.prog 16 #[.agg #[.int .i64 t2.k, .string (str t2.op), .int .i64 t2.n, .string (str t2.v), .string (str t2.f), .slice t2.A t2.ks.length t2.c]] w7 fun e w' => e = .returned (.int .i64 2) ∧ Below w7.heap.size w7 w') := Lib.hid hT3
        clear hT3 y0 y1 y2 y3 y4 y5
        refine HT3.out.mono ?_
        clear HT3
        rintro e w8 ⟨rfl, b8⟩
        have HT8 := Lib.hid (HT7.out.below b8)
        clear b8
        have e1 := str_toList op
        go_wp2_with fail
        go_ret
        exact ⟨rfl, HT8.out.bel⟩
      · have hgot : typeT (.mk 3 op 0 [] [] (some ⟨Wb.heap.size, 0, none⟩) 2 [t1, t2]) = 0 := by rw [type_two HO.out.2.2.1 HTy.out.ra HTy.out.rb x3, hta, htb]; decide
        clear x3 x4 x5
        have hT1 := type_any (.mk 3 op 0 [] [] (some ⟨Wb.heap.size, 0, none⟩) 2 [t1, t2]) (Wb.alloc (.cells (cs2 t1 t2) 24)) (in2 3 op 0 [] [] 2 (has_at rfl rfl) (HTy.out.ia.below (step1 _ _)) (HTy.out.ib.below (step1 _ _)) (okE_small _ _ _ _ HO.out.2.1 (by omega) (by omega))) (HTy.out.tabs.below (step1 _ _))
        rw [hgot] at hT1
        have HT1 : Hid (Calls Tryd.prog 16 #[.agg #[.int .i64 3, .string (str op), .int .i64 0, .string { data := #[] }, .string { data := #[] }, .slice (some ⟨Wb.heap.size, 0, none⟩) 2 2]] (Wb.alloc (.cells #[.int .i64 t1.k, .string (str t1.op), .int .i64 t1.n, .string (str t1.v), .string (str t1.f), .slice t1.A t1.ks.length t1.c, .int .i64 t2.k, .string (str t2.op), .int .i64 t2.n, .string (str t2.v), .string (str t2.f), .slice t2.A t2.ks.length t2.c] 24)) fun e w' => e = .returned (.int .i64 0) ∧ Below (Wb.alloc (.cells #[.int .i64 t1.k, .string (str t1.op), .int .i64 t1.n, .string (str t1.v), .string (str t1.f), .slice t1.A t1.ks.length t1.c, .int .i64 t2.k, .string (str t2.op), .int .i64 t2.n, .string (str t2.v), .string (str t2.f), .slice t2.A t2.ks.length t2.c] 24)).heap.size (Wb.alloc (.cells #[.int .i64 t1.k, .string (str t1.op), .int .i64 t1.n, .string (str t1.v), .string (str t1.f), .slice t1.A t1.ks.length t1.c, .int .i64 t2.k, .string (str t2.op), .int .i64 t2.n, .string (str t2.v), .string (str t2.f), .slice t2.A t2.ks.length t2.c] 24)) w') := Lib.hid hT1
        clear hT1
        refine HT1.out.mono ?_
        clear HT1
        rintro e w6 ⟨rfl, b6⟩
        have HT6 := Lib.hid (HTy.out.below ((step1 Wb (.cells #[.int .i64 t1.k, .string (str t1.op), .int .i64 t1.n, .string (str t1.v), .string (str t1.f), .slice t1.A t1.ks.length t1.c, .int .i64 t2.k, .string (str t2.op), .int .i64 t2.n, .string (str t2.v), .string (str t2.f), .slice t2.A t2.ks.length t2.c] 24)).trans (b6.mono (step1 Wb (.cells #[.int .i64 t1.k, .string (str t1.op), .int .i64 t1.n, .string (str t1.v), .string (str t1.f), .slice t1.A t1.ks.length t1.c, .int .i64 t2.k, .string (str t2.op), .int .i64 t2.n, .string (str t2.v), .string (str t2.f), .slice t2.A t2.ks.length t2.c] 24)).size)))
        clear b6
        obtain ⟨y0, y1, y2, y3, y4, y5⟩ : six w6 w4.heap.size t1.k t1.op t1.n t1.v t1.f t1.A t1.ks.length t1.c := six_has HT6.out.ha
        go_wp2_with fail
        have hT2 := type_any t1 w6 HT6.out.ia HT6.out.tabs
        rw [typ_of HT6.out.ra, hta] at hT2
        have HT2 : Hid (Calls Tryd.prog 16 #[.agg #[.int .i64 t1.k, .string (str t1.op), .int .i64 t1.n, .string (str t1.v), .string (str t1.f), .slice t1.A t1.ks.length t1.c]] w6 fun e w' => e = .returned (.int .i64 2) ∧ Below w6.heap.size w6 w') := Lib.hid hT2
        clear hT2 y0 y1 y2 y3 y4 y5
        refine HT2.out.mono ?_
        clear HT2
        rintro e w7 ⟨rfl, b7⟩
        have HT7 := Lib.hid (HT6.out.below b7)
        clear b7
        obtain ⟨y0, y1, y2, y3, y4, y5⟩ : six w7 w5.heap.size t2.k t2.op t2.n t2.v t2.f t2.A t2.ks.length t2.c := six_has HT7.out.hb
        go_wp2_with fail
        have hT3 := type_any t2 w7 HT7.out.ib HT7.out.tabs
        rw [typ_of HT7.out.rb, htb] at hT3
        have HT3 : Hid (Calls Tryd.prog 16 #[.agg #[.int .i64 t2.k, .string (str t2.op), .int .i64 t2.n, .string (str t2.v), .string (str t2.f), .slice t2.A t2.ks.length t2.c]] w7 fun e w' => e = .returned (.int .i64 2) ∧ Below w7.heap.size w7 w') := Lib.hid hT3
        clear hT3 y0 y1 y2 y3 y4 y5
        refine HT3.out.mono ?_
        clear HT3
        rintro e w8 ⟨rfl, b8⟩
        have HT8 := Lib.hid (HT7.out.below b8)
        clear b8
        have e1 := str_toList op
        go_wp2_with fail
        go_ret
        exact ⟨rfl, HT8.out.bel⟩
end Go.Proofs.YtaiohdcngkkafaaDoor
