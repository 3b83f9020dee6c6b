/- The walk of BucketSteps: it returns true, whatever the bucket and the two times. -/
import Derived.Test.YtldbhikempnhjaaBkTakesW
namespace Go.Proofs.Ytldbhikempnhjaa
open Go.RowKit
set_option linter.unusedVariables false

/-- Filled twice, it is what it is filled to the second time at once. -/
theorem f_steps (s l k a m n : Int) (hr : rB s l k = true) (h : m ≤ n) :
    fL s (fL s l k a m) k (fA s l k a m) n = fL s l k a n ∧ fA s (fL s l k a m) k (fA s l k a m) n = fA s l k a n ∧ l ≤ fL s l k a m ∧ fL s l k a m ≤ fL s l k a n := by
  obtain ⟨hs0, hs1, hl0, hls, hk1, hk2⟩ := rB_yes hr
  obtain ⟨q0, q1, hr'⟩ := fL_in a m hr
  by_cases hl : l = s
  · obtain ⟨e1, e2⟩ := f_full (a := a) (n := m) hr hl
    obtain ⟨e3, e4⟩ := f_full (a := a) (n := n) hr hl
    rw [e1, e2, e3, e4]
    obtain ⟨e5, e6⟩ := f_full (a := max a m) (n := n) hr hl
    rw [e5, e6]
    refine ⟨rfl, by omega, by omega, by omega⟩
  · by_cases hm : m < a
    · obtain ⟨e1, e2⟩ := f_back (a := a) (n := m) hr hl hm
      rw [e1, e2]
      refine ⟨rfl, rfl, by omega, ?_⟩
      by_cases hn : n < a
      · rw [(f_back hr hl hn).1]; omega
      · rw [(f_on hr hl hn).1]
        obtain ⟨h0, _, _⟩ := div_mul_le (n - a) k (by omega) hk1
        split <;> omega
    · obtain ⟨e1, e2⟩ := f_on (a := a) (n := m) hr hl hm
      obtain ⟨e3, e4⟩ := f_on (a := a) (n := n) hr hl (by omega)
      obtain ⟨h0, h1, h2⟩ := div_mul_le (m - a) k (by omega) hk1
      have hle : (m - a) / k ≤ (n - a) / k := Int.ediv_le_ediv (by omega) (by omega)
      by_cases hq : s - l ≤ (m - a) / k
      · rw [if_pos hq] at e1 e2
        have hq' : s - l ≤ (n - a) / k := by omega
        rw [if_pos hq'] at e3 e4
        rw [e1] at hr'
        rw [e1, e2, e3, e4]
        obtain ⟨e5, e6⟩ := f_full (a := m) (n := n) hr' rfl
        rw [e5, e6]
        refine ⟨rfl, by omega, by omega, by omega⟩
      · rw [if_neg hq] at e1 e2
        rw [e1] at hr'
        rw [e1, e2, e3, e4]
        have key : (n - (a + (m - a) / k * k)) / k = (n - a) / k - (m - a) / k := by
          rw [show n - (a + (m - a) / k * k) = (n - a) + (-((m - a) / k)) * k by rw [Int.neg_mul]; omega, Int.add_mul_ediv_right _ _ (by omega)]
          omega
        obtain ⟨e5, e6⟩ := f_on (s := s) (l := l + (m - a) / k) (a := a + (m - a) / k * k) (n := n) hr' (by omega) (by omega)
        rw [e5, e6, key]
        have hc : (s - (l + (m - a) / k) ≤ (n - a) / k - (m - a) / k) = (s - l ≤ (n - a) / k) := by rw [eq_iff_iff]; omega
        simp only [hc]
        by_cases hz : s - l ≤ (n - a) / k
        · simp only [if_pos hz]
          refine ⟨trivial, trivial, by omega, by omega⟩
        · simp only [if_neg hz]
          refine ⟨by omega, ?_, by omega, by omega⟩
          rw [Int.sub_mul]
          omega
theorem f_again (s l k a n : Int) (hr : rB s l k = true) : fL s (fL s l k a n) k (fA s l k a n) n = fL s l k a n ∧ fA s (fL s l k a n) k (fA s l k a n) n = fA s l k a n := by
  obtain ⟨h1, h2, _, _⟩ := f_steps s l k a n n hr (Int.le_refl _)
  exact ⟨h1, h2⟩
/-- What the last test's region holds: the four blocks, and what was there. -/
structure SK (w0 w' : World) (gc gd ge gf : Nat) (S L K A M T F U : Int) : Prop where
  bel : Below w0.heap.size w0 w'
  c : Has w' gc 23 (cs4 S L K A)
  d : Has w' gd 23 (cs4 S M K T)
  e : Has w' ge 23 (cs4 S F K U)
  f : Has w' gf 23 (cs4 S F K U)
theorem SK.next {w0 w1 w2 : World} {gc gd ge gf : Nat} {S L K A M T F U : Int} (k : SK w0 w1 gc gd ge gf S L K A M T F U) (h : Below w1.heap.size w1 w2) : SK w0 w2 gc gd ge gf S L K A M T F U :=
  ⟨below2 k.bel h, k.c.below h k.c.lt, k.d.below h k.d.lt, k.e.below h k.e.lt, k.f.below h k.f.lt⟩
theorem SK.nextd {w0 w1 w2 : World} {gc gd ge gf : Nat} {S L K A M T F U : Int} (k : SK w0 w1 gc gd ge gf S L K A M T F U) (h : Below w1.drew.heap.size w1.drew w2) : SK w0 w2 gc gd ge gf S L K A M T F U :=
  ⟨below2 k.bel.drew h, k.c.drew.below h k.c.lt, k.d.drew.below h k.d.lt, k.e.drew.below h k.e.lt, k.f.drew.below h k.f.lt⟩
theorem SK.all {w0 w' : World} {gc gd ge gf : Nat} {S L K A M T F U : Int} (k : SK w0 w' gc gd ge gf S L K A M T F U) :
    w'.cell? ⟨gc, 0, none⟩ = some (.int .i64 S) ∧ w'.cell? ⟨gc, 1, none⟩ = some (.int .i64 L) ∧ w'.cell? ⟨gc, 2, none⟩ = some (.int .i64 K) ∧ w'.cell? ⟨gc, 3, none⟩ = some (.int .i64 A) ∧ w'.cell? ⟨gd, 0, none⟩ = some (.int .i64 S) ∧ w'.cell? ⟨gd, 1, none⟩ = some (.int .i64 M) ∧ w'.cell? ⟨gd, 2, none⟩ = some (.int .i64 K) ∧ w'.cell? ⟨gd, 3, none⟩ = some (.int .i64 T) ∧ w'.cell? ⟨ge, 0, none⟩ = some (.int .i64 S) ∧ w'.cell? ⟨ge, 1, none⟩ = some (.int .i64 F) ∧ w'.cell? ⟨ge, 2, none⟩ = some (.int .i64 K) ∧ w'.cell? ⟨ge, 3, none⟩ = some (.int .i64 U) ∧ w'.cell? ⟨gf, 0, none⟩ = some (.int .i64 S) ∧ w'.cell? ⟨gf, 1, none⟩ = some (.int .i64 F) ∧ w'.cell? ⟨gf, 2, none⟩ = some (.int .i64 K) ∧ w'.cell? ⟨gf, 3, none⟩ = some (.int .i64 U) :=
  ⟨k.c.cell 0, k.c.cell 1, k.c.cell 2, k.c.cell 3, k.d.cell 0, k.d.cell 1, k.d.cell 2, k.d.cell 3, k.e.cell 0, k.e.cell 1, k.e.cell 2, k.e.cell 3, k.f.cell 0, k.f.cell 1, k.f.cell 2, k.f.cell 3⟩
set_option maxRecDepth 100000 in
set_option maxHeartbeats 8000000 in
theorem steps_core (s l k a : Int) (o : Bool) (m z n S L K A M T F U : Int) (w : World) (hm0 : -32768 ≤ m) (hm1 : m ≤ 32767) (hz0 : 0 ≤ z) (hz1 : z ≤ 65535) (hn : m + z = n)
    (hS : ∀ w : World, Calls Try.prog 9 #[sm s l k a true] w fun e w' => e = .returned (bk S L K A) ∧ Below w.heap.size w w')
    (hD : ∀ w : World, Calls Try.prog 17 #[bk S L K A, .int .i64 m] w fun e w' => e = .returned (bk S M K T) ∧ Below w.heap.size w w')
    (hE : ∀ w : World, Calls Try.prog 17 #[bk S M K T, .int .i64 n] w fun e w' => e = .returned (bk S F K U) ∧ Below w.heap.size w w')
    (hF : ∀ w : World, Calls Try.prog 17 #[bk S L K A, .int .i64 n] w fun e w' => e = .returned (bk S F K U) ∧ Below w.heap.size w w')
    (hG : ∀ w : World, Calls Try.prog 17 #[bk S F K U, .int .i64 n] w fun e w' => e = .returned (bk S F K U) ∧ Below w.heap.size w w')
    (hR : rB S F K = true) (hLM : L ≤ M) (hMF : M ≤ F) :
    Calls Try.prog 5 #[sm s l k a o, .int .i16 m, .int .u16 z] w fun e w' => e = .returned (.bool true) ∧ Below w.heap.size w w' := by
  have HS := Lib.hid hS
  have HD := Lib.hid hD
  have HE := Lib.hid hE
  have HF := Lib.hid hF
  have HG := Lib.hid hG
  have HR := Lib.hid hR
  clear hS hD hE hF hG hR
  have hd1 : decide (M < L) = false := by simp; omega
  have hd2 : decide (F < M) = false := by simp; omega
  have hd3 : decide (L ≤ M) = true := by simp; omega
  have hd4 : decide (M ≤ F) = true := by simp; omega
  have T0 := has_new w (cs5 s l k a o) 25
  have B0 := Lib.hid ((Below.refl w.heap.size w).alloc (Nat.le_refl _) (.cells (cs5 s l k a o) 25))
  go_enter Try.func5, Try.ntmps5
  go_upto_region 1 with fail
  generalize w.alloc (.cells (cs5 s l k a o) 25) = w0 at *
  have XS := Lib.hid T0
  clear T0
  go_wp2_with fail
  refine (examples_any _).mono ?_
  rintro e w1 ⟨rfl, h1⟩
  have XT := Lib.hid (XS.out.below h1 XS.out.lt)
  have B1 := Lib.hid (below2 B0.out h1)
  clear h1 XS B0
  obtain ⟨z0, z1, z2, z3, z4⟩ := XT.out.five
  have z5 := XT.out.free 4
  go_upto_region 5 with fail
  have XU : Hid (Has _ w.heap.size _ (cs5 s l k a true)) := Lib.hid (XT.out.put 4 (.bool true))
  have B2 := Lib.hid (B1.out.setCell (p := ⟨w.heap.size, 4, none⟩) (Nat.le_refl _) (.bool true))
  clear z0 z1 z2 z3 z4 z5 XT B1
  generalize w1.setCell ⟨w.heap.size, 4, none⟩ (.bool true) = w2 at *
  obtain ⟨z0, z1, z2, z3, z4⟩ := XU.out.five
  go_wp2_with fail
  refine (HS.out _).mono ?_
  rintro e wc3 ⟨rfl, h3⟩
  have B3 := Lib.hid (below2 B2.out h3)
  clear z0 z1 z2 z3 z4 XU
  clear h3  B2
  go_upto_region 6 with fail
  have Xc := Lib.hid (has_new wc3 (cs4 S L K A) 23)
  have Gc : Hid (w.heap.size ≤ wc3.heap.size) := Lib.hid B3.out.size
  have B4 := Lib.hid (B3.out.alloc B3.out.size (.cells (cs4 S L K A) 23))
  clear B3 
  generalize wc3.alloc (.cells (cs4 S L K A) 23) = wv4 at *
  generalize wc3.heap.size = gc at *
  obtain ⟨c0, c1, c2, c3⟩ := Xc.out.four
  go_wp2_with fail
  refine (HD.out _).mono ?_
  rintro e wc5 ⟨rfl, h5⟩
  have Yc := Lib.hid (Xc.out.below h5 Xc.out.lt)
  have B5 := Lib.hid (below2 B4.out h5)
  clear c0 c1 c2 c3
  clear h5 Xc B4
  have Xc := Yc
  clear Yc
  go_upto_region 9 with fail
  have Xd := Lib.hid (has_new wc5 (cs4 S M K T) 23)
  have Lcd := Lib.hid Xc.out.lt
  have Gd : Hid (w.heap.size ≤ wc5.heap.size) := Lib.hid B5.out.size
  have Yc := Lib.hid (Xc.out.alloc (.cells (cs4 S M K T) 23))
  have B6 := Lib.hid (B5.out.alloc B5.out.size (.cells (cs4 S M K T) 23))
  clear B5 Xc
  have Xc := Yc
  clear Yc
  generalize wc5.alloc (.cells (cs4 S M K T) 23) = wv6 at *
  generalize wc5.heap.size = gd at *
  obtain ⟨c0, c1, c2, c3⟩ := Xc.out.four
  obtain ⟨d0, d1, d2, d3⟩ := Xd.out.four
  go_wp2_with fail
  refine (HE.out _).mono ?_
  rintro e wc7 ⟨rfl, h7⟩
  have Yc := Lib.hid (Xc.out.below h7 Xc.out.lt)
  have Yd := Lib.hid (Xd.out.below h7 Xd.out.lt)
  have B7 := Lib.hid (below2 B6.out h7)
  clear c0 c1 c2 c3 d0 d1 d2 d3
  clear h7 Xc Xd B6
  have Xc := Yc
  have Xd := Yd
  clear Yc Yd
  go_upto_region 10 with fail
  have Xe := Lib.hid (has_new wc7 (cs4 S F K U) 23)
  have Lce := Lib.hid Xc.out.lt
  have Lde := Lib.hid Xd.out.lt
  have Ge : Hid (w.heap.size ≤ wc7.heap.size) := Lib.hid B7.out.size
  have Yc := Lib.hid (Xc.out.alloc (.cells (cs4 S F K U) 23))
  have Yd := Lib.hid (Xd.out.alloc (.cells (cs4 S F K U) 23))
  have B8 := Lib.hid (B7.out.alloc B7.out.size (.cells (cs4 S F K U) 23))
  clear B7 Xc Xd
  have Xc := Yc
  have Xd := Yd
  clear Yc Yd
  generalize wc7.alloc (.cells (cs4 S F K U) 23) = wv8 at *
  generalize wc7.heap.size = ge at *
  obtain ⟨c0, c1, c2, c3⟩ := Xc.out.four
  obtain ⟨d0, d1, d2, d3⟩ := Xd.out.four
  obtain ⟨e0, e1, e2, e3⟩ := Xe.out.four
  go_wp2_with fail
  refine (HF.out _).mono ?_
  rintro e wc9 ⟨rfl, h9⟩
  have Yc := Lib.hid (Xc.out.below h9 Xc.out.lt)
  have Yd := Lib.hid (Xd.out.below h9 Xd.out.lt)
  have Ye := Lib.hid (Xe.out.below h9 Xe.out.lt)
  have B9 := Lib.hid (below2 B8.out h9)
  clear c0 c1 c2 c3 d0 d1 d2 d3 e0 e1 e2 e3
  clear h9 Xc Xd Xe B8
  have Xc := Yc
  have Xd := Yd
  have Xe := Ye
  clear Yc Yd Ye
  go_upto_region 11 with fail
  have Xf := Lib.hid (has_new wc9 (cs4 S F K U) 23)
  have Lcf := Lib.hid Xc.out.lt
  have Ldf := Lib.hid Xd.out.lt
  have Lef := Lib.hid Xe.out.lt
  have Gf : Hid (w.heap.size ≤ wc9.heap.size) := Lib.hid B9.out.size
  have Yc := Lib.hid (Xc.out.alloc (.cells (cs4 S F K U) 23))
  have Yd := Lib.hid (Xd.out.alloc (.cells (cs4 S F K U) 23))
  have Ye := Lib.hid (Xe.out.alloc (.cells (cs4 S F K U) 23))
  have B10 := Lib.hid (B9.out.alloc B9.out.size (.cells (cs4 S F K U) 23))
  clear B9 Xc Xd Xe
  have Xc := Yc
  have Xd := Yd
  have Xe := Ye
  clear Yc Yd Ye
  generalize wc9.alloc (.cells (cs4 S F K U) 23) = wv10 at *
  generalize wc9.heap.size = gf at *
  have K0 : SK w wv10.drew gc gd ge gf S L K A M T F U := ⟨B10.out.drew, Xc.out.drew, Xd.out.drew, Xe.out.drew, Xf.out.drew⟩
  clear B10 Xc Xd Xe Xf
  go_region_held3 (fun w' => w'.cell? ⟨gc, 0, none⟩ = some (.int .i64 S) ∧ w'.cell? ⟨gc, 1, none⟩ = some (.int .i64 L) ∧ w'.cell? ⟨gc, 2, none⟩ = some (.int .i64 K) ∧ w'.cell? ⟨gc, 3, none⟩ = some (.int .i64 A) ∧ w'.cell? ⟨gd, 0, none⟩ = some (.int .i64 S) ∧ w'.cell? ⟨gd, 1, none⟩ = some (.int .i64 M) ∧ w'.cell? ⟨gd, 2, none⟩ = some (.int .i64 K) ∧ w'.cell? ⟨gd, 3, none⟩ = some (.int .i64 T) ∧ w'.cell? ⟨ge, 0, none⟩ = some (.int .i64 S) ∧ w'.cell? ⟨ge, 1, none⟩ = some (.int .i64 F) ∧ w'.cell? ⟨ge, 2, none⟩ = some (.int .i64 K) ∧ w'.cell? ⟨ge, 3, none⟩ = some (.int .i64 U) ∧ w'.cell? ⟨gf, 0, none⟩ = some (.int .i64 S) ∧ w'.cell? ⟨gf, 1, none⟩ = some (.int .i64 F) ∧ w'.cell? ⟨gf, 2, none⟩ = some (.int .i64 K) ∧ w'.cell? ⟨gf, 3, none⟩ = some (.int .i64 U))
    (first | exact SK.all (by assumption))
    (first
      | (go_at_call 15; refine (right_any _ _ _ _ _).mono ?_; rw [HR.out]; rintro e w1 ⟨rfl, h1⟩; first | (have hK := SK.next (by assumption) h1) | (have hK := SK.nextd (by assumption) h1))
      | (go_at_call 17; refine (HG.out _).mono ?_; rintro e w1 ⟨rfl, h1⟩; first | (have hK := SK.next (by assumption) h1) | (have hK := SK.nextd (by assumption) h1)))
  go_wp2
  go_ret
  exact ⟨rfl, SK.bel (by assumption)⟩
theorem steps_walk (s l k a : Int) (o : Bool) (m z : Int) (w : World) (_ : I64 s) (_ : I64 l) (_ : I64 k) (_ : I64 a) (hm : -32768 ≤ m ∧ m ≤ 32767) (hz : 0 ≤ z ∧ z ≤ 65535) :
    Calls Try.prog 5 #[sm s l k a o, .int .i16 m, .int .u16 z] w fun e w' => e = .returned (.bool true) ∧ Below w.heap.size w w' := by
  obtain ⟨S, L, K, A, hSm, hS⟩ := some_yes s l k a
  obtain ⟨s0, s1, l0, l1, k0, k1, a0, a1⟩ := hSm
  have hr : rB S L K = true := decide_eq_true ⟨s0, by omega, l0, l1, k0, by omega⟩
  have hA : I64 A := ⟨by omega, by omega⟩
  have hM : I64 m := ⟨by omega, by omega⟩
  have hN : I64 (m + z) := ⟨by omega, by omega⟩
  obtain ⟨e1, e2, h3, h4⟩ := f_steps S L K A m (m + z) hr (by omega)
  obtain ⟨e5, e6⟩ := f_again S L K A (m + z) hr
  have hE := fun w => fill_any S (fL S L K A m) K (fA S L K A m) (m + z) w (fit hA hM) hN
  rw [e1, e2] at hE
  have hG := fun w => fill_any S (fL S L K A (m + z)) K (fA S L K A (m + z)) (m + z) w (fit hA hN) hN
  rw [e5, e6] at hG
  exact steps_core s l k a o m z _ S L K A _ _ _ _ w hm.1 hm.2 hz.1 hz.2 rfl hS (fun w => fill_any S L K A m w hA hM) hE (fun w => fill_any S L K A (m + z) w hA hN) hG (fL_in A (m + z) hr).2.2 h3 h4
end Go.Proofs.Ytldbhikempnhjaa
