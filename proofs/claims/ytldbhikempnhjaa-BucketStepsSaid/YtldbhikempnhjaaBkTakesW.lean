/- The walk of BucketTakes: it returns true, whatever the bucket and the time. -/
import Derived.Test.YtldbhikempnhjaaBkHead
namespace Go.Proofs.Ytldbhikempnhjaa
open Go.RowKit
set_option linter.unusedVariables false

abbrev cs5 (s l k a : Int) (o : Bool) : Array Value := #[.int .i64 s, .int .i64 l, .int .i64 k, .int .i64 a, .bool o]
theorem Has.five {w : World} {g : Nat} {t : TypeId} {s l k a : Int} {o : Bool} (h : Has w g t (cs5 s l k a o)) :
    w.cell? ⟨g, 0, none⟩ = some (.int .i64 s) ∧ w.cell? ⟨g, 1, none⟩ = some (.int .i64 l) ∧ w.cell? ⟨g, 2, none⟩ = some (.int .i64 k) ∧ w.cell? ⟨g, 3, none⟩ = some (.int .i64 a) ∧ w.cell? ⟨g, 4, none⟩ = some (.bool o) := ⟨h.cell 0, h.cell 1, h.cell 2, h.cell 3, h.cell 4⟩
attribute [go_sem] bkEq_self
set_option maxRecDepth 100000 in
set_option maxHeartbeats 4000000 in
theorem takes_no_true (s l k a : Int) (o : Bool) (now N S L K A : Int) (w : World) (hN : now.tmod 200 = N)
    (hS : ∀ w : World, Calls Try.prog 9 #[sm s l k a o] w fun e w' => e = .returned (bk S L K A) ∧ Below w.heap.size w w')
    (hF : ∀ w : World, Calls Try.prog 17 #[bk S L K A, .int .i64 N] w fun e w' => e = .returned (bk S L K A) ∧ Below w.heap.size w w')
    (hT : ∀ w : World, Calls Try.prog 12 #[bk S L K A, .int .i64 N] w fun e w' => e = .returned (.tuple #[bk S (L) K A, .bool false]) ∧ Below w.heap.size w w')
    (hR : rB S L K = false) :
    Calls Try.prog 6 #[sm s l k a o, .int .i64 now, .bool true] w fun e w' => e = .returned (.bool true) ∧ Below w.heap.size w w' := by
  have HS := Lib.hid hS
  have HF := Lib.hid hF
  have HT := Lib.hid hT
  clear hS hF hT
  have T0 := has_new w (cs5 s l k a o) 25
  have B0 := Lib.hid ((Below.refl w.heap.size w).alloc (Nat.le_refl _) (.cells (cs5 s l k a o) 25))
  go_enter Try.func6, Try.ntmps6
  go_upto_region 1 with fail
  generalize w.alloc (.cells (cs5 s l k a o) 25) = w0 at *
  have XS := Lib.hid T0
  clear T0
  go_wp2_with fail
  refine (examples_any _).mono ?_
  rintro e w1 ⟨rfl, h1⟩
  have XT := Lib.hid (XS.out.below h1 XS.out.lt)
  have B1 := Lib.hid (below2 B0.out h1)
  clear h1 XS B0
  obtain ⟨z0, z1, z2, z3, z4⟩ := XT.out.five
  go_wp2_with fail
  refine (HS.out _).mono ?_
  rintro e wc2 ⟨rfl, h2⟩
  have B2 := Lib.hid (below2 B1.out h2)
  clear z0 z1 z2 z3 z4 XT
  clear h2  B1
  go_upto_region 5 with fail
  have Xb := Lib.hid (has_new wc2 (cs4 S L K A) 23)
  have Gb : Hid (w.heap.size ≤ wc2.heap.size) := Lib.hid B2.out.size
  have B3 := Lib.hid (B2.out.alloc B2.out.size (.cells (cs4 S L K A) 23))
  clear B2 
  generalize wc2.alloc (.cells (cs4 S L K A) 23) = wv3 at *
  generalize wc2.heap.size = gb at *
  obtain ⟨b0, b1, b2, b3⟩ := Xb.out.four
  go_wp2_with fail
  refine (HF.out _).mono ?_
  rintro e wc4 ⟨rfl, h4⟩
  have Yb := Lib.hid (Xb.out.below h4 Xb.out.lt)
  have B4 := Lib.hid (below2 B3.out h4)
  clear b0 b1 b2 b3
  clear h4 Xb B3
  have Xb := Yb
  clear Yb
  go_upto_region 8 with fail
  have Xf := Lib.hid (has_new wc4 (cs4 S L K A) 23)
  have Lbf := Lib.hid Xb.out.lt
  have Gf : Hid (w.heap.size ≤ wc4.heap.size) := Lib.hid B4.out.size
  have Yb := Lib.hid (Xb.out.alloc (.cells (cs4 S L K A) 23))
  have B5 := Lib.hid (B4.out.alloc B4.out.size (.cells (cs4 S L K A) 23))
  clear B4 Xb
  have Xb := Yb
  clear Yb
  generalize wc4.alloc (.cells (cs4 S L K A) 23) = wv5 at *
  generalize wc4.heap.size = gf at *
  obtain ⟨b0, b1, b2, b3⟩ := Xb.out.four
  obtain ⟨f0, f1, f2, f3⟩ := Xf.out.four
  go_wp2_with fail
  refine (HT.out _).mono ?_
  rintro e wc6 ⟨rfl, h6⟩
  have Yb := Lib.hid (Xb.out.below h6 Xb.out.lt)
  have Yf := Lib.hid (Xf.out.below h6 Xf.out.lt)
  have B6 := Lib.hid (below2 B5.out h6)
  clear b0 b1 b2 b3 f0 f1 f2 f3
  clear h6 Xb Xf B5
  have Xb := Yb
  have Xf := Yf
  clear Yb Yf
  go_upto_region 9 with fail
  have Xt := Lib.hid (has_new wc6 (cs4 S (L) K A) 23)
  have Lbt := Lib.hid Xb.out.lt
  have Lft := Lib.hid Xf.out.lt
  have Gt : Hid (w.heap.size ≤ wc6.heap.size) := Lib.hid B6.out.size
  have Yb := Lib.hid (Xb.out.alloc (.cells (cs4 S (L) K A) 23))
  have Yf := Lib.hid (Xf.out.alloc (.cells (cs4 S (L) K A) 23))
  have B7 := Lib.hid (B6.out.alloc B6.out.size (.cells (cs4 S (L) K A) 23))
  clear B6 Xb Xf
  have Xb := Yb
  have Xf := Yf
  clear Yb Yf
  generalize wc6.alloc (.cells (cs4 S (L) K A) 23) = wv7 at *
  generalize wc6.heap.size = gt at *
  obtain ⟨b0, b1, b2, b3⟩ := Xb.out.four
  obtain ⟨f0, f1, f2, f3⟩ := Xf.out.four
  obtain ⟨t0, t1, t2, t3⟩ := Xt.out.four
  go_wp2_with fail
  refine (right_any S L K A _).mono ?_
  rintro e wc8 ⟨rfl, h8⟩
  have Yb := Lib.hid (Xb.out.below h8 Xb.out.lt)
  have Yf := Lib.hid (Xf.out.below h8 Xf.out.lt)
  have Yt := Lib.hid (Xt.out.below h8 Xt.out.lt)
  have B8 := Lib.hid (below2 B7.out h8)
  clear b0 b1 b2 b3 f0 f1 f2 f3 t0 t1 t2 t3
  clear h8 Xb Xf Xt B7
  have Xb := Yb
  have Xf := Yf
  have Xt := Yt
  clear Yb Yf Yt
  rw [hR]
  obtain ⟨b0, b1, b2, b3⟩ := Xb.out.four
  obtain ⟨f0, f1, f2, f3⟩ := Xf.out.four
  obtain ⟨t0, t1, t2, t3⟩ := Xt.out.four
  go_wp2
  go_ret
  exact ⟨rfl, B8.out⟩
set_option maxRecDepth 100000 in
set_option maxHeartbeats 4000000 in
theorem takes_none_true (s l k a : Int) (o : Bool) (now N S L K A T : Int) (w : World) (hN : now.tmod 200 = N)
    (hS : ∀ w : World, Calls Try.prog 9 #[sm s l k a o] w fun e w' => e = .returned (bk S L K A) ∧ Below w.heap.size w w')
    (hF : ∀ w : World, Calls Try.prog 17 #[bk S L K A, .int .i64 N] w fun e w' => e = .returned (bk S 0 K T) ∧ Below w.heap.size w w')
    (hT : ∀ w : World, Calls Try.prog 12 #[bk S L K A, .int .i64 N] w fun e w' => e = .returned (.tuple #[bk S (0) K T, .bool false]) ∧ Below w.heap.size w w')
    (hR : rB S L K = true) :
    Calls Try.prog 6 #[sm s l k a o, .int .i64 now, .bool true] w fun e w' => e = .returned (.bool true) ∧ Below w.heap.size w w' := by
  have HS := Lib.hid hS
  have HF := Lib.hid hF
  have HT := Lib.hid hT
  clear hS hF hT
  have T0 := has_new w (cs5 s l k a o) 25
  have B0 := Lib.hid ((Below.refl w.heap.size w).alloc (Nat.le_refl _) (.cells (cs5 s l k a o) 25))
  go_enter Try.func6, Try.ntmps6
  go_upto_region 1 with fail
  generalize w.alloc (.cells (cs5 s l k a o) 25) = w0 at *
  have XS := Lib.hid T0
  clear T0
  go_wp2_with fail
  refine (examples_any _).mono ?_
  rintro e w1 ⟨rfl, h1⟩
  have XT := Lib.hid (XS.out.below h1 XS.out.lt)
  have B1 := Lib.hid (below2 B0.out h1)
  clear h1 XS B0
  obtain ⟨z0, z1, z2, z3, z4⟩ := XT.out.five
  go_wp2_with fail
  refine (HS.out _).mono ?_
  rintro e wc2 ⟨rfl, h2⟩
  have B2 := Lib.hid (below2 B1.out h2)
  clear z0 z1 z2 z3 z4 XT
  clear h2  B1
  go_upto_region 5 with fail
  have Xb := Lib.hid (has_new wc2 (cs4 S L K A) 23)
  have Gb : Hid (w.heap.size ≤ wc2.heap.size) := Lib.hid B2.out.size
  have B3 := Lib.hid (B2.out.alloc B2.out.size (.cells (cs4 S L K A) 23))
  clear B2 
  generalize wc2.alloc (.cells (cs4 S L K A) 23) = wv3 at *
  generalize wc2.heap.size = gb at *
  obtain ⟨b0, b1, b2, b3⟩ := Xb.out.four
  go_wp2_with fail
  refine (HF.out _).mono ?_
  rintro e wc4 ⟨rfl, h4⟩
  have Yb := Lib.hid (Xb.out.below h4 Xb.out.lt)
  have B4 := Lib.hid (below2 B3.out h4)
  clear b0 b1 b2 b3
  clear h4 Xb B3
  have Xb := Yb
  clear Yb
  go_upto_region 8 with fail
  have Xf := Lib.hid (has_new wc4 (cs4 S 0 K T) 23)
  have Lbf := Lib.hid Xb.out.lt
  have Gf : Hid (w.heap.size ≤ wc4.heap.size) := Lib.hid B4.out.size
  have Yb := Lib.hid (Xb.out.alloc (.cells (cs4 S 0 K T) 23))
  have B5 := Lib.hid (B4.out.alloc B4.out.size (.cells (cs4 S 0 K T) 23))
  clear B4 Xb
  have Xb := Yb
  clear Yb
  generalize wc4.alloc (.cells (cs4 S 0 K T) 23) = wv5 at *
  generalize wc4.heap.size = gf at *
  obtain ⟨b0, b1, b2, b3⟩ := Xb.out.four
  obtain ⟨f0, f1, f2, f3⟩ := Xf.out.four
  go_wp2_with fail
  refine (HT.out _).mono ?_
  rintro e wc6 ⟨rfl, h6⟩
  have Yb := Lib.hid (Xb.out.below h6 Xb.out.lt)
  have Yf := Lib.hid (Xf.out.below h6 Xf.out.lt)
  have B6 := Lib.hid (below2 B5.out h6)
  clear b0 b1 b2 b3 f0 f1 f2 f3
  clear h6 Xb Xf B5
  have Xb := Yb
  have Xf := Yf
  clear Yb Yf
  go_upto_region 9 with fail
  have Xt := Lib.hid (has_new wc6 (cs4 S (0) K T) 23)
  have Lbt := Lib.hid Xb.out.lt
  have Lft := Lib.hid Xf.out.lt
  have Gt : Hid (w.heap.size ≤ wc6.heap.size) := Lib.hid B6.out.size
  have Yb := Lib.hid (Xb.out.alloc (.cells (cs4 S (0) K T) 23))
  have Yf := Lib.hid (Xf.out.alloc (.cells (cs4 S (0) K T) 23))
  have B7 := Lib.hid (B6.out.alloc B6.out.size (.cells (cs4 S (0) K T) 23))
  clear B6 Xb Xf
  have Xb := Yb
  have Xf := Yf
  clear Yb Yf
  generalize wc6.alloc (.cells (cs4 S (0) K T) 23) = wv7 at *
  generalize wc6.heap.size = gt at *
  obtain ⟨b0, b1, b2, b3⟩ := Xb.out.four
  obtain ⟨f0, f1, f2, f3⟩ := Xf.out.four
  obtain ⟨t0, t1, t2, t3⟩ := Xt.out.four
  go_wp2_with fail
  refine (right_any S L K A _).mono ?_
  rintro e wc8 ⟨rfl, h8⟩
  have Yb := Lib.hid (Xb.out.below h8 Xb.out.lt)
  have Yf := Lib.hid (Xf.out.below h8 Xf.out.lt)
  have Yt := Lib.hid (Xt.out.below h8 Xt.out.lt)
  have B8 := Lib.hid (below2 B7.out h8)
  clear b0 b1 b2 b3 f0 f1 f2 f3 t0 t1 t2 t3
  clear h8 Xb Xf Xt B7
  have Xb := Yb
  have Xf := Yf
  have Xt := Yt
  clear Yb Yf Yt
  rw [hR]
  obtain ⟨b0, b1, b2, b3⟩ := Xb.out.four
  obtain ⟨f0, f1, f2, f3⟩ := Xf.out.four
  obtain ⟨t0, t1, t2, t3⟩ := Xt.out.four
  go_wp2
  go_ret
  exact ⟨rfl, B8.out⟩
set_option maxRecDepth 100000 in
set_option maxHeartbeats 4000000 in
theorem takes_one_true (s l k a : Int) (o : Bool) (now N S L K A M T : Int) (w : World) (hN : now.tmod 200 = N) (hM0 : 1 ≤ M) (hM1 : M ≤ 1000000) (hne : (M == 0) = false)
    (hS : ∀ w : World, Calls Try.prog 9 #[sm s l k a o] w fun e w' => e = .returned (bk S L K A) ∧ Below w.heap.size w w')
    (hF : ∀ w : World, Calls Try.prog 17 #[bk S L K A, .int .i64 N] w fun e w' => e = .returned (bk S M K T) ∧ Below w.heap.size w w')
    (hT : ∀ w : World, Calls Try.prog 12 #[bk S L K A, .int .i64 N] w fun e w' => e = .returned (.tuple #[bk S (M - 1) K T, .bool true]) ∧ Below w.heap.size w w')
    (hR : rB S L K = true) :
    Calls Try.prog 6 #[sm s l k a o, .int .i64 now, .bool true] w fun e w' => e = .returned (.bool true) ∧ Below w.heap.size w w' := by
  have HS := Lib.hid hS
  have HF := Lib.hid hF
  have HT := Lib.hid hT
  have hMM : M - 1 + 1 = M := by omega
  have hpos : decide (0 < M) = true := by simp; omega
  clear hS hF hT
  have T0 := has_new w (cs5 s l k a o) 25
  have B0 := Lib.hid ((Below.refl w.heap.size w).alloc (Nat.le_refl _) (.cells (cs5 s l k a o) 25))
  go_enter Try.func6, Try.ntmps6
  go_upto_region 1 with fail
  generalize w.alloc (.cells (cs5 s l k a o) 25) = w0 at *
  have XS := Lib.hid T0
  clear T0
  go_wp2_with fail
  refine (examples_any _).mono ?_
  rintro e w1 ⟨rfl, h1⟩
  have XT := Lib.hid (XS.out.below h1 XS.out.lt)
  have B1 := Lib.hid (below2 B0.out h1)
  clear h1 XS B0
  obtain ⟨z0, z1, z2, z3, z4⟩ := XT.out.five
  go_wp2_with fail
  refine (HS.out _).mono ?_
  rintro e wc2 ⟨rfl, h2⟩
  have B2 := Lib.hid (below2 B1.out h2)
  clear z0 z1 z2 z3 z4 XT
  clear h2  B1
  go_upto_region 5 with fail
  have Xb := Lib.hid (has_new wc2 (cs4 S L K A) 23)
  have Gb : Hid (w.heap.size ≤ wc2.heap.size) := Lib.hid B2.out.size
  have B3 := Lib.hid (B2.out.alloc B2.out.size (.cells (cs4 S L K A) 23))
  clear B2 
  generalize wc2.alloc (.cells (cs4 S L K A) 23) = wv3 at *
  generalize wc2.heap.size = gb at *
  obtain ⟨b0, b1, b2, b3⟩ := Xb.out.four
  go_wp2_with fail
  refine (HF.out _).mono ?_
  rintro e wc4 ⟨rfl, h4⟩
  have Yb := Lib.hid (Xb.out.below h4 Xb.out.lt)
  have B4 := Lib.hid (below2 B3.out h4)
  clear b0 b1 b2 b3
  clear h4 Xb B3
  have Xb := Yb
  clear Yb
  go_upto_region 8 with fail
  have Xf := Lib.hid (has_new wc4 (cs4 S M K T) 23)
  have Lbf := Lib.hid Xb.out.lt
  have Gf : Hid (w.heap.size ≤ wc4.heap.size) := Lib.hid B4.out.size
  have Yb := Lib.hid (Xb.out.alloc (.cells (cs4 S M K T) 23))
  have B5 := Lib.hid (B4.out.alloc B4.out.size (.cells (cs4 S M K T) 23))
  clear B4 Xb
  have Xb := Yb
  clear Yb
  generalize wc4.alloc (.cells (cs4 S M K T) 23) = wv5 at *
  generalize wc4.heap.size = gf at *
  obtain ⟨b0, b1, b2, b3⟩ := Xb.out.four
  obtain ⟨f0, f1, f2, f3⟩ := Xf.out.four
  go_wp2_with fail
  refine (HT.out _).mono ?_
  rintro e wc6 ⟨rfl, h6⟩
  have Yb := Lib.hid (Xb.out.below h6 Xb.out.lt)
  have Yf := Lib.hid (Xf.out.below h6 Xf.out.lt)
  have B6 := Lib.hid (below2 B5.out h6)
  clear b0 b1 b2 b3 f0 f1 f2 f3
  clear h6 Xb Xf B5
  have Xb := Yb
  have Xf := Yf
  clear Yb Yf
  go_upto_region 9 with fail
  have Xt := Lib.hid (has_new wc6 (cs4 S (M - 1) K T) 23)
  have Lbt := Lib.hid Xb.out.lt
  have Lft := Lib.hid Xf.out.lt
  have Gt : Hid (w.heap.size ≤ wc6.heap.size) := Lib.hid B6.out.size
  have Yb := Lib.hid (Xb.out.alloc (.cells (cs4 S (M - 1) K T) 23))
  have Yf := Lib.hid (Xf.out.alloc (.cells (cs4 S (M - 1) K T) 23))
  have B7 := Lib.hid (B6.out.alloc B6.out.size (.cells (cs4 S (M - 1) K T) 23))
  clear B6 Xb Xf
  have Xb := Yb
  have Xf := Yf
  clear Yb Yf
  generalize wc6.alloc (.cells (cs4 S (M - 1) K T) 23) = wv7 at *
  generalize wc6.heap.size = gt at *
  obtain ⟨b0, b1, b2, b3⟩ := Xb.out.four
  obtain ⟨f0, f1, f2, f3⟩ := Xf.out.four
  obtain ⟨t0, t1, t2, t3⟩ := Xt.out.four
  go_wp2_with fail
  refine (right_any S L K A _).mono ?_
  rintro e wc8 ⟨rfl, h8⟩
  have Yb := Lib.hid (Xb.out.below h8 Xb.out.lt)
  have Yf := Lib.hid (Xf.out.below h8 Xf.out.lt)
  have Yt := Lib.hid (Xt.out.below h8 Xt.out.lt)
  have B8 := Lib.hid (below2 B7.out h8)
  clear b0 b1 b2 b3 f0 f1 f2 f3 t0 t1 t2 t3
  clear h8 Xb Xf Xt B7
  have Xb := Yb
  have Xf := Yf
  have Xt := Yt
  clear Yb Yf Yt
  rw [hR]
  obtain ⟨b0, b1, b2, b3⟩ := Xb.out.four
  obtain ⟨f0, f1, f2, f3⟩ := Xf.out.four
  obtain ⟨⟨t0, t1, t2, t3⟩, tf0, tf1, tf2, tf3⟩ := Xt.out.fours
  go_upto_region 14 with fail
  have Yb := Lib.hid (Xb.out.set_other ⟨gt, 1, none⟩ (.int .i64 M) (by have := Lbt.out; simp; omega))
  have Yf := Lib.hid (Xf.out.set_other ⟨gt, 1, none⟩ (.int .i64 M) (by have := Lft.out; simp; omega))
  have Yt : Hid (Has _ gt _ (cs4 S M K T)) := Lib.hid (Xt.out.put 1 (.int .i64 M))
  have B9 := Lib.hid (B8.out.setCell (p := ⟨gt, 1, none⟩) Gt.out (.int .i64 M))
  clear b0 b1 b2 b3 f0 f1 f2 f3 t0 t1 t2 t3 tf0 tf1 tf2 tf3
  clear B8 Xb Xf Xt
  have Xb := Yb
  have Xf := Yf
  have Xt := Yt
  clear Yb Yf Yt
  generalize wc8.setCell ⟨gt, 1, none⟩ (.int .i64 M) = wp9 at *
  obtain ⟨b0, b1, b2, b3⟩ := Xb.out.four
  obtain ⟨f0, f1, f2, f3⟩ := Xf.out.four
  obtain ⟨t0, t1, t2, t3⟩ := Xt.out.four
  go_wp2
  go_ret
  exact ⟨rfl, B9.out⟩
set_option maxRecDepth 100000 in
set_option maxHeartbeats 4000000 in
theorem takes_no_false (s l k a : Int) (o : Bool) (now S L K A : Int) (w : World)
    (hS : ∀ w : World, Calls Try.prog 9 #[sm s l k a o] w fun e w' => e = .returned (bk S L K A) ∧ Below w.heap.size w w')
    (hF : ∀ w : World, Calls Try.prog 17 #[bk S L K A, .int .i64 now] w fun e w' => e = .returned (bk S L K A) ∧ Below w.heap.size w w')
    (hT : ∀ w : World, Calls Try.prog 12 #[bk S L K A, .int .i64 now] w fun e w' => e = .returned (.tuple #[bk S (L) K A, .bool false]) ∧ Below w.heap.size w w')
    (hR : rB S L K = false) :
    Calls Try.prog 6 #[sm s l k a o, .int .i64 now, .bool false] w fun e w' => e = .returned (.bool true) ∧ Below w.heap.size w w' := by
  have HS := Lib.hid hS
  have HF := Lib.hid hF
  have HT := Lib.hid hT
  clear hS hF hT
  have T0 := has_new w (cs5 s l k a o) 25
  have B0 := Lib.hid ((Below.refl w.heap.size w).alloc (Nat.le_refl _) (.cells (cs5 s l k a o) 25))
  go_enter Try.func6, Try.ntmps6
  go_upto_region 1 with fail
  generalize w.alloc (.cells (cs5 s l k a o) 25) = w0 at *
  have XS := Lib.hid T0
  clear T0
  go_wp2_with fail
  refine (examples_any _).mono ?_
  rintro e w1 ⟨rfl, h1⟩
  have XT := Lib.hid (XS.out.below h1 XS.out.lt)
  have B1 := Lib.hid (below2 B0.out h1)
  clear h1 XS B0
  obtain ⟨z0, z1, z2, z3, z4⟩ := XT.out.five
  go_wp2_with fail
  refine (HS.out _).mono ?_
  rintro e wc2 ⟨rfl, h2⟩
  have B2 := Lib.hid (below2 B1.out h2)
  clear z0 z1 z2 z3 z4 XT
  clear h2  B1
  go_upto_region 5 with fail
  have Xb := Lib.hid (has_new wc2 (cs4 S L K A) 23)
  have Gb : Hid (w.heap.size ≤ wc2.heap.size) := Lib.hid B2.out.size
  have B3 := Lib.hid (B2.out.alloc B2.out.size (.cells (cs4 S L K A) 23))
  clear B2 
  generalize wc2.alloc (.cells (cs4 S L K A) 23) = wv3 at *
  generalize wc2.heap.size = gb at *
  obtain ⟨b0, b1, b2, b3⟩ := Xb.out.four
  go_wp2_with fail
  refine (HF.out _).mono ?_
  rintro e wc4 ⟨rfl, h4⟩
  have Yb := Lib.hid (Xb.out.below h4 Xb.out.lt)
  have B4 := Lib.hid (below2 B3.out h4)
  clear b0 b1 b2 b3
  clear h4 Xb B3
  have Xb := Yb
  clear Yb
  go_upto_region 8 with fail
  have Xf := Lib.hid (has_new wc4 (cs4 S L K A) 23)
  have Lbf := Lib.hid Xb.out.lt
  have Gf : Hid (w.heap.size ≤ wc4.heap.size) := Lib.hid B4.out.size
  have Yb := Lib.hid (Xb.out.alloc (.cells (cs4 S L K A) 23))
  have B5 := Lib.hid (B4.out.alloc B4.out.size (.cells (cs4 S L K A) 23))
  clear B4 Xb
  have Xb := Yb
  clear Yb
  generalize wc4.alloc (.cells (cs4 S L K A) 23) = wv5 at *
  generalize wc4.heap.size = gf at *
  obtain ⟨b0, b1, b2, b3⟩ := Xb.out.four
  obtain ⟨f0, f1, f2, f3⟩ := Xf.out.four
  go_wp2_with fail
  refine (HT.out _).mono ?_
  rintro e wc6 ⟨rfl, h6⟩
  have Yb := Lib.hid (Xb.out.below h6 Xb.out.lt)
  have Yf := Lib.hid (Xf.out.below h6 Xf.out.lt)
  have B6 := Lib.hid (below2 B5.out h6)
  clear b0 b1 b2 b3 f0 f1 f2 f3
  clear h6 Xb Xf B5
  have Xb := Yb
  have Xf := Yf
  clear Yb Yf
  go_upto_region 9 with fail
  have Xt := Lib.hid (has_new wc6 (cs4 S (L) K A) 23)
  have Lbt := Lib.hid Xb.out.lt
  have Lft := Lib.hid Xf.out.lt
  have Gt : Hid (w.heap.size ≤ wc6.heap.size) := Lib.hid B6.out.size
  have Yb := Lib.hid (Xb.out.alloc (.cells (cs4 S (L) K A) 23))
  have Yf := Lib.hid (Xf.out.alloc (.cells (cs4 S (L) K A) 23))
  have B7 := Lib.hid (B6.out.alloc B6.out.size (.cells (cs4 S (L) K A) 23))
  clear B6 Xb Xf
  have Xb := Yb
  have Xf := Yf
  clear Yb Yf
  generalize wc6.alloc (.cells (cs4 S (L) K A) 23) = wv7 at *
  generalize wc6.heap.size = gt at *
  obtain ⟨b0, b1, b2, b3⟩ := Xb.out.four
  obtain ⟨f0, f1, f2, f3⟩ := Xf.out.four
  obtain ⟨t0, t1, t2, t3⟩ := Xt.out.four
  go_wp2_with fail
  refine (right_any S L K A _).mono ?_
  rintro e wc8 ⟨rfl, h8⟩
  have Yb := Lib.hid (Xb.out.below h8 Xb.out.lt)
  have Yf := Lib.hid (Xf.out.below h8 Xf.out.lt)
  have Yt := Lib.hid (Xt.out.below h8 Xt.out.lt)
  have B8 := Lib.hid (below2 B7.out h8)
  clear b0 b1 b2 b3 f0 f1 f2 f3 t0 t1 t2 t3
  clear h8 Xb Xf Xt B7
  have Xb := Yb
  have Xf := Yf
  have Xt := Yt
  clear Yb Yf Yt
  rw [hR]
  obtain ⟨b0, b1, b2, b3⟩ := Xb.out.four
  obtain ⟨f0, f1, f2, f3⟩ := Xf.out.four
  obtain ⟨t0, t1, t2, t3⟩ := Xt.out.four
  go_wp2
  go_ret
  exact ⟨rfl, B8.out⟩
set_option maxRecDepth 100000 in
set_option maxHeartbeats 4000000 in
theorem takes_none_false (s l k a : Int) (o : Bool) (now S L K A T : Int) (w : World)
    (hS : ∀ w : World, Calls Try.prog 9 #[sm s l k a o] w fun e w' => e = .returned (bk S L K A) ∧ Below w.heap.size w w')
    (hF : ∀ w : World, Calls Try.prog 17 #[bk S L K A, .int .i64 now] w fun e w' => e = .returned (bk S 0 K T) ∧ Below w.heap.size w w')
    (hT : ∀ w : World, Calls Try.prog 12 #[bk S L K A, .int .i64 now] w fun e w' => e = .returned (.tuple #[bk S (0) K T, .bool false]) ∧ Below w.heap.size w w')
    (hR : rB S L K = true) :
    Calls Try.prog 6 #[sm s l k a o, .int .i64 now, .bool false] w fun e w' => e = .returned (.bool true) ∧ Below w.heap.size w w' := by
  have HS := Lib.hid hS
  have HF := Lib.hid hF
  have HT := Lib.hid hT
  clear hS hF hT
  have T0 := has_new w (cs5 s l k a o) 25
  have B0 := Lib.hid ((Below.refl w.heap.size w).alloc (Nat.le_refl _) (.cells (cs5 s l k a o) 25))
  go_enter Try.func6, Try.ntmps6
  go_upto_region 1 with fail
  generalize w.alloc (.cells (cs5 s l k a o) 25) = w0 at *
  have XS := Lib.hid T0
  clear T0
  go_wp2_with fail
  refine (examples_any _).mono ?_
  rintro e w1 ⟨rfl, h1⟩
  have XT := Lib.hid (XS.out.below h1 XS.out.lt)
  have B1 := Lib.hid (below2 B0.out h1)
  clear h1 XS B0
  obtain ⟨z0, z1, z2, z3, z4⟩ := XT.out.five
  go_wp2_with fail
  refine (HS.out _).mono ?_
  rintro e wc2 ⟨rfl, h2⟩
  have B2 := Lib.hid (below2 B1.out h2)
  clear z0 z1 z2 z3 z4 XT
  clear h2  B1
  go_upto_region 5 with fail
  have Xb := Lib.hid (has_new wc2 (cs4 S L K A) 23)
  have Gb : Hid (w.heap.size ≤ wc2.heap.size) := Lib.hid B2.out.size
  have B3 := Lib.hid (B2.out.alloc B2.out.size (.cells (cs4 S L K A) 23))
  clear B2 
  generalize wc2.alloc (.cells (cs4 S L K A) 23) = wv3 at *
  generalize wc2.heap.size = gb at *
  obtain ⟨b0, b1, b2, b3⟩ := Xb.out.four
  go_wp2_with fail
  refine (HF.out _).mono ?_
  rintro e wc4 ⟨rfl, h4⟩
  have Yb := Lib.hid (Xb.out.below h4 Xb.out.lt)
  have B4 := Lib.hid (below2 B3.out h4)
  clear b0 b1 b2 b3
  clear h4 Xb B3
  have Xb := Yb
  clear Yb
  go_upto_region 8 with fail
  have Xf := Lib.hid (has_new wc4 (cs4 S 0 K T) 23)
  have Lbf := Lib.hid Xb.out.lt
  have Gf : Hid (w.heap.size ≤ wc4.heap.size) := Lib.hid B4.out.size
  have Yb := Lib.hid (Xb.out.alloc (.cells (cs4 S 0 K T) 23))
  have B5 := Lib.hid (B4.out.alloc B4.out.size (.cells (cs4 S 0 K T) 23))
  clear B4 Xb
  have Xb := Yb
  clear Yb
  generalize wc4.alloc (.cells (cs4 S 0 K T) 23) = wv5 at *
  generalize wc4.heap.size = gf at *
  obtain ⟨b0, b1, b2, b3⟩ := Xb.out.four
  obtain ⟨f0, f1, f2, f3⟩ := Xf.out.four
  go_wp2_with fail
  refine (HT.out _).mono ?_
  rintro e wc6 ⟨rfl, h6⟩
  have Yb := Lib.hid (Xb.out.below h6 Xb.out.lt)
  have Yf := Lib.hid (Xf.out.below h6 Xf.out.lt)
  have B6 := Lib.hid (below2 B5.out h6)
  clear b0 b1 b2 b3 f0 f1 f2 f3
  clear h6 Xb Xf B5
  have Xb := Yb
  have Xf := Yf
  clear Yb Yf
  go_upto_region 9 with fail
  have Xt := Lib.hid (has_new wc6 (cs4 S (0) K T) 23)
  have Lbt := Lib.hid Xb.out.lt
  have Lft := Lib.hid Xf.out.lt
  have Gt : Hid (w.heap.size ≤ wc6.heap.size) := Lib.hid B6.out.size
  have Yb := Lib.hid (Xb.out.alloc (.cells (cs4 S (0) K T) 23))
  have Yf := Lib.hid (Xf.out.alloc (.cells (cs4 S (0) K T) 23))
  have B7 := Lib.hid (B6.out.alloc B6.out.size (.cells (cs4 S (0) K T) 23))
  clear B6 Xb Xf
  have Xb := Yb
  have Xf := Yf
  clear Yb Yf
  generalize wc6.alloc (.cells (cs4 S (0) K T) 23) = wv7 at *
  generalize wc6.heap.size = gt at *
  obtain ⟨b0, b1, b2, b3⟩ := Xb.out.four
  obtain ⟨f0, f1, f2, f3⟩ := Xf.out.four
  obtain ⟨t0, t1, t2, t3⟩ := Xt.out.four
  go_wp2_with fail
  refine (right_any S L K A _).mono ?_
  rintro e wc8 ⟨rfl, h8⟩
  have Yb := Lib.hid (Xb.out.below h8 Xb.out.lt)
  have Yf := Lib.hid (Xf.out.below h8 Xf.out.lt)
  have Yt := Lib.hid (Xt.out.below h8 Xt.out.lt)
  have B8 := Lib.hid (below2 B7.out h8)
  clear b0 b1 b2 b3 f0 f1 f2 f3 t0 t1 t2 t3
  clear h8 Xb Xf Xt B7
  have Xb := Yb
  have Xf := Yf
  have Xt := Yt
  clear Yb Yf Yt
  rw [hR]
  obtain ⟨b0, b1, b2, b3⟩ := Xb.out.four
  obtain ⟨f0, f1, f2, f3⟩ := Xf.out.four
  obtain ⟨t0, t1, t2, t3⟩ := Xt.out.four
  go_wp2
  go_ret
  exact ⟨rfl, B8.out⟩
set_option maxRecDepth 100000 in
set_option maxHeartbeats 4000000 in
theorem takes_one_false (s l k a : Int) (o : Bool) (now S L K A M T : Int) (w : World) (hM0 : 1 ≤ M) (hM1 : M ≤ 1000000) (hne : (M == 0) = false)
    (hS : ∀ w : World, Calls Try.prog 9 #[sm s l k a o] w fun e w' => e = .returned (bk S L K A) ∧ Below w.heap.size w w')
    (hF : ∀ w : World, Calls Try.prog 17 #[bk S L K A, .int .i64 now] w fun e w' => e = .returned (bk S M K T) ∧ Below w.heap.size w w')
    (hT : ∀ w : World, Calls Try.prog 12 #[bk S L K A, .int .i64 now] w fun e w' => e = .returned (.tuple #[bk S (M - 1) K T, .bool true]) ∧ Below w.heap.size w w')
    (hR : rB S L K = true) :
    Calls Try.prog 6 #[sm s l k a o, .int .i64 now, .bool false] w fun e w' => e = .returned (.bool true) ∧ Below w.heap.size w w' := by
  have HS := Lib.hid hS
  have HF := Lib.hid hF
  have HT := Lib.hid hT
  have hMM : M - 1 + 1 = M := by omega
  have hpos : decide (0 < M) = true := by simp; omega
  clear hS hF hT
  have T0 := has_new w (cs5 s l k a o) 25
  have B0 := Lib.hid ((Below.refl w.heap.size w).alloc (Nat.le_refl _) (.cells (cs5 s l k a o) 25))
  go_enter Try.func6, Try.ntmps6
  go_upto_region 1 with fail
  generalize w.alloc (.cells (cs5 s l k a o) 25) = w0 at *
  have XS := Lib.hid T0
  clear T0
  go_wp2_with fail
  refine (examples_any _).mono ?_
  rintro e w1 ⟨rfl, h1⟩
  have XT := Lib.hid (XS.out.below h1 XS.out.lt)
  have B1 := Lib.hid (below2 B0.out h1)
  clear h1 XS B0
  obtain ⟨z0, z1, z2, z3, z4⟩ := XT.out.five
  go_wp2_with fail
  refine (HS.out _).mono ?_
  rintro e wc2 ⟨rfl, h2⟩
  have B2 := Lib.hid (below2 B1.out h2)
  clear z0 z1 z2 z3 z4 XT
  clear h2  B1
  go_upto_region 5 with fail
  have Xb := Lib.hid (has_new wc2 (cs4 S L K A) 23)
  have Gb : Hid (w.heap.size ≤ wc2.heap.size) := Lib.hid B2.out.size
  have B3 := Lib.hid (B2.out.alloc B2.out.size (.cells (cs4 S L K A) 23))
  clear B2 
  generalize wc2.alloc (.cells (cs4 S L K A) 23) = wv3 at *
  generalize wc2.heap.size = gb at *
  obtain ⟨b0, b1, b2, b3⟩ := Xb.out.four
  go_wp2_with fail
  refine (HF.out _).mono ?_
  rintro e wc4 ⟨rfl, h4⟩
  have Yb := Lib.hid (Xb.out.below h4 Xb.out.lt)
  have B4 := Lib.hid (below2 B3.out h4)
  clear b0 b1 b2 b3
  clear h4 Xb B3
  have Xb := Yb
  clear Yb
  go_upto_region 8 with fail
  have Xf := Lib.hid (has_new wc4 (cs4 S M K T) 23)
  have Lbf := Lib.hid Xb.out.lt
  have Gf : Hid (w.heap.size ≤ wc4.heap.size) := Lib.hid B4.out.size
  have Yb := Lib.hid (Xb.out.alloc (.cells (cs4 S M K T) 23))
  have B5 := Lib.hid (B4.out.alloc B4.out.size (.cells (cs4 S M K T) 23))
  clear B4 Xb
  have Xb := Yb
  clear Yb
  generalize wc4.alloc (.cells (cs4 S M K T) 23) = wv5 at *
  generalize wc4.heap.size = gf at *
  obtain ⟨b0, b1, b2, b3⟩ := Xb.out.four
  obtain ⟨f0, f1, f2, f3⟩ := Xf.out.four
  go_wp2_with fail
  refine (HT.out _).mono ?_
  rintro e wc6 ⟨rfl, h6⟩
  have Yb := Lib.hid (Xb.out.below h6 Xb.out.lt)
  have Yf := Lib.hid (Xf.out.below h6 Xf.out.lt)
  have B6 := Lib.hid (below2 B5.out h6)
  clear b0 b1 b2 b3 f0 f1 f2 f3
  clear h6 Xb Xf B5
  have Xb := Yb
  have Xf := Yf
  clear Yb Yf
  go_upto_region 9 with fail
  have Xt := Lib.hid (has_new wc6 (cs4 S (M - 1) K T) 23)
  have Lbt := Lib.hid Xb.out.lt
  have Lft := Lib.hid Xf.out.lt
  have Gt : Hid (w.heap.size ≤ wc6.heap.size) := Lib.hid B6.out.size
  have Yb := Lib.hid (Xb.out.alloc (.cells (cs4 S (M - 1) K T) 23))
  have Yf := Lib.hid (Xf.out.alloc (.cells (cs4 S (M - 1) K T) 23))
  have B7 := Lib.hid (B6.out.alloc B6.out.size (.cells (cs4 S (M - 1) K T) 23))
  clear B6 Xb Xf
  have Xb := Yb
  have Xf := Yf
  clear Yb Yf
  generalize wc6.alloc (.cells (cs4 S (M - 1) K T) 23) = wv7 at *
  generalize wc6.heap.size = gt at *
  obtain ⟨b0, b1, b2, b3⟩ := Xb.out.four
  obtain ⟨f0, f1, f2, f3⟩ := Xf.out.four
  obtain ⟨t0, t1, t2, t3⟩ := Xt.out.four
  go_wp2_with fail
  refine (right_any S L K A _).mono ?_
  rintro e wc8 ⟨rfl, h8⟩
  have Yb := Lib.hid (Xb.out.below h8 Xb.out.lt)
  have Yf := Lib.hid (Xf.out.below h8 Xf.out.lt)
  have Yt := Lib.hid (Xt.out.below h8 Xt.out.lt)
  have B8 := Lib.hid (below2 B7.out h8)
  clear b0 b1 b2 b3 f0 f1 f2 f3 t0 t1 t2 t3
  clear h8 Xb Xf Xt B7
  have Xb := Yb
  have Xf := Yf
  have Xt := Yt
  clear Yb Yf Yt
  rw [hR]
  obtain ⟨b0, b1, b2, b3⟩ := Xb.out.four
  obtain ⟨f0, f1, f2, f3⟩ := Xf.out.four
  obtain ⟨⟨t0, t1, t2, t3⟩, tf0, tf1, tf2, tf3⟩ := Xt.out.fours
  go_upto_region 14 with fail
  have Yb := Lib.hid (Xb.out.set_other ⟨gt, 1, none⟩ (.int .i64 M) (by have := Lbt.out; simp; omega))
  have Yf := Lib.hid (Xf.out.set_other ⟨gt, 1, none⟩ (.int .i64 M) (by have := Lft.out; simp; omega))
  have Yt : Hid (Has _ gt _ (cs4 S M K T)) := Lib.hid (Xt.out.put 1 (.int .i64 M))
  have B9 := Lib.hid (B8.out.setCell (p := ⟨gt, 1, none⟩) Gt.out (.int .i64 M))
  clear b0 b1 b2 b3 f0 f1 f2 f3 t0 t1 t2 t3 tf0 tf1 tf2 tf3
  clear B8 Xb Xf Xt
  have Xb := Yb
  have Xf := Yf
  have Xt := Yt
  clear Yb Yf Yt
  generalize wc8.setCell ⟨gt, 1, none⟩ (.int .i64 M) = wp9 at *
  obtain ⟨b0, b1, b2, b3⟩ := Xb.out.four
  obtain ⟨f0, f1, f2, f3⟩ := Xf.out.four
  obtain ⟨t0, t1, t2, t3⟩ := Xt.out.four
  go_wp2
  go_ret
  exact ⟨rfl, B9.out⟩
theorem takes_walk (s l k a : Int) (o : Bool) (now : Int) (near : Bool) (w : World) (_ : I64 s) (_ : I64 l) (_ : I64 k) (ha : I64 a) (hn : I64 now) :
    Calls Try.prog 6 #[sm s l k a o, .int .i64 now, .bool near] w fun e w' => e = .returned (.bool true) ∧ Below w.heap.size w w' := by
  obtain ⟨S, L, K, A, hA, hS⟩ := some_any s l k a o ha
  have hmod := tmod_in now 200 (by omega)
  have key : ∀ N : Int, I64 N → (∀ w, Calls Try.prog 17 #[bk S L K A, .int .i64 N] w fun e w' => e = .returned (bk S (fL S L K A N) K (fA S L K A N)) ∧ Below w.heap.size w w') ∧
      (∀ w, Calls Try.prog 12 #[bk S L K A, .int .i64 N] w fun e w' => e = .returned (.tuple #[bk S (tL S L K A N) K (fA S L K A N), .bool (tK S L K A N)]) ∧ Below w.heap.size w w') :=
    fun N h => ⟨fun w => fill_any S L K A N w hA h, fun w => take_any S L K A N w hA h⟩
  cases near with
  | true =>
    obtain ⟨hF, hT⟩ := key (now.tmod 200) (by omega)
    cases hr : rB S L K with
    | false =>
      rw [(f_no hr).1, (f_no hr).2] at hF
      rw [(t_no hr).1, (t_no hr).2, (f_no hr).2] at hT
      exact takes_no_true s l k a o now _ S L K A w rfl hS hF hT hr
    | true =>
      obtain ⟨h0, h1, _⟩ := fL_in A (now.tmod 200) hr
      obtain ⟨hs0, hs1, hl0, hls, hk1, hk2⟩ := rB_yes hr
      by_cases h : fL S L K A (now.tmod 200) = 0
      · rw [h] at hF
        rw [(t_none h).1, (t_none h).2] at hT
        exact takes_none_true s l k a o now _ S L K A _ w rfl hS hF hT hr
      · rw [(t_one hr h).1, (t_one hr h).2] at hT
        exact takes_one_true s l k a o now _ S L K A _ _ w rfl (by omega) (by omega) (by simpa using h) hS hF hT hr
  | false =>
    obtain ⟨hF, hT⟩ := key now hn
    cases hr : rB S L K with
    | false =>
      rw [(f_no hr).1, (f_no hr).2] at hF
      rw [(t_no hr).1, (t_no hr).2, (f_no hr).2] at hT
      exact takes_no_false s l k a o now S L K A w hS hF hT hr
    | true =>
      obtain ⟨h0, h1, _⟩ := fL_in A now hr
      obtain ⟨hs0, hs1, hl0, hls, hk1, hk2⟩ := rB_yes hr
      by_cases h : fL S L K A now = 0
      · rw [h] at hF
        rw [(t_none h).1, (t_none h).2] at hT
        exact takes_none_false s l k a o now S L K A _ w hS hF hT hr
      · rw [(t_one hr h).1, (t_one hr h).2] at hT
        exact takes_one_false s l k a o now S L K A _ _ w (by omega) (by omega) (by simpa using h) hS hF hT hr
end Go.Proofs.Ytldbhikempnhjaa
