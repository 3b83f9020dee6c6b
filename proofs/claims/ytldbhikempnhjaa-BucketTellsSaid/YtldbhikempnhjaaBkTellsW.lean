/- The walk of BucketTells: it returns true, whatever the bucket, the time, the size and how often. -/
import Derived.Test.YtldbhikempnhjaaBkTakesW
namespace Go.Proofs.Ytldbhikempnhjaa
open Go.RowKit
set_option linter.unusedVariables false

/-- What the last test's region holds: the five blocks, and what was there. -/
structure TK (w0 w' : World) (gb gc gd gt gu : Nat) (S L K A C E M T : Int) : Prop where
  bel : Below w0.heap.size w0 w'
  b : Has w' gb 23 (cs4 S L K A)
  c : Has w' gc 23 (cs4 C C E 0)
  d : Has w' gd 31 (cs4 C C E 0)
  t : Has w' gt 23 (cs4 S M K T)
  u : Has w' gu 31 (cs4 S M K T)
theorem TK.next {w0 w1 w2 : World} {gb gc gd gt gu : Nat} {S L K A C E M T : Int} (k : TK w0 w1 gb gc gd gt gu S L K A C E M T) (h : Below w1.heap.size w1 w2) : TK w0 w2 gb gc gd gt gu S L K A C E M T :=
  ⟨below2 k.bel h, k.b.below h k.b.lt, k.c.below h k.c.lt, k.d.below h k.d.lt, k.t.below h k.t.lt, k.u.below h k.u.lt⟩
theorem TK.nextd {w0 w1 w2 : World} {gb gc gd gt gu : Nat} {S L K A C E M T : Int} (k : TK w0 w1 gb gc gd gt gu S L K A C E M T) (h : Below w1.drew.heap.size w1.drew w2) : TK w0 w2 gb gc gd gt gu S L K A C E M T :=
  ⟨below2 k.bel.drew h, k.b.drew.below h k.b.lt, k.c.drew.below h k.c.lt, k.d.drew.below h k.d.lt, k.t.drew.below h k.t.lt, k.u.drew.below h k.u.lt⟩
theorem TK.all {w0 w' : World} {gb gc gd gt gu : Nat} {S L K A C E M T : Int} (k : TK w0 w' gb gc gd gt gu S L K A C E M T) :
    w'.cell? ⟨gb, 0, none⟩ = some (.int .i64 S) ∧ w'.cell? ⟨gb, 1, none⟩ = some (.int .i64 L) ∧ w'.cell? ⟨gb, 2, none⟩ = some (.int .i64 K) ∧ w'.cell? ⟨gb, 3, none⟩ = some (.int .i64 A) ∧ w'.cell? ⟨gc, 0, none⟩ = some (.int .i64 C) ∧ w'.cell? ⟨gc, 1, none⟩ = some (.int .i64 C) ∧ w'.cell? ⟨gc, 2, none⟩ = some (.int .i64 E) ∧ w'.cell? ⟨gc, 3, none⟩ = some (.int .i64 0) ∧ w'.cell? ⟨gd, 0, none⟩ = some (.int .i64 C) ∧ w'.cell? ⟨gd, 1, none⟩ = some (.int .i64 C) ∧ w'.cell? ⟨gd, 2, none⟩ = some (.int .i64 E) ∧ w'.cell? ⟨gd, 3, none⟩ = some (.int .i64 0) ∧ w'.cell? ⟨gt, 0, none⟩ = some (.int .i64 S) ∧ w'.cell? ⟨gt, 1, none⟩ = some (.int .i64 M) ∧ w'.cell? ⟨gt, 2, none⟩ = some (.int .i64 K) ∧ w'.cell? ⟨gt, 3, none⟩ = some (.int .i64 T) ∧ w'.cell? ⟨gu, 0, none⟩ = some (.int .i64 S) ∧ w'.cell? ⟨gu, 1, none⟩ = some (.int .i64 M) ∧ w'.cell? ⟨gu, 2, none⟩ = some (.int .i64 K) ∧ w'.cell? ⟨gu, 3, none⟩ = some (.int .i64 T) :=
  ⟨k.b.cell 0, k.b.cell 1, k.b.cell 2, k.b.cell 3, k.c.cell 0, k.c.cell 1, k.c.cell 2, k.c.cell 3, k.d.cell 0, k.d.cell 1, k.d.cell 2, k.d.cell 3, k.t.cell 0, k.t.cell 1, k.t.cell 2, k.t.cell 3, k.u.cell 0, k.u.cell 1, k.u.cell 2, k.u.cell 3⟩
set_option maxRecDepth 100000 in
set_option maxHeartbeats 8000000 in
theorem tells_true (s l k a : Int) (o : Bool) (now N s1 k1 S L K A C E R M T F : Int) (q : Bool) (w : World) (hN : now.tmod 200 = N)
    (hS : ∀ w : World, Calls Try.prog 9 #[sm s l k a o] w fun e w' => e = .returned (bk S L K A) ∧ Below w.heap.size w w')
    (hC : ∀ w : World, Calls Try.prog 10 #[.int .i64 s1, .int .i64 k1] w fun e w' => e = .returned (.tuple #[bk C C E 0, .int .i64 R]) ∧ Below w.heap.size w w')
    (hD : ∀ w : World, Calls Try.prog 11 #[.int .i64 s1, .int .i64 k1] w fun e w' => e = .returned (.tuple #[bk C C E 0, .int .i64 R]) ∧ Below w.heap.size w w')
    (hT : ∀ w : World, Calls Try.prog 12 #[bk S L K A, .int .i64 N] w fun e w' => e = .returned (.tuple #[bk S M K T, .bool q]) ∧ Below w.heap.size w w')
    (hU : ∀ w : World, Calls Try.prog 14 #[bk S L K A, .int .i64 N] w fun e w' => e = .returned (.tuple #[bk S M K T, .bool q]) ∧ Below w.heap.size w w')
    (hF : ∀ w : World, Calls Try.prog 17 #[bk S L K A, .int .i64 N] w fun e w' => e = .returned (bk S F K T) ∧ Below w.heap.size w w')
    (hG : ∀ w : World, Calls Try.prog 18 #[bk S L K A, .int .i64 N] w fun e w' => e = .returned (bk S F K T) ∧ Below w.heap.size w w') :
    Calls Try.prog 3 #[sm s l k a o, .int .i64 now, .bool true, .int .i64 s1, .int .i64 k1] w fun e w' => e = .returned (.bool true) ∧ Below w.heap.size w w' := by
  have HS := Lib.hid hS
  have HC := Lib.hid hC
  have HD := Lib.hid hD
  have HT := Lib.hid hT
  have HU := Lib.hid hU
  have HF := Lib.hid hF
  have HG := Lib.hid hG
  clear hS hC hD hT hU hF hG
  have T0 := has_new w (cs5 s l k a o) 25
  have B0 := Lib.hid ((Below.refl w.heap.size w).alloc (Nat.le_refl _) (.cells (cs5 s l k a o) 25))
  go_enter Try.func3, Try.ntmps3
  go_upto_region 1 with fail
  generalize w.alloc (.cells (cs5 s l k a o) 25) = w0 at *
  have XS := Lib.hid T0
  clear T0
  go_wp2_with fail
  refine (examples_any _).mono ?_
  rintro e w1 ⟨rfl, h1⟩
  have XT := Lib.hid (XS.out.below h1 XS.out.lt)
  have B1 := Lib.hid (below2 B0.out h1)
  clear h1 XS B0
  obtain ⟨z0, z1, z2, z3, z4⟩ := XT.out.five
  go_wp2_with fail
  refine (HS.out _).mono ?_
  rintro e wc2 ⟨rfl, h2⟩
  have B2 := Lib.hid (below2 B1.out h2)
  clear z0 z1 z2 z3 z4 XT
  clear h2  B1
  go_upto_region 5 with fail
  have Xb := Lib.hid (has_new wc2 (cs4 S L K A) 23)
  have Gb : Hid (w.heap.size ≤ wc2.heap.size) := Lib.hid B2.out.size
  have B3 := Lib.hid (B2.out.alloc B2.out.size (.cells (cs4 S L K A) 23))
  clear B2 
  generalize wc2.alloc (.cells (cs4 S L K A) 23) = wv3 at *
  generalize wc2.heap.size = gb at *
  obtain ⟨b0, b1, b2, b3⟩ := Xb.out.four
  go_wp2_with fail
  refine (HC.out _).mono ?_
  rintro e wc4 ⟨rfl, h4⟩
  have Yb := Lib.hid (Xb.out.below h4 Xb.out.lt)
  have B4 := Lib.hid (below2 B3.out h4)
  clear b0 b1 b2 b3
  clear h4 Xb B3
  have Xb := Yb
  clear Yb
  go_upto_region 8 with fail
  have Xc := Lib.hid (has_new wc4 (cs4 C C E 0) 23)
  have Lbc := Lib.hid Xb.out.lt
  have Gc : Hid (w.heap.size ≤ wc4.heap.size) := Lib.hid B4.out.size
  have Yb := Lib.hid (Xb.out.alloc (.cells (cs4 C C E 0) 23))
  have B5 := Lib.hid (B4.out.alloc B4.out.size (.cells (cs4 C C E 0) 23))
  clear B4 Xb
  have Xb := Yb
  clear Yb
  generalize wc4.alloc (.cells (cs4 C C E 0) 23) = wv5 at *
  generalize wc4.heap.size = gc at *
  obtain ⟨b0, b1, b2, b3⟩ := Xb.out.four
  obtain ⟨c0, c1, c2, c3⟩ := Xc.out.four
  go_wp2_with fail
  refine (HD.out _).mono ?_
  rintro e wc6 ⟨rfl, h6⟩
  have Yb := Lib.hid (Xb.out.below h6 Xb.out.lt)
  have Yc := Lib.hid (Xc.out.below h6 Xc.out.lt)
  have B6 := Lib.hid (below2 B5.out h6)
  clear b0 b1 b2 b3 c0 c1 c2 c3
  clear h6 Xb Xc B5
  have Xb := Yb
  have Xc := Yc
  clear Yb Yc
  go_upto_region 9 with fail
  have Xd := Lib.hid (has_new wc6 (cs4 C C E 0) 31)
  have Lbd := Lib.hid Xb.out.lt
  have Lcd := Lib.hid Xc.out.lt
  have Gd : Hid (w.heap.size ≤ wc6.heap.size) := Lib.hid B6.out.size
  have Yb := Lib.hid (Xb.out.alloc (.cells (cs4 C C E 0) 31))
  have Yc := Lib.hid (Xc.out.alloc (.cells (cs4 C C E 0) 31))
  have B7 := Lib.hid (B6.out.alloc B6.out.size (.cells (cs4 C C E 0) 31))
  clear B6 Xb Xc
  have Xb := Yb
  have Xc := Yc
  clear Yb Yc
  generalize wc6.alloc (.cells (cs4 C C E 0) 31) = wv7 at *
  generalize wc6.heap.size = gd at *
  obtain ⟨b0, b1, b2, b3⟩ := Xb.out.four
  obtain ⟨c0, c1, c2, c3⟩ := Xc.out.four
  obtain ⟨d0, d1, d2, d3⟩ := Xd.out.four
  go_wp2_with fail
  refine (HT.out _).mono ?_
  rintro e wc8 ⟨rfl, h8⟩
  have Yb := Lib.hid (Xb.out.below h8 Xb.out.lt)
  have Yc := Lib.hid (Xc.out.below h8 Xc.out.lt)
  have Yd := Lib.hid (Xd.out.below h8 Xd.out.lt)
  have B8 := Lib.hid (below2 B7.out h8)
  clear b0 b1 b2 b3 c0 c1 c2 c3 d0 d1 d2 d3
  clear h8 Xb Xc Xd B7
  have Xb := Yb
  have Xc := Yc
  have Xd := Yd
  clear Yb Yc Yd
  go_upto_region 10 with fail
  have Xt := Lib.hid (has_new wc8 (cs4 S M K T) 23)
  have Lbt := Lib.hid Xb.out.lt
  have Lct := Lib.hid Xc.out.lt
  have Ldt := Lib.hid Xd.out.lt
  have Gt : Hid (w.heap.size ≤ wc8.heap.size) := Lib.hid B8.out.size
  have Yb := Lib.hid (Xb.out.alloc (.cells (cs4 S M K T) 23))
  have Yc := Lib.hid (Xc.out.alloc (.cells (cs4 S M K T) 23))
  have Yd := Lib.hid (Xd.out.alloc (.cells (cs4 S M K T) 23))
  have B9 := Lib.hid (B8.out.alloc B8.out.size (.cells (cs4 S M K T) 23))
  clear B8 Xb Xc Xd
  have Xb := Yb
  have Xc := Yc
  have Xd := Yd
  clear Yb Yc Yd
  generalize wc8.alloc (.cells (cs4 S M K T) 23) = wv9 at *
  generalize wc8.heap.size = gt at *
  obtain ⟨b0, b1, b2, b3⟩ := Xb.out.four
  obtain ⟨c0, c1, c2, c3⟩ := Xc.out.four
  obtain ⟨d0, d1, d2, d3⟩ := Xd.out.four
  obtain ⟨t0, t1, t2, t3⟩ := Xt.out.four
  go_wp2_with fail
  refine (ref_any S L K A _).mono ?_
  rintro e wc10 ⟨rfl, h10⟩
  have Yb := Lib.hid (Xb.out.below h10 Xb.out.lt)
  have Yc := Lib.hid (Xc.out.below h10 Xc.out.lt)
  have Yd := Lib.hid (Xd.out.below h10 Xd.out.lt)
  have Yt := Lib.hid (Xt.out.below h10 Xt.out.lt)
  have B10 := Lib.hid (below2 B9.out h10)
  clear b0 b1 b2 b3 c0 c1 c2 c3 d0 d1 d2 d3 t0 t1 t2 t3
  clear h10 Xb Xc Xd Xt B9
  have Xb := Yb
  have Xc := Yc
  have Xd := Yd
  have Xt := Yt
  clear Yb Yc Yd Yt
  obtain ⟨b0, b1, b2, b3⟩ := Xb.out.four
  obtain ⟨c0, c1, c2, c3⟩ := Xc.out.four
  obtain ⟨d0, d1, d2, d3⟩ := Xd.out.four
  obtain ⟨t0, t1, t2, t3⟩ := Xt.out.four
  go_wp2_with fail
  refine (HU.out _).mono ?_
  rintro e wc11 ⟨rfl, h11⟩
  have Yb := Lib.hid (Xb.out.below h11 Xb.out.lt)
  have Yc := Lib.hid (Xc.out.below h11 Xc.out.lt)
  have Yd := Lib.hid (Xd.out.below h11 Xd.out.lt)
  have Yt := Lib.hid (Xt.out.below h11 Xt.out.lt)
  have B11 := Lib.hid (below2 B10.out h11)
  clear b0 b1 b2 b3 c0 c1 c2 c3 d0 d1 d2 d3 t0 t1 t2 t3
  clear h11 Xb Xc Xd Xt B10
  have Xb := Yb
  have Xc := Yc
  have Xd := Yd
  have Xt := Yt
  clear Yb Yc Yd Yt
  go_upto_region 11 with fail
  have Xu := Lib.hid (has_new wc11 (cs4 S M K T) 31)
  have Lbu := Lib.hid Xb.out.lt
  have Lcu := Lib.hid Xc.out.lt
  have Ldu := Lib.hid Xd.out.lt
  have Ltu := Lib.hid Xt.out.lt
  have Gu : Hid (w.heap.size ≤ wc11.heap.size) := Lib.hid B11.out.size
  have Yb := Lib.hid (Xb.out.alloc (.cells (cs4 S M K T) 31))
  have Yc := Lib.hid (Xc.out.alloc (.cells (cs4 S M K T) 31))
  have Yd := Lib.hid (Xd.out.alloc (.cells (cs4 S M K T) 31))
  have Yt := Lib.hid (Xt.out.alloc (.cells (cs4 S M K T) 31))
  have B12 := Lib.hid (B11.out.alloc B11.out.size (.cells (cs4 S M K T) 31))
  clear B11 Xb Xc Xd Xt
  have Xb := Yb
  have Xc := Yc
  have Xd := Yd
  have Xt := Yt
  clear Yb Yc Yd Yt
  generalize wc11.alloc (.cells (cs4 S M K T) 31) = wv12 at *
  generalize wc11.heap.size = gu at *
  have K0 : TK w wv12.drew gb gc gd gt gu S L K A C E M T := ⟨B12.out.drew, Xb.out.drew, Xc.out.drew, Xd.out.drew, Xt.out.drew, Xu.out.drew⟩
  clear B12 Xb Xc Xd Xt Xu
  go_region_held3 (fun w' => w'.cell? ⟨gb, 0, none⟩ = some (.int .i64 S) ∧ w'.cell? ⟨gb, 1, none⟩ = some (.int .i64 L) ∧ w'.cell? ⟨gb, 2, none⟩ = some (.int .i64 K) ∧ w'.cell? ⟨gb, 3, none⟩ = some (.int .i64 A) ∧ w'.cell? ⟨gc, 0, none⟩ = some (.int .i64 C) ∧ w'.cell? ⟨gc, 1, none⟩ = some (.int .i64 C) ∧ w'.cell? ⟨gc, 2, none⟩ = some (.int .i64 E) ∧ w'.cell? ⟨gc, 3, none⟩ = some (.int .i64 0) ∧ w'.cell? ⟨gd, 0, none⟩ = some (.int .i64 C) ∧ w'.cell? ⟨gd, 1, none⟩ = some (.int .i64 C) ∧ w'.cell? ⟨gd, 2, none⟩ = some (.int .i64 E) ∧ w'.cell? ⟨gd, 3, none⟩ = some (.int .i64 0) ∧ w'.cell? ⟨gt, 0, none⟩ = some (.int .i64 S) ∧ w'.cell? ⟨gt, 1, none⟩ = some (.int .i64 M) ∧ w'.cell? ⟨gt, 2, none⟩ = some (.int .i64 K) ∧ w'.cell? ⟨gt, 3, none⟩ = some (.int .i64 T) ∧ w'.cell? ⟨gu, 0, none⟩ = some (.int .i64 S) ∧ w'.cell? ⟨gu, 1, none⟩ = some (.int .i64 M) ∧ w'.cell? ⟨gu, 2, none⟩ = some (.int .i64 K) ∧ w'.cell? ⟨gu, 3, none⟩ = some (.int .i64 T))
    (first | exact TK.all (by assumption))
    (first
      | (go_at_call 15; refine (right_any _ _ _ _ _).mono ?_; rintro e w1 ⟨rfl, h1⟩; first | (have hK := TK.next (by assumption) h1) | (have hK := TK.nextd (by assumption) h1))
      | (go_at_call 13; refine (ref_any _ _ _ _ _).mono ?_; rintro e w1 ⟨rfl, h1⟩; first | (have hK := TK.next (by assumption) h1) | (have hK := TK.nextd (by assumption) h1))
      | (go_at_call 16; refine (rright_any _ _ _ _ _).mono ?_; rintro e w1 ⟨rfl, h1⟩; first | (have hK := TK.next (by assumption) h1) | (have hK := TK.nextd (by assumption) h1))
      | (go_at_call 17; refine (HF.out _).mono ?_; rintro e w1 ⟨rfl, h1⟩; first | (have hK := TK.next (by assumption) h1) | (have hK := TK.nextd (by assumption) h1))
      | (go_at_call 18; refine (HG.out _).mono ?_; rintro e w1 ⟨rfl, h1⟩; first | (have hK := TK.next (by assumption) h1) | (have hK := TK.nextd (by assumption) h1)))
  go_wp2
  go_ret
  exact ⟨rfl, TK.bel (by assumption)⟩
set_option maxRecDepth 100000 in
set_option maxHeartbeats 8000000 in
theorem tells_false (s l k a : Int) (o : Bool) (now s1 k1 S L K A C E R M T F : Int) (q : Bool) (w : World)
    (hS : ∀ w : World, Calls Try.prog 9 #[sm s l k a o] w fun e w' => e = .returned (bk S L K A) ∧ Below w.heap.size w w')
    (hC : ∀ w : World, Calls Try.prog 10 #[.int .i64 s1, .int .i64 k1] w fun e w' => e = .returned (.tuple #[bk C C E 0, .int .i64 R]) ∧ Below w.heap.size w w')
    (hD : ∀ w : World, Calls Try.prog 11 #[.int .i64 s1, .int .i64 k1] w fun e w' => e = .returned (.tuple #[bk C C E 0, .int .i64 R]) ∧ Below w.heap.size w w')
    (hT : ∀ w : World, Calls Try.prog 12 #[bk S L K A, .int .i64 now] w fun e w' => e = .returned (.tuple #[bk S M K T, .bool q]) ∧ Below w.heap.size w w')
    (hU : ∀ w : World, Calls Try.prog 14 #[bk S L K A, .int .i64 now] w fun e w' => e = .returned (.tuple #[bk S M K T, .bool q]) ∧ Below w.heap.size w w')
    (hF : ∀ w : World, Calls Try.prog 17 #[bk S L K A, .int .i64 now] w fun e w' => e = .returned (bk S F K T) ∧ Below w.heap.size w w')
    (hG : ∀ w : World, Calls Try.prog 18 #[bk S L K A, .int .i64 now] w fun e w' => e = .returned (bk S F K T) ∧ Below w.heap.size w w') :
    Calls Try.prog 3 #[sm s l k a o, .int .i64 now, .bool false, .int .i64 s1, .int .i64 k1] w fun e w' => e = .returned (.bool true) ∧ Below w.heap.size w w' := by
  have HS := Lib.hid hS
  have HC := Lib.hid hC
  have HD := Lib.hid hD
  have HT := Lib.hid hT
  have HU := Lib.hid hU
  have HF := Lib.hid hF
  have HG := Lib.hid hG
  clear hS hC hD hT hU hF hG
  have T0 := has_new w (cs5 s l k a o) 25
  have B0 := Lib.hid ((Below.refl w.heap.size w).alloc (Nat.le_refl _) (.cells (cs5 s l k a o) 25))
  go_enter Try.func3, Try.ntmps3
  go_upto_region 1 with fail
  generalize w.alloc (.cells (cs5 s l k a o) 25) = w0 at *
  have XS := Lib.hid T0
  clear T0
  go_wp2_with fail
  refine (examples_any _).mono ?_
  rintro e w1 ⟨rfl, h1⟩
  have XT := Lib.hid (XS.out.below h1 XS.out.lt)
  have B1 := Lib.hid (below2 B0.out h1)
  clear h1 XS B0
  obtain ⟨z0, z1, z2, z3, z4⟩ := XT.out.five
  go_wp2_with fail
  refine (HS.out _).mono ?_
  rintro e wc2 ⟨rfl, h2⟩
  have B2 := Lib.hid (below2 B1.out h2)
  clear z0 z1 z2 z3 z4 XT
  clear h2  B1
  go_upto_region 5 with fail
  have Xb := Lib.hid (has_new wc2 (cs4 S L K A) 23)
  have Gb : Hid (w.heap.size ≤ wc2.heap.size) := Lib.hid B2.out.size
  have B3 := Lib.hid (B2.out.alloc B2.out.size (.cells (cs4 S L K A) 23))
  clear B2 
  generalize wc2.alloc (.cells (cs4 S L K A) 23) = wv3 at *
  generalize wc2.heap.size = gb at *
  obtain ⟨b0, b1, b2, b3⟩ := Xb.out.four
  go_wp2_with fail
  refine (HC.out _).mono ?_
  rintro e wc4 ⟨rfl, h4⟩
  have Yb := Lib.hid (Xb.out.below h4 Xb.out.lt)
  have B4 := Lib.hid (below2 B3.out h4)
  clear b0 b1 b2 b3
  clear h4 Xb B3
  have Xb := Yb
  clear Yb
  go_upto_region 8 with fail
  have Xc := Lib.hid (has_new wc4 (cs4 C C E 0) 23)
  have Lbc := Lib.hid Xb.out.lt
  have Gc : Hid (w.heap.size ≤ wc4.heap.size) := Lib.hid B4.out.size
  have Yb := Lib.hid (Xb.out.alloc (.cells (cs4 C C E 0) 23))
  have B5 := Lib.hid (B4.out.alloc B4.out.size (.cells (cs4 C C E 0) 23))
  clear B4 Xb
  have Xb := Yb
  clear Yb
  generalize wc4.alloc (.cells (cs4 C C E 0) 23) = wv5 at *
  generalize wc4.heap.size = gc at *
  obtain ⟨b0, b1, b2, b3⟩ := Xb.out.four
  obtain ⟨c0, c1, c2, c3⟩ := Xc.out.four
  go_wp2_with fail
  refine (HD.out _).mono ?_
  rintro e wc6 ⟨rfl, h6⟩
  have Yb := Lib.hid (Xb.out.below h6 Xb.out.lt)
  have Yc := Lib.hid (Xc.out.below h6 Xc.out.lt)
  have B6 := Lib.hid (below2 B5.out h6)
  clear b0 b1 b2 b3 c0 c1 c2 c3
  clear h6 Xb Xc B5
  have Xb := Yb
  have Xc := Yc
  clear Yb Yc
  go_upto_region 9 with fail
  have Xd := Lib.hid (has_new wc6 (cs4 C C E 0) 31)
  have Lbd := Lib.hid Xb.out.lt
  have Lcd := Lib.hid Xc.out.lt
  have Gd : Hid (w.heap.size ≤ wc6.heap.size) := Lib.hid B6.out.size
  have Yb := Lib.hid (Xb.out.alloc (.cells (cs4 C C E 0) 31))
  have Yc := Lib.hid (Xc.out.alloc (.cells (cs4 C C E 0) 31))
  have B7 := Lib.hid (B6.out.alloc B6.out.size (.cells (cs4 C C E 0) 31))
  clear B6 Xb Xc
  have Xb := Yb
  have Xc := Yc
  clear Yb Yc
  generalize wc6.alloc (.cells (cs4 C C E 0) 31) = wv7 at *
  generalize wc6.heap.size = gd at *
  obtain ⟨b0, b1, b2, b3⟩ := Xb.out.four
  obtain ⟨c0, c1, c2, c3⟩ := Xc.out.four
  obtain ⟨d0, d1, d2, d3⟩ := Xd.out.four
  go_wp2_with fail
  refine (HT.out _).mono ?_
  rintro e wc8 ⟨rfl, h8⟩
  have Yb := Lib.hid (Xb.out.below h8 Xb.out.lt)
  have Yc := Lib.hid (Xc.out.below h8 Xc.out.lt)
  have Yd := Lib.hid (Xd.out.below h8 Xd.out.lt)
  have B8 := Lib.hid (below2 B7.out h8)
  clear b0 b1 b2 b3 c0 c1 c2 c3 d0 d1 d2 d3
  clear h8 Xb Xc Xd B7
  have Xb := Yb
  have Xc := Yc
  have Xd := Yd
  clear Yb Yc Yd
  go_upto_region 10 with fail
  have Xt := Lib.hid (has_new wc8 (cs4 S M K T) 23)
  have Lbt := Lib.hid Xb.out.lt
  have Lct := Lib.hid Xc.out.lt
  have Ldt := Lib.hid Xd.out.lt
  have Gt : Hid (w.heap.size ≤ wc8.heap.size) := Lib.hid B8.out.size
  have Yb := Lib.hid (Xb.out.alloc (.cells (cs4 S M K T) 23))
  have Yc := Lib.hid (Xc.out.alloc (.cells (cs4 S M K T) 23))
  have Yd := Lib.hid (Xd.out.alloc (.cells (cs4 S M K T) 23))
  have B9 := Lib.hid (B8.out.alloc B8.out.size (.cells (cs4 S M K T) 23))
  clear B8 Xb Xc Xd
  have Xb := Yb
  have Xc := Yc
  have Xd := Yd
  clear Yb Yc Yd
  generalize wc8.alloc (.cells (cs4 S M K T) 23) = wv9 at *
  generalize wc8.heap.size = gt at *
  obtain ⟨b0, b1, b2, b3⟩ := Xb.out.four
  obtain ⟨c0, c1, c2, c3⟩ := Xc.out.four
  obtain ⟨d0, d1, d2, d3⟩ := Xd.out.four
  obtain ⟨t0, t1, t2, t3⟩ := Xt.out.four
  go_wp2_with fail
  refine (ref_any S L K A _).mono ?_
  rintro e wc10 ⟨rfl, h10⟩
  have Yb := Lib.hid (Xb.out.below h10 Xb.out.lt)
  have Yc := Lib.hid (Xc.out.below h10 Xc.out.lt)
  have Yd := Lib.hid (Xd.out.below h10 Xd.out.lt)
  have Yt := Lib.hid (Xt.out.below h10 Xt.out.lt)
  have B10 := Lib.hid (below2 B9.out h10)
  clear b0 b1 b2 b3 c0 c1 c2 c3 d0 d1 d2 d3 t0 t1 t2 t3
  clear h10 Xb Xc Xd Xt B9
  have Xb := Yb
  have Xc := Yc
  have Xd := Yd
  have Xt := Yt
  clear Yb Yc Yd Yt
  obtain ⟨b0, b1, b2, b3⟩ := Xb.out.four
  obtain ⟨c0, c1, c2, c3⟩ := Xc.out.four
  obtain ⟨d0, d1, d2, d3⟩ := Xd.out.four
  obtain ⟨t0, t1, t2, t3⟩ := Xt.out.four
  go_wp2_with fail
  refine (HU.out _).mono ?_
  rintro e wc11 ⟨rfl, h11⟩
  have Yb := Lib.hid (Xb.out.below h11 Xb.out.lt)
  have Yc := Lib.hid (Xc.out.below h11 Xc.out.lt)
  have Yd := Lib.hid (Xd.out.below h11 Xd.out.lt)
  have Yt := Lib.hid (Xt.out.below h11 Xt.out.lt)
  have B11 := Lib.hid (below2 B10.out h11)
  clear b0 b1 b2 b3 c0 c1 c2 c3 d0 d1 d2 d3 t0 t1 t2 t3
  clear h11 Xb Xc Xd Xt B10
  have Xb := Yb
  have Xc := Yc
  have Xd := Yd
  have Xt := Yt
  clear Yb Yc Yd Yt
  go_upto_region 11 with fail
  have Xu := Lib.hid (has_new wc11 (cs4 S M K T) 31)
  have Lbu := Lib.hid Xb.out.lt
  have Lcu := Lib.hid Xc.out.lt
  have Ldu := Lib.hid Xd.out.lt
  have Ltu := Lib.hid Xt.out.lt
  have Gu : Hid (w.heap.size ≤ wc11.heap.size) := Lib.hid B11.out.size
  have Yb := Lib.hid (Xb.out.alloc (.cells (cs4 S M K T) 31))
  have Yc := Lib.hid (Xc.out.alloc (.cells (cs4 S M K T) 31))
  have Yd := Lib.hid (Xd.out.alloc (.cells (cs4 S M K T) 31))
  have Yt := Lib.hid (Xt.out.alloc (.cells (cs4 S M K T) 31))
  have B12 := Lib.hid (B11.out.alloc B11.out.size (.cells (cs4 S M K T) 31))
  clear B11 Xb Xc Xd Xt
  have Xb := Yb
  have Xc := Yc
  have Xd := Yd
  have Xt := Yt
  clear Yb Yc Yd Yt
  generalize wc11.alloc (.cells (cs4 S M K T) 31) = wv12 at *
  generalize wc11.heap.size = gu at *
  have K0 : TK w wv12.drew gb gc gd gt gu S L K A C E M T := ⟨B12.out.drew, Xb.out.drew, Xc.out.drew, Xd.out.drew, Xt.out.drew, Xu.out.drew⟩
  clear B12 Xb Xc Xd Xt Xu
  go_region_held3 (fun w' => w'.cell? ⟨gb, 0, none⟩ = some (.int .i64 S) ∧ w'.cell? ⟨gb, 1, none⟩ = some (.int .i64 L) ∧ w'.cell? ⟨gb, 2, none⟩ = some (.int .i64 K) ∧ w'.cell? ⟨gb, 3, none⟩ = some (.int .i64 A) ∧ w'.cell? ⟨gc, 0, none⟩ = some (.int .i64 C) ∧ w'.cell? ⟨gc, 1, none⟩ = some (.int .i64 C) ∧ w'.cell? ⟨gc, 2, none⟩ = some (.int .i64 E) ∧ w'.cell? ⟨gc, 3, none⟩ = some (.int .i64 0) ∧ w'.cell? ⟨gd, 0, none⟩ = some (.int .i64 C) ∧ w'.cell? ⟨gd, 1, none⟩ = some (.int .i64 C) ∧ w'.cell? ⟨gd, 2, none⟩ = some (.int .i64 E) ∧ w'.cell? ⟨gd, 3, none⟩ = some (.int .i64 0) ∧ w'.cell? ⟨gt, 0, none⟩ = some (.int .i64 S) ∧ w'.cell? ⟨gt, 1, none⟩ = some (.int .i64 M) ∧ w'.cell? ⟨gt, 2, none⟩ = some (.int .i64 K) ∧ w'.cell? ⟨gt, 3, none⟩ = some (.int .i64 T) ∧ w'.cell? ⟨gu, 0, none⟩ = some (.int .i64 S) ∧ w'.cell? ⟨gu, 1, none⟩ = some (.int .i64 M) ∧ w'.cell? ⟨gu, 2, none⟩ = some (.int .i64 K) ∧ w'.cell? ⟨gu, 3, none⟩ = some (.int .i64 T))
    (first | exact TK.all (by assumption))
    (first
      | (go_at_call 15; refine (right_any _ _ _ _ _).mono ?_; rintro e w1 ⟨rfl, h1⟩; first | (have hK := TK.next (by assumption) h1) | (have hK := TK.nextd (by assumption) h1))
      | (go_at_call 13; refine (ref_any _ _ _ _ _).mono ?_; rintro e w1 ⟨rfl, h1⟩; first | (have hK := TK.next (by assumption) h1) | (have hK := TK.nextd (by assumption) h1))
      | (go_at_call 16; refine (rright_any _ _ _ _ _).mono ?_; rintro e w1 ⟨rfl, h1⟩; first | (have hK := TK.next (by assumption) h1) | (have hK := TK.nextd (by assumption) h1))
      | (go_at_call 17; refine (HF.out _).mono ?_; rintro e w1 ⟨rfl, h1⟩; first | (have hK := TK.next (by assumption) h1) | (have hK := TK.nextd (by assumption) h1))
      | (go_at_call 18; refine (HG.out _).mono ?_; rintro e w1 ⟨rfl, h1⟩; first | (have hK := TK.next (by assumption) h1) | (have hK := TK.nextd (by assumption) h1)))
  go_wp2
  go_ret
  exact ⟨rfl, TK.bel (by assumption)⟩
theorem tells_walk (s l k a : Int) (o : Bool) (now : Int) (near : Bool) (s1 k1 : Int) (w : World) (_ : I64 s) (_ : I64 l) (_ : I64 k) (ha : I64 a) (hn : I64 now) (_ : I64 s1) (_ : I64 k1) :
    Calls Try.prog 3 #[sm s l k a o, .int .i64 now, .bool near, .int .i64 s1, .int .i64 k1] w fun e w' => e = .returned (.bool true) ∧ Below w.heap.size w w' := by
  obtain ⟨S, L, K, A, hA, hS⟩ := some_any s l k a o ha
  have hmod := tmod_in now 200 (by omega)
  cases near with
  | true =>
    have hN : I64 (now.tmod 200) := ⟨by omega, by omega⟩
    exact tells_true s l k a o now _ s1 k1 S L K A _ _ _ _ _ _ _ w rfl hS (fun w => new_any s1 k1 w) (fun w => rnew_any s1 k1 w) (fun w => take_any S L K A _ w hA hN) (fun w => rtake_any S L K A _ w hA hN) (fun w => fill_any S L K A _ w hA hN) (fun w => rfill_any S L K A _ w hA hN)
  | false =>
    exact tells_false s l k a o now s1 k1 S L K A _ _ _ _ _ _ _ w hS (fun w => new_any s1 k1 w) (fun w => rnew_any s1 k1 w) (fun w => take_any S L K A _ w hA hn) (fun w => rtake_any S L K A _ w hA hn) (fun w => fill_any S L K A _ w hA hn) (fun w => rfill_any S L K A _ w hA hn)
end Go.Proofs.Ytldbhikempnhjaa
