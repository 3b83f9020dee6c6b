/- What each statement of layer 17 asks ahead: the chapter's examples are so. -/
import Derived.Test.YtldbhikempnhjaaBkRef2
namespace Go.Proofs.Ytldbhikempnhjaa
open Go.RowKit
set_option linter.unusedVariables false

theorem ex_take1 (w : World) : Calls Try.prog 12 #[bk 1 1 10 0, .int .i64 0] w fun e w' => e = .returned (.tuple #[bk 1 0 10 0, .bool true]) ∧ Below w.heap.size w w' :=
  take_any 1 1 10 0 0 w (by omega) (by omega)
theorem ex_take2 (w : World) : Calls Try.prog 12 #[bk 1 0 10 0, .int .i64 5] w fun e w' => e = .returned (.tuple #[bk 1 0 10 0, .bool false]) ∧ Below w.heap.size w w' :=
  take_any 1 0 10 0 5 w (by omega) (by omega)
theorem ex_take3 (w : World) : Calls Try.prog 12 #[bk 1 0 10 0, .int .i64 10] w fun e w' => e = .returned (.tuple #[bk 1 0 10 10, .bool true]) ∧ Below w.heap.size w w' :=
  take_any 1 0 10 0 10 w (by omega) (by omega)
theorem ex_fill (w : World) : Calls Try.prog 17 #[bk 1 0 10 10, .int .i64 4611686018427387904] w fun e w' => e = .returned (bk 1 1 10 4611686018427387904) ∧ Below w.heap.size w w' :=
  fill_any 1 0 10 10 4611686018427387904 w (by omega) (by omega)
theorem ex_new1 (w : World) : Calls Try.prog 10 #[.int .i64 1, .int .i64 10] w fun e w' => e = .returned (.tuple #[bk 1 1 10 0, .int .i64 0]) ∧ Below w.heap.size w w' := new_yes 1 10 w rfl
theorem ex_new2 (w : World) : Calls Try.prog 10 #[.int .i64 1, .int .i64 0] w fun e w' => e = .returned (.tuple #[bk 0 0 0 0, .int .i64 1]) ∧ Below w.heap.size w w' := new_no 1 0 w rfl

set_option maxRecDepth 100000 in
set_option maxHeartbeats 4000000 in
theorem examples_any (w : World) :
    Calls Try.prog 8 #[] w fun e w' => e = .returned (.bool true) ∧ Below w.heap.size w w' := by
  go_enter Try.func8, Try.ntmps8
  go_wp2_with fail
  refine (ex_new1 _).mono ?_
  rintro e wc1 ⟨rfl, h1⟩
  have B1 := Lib.hid (h1)
  clear h1 
  go_upto_region 2 with fail
  have Xb := Lib.hid (has_new wc1 (cs4 1 1 10 0) 23)
  have B2 := Lib.hid (B1.out.alloc B1.out.size (.cells (cs4 1 1 10 0) 23))
  clear B1 
  generalize wc1.alloc (.cells (cs4 1 1 10 0) 23) = wv2 at *
  generalize wc1.heap.size = gb at *
  obtain ⟨b0, b1, b2, b3⟩ := Xb.out.four
  go_wp2_with fail
  refine (ex_new2 _).mono ?_
  rintro e wc3 ⟨rfl, h3⟩
  have Yb := Lib.hid (Xb.out.below h3 Xb.out.lt)
  have B3 := Lib.hid (below2 B2.out h3)
  clear b0 b1 b2 b3
  clear h3 Xb B2
  have Xb := Yb
  clear Yb
  go_upto_region 3 with fail
  have Xx := Lib.hid (has_new wc3 (cs4 0 0 0 0) 23)
  have Yb := Lib.hid (Xb.out.alloc (.cells (cs4 0 0 0 0) 23))
  have B4 := Lib.hid (B3.out.alloc B3.out.size (.cells (cs4 0 0 0 0) 23))
  clear B3 Xb
  have Xb := Yb
  clear Yb
  generalize wc3.alloc (.cells (cs4 0 0 0 0) 23) = wv4 at *
  generalize wc3.heap.size = gx at *
  clear Xx
  obtain ⟨b0, b1, b2, b3⟩ := Xb.out.four
  go_wp2_with fail
  refine (ex_take1 _).mono ?_
  rintro e wc5 ⟨rfl, h5⟩
  have Yb := Lib.hid (Xb.out.below h5 Xb.out.lt)
  have B5 := Lib.hid (below2 B4.out h5)
  clear b0 b1 b2 b3
  clear h5 Xb B4
  have Xb := Yb
  clear Yb
  go_upto_region 4 with fail
  have Xc := Lib.hid (has_new wc5 (cs4 1 0 10 0) 23)
  have Yb := Lib.hid (Xb.out.alloc (.cells (cs4 1 0 10 0) 23))
  have B6 := Lib.hid (B5.out.alloc B5.out.size (.cells (cs4 1 0 10 0) 23))
  clear B5 Xb
  have Xb := Yb
  clear Yb
  generalize wc5.alloc (.cells (cs4 1 0 10 0) 23) = wv6 at *
  generalize wc5.heap.size = gc at *
  obtain ⟨b0, b1, b2, b3⟩ := Xb.out.four
  obtain ⟨c0, c1, c2, c3⟩ := Xc.out.four
  go_wp2_with fail
  refine (ex_take2 _).mono ?_
  rintro e wc7 ⟨rfl, h7⟩
  have Yb := Lib.hid (Xb.out.below h7 Xb.out.lt)
  have Yc := Lib.hid (Xc.out.below h7 Xc.out.lt)
  have B7 := Lib.hid (below2 B6.out h7)
  clear b0 b1 b2 b3 c0 c1 c2 c3
  clear h7 Xb Xc B6
  have Xb := Yb
  have Xc := Yc
  clear Yb Yc
  go_upto_region 5 with fail
  have Xd := Lib.hid (has_new wc7 (cs4 1 0 10 0) 23)
  have Yb := Lib.hid (Xb.out.alloc (.cells (cs4 1 0 10 0) 23))
  have Yc := Lib.hid (Xc.out.alloc (.cells (cs4 1 0 10 0) 23))
  have B8 := Lib.hid (B7.out.alloc B7.out.size (.cells (cs4 1 0 10 0) 23))
  clear B7 Xb Xc
  have Xb := Yb
  have Xc := Yc
  clear Yb Yc
  generalize wc7.alloc (.cells (cs4 1 0 10 0) 23) = wv8 at *
  generalize wc7.heap.size = gd at *
  clear Xc
  obtain ⟨b0, b1, b2, b3⟩ := Xb.out.four
  obtain ⟨d0, d1, d2, d3⟩ := Xd.out.four
  go_wp2_with fail
  refine (ex_take3 _).mono ?_
  rintro e wc9 ⟨rfl, h9⟩
  have Yb := Lib.hid (Xb.out.below h9 Xb.out.lt)
  have Yd := Lib.hid (Xd.out.below h9 Xd.out.lt)
  have B9 := Lib.hid (below2 B8.out h9)
  clear b0 b1 b2 b3 d0 d1 d2 d3
  clear h9 Xb Xd B8
  have Xb := Yb
  have Xd := Yd
  clear Yb Yd
  go_upto_region 6 with fail
  have Xg := Lib.hid (has_new wc9 (cs4 1 0 10 10) 23)
  have Yb := Lib.hid (Xb.out.alloc (.cells (cs4 1 0 10 10) 23))
  have Yd := Lib.hid (Xd.out.alloc (.cells (cs4 1 0 10 10) 23))
  have B10 := Lib.hid (B9.out.alloc B9.out.size (.cells (cs4 1 0 10 10) 23))
  clear B9 Xb Xd
  have Xb := Yb
  have Xd := Yd
  clear Yb Yd
  generalize wc9.alloc (.cells (cs4 1 0 10 10) 23) = wv10 at *
  generalize wc9.heap.size = gg at *
  obtain ⟨b0, b1, b2, b3⟩ := Xb.out.four
  obtain ⟨d0, d1, d2, d3⟩ := Xd.out.four
  obtain ⟨g0, g1, g2, g3⟩ := Xg.out.four
  go_wp2_with fail
  refine (ex_fill _).mono ?_
  rintro e wc11 ⟨rfl, h11⟩
  have Yb := Lib.hid (Xb.out.below h11 Xb.out.lt)
  have Yd := Lib.hid (Xd.out.below h11 Xd.out.lt)
  have Yg := Lib.hid (Xg.out.below h11 Xg.out.lt)
  have B11 := Lib.hid (below2 B10.out h11)
  clear b0 b1 b2 b3 d0 d1 d2 d3 g0 g1 g2 g3
  clear h11 Xb Xd Xg B10
  have Xb := Yb
  have Xd := Yd
  have Xg := Yg
  clear Yb Yd Yg
  go_upto_region 7 with fail
  have Xh := Lib.hid (has_new wc11 (cs4 1 1 10 4611686018427387904) 23)
  have Yb := Lib.hid (Xb.out.alloc (.cells (cs4 1 1 10 4611686018427387904) 23))
  have Yd := Lib.hid (Xd.out.alloc (.cells (cs4 1 1 10 4611686018427387904) 23))
  have Yg := Lib.hid (Xg.out.alloc (.cells (cs4 1 1 10 4611686018427387904) 23))
  have B12 := Lib.hid (B11.out.alloc B11.out.size (.cells (cs4 1 1 10 4611686018427387904) 23))
  clear B11 Xb Xd Xg
  have Xb := Yb
  have Xd := Yd
  have Xg := Yg
  clear Yb Yd Yg
  generalize wc11.alloc (.cells (cs4 1 1 10 4611686018427387904) 23) = wv12 at *
  generalize wc11.heap.size = gh at *
  obtain ⟨b0, b1, b2, b3⟩ := Xb.out.four
  obtain ⟨d0, d1, d2, d3⟩ := Xd.out.four
  obtain ⟨g0, g1, g2, g3⟩ := Xg.out.four
  obtain ⟨h0, h1, h2, h3⟩ := Xh.out.four
  go_wp2_with fail
  refine (right_any 1 1 10 0 _).mono ?_
  rintro e wc13 ⟨rfl, h13⟩
  have Yb := Lib.hid (Xb.out.below h13 Xb.out.lt)
  have Yd := Lib.hid (Xd.out.below h13 Xd.out.lt)
  have Yg := Lib.hid (Xg.out.below h13 Xg.out.lt)
  have Yh := Lib.hid (Xh.out.below h13 Xh.out.lt)
  have B13 := Lib.hid (below2 B12.out h13)
  clear b0 b1 b2 b3 d0 d1 d2 d3 g0 g1 g2 g3 h0 h1 h2 h3
  clear h13 Xb Xd Xg Xh B12
  have Xb := Yb
  have Xd := Yd
  have Xg := Yg
  have Xh := Yh
  clear Yb Yd Yg Yh
  rw [show rB 1 1 10 = true by decide]
  obtain ⟨b0, b1, b2, b3⟩ := Xb.out.four
  obtain ⟨d0, d1, d2, d3⟩ := Xd.out.four
  obtain ⟨g0, g1, g2, g3⟩ := Xg.out.four
  obtain ⟨h0, h1, h2, h3⟩ := Xh.out.four
  go_wp2_with fail
  refine (right_any 0 1 1 0 _).mono ?_
  rintro e wc14 ⟨rfl, h14⟩
  have Yb := Lib.hid (Xb.out.below h14 Xb.out.lt)
  have Yd := Lib.hid (Xd.out.below h14 Xd.out.lt)
  have Yg := Lib.hid (Xg.out.below h14 Xg.out.lt)
  have Yh := Lib.hid (Xh.out.below h14 Xh.out.lt)
  have B14 := Lib.hid (below2 B13.out h14)
  clear b0 b1 b2 b3 d0 d1 d2 d3 g0 g1 g2 g3 h0 h1 h2 h3
  clear h14 Xb Xd Xg Xh B13
  have Xb := Yb
  have Xd := Yd
  have Xg := Yg
  have Xh := Yh
  clear Yb Yd Yg Yh
  rw [show rB 0 1 1 = false by decide]
  go_wp2
  go_ret
  exact ⟨rfl, B14.out⟩
end Go.Proofs.Ytldbhikempnhjaa
