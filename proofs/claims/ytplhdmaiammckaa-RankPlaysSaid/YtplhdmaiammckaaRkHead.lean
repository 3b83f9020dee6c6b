/- The chapter's examples of ranks hold. -/
import Derived.Test.YtplhdmaiammckaaRkRk
import Derived.Test.YtplhdmaiammckaaRkDiv
namespace Go.Proofs.Ytplhdmaiammckaa
open Go.RowKit
set_option linter.unusedVariables false

abbrev S0 : Int → Option Int := fun _ => none
theorem least_two : IsLeast (upd (upd S0 5 (some 10)) 3 (some 10)) 3 10 := by
  refine ⟨upd_same _ _ _, fun k s h => ?_, by unfold I64; omega, by unfold I64; omega⟩
  unfold upd at h
  unfold Le
  simp only
  split at h
  · have := Option.some.inj h; omega
  · split at h
    · have := Option.some.inj h; omega
    · cases h
theorem least_one : IsLeast (upd (upd (upd S0 5 (some 10)) 3 (some 10)) 3 none) 5 10 := by
  refine ⟨by simp [upd], fun k s h => ?_, by unfold I64; omega, by unfold I64; omega⟩
  unfold upd at h
  unfold Le
  simp only
  split at h
  · cases h
  · rename_i h3
    split at h
    · have := Option.some.inj h; omega
    · cases h
theorem sc_13 (w : World) : Calls Try.prog 19 #[.int .i64 1, .int .i64 3] w fun e w' => e = .returned (.int .i64 333) ∧ Below w.heap.size w w' := score_low 1 3 w (by omega) (by omega) (by omega)
theorem sc_33 (w : World) : Calls Try.prog 19 #[.int .i64 3, .int .i64 3] w fun e w' => e = .returned (.int .i64 1000) ∧ Below w.heap.size w w' := score_low 3 3 w (by omega) (by omega) (by omega)
theorem sc_neg (w : World) : Calls Try.prog 19 #[.int .i64 (-1), .int .i64 3] w fun e w' => e = .returned (.int .i64 0) ∧ Below w.heap.size w w' := score_no (-1) 3 w (by omega)
theorem sc_10 (w : World) : Calls Try.prog 19 #[.int .i64 1, .int .i64 0] w fun e w' => e = .returned (.int .i64 0) ∧ Below w.heap.size w w' := score_no 1 0 w (by omega)
set_option maxRecDepth 100000 in
set_option maxHeartbeats 4000000 in
theorem ex_any (w : World) : Calls Try.prog 8 #[] w fun e w' => e = .returned (.bool true) ∧ Below w.heap.size w w' := by
  have i5 : I64 5 := by unfold I64; omega
  have i3 : I64 3 := by unfold I64; omega
  have i1 : I64 1 := by unfold I64; omega
  have i10 : I64 10 := by unfold I64; omega
  have HI := Lib.hid (And.intro i5 (And.intro i3 (And.intro i1 i10)))
  clear i5 i3 i1 i10
  go_enter Try.func8, Try.ntmps8
  go_wp2_with fail
  refine (new_rk w).mono ?_
  rintro e w1 ⟨rfl, h1, b1⟩
  generalize w.heap.size + 1 = g at *
  generalize hB : w.heap.size = B at *
  have HB := Lib.hid b1
  have H1 := Lib.hid h1
  have HBE := Lib.hid hB
  clear b1 h1 hB
  go_wp2_with fail
  refine (put_yes H1.out 5 10 HI.out.1 HI.out.2.2.2 rfl (by omega)).mono ?_
  rintro e w2 ⟨rfl, h2, k2⟩
  have H2 := Lib.hid h2
  have HB2 := Lib.hid (HB.out.trans k2.bel)
  clear h2 k2 H1 HB
  go_wp2_with fail
  refine (put_yes H2.out 3 10 HI.out.2.1 HI.out.2.2.2 (by simp [upd]) (by omega)).mono ?_
  rintro e w3 ⟨rfl, h3, k3⟩
  have H3 := Lib.hid h3
  have HB3 := Lib.hid (HB2.out.trans k3.bel)
  clear h3 k3 H2 HB2
  go_wp2_with fail
  refine (put_no H3.out 5 1 10 HI.out.1 (by simp [upd])).mono ?_
  rintro e w4 ⟨rfl, rfl⟩
  go_wp2_with fail
  refine (least_some H3.out (by omega)).mono ?_
  rintro e w4 ⟨k, s, hl, rfl, b4⟩
  obtain ⟨rfl, rfl⟩ := hl.one least_two
  have H4 := Lib.hid (H3.out.below b4)
  have HB4 := Lib.hid (HB3.out.trans (b4.mono H3.out.bl))
  clear b4 hl H3 HB3
  go_wp2_with fail
  refine (drop_yes H4.out 3 10 HI.out.2.1 (by simp [upd])).mono ?_
  rintro e w5 ⟨rfl, h5, k5⟩
  have H5 := Lib.hid h5
  have HB5 := Lib.hid (HB4.out.trans k5.bel)
  clear h5 k5 H4 HB4
  go_wp2_with fail
  refine (drop_no H5.out 3 HI.out.2.1 (by simp [upd])).mono ?_
  rintro e w6 ⟨rfl, rfl⟩
  go_wp2_with fail
  refine (least_some H5.out (by omega)).mono ?_
  rintro e w6 ⟨k, s, hl, rfl, b6⟩
  obtain ⟨rfl, rfl⟩ := hl.one least_one
  have H6 := Lib.hid (H5.out.below b6)
  have HB6 := Lib.hid (HB5.out.trans (b6.mono H5.out.bl))
  clear b6 hl H5 HB5
  go_wp2_with fail
  have hsc := score_any H6.out 5 HI.out.1
  rw [show upd (upd (upd S0 5 (some 10)) 3 (some 10)) 3 none 5 = some 10 by simp [upd]] at hsc
  refine hsc.mono ?_
  clear hsc
  rintro e w7 ⟨rfl, rfl⟩
  simp only [Option.getD_some, Option.isSome_some]
  have HL := Lib.hid (rlen_any H6.out)
  go_wp2_with fail
  refine HL.out.mono ?_
  rintro e w7 ⟨rfl, rfl⟩
  go_wp2_with fail
  refine (sc_13 _).mono ?_
  rintro e w7 ⟨rfl, b7⟩
  have HB7 := Lib.hid (HB6.out.trans (b7.mono H6.out.bl))
  have HZ7 := Lib.hid (Nat.le_trans H6.out.bl b7.size)
  clear b7 HB6 H6 HL
  go_wp2_with fail
  refine (sc_33 _).mono ?_
  rintro e w8 ⟨rfl, b8⟩
  have HB8 := Lib.hid (HB7.out.trans (b8.mono HZ7.out))
  have HZ8 := Lib.hid (Nat.le_trans HZ7.out b8.size)
  clear b8 HB7 HZ7
  go_wp2_with fail
  refine (sc_neg _).mono ?_
  rintro e w9 ⟨rfl, b9⟩
  have HB9 := Lib.hid (HB8.out.trans (b9.mono HZ8.out))
  have HZ9 := Lib.hid (Nat.le_trans HZ8.out b9.size)
  clear b9 HB8 HZ8
  go_wp2_with fail
  refine (sc_10 _).mono ?_
  rintro e w10 ⟨rfl, b10⟩
  have HB10 := Lib.hid (HB9.out.trans (b10.mono HZ9.out))
  clear b10 HB9 HZ9
  go_wp2_with fail
  refine (before_any 1 1 2 3 _).mono ?_
  rintro e w11 ⟨rfl, rfl⟩
  rw [show ltB (2, 1) (3, 1) = true from by decide]
  go_wp2
  go_ret
  exact ⟨rfl, by rw [HBE.out]; exact HB10.out⟩
end Go.Proofs.Ytplhdmaiammckaa
