/- Layer 8: the chapter's examples, walked. -/
import Derived.Test.YtbhjimlikffalaaDoorVaMade
namespace Go.Proofs.YtbhjimlikffalaaDoor
open Go.RowKit
set_option linter.unusedVariables false

theorem holds_at {N : Nat} {w : World} (t : ET) (b : Bool) (hb : holdsV [] t = b) (hin : t.In w) (hT : Tabs8 w) : Calls Tryd.prog 34 #[t.val, .slice none 0 0] w fun e w' => e = .returned (.bool b) ∧ Below w.heap.size w w' := by
  have := holds_any nil64 t w hin hT (Bds.nil w)
  rw [hb] at this
  exact this
set_option maxHeartbeats 8000000 in
theorem ex8_any (w : World) (hT : Tabs8 w) : Calls Tryd.prog 14 #[] w fun e w' => e = .returned (.bool true) ∧ Below w.heap.size w w' := by
  obtain ⟨hb, be⟩ := exB_bds w
  have HT := Lib.hid (hT.below be)
  have HB := Lib.hid hb
  have HE := Lib.hid be
  clear hT hb be
  go_enter Tryd.func14, Tryd.ntmps14
  go_wp2_with fail
  have h1 := look_any _ _ _ [97] [121] _ HB.out
  rw [look_x1] at h1
  refine h1.mono ?_
  clear h1
  rw [two]
  rintro e w1 ⟨rfl, b1⟩
  go_wp2_with fail
  have h2 := look_any _ _ _ [97] [120] _ (HB.out.below b1)
  rw [look_x2] at h2
  refine h2.mono ?_
  clear h2
  rw [two]
  rintro e w2 ⟨rfl, b2⟩
  have b12 := b1.trans (b2.mono b1.size)
  obtain ⟨pk0, be0⟩ := exT_pk w2 (HT.out.below b12)
  have HB0 := Lib.hid ((HE.out.trans (b12.mono HE.out.size)).trans (be0.mono (Nat.le_trans HE.out.size b12.size)))
  have HK := Lib.hid pk0
  clear b1 b2 b12 pk0 be0 HB HT HE
  go_wp2_with fail
  have ha : Calls Tryd.prog 19 #[.int .i64 9223372036854775807, .int .i64 1] (exT w2) fun e w' => e = .returned (.tuple #[.int .i64 0, .bool false]) ∧ exT w2 = w' := add_any _ _ (by unfold in64; decide) (by unfold in64; decide) _
  refine ha.mono ?_
  clear ha
  rintro e w' ⟨rfl, rfl⟩
  go_wp2_with fail
  have ha : Calls Tryd.prog 23 #[.int .i64 (-4611686018427387904), .int .i64 2] (exT w2) fun e w' => e = .returned (.tuple #[.int .i64 (-9223372036854775808), .bool true]) ∧ exT w2 = w' := mul_any _ _ (by unfold in64; decide) (by unfold in64; decide) _
  refine ha.mono ?_
  clear ha
  rintro e w' ⟨rfl, rfl⟩
  go_wp2_with fail
  have ha : Calls Tryd.prog 23 #[.int .i64 4611686018427387904, .int .i64 2] (exT w2) fun e w' => e = .returned (.tuple #[.int .i64 0, .bool false]) ∧ exT w2 = w' := mul_any _ _ (by unfold in64; decide) (by unfold in64; decide) _
  refine ha.mono ?_
  clear ha
  rintro e w' ⟨rfl, rfl⟩
  go_wp2_with fail
  have ha : Calls Tryd.prog 25 #[.int .i64 (-7), .int .i64 2] (exT w2) fun e w' => e = .returned (.tuple #[.int .i64 (-3), .bool true]) ∧ exT w2 = w' := div_any _ _ (by unfold in64; decide) _
  refine ha.mono ?_
  clear ha
  rintro e w' ⟨rfl, rfl⟩
  go_wp2_with fail
  have ha : Calls Tryd.prog 27 #[.int .i64 (-9223372036854775808), .int .i64 (-1)] (exT w2) fun e w' => e = .returned (.tuple #[.int .i64 0, .bool false]) ∧ exT w2 = w' := rem_any _ _ (by unfold in64; decide) (by unfold in64; decide) _
  refine ha.mono ?_
  clear ha
  rintro e w' ⟨rfl, rfl⟩
  generalize exT w2 = W at HB0 HK ⊢
  obtain ⟨N, hN⟩ : ∃ N, w2.heap.size = N := ⟨_, rfl⟩
  rw [hN] at HK ⊢
  clear hN
  obtain ⟨c0, c1, c2, c3, c4, c5⟩ : six W (N + 1 + 1 + 1 + 1 + 1 + 1 + 1 + 1) 3 [124, 124] 0 [] [] (some ⟨N + 1 + 1 + 1 + 1 + 1 + 1 + 1, 0, none⟩) 2 2 := six_has HK.out.ho
  go_wp2_with fail
  have hc : Calls Tryd.prog 29 #[(orT N).val, .slice none 0 0] W fun e w' => e = .returned (.tuple #[.int .i64 1, .bool true]) ∧ Below W.heap.size W w' := by
    have := eval_any nil64 (orT N) W HK.out.or_ HK.out.tabs (Bds.nil W)
    rw [ev_or] at this
    exact this
  clear c0 c1 c2 c3 c4 c5
  refine hc.mono ?_
  clear hc
  rintro e w3 ⟨rfl, b3⟩
  have HK3 := Lib.hid (HK.out.below b3)
  have HB3 := Lib.hid (HB0.out.trans (b3.mono HB0.out.size))
  clear b3 HK HB0
  obtain ⟨c0, c1, c2, c3, c4, c5⟩ : six w3 (N + 1 + 1 + 1 + 1) 3 [61, 61] 0 [] [] (some ⟨N + 1 + 1 + 1, 0, none⟩) 2 2 := six_has HK3.out.hi
  go_wp2_with fail
  have hc := holds_at (N := N) (isT N) _ (holds_is N) HK3.out.is_ HK3.out.tabs
  clear c0 c1 c2 c3 c4 c5
  refine hc.mono ?_
  clear hc
  rintro e w4 ⟨rfl, b4⟩
  have HK4 := Lib.hid (HK3.out.below b4)
  have HB4 := Lib.hid (HB3.out.trans (b4.mono HB3.out.size))
  clear b4 HK3 HB3
  obtain ⟨c0, c1, c2, c3, c4, c5⟩ : six w4 (N + 1 + 1 + 1 + 1 + 1 + 1 + 1 + 1 + 1 + 1) 2 [33] 0 [] [] (some ⟨N + 1 + 1 + 1 + 1 + 1 + 1 + 1 + 1 + 1, 0, none⟩) 1 1 := six_has HK4.out.hn
  go_wp2_with fail
  have hc := holds_at (N := N) (notT N) _ (holds_not N) HK4.out.not_ HK4.out.tabs
  clear c0 c1 c2 c3 c4 c5
  refine hc.mono ?_
  clear hc
  rintro e w5 ⟨rfl, b5⟩
  have HK5 := Lib.hid (HK4.out.below b5)
  have HB5 := Lib.hid (HB4.out.trans (b5.mono HB4.out.size))
  clear b5 HK4 HB4
  obtain ⟨c0, c1, c2, c3, c4, c5⟩ : six w5 (N + 1 + 1 + 1 + 1 + 1 + 1 + 1 + 1) 3 [124, 124] 0 [] [] (some ⟨N + 1 + 1 + 1 + 1 + 1 + 1 + 1, 0, none⟩) 2 2 := six_has HK5.out.ho
  go_wp2_with fail
  have hc := holds_at (N := N) (orT N) _ (holds_or N) HK5.out.or_ HK5.out.tabs
  clear c0 c1 c2 c3 c4 c5
  refine hc.mono ?_
  clear hc
  rintro e w6 ⟨rfl, b6⟩
  have HK6 := Lib.hid (HK5.out.below b6)
  have HB6 := Lib.hid (HB5.out.trans (b6.mono HB5.out.size))
  clear b6 HK5 HB5
  obtain ⟨c0, c1, c2, c3, c4, c5⟩ : six w6 N 0 [] 1 [] [] none 0 0 := six_has HK6.out.h1
  go_wp2_with fail
  have hc := holds_at (N := N) (nm 1) _ holds_one (in_nm w6 1 (by omega) (by omega)) HK6.out.tabs
  clear c0 c1 c2 c3 c4 c5
  refine hc.mono ?_
  clear hc
  rintro e w7 ⟨rfl, b7⟩
  have HB7 := Lib.hid (HB6.out.trans (b7.mono HB6.out.size))
  clear b7 HK6 HB6
  go_wp2_with fail
  go_ret
  exact ⟨rfl, HB7.out⟩
end Go.Proofs.YtbhjimlikffalaaDoor
