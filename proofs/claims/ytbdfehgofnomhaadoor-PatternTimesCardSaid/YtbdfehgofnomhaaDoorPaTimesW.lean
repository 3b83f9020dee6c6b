/- Layer 9: PatternTimes' walk. -/
import Derived.Test.YtbdfehgofnomhaaDoorPaExT
namespace Go.Proofs.YtbdfehgofnomhaaDoor
open Go.RowKit
set_option linter.unusedVariables false

abbrev tI (k lo hi : Int) : IT := .mk k [65] [97] none 0 [] lo hi none 0 [] []
theorem right_tI1 (lo hi : Int) : rightIs [tI 1 lo hi] = decide (1 ≤ lo ∧ lo ≤ hi ∧ hi ≤ 4) := by
  unfold rightIs
  rw [rightLs_cons, rightLs, rightI]
  have e : nameB [65] = true := by kernel_rfl
  have e2 : nameB [97] = true := by kernel_rfl
  simp [e, e2]
theorem right_tI0 (lo hi : Int) : rightIs [tI 0 lo hi] = decide (lo = 0 ∧ hi = 0) := by
  unfold rightIs
  rw [rightLs_cons, rightLs, rightI]
  have e : nameB [65] = true := by kernel_rfl
  have e2 : nameB [97] = true := by kernel_rfl
  simp [e, e2]
theorem its_tI {w : World} {q : Nat} {k lo hi : Int} (h : Has w q 42 (csI (tI k lo hi))) (hk : 0 ≤ k ∧ k ≤ 3) (hl : -9223372036854775808 ≤ lo ∧ lo ≤ 9223372036854775807) (hh : -9223372036854775808 ≤ hi ∧ hi ≤ 9223372036854775807) : Its w (some ⟨q, 0, none⟩) [tI k lo hi] := fun j hj => by
  obtain rfl : j = 0 := by simpa using hj
  exact ⟨⟨q, 0, rfl, h.cell 0, h.cell 1, h.cell 2, h.cell 3, h.cell 4, h.cell 5, h.cell 6⟩,
    .of ⟨⟨by omega, by omega⟩, hl, hh, by simp, by simp, ⟨fun _ => rfl, Nat.le_refl _, Nat.zero_le _⟩, ⟨fun _ => rfl, Nat.le_refl _, Nat.zero_le _⟩⟩ (fun j hj => by simp at hj) rfl (fun j hj => by simp at hj)⟩
theorem tmod7 (a : Int) : -7 < a.tmod 7 ∧ a.tmod 7 < 7 := by
  have h : (a.tmod 7).natAbs < 7 := by rw [Int.natAbs_tmod]; exact Nat.mod_lt _ (by decide)
  omega
set_option maxRecDepth 100000 in
set_option maxHeartbeats 8000000 in
theorem times_any (low high : Int) (near : Bool) (hl1 : -9223372036854775808 ≤ low) (hl2 : low ≤ 9223372036854775807) (hh1 : -9223372036854775808 ≤ high) (hh2 : high ≤ 9223372036854775807) (w : World) (hT : Tabs w) :
    Calls Tryd.prog 5 #[.int .i64 low, .int .i64 high, .bool near] w fun e w' => e = .returned (.bool true) ∧ Below w.heap.size w w' := by
  have HE := Lib.hid (exT_any w hT)
  have HT := Lib.hid hT
  clear hT
  go_enter Tryd.func5, Tryd.ntmps5
  go_wp2_with fail
  refine HE.out.mono ?_
  rintro e w1 ⟨rfl, b1⟩
  have HB1 := Lib.hid b1
  have HT1 := Lib.hid (HT.out.below b1)
  clear HE b1
  cases near
  · obtain ⟨lo, hlo⟩ : ∃ lo, low = lo := ⟨_, rfl⟩
    obtain ⟨hi, hhi⟩ : ∃ hi, high = hi := ⟨_, rfl⟩
    subst hlo hhi
    have hbl : -9223372036854775808 ≤ low ∧ low ≤ 9223372036854775807 := ⟨hl1, hl2⟩
    have hbh : -9223372036854775808 ≤ high ∧ high ≤ 9223372036854775807 := ⟨hh1, hh2⟩
    have HBL := Lib.hid hbl
    have HBH := Lib.hid hbh
    clear hbl hbh
    go_upto_region 8 with fail
    obtain ⟨W2, hW2⟩ : ∃ W2, w1.alloc (.cells (csI (tI 1 low high)) 42) = W2 := ⟨_, rfl⟩
    have b2 : Below w1.heap.size w1 W2 := by rw [← hW2]; exact step1 _ _
    have h2 : Has W2 w1.heap.size 42 (csI (tI 1 low high)) := by rw [← hW2]; exact has_at rfl rfl
    have hW2' : w1.alloc (.cells #[.int .i64 1, .string { data := #[65] }, .string { data := #[97] }, .slice none 0 0, .int .i64 low, .int .i64 high, .slice none 0 0] 42) = W2 := hW2
    rw [hW2']
    clear hW2 hW2'
    obtain ⟨y0, y1, y2, y3, y4, y5, y6⟩ := seven_has h2
    go_upto_region 9 with fail
    clear y0 y1 y2 y3 y4 y5 y6
    obtain ⟨W3, hW3⟩ : ∃ W3, W2.alloc (.cells (csI (tI 1 low high)) 42) = W3 := ⟨_, rfl⟩
    have b3 : Below W2.heap.size W2 W3 := by rw [← hW3]; exact step1 _ _
    have h3 : Has W3 W2.heap.size 42 (csI (tI 1 low high)) := by rw [← hW3]; exact has_at rfl rfl
    have hW3' : W2.alloc (.cells #[.int .i64 1, .string (str [65]), .string (str [97]), .slice none 0 0, .int .i64 low, .int .i64 high, .slice none 0 0] 42) = W3 := hW3
    change Code.wp _ _ _ _ (W2.alloc (.cells (csI (tI 1 low high)) 42))
    rw [hW3]
    clear hW3 hW3'
    have hne : w1.heap.size ≠ W2.heap.size := by have := h2.lt; omega
    obtain ⟨W4, hW4⟩ : ∃ W4, W3.setCell ⟨W2.heap.size, 0, none⟩ (.int .i64 0) = W4 := ⟨_, rfl⟩
    have h4 : Has W4 W2.heap.size 42 (csI (tI 0 low high)) := by rw [← hW4]; exact h3.put 0 (.int .i64 0)
    have h41 : Has W4 w1.heap.size 42 (csI (tI 1 low high)) := by rw [← hW4]; exact hasS (h2.below b3 h2.lt) _ _ hne
    have b4 : Below w1.heap.size w1 W4 := by rw [← hW4]; exact (b2.trans (b3.mono b2.size)).setCell (p := ⟨W2.heap.size, 0, none⟩) b2.size _
    have HT4 := Lib.hid (HT1.out.below b4)
    have HB4 := Lib.hid b4
    have H4 := Lib.hid h4
    have H41 := Lib.hid h41
    have f0 : W3.frozen? ⟨W2.heap.size, 0, none⟩ = false := h3.free 0
    have z0 : W3.cell? ⟨W2.heap.size, 0, none⟩ = some (.int .i64 1) := h3.cell 0
    clear h2 h3 h4 h41 b2 b3 b4
    go_upto_region 10 with fail
    clear hW4 f0 z0
    obtain ⟨y0, y1, y2, y3, y4, y5, y6⟩ := seven_has H41.out
    obtain ⟨v0, v1, v2, v3, v4, v5, v6⟩ := seven_has H4.out
    obtain ⟨q1, hq1⟩ : ∃ q1, w1.heap.size = q1 := ⟨_, rfl⟩
    obtain ⟨q2, hq2⟩ : ∃ q2, W2.heap.size = q2 := ⟨_, rfl⟩
    rw [hq1] at y0 y1 y2 y3 y4 y5 y6 ⊢
    rw [hq2] at v0 v1 v2 v3 v4 v5 v6 H4 ⊢
    clear hq1 hq2 hne
    obtain ⟨W5, hW5⟩ : ∃ W5, W4.alloc (.cells (csI (tI 1 low high)) 42) = W5 := ⟨_, rfl⟩
    have b5 : Below W4.heap.size W4 W5 := by rw [← hW5]; exact step1 _ _
    have h5 : Has W5 W4.heap.size 42 (csI (tI 1 low high)) := by rw [← hW5]; exact has_at rfl rfl
    have HW5 := Lib.hid hW5
    have hc := rightL_any [tI 1 low high] (some ⟨W4.heap.size, 0, none⟩) 1 W5 (by simp) (its_tI h5 (by omega) HBL.out HBH.out) (HT4.out.below b5).1
    rw [right_tI1] at hc
    have HC := Lib.hid hc
    have HB5 := Lib.hid b5
    have V := Lib.hid (fun (u : World) (hb : Below W5.heap.size W5 u) => (H4.out.below b5 H4.out.lt).below hb (Nat.lt_of_lt_of_le H4.out.lt b5.size))
    clear hc b5 h5 hW5 v0 v1 v2 v3 v4 v5 v6
    have hor : (1 ≤ low ∧ low ≤ high ∧ high ≤ 4) ∨ (1 ≤ low ∧ low ≤ high ∧ ¬ high ≤ 4) ∨ (1 ≤ low ∧ ¬ low ≤ high) ∨ (¬ 1 ≤ low ∧ low = 0 ∧ high = 0) ∨ (¬ 1 ≤ low ∧ low = 0 ∧ ¬ high = 0) ∨ (¬ 1 ≤ low ∧ ¬ low = 0) := by omega
    rcases hor with ⟨k0, k1, k2⟩ | ⟨k0, k1, k2⟩ | ⟨k0, k1⟩ | ⟨k0, k1, k2⟩ | ⟨k0, k1, k2⟩ | ⟨k0, k1⟩
    · have d0 : decide (1 ≤ low) = true := by simp; omega
      have d1 : decide (low ≤ high) = true := by simp; omega
      have d2 : decide (high ≤ 4) = true := by simp; omega
      have d3 : (low == 0) = false := by simp; omega
      have e1 : decide (1 ≤ low ∧ low ≤ high ∧ high ≤ 4) = true := by simp; omega
      have HE0 : Hid (decide (low = 0 ∧ high = 0) = false) := Lib.hid (by simp; omega)
      rw [e1] at HC
      clear e1 k0 k1 k2
      go_wp2_with fail
      change Calls _ _ _ (W4.alloc (.cells (csI (tI 1 low high)) 42)) _
      rw [HW5.out]
      refine HC.out.mono ?_
      rintro e w6 ⟨rfl, b6⟩
      obtain ⟨v0, v1, v2, v3, v4, v5, v6⟩ := seven_has (V.out w6 b6)
      obtain ⟨W7, hW7⟩ : ∃ W7, w6.alloc (.cells (csI (tI 0 low high)) 42) = W7 := ⟨_, rfl⟩
      have b7 : Below w6.heap.size w6 W7 := by rw [← hW7]; exact step1 _ _
      have h7 : Has W7 w6.heap.size 42 (csI (tI 0 low high)) := by rw [← hW7]; exact has_at rfl rfl
      have HW7 := Lib.hid hW7
      have hc2 := rightL_any [tI 0 low high] (some ⟨w6.heap.size, 0, none⟩) 1 W7 (by simp) (its_tI h7 (by omega) HBL.out HBH.out) (((HT4.out.below HB5.out).below b6).below b7).1
      rw [right_tI0, HE0.out] at hc2
      have HC2 := Lib.hid hc2
      have HB7 := Lib.hid ((HB5.out.trans (b6.mono HB5.out.size)).trans (b7.mono (Nat.le_trans HB5.out.size b6.size)))
      clear hc2 h7 hW7 b7 b6
      go_wp2_with fail
      change Calls _ _ _ (w6.alloc (.cells (csI (tI 0 low high)) 42)) _
      rw [HW7.out]
      refine HC2.out.mono ?_
      rintro e w8 ⟨rfl, b8⟩
      have HB8 := Lib.hid b8
      clear b8
      go_wp2_with fail
      go_ret
      exact ⟨rfl, HB1.out.trans ((HB4.out.trans ((HB7.out.trans (HB8.out.mono HB7.out.size)).mono HB4.out.size)).mono HB1.out.size)⟩
    · have d0 : decide (1 ≤ low) = true := by simp; omega
      have d1 : decide (low ≤ high) = true := by simp; omega
      have d2 : decide (high ≤ 4) = false := by simp; omega
      have d3 : (low == 0) = false := by simp; omega
      have e1 : decide (1 ≤ low ∧ low ≤ high ∧ high ≤ 4) = false := by simp; omega
      have HE0 : Hid (decide (low = 0 ∧ high = 0) = false) := Lib.hid (by simp; omega)
      rw [e1] at HC
      clear e1 k0 k1 k2
      go_wp2_with fail
      change Calls _ _ _ (W4.alloc (.cells (csI (tI 1 low high)) 42)) _
      rw [HW5.out]
      refine HC.out.mono ?_
      rintro e w6 ⟨rfl, b6⟩
      obtain ⟨v0, v1, v2, v3, v4, v5, v6⟩ := seven_has (V.out w6 b6)
      obtain ⟨W7, hW7⟩ : ∃ W7, w6.alloc (.cells (csI (tI 0 low high)) 42) = W7 := ⟨_, rfl⟩
      have b7 : Below w6.heap.size w6 W7 := by rw [← hW7]; exact step1 _ _
      have h7 : Has W7 w6.heap.size 42 (csI (tI 0 low high)) := by rw [← hW7]; exact has_at rfl rfl
      have HW7 := Lib.hid hW7
      have hc2 := rightL_any [tI 0 low high] (some ⟨w6.heap.size, 0, none⟩) 1 W7 (by simp) (its_tI h7 (by omega) HBL.out HBH.out) (((HT4.out.below HB5.out).below b6).below b7).1
      rw [right_tI0, HE0.out] at hc2
      have HC2 := Lib.hid hc2
      have HB7 := Lib.hid ((HB5.out.trans (b6.mono HB5.out.size)).trans (b7.mono (Nat.le_trans HB5.out.size b6.size)))
      clear hc2 h7 hW7 b7 b6
      go_wp2_with fail
      change Calls _ _ _ (w6.alloc (.cells (csI (tI 0 low high)) 42)) _
      rw [HW7.out]
      refine HC2.out.mono ?_
      rintro e w8 ⟨rfl, b8⟩
      have HB8 := Lib.hid b8
      clear b8
      go_wp2_with fail
      go_ret
      exact ⟨rfl, HB1.out.trans ((HB4.out.trans ((HB7.out.trans (HB8.out.mono HB7.out.size)).mono HB4.out.size)).mono HB1.out.size)⟩
    · have d0 : decide (1 ≤ low) = true := by simp; omega
      have d1 : decide (low ≤ high) = false := by simp; omega
      have d2 : (low == 0) = false := by simp; omega
      have e1 : decide (1 ≤ low ∧ low ≤ high ∧ high ≤ 4) = false := by simp; omega
      have HE0 : Hid (decide (low = 0 ∧ high = 0) = false) := Lib.hid (by simp; omega)
      rw [e1] at HC
      clear e1 k0 k1
      go_wp2_with fail
      change Calls _ _ _ (W4.alloc (.cells (csI (tI 1 low high)) 42)) _
      rw [HW5.out]
      refine HC.out.mono ?_
      rintro e w6 ⟨rfl, b6⟩
      obtain ⟨v0, v1, v2, v3, v4, v5, v6⟩ := seven_has (V.out w6 b6)
      obtain ⟨W7, hW7⟩ : ∃ W7, w6.alloc (.cells (csI (tI 0 low high)) 42) = W7 := ⟨_, rfl⟩
      have b7 : Below w6.heap.size w6 W7 := by rw [← hW7]; exact step1 _ _
      have h7 : Has W7 w6.heap.size 42 (csI (tI 0 low high)) := by rw [← hW7]; exact has_at rfl rfl
      have HW7 := Lib.hid hW7
      have hc2 := rightL_any [tI 0 low high] (some ⟨w6.heap.size, 0, none⟩) 1 W7 (by simp) (its_tI h7 (by omega) HBL.out HBH.out) (((HT4.out.below HB5.out).below b6).below b7).1
      rw [right_tI0, HE0.out] at hc2
      have HC2 := Lib.hid hc2
      have HB7 := Lib.hid ((HB5.out.trans (b6.mono HB5.out.size)).trans (b7.mono (Nat.le_trans HB5.out.size b6.size)))
      clear hc2 h7 hW7 b7 b6
      go_wp2_with fail
      change Calls _ _ _ (w6.alloc (.cells (csI (tI 0 low high)) 42)) _
      rw [HW7.out]
      refine HC2.out.mono ?_
      rintro e w8 ⟨rfl, b8⟩
      have HB8 := Lib.hid b8
      clear b8
      go_wp2_with fail
      go_ret
      exact ⟨rfl, HB1.out.trans ((HB4.out.trans ((HB7.out.trans (HB8.out.mono HB7.out.size)).mono HB4.out.size)).mono HB1.out.size)⟩
    · have d0 : decide (1 ≤ low) = false := by simp; omega
      have d1 : (low == 0) = true := by simp; omega
      have d2 : (high == 0) = true := by simp; omega
      have e1 : decide (1 ≤ low ∧ low ≤ high ∧ high ≤ 4) = false := by simp; omega
      have HE0 : Hid (decide (low = 0 ∧ high = 0) = true) := Lib.hid (by simp; omega)
      rw [e1] at HC
      clear e1 k0 k1 k2
      go_wp2_with fail
      change Calls _ _ _ (W4.alloc (.cells (csI (tI 1 low high)) 42)) _
      rw [HW5.out]
      refine HC.out.mono ?_
      rintro e w6 ⟨rfl, b6⟩
      obtain ⟨v0, v1, v2, v3, v4, v5, v6⟩ := seven_has (V.out w6 b6)
      obtain ⟨W7, hW7⟩ : ∃ W7, w6.alloc (.cells (csI (tI 0 low high)) 42) = W7 := ⟨_, rfl⟩
      have b7 : Below w6.heap.size w6 W7 := by rw [← hW7]; exact step1 _ _
      have h7 : Has W7 w6.heap.size 42 (csI (tI 0 low high)) := by rw [← hW7]; exact has_at rfl rfl
      have HW7 := Lib.hid hW7
      have hc2 := rightL_any [tI 0 low high] (some ⟨w6.heap.size, 0, none⟩) 1 W7 (by simp) (its_tI h7 (by omega) HBL.out HBH.out) (((HT4.out.below HB5.out).below b6).below b7).1
      rw [right_tI0, HE0.out] at hc2
      have HC2 := Lib.hid hc2
      have HB7 := Lib.hid ((HB5.out.trans (b6.mono HB5.out.size)).trans (b7.mono (Nat.le_trans HB5.out.size b6.size)))
      clear hc2 h7 hW7 b7 b6
      go_wp2_with fail
      change Calls _ _ _ (w6.alloc (.cells (csI (tI 0 low high)) 42)) _
      rw [HW7.out]
      refine HC2.out.mono ?_
      rintro e w8 ⟨rfl, b8⟩
      have HB8 := Lib.hid b8
      clear b8
      go_wp2_with fail
      go_ret
      exact ⟨rfl, HB1.out.trans ((HB4.out.trans ((HB7.out.trans (HB8.out.mono HB7.out.size)).mono HB4.out.size)).mono HB1.out.size)⟩
    · have d0 : decide (1 ≤ low) = false := by simp; omega
      have d1 : (low == 0) = true := by simp; omega
      have d2 : (high == 0) = false := by simp; omega
      have e1 : decide (1 ≤ low ∧ low ≤ high ∧ high ≤ 4) = false := by simp; omega
      have HE0 : Hid (decide (low = 0 ∧ high = 0) = false) := Lib.hid (by simp; omega)
      rw [e1] at HC
      clear e1 k0 k1 k2
      go_wp2_with fail
      change Calls _ _ _ (W4.alloc (.cells (csI (tI 1 low high)) 42)) _
      rw [HW5.out]
      refine HC.out.mono ?_
      rintro e w6 ⟨rfl, b6⟩
      obtain ⟨v0, v1, v2, v3, v4, v5, v6⟩ := seven_has (V.out w6 b6)
      obtain ⟨W7, hW7⟩ : ∃ W7, w6.alloc (.cells (csI (tI 0 low high)) 42) = W7 := ⟨_, rfl⟩
      have b7 : Below w6.heap.size w6 W7 := by rw [← hW7]; exact step1 _ _
      have h7 : Has W7 w6.heap.size 42 (csI (tI 0 low high)) := by rw [← hW7]; exact has_at rfl rfl
      have HW7 := Lib.hid hW7
      have hc2 := rightL_any [tI 0 low high] (some ⟨w6.heap.size, 0, none⟩) 1 W7 (by simp) (its_tI h7 (by omega) HBL.out HBH.out) (((HT4.out.below HB5.out).below b6).below b7).1
      rw [right_tI0, HE0.out] at hc2
      have HC2 := Lib.hid hc2
      have HB7 := Lib.hid ((HB5.out.trans (b6.mono HB5.out.size)).trans (b7.mono (Nat.le_trans HB5.out.size b6.size)))
      clear hc2 h7 hW7 b7 b6
      go_wp2_with fail
      change Calls _ _ _ (w6.alloc (.cells (csI (tI 0 low high)) 42)) _
      rw [HW7.out]
      refine HC2.out.mono ?_
      rintro e w8 ⟨rfl, b8⟩
      have HB8 := Lib.hid b8
      clear b8
      go_wp2_with fail
      go_ret
      exact ⟨rfl, HB1.out.trans ((HB4.out.trans ((HB7.out.trans (HB8.out.mono HB7.out.size)).mono HB4.out.size)).mono HB1.out.size)⟩
    · have d0 : decide (1 ≤ low) = false := by simp; omega
      have d1 : (low == 0) = false := by simp; omega
      have e1 : decide (1 ≤ low ∧ low ≤ high ∧ high ≤ 4) = false := by simp; omega
      have HE0 : Hid (decide (low = 0 ∧ high = 0) = false) := Lib.hid (by simp; omega)
      rw [e1] at HC
      clear e1 k0 k1
      go_wp2_with fail
      change Calls _ _ _ (W4.alloc (.cells (csI (tI 1 low high)) 42)) _
      rw [HW5.out]
      refine HC.out.mono ?_
      rintro e w6 ⟨rfl, b6⟩
      obtain ⟨v0, v1, v2, v3, v4, v5, v6⟩ := seven_has (V.out w6 b6)
      obtain ⟨W7, hW7⟩ : ∃ W7, w6.alloc (.cells (csI (tI 0 low high)) 42) = W7 := ⟨_, rfl⟩
      have b7 : Below w6.heap.size w6 W7 := by rw [← hW7]; exact step1 _ _
      have h7 : Has W7 w6.heap.size 42 (csI (tI 0 low high)) := by rw [← hW7]; exact has_at rfl rfl
      have HW7 := Lib.hid hW7
      have hc2 := rightL_any [tI 0 low high] (some ⟨w6.heap.size, 0, none⟩) 1 W7 (by simp) (its_tI h7 (by omega) HBL.out HBH.out) (((HT4.out.below HB5.out).below b6).below b7).1
      rw [right_tI0, HE0.out] at hc2
      have HC2 := Lib.hid hc2
      have HB7 := Lib.hid ((HB5.out.trans (b6.mono HB5.out.size)).trans (b7.mono (Nat.le_trans HB5.out.size b6.size)))
      clear hc2 h7 hW7 b7 b6
      go_wp2_with fail
      change Calls _ _ _ (w6.alloc (.cells (csI (tI 0 low high)) 42)) _
      rw [HW7.out]
      refine HC2.out.mono ?_
      rintro e w8 ⟨rfl, b8⟩
      have HB8 := Lib.hid b8
      clear b8
      go_wp2_with fail
      go_ret
      exact ⟨rfl, HB1.out.trans ((HB4.out.trans ((HB7.out.trans (HB8.out.mono HB7.out.size)).mono HB4.out.size)).mono HB1.out.size)⟩
  · have HL := Lib.hid (tmod7 low)
    have HH := Lib.hid (tmod7 high)
    obtain ⟨lo, hlo⟩ : ∃ lo, low.tmod 7 = lo := ⟨_, rfl⟩
    obtain ⟨hi, hhi⟩ : ∃ hi, high.tmod 7 = hi := ⟨_, rfl⟩
    rw [hlo] at HL
    rw [hhi] at HH
    have hbl : -9223372036854775808 ≤ lo ∧ lo ≤ 9223372036854775807 := by have := HL.out; omega
    have hbh : -9223372036854775808 ≤ hi ∧ hi ≤ 9223372036854775807 := by have := HH.out; omega
    have HBL := Lib.hid hbl
    have HBH := Lib.hid hbh
    clear hbl hbh
    go_upto_region 8 with fail
    clear hlo hhi
    obtain ⟨W2, hW2⟩ : ∃ W2, w1.alloc (.cells (csI (tI 1 lo hi)) 42) = W2 := ⟨_, rfl⟩
    have b2 : Below w1.heap.size w1 W2 := by rw [← hW2]; exact step1 _ _
    have h2 : Has W2 w1.heap.size 42 (csI (tI 1 lo hi)) := by rw [← hW2]; exact has_at rfl rfl
    have hW2' : w1.alloc (.cells #[.int .i64 1, .string { data := #[65] }, .string { data := #[97] }, .slice none 0 0, .int .i64 lo, .int .i64 hi, .slice none 0 0] 42) = W2 := hW2
    rw [hW2']
    clear hW2 hW2'
    obtain ⟨y0, y1, y2, y3, y4, y5, y6⟩ := seven_has h2
    go_upto_region 9 with fail
    clear y0 y1 y2 y3 y4 y5 y6
    obtain ⟨W3, hW3⟩ : ∃ W3, W2.alloc (.cells (csI (tI 1 lo hi)) 42) = W3 := ⟨_, rfl⟩
    have b3 : Below W2.heap.size W2 W3 := by rw [← hW3]; exact step1 _ _
    have h3 : Has W3 W2.heap.size 42 (csI (tI 1 lo hi)) := by rw [← hW3]; exact has_at rfl rfl
    have hW3' : W2.alloc (.cells #[.int .i64 1, .string (str [65]), .string (str [97]), .slice none 0 0, .int .i64 lo, .int .i64 hi, .slice none 0 0] 42) = W3 := hW3
    change Code.wp _ _ _ _ (W2.alloc (.cells (csI (tI 1 lo hi)) 42))
    rw [hW3]
    clear hW3 hW3'
    have hne : w1.heap.size ≠ W2.heap.size := by have := h2.lt; omega
    obtain ⟨W4, hW4⟩ : ∃ W4, W3.setCell ⟨W2.heap.size, 0, none⟩ (.int .i64 0) = W4 := ⟨_, rfl⟩
    have h4 : Has W4 W2.heap.size 42 (csI (tI 0 lo hi)) := by rw [← hW4]; exact h3.put 0 (.int .i64 0)
    have h41 : Has W4 w1.heap.size 42 (csI (tI 1 lo hi)) := by rw [← hW4]; exact hasS (h2.below b3 h2.lt) _ _ hne
    have b4 : Below w1.heap.size w1 W4 := by rw [← hW4]; exact (b2.trans (b3.mono b2.size)).setCell (p := ⟨W2.heap.size, 0, none⟩) b2.size _
    have HT4 := Lib.hid (HT1.out.below b4)
    have HB4 := Lib.hid b4
    have H4 := Lib.hid h4
    have H41 := Lib.hid h41
    have f0 : W3.frozen? ⟨W2.heap.size, 0, none⟩ = false := h3.free 0
    have z0 : W3.cell? ⟨W2.heap.size, 0, none⟩ = some (.int .i64 1) := h3.cell 0
    clear h2 h3 h4 h41 b2 b3 b4
    go_upto_region 10 with fail
    clear hW4 f0 z0
    obtain ⟨y0, y1, y2, y3, y4, y5, y6⟩ := seven_has H41.out
    obtain ⟨v0, v1, v2, v3, v4, v5, v6⟩ := seven_has H4.out
    obtain ⟨q1, hq1⟩ : ∃ q1, w1.heap.size = q1 := ⟨_, rfl⟩
    obtain ⟨q2, hq2⟩ : ∃ q2, W2.heap.size = q2 := ⟨_, rfl⟩
    rw [hq1] at y0 y1 y2 y3 y4 y5 y6 ⊢
    rw [hq2] at v0 v1 v2 v3 v4 v5 v6 H4 ⊢
    clear hq1 hq2 hne
    obtain ⟨W5, hW5⟩ : ∃ W5, W4.alloc (.cells (csI (tI 1 lo hi)) 42) = W5 := ⟨_, rfl⟩
    have b5 : Below W4.heap.size W4 W5 := by rw [← hW5]; exact step1 _ _
    have h5 : Has W5 W4.heap.size 42 (csI (tI 1 lo hi)) := by rw [← hW5]; exact has_at rfl rfl
    have HW5 := Lib.hid hW5
    have hc := rightL_any [tI 1 lo hi] (some ⟨W4.heap.size, 0, none⟩) 1 W5 (by simp) (its_tI h5 (by omega) HBL.out HBH.out) (HT4.out.below b5).1
    rw [right_tI1] at hc
    have HC := Lib.hid hc
    have HB5 := Lib.hid b5
    have V := Lib.hid (fun (u : World) (hb : Below W5.heap.size W5 u) => (H4.out.below b5 H4.out.lt).below hb (Nat.lt_of_lt_of_le H4.out.lt b5.size))
    clear hc b5 h5 hW5 v0 v1 v2 v3 v4 v5 v6
    have hor : (1 ≤ lo ∧ lo ≤ hi ∧ hi ≤ 4) ∨ (1 ≤ lo ∧ lo ≤ hi ∧ ¬ hi ≤ 4) ∨ (1 ≤ lo ∧ ¬ lo ≤ hi) ∨ (¬ 1 ≤ lo ∧ lo = 0 ∧ hi = 0) ∨ (¬ 1 ≤ lo ∧ lo = 0 ∧ ¬ hi = 0) ∨ (¬ 1 ≤ lo ∧ ¬ lo = 0) := by omega
    rcases hor with ⟨k0, k1, k2⟩ | ⟨k0, k1, k2⟩ | ⟨k0, k1⟩ | ⟨k0, k1, k2⟩ | ⟨k0, k1, k2⟩ | ⟨k0, k1⟩
    · have d0 : decide (1 ≤ lo) = true := by simp; omega
      have d1 : decide (lo ≤ hi) = true := by simp; omega
      have d2 : decide (hi ≤ 4) = true := by simp; omega
      have d3 : (lo == 0) = false := by simp; omega
      have e1 : decide (1 ≤ lo ∧ lo ≤ hi ∧ hi ≤ 4) = true := by simp; omega
      have HE0 : Hid (decide (lo = 0 ∧ hi = 0) = false) := Lib.hid (by simp; omega)
      rw [e1] at HC
      clear e1 k0 k1 k2
      go_wp2_with fail
      change Calls _ _ _ (W4.alloc (.cells (csI (tI 1 lo hi)) 42)) _
      rw [HW5.out]
      refine HC.out.mono ?_
      rintro e w6 ⟨rfl, b6⟩
      obtain ⟨v0, v1, v2, v3, v4, v5, v6⟩ := seven_has (V.out w6 b6)
      obtain ⟨W7, hW7⟩ : ∃ W7, w6.alloc (.cells (csI (tI 0 lo hi)) 42) = W7 := ⟨_, rfl⟩
      have b7 : Below w6.heap.size w6 W7 := by rw [← hW7]; exact step1 _ _
      have h7 : Has W7 w6.heap.size 42 (csI (tI 0 lo hi)) := by rw [← hW7]; exact has_at rfl rfl
      have HW7 := Lib.hid hW7
      have hc2 := rightL_any [tI 0 lo hi] (some ⟨w6.heap.size, 0, none⟩) 1 W7 (by simp) (its_tI h7 (by omega) HBL.out HBH.out) (((HT4.out.below HB5.out).below b6).below b7).1
      rw [right_tI0, HE0.out] at hc2
      have HC2 := Lib.hid hc2
      have HB7 := Lib.hid ((HB5.out.trans (b6.mono HB5.out.size)).trans (b7.mono (Nat.le_trans HB5.out.size b6.size)))
      clear hc2 h7 hW7 b7 b6
      go_wp2_with fail
      change Calls _ _ _ (w6.alloc (.cells (csI (tI 0 lo hi)) 42)) _
      rw [HW7.out]
      refine HC2.out.mono ?_
      rintro e w8 ⟨rfl, b8⟩
      have HB8 := Lib.hid b8
      clear b8
      go_wp2_with fail
      go_ret
      exact ⟨rfl, HB1.out.trans ((HB4.out.trans ((HB7.out.trans (HB8.out.mono HB7.out.size)).mono HB4.out.size)).mono HB1.out.size)⟩
    · have d0 : decide (1 ≤ lo) = true := by simp; omega
      have d1 : decide (lo ≤ hi) = true := by simp; omega
      have d2 : decide (hi ≤ 4) = false := by simp; omega
      have d3 : (lo == 0) = false := by simp; omega
      have e1 : decide (1 ≤ lo ∧ lo ≤ hi ∧ hi ≤ 4) = false := by simp; omega
      have HE0 : Hid (decide (lo = 0 ∧ hi = 0) = false) := Lib.hid (by simp; omega)
      rw [e1] at HC
      clear e1 k0 k1 k2
      go_wp2_with fail
      change Calls _ _ _ (W4.alloc (.cells (csI (tI 1 lo hi)) 42)) _
      rw [HW5.out]
      refine HC.out.mono ?_
      rintro e w6 ⟨rfl, b6⟩
      obtain ⟨v0, v1, v2, v3, v4, v5, v6⟩ := seven_has (V.out w6 b6)
      obtain ⟨W7, hW7⟩ : ∃ W7, w6.alloc (.cells (csI (tI 0 lo hi)) 42) = W7 := ⟨_, rfl⟩
      have b7 : Below w6.heap.size w6 W7 := by rw [← hW7]; exact step1 _ _
      have h7 : Has W7 w6.heap.size 42 (csI (tI 0 lo hi)) := by rw [← hW7]; exact has_at rfl rfl
      have HW7 := Lib.hid hW7
      have hc2 := rightL_any [tI 0 lo hi] (some ⟨w6.heap.size, 0, none⟩) 1 W7 (by simp) (its_tI h7 (by omega) HBL.out HBH.out) (((HT4.out.below HB5.out).below b6).below b7).1
      rw [right_tI0, HE0.out] at hc2
      have HC2 := Lib.hid hc2
      have HB7 := Lib.hid ((HB5.out.trans (b6.mono HB5.out.size)).trans (b7.mono (Nat.le_trans HB5.out.size b6.size)))
      clear hc2 h7 hW7 b7 b6
      go_wp2_with fail
      change Calls _ _ _ (w6.alloc (.cells (csI (tI 0 lo hi)) 42)) _
      rw [HW7.out]
      refine HC2.out.mono ?_
      rintro e w8 ⟨rfl, b8⟩
      have HB8 := Lib.hid b8
      clear b8
      go_wp2_with fail
      go_ret
      exact ⟨rfl, HB1.out.trans ((HB4.out.trans ((HB7.out.trans (HB8.out.mono HB7.out.size)).mono HB4.out.size)).mono HB1.out.size)⟩
    · have d0 : decide (1 ≤ lo) = true := by simp; omega
      have d1 : decide (lo ≤ hi) = false := by simp; omega
      have d2 : (lo == 0) = false := by simp; omega
      have e1 : decide (1 ≤ lo ∧ lo ≤ hi ∧ hi ≤ 4) = false := by simp; omega
      have HE0 : Hid (decide (lo = 0 ∧ hi = 0) = false) := Lib.hid (by simp; omega)
      rw [e1] at HC
      clear e1 k0 k1
      go_wp2_with fail
      change Calls _ _ _ (W4.alloc (.cells (csI (tI 1 lo hi)) 42)) _
      rw [HW5.out]
      refine HC.out.mono ?_
      rintro e w6 ⟨rfl, b6⟩
      obtain ⟨v0, v1, v2, v3, v4, v5, v6⟩ := seven_has (V.out w6 b6)
      obtain ⟨W7, hW7⟩ : ∃ W7, w6.alloc (.cells (csI (tI 0 lo hi)) 42) = W7 := ⟨_, rfl⟩
      have b7 : Below w6.heap.size w6 W7 := by rw [← hW7]; exact step1 _ _
      have h7 : Has W7 w6.heap.size 42 (csI (tI 0 lo hi)) := by rw [← hW7]; exact has_at rfl rfl
      have HW7 := Lib.hid hW7
      have hc2 := rightL_any [tI 0 lo hi] (some ⟨w6.heap.size, 0, none⟩) 1 W7 (by simp) (its_tI h7 (by omega) HBL.out HBH.out) (((HT4.out.below HB5.out).below b6).below b7).1
      rw [right_tI0, HE0.out] at hc2
      have HC2 := Lib.hid hc2
      have HB7 := Lib.hid ((HB5.out.trans (b6.mono HB5.out.size)).trans (b7.mono (Nat.le_trans HB5.out.size b6.size)))
      clear hc2 h7 hW7 b7 b6
      go_wp2_with fail
      change Calls _ _ _ (w6.alloc (.cells (csI (tI 0 lo hi)) 42)) _
      rw [HW7.out]
      refine HC2.out.mono ?_
      rintro e w8 ⟨rfl, b8⟩
      have HB8 := Lib.hid b8
      clear b8
      go_wp2_with fail
      go_ret
      exact ⟨rfl, HB1.out.trans ((HB4.out.trans ((HB7.out.trans (HB8.out.mono HB7.out.size)).mono HB4.out.size)).mono HB1.out.size)⟩
    · have d0 : decide (1 ≤ lo) = false := by simp; omega
      have d1 : (lo == 0) = true := by simp; omega
      have d2 : (hi == 0) = true := by simp; omega
      have e1 : decide (1 ≤ lo ∧ lo ≤ hi ∧ hi ≤ 4) = false := by simp; omega
      have HE0 : Hid (decide (lo = 0 ∧ hi = 0) = true) := Lib.hid (by simp; omega)
      rw [e1] at HC
      clear e1 k0 k1 k2
      go_wp2_with fail
      change Calls _ _ _ (W4.alloc (.cells (csI (tI 1 lo hi)) 42)) _
      rw [HW5.out]
      refine HC.out.mono ?_
      rintro e w6 ⟨rfl, b6⟩
      obtain ⟨v0, v1, v2, v3, v4, v5, v6⟩ := seven_has (V.out w6 b6)
      obtain ⟨W7, hW7⟩ : ∃ W7, w6.alloc (.cells (csI (tI 0 lo hi)) 42) = W7 := ⟨_, rfl⟩
      have b7 : Below w6.heap.size w6 W7 := by rw [← hW7]; exact step1 _ _
      have h7 : Has W7 w6.heap.size 42 (csI (tI 0 lo hi)) := by rw [← hW7]; exact has_at rfl rfl
      have HW7 := Lib.hid hW7
      have hc2 := rightL_any [tI 0 lo hi] (some ⟨w6.heap.size, 0, none⟩) 1 W7 (by simp) (its_tI h7 (by omega) HBL.out HBH.out) (((HT4.out.below HB5.out).below b6).below b7).1
      rw [right_tI0, HE0.out] at hc2
      have HC2 := Lib.hid hc2
      have HB7 := Lib.hid ((HB5.out.trans (b6.mono HB5.out.size)).trans (b7.mono (Nat.le_trans HB5.out.size b6.size)))
      clear hc2 h7 hW7 b7 b6
      go_wp2_with fail
      change Calls _ _ _ (w6.alloc (.cells (csI (tI 0 lo hi)) 42)) _
      rw [HW7.out]
      refine HC2.out.mono ?_
      rintro e w8 ⟨rfl, b8⟩
      have HB8 := Lib.hid b8
      clear b8
      go_wp2_with fail
      go_ret
      exact ⟨rfl, HB1.out.trans ((HB4.out.trans ((HB7.out.trans (HB8.out.mono HB7.out.size)).mono HB4.out.size)).mono HB1.out.size)⟩
    · have d0 : decide (1 ≤ lo) = false := by simp; omega
      have d1 : (lo == 0) = true := by simp; omega
      have d2 : (hi == 0) = false := by simp; omega
      have e1 : decide (1 ≤ lo ∧ lo ≤ hi ∧ hi ≤ 4) = false := by simp; omega
      have HE0 : Hid (decide (lo = 0 ∧ hi = 0) = false) := Lib.hid (by simp; omega)
      rw [e1] at HC
      clear e1 k0 k1 k2
      go_wp2_with fail
      change Calls _ _ _ (W4.alloc (.cells (csI (tI 1 lo hi)) 42)) _
      rw [HW5.out]
      refine HC.out.mono ?_
      rintro e w6 ⟨rfl, b6⟩
      obtain ⟨v0, v1, v2, v3, v4, v5, v6⟩ := seven_has (V.out w6 b6)
      obtain ⟨W7, hW7⟩ : ∃ W7, w6.alloc (.cells (csI (tI 0 lo hi)) 42) = W7 := ⟨_, rfl⟩
      have b7 : Below w6.heap.size w6 W7 := by rw [← hW7]; exact step1 _ _
      have h7 : Has W7 w6.heap.size 42 (csI (tI 0 lo hi)) := by rw [← hW7]; exact has_at rfl rfl
      have HW7 := Lib.hid hW7
      have hc2 := rightL_any [tI 0 lo hi] (some ⟨w6.heap.size, 0, none⟩) 1 W7 (by simp) (its_tI h7 (by omega) HBL.out HBH.out) (((HT4.out.below HB5.out).below b6).below b7).1
      rw [right_tI0, HE0.out] at hc2
      have HC2 := Lib.hid hc2
      have HB7 := Lib.hid ((HB5.out.trans (b6.mono HB5.out.size)).trans (b7.mono (Nat.le_trans HB5.out.size b6.size)))
      clear hc2 h7 hW7 b7 b6
      go_wp2_with fail
      change Calls _ _ _ (w6.alloc (.cells (csI (tI 0 lo hi)) 42)) _
      rw [HW7.out]
      refine HC2.out.mono ?_
      rintro e w8 ⟨rfl, b8⟩
      have HB8 := Lib.hid b8
      clear b8
      go_wp2_with fail
      go_ret
      exact ⟨rfl, HB1.out.trans ((HB4.out.trans ((HB7.out.trans (HB8.out.mono HB7.out.size)).mono HB4.out.size)).mono HB1.out.size)⟩
    · have d0 : decide (1 ≤ lo) = false := by simp; omega
      have d1 : (lo == 0) = false := by simp; omega
      have e1 : decide (1 ≤ lo ∧ lo ≤ hi ∧ hi ≤ 4) = false := by simp; omega
      have HE0 : Hid (decide (lo = 0 ∧ hi = 0) = false) := Lib.hid (by simp; omega)
      rw [e1] at HC
      clear e1 k0 k1
      go_wp2_with fail
      change Calls _ _ _ (W4.alloc (.cells (csI (tI 1 lo hi)) 42)) _
      rw [HW5.out]
      refine HC.out.mono ?_
      rintro e w6 ⟨rfl, b6⟩
      obtain ⟨v0, v1, v2, v3, v4, v5, v6⟩ := seven_has (V.out w6 b6)
      obtain ⟨W7, hW7⟩ : ∃ W7, w6.alloc (.cells (csI (tI 0 lo hi)) 42) = W7 := ⟨_, rfl⟩
      have b7 : Below w6.heap.size w6 W7 := by rw [← hW7]; exact step1 _ _
      have h7 : Has W7 w6.heap.size 42 (csI (tI 0 lo hi)) := by rw [← hW7]; exact has_at rfl rfl
      have HW7 := Lib.hid hW7
      have hc2 := rightL_any [tI 0 lo hi] (some ⟨w6.heap.size, 0, none⟩) 1 W7 (by simp) (its_tI h7 (by omega) HBL.out HBH.out) (((HT4.out.below HB5.out).below b6).below b7).1
      rw [right_tI0, HE0.out] at hc2
      have HC2 := Lib.hid hc2
      have HB7 := Lib.hid ((HB5.out.trans (b6.mono HB5.out.size)).trans (b7.mono (Nat.le_trans HB5.out.size b6.size)))
      clear hc2 h7 hW7 b7 b6
      go_wp2_with fail
      change Calls _ _ _ (w6.alloc (.cells (csI (tI 0 lo hi)) 42)) _
      rw [HW7.out]
      refine HC2.out.mono ?_
      rintro e w8 ⟨rfl, b8⟩
      have HB8 := Lib.hid b8
      clear b8
      go_wp2_with fail
      go_ret
      exact ⟨rfl, HB1.out.trans ((HB4.out.trans ((HB7.out.trans (HB8.out.mono HB7.out.size)).mono HB4.out.size)).mono HB1.out.size)⟩
end Go.Proofs.YtbdfehgofnomhaaDoor
