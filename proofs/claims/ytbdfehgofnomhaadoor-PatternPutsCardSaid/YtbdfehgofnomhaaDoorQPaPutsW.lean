/- Layer 9: PatternPuts' walk. -/
import Derived.Test.YtbdfehgofnomhaaDoorQAs
import Derived.Deep.QuietTactic
import Derived.Lib.QuietBelow
namespace Go.Proofs.YtbdfehgofnomhaaDoor
open Go.RowKit Go.Lib
set_option linter.unusedVariables false

set_option maxRecDepth 100000 in
set_option maxHeartbeats 8000000 in
theorem puts_any (A : Option Addr) (m c : Nat) (n : Int) (y : Nm) (o : Bool) (a : Option Addr) (len cap : Nat) (zs : List Int) (A' : Option Addr) (m' c' : Nat) (n' : Int) (y' : Nm) (o' : Bool) (a' : Option Addr) (len' cap' : Nat) (zs' : List Int) (same : Bool) (w : World)
    (hr : IsRow .u8 w a len cap zs) (hz : ∀ z ∈ zs, 0 ≤ z ∧ z ≤ 255) (hr' : IsRow .u8 w a' len' cap' zs') (hz' : ∀ z ∈ zs', 0 ≤ z ∧ z ≤ 255) (hT : Tabs w) :
    Calls Tryd.prog 3 #[.agg #[.slice A m c, .int .i64 n, .string (str y), .bool o, .slice a len cap], .agg #[.slice A' m' c', .int .i64 n', .string (str y'), .bool o', .slice a' len' cap'], .bool same] w fun e w' => e = .returned (.bool true) ∧ Below w.heap.size w w' := by
  obtain ⟨W1, hW1⟩ : ∃ W1, (w.alloc (.cells #[.slice A m c, .int .i64 n, .string (str y), .bool o, .slice a len cap] 27)).alloc (.cells #[.slice A' m' c', .int .i64 n', .string (str y'), .bool o', .slice a' len' cap'] 27) = W1 := ⟨_, rfl⟩
  have b1 : Below w.heap.size w W1 := by rw [← hW1]; exact ((Below.refl _ _).alloc (Nat.le_refl _) _).alloc (by simp) _
  have h1 : Has W1 w.heap.size 27 (sh5 A m c n y o a len cap) := by rw [← hW1]; exact (show Has (w.alloc (.cells #[.slice A m c, .int .i64 n, .string (str y), .bool o, .slice a len cap] 27)) w.heap.size 27 (sh5 A m c n y o a len cap) from heap_alloc_new w _).below (step1 _ _) (by simp)
  have h2 : Has W1 (w.heap.size + 1) 27 (sh5 A' m' c' n' y' o' a' len' cap') := by rw [← hW1]; exact has_at rfl (by simp)
  have HE := Lib.hid (exT_any W1 (hT.below b1))
  have HW := Lib.hid hW1
  have HB1 := Lib.hid b1
  have H1 := Lib.hid h1
  have H2 := Lib.hid h2
  have HT := Lib.hid hT
  have HR := Lib.hid (And.intro hr (And.intro hz (And.intro hr' hz')))
  clear hW1 b1 h1 h2 hT hr hz hr' hz'
  go_enter Tryd.func3, Tryd.ntmps3
  go_upto_region 1 with fail
  rw [HW.out]
  go_wp2_with fail
  refine HE.out.mono ?_
  rintro e w2 ⟨rfl, b2⟩
  have HB2 := Lib.hid (HB1.out.trans (b2.mono HB1.out.size))
  have h12 := H1.out.below b2 H1.out.lt
  have h22 := H2.out.below b2 H2.out.lt
  have f1 : w2.frozen? ⟨w.heap.size, 3, none⟩ = false := h12.free 3
  have f2 : w2.frozen? ⟨w.heap.size + 1, 3, none⟩ = false := h22.free 3
  have k1 : w2.cell? ⟨w.heap.size, 3, none⟩ = some (.bool o) := h12.cell 3
  have k2 : w2.cell? ⟨w.heap.size + 1, 3, none⟩ = some (.bool o') := h22.cell 3
  obtain ⟨W4, hW4⟩ : ∃ W4, (w2.setCell ⟨w.heap.size, 3, none⟩ (.bool true)).setCell ⟨w.heap.size + 1, 3, none⟩ (.bool true) = W4 := ⟨_, rfl⟩
  have h14 : Has W4 w.heap.size 27 (sh5 A m c n y true a len cap) := by rw [← hW4]; exact hasS (h12.put 3 (.bool true)) _ _ (by omega)
  have h24 : Has W4 (w.heap.size + 1) 27 (sh5 A' m' c' n' y' true a' len' cap') := by rw [← hW4]; exact (show Has (w2.setCell ⟨w.heap.size, 3, none⟩ (.bool true)) (w.heap.size + 1) 27 (sh5 A' m' c' n' y' o' a' len' cap') from hasS h22 _ _ (by omega)).put 3 (.bool true)
  have b4 : Below w.heap.size w2 W4 := by rw [← hW4]; exact ((Below.refl _ _).setCell (p := ⟨w.heap.size, 3, none⟩) (Nat.le_refl _) _).setCell (p := ⟨w.heap.size + 1, 3, none⟩) (Nat.le_succ _) _
  have HB4 := Lib.hid (HB2.out.trans b4)
  have H14 := Lib.hid h14
  have H24 := Lib.hid h24
  clear b4 h14 h24 h12 h22 HE HB2 b2 H1 H2
  go_upto_region 6 with fail
  clear f1 f2 k1 k2 hW4
  clear w2
  cases same
  · go_upto_region 8 with fail
    rename World => W5
    have h15 := H14.out
    have h25 := H24.out
    have b5 : Below w.heap.size W5 W5 := Below.refl _ _
    have HR2 := Lib.hid HR.out.2.2
    have HB5 := Lib.hid (HB4.out.trans b5)
    have HC1 := Lib.hid (shape_any A m c n y a len cap zs W5 (HR.out.1.below HB5.out) HR.out.2.1)
    have H15 := Lib.hid h15
    have H25 := Lib.hid h25
    clear h25 b5
    obtain ⟨y0, y1, y2, y3, y4⟩ := five_has h15
    clear h15
    go_wp2_with fail
    refine HC1.out.mono ?_
    rintro e w6 ⟨l1, B1, cp1, n1, t1, rfl, ok1, gl1, hn1, hy1, b6⟩
    obtain ⟨W7, hW7⟩ : ∃ W7, w6.alloc (.cells #[.slice B1 l1.length cp1, .int .i64 n1, .string (str t1)] 24) = W7 := ⟨_, rfl⟩
    have b7 : Below w6.heap.size w6 W7 := by rw [← hW7]; exact step1 _ _
    have h7 : Has W7 w6.heap.size 24 #[.slice B1 l1.length cp1, .int .i64 n1, .string (str t1)] := by rw [← hW7]; exact has_at rfl rfl
    have b57 := b6.trans (b7.mono b6.size)
    have HB7 := Lib.hid (HB5.out.trans (b57.mono HB5.out.size))
    have h27 := H25.out.below b57 H25.out.lt
    have HG1 := Lib.hid (And.intro ok1 (And.intro gl1.1 (And.intro gl1.2.1 (And.intro hn1 hy1))))
    have HI1 := Lib.hid (gl1.2.2.hidL.below b7)
    have H7 := Lib.hid h7
    clear ok1 gl1 hn1 hy1 b6 b7 b57 h7 y0 y1 y2 y3 y4
    have HW7 := Lib.hid hW7
    clear hW7
    go_upto_region 9 with fail
    change Code.wp _ _ _ _ (w6.alloc (.cells #[.slice B1 l1.length cp1, .int .i64 n1, .string (str t1)] 24))
    rw [HW7.out]
    clear HW7
    obtain ⟨q8, hq8⟩ : ∃ q8, w6.heap.size = q8 := ⟨_, rfl⟩
    rw [hq8] at H7 ⊢
    have HC2 := Lib.hid (shape_any A' m' c' n' y' a' len' cap' zs' W7 (HR2.out.1.below HB7.out) HR2.out.2)
    obtain ⟨y0, y1, y2, y3, y4⟩ := five_has h27
    clear h27 hq8
    try clear w6
    go_wp2_with fail
    refine HC2.out.mono ?_
    rintro e w8 ⟨l2, B2, cp2, n2, t2, rfl, ok2, gl2, hn2, hy2, b8⟩
    obtain ⟨W9, hW9⟩ : ∃ W9, w8.alloc (.cells #[.slice B2 l2.length cp2, .int .i64 n2, .string (str t2)] 24) = W9 := ⟨_, rfl⟩
    have b9 : Below w8.heap.size w8 W9 := by rw [← hW9]; exact step1 _ _
    have h9 : Has W9 w8.heap.size 24 #[.slice B2 l2.length cp2, .int .i64 n2, .string (str t2)] := by rw [← hW9]; exact has_at rfl rfl
    have b79 := b8.trans (b9.mono b8.size)
    have h79 := H7.out.below b79 H7.out.lt
    have hb9 := HB7.out.trans (b79.mono HB7.out.size)
    have hi1 := HI1.out.below b79
    have hi2 := gl2.2.2.hidL.below b9
    have hT9 := HT.out.below hb9
    have r1 := ask_right HG1.out.2.1 HG1.out.2.2.2.1 HG1.out.2.2.2.2
    have r2 := ask_right gl2.1 hn2 hy2
    have p1 := ask_put HG1.out.2.1 HG1.out.2.2.1 hi1 HG1.out.2.2.2.1 HG1.out.2.2.2.2
    have p2 := ask_put gl2.1 gl2.2.1 hi2 hn2 hy2
    have hiff := putQ_iff r1 r2
    obtain ⟨sv, hsv⟩ : ∃ b, sameQ l1 n1 t1 l2 n2 t2 = b := ⟨_, rfl⟩
    rw [hsv] at hiff
    obtain ⟨y0, y1, y2⟩ : W9.cell? ⟨q8, 0, none⟩ = some (.slice B1 l1.length cp1) ∧ W9.cell? ⟨q8, 1, none⟩ = some (.int .i64 n1) ∧ W9.cell? ⟨q8, 2, none⟩ = some (.string (str t1)) := three_has h79
    obtain ⟨q9, hq9⟩ : ∃ q9, w8.heap.size = q9 := ⟨_, rfl⟩
    rw [hq9] at h9
    obtain ⟨v0, v1, v2⟩ : W9.cell? ⟨q9, 0, none⟩ = some (.slice B2 l2.length cp2) ∧ W9.cell? ⟨q9, 1, none⟩ = some (.int .i64 n2) ∧ W9.cell? ⟨q9, 2, none⟩ = some (.string (str t2)) := three_has h9
    have cP1 : ∀ (d : Nat) (os : Array Obj), Calls Tryd.prog 10 #[.agg #[.slice B1 l1.length cp1, .int .i64 n1, .string (str t1)]] (Sort.grow (redrawn W9 d) os) fun e w'' => e = .returned (.string (str (putQ l1 n1 t1))) ∧ ∃ p : Regrown, w'' = Sort.grow (redrawn W9 p.d) p.os := fun d os => by
      have bb := below_regrown W9 d os
      exact Calls.regrown_of (putQ_any l1 B1 cp1 n1 t1 _ (okS_len HG1.out.1) (hi1.below bb) (hT9.below bb) (ask_ylen HG1.out.2.2.2.2) r1 p1)
    have cP2 : ∀ (d : Nat) (os : Array Obj), Calls Tryd.prog 10 #[.agg #[.slice B2 l2.length cp2, .int .i64 n2, .string (str t2)]] (Sort.grow (redrawn W9 d) os) fun e w'' => e = .returned (.string (str (putQ l2 n2 t2))) ∧ ∃ p : Regrown, w'' = Sort.grow (redrawn W9 p.d) p.os := fun d os => by
      have bb := below_regrown W9 d os
      exact Calls.regrown_of (putQ_any l2 B2 cp2 n2 t2 _ (okS_len ok2) (hi2.below bb) (hT9.below bb) (ask_ylen hy2) r2 p2)
    have cR1 : ∀ (d : Nat) (os : Array Obj), Calls Tryd.prog 9 #[.agg #[.slice B1 l1.length cp1, .int .i64 n1, .string (str t1)]] (Sort.grow (redrawn W9 d) os) fun e w'' => e = .returned (.bool true) ∧ ∃ p : Regrown, w'' = Sort.grow (redrawn W9 p.d) p.os := fun d os => by
      have bb := below_regrown W9 d os
      have h := rightQ_any l1 B1 cp1 n1 t1 _ (okS_len HG1.out.1) (hi1.below bb) (hT9.below bb).1 (ask_ylen HG1.out.2.2.2.2)
      rw [r1] at h
      exact Calls.regrown_of h
    have cR2 : ∀ (d : Nat) (os : Array Obj), Calls Tryd.prog 9 #[.agg #[.slice B2 l2.length cp2, .int .i64 n2, .string (str t2)]] (Sort.grow (redrawn W9 d) os) fun e w'' => e = .returned (.bool true) ∧ ∃ p : Regrown, w'' = Sort.grow (redrawn W9 p.d) p.os := fun d os => by
      have bb := below_regrown W9 d os
      have h := rightQ_any l2 B2 cp2 n2 t2 _ (okS_len ok2) (hi2.below bb) (hT9.below bb).1 (ask_ylen hy2)
      rw [r2] at h
      exact Calls.regrown_of h
    have cS : ∀ (d : Nat) (os : Array Obj), Calls Tryd.prog 11 #[.agg #[.slice B1 l1.length cp1, .int .i64 n1, .string (str t1)], .agg #[.slice B2 l2.length cp2, .int .i64 n2, .string (str t2)]] (Sort.grow (redrawn W9 d) os) fun e w'' => e = .returned (.bool sv) ∧ ∃ p : Regrown, w'' = Sort.grow (redrawn W9 p.d) p.os := fun d os => by
      have bb := below_regrown W9 d os
      have h := sameQ_any l1 l2 B1 B2 cp1 cp2 n1 n2 t1 t2 _ (okS_len HG1.out.1) (hi1.below bb) (hi2.below bb)
      rw [hsv] at h
      exact Calls.regrown_of h
    obtain ⟨d1, hd1⟩ : ∃ d, putQ l1 n1 t1 = d := ⟨_, rfl⟩
    obtain ⟨d2, hd2⟩ : ∃ d, putQ l2 n2 t2 = d := ⟨_, rfl⟩
    rw [hd1] at cP1 hiff
    rw [hd2] at cP2 hiff
    have tt1 := str_toList d1
    have tt2 := str_toList d2
    have hq1 : (d1 == d2) = sv := by rw [beq_dec]; exact hiff
    have HBb := Lib.hid hb9
    clear hd1 hd2 hsv hiff hT9 hb9 hi1 hi2 r1 r2 p1 p2 ok2 gl2 hn2 hy2 b8 b9 b79 h9 h79 HG1 HI1 H7
    clear HC1 HC2
    have HW9 := Lib.hid hW9
    clear hW9
    go_upto_region 10 with fail
    change Code.wp _ _ _ _ (w8.alloc (.cells #[.slice B2 l2.length cp2, .int .i64 n2, .string (str t2)] 24))
    rw [HW9.out]
    clear HW9
    try rw [hq9]
    clear hq9
    have za0 := cell_regrown y0
    have za1 := cell_regrown y1
    have za2 := cell_regrown y2
    have zc0 := cell_regrown v0
    have zc1 := cell_regrown v1
    have zc2 := cell_regrown v2
    cases sv
    all_goals
      refine wp_region_quiet_below (by kernel_rfl) (by kernel_rfl) ?_
      repeat (quiet_step (first | (with_reducible exact cR1 _ _) | (with_reducible exact cR2 _ _) | (with_reducible exact cP1 _ _) | (with_reducible exact cP2 _ _) | (with_reducible exact cS _ _)))
      refine wpQuiet_nil ?_
      intro _ hw'
      obtain ⟨⟨dq, osq⟩, hw''⟩ := hw'
      subst hw''
      go_wp2
      go_ret
      exact ⟨rfl, HBb.out.trans ((below_regrown W9 dq osq).mono HBb.out.size)⟩
  · obtain ⟨y0, y1, y2, y3, y4⟩ := five_has H14.out
    obtain ⟨v0, v1, v2, v3, v4⟩ := five_has H24.out
    obtain ⟨u0, u1, u2, u3, u4⟩ := five_free H24.out
    obtain ⟨W5, hW5⟩ : ∃ W5, set5 W4 (w.heap.size + 1) (.slice A m c) (.int .i64 n) (.string (str y)) (.bool true) (.slice a len cap) = W5 := ⟨_, rfl⟩
    have h15 : Has W5 w.heap.size 27 (sh5 A m c n y true a len cap) := by rw [← hW5]; exact (set5_same _ _ _ _ _ (by omega)).trans H14.out
    have h25 : Has W5 (w.heap.size + 1) 27 (sh5 A m c n y true a len cap) := by rw [← hW5]; exact set5_has H24.out _ _ _ _ _
    have b5 : Below w.heap.size W4 W5 := by rw [← hW5]; exact set5_below (Nat.le_succ _) _ _ _ _ _
    have hW5' : ((((W4.setCell ⟨w.heap.size + 1, 0, none⟩ (.slice A m c)).setCell ⟨w.heap.size + 1, 1, none⟩ (.int .i64 n)).setCell ⟨w.heap.size + 1, 2, none⟩ (.string (str y))).setCell ⟨w.heap.size + 1, 3, none⟩ (.bool true)).setCell ⟨w.heap.size + 1, 4, none⟩ (.slice a len cap) = W5 := hW5
    have HR2 := Lib.hid (And.intro HR.out.1 HR.out.2.1)
    go_upto_region 8 with fail
    clear y0 y1 y2 y3 y4 v0 v1 v2 v3 v4 u0 u1 u2 u3 u4 hW5 hW5'
    have HB5 := Lib.hid (HB4.out.trans b5)
    have HC1 := Lib.hid (shape_any A m c n y a len cap zs W5 (HR.out.1.below HB5.out) HR.out.2.1)
    have H15 := Lib.hid h15
    have H25 := Lib.hid h25
    clear h25 b5
    obtain ⟨y0, y1, y2, y3, y4⟩ := five_has h15
    clear h15
    go_wp2_with fail
    refine HC1.out.mono ?_
    rintro e w6 ⟨l1, B1, cp1, n1, t1, rfl, ok1, gl1, hn1, hy1, b6⟩
    obtain ⟨W7, hW7⟩ : ∃ W7, w6.alloc (.cells #[.slice B1 l1.length cp1, .int .i64 n1, .string (str t1)] 24) = W7 := ⟨_, rfl⟩
    have b7 : Below w6.heap.size w6 W7 := by rw [← hW7]; exact step1 _ _
    have h7 : Has W7 w6.heap.size 24 #[.slice B1 l1.length cp1, .int .i64 n1, .string (str t1)] := by rw [← hW7]; exact has_at rfl rfl
    have b57 := b6.trans (b7.mono b6.size)
    have HB7 := Lib.hid (HB5.out.trans (b57.mono HB5.out.size))
    have h27 := H25.out.below b57 H25.out.lt
    have HG1 := Lib.hid (And.intro ok1 (And.intro gl1.1 (And.intro gl1.2.1 (And.intro hn1 hy1))))
    have HI1 := Lib.hid (gl1.2.2.hidL.below b7)
    have H7 := Lib.hid h7
    clear ok1 gl1 hn1 hy1 b6 b7 b57 h7 y0 y1 y2 y3 y4
    have HW7 := Lib.hid hW7
    clear hW7
    go_upto_region 9 with fail
    change Code.wp _ _ _ _ (w6.alloc (.cells #[.slice B1 l1.length cp1, .int .i64 n1, .string (str t1)] 24))
    rw [HW7.out]
    clear HW7
    obtain ⟨q8, hq8⟩ : ∃ q8, w6.heap.size = q8 := ⟨_, rfl⟩
    rw [hq8] at H7 ⊢
    have HC2 := Lib.hid (shape_any A m c n y a len cap zs W7 (HR2.out.1.below HB7.out) HR2.out.2)
    obtain ⟨y0, y1, y2, y3, y4⟩ := five_has h27
    clear h27 hq8
    try clear w6
    go_wp2_with fail
    refine HC2.out.mono ?_
    rintro e w8 ⟨l2, B2, cp2, n2, t2, rfl, ok2, gl2, hn2, hy2, b8⟩
    obtain ⟨W9, hW9⟩ : ∃ W9, w8.alloc (.cells #[.slice B2 l2.length cp2, .int .i64 n2, .string (str t2)] 24) = W9 := ⟨_, rfl⟩
    have b9 : Below w8.heap.size w8 W9 := by rw [← hW9]; exact step1 _ _
    have h9 : Has W9 w8.heap.size 24 #[.slice B2 l2.length cp2, .int .i64 n2, .string (str t2)] := by rw [← hW9]; exact has_at rfl rfl
    have b79 := b8.trans (b9.mono b8.size)
    have h79 := H7.out.below b79 H7.out.lt
    have hb9 := HB7.out.trans (b79.mono HB7.out.size)
    have hi1 := HI1.out.below b79
    have hi2 := gl2.2.2.hidL.below b9
    have hT9 := HT.out.below hb9
    have r1 := ask_right HG1.out.2.1 HG1.out.2.2.2.1 HG1.out.2.2.2.2
    have r2 := ask_right gl2.1 hn2 hy2
    have p1 := ask_put HG1.out.2.1 HG1.out.2.2.1 hi1 HG1.out.2.2.2.1 HG1.out.2.2.2.2
    have p2 := ask_put gl2.1 gl2.2.1 hi2 hn2 hy2
    have hiff := putQ_iff r1 r2
    obtain ⟨sv, hsv⟩ : ∃ b, sameQ l1 n1 t1 l2 n2 t2 = b := ⟨_, rfl⟩
    rw [hsv] at hiff
    obtain ⟨y0, y1, y2⟩ : W9.cell? ⟨q8, 0, none⟩ = some (.slice B1 l1.length cp1) ∧ W9.cell? ⟨q8, 1, none⟩ = some (.int .i64 n1) ∧ W9.cell? ⟨q8, 2, none⟩ = some (.string (str t1)) := three_has h79
    obtain ⟨q9, hq9⟩ : ∃ q9, w8.heap.size = q9 := ⟨_, rfl⟩
    rw [hq9] at h9
    obtain ⟨v0, v1, v2⟩ : W9.cell? ⟨q9, 0, none⟩ = some (.slice B2 l2.length cp2) ∧ W9.cell? ⟨q9, 1, none⟩ = some (.int .i64 n2) ∧ W9.cell? ⟨q9, 2, none⟩ = some (.string (str t2)) := three_has h9
    have cP1 : ∀ (d : Nat) (os : Array Obj), Calls Tryd.prog 10 #[.agg #[.slice B1 l1.length cp1, .int .i64 n1, .string (str t1)]] (Sort.grow (redrawn W9 d) os) fun e w'' => e = .returned (.string (str (putQ l1 n1 t1))) ∧ ∃ p : Regrown, w'' = Sort.grow (redrawn W9 p.d) p.os := fun d os => by
      have bb := below_regrown W9 d os
      exact Calls.regrown_of (putQ_any l1 B1 cp1 n1 t1 _ (okS_len HG1.out.1) (hi1.below bb) (hT9.below bb) (ask_ylen HG1.out.2.2.2.2) r1 p1)
    have cP2 : ∀ (d : Nat) (os : Array Obj), Calls Tryd.prog 10 #[.agg #[.slice B2 l2.length cp2, .int .i64 n2, .string (str t2)]] (Sort.grow (redrawn W9 d) os) fun e w'' => e = .returned (.string (str (putQ l2 n2 t2))) ∧ ∃ p : Regrown, w'' = Sort.grow (redrawn W9 p.d) p.os := fun d os => by
      have bb := below_regrown W9 d os
      exact Calls.regrown_of (putQ_any l2 B2 cp2 n2 t2 _ (okS_len ok2) (hi2.below bb) (hT9.below bb) (ask_ylen hy2) r2 p2)
    have cR1 : ∀ (d : Nat) (os : Array Obj), Calls Tryd.prog 9 #[.agg #[.slice B1 l1.length cp1, .int .i64 n1, .string (str t1)]] (Sort.grow (redrawn W9 d) os) fun e w'' => e = .returned (.bool true) ∧ ∃ p : Regrown, w'' = Sort.grow (redrawn W9 p.d) p.os := fun d os => by
      have bb := below_regrown W9 d os
      have h := rightQ_any l1 B1 cp1 n1 t1 _ (okS_len HG1.out.1) (hi1.below bb) (hT9.below bb).1 (ask_ylen HG1.out.2.2.2.2)
      rw [r1] at h
      exact Calls.regrown_of h
    have cR2 : ∀ (d : Nat) (os : Array Obj), Calls Tryd.prog 9 #[.agg #[.slice B2 l2.length cp2, .int .i64 n2, .string (str t2)]] (Sort.grow (redrawn W9 d) os) fun e w'' => e = .returned (.bool true) ∧ ∃ p : Regrown, w'' = Sort.grow (redrawn W9 p.d) p.os := fun d os => by
      have bb := below_regrown W9 d os
      have h := rightQ_any l2 B2 cp2 n2 t2 _ (okS_len ok2) (hi2.below bb) (hT9.below bb).1 (ask_ylen hy2)
      rw [r2] at h
      exact Calls.regrown_of h
    have cS : ∀ (d : Nat) (os : Array Obj), Calls Tryd.prog 11 #[.agg #[.slice B1 l1.length cp1, .int .i64 n1, .string (str t1)], .agg #[.slice B2 l2.length cp2, .int .i64 n2, .string (str t2)]] (Sort.grow (redrawn W9 d) os) fun e w'' => e = .returned (.bool sv) ∧ ∃ p : Regrown, w'' = Sort.grow (redrawn W9 p.d) p.os := fun d os => by
      have bb := below_regrown W9 d os
      have h := sameQ_any l1 l2 B1 B2 cp1 cp2 n1 n2 t1 t2 _ (okS_len HG1.out.1) (hi1.below bb) (hi2.below bb)
      rw [hsv] at h
      exact Calls.regrown_of h
    obtain ⟨d1, hd1⟩ : ∃ d, putQ l1 n1 t1 = d := ⟨_, rfl⟩
    obtain ⟨d2, hd2⟩ : ∃ d, putQ l2 n2 t2 = d := ⟨_, rfl⟩
    rw [hd1] at cP1 hiff
    rw [hd2] at cP2 hiff
    have tt1 := str_toList d1
    have tt2 := str_toList d2
    have hq1 : (d1 == d2) = sv := by rw [beq_dec]; exact hiff
    have HBb := Lib.hid hb9
    clear hd1 hd2 hsv hiff hT9 hb9 hi1 hi2 r1 r2 p1 p2 ok2 gl2 hn2 hy2 b8 b9 b79 h9 h79 HG1 HI1 H7
    clear HC1 HC2
    have HW9 := Lib.hid hW9
    clear hW9
    go_upto_region 10 with fail
    change Code.wp _ _ _ _ (w8.alloc (.cells #[.slice B2 l2.length cp2, .int .i64 n2, .string (str t2)] 24))
    rw [HW9.out]
    clear HW9
    try rw [hq9]
    clear hq9
    have za0 := cell_regrown y0
    have za1 := cell_regrown y1
    have za2 := cell_regrown y2
    have zc0 := cell_regrown v0
    have zc1 := cell_regrown v1
    have zc2 := cell_regrown v2
    cases sv
    all_goals
      refine wp_region_quiet_below (by kernel_rfl) (by kernel_rfl) ?_
      repeat (quiet_step (first | (with_reducible exact cR1 _ _) | (with_reducible exact cR2 _ _) | (with_reducible exact cP1 _ _) | (with_reducible exact cP2 _ _) | (with_reducible exact cS _ _)))
      refine wpQuiet_nil ?_
      intro _ hw'
      obtain ⟨⟨dq, osq⟩, hw''⟩ := hw'
      subst hw''
      go_wp2
      go_ret
      exact ⟨rfl, HBb.out.trans ((below_regrown W9 dq osq).mono HBb.out.size)⟩
end Go.Proofs.YtbdfehgofnomhaaDoor
