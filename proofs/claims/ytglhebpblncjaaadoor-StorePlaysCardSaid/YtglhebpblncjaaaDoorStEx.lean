/- The chapter's examples, which each statement on stores asks first, tell true: the walk. -/
import Derived.Test.YtglhebpblncjaaaDoorStHead
namespace Go.Proofs.YtglhebpblncjaaaDoor
open Go.RowKit
set_option linter.unusedVariables false

theorem i64_small {n : Int} (h : -1000000 ≤ n ∧ n ≤ 1000000) : I64 n := by unfold I64; omega
theorem lies_one (w : World) (x : Int) : Lies (w.alloc (.cells #[.int .i64 x] 2)) (some ⟨w.heap.size, 0, none⟩) (ints [x]) := Lies.one _ _ _
theorem wsame_eq (K T : Int) (A B : Option Addr) (n c m d : Nat) (l : List Int) (w : World) (hl : l.length = n) (hr : l.length = m) (hn : n ≤ maxLen) (h1 : Lies w A (ints l)) (h2 : Lies w B (ints l)) :
    Calls Tryd.prog 29 #[ev K T A n c, ev K T B m d] w fun e w' => e = .returned (.bool true) ∧ Below w.heap.size w w' := by
  have := wsame_any K T K T A B n c m d l l w hl hr hn (by omega) h1 h2
  rwa [show sameE K T l K T l = true by unfold sameE; simp] at this
set_option maxHeartbeats 4000000 in
set_option maxRecDepth 100000 in
theorem examples_any (w : World) (ht : Tab w) (hT : Dbt w) :
    Calls Tryd.prog 7 #[] w fun e w' => e = .returned (.bool true) ∧ Below w.heap.size w w' := by
  have HT := Lib.hid ht
  have HD := Lib.hid hT
  clear ht hT
  go_enter Tryd.func7, Tryd.ntmps7
  go_wp2_with fail
  refine (new_sc 40 w (by omega) (by omega) HT.out HD.out).mono ?_
  rintro e w1 ⟨rfl, h1, b1⟩
  have H1 := Lib.hid h1
  have B1 := Lib.hid b1
  clear h1 b1
  generalize hB : w.heap.size = B at *
  have HB := Lib.hid hB
  clear hB
  go_wp2_with fail
  refine (stnew_any H1.out (Tl.new _ _)).mono ?_
  rintro e w2 ⟨rfl, h2, b2⟩
  have BL := H1.out.bl
  have B2 := Lib.hid (B1.out.trans (b2.mono BL))
  clear BL
  generalize w1.heap.size + 1 = hh at *
  generalize w1.heap.size = m at *
  have S2 : Hid (St w2 B B hh m 0 x0 []) := Lib.hid h2
  clear h2 b2 H1 B1
  go_wp2_with fail
  have T0 := two_new w2 #[.int .i64 9] #[.int .i64 1, .int .i64 5, .slice (some ⟨w2.heap.size, 0, none⟩) 1 1] 2 35
  have L0 : Lies ((w2.alloc (.cells #[.int .i64 9] 2)).alloc (.cells #[.int .i64 1, .int .i64 5, .slice (some ⟨w2.heap.size, 0, none⟩) 1 1] 35)) (some ⟨w2.heap.size, 0, none⟩) (ints [9]) := (lies_one w2 9).alloc _
  have z0 : ((w2.alloc (.cells #[.int .i64 9] 2)).alloc (.cells #[.int .i64 1, .int .i64 5, .slice (some ⟨w2.heap.size, 0, none⟩) 1 1] 35)).heap.size = w2.heap.size + 2 := by simp
  generalize (w2.alloc (.cells #[.int .i64 9] 2)).alloc (.cells #[.int .i64 1, .int .i64 5, .slice (some ⟨w2.heap.size, 0, none⟩) 1 1] 35) = w3 at *
  have X0 : Hid (Xs w B B hh m (w2.heap.size + 1) 1 5 (some ⟨w2.heap.size, 0, none⟩) 1 1 [9] 0 x0 [w2.heap.size + 1, w2.heap.size] w3) := Lib.hid
    ⟨(S2.out.tn (T := []) (.of_below T0.2.2) (fun k hk => by cases hk) (fun k hk => .inr (by simp at hk; omega))).1, T0.2.1, by simp, ⟨L0, fun _ x e => by cases e; exact .inr (by simp)⟩, by rw [HB.out]; exact B2.out.trans (T0.2.2.mono S2.out.bl), by rw [HB.out]; exact Nat.le_refl _⟩
  clear T0 L0 z0 S2 B2
  generalize w2.heap.size = q at *
  refine (stput_any X0.out.st (by omega) 0 (i64_small (by omega)) 1 5 _ 1 1 [9] (by omega) (by omega) rfl (by unfold maxLen; omega) X0.out.ly.li).mono ?_
  rw [p01.1, p01.2]
  rintro e w4 ⟨rfl, s4, k4⟩
  have X1 := Lib.hid (X0.out.deed s4 k4)
  clear s4 k4 X0
  obtain ⟨y0, y1, y2⟩ := X1.out.ev.three
  have lp := X1.out.ev.lt
  go_wp2_with fail
  clear y0 y1 y2 lp
  refine (stput_any X1.out.st (by omega) 0 (i64_small (by omega)) 1 5 _ 1 1 [9] (by omega) (by omega) rfl (by unfold maxLen; omega) X1.out.ly.li).mono ?_
  rw [p11.1, p11.2]
  rintro e w5 ⟨rfl, s5, k5⟩
  have X2 := Lib.hid (X1.out.deed s5 k5)
  clear s5 k5 X1
  obtain ⟨y0, y1, y2⟩ := X2.out.ev.three
  have lp := X2.out.ev.lt
  go_wp2_with fail
  clear y0 y1 y2 lp
  refine (stput_any X2.out.st (by omega) 1 (i64_small (by omega)) 1 5 _ 1 1 [9] (by omega) (by omega) rfl (by unfold maxLen; omega) X2.out.ly.li).mono ?_
  rw [p12.1, p12.2]
  rintro e w6 ⟨rfl, s6, k6⟩
  have X3 := Lib.hid (X2.out.deed s6 k6)
  clear s6 k6 X2
  go_wp2_with fail
  refine (sthold_any X3.out.st (by omega) 0 (i64_small (by omega))).mono ?_
  rw [h12.1, h12.2]
  rintro e w7 ⟨rfl, s7, k7⟩
  have X4 := Lib.hid (X3.out.deed s7 k7)
  clear s7 k7 X3
  go_wp2_with fail
  refine (stdrop_any X4.out.st (by omega) 0 (i64_small (by omega))).mono ?_
  rw [d23.1, d23.2]
  rintro e w8 ⟨rfl, s8, k8⟩
  have X5 := Lib.hid (X4.out.deed s8 k8)
  clear s8 k8 X4
  go_wp2_with fail
  refine (stget_any X5.out.st 0 (i64_small (by omega))).mono ?_
  unfold StGot
  rw [g3.1, g3.2.1, g3.2.2.1, g3.2.2.2]
  rintro e w30 ⟨Z, rfl, b30, l30, f30⟩
  obtain ⟨x30, ly30⟩ := X5.out.took b30 l30 f30
  have X20 := Lib.hid (x30.box (.cells #[.int .i64 1, .int .i64 5, .slice Z 1 1] 35))
  have LZ := Lib.hid ((ly30.below ((Below.refl _ _).alloc (Nat.le_refl _) (.cells #[.int .i64 1, .int .i64 5, .slice Z 1 1] 35))).mono (K' := w30.heap.size :: (kA Z [9] ++ [q + 1, q])) fun k hk => List.mem_cons_of_mem _ hk)
  have EZ : Hid (Has (w30.alloc (.cells #[.int .i64 1, .int .i64 5, .slice Z 1 1] 35)) w30.heap.size 35 #[.int .i64 1, .int .i64 5, .slice Z 1 1]) := Lib.hid (heap_alloc_new w30 _)
  clear b30 l30 f30 x30 ly30 X5
  unfold ev
  go_wp2_with fail
  generalize w30.alloc (.cells #[.int .i64 1, .int .i64 5, .slice Z 1 1] 35) = w31 at *
  have PZ : Hid (w30.heap.size ∈ w30.heap.size :: (kA Z [9] ++ [q + 1, q])) := Lib.hid (by simp)
  generalize w30.heap.size :: (kA Z [9] ++ [q + 1, q]) = K at *
  generalize w30.heap.size = z at *
  refine (stcount_any X20.out.st 0 (i64_small (by omega))).mono ?_
  rw [c3.1]
  rintro e w32 ⟨rfl, rfl⟩
  go_wp2_with fail
  refine (charged_sc X20.out.st.sc).mono ?_
  rw [c3.2]
  rintro e w33 ⟨rfl, rfl⟩
  go_wp2_with fail
  refine (stdrop_any X20.out.st (by omega) 0 (i64_small (by omega))).mono ?_
  rw [d34.1, d34.2]
  rintro e w34 ⟨rfl, s34, k34⟩
  have X21 := Lib.hid (X20.out.deed s34 k34)
  have LZ1 := Lib.hid (LZ.out.kp k34)
  have EZ1 := Lib.hid (k34.has PZ.out EZ.out)
  clear s34 k34 X20 LZ EZ
  go_wp2_with fail
  refine (stget_any X21.out.st 0 (i64_small (by omega))).mono ?_
  unfold StGot
  rw [g4.1, g4.2.1, g4.2.2.1, g4.2.2.2.1]
  rintro e w35 ⟨Y, rfl, b35, -, -⟩
  have bb := Below.step b35 ((Below.refl w35.heap.size w35).alloc (Nat.le_refl _) (.cells #[.int .i64 0, .int .i64 0, .slice Y 0 0] 35)) (Nat.le_refl _)
  have X22 := Lib.hid (X21.out.below bb)
  have LZ2 := Lib.hid (LZ1.out.below bb)
  have EZ2 := Lib.hid (EZ1.out.next bb)
  clear b35 bb X21 LZ1 EZ1
  unfold ev
  have lp := X22.out.ev.lt
  have lz := EZ2.out.lt
  obtain ⟨y0, y1, y2⟩ := X22.out.ev.three
  obtain ⟨v0, v1, v2⟩ := EZ2.out.three
  go_wp2_with fail
  clear y0 y1 y2 v0 v1 v2 lp lz
  generalize w35.alloc (.cells #[.int .i64 0, .int .i64 0, .slice Y 0 0] 35) = w36 at *
  refine (wsame_eq 1 5 _ _ 1 1 1 1 [9] _ rfl rfl (by unfold maxLen; omega) LZ2.out.li X22.out.ly.li).mono ?_
  rintro e w37 ⟨rfl, b37⟩
  have X23 := Lib.hid (X22.out.below b37)
  clear b37 X22 LZ2 EZ2 PZ
  go_wp2_with fail
  refine (charged_sc X23.out.st.sc).mono ?_
  rw [g4.2.2.2.2]
  rintro e w38 ⟨rfl, rfl⟩
  go_wp2_with fail
  refine (stdrop_no X23.out.st 0 (i64_small (by omega)) (by have := d44.1; simpa using this)).mono ?_
  rintro e w38 ⟨rfl, b38⟩
  have X24 := Lib.hid (X23.out.below b38)
  clear b38 X23
  go_wp2_with fail
  refine (sthold_no X24.out.st 1 (i64_small (by omega)) (by have := d44.2.1; simpa using this)).mono ?_
  rintro e w39 ⟨rfl, b39⟩
  have X25 := Lib.hid (X24.out.below b39)
  clear b39 X24
  go_wp2_with fail
  refine (stlen_any X25.out.st).mono ?_
  rw [d44.2.2]
  rintro e w40 ⟨rfl, rfl⟩
  go_wp2_with fail
  refine (stput_any X25.out.st (by omega) 2 (i64_small (by omega)) (-1) 0 none 0 0 [] (by omega) (by omega) rfl (by unfold maxLen; omega) (fun i u hu => by simp at hu)).mono ?_
  rw [p4]
  rintro e w41 ⟨rfl, s41, k41⟩
  have X26 := Lib.hid (X25.out.deed s41 k41)
  clear s41 k41 X25
  go_wp2
  go_ret
  exact ⟨rfl, X26.out.bel⟩
end Go.Proofs.YtglhebpblncjaaaDoor
