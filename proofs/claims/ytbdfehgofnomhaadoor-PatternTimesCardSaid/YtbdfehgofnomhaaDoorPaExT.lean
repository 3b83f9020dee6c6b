/- Layer 9: trial. -/
import Derived.Test.YtbdfehgofnomhaaDoorPaExA
import Derived.Test.YtbdfehgofnomhaaDoorRgInv
import Derived.Test.YtbdfehgofnomhaaDoorPaExC
import Derived.Test.YtbdfehgofnomhaaDoorPaExC
import Derived.Test.YtbdfehgofnomhaaDoorPaExC
import Derived.Test.YtbdfehgofnomhaaDoorPaExC
import Derived.Test.YtbdfehgofnomhaaDoorPaExC
import Derived.Test.YtbdfehgofnomhaaDoorPaExC
namespace Go.Proofs.YtbdfehgofnomhaaDoor
open Go.RowKit
set_option linter.unusedVariables false

set_option maxRecDepth 100000 in
set_option maxHeartbeats 16000000 in
theorem exT_any (w : World) (hT : Tabs w) : Calls Tryd.prog 7 #[] w fun e w' => e = .returned (.bool true) ∧ Below w.heap.size w w' := by
  have hmk1 := mkone_any [65] [120]
  have hmk2 := mkone_any [66] [122]
  have hmk3 := mkone_any [65] [97]
  have HT := Lib.hid hT
  clear hT
  have s1 := step1 w (.cells (cs1 (rf [98] [121])) 47)
  have h1 : Has (w.alloc (.cells (cs1 (rf [98] [121])) 47)) w.heap.size 47 (cs1 (rf [98] [121])) := has_at rfl rfl
  obtain ⟨W1, hW1⟩ : ∃ W1, w.alloc (.cells (cs1 (rf [98] [121])) 47) = W1 := ⟨_, rfl⟩
  rw [hW1] at s1 h1
  have z1 : W1.heap.size = w.heap.size + 1 := by rw [← hW1]; simp
  have s2 := step1 W1 (.cells (csI (ntI w.heap.size)) 42)
  have h2 : Has (W1.alloc (.cells (csI (ntI w.heap.size)) 42)) (w.heap.size + 1) 42 (csI (ntI w.heap.size)) := has_at rfl z1.symm
  obtain ⟨W2, hW2⟩ : ∃ W2, W1.alloc (.cells (csI (ntI w.heap.size)) 42) = W2 := ⟨_, rfl⟩
  rw [hW2] at s2 h2
  have z2 : W2.heap.size = w.heap.size + 1 + 1 := by rw [← hW2, ← z1]; simp
  have s3 := step1 W2 (.cells (csI tmI) 42)
  have h3 : Has (W2.alloc (.cells (csI tmI) 42)) (w.heap.size + 1 + 1) 42 (csI tmI) := has_at rfl z2.symm
  obtain ⟨W3, hW3⟩ : ∃ W3, W2.alloc (.cells (csI tmI) 42) = W3 := ⟨_, rfl⟩
  rw [hW3] at s3 h3
  have z3 : W3.heap.size = w.heap.size + 1 + 1 + 1 := by rw [← hW3, ← z2]; simp
  have s23 := s2.trans (s3.mono s2.size)
  have s123 := s1.trans (s23.mono s1.size)
  have H1 := Lib.hid (h1.below s23 h1.lt)
  have H2 := Lib.hid (h2.below s3 h2.lt)
  have H3 := Lib.hid h3
  have HS := Lib.hid s123
  have hW : ((w.alloc (.cells (cs1 (rf [98] [121])) 47)).alloc (.cells (csI (ntI w.heap.size)) 42)).alloc (.cells (csI tmI) 42) = W3 := by rw [hW1, hW2, hW3]
  have HW := Lib.hid hW
  clear s1 s2 s3 h1 h2 h3 hW1 hW2 hW3 z1 z2 s23 s123 hW
  go_enter Tryd.func7, Tryd.ntmps7
  go_upto_region 4 with fail
  change Code.wp _ _ _ _ (((w.alloc (.cells (cs1 (rf [98] [121])) 47)).alloc (.cells (csI (ntI w.heap.size)) 42)).alloc (.cells (csI tmI) 42))
  rw [HW.out]
  obtain ⟨y0, y1, y2, y3, y4, y5, y6⟩ : seven W3 (w.heap.size + 1 + 1) 1 [67] [99] none 0 0 1 3 none 0 0 := seven_has H3.out
  -- INV
  refine wp_region_inv (fun l a u => ∃ x0 x1 x2 x3 x4 x5 x6 x7 x8 x9 : Value, a = ⟨#[.bool false, .func (.func 17) #[] #[], .pointer (some ⟨w.heap.size + 1, 0, none⟩), .pointer (some ⟨w.heap.size + 1 + 1, 0, none⟩), x9, undef, .agg #[.int .i64 1, .string { data := #[] }, .int .i64 0, .string { data := #[98] }, .string { data := #[121] }, .slice none 0 0], .slice (some ⟨w.heap.size, 0, none⟩) 1 1,
      .agg #[.int .i64 2, .string { data := #[66] }, .string { data := #[98] }, .slice (some ⟨w.heap.size, 0, none⟩) 1 1, .int .i64 0, .int .i64 0, .slice none 0 0], .agg #[.int .i64 1, .string { data := #[67] }, .string { data := #[99] }, .slice none 0 0, .int .i64 1, .int .i64 3, .slice none 0 0], x0, x1, x2, x3, x4, x5, x6, x7, x8, undef, undef, undef, undef, undef, undef, undef, undef, undef, undef, undef, undef, undef, undef, undef, undef, undef, undef, undef, undef, undef, undef, undef, undef, undef, undef, undef, undef, undef, undef, undef, undef, undef, undef, undef, undef, undef, undef, undef, undef, undef, undef], []⟩ ∧ (Below W3.heap.size W3 u) ∧ (l.getD 10 false = true → l.getD 9 false = true)
      ∧ (l.getD 0 false = true → x0 = .func (.func 17) #[] #[])
      ∧ (l.getD 1 false = true → x1 = .agg (csI (onI [65] [120])))
      ∧ (l.getD 2 false = true → x2 = .agg (csI tmI))
      ∧ (l.getD 3 false = true → ∃ q, x3 = .slice (some ⟨q, 0, none⟩) 2 2 ∧ Has u q 42 cs14)
      ∧ (l.getD 4 false = true → x4 = .func (.func 17) #[] #[])
      ∧ (l.getD 5 false = true → x5 = .agg (csI (onI [66] [122])))
      ∧ (l.getD 6 false = true → ∃ q, x6 = .slice (some ⟨q, 0, none⟩) 1 1 ∧ Has u q 42 (csI (onI [66] [122])))
      ∧ (l.getD 7 false = true → ∃ q q2 q1, x7 = .slice (some ⟨q, 0, none⟩) 2 2 ∧ KidsIn u q q2 q1)
      ∧ (l.getD 8 false = true → ∃ q q2 q1, x8 = .agg (csIm 3 [] [] none 0 0 0 0 (some ⟨q, 0, none⟩) 2 2) ∧ KidsIn u q q2 q1)
      ∧ (l.getD 9 false = true → ∃ p, x9 = .pointer (some ⟨p, 0, none⟩) ∧ W3.heap.size ≤ p ∧ (l.getD 10 false = false → Has u p 42 zer7) ∧ (l.getD 10 false = true → AltIn u p))) (by kernel_rfl) (by kernel_rfl) ?h0 ?hs ?hd
  case h0 =>
    refine ⟨_, _, _, _, _, _, _, _, _, _, rfl, (Below.refl _ _).drew, by simp, ?_⟩
    simp
  case hs =>
    intro l a u hl hI i o ho hdep hun K hK
    have hi := (Array.getElem?_eq_some_iff.1 ho).1
    simp only [List.size_toArray, List.length_cons, List.length_nil] at hi hl
    obtain ⟨x0, x1, x2, x3, x4, x5, x6, x7, x8, x9, rfl, hb, hinv, h0, h1, h2, h3, h4, h5, h6, h7, h8, h9⟩ := hI
    have hc : i = 0 ∨ i = 1 ∨ i = 2 ∨ i = 3 ∨ i = 4 ∨ i = 5 ∨ i = 6 ∨ i = 7 ∨ i = 8 ∨ i = 9 ∨ i = 10 := by omega
    rcases hc with rfl | rfl | rfl | rfl | rfl | rfl | rfl | rfl | rfl | rfl | rfl
    all_goals (obtain rfl := Option.some.inj ho; rw [if_pos (by rfl)])
    · go_simp
      exact hK _ _ ⟨_, _, _, _, _, _, _, _, _, _, rfl, hb, fun c => by rw [getD_set_ne (by decide)]; exact hinv (was c (by rfl)), fun _ => rfl, fun c => (h1 (was c (by rfl))), fun c => (h2 (was c (by rfl))), fun c => (h3 (was c (by rfl))), fun c => (h4 (was c (by rfl))), fun c => (h5 (was c (by rfl))), fun c => (h6 (was c (by rfl))), fun c => (h7 (was c (by rfl))), fun c => (h8 (was c (by rfl))), fun c => (h9 (was c (by rfl))).imp fun p h => ⟨h.1, h.2.1, fun c => h.2.2.1 (wasnt c (by rfl)), fun c => h.2.2.2 (was c (by rfl))⟩⟩
    · obtain rfl := h0 (hdep ⟨0, .data⟩ (by simp) (by rfl))
      go_simp
      refine (hmk1 u).mono ?_
      rintro e u2 ⟨rfl, b2⟩
      have hk : ∀ q t cs, Has u q t cs → Has u2 q t cs := fun q t cs h => hasB b2 h
      exact hK _ _ ⟨_, _, _, _, _, _, _, _, _, _, rfl, bwT hb b2, fun c => by rw [getD_set_ne (by decide)]; exact hinv (was c (by rfl)), fun c => (h0 (was c (by rfl))), fun _ => rfl, fun c => (h2 (was c (by rfl))), fun c => (h3 (was c (by rfl))).imp fun q h => ⟨h.1, (hk) _ _ _ h.2⟩, fun c => (h4 (was c (by rfl))), fun c => (h5 (was c (by rfl))), fun c => (h6 (was c (by rfl))).imp fun q h => ⟨h.1, (hk) _ _ _ h.2⟩, fun c => (h7 (was c (by rfl))).imp fun q h => h.imp fun q2 h => h.imp fun q1 h => ⟨h.1, h.2.mono (hk)⟩, fun c => (h8 (was c (by rfl))).imp fun q h => h.imp fun q2 h => h.imp fun q1 h => ⟨h.1, h.2.mono (hk)⟩, fun c => (h9 (was c (by rfl))).imp fun p h => ⟨h.1, h.2.1, fun c => (hk) _ _ _ (h.2.2.1 (wasnt c (by rfl))), fun c => (h.2.2.2 (was c (by rfl))).mono (hk)⟩⟩
    · obtain ⟨y0, y1, y2, y3, y4, y5, y6⟩ := seven_has (H3.out.below hb H3.out.lt)
      go_simp
      exact hK _ _ ⟨_, _, _, _, _, _, _, _, _, _, rfl, hb, fun c => by rw [getD_set_ne (by decide)]; exact hinv (was c (by rfl)), fun c => (h0 (was c (by rfl))), fun c => (h1 (was c (by rfl))), fun _ => rfl, fun c => (h3 (was c (by rfl))), fun c => (h4 (was c (by rfl))), fun c => (h5 (was c (by rfl))), fun c => (h6 (was c (by rfl))), fun c => (h7 (was c (by rfl))), fun c => (h8 (was c (by rfl))), fun c => (h9 (was c (by rfl))).imp fun p h => ⟨h.1, h.2.1, fun c => h.2.2.1 (wasnt c (by rfl)), fun c => h.2.2.2 (was c (by rfl))⟩⟩
    · obtain rfl := h1 (hdep ⟨1, .data⟩ (by simp) (by rfl))
      obtain rfl := h2 (hdep ⟨2, .data⟩ (by simp) (by rfl))
      have hk : ∀ o q t cs, Has u q t cs → Has (u.alloc o) q t cs := fun o q t cs h => hasA h o
      go_simp
      exact hK _ _ ⟨_, _, _, _, _, _, _, _, _, _, rfl, bwA hb _, fun c => by rw [getD_set_ne (by decide)]; exact hinv (was c (by rfl)), fun c => (h0 (was c (by rfl))), fun c => (h1 (was c (by rfl))), fun c => (h2 (was c (by rfl))), fun _ => ⟨u.heap.size, rfl, heap_alloc_new u _⟩, fun c => (h4 (was c (by rfl))), fun c => (h5 (was c (by rfl))), fun c => (h6 (was c (by rfl))).imp fun q h => ⟨h.1, (hk _) _ _ _ h.2⟩, fun c => (h7 (was c (by rfl))).imp fun q h => h.imp fun q2 h => h.imp fun q1 h => ⟨h.1, h.2.mono (hk _)⟩, fun c => (h8 (was c (by rfl))).imp fun q h => h.imp fun q2 h => h.imp fun q1 h => ⟨h.1, h.2.mono (hk _)⟩, fun c => (h9 (was c (by rfl))).imp fun p h => ⟨h.1, h.2.1, fun c => (hk _) _ _ _ (h.2.2.1 (wasnt c (by rfl))), fun c => (h.2.2.2 (was c (by rfl))).mono (hk _)⟩⟩
    · go_simp
      exact hK _ _ ⟨_, _, _, _, _, _, _, _, _, _, rfl, hb, fun c => by rw [getD_set_ne (by decide)]; exact hinv (was c (by rfl)), fun c => (h0 (was c (by rfl))), fun c => (h1 (was c (by rfl))), fun c => (h2 (was c (by rfl))), fun c => (h3 (was c (by rfl))), fun _ => rfl, fun c => (h5 (was c (by rfl))), fun c => (h6 (was c (by rfl))), fun c => (h7 (was c (by rfl))), fun c => (h8 (was c (by rfl))), fun c => (h9 (was c (by rfl))).imp fun p h => ⟨h.1, h.2.1, fun c => h.2.2.1 (wasnt c (by rfl)), fun c => h.2.2.2 (was c (by rfl))⟩⟩
    · obtain rfl := h4 (hdep ⟨4, .data⟩ (by simp) (by rfl))
      go_simp
      refine (hmk2 u).mono ?_
      rintro e u2 ⟨rfl, b2⟩
      have hk : ∀ q t cs, Has u q t cs → Has u2 q t cs := fun q t cs h => hasB b2 h
      exact hK _ _ ⟨_, _, _, _, _, _, _, _, _, _, rfl, bwT hb b2, fun c => by rw [getD_set_ne (by decide)]; exact hinv (was c (by rfl)), fun c => (h0 (was c (by rfl))), fun c => (h1 (was c (by rfl))), fun c => (h2 (was c (by rfl))), fun c => (h3 (was c (by rfl))).imp fun q h => ⟨h.1, (hk) _ _ _ h.2⟩, fun c => (h4 (was c (by rfl))), fun _ => rfl, fun c => (h6 (was c (by rfl))).imp fun q h => ⟨h.1, (hk) _ _ _ h.2⟩, fun c => (h7 (was c (by rfl))).imp fun q h => h.imp fun q2 h => h.imp fun q1 h => ⟨h.1, h.2.mono (hk)⟩, fun c => (h8 (was c (by rfl))).imp fun q h => h.imp fun q2 h => h.imp fun q1 h => ⟨h.1, h.2.mono (hk)⟩, fun c => (h9 (was c (by rfl))).imp fun p h => ⟨h.1, h.2.1, fun c => (hk) _ _ _ (h.2.2.1 (wasnt c (by rfl))), fun c => (h.2.2.2 (was c (by rfl))).mono (hk)⟩⟩
    · obtain rfl := h5 (hdep ⟨5, .data⟩ (by simp) (by rfl))
      have hk : ∀ o q t cs, Has u q t cs → Has (u.alloc o) q t cs := fun o q t cs h => hasA h o
      go_simp
      exact hK _ _ ⟨_, _, _, _, _, _, _, _, _, _, rfl, bwA hb _, fun c => by rw [getD_set_ne (by decide)]; exact hinv (was c (by rfl)), fun c => (h0 (was c (by rfl))), fun c => (h1 (was c (by rfl))), fun c => (h2 (was c (by rfl))), fun c => (h3 (was c (by rfl))).imp fun q h => ⟨h.1, (hk _) _ _ _ h.2⟩, fun c => (h4 (was c (by rfl))), fun c => (h5 (was c (by rfl))), fun _ => ⟨u.heap.size, rfl, heap_alloc_new u _⟩, fun c => (h7 (was c (by rfl))).imp fun q h => h.imp fun q2 h => h.imp fun q1 h => ⟨h.1, h.2.mono (hk _)⟩, fun c => (h8 (was c (by rfl))).imp fun q h => h.imp fun q2 h => h.imp fun q1 h => ⟨h.1, h.2.mono (hk _)⟩, fun c => (h9 (was c (by rfl))).imp fun p h => ⟨h.1, h.2.1, fun c => (hk _) _ _ _ (h.2.2.1 (wasnt c (by rfl))), fun c => (h.2.2.2 (was c (by rfl))).mono (hk _)⟩⟩
    · obtain ⟨q2, rfl, k2⟩ := h3 (hdep ⟨3, .data⟩ (by simp) (by rfl))
      obtain ⟨q1, rfl, k1⟩ := h6 (hdep ⟨6, .data⟩ (by simp) (by rfl))
      have hk : ∀ o q t cs, Has u q t cs → Has (u.alloc o) q t cs := fun o q t cs h => hasA h o
      go_simp
      exact hK _ _ ⟨_, _, _, _, _, _, _, _, _, _, rfl, bwA hb _, fun c => by rw [getD_set_ne (by decide)]; exact hinv (was c (by rfl)), fun c => (h0 (was c (by rfl))), fun c => (h1 (was c (by rfl))), fun c => (h2 (was c (by rfl))), fun c => (h3 (was c (by rfl))).imp fun q h => ⟨h.1, (hk _) _ _ _ h.2⟩, fun c => (h4 (was c (by rfl))), fun c => (h5 (was c (by rfl))), fun c => (h6 (was c (by rfl))).imp fun q h => ⟨h.1, (hk _) _ _ _ h.2⟩, fun _ => ⟨u.heap.size, q2, q1, rfl, heap_alloc_new u _, hasA k2 _, hasA k1 _⟩, fun c => (h8 (was c (by rfl))).imp fun q h => h.imp fun q2 h => h.imp fun q1 h => ⟨h.1, h.2.mono (hk _)⟩, fun c => (h9 (was c (by rfl))).imp fun p h => ⟨h.1, h.2.1, fun c => (hk _) _ _ _ (h.2.2.1 (wasnt c (by rfl))), fun c => (h.2.2.2 (was c (by rfl))).mono (hk _)⟩⟩
    · obtain ⟨q, q2, q1, rfl, hkid⟩ := h7 (hdep ⟨7, .data⟩ (by simp) (by rfl))
      go_simp
      exact hK _ _ ⟨_, _, _, _, _, _, _, _, _, _, rfl, hb, fun c => by rw [getD_set_ne (by decide)]; exact hinv (was c (by rfl)), fun c => (h0 (was c (by rfl))), fun c => (h1 (was c (by rfl))), fun c => (h2 (was c (by rfl))), fun c => (h3 (was c (by rfl))), fun c => (h4 (was c (by rfl))), fun c => (h5 (was c (by rfl))), fun c => (h6 (was c (by rfl))), fun c => (h7 (was c (by rfl))), fun _ => ⟨q, q2, q1, rfl, hkid⟩, fun c => (h9 (was c (by rfl))).imp fun p h => ⟨h.1, h.2.1, fun c => h.2.2.1 (wasnt c (by rfl)), fun c => h.2.2.2 (was c (by rfl))⟩⟩
    · have hk : ∀ o q t cs, Has u q t cs → Has (u.alloc o) q t cs := fun o q t cs h => hasA h o
      go_simp
      exact hK _ _ ⟨_, _, _, _, _, _, _, _, _, _, rfl, bwA hb _, fun _ => getD_set_self (by omega), fun c => (h0 (was c (by rfl))), fun c => (h1 (was c (by rfl))), fun c => (h2 (was c (by rfl))), fun c => (h3 (was c (by rfl))).imp fun q h => ⟨h.1, (hk _) _ _ _ h.2⟩, fun c => (h4 (was c (by rfl))), fun c => (h5 (was c (by rfl))), fun c => (h6 (was c (by rfl))).imp fun q h => ⟨h.1, (hk _) _ _ _ h.2⟩, fun c => (h7 (was c (by rfl))).imp fun q h => h.imp fun q2 h => h.imp fun q1 h => ⟨h.1, h.2.mono (hk _)⟩, fun c => (h8 (was c (by rfl))).imp fun q h => h.imp fun q2 h => h.imp fun q1 h => ⟨h.1, h.2.mono (hk _)⟩, fun _ => ⟨u.heap.size, rfl, hb.size, fun _ => heap_alloc_new u _, fun c => by have := hinv (was c (by rfl)); rw [hun] at this; cases this⟩⟩
    · obtain ⟨p, rfl, hpl, hz, -⟩ := h9 (hdep ⟨9, .data⟩ (by simp) (by rfl))
      obtain ⟨q, q2, q1, rfl, hkid⟩ := h8 (hdep ⟨8, .data⟩ (by simp) (by rfl))
      have hz0 := hz hun
      obtain ⟨⟨m0, m1, m2, m3, m4, m5, m6⟩, ⟨n0, n1, n2, n3, n4, n5, n6⟩, nlt⟩ := zer7_facts hz0
      go_simp
      change K _ (set7 u p (.int .i64 3) (.string (str [])) (.string (str [])) (.slice none 0 0) (.int .i64 0) (.int .i64 0) (.slice (some ⟨q, 0, none⟩) 2 2))
      have hk : ∀ q5 t cs, Has u q5 t cs → cs ≠ zer7 → Has (set7 u p (.int .i64 3) (.string (str [])) (.string (str [])) (.slice none 0 0) (.int .i64 0) (.int .i64 0) (.slice (some ⟨q, 0, none⟩) 2 2)) q5 t cs := fun q1 t1 cs1 hh hne => set7_keep hz0 (.int .i64 3) (.string (str [])) (.string (str [])) (.slice none 0 0) (.int .i64 0) (.int .i64 0) (.slice (some ⟨q, 0, none⟩) 2 2) q1 t1 cs1 hh hne
      exact hK _ _ ⟨_, _, _, _, _, _, _, _, _, _, rfl, (hb.trans (set7_below hpl _ _ _ _ _ _ _) : Below W3.heap.size W3 (set7 u p (.int .i64 3) (.string (str [])) (.string (str [])) (.slice none 0 0) (.int .i64 0) (.int .i64 0) (.slice (some ⟨q, 0, none⟩) 2 2))), fun _ => by rw [getD_set_ne (by decide)]; exact hdep ⟨9, .data⟩ (by simp) (by rfl), fun c => (h0 (was c (by rfl))), fun c => (h1 (was c (by rfl))), fun c => (h2 (was c (by rfl))), fun c => (h3 (was c (by rfl))).imp fun q h => ⟨h.1, hk _ _ _ h.2 ne14⟩, fun c => (h4 (was c (by rfl))), fun c => (h5 (was c (by rfl))), fun c => (h6 (was c (by rfl))).imp fun q h => ⟨h.1, hk _ _ _ h.2 neB⟩, fun c => (h7 (was c (by rfl))).imp fun q h => h.imp fun q2 h => h.imp fun q1 h => ⟨h.1, h.2.set hz0 _ _ _ _ _ _ _⟩, fun c => (h8 (was c (by rfl))).imp fun q h => h.imp fun q2 h => h.imp fun q1 h => ⟨h.1, h.2.set hz0 _ _ _ _ _ _ _⟩, fun c => ⟨p, rfl, hpl, (fun c => by rw [getD_set_self (by omega)] at c; cases c), fun _ => ⟨q, q2, q1, set7_has hz0 _ _ _ _ _ _ _, hkid.set hz0 _ _ _ _ _ _ _⟩⟩⟩
  case hd =>
    intro l a U5 hl hall hI
    obtain ⟨x0, x1, x2, x3, x4, x5, x6, x7, x8, x9, rfl, hb, hinv, h0, h1, h2, h3, h4, h5, h6, h7, h8, h9⟩ := hI
    simp only [List.size_toArray, List.length_cons, List.length_nil] at hall
    obtain rfl := h0 (hall 0 (by omega))
    obtain rfl := h1 (hall 1 (by omega))
    obtain rfl := h2 (hall 2 (by omega))
    obtain ⟨qa, rfl, -⟩ := h3 (hall 3 (by omega))
    obtain rfl := h4 (hall 4 (by omega))
    obtain rfl := h5 (hall 5 (by omega))
    obtain ⟨qb, rfl, -⟩ := h6 (hall 6 (by omega))
    obtain ⟨qc, qd, qe, rfl, -⟩ := h7 (hall 7 (by omega))
    obtain ⟨qf, qg, qh, rfl, -⟩ := h8 (hall 8 (by omega))
    obtain ⟨p, rfl, hpl, -, hA⟩ := h9 (hall 9 (by omega))
    obtain ⟨q, q2, q1, ha1, ha2⟩ := hA (hall 10 (by omega))
    have HA1 := Lib.hid ha1
    have HA2 := Lib.hid ha2
    have HBU := Lib.hid hb
    have HN5 := Lib.hid (H2.out.below hb H2.out.lt)
    clear h0 h1 h2 h3 h4 h5 h6 h7 h8 h9 hall hinv hA hb hl y0 y1 y2 y3 y4 y5 y6 ha1 ha2
    go_upto_region 5 with fail
    refine wp_region_inv (fun l a u => ∃ x0 x1 x2 x3 x4 x5 x6 : Value, a = ⟨#[.bool false, .func (.func 17) #[] #[], .pointer (some ⟨w.heap.size + 1, 0, none⟩), .pointer (some ⟨w.heap.size + 1 + 1, 0, none⟩), .pointer (some ⟨p, 0, none⟩), x6, .agg #[.int .i64 1, .string { data := #[] }, .int .i64 0, .string { data := #[98] }, .string { data := #[121] }, .slice none 0 0], .slice (some ⟨w.heap.size, 0, none⟩) 1 1,
        .agg #[.int .i64 2, .string { data := #[66] }, .string { data := #[98] }, .slice (some ⟨w.heap.size, 0, none⟩) 1 1, .int .i64 0, .int .i64 0, .slice none 0 0], .agg #[.int .i64 1, .string { data := #[67] }, .string { data := #[99] }, .slice none 0 0, .int .i64 1, .int .i64 3, .slice none 0 0],
        .func (.func 17) #[] #[], .agg (csI (onI [65] [120])), .agg (csI tmI), .slice (some ⟨qa, 0, none⟩) 2 2, .func (.func 17) #[] #[], .agg (csI (onI [66] [122])), .slice (some ⟨qb, 0, none⟩) 1 1, .slice (some ⟨qc, 0, none⟩) 2 2, .agg (csIm 3 [] [] none 0 0 0 0 (some ⟨qf, 0, none⟩) 2 2), x0, x1, x2, x3, x4, x5, undef, undef, undef, undef, undef, undef, undef, undef, undef, undef, undef, undef, undef, undef, undef, undef, undef, undef, undef, undef, undef, undef, undef, undef, undef, undef, undef, undef, undef, undef, undef, undef, undef, undef, undef, undef], []⟩ ∧ (Below U5.heap.size U5 u) ∧ (l.getD 7 false = true → l.getD 6 false = true)
        ∧ (l.getD 0 false = true → x0 = .func (.func 17) #[] #[])
        ∧ (l.getD 1 false = true → x1 = .agg (csI (onI [65] [97])))
        ∧ (l.getD 2 false = true → x2 = .agg (csI (ntI w.heap.size)))
        ∧ (l.getD 3 false = true → x3 = .agg (csIm 3 [] [] none 0 0 0 0 (some ⟨q, 0, none⟩) 2 2))
        ∧ (l.getD 4 false = true → ∃ g, x4 = .slice (some ⟨g, 0, none⟩) 3 3 ∧ Has u g 42 (cs21 w.heap.size q))
        ∧ (l.getD 5 false = true → ∃ g, x5 = .agg #[.slice (some ⟨g, 0, none⟩) 3 3, .int .i64 5, .string (str [107])] ∧ Has u g 42 (cs21 w.heap.size q))
        ∧ (l.getD 6 false = true → ∃ b, x6 = .pointer (some ⟨b, 0, none⟩) ∧ U5.heap.size ≤ b ∧ (l.getD 7 false = false → Has u b 24 zer3) ∧ (l.getD 7 false = true → QIn w.heap.size q u b))) (by kernel_rfl) (by kernel_rfl) ?h0 ?hs ?hd
    case h0 =>
      refine ⟨_, _, _, _, _, _, _, rfl, (Below.refl _ _).drew, by simp, ?_⟩
      simp
    case hs =>
      intro l a u hl hI i o ho hdep hun K hK
      have hi := (Array.getElem?_eq_some_iff.1 ho).1
      simp only [List.size_toArray, List.length_cons, List.length_nil] at hi hl
      obtain ⟨x0, x1, x2, x3, x4, x5, x6, rfl, hb, hinv, h0, h1, h2, h3, h4, h5, h6⟩ := hI
      have hc : i = 0 ∨ i = 1 ∨ i = 2 ∨ i = 3 ∨ i = 4 ∨ i = 5 ∨ i = 6 ∨ i = 7 := by omega
      rcases hc with rfl | rfl | rfl | rfl | rfl | rfl | rfl | rfl
      all_goals (obtain rfl := Option.some.inj ho; rw [if_pos (by rfl)])
      · go_simp
        exact hK _ _ ⟨_, _, _, _, _, _, _, rfl, hb, fun c => by rw [getD_set_ne (by decide)]; exact hinv (was c (by rfl)), fun _ => rfl, fun c => (h1 (was c (by rfl))), fun c => (h2 (was c (by rfl))), fun c => (h3 (was c (by rfl))), fun c => (h4 (was c (by rfl))), fun c => (h5 (was c (by rfl))), fun c => (h6 (was c (by rfl))).imp fun p h => ⟨h.1, h.2.1, fun c => h.2.2.1 (wasnt c (by rfl)), fun c => h.2.2.2 (was c (by rfl))⟩⟩
      · obtain rfl := h0 (hdep ⟨0, .data⟩ (by simp) (by rfl))
        go_simp
        refine (hmk3 u).mono ?_
        rintro e u2 ⟨rfl, b2⟩
        have hk : ∀ q t cs, Has u q t cs → Has u2 q t cs := fun q t cs h => hasB b2 h
        exact hK _ _ ⟨_, _, _, _, _, _, _, rfl, bwT hb b2, fun c => by rw [getD_set_ne (by decide)]; exact hinv (was c (by rfl)), fun c => (h0 (was c (by rfl))), fun _ => rfl, fun c => (h2 (was c (by rfl))), fun c => (h3 (was c (by rfl))), fun c => (h4 (was c (by rfl))).imp fun g h => ⟨h.1, (hk) _ _ _ h.2⟩, fun c => (h5 (was c (by rfl))).imp fun g h => ⟨h.1, (hk) _ _ _ h.2⟩, fun c => (h6 (was c (by rfl))).imp fun p h => ⟨h.1, h.2.1, fun c => (hk) _ _ _ (h.2.2.1 (wasnt c (by rfl))), fun c => (h.2.2.2 (was c (by rfl))).mono (hk)⟩⟩
      · obtain ⟨y0, y1, y2, y3, y4, y5, y6⟩ := seven_has (HN5.out.below hb HN5.out.lt)
        go_simp
        exact hK _ _ ⟨_, _, _, _, _, _, _, rfl, hb, fun c => by rw [getD_set_ne (by decide)]; exact hinv (was c (by rfl)), fun c => (h0 (was c (by rfl))), fun c => (h1 (was c (by rfl))), fun _ => rfl, fun c => (h3 (was c (by rfl))), fun c => (h4 (was c (by rfl))), fun c => (h5 (was c (by rfl))), fun c => (h6 (was c (by rfl))).imp fun p h => ⟨h.1, h.2.1, fun c => h.2.2.1 (wasnt c (by rfl)), fun c => h.2.2.2 (was c (by rfl))⟩⟩
      · obtain ⟨y0, y1, y2, y3, y4, y5, y6⟩ := seven_has (HA1.out.below hb HA1.out.lt)
        go_simp
        exact hK _ _ ⟨_, _, _, _, _, _, _, rfl, hb, fun c => by rw [getD_set_ne (by decide)]; exact hinv (was c (by rfl)), fun c => (h0 (was c (by rfl))), fun c => (h1 (was c (by rfl))), fun c => (h2 (was c (by rfl))), fun _ => rfl, fun c => (h4 (was c (by rfl))), fun c => (h5 (was c (by rfl))), fun c => (h6 (was c (by rfl))).imp fun p h => ⟨h.1, h.2.1, fun c => h.2.2.1 (wasnt c (by rfl)), fun c => h.2.2.2 (was c (by rfl))⟩⟩
      · obtain rfl := h1 (hdep ⟨1, .data⟩ (by simp) (by rfl))
        obtain rfl := h2 (hdep ⟨2, .data⟩ (by simp) (by rfl))
        obtain rfl := h3 (hdep ⟨3, .data⟩ (by simp) (by rfl))
        have hk : ∀ o q t cs, Has u q t cs → Has (u.alloc o) q t cs := fun o q t cs h => hasA h o
        go_simp
        exact hK _ _ ⟨_, _, _, _, _, _, _, rfl, bwA hb _, fun c => by rw [getD_set_ne (by decide)]; exact hinv (was c (by rfl)), fun c => (h0 (was c (by rfl))), fun c => (h1 (was c (by rfl))), fun c => (h2 (was c (by rfl))), fun c => (h3 (was c (by rfl))), fun _ => ⟨u.heap.size, rfl, heap_alloc_new u _⟩, fun c => (h5 (was c (by rfl))).imp fun g h => ⟨h.1, (hk _) _ _ _ h.2⟩, fun c => (h6 (was c (by rfl))).imp fun p h => ⟨h.1, h.2.1, fun c => (hk _) _ _ _ (h.2.2.1 (wasnt c (by rfl))), fun c => (h.2.2.2 (was c (by rfl))).mono (hk _)⟩⟩
      · obtain ⟨g, rfl, hg⟩ := h4 (hdep ⟨4, .data⟩ (by simp) (by rfl))
        go_simp
        exact hK _ _ ⟨_, _, _, _, _, _, _, rfl, hb, fun c => by rw [getD_set_ne (by decide)]; exact hinv (was c (by rfl)), fun c => (h0 (was c (by rfl))), fun c => (h1 (was c (by rfl))), fun c => (h2 (was c (by rfl))), fun c => (h3 (was c (by rfl))), fun c => (h4 (was c (by rfl))), fun _ => ⟨g, rfl, hg⟩, fun c => (h6 (was c (by rfl))).imp fun p h => ⟨h.1, h.2.1, fun c => h.2.2.1 (wasnt c (by rfl)), fun c => h.2.2.2 (was c (by rfl))⟩⟩
      · have hk : ∀ o q t cs, Has u q t cs → Has (u.alloc o) q t cs := fun o q t cs h => hasA h o
        go_simp
        exact hK _ _ ⟨_, _, _, _, _, _, _, rfl, bwA hb _, fun _ => getD_set_self (by omega), fun c => (h0 (was c (by rfl))), fun c => (h1 (was c (by rfl))), fun c => (h2 (was c (by rfl))), fun c => (h3 (was c (by rfl))), fun c => (h4 (was c (by rfl))).imp fun g h => ⟨h.1, (hk _) _ _ _ h.2⟩, fun c => (h5 (was c (by rfl))).imp fun g h => ⟨h.1, (hk _) _ _ _ h.2⟩, fun _ => ⟨u.heap.size, rfl, hb.size, fun _ => heap_alloc_new u _, fun c => by have := hinv (was c (by rfl)); rw [hun] at this; cases this⟩⟩
      · obtain ⟨b, rfl, hbl, hz, -⟩ := h6 (hdep ⟨6, .data⟩ (by simp) (by rfl))
        obtain ⟨g, rfl, hg⟩ := h5 (hdep ⟨5, .data⟩ (by simp) (by rfl))
        have hz0 := hz hun
        obtain ⟨⟨m0, m1, m2⟩, ⟨n0, n1, n2⟩, nlt⟩ := zer3_facts hz0
        go_simp
        change K _ (set3 u b (.slice (some ⟨g, 0, none⟩) 3 3) (.int .i64 5) (.string (str [107])))
        have hk : ∀ q5 t cs, Has u q5 t cs → cs ≠ zer3 → Has (set3 u b (.slice (some ⟨g, 0, none⟩) 3 3) (.int .i64 5) (.string (str [107]))) q5 t cs := fun q1 t1 cs1 hh hne => set3_keep hz0 (.slice (some ⟨g, 0, none⟩) 3 3) (.int .i64 5) (.string (str [107])) q1 t1 cs1 hh hne
        exact hK _ _ ⟨_, _, _, _, _, _, _, rfl, (hb.trans (set3_below hbl _ _ _) : Below U5.heap.size U5 (set3 u b (.slice (some ⟨g, 0, none⟩) 3 3) (.int .i64 5) (.string (str [107])))), fun _ => by rw [getD_set_ne (by decide)]; exact hdep ⟨6, .data⟩ (by simp) (by rfl), fun c => (h0 (was c (by rfl))), fun c => (h1 (was c (by rfl))), fun c => (h2 (was c (by rfl))), fun c => (h3 (was c (by rfl))), fun c => (h4 (was c (by rfl))).imp fun g h => ⟨h.1, hk _ _ _ h.2 ne21⟩, fun c => (h5 (was c (by rfl))).imp fun g h => ⟨h.1, hk _ _ _ h.2 ne21⟩, fun c => ⟨b, rfl, hbl, (fun c => by rw [getD_set_self (by omega)] at c; cases c), fun _ => ⟨g, set3_has hz0 _ _ _, hk _ _ _ hg ne21⟩⟩⟩
    case hd =>
      intro l a U6 hl hall hI
      obtain ⟨x0, x1, x2, x3, x4, x5, x6, rfl, hb, hinv, h0, h1, h2, h3, h4, h5, h6⟩ := hI
      simp only [List.size_toArray, List.length_cons, List.length_nil] at hall
      obtain rfl := h0 (hall 0 (by omega))
      obtain rfl := h1 (hall 1 (by omega))
      obtain rfl := h2 (hall 2 (by omega))
      obtain rfl := h3 (hall 3 (by omega))
      obtain ⟨g4, rfl, -⟩ := h4 (hall 4 (by omega))
      obtain ⟨g5, rfl, -⟩ := h5 (hall 5 (by omega))
      obtain ⟨b, rfl, hbl, -, hQ⟩ := h6 (hall 6 (by omega))
      obtain ⟨g, hq1, hq2⟩ := hQ (hall 7 (by omega))
      have hI6 := exL_in (hasB hb (hasB HBU.out H1.out)) hq2 (HA2.out.below hb)
      have bw : Below w.heap.size w U6 := HS.out.trans ((HBU.out.trans (hb.mono HBU.out.size)).mono HS.out.size)
      have HIT := Lib.hid hI6
      have HTT := Lib.hid (HT.out.below bw)
      have HBW := Lib.hid bw
      have HQ1 := Lib.hid hq1
      clear h0 h1 h2 h3 h4 h5 h6 hall hinv hQ hq1 hl hq2 hI6 bw hb hmk1 hmk2 hmk3
      go_upto_region 6 with fail
      obtain ⟨y0, y1, y2⟩ := three_has HQ1.out
      go_wp2_with fail
      refine (call_put HIT.out HTT.out).mono ?_
      rintro e U7 ⟨rfl, b2⟩
      have B7 := Lib.hid ((Below.refl U6.heap.size U6).trans (b2.mono (Below.refl U6.heap.size U6).size))
      obtain ⟨y0, y1, y2⟩ := three_has (hasB B7.out HQ1.out)
      clear b2
      go_wp2_with fail
      refine (call_right (HIT.out.below B7.out) (HTT.out.below B7.out)).mono ?_
      rintro e U8 ⟨rfl, b2⟩
      have B8 := Lib.hid ((B7.out).trans (b2.mono (B7.out).size))
      obtain ⟨y0, y1, y2⟩ := three_has (hasB B8.out HQ1.out)
      clear b2
      go_wp2_with fail
      refine (call_same (HIT.out.below B8.out)).mono ?_
      rintro e U9 ⟨rfl, b2⟩
      have B9 := Lib.hid ((B8.out).trans (b2.mono (B8.out).size))
      obtain ⟨y0, y1, y2⟩ := three_has (hasB B9.out HQ1.out)
      clear b2
      go_wp2_with fail
      refine (call_count (HIT.out.below B9.out)).mono ?_
      rintro e U10 ⟨rfl, b2⟩
      have B10 := Lib.hid ((B9.out).trans (b2.mono (B9.out).size))
      obtain ⟨y0, y1, y2⟩ := three_has (hasB B10.out HQ1.out)
      clear b2
      go_wp2_with fail
      refine (call_deep (HIT.out.below B10.out)).mono ?_
      rintro e U11 ⟨rfl, b2⟩
      have B11 := Lib.hid ((B10.out).trans (b2.mono (B10.out).size))
      obtain ⟨y0, y1, y2⟩ := three_has (hasB B11.out HQ1.out)
      clear b2
      go_wp2_with fail
      refine (call_none (HTT.out.below B11.out)).mono ?_
      rintro e U12 ⟨rfl, b2⟩
      have B12 := Lib.hid ((B11.out).trans (b2.mono (B11.out).size))
      obtain ⟨y0, y1, y2⟩ := three_has (hasB B12.out HQ1.out)
      clear b2
      go_wp2_with fail
      refine (call_one (HIT.out.below B12.out) (HTT.out.below B12.out)).mono ?_
      rintro e U13 ⟨rfl, b2⟩
      have B13 := Lib.hid ((B12.out).trans (b2.mono (B12.out).size))
      obtain ⟨y0, y1, y2⟩ := three_has (hasB B13.out HQ1.out)
      clear b2
      go_wp2_with fail
      go_ret
      exact ⟨rfl, HBW.out.trans (B13.out.mono HBW.out.size)⟩
end Go.Proofs.YtbdfehgofnomhaaDoor
