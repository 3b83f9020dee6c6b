/- ValueBad's walk. -/
import Derived.Test.YtaiohdcngkkafaaDoorVaBadS
import Derived.Test.YtaiohdcngkkafaaDoorVaBadM
import Derived.Test.YtaiohdcngkkafaaDoorVaBindsW
import Derived.Test.YtaiohdcngkkafaaDoorVaEx
namespace Go.Proofs.YtaiohdcngkkafaaDoor
open Go.RowKit
set_option linter.unusedVariables false

/-- What a call of the reader's truth makes. -/
def Tr (N : Nat) (p : Nat) (w w' : World) (t : ET) : Prop := (rightT t = true ∧ typT t = 2 ∧ t.size ≤ 31) ∧ Nw N w' t ∧ FrP p w w'
theorem call2 {N : Nat} {x : Option Addr} {len cap : Nat} {W : World} {zs : List Int} (h : Rdr N x len cap W) (hr : IsRow .u8 W x len cap zs) (hz : ∀ n ∈ zs, 0 ≤ n ∧ n ≤ 255) (hx : ∀ a, x = some a → 0 < len → a.block < N) :
    Calls Tryd.prog 27 #[.pointer (some ⟨N + 2, 0, none⟩), .string { data := #[99] }, .string { data := #[67] }, .int .i64 2] W fun e w' => ∃ t : ET, e = .returned (.agg (cs1 t)) ∧ Tr W.heap.size (N + 2) W w' t := by
  obtain ⟨hC, hF⟩ := h.start hr hz hx
  obtain ⟨T0, i2, htr⟩ := tru_at2 hC (N + 2) 0
  refine (htr W hF).mono ?_
  rintro e w' ⟨t, he, -, hg, hn, -, hf⟩
  exact ⟨t, he, hg, hn, hf⟩
theorem row_to {w w' : World} {k : IntKind} {x : Option Addr} {len cap : Nat} {zs : List Int} (h : IsRow k w x len cap zs) (hb : Below w.heap.size w w') : IsRow k w' x len cap zs := h.below hb
set_option maxRecDepth 100000 in
set_option maxHeartbeats 16000000 in
theorem bad_any (x0 : Option Addr) (len0 cap0 : Nat) (z0 : List Int) (x1 : Option Addr) (len1 cap1 : Nat) (z1 : List Int) (x2 : Option Addr) (len2 cap2 : Nat) (z2 : List Int) (cut : Int) (hc0 : 0 ≤ cut) (hc1 : cut ≤ 255) (w : World)
    (r0 : IsRow .u8 w x0 len0 cap0 z0) (hz0 : ∀ n ∈ z0, 0 ≤ n ∧ n ≤ 255) (r1 : IsRow .u8 w x1 len1 cap1 z1) (hz1 : ∀ n ∈ z1, 0 ≤ n ∧ n ≤ 255) (r2 : IsRow .i64 w x2 len2 cap2 z2) (hz2 : ∀ n ∈ z2, in64 n) (hT : Tabs8 w) :
    Calls Tryd.prog 11 #[.slice x0 len0 cap0, .slice x1 len1 cap1, .slice x2 len2 cap2, .int .u8 cut] w fun e w' => e = .returned (.bool true) ∧ Below w.heap.size w w' := by
  have HEX := Lib.hid (ex8_any w hT)
  have HR := Lib.hid (And.intro r0 (And.intro r1 r2))
  have HZ := Lib.hid (And.intro hz0 (And.intro hz1 hz2))
  have HC := Lib.hid (And.intro hc0 hc1)
  have HT := Lib.hid hT
  clear hT r0 r1 r2 hz0 hz1 hz2 hc0 hc1
  go_enter Tryd.func11, Tryd.ntmps11
  go_wp2_with fail
  refine HEX.out.mono ?_
  rintro e w1 ⟨rfl, b1⟩
  obtain ⟨rd1, c1⟩ := rdr_new w1 x0 len0 cap0
  obtain ⟨Wa, hWa⟩ : ∃ Wa, ((w1.alloc (.cells vCs 9)).alloc (.cells oCs 9)).alloc (.cells (fCs x0 len0 cap0 w1.heap.size (w1.heap.size + 1)) 49) = Wa := ⟨_, rfl⟩
  rw [hWa] at rd1 c1
  have za : Wa.heap.size = w1.heap.size + 3 := by rw [← hWa]; simp
  obtain ⟨rd2, c2⟩ := rdr_new Wa x1 len1 cap1
  obtain ⟨Wb, hWb⟩ : ∃ Wb, ((Wa.alloc (.cells vCs 9)).alloc (.cells oCs 9)).alloc (.cells (fCs x1 len1 cap1 Wa.heap.size (Wa.heap.size + 1)) 49) = Wb := ⟨_, rfl⟩
  rw [hWb] at rd2 c2
  have zb : Wb.heap.size = w1.heap.size + 6 := by rw [← hWb]; simp [za]
  have rd1b := rd1.below c2
  have c12 := c1.trans (c2.mono c1.size)
  rw [za] at rd2
  have R1 : IsRow .u8 w1 x0 len0 cap0 z0 ∧ IsRow .u8 w1 x1 len1 cap1 z1 ∧ IsRow .i64 w1 x2 len2 cap2 z2 := ⟨HR.out.1.below b1, HR.out.2.1.below b1, HR.out.2.2.below b1⟩
  have hcall1 := call2 rd1b (R1.1.below c12) HZ.out.1 (fun a ha h0 => row_blocks R1.1 a ha h0)
  have HC1 := Lib.hid hcall1
  have HRD2 := Lib.hid rd2
  have HB1 := Lib.hid b1
  have HC12 := Lib.hid c12
  have HR1 := Lib.hid R1
  have HZB := Lib.hid zb
  have HW : Hid ((((((w1.alloc (.cells #[.string { data := #[97] }, .string { data := #[98] }] 9)).alloc (.cells #[.string { data := #[65] }, .string { data := #[66] }] 9)).alloc (.cells #[.slice x0 len0 cap0, .int .i64 0, .slice (some ⟨w1.heap.size, 0, none⟩) 2 2, .slice (some ⟨w1.heap.size + 1, 0, none⟩) 2 2] 49)).alloc (.cells #[.string { data := #[97] }, .string { data := #[98] }] 9)).alloc (.cells #[.string { data := #[65] }, .string { data := #[66] }] 9)).alloc (.cells #[.slice x1 len1 cap1, .int .i64 0, .slice (some ⟨w1.heap.size + 1 + 1 + 1, 0, none⟩) 2 2, .slice (some ⟨w1.heap.size + 1 + 1 + 1 + 1, 0, none⟩) 2 2] 49) = Wb) := Lib.hid (by rw [← hWb, ← hWa]; simp [vCs, oCs, fCs])
  clear b1 rd1 rd2 c1 c2 hWa hWb za zb rd1b c12 R1 hcall1 HR HEX
  go_wp2_with fail
  rw [HW.out]
  refine HC1.out.mono ?_
  rintro e w2 ⟨t1, rfl, g1, n1, f1⟩
  simp only [cs1]
  obtain ⟨W2, hW2⟩ : ∃ W2, w2.alloc (.cells (cs1 t1) 24) = W2 := ⟨_, rfl⟩
  have s2 := step1 w2 (.cells (cs1 t1) 24)
  have hx2 : Has (w2.alloc (.cells (cs1 t1) 24)) w2.heap.size 24 (cs1 t1) := has_at rfl rfl
  rw [hW2] at s2 hx2
  have zf := f1.size
  have zw := HZB.out
  have low2 : Below w1.heap.size w1 W2 := ((HC12.out).trans ((f1.low (B := w1.heap.size) (by omega) (by omega)).mono (Nat.le_refl _))).trans (s2.mono (by omega))
  have rd2 := ((HRD2.out.fr f1 (by omega)).below s2)
  have n1' := n1.below (Nat.le_refl _) s2
  have hcall2 := call2 rd2 (HR1.out.2.1.below low2) HZ.out.2.1 (fun a ha h0 => by have := row_blocks HR1.out.2.1 a ha h0; omega)
  rw [show w1.heap.size + 3 + 2 = w1.heap.size + 1 + 1 + 1 + 1 + 1 by omega] at hcall2
  have HC2 := Lib.hid hcall2
  have HN1 := Lib.hid n1'
  have HX2 := Lib.hid hx2
  have HL2 := Lib.hid low2
  have HG1 := Lib.hid g1
  have HS2 := Lib.hid (And.intro zf s2.size)
  have HW2 := Lib.hid hW2
  clear HW HC1 HRD2 HC12 f1 n1 g1 s2 hx2 hW2 zf zw low2 rd2 n1' hcall2
  go_wp2_with fail
  rw [show w2.alloc (.cells #[.int .i64 t1.k, .string (str t1.op), .int .i64 t1.n, .string (str t1.v), .string (str t1.f), .slice t1.A t1.ks.length t1.c] 24) = W2 from HW2.out]
  refine HC2.out.mono ?_
  rintro e w3 ⟨t2, rfl, g2, n2, f2⟩
  simp only [cs1]
  obtain ⟨W3, hW3⟩ : ∃ W3, w3.alloc (.cells (cs1 t2) 24) = W3 := ⟨_, rfl⟩
  have s3 := step1 w3 (.cells (cs1 t2) 24)
  have hy3 : Has (w3.alloc (.cells (cs1 t2) 24)) w3.heap.size 24 (cs1 t2) := has_at rfl rfl
  rw [hW3] at s3 hy3
  have zf := f2.size
  have zw := HZB.out
  have zs2 := HS2.out
  have hx3 : Has W3 w2.heap.size 24 (cs1 t1) := (f2.has HX2.out (by omega)).below s3 (f2.has HX2.out (by omega)).lt
  have i1 : t1.In W3 := ((HN1.out.fr (Nat.le_refl _) (by omega) f2).below (Nat.le_refl _) s3).in_
  have i2 : t2.In W3 := (n2.below (Nat.le_refl _) s3).in_
  have low3 : Below w1.heap.size w1 W3 := (HL2.out.trans (f2.low (B := w1.heap.size) (by omega) (by omega))).trans (s3.mono (by omega))
  have bw3 := HB1.out.trans (low3.mono HB1.out.size)
  have HP3 := Lib.hid (show Bp w2.heap.size w3.heap.size t1 t2 W3 from ⟨hx3, hy3, i1, i2, HT.out.below bw3⟩)
  have HB3 := Lib.hid bw3
  have HR3 := Lib.hid (HR1.out.2.2.below low3)
  have HG2 := Lib.hid g2
  have HW3 := Lib.hid hW3
  clear HC2 HN1 HX2 HL2 HS2 HW2 f2 n2 g2 s3 hy3 hW3 zf zw zs2 hx3 i1 i2 low3 bw3 HR1 HB1 HZB
  go_wp2_with fail
  rw [show w3.alloc (.cells #[.int .i64 t2.k, .string (str t2.op), .int .i64 t2.n, .string (str t2.v), .string (str t2.f), .slice t2.A t2.ks.length t2.c] 24) = W3 from HW3.out]
  refine (binds_any x2 len2 cap2 z2 cut HC.out.1 HC.out.2 W3 HR3.out HZ.out.2.2).mono ?_
  rintro e w4 ⟨A, c, bl, rfl, hB, h64, hl8, b4⟩
  have HP4 := Lib.hid (HP3.out.below b4)
  have HB4 := Lib.hid (HB3.out.trans (b4.mono HB3.out.size))
  have HBD := Lib.hid hB
  have H64 := Lib.hid h64
  clear HW3 HP3 HB3 HR3 hB h64 hl8 b4 HZ HC HT
  obtain ⟨p1, d1, hk1⟩ := tru_of H64.out HP4.out.i1 HG1.out.1 HG1.out.2.1
  obtain ⟨p2, d2, hk2⟩ := tru_of H64.out HP4.out.i2 HG2.out.1 HG2.out.2.1
  have hev1 : ∀ u, Below w4.heap.size w4 u → Calls Tryd.prog 40 #[.agg #[.int .i64 t1.k, .string (str t1.op), .int .i64 t1.n, .string (str t1.v), .string (str t1.f), .slice t1.A t1.ks.length t1.c], .slice A bl.length c] u fun e w' => e = .returned (two (tNum p1 d1)) ∧ Below u.heap.size u w' := fun u hu => by
    have := eval_any H64.out t1 u (HP4.out.i1.below hu) (HP4.out.tabs.below hu) (HBD.out.below hu)
    rw [ev_tru HG1.out.1 HG1.out.2.1 hk1] at this
    exact this
  have hev2 : ∀ u, Below w4.heap.size w4 u → Calls Tryd.prog 40 #[.agg #[.int .i64 t2.k, .string (str t2.op), .int .i64 t2.n, .string (str t2.v), .string (str t2.f), .slice t2.A t2.ks.length t2.c], .slice A bl.length c] u fun e w' => e = .returned (two (tNum p2 d2)) ∧ Below u.heap.size u w' := fun u hu => by
    have := eval_any H64.out t2 u (HP4.out.i2.below hu) (HP4.out.tabs.below hu) (HBD.out.below hu)
    rw [ev_tru HG2.out.1 HG2.out.2.1 hk2] at this
    exact this
  have HE1 := Lib.hid (hev1 w4 (Below.refl _ _))
  have HE2 := Lib.hid hev2
  have HK := Lib.hid (And.intro hk1 hk2)
  clear hev1 hev2 hk1 hk2
  obtain ⟨a0, a1, a2, a3, a4, a5⟩ : six w4 w2.heap.size t1.k t1.op t1.n t1.v t1.f t1.A t1.ks.length t1.c := six_has HP4.out.hx
  go_wp2_with fail
  refine HE1.out.mono ?_
  clear a0 a1 a2 a3 a4 a5 HE1
  rintro e w5 ⟨rfl, b5⟩
  have HP5 := Lib.hid (HP4.out.below b5)
  obtain ⟨a0, a1, a2, a3, a4, a5⟩ : six w5 w3.heap.size t2.k t2.op t2.n t2.v t2.f t2.A t2.ks.length t2.c := six_has HP5.out.hy
  have HE2' := Lib.hid (HE2.out w5 b5)
  have HB5 := Lib.hid b5
  clear b5 HE2
  dsimp only [two]
  go_wp2_with fail
  refine HE2'.out.mono ?_
  clear a0 a1 a2 a3 a4 a5 HE2'
  rintro e w6 ⟨rfl, b6⟩
  have HP6 := Lib.hid (HP5.out.below b6)
  have b46 := HB5.out.trans (b6.mono HB5.out.size)
  obtain ⟨hq, hqb⟩ := bdW_q HP6.out
  have b47 := b46.trans (hqb.mono b46.size)
  have HB7 := Lib.hid (HB4.out.trans (b47.mono HB4.out.size))
  have HBD7 := Lib.hid (HBD.out.below b47)
  have HQ7 := Lib.hid hq
  obtain ⟨a0, a1, a2, a3, a4, a5⟩ : six w6 w2.heap.size t1.k t1.op t1.n t1.v t1.f t1.A t1.ks.length t1.c := six_has HP6.out.hx
  obtain ⟨d0, dd1, dd2, d3, d4, d5⟩ : six w6 w3.heap.size t2.k t2.op t2.n t2.v t2.f t2.A t2.ks.length t2.c := six_has HP6.out.hy
  have lx := World.block_lt_of_cell? _ _ a0
  have ly := World.block_lt_of_cell? _ _ d0
  simp only at lx ly
  clear b6 b46 hq hqb b47 HP4 HP5 HB4 HB5 HBD
  dsimp only [two]
  -- END (written by wip/tools/genbad.py)
  obtain ⟨W7, hW7⟩ : ∃ W7, bdW w6 t1 t2 = W7 := ⟨_, rfl⟩
  rw [hW7] at HB7 HBD7 HQ7
  obtain ⟨V2, hV2⟩ : ∃ V2, (w6.alloc (.cells #[.int .i64 t1.k, .string (str t1.op), .int .i64 t1.n, .string (str t1.v), .string (str t1.f), .slice t1.A t1.ks.length t1.c] 24)).alloc (.cells #[.int .i64 2, .string { data := #[33] }, .int .i64 0, .string { data := #[] }, .string { data := #[] }, .slice (some ⟨w6.heap.size, 0, none⟩) 1 1] 24) = V2 := ⟨_, rfl⟩
  have bV2 : Below w6.heap.size w6 V2 := by rw [← hV2]; exact ((Below.refl _ _).alloc (Nat.le_refl _) _).alloc (by simp) _
  have zV2 : V2.heap.size = w6.heap.size + 1 + 1 := by rw [← hV2]; simp
  obtain ⟨V4, hV4⟩ : ∃ V4, (V2.alloc (.cells #[.int .i64 t1.k, .string (str t1.op), .int .i64 t1.n, .string (str t1.v), .string (str t1.f), .slice t1.A t1.ks.length t1.c, .int .i64 t2.k, .string (str t2.op), .int .i64 t2.n, .string (str t2.v), .string (str t2.f), .slice t2.A t2.ks.length t2.c] 24)).alloc (.cells #[.int .i64 3, .string { data := #[38, 38] }, .int .i64 0, .string { data := #[] }, .string { data := #[] }, .slice (some ⟨w6.heap.size + 1 + 1, 0, none⟩) 2 2] 24) = V4 := ⟨_, rfl⟩
  have bV4 : Below V2.heap.size V2 V4 := by rw [← hV4]; exact ((Below.refl _ _).alloc (Nat.le_refl _) _).alloc (by simp) _
  have zV4 : V4.heap.size = w6.heap.size + 1 + 1 + 1 + 1 := by rw [← hV4]; simp [zV2]
  have HWl : Hid ((V4.alloc (.cells #[.int .i64 t1.k, .string (str t1.op), .int .i64 t1.n, .string (str t1.v), .string (str t1.f), .slice t1.A t1.ks.length t1.c, .int .i64 t2.k, .string (str t2.op), .int .i64 t2.n, .string (str t2.v), .string (str t2.f), .slice t2.A t2.ks.length t2.c] 24)).alloc (.cells #[.int .i64 3, .string { data := #[124, 124] }, .int .i64 0, .string { data := #[] }, .string { data := #[] }, .slice (some ⟨w6.heap.size + 1 + 1 + 1 + 1, 0, none⟩) 2 2] 24) = W7) := Lib.hid (by rw [← hV4, ← hV2]; exact hW7)
  have hP2 := HP6.out.below bV2
  have hP4 := hP2.below bV4
  obtain ⟨e0, e1, e2, e3, e4, e5⟩ : six V2 w2.heap.size t1.k t1.op t1.n t1.v t1.f t1.A t1.ks.length t1.c := six_has hP2.hx
  obtain ⟨f0, f1, f2, f3, f4, f5⟩ : six V2 w3.heap.size t2.k t2.op t2.n t2.v t2.f t2.A t2.ks.length t2.c := six_has hP2.hy
  obtain ⟨g0, g1, g2, g3, g4, g5⟩ : six V4 w2.heap.size t1.k t1.op t1.n t1.v t1.f t1.A t1.ks.length t1.c := six_has hP4.hx
  obtain ⟨i0, i1, i2, i3, i4, i5⟩ : six V4 w3.heap.size t2.k t2.op t2.n t2.v t2.f t2.A t2.ks.length t2.c := six_has hP4.hy
  clear hP2 hP4 bV2 bV4
  have hh : ∀ (tt : ET) (r : Bool), holdsV bl tt = r → tt.In W7 → ∀ u, Below W7.heap.size W7 u → Calls Tryd.prog 45 #[tt.val, .slice A bl.length c] u fun e w' => e = .returned (.bool r) ∧ Below u.heap.size u w' := fun tt r hr hi u hu => by
    have := holds_any H64.out tt u (hi.below hu) (HQ7.out.p.tabs.below hu) (HBD7.out.below hu)
    rw [hr] at this
    exact this
  have HHX := Lib.hid (hh t1 _ (hb_tru HG1.out.1 HG1.out.2.1 HK.out.1) HQ7.out.p.i1)
  have HHN := Lib.hid (hh (bdNot w6.heap.size t1) _ (hb_no _ _ HG1.out.1 HG1.out.2.1 HK.out.1) HQ7.out.n)
  have HHA := Lib.hid (hh (bdAnd w6.heap.size t1 t2) _ (hb_and _ _ HG1.out.1 HG1.out.2.1 HK.out.1 HG2.out.1 HG2.out.2.1 HK.out.2) HQ7.out.a)
  have HHO := Lib.hid (hh (bdOr w6.heap.size t1 t2) _ (hb_or _ _ HG1.out.1 HG1.out.2.1 HK.out.1 HG2.out.1 HG2.out.2.1 HK.out.2) HQ7.out.o)
  clear hh hW7 HK HG1 HG2 H64 HBD7 HP6
  have hcs : d1 = true ∨ (d1 = false ∧ p1 = false ∧ d2 = true) ∨ (d1 = false ∧ p1 = false ∧ d2 = false ∧ p2 = false) ∨ (d1 = false ∧ p1 = false ∧ d2 = false ∧ p2 = true) ∨ (d1 = false ∧ p1 = true ∧ d2 = true) ∨ (d1 = false ∧ p1 = true ∧ d2 = false ∧ p2 = false) ∨ (d1 = false ∧ p1 = true ∧ d2 = false ∧ p2 = true) := by
    cases d1 <;> cases p1 <;> cases d2 <;> cases p2 <;> simp
  rcases hcs with rfl | ⟨rfl, rfl, rfl⟩ | ⟨rfl, rfl, rfl, rfl⟩ | ⟨rfl, rfl, rfl, rfl⟩ | ⟨rfl, rfl, rfl⟩ | ⟨rfl, rfl, rfl, rfl⟩ | ⟨rfl, rfl, rfl, rfl⟩
  · rw [show tNum p1 true = (0, false) from rfl]
    obtain ⟨n2, ok2, hn2⟩ : ∃ n ok, tNum p2 d2 = (n, ok) := ⟨_, _, rfl⟩
    rw [hn2]
    clear hn2
    have hWl := HWl.out
    obtain ⟨j0, j1, j2, j3, j4, j5⟩ : six W7 w2.heap.size t1.k t1.op t1.n t1.v t1.f t1.A t1.ks.length t1.c := six_has HQ7.out.p.hx
    go_wp2_with fail
    clear j0 j1 j2 j3 j4 j5 hWl a0 a1 a2 a3 a4 a5 d0 dd1 dd2 d3 d4 d5 lx ly e0 e1 e2 e3 e4 e5 f0 f1 f2 f3 f4 f5 g0 g1 g2 g3 g4 g5 i0 i1 i2 i3 i4 i5 hV2 hV4 zV2 zV4
    have hc : Calls Tryd.prog 45 #[.agg #[.int .i64 t1.k, .string (str t1.op), .int .i64 t1.n, .string (str t1.v), .string (str t1.f), .slice t1.A t1.ks.length t1.c], .slice A bl.length c] W7 fun e w' => e = .returned (.bool false) ∧ Below W7.heap.size W7 w' := by
      exact HHX.out W7 (Below.refl _ _)
    refine hc.mono ?_
    clear hc
    rintro e w8 ⟨rfl, bb⟩
    have B8 := Lib.hid bb
    have HQ8 := Lib.hid (HQ7.out.below bb)
    clear bb
    obtain ⟨a0, a1, a2, a3, a4, a5⟩ : six w8 (w6.heap.size + 1) 2 [33] 0 [] [] (some ⟨w6.heap.size, 0, none⟩) 1 1 := six_has HQ8.out.hn
    go_wp2_with fail
    have hc : Calls Tryd.prog 45 #[.agg #[.int .i64 2, .string { data := #[33] }, .int .i64 0, .string { data := #[] }, .string { data := #[] }, .slice (some ⟨w6.heap.size, 0, none⟩) 1 1], .slice A bl.length c] w8 fun e w' => e = .returned (.bool false) ∧ Below w8.heap.size w8 w' := by
      exact HHN.out w8 B8.out
    refine hc.mono ?_
    clear hc
    rintro e w9 ⟨rfl, bb⟩
    clear a0 a1 a2 a3 a4 a5
    have B9 := Lib.hid (B8.out.trans (bb.mono B8.out.size))
    have HQ9 := Lib.hid (HQ8.out.below bb)
    clear bb
    obtain ⟨a0, a1, a2, a3, a4, a5⟩ : six w9 (w6.heap.size + 1 + 1 + 1) 3 [38, 38] 0 [] [] (some ⟨w6.heap.size + 1 + 1, 0, none⟩) 2 2 := six_has HQ9.out.ha
    go_wp2_with fail
    have hc : Calls Tryd.prog 45 #[.agg #[.int .i64 3, .string { data := #[38, 38] }, .int .i64 0, .string { data := #[] }, .string { data := #[] }, .slice (some ⟨w6.heap.size + 1 + 1, 0, none⟩) 2 2], .slice A bl.length c] w9 fun e w' => e = .returned (.bool false) ∧ Below w9.heap.size w9 w' := by
      exact HHA.out w9 B9.out
    refine hc.mono ?_
    clear hc
    rintro e w10 ⟨rfl, bb⟩
    clear a0 a1 a2 a3 a4 a5
    have B10 := Lib.hid (B9.out.trans (bb.mono B9.out.size))
    have HQ10 := Lib.hid (HQ9.out.below bb)
    clear bb
    obtain ⟨a0, a1, a2, a3, a4, a5⟩ : six w10 (w6.heap.size + 1 + 1 + 1 + 1 + 1) 3 [124, 124] 0 [] [] (some ⟨w6.heap.size + 1 + 1 + 1 + 1, 0, none⟩) 2 2 := six_has HQ10.out.ho
    go_wp2_with fail
    have hc : Calls Tryd.prog 45 #[.agg #[.int .i64 3, .string { data := #[124, 124] }, .int .i64 0, .string { data := #[] }, .string { data := #[] }, .slice (some ⟨w6.heap.size + 1 + 1 + 1 + 1, 0, none⟩) 2 2], .slice A bl.length c] w10 fun e w' => e = .returned (.bool false) ∧ Below w10.heap.size w10 w' := by
      exact HHO.out w10 B10.out
    refine hc.mono ?_
    clear hc
    rintro e w11 ⟨rfl, bb⟩
    clear a0 a1 a2 a3 a4 a5
    have B11 := Lib.hid (HB7.out.trans ((B10.out.trans (bb.mono B10.out.size)).mono HB7.out.size))
    clear bb
    go_wp2_with fail
    go_ret
    exact ⟨rfl, B11.out⟩
  · rw [show tNum false false = (0, true) from rfl, show tNum p2 true = (0, false) from rfl]
    have hWl := HWl.out
    obtain ⟨j0, j1, j2, j3, j4, j5⟩ : six W7 w2.heap.size t1.k t1.op t1.n t1.v t1.f t1.A t1.ks.length t1.c := six_has HQ7.out.p.hx
    go_wp2_with fail
    clear j0 j1 j2 j3 j4 j5 hWl a0 a1 a2 a3 a4 a5 d0 dd1 dd2 d3 d4 d5 lx ly e0 e1 e2 e3 e4 e5 f0 f1 f2 f3 f4 f5 g0 g1 g2 g3 g4 g5 i0 i1 i2 i3 i4 i5 hV2 hV4 zV2 zV4
    have hc : Calls Tryd.prog 45 #[.agg #[.int .i64 t1.k, .string (str t1.op), .int .i64 t1.n, .string (str t1.v), .string (str t1.f), .slice t1.A t1.ks.length t1.c], .slice A bl.length c] W7 fun e w' => e = .returned (.bool false) ∧ Below W7.heap.size W7 w' := by
      exact HHX.out W7 (Below.refl _ _)
    refine hc.mono ?_
    clear hc
    rintro e w8 ⟨rfl, bb⟩
    have B8 := Lib.hid bb
    have HQ8 := Lib.hid (HQ7.out.below bb)
    clear bb
    obtain ⟨a0, a1, a2, a3, a4, a5⟩ : six w8 (w6.heap.size + 1) 2 [33] 0 [] [] (some ⟨w6.heap.size, 0, none⟩) 1 1 := six_has HQ8.out.hn
    go_wp2_with fail
    have hc : Calls Tryd.prog 45 #[.agg #[.int .i64 2, .string { data := #[33] }, .int .i64 0, .string { data := #[] }, .string { data := #[] }, .slice (some ⟨w6.heap.size, 0, none⟩) 1 1], .slice A bl.length c] w8 fun e w' => e = .returned (.bool true) ∧ Below w8.heap.size w8 w' := by
      exact HHN.out w8 B8.out
    refine hc.mono ?_
    clear hc
    rintro e w9 ⟨rfl, bb⟩
    clear a0 a1 a2 a3 a4 a5
    have B9 := Lib.hid (B8.out.trans (bb.mono B8.out.size))
    have HQ9 := Lib.hid (HQ8.out.below bb)
    clear bb
    obtain ⟨a0, a1, a2, a3, a4, a5⟩ : six w9 (w6.heap.size + 1 + 1 + 1) 3 [38, 38] 0 [] [] (some ⟨w6.heap.size + 1 + 1, 0, none⟩) 2 2 := six_has HQ9.out.ha
    go_wp2_with fail
    have hc : Calls Tryd.prog 45 #[.agg #[.int .i64 3, .string { data := #[38, 38] }, .int .i64 0, .string { data := #[] }, .string { data := #[] }, .slice (some ⟨w6.heap.size + 1 + 1, 0, none⟩) 2 2], .slice A bl.length c] w9 fun e w' => e = .returned (.bool false) ∧ Below w9.heap.size w9 w' := by
      exact HHA.out w9 B9.out
    refine hc.mono ?_
    clear hc
    rintro e w10 ⟨rfl, bb⟩
    clear a0 a1 a2 a3 a4 a5
    have B10 := Lib.hid (B9.out.trans (bb.mono B9.out.size))
    have HQ10 := Lib.hid (HQ9.out.below bb)
    clear bb
    obtain ⟨a0, a1, a2, a3, a4, a5⟩ : six w10 (w6.heap.size + 1 + 1 + 1 + 1 + 1) 3 [124, 124] 0 [] [] (some ⟨w6.heap.size + 1 + 1 + 1 + 1, 0, none⟩) 2 2 := six_has HQ10.out.ho
    go_wp2_with fail
    have hc : Calls Tryd.prog 45 #[.agg #[.int .i64 3, .string { data := #[124, 124] }, .int .i64 0, .string { data := #[] }, .string { data := #[] }, .slice (some ⟨w6.heap.size + 1 + 1 + 1 + 1, 0, none⟩) 2 2], .slice A bl.length c] w10 fun e w' => e = .returned (.bool false) ∧ Below w10.heap.size w10 w' := by
      exact HHO.out w10 B10.out
    refine hc.mono ?_
    clear hc
    rintro e w11 ⟨rfl, bb⟩
    clear a0 a1 a2 a3 a4 a5
    have B11 := Lib.hid (HB7.out.trans ((B10.out.trans (bb.mono B10.out.size)).mono HB7.out.size))
    clear bb
    go_wp2_with fail
    go_ret
    exact ⟨rfl, B11.out⟩
  · rw [show tNum false false = (0, true) from rfl]
    have hWl := HWl.out
    obtain ⟨j0, j1, j2, j3, j4, j5⟩ : six W7 w2.heap.size t1.k t1.op t1.n t1.v t1.f t1.A t1.ks.length t1.c := six_has HQ7.out.p.hx
    go_wp2_with fail
    clear j0 j1 j2 j3 j4 j5 hWl a0 a1 a2 a3 a4 a5 d0 dd1 dd2 d3 d4 d5 lx ly e0 e1 e2 e3 e4 e5 f0 f1 f2 f3 f4 f5 g0 g1 g2 g3 g4 g5 i0 i1 i2 i3 i4 i5 hV2 hV4 zV2 zV4
    have hc : Calls Tryd.prog 45 #[.agg #[.int .i64 t1.k, .string (str t1.op), .int .i64 t1.n, .string (str t1.v), .string (str t1.f), .slice t1.A t1.ks.length t1.c], .slice A bl.length c] W7 fun e w' => e = .returned (.bool false) ∧ Below W7.heap.size W7 w' := by
      exact HHX.out W7 (Below.refl _ _)
    refine hc.mono ?_
    clear hc
    rintro e w8 ⟨rfl, bb⟩
    have B8 := Lib.hid bb
    have HQ8 := Lib.hid (HQ7.out.below bb)
    clear bb
    obtain ⟨a0, a1, a2, a3, a4, a5⟩ : six w8 (w6.heap.size + 1) 2 [33] 0 [] [] (some ⟨w6.heap.size, 0, none⟩) 1 1 := six_has HQ8.out.hn
    go_wp2_with fail
    have hc : Calls Tryd.prog 45 #[.agg #[.int .i64 2, .string { data := #[33] }, .int .i64 0, .string { data := #[] }, .string { data := #[] }, .slice (some ⟨w6.heap.size, 0, none⟩) 1 1], .slice A bl.length c] w8 fun e w' => e = .returned (.bool true) ∧ Below w8.heap.size w8 w' := by
      exact HHN.out w8 B8.out
    refine hc.mono ?_
    clear hc
    rintro e w9 ⟨rfl, bb⟩
    clear a0 a1 a2 a3 a4 a5
    have B9 := Lib.hid (B8.out.trans (bb.mono B8.out.size))
    have HQ9 := Lib.hid (HQ8.out.below bb)
    clear bb
    obtain ⟨a0, a1, a2, a3, a4, a5⟩ : six w9 (w6.heap.size + 1 + 1 + 1) 3 [38, 38] 0 [] [] (some ⟨w6.heap.size + 1 + 1, 0, none⟩) 2 2 := six_has HQ9.out.ha
    go_wp2_with fail
    have hc : Calls Tryd.prog 45 #[.agg #[.int .i64 3, .string { data := #[38, 38] }, .int .i64 0, .string { data := #[] }, .string { data := #[] }, .slice (some ⟨w6.heap.size + 1 + 1, 0, none⟩) 2 2], .slice A bl.length c] w9 fun e w' => e = .returned (.bool false) ∧ Below w9.heap.size w9 w' := by
      exact HHA.out w9 B9.out
    refine hc.mono ?_
    clear hc
    rintro e w10 ⟨rfl, bb⟩
    clear a0 a1 a2 a3 a4 a5
    have B10 := Lib.hid (B9.out.trans (bb.mono B9.out.size))
    have HQ10 := Lib.hid (HQ9.out.below bb)
    clear bb
    obtain ⟨a0, a1, a2, a3, a4, a5⟩ : six w10 (w6.heap.size + 1 + 1 + 1 + 1 + 1) 3 [124, 124] 0 [] [] (some ⟨w6.heap.size + 1 + 1 + 1 + 1, 0, none⟩) 2 2 := six_has HQ10.out.ho
    go_wp2_with fail
    have hc : Calls Tryd.prog 45 #[.agg #[.int .i64 3, .string { data := #[124, 124] }, .int .i64 0, .string { data := #[] }, .string { data := #[] }, .slice (some ⟨w6.heap.size + 1 + 1 + 1 + 1, 0, none⟩) 2 2], .slice A bl.length c] w10 fun e w' => e = .returned (.bool false) ∧ Below w10.heap.size w10 w' := by
      exact HHO.out w10 B10.out
    refine hc.mono ?_
    clear hc
    rintro e w11 ⟨rfl, bb⟩
    clear a0 a1 a2 a3 a4 a5
    have B11 := Lib.hid (HB7.out.trans ((B10.out.trans (bb.mono B10.out.size)).mono HB7.out.size))
    clear bb
    go_wp2_with fail
    go_ret
    exact ⟨rfl, B11.out⟩
  · rw [show tNum false false = (0, true) from rfl, show tNum true false = (1, true) from rfl]
    have hWl := HWl.out
    obtain ⟨j0, j1, j2, j3, j4, j5⟩ : six W7 w2.heap.size t1.k t1.op t1.n t1.v t1.f t1.A t1.ks.length t1.c := six_has HQ7.out.p.hx
    go_wp2_with fail
    clear j0 j1 j2 j3 j4 j5 hWl a0 a1 a2 a3 a4 a5 d0 dd1 dd2 d3 d4 d5 lx ly e0 e1 e2 e3 e4 e5 f0 f1 f2 f3 f4 f5 g0 g1 g2 g3 g4 g5 i0 i1 i2 i3 i4 i5 hV2 hV4 zV2 zV4
    have hc : Calls Tryd.prog 45 #[.agg #[.int .i64 t1.k, .string (str t1.op), .int .i64 t1.n, .string (str t1.v), .string (str t1.f), .slice t1.A t1.ks.length t1.c], .slice A bl.length c] W7 fun e w' => e = .returned (.bool false) ∧ Below W7.heap.size W7 w' := by
      exact HHX.out W7 (Below.refl _ _)
    refine hc.mono ?_
    clear hc
    rintro e w8 ⟨rfl, bb⟩
    have B8 := Lib.hid bb
    have HQ8 := Lib.hid (HQ7.out.below bb)
    clear bb
    obtain ⟨a0, a1, a2, a3, a4, a5⟩ : six w8 (w6.heap.size + 1) 2 [33] 0 [] [] (some ⟨w6.heap.size, 0, none⟩) 1 1 := six_has HQ8.out.hn
    go_wp2_with fail
    have hc : Calls Tryd.prog 45 #[.agg #[.int .i64 2, .string { data := #[33] }, .int .i64 0, .string { data := #[] }, .string { data := #[] }, .slice (some ⟨w6.heap.size, 0, none⟩) 1 1], .slice A bl.length c] w8 fun e w' => e = .returned (.bool true) ∧ Below w8.heap.size w8 w' := by
      exact HHN.out w8 B8.out
    refine hc.mono ?_
    clear hc
    rintro e w9 ⟨rfl, bb⟩
    clear a0 a1 a2 a3 a4 a5
    have B9 := Lib.hid (B8.out.trans (bb.mono B8.out.size))
    have HQ9 := Lib.hid (HQ8.out.below bb)
    clear bb
    obtain ⟨a0, a1, a2, a3, a4, a5⟩ : six w9 (w6.heap.size + 1 + 1 + 1) 3 [38, 38] 0 [] [] (some ⟨w6.heap.size + 1 + 1, 0, none⟩) 2 2 := six_has HQ9.out.ha
    go_wp2_with fail
    have hc : Calls Tryd.prog 45 #[.agg #[.int .i64 3, .string { data := #[38, 38] }, .int .i64 0, .string { data := #[] }, .string { data := #[] }, .slice (some ⟨w6.heap.size + 1 + 1, 0, none⟩) 2 2], .slice A bl.length c] w9 fun e w' => e = .returned (.bool false) ∧ Below w9.heap.size w9 w' := by
      exact HHA.out w9 B9.out
    refine hc.mono ?_
    clear hc
    rintro e w10 ⟨rfl, bb⟩
    clear a0 a1 a2 a3 a4 a5
    have B10 := Lib.hid (B9.out.trans (bb.mono B9.out.size))
    have HQ10 := Lib.hid (HQ9.out.below bb)
    clear bb
    obtain ⟨a0, a1, a2, a3, a4, a5⟩ : six w10 (w6.heap.size + 1 + 1 + 1 + 1 + 1) 3 [124, 124] 0 [] [] (some ⟨w6.heap.size + 1 + 1 + 1 + 1, 0, none⟩) 2 2 := six_has HQ10.out.ho
    go_wp2_with fail
    have hc : Calls Tryd.prog 45 #[.agg #[.int .i64 3, .string { data := #[124, 124] }, .int .i64 0, .string { data := #[] }, .string { data := #[] }, .slice (some ⟨w6.heap.size + 1 + 1 + 1 + 1, 0, none⟩) 2 2], .slice A bl.length c] w10 fun e w' => e = .returned (.bool true) ∧ Below w10.heap.size w10 w' := by
      exact HHO.out w10 B10.out
    refine hc.mono ?_
    clear hc
    rintro e w11 ⟨rfl, bb⟩
    clear a0 a1 a2 a3 a4 a5
    have B11 := Lib.hid (HB7.out.trans ((B10.out.trans (bb.mono B10.out.size)).mono HB7.out.size))
    clear bb
    go_wp2_with fail
    go_ret
    exact ⟨rfl, B11.out⟩
  · rw [show tNum true false = (1, true) from rfl, show tNum p2 true = (0, false) from rfl]
    have hWl := HWl.out
    obtain ⟨j0, j1, j2, j3, j4, j5⟩ : six W7 w2.heap.size t1.k t1.op t1.n t1.v t1.f t1.A t1.ks.length t1.c := six_has HQ7.out.p.hx
    go_wp2_with fail
    clear j0 j1 j2 j3 j4 j5 hWl a0 a1 a2 a3 a4 a5 d0 dd1 dd2 d3 d4 d5 lx ly e0 e1 e2 e3 e4 e5 f0 f1 f2 f3 f4 f5 g0 g1 g2 g3 g4 g5 i0 i1 i2 i3 i4 i5 hV2 hV4 zV2 zV4
    have hc : Calls Tryd.prog 45 #[.agg #[.int .i64 t1.k, .string (str t1.op), .int .i64 t1.n, .string (str t1.v), .string (str t1.f), .slice t1.A t1.ks.length t1.c], .slice A bl.length c] W7 fun e w' => e = .returned (.bool true) ∧ Below W7.heap.size W7 w' := by
      exact HHX.out W7 (Below.refl _ _)
    refine hc.mono ?_
    clear hc
    rintro e w8 ⟨rfl, bb⟩
    have B8 := Lib.hid bb
    have HQ8 := Lib.hid (HQ7.out.below bb)
    clear bb
    obtain ⟨a0, a1, a2, a3, a4, a5⟩ : six w8 (w6.heap.size + 1) 2 [33] 0 [] [] (some ⟨w6.heap.size, 0, none⟩) 1 1 := six_has HQ8.out.hn
    go_wp2_with fail
    have hc : Calls Tryd.prog 45 #[.agg #[.int .i64 2, .string { data := #[33] }, .int .i64 0, .string { data := #[] }, .string { data := #[] }, .slice (some ⟨w6.heap.size, 0, none⟩) 1 1], .slice A bl.length c] w8 fun e w' => e = .returned (.bool false) ∧ Below w8.heap.size w8 w' := by
      exact HHN.out w8 B8.out
    refine hc.mono ?_
    clear hc
    rintro e w9 ⟨rfl, bb⟩
    clear a0 a1 a2 a3 a4 a5
    have B9 := Lib.hid (B8.out.trans (bb.mono B8.out.size))
    have HQ9 := Lib.hid (HQ8.out.below bb)
    clear bb
    obtain ⟨a0, a1, a2, a3, a4, a5⟩ : six w9 (w6.heap.size + 1 + 1 + 1) 3 [38, 38] 0 [] [] (some ⟨w6.heap.size + 1 + 1, 0, none⟩) 2 2 := six_has HQ9.out.ha
    go_wp2_with fail
    have hc : Calls Tryd.prog 45 #[.agg #[.int .i64 3, .string { data := #[38, 38] }, .int .i64 0, .string { data := #[] }, .string { data := #[] }, .slice (some ⟨w6.heap.size + 1 + 1, 0, none⟩) 2 2], .slice A bl.length c] w9 fun e w' => e = .returned (.bool false) ∧ Below w9.heap.size w9 w' := by
      exact HHA.out w9 B9.out
    refine hc.mono ?_
    clear hc
    rintro e w10 ⟨rfl, bb⟩
    clear a0 a1 a2 a3 a4 a5
    have B10 := Lib.hid (B9.out.trans (bb.mono B9.out.size))
    have HQ10 := Lib.hid (HQ9.out.below bb)
    clear bb
    obtain ⟨a0, a1, a2, a3, a4, a5⟩ : six w10 (w6.heap.size + 1 + 1 + 1 + 1 + 1) 3 [124, 124] 0 [] [] (some ⟨w6.heap.size + 1 + 1 + 1 + 1, 0, none⟩) 2 2 := six_has HQ10.out.ho
    go_wp2_with fail
    have hc : Calls Tryd.prog 45 #[.agg #[.int .i64 3, .string { data := #[124, 124] }, .int .i64 0, .string { data := #[] }, .string { data := #[] }, .slice (some ⟨w6.heap.size + 1 + 1 + 1 + 1, 0, none⟩) 2 2], .slice A bl.length c] w10 fun e w' => e = .returned (.bool true) ∧ Below w10.heap.size w10 w' := by
      exact HHO.out w10 B10.out
    refine hc.mono ?_
    clear hc
    rintro e w11 ⟨rfl, bb⟩
    clear a0 a1 a2 a3 a4 a5
    have B11 := Lib.hid (HB7.out.trans ((B10.out.trans (bb.mono B10.out.size)).mono HB7.out.size))
    clear bb
    go_wp2_with fail
    go_ret
    exact ⟨rfl, B11.out⟩
  · rw [show tNum true false = (1, true) from rfl, show tNum false false = (0, true) from rfl]
    have hWl := HWl.out
    obtain ⟨j0, j1, j2, j3, j4, j5⟩ : six W7 w2.heap.size t1.k t1.op t1.n t1.v t1.f t1.A t1.ks.length t1.c := six_has HQ7.out.p.hx
    go_wp2_with fail
    clear j0 j1 j2 j3 j4 j5 hWl a0 a1 a2 a3 a4 a5 d0 dd1 dd2 d3 d4 d5 lx ly e0 e1 e2 e3 e4 e5 f0 f1 f2 f3 f4 f5 g0 g1 g2 g3 g4 g5 i0 i1 i2 i3 i4 i5 hV2 hV4 zV2 zV4
    have hc : Calls Tryd.prog 45 #[.agg #[.int .i64 t1.k, .string (str t1.op), .int .i64 t1.n, .string (str t1.v), .string (str t1.f), .slice t1.A t1.ks.length t1.c], .slice A bl.length c] W7 fun e w' => e = .returned (.bool true) ∧ Below W7.heap.size W7 w' := by
      exact HHX.out W7 (Below.refl _ _)
    refine hc.mono ?_
    clear hc
    rintro e w8 ⟨rfl, bb⟩
    have B8 := Lib.hid bb
    have HQ8 := Lib.hid (HQ7.out.below bb)
    clear bb
    obtain ⟨a0, a1, a2, a3, a4, a5⟩ : six w8 (w6.heap.size + 1) 2 [33] 0 [] [] (some ⟨w6.heap.size, 0, none⟩) 1 1 := six_has HQ8.out.hn
    go_wp2_with fail
    have hc : Calls Tryd.prog 45 #[.agg #[.int .i64 2, .string { data := #[33] }, .int .i64 0, .string { data := #[] }, .string { data := #[] }, .slice (some ⟨w6.heap.size, 0, none⟩) 1 1], .slice A bl.length c] w8 fun e w' => e = .returned (.bool false) ∧ Below w8.heap.size w8 w' := by
      exact HHN.out w8 B8.out
    refine hc.mono ?_
    clear hc
    rintro e w9 ⟨rfl, bb⟩
    clear a0 a1 a2 a3 a4 a5
    have B9 := Lib.hid (B8.out.trans (bb.mono B8.out.size))
    have HQ9 := Lib.hid (HQ8.out.below bb)
    clear bb
    obtain ⟨a0, a1, a2, a3, a4, a5⟩ : six w9 (w6.heap.size + 1 + 1 + 1) 3 [38, 38] 0 [] [] (some ⟨w6.heap.size + 1 + 1, 0, none⟩) 2 2 := six_has HQ9.out.ha
    go_wp2_with fail
    have hc : Calls Tryd.prog 45 #[.agg #[.int .i64 3, .string { data := #[38, 38] }, .int .i64 0, .string { data := #[] }, .string { data := #[] }, .slice (some ⟨w6.heap.size + 1 + 1, 0, none⟩) 2 2], .slice A bl.length c] w9 fun e w' => e = .returned (.bool false) ∧ Below w9.heap.size w9 w' := by
      exact HHA.out w9 B9.out
    refine hc.mono ?_
    clear hc
    rintro e w10 ⟨rfl, bb⟩
    clear a0 a1 a2 a3 a4 a5
    have B10 := Lib.hid (B9.out.trans (bb.mono B9.out.size))
    have HQ10 := Lib.hid (HQ9.out.below bb)
    clear bb
    obtain ⟨a0, a1, a2, a3, a4, a5⟩ : six w10 (w6.heap.size + 1 + 1 + 1 + 1 + 1) 3 [124, 124] 0 [] [] (some ⟨w6.heap.size + 1 + 1 + 1 + 1, 0, none⟩) 2 2 := six_has HQ10.out.ho
    go_wp2_with fail
    have hc : Calls Tryd.prog 45 #[.agg #[.int .i64 3, .string { data := #[124, 124] }, .int .i64 0, .string { data := #[] }, .string { data := #[] }, .slice (some ⟨w6.heap.size + 1 + 1 + 1 + 1, 0, none⟩) 2 2], .slice A bl.length c] w10 fun e w' => e = .returned (.bool true) ∧ Below w10.heap.size w10 w' := by
      exact HHO.out w10 B10.out
    refine hc.mono ?_
    clear hc
    rintro e w11 ⟨rfl, bb⟩
    clear a0 a1 a2 a3 a4 a5
    have B11 := Lib.hid (HB7.out.trans ((B10.out.trans (bb.mono B10.out.size)).mono HB7.out.size))
    clear bb
    go_wp2_with fail
    go_ret
    exact ⟨rfl, B11.out⟩
  · rw [show tNum true false = (1, true) from rfl]
    have hWl := HWl.out
    obtain ⟨j0, j1, j2, j3, j4, j5⟩ : six W7 w2.heap.size t1.k t1.op t1.n t1.v t1.f t1.A t1.ks.length t1.c := six_has HQ7.out.p.hx
    go_wp2_with fail
    clear j0 j1 j2 j3 j4 j5 hWl a0 a1 a2 a3 a4 a5 d0 dd1 dd2 d3 d4 d5 lx ly e0 e1 e2 e3 e4 e5 f0 f1 f2 f3 f4 f5 g0 g1 g2 g3 g4 g5 i0 i1 i2 i3 i4 i5 hV2 hV4 zV2 zV4
    have hc : Calls Tryd.prog 45 #[.agg #[.int .i64 t1.k, .string (str t1.op), .int .i64 t1.n, .string (str t1.v), .string (str t1.f), .slice t1.A t1.ks.length t1.c], .slice A bl.length c] W7 fun e w' => e = .returned (.bool true) ∧ Below W7.heap.size W7 w' := by
      exact HHX.out W7 (Below.refl _ _)
    refine hc.mono ?_
    clear hc
    rintro e w8 ⟨rfl, bb⟩
    have B8 := Lib.hid bb
    have HQ8 := Lib.hid (HQ7.out.below bb)
    clear bb
    obtain ⟨a0, a1, a2, a3, a4, a5⟩ : six w8 (w6.heap.size + 1) 2 [33] 0 [] [] (some ⟨w6.heap.size, 0, none⟩) 1 1 := six_has HQ8.out.hn
    go_wp2_with fail
    have hc : Calls Tryd.prog 45 #[.agg #[.int .i64 2, .string { data := #[33] }, .int .i64 0, .string { data := #[] }, .string { data := #[] }, .slice (some ⟨w6.heap.size, 0, none⟩) 1 1], .slice A bl.length c] w8 fun e w' => e = .returned (.bool false) ∧ Below w8.heap.size w8 w' := by
      exact HHN.out w8 B8.out
    refine hc.mono ?_
    clear hc
    rintro e w9 ⟨rfl, bb⟩
    clear a0 a1 a2 a3 a4 a5
    have B9 := Lib.hid (B8.out.trans (bb.mono B8.out.size))
    have HQ9 := Lib.hid (HQ8.out.below bb)
    clear bb
    obtain ⟨a0, a1, a2, a3, a4, a5⟩ : six w9 (w6.heap.size + 1 + 1 + 1) 3 [38, 38] 0 [] [] (some ⟨w6.heap.size + 1 + 1, 0, none⟩) 2 2 := six_has HQ9.out.ha
    go_wp2_with fail
    have hc : Calls Tryd.prog 45 #[.agg #[.int .i64 3, .string { data := #[38, 38] }, .int .i64 0, .string { data := #[] }, .string { data := #[] }, .slice (some ⟨w6.heap.size + 1 + 1, 0, none⟩) 2 2], .slice A bl.length c] w9 fun e w' => e = .returned (.bool true) ∧ Below w9.heap.size w9 w' := by
      exact HHA.out w9 B9.out
    refine hc.mono ?_
    clear hc
    rintro e w10 ⟨rfl, bb⟩
    clear a0 a1 a2 a3 a4 a5
    have B10 := Lib.hid (B9.out.trans (bb.mono B9.out.size))
    have HQ10 := Lib.hid (HQ9.out.below bb)
    clear bb
    obtain ⟨a0, a1, a2, a3, a4, a5⟩ : six w10 (w6.heap.size + 1 + 1 + 1 + 1 + 1) 3 [124, 124] 0 [] [] (some ⟨w6.heap.size + 1 + 1 + 1 + 1, 0, none⟩) 2 2 := six_has HQ10.out.ho
    go_wp2_with fail
    have hc : Calls Tryd.prog 45 #[.agg #[.int .i64 3, .string { data := #[124, 124] }, .int .i64 0, .string { data := #[] }, .string { data := #[] }, .slice (some ⟨w6.heap.size + 1 + 1 + 1 + 1, 0, none⟩) 2 2], .slice A bl.length c] w10 fun e w' => e = .returned (.bool true) ∧ Below w10.heap.size w10 w' := by
      exact HHO.out w10 B10.out
    refine hc.mono ?_
    clear hc
    rintro e w11 ⟨rfl, bb⟩
    clear a0 a1 a2 a3 a4 a5
    have B11 := Lib.hid (HB7.out.trans ((B10.out.trans (bb.mono B10.out.size)).mono HB7.out.size))
    clear bb
    go_wp2_with fail
    go_ret
    exact ⟨rfl, B11.out⟩
end Go.Proofs.YtaiohdcngkkafaaDoor
