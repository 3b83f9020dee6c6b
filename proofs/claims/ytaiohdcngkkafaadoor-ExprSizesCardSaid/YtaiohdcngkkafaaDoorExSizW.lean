/- ExprSizes' walk. -/
import Derived.Test.YtaiohdcngkkafaaDoorExSizM
import Derived.Test.YtaiohdcngkkafaaDoorExTypW
namespace Go.Proofs.YtaiohdcngkkafaaDoor
open Go.RowKit
set_option linter.unusedVariables false

set_option maxRecDepth 100000 in
set_option maxHeartbeats 32000000 in
theorem sizes_any (k n : Int) (op v f : Nm) (A : Option Addr) (m c : Nat) (o : Bool) (x : Option Addr) (len cap : Nat) (z : List Int) (w : World) (r : IsRow .u8 w x len cap z) (hz : ∀ n ∈ z, 0 ≤ n ∧ n ≤ 255) (hT : Tabs w) :
    Calls Tryd.prog 7 #[.agg #[.int .i64 k, .string (str op), .int .i64 n, .string (str v), .string (str f), .slice A m c, .bool o, .slice x len cap]] w fun e w' => e = .returned (.bool true) ∧ Below w.heap.size w w' := by
  obtain ⟨W0, hW0⟩ : ∃ W0, w.alloc (.cells #[.int .i64 k, .string (str op), .int .i64 n, .string (str v), .string (str f), .slice A m c, .bool o, .slice x len cap] 27) = W0 := ⟨_, rfl⟩
  have b0 : Below w.heap.size w W0 := by rw [← hW0]; exact step1 _ _
  have hx0 : Has W0 w.heap.size 27 #[.int .i64 k, .string (str op), .int .i64 n, .string (str v), .string (str f), .slice A m c, .bool o, .slice x len cap] := by rw [← hW0]; exact has_at rfl rfl
  have HEX := Lib.hid (ex_any W0 (hT.below b0))
  have HX0 := Lib.hid hx0
  have HB0 := Lib.hid b0
  have HR := Lib.hid (And.intro r hz)
  have HT := Lib.hid hT
  have HW0 := Lib.hid hW0
  clear hx0 b0 r hz hT hW0
  go_enter Tryd.func7, Tryd.ntmps7
  go_wp2_with fail
  rw [HW0.out]
  refine HEX.out.mono ?_
  rintro e w1 ⟨rfl, b1⟩
  have hx1 := HX0.out.below b1 HX0.out.lt
  have bw1 := HB0.out.trans (b1.mono HB0.out.size)
  obtain ⟨W3, hW3⟩ : ∃ u : World, w1.setCell ⟨w.heap.size, 6, none⟩ (.bool true) = u := ⟨_, rfl⟩
  have hx3 : Has W3 w.heap.size 27 #[.int .i64 k, .string (str op), .int .i64 n, .string (str v), .string (str f), .slice A m c, .bool true, .slice x len cap] := by rw [← hW3]; exact hx1.put 6 (.bool true)
  have bw3 : Below w.heap.size w W3 := by rw [← hW3]; exact bw1.setCell (p := ⟨w.heap.size, 6, none⟩) (Nat.le_refl _) _
  have hc1 := tree_any k n op v f A m c x len cap z W3 (HR.out.1.below bw3) HR.out.2
  have HC1 := Lib.hid hc1
  have HB3 := Lib.hid bw3
  have HT3 := Lib.hid (HT.out.below bw3)
  obtain ⟨p0, p1, p2, p3, p4, p5, p6, p7⟩ := eight_has hx1
  obtain ⟨s0, s1, s2, s3, s4, s5, s6, s7⟩ := eight_has hx3
  have g6 : w1.frozen? ⟨w.heap.size, 6, none⟩ = false := hx1.free 6
  clear b1 hx1 bw1 hx3 bw3 hc1
  go_wp2_with fail
  refine HC1.out.mono ?_
  clear p0 p1 p2 p3 p4 p5 p6 p7 s0 s1 s2 s3 s4 s5 s6 s7 g6 hW3 HC1 HX0 HEX
  rintro e w4 ⟨t, rfl, gg, nn, b4⟩
  obtain ⟨tk, top, tn, tv, tf, tA, tc, ks⟩ := t
  obtain ⟨hkl, htn, hkr⟩ := truth_of gg.1 gg.2.1
  simp only [ET.k, ET.ks, ET.n] at hkl htn hkr
  subst htn
  obtain ⟨-, b, off, rfl, -, -, -, -, -, -, -, -⟩ := nw_kid nn 0 (by omega)
  simp only [cs1, ET.k, ET.op, ET.n, ET.v, ET.f, ET.A, ET.c, ET.ks]
  obtain ⟨D, hD⟩ : ∃ D, ET.mk tk top 0 tv tf (some ⟨b, off, none⟩) tc ks = D := ⟨_, rfl⟩
  rw [hD] at gg nn
  have cD : cs1 D = #[.int .i64 tk, .string (str top), .int .i64 0, .string (str tv), .string (str tf), .slice (some ⟨b, off, none⟩) ks.length tc] := by rw [← hD]; rfl
  obtain ⟨Wa, hWa⟩ : ∃ u, w4.alloc (.cells #[.int .i64 tk, .string (str top), .int .i64 0, .string (str tv), .string (str tf), .slice (some ⟨b, off, none⟩) ks.length tc] 24) = u := ⟨_, rfl⟩
  have sa : Below w4.heap.size w4 Wa := by rw [← hWa]; exact step1 _ _
  have ha4 : Has Wa w4.heap.size 24 #[.int .i64 tk, .string (str top), .int .i64 0, .string (str tv), .string (str tf), .slice (some ⟨b, off, none⟩) ks.length tc] := by rw [← hWa]; exact has_at rfl rfl
  have b4a := b4.trans (sa.mono b4.size)
  have HBa := Lib.hid (HB3.out.trans (b4a.mono HB3.out.size))
  have HTa := Lib.hid (HT3.out.below b4a)
  have HIn := Lib.hid (nn.in_.below sa)
  have HG := Lib.hid gg
  have HK := Lib.hid hkl
  have HKR := Lib.hid hkr
  have HD := Lib.hid hD
  have HCD := Lib.hid cD
  have HA := Lib.hid ha4
  have hl12 : 1 ≤ ks.length ∧ ks.length ≤ 2 := by omega
  clear sa ha4 b4 b4a nn gg hkl hkr hD cD HB3 HT3
  go_wp2_with fail
  clear hWa
  go_loopw [5, 6] (fun nv i wr => ∃ (j : Nat) (S : Int), j ≤ ks.length ∧ i = .int .i64 j ∧ nv = .int .i64 S ∧ S = (sizeL (ks.take j) : Nat) + 1 ∧ Below Wa.heap.size Wa wr) (fun _ i _ => ks.length - (intOf i).toNat)
  case atStart => exact ⟨0, 1, Nat.zero_le _, rfl, rfl, by simp [sizeL_nil], Below.refl _ _⟩
  case round =>
    obtain ⟨j, S, hj, rfl, rfl, hS, hb⟩ := hrel
    have HBR := Lib.hid hb
    have HS := Lib.hid hS
    have HAr := Lib.hid (HA.out.below hb HA.out.lt)
    have HTr := Lib.hid (HTa.out.below hb)
    have HIr := Lib.hid (HIn.out.below hb)
    have hS64 : 1 ≤ S ∧ S ≤ 63 := by
      have h1 := sizeL_take_le ks j
      have h2 : (ET.mk tk top 0 tv tf (some ⟨b, off, none⟩) tc ks).size ≤ 63 := by rw [HD.out]; exact HG.out.2.2
      rw [size_mk] at h2
      omega
    clear hb hS
    obtain ⟨a0, a1, a2, a3, a4, a5⟩ := six_has' HAr.out
    by_cases hlt : j < ks.length
    · have hin2 := HIr.out
      rw [← HD.out] at hin2
      obtain ⟨⟨b', off', e', g0, g1, g2, g3, g4, g5⟩, hkin⟩ := hin2.kids j hlt
      cases e'
      have hmem : ks[j] ∈ ks := List.getElem_mem _
      have hr1 := HKR.out _ hmem
      have hs1 : ks[j].size ≤ 62 := by
        have h2 : (ET.mk tk top 0 tv tf (some ⟨b, off, none⟩) tc ks).size ≤ 63 := by rw [HD.out]; exact HG.out.2.2
        have := size_le (t := ET.mk tk top 0 tv tf (some ⟨b, off, none⟩) tc ks) hmem
        omega
      have hst := sizeL_take hlt
      obtain ⟨y, hy⟩ : ∃ y, ks[j] = y := ⟨_, rfl⟩
      rw [hy] at g0 g1 g2 g3 g4 g5 hkin hr1 hs1 hst
      have hcs := size_any y wr hkin (by omega)
      rw [show y.val = Value.agg #[.int .i64 y.k, .string (str y.op), .int .i64 y.n, .string (str y.v), .string (str y.f), .slice y.A y.ks.length y.c] from rfl] at hcs
      obtain ⟨s, hs⟩ : ∃ s, y.size = s := ⟨_, rfl⟩
      rw [hs] at hcs hs1 hst
      have hss : S + s = (sizeL (ks.take (j + 1)) : Nat) + 1 := by have := HS.out; omega
      have hss64 : S + s ≤ 125 := by omega
      have HSS := Lib.hid hss
      have HCS := Lib.hid hcs
      have HKI := Lib.hid hkin
      have HCJ : Hid (CellsAt wr (some ⟨b, off, none⟩) j y) := Lib.hid ⟨b, off, rfl, g0, g1, g2, g3, g4, g5⟩
      have HRY := Lib.hid hr1
      have hjI : (j : Int) < ks.length := by omega
      clear hin2 hmem hr1 hst hy hcs hs hss hkin hlt
      go_wp2_with fail
      refine HCS.out.mono ?_
      clear g0 g1 g2 g3 g4 g5 a0 a1 a2 a3 a4 a5 HCS
      rintro e w5 ⟨rfl, b5⟩
      have HB5 := Lib.hid (HBR.out.trans (b5.mono HBR.out.size))
      have HA5 := Lib.hid (HAr.out.below b5 HAr.out.lt)
      have hcr := right_any y w5 (HKI.out.below b5) (HTr.out.below b5)
      rw [HRY.out, show y.val = Value.agg #[.int .i64 y.k, .string (str y.op), .int .i64 y.n, .string (str y.v), .string (str y.f), .slice y.A y.ks.length y.c] from rfl] at hcr
      have HCR := Lib.hid hcr
      obtain ⟨b', off', e', g0, g1, g2, g3, g4, g5⟩ := HCJ.out.below b5
      cases e'
      obtain ⟨a0, a1, a2, a3, a4, a5⟩ := six_has' HA5.out
      clear b5 hcr
      go_wp2_with fail
      refine HCR.out.mono ?_
      clear g0 g1 g2 g3 g4 g5 a0 a1 a2 a3 a4 a5 HCR
      rintro e w6 ⟨rfl, b6⟩
      go_wp2_with fail
      go_roundw
      case rel => exact ⟨j + 1, S + s, by omega, by go_num, rfl, HSS.out, HB5.out.trans (b6.mono HB5.out.size)⟩
      case measure => simp [intOf]; omega
    · have hSD : S = (D.size : Int) := by
        have h1 := HS.out
        rw [List.take_of_length_le (by omega)] at h1
        rw [← HD.out, size_mk]
        omega
      have hjI : ¬ (j : Int) < ks.length := by omega
      obtain ⟨Wm, hWm⟩ : ∃ u, wr.alloc (.cells #[.int .i64 tk, .string (str top), .int .i64 0, .string (str tv), .string (str tf), .slice (some ⟨b, off, none⟩) ks.length tc] 24) = u := ⟨_, rfl⟩
      have sm : Below wr.heap.size wr Wm := by rw [← hWm]; exact step1 _ _
      have hm : Has Wm wr.heap.size 24 #[.int .i64 tk, .string (str top), .int .i64 0, .string (str tv), .string (str tf), .slice (some ⟨b, off, none⟩) ks.length tc] := by rw [← hWm]; exact has_at rfl rfl
      have HM := Lib.hid (And.intro hm sm)
      have HAm := HAr.out.below sm HAr.out.lt
      have him := HIr.out.below sm
      have htm := HTr.out.below sm
      rw [← HD.out] at him
      obtain ⟨v1, w5, r1, o1, b5⟩ := app_kids him (by show 0 < ks.length; omega) (by show ks.length ≤ 2; omega)
      simp only [ET.A, ET.ks, ET.c] at r1 o1
      have sn := step1 w5 (.cells #[.int .i64 0, .string { data := #[] }, .int .i64 1, .string { data := #[] }, .string { data := #[] }, .slice none 0 0] 24)
      have hone : Has (w5.alloc (.cells #[.int .i64 0, .string { data := #[] }, .int .i64 1, .string { data := #[] }, .string { data := #[] }, .slice none 0 0] 24)) w5.heap.size 24 (cs1 (nm 1)) := has_at rfl rfl
      obtain ⟨v2, w7, r2, o2, b7⟩ := app_one (own_belowE o1 sn) hone (by have := b5.size; have := sn.size; omega) (by omega)
      obtain ⟨g, c2, rfl, hg1, hg2, hc1, hc2, hcells⟩ := ew_shape o2 (by simp)
      have hlen : (ks ++ [nm 1]).length = ks.length + 1 := by simp
      have b57 : Below Wm.heap.size Wm w7 := (b5.trans (sn.mono b5.size)).trans b7
      have hIM := more_in (t := ET.mk tk top 0 tv tf (some ⟨b, off, none⟩) tc ks) (him.below b57) hcells hc1 hc2
      rw [hlen] at r2
      have R1 := Lib.hid r1
      have R2 := Lib.hid r2
      have hm7 := hm.below b57 hm.lt
      have ha7 := HAm.below b57 HAm.lt
      have ff7 : w7.frozen? ⟨wr.heap.size, 5, none⟩ = false := hm7.free 5
      obtain ⟨W8, hW8⟩ : ∃ u : World, w7.setCell ⟨wr.heap.size, 5, none⟩ (.slice (some ⟨g, 0, none⟩) (ks.length + 1) c2) = u := ⟨_, rfl⟩
      have hm8 : Has W8 wr.heap.size 24 #[.int .i64 tk, .string (str top), .int .i64 0, .string (str tv), .string (str tf), .slice (some ⟨g, 0, none⟩) (ks.length + 1) c2] := by rw [← hW8]; exact hm7.put 5 _
      have fr8 : FrP wr.heap.size w7 W8 := by rw [← hW8]; exact FrP.set hm7.lt 5 _
      have hqw : w4.heap.size < wr.heap.size := by have := HA.out.lt; have := HBR.out.size; omega
      have ha8 : Has W8 w4.heap.size 24 #[.int .i64 tk, .string (str top), .int .i64 0, .string (str tv), .string (str tf), .slice (some ⟨b, off, none⟩) ks.length tc] := fr8.has ha7 (by omega)
      obtain ⟨W9, hW9⟩ : ∃ u, W8.alloc (.cells #[.int .i64 tk, .string (str top), .int .i64 0, .string (str tv), .string (str tf), .slice (some ⟨b, off, none⟩) ks.length tc] 24) = u := ⟨_, rfl⟩
      have s9 : Below W8.heap.size W8 W9 := by rw [← hW9]; exact step1 _ _
      have ho9 : Has W9 W8.heap.size 24 #[.int .i64 tk, .string (str top), .int .i64 0, .string (str tv), .string (str tf), .slice (some ⟨b, off, none⟩) ks.length tc] := by rw [← hW9]; exact has_at rfl rfl
      have ha9 := ha8.below s9 ha8.lt
      have hm9 := hm8.below s9 hm8.lt
      obtain ⟨W10, hW10⟩ : ∃ u : World, W9.setCell ⟨W8.heap.size, 2, none⟩ (.int .i64 1) = u := ⟨_, rfl⟩
      have ho10 : Has W10 W8.heap.size 24 #[.int .i64 tk, .string (str top), .int .i64 1, .string (str tv), .string (str tf), .slice (some ⟨b, off, none⟩) ks.length tc] := by rw [← hW10]; exact ho9.put 2 _
      have fr10 : FrP W8.heap.size W9 W10 := by rw [← hW10]; exact FrP.set ho9.lt 2 _
      have ha10 : Has W10 w4.heap.size 24 #[.int .i64 tk, .string (str top), .int .i64 0, .string (str tv), .string (str tf), .slice (some ⟨b, off, none⟩) ks.length tc] := fr10.has ha9 (by have := ha8.lt; omega)
      have hm10 : Has W10 wr.heap.size 24 #[.int .i64 tk, .string (str top), .int .i64 0, .string (str tv), .string (str tf), .slice (some ⟨g, 0, none⟩) (ks.length + 1) c2] := fr10.has hm9 (by have := hm8.lt; omega)
      have ff9 : W9.frozen? ⟨W8.heap.size, 2, none⟩ = false := ho9.free 2
      -- what lies below: all that was ahead of the three boxes
      have b7r : Below wr.heap.size wr w7 := sm.trans (b57.mono sm.size)
      have b8r : Below wr.heap.size wr W8 := by rw [← hW8]; exact b7r.setCell (p := ⟨wr.heap.size, 5, none⟩) (Nat.le_refl _) _
      have b10r : Below wr.heap.size wr W10 := by rw [← hW10]; exact (b8r.trans (s9.mono b8r.size)).setCell (p := ⟨W8.heap.size, 2, none⟩) b8r.size _
      have hInD : D.In W10 := HIr.out.below b10r
      have hcell10 : ∀ j (h : j < (ks ++ [nm 1]).length), CellsAt W10 (some ⟨g, 0, none⟩) j (ks ++ [nm 1])[j] := by
        have hgm : wr.heap.size < Wm.heap.size := hm.lt
        have e8 : W8.heap[g]? = w7.heap[g]? := fr8.block hg2 (by omega)
        have hg8 : g < W8.heap.size := by have := fr8.size; omega
        have e9 : W9.heap[g]? = W8.heap[g]? := s9.block g hg8
        have e10 : W10.heap[g]? = W9.heap[g]? := fr10.block (by have := s9.size; omega) (by omega)
        intro j h
        obtain ⟨b', off', e', q0, q1, q2, q3, q4, q5⟩ := hcells j h
        cases e'
        have up : ∀ o v, w7.cell? ⟨g, o, none⟩ = some v → W10.cell? ⟨g, o, none⟩ = some v := fun o v h => (World.cell?_of_block ((e10.trans e9).trans e8)).trans h
        exact ⟨g, 0, rfl, up _ _ q0, up _ _ q1, up _ _ q2, up _ _ q3, up _ _ q4, up _ _ q5⟩
      have hInM : (moreT (ET.mk tk top 0 tv tf (some ⟨b, off, none⟩) tc ks) g c2).In W10 := more_in (t := ET.mk tk top 0 tv tf (some ⟨b, off, none⟩) tc ks) (by rw [HD.out]; exact hInD) hcell10 hc1 hc2
      have hInO : (ET.mk tk top 1 tv tf (some ⟨b, off, none⟩) tc ks).In W10 := by
        have h1 := hInD
        rw [← HD.out] at h1
        exact .of ⟨by omega, by omega, h1.ok.2.2⟩ h1.kids
      have hT10 := HTr.out.below b10r
      have hBW := HBa.out.trans ((HBR.out.trans (b10r.mono HBR.out.size)).mono HBa.out.size)
      have HA10 := Lib.hid (And.intro ha10 (And.intro hm10 ho10))
      have HI10 := Lib.hid (And.intro hInD (And.intro hInM hInO))
      have HT10 := Lib.hid hT10
      have HBW := Lib.hid hBW
      have HRD := Lib.hid HG.out.1
      have HRM := Lib.hid (more_wrong (g := g) (c := c2) (t := ET.mk tk top 0 tv tf (some ⟨b, off, none⟩) tc ks) (by rw [HD.out]; exact HG.out.1))
      have HRO : Hid (rightT (ET.mk tk top 1 tv tf (some ⟨b, off, none⟩) tc ks) = false) := Lib.hid (odd_wrong (t := ET.mk tk top 0 tv tf (some ⟨b, off, none⟩) tc ks) (by rw [HD.out]; exact HG.out.1) (by rw [HD.out]; exact HG.out.2.1))
      have HSM := Lib.hid (more_other (ET.mk tk top 0 tv tf (some ⟨b, off, none⟩) tc ks) g c2)
      have hk0 : (tk == 0) = false := by have := HK.out; simp; omega
      obtain ⟨d0, d1, d2, d3, d4, d5⟩ := six_has' HAm
      obtain ⟨y0, y1, y2, y3, y4, y5⟩ := six_has' hm7
      obtain ⟨x0, x1, x2, x3, x4, x5⟩ := six_has' ha8
      obtain ⟨t0, t1, t2, t3, t4, t5⟩ := six_has' ha9
      obtain ⟨u0, u1, u2, u3, u4, u5⟩ := six_has' ho9
      obtain ⟨l0, l1, l2, l3, l4, l5⟩ := six_has' ha10
      clear hm sm HAm him htm r1 o1 b5 sn hone r2 o2 b7 hg1 hg2 hc1 hc2 hcells hlen b57 hIM hm7 ha7 hm8 fr8 hqw ha8 s9 ho9 ha9 hm9 ho10 fr10 ha10 hm10 b7r b8r b10r hInD hcell10 hInM hInO hT10 hBW
      go_wp2_with (first | (at_builtin; refine wpList_app R1.out rfl rfl rfl rfl rfl ?_) | (at_builtin; refine wpList_app R2.out rfl rfl rfl rfl rfl ?_))
      have eD : D.val = (.agg #[.int .i64 tk, .string (str top), .int .i64 0, .string (str tv), .string (str tf), .slice (some ⟨b, off, none⟩) ks.length tc] : Value) := by rw [← HD.out]; rfl
      have eM : (moreT (ET.mk tk top 0 tv tf (some ⟨b, off, none⟩) tc ks) g c2).val = (.agg #[.int .i64 tk, .string (str top), .int .i64 0, .string (str tv), .string (str tf), .slice (some ⟨g, 0, none⟩) (ks.length + 1) c2] : Value) := by show ex _ _ _ _ _ _ (ks ++ [nm 1]).length _ = _; rw [List.length_append]; rfl
      have eO : (ET.mk tk top 1 tv tf (some ⟨b, off, none⟩) tc ks).val = (.agg #[.int .i64 tk, .string (str top), .int .i64 1, .string (str tv), .string (str tf), .slice (some ⟨b, off, none⟩) ks.length tc] : Value) := rfl
      have ED := Lib.hid (And.intro eD (And.intro eM eO))
      clear eD eM eO
      have hc := size_any D W10 HI10.out.1 (by have := HG.out.2.2; omega)
      rw [ED.out.1] at hc
      have HC := Lib.hid hc
      clear hc
      refine HC.out.mono ?_
      clear HC
      rintro e w11 ⟨rfl, bx⟩
      have HA11 := Lib.hid (And.intro (HA10.out.1.below bx HA10.out.1.lt) (And.intro (HA10.out.2.1.below bx HA10.out.2.1.lt) (HA10.out.2.2.below bx HA10.out.2.2.lt)))
      have HI11 := Lib.hid (And.intro (HI10.out.1.below bx) (And.intro (HI10.out.2.1.below bx) (HI10.out.2.2.below bx)))
      have HT11 := Lib.hid (HT10.out.below bx)
      have HBW11 := Lib.hid (HBW.out.trans (bx.mono HBW.out.size))
      clear bx
      obtain ⟨z1100, z1101, z1102, z1103, z1104, z1105⟩ := six_has' HA11.out.1
      go_wp2_with fail
      clear z1100 z1101 z1102 z1103 z1104 z1105
      have hc := right_any D w11 HI11.out.1 HT11.out
      rw [ED.out.1, HRD.out] at hc
      have HC := Lib.hid hc
      clear hc
      refine HC.out.mono ?_
      clear HC
      rintro e w12 ⟨rfl, bx⟩
      have HA12 := Lib.hid (And.intro (HA11.out.1.below bx HA11.out.1.lt) (And.intro (HA11.out.2.1.below bx HA11.out.2.1.lt) (HA11.out.2.2.below bx HA11.out.2.2.lt)))
      have HI12 := Lib.hid (And.intro (HI11.out.1.below bx) (And.intro (HI11.out.2.1.below bx) (HI11.out.2.2.below bx)))
      have HT12 := Lib.hid (HT11.out.below bx)
      have HBW12 := Lib.hid (HBW11.out.trans (bx.mono HBW11.out.size))
      clear bx
      obtain ⟨z1200, z1201, z1202, z1203, z1204, z1205⟩ := six_has' HA12.out.2.1
      go_wp2_with fail
      clear z1200 z1201 z1202 z1203 z1204 z1205
      have hc := right_any (moreT (ET.mk tk top 0 tv tf (some ⟨b, off, none⟩) tc ks) g c2) w12 HI12.out.2.1 HT12.out
      rw [ED.out.2.1, HRM.out] at hc
      have HC := Lib.hid hc
      clear hc
      refine HC.out.mono ?_
      clear HC
      rintro e w13 ⟨rfl, bx⟩
      have HA13 := Lib.hid (And.intro (HA12.out.1.below bx HA12.out.1.lt) (And.intro (HA12.out.2.1.below bx HA12.out.2.1.lt) (HA12.out.2.2.below bx HA12.out.2.2.lt)))
      have HI13 := Lib.hid (And.intro (HI12.out.1.below bx) (And.intro (HI12.out.2.1.below bx) (HI12.out.2.2.below bx)))
      have HT13 := Lib.hid (HT12.out.below bx)
      have HBW13 := Lib.hid (HBW12.out.trans (bx.mono HBW12.out.size))
      clear bx
      obtain ⟨z1300, z1301, z1302, z1303, z1304, z1305⟩ := six_has' HA13.out.1
      obtain ⟨z1310, z1311, z1312, z1313, z1314, z1315⟩ := six_has' HA13.out.2.2
      go_wp2_with fail
      clear z1300 z1301 z1302 z1303 z1304 z1305 z1310 z1311 z1312 z1313 z1314 z1315
      have hc := right_any (ET.mk tk top 1 tv tf (some ⟨b, off, none⟩) tc ks) w13 HI13.out.2.2 HT13.out
      rw [ED.out.2.2, HRO.out] at hc
      have HC := Lib.hid hc
      clear hc
      refine HC.out.mono ?_
      clear HC
      rintro e w14 ⟨rfl, bx⟩
      have HA14 := Lib.hid (And.intro (HA13.out.1.below bx HA13.out.1.lt) (And.intro (HA13.out.2.1.below bx HA13.out.2.1.lt) (HA13.out.2.2.below bx HA13.out.2.2.lt)))
      have HI14 := Lib.hid (And.intro (HI13.out.1.below bx) (And.intro (HI13.out.2.1.below bx) (HI13.out.2.2.below bx)))
      have HT14 := Lib.hid (HT13.out.below bx)
      have HBW14 := Lib.hid (HBW13.out.trans (bx.mono HBW13.out.size))
      clear bx
      obtain ⟨z1400, z1401, z1402, z1403, z1404, z1405⟩ := six_has' HA14.out.1
      obtain ⟨z1410, z1411, z1412, z1413, z1414, z1415⟩ := six_has' HA14.out.2.1
      go_wp2_with fail
      clear z1400 z1401 z1402 z1403 z1404 z1405 z1410 z1411 z1412 z1413 z1414 z1415
      have hc := sameT_any D (moreT (ET.mk tk top 0 tv tf (some ⟨b, off, none⟩) tc ks) g c2) w14 HI14.out.1 HI14.out.2.1
      rw [ED.out.1, ED.out.2.1, show sameT D (moreT (ET.mk tk top 0 tv tf (some ⟨b, off, none⟩) tc ks) g c2) = false by rw [← HD.out]; exact HSM.out] at hc
      have HC := Lib.hid hc
      clear hc
      refine HC.out.mono ?_
      clear HC
      rintro e w15 ⟨rfl, bx⟩
      have HA15 := Lib.hid (And.intro (HA14.out.1.below bx HA14.out.1.lt) (And.intro (HA14.out.2.1.below bx HA14.out.2.1.lt) (HA14.out.2.2.below bx HA14.out.2.2.lt)))
      have HI15 := Lib.hid (And.intro (HI14.out.1.below bx) (And.intro (HI14.out.2.1.below bx) (HI14.out.2.2.below bx)))
      have HT15 := Lib.hid (HT14.out.below bx)
      have HBW15 := Lib.hid (HBW14.out.trans (bx.mono HBW14.out.size))
      clear bx
      go_wp2_with fail
      go_ret
      exact ⟨rfl, HBW15.out⟩
end Go.Proofs.YtaiohdcngkkafaaDoor
