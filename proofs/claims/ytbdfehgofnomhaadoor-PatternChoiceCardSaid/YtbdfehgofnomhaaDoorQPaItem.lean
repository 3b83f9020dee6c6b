/- Layer 9: an item that bytes make: the walk. -/
import Derived.Test.YtbdfehgofnomhaaDoorQOu
import Derived.Test.YtbdfehgofnomhaaDoorQEx
namespace Go.Proofs.YtbdfehgofnomhaaDoor
open Go.RowKit
set_option linter.unusedVariables false

set_option maxRecDepth 100000 in
set_option maxHeartbeats 16000000 in
theorem item_of (deep : Int) (hd : deep = 0 ∨ deep = 1) (W m : Nat) (hW : 16 ≤ W) (hm : 1 ≤ m) (B : Int) (hBB : B ≤ 10000) (hI : deep = 1 → ∃ (W1 m1 : Nat) (B1 : Int), ItemsC 0 2 W1 m1 B1 ∧ 2 * W1 + 1 ≤ W ∧ 2 * m1 + 1 ≤ m ∧ B + 1 + m1 ≤ B1) : ItemC deep W m B := by
  intro wp p K w no h hM
  have hpl := h.lt
  obtain ⟨bs, vs, os, hC⟩ := h.pdc
  have hPd := h.pd
  obtain ⟨W0, hW0⟩ : ∃ W0, W0 = w.alloc (.cells zer7 42) := ⟨_, rfl⟩
  have bl : Below w.heap.size w W0 := by rw [hW0]; exact (Below.refl _ _).alloc (Nat.le_refl _) _
  have hz : Has W0 w.heap.size 42 zer7 := by rw [hW0]; exact heap_alloc_new w _
  have hWs : W0.heap.size = w.heap.size + 1 := by rw [hW0]; simp
  have HN := Lib.hid (next_p hC p W0 (hPd.below bl))
  have hC1 : PdC (hidB p w) (K.setM (K.M + 1)) bs vs os := ⟨hC.len, hC.cap, hC.byt, hC.l, hC.v, hC.o, hC.vm, hC.om, hC.nam⟩
  have HPRED := Lib.hid (fun (own kind : Nm) (ho : nameB own = true) => pred_p hC1 own kind ho p)
  clear hC1
  have HW := Lib.hid hW0
  have HZ := Lib.hid hz
  have HB := Lib.hid (FrP.below hpl bl)
  have HP := Lib.hid hpl
  have HQ := Lib.hid (show w.heap.size ≠ p by omega)
  have HS := Lib.hid hWs
  have HH := Lib.hid h
  have HI := Lib.hid hI
  have hM1 : 0 ≤ K.M ∧ K.M ≤ 10000 := ⟨hM.1, Int.le_trans hM.2 hBB⟩
  have HM := Lib.hid hM
  clear hW0 hz bl hpl hPd h hWs hC hI
  go_enter Tryd.func50, Tryd.ntmps50
  go_wp2_with fail
  rw [← HW.out]
  refine HN.out.mono ?_
  rintro e w1 ⟨x, rfl, hxb, fd1, fr1⟩
  have HX := Lib.hid hxb
  have HZ1 := Lib.hid (fr1.has HZ.out HQ.out)
  have HS1 := Lib.hid (show w.heap.size + 1 ≤ w1.heap.size by rw [← HS.out]; exact fr1.size)
  have HF1 := Lib.hid (HB.out.trans fr1)
  obtain ⟨c4, f4, hcnt⟩ := fd1.count
  have HC1 := Lib.hid (hcnt (K.M + 1))
  clear fd1 fr1 hcnt HN HZ HB
  go_upto_region 3 with fail
  clear c4 f4
  obtain ⟨X1, hX1⟩ : ∃ X1, w1.setCell ⟨p, 4, none⟩ (.int .i64 (K.M + 1)) = X1 := ⟨_, rfl⟩
  rw [hX1]
  have hc1 := HC1.out
  rw [hX1] at hc1
  have hs1 : w1.heap.size = X1.heap.size := by rw [← hX1]; exact (setCell_size _ _ _ _).symm
  have HZ2 := Lib.hid (hc1.2.has HZ1.out HQ.out)
  have HF2 := Lib.hid (HF1.out.trans hc1.2)
  have HD2 := Lib.hid hc1.1
  have HS2 := Lib.hid (show w.heap.size + 1 ≤ X1.heap.size by rw [← hs1]; exact HS1.out)
  clear HC1 hX1 hc1 hs1 HZ1 HF1 HS1 w1
  have m3 := tmod_of hxb.1 3
  obtain ⟨j, hj⟩ : ∃ j : Nat, x % 3 = (j : Int) := ⟨(x % 3).toNat, by omega⟩
  have hj3 : j < 3 := by omega
  rw [hj] at m3
  obtain ⟨kind, hk1, hk2⟩ := names3_at j hj3
  have hc0 := cell_strs X1 [[65], [66], [67]] 9 j kind hk1
  have bA := step1 X1 (.cells (([[65], [66], [67]].map fun s => Value.string (str s)).toArray) 9)
  obtain ⟨X2, hX2⟩ : ∃ X2, X1.alloc (.cells (([[65], [66], [67]].map fun s => Value.string (str s)).toArray) 9) = X2 := ⟨_, rfl⟩
  rw [hX2] at hc0 bA
  have hX3 : X1.alloc (.cells #[.string { data := #[65] }, .string { data := #[66] }, .string { data := #[67] }] 9) = X2 := hX2
  have HK := Lib.hid hk2
  clear hX2 hk1 hk2 hj
  have hD3 := HD2.out.below bA
  obtain ⟨c4, -, -⟩ := hD3.count
  have HZ3 := Lib.hid (HZ2.out.below bA HZ2.out.lt)
  have HF3 := Lib.hid (HF2.out.trans (FrP.below HD2.out.lt bA))
  have HD3 := Lib.hid hD3
  have HS3 := Lib.hid (show w.heap.size + 1 ≤ X2.heap.size by have := bA.size; have := HS2.out; omega)
  clear bA hD3
  go_upto_region 4 with fail
  clear hc0 hX3 m3 HZ2 HF2 HD2 HS2
  try clear X1
  obtain ⟨j2, hj2⟩ : ∃ j2 : Nat, (K.M + 1) % 12 = (j2 : Int) := ⟨((K.M + 1) % 12).toNat, by omega⟩
  have m12 : (K.M + 1).tmod 12 = (j2 : Int) := by rw [tmod_of (by omega)]; exact hj2
  have hj12 : j2 < 12 := by omega
  obtain ⟨own, hk1, hk2⟩ := names12_at j2 hj12
  have hc0 := cell_strs X2 [[97], [98], [99], [100], [101], [102], [103], [104], [105], [106], [108], [109]] 9 j2 own hk1
  have bA := step1 X2 (.cells (([[97], [98], [99], [100], [101], [102], [103], [104], [105], [106], [108], [109]].map fun s => Value.string (str s)).toArray) 9)
  have c4' : (X2.alloc (.cells (([[97], [98], [99], [100], [101], [102], [103], [104], [105], [106], [108], [109]].map fun s => Value.string (str s)).toArray) 9)).cell? ⟨p, 4, none⟩ = some (.int .i64 (K.M + 1)) := below_imp bA _ _ c4
  obtain ⟨X3, hX3⟩ : ∃ X3, X2.alloc (.cells (([[97], [98], [99], [100], [101], [102], [103], [104], [105], [106], [108], [109]].map fun s => Value.string (str s)).toArray) 9) = X3 := ⟨_, rfl⟩
  rw [hX3] at hc0 bA c4'
  have hX4 : X2.alloc (.cells #[.string { data := #[97] }, .string { data := #[98] }, .string { data := #[99] }, .string { data := #[100] }, .string { data := #[101] }, .string { data := #[102] }, .string { data := #[103] }, .string { data := #[104] }, .string { data := #[105] }, .string { data := #[106] }, .string { data := #[108] }, .string { data := #[109] }] 9) = X3 := hX3
  have HO := Lib.hid hk2
  clear hX3 hk1 hk2 hj2
  have hD4 := HD3.out.below bA
  have HZ4 := Lib.hid (HZ3.out.below bA HZ3.out.lt)
  have HF4 := Lib.hid (HF3.out.trans (FrP.below HD3.out.lt bA))
  have HD4 := Lib.hid hD4
  have HS4 := Lib.hid (show w.heap.size + 1 ≤ X3.heap.size by have := bA.size; have := HS3.out; omega)
  clear bA hD4
  go_upto_region 6 with fail
  clear hc0 hX4 m12 HZ3 HF3 HD3 HS3 c4'
  obtain ⟨X4, hX4⟩ : ∃ X4, X3.alloc (.cells (csIm 0 kind own none 0 0 0 0 none 0 0) 42) = X4 := ⟨_, rfl⟩
  have bA := step1 X3 (.cells (csIm 0 kind own none 0 0 0 0 none 0 0) 42)
  have h10 : Has (X3.alloc (.cells (csIm 0 kind own none 0 0 0 0 none 0 0) 42)) X3.heap.size 42 (csIm 0 kind own none 0 0 0 0 none 0 0) := has_at rfl rfl
  rw [hX4] at bA h10
  have hX4' : X3.alloc (.cells #[.int .i64 0, .string (str kind), .string (str own), .slice none 0 0, .int .i64 0, .int .i64 0, .slice none 0 0] 42) = X4 := hX4
  rw [hX4']
  have hz6 := HZ4.out.below bA HZ4.out.lt
  obtain ⟨g, hg⟩ : ∃ g, X3.heap.size = g := ⟨_, rfl⟩
  rw [hg] at h10
  have hgw : w.heap.size + 1 ≤ g := by rw [← hg]; exact HS4.out
  have HD := Lib.hid (HD4.out.below bA)
  have HF := Lib.hid (HF4.out.trans (FrP.below HD4.out.lt bA))
  have HG := Lib.hid hgw
  have HGP := Lib.hid (show g ≠ p by have := HP.out; omega)
  have HQG := Lib.hid (show w.heap.size ≠ g by omega)
  have H10 := Lib.hid h10
  have H6 := Lib.hid hz6
  have c4 : X4.cell? ⟨p, 4, none⟩ = some (.int .i64 (K.M + 1)) := (HD4.out.below bA).count.1
  rw [hg]
  clear hX4 hX4' bA h10 hz6 hg hgw HD4 HF4 HS4 HZ4
  try clear X3
  try clear X2
  try clear X1
  obtain ⟨b6, hb6⟩ : ∃ b : Bool, b = (no && (x % 8 == 7)) := ⟨_, rfl⟩
  have HB6 := Lib.hid hb6
  have m8 : x.tmod 8 = x % 8 := tmod_of hxb.1 8
  clear hb6
  go_cut [41] from 36 to 41 (fun t wx => t = .bool b6 ∧ wx = X4)
  case first =>
    cases no
    · go_wp2_with fail
      go_meet
      exact ⟨by rw [HB6.out]; rfl, rfl⟩
    · by_cases h7 : x % 8 = 7
      · rw [h7] at m8
        go_wp2_with fail
        go_meet
        exact ⟨by rw [HB6.out, h7]; rfl, rfl⟩
      · have e7 : (x % 8 == 7) = false := by simpa using h7
        have e7' : ¬ x % 8 = 7 := h7
        go_wp2_with fail
        go_meet
        exact ⟨by rw [HB6.out, e7]; rfl, rfl⟩
  case rest =>
    obtain ⟨rfl, rfl⟩ := hcut
    rename World => X4
    cases b6
    · obtain ⟨b9, hb9⟩ : ∃ b : Bool, b = (decide (deep = 1) && (x % 8 == 6) && decide (K.M + 1 < 5)) := ⟨_, rfl⟩
      have HB9 := Lib.hid hb9
      clear hb9
      go_upto_region 10 with fail
      go_cut [62] from 49 to 62 (fun t wx => t = .bool b9 ∧ wx = X4)
      case first =>
        rcases hd with rfl | rfl
        · go_wp2_with fail
          go_meet
          exact ⟨by rw [HB9.out]; rfl, rfl⟩
        · by_cases h6 : x % 8 = 6
          · rw [h6] at m8
            by_cases hm5 : K.M + 1 < 5
            · have e5 : decide (K.M + 1 < 5) = true := decide_eq_true hm5
              go_wp2_with fail
              go_meet
              exact ⟨by rw [HB9.out, h6, e5]; rfl, rfl⟩
            · have e5 : decide (K.M + 1 < 5) = false := decide_eq_false hm5
              go_wp2_with fail
              go_meet
              exact ⟨by rw [HB9.out, h6, e5]; rfl, rfl⟩
          · have e6 : (x % 8 == 6) = false := by simpa using h6
            go_wp2_with fail
            go_meet
            exact ⟨by rw [HB9.out, e6]; rfl, rfl⟩
      case rest =>
        obtain ⟨rfl, rfl⟩ := hcut
        rename World => X4
        cases b9
        · go_upto_region 14 with fail
          by_cases h5 : x % 8 = 5
          · rw [h5] at m8
            obtain ⟨a, ha⟩ : ∃ a : Int, x / 8 % 2 = a := ⟨_, rfl⟩
            obtain ⟨b, hb⟩ : ∃ b : Int, x / 16 % 2 = b := ⟨_, rfl⟩
            have hab : 0 ≤ a ∧ a ≤ 1 ∧ 0 ≤ b ∧ b ≤ 1 := by omega
            obtain ⟨ha0, ha1, hb0, hb1⟩ := hab
            obtain ⟨X5, hX5⟩ : ∃ X5, (((X4.setCell ⟨g, 0, none⟩ (.int .i64 1)).setCell ⟨g, 4, none⟩ (.int .i64 (1 + a))).setCell ⟨g, 5, none⟩ (.int .i64 (1 + a + b))) = X5 := ⟨_, rfl⟩
            have hgb : w.heap.size ≤ g := by have := HG.out; omega
            have b5 : Below w.heap.size X4 X5 := by rw [← hX5]; exact ((((Below.refl w.heap.size X4).setCell (p := ⟨g, 0, none⟩) hgb (.int .i64 1)).setCell (p := ⟨g, 4, none⟩) hgb (.int .i64 (1 + a))).setCell (p := ⟨g, 5, none⟩) hgb (.int .i64 (1 + a + b)))
            have h105 : Has X5 g 42 (csIm 1 kind own none 0 0 (1 + a) (1 + a + b) none 0 0) := by rw [← hX5]; exact (((H10.out.put 0 (.int .i64 1)).put 4 (.int .i64 (1 + a))).put 5 (.int .i64 (1 + a + b)))
            have h65 : Has X5 w.heap.size 42 zer7 := by rw [← hX5]; exact (hasS (hasS (hasS H6.out _ _ HQG.out) _ _ HQG.out) _ _ HQG.out)
            have HD5 := Lib.hid (HD.out.belowB b5 HP.out (Nat.le_of_eq (hid_size p w)))
            have HF5 := Lib.hid (HF.out.belowB HP.out b5)
            have HSZ5 := Lib.hid (show g < X5.heap.size from h105.lt)
            have H105 := Lib.hid h105
            have H65 := Lib.hid h65
            have HA := Lib.hid (HPRED.out own kind HO.out X5 HD5.out)
            clear h105 h65 b5
            obtain ⟨y0, y1, y2, y3, y4, y5, y6⟩ := seven_has H10.out
            have f0 : X4.frozen? ⟨g, 0, none⟩ = false := H10.out.free 0
            have f4 : X4.frozen? ⟨g, 4, none⟩ = false := H10.out.free 4
            have f5 : X4.frozen? ⟨g, 5, none⟩ = false := H10.out.free 5
            go_upto_region 18 with fail
            clear y0 y1 y2 y3 y4 y5 y6 f0 f4 f5 ha hb
            clear hX5
            go_wp2_with fail
            refine HA.out.mono ?_
            rintro e w2 ⟨A, c, ps, rfl, okA, gp, eP, fd2, fr2⟩
            have h102 := fr2.has H105.out HGP.out
            have h62 := fr2.has H65.out HQ.out
            have HR2 := Lib.hid (HF5.out.trans fr2)
            have f3 : w2.frozen? ⟨g, 3, none⟩ = false := h102.free 3
            have y3 : w2.cell? ⟨g, 3, none⟩ = some (.slice none 0 0) := h102.cell 3
            obtain ⟨X7, hX7⟩ : ∃ X7, w2.setCell ⟨g, 3, none⟩ (.slice A ps.length c) = X7 := ⟨_, rfl⟩
            have b7 : Below w.heap.size w2 X7 := by rw [← hX7]; exact set_belowN (by have := HG.out; omega) _
            have h107 : Has X7 g 42 (csIm 1 kind own A ps.length c (1 + a) (1 + a + b) none 0 0) := by rw [← hX7]; exact h102.put 3 (.slice A ps.length c)
            have h67 : Has X7 w.heap.size 42 zer7 := by rw [← hX7]; exact hasS h62 _ _ HQG.out
            have R7 := (HH.out.fr fd2 HR2.out (by show K.M ≤ K.M + 1; omega)).belowB b7 (fun q hq => (HH.out.own_lt hq).2)
            have F7 := (FrI.of_fr (K := K) (K.M + 1) HR2.out).belowB b7
            have E7 : Ets (Ot (w.heap.size + 1) p (K.setM (K.M + 1)) X7) A ps := ets_out eP (by have := HG.out; have := HSZ5.out; omega) (fun b hb => by rw [← hX7]; exact setCell_ne _ (by have := HSZ5.out; omega)) (fun b hb => HH.out.new (by have := HG.out; have := HSZ5.out; omega))
            have HR7 := Lib.hid R7
            have HF7 := Lib.hid F7
            have HE7 := Lib.hid E7
            have H107 := Lib.hid h107
            have H67 := Lib.hid h67
            have HGP2 := Lib.hid gp
            have HOK := Lib.hid okA
            clear R7 F7 E7 h107 h67 gp okA eP fd2 fr2 h102 h62 b7 HR2 H105 H65 HF5 HD5 HSZ5 HA
            go_upto_region 19 with fail
            clear hX7 f3 y3
            obtain ⟨V, cv, w5, O, co, w6, ⟨a1, a2, a3, a4, a5, a6, a7, a8⟩, R9, F9⟩ := add_name HR7.out own kind HO.out (by show K.M + 1 ≤ 100000; omega) (by show (K.m : Int) + 1 ≤ K.M + 1; have := HH.out.mM; omega)
            have HR1 := Lib.hid a2
            have HR2 := Lib.hid a6
            obtain ⟨Y, hY⟩ : ∃ Y, w6.setCell ⟨p, 3, none⟩ (.slice O ((K.setM (K.M + 1)).m + 1) co) = Y := ⟨_, rfl⟩
            rw [hY] at R9 F9
            have n10 : rdOwn p (K.setM (K.M + 1)) g = false := HH.out.new (by have := HG.out; omega)
            have n6 : rdOwn p (K.setM (K.M + 1)) w.heap.size = false := HH.out.new (Nat.le_refl _)
            obtain ⟨h109, -⟩ := F9.has H107.out n10
            obtain ⟨h69, hn9⟩ := F9.has H67.out n6
            have E9 := HE7.out.imp (F9.cell (Nat.le_refl _))
            have HR9 := Lib.hid R9
            have HF9 := Lib.hid (HF7.out.trans F9)
            have HE9 := Lib.hid E9
            have H109 := Lib.hid h109
            have H69 := Lib.hid h69
            have HN9 := Lib.hid hn9
            clear a2 a6 R9 F9 n10 n6 h109 h69 hn9 E9 HR7 HF7 HE7 H107 H67
            go_upto_region 20 with (at_builtin; refine wpList_app HR1.out rfl rfl rfl rfl rfl ?_)
            go_upto_region 21 with (at_builtin; refine wpList_app HR2.out rfl rfl rfl rfl rfl ?_)
            clear hY a1 a3 a4 a5 a7 a8 HR1 HR2
            obtain ⟨y0, y1, y2, y3, y4, y5, y6⟩ := seven_has H109.out
            obtain ⟨⟨m0, m1, m2, m3, m4, m5, m6⟩, ⟨n0, n1, n2, n3, n4, n5, n6⟩, nlt⟩ := zer7_facts H69.out
            have hT : (IT.mk 1 kind own A c ps (1 + a) (1 + a + b) none 0 [] []).In (Ot (w.heap.size + 1) p ((K.setM (K.M + 1)).add V O cv co) Y) := in_named (by omega) (by omega) (by omega) HK.out HO.out HOK.out HE9.out
            have hn6 : rdOwn p ((K.setM (K.M + 1)).add V O cv co) w.heap.size = false := HN9.out
            have HZZ := Lib.hid (show Rd wp p ((K.setM (K.M + 1)).add V O cv co) (set7 Y w.heap.size (.int .i64 1) (.string (str kind)) (.string (str own)) (.slice A ps.length c) (.int .i64 (1 + a)) (.int .i64 (1 + a + b)) (.slice none 0 0)) ∧ FrI p K w ((K.setM (K.M + 1)).add V O cv co) (set7 Y w.heap.size (.int .i64 1) (.string (str kind)) (.string (str own)) (.slice A ps.length c) (.int .i64 (1 + a)) (.int .i64 (1 + a + b)) (.slice none 0 0)) ∧ Has (set7 Y w.heap.size (.int .i64 1) (.string (str kind)) (.string (str own)) (.slice A ps.length c) (.int .i64 (1 + a)) (.int .i64 (1 + a + b)) (.slice none 0 0)) w.heap.size 42 (csI (IT.mk 1 kind own A c ps (1 + a) (1 + a + b) none 0 [] [])) ∧ (IT.mk 1 kind own A c ps (1 + a) (1 + a + b) none 0 [] []).In (Ot w.heap.size p ((K.setM (K.M + 1)).add V O cv co) (set7 Y w.heap.size (.int .i64 1) (.string (str kind)) (.string (str own)) (.slice A ps.length c) (.int .i64 (1 + a)) (.int .i64 (1 + a + b)) (.slice none 0 0))) from item_fin HR9.out HF9.out HH.out H69.out (IT.mk 1 kind own A c ps (1 + a) (1 + a + b) none 0 [] []) hn6 hT)
            clear hT hn6
            go_wp2_with fail
            rw [set7_fold]
            clear y0 y1 y2 y3 y4 y5 y6 m0 m1 m2 m3 m4 m5 m6 n0 n1 n2 n3 n4 n5 n6 nlt
            generalize set7 Y w.heap.size (.int .i64 1) (.string (str kind)) (.string (str own)) (.slice A ps.length c) (.int .i64 (1 + a)) (.int .i64 (1 + a + b)) (.slice none 0 0) = Z at HZZ ⊢
            obtain ⟨y0, y1, y2, y3, y4, y5, y6⟩ := seven_has HZZ.out.2.2.1
            refine bodyPost_ret (v := .agg (csI (IT.mk 1 kind own A c ps (1 + a) (1 + a + b) none 0 [] []))) (by simp [results, Tryd.results50, go_sem, y0, y1, y2, y3, y4, y5, y6]) rfl ?_
            exact ⟨(IT.mk 1 kind own A c ps (1 + a) (1 + a + b) none 0 [] []), ((K.setM (K.M + 1)).add V O cv co), rfl, ⟨right_named (.inr ⟨rfl, by omega, by omega, by omega⟩) HK.out HO.out HGP2.out.1 HGP2.out.2.1, Nat.le_trans (wt_named HGP2.out.2.2) hW, HZZ.out.2.2.2⟩, HZZ.out.1, HZZ.out.2.1, Int.le_refl _, (by show K.M + 1 ≤ K.M + (m : Int); omega)⟩
          · have e5 : (x % 8 == 5) = false := by simpa using h5
            obtain ⟨X5, hX5⟩ : ∃ X5, X4 = X5 := ⟨_, rfl⟩
            have b5 : Below w.heap.size X4 X5 := by rw [← hX5]; exact Below.refl _ _
            have h105 : Has X5 g 42 (csIm 0 kind own none 0 0 0 0 none 0 0) := by rw [← hX5]; exact H10.out
            have h65 : Has X5 w.heap.size 42 zer7 := by rw [← hX5]; exact H6.out
            have HD5 := Lib.hid (HD.out.belowB b5 HP.out (Nat.le_of_eq (hid_size p w)))
            have HF5 := Lib.hid (HF.out.belowB HP.out b5)
            have HSZ5 := Lib.hid (show g < X5.heap.size from h105.lt)
            have H105 := Lib.hid h105
            have H65 := Lib.hid h65
            have HA := Lib.hid (HPRED.out own kind HO.out X5 HD5.out)
            clear h105 h65 b5
            go_upto_region 18 with fail
            clear hX5
            go_wp2_with fail
            refine HA.out.mono ?_
            rintro e w2 ⟨A, c, ps, rfl, okA, gp, eP, fd2, fr2⟩
            have h102 := fr2.has H105.out HGP.out
            have h62 := fr2.has H65.out HQ.out
            have HR2 := Lib.hid (HF5.out.trans fr2)
            have f3 : w2.frozen? ⟨g, 3, none⟩ = false := h102.free 3
            have y3 : w2.cell? ⟨g, 3, none⟩ = some (.slice none 0 0) := h102.cell 3
            obtain ⟨X7, hX7⟩ : ∃ X7, w2.setCell ⟨g, 3, none⟩ (.slice A ps.length c) = X7 := ⟨_, rfl⟩
            have b7 : Below w.heap.size w2 X7 := by rw [← hX7]; exact set_belowN (by have := HG.out; omega) _
            have h107 : Has X7 g 42 (csIm 0 kind own A ps.length c 0 0 none 0 0) := by rw [← hX7]; exact h102.put 3 (.slice A ps.length c)
            have h67 : Has X7 w.heap.size 42 zer7 := by rw [← hX7]; exact hasS h62 _ _ HQG.out
            have R7 := (HH.out.fr fd2 HR2.out (by show K.M ≤ K.M + 1; omega)).belowB b7 (fun q hq => (HH.out.own_lt hq).2)
            have F7 := (FrI.of_fr (K := K) (K.M + 1) HR2.out).belowB b7
            have E7 : Ets (Ot (w.heap.size + 1) p (K.setM (K.M + 1)) X7) A ps := ets_out eP (by have := HG.out; have := HSZ5.out; omega) (fun b hb => by rw [← hX7]; exact setCell_ne _ (by have := HSZ5.out; omega)) (fun b hb => HH.out.new (by have := HG.out; have := HSZ5.out; omega))
            have HR7 := Lib.hid R7
            have HF7 := Lib.hid F7
            have HE7 := Lib.hid E7
            have H107 := Lib.hid h107
            have H67 := Lib.hid h67
            have HGP2 := Lib.hid gp
            have HOK := Lib.hid okA
            clear R7 F7 E7 h107 h67 gp okA eP fd2 fr2 h102 h62 b7 HR2 H105 H65 HF5 HD5 HSZ5 HA
            go_upto_region 19 with fail
            clear hX7 f3 y3
            obtain ⟨V, cv, w5, O, co, w6, ⟨a1, a2, a3, a4, a5, a6, a7, a8⟩, R9, F9⟩ := add_name HR7.out own kind HO.out (by show K.M + 1 ≤ 100000; omega) (by show (K.m : Int) + 1 ≤ K.M + 1; have := HH.out.mM; omega)
            have HR1 := Lib.hid a2
            have HR2 := Lib.hid a6
            obtain ⟨Y, hY⟩ : ∃ Y, w6.setCell ⟨p, 3, none⟩ (.slice O ((K.setM (K.M + 1)).m + 1) co) = Y := ⟨_, rfl⟩
            rw [hY] at R9 F9
            have n10 : rdOwn p (K.setM (K.M + 1)) g = false := HH.out.new (by have := HG.out; omega)
            have n6 : rdOwn p (K.setM (K.M + 1)) w.heap.size = false := HH.out.new (Nat.le_refl _)
            obtain ⟨h109, -⟩ := F9.has H107.out n10
            obtain ⟨h69, hn9⟩ := F9.has H67.out n6
            have E9 := HE7.out.imp (F9.cell (Nat.le_refl _))
            have HR9 := Lib.hid R9
            have HF9 := Lib.hid (HF7.out.trans F9)
            have HE9 := Lib.hid E9
            have H109 := Lib.hid h109
            have H69 := Lib.hid h69
            have HN9 := Lib.hid hn9
            clear a2 a6 R9 F9 n10 n6 h109 h69 hn9 E9 HR7 HF7 HE7 H107 H67
            go_upto_region 20 with (at_builtin; refine wpList_app HR1.out rfl rfl rfl rfl rfl ?_)
            go_upto_region 21 with (at_builtin; refine wpList_app HR2.out rfl rfl rfl rfl rfl ?_)
            clear hY a1 a3 a4 a5 a7 a8 HR1 HR2
            obtain ⟨y0, y1, y2, y3, y4, y5, y6⟩ := seven_has H109.out
            obtain ⟨⟨m0, m1, m2, m3, m4, m5, m6⟩, ⟨n0, n1, n2, n3, n4, n5, n6⟩, nlt⟩ := zer7_facts H69.out
            have hT : (IT.mk 0 kind own A c ps 0 0 none 0 [] []).In (Ot (w.heap.size + 1) p ((K.setM (K.M + 1)).add V O cv co) Y) := in_named (by omega) (by omega) (by omega) HK.out HO.out HOK.out HE9.out
            have hn6 : rdOwn p ((K.setM (K.M + 1)).add V O cv co) w.heap.size = false := HN9.out
            have HZZ := Lib.hid (show Rd wp p ((K.setM (K.M + 1)).add V O cv co) (set7 Y w.heap.size (.int .i64 0) (.string (str kind)) (.string (str own)) (.slice A ps.length c) (.int .i64 0) (.int .i64 0) (.slice none 0 0)) ∧ FrI p K w ((K.setM (K.M + 1)).add V O cv co) (set7 Y w.heap.size (.int .i64 0) (.string (str kind)) (.string (str own)) (.slice A ps.length c) (.int .i64 0) (.int .i64 0) (.slice none 0 0)) ∧ Has (set7 Y w.heap.size (.int .i64 0) (.string (str kind)) (.string (str own)) (.slice A ps.length c) (.int .i64 0) (.int .i64 0) (.slice none 0 0)) w.heap.size 42 (csI (IT.mk 0 kind own A c ps 0 0 none 0 [] [])) ∧ (IT.mk 0 kind own A c ps 0 0 none 0 [] []).In (Ot w.heap.size p ((K.setM (K.M + 1)).add V O cv co) (set7 Y w.heap.size (.int .i64 0) (.string (str kind)) (.string (str own)) (.slice A ps.length c) (.int .i64 0) (.int .i64 0) (.slice none 0 0))) from item_fin HR9.out HF9.out HH.out H69.out (IT.mk 0 kind own A c ps 0 0 none 0 [] []) hn6 hT)
            clear hT hn6
            go_wp2_with fail
            rw [set7_fold]
            clear y0 y1 y2 y3 y4 y5 y6 m0 m1 m2 m3 m4 m5 m6 n0 n1 n2 n3 n4 n5 n6 nlt
            generalize set7 Y w.heap.size (.int .i64 0) (.string (str kind)) (.string (str own)) (.slice A ps.length c) (.int .i64 0) (.int .i64 0) (.slice none 0 0) = Z at HZZ ⊢
            obtain ⟨y0, y1, y2, y3, y4, y5, y6⟩ := seven_has HZZ.out.2.2.1
            refine bodyPost_ret (v := .agg (csI (IT.mk 0 kind own A c ps 0 0 none 0 [] []))) (by simp [results, Tryd.results50, go_sem, y0, y1, y2, y3, y4, y5, y6]) rfl ?_
            exact ⟨(IT.mk 0 kind own A c ps 0 0 none 0 [] []), ((K.setM (K.M + 1)).add V O cv co), rfl, ⟨right_named (.inl ⟨.inl rfl, rfl, rfl⟩) HK.out HO.out HGP2.out.1 HGP2.out.2.1, Nat.le_trans (wt_named HGP2.out.2.2) hW, HZZ.out.2.2.2⟩, HZZ.out.1, HZZ.out.2.1, Int.le_refl _, (by show K.M + 1 ≤ K.M + (m : Int); omega)⟩
        · have e9 : deep = 1 ∧ x % 8 = 6 ∧ K.M + 1 < 5 := by have := HB9.out; simp at this; omega
          obtain ⟨e91, e92, e93⟩ := e9
          subst e91
          go_upto_region 11 with fail
          obtain ⟨W1, m1, B1, hIt, hw1, hm1, hb1⟩ := HI.out rfl
          have hR4 := HH.out.fr HD.out HF.out (by show K.M ≤ K.M + 1; omega)
          have HIT := Lib.hid hIt
          have HBB := Lib.hid (And.intro hw1 (And.intro hm1 hb1))
          have HC := Lib.hid (hIt wp p (K.setM (K.M + 1)) X4 hR4 ⟨by show 0 ≤ K.M + 1; omega, by show K.M + 1 ≤ B1; have := HM.out; omega⟩)
          have HF4 := Lib.hid (FrI.of_fr (K := K) (K.M + 1) HF.out)
          clear hR4 hIt hw1 hm1 hb1
          go_wp2_with fail
          refine HC.out.mono ?_
          rintro e w2 ⟨A1, c1, l1, K2, rfl, ok1, gg1, r2, f2, hM2⟩
          have HM2 := Lib.hid hM2
          have n10 : rdOwn p (K.setM (K.M + 1)) g = false := HH.out.new (by have := HG.out; omega)
          have n6 : rdOwn p (K.setM (K.M + 1)) w.heap.size = false := HH.out.new (Nat.le_refl _)
          obtain ⟨h102, n102⟩ := f2.has H10.out n10
          obtain ⟨h62, n62⟩ := f2.has H6.out n6
          have b3 := step1 w2 (.cells #[.slice A1 l1.length c1] 22)
          obtain ⟨⟨m0, m1', m2, m3, m4, m5, m6⟩, ⟨f0, f1, f22, f3, f4, f5, f6⟩, nlt⟩ := seven_facts (h102.below b3 h102.lt)
          have hmid := mid_first HH.out HF4.out r2 f2 H10.out.lt HG.out h102 n102 h62 n62 ok1 gg1
          have HMID := Lib.hid hmid
          clear hmid ok1 gg1 r2 f2 h102 n102 h62 n62 n10 n6 b3 hM2 HC
          go_upto_region 12 with fail
          rw [set7_fold]
          clear m0 m1' m2 m3 m4 m5 m6 f0 f1 f22 f3 f4 f5 f6 nlt
          generalize set7 (w2.alloc (.cells #[.slice A1 l1.length c1] 22)) g (.int .i64 3) (.string { data := #[] }) (.string { data := #[] }) (.slice none 0 0) (.int .i64 0) (.int .i64 0) (.slice (some ⟨w2.heap.size, 0, none⟩) 1 1) = X5 at HMID ⊢
          generalize w2.heap.size = q1 at HMID ⊢
          refine wp_region_inv (fun l a u => ∃ (Ku : PK) (x0 x1 x2 x3 x4 x5 x6 x7 x8 : Value), a = ⟨#[.pointer (some ⟨p, 0, none⟩), .int .i64 1, .bool no, undef, undef, undef, .pointer (some ⟨w.heap.size, 0, none⟩), .int .i64 x, .string (str kind), .string (str own), .pointer (some ⟨g, 0, none⟩), .pointer (some ⟨p, 0, none⟩), .int .i64 x, .pointer (some ⟨p, 0, none⟩), .pointer (some ⟨p, 0, none⟩), .pointer (some ⟨p, 4, none⟩), .int .i64 K.M, .int .i64 (K.M + 1), .pointer (some ⟨p, 0, none⟩), .pointer (some ⟨p, 4, none⟩), .slice (some ⟨X1.heap.size, 0, none⟩) 3 3, .int .i64 x, .int .i64 (j : Int), .pointer (some ⟨X1.heap.size, j, none⟩), .string (str kind), .slice (some ⟨X2.heap.size, 0, none⟩) 12 12, .pointer (some ⟨p, 0, none⟩), .pointer (some ⟨p, 0, none⟩), .pointer (some ⟨p, 4, none⟩), .int .i64 (K.M + 1), .int .i64 (j2 : Int), .pointer (some ⟨X2.heap.size, j2, none⟩), .string (str own), .string (str kind), .string (str own), .agg #[.int .i64 0, .string (str kind), .string (str own), .slice none 0 0, .int .i64 0, .int .i64 0, .slice none 0 0], u36, u37, u38, u39, u40, .bool false, undef, undef, undef, undef, undef, undef, undef, u49, u50, u51, u52, u53, u54, u55, u56, u57, u58, u59, u60, u61, .bool true, .pointer (some ⟨p, 0, none⟩), .int .i64 1, .int .i64 0, .slice A1 l1.length c1, .slice (some ⟨q1, 0, none⟩) 1 1, .agg #[.int .i64 3, .string { data := #[] }, .string { data := #[] }, .slice none 0 0, .int .i64 0, .int .i64 0, .slice (some ⟨q1, 0, none⟩) 1 1], x0, x1, x2, x3, x4, x5, x6, x7, x8, undef, undef, undef, undef, undef, undef, undef, undef, undef, undef, undef, undef, undef, undef, undef, undef, undef, undef, undef, undef, undef, undef, undef, undef, undef, undef, undef, undef, undef, undef, undef, undef, undef, undef, undef, undef, undef, undef, undef, undef, undef, undef, undef], []⟩
              ∧ (l.getD 9 false = false → Mid wp w p g q1 X4.heap.size W1 K A1 c1 l1 Ku u)
              ∧ (l.getD 9 false = true → FinA wp w p g W1 K Ku u)
              ∧ (K2.M ≤ Ku.M ∧ Ku.M ≤ K2.M + m1)
              ∧ (l.getD 5 false = false → Ku.M = K2.M)
              ∧ (l.getD 7 false = false → l.getD 9 false = false → Has u q1 22 #[.slice A1 l1.length c1])
              ∧ (l.getD 9 false = true → l.getD 1 false = true)
              ∧ (l.getD 9 false = true → l.getD 5 false = true)
              ∧ (l.getD 9 false = true → l.getD 6 false = true)
              ∧ (l.getD 9 false = true → l.getD 7 false = true)
              ∧ (l.getD 7 false = true → l.getD 6 false = true)
              ∧ (l.getD 7 false = true → l.getD 1 false = true)
              ∧ (l.getD 6 false = true → l.getD 5 false = true)
              ∧ (l.getD 0 false = true → x0 = .pointer (some ⟨g, 6, none⟩))
              ∧ (l.getD 1 false = true → x1 = .slice (some ⟨q1, 0, none⟩) 1 1)
              ∧ (l.getD 2 false = true → x2 = .pointer (some ⟨p, 0, none⟩))
              ∧ (l.getD 3 false = true → x3 = .int .i64 1)
              ∧ (l.getD 4 false = true → x4 = .int .i64 0)
              ∧ (l.getD 5 false = true → l.getD 9 false = false → ∃ (A2 : Option Addr) (c2 : Nat) (l2 : List IT), x5 = .slice A2 l2.length c2 ∧ LsI X4.heap.size p q1 W1 Ku u A2 c2 l2)
              ∧ (l.getD 6 false = true → l.getD 9 false = false → ∃ (A2 : Option Addr) (c2 : Nat) (l2 : List IT) (q2 : Nat), x6 = .slice (some ⟨q2, 0, none⟩) 1 1 ∧ Has u q2 22 #[.slice A2 l2.length c2] ∧ q2 ≠ q1 ∧ LsI X4.heap.size p q1 W1 Ku u A2 c2 l2)
              ∧ (l.getD 7 false = true → l.getD 9 false = false → ∃ (A2 : Option Addr) (c2 : Nat) (l2 : List IT) (A3 : Option Addr) (c3 : Nat), x7 = .slice A3 2 c3 ∧ u.ownsRow X4.heap.size 22 1 (.slice A3 2 c3) 2 [.slice A1 l1.length c1, .slice A2 l2.length c2] ∧ (∀ q, (Value.slice A3 2 c3).ownBlock = some q → rdOwn p Ku q = false) ∧ LsI X4.heap.size p q1 W1 Ku u A2 c2 l2)
              ∧ (l.getD 8 false = true → x8 = .pointer (some ⟨g, 6, none⟩))) (by kernel_rfl) (by kernel_rfl) ?h0 ?hs ?hd
          case h0 =>
            refine ⟨K2, _, _, _, _, _, _, _, _, _, rfl, fun _ => HMID.out.1.below (Below.refl _ _).drew, ?_, ⟨Int.le_refl _, by omega⟩, fun _ => rfl, fun _ _ => HMID.out.2, ?_⟩
            · simp
            · simp
          case hs =>
            intro l a u hl hI i o ho hdep hun KK hK
            have hi := (Array.getElem?_eq_some_iff.1 ho).1
            simp only [List.size_toArray, List.length_cons, List.length_nil] at hi hl
            obtain ⟨Ku, x0, x1, x2, x3, x4, x5, x6, x7, x8, rfl, hB, hFin, hMb, h5f, h7f, i91, i95, i96, i97, i76, i71, i65, p0, p1, p2, p3, p4, p5, p6, p7, p8⟩ := hI
            have hc : i = 0 ∨ i = 1 ∨ i = 2 ∨ i = 3 ∨ i = 4 ∨ i = 5 ∨ i = 6 ∨ i = 7 ∨ i = 8 ∨ i = 9 := by omega
            rcases hc with rfl | rfl | rfl | rfl | rfl | rfl | rfl | rfl | rfl | rfl
            all_goals (obtain rfl := Option.some.inj ho; rw [if_pos (by rfl)])
            · go_simp
              exact hK _ _ ⟨Ku, _, _, _, _, _, _, _, _, _, rfl, (fun c => hB (wasnt c (by rfl))), (fun c => hFin (was c (by rfl))), hMb, (fun c => h5f (wasnt c (by rfl))), (fun c d => h7f (wasnt c (by rfl)) (wasnt d (by rfl))), (imp_set (by omega) i91 (by rfl)), (imp_set (by omega) i95 (by rfl)), (imp_set (by omega) i96 (by rfl)), (imp_set (by omega) i97 (by rfl)), (imp_set (by omega) i76 (by rfl)), (imp_set (by omega) i71 (by rfl)), (imp_set (by omega) i65 (by rfl)), (fun _ => rfl), (fun c => p1 (was c (by rfl))), (fun c => p2 (was c (by rfl))), (fun c => p3 (was c (by rfl))), (fun c => p4 (was c (by rfl))), (fun c d => p5 (was c (by rfl)) (wasnt d (by rfl))), (fun c d => p6 (was c (by rfl)) (wasnt d (by rfl))), (fun c d => p7 (was c (by rfl)) (wasnt d (by rfl))), (fun c => p8 (was c (by rfl)))⟩
            · have h9 := nott i91 hun
              obtain rfl := p0 (hdep ⟨0, .data⟩ (by simp) (by rfl))
              have y6 : u.cell? ⟨g, 6, none⟩ = some (.slice (some ⟨q1, 0, none⟩) 1 1) := (hB h9).hg.cell 6
              go_simp
              exact hK _ _ ⟨Ku, _, _, _, _, _, _, _, _, _, rfl, (fun c => hB (wasnt c (by rfl))), (fun c => hFin (was c (by rfl))), hMb, (fun c => h5f (wasnt c (by rfl))), (fun c d => h7f (wasnt c (by rfl)) (wasnt d (by rfl))), (imp_set (by omega) i91 (by rfl)), (imp_set (by omega) i95 (by rfl)), (imp_set (by omega) i96 (by rfl)), (imp_set (by omega) i97 (by rfl)), (imp_set (by omega) i76 (by rfl)), (imp_set (by omega) i71 (by rfl)), (imp_set (by omega) i65 (by rfl)), (fun c => p0 (was c (by rfl))), (fun _ => rfl), (fun c => p2 (was c (by rfl))), (fun c => p3 (was c (by rfl))), (fun c => p4 (was c (by rfl))), (fun c d => p5 (was c (by rfl)) (wasnt d (by rfl))), (fun c d => p6 (was c (by rfl)) (wasnt d (by rfl))), (fun c d => p7 (was c (by rfl)) (wasnt d (by rfl))), (fun c => p8 (was c (by rfl)))⟩
            · go_simp
              exact hK _ _ ⟨Ku, _, _, _, _, _, _, _, _, _, rfl, (fun c => hB (wasnt c (by rfl))), (fun c => hFin (was c (by rfl))), hMb, (fun c => h5f (wasnt c (by rfl))), (fun c d => h7f (wasnt c (by rfl)) (wasnt d (by rfl))), (imp_set (by omega) i91 (by rfl)), (imp_set (by omega) i95 (by rfl)), (imp_set (by omega) i96 (by rfl)), (imp_set (by omega) i97 (by rfl)), (imp_set (by omega) i76 (by rfl)), (imp_set (by omega) i71 (by rfl)), (imp_set (by omega) i65 (by rfl)), (fun c => p0 (was c (by rfl))), (fun c => p1 (was c (by rfl))), (fun _ => rfl), (fun c => p3 (was c (by rfl))), (fun c => p4 (was c (by rfl))), (fun c d => p5 (was c (by rfl)) (wasnt d (by rfl))), (fun c d => p6 (was c (by rfl)) (wasnt d (by rfl))), (fun c d => p7 (was c (by rfl)) (wasnt d (by rfl))), (fun c => p8 (was c (by rfl)))⟩
            · go_simp
              exact hK _ _ ⟨Ku, _, _, _, _, _, _, _, _, _, rfl, (fun c => hB (wasnt c (by rfl))), (fun c => hFin (was c (by rfl))), hMb, (fun c => h5f (wasnt c (by rfl))), (fun c d => h7f (wasnt c (by rfl)) (wasnt d (by rfl))), (imp_set (by omega) i91 (by rfl)), (imp_set (by omega) i95 (by rfl)), (imp_set (by omega) i96 (by rfl)), (imp_set (by omega) i97 (by rfl)), (imp_set (by omega) i76 (by rfl)), (imp_set (by omega) i71 (by rfl)), (imp_set (by omega) i65 (by rfl)), (fun c => p0 (was c (by rfl))), (fun c => p1 (was c (by rfl))), (fun c => p2 (was c (by rfl))), (fun _ => rfl), (fun c => p4 (was c (by rfl))), (fun c d => p5 (was c (by rfl)) (wasnt d (by rfl))), (fun c d => p6 (was c (by rfl)) (wasnt d (by rfl))), (fun c d => p7 (was c (by rfl)) (wasnt d (by rfl))), (fun c => p8 (was c (by rfl)))⟩
            · obtain rfl := p3 (hdep ⟨3, .data⟩ (by simp) (by rfl))
              go_simp
              exact hK _ _ ⟨Ku, _, _, _, _, _, _, _, _, _, rfl, (fun c => hB (wasnt c (by rfl))), (fun c => hFin (was c (by rfl))), hMb, (fun c => h5f (wasnt c (by rfl))), (fun c d => h7f (wasnt c (by rfl)) (wasnt d (by rfl))), (imp_set (by omega) i91 (by rfl)), (imp_set (by omega) i95 (by rfl)), (imp_set (by omega) i96 (by rfl)), (imp_set (by omega) i97 (by rfl)), (imp_set (by omega) i76 (by rfl)), (imp_set (by omega) i71 (by rfl)), (imp_set (by omega) i65 (by rfl)), (fun c => p0 (was c (by rfl))), (fun c => p1 (was c (by rfl))), (fun c => p2 (was c (by rfl))), (fun c => p3 (was c (by rfl))), (fun _ => rfl), (fun c d => p5 (was c (by rfl)) (wasnt d (by rfl))), (fun c d => p6 (was c (by rfl)) (wasnt d (by rfl))), (fun c d => p7 (was c (by rfl)) (wasnt d (by rfl))), (fun c => p8 (was c (by rfl)))⟩
            · have h9 := nott i95 hun
              obtain rfl := p2 (hdep ⟨2, .data⟩ (by simp) (by rfl))
              obtain rfl := p4 (hdep ⟨4, .data⟩ (by simp) (by rfl))
              go_simp
              refine (HIT.out wp p Ku u (hB h9).rd ⟨by have := HM2.out; have hK1 : (K.setM (K.M + 1)).M = K.M + 1 := rfl; rw [hK1] at this; omega, by have := h5f hun; have := HM2.out; have hK1 : (K.setM (K.M + 1)).M = K.M + 1 := rfl; rw [hK1] at this; have := HBB.out.2.2; have := HM.out; omega⟩).mono ?_
              rintro e u2 ⟨A2, c2, l2, K3, rfl, ok2, gg2, r3, f3, hM3⟩
              have hm3 := (hB h9).call f3 r3
              have hl2 := LsI.second (hB h9) ok2 ⟨gg2.1, gg2.2.1⟩ gg2.2.2
              exact hK _ _ ⟨K3, _, _, _, _, _, _, _, _, _, rfl, (fun _ => hm3), (fun c => (by have := i95 (was c (by rfl)); rw [hun] at this; cases this)), (by have := h5f hun; omega), (fun c => by rw [getD_set_self (by omega)] at c; cases c), (fun c _ => (f3.has (h7f (wasnt c (by rfl)) h9) (hB h9).nq).1), (imp_set (by omega) i91 (by rfl)), (imp_set (by omega) i95 (by rfl)), (imp_set (by omega) i96 (by rfl)), (imp_set (by omega) i97 (by rfl)), (imp_set (by omega) i76 (by rfl)), (imp_set (by omega) i71 (by rfl)), (imp_set (by omega) i65 (by rfl)), (fun c => p0 (was c (by rfl))), (fun c => p1 (was c (by rfl))), (fun c => p2 (was c (by rfl))), (fun c => p3 (was c (by rfl))), (fun c => p4 (was c (by rfl))), (fun _ _ => ⟨A2, c2, l2, rfl, hl2⟩), (fun c _ => (by have := i65 (was c (by rfl)); rw [hun] at this; cases this)), (fun c _ => (by have := i65 (i76 (was c (by rfl))); rw [hun] at this; cases this)), (fun c => p8 (was c (by rfl)))⟩
            · have h9 := nott i96 hun
              obtain ⟨A2, c2, l2, rfl, hl2⟩ := p5 (hdep ⟨5, .data⟩ (by simp) (by rfl)) h9
              go_simp
              have b3 := step1 u (.cells #[.slice A2 l2.length c2] 22)
              exact hK _ _ ⟨Ku, _, _, _, _, _, _, _, _, _, rfl, (fun _ => (hB h9).below b3), (fun c => (by have := i96 (was c (by rfl)); rw [hun] at this; cases this)), hMb, (fun c => h5f (wasnt c (by rfl))), (fun c _ => hasA (h7f (wasnt c (by rfl)) h9) _), (imp_set (by omega) i91 (by rfl)), (imp_set (by omega) i95 (by rfl)), (imp_set (by omega) i96 (by rfl)), (imp_set (by omega) i97 (by rfl)), (imp_set (by omega) i76 (by rfl)), (imp_set (by omega) i71 (by rfl)), (fun _ => by rw [getD_set_ne (by decide)]; exact (hdep ⟨5, .data⟩ (by simp) (by rfl))), (fun c => p0 (was c (by rfl))), (fun c => p1 (was c (by rfl))), (fun c => p2 (was c (by rfl))), (fun c => p3 (was c (by rfl))), (fun c => p4 (was c (by rfl))), (fun _ _ => ⟨A2, c2, l2, rfl, hl2.below b3⟩), (fun _ _ => ⟨A2, c2, l2, u.heap.size, rfl, heap_alloc_new u _, (by have := (hB h9).q1u; omega), hl2.below b3⟩), (fun c _ => (by have := i76 (was c (by rfl)); rw [hun] at this; cases this)), (fun c => p8 (was c (by rfl)))⟩
            · have h9 := nott i97 hun
              obtain rfl := p1 (hdep ⟨1, .data⟩ (by simp) (by rfl))
              obtain ⟨A2, c2, l2, q2, rfl, hq2, hne, hl2⟩ := p6 (hdep ⟨6, .data⟩ (by simp) (by rfl)) h9
              obtain ⟨A3, c3, u2, r1, r2, r3, r4⟩ := kids_app (h7f hun h9) hq2 (hB h9).Nq
              refine op_app r1 rfl rfl rfl rfl ?_
              have hown : ∀ q, (Value.slice A3 2 c3).ownBlock = some q → rdOwn p Ku q = false := fun q hq => by
                rcases r4 with h | h
                · have e := Option.some.inj (h.symm.trans hq); rw [← e]; exact (hB h9).nq
                · have e := Option.some.inj (h.symm.trans hq); rw [← e]; exact (hB h9).rd.new (Nat.le_refl _)
              exact hK _ _ ⟨Ku, _, _, _, _, _, _, _, _, _, rfl, (fun _ => (hB h9).grown r3), (fun c => (by have := i97 (was c (by rfl)); rw [hun] at this; cases this)), hMb, (fun c => h5f (wasnt c (by rfl))), (fun c => by rw [getD_set_self (by omega)] at c; cases c), (imp_set (by omega) i91 (by rfl)), (imp_set (by omega) i95 (by rfl)), (imp_set (by omega) i96 (by rfl)), (imp_set (by omega) i97 (by rfl)), (fun _ => by rw [getD_set_ne (by decide)]; exact (hdep ⟨6, .data⟩ (by simp) (by rfl))), (fun _ => by rw [getD_set_ne (by decide)]; exact (hdep ⟨1, .data⟩ (by simp) (by rfl))), (imp_set (by omega) i65 (by rfl)), (fun c => p0 (was c (by rfl))), (fun c => p1 (was c (by rfl))), (fun c => p2 (was c (by rfl))), (fun c => p3 (was c (by rfl))), (fun c => p4 (was c (by rfl))), (fun c _ => by obtain ⟨a, b, d, e1, e2⟩ := p5 (was c (by rfl)) h9; exact ⟨a, b, d, e1, e2.grown r3⟩), (fun _ _ => ⟨A2, c2, l2, q2, rfl, (r3.block q2 hq2.lt (by simp; omega)).trans hq2, hne, hl2.grown r3⟩), (fun _ _ => ⟨A2, c2, l2, A3, c3, rfl, r2, hown, hl2.grown r3⟩), (fun c => p8 (was c (by rfl)))⟩
            · go_simp
              exact hK _ _ ⟨Ku, _, _, _, _, _, _, _, _, _, rfl, (fun c => hB (wasnt c (by rfl))), (fun c => hFin (was c (by rfl))), hMb, (fun c => h5f (wasnt c (by rfl))), (fun c d => h7f (wasnt c (by rfl)) (wasnt d (by rfl))), (imp_set (by omega) i91 (by rfl)), (imp_set (by omega) i95 (by rfl)), (imp_set (by omega) i96 (by rfl)), (imp_set (by omega) i97 (by rfl)), (imp_set (by omega) i76 (by rfl)), (imp_set (by omega) i71 (by rfl)), (imp_set (by omega) i65 (by rfl)), (fun c => p0 (was c (by rfl))), (fun c => p1 (was c (by rfl))), (fun c => p2 (was c (by rfl))), (fun c => p3 (was c (by rfl))), (fun c => p4 (was c (by rfl))), (fun c d => p5 (was c (by rfl)) (wasnt d (by rfl))), (fun c d => p6 (was c (by rfl)) (wasnt d (by rfl))), (fun c d => p7 (was c (by rfl)) (wasnt d (by rfl))), (fun _ => rfl)⟩
            · have h9 := hun
              obtain rfl := p8 (hdep ⟨8, .data⟩ (by simp) (by rfl))
              obtain ⟨A2, c2, l2, A3, c3, rfl, hrow, hown, hl2⟩ := p7 (hdep ⟨7, .data⟩ (by simp) (by rfl)) h9
              have y6 : u.cell? ⟨g, 6, none⟩ = some (.slice (some ⟨q1, 0, none⟩) 1 1) := (hB h9).hg.cell 6
              have f6 : u.frozen? ⟨g, 6, none⟩ = false := (hB h9).hg.free 6
              have hfin := (hB h9).fin hl2 hrow hown
              go_simp
              exact hK _ _ ⟨Ku, _, _, _, _, _, _, _, _, _, rfl, (fun c => by rw [getD_set_self (by omega)] at c; cases c), (fun _ => hfin), hMb, (fun c => h5f (wasnt c (by rfl))), (fun _ d => by rw [getD_set_self (by omega)] at d; cases d), (fun _ => by rw [getD_set_ne (by decide)]; exact i71 (hdep ⟨7, .data⟩ (by simp) (by rfl))), (fun _ => by rw [getD_set_ne (by decide)]; exact i65 (i76 (hdep ⟨7, .data⟩ (by simp) (by rfl)))), (fun _ => by rw [getD_set_ne (by decide)]; exact i76 (hdep ⟨7, .data⟩ (by simp) (by rfl))), (fun _ => by rw [getD_set_ne (by decide)]; exact (hdep ⟨7, .data⟩ (by simp) (by rfl))), (imp_set (by omega) i76 (by rfl)), (imp_set (by omega) i71 (by rfl)), (imp_set (by omega) i65 (by rfl)), (fun c => p0 (was c (by rfl))), (fun c => p1 (was c (by rfl))), (fun c => p2 (was c (by rfl))), (fun c => p3 (was c (by rfl))), (fun c => p4 (was c (by rfl))), (fun _ d => by rw [getD_set_self (by omega)] at d; cases d), (fun _ d => by rw [getD_set_self (by omega)] at d; cases d), (fun _ d => by rw [getD_set_self (by omega)] at d; cases d), (fun c => p8 (was c (by rfl)))⟩
          case hd =>
            intro l a u hl hall hI
            obtain ⟨Ku, x0, x1, x2, x3, x4, x5, x6, x7, x8, rfl, -, hFin, hMb, -⟩ := hI
            simp only [List.size_toArray, List.length_cons, List.length_nil] at hall
            have hfin := hFin (hall 9 (by omega))
            clear hFin hall hl
            have hK1 : (K.setM (K.M + 1)).M = K.M + 1 := rfl
            obtain ⟨A3, c3, A5, c5, l5, A6, c6, l6, ⟨T1, T2⟩, T3, T4, T5, T6, T7, T8⟩ := hfin
            have HT1 := Lib.hid T1
            have HT2 := Lib.hid (show wtI (altK A3 c3 A5 c5 l5 A6 c6 l6) ≤ W by have := HBB.out.1; omega)
            have HT3 := Lib.hid T3
            have HT4 := Lib.hid T4
            have HT5 := Lib.hid T5
            have HT6 := Lib.hid T6
            have HT7 := Lib.hid T7
            have HT8 := Lib.hid T8
            have HMF : Hid (K.M + 1 ≤ Ku.M ∧ Ku.M ≤ K.M + (m : Int)) := Lib.hid (by have := HM2.out; rw [hK1] at this; have := HBB.out.2.1; omega)
            clear T1 T2 T3 T4 T5 T6 T7 T8 hMb hK1
            go_upto_region 13 with fail
            obtain ⟨y0, y1, y2, y3, y4, y5, y6⟩ := seven_has HT6.out
            obtain ⟨⟨m0, m1, m2, m3, m4, m5, m6⟩, ⟨n0, n1, n2, n3, n4, n5, n6⟩, nlt⟩ := zer7_facts HT7.out
            have hT : (altK A3 c3 A5 c5 l5 A6 c6 l6).In (Ot (w.heap.size + 1) p Ku u) := HT3.out
            have hn6 : rdOwn p Ku w.heap.size = false := HT8.out
            have HZZ := Lib.hid (show Rd wp p Ku (set7 u w.heap.size (.int .i64 3) (.string (str [])) (.string (str [])) (.slice none 0 0) (.int .i64 0) (.int .i64 0) (.slice A3 2 c3)) ∧ FrI p K w Ku (set7 u w.heap.size (.int .i64 3) (.string (str [])) (.string (str [])) (.slice none 0 0) (.int .i64 0) (.int .i64 0) (.slice A3 2 c3)) ∧ Has (set7 u w.heap.size (.int .i64 3) (.string (str [])) (.string (str [])) (.slice none 0 0) (.int .i64 0) (.int .i64 0) (.slice A3 2 c3)) w.heap.size 42 (csI (altK A3 c3 A5 c5 l5 A6 c6 l6)) ∧ (altK A3 c3 A5 c5 l5 A6 c6 l6).In (Ot w.heap.size p Ku (set7 u w.heap.size (.int .i64 3) (.string (str [])) (.string (str [])) (.slice none 0 0) (.int .i64 0) (.int .i64 0) (.slice A3 2 c3))) from item_fin HT4.out HT5.out HH.out HT7.out (altK A3 c3 A5 c5 l5 A6 c6 l6) hn6 hT)
            clear hT hn6
            go_wp2_with fail
            rw [set7_fold]
            clear y0 y1 y2 y3 y4 y5 y6 m0 m1 m2 m3 m4 m5 m6 n0 n1 n2 n3 n4 n5 n6 nlt
            generalize set7 u w.heap.size (.int .i64 3) (.string (str [])) (.string (str [])) (.slice none 0 0) (.int .i64 0) (.int .i64 0) (.slice A3 2 c3) = Z at HZZ ⊢
            obtain ⟨y0, y1, y2, y3, y4, y5, y6⟩ := seven_has HZZ.out.2.2.1
            refine bodyPost_ret (v := .agg (csI (altK A3 c3 A5 c5 l5 A6 c6 l6))) (by simp [results, Tryd.results50, go_sem, y0, y1, y2, y3, y4, y5, y6]) rfl ?_
            exact ⟨(altK A3 c3 A5 c5 l5 A6 c6 l6), Ku, rfl, ⟨HT1.out, HT2.out, HZZ.out.2.2.2⟩, HZZ.out.1, HZZ.out.2.1, HMF.out⟩
    · have e7 : x % 8 = 7 := by have := HB6.out; simp at this; exact this.2
      clear e7
      obtain ⟨X5, hX5⟩ : ∃ X5, (X4.setCell ⟨g, 0, none⟩ (.int .i64 2)) = X5 := ⟨_, rfl⟩
      have hgb : w.heap.size ≤ g := by have := HG.out; omega
      have b5 : Below w.heap.size X4 X5 := by rw [← hX5]; exact ((Below.refl w.heap.size X4).setCell (p := ⟨g, 0, none⟩) hgb (.int .i64 2))
      have h105 : Has X5 g 42 (csIm 2 kind own none 0 0 0 0 none 0 0) := by rw [← hX5]; exact (H10.out.put 0 (.int .i64 2))
      have h65 : Has X5 w.heap.size 42 zer7 := by rw [← hX5]; exact (hasS H6.out _ _ HQG.out)
      have HD5 := Lib.hid (HD.out.belowB b5 HP.out (Nat.le_of_eq (hid_size p w)))
      have HF5 := Lib.hid (HF.out.belowB HP.out b5)
      have HSZ5 := Lib.hid (show g < X5.heap.size from h105.lt)
      have H105 := Lib.hid h105
      have H65 := Lib.hid h65
      have HA := Lib.hid (HPRED.out own kind HO.out X5 HD5.out)
      clear h105 h65 b5
      obtain ⟨y0, y1, y2, y3, y4, y5, y6⟩ := seven_has H10.out
      have f0 : X4.frozen? ⟨g, 0, none⟩ = false := H10.out.free 0
      go_upto_region 8 with fail
      clear hX5 y0 y1 y2 y3 y4 y5 y6 f0
      go_wp2_with fail
      refine HA.out.mono ?_
      rintro e w2 ⟨A, c, ps, rfl, okA, gp, eP, fd2, fr2⟩
      have h102 := fr2.has H105.out HGP.out
      have h62 := fr2.has H65.out HQ.out
      have HR2 := Lib.hid (HF5.out.trans fr2)
      have f3 : w2.frozen? ⟨g, 3, none⟩ = false := h102.free 3
      have y3 : w2.cell? ⟨g, 3, none⟩ = some (.slice none 0 0) := h102.cell 3
      obtain ⟨X7, hX7⟩ : ∃ X7, w2.setCell ⟨g, 3, none⟩ (.slice A ps.length c) = X7 := ⟨_, rfl⟩
      have b7 : Below w.heap.size w2 X7 := by rw [← hX7]; exact set_belowN (by have := HG.out; omega) _
      have h107 : Has X7 g 42 (csIm 2 kind own A ps.length c 0 0 none 0 0) := by rw [← hX7]; exact h102.put 3 (.slice A ps.length c)
      have h67 : Has X7 w.heap.size 42 zer7 := by rw [← hX7]; exact hasS h62 _ _ HQG.out
      have R7 := (HH.out.fr fd2 HR2.out (by show K.M ≤ K.M + 1; omega)).belowB b7 (fun q hq => (HH.out.own_lt hq).2)
      have F7 := (FrI.of_fr (K := K) (K.M + 1) HR2.out).belowB b7
      have E7 : Ets (Ot (w.heap.size + 1) p (K.setM (K.M + 1)) X7) A ps := ets_out eP (by have := HG.out; have := HSZ5.out; omega) (fun b hb => by rw [← hX7]; exact setCell_ne _ (by have := HSZ5.out; omega)) (fun b hb => HH.out.new (by have := HG.out; have := HSZ5.out; omega))
      have HR7 := Lib.hid R7
      have HF7 := Lib.hid F7
      have HE7 := Lib.hid E7
      have H107 := Lib.hid h107
      have H67 := Lib.hid h67
      have HGP2 := Lib.hid gp
      have HOK := Lib.hid okA
      clear R7 F7 E7 h107 h67 gp okA eP fd2 fr2 h102 h62 b7 HR2 H105 H65 HF5 HD5 HSZ5 HA
      go_upto_region 9 with fail
      clear hX7 f3 y3
      obtain ⟨y0, y1, y2, y3, y4, y5, y6⟩ := seven_has H107.out
      obtain ⟨⟨m0, m1, m2, m3, m4, m5, m6⟩, ⟨n0, n1, n2, n3, n4, n5, n6⟩, nlt⟩ := zer7_facts H67.out
      have hT : (IT.mk 2 kind own A c ps 0 0 none 0 [] []).In (Ot (w.heap.size + 1) p (K.setM (K.M + 1)) X7) := in_named (by omega) (by omega) (by omega) HK.out HO.out HOK.out HE7.out
      have hn6 : rdOwn p (K.setM (K.M + 1)) w.heap.size = false := HH.out.new (Nat.le_refl _)
      have HZZ := Lib.hid (show Rd wp p (K.setM (K.M + 1)) (set7 X7 w.heap.size (.int .i64 2) (.string (str kind)) (.string (str own)) (.slice A ps.length c) (.int .i64 0) (.int .i64 0) (.slice none 0 0)) ∧ FrI p K w (K.setM (K.M + 1)) (set7 X7 w.heap.size (.int .i64 2) (.string (str kind)) (.string (str own)) (.slice A ps.length c) (.int .i64 0) (.int .i64 0) (.slice none 0 0)) ∧ Has (set7 X7 w.heap.size (.int .i64 2) (.string (str kind)) (.string (str own)) (.slice A ps.length c) (.int .i64 0) (.int .i64 0) (.slice none 0 0)) w.heap.size 42 (csI (IT.mk 2 kind own A c ps 0 0 none 0 [] [])) ∧ (IT.mk 2 kind own A c ps 0 0 none 0 [] []).In (Ot w.heap.size p (K.setM (K.M + 1)) (set7 X7 w.heap.size (.int .i64 2) (.string (str kind)) (.string (str own)) (.slice A ps.length c) (.int .i64 0) (.int .i64 0) (.slice none 0 0))) from item_fin HR7.out HF7.out HH.out H67.out (IT.mk 2 kind own A c ps 0 0 none 0 [] []) hn6 hT)
      clear hT hn6
      go_wp2_with fail
      rw [set7_fold]
      clear y0 y1 y2 y3 y4 y5 y6 m0 m1 m2 m3 m4 m5 m6 n0 n1 n2 n3 n4 n5 n6 nlt
      generalize set7 X7 w.heap.size (.int .i64 2) (.string (str kind)) (.string (str own)) (.slice A ps.length c) (.int .i64 0) (.int .i64 0) (.slice none 0 0) = Z at HZZ ⊢
      obtain ⟨y0, y1, y2, y3, y4, y5, y6⟩ := seven_has HZZ.out.2.2.1
      refine bodyPost_ret (v := .agg (csI (IT.mk 2 kind own A c ps 0 0 none 0 [] []))) (by simp [results, Tryd.results50, go_sem, y0, y1, y2, y3, y4, y5, y6]) rfl ?_
      exact ⟨(IT.mk 2 kind own A c ps 0 0 none 0 [] []), (K.setM (K.M + 1)), rfl, ⟨right_named (.inl ⟨.inr rfl, rfl, rfl⟩) HK.out HO.out HGP2.out.1 HGP2.out.2.1, Nat.le_trans (wt_named HGP2.out.2.2) hW, HZZ.out.2.2.2⟩, HZZ.out.1, HZZ.out.2.1, Int.le_refl _, (by show K.M + 1 ≤ K.M + (m : Int); omega)⟩
end Go.Proofs.YtbdfehgofnomhaaDoor
