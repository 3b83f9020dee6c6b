/- The statement SizeSums, called with two slices of numbers of 16 bits and a number, in any memory in which the table of classes reads as it is written, returns true and writes nothing that was there. -/
import Derived.Test.YtbojiphhcciliaaDoorSizeMods
namespace Go.Proofs.YtbojiphhcciliaaDoor
open Go.RowKit
set_option linter.unusedVariables false

set_option maxRecDepth 100000 in
set_option maxHeartbeats 8000000 in
theorem sums_walk (x0 : Option Addr) (len0 cap0 : Nat) (z0 : List Int) (x1 : Option Addr) (len1 cap1 : Nat) (z1 : List Int) (bad : Int) (hbad0 : -9223372036854775808 ≤ bad) (hbad1 : bad ≤ 9223372036854775807) (w : World)
    (r0 : IsRow .u16 w x0 len0 cap0 z0) (wz0 : ∀ n ∈ z0, (Lit.int .u16 n).wf = true) (r1 : IsRow .u16 w x1 len1 cap1 z1) (wz1 : ∀ n ∈ z1, (Lit.int .u16 n).wf = true) (ht : Tab w) :
    Calls Tryd.prog 5 #[.slice x0 len0 cap0, .slice x1 len1 cap1, .int .i64 bad] w fun e w' => e = .returned (.bool true) ∧ Below w.heap.size w w' := by
  obtain ⟨hl0, hz0, hm0, _⟩ := id r0
  obtain ⟨hl1, hz1, hm1, _⟩ := id r1
  unfold maxLen at hm0 hm1
  have hlen0 : (len0 : Int) ≤ 9223372036854775807 := by omega
  have hlen1 : (len1 : Int) ≤ 9223372036854775807 := by omega
  have R0 := Lib.hid r0
  have R1 := Lib.hid r1
  have Z0 := Lib.hid wz0
  have Z1 := Lib.hid wz1
  have L0 := Lib.hid hl0
  have L1 := Lib.hid hl1
  have BD := Lib.hid (And.intro hbad0 hbad1)
  obtain ⟨a0, ha0⟩ : ∃ a0, (a0 = len0 ∧ len0 ≤ 6) ∨ (a0 = 6 ∧ 6 < len0) := by
    by_cases h : len0 ≤ 6
    · exact ⟨len0, .inl ⟨rfl, h⟩⟩
    · exact ⟨6, .inr ⟨rfl, by omega⟩⟩
  obtain ⟨a1, ha1⟩ : ∃ a1, (a1 = len1 ∧ len1 ≤ 6) ∨ (a1 = 6 ∧ 6 < len1) := by
    by_cases h : len1 ≤ 6
    · exact ⟨len1, .inl ⟨rfl, h⟩⟩
    · exact ⟨6, .inr ⟨rfl, by omega⟩⟩
  have A0 := Lib.hid ha0
  have A1 := Lib.hid ha1
  clear r0 r1 wz0 wz1 hl0 hl1 hz0 hz1 hm0 hm1 hbad0 hbad1 ha0 ha1
  go_enter Tryd.func5, Tryd.ntmps5
  go_wp2_with fail
  refine (examples_any _ ht).mono ?_
  rintro e w1 ⟨rfl, hb1⟩
  have HB1 := Lib.hid hb1
  have HT := Lib.hid ht
  clear hb1 ht
  go_wp2
  go_loopw [8, 10] (fun v i wr => ∃ k : Nat, k ≤ a0 ∧ i = .int .i64 k ∧ wr.ownsRow w1.heap.size 3 1 v k (ints (mods z0 k)) ∧ Below w1.heap.size w1 wr) (fun _ i _ => a0 - (intOf i).toNat)
  case atStart => exact ⟨0, by omega, rfl, World.ownsRow_nil _ _ _ _, Below.refl _ _⟩
  case round =>
    obtain ⟨k, hk, rfl, hown, hbw⟩ := hrel
    have HO := Lib.hid hown
    have HW := Lib.hid hbw
    have HWW : Hid (Below w.heap.size w wr) := Lib.hid (HB1.out.trans (hbw.mono HB1.out.size))
    clear hown hbw
    by_cases hlt : k < a0
    · have hk6 : k < 6 := by have := A0.out; omega
      have hkl : k < len0 := by have := A0.out; omega
      have hkz : k < z0.length := by have := L0.out; omega
      obtain ⟨b, off, rfl, hc⟩ := (R0.out.below HWW.out).at_ hkl
      have hx := getD_u16 Z0.out hkz
      have MS := Lib.hid (mods_succ hkz)
      generalize z0.getD k 0 = x at hc hx MS
      have hx0 := hx.1
      have hx1 := hx.2
      obtain ⟨v', w', hrun, hown', hgrow, hat⟩ := app_ints (wr.alloc (.cells #[.int .i64 (x % 1025)] 3)) w1.heap.size _ k (mods z0 k) [x % 1025] (HO.out.alloc _) (some ⟨wr.heap.size, 0, none⟩) 1 1 rfl (Lies.one _ _ _) (fun h => by cases h) (by omega) (by have := HW.out.size; simp; omega)
      have HO' := Lib.hid hown'
      have HR := Lib.hid hrun
      clear hrun
      have HG : Hid (Below w1.heap.size w1 w') := Lib.hid ((HW.out.alloc HW.out.size _).grown hgrow (by have := HW.out.size; simp; omega) (fun g hg => (HO.out.lt g hg).1))
      clear hown' hgrow hat hkz hx
      go_wp2_with (at_builtin; refine wpList_app HR.out rfl rfl rfl rfl rfl ?_)
      go_roundw
      case rel => exact ⟨k + 1, by omega, by go_num, by rw [MS.out]; exact HO'.out, HG.out⟩
      case measure => simp [intOf]; omega
    · obtain rfl : k = a0 := by omega
      rcases A0.out with ⟨h0, h6⟩ | ⟨h0, h6⟩
      all_goals
        have hz0 : k ≤ z0.length := by have := L0.out; omega
        have hk6 : k ≤ 6 := by omega
        obtain ⟨A, c, rfl, hA, hAn, hc1, hc2⟩ := own_shape HO.out
        have HA := Lib.hid hA
        have HAn := Lib.hid hAn
        have ML := Lib.hid (mods_len hz0)
        first | have hge : len0 ≤ k := by omega | have hge : 6 ≤ k := by omega
        clear h0
        clear hA hAn hc1 hc2 HO hz0 A0 L0 Z0 R0
        generalize hl : mods z0 _ = l at HA ML
        have SL : Hid (Small l) := Lib.hid (by rw [← hl]; exact mods_small _ _)
        clear hl
        rename World => w2
        go_wp2
        go_loopw [9, 11] (fun v i wq => ∃ k1 : Nat, k1 ≤ a1 ∧ i = .int .i64 k1 ∧ wq.ownsRow w2.heap.size 3 1 v k1 (ints (mods z1 k1)) ∧ Below w2.heap.size w2 wq) (fun _ i _ => a1 - (intOf i).toNat)
        case atStart => exact ⟨0, by omega, rfl, World.ownsRow_nil _ _ _ _, Below.refl _ _⟩
        case round =>
          obtain ⟨k1, hk1, rfl, hown, hbw⟩ := hrel
          have HO := Lib.hid hown
          have HW2 := Lib.hid hbw
          have HWQ : Hid (Below w.heap.size w wr) := Lib.hid (HWW.out.trans (hbw.mono HWW.out.size))
          clear hown hbw
          by_cases hlt1 : k1 < a1
          · have hk16 : k1 < 6 := by have := A1.out; omega
            have hkl : k1 < len1 := by have := A1.out; omega
            have hkz : k1 < z1.length := by have := L1.out; omega
            obtain ⟨b, off, rfl, hc⟩ := (R1.out.below HWQ.out).at_ hkl
            have hx := getD_u16 Z1.out hkz
            have MS := Lib.hid (mods_succ hkz)
            generalize z1.getD k1 0 = x at hc hx MS
            have hx0 := hx.1
            have hx1 := hx.2
            obtain ⟨v', w', hrun, hown', hgrow, hat⟩ := app_ints (wr.alloc (.cells #[.int .i64 (x % 1025)] 3)) w2.heap.size _ k1 (mods z1 k1) [x % 1025] (HO.out.alloc _) (some ⟨wr.heap.size, 0, none⟩) 1 1 rfl (Lies.one _ _ _) (fun h => by cases h) (by omega) (by have := HW2.out.size; simp; omega)
            have HO' := Lib.hid hown'
            have HR := Lib.hid hrun
            have HG : Hid (Below w2.heap.size w2 w') := Lib.hid (app_below (HW2.out.alloc HW2.out.size _) (by have := HW2.out.size; simp; omega) hgrow (HO.out.alloc _) (Nat.le_refl _))
            clear hown' hgrow hat hkz hx hrun
            go_wp2_with (at_builtin; refine wpList_app HR.out rfl rfl rfl rfl rfl ?_)
            go_roundw
            case rel => exact ⟨k1 + 1, by omega, by go_num, by rw [MS.out]; exact HO'.out, HG.out⟩
            case measure => simp [intOf]; omega
          · obtain rfl : k1 = a1 := by omega
            rcases A1.out with ⟨h1, h7⟩ | ⟨h1, h7⟩
            all_goals
              have hz1 : k1 ≤ z1.length := by have := L1.out; omega
              have hk16 : k1 ≤ 6 := by omega
              obtain ⟨A', c', rfl, hA', hAn', hc1, hc2⟩ := own_shape HO.out
              have HA' := Lib.hid hA'
              have HAn' := Lib.hid hAn'
              have ML' := Lib.hid (mods_len hz1)
              first | have hge1 : len1 ≤ k1 := by omega | have hge1 : 6 ≤ k1 := by omega
              clear h1
              clear hA' hAn' hc1 hc2 HO hz1 A1 L1 Z1 R1
              generalize hl' : mods z1 _ = m at HA' ML'
              have SM : Hid (Small m) := Lib.hid (by rw [← hl']; exact mods_small _ _)
              clear hl'
              rename World => w3
              have HA3 := Lib.hid (HA.out.below HW2.out)
              have HT3 := Lib.hid (HT.out.below HWQ.out)
              obtain ⟨v4, w4, r4, o4, g4, _⟩ := app_ints w3 w3.heap.size (.slice none 0 0) 0 [] l (World.ownsRow_nil _ _ _ _) A _ c ML.out HA3.out HAn.out (by omega) (Nat.le_refl _)
              simp only [Nat.zero_add, List.nil_append] at o4
              have B4 := Lib.hid (app_below (Below.refl w3.heap.size w3) (Nat.le_refl _) g4 (World.ownsRow_nil w3 w3.heap.size 3 1) (Nat.le_refl _))
              obtain ⟨v5, w5, r5, o5, g5, _⟩ := app_ints w4 w3.heap.size v4 _ l m o4 A' _ c' ML'.out (HA'.out.below B4.out) HAn'.out (by omega) B4.out.size
              have B5 := Lib.hid (app_below B4.out B4.out.size g5 o4 (Nat.le_refl _))
              obtain ⟨A5, c5, rfl, hl5, _, _, hm5⟩ := own_shape o5
              have HL5 := Lib.hid hl5
              obtain ⟨v6, w6, r6, o6, g6, _⟩ := app_ints w5 w5.heap.size (.slice none 0 0) 0 [] l (World.ownsRow_nil _ _ _ _) A _ c ML.out (HA3.out.below B5.out) HAn.out (by omega) (Nat.le_refl _)
              simp only [Nat.zero_add, List.nil_append] at o6
              have B6 := Lib.hid (app_below (Below.refl w5.heap.size w5) (Nat.le_refl _) g6 (World.ownsRow_nil w5 w5.heap.size 3 1) (Nat.le_refl _))
              obtain ⟨v7, w7, r7, o7, g7, _⟩ := app_ints (w6.alloc (.cells #[.int .i64 bad] 3)) w5.heap.size v6 _ l [bad] (o6.alloc _) (some ⟨w6.heap.size, 0, none⟩) 1 1 rfl (Lies.one _ _ _) (fun h => by cases h) (by omega) (by have := B6.out.size; simp; omega)
              have B7 := Lib.hid (app_below (B6.out.alloc B6.out.size _) (by have := B6.out.size; simp; omega) g7 (o6.alloc _) (Nat.le_refl _))
              obtain ⟨A7, c7, rfl, hl7, _, _, hm7⟩ := own_shape o7
              have HL7 := Lib.hid hl7
              have R4 := Lib.hid r4
              have R5 := Lib.hid r5
              have R6 := Lib.hid r6
              have R7 := Lib.hid r7
              clear r4 r5 r6 r7 o4 o5 o6 o7 g4 g5 g6 g7 hl5 hl7
              go_wp2_with fail
              refine (sum_lies A _ c l _ HT3.out ML.out (by unfold maxLen; omega) HA3.out).mono ?_
              rintro e w' ⟨rfl, rfl⟩
              go_wp2_with fail
              refine (sum_lies A' _ c' m _ HT3.out ML'.out (by unfold maxLen; omega) HA'.out).mono ?_
              rintro e w' ⟨rfl, rfl⟩
              go_wp2_with (first | (at_builtin; refine wpList_app R4.out rfl rfl rfl rfl rfl ?_) | (at_builtin; refine wpList_app R5.out rfl rfl rfl rfl rfl ?_))
              have HT5 := Lib.hid (HT3.out.below B5.out)
              have HT7 := Lib.hid (HT5.out.below B7.out)
              refine (sum_lies A5 _ c5 (l ++ m) _ HT5.out (by simp [ML.out, ML'.out]) (by unfold maxLen; omega) HL5.out).mono ?_
              rintro e w' ⟨rfl, rfl⟩
              have bl := tot_bd SL.out
              have bm := tot_bd SM.out
              rw [ML.out] at bl
              rw [ML'.out] at bm
              have BL := Lib.hid bl
              have BM := Lib.hid bm
              clear bl bm
              have l1 : l.length ≤ 1000 := by rw [ML.out]; omega
              have l2 : m.length ≤ 1000 := by rw [ML'.out]; omega
              have SLM : Small (l ++ m) := fun x hx => (List.mem_append.1 hx).elim (SL.out x) (SM.out x)
              rw [smv_small SL.out l1, smk_small SL.out l1, smv_small SM.out l2, smk_small SM.out l2, smv_small SLM (by rw [List.length_append, ML.out, ML'.out]; omega), smk_small SLM (by rw [List.length_append, ML.out, ML'.out]; omega), tot_append]
              clear SLM l2
              go_wp2_with (first | (at_builtin; refine wpList_app R6.out rfl rfl rfl rfl rfl ?_) | (at_builtin; refine wpList_app R7.out rfl rfl rfl rfl rfl ?_))
              refine (sum_lies A7 _ c7 (l ++ [bad]) _ HT7.out (by simp [ML.out]) (by unfold maxLen; omega) HL7.out).mono ?_
              rintro e w' ⟨rfl, rfl⟩
              have fin : Hid (Below w.heap.size w w7) := Lib.hid (HWQ.out.trans ((B5.out.trans (B7.out.mono B5.out.size)).mono HWQ.out.size))
              have K1 := Lib.hid (smk_end SL.out l1 bad)
              have K2 := Lib.hid (smv_end SL.out l1 bad)
              have rb := rnd_bd bad
              generalize tot l = T0 at BL K2 ⊢
              generalize tot m = T1 at BM ⊢
              have t0 : 0 ≤ T0 := by have := BL.out; omega
              have t1 : T0 ≤ 6144 := by have := BL.out; omega
              have t2 : 0 ≤ T1 := by have := BM.out; omega
              have t3 : T1 ≤ 6144 := by have := BM.out; omega
              clear l1 HL5 HL7 B4 B5 B6 B7 R4 R5 R6 R7 HT3 HT5 HA HA' HA3 BL BM
              rcases Bool.eq_false_or_eq_true (rok bad) with hrb | hrb
              all_goals
                have HRB := Lib.hid hrb
                rw [K1.out, K2.out, hrb]
                first | rw [if_pos rfl] | rw [if_neg (by decide)]
                clear hrb
                go_wp2_with fail
                refine (round_any bad _ HT7.out).mono ?_
                rintro e w' ⟨rfl, rfl⟩
                rw [HRB.out]
                generalize rnd bad = rb0 at rb ⊢
                go_wp2
                go_ret
                exact ⟨rfl, fin.out⟩
end Go.Proofs.YtbojiphhcciliaaDoor
