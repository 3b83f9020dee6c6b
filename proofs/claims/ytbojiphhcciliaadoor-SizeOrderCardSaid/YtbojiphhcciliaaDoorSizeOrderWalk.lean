/- The statement SizeOrder, called with a slice of numbers of 16 bits, a number of 8 bits and one of 16 bits, in any memory in which the table of classes reads as it is written, returns true and writes nothing that was there. -/
import Derived.Test.YtbojiphhcciliaaDoorSizeMods
import Derived.Test.YtbojiphhcciliaaDoorAppStep
import Derived.Deep.DeepCutAuto
namespace Go.Proofs.YtbojiphhcciliaaDoor
open Go.RowKit
set_option linter.unusedVariables false

set_option maxRecDepth 100000 in
set_option maxHeartbeats 8000000 in
theorem order_walk (x0 : Option Addr) (len0 cap0 : Nat) (z0 : List Int) (cut more : Int) (hcut0 : 0 ≤ cut) (hcut1 : cut ≤ 255) (hmore0 : 0 ≤ more) (hmore1 : more ≤ 65535) (w : World)
    (r0 : IsRow .u16 w x0 len0 cap0 z0) (wz0 : ∀ n ∈ z0, (Lit.int .u16 n).wf = true) (ht : Tab w) :
    Calls Tryd.prog 7 #[.slice x0 len0 cap0, .int .u8 cut, .int .u16 more] w fun e w' => e = .returned (.bool true) ∧ Below w.heap.size w w' := by
  obtain ⟨hl0, hz0, hm0, _⟩ := id r0
  unfold maxLen at hm0
  have hlen0 : (len0 : Int) ≤ 9223372036854775807 := by omega
  have R0 := Lib.hid r0
  have Z0 := Lib.hid wz0
  have L0 := Lib.hid hl0
  obtain ⟨a0, ha0⟩ : ∃ a0, (a0 = len0 ∧ len0 ≤ 10) ∨ (a0 = 10 ∧ 10 < len0) := by
    by_cases h : len0 ≤ 10
    · exact ⟨len0, .inl ⟨rfl, h⟩⟩
    · exact ⟨10, .inr ⟨rfl, by omega⟩⟩
  have A0 := Lib.hid ha0
  clear r0 wz0 hl0 hz0 hm0 ha0
  go_enter Tryd.func7, Tryd.ntmps7
  go_wp2_with fail
  refine (examples_any _ ht).mono ?_
  rintro e w1 ⟨rfl, hb1⟩
  have HB1 := Lib.hid hb1
  have HT := Lib.hid ht
  clear hb1 ht
  go_wp2
  go_loopw [8, 9] (fun v i wr => ∃ k : Nat, k ≤ a0 ∧ i = .int .i64 k ∧ wr.ownsRow w1.heap.size 3 1 v k (ints (mods z0 k)) ∧ Below w1.heap.size w1 wr) (fun _ i _ => a0 - (intOf i).toNat)
  case atStart => exact ⟨0, by omega, rfl, World.ownsRow_nil _ _ _ _, Below.refl _ _⟩
  case round =>
    obtain ⟨k, hk, rfl, hown, hbw⟩ := hrel
    have HO := Lib.hid hown
    have HW := Lib.hid hbw
    have HWW : Hid (Below w.heap.size w wr) := Lib.hid (HB1.out.trans (hbw.mono HB1.out.size))
    clear hown hbw
    by_cases hlt : k < a0
    · have hk6 : k < 10 := by have := A0.out; omega
      have hkl : k < len0 := by have := A0.out; omega
      have hkz : k < z0.length := by have := L0.out; omega
      obtain ⟨b, off, rfl, hc⟩ := (R0.out.below HWW.out).at_ hkl
      have hx := getD_u16 Z0.out hkz
      have MS := Lib.hid (mods_succ hkz)
      generalize z0.getD k 0 = x at hc hx MS
      have hx0 := hx.1
      have hx1 := hx.2
      obtain ⟨v', w', hrun, hown', hgrow, hat⟩ := app_ints (wr.alloc (.cells #[.int .i64 (x % 1025)] 3)) w1.heap.size _ k (mods z0 k) [x % 1025] (HO.out.alloc _) (some ⟨wr.heap.size, 0, none⟩) 1 1 rfl (Lies.one _ _ _) (fun h => by cases h) (by omega) (by have := HW.out.size; simp; omega)
      have HO' := Lib.hid hown'
      have HR := Lib.hid hrun
      have HG : Hid (Below w1.heap.size w1 w') := Lib.hid (app_below (HW.out.alloc HW.out.size _) (by have := HW.out.size; simp; omega) hgrow (HO.out.alloc _) (Nat.le_refl _))
      clear hown' hgrow hat hkz hx hrun
      go_wp2_with (at_builtin; refine wpList_app HR.out rfl rfl rfl rfl rfl ?_)
      go_roundw
      case rel => exact ⟨k + 1, by omega, by go_num, by rw [MS.out]; exact HO'.out, HG.out⟩
      case measure => simp [intOf]; omega
    · obtain rfl : k = a0 := by omega
      rcases A0.out with ⟨h0, h6⟩ | ⟨h0, h6⟩
      all_goals
        have hz0 : k ≤ z0.length := by have := L0.out; omega
        have hk6 : k ≤ 10 := by omega
        have ML := Lib.hid (mods_len hz0)
        first | have hge : len0 ≤ k := by omega | have hge : 10 ≤ k := by omega
        clear h0
        generalize hl : mods z0 _ = l at HO ML
        have SL : Hid (Small l) := Lib.hid (by rw [← hl]; exact mods_small _ _)
        clear hl hz0 A0 L0 Z0 R0
        rename World => w2
        obtain ⟨A, c, rfl, hA, hAn, hkc, hcm⟩ := own_shape HO.out
        have LA := Lib.hid hA
        have NA := Lib.hid hAn
        unfold maxLen at hcm
        have hcm' : (c : Int) ≤ 9223372036854775807 := by omega
        clear hA hAn hcm
        go_wp2
        obtain ⟨j, hj⟩ : ∃ j : Nat, cut % ((k : Int) + 1) = j := ⟨(cut % ((k : Int) + 1)).toNat, by have := Int.emod_nonneg cut (b := (k : Int) + 1) (by omega); omega⟩
        have hjk : j ≤ k := by have := Int.emod_lt_of_pos cut (b := (k : Int) + 1) (by omega); omega
        rw [hj]
        clear hj
        go_cut [11] (fun s wx => wx.ownsRow w2.heap.size 3 1 s k (ints (l.drop j ++ l.take j)) ∧ Below w2.heap.size w2 wx)
        case first =>
          rcases HO.out.2 with ⟨e0, hk0⟩ | ⟨g, c0, cur, e0, _, _, _, _, _, _⟩
          · injection e0 with e1 e2 e3
            subst e1
            subst e2
            subst e3
            obtain rfl : j = 0 := by omega
            obtain rfl : l = [] := List.eq_nil_of_length_eq_zero ML.out
            have LN : ∀ W : World, Lies W none (ints []) := fun W i u hu => by simp at hu
            have LNN := Lib.hid LN
            clear LN hk0 hkc hjk
            rw [show ((0 : Nat) : Int) = 0 from rfl]
            go_region_law (first
              | (refine step_app (app_ints _ w2.heap.size (.slice none 0 0) 0 [] [] (World.ownsRow_nil _ _ _ _) none 0 0 rfl (by exact LNN.out _) (fun _ => rfl) (by omega) (by exact Nat.le_refl _)) rfl rfl rfl (by simp [Act.eval]) (by simp [Act.eval, Act.put]) ?_; intro v4 w4 h4; have H4 := Lib.hid h4; have HB4 := Lib.hid (app_below (e := 3) (v := .slice none 0 0) (Below.refl w2.heap.size w2).drew (Nat.le_refl _) h4.2.1 (World.ownsRow_nil _ _ _ _) (Nat.le_refl _)); clear h4)
              | (refine step_app (app_ints _ w2.heap.size v4 (0 + 0) ([] ++ []) [] (by exact H4.out.1) none 0 0 rfl (by exact LNN.out _) (fun _ => rfl) (by omega) (by exact H4.out.2.1.size)) rfl rfl rfl (by simp [Act.eval]) (by simp [Act.eval]) ?_; intro v5 w5 h5; have H5 := Lib.hid h5; clear h5))
            all_goals
              go_wp2_with fail
              go_meet
              exact ⟨by simpa using H5.out.1, app_below HB4.out HB4.out.size H5.out.2.1 H4.out.1 (Nat.le_refl _)⟩
          · injection e0 with e1 e2 e3
            subst e1
            clear e2 e3
            have D1 : Hid ((l.drop j).length = k - j) := Lib.hid (by rw [List.length_drop, ML.out])
            have T1 : Hid ((l.take j).length = j) := Lib.hid (by rw [List.length_take, ML.out]; omega)
            have LT : Hid (Lies w2 (some ⟨g, 0, none⟩) (ints (l.take j))) := Lib.hid (fun i u hu => LA.out i u (by
              have hij : i < j := by
                rcases Nat.lt_or_ge i j with h | h
                · exact h
                · rw [List.getElem?_eq_none (by simp; omega)] at hu; cases hu
              simpa [hij] using hu))
            have hjc' : j ≤ c := by omega
            by_cases hcj : c = j
            · obtain rfl : k = j := by omega
              have D0 : Hid (l.drop k = []) := Lib.hid (List.drop_of_length_le (by rw [ML.out]; omega))
              have LN : Hid (∀ W : World, Lies W (some ⟨g, 0, none⟩) (ints [])) := Lib.hid (fun W i u hu => by simp at hu)
              subst hcj
              clear hjc' hjk hkc
              go_region_law (first
                | (refine step_app (app_ints _ w2.heap.size (.slice none 0 0) 0 [] [] (World.ownsRow_nil _ _ _ _) (some ⟨g, 0, none⟩) 0 0 rfl (by exact LN.out _) (fun h => by cases h) (by omega) (by exact Nat.le_refl _)) rfl rfl rfl (by simp [Act.eval]) (by simp [Act.eval, Act.put]) ?_; intro v4 w4 h4; have H4 := Lib.hid h4; have HB4 := Lib.hid (app_below (e := 3) (v := .slice none 0 0) (Below.refl w2.heap.size w2).drew (Nat.le_refl _) h4.2.1 (World.ownsRow_nil _ _ _ _) (Nat.le_refl _)); clear h4)
                | (refine step_app (app_ints _ w2.heap.size v4 (0 + 0) ([] ++ []) (l.take c) (by exact H4.out.1) (some ⟨g, 0, none⟩) c c T1.out (by exact LT.out.below HB4.out) (fun h => by cases h) (by omega) (by exact H4.out.2.1.size)) rfl rfl rfl (by simp [Act.eval]) (by simp [Act.eval]) ?_; intro v5 w5 h5; have H5 := Lib.hid h5; clear h5))
              all_goals
                go_wp2_with fail
                go_meet
                exact ⟨by have := H5.out.1; rw [D0.out]; simpa using this, app_below HB4.out HB4.out.size H5.out.2.1 H4.out.1 (Nat.le_refl _)⟩
            · have hjc : (j : Int) < (c : Int) := by omega
              have LD : Hid (Lies w2 (some ⟨g, j, none⟩) (ints (l.drop j))) := Lib.hid (fun i u hu => by
                obtain ⟨x, hx, hc⟩ := LA.out (j + i) u (by simpa using hu)
                obtain rfl := Option.some.inj hx
                rw [Go.WideShapes.add_plain] at hc
                exact ⟨_, rfl, by rw [Go.WideShapes.add_plain]; simpa using hc⟩)
              go_region_law (first
                | (refine step_app (app_ints _ w2.heap.size (.slice none 0 0) 0 [] (l.drop j) (World.ownsRow_nil _ _ _ _) (some ⟨g, j, none⟩) (k - j) (c - j) D1.out (by exact LD.out) (fun h => by cases h) (by omega) (by exact Nat.le_refl _)) rfl rfl rfl (by simp [Act.eval]) (by simp [Act.eval, Act.put]) ?_; intro v4 w4 h4; have H4 := Lib.hid h4; have HB4 := Lib.hid (app_below (e := 3) (v := .slice none 0 0) (Below.refl w2.heap.size w2).drew (Nat.le_refl _) h4.2.1 (World.ownsRow_nil _ _ _ _) (Nat.le_refl _)); clear h4)
                | (refine step_app (app_ints _ w2.heap.size v4 (0 + (k - j)) ([] ++ l.drop j) (l.take j) (by exact H4.out.1) (some ⟨g, 0, none⟩) j c T1.out (by exact LT.out.below HB4.out) (fun h => by cases h) (by omega) (by exact H4.out.2.1.size)) rfl rfl rfl (by simp [Act.eval]) (by simp [Act.eval]) ?_; intro v5 w5 h5; have H5 := Lib.hid h5; clear h5))
              all_goals
                go_wp2_with fail
                go_meet
                exact ⟨by have := H5.out.1; rw [show 0 + (k - j) + j = k from by omega] at this; simpa using this, app_below HB4.out HB4.out.size H5.out.2.1 H4.out.1 (Nat.le_refl _)⟩
        case rest =>
          obtain ⟨ob, bb⟩ := hcut
          have DT : Hid ((l.drop j ++ l.take j).length = k) := Lib.hid (by rw [List.length_append, List.length_drop, List.length_take, ML.out]; omega)
          have TT : Hid (tot (l.drop j ++ l.take j) = tot l) := Lib.hid (by
            have h := tot_append (l.take j) (l.drop j)
            rw [List.take_append_drop] at h
            rw [tot_append, h]; omega)
          have SD : Hid (Small (l.drop j ++ l.take j)) := Lib.hid (fun x hx => SL.out x (by
            rcases List.mem_append.1 hx with h | h
            · exact List.mem_of_mem_drop h
            · exact List.mem_of_mem_take h))
          generalize l.drop j ++ l.take j = b at ob DT TT SD
          rename World => wc
          have BB := Lib.hid bb
          have OB := Lib.hid ob
          obtain ⟨A5, c5, rfl, hl5, _, _, hm5⟩ := own_shape ob
          have HL5 := Lib.hid hl5
          have HTC := Lib.hid ((HT.out.below HWW.out).below BB.out)
          have HLA := Lib.hid (LA.out.below BB.out)
          obtain ⟨v7, w7, r7, o7, g7, _⟩ := app_ints (wc.alloc (.cells #[.int .i64 (more % 1025)] 3)) w2.heap.size _ k b [more % 1025] (OB.out.alloc _) (some ⟨wc.heap.size, 0, none⟩) 1 1 rfl (Lies.one _ _ _) (fun h => by cases h) (by omega) (by have := BB.out.size; simp; omega)
          have B7 := Lib.hid (app_below (BB.out.alloc BB.out.size _) (by have := BB.out.size; simp; omega) g7 (OB.out.alloc _) (Nat.le_refl _))
          obtain ⟨A7, c7, rfl, hl7, _, _, hm7⟩ := own_shape o7
          have HL7 := Lib.hid hl7
          have R7 := Lib.hid r7
          have HT7 := Lib.hid ((HT.out.below HWW.out).below B7.out)
          have fin : Hid (Below w.heap.size w w7) := Lib.hid (HWW.out.trans (B7.out.mono HWW.out.size))
          have bl := tot_bd SL.out
          rw [ML.out] at bl
          have l1 : l.length ≤ 1000 := by rw [ML.out]; omega
          have l2 : b.length ≤ 1000 := by rw [DT.out]; omega
          have mm : rok (more % 1025) = true := rok_yes (by omega) (by omega)
          have m2 := rnd_of (n := more % 1025) (by omega) (by omega)
          have m3 : 16 ≤ rnd (more % 1025) ∧ rnd (more % 1025) ≤ 1024 := by
            obtain ⟨q, hq, _, e, _⟩ := m2
            have := cv_cases hq
            rw [e]; omega
          have K1 := Lib.hid (smk_end SD.out l2 (more % 1025))
          have K2 := Lib.hid (smv_end SD.out l2 (more % 1025))
          rw [mm] at K1
          rw [if_pos mm, TT.out] at K2
          have K3 := Lib.hid (And.intro (smv_small SL.out l1) (smk_small SL.out l1))
          have K4 := Lib.hid (And.intro (smv_small SD.out l2) (smk_small SD.out l2))
          rw [TT.out] at K4
          generalize tot l = T0 at bl K2 K3 K4
          generalize rnd (more % 1025) = rm at m3 K2
          have t0 : 0 ≤ T0 := by omega
          have t1 : T0 ≤ 10240 := by omega
          have t2 := m3.1
          have t3 := m3.2
          clear bb ob hl5 r7 o7 g7 hl7 mm m2 l1 l2 TT SD m3 bl
          go_wp2_with fail
          refine (sum_lies A _ c l _ HTC.out ML.out (by unfold maxLen; omega) HLA.out).mono ?_
          rintro e w' ⟨rfl, rfl⟩
          rw [K3.out.1, K3.out.2]
          go_wp2_with fail
          refine (sum_lies A5 _ c5 b _ HTC.out DT.out (by unfold maxLen; omega) HL5.out).mono ?_
          rintro e w' ⟨rfl, rfl⟩
          rw [K4.out.1, K4.out.2]
          go_wp2_with (at_builtin; refine wpList_app R7.out rfl rfl rfl rfl rfl ?_)
          refine (sum_lies A7 _ c7 (b ++ [more % 1025]) _ HT7.out (by simp [DT.out]) (by unfold maxLen; omega) HL7.out).mono ?_
          rintro e w' ⟨rfl, rfl⟩
          rw [K1.out, K2.out]
          go_wp2_with fail
          refine (sum_lies none 0 0 [] _ HT7.out rfl (by unfold maxLen; omega) (fun i u hu => by simp at hu)).mono ?_
          rintro e w' ⟨rfl, rfl⟩
          rw [show smv [] = 0 from rfl, show smk [] = true from rfl]
          clear HL5 HL7 B7 R7 HT7 HTC HLA K1 K2 K3 K4 BB OB LA NA
          go_wp2
          go_ret
          exact ⟨rfl, fin.out⟩
end Go.Proofs.YtbojiphhcciliaaDoor
