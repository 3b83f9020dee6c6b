/- ArenaCharges tells true, however large the blocks are, and whichever ones are freed. -/
import Derived.Test.YtgphkihpihepiaaDoorArChMath
import Derived.Test.YtgphkihpihepiaaDoorAppStep
import Derived.Deep.DeepCutAuto
import Derived.Deep.CutRange
import Derived.Deep.RegionHeld3
namespace Go.Proofs.YtgphkihpihepiaaDoor
open Go.RowKit
set_option linter.unusedVariables false

theorem word_at {zs : List Int} (h : ∀ n ∈ zs, (Lit.int .u16 n).wf = true) (k : Nat) : ∃ x : Nat, zs.getD k 0 = (x : Int) ∧ x ≤ 65535 := by
  by_cases hk : k < zs.length
  · have h1 := h zs[k] (List.getElem_mem hk)
    have h2 := bounds_u16 h1
    refine ⟨zs[k].toNat, ?_, by omega⟩
    simp only [List.getD, List.getElem?_eq_getElem hk, Option.getD_some]
    omega
  · exact ⟨0, by simp [List.getD, hk], by omega⟩
theorem one_lim (m : Int) (h0 : 0 ≤ m) (h1 : m ≤ 5000) : serr ⟨5000, 5000, []⟩ m = 0 ∧ sto ⟨5000, 5000, []⟩ m = ⟨5000, m, []⟩ := by
  have he : serr ⟨5000, 5000, []⟩ m = 0 := by
    unfold serr
    rw [if_neg (by simp only; omega), if_neg (by simp only [chg]; omega)]
  exact ⟨he, by rw [sto, if_pos he]⟩
theorem Chs.fit {w : World} {B : Nat} {L0 : Int} {hv lv : Value} {k : Nat} {s : Ar} {I : List It} (h : Chs w B L0 hv lv k s I) (n : Nat) (hn : n ≤ 1024) (hk : k ≤ 30) : fits s [(n : Int)] = decide (chg s.l + rnd (n : Int) ≤ L0) ∧ (chg s.l + rnd (n : Int) ≤ L0 → aerr s (n : Int) = 0) ∧ (¬ chg s.l + rnd (n : Int) ≤ L0 → aerr s (n : Int) = 9) := by
  have hr := rok_yes (n := (n : Int)) (by omega) (by omega)
  have hf := fre_le s.l
  have hs := h.sl
  refine ⟨by rw [one_fits s _ hr, h.lim], fun hc => aerr_of hr (by rw [h.lim]; exact hc) (by omega), fun hc => ?_⟩
  unfold aerr
  rw [if_neg (by rw [hr]; decide), if_pos (by rw [h.lim]; omega)]
theorem alo_len {s : Ar} (t : List UInt8) {k : Nat} (h : s.l.length ≤ k) : (alo s t).l.length ≤ k + 1 := by
  unfold alo
  split
  · show (tak _ _ _).length ≤ k + 1
    rw [tak_len]; split <;> omega
  · omega
theorem str_same (n : Nat) (c : Int) (p : Nat) (h1 : p < (str (txt n c)).size) (h0 : 0 < (str (txt n c)).size) : ((((str (txt n c))[p]'h1).toNat : Int) != (((str (txt n c))[0]'h0).toNat : Int)) = false := by
  have e : ∀ (j : Nat) (h : j < (str (txt n c)).size), (str (txt n c))[j]'h = UInt8.ofNat c.toNat := by
    intro j h
    show (txt n c).toArray[j]'_ = _
    simp [txt]
  rw [e p h1, e 0 h0]
  simp
theorem alo_no {s : Ar} (t : List UInt8) (h : aerr s (t.length : Int) ≠ 0) : alo s t = s := by rw [alo, if_neg h]

set_option maxHeartbeats 16000000 in
set_option maxRecDepth 100000 in
theorem charges_walk (a : Option Addr) (len cap : Nat) (zs : List Int) (a' : Option Addr) (len' cap' : Nat) (zs' : List Int) (lim : Int) (hl0 : 0 ≤ lim) (hl1 : lim ≤ 65535) (w : World) (hr : IsRow .u16 w a len cap zs) (hz : ∀ n ∈ zs, (Lit.int .u16 n).wf = true) (hr' : IsRow .u8 w a' len' cap' zs') (hz' : ∀ n ∈ zs', (Lit.int .u8 n).wf = true) (ht : Tab w) (hT : Dbt w) :
    Calls Tryd.prog 4 #[.slice a len cap, .slice a' len' cap', .int .u16 lim] w fun e w' => e = .returned (.bool true) ∧ Below w.heap.size w w' := by
  have HT := Lib.hid ht
  have HD := Lib.hid hT
  have HR := Lib.hid hr
  have HZS := Lib.hid hz
  have HR' := Lib.hid hr'
  have HZS' := Lib.hid hz'
  have hm1 : len ≤ 9223372036854775807 := by have h1 := hr.1; have h2 := hr.2.1; have h3 := hr.2.2.1; unfold maxLen at h3; omega
  have hm1' : len' ≤ 9223372036854775807 := by have h1 := hr'.1; have h2 := hr'.2.1; have h3 := hr'.2.2.1; unfold maxLen at h3; omega
  clear ht hT hr hz hr' hz'
  obtain ⟨N, rfl⟩ : ∃ n : Nat, lim = (n : Int) := ⟨lim.toNat, by omega⟩
  obtain ⟨L0, hL⟩ : ∃ n : Nat, n = N % 5001 := ⟨_, rfl⟩
  have hL1 : L0 ≤ 5000 := by omega
  have hL2 : (N : Int) % 5001 = (L0 : Int) := by omega
  clear hL
  go_enter Tryd.func4, Tryd.ntmps4
  go_wp2_with fail
  refine (examples_any w HT.out HD.out).mono ?_
  rintro e w1 ⟨rfl, b1⟩
  have B1 := Lib.hid b1
  clear b1
  go_wp2_with fail
  refine (new_sc 5000 w1 (by omega) (by omega) (HT.out.below B1.out) (HD.out.below B1.out)).mono ?_
  rintro e w2 ⟨rfl, h2, b2⟩
  have H2 := Lib.hid h2
  have B2 := Lib.hid (B1.out.trans (b2.mono B1.out.size))
  have HZ := Lib.hid B1.out.size
  clear h2 b2
  generalize w1.heap.size = B at *
  go_wp2_with fail
  refine (setLimit_sc H2.out (L0 : Int)).mono ?_
  have hol := one_lim (L0 : Int) (by omega) (by omega)
  rw [hol.1, hol.2]
  clear hol
  rintro e w3 ⟨rfl, h3, b3⟩
  have H3 : Hid (Chs w3 B (L0 : Int) (.slice none 0 0) (.slice none 0 0) 0 ⟨5000, (L0 : Int), []⟩ []) := Lib.hid ⟨World.ownsRow_nil _ _ _ _, World.ownsRow_nil _ _ _ _, h3, (fun j hj => by cases hj), Rep.nil _ _, rfl, Nat.le_refl _, Nat.le_refl _⟩
  have B3 := Lib.hid (B2.out.trans (b3.bel.mono HZ.out))
  clear h3 b3 H2 B2 hL2
  go_wp2_with fail
  go_loopw [9, 10, 11] (fun hv lv i wr => ∃ (k : Nat) (s : Ar) (I : List It), k ≤ 30 ∧ k ≤ len ∧ i = .int .i64 k ∧ Chs wr B (L0 : Int) hv lv k s I ∧ Below w.heap.size w wr) (fun _ _ i _ => 30 - (intOf i).toNat)
  case atStart => exact ⟨0, _, _, by omega, by omega, rfl, H3.out, B3.out⟩
  case round =>
    obtain ⟨k, s, I, hk, hkl, rfl, hC, hBW⟩ := hrel
    have HC := Lib.hid hC
    have HBW := Lib.hid hBW
    clear hC hBW H3 B3
    obtain ⟨bl, hbl⟩ : ∃ b : Bool, b = decide (k < len ∧ k < 30) := ⟨_, rfl⟩
    have HBL := Lib.hid hbl
    clear hbl
    go_upto_region 10 with fail
    go_cut [48] from 41 to 48 (fun t wx => t = .bool bl ∧ wx = wr)
    case first =>
      by_cases h1 : k < len
      · by_cases h2 : k < 30
        · have hd1 : decide (k < len) = true := decide_eq_true h1
          have hd2 : decide ((k : Int) < 30) = true := decide_eq_true (by omega)
          go_wp2_with fail
          go_meet
          exact ⟨by rw [HBL.out, decide_eq_true ⟨h1, h2⟩], rfl⟩
        · have hd1 : decide (k < len) = true := decide_eq_true h1
          have hd2 : decide ((k : Int) < 30) = false := decide_eq_false (by omega)
          go_wp2_with fail
          go_meet
          exact ⟨by rw [HBL.out, decide_eq_false (fun h => h2 h.2)], rfl⟩
      · have hd1 : decide (k < len) = false := decide_eq_false h1
        go_wp2_with fail
        go_meet
        exact ⟨by rw [HBL.out, decide_eq_false (fun h => h1 h.1)], rfl⟩
    case rest =>
     obtain ⟨rfl, rfl⟩ := hcut
     rename World => wr
     cases bl with
     | true =>
      obtain ⟨hlt1, hlt2⟩ := of_decide_eq_true HBL.out.symm
      clear HBL
      obtain ⟨b, off, rfl, hc⟩ := (HR.out.below HBW.out).at_ hlt1
      obtain ⟨x, hx, hx1⟩ : ∃ x : Nat, zs.getD k 0 = (x : Int) ∧ x ≤ 65535 := word_at HZS.out k
      rw [hx] at hc
      clear hx
      obtain ⟨n, hn⟩ : ∃ n : Nat, n = x % 1025 := ⟨_, rfl⟩
      have hn1 : n ≤ 1024 := by omega
      have hn2 : (x : Int) % 1025 = (n : Int) := by omega
      clear hn
      go_wp2_with fail
      clear hc hn2
      refine (round_any _ _ HC.out.sc.tab).mono ?_
      rw [rok_yes (n := (n : Int)) (by omega) (by omega)]
      rintro e w' ⟨rfl, rfl⟩
      go_wp2_with fail
      refine (charged_sc HC.out.sc).mono ?_
      rintro e w' ⟨rfl, rfl⟩
      go_wp2_with fail
      refine (fits_sc (HC.out.sc.alloc (.cells #[.int .i64 (n : Int)] 3)) _ 1 1 [(n : Int)] rfl (by decide) (Lies.one _ _ _)).mono ?_
      have hft := HC.out.fit n hn1 hk
      rw [hft.1]
      obtain ⟨ft, hftb⟩ : ∃ b : Bool, b = decide (chg s.l + rnd (n : Int) ≤ (L0 : Int)) := ⟨_, rfl⟩
      rw [← hftb]
      have HFTB := Lib.hid hftb
      clear hftb
      have HFT := Lib.hid hft
      have hch0 := chg_ge HC.out.sc.wf.ok
      have hch1 := HC.out.sc.wf.chl
      have hch2 := HC.out.lim
      have hcb : chg s.l ≤ (L0 : Int) := by omega
      have hrb := rnd_bd (n : Int)
      have hrb1 := hrb.1
      have hrb2 := hrb.2
      clear hft hch1 hch2 hrb
      rintro e w4 ⟨rfl, h4, b4⟩
      have H4 := Lib.hid ((HC.out.kp (HC.out.sc.alloc _) (HC.out.sc.kpa (.cells #[.int .i64 (n : Int)] 3))).kp h4 b4)
      have B4 := Lib.hid (HBW.out.trans (((HC.out.sc.kpa (.cells #[.int .i64 (n : Int)] 3)).bel.trans b4.bel).mono HZ.out))
      clear h4 b4 HC HBW
      go_wp2_with fail
      refine (text_sc H4.out.sc n ((k : Int) + 1) (by omega) (by omega) (by omega)).mono ?_
      rintro e w5 ⟨rfl, h5, b5⟩
      have H5 := Lib.hid (H4.out.kp h5 b5)
      have B5 := Lib.hid (B4.out.trans (b5.bel.mono HZ.out))
      clear h5 b5 H4 B4
      go_wp2_with fail
      refine (alloc_sc H5.out.sc (txt n ((k : Int) + 1)) (by rw [txt_length]; exact small_len (by omega))).mono ?_
      have F1 : Hid (chg s.l + rnd (n : Int) ≤ (L0 : Int) → aslot s ((txt n ((k : Int) + 1)).length : Int) = (fre s.l : Int) ∧ agen s ((txt n ((k : Int) + 1)).length : Int) = (bk s.l (fre s.l)).g ∧ aerr s ((txt n ((k : Int) + 1)).length : Int) = 0) := Lib.hid (fun hf => by
        have he : aerr s ((txt n ((k : Int) + 1)).length : Int) = 0 := by rw [txt_length]; exact HFT.out.2.1 hf
        exact ⟨by rw [aslot, if_pos he], by rw [agen, if_pos he], he⟩)
      have F2 : Hid (¬ chg s.l + rnd (n : Int) ≤ (L0 : Int) → alo s (txt n ((k : Int) + 1)) = s ∧ aerr s ((txt n ((k : Int) + 1)).length : Int) = 9) := Lib.hid (fun hf => by
        have he : aerr s ((txt n ((k : Int) + 1)).length : Int) = 9 := by rw [txt_length]; exact HFT.out.2.2 (by omega)
        exact ⟨alo_no _ (by rw [he]; decide), he⟩)
      have F3 : Hid (aerr s ((txt n ((k : Int) + 1)).length : Int) = 0 → Rep (alo s (txt n ((k : Int) + 1))) (I ++ [⟨fre s.l, (bk s.l (fre s.l)).g, n, (k : Int) + 1⟩])) := Lib.hid (fun he => H5.out.rep.alloc n ((k : Int) + 1) hn1 (by omega) (by omega) he)
      generalize aslot s ((txt n ((k : Int) + 1)).length : Int) = sl0 at *
      generalize agen s ((txt n ((k : Int) + 1)).length : Int) = gn0 at *
      generalize aerr s ((txt n ((k : Int) + 1)).length : Int) = er0 at *
      have HLM : Hid ((alo s (txt n ((k : Int) + 1))).lim = (L0 : Int)) := Lib.hid ((alo_cap _ _).2.trans H5.out.lim)
      have HSL := Lib.hid (alo_len (txt n ((k : Int) + 1)) H5.out.sl)
      rintro e w6 ⟨rfl, h6, b6⟩
      have hbx := (Below.refl w6.heap.size w6).alloc (Nat.le_refl _) (.cells #[.int .u32 sl0, .int .u32 gn0] 32)
      have S7 := Lib.hid (h6.below hbx)
      have O7 := Lib.hid ((b6.owns H5.out.row (by intro j hj; simp [hj])).alloc (.cells #[.int .u32 sl0, .int .u32 gn0] 32))
      have N7 := Lib.hid ((b6.owns H5.out.len (by intro j hj; simp [hj])).alloc (.cells #[.int .u32 sl0, .int .u32 gn0] 32))
      have B7 := Lib.hid (B5.out.trans ((b6.bel.trans (hbx.mono h6.bl)).mono HZ.out))
      have X7 : Hid (Has (w6.alloc (.cells #[.int .u32 sl0, .int .u32 gn0] 32)) w6.heap.size 32 #[.int .u32 sl0, .int .u32 gn0]) := Lib.hid (heap_alloc_new w6 _)
      have AP := Lib.hid H5.out.ap
      have RP := Lib.hid H5.out.rep
      have IL := Lib.hid H5.out.il
      have SL5 := Lib.hid H5.out.sl
      have LM5 := Lib.hid H5.out.lim
      clear h6 b6 hbx H5 B5 HFT
      generalize alo s (txt n ((k : Int) + 1)) = s1 at *
      generalize txt n ((k : Int) + 1) = tx at *
      go_upto_region 18 with fail
      generalize w6.alloc (.cells #[.int .u32 sl0, .int .u32 gn0] 32) = w7 at *
      generalize w6.heap.size = pb at *
      go_cut [100] from 79 to 100 (fun t wx => t = .bool false ∧ wx = w7)
      case first =>
        by_cases hfit : chg s.l + rnd (n : Int) ≤ (L0 : Int)
        · obtain rfl : er0 = 0 := (F1.out hfit).2.2
          obtain rfl : ft = true := HFTB.out.trans (by simpa using hfit)
          have hd9 : decide (chg s.l + rnd (n : Int) ≤ (L0 : Int)) = true := by simpa using hfit
          go_wp2_with fail
          refine (limit_sc S7.out).mono ?_
          rw [HLM.out]
          rintro e w' ⟨rfl, rfl⟩
          go_wp2_with fail
          go_meet
          exact ⟨rfl, rfl⟩
        · obtain rfl : er0 = 9 := (F2.out (by omega)).2
          obtain rfl : ft = false := HFTB.out.trans (by simpa using hfit)
          have hd9 : decide (chg s.l + rnd (n : Int) ≤ (L0 : Int)) = false := by simpa using hfit
          go_wp2_with fail
          refine (limit_sc S7.out).mono ?_
          rw [HLM.out]
          rintro e w' ⟨rfl, rfl⟩
          go_wp2_with fail
          go_meet
          exact ⟨rfl, rfl⟩
      case rest =>
        obtain ⟨rfl, rfl⟩ := hcut
        rename World => w7
        go_upto_if 102 with fail
        go_cut [9, 10] from 103 to 110 (fun hv lv wx => ∃ s2 I2, Chs wx B (L0 : Int) hv lv (k + 1) s2 I2 ∧ Below w.heap.size w wx)
        case first =>
          by_cases hfit : chg s.l + rnd (n : Int) ≤ (L0 : Int)
          · obtain ⟨rfl, rfl, rfl⟩ := F1.out hfit
            obtain ⟨v1, wa, v2, wz, r1, r2, hC2, hBz⟩ := push_both (x := ⟨fre s.l, (bk s.l (fre s.l)).g, n, (k : Int) + 1⟩) O7.out N7.out S7.out AP.out (F3.out rfl) HLM.out HSL.out IL.out (by omega)
            have R1 := Lib.hid r1
            have R2 := Lib.hid r2
            have HC2 := Lib.hid hC2
            have HB2 := Lib.hid (B7.out.trans (hBz.mono HZ.out))
            have d0 := X7.out.two.1
            have d1 := X7.out.two.2
            clear r1 r2 hC2 hBz
            go_wp2_with (first | (at_builtin; refine wpList_app R1.out rfl rfl rfl rfl rfl ?_) | (at_builtin; refine wpList_app R2.out rfl rfl rfl rfl rfl ?_))
            go_meet
            exact ⟨_, _, HC2.out, HB2.out⟩
          · obtain ⟨hs1, rfl⟩ := F2.out (by omega)
            subst hs1
            have HC2 : Hid (Chs w7 B (L0 : Int) u9 u10 (k + 1) s1 I) := Lib.hid ⟨O7.out, N7.out, S7.out, AP.out, RP.out, LM5.out, Nat.le_succ_of_le SL5.out, Nat.le_succ_of_le IL.out⟩
            go_wp2_with fail
            go_meet
            exact ⟨_, _, HC2.out, B7.out⟩
        case rest =>
          obtain ⟨s2, I2, hC2, hB2⟩ := hcut
          have HC2 := Lib.hid hC2
          have HB2 := Lib.hid hB2
          obtain ⟨A2, c2, rfl⟩ := own_slice hC2.row
          obtain ⟨A3, c3, rfl, l3, _, _, _⟩ := own_shape hC2.len
          have L3 := Lib.hid l3
          have hil := hC2.il
          clear hC2 hB2 l3 F1 F2 F3 S7 O7 N7 B7 X7 AP RP IL SL5 LM5 HLM HSL
          rename World => wz
          go_upto_region 23 with fail
          obtain ⟨y, hy, hy1⟩ : ∃ x : Nat, zs'.getD k 0 = (x : Int) ∧ x ≤ 255 := byte_at HZS'.out k
          have HY := Lib.hid hy
          clear hy
          obtain ⟨bq, hbq⟩ : ∃ b : Bool, b = decide (k < len' ∧ 0 < I2.length ∧ y < 100) := ⟨_, rfl⟩
          have HBQ := Lib.hid hbq
          clear hbq
          go_cut [126] from 111 to 126 (fun t wx => t = .bool bq ∧ wx = wz)
          case first =>
            by_cases hp0 : k < len'
            · by_cases hp1 : 0 < I2.length
              · obtain ⟨bb, oo, rfl, hcy⟩ := (HR'.out.below HB2.out).at_ hp0
                rw [HY.out] at hcy
                by_cases hp2 : y < 100
                · have hd5 : decide ((y : Int) < 100) = true := decide_eq_true (by omega)
                  go_wp2_with fail
                  go_meet
                  exact ⟨by rw [HBQ.out, decide_eq_true ⟨hp0, hp1, hp2⟩], rfl⟩
                · have hd5 : decide ((y : Int) < 100) = false := decide_eq_false (by omega)
                  go_wp2_with fail
                  go_meet
                  exact ⟨by rw [HBQ.out, decide_eq_false (fun h => hp2 h.2.2)], rfl⟩
              · have hd3 : decide (0 < I2.length) = false := decide_eq_false (by omega)
                have hd4 : decide ((0 : Int) < (I2.length : Int)) = false := decide_eq_false (by omega)
                go_wp2_with fail
                go_meet
                exact ⟨by rw [HBQ.out, decide_eq_false (fun h => hp1 h.2.1)], rfl⟩
            · have hd3 : decide (k < len') = false := decide_eq_false (by omega)
              go_wp2_with fail
              go_meet
              exact ⟨by rw [HBQ.out, decide_eq_false (fun h => hp0 h.1)], rfl⟩
          case rest =>
            obtain ⟨rfl, rfl⟩ := hcut
            rename World => wz
            go_upto_if 126 with fail
            go_cut [9, 10, 20] from 127 to 167 (fun hv lv _ wx => ∃ s2 I2, Chs wx B (L0 : Int) hv lv (k + 1) s2 I2 ∧ Below w.heap.size w wx)
            case first =>
              cases bq with
              | true =>
                obtain ⟨hp0, hp1, hp2⟩ := of_decide_eq_true HBQ.out.symm
                obtain ⟨bb, oo, rfl, hcy⟩ := (HR'.out.below HB2.out).at_ hp0
                rw [HY.out] at hcy
                obtain ⟨m, hm⟩ : ∃ m : Nat, m = y % I2.length := ⟨_, rfl⟩
                have hm1 : m < I2.length := by rw [hm]; exact Nat.mod_lt _ hp1
                have hm2 : (y : Int) % (I2.length : Int) = (m : Int) := by rw [hm]; exact (Int.natCast_emod y _).symm
                have hm3 : (0 : Int) ≤ (m : Int) := by omega
                have hm4 : (m : Int) < (I2.length : Int) := by omega
                obtain ⟨Ia, x1, Ic, hI, hAl, hTk, hDr, hIx⟩ := split_at hm1
                obtain ⟨q, cp, e, hcap, c0, c1⟩ := hs_at (i := m) (h := hOf x1) HC2.out.row (by rw [List.getElem?_map, hIx]; rfl)
                simp only [Value.slice.injEq, true_and] at e
                obtain ⟨rfl, rfl⟩ := e
                have d0 : wz.cell? ⟨q, m * 2, none⟩ = some (.int .u32 (x1.sl : Int)) := c0
                have d1 : wz.cell? ⟨q, m * 2 + 1, none⟩ = some (.int .u32 x1.gn) := c1
                clear c0 c1
                have hlx := HC2.out.rep.live (x := x1) (by rw [hI]; simp)
                have hokx := HC2.out.sc.wf.ok.at_ x1.sl
                have hg0 : 0 ≤ x1.gn := by rw [← hlx.2.1]; exact hokx.2.2.1
                have hg1 : x1.gn ≤ 4294967295 := by rw [← hlx.2.1]; exact hokx.2.2.2
                have hsl : x1.sl < 5000 := by have h1 := hlx.2.2; have h2 := HC2.out.sl; omega
                have hrp : Rep s2 (Ia ++ x1 :: Ic) := by rw [← hI]; exact HC2.out.rep
                have HFR := Lib.hid (Rep.free hrp)
                have HI := Lib.hid hI
                have HAL := Lib.hid hAl
                have HTK := Lib.hid hTk
                have HDR := Lib.hid hDr
                clear hm hI hAl hTk hDr hIx hlx hokx hrp
                go_wp2_with fail
                rw [hm2]
                clear d0 d1 hm2 hcy
                refine (free_sc HC2.out.sc x1.sl x1.gn (by omega) hg0 hg1).mono ?_
                rw [HFR.out.1]
                rintro e w10 ⟨rfl, h10, b10⟩
                have O10 := Lib.hid (b10.owns HC2.out.row (by intro j hj; simp [hj]))
                have N10 := Lib.hid (b10.owns HC2.out.len (by intro j hj; simp [hj]))
                have H10 := Lib.hid h10
                have B10 := Lib.hid (HB2.out.trans (b10.bel.mono HZ.out))
                clear h10 b10 HB2
                have c01 := hs_at2 (i := m) (h := hOf x1) O10.out (by rw [HI.out]; simp [HAL.out.symm])
                have d0 : w10.cell? ⟨q, m * 2, none⟩ = some (.int .u32 (x1.sl : Int)) := c01.1
                have d1 : w10.cell? ⟨q, m * 2 + 1, none⟩ = some (.int .u32 x1.gn) := c01.2
                clear c01
                go_wp2_with fail
                clear d0 d1
                refine (free_sc H10.out x1.sl x1.gn (by omega) hg0 hg1).mono ?_
                rw [HFR.out.2.2.1, HFR.out.2.2.2.1]
                rintro e w11 ⟨rfl, h11, b11⟩
                have O11 := Lib.hid (b11.owns O10.out (by intro j hj; simp [hj]))
                have N11 := Lib.hid (b11.owns N10.out (by intro j hj; simp [hj]))
                have H11 := Lib.hid h11
                have B11 := Lib.hid (B10.out.trans (b11.bel.mono HZ.out))
                clear h11 b11 O10 N10 H10 B10
                have HIL : Hid (I2.length = m + 1 + Ic.length) := Lib.hid (by rw [HI.out]; simp [HAL.out]; omega)
                have hmn : m + 1 ≤ I2.length := by omega
                go_wp2_with fail
                have HP := Lib.hid (hs_parts (by rw [← HI.out]; exact O11.out))
                rw [HAL.out] at HP
                go_cut [9] from 150 to 158 (fun sv wx => wx.ownsRow w11.heap.size 32 2 sv (I2.length - 1) (hcells ((Ia ++ Ic).map hOf)) ∧ Below w11.heap.size w11 wx)
                case first =>
                  have hw1 : IntKind.i64.wrap ((m : Int) + 1) = (m : Int) + 1 := IntWalk.i64_in _ (by omega)
                  have hw2 : ((m : Int) + 1).toNat = m + 1 := by omega
                  have hw3 : (0 : Int) ≤ (m : Int) + 1 := by omega
                  have hw4 : (m : Int) + 1 ≤ (I2.length : Int) := by omega
                  have hw5 : (m : Int) ≤ (m : Int) + 1 := by omega
                  have D1 : Hid ((Ic.map hOf).length = I2.length - (m + 1)) := Lib.hid (by have := HIL.out; simp; omega)
                  have T1 : Hid ((Ia.map hOf).length = m) := Lib.hid (by simp [HAL.out])
                  have hmc : m ≤ c2 := by omega
                  obtain ⟨ad, hif, hlad⟩ : ∃ ad : Addr, (if c2 = m + 1 then some (⟨q, 0, none⟩ : Addr) else some ⟨q, (m + 1) * 2, none⟩) = some ad ∧ (∀ j u, (hcells (Ic.map hOf))[j]? = some u → w11.cell? (ad.add j) = some u) := by
                    by_cases hcj : c2 = m + 1
                    · refine ⟨_, if_pos hcj, fun j u hu => ?_⟩
                      rw [show Ic = [] from List.eq_nil_of_length_eq_zero (by have := HIL.out; omega)] at hu
                      simp [hcells] at hu
                    · exact ⟨_, if_neg hcj, HP.out.2⟩
                  have HLAD := Lib.hid hlad
                  have hjc : (m : Int) + 1 ≤ (c2 : Int) := by omega
                  clear hlad
                  go_region_held3 (fun _ => True) (trivial) (first
                    | (refine step_app (app_hands _ w11.heap.size (.slice none 0 0) 0 [] (Ia.map hOf) (World.ownsRow_nil _ _ _ _) ⟨q, 0, none⟩ m c2 T1.out (by exact HP.out.1) (by omega) (by exact Nat.le_refl _)) rfl rfl rfl (by simp [Act.eval]) (by simp [Act.eval]) ?_; intro v4 w4 h4; have H4 := Lib.hid h4; have HB4 := Lib.hid (app_belowN (e := 32) (size := 2) (v := .slice none 0 0) (Below.refl w11.heap.size w11).drew (Nat.le_refl _) h4.2.1 (World.ownsRow_nil _ _ _ _) (Nat.le_refl _)); clear h4)
                    | (refine step_app (app_hands _ w11.heap.size v4 (0 + m) ([] ++ Ia.map hOf) (Ic.map hOf) (by exact H4.out.1) ad (I2.length - (m + 1)) (c2 - (m + 1)) D1.out (by exact lies_belA HLAD.out HB4.out) (by omega) (by exact HB4.out.size)) rfl rfl rfl (by simp [Act.eval]) (by simp [Act.eval]) ?_; intro v5 w5 h5; have H5 := Lib.hid h5; clear h5))
                  all_goals
                    go_wp2_with fail
                    go_meet
                    exact ⟨by have := H5.out.1; rw [show 0 + m + (I2.length - (m + 1)) = I2.length - 1 from by omega] at this; simpa using this, app_belowN HB4.out HB4.out.size H5.out.2.1 H4.out.1 (Nat.le_refl _)⟩
                case rest =>
                  obtain ⟨ob, bb1⟩ := hcut
                  have OB := Lib.hid ob
                  have BB := Lib.hid bb1
                  clear ob bb1
                  have n12 := owns_keep (w' := wc) N11.out fun j hj => BB.out.block j (N11.out.lt j hj).2
                  obtain ⟨A9, c9, e9, l9, _, hc9, hc9m⟩ := own_shape n12
                  simp only [Value.slice.injEq, true_and] at e9
                  obtain ⟨rfl, rfl⟩ := e9
                  unfold maxLen at hc9m
                  rw [HI.out] at l9
                  obtain ⟨g3, o3, rfl, l3a, l3c⟩ := ls_parts l9
                  rw [HAL.out] at l3c
                  have LA := Lib.hid l3a
                  have LC := Lib.hid l3c
                  have hc9i : (c3 : Int) ≤ 9223372036854775807 := by omega
                  clear n12 l9 l3a l3c HP
                  rename World => wd
                  go_wp2_with fail
                  go_cut [10] from 159 to 167 (fun sv wx => wx.ownsRow wd.heap.size 3 1 sv (I2.length - 1) (ints ((Ia ++ Ic).map nOf)) ∧ Below wd.heap.size wd wx)
                  case first =>
                    have hw1 : IntKind.i64.wrap ((m : Int) + 1) = (m : Int) + 1 := IntWalk.i64_in _ (by omega)
                    have hw2 : ((m : Int) + 1).toNat = m + 1 := by omega
                    have hw3 : (0 : Int) ≤ (m : Int) + 1 := by omega
                    have hw4 : (m : Int) + 1 ≤ (I2.length : Int) := by omega
                    have hw5 : (m : Int) ≤ (m : Int) + 1 := by omega
                    have D1 : Hid ((Ic.map nOf).length = I2.length - (m + 1)) := Lib.hid (by have := HIL.out; simp; omega)
                    have T1 : Hid ((Ia.map nOf).length = m) := Lib.hid (by simp [HAL.out])
                    have hmc : m ≤ c3 := by omega
                    obtain ⟨ad, hif, hlad⟩ : ∃ ad : Addr, (if c3 = m + 1 then some (⟨g3, o3, none⟩ : Addr) else some ⟨g3, o3 + (m + 1), none⟩) = some ad ∧ Lies wd (some ad) (ints (Ic.map nOf)) := by
                      by_cases hcj : c3 = m + 1
                      · refine ⟨_, if_pos hcj, fun j u hu => ?_⟩
                        rw [show Ic = [] from List.eq_nil_of_length_eq_zero (by have := HIL.out; omega)] at hu
                        simp at hu
                      · exact ⟨_, if_neg hcj, LC.out⟩
                    have HLAD := Lib.hid hlad
                    have hjc : (m : Int) + 1 ≤ (c3 : Int) := by omega
                    clear hlad
                    go_region_held3 (fun _ => True) (trivial) (first
                      | (refine step_app (app_ints _ wd.heap.size (.slice none 0 0) 0 [] (Ia.map nOf) (World.ownsRow_nil _ _ _ _) (some ⟨g3, o3, none⟩) m c3 T1.out (by exact LA.out) (fun h => by cases h) (by omega) (by exact Nat.le_refl _)) rfl rfl rfl (by simp [Act.eval]) (by simp [Act.eval]) ?_; intro v4 w4 h4; have H4 := Lib.hid h4; have HB4 := Lib.hid (app_below (e := 3) (v := .slice none 0 0) (Below.refl wd.heap.size wd).drew (Nat.le_refl _) h4.2.1 (World.ownsRow_nil _ _ _ _) (Nat.le_refl _)); clear h4)
                      | (refine step_app (app_ints _ wd.heap.size v4 (0 + m) ([] ++ Ia.map nOf) (Ic.map nOf) (by exact H4.out.1) (some ad) (I2.length - (m + 1)) (c3 - (m + 1)) D1.out (by exact HLAD.out.below HB4.out) (fun h => by cases h) (by omega) (by exact HB4.out.size)) rfl rfl rfl (by simp [Act.eval]) (by simp [Act.eval]) ?_; intro v5 w5 h5; have H5 := Lib.hid h5; clear h5))
                    all_goals
                      go_wp2_with fail
                      go_meet
                      exact ⟨by have := H5.out.1; rw [show 0 + m + (I2.length - (m + 1)) = I2.length - 1 from by omega] at this; simpa using this, app_below HB4.out HB4.out.size H5.out.2.1 H4.out.1 (Nat.le_refl _)⟩
                  case rest =>
                    obtain ⟨ob, bb2⟩ := hcut
                    have hC3 := pop_both (B := B) (L0 := (L0 : Int)) (k := k + 1) (J := Ia ++ Ic) (by have := HIL.out; simp [HAL.out]; omega) H11.out BB.out OB.out bb2 ob HFR.out.2.1 (HFR.out.2.2.2.2.2.1.trans HC2.out.lim) (by rw [HFR.out.2.2.2.2.2.2]; exact HC2.out.sl) (by have := HIL.out; simp [HAL.out]; omega)
                    have HB3 := Lib.hid (B11.out.trans ((BB.out.trans (bb2.mono BB.out.size)).mono (Nat.le_trans HZ.out H11.out.bl)))
                    obtain ⟨s3, I3, hC3⟩ : ∃ s3 I3, Chs wc B (L0 : Int) u9 u10 (k + 1) s3 I3 := ⟨_, _, hC3⟩
                    have HC3 := Lib.hid hC3
                    go_wp2_with fail
                    go_meet
                    exact ⟨s3, I3, HC3.out, HB3.out⟩
              | false =>
                go_wp2_with fail
                go_meet
                exact ⟨s2, I2, HC2.out, HB2.out⟩
            case rest =>
              obtain ⟨s3, I3, hC3, hB3⟩ := hcut
              have HC3 := Lib.hid hC3
              have HB3 := Lib.hid hB3
              obtain ⟨A10, c10, rfl⟩ := own_slice hC3.row
              obtain ⟨A11, c11, rfl, l11, _, _, _⟩ := own_shape hC3.len
              have L11 := Lib.hid l11
              have hil3 := hC3.il
              have hch5 : chg s3.l ≤ (L0 : Int) := by have h1 := hC3.sc.wf.chl; have h2 := hC3.lim; omega
              have hch6 : 0 ≤ chg s3.l := chg_ge hC3.sc.wf.ok
              have HTOT3 : Hid (smv (I3.map nOf) = chg s3.l ∧ smk (I3.map nOf) = true) := Lib.hid ⟨by rw [smv_small hC3.small (by simp; omega), hC3.rep.ch], smk_small hC3.small (by simp; omega)⟩
              clear hC3 hB3 l11 L3 HC2 HB2 HBQ HY
              go_wp2_with fail
              refine (sum_lies A11 _ c11 (I3.map nOf) _ HC3.out.sc.tab (by simp) (by unfold maxLen; omega) L11.out).mono ?_
              rintro e w' ⟨rfl, rfl⟩
              rw [HTOT3.out.1, HTOT3.out.2]
              go_wp2_with fail
              refine (charged_sc HC3.out.sc).mono ?_
              rintro e w' ⟨rfl, rfl⟩
              go_wp2_with fail
              refine (charged_sc HC3.out.sc).mono ?_
              rintro e w' ⟨rfl, rfl⟩
              go_wp2_with fail
              refine (limit_sc HC3.out.sc).mono ?_
              rw [HC3.out.lim]
              rintro e w' ⟨rfl, rfl⟩
              go_wp2_with fail
              refine (live_sc HC3.out.sc).mono ?_
              rw [HC3.out.rep.lv]
              rintro e w' ⟨rfl, rfl⟩
              go_wp2
              go_roundw
              case rel => exact ⟨k + 1, s3, I3, by omega, by omega, by go_num, HC3.out, HB3.out⟩
              case measure => simp [intOf]; omega
     | false =>
      clear HBL
      obtain ⟨A2, c2, rfl⟩ := own_slice HC.out.row
      obtain ⟨A3, c3, rfl, _, _, _, _⟩ := own_shape HC.out.len
      have hil := HC.out.il
      go_wp2_with fail
      rename World => wl
      go_loopw [23] (fun i wr => ∃ j : Nat, j ≤ I.length ∧ i = .int .i64 j ∧ Chs wr B (L0 : Int) (.slice A2 I.length c2) (.slice A3 I.length c3) k s I ∧ Below w.heap.size w wr) (fun i _ => I.length - (intOf i).toNat)
      case atStart => exact ⟨0, by omega, rfl, HC.out, HBW.out⟩
      case round =>
        obtain ⟨j, hj, rfl, hC, hB⟩ := hrel
        have KC := Lib.hid hC
        have KB := Lib.hid hB
        clear hC hB HC HBW
        by_cases hlt : j < I.length
        · obtain ⟨Ia, x1, Ic, hI, hAl, hTk, hDr, hIx⟩ := split_at hlt
          have hmem : x1 ∈ I := by rw [hI]; simp
          obtain ⟨q, cp, e, hcap, c0, c1⟩ := hs_at (i := j) (h := hOf x1) KC.out.row (by rw [List.getElem?_map, hIx]; rfl)
          simp only [Value.slice.injEq, true_and] at e
          obtain ⟨rfl, rfl⟩ := e
          have d0 : wr.cell? ⟨q, j * 2, none⟩ = some (.int .u32 (x1.sl : Int)) := c0
          have d1 : wr.cell? ⟨q, j * 2 + 1, none⟩ = some (.int .u32 x1.gn) := c1
          clear c0 c1
          have hlx := KC.out.rep.live (x := x1) hmem
          have hokx := KC.out.sc.wf.ok.at_ x1.sl
          have hg0 : 0 ≤ x1.gn := by rw [← hlx.2.1]; exact hokx.2.2.1
          have hg1 : x1.gn ≤ 4294967295 := by rw [← hlx.2.1]; exact hokx.2.2.2
          have hsl : x1.sl < 5000 := by have h1 := hlx.2.2; have h2 := KC.out.sl; omega
          have hxn := (KC.out.rep.has x1 hmem).2.1
          have HGT := Lib.hid (KC.out.rep.get hmem)
          have HIX : Hid ((I.map nOf)[j]? = some (x1.n : Int)) := Lib.hid (by rw [List.getElem?_map, hIx]; rfl)
          clear hI hAl hTk hDr hIx hmem hlx hokx
          go_wp2_with fail
          clear d0 d1
          refine (get_sc KC.out.sc x1.sl x1.gn (by omega) hg0 hg1).mono ?_
          rw [HGT.out.1, HGT.out.2]
          rintro e w20 ⟨rfl, h20, b20⟩
          have H20 := Lib.hid (KC.out.kp h20 b20)
          have B20 := Lib.hid (KB.out.trans (b20.bel.mono HZ.out))
          clear h20 b20 KC KB
          obtain ⟨A4, c4, e4, l4, _, _, _⟩ := own_shape H20.out.len
          simp only [Value.slice.injEq, true_and] at e4
          obtain ⟨rfl, rfl⟩ := e4
          obtain ⟨g3, o3, rfl, d3⟩ := l4.at_ (i := j) (u := .int .i64 (x1.n : Int)) (by rw [ints, List.getElem?_map, HIX.out]; rfl)
          have hsz : (str (txt x1.n x1.c)).size = x1.n := by rw [str_size, txt_length]
          clear l4
          go_wp2_with fail
          rename World => wm
          go_loopw [26] (fun i wr => ∃ p : Nat, p ≤ x1.n ∧ i = .int .i64 p ∧ Chs wr B (L0 : Int) (.slice (some ⟨q, 0, none⟩) I.length c2) (.slice (some ⟨g3, o3, none⟩) I.length c3) k s I ∧ Below w.heap.size w wr) (fun i _ => x1.n - (intOf i).toNat)
          case atStart => exact ⟨0, by omega, rfl, H20.out, B20.out⟩
          case round =>
            obtain ⟨p, hp, rfl, hC3, hB3⟩ := hrel
            have KC3 := Lib.hid hC3
            have KB3 := Lib.hid hB3
            clear hC3 hB3 H20 B20
            by_cases hpl : p < x1.n
            · have hbb := str_same x1.n x1.c p (by omega) (by omega)
              have hp0 : (0 : Int) ≤ (p : Int) := by omega
              have hp1 : (p : Int) < (x1.n : Int) := by omega
              have hp2 : (0 : Int) < (x1.n : Int) := by omega
              have hp3 : 0 < x1.n := by omega
              go_wp2_with fail
              go_quiet (fail)
              go_wp2
              go_roundw
              case rel => exact ⟨p + 1, by omega, by go_num, KC3.out.below (below_drewN (Below.refl _ _) _), KB3.out.trans (below_drewN (Below.refl _ _) _)⟩
              case measure => simp [intOf]; omega
            · obtain rfl : p = x1.n := by omega
              go_wp2
              go_roundw
              case rel => exact ⟨j + 1, by omega, by go_num, KC3.out, KB3.out⟩
              case measure => simp [intOf]; omega
        · obtain rfl : j = I.length := by omega
          go_wp2
          go_ret
          exact ⟨rfl, KB.out⟩
end Go.Proofs.YtgphkihpihepiaaDoor
