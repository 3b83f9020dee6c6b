/- StoreCounts: the walk. -/
import Derived.Test.YtglhebpblncjaaaDoorStCoM
namespace Go.Proofs.YtglhebpblncjaaaDoor
open Go.RowKit
set_option linter.unusedVariables false

set_option maxHeartbeats 4000000 in
set_option maxRecDepth 100000 in
theorem counts_walk (Kd T : Int) (A : Option Addr) (n c : Nat) (l : List Int) (many ix : Int) (w : World) (hK : I64 Kd) (hTt : I64 T) (hm0 : 0 ≤ many) (hm1 : many ≤ 255) (hix : I64 ix) (hl : l.length = n) (hnc : n ≤ c) (hcm : c ≤ maxLen) (hnil : A = none → c = 0) (hr : Lies w A (ints l)) (hz : ∀ z ∈ l, I64 z) (ht : Tab w) (hT : Dbt w) :
    Calls Tryd.prog 4 #[ev Kd T A n c, .int .u8 many, .int .i64 ix] w fun e w' => e = .returned (.bool true) ∧ Below w.heap.size w w' := by
  unfold maxLen at hcm
  have b0 := box_ev w Kd T A n c
  have HT := Lib.hid (ht.below b0)
  have HD := Lib.hid (hT.below b0)
  have HTB := Lib.hid (And.intro (tab_lt ht) (dbt_lt hT))
  have HL := Lib.hid hr
  have HB0 := Lib.hid b0
  have E0 : Hid (Has (w.alloc (.cells #[.int .i64 Kd, .int .i64 T, .slice A n c] 35)) w.heap.size 35 #[.int .i64 Kd, .int .i64 T, .slice A n c]) := Lib.hid (heap_alloc_new w _)
  have HLN := Lib.hid hl
  have HZ := Lib.hid hz
  have HI := Lib.hid hix
  have HKT := Lib.hid (And.intro hK hTt)
  unfold ev
  clear b0 ht hT hr hl hz hix hK hTt
  go_enter Tryd.func4, Tryd.ntmps4
  go_wp2_with fail
  generalize w.alloc (.cells #[.int .i64 Kd, .int .i64 T, .slice A n c] 35) = w0 at *
  refine (examples_any w0 HT.out HD.out).mono ?_
  rintro e w1 ⟨rfl, b1⟩
  have hpl := E0.out.lt
  have T1 := Lib.hid (HT.out.below b1)
  have D1 := Lib.hid (HD.out.below b1)
  have E1 := Lib.hid (E0.out.next b1)
  have B1 := Lib.hid (HB0.out.trans (b1.mono (by omega)))
  clear b1 HT HD E0 HB0 hpl
  go_wp2_with fail
  refine (new_sc 1000 w1 (by omega) (by omega) T1.out D1.out).mono ?_
  rintro e w2 ⟨rfl, h2, b2⟩
  have hpB := E1.out.lt
  have H2 : Hid (Sc w2 w.heap.size w1.heap.size ⟨1000, 1000, []⟩ [w.heap.size]) := Lib.hid (h2.lower (E := [w.heap.size]) B1.out.size HTB.out.1 HTB.out.2 (fun k hk => by simp at hk; omega))
  have E2 := Lib.hid (E1.out.next b2)
  have B2 := Lib.hid (B1.out.trans (b2.mono B1.out.size))
  clear b2 h2 T1 D1 B1 E1 hpB HTB
  generalize w1.heap.size = g at *
  go_wp2_with fail
  refine (stnew_any H2.out (Tl.new _ _)).mono ?_
  rintro e w3 ⟨rfl, s3, b3⟩
  have S3 : Hid (St w3 w.heap.size g (w2.heap.size + 1) w2.heap.size 0 c0 [w.heap.size]) := Lib.hid s3
  have E3 := Lib.hid (E2.out.next b3)
  have B3 := Lib.hid (B2.out.trans (b3.mono B2.out.size))
  clear b3 s3 H2 E2 B2
  generalize w2.heap.size + 1 = hh at *
  generalize w2.heap.size = m at *
  obtain ⟨U, hU⟩ : ∃ U : Nat, IntKind.u64.wrap Kd = (U : Int) := ⟨_, wrap_u64n Kd⟩
  obtain ⟨k, hk, hk2⟩ : ∃ k : Nat, (U : Int).tmod 256 = (k : Int) ∧ k < 256 := ⟨U % 256, by rw [Int.tmod_eq_emod_of_nonneg (by omega)]; omega, by omega⟩
  have HK2 := Lib.hid hk2
  have e0 : w3.cell? ⟨w.heap.size, 0, none⟩ = some (.int .i64 Kd) := E3.out.cell 0
  have f0 := E3.out.free 0
  go_upto_region 9 with fail
  have E4 : Hid (Has (w3.setCell ⟨w.heap.size, 0, none⟩ (.int .i64 (k : Int))) w.heap.size 35 #[.int .i64 (k : Int), .int .i64 T, .slice A n c]) := Lib.hid (E3.out.put 0 (.int .i64 (k : Int)))
  have t4 := S3.out.tn (K' := [w.heap.size]) (Tn.set w3 ⟨w.heap.size, 0, none⟩ (.int .i64 (k : Int))) (fun k hk => hk) (fun k hk => .inl hk)
  have S4 := Lib.hid t4.1
  have B4 := Lib.hid (B3.out.trans t4.2)
  have e2 : (w3.setCell ⟨w.heap.size, 0, none⟩ (.int .i64 (k : Int))).cell? ⟨w.heap.size, 2, none⟩ = some (.slice A n c) := E4.out.cell 2
  have f2 := E4.out.free 2
  clear e0 f0 hU hk hk2 t4 S3 E3 B3
  generalize w3.setCell ⟨w.heap.size, 0, none⟩ (.int .i64 (k : Int)) = w4 at *
  go_cut [] from 38 to 45 (fun wx => ∃ n8 : Nat, n8 ≤ 8 ∧ n8 ≤ n ∧ wx = w4.setCell ⟨w.heap.size, 2, none⟩ (.slice A n8 c))
  case first =>
    by_cases h8 : n ≤ 8
    · have hmn : (n : Int) ≤ 8 := by omega
      go_wp2_with fail
      go_meet
      exact ⟨n, h8, Nat.le_refl _, rfl⟩
    · have hmn : 8 < (n : Int) := by omega
      have hmn2 : 8 ≤ c := by omega
      go_wp2_with fail
      go_meet
      exact ⟨8, by omega, by omega, rfl⟩
  case rest =>
    obtain ⟨n8, h81, h82, rfl⟩ := hcut
    clear e2 f2
    have hl8 : (l.take n8).length = n8 := by rw [List.length_take, HLN.out]; omega
    have t5 := S4.out.tn (K' := [w.heap.size]) (Tn.set w4 ⟨w.heap.size, 2, none⟩ (.slice A n8 c)) (fun k hk => hk) (fun k hk => .inl hk)
    have hlow : l.take n8 ≠ [] → ∀ x, A = some x → x.block < w.heap.size := fun hn x hx => low_of (HL.out.take n8) hn x hx
    have b5 := B4.out.trans t5.2
    have X0 : Hid (Xs w w.heap.size g hh m w.heap.size (k : Int) T A n8 c (l.take n8) 0 c0 [w.heap.size] (w4.setCell ⟨w.heap.size, 2, none⟩ (.slice A n8 c))) := Lib.hid
      ⟨t5.1, E4.out.put 2 (.slice A n8 c), by simp, ⟨(HL.out.take n8).keep fun p hp => b5.cell hp, fun hn x hx => .inl (hlow hn x hx)⟩, b5, Nat.le_refl _⟩
    have hok : wok (k : Int) (l.take n8) = true := wok_yes HK2.out (by omega)
    have htl : (wput (k : Int) T (l.take n8)).length = 10 + 8 * n8 := by rw [wput_length k T _ HK2.out (by omega), hl8]
    have hgK := got_K (T := T) (l := l.take n8) HK2.out (by omega)
    have hgT := got_T (l := l.take n8) HK2.out (by omega) HKT.out.2
    have hgV := got_V (T := T) (l := l.take n8) HK2.out (by omega) (fun z hz => HZ.out z (List.mem_of_mem_take hz))
    have hgO := put_ok (T := T) (l := l.take n8) HK2.out (by omega)
    have HG := Lib.hid (And.intro hgK (And.intro hgT (And.intro hgV hgO)))
    have HL8 := Lib.hid (And.intro hl8 hlow)
    have HO := Lib.hid hok
    clear hgK hgT hgV hgO hok t5 b5 S4 E4 B4 HL HZ HLN hlow hl8 HKT
    generalize l.take n8 = l8 at *
    obtain ⟨t, ht⟩ : ∃ t, wput (k : Int) T l8 = t := ⟨_, rfl⟩
    rw [ht] at HG htl
    have HTW := Lib.hid ht
    have HTL := Lib.hid (show t.length ≤ 128 by omega)
    clear ht htl
    generalize w4.setCell ⟨w.heap.size, 2, none⟩ (.slice A n8 c) = w5 at *
    obtain ⟨q, hq, hq2⟩ : ∃ q : Nat, many.tmod 20 = (q : Int) ∧ q < 20 := ⟨(many % 20).toNat, by rw [Int.tmod_eq_emod_of_nonneg hm0]; omega, by omega⟩
    obtain ⟨y0, y1, y2⟩ := X0.out.ev.three
    go_wp2_with fail
    clear y0 y1 y2 hq
    have hp0 := cs_put t ix HTL.out
    refine (stput_any X0.out.st (by omega) ix HI.out (k : Int) T A n8 c l8 (by omega) (by have := HK2.out; omega) HL8.out.1 (by unfold maxLen; omega) X0.out.ly.li).mono ?_
    rw [HO.out, HTW.out, hp0.1, hp0.2]
    rintro e w6 ⟨rfl, s6, k6⟩
    have X1 := Lib.hid (X0.out.deed s6 k6)
    clear s6 k6 X0 hp0
    go_wp2_with fail
    go_loopw [12] (fun i wr => ∃ j : Nat, j ≤ q ∧ i = .int .i64 j ∧ Hid (Xs w w.heap.size g hh m w.heap.size (k : Int) T A n8 c l8 (1 + j) (cS t ((j : Int) + 1) ix) [w.heap.size] wr)) (fun i _ => q - (intOf i).toNat)
    case atStart => exact ⟨0, by omega, rfl, X1⟩
    case round =>
      rename World => wr
      clear X1
      obtain ⟨j, hj, rfl, X⟩ := hrel
      by_cases hlt : j < q
      · have hjq : (j : Int) < (q : Int) := by omega
        have hf := cs_f t ((j : Int) + 1) ix
        have hh1 := cs_hold t ((j : Int) + 1) ix
        have HF := Lib.hid (And.intro hf hh1)
        clear hf hh1
        go_wp2_with fail
        refine (sthold_any X.out.st (by omega) ix HI.out).mono ?_
        rw [HF.out.1, HF.out.2]
        rintro e w7 ⟨rfl, s7, k7⟩
        have X2 := Lib.hid (X.out.deed s7 k7)
        clear s7 k7 X HF
        go_wp2_with fail
        go_roundw
        case rel => exact ⟨j + 1, by omega, by go_num, Lib.hid (by have := X2.out; rwa [show ((j : Int) + 1 + 1) = (((j + 1 : Nat) : Int) + 1) by omega, show 1 + j + 1 = 1 + (j + 1) by omega] at this)⟩
        case measure => simp [intOf]; omega
      · obtain rfl : j = q := by omega
        have hjj : ¬ (j : Int) < (j : Int) := by omega
        obtain ⟨y0, y1, y2⟩ := X.out.ev.three
        have hpl := X.out.ev.lt
        go_wp2_with fail
        clear y0 y1 y2 hpl hjj
        have hsz := wsize_any (k : Int) T A n8 c l8 wr (by omega) (by have := HK2.out; omega) HL8.out.1 (by unfold maxLen; omega) X.out.ly.li
        rw [HTW.out] at hsz
        refine hsz.mono ?_
        rintro e w8 ⟨rfl, b8⟩
        have X3 := Lib.hid (X.out.below b8)
        clear b8 X hsz
        go_wp2_with fail
        refine (round_any _ w8 X3.out.st.sc.tab).mono ?_
        rintro e w9 ⟨rfl, rfl⟩
        have HR := cs_chg t
        obtain ⟨r, hr⟩ : ∃ r, rnd (t.length : Int) = r := ⟨_, rfl⟩
        rw [hr] at HR ⊢
        have HRC := Lib.hid HR
        clear HR hr
        have X4 : Hid (Xs w w.heap.size g hh m w.heap.size (k : Int) T A n8 c l8 (1 + j) (cJ t (j + 1) ix) [w.heap.size] w8) := Lib.hid (by rw [cJ_pos t ix (by omega)]; exact X3.out)
        clear X3
        go_wp2_with fail
        go_loopw [15] (fun i wr => ∃ i1 : Nat, i1 ≤ j + 1 ∧ i = .int .i64 i1 ∧ Hid (Xs w w.heap.size g hh m w.heap.size (k : Int) T A n8 c l8 (1 + j + (j + 1 - i1)) (cJ t i1 ix) [w.heap.size] wr)) (fun i _ => (intOf i).toNat)
        case atStart => exact ⟨j + 1, by omega, by go_num, Lib.hid (by rw [Nat.sub_self]; exact X4.out)⟩
        case round =>
          rename World => wz
          clear X4
          obtain ⟨i1, hi1, rfl, X⟩ := hrel
          by_cases hlt : 0 < i1
          · have hpos : (0 : Int) < (i1 : Int) := by omega
            have Y := X.out
            rw [cJ_pos t ix hlt] at Y
            have HY := Lib.hid Y
            have hg0 := stget_any Y.st ix HI.out
            rw [cs_byt t _ ix HTL.out] at hg0
            unfold StGot at hg0
            rw [HG.out.1, HG.out.2.1, HG.out.2.2.1, HG.out.2.2.2, HL8.out.1] at hg0
            clear Y X
            go_wp2_with fail
            refine hg0.mono ?_
            rintro e wa ⟨Z, rfl, ba, lz, -⟩
            have bx := Below.step ba ((Below.refl wa.heap.size wa).alloc (Nat.le_refl _) (.cells #[.int .i64 (k : Int), .int .i64 T, .slice Z n8 n8] 35)) (Nat.le_refl _)
            have X5 := Lib.hid (HY.out.below bx)
            have LZ := Lib.hid (lz.alloc (.cells #[.int .i64 (k : Int), .int .i64 T, .slice Z n8 n8] 35))
            have EZ : Hid (Has (wa.alloc (.cells #[.int .i64 (k : Int), .int .i64 T, .slice Z n8 n8] 35)) wa.heap.size 35 #[.int .i64 (k : Int), .int .i64 T, .slice Z n8 n8]) := Lib.hid (heap_alloc_new wa _)
            clear ba lz bx HY
            unfold ev
            go_wp2_with fail
            generalize wa.alloc (.cells #[.int .i64 (k : Int), .int .i64 T, .slice Z n8 n8] 35) = wb at *
            generalize wa.heap.size = z at *
            refine (stcount_any X5.out.st ix HI.out).mono ?_
            rw [cs_cnt]
            rintro e wc ⟨rfl, rfl⟩
            have hii : ((i1 : Int) != (i1 : Int)) = false := by simp
            obtain ⟨y0, y1, y2⟩ := X5.out.ev.three
            obtain ⟨v0, v1, v2⟩ := EZ.out.three
            go_wp2_with fail
            clear y0 y1 y2 v0 v1 v2 hii
            refine (wsame_eq (k : Int) T Z A n8 n8 n8 c l8 _ HL8.out.1 HL8.out.1 (by unfold maxLen; omega) LZ.out X5.out.ly.li).mono ?_
            rintro e wd ⟨rfl, bd⟩
            have X6 := Lib.hid (X5.out.below bd)
            clear bd X5 LZ EZ
            go_wp2_with fail
            refine (charged_sc X6.out.st.sc).mono ?_
            rw [HRC.out]
            rintro e we ⟨rfl, rfl⟩
            have hrr : (r != r) = false := by simp
            go_wp2_with fail
            clear hrr
            refine (stlen_any X6.out.st).mono ?_
            rintro e we ⟨rfl, rfl⟩
            go_wp2_with fail
            refine (stdrop_any X6.out.st (by omega) ix HI.out).mono ?_
            rw [cs_f, cJ_drop t ix hlt HTL.out]
            rintro e we ⟨rfl, s, kp⟩
            have X7 := Lib.hid (X6.out.deed s kp)
            clear s kp X6
            go_wp2_with fail
            go_roundw
            case rel => exact ⟨i1 - 1, by omega, by go_num, Lib.hid (by have := X7.out; rwa [show 1 + j + (j + 1 - i1) + 1 = 1 + j + (j + 1 - (i1 - 1)) by omega] at this)⟩
            case measure => simp [intOf]; omega
          · obtain rfl : i1 = 0 := by omega
            have hno : ¬ (0 : Int) < ((0 : Nat) : Int) := by omega
            have Y : Hid (Xs w w.heap.size g hh m w.heap.size (k : Int) T A n8 c l8 (1 + j + (j + 1 - 0)) cE [w.heap.size] wz) := Lib.hid X.out
            have hg0 := stget_any Y.out.st ix HI.out
            obtain ⟨a1, a2, a3, a4, a5⟩ := cE_all ix
            unfold StGot at hg0
            rw [a1, g_nil.1, g_nil.2.1, g_nil.2.2.1, g_nil.2.2.2] at hg0
            have HCE := Lib.hid (And.intro a2 (And.intro a3 (And.intro a4 a5)))
            clear X a1 a2 a3 a4 a5
            go_wp2_with fail
            refine hg0.mono ?_
            rintro e wa ⟨Z, rfl, ba, -, -⟩
            have bx := Below.step ba ((Below.refl wa.heap.size wa).alloc (Nat.le_refl _) (.cells #[.int .i64 0, .int .i64 0, .slice Z 0 0] 35)) (Nat.le_refl _)
            have X5 := Lib.hid (Y.out.below bx)
            clear ba bx Y hg0
            unfold ev
            go_wp2_with fail
            generalize wa.alloc (.cells #[.int .i64 0, .int .i64 0, .slice Z 0 0] 35) = wb at *
            refine (stcount_any X5.out.st ix HI.out).mono ?_
            rw [HCE.out.1]
            rintro e wc ⟨rfl, rfl⟩
            go_wp2_with fail
            refine (stdrop_no X5.out.st ix HI.out HCE.out.2.1).mono ?_
            rintro e wd ⟨rfl, bd⟩
            have X6 := Lib.hid (X5.out.below bd)
            clear bd X5
            go_wp2_with fail
            refine (sthold_no X6.out.st ix HI.out HCE.out.2.1).mono ?_
            rintro e wd ⟨rfl, bd⟩
            have X7 := Lib.hid (X6.out.below bd)
            clear bd X6
            go_wp2_with fail
            refine (charged_sc X7.out.st.sc).mono ?_
            rw [HCE.out.2.2.1]
            rintro e we ⟨rfl, rfl⟩
            go_wp2_with fail
            refine (stlen_any X7.out.st).mono ?_
            rw [HCE.out.2.2.2]
            rintro e we ⟨rfl, rfl⟩
            go_wp2
            go_ret
            exact ⟨rfl, X7.out.bel⟩
end Go.Proofs.YtglhebpblncjaaaDoor
