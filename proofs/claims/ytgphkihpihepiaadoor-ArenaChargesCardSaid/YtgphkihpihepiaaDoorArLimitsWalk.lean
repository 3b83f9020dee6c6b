/- ArenaLimits tells true, whatever the capacity, the block and the limit. -/
import Derived.Test.YtgphkihpihepiaaDoorArHead
namespace Go.Proofs.YtgphkihpihepiaaDoor
open Go.RowKit
set_option linter.unusedVariables false

theorem alo_cap (s : Ar) (t : List UInt8) : (alo s t).cap = s.cap ∧ (alo s t).lim = s.lim := by unfold alo; split <;> exact ⟨rfl, rfl⟩
theorem sto_lim (s : Ar) (n : Int) : (sto s n).lim = (if serr s n = 0 then n else s.lim) ∧ (sto s n).l = s.l := by unfold sto; split <;> exact ⟨rfl, rfl⟩
theorem nil_chg (c : Int) (t : List UInt8) : aerr ⟨c, c, []⟩ t.length = 0 ∨ chg (alo ⟨c, c, []⟩ t).l = 0 := by
  by_cases h : aerr ⟨c, c, []⟩ t.length = 0
  · exact .inl h
  · refine .inr ?_
    rw [alo, if_neg h]; rfl
theorem Sc.wf {w : World} {B g : Nat} {s : Ar} {K : List Nat} (h : Sc w B g s K) : Wf s := by
  obtain ⟨v, h1, _⟩ := h.ar
  exact h1.wf

set_option maxHeartbeats 8000000 in
set_option maxRecDepth 100000 in
theorem limits_walk (a0 a1 a2 : Int) (near : Bool) (h00 : 0 ≤ a0) (h01 : a0 ≤ 65535) (h10 : 0 ≤ a1) (h11 : a1 ≤ 255) (h20 : -9223372036854775808 ≤ a2) (h21 : a2 ≤ 9223372036854775807) (w : World) (ht : Tab w) (hT : Dbt w) :
    Calls Tryd.prog 6 #[.int .u16 a0, .int .u8 a1, .int .i64 a2, .bool near] w fun e w' => e = .returned (.bool true) ∧ Below w.heap.size w w' := by
  have HT := Lib.hid ht
  have HD := Lib.hid hT
  clear ht hT
  obtain ⟨n, rfl⟩ : ∃ n : Nat, a1 = (n : Int) := ⟨a1.toNat, by omega⟩
  have hn : n ≤ 255 := by omega
  go_enter Tryd.func6, Tryd.ntmps6
  go_wp2_with fail
  refine (examples_any w HT.out HD.out).mono ?_
  rintro e w1 ⟨rfl, b1⟩
  have B1 := Lib.hid b1
  clear b1
  go_wp2_with fail
  refine (new_sc a0 w1 h00 (by omega) (HT.out.below B1.out) (HD.out.below B1.out)).mono ?_
  rintro e w2 ⟨rfl, h2, b2⟩
  have H2 := Lib.hid h2
  have B2 := Lib.hid (B1.out.trans (b2.mono B1.out.size))
  have HZ := Lib.hid B1.out.size
  clear h2 b2
  generalize w1.heap.size = B at *
  obtain ⟨m, hm⟩ : ∃ m : Int, m = if near then a2.tmod 70000 else a2 := ⟨_, rfl⟩
  have HM := Lib.hid hm
  clear hm
  have W3 := nil_chg a0 (txt n 1)
  obtain ⟨c, hc⟩ : ∃ c : Int, c = chg (alo ⟨a0, a0, []⟩ (txt n 1)).l := ⟨_, rfl⟩
  obtain ⟨E, hE⟩ : ∃ E : Int, E = aerr ⟨a0, a0, []⟩ ((txt n 1).length : Int) := ⟨_, rfl⟩
  rw [← hc, ← hE] at W3
  replace W3 : E = 0 ∨ (E ≠ 0 ∧ c = 0) := by omega
  have HC := Lib.hid hc
  have HE := Lib.hid hE
  have HW3 := Lib.hid W3
  clear hc hE W3
  have hse : Hid (serr (alo ⟨a0, a0, []⟩ (txt n 1)) m = if m < 0 ∨ a0 < m then 1 else if m < c then 9 else 0) := Lib.hid (by unfold serr; rw [(alo_cap _ _).1, ← HC.out])
  have hst := sto_lim (alo ⟨a0, a0, []⟩ (txt n 1)) m
  have HL : Hid ((sto (alo ⟨a0, a0, []⟩ (txt n 1)) m).lim = if serr (alo ⟨a0, a0, []⟩ (txt n 1)) m = 0 then m else a0) := Lib.hid (by rw [hst.1, (alo_cap _ _).2])
  have HG : Hid (chg (sto (alo ⟨a0, a0, []⟩ (txt n 1)) m).l = c) := Lib.hid (by rw [hst.2, HC.out])
  clear hst
  have hb : (-9223372036854775808 ≤ m ∧ m ≤ 9223372036854775807) := by
    rw [HM.out]
    cases near
    · exact ⟨h20, h21⟩
    · have h3 := Int.tmod_lt_of_pos (-a2) (b := 70000) (by omega)
      rw [Int.neg_tmod] at h3
      have h4 := Int.tmod_lt_of_pos a2 (b := 70000) (by omega)
      simp only [if_true]
      omega
  obtain ⟨hb0, hb1⟩ := hb
  have hcases : (m < 0 ∨ a0 < m) ∨ (0 ≤ m ∧ m ≤ a0 ∧ m < c) ∨ (0 ≤ m ∧ m ≤ a0 ∧ c ≤ m) := by omega
  cases near with
  | true =>
    have hm : a2.tmod 70000 = m := by rw [HM.out]; rfl
    go_wp2_with fail
    clear hm
    refine (text_sc H2.out n 1 (by omega) (by omega) (by omega)).mono ?_
    rintro e w3 ⟨rfl, h3, b3⟩
    have H3 := Lib.hid h3
    have B3 := Lib.hid (B2.out.trans (b3.bel.mono HZ.out))
    clear h3 b3
    go_wp2_with fail
    refine (alloc_sc H3.out (txt n 1) (by rw [txt_length]; exact small_len (by omega))).mono ?_
    rw [← HE.out]
    rintro e w4 ⟨rfl, h4, b4⟩
    have H4 := Lib.hid (h4.alloc (.cells #[.int .u32 (aslot ⟨a0, a0, []⟩ ((txt n 1).length : Int)), .int .u32 (agen ⟨a0, a0, []⟩ ((txt n 1).length : Int))] 32))
    have B4 := Lib.hid (B3.out.trans ((b4.bel.trans (h4.kpa (.cells #[.int .u32 (aslot ⟨a0, a0, []⟩ ((txt n 1).length : Int)), .int .u32 (agen ⟨a0, a0, []⟩ ((txt n 1).length : Int))] 32)).bel).mono HZ.out))
    clear h4 b4
    generalize aslot ⟨a0, a0, []⟩ ((txt n 1).length : Int) = sl at *
    generalize agen ⟨a0, a0, []⟩ ((txt n 1).length : Int) = gn at *
    go_wp2_with fail
    refine (charged_sc H4.out).mono ?_
    rw [← HC.out]
    rintro e w' ⟨rfl, rfl⟩
    generalize w4.alloc (.cells #[.int .u32 sl, .int .u32 gn] 32) = w5 at *
    go_wp2_with fail
    refine (setLimit_sc H4.out m).mono ?_
    rw [hse.out]
    rintro e w6 ⟨rfl, h6, b6⟩
    have H6 := Lib.hid h6
    have B6 := Lib.hid (B4.out.trans (b6.bel.mono HZ.out))
    clear h6 b6
    rcases hcases with hx | hx | hx
    · rw [if_pos hx]
      have HLx := Lib.hid (HL.out.trans (show _ = a0 by rw [hse.out, if_pos hx]; rfl))
      clear HL
      rcases hx with hx | hx
      · have hx1 : ¬ a0 < m := by omega
        rcases HW3.out with h0 | ⟨h0, h00⟩
        · subst h0
          go_wp2_with fail
          refine (limit_sc H6.out).mono ?_
          rw [HLx.out]
          rintro e w' ⟨rfl, rfl⟩
          go_wp2_with fail
          refine (charged_sc H6.out).mono ?_
          rw [HG.out]
          rintro e w' ⟨rfl, rfl⟩
          go_wp2
          go_ret
          exact ⟨rfl, B6.out⟩
        · subst h00
          have h01b : (E == 0) = false := by simpa using h0
          clear h0
          go_wp2_with fail
          refine (limit_sc H6.out).mono ?_
          rw [HLx.out]
          rintro e w' ⟨rfl, rfl⟩
          go_wp2_with fail
          refine (charged_sc H6.out).mono ?_
          rw [HG.out]
          rintro e w' ⟨rfl, rfl⟩
          go_wp2
          go_ret
          exact ⟨rfl, B6.out⟩
      · have hx1 : ¬ m < 0 := by omega
        rcases HW3.out with h0 | ⟨h0, h00⟩
        · subst h0
          go_wp2_with fail
          refine (limit_sc H6.out).mono ?_
          rw [HLx.out]
          rintro e w' ⟨rfl, rfl⟩
          go_wp2_with fail
          refine (charged_sc H6.out).mono ?_
          rw [HG.out]
          rintro e w' ⟨rfl, rfl⟩
          go_wp2
          go_ret
          exact ⟨rfl, B6.out⟩
        · subst h00
          have h01b : (E == 0) = false := by simpa using h0
          clear h0
          go_wp2_with fail
          refine (limit_sc H6.out).mono ?_
          rw [HLx.out]
          rintro e w' ⟨rfl, rfl⟩
          go_wp2_with fail
          refine (charged_sc H6.out).mono ?_
          rw [HG.out]
          rintro e w' ⟨rfl, rfl⟩
          go_wp2
          go_ret
          exact ⟨rfl, B6.out⟩
    · obtain ⟨y0, y1, y2⟩ := hx
      rw [if_neg (by omega), if_pos y2]
      have HLx := Lib.hid (HL.out.trans (show _ = a0 by rw [hse.out, if_neg (show ¬ (m < 0 ∨ a0 < m) by omega), if_pos y2]; rfl))
      clear HL
      rcases HW3.out with h0 | ⟨h0, h00⟩
      · subst h0
        go_wp2_with fail
        refine (limit_sc H6.out).mono ?_
        rw [HLx.out]
        rintro e w' ⟨rfl, rfl⟩
        go_wp2_with fail
        refine (charged_sc H6.out).mono ?_
        rw [HG.out]
        rintro e w' ⟨rfl, rfl⟩
        go_wp2
        go_ret
        exact ⟨rfl, B6.out⟩
      · exfalso; omega
    · obtain ⟨y0, y1, y2⟩ := hx
      rw [if_neg (by omega), if_neg (by omega)]
      have HLx := Lib.hid (HL.out.trans (show _ = m by rw [hse.out, if_neg (show ¬ (m < 0 ∨ a0 < m) by omega), if_neg (show ¬ m < c by omega)]; rfl))
      clear HL
      rcases HW3.out with h0 | ⟨h0, h00⟩
      · subst h0
        go_wp2_with fail
        refine (limit_sc H6.out).mono ?_
        rw [HLx.out]
        rintro e w' ⟨rfl, rfl⟩
        go_wp2_with fail
        refine (charged_sc H6.out).mono ?_
        rw [HG.out]
        rintro e w' ⟨rfl, rfl⟩
        go_wp2
        go_ret
        exact ⟨rfl, B6.out⟩
      · subst h00
        have h01b : (E == 0) = false := by simpa using h0
        clear h0
        go_wp2_with fail
        refine (limit_sc H6.out).mono ?_
        rw [HLx.out]
        rintro e w' ⟨rfl, rfl⟩
        go_wp2_with fail
        refine (charged_sc H6.out).mono ?_
        rw [HG.out]
        rintro e w' ⟨rfl, rfl⟩
        go_wp2
        go_ret
        exact ⟨rfl, B6.out⟩
  | false =>
    obtain rfl : m = a2 := by rw [HM.out]; rfl
    go_wp2_with fail
    refine (text_sc H2.out n 1 (by omega) (by omega) (by omega)).mono ?_
    rintro e w3 ⟨rfl, h3, b3⟩
    have H3 := Lib.hid h3
    have B3 := Lib.hid (B2.out.trans (b3.bel.mono HZ.out))
    clear h3 b3
    go_wp2_with fail
    refine (alloc_sc H3.out (txt n 1) (by rw [txt_length]; exact small_len (by omega))).mono ?_
    rw [← HE.out]
    rintro e w4 ⟨rfl, h4, b4⟩
    have H4 := Lib.hid (h4.alloc (.cells #[.int .u32 (aslot ⟨a0, a0, []⟩ ((txt n 1).length : Int)), .int .u32 (agen ⟨a0, a0, []⟩ ((txt n 1).length : Int))] 32))
    have B4 := Lib.hid (B3.out.trans ((b4.bel.trans (h4.kpa (.cells #[.int .u32 (aslot ⟨a0, a0, []⟩ ((txt n 1).length : Int)), .int .u32 (agen ⟨a0, a0, []⟩ ((txt n 1).length : Int))] 32)).bel).mono HZ.out))
    clear h4 b4
    generalize aslot ⟨a0, a0, []⟩ ((txt n 1).length : Int) = sl at *
    generalize agen ⟨a0, a0, []⟩ ((txt n 1).length : Int) = gn at *
    go_wp2_with fail
    refine (charged_sc H4.out).mono ?_
    rw [← HC.out]
    rintro e w' ⟨rfl, rfl⟩
    generalize w4.alloc (.cells #[.int .u32 sl, .int .u32 gn] 32) = w5 at *
    go_wp2_with fail
    refine (setLimit_sc H4.out m).mono ?_
    rw [hse.out]
    rintro e w6 ⟨rfl, h6, b6⟩
    have H6 := Lib.hid h6
    have B6 := Lib.hid (B4.out.trans (b6.bel.mono HZ.out))
    clear h6 b6
    rcases hcases with hx | hx | hx
    · rw [if_pos hx]
      have HLx := Lib.hid (HL.out.trans (show _ = a0 by rw [hse.out, if_pos hx]; rfl))
      clear HL
      rcases hx with hx | hx
      · have hx1 : ¬ a0 < m := by omega
        rcases HW3.out with h0 | ⟨h0, h00⟩
        · subst h0
          go_wp2_with fail
          refine (limit_sc H6.out).mono ?_
          rw [HLx.out]
          rintro e w' ⟨rfl, rfl⟩
          go_wp2_with fail
          refine (charged_sc H6.out).mono ?_
          rw [HG.out]
          rintro e w' ⟨rfl, rfl⟩
          go_wp2
          go_ret
          exact ⟨rfl, B6.out⟩
        · subst h00
          have h01b : (E == 0) = false := by simpa using h0
          clear h0
          go_wp2_with fail
          refine (limit_sc H6.out).mono ?_
          rw [HLx.out]
          rintro e w' ⟨rfl, rfl⟩
          go_wp2_with fail
          refine (charged_sc H6.out).mono ?_
          rw [HG.out]
          rintro e w' ⟨rfl, rfl⟩
          go_wp2
          go_ret
          exact ⟨rfl, B6.out⟩
      · have hx1 : ¬ m < 0 := by omega
        rcases HW3.out with h0 | ⟨h0, h00⟩
        · subst h0
          go_wp2_with fail
          refine (limit_sc H6.out).mono ?_
          rw [HLx.out]
          rintro e w' ⟨rfl, rfl⟩
          go_wp2_with fail
          refine (charged_sc H6.out).mono ?_
          rw [HG.out]
          rintro e w' ⟨rfl, rfl⟩
          go_wp2
          go_ret
          exact ⟨rfl, B6.out⟩
        · subst h00
          have h01b : (E == 0) = false := by simpa using h0
          clear h0
          go_wp2_with fail
          refine (limit_sc H6.out).mono ?_
          rw [HLx.out]
          rintro e w' ⟨rfl, rfl⟩
          go_wp2_with fail
          refine (charged_sc H6.out).mono ?_
          rw [HG.out]
          rintro e w' ⟨rfl, rfl⟩
          go_wp2
          go_ret
          exact ⟨rfl, B6.out⟩
    · obtain ⟨y0, y1, y2⟩ := hx
      rw [if_neg (by omega), if_pos y2]
      have HLx := Lib.hid (HL.out.trans (show _ = a0 by rw [hse.out, if_neg (show ¬ (m < 0 ∨ a0 < m) by omega), if_pos y2]; rfl))
      clear HL
      rcases HW3.out with h0 | ⟨h0, h00⟩
      · subst h0
        go_wp2_with fail
        refine (limit_sc H6.out).mono ?_
        rw [HLx.out]
        rintro e w' ⟨rfl, rfl⟩
        go_wp2_with fail
        refine (charged_sc H6.out).mono ?_
        rw [HG.out]
        rintro e w' ⟨rfl, rfl⟩
        go_wp2
        go_ret
        exact ⟨rfl, B6.out⟩
      · exfalso; omega
    · obtain ⟨y0, y1, y2⟩ := hx
      rw [if_neg (by omega), if_neg (by omega)]
      have HLx := Lib.hid (HL.out.trans (show _ = m by rw [hse.out, if_neg (show ¬ (m < 0 ∨ a0 < m) by omega), if_neg (show ¬ m < c by omega)]; rfl))
      clear HL
      rcases HW3.out with h0 | ⟨h0, h00⟩
      · subst h0
        go_wp2_with fail
        refine (limit_sc H6.out).mono ?_
        rw [HLx.out]
        rintro e w' ⟨rfl, rfl⟩
        go_wp2_with fail
        refine (charged_sc H6.out).mono ?_
        rw [HG.out]
        rintro e w' ⟨rfl, rfl⟩
        go_wp2
        go_ret
        exact ⟨rfl, B6.out⟩
      · subst h00
        have h01b : (E == 0) = false := by simpa using h0
        clear h0
        go_wp2_with fail
        refine (limit_sc H6.out).mono ?_
        rw [HLx.out]
        rintro e w' ⟨rfl, rfl⟩
        go_wp2_with fail
        refine (charged_sc H6.out).mono ?_
        rw [HG.out]
        rintro e w' ⟨rfl, rfl⟩
        go_wp2
        go_ret
        exact ⟨rfl, B6.out⟩
end Go.Proofs.YtgphkihpihepiaaDoor
