/- WireGets returns true, as a walk. -/
import Derived.Test.YtcmgkmllmdgcbaaWrGetsMath
namespace Go.Proofs.Ytcmgkmllmdgcbaa
open Go.RowKit
set_option linter.unusedVariables false

theorem conv_one (mb : UInt8) (w : World) : (convert 34 9 (.slice (some ⟨w.heap.size, 0, none⟩) 1 1)).run Try.prog (w.alloc (.cells #[.int .u8 (mb.toNat : Int)] 5)) = .ok (.string (str [mb])) (w.alloc (.cells #[.int .u8 (mb.toNat : Int)] 5)) :=
  conv_bytes (l := [mb]) (has_new w #[.int .u8 (mb.toNat : Int)] 5) rfl
theorem cut_data (u : List UInt8) : ((str u).extract 0 (u.length - 1)).data.toList = u.take (u.length - 1) := by
  rw [extract_str, str_data, str_data, List.drop_zero, Nat.sub_zero]
theorem cut_size (u : List UInt8) : ((str u).extract 0 (u.length - 1)).size = u.length - 1 := by
  rw [extract_str, str_data, str_size, List.drop_zero, Nat.sub_zero, List.length_take]; omega
abbrev bvals (l : List UInt8) : List Value := l.map fun b => Value.int .u8 (b.toNat : Int)
theorem bvals_get {l : List UInt8} {k : Nat} (h : k < l.length) : (bvals l)[k]? = some (.int .u8 ((l.getD k 0).toNat : Int)) := by
  simp [bvals, List.getD, h]
theorem make_bytes' (W : Nat) (h8 : W ≤ 80) (w : World) : (Instr.makeSlice 34 (.int .i64 W) (.int .i64 W)).run Try.prog w = .ok (.slice (some ⟨w.heap.size, 0, none⟩) W W) (w.alloc (.cells (bcells (List.replicate W 0)) 5)) := by
  obtain ⟨i0, hi, hz0, hz1, hz2⟩ := info_parts info_u8
  have h := run_make (P := Try.prog) w 34 5 i0 (.int .u8 0) Try.underlying34 hi hz0 .i64 .i64 W W (by omega) (by omega) (by rw [hz2]; omega) (by omega)
  rw [hz1] at h
  simp only [Int.toNat_natCast, Nat.mul_one] at h
  rw [made_bytes W] at h
  exact h

set_option maxRecDepth 100000 in
set_option maxHeartbeats 16000000 in
theorem gets_walk (u : List UInt8) (A : Option Addr) (n c : Nat) (l : List UInt8) (mb : UInt8) (w : World) (hu : u.length ≤ 1000000000000000)
    (hl : l.length = n) (hnc : n ≤ c) (hcm : c ≤ maxLen) (hnil : A = none → c = 0) (hr : Lies w A (bvals l)) :
    Calls Try.prog 5 #[.string (str u), .slice A n c, .int .u8 (mb.toNat : Int)] w fun e w' => e = .returned (.bool true) ∧ Below w.heap.size w w' := by
  have hmb := mb.toNat_lt
  unfold maxLen at hcm
  go_enter Try.func5, Try.ntmps5
  go_wp2_with fail
  refine (examples_any w).mono ?_
  rintro e w1 ⟨rfl, h1⟩
  have BE := Lib.hid h1
  have RE := Lib.hid (hr.below h1)
  have HR0 := Lib.hid hr
  clear h1 hr
  have SU := Lib.hid hu
  clear hu
  by_cases h0 : n = 0
  · subst h0
    clear RE hl
    go_wp2_with fail
    by_cases hg : gok u = true
    · have HU := Lib.hid hg
      clear hg
      refine (wget_any (str u) u w1 (str_data _) (by rw [str_size]; have := SU.out; omega)).mono ?_
      rintro e v1 ⟨Z, rfl, h1, hz⟩
      have PG := Lib.hid (put_got HU.out)
      have PW := Lib.hid (got_wok HU.out)
      have hge : gE u = 0 := by rw [gE, if_pos HU.out]
      rw [hge]
      have hgl := (gok_parts HU.out).1
      have hgn : (gV u).length ≤ 8 := by rw [gV, if_pos HU.out, gvs_length]; exact hgl
      have hgk0 : gK u = (byteAt u 0 : Nat) := by rw [gK, if_pos HU.out]
      have hgk1 := byteAt_lt u 0
      have HGK : Hid (-9223372036854775808 ≤ gK u ∧ gK u ≤ 9223372036854775807) := Lib.hid (by rw [hgk0]; omega)
      have hlen0 : u.length = 10 + 8 * byteAt u 1 := (gok_parts HU.out).2
      have HLEN : Hid (10 ≤ u.length) := Lib.hid (by omega)
      clear hge hgl hgk0 hgk1 hlen0
      have HGN := Lib.hid hgn
      clear hgn
      have G1 := Lib.hid (has_new v1 #[.int .i64 (gK u), .int .i64 (gT u), .slice Z (gV u).length (gV u).length] 24)
      have Z1 := Lib.hid (hz.alloc (.cells #[.int .i64 (gK u), .int .i64 (gT u), .slice Z (gV u).length (gV u).length] 24))
      have B1 := Lib.hid (((Below.step BE.out h1 (Nat.le_refl _))).alloc ((Below.step BE.out h1 (Nat.le_refl _))).size (.cells #[.int .i64 (gK u), .int .i64 (gT u), .slice Z (gV u).length (gV u).length] 24))
      clear h1 hz
      unfold ev
      obtain ⟨kg, hkg⟩ : ∃ kg, gK u = kg := ⟨_, rfl⟩
      obtain ⟨tg, htg⟩ : ∃ tg, gT u = tg := ⟨_, rfl⟩
      obtain ⟨vg, hvg⟩ : ∃ vg, gV u = vg := ⟨_, rfl⟩
      rw [hkg, htg, hvg] at PG G1 B1 Z1
      rw [hkg, hvg] at PW
      rw [hkg] at HGK
      rw [hvg] at HGN
      rw [hkg, htg, hvg]
      clear hkg htg hvg
      obtain ⟨nv, hnv⟩ : ∃ nv, vg.length = nv := ⟨_, rfl⟩
      rw [hnv] at G1 B1 Z1 HGN ⊢
      have HNV := Lib.hid hnv
      clear hnv
      obtain ⟨g0, g1, g2⟩ := G1.out.three
      go_wp2_with fail
      clear g0 g1 g2
      generalize v1.alloc (.cells #[.int .i64 kg, .int .i64 tg, .slice Z nv nv] 24) = v2 at *
      refine (wput_any kg tg Z nv nv vg v2 HGK.out.1 HGK.out.2 HNV.out (small8 HGN.out) Z1.out).mono ?_
      rw [PG.out, PW.out]
      rintro e v3 ⟨rfl, h3⟩
      have B3 := Lib.hid (Below.step B1.out h3 (Nat.le_refl _))
      clear h3 G1 Z1 B1
      have hsz : (str u).size = u.length := str_size _
      have hln0 := HLEN.out
      have hln1 := SU.out
      have hcv := conv_one mb v3
      have hadd := run_add_str u [mb] (by simp; omega)
      go_wp2_with fail
      clear hcv hadd
      have B4 := Lib.hid (B3.out.alloc B3.out.size (.cells #[.int .u8 (mb.toNat : Int)] 5))
      clear B3
      generalize v3.alloc (.cells #[.int .u8 (mb.toNat : Int)] 5) = v4 at *
      refine (wget_bad (str (u ++ [mb])) (u ++ [mb]) v4 (str_data _) (by rw [str_size, List.length_append]; simp; omega) (gok_more HU.out mb)).mono ?_
      rintro e v5 ⟨Y, rfl, h5⟩
      have B5 := Lib.hid ((Below.step B4.out h5 (Nat.le_refl _)).alloc (Below.step B4.out h5 (Nat.le_refl _)).size (.cells #[.int .i64 0, .int .i64 0, .slice Y 0 0] 24))
      clear h5 B4
      unfold ev
      go_wp2_with fail
      generalize v5.alloc (.cells #[.int .i64 0, .int .i64 0, .slice Y 0 0] 24) = v6 at *
      refine (wget_bad _ (u.take (u.length - 1)) v6 (cut_data u) ?_ (gok_less HU.out)).mono ?_
      · rw [cut_size u]; omega
      rintro e v7 ⟨Y2, rfl, h7⟩
      have B7 := Lib.hid ((Below.step B5.out h7 (Nat.le_refl _)).alloc (Below.step B5.out h7 (Nat.le_refl _)).size (.cells #[.int .i64 0, .int .i64 0, .slice Y2 0 0] 24))
      clear h7 B5
      unfold ev
      go_wp2
      go_ret
      exact ⟨rfl, B7.out⟩
    · have HU : Hid (gok u = false) := Lib.hid (by simpa using hg)
      clear hg
      refine (wget_bad (str u) u w1 (str_data _) (by rw [str_size]; have := SU.out; omega) HU.out).mono ?_
      rintro e v1 ⟨Z, rfl, h1⟩
      have G1 := Lib.hid (has_new v1 #[.int .i64 0, .int .i64 0, .slice Z 0 0] 24)
      have B1 := Lib.hid ((Below.step BE.out h1 (Nat.le_refl _)).alloc (Below.step BE.out h1 (Nat.le_refl _)).size (.cells #[.int .i64 0, .int .i64 0, .slice Z 0 0] 24))
      clear h1
      unfold ev
      obtain ⟨g0, g1, g2⟩ := G1.out.three
      go_wp2
      go_ret
      exact ⟨rfl, B1.out⟩
  · have hl0 : 0 < l.length := by omega
    obtain ⟨b, off, rfl, hc0⟩ := RE.out.at_ (bvals_get hl0)
    rw [Nat.add_zero] at hc0
    have hx := (l.getD 0 0).toNat_lt
    generalize (l.getD 0 0).toNat = x0 at *
    obtain ⟨N, hN⟩ : ∃ N : Nat, (x0 : Int) % 9 = N := ⟨x0 % 9, by omega⟩
    have hN8 : N ≤ 8 := by omega
    obtain ⟨W, hW⟩ : ∃ W : Nat, 10 + 8 * (N : Int) = W := ⟨10 + 8 * N, by omega⟩
    have HWN : Hid (W = 10 + 8 * N) := Lib.hid (by omega)
    have hWb : W ≤ 80 := by omega
    have hm := make_bytes' W hWb
    have hwu : IntKind.u8.wrap (N : Int) = (N : Int) := by simp [IntKind.wrap, IntKind.bits, IntKind.signed]; omega
    have hgt : decide (0 < (n : Int)) = true := by simp; omega
    go_wp2_with fail
    clear hm hc0
    have G0 := Lib.hid (has_new w1 (bcells (List.replicate W 0)) 5)
    have B0 := Lib.hid (BE.out.alloc BE.out.size (.cells (bcells (List.replicate W 0)) 5))
    have hgb : w.heap.size ≤ w1.heap.size := BE.out.size
    clear BE
    generalize w1.alloc (.cells (bcells (List.replicate W 0)) 5) = w2 at *
    obtain ⟨g, hge⟩ : ∃ g, g = w1.heap.size := ⟨_, rfl⟩
    rw [← hge] at G0 hgb ⊢
    clear hge
    have HLN := Lib.hid hl
    clear hl hl0
    go_loopw [10] (fun i wr => ∃ (k : Nat) (t0 : List UInt8), k ≤ W ∧ i = .int .i64 k ∧ t0.length = W ∧ Has wr g 5 (bcells t0) ∧ Below w.heap.size w wr) (fun i _ => W - (intOf i).toNat)
    case atStart => exact ⟨0, List.replicate W 0, by omega, rfl, by simp, G0.out, B0.out⟩
    case round =>
      obtain ⟨k, t0, hk, rfl, ht0, hh, hb⟩ := hrel
      clear G0 B0
      by_cases hlt : k < W
      · by_cases hln : k < n
        · have hkl : k < l.length := by rw [HLN.out]; exact hln
          obtain ⟨b', off', e', hck⟩ := (HR0.out.below hb).at_ (bvals_get hkl)
          cases e'
          have hd : ∃ v, wr.cell? ⟨g, k, none⟩ = some v := ⟨_, (hh.cell k).trans (bcells_get t0 k (by omega))⟩
          obtain ⟨v, hv⟩ := hd
          have hf := hh.free k
          have HH := Lib.hid (show Has (wr.setCell ⟨g, k, none⟩ (.int .u8 ((l.getD k 0).toNat : Int))) g 5 (bcells (t0.set k (l.getD k 0))) by
            have := hh.put k (.int .u8 ((l.getD k 0).toNat : Int))
            rw [bcells_set] at this
            exact this)
          have HB := Lib.hid (hb.setCell (p := ⟨g, k, none⟩) (by simp; omega) (.int .u8 ((l.getD k 0).toNat : Int)))
          have d1 : decide ((k : Int) < (W : Int)) = true := by simp; omega
          have d2 : decide ((k : Int) < (n : Int)) = true := by simp; omega
          clear hh hb hkl
          go_wp2
          go_roundw
          case rel => exact ⟨k + 1, t0.set k (l.getD k 0), by omega, by go_num, by rw [List.length_set]; exact ht0, HH.out, HB.out⟩
          case measure => simp [intOf]; omega
        · have d1 : decide ((k : Int) < (W : Int)) = true := by simp; omega
          have d2 : decide ((k : Int) < (n : Int)) = false := by simp; omega
          have HG := Lib.hid (show Has (wr.setCell ⟨g, 1, none⟩ (.int .u8 (N : Int))) g 5 (bcells (t0.set 1 (UInt8.ofNat N))) by
            have := hh.put 1 (.int .u8 ((UInt8.ofNat N).toNat : Int))
            rw [bcells_set, ofNat_toNat (show N < 256 by omega)] at this
            exact this)
          have hcv := conv_bytes (W := W) HG.out (by rw [List.length_set]; exact ht0)
          have hc1 : ∃ v, wr.cell? ⟨g, 1, none⟩ = some v := ⟨_, (hh.cell 1).trans (bcells_get t0 1 (by omega))⟩
          obtain ⟨v, hc1⟩ := hc1
          have hf1 := hh.free 1
          have HU := Lib.hid (gok_made (t := t0) (n := N) (by omega) (by omega))
          have SU2 : Hid ((t0.set 1 (UInt8.ofNat N)).length ≤ 1000000000000000) := Lib.hid (by rw [List.length_set]; omega)
          have BT := Lib.hid (hb.setCell (p := ⟨g, 1, none⟩) (by simp; omega) (.int .u8 (N : Int)))
          clear hh hb SU
          have SU := Lib.hid SU2.out
          clear SU2
          go_wp2_with fail
          clear hcv hc1 hf1 HG
          generalize wr.setCell ⟨g, 1, none⟩ (.int .u8 (N : Int)) = w3 at *
          generalize t0.set 1 (UInt8.ofNat N) = t at *
          clear HR0
          refine (wget_any (str t) t w3 (str_data _) (by rw [str_size]; have := SU.out; omega)).mono ?_
          rintro e v1 ⟨Z, rfl, h1, hz⟩
          have PG := Lib.hid (put_got HU.out)
          have PW := Lib.hid (got_wok HU.out)
          have hge : gE t = 0 := by rw [gE, if_pos HU.out]
          rw [hge]
          have hgl := (gok_parts HU.out).1
          have hgn : (gV t).length ≤ 8 := by rw [gV, if_pos HU.out, gvs_length]; exact hgl
          have hgk0 : gK t = (byteAt t 0 : Nat) := by rw [gK, if_pos HU.out]
          have hgk1 := byteAt_lt t 0
          have HGK : Hid (-9223372036854775808 ≤ gK t ∧ gK t ≤ 9223372036854775807) := Lib.hid (by rw [hgk0]; omega)
          have hlen0 : t.length = 10 + 8 * byteAt t 1 := (gok_parts HU.out).2
          have HLEN : Hid (10 ≤ t.length) := Lib.hid (by omega)
          clear hge hgl hgk0 hgk1 hlen0
          have HGN := Lib.hid hgn
          clear hgn
          have G1 := Lib.hid (has_new v1 #[.int .i64 (gK t), .int .i64 (gT t), .slice Z (gV t).length (gV t).length] 24)
          have Z1 := Lib.hid (hz.alloc (.cells #[.int .i64 (gK t), .int .i64 (gT t), .slice Z (gV t).length (gV t).length] 24))
          have B1 := Lib.hid (((Below.step BT.out h1 (Nat.le_refl _))).alloc ((Below.step BT.out h1 (Nat.le_refl _))).size (.cells #[.int .i64 (gK t), .int .i64 (gT t), .slice Z (gV t).length (gV t).length] 24))
          clear h1 hz
          unfold ev
          obtain ⟨kg, hkg⟩ : ∃ kg, gK t = kg := ⟨_, rfl⟩
          obtain ⟨tg, htg⟩ : ∃ tg, gT t = tg := ⟨_, rfl⟩
          obtain ⟨vg, hvg⟩ : ∃ vg, gV t = vg := ⟨_, rfl⟩
          rw [hkg, htg, hvg] at PG G1 B1 Z1
          rw [hkg, hvg] at PW
          rw [hkg] at HGK
          rw [hvg] at HGN
          rw [hkg, htg, hvg]
          clear hkg htg hvg
          obtain ⟨nv, hnv⟩ : ∃ nv, vg.length = nv := ⟨_, rfl⟩
          rw [hnv] at G1 B1 Z1 HGN ⊢
          have HNV := Lib.hid hnv
          clear hnv
          obtain ⟨g0, g1, g2⟩ := G1.out.three
          go_wp2_with fail
          clear g0 g1 g2
          generalize v1.alloc (.cells #[.int .i64 kg, .int .i64 tg, .slice Z nv nv] 24) = v2 at *
          refine (wput_any kg tg Z nv nv vg v2 HGK.out.1 HGK.out.2 HNV.out (small8 HGN.out) Z1.out).mono ?_
          rw [PG.out, PW.out]
          rintro e v3 ⟨rfl, h3⟩
          have B3 := Lib.hid (Below.step B1.out h3 (Nat.le_refl _))
          clear h3 G1 Z1 B1
          have hsz : (str t).size = t.length := str_size _
          have hln0 := HLEN.out
          have hln1 := SU.out
          have hcv := conv_one mb v3
          have hadd := run_add_str t [mb] (by simp; omega)
          go_wp2_with fail
          clear hcv hadd
          have B4 := Lib.hid (B3.out.alloc B3.out.size (.cells #[.int .u8 (mb.toNat : Int)] 5))
          clear B3
          generalize v3.alloc (.cells #[.int .u8 (mb.toNat : Int)] 5) = v4 at *
          refine (wget_bad (str (t ++ [mb])) (t ++ [mb]) v4 (str_data _) (by rw [str_size, List.length_append]; simp; omega) (gok_more HU.out mb)).mono ?_
          rintro e v5 ⟨Y, rfl, h5⟩
          have B5 := Lib.hid ((Below.step B4.out h5 (Nat.le_refl _)).alloc (Below.step B4.out h5 (Nat.le_refl _)).size (.cells #[.int .i64 0, .int .i64 0, .slice Y 0 0] 24))
          clear h5 B4
          unfold ev
          go_wp2_with fail
          generalize v5.alloc (.cells #[.int .i64 0, .int .i64 0, .slice Y 0 0] 24) = v6 at *
          refine (wget_bad _ (t.take (t.length - 1)) v6 (cut_data t) ?_ (gok_less HU.out)).mono ?_
          · rw [cut_size t]; omega
          rintro e v7 ⟨Y2, rfl, h7⟩
          have B7 := Lib.hid ((Below.step B5.out h7 (Nat.le_refl _)).alloc (Below.step B5.out h7 (Nat.le_refl _)).size (.cells #[.int .i64 0, .int .i64 0, .slice Y2 0 0] 24))
          clear h7 B5
          unfold ev
          go_wp2
          go_ret
          exact ⟨rfl, B7.out⟩
      · have d1 : decide ((k : Int) < (W : Int)) = false := by simp; omega
        have HG := Lib.hid (show Has (wr.setCell ⟨g, 1, none⟩ (.int .u8 (N : Int))) g 5 (bcells (t0.set 1 (UInt8.ofNat N))) by
          have := hh.put 1 (.int .u8 ((UInt8.ofNat N).toNat : Int))
          rw [bcells_set, ofNat_toNat (show N < 256 by omega)] at this
          exact this)
        have hcv := conv_bytes (W := W) HG.out (by rw [List.length_set]; exact ht0)
        have hc1 : ∃ v, wr.cell? ⟨g, 1, none⟩ = some v := ⟨_, (hh.cell 1).trans (bcells_get t0 1 (by omega))⟩
        obtain ⟨v, hc1⟩ := hc1
        have hf1 := hh.free 1
        have HU := Lib.hid (gok_made (t := t0) (n := N) (by omega) (by omega))
        have SU2 : Hid ((t0.set 1 (UInt8.ofNat N)).length ≤ 1000000000000000) := Lib.hid (by rw [List.length_set]; omega)
        have BT := Lib.hid (hb.setCell (p := ⟨g, 1, none⟩) (by simp; omega) (.int .u8 (N : Int)))
        clear hh hb SU
        have SU := Lib.hid SU2.out
        clear SU2
        go_wp2_with fail
        clear hcv hc1 hf1 HG
        generalize wr.setCell ⟨g, 1, none⟩ (.int .u8 (N : Int)) = w3 at *
        generalize t0.set 1 (UInt8.ofNat N) = t at *
        clear HR0
        refine (wget_any (str t) t w3 (str_data _) (by rw [str_size]; have := SU.out; omega)).mono ?_
        rintro e v1 ⟨Z, rfl, h1, hz⟩
        have PG := Lib.hid (put_got HU.out)
        have PW := Lib.hid (got_wok HU.out)
        have hge : gE t = 0 := by rw [gE, if_pos HU.out]
        rw [hge]
        have hgl := (gok_parts HU.out).1
        have hgn : (gV t).length ≤ 8 := by rw [gV, if_pos HU.out, gvs_length]; exact hgl
        have hgk0 : gK t = (byteAt t 0 : Nat) := by rw [gK, if_pos HU.out]
        have hgk1 := byteAt_lt t 0
        have HGK : Hid (-9223372036854775808 ≤ gK t ∧ gK t ≤ 9223372036854775807) := Lib.hid (by rw [hgk0]; omega)
        have hlen0 : t.length = 10 + 8 * byteAt t 1 := (gok_parts HU.out).2
        have HLEN : Hid (10 ≤ t.length) := Lib.hid (by omega)
        clear hge hgl hgk0 hgk1 hlen0
        have HGN := Lib.hid hgn
        clear hgn
        have G1 := Lib.hid (has_new v1 #[.int .i64 (gK t), .int .i64 (gT t), .slice Z (gV t).length (gV t).length] 24)
        have Z1 := Lib.hid (hz.alloc (.cells #[.int .i64 (gK t), .int .i64 (gT t), .slice Z (gV t).length (gV t).length] 24))
        have B1 := Lib.hid (((Below.step BT.out h1 (Nat.le_refl _))).alloc ((Below.step BT.out h1 (Nat.le_refl _))).size (.cells #[.int .i64 (gK t), .int .i64 (gT t), .slice Z (gV t).length (gV t).length] 24))
        clear h1 hz
        unfold ev
        obtain ⟨kg, hkg⟩ : ∃ kg, gK t = kg := ⟨_, rfl⟩
        obtain ⟨tg, htg⟩ : ∃ tg, gT t = tg := ⟨_, rfl⟩
        obtain ⟨vg, hvg⟩ : ∃ vg, gV t = vg := ⟨_, rfl⟩
        rw [hkg, htg, hvg] at PG G1 B1 Z1
        rw [hkg, hvg] at PW
        rw [hkg] at HGK
        rw [hvg] at HGN
        rw [hkg, htg, hvg]
        clear hkg htg hvg
        obtain ⟨nv, hnv⟩ : ∃ nv, vg.length = nv := ⟨_, rfl⟩
        rw [hnv] at G1 B1 Z1 HGN ⊢
        have HNV := Lib.hid hnv
        clear hnv
        obtain ⟨g0, g1, g2⟩ := G1.out.three
        go_wp2_with fail
        clear g0 g1 g2
        generalize v1.alloc (.cells #[.int .i64 kg, .int .i64 tg, .slice Z nv nv] 24) = v2 at *
        refine (wput_any kg tg Z nv nv vg v2 HGK.out.1 HGK.out.2 HNV.out (small8 HGN.out) Z1.out).mono ?_
        rw [PG.out, PW.out]
        rintro e v3 ⟨rfl, h3⟩
        have B3 := Lib.hid (Below.step B1.out h3 (Nat.le_refl _))
        clear h3 G1 Z1 B1
        have hsz : (str t).size = t.length := str_size _
        have hln0 := HLEN.out
        have hln1 := SU.out
        have hcv := conv_one mb v3
        have hadd := run_add_str t [mb] (by simp; omega)
        go_wp2_with fail
        clear hcv hadd
        have B4 := Lib.hid (B3.out.alloc B3.out.size (.cells #[.int .u8 (mb.toNat : Int)] 5))
        clear B3
        generalize v3.alloc (.cells #[.int .u8 (mb.toNat : Int)] 5) = v4 at *
        refine (wget_bad (str (t ++ [mb])) (t ++ [mb]) v4 (str_data _) (by rw [str_size, List.length_append]; simp; omega) (gok_more HU.out mb)).mono ?_
        rintro e v5 ⟨Y, rfl, h5⟩
        have B5 := Lib.hid ((Below.step B4.out h5 (Nat.le_refl _)).alloc (Below.step B4.out h5 (Nat.le_refl _)).size (.cells #[.int .i64 0, .int .i64 0, .slice Y 0 0] 24))
        clear h5 B4
        unfold ev
        go_wp2_with fail
        generalize v5.alloc (.cells #[.int .i64 0, .int .i64 0, .slice Y 0 0] 24) = v6 at *
        refine (wget_bad _ (t.take (t.length - 1)) v6 (cut_data t) ?_ (gok_less HU.out)).mono ?_
        · rw [cut_size t]; omega
        rintro e v7 ⟨Y2, rfl, h7⟩
        have B7 := Lib.hid ((Below.step B5.out h7 (Nat.le_refl _)).alloc (Below.step B5.out h7 (Nat.le_refl _)).size (.cells #[.int .i64 0, .int .i64 0, .slice Y2 0 0] 24))
        clear h7 B5
        unfold ev
        go_wp2
        go_ret
        exact ⟨rfl, B7.out⟩
/-- Numbers that are bytes, as bytes. -/
theorem bytes_of {zs : List Int} (h : ∀ n ∈ zs, 0 ≤ n ∧ n ≤ 255) : zs.map (Value.int .u8) = bvals (zs.map fun z => UInt8.ofNat z.toNat) := by
  unfold bvals
  rw [List.map_map]
  apply List.map_congr_left
  intro z hz
  have := h z hz
  simp only [Function.comp]
  rw [ofNat_toNat (by omega)]
  congr 1
  omega
theorem gets_walk_ (u : List UInt8) (A : Option Addr) (n c : Nat) (zs : List Int) (k : Nat) (w : World) (hu : u.length ≤ 1000000000000000)
    (hl : zs.length = n) (hnc : n ≤ c) (hcm : c ≤ maxLen) (hnil : A = none → c = 0) (hr : Lies w A (zs.map (Value.int .u8))) (hz : ∀ n ∈ zs, 0 ≤ n ∧ n ≤ 255) (hk : k < 256) :
    Calls Try.prog 5 #[.string (str u), .slice A n c, .int .u8 k] w fun e w' => e = .returned (.bool true) ∧ Below w.heap.size w w' := by
  rw [bytes_of hz] at hr
  have := gets_walk u A n c _ (UInt8.ofNat k) w hu (by rw [List.length_map]; exact hl) hnc hcm hnil hr
  rwa [ofNat_toNat hk] at this
end Go.Proofs.Ytcmgkmllmdgcbaa
