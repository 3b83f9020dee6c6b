/- The statement SizeTells, called with a number, a bool and a slice of numbers in any memory in which the table of classes reads as it is written, returns true and writes nothing that was there. -/
import Derived.Test.YtbojiphhcciliaaDoorSizeRef
import Derived.Deep.QuietTactic
import Derived.BigQuiet
import Derived.WalkSmall
namespace Go.Proofs.YtbojiphhcciliaaDoor
open Go.RowKit
set_option linter.unusedVariables false

set_option maxRecDepth 100000 in
set_option maxHeartbeats 8000000 in
theorem tells_walk (n : Int) (near : Bool) (a : Option Addr) (len cap : Nat) (zs : List Int) (hn0 : -9223372036854775808 ≤ n) (hn1 : n ≤ 9223372036854775807) (w : World) (hr : IsRow .i64 w a len cap zs) (_ : ∀ n ∈ zs, (Lit.int .i64 n).wf = true) (ht : Tab w) :
    Calls Tryd.prog 3 #[.int .i64 n, .bool near, .slice a len cap] w fun e w' => e = .returned (.bool true) ∧ Below w.heap.size w w' := by
  obtain ⟨hl, hz, hm, _⟩ := id hr
  unfold maxLen at hm
  have HR := Lib.hid hr
  have hlc : len ≤ cap := by omega
  have hcm : (cap : Int) ≤ 9223372036854775807 := by omega
  have HN := Lib.hid (And.intro hn0 hn1)
  clear hr hl hz hm hn0 hn1
  by_cases h8 : len ≤ 8
  · cases near
    · go_enter Tryd.func3, Tryd.ntmps3
      go_wp2_with fail
      refine (examples_any _ ht).mono ?_
      rintro e w1 ⟨rfl, hb1⟩
      have ht1 := Lib.hid (ht.below hb1)
      have HB1 := Lib.hid hb1
      clear hb1 ht
      go_wp2_with fail
      refine (round_any n _ ht1.out).mono ?_
      rintro e w' ⟨rfl, rfl⟩
      go_wp2_with fail
      refine (refRound_any n _).mono ?_
      rintro e w2 ⟨rfl, hb⟩
      have HB2 : Hid (Below w.heap.size w w2) := Lib.hid (HB1.out.trans (hb.mono HB1.out.size))
      have HT2 := Lib.hid (ht1.out.below hb)
      clear hb HB1 ht1
      generalize rnd n = rv
      generalize rok n = rk
      go_wp2_with fail
      refine (sum_any a len cap zs _ HT2.out (HR.out.below HB2.out)).mono ?_
      rintro e w' ⟨rfl, rfl⟩
      go_wp2_with fail
      refine (refSum_any a len cap zs _ (HR.out.below HB2.out)).mono ?_
      rintro e w3 ⟨rfl, hb⟩
      have HB3 : Hid (Below w.heap.size w w3) := Lib.hid (HB2.out.trans (hb.mono HB2.out.size))
      have HT3 := Lib.hid (HT2.out.below hb)
      clear hb HB2 HT2
      generalize smv _ = sv
      generalize smk _ = sk
      go_wp2_with fail
      refine (classes_any _ HT3.out).mono ?_
      rintro e w4 ⟨rfl, hh4, hb⟩
      have HB4 : Hid (Below w.heap.size w w4) := Lib.hid (HB3.out.trans (hb.mono HB3.out.size))
      have HT4 := Lib.hid (HT3.out.below hb)
      have H4 := Lib.hid hh4
      clear hb HB3 HT3 hh4
      go_wp2_with fail
      refine (refClasses_any _).mono ?_
      rintro e w5 ⟨rfl, hh5, hb⟩
      have HB5 : Hid (Below w.heap.size w w5) := Lib.hid (HB4.out.trans (hb.mono HB4.out.size))
      have HT5 := Lib.hid (HT4.out.below hb)
      have H45 := Lib.hid (H4.out.below hb H4.out.lt)
      have H5 := Lib.hid hh5
      clear hb HB4 HT4 H4 hh5
      generalize w3.heap.size = B4 at H45 ⊢
      generalize w4.heap.size = B5 at H5 ⊢
      go_wp2
      go_loopw [18] (fun i wr => ∃ k : Nat, k ≤ 7 ∧ i = .int .i64 k ∧ Has wr B4 3 (filled 7) ∧ Has wr B5 3 (filled 7) ∧ Tab wr ∧ Below w.heap.size w wr) (fun i _ => 7 - (intOf i).toNat)
      case atStart => exact ⟨0, by omega, rfl, H45.out, H5.out, HT5.out, HB5.out⟩
      case round =>
        clear H45 H5 HT5 HB5
        obtain ⟨k, hk, rfl, g4, g5, gt, gb⟩ := hrel
        have G4 := Lib.hid g4
        have G5 := Lib.hid g5
        have GT := Lib.hid gt
        have GB := Lib.hid gb
        clear g4 g5 gt gb
        by_cases hlt : k < 7
        · have c4 : wr.cell? ⟨B4, k, none⟩ = some (.int .i64 (cv k)) := (G4.out.cell k).trans (filled_at hlt)
          have c5 : wr.cell? ⟨B5, k, none⟩ = some (.int .i64 (cv k)) := (G5.out.cell k).trans (filled_at hlt)
          generalize cv k = u at c4 c5
          go_wp2
          go_quiet (fail)
          go_wp2
          go_roundw
          case rel => exact ⟨k + 1, by omega, by go_num, G4.out, G5.out, GT.out, below_drewN GB.out _⟩
          case measure => simp [intOf]; omega
        · go_wp2_with fail
          refine (class_any n _ GT.out).mono ?_
          rintro e w' ⟨rfl, rfl⟩
          go_wp2_with fail
          refine (refClass_any n _).mono ?_
          rintro e w6 ⟨rfl, hb⟩
          have HB6 : Hid (Below w.heap.size w w6) := Lib.hid (GB.out.trans (hb.mono GB.out.size))
          clear hb
          go_wp2
          go_ret
          exact ⟨rfl, HB6.out⟩
    · go_enter Tryd.func3, Tryd.ntmps3
      go_wp2_with fail
      refine (examples_any _ ht).mono ?_
      rintro e w1 ⟨rfl, hb1⟩
      have ht1 := Lib.hid (ht.below hb1)
      have HB1 := Lib.hid hb1
      clear hb1 ht
      go_wp2_with fail
      generalize n.tmod 1100 = n
      refine (round_any n _ ht1.out).mono ?_
      rintro e w' ⟨rfl, rfl⟩
      go_wp2_with fail
      refine (refRound_any n _).mono ?_
      rintro e w2 ⟨rfl, hb⟩
      have HB2 : Hid (Below w.heap.size w w2) := Lib.hid (HB1.out.trans (hb.mono HB1.out.size))
      have HT2 := Lib.hid (ht1.out.below hb)
      clear hb HB1 ht1
      generalize rnd n = rv
      generalize rok n = rk
      go_wp2_with fail
      refine (sum_any a len cap zs _ HT2.out (HR.out.below HB2.out)).mono ?_
      rintro e w' ⟨rfl, rfl⟩
      go_wp2_with fail
      refine (refSum_any a len cap zs _ (HR.out.below HB2.out)).mono ?_
      rintro e w3 ⟨rfl, hb⟩
      have HB3 : Hid (Below w.heap.size w w3) := Lib.hid (HB2.out.trans (hb.mono HB2.out.size))
      have HT3 := Lib.hid (HT2.out.below hb)
      clear hb HB2 HT2
      generalize smv _ = sv
      generalize smk _ = sk
      go_wp2_with fail
      refine (classes_any _ HT3.out).mono ?_
      rintro e w4 ⟨rfl, hh4, hb⟩
      have HB4 : Hid (Below w.heap.size w w4) := Lib.hid (HB3.out.trans (hb.mono HB3.out.size))
      have HT4 := Lib.hid (HT3.out.below hb)
      have H4 := Lib.hid hh4
      clear hb HB3 HT3 hh4
      go_wp2_with fail
      refine (refClasses_any _).mono ?_
      rintro e w5 ⟨rfl, hh5, hb⟩
      have HB5 : Hid (Below w.heap.size w w5) := Lib.hid (HB4.out.trans (hb.mono HB4.out.size))
      have HT5 := Lib.hid (HT4.out.below hb)
      have H45 := Lib.hid (H4.out.below hb H4.out.lt)
      have H5 := Lib.hid hh5
      clear hb HB4 HT4 H4 hh5
      generalize w3.heap.size = B4 at H45 ⊢
      generalize w4.heap.size = B5 at H5 ⊢
      go_wp2
      go_loopw [18] (fun i wr => ∃ k : Nat, k ≤ 7 ∧ i = .int .i64 k ∧ Has wr B4 3 (filled 7) ∧ Has wr B5 3 (filled 7) ∧ Tab wr ∧ Below w.heap.size w wr) (fun i _ => 7 - (intOf i).toNat)
      case atStart => exact ⟨0, by omega, rfl, H45.out, H5.out, HT5.out, HB5.out⟩
      case round =>
        clear H45 H5 HT5 HB5
        obtain ⟨k, hk, rfl, g4, g5, gt, gb⟩ := hrel
        have G4 := Lib.hid g4
        have G5 := Lib.hid g5
        have GT := Lib.hid gt
        have GB := Lib.hid gb
        clear g4 g5 gt gb
        by_cases hlt : k < 7
        · have c4 : wr.cell? ⟨B4, k, none⟩ = some (.int .i64 (cv k)) := (G4.out.cell k).trans (filled_at hlt)
          have c5 : wr.cell? ⟨B5, k, none⟩ = some (.int .i64 (cv k)) := (G5.out.cell k).trans (filled_at hlt)
          generalize cv k = u at c4 c5
          go_wp2
          go_quiet (fail)
          go_wp2
          go_roundw
          case rel => exact ⟨k + 1, by omega, by go_num, G4.out, G5.out, GT.out, below_drewN GB.out _⟩
          case measure => simp [intOf]; omega
        · go_wp2_with fail
          refine (class_any n _ GT.out).mono ?_
          rintro e w' ⟨rfl, rfl⟩
          go_wp2_with fail
          refine (refClass_any n _).mono ?_
          rintro e w6 ⟨rfl, hb⟩
          have HB6 : Hid (Below w.heap.size w w6) := Lib.hid (GB.out.trans (hb.mono GB.out.size))
          clear hb
          go_wp2
          go_ret
          exact ⟨rfl, HB6.out⟩
  · have HR : Hid (IsRow .i64 w a 8 cap zs) := Lib.hid ⟨by have := HR.out.1; omega, HR.out.2⟩
    cases near
    · go_enter Tryd.func3, Tryd.ntmps3
      go_wp2_with fail
      refine (examples_any _ ht).mono ?_
      rintro e w1 ⟨rfl, hb1⟩
      have ht1 := Lib.hid (ht.below hb1)
      have HB1 := Lib.hid hb1
      clear hb1 ht
      go_wp2_with fail
      refine (round_any n _ ht1.out).mono ?_
      rintro e w' ⟨rfl, rfl⟩
      go_wp2_with fail
      refine (refRound_any n _).mono ?_
      rintro e w2 ⟨rfl, hb⟩
      have HB2 : Hid (Below w.heap.size w w2) := Lib.hid (HB1.out.trans (hb.mono HB1.out.size))
      have HT2 := Lib.hid (ht1.out.below hb)
      clear hb HB1 ht1
      generalize rnd n = rv
      generalize rok n = rk
      go_wp2_with fail
      refine (sum_any a 8 cap zs _ HT2.out (HR.out.below HB2.out)).mono ?_
      rintro e w' ⟨rfl, rfl⟩
      go_wp2_with fail
      refine (refSum_any a 8 cap zs _ (HR.out.below HB2.out)).mono ?_
      rintro e w3 ⟨rfl, hb⟩
      have HB3 : Hid (Below w.heap.size w w3) := Lib.hid (HB2.out.trans (hb.mono HB2.out.size))
      have HT3 := Lib.hid (HT2.out.below hb)
      clear hb HB2 HT2
      generalize smv _ = sv
      generalize smk _ = sk
      go_wp2_with fail
      refine (classes_any _ HT3.out).mono ?_
      rintro e w4 ⟨rfl, hh4, hb⟩
      have HB4 : Hid (Below w.heap.size w w4) := Lib.hid (HB3.out.trans (hb.mono HB3.out.size))
      have HT4 := Lib.hid (HT3.out.below hb)
      have H4 := Lib.hid hh4
      clear hb HB3 HT3 hh4
      go_wp2_with fail
      refine (refClasses_any _).mono ?_
      rintro e w5 ⟨rfl, hh5, hb⟩
      have HB5 : Hid (Below w.heap.size w w5) := Lib.hid (HB4.out.trans (hb.mono HB4.out.size))
      have HT5 := Lib.hid (HT4.out.below hb)
      have H45 := Lib.hid (H4.out.below hb H4.out.lt)
      have H5 := Lib.hid hh5
      clear hb HB4 HT4 H4 hh5
      generalize w3.heap.size = B4 at H45 ⊢
      generalize w4.heap.size = B5 at H5 ⊢
      go_wp2
      go_loopw [18] (fun i wr => ∃ k : Nat, k ≤ 7 ∧ i = .int .i64 k ∧ Has wr B4 3 (filled 7) ∧ Has wr B5 3 (filled 7) ∧ Tab wr ∧ Below w.heap.size w wr) (fun i _ => 7 - (intOf i).toNat)
      case atStart => exact ⟨0, by omega, rfl, H45.out, H5.out, HT5.out, HB5.out⟩
      case round =>
        clear H45 H5 HT5 HB5
        obtain ⟨k, hk, rfl, g4, g5, gt, gb⟩ := hrel
        have G4 := Lib.hid g4
        have G5 := Lib.hid g5
        have GT := Lib.hid gt
        have GB := Lib.hid gb
        clear g4 g5 gt gb
        by_cases hlt : k < 7
        · have c4 : wr.cell? ⟨B4, k, none⟩ = some (.int .i64 (cv k)) := (G4.out.cell k).trans (filled_at hlt)
          have c5 : wr.cell? ⟨B5, k, none⟩ = some (.int .i64 (cv k)) := (G5.out.cell k).trans (filled_at hlt)
          generalize cv k = u at c4 c5
          go_wp2
          go_quiet (fail)
          go_wp2
          go_roundw
          case rel => exact ⟨k + 1, by omega, by go_num, G4.out, G5.out, GT.out, below_drewN GB.out _⟩
          case measure => simp [intOf]; omega
        · go_wp2_with fail
          refine (class_any n _ GT.out).mono ?_
          rintro e w' ⟨rfl, rfl⟩
          go_wp2_with fail
          refine (refClass_any n _).mono ?_
          rintro e w6 ⟨rfl, hb⟩
          have HB6 : Hid (Below w.heap.size w w6) := Lib.hid (GB.out.trans (hb.mono GB.out.size))
          clear hb
          go_wp2
          go_ret
          exact ⟨rfl, HB6.out⟩
    · go_enter Tryd.func3, Tryd.ntmps3
      go_wp2_with fail
      refine (examples_any _ ht).mono ?_
      rintro e w1 ⟨rfl, hb1⟩
      have ht1 := Lib.hid (ht.below hb1)
      have HB1 := Lib.hid hb1
      clear hb1 ht
      go_wp2_with fail
      generalize n.tmod 1100 = n
      refine (round_any n _ ht1.out).mono ?_
      rintro e w' ⟨rfl, rfl⟩
      go_wp2_with fail
      refine (refRound_any n _).mono ?_
      rintro e w2 ⟨rfl, hb⟩
      have HB2 : Hid (Below w.heap.size w w2) := Lib.hid (HB1.out.trans (hb.mono HB1.out.size))
      have HT2 := Lib.hid (ht1.out.below hb)
      clear hb HB1 ht1
      generalize rnd n = rv
      generalize rok n = rk
      go_wp2_with fail
      refine (sum_any a 8 cap zs _ HT2.out (HR.out.below HB2.out)).mono ?_
      rintro e w' ⟨rfl, rfl⟩
      go_wp2_with fail
      refine (refSum_any a 8 cap zs _ (HR.out.below HB2.out)).mono ?_
      rintro e w3 ⟨rfl, hb⟩
      have HB3 : Hid (Below w.heap.size w w3) := Lib.hid (HB2.out.trans (hb.mono HB2.out.size))
      have HT3 := Lib.hid (HT2.out.below hb)
      clear hb HB2 HT2
      generalize smv _ = sv
      generalize smk _ = sk
      go_wp2_with fail
      refine (classes_any _ HT3.out).mono ?_
      rintro e w4 ⟨rfl, hh4, hb⟩
      have HB4 : Hid (Below w.heap.size w w4) := Lib.hid (HB3.out.trans (hb.mono HB3.out.size))
      have HT4 := Lib.hid (HT3.out.below hb)
      have H4 := Lib.hid hh4
      clear hb HB3 HT3 hh4
      go_wp2_with fail
      refine (refClasses_any _).mono ?_
      rintro e w5 ⟨rfl, hh5, hb⟩
      have HB5 : Hid (Below w.heap.size w w5) := Lib.hid (HB4.out.trans (hb.mono HB4.out.size))
      have HT5 := Lib.hid (HT4.out.below hb)
      have H45 := Lib.hid (H4.out.below hb H4.out.lt)
      have H5 := Lib.hid hh5
      clear hb HB4 HT4 H4 hh5
      generalize w3.heap.size = B4 at H45 ⊢
      generalize w4.heap.size = B5 at H5 ⊢
      go_wp2
      go_loopw [18] (fun i wr => ∃ k : Nat, k ≤ 7 ∧ i = .int .i64 k ∧ Has wr B4 3 (filled 7) ∧ Has wr B5 3 (filled 7) ∧ Tab wr ∧ Below w.heap.size w wr) (fun i _ => 7 - (intOf i).toNat)
      case atStart => exact ⟨0, by omega, rfl, H45.out, H5.out, HT5.out, HB5.out⟩
      case round =>
        clear H45 H5 HT5 HB5
        obtain ⟨k, hk, rfl, g4, g5, gt, gb⟩ := hrel
        have G4 := Lib.hid g4
        have G5 := Lib.hid g5
        have GT := Lib.hid gt
        have GB := Lib.hid gb
        clear g4 g5 gt gb
        by_cases hlt : k < 7
        · have c4 : wr.cell? ⟨B4, k, none⟩ = some (.int .i64 (cv k)) := (G4.out.cell k).trans (filled_at hlt)
          have c5 : wr.cell? ⟨B5, k, none⟩ = some (.int .i64 (cv k)) := (G5.out.cell k).trans (filled_at hlt)
          generalize cv k = u at c4 c5
          go_wp2
          go_quiet (fail)
          go_wp2
          go_roundw
          case rel => exact ⟨k + 1, by omega, by go_num, G4.out, G5.out, GT.out, below_drewN GB.out _⟩
          case measure => simp [intOf]; omega
        · go_wp2_with fail
          refine (class_any n _ GT.out).mono ?_
          rintro e w' ⟨rfl, rfl⟩
          go_wp2_with fail
          refine (refClass_any n _).mono ?_
          rintro e w6 ⟨rfl, hb⟩
          have HB6 : Hid (Below w.heap.size w w6) := Lib.hid (GB.out.trans (hb.mono GB.out.size))
          clear hb
          go_wp2
          go_ret
          exact ⟨rfl, HB6.out⟩
end Go.Proofs.YtbojiphhcciliaaDoor
