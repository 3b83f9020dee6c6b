/- What the functions of package jettisonref01 (the document's own answer to chapter 1) return, as contracts: Classes, Class, Round and Sum, called in any memory; they write nothing that was there. -/
import Derived.Test.YtiandhfpdehicaaDoorSizeCore
namespace Go.Proofs.YtiandhfpdehicaaDoor
open Go.RowKit
set_option linter.unusedVariables false

def filled7 : Array Value := #[.int .i64 16, .int .i64 32, .int .i64 64, .int .i64 128, .int .i64 256, .int .i64 512, .int .i64 1024]
theorem refClasses_any (w : World) :
    Calls Tryd.prog 36 #[] w fun e w' => e = .returned (.slice (some ⟨w.heap.size, 0, none⟩) 7 7) ∧ Has w' w.heap.size 3 filled7 ∧ Below w.heap.size w w' := by
  go_enter Tryd.func36, Tryd.ntmps36
  go_wp2
  go_ret
  exact ⟨rfl, heap_alloc_new w _, (Below.refl _ _).alloc (Nat.le_refl _) _⟩

theorem filled_at {k : Nat} (hk : k < 7) : filled7[k]? = some (.int .i64 (cv k)) := by
  match k, hk with
  | 0, _ => rfl
  | 1, _ => rfl
  | 2, _ => rfl
  | 3, _ => rfl
  | 4, _ => rfl
  | 5, _ => rfl
  | 6, _ => rfl

set_option maxHeartbeats 800000 in
theorem refClass_any (n : Int) (w : World) :
    Calls Tryd.prog 35 #[.int .i64 n] w fun e w' => e = .returned (.int .i64 (cls n)) ∧ Below w.heap.size w w' := by
  by_cases hn : n < 0
  · have H := Lib.hid (cls_neg hn)
    go_enter Tryd.func35, Tryd.ntmps35
    go_wp2_with fail
    refine (refClasses_any _).mono ?_
    rintro e w1 ⟨rfl, hh, hb⟩
    have HB := Lib.hid hb
    clear hh hb
    go_wp2
    go_loop [4] (fun i => i = .int .i64 0) (fun i => 7 - (intOf i).toNat)
    case atStart => rfl
    case round =>
      subst hrel
      go_wp2
      go_ret
      exact ⟨ret_int H.out.symm, HB.out⟩
  · have hn0 : 0 ≤ n := by omega
    clear hn
    go_enter Tryd.func35, Tryd.ntmps35
    go_wp2_with fail
    refine (refClasses_any _).mono ?_
    rintro e w1 ⟨rfl, hh, hb⟩
    have HB := Lib.hid hb
    have HH := Lib.hid hh
    clear hh hb
    go_wp2
    go_loop [4] (fun i => ∃ k : Nat, k ≤ 7 ∧ i = .int .i64 k ∧ (k = 0 ∨ cv (k - 1) < n)) (fun i => 7 - (intOf i).toNat)
    case atStart => exact ⟨0, by omega, rfl, .inl rfl⟩
    case round =>
      obtain ⟨k, hk, rfl, hlo⟩ := hrel
      have HL := Lib.hid hlo
      clear hlo
      by_cases hlt : k < 7
      · have hc : w1.cell? ⟨w.heap.size, k, none⟩ = some (.int .i64 (cv k)) := (HH.out.cell k).trans (filled_at hlt)
        by_cases hle : n ≤ cv k
        · have H := Lib.hid (cls_of k hlt hn0 HL.out hle)
          go_wp2
          go_ret
          exact ⟨ret_int H.out, HB.out⟩
        · go_wp2
          go_round
          case rel => exact ⟨k + 1, by omega, by go_num, .inr (by simpa using hle)⟩
          case measure => simp [intOf]; omega
      · have H : Hid (cls n = -1) := Lib.hid (cls_big (by
          rcases HL.out with h | h
          · omega
          · obtain rfl : k = 7 := by omega
            simpa [cv] using h))
        go_wp2
        go_ret
        exact ⟨ret_int H.out.symm, HB.out⟩

set_option maxHeartbeats 800000 in
theorem refRound_any (n : Int) (w : World) :
    Calls Tryd.prog 28 #[.int .i64 n] w fun e w' => e = .returned (.tuple #[.int .i64 (rnd n), .bool (rok n)]) ∧ Below w.heap.size w w' := by
  by_cases hn : 0 ≤ n ∧ n ≤ 1024
  · obtain ⟨k, hk, h1, h2, _, _⟩ := rnd_of hn.1 hn.2
    have H1 := Lib.hid h1
    have H2 := Lib.hid h2
    have H3 := Lib.hid (rok_yes hn.1 hn.2)
    clear h1 h2 hn
    go_enter Tryd.func28, Tryd.ntmps28
    go_wp2_with fail
    refine (refClass_any n _).mono ?_
    rintro e w1 ⟨rfl, hb⟩
    have HB := Lib.hid hb
    clear hb
    rw [H1.out]
    go_wp2_with fail
    refine (refClasses_any _).mono ?_
    rintro e w2 ⟨rfl, hh, hb⟩
    have HB2 : Hid (Below w.heap.size w w2) := Lib.hid (HB.out.trans (hb.mono HB.out.size))
    have hc : w2.cell? ⟨w1.heap.size, k, none⟩ = some (.int .i64 (cv k)) := (hh.cell k).trans (filled_at hk)
    clear hb hh HB
    go_wp2
    go_ret2
    exact ⟨by rw [H2.out, H3.out]; rfl, HB2.out⟩
  · have h1 : cls n = -1 := by
      by_cases h : n < 0
      · exact cls_neg h
      · exact cls_big (by omega)
    have H1 := Lib.hid h1
    have H2 := Lib.hid (rnd_no (n := n) (by omega))
    have H3 := Lib.hid (rok_no (n := n) (by omega))
    clear h1 hn
    go_enter Tryd.func28, Tryd.ntmps28
    go_wp2_with fail
    refine (refClass_any n _).mono ?_
    rintro e w1 ⟨rfl, hb⟩
    have HB := Lib.hid hb
    clear hb
    rw [H1.out]
    go_wp2
    go_ret2
    exact ⟨by rw [H2.out, H3.out]; rfl, HB.out⟩

set_option maxHeartbeats 800000 in
theorem refSum_lies (A : Option Addr) (len cap : Nat) (ls : List Int) (w : World) (hl : ls.length = len) (hm : len ≤ maxLen) (hr : Lies w A (ints ls)) :
    Calls Tryd.prog 32 #[.slice A len cap] w fun e w' => e = .returned (.tuple #[.int .i64 (smv ls), .bool (smk ls)]) ∧ Below w.heap.size w w' := by
  unfold maxLen at hm
  have HR := Lib.hid hr
  have HL := Lib.hid hl
  have hlen : (len : Int) ≤ 9223372036854775807 := by omega
  clear hr hl hm
  go_enter Tryd.func32, Tryd.ntmps32
  go_wp2
  go_loopw [4, 5] (fun t i wr => ∃ (k : Nat) (s : Int), k ≤ len ∧ i = .int .i64 k ∧ t = .int .i64 s ∧ 0 ≤ s ∧ s ≤ 2147483647 ∧ smo s (ls.drop k) = smo 0 ls ∧ Below w.heap.size w wr) (fun _ i _ => len - (intOf i).toNat)
  case atStart => exact ⟨0, 0, by omega, rfl, rfl, by omega, by omega, rfl, Below.refl _ _⟩
  case round =>
    obtain ⟨k, s, hk, rfl, rfl, hs0, hs1, hsm, hbw⟩ := hrel
    have HW := Lib.hid hbw
    clear hbw
    by_cases hlt : k < len
    · have hkl : k < ls.length := by rw [HL.out]; exact hlt
      obtain ⟨b, off, rfl, hc⟩ := (HR.out.below HW.out).at_ (ints_get hkl)
      obtain ⟨x, hx⟩ : ∃ x, x = ls.getD k 0 := ⟨_, rfl⟩
      rw [← hx] at hc
      have hd : ls.drop k = x :: ls.drop (k + 1) := by rw [drop_step hkl, ← hx]
      clear hkl
      rw [hd] at hsm
      have HM := Lib.hid hsm
      clear hsm hd hx
      have hb := rnd_bd x
      by_cases hok : rok x = true
      · have HO := Lib.hid hok
        clear hok
        by_cases hfit : s + rnd x ≤ 2147483647
        · have HN : Hid (smo (s + rnd x) (ls.drop (k + 1)) = smo 0 ls) := Lib.hid (by rw [← HM.out, smo_yes HO.out (by omega)])
          go_wp2_with fail
          refine (refRound_any x _).mono ?_
          rintro e w2 ⟨rfl, hb2⟩
          have HB2 : Hid (Below w.heap.size w w2) := Lib.hid (HW.out.trans (hb2.mono HW.out.size))
          clear hb2
          rw [HO.out]
          go_wp2
          go_roundw
          case rel => exact ⟨k + 1, s + rnd x, by omega, by go_num, by go_num, by omega, by omega, HN.out, HB2.out⟩
          case measure => simp [intOf]; omega
        · have HN : Hid (none = smo 0 ls) := Lib.hid (by rw [← HM.out, smo_no (.inr (by omega))])
          go_wp2_with fail
          refine (refRound_any x _).mono ?_
          rintro e w2 ⟨rfl, hb2⟩
          have HB2 : Hid (Below w.heap.size w w2) := Lib.hid (HW.out.trans (hb2.mono HW.out.size))
          clear hb2
          rw [HO.out]
          go_wp2
          go_ret2
          exact ⟨by rw [smv, smk, ← HN.out]; rfl, HB2.out⟩
      · have HO : Hid (rok x = false) := Lib.hid (by simpa using hok)
        clear hok
        have HN : Hid (none = smo 0 ls) := Lib.hid (by rw [← HM.out, smo_no (.inl HO.out)])
        go_wp2_with fail
        refine (refRound_any x _).mono ?_
        rintro e w2 ⟨rfl, hb2⟩
        have HB2 : Hid (Below w.heap.size w w2) := Lib.hid (HW.out.trans (hb2.mono HW.out.size))
        clear hb2
        rw [HO.out]
        go_wp2
        go_ret2
        exact ⟨by rw [smv, smk, ← HN.out]; rfl, HB2.out⟩
    · have HN : Hid (some s = smo 0 ls) := Lib.hid (by rw [← hsm, List.drop_of_length_le (by rw [HL.out]; omega), smo_nil])
      clear hsm
      go_wp2
      go_ret2
      exact ⟨by rw [smv, smk, ← HN.out]; rfl, HW.out⟩
end Go.Proofs.YtiandhfpdehicaaDoor
