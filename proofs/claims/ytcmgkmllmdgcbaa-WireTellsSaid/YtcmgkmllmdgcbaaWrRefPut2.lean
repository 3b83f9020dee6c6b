/- What the document's own Put and Size of chapter 5 return for any event, what Same and ref do. -/
import Derived.Test.YtcmgkmllmdgcbaaWrRefPut
import Derived.Test.YtcmgkmllmdgcbaaWrFits
import Derived.BigQuiet
namespace Go.Proofs.Ytcmgkmllmdgcbaa
open Go.RowKit
set_option linter.unusedVariables false

set_option maxHeartbeats 1600000 in
theorem rput_no (K T : Int) (A : Option Addr) (n c : Nat) (w : World) (hm : n ≤ maxLen) (h : 8 < n ∨ K < 0 ∨ 255 < K) :
    Calls Try.prog 10 #[ev K T A n c] w fun e w' => e = .returned (.tuple #[.string (str []), .bool false]) ∧ Below w.heap.size w w' := by
  unfold ev
  unfold maxLen at hm
  have HB := Lib.hid ((Below.refl w.heap.size w).alloc (Nat.le_refl _) (.cells #[.int .i64 K, .int .i64 T, .slice A n c] 32))
  by_cases h1 : K < 0
  · clear h
    go_enter Try.func10, Try.ntmps10
    go_wp2
    go_ret2
    exact ⟨rfl, HB.out⟩
  · have d1 : decide (K < 0) = false := by simpa using h1
    by_cases h2 : 255 < K
    · have d2 : decide (255 < K) = true := by simpa using h2
      clear h
      go_enter Try.func10, Try.ntmps10
      go_wp2
      go_ret2
      exact ⟨rfl, HB.out⟩
    · have d2 : decide (255 < K) = false := by simpa using h2
      have d3 : decide (8 < (n : Int)) = true := by simp; omega
      clear h
      go_enter Try.func10, Try.ntmps10
      go_wp2
      go_ret2
      exact ⟨rfl, HB.out⟩
theorem rput_any (K T : Int) (A : Option Addr) (n c : Nat) (l : List Int) (w : World) (hl : l.length = n) (hm : n ≤ maxLen) (hr : Lies w A (ints l)) :
    Calls Try.prog 10 #[ev K T A n c] w fun e w' => e = .returned (.tuple #[.string (str (wput K T l)), .bool (wok K l)]) ∧ Below w.heap.size w w' := by
  rcases wok_cases K l with ⟨hk, k, rfl, hk1, h8⟩ | ⟨hk, h⟩
  · rw [wput_yes hk, hk, hl]
    exact rput_yes k T A n c l w hk1 (by omega) hl hr
  · rw [wput_no hk, hk]
    exact rput_no K T A n c w hm (by omega)
set_option maxHeartbeats 400000 in
theorem rsize_any (K T : Int) (A : Option Addr) (n c : Nat) (l : List Int) (w : World) (hl : l.length = n) (hm : n ≤ maxLen) (hr : Lies w A (ints l)) :
    Calls Try.prog 17 #[ev K T A n c] w fun e w' => e = .returned (.int .i64 ((wput K T l).length : Nat)) ∧ Below w.heap.size w w' := by
  have HP := Lib.hid (rput_any K T A n c l (w.alloc (.cells #[.int .i64 K, .int .i64 T, .slice A n c] 32)) hl hm (hr.alloc _))
  have HS := str_size (wput K T l)
  clear hr hl
  unfold ev at *
  go_enter Try.func17, Try.ntmps17
  go_wp2_with fail
  refine HP.out.mono ?_
  rintro e w1 ⟨rfl, h1⟩
  have XB := Lib.hid (Below.step ((Below.refl _ _).alloc (Nat.le_refl _) _) h1 (Nat.le_refl _))
  clear h1
  go_wp2
  go_ret
  exact ⟨rfl, XB.out⟩
set_option maxHeartbeats 400000 in
theorem ref_any (K T : Int) (A : Option Addr) (n c : Nat) (w : World) :
    Calls Try.prog 11 #[ev K T A n c] w fun e w' => e = .returned (ev K T A n c) ∧ Below w.heap.size w w' := by
  have HB := Lib.hid ((Below.refl w.heap.size w).alloc (Nat.le_refl _) (.cells #[.int .i64 K, .int .i64 T, .slice A n c] 24))
  unfold ev
  go_enter Try.func11, Try.ntmps11
  go_wp2
  have R := two_new w #[.int .i64 K, .int .i64 T, .slice A n c] #[.int .i64 K, .int .i64 T, .slice A n c] 24 32
  have hR0 := R.2.1.cell 0
  have hR1 := R.2.1.cell 1
  have hR2 := R.2.1.cell 2
  simp at hR0 hR1 hR2
  refine bodyPost_ret (v := .agg #[.int .i64 K, .int .i64 T, .slice A n c]) (by simp [results, Try.results11, go_sem]) rfl ?_
  exact ⟨rfl, R.2.2⟩

set_option maxHeartbeats 1600000 in
theorem rsame_any (K T K' T' : Int) (A B : Option Addr) (n c m d : Nat) (l r : List Int) (w : World) (hl : l.length = n) (hr : r.length = m) (hn : n ≤ maxLen) (hm : m ≤ maxLen) (h1 : Lies w A (ints l)) (h2 : Lies w B (ints r)) :
    Calls Try.prog 14 #[ev K T A n c, ev K' T' B m d] w fun e w' => e = .returned (.bool (sameE K T l K' T' r)) ∧ Below w.heap.size w w' := by
  have T0 := two_new w #[.int .i64 K, .int .i64 T, .slice A n c] #[.int .i64 K', .int .i64 T', .slice B m d] 32 32
  have HB := Lib.hid T0.2.2
  have X0 := Lib.hid T0.1
  have Y0 := Lib.hid T0.2.1
  have H1 := Lib.hid (h1.below T0.2.2)
  have H2 := Lib.hid (h2.below T0.2.2)
  clear T0 h1 h2
  unfold maxLen at hn hm
  unfold ev
  by_cases hK : K = K'
  · by_cases hT : T = T'
    · by_cases hnm : n = m
      · subst hK
        subst hT
        subst hnm
        have HL := Lib.hid hl
        have HR := Lib.hid hr
        clear hl hr hm
        have HN : Hid (sameE K T l K T r = decide (l = r)) := Lib.hid (by unfold sameE; simp)
        have d1 : (K != K) = false := by simp
        have d2 : (T != T) = false := by simp
        have d3 : ((n : Int) != (n : Int)) = false := by simp
        go_enter Try.func14, Try.ntmps14
        go_wp2_with fail
        generalize (w.alloc (.cells #[.int .i64 K, .int .i64 T, .slice A n c] 32)).alloc (.cells #[.int .i64 K, .int .i64 T, .slice B n d] 32) = W at *
        go_loopw [5] (fun i wr => ∃ k : Nat, k ≤ n ∧ i = .int .i64 k ∧ l.take k = r.take k ∧ Below W.heap.size W wr) (fun i _ => n - (intOf i).toNat)
        case atStart => exact ⟨0, by omega, rfl, rfl, Below.refl _ _⟩
        case round =>
          obtain ⟨k, hk, rfl, ht, hb⟩ := hrel
          have HT := Lib.hid ht
          have HBW := Lib.hid hb
          have x2 := (X0.out.next hb).three.2.2
          have y2 := (Y0.out.next hb).three.2.2
          clear ht hb
          by_cases hlt : k < n
          · have hkl : k < l.length := by rw [HL.out]; exact hlt
            have hkr : k < r.length := by rw [HR.out]; exact hlt
            obtain ⟨b, off, rfl, hc⟩ := (H1.out.below HBW.out).at_ (ints_get hkl)
            obtain ⟨b2, off2, rfl, hc2⟩ := (H2.out.below HBW.out).at_ (ints_get hkr)
            by_cases hxy : l.getD k 0 = r.getD k 0
            · have HNX := Lib.hid (take_eq_succ HT.out hkl hkr hxy)
              rw [hxy] at hc
              clear hxy hkl hkr
              generalize r.getD k 0 = x at *
              have hdx : (x != x) = false := by simp
              go_wp2_with fail
              go_quiet (fail)
              go_wp2
              go_roundw
              case rel => exact ⟨k + 1, by omega, by go_num, HNX.out, below_drewN HBW.out _⟩
              case measure => simp [intOf]; omega
            · have HNX : Hid (decide (l = r) = false) := Lib.hid (decide_eq_false fun e => hxy (by rw [e]))
              have hdx : (l.getD k 0 != r.getD k 0) = true := by simpa using hxy
              clear hxy hkl hkr
              generalize r.getD k 0 = x at *
              generalize l.getD k 0 = y at *
              go_wp2_with fail
              go_quiet (fail)
              go_wp2
              go_ret
              exact ⟨by rw [HN.out, HNX.out]; rfl, Below.step HB.out (below_drewN HBW.out _) (Nat.le_refl _)⟩
          · obtain rfl : k = n := by omega
            have HNX : Hid (decide (l = r) = true) := Lib.hid (decide_eq_true (by
              have := HT.out
              rw [List.take_of_length_le (by rw [HL.out]; exact Nat.le_refl _), List.take_of_length_le (by rw [HR.out]; exact Nat.le_refl _)] at this
              exact this))
            have d4 : decide ((k : Int) < (k : Int)) = false := by simp
            go_wp2
            go_ret
            exact ⟨by rw [HN.out, HNX.out]; rfl, Below.step HB.out HBW.out (Nat.le_refl _)⟩
      · have HN : Hid (sameE K T l K' T' r = false) := Lib.hid (decide_eq_false fun h => hnm (by rw [← hl, ← hr, h.2.2]))
        have d1 : (K != K') = false := by simpa using hK
        have d2 : (T != T') = false := by simpa using hT
        have d3 : ((n : Int) != (m : Int)) = true := by simp; omega
        clear hK hT hnm hl hr
        go_enter Try.func14, Try.ntmps14
        go_wp2
        go_ret
        exact ⟨by rw [HN.out]; rfl, HB.out⟩
    · have HN : Hid (sameE K T l K' T' r = false) := Lib.hid (decide_eq_false fun h => hT h.2.1)
      have d1 : (K != K') = false := by simpa using hK
      have d2 : (T != T') = true := by simpa using hT
      clear hK hT hl hr
      go_enter Try.func14, Try.ntmps14
      go_wp2
      go_ret
      exact ⟨by rw [HN.out]; rfl, HB.out⟩
  · have HN : Hid (sameE K T l K' T' r = false) := Lib.hid (decide_eq_false fun h => hK h.1)
    have d1 : (K != K') = true := by simpa using hK
    clear hK hl hr
    go_enter Try.func14, Try.ntmps14
    go_wp2
    go_ret
    exact ⟨by rw [HN.out]; rfl, HB.out⟩
end Go.Proofs.Ytcmgkmllmdgcbaa
