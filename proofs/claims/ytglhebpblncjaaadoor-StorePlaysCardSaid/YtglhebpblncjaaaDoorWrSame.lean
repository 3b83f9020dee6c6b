/- What slices.Equal and Same of package wire return, as contracts. -/
import Derived.Test.YtglhebpblncjaaaDoorWrGet2
namespace Go.Proofs.YtglhebpblncjaaaDoor
open Go.RowKit
set_option linter.unusedVariables false

theorem take_eq_succ {l r : List Int} {k : Nat} (h : l.take k = r.take k) (hl : k < l.length) (hr : k < r.length) (he : l.getD k 0 = r.getD k 0) : l.take (k + 1) = r.take (k + 1) := by
  rw [List.take_succ_eq_append_getElem hl, List.take_succ_eq_append_getElem hr, h]
  simp only [List.getD, List.getElem?_eq_getElem hl, List.getElem?_eq_getElem hr, Option.getD_some] at he
  rw [he]
set_option maxHeartbeats 800000 in
theorem equal_any (A B : Option Addr) (n c m d : Nat) (l r : List Int) (w : World) (hl : l.length = n) (hr : r.length = m) (hn : n ≤ maxLen) (hm : m ≤ maxLen) (h1 : Lies w A (ints l)) (h2 : Lies w B (ints r)) :
    Calls Tryd.prog 44 #[.slice A n c, .slice B m d] w fun e w' => e = .returned (.bool (decide (l = r))) ∧ Below w.heap.size w w' := by
  unfold maxLen at hn hm
  by_cases hnm : n = m
  · subst hnm
    clear hm
    have H1 := Lib.hid h1
    have H2 := Lib.hid h2
    have HL := Lib.hid hl
    have HR := Lib.hid hr
    clear h1 h2 hl hr
    have hdec : ((n : Int) != (n : Int)) = false := by simp
    go_enter Tryd.func44, Tryd.ntmps44
    go_wp2
    go_loopw [13] (fun i wr => ∃ k : Nat, k ≤ n ∧ i = .int .i64 k ∧ l.take k = r.take k ∧ Below w.heap.size w wr) (fun i _ => n - (intOf i).toNat)
    case atStart => exact ⟨0, by omega, rfl, rfl, Below.refl _ _⟩
    case round =>
      obtain ⟨k, hk, rfl, ht, hb⟩ := hrel
      have HT := Lib.hid ht
      have HB := Lib.hid hb
      clear ht hb
      by_cases hlt : k < n
      · have hkl : k < l.length := by rw [HL.out]; exact hlt
        have hkr : k < r.length := by rw [HR.out]; exact hlt
        obtain ⟨b, off, rfl, hc⟩ := (H1.out.below HB.out).at_ (ints_get hkl)
        obtain ⟨b2, off2, rfl, hc2⟩ := (H2.out.below HB.out).at_ (ints_get hkr)
        by_cases hxy : l.getD k 0 = r.getD k 0
        · have HN := Lib.hid (take_eq_succ HT.out hkl hkr hxy)
          rw [hxy] at hc
          clear hxy hkl hkr
          generalize r.getD k 0 = x at *
          have hdx : (x != x) = false := by simp
          go_wp2_with fail
          go_region
          go_wp2
          go_roundw
          case rel => exact ⟨k + 1, by omega, by go_num, HN.out, HB.out.drew⟩
          case measure => simp [intOf]; omega
        · have HN : Hid (decide (l = r) = false) := Lib.hid (decide_eq_false fun e => hxy (by rw [e]))
          have hdx : (l.getD k 0 != r.getD k 0) = true := by simpa using hxy
          clear hxy hkl hkr
          generalize r.getD k 0 = x at *
          generalize l.getD k 0 = y at *
          go_wp2_with fail
          go_region
          go_wp2
          go_ret
          exact ⟨by rw [HN.out]; rfl, HB.out.drew⟩
      · obtain rfl : k = n := by omega
        have HN : Hid (decide (l = r) = true) := Lib.hid (decide_eq_true (by
          have := HT.out
          rw [List.take_of_length_le (by rw [HL.out]; exact Nat.le_refl _), List.take_of_length_le (by rw [HR.out]; exact Nat.le_refl _)] at this
          exact this))
        go_wp2
        go_ret
        exact ⟨by rw [HN.out]; rfl, HB.out⟩
  · have HN : Hid (decide (l = r) = false) := Lib.hid (decide_eq_false fun e => hnm (by rw [← hl, ← hr, e]))
    have hdec : ((n : Int) != (m : Int)) = true := by simp; omega
    clear h1 h2 hl hr hnm
    go_enter Tryd.func44, Tryd.ntmps44
    go_wp2
    go_ret
    exact ⟨by rw [HN.out]; rfl, Below.refl _ _⟩

/-- Are two events the same? -/
def sameE (K T : Int) (l : List Int) (K' T' : Int) (r : List Int) : Bool := decide (K = K' ∧ T = T' ∧ l = r)
set_option maxHeartbeats 800000 in
theorem wsame_any (K T K' T' : Int) (A B : Option Addr) (n c m d : Nat) (l r : List Int) (w : World) (hl : l.length = n) (hr : r.length = m) (hn : n ≤ maxLen) (hm : m ≤ maxLen) (h1 : Lies w A (ints l)) (h2 : Lies w B (ints r)) :
    Calls Tryd.prog 29 #[ev K T A n c, ev K' T' B m d] w fun e w' => e = .returned (.bool (sameE K T l K' T' r)) ∧ Below w.heap.size w w' := by
  have T0 := two_new w #[.int .i64 K, .int .i64 T, .slice A n c] #[.int .i64 K', .int .i64 T', .slice B m d] 35 35
  have HB := Lib.hid T0.2.2
  have HE := Lib.hid (equal_any A B n c m d l r ((w.alloc (.cells #[.int .i64 K, .int .i64 T, .slice A n c] 35)).alloc (.cells #[.int .i64 K', .int .i64 T', .slice B m d] 35)) hl hr hn hm (h1.below T0.2.2) (h2.below T0.2.2))
  clear T0 hl hr hn hm h1 h2
  unfold ev
  by_cases hK : K = K'
  · by_cases hT : T = T'
    · subst hK
      subst hT
      have HN : Hid (sameE K T l K T r = decide (l = r)) := Lib.hid (by unfold sameE; simp)
      have d1 : (K == K) = true := by simp
      have d2 : (T == T) = true := by simp
      go_enter Tryd.func29, Tryd.ntmps29
      go_wp2_with fail
      refine HE.out.mono ?_
      rintro e w1 ⟨rfl, h1⟩
      have XB := Lib.hid (Below.step HB.out h1 (Nat.le_refl _))
      clear h1
      go_wp2
      go_ret
      exact ⟨by rw [HN.out]; rfl, XB.out⟩
    · have HN : Hid (sameE K T l K' T' r = false) := Lib.hid (decide_eq_false fun h => hT h.2.1)
      have d1 : (K == K') = true := by simpa using hK
      have d2 : (T == T') = false := by simpa using hT
      clear hK hT
      go_enter Tryd.func29, Tryd.ntmps29
      go_wp2
      go_ret
      exact ⟨by rw [HN.out]; rfl, HB.out⟩
  · have HN : Hid (sameE K T l K' T' r = false) := Lib.hid (decide_eq_false fun h => hK h.1)
    have d1 : (K == K') = false := by simpa using hK
    clear hK
    go_enter Tryd.func29, Tryd.ntmps29
    go_wp2
    go_ret
    exact ⟨by rw [HN.out]; rfl, HB.out⟩
end Go.Proofs.YtglhebpblncjaaaDoor
