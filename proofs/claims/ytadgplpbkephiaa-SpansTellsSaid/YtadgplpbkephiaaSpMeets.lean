/- What intervals have, and meet: the program's calls. -/
import Derived.Test.YtadgplpbkephiaaSpDef
namespace Go.Proofs.Ytadgplpbkephiaa
open Go.RowKit
set_option linter.unusedVariables false

set_option maxHeartbeats 2000000 in
theorem meets_any {w : World} {A : Option Addr} {n c : Nat} {S : List Sp} (h : Sl w A n c S) (a b : Int) :
    Calls Try.prog 16 #[.agg #[.slice A n c], .int .i64 a, .int .i64 b] w fun e w' => e = .returned (.bool (mts S a b)) ∧ Below w.heap.size w w' := by
  obtain ⟨t, ht⟩ : ∃ t, mts S a b = t := ⟨_, rfl⟩
  have HT := Lib.hid ht
  rw [ht]
  have hn := h.le
  have hm := h.max
  unfold maxLen at hm
  have HS := Lib.hid h
  have HB : Hid (Below w.heap.size w (w.alloc (.cells #[.slice A n c] 24))) := Lib.hid ((Below.refl _ _).alloc (Nat.le_refl _) _)
  have HX : Hid (Has (w.alloc (.cells #[.slice A n c] 24)) w.heap.size 24 #[.slice A n c]) := Lib.hid (heap_alloc_new w _)
  clear h ht
  go_enter Try.func16, Try.ntmps16
  go_wp2
  go_loopw [12] (fun iv wr => ∃ j : Nat, j ≤ n ∧ iv = .int .i64 j ∧ (∀ i, i < j → ¬ max a (sp S i).1 ≤ min b (sp S i).2) ∧ Below w.heap.size w wr) (fun iv _ => n - (intOf iv).toNat)
  case atStart => exact ⟨0, Nat.zero_le _, rfl, fun i hi => absurd hi (Nat.not_lt_zero _), HB.out⟩
  case round =>
    obtain ⟨j, hj, rfl, hno, hbel⟩ := hrel
    have HN := Lib.hid hno
    have HL := Lib.hid hbel
    by_cases hlt : j < n
    · obtain ⟨g, off, rfl, hg, c1, c2⟩ := (HS.out.below hbel).cel j hlt
      generalize hx : (sp S j).1 = x at *
      generalize hy : (sp S j).2 = y at *
      have HXY := Lib.hid (And.intro hx hy)
      clear hno hbel hx hy
      obtain ⟨p, hp⟩ : ∃ p, max a x = p := ⟨_, rfl⟩
      obtain ⟨q, hq⟩ : ∃ q, min b y = q := ⟨_, rfl⟩
      by_cases hpq : p ≤ q
      · go_wp2
        go_ret
        refine ⟨?_, HL.out.alloc HL.out.size _⟩
        rw [← HT.out, mts_at j (by rw [HS.out.len]; exact hlt) (by rw [HXY.out.1, HXY.out.2]; omega)]
        rfl
      · go_wp2
        go_roundw
        case rel =>
          refine ⟨j + 1, by omega, by go_num, fun i hi => ?_, HL.out.alloc HL.out.size _⟩
          by_cases e : i = j
          · rw [e, HXY.out.1, HXY.out.2]; omega
          · have := HN.out i (by omega); omega
        case measure => simp [intOf]; omega
    · obtain rfl : j = n := by omega
      clear hno hbel
      go_wp2
      go_ret
      refine ⟨?_, HL.out⟩
      rw [← HT.out, mts_none fun i hi => by have := HN.out i (by rw [← HS.out.len]; exact hi); omega]
      rfl
set_option maxHeartbeats 1000000 in
theorem has_any {w : World} {A : Option Addr} {n c : Nat} {S : List Sp} (h : Sl w A n c S) (a : Int) :
    Calls Try.prog 14 #[.agg #[.slice A n c], .int .i64 a] w fun e w' => e = .returned (.bool (hs S a)) ∧ Below w.heap.size w w' := by
  have HB : Hid (Below w.heap.size w (w.alloc (.cells #[.slice A n c] 24))) := Lib.hid ((Below.refl _ _).alloc (Nat.le_refl _) _)
  have HX : Hid (Has (w.alloc (.cells #[.slice A n c] 24)) w.heap.size 24 #[.slice A n c]) := Lib.hid (heap_alloc_new w _)
  have HM := Lib.hid (meets_any (h.below HB.out) a a)
  obtain ⟨t, ht⟩ : ∃ t, mts S a a = t := ⟨_, rfl⟩
  rw [show hs S a = t from ht]
  rw [ht] at HM
  clear ht h
  go_enter Try.func14, Try.ntmps14
  go_wp2_with fail
  refine HM.out.mono ?_
  rintro e w1 ⟨rfl, b1⟩
  go_wp2
  go_ret
  exact ⟨rfl, HB.out.trans (b1.mono HB.out.size)⟩
set_option maxHeartbeats 2000000 in
theorem meets19 {w : World} {A : Option Addr} {n c : Nat} {S : List Sp} (h : Sl w A n c S) (a b : Int) :
    Calls Try.prog 17 #[.agg #[.slice A n c], .int .i64 a, .int .i64 b] w fun e w' => e = .returned (.bool (mts S a b)) ∧ Below w.heap.size w w' := by
  obtain ⟨t, ht⟩ : ∃ t, mts S a b = t := ⟨_, rfl⟩
  have HT := Lib.hid ht
  rw [ht]
  have hn := h.le
  have hm := h.max
  unfold maxLen at hm
  have HB : Hid (Below w.heap.size w (w.alloc (.cells #[.slice A n c] 28))) := Lib.hid ((Below.refl _ _).alloc (Nat.le_refl _) _)
  have HS := Lib.hid (h.below HB.out)
  have HX : Has (w.alloc (.cells #[.slice A n c] 28)) w.heap.size 28 #[.slice A n c] := heap_alloc_new w _
  have HXX := Lib.hid HX
  have HZ : Hid (w.heap.size < (w.alloc (.cells #[.slice A n c] 28)).heap.size) := Lib.hid HX.lt
  generalize hw1 : w.alloc (.cells #[.slice A n c] 28) = w1 at *
  clear h ht HX
  go_enter Try.func17, Try.ntmps17
  go_wp2
  go_loopw [7] (fun iv wr => ∃ j : Nat, j ≤ n ∧ iv = .int .i64 j ∧ (∀ i, i < j → ¬ max a (sp S i).1 ≤ min b (sp S i).2) ∧ Below w1.heap.size w1 wr) (fun iv _ => n - (intOf iv).toNat)
  case atStart => exact ⟨0, Nat.zero_le _, rfl, fun i hi => absurd hi (Nat.not_lt_zero _), Below.refl _ _⟩
  case round =>
    obtain ⟨j, hj, rfl, hno, hbel⟩ := hrel
    have HN := Lib.hid hno
    have HL := Lib.hid (HB.out.trans (hbel.mono HB.out.size))
    have HL1 := Lib.hid hbel
    have x0 := (HXX.out.below hbel HZ.out).cell 0
    by_cases hlt : j < n
    · obtain ⟨g, off, rfl, hg, c1, c2⟩ := (HS.out.below hbel).cel j hlt
      generalize hx : (sp S j).1 = x at *
      generalize hy : (sp S j).2 = y at *
      have HXY := Lib.hid (And.intro hx hy)
      clear hno hbel hx hy
      obtain ⟨p, hp⟩ : ∃ p, max x a = p := ⟨_, rfl⟩
      obtain ⟨q, hq⟩ : ∃ q, min y b = q := ⟨_, rfl⟩
      by_cases hpq : p ≤ q
      · go_wp2_with fail
        go_region
        go_wp2
        go_ret
        refine ⟨?_, HL.out.drew⟩
        rw [← HT.out, mts_at j (by rw [HS.out.len]; exact hlt) (by rw [HXY.out.1, HXY.out.2]; omega)]
        rfl
      · go_wp2_with fail
        go_region
        go_wp2
        go_roundw
        case rel =>
          refine ⟨j + 1, by omega, by go_num, fun i hi => ?_, HL1.out.drew⟩
          by_cases e : i = j
          · rw [e, HXY.out.1, HXY.out.2]; omega
          · have := HN.out i (by omega); omega
        case measure => simp [intOf]; omega
    · obtain rfl : j = n := by omega
      clear hno hbel
      go_wp2
      go_ret
      refine ⟨?_, HL.out⟩
      rw [← HT.out, mts_none fun i hi => by have := HN.out i (by rw [← HS.out.len]; exact hi); omega]
      rfl
end Go.Proofs.Ytadgplpbkephiaa
