/- Are two the same? The program's Same, by slices.Equal; the document's. -/
import Derived.Test.YtadgplpbkephiaaSpEq
namespace Go.Proofs.Ytadgplpbkephiaa
open Go.RowKit
set_option linter.unusedVariables false

theorem same_no1 {S T : List Sp} (h : S.length ≠ T.length) : decide (S = T) = false := decide_eq_false fun e => h (by rw [e])
theorem same_no2 {S T : List Sp} (j : Nat) (h : sameB (sp S j).1 (sp S j).2 (sp T j).1 (sp T j).2 = false) : decide (S = T) = false := decide_eq_false fun e => by
  subst e
  unfold sameB at h
  simp at h
theorem same_yes {S T : List Sp} (h : S.length = T.length) (hu : ∀ i, i < S.length → sameB (sp S i).1 (sp S i).2 (sp T i).1 (sp T i).2 = true) : decide (S = T) = true := decide_eq_true (List.ext_getElem h fun i h1 h2 => by
  have := hu i h1
  unfold sameB at this
  rw [sp_lt h1, sp_lt h2] at this
  simp at this
  exact Prod.ext this.1 this.2)
set_option maxHeartbeats 1000000 in
theorem equal_any {w : World} {A : Option Addr} {n c : Nat} {S : List Sp} (h : Sl w A n c S) {B : Option Addr} {m d : Nat} {T : List Sp} (k : Sl w B m d T) :
    Calls Try.prog 28 #[.slice A n c, .slice B m d] w fun e w' => e = .returned (.bool (decide (S = T))) ∧ Below w.heap.size w w' := by
  obtain ⟨t, ht⟩ : ∃ t, decide (S = T) = t := ⟨_, rfl⟩
  have HT := Lib.hid ht
  rw [ht]
  have hn := h.le
  have hm := h.max
  have kn := k.le
  have km := k.max
  unfold maxLen at hm km
  have HS := Lib.hid h
  have HK := Lib.hid k
  clear h ht k
  by_cases hnm : n = m
  · subst hnm
    go_enter Try.func28, Try.ntmps28
    go_wp2
    go_loopw [13] (fun iv wr => ∃ j : Nat, j ≤ n ∧ iv = .int .i64 j ∧ (∀ i, i < j → sameB (sp S i).1 (sp S i).2 (sp T i).1 (sp T i).2 = true) ∧ Below w.heap.size w wr) (fun iv _ => n - (intOf iv).toNat)
    case atStart => exact ⟨0, Nat.zero_le _, rfl, fun i hi => absurd hi (Nat.not_lt_zero _), Below.refl _ _⟩
    case round =>
      obtain ⟨j, hj, rfl, hno, hbel⟩ := hrel
      have HN := Lib.hid hno
      have HL := Lib.hid hbel
      by_cases hlt : j < n
      · obtain ⟨g, off, rfl, hg, c1, c2⟩ := (HS.out.below hbel).cel j hlt
        obtain ⟨g', off', rfl, hg', d1, d2⟩ := (HK.out.below hbel).cel j hlt
        obtain ⟨s, hs'⟩ : ∃ s, sameB (sp S j).1 (sp S j).2 (sp T j).1 (sp T j).2 = s := ⟨_, rfl⟩
        have HNX : Hid (s = true → ∀ i, i < j + 1 → sameB (sp S i).1 (sp S i).2 (sp T i).1 (sp T i).2 = true) := Lib.hid fun e i hi => by
          by_cases e1 : i = j
          · rw [e1, hs', e]
          · exact HN.out i (by omega)
        have HNO : Hid (s = false → t = false) := Lib.hid fun e => by rw [← HT.out]; exact same_no2 j (by rw [hs', e])
        clear hno hbel
        generalize (sp S j).1 = x at *
        generalize (sp S j).2 = y at *
        generalize (sp T j).1 = x' at *
        generalize (sp T j).2 = y' at *
        cases s with
        | true =>
          go_wp2_with fail
          go_region
          go_wp2
          go_roundw
          case rel => exact ⟨j + 1, by omega, by go_num, HNX.out (by trivial), HL.out.drew⟩
          case measure => simp [intOf]; omega
        | false =>
          go_wp2_with fail
          go_region
          go_wp2
          go_ret
          exact ⟨by rw [HNO.out (by trivial)]; rfl, HL.out.drew⟩
      · obtain rfl : j = n := by omega
        clear hno hbel
        go_wp2
        go_ret
        refine ⟨?_, HL.out⟩
        rw [← HT.out, same_yes (by rw [HS.out.len, HK.out.len]) (by rw [HS.out.len]; exact HN.out)]
        rfl
  · go_enter Try.func28, Try.ntmps28
    go_wp2
    go_ret
    refine ⟨?_, Below.refl _ _⟩
    rw [← HT.out, same_no1 (by rw [HS.out.len, HK.out.len]; exact hnm)]
    rfl
set_option maxHeartbeats 1000000 in
theorem same_any {w : World} {A : Option Addr} {n c : Nat} {S : List Sp} (h : Sl w A n c S) {B : Option Addr} {m d : Nat} {T : List Sp} (k : Sl w B m d T) :
    Calls Try.prog 22 #[.agg #[.slice A n c], .agg #[.slice B m d]] w fun e w' => e = .returned (.bool (decide (S = T))) ∧ Below w.heap.size w w' := by
  obtain ⟨t, ht⟩ : ∃ t, decide (S = T) = t := ⟨_, rfl⟩
  have hb1 : Below w.heap.size w (w.alloc (.cells #[.slice A n c] 24)) := (Below.refl _ _).alloc (Nat.le_refl _) _
  have hb2 : Below w.heap.size w ((w.alloc (.cells #[.slice A n c] 24)).alloc (.cells #[.slice B m d] 24)) := hb1.alloc hb1.size _
  have hx : Has (w.alloc (.cells #[.slice A n c] 24)) w.heap.size 24 #[.slice A n c] := heap_alloc_new w _
  have hx2 := hx.below ((Below.refl _ _).alloc (Nat.le_refl _) (.cells #[.slice B m d] 24)) hx.lt
  have hy : Has ((w.alloc (.cells #[.slice A n c] 24)).alloc (.cells #[.slice B m d] 24)) (w.alloc (.cells #[.slice A n c] 24)).heap.size 24 #[.slice B m d] := heap_alloc_new _ _
  have HX2 := Lib.hid hx2
  have HY := Lib.hid hy
  have HB2 := Lib.hid hb2
  have HE := Lib.hid (equal_any (h.below hb2) (k.below hb2))
  rw [ht] at HE ⊢
  clear h k ht hb1 hb2 hx hx2 hy
  go_enter Try.func22, Try.ntmps22
  go_wp2_with fail
  refine HE.out.mono ?_
  rintro e w1 ⟨rfl, b1⟩
  go_wp2
  go_ret
  exact ⟨rfl, HB2.out.trans (b1.mono HB2.out.size)⟩
set_option maxHeartbeats 1000000 in
theorem same19 {w : World} {A : Option Addr} {n c : Nat} {S : List Sp} (h : Sl w A n c S) {B : Option Addr} {m d : Nat} {T : List Sp} (k : Sl w B m d T) :
    Calls Try.prog 13 #[.agg #[.slice A n c], .agg #[.slice B m d]] w fun e w' => e = .returned (.bool (decide (S = T))) ∧ Below w.heap.size w w' := by
  obtain ⟨t, ht⟩ : ∃ t, decide (S = T) = t := ⟨_, rfl⟩
  have HT := Lib.hid ht
  rw [ht]
  have hn := h.le
  have hm := h.max
  have kn := k.le
  have km := k.max
  unfold maxLen at hm km
  have hb1 : Below w.heap.size w (w.alloc (.cells #[.slice A n c] 28)) := (Below.refl _ _).alloc (Nat.le_refl _) _
  have hb2 : Below w.heap.size w ((w.alloc (.cells #[.slice A n c] 28)).alloc (.cells #[.slice B m d] 28)) := hb1.alloc hb1.size _
  have hx : Has (w.alloc (.cells #[.slice A n c] 28)) w.heap.size 28 #[.slice A n c] := heap_alloc_new w _
  have hx2 := hx.below ((Below.refl _ _).alloc (Nat.le_refl _) (.cells #[.slice B m d] 28)) hx.lt
  have hy : Has ((w.alloc (.cells #[.slice A n c] 28)).alloc (.cells #[.slice B m d] 28)) (w.heap.size + 1) 28 #[.slice B m d] := by
    have := heap_alloc_new (w.alloc (.cells #[.slice A n c] 28)) (.cells #[.slice B m d] 28)
    simpa [Has] using this
  have HX2 := Lib.hid hx2
  have HY := Lib.hid hy
  have HB2 := Lib.hid hb2
  have HS := Lib.hid (h.below hb2)
  have HK := Lib.hid (k.below hb2)
  have HZ := Lib.hid (And.intro hx2.lt hy.lt)
  have x0 := hx2.cell 0
  have y0 := hy.cell 0
  generalize hw2 : (w.alloc (.cells #[.slice A n c] 28)).alloc (.cells #[.slice B m d] 28) = w2 at *
  clear h ht k hb1 hb2 hx hx2 hy
  by_cases hnm : n = m
  · subst hnm
    go_enter Try.func13, Try.ntmps13
    go_wp2
    clear x0 y0
    go_loopw [5] (fun iv wr => ∃ j : Nat, j ≤ n ∧ iv = .int .i64 j ∧ (∀ i, i < j → sameB (sp S i).1 (sp S i).2 (sp T i).1 (sp T i).2 = true) ∧ Below w2.heap.size w2 wr) (fun iv _ => n - (intOf iv).toNat)
    case atStart => exact ⟨0, Nat.zero_le _, rfl, fun i hi => absurd hi (Nat.not_lt_zero _), Below.refl _ _⟩
    case round =>
      obtain ⟨j, hj, rfl, hno, hbel⟩ := hrel
      have HN := Lib.hid hno
      have HL := Lib.hid hbel
      have x0 := (HX2.out.below hbel HZ.out.1).cell 0
      have y0 := (HY.out.below hbel HZ.out.2).cell 0
      by_cases hlt : j < n
      · obtain ⟨g, off, rfl, hg, c1, c2⟩ := (HS.out.below hbel).cel j hlt
        obtain ⟨g', off', rfl, hg', d1, d2⟩ := (HK.out.below hbel).cel j hlt
        obtain ⟨s, hs'⟩ : ∃ s, sameB (sp S j).1 (sp S j).2 (sp T j).1 (sp T j).2 = s := ⟨_, rfl⟩
        have HNX : Hid (s = true → ∀ i, i < j + 1 → sameB (sp S i).1 (sp S i).2 (sp T i).1 (sp T i).2 = true) := Lib.hid fun e i hi => by
          by_cases e1 : i = j
          · rw [e1, hs', e]
          · exact HN.out i (by omega)
        have HNO : Hid (s = false → t = false) := Lib.hid fun e => by rw [← HT.out]; exact same_no2 j (by rw [hs', e])
        clear hno hbel
        generalize (sp S j).1 = x at *
        generalize (sp S j).2 = y at *
        generalize (sp T j).1 = x' at *
        generalize (sp T j).2 = y' at *
        cases s with
        | true =>
          go_wp2_with fail
          go_region
          go_wp2
          go_roundw
          case rel => exact ⟨j + 1, by omega, by go_num, HNX.out (by trivial), HL.out.drew⟩
          case measure => simp [intOf]; omega
        | false =>
          go_wp2_with fail
          go_region
          go_wp2
          go_ret
          exact ⟨by rw [HNO.out (by trivial)]; rfl, (HB2.out.trans (HL.out.mono HB2.out.size)).drew⟩
      · obtain rfl : j = n := by omega
        clear hno hbel
        go_wp2
        go_ret
        refine ⟨?_, HB2.out.trans (HL.out.mono HB2.out.size)⟩
        rw [← HT.out, same_yes (by rw [HS.out.len, HK.out.len]) (by rw [HS.out.len]; exact HN.out)]
        rfl
  · go_enter Try.func13, Try.ntmps13
    go_wp2
    go_ret
    refine ⟨?_, HB2.out⟩
    rw [← HT.out, same_no1 (by rw [HS.out.len, HK.out.len]; exact hnm)]
    rfl
end Go.Proofs.Ytadgplpbkephiaa
