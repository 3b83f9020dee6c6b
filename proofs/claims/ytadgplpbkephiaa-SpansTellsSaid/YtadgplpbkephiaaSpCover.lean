/- What intervals have: the document's Has; Cover, the program's and the document's. -/
import Derived.Test.YtadgplpbkephiaaSpMeets
namespace Go.Proofs.Ytadgplpbkephiaa
open Go.RowKit
set_option linter.unusedVariables false

/-- A slice of numbers: what lies in it. -/
structure Li (w : World) (A : Option Addr) (n c : Nat) (l : List Int) : Prop where
  len : l.length = n
  lies : Lies w A (l.map (Value.int .i64))
  le : n ≤ c
  max : c ≤ maxLen
theorem Li.below {w w' : World} {A : Option Addr} {n c : Nat} {l : List Int} (h : Li w A n c l) (hb : Below w.heap.size w w') : Li w' A n c l := ⟨h.len, h.lies.below hb, h.le, h.max⟩
theorem Li.cel {w : World} {A : Option Addr} {n c : Nat} {l : List Int} (h : Li w A n c l) (i : Nat) (hi : i < n) :
    ∃ b off x, A = some ⟨b, off, none⟩ ∧ w.cell? ⟨b, off + i, none⟩ = some (.int .i64 x) ∧ l[i]? = some x := by
  have hl : i < l.length := by have := h.len; omega
  obtain ⟨b, off, e, hc⟩ := h.lies.at_ (i := i) (u := .int .i64 l[i]) (by simp [List.getElem?_map, List.getElem?_eq_getElem hl])
  exact ⟨b, off, _, e, hc, List.getElem?_eq_getElem hl⟩
set_option maxHeartbeats 2000000 in
theorem has19 {w : World} {A : Option Addr} {n c : Nat} {S : List Sp} (h : Sl w A n c S) (a : Int) :
    Calls Try.prog 15 #[.agg #[.slice A n c], .int .i64 a] w fun e w' => e = .returned (.bool (hs S a)) ∧ Below w.heap.size w w' := by
  obtain ⟨t, ht⟩ : ∃ t, hs S a = t := ⟨_, rfl⟩
  have HT := Lib.hid ht
  rw [ht]
  have hn := h.le
  have hm := h.max
  unfold maxLen at hm
  have HB : Hid (Below w.heap.size w (w.alloc (.cells #[.slice A n c] 28))) := Lib.hid ((Below.refl _ _).alloc (Nat.le_refl _) _)
  have HS := Lib.hid (h.below HB.out)
  have HX : Has (w.alloc (.cells #[.slice A n c] 28)) w.heap.size 28 #[.slice A n c] := heap_alloc_new w _
  have x0 := HX.cell 0
  generalize hw1 : w.alloc (.cells #[.slice A n c] 28) = w1 at *
  clear h ht HX
  go_enter Try.func15, Try.ntmps15
  go_wp2
  go_loop [5] (fun iv => ∃ j : Nat, j ≤ n ∧ iv = .int .i64 j ∧ (∀ i, i < j → ¬ ((sp S i).1 ≤ a ∧ a ≤ (sp S i).2))) (fun iv => n - (intOf iv).toNat)
  case atStart => exact ⟨0, Nat.zero_le _, rfl, fun i hi => absurd hi (Nat.not_lt_zero _)⟩
  case round =>
    obtain ⟨j, hj, rfl, hno⟩ := hrel
    have HN := Lib.hid hno
    by_cases hlt : j < n
    · obtain ⟨g, off, rfl, hg, c1, c2⟩ := HS.out.cel j hlt
      generalize hx : (sp S j).1 = x at *
      generalize hy : (sp S j).2 = y at *
      have HXY := Lib.hid (And.intro hx hy)
      clear hno hx hy
      have hnext : ¬ (x ≤ a ∧ a ≤ y) → ∀ i, i < j + 1 → ¬ ((sp S i).1 ≤ a ∧ a ≤ (sp S i).2) := fun h i hi => by
        by_cases e : i = j
        · rw [e, HXY.out.1, HXY.out.2]; exact h
        · exact HN.out i (by omega)
      have HNX := Lib.hid hnext
      clear hnext
      by_cases h1 : x ≤ a
      · by_cases h2 : a ≤ y
        · go_wp2
          go_ret
          refine ⟨?_, HB.out⟩
          rw [← HT.out, hs_at j (by rw [HS.out.len]; exact hlt) (by rw [HXY.out.1]; exact h1) (by rw [HXY.out.2]; exact h2)]
          rfl
        · have hf := HNX.out (fun h => h2 h.2)
          have HF := Lib.hid hf
          clear hf
          go_wp2
          go_round
          case rel => exact ⟨j + 1, by omega, by go_num, HF.out⟩
          case measure => simp [intOf]; omega
      · have hf := HNX.out (fun h => h1 h.1)
        have HF := Lib.hid hf
        clear hf
        go_wp2
        go_round
        case rel => exact ⟨j + 1, by omega, by go_num, HF.out⟩
        case measure => simp [intOf]; omega
    · obtain rfl : j = n := by omega
      clear hno
      go_wp2
      go_ret
      refine ⟨?_, HB.out⟩
      rw [← HT.out, hs_none fun i hi => HN.out i (by rw [← HS.out.len]; exact hi)]
      rfl
set_option maxHeartbeats 2000000 in
theorem cover_any {w : World} {A : Option Addr} {n c : Nat} {S : List Sp} (h : Sl w A n c S) {L : Option Addr} {m d : Nat} {l : List Int} (hl : Li w L m d l) :
    Calls Try.prog 18 #[.agg #[.slice A n c], .slice L m d] w fun e w' => e = .returned (.bool (cov S l)) ∧ Below w.heap.size w w' := by
  obtain ⟨t, ht⟩ : ∃ t, cov S l = t := ⟨_, rfl⟩
  have HT := Lib.hid ht
  rw [ht]
  have hn := hl.le
  have hm := hl.max
  unfold maxLen at hm
  have HB : Hid (Below w.heap.size w (w.alloc (.cells #[.slice A n c] 24))) := Lib.hid ((Below.refl _ _).alloc (Nat.le_refl _) _)
  have HS := Lib.hid (h.below HB.out)
  have HI := Lib.hid (hl.below HB.out)
  have HX : Has (w.alloc (.cells #[.slice A n c] 24)) w.heap.size 24 #[.slice A n c] := heap_alloc_new w _
  have HXX := Lib.hid HX
  have HZ : Hid (w.heap.size < (w.alloc (.cells #[.slice A n c] 24)).heap.size) := Lib.hid HX.lt
  generalize hw1 : w.alloc (.cells #[.slice A n c] 24) = w1 at *
  clear h ht HX hl
  go_enter Try.func18, Try.ntmps18
  go_wp2
  go_loopw [9] (fun iv wr => ∃ j : Nat, j ≤ m ∧ iv = .int .i64 j ∧ (∀ (i : Nat) (x : Int), i < j → l[i]? = some x → hs S x = true) ∧ Below w1.heap.size w1 wr) (fun iv _ => m - (intOf iv).toNat)
  case atStart => exact ⟨0, Nat.zero_le _, rfl, fun i x hi => absurd hi (Nat.not_lt_zero _), Below.refl _ _⟩
  case round =>
    obtain ⟨j, hj, rfl, hno, hbel⟩ := hrel
    have HN := Lib.hid hno
    have HL1 := Lib.hid hbel
    have x0 := (HXX.out.below hbel HZ.out).cell 0
    have HSR := Lib.hid (HS.out.below hbel)
    by_cases hlt : j < m
    · obtain ⟨g, off, x, rfl, c1, hx⟩ := (HI.out.below hbel).cel j hlt
      have HC := Lib.hid (has_any HSR.out x)
      obtain ⟨s, hs'⟩ : ∃ s, hs S x = s := ⟨_, rfl⟩
      rw [hs'] at HC
      have HSX := Lib.hid (And.intro hx hs')
      clear hno hbel hx hs'
      cases s with
      | true =>
        go_wp2_with fail
        refine HC.out.mono ?_
        rintro e w2 ⟨rfl, b2⟩
        have HB2 := Lib.hid b2
        clear b2
        go_wp2
        go_roundw
        case rel =>
          refine ⟨j + 1, by omega, by go_num, fun i y hi hy => ?_, HL1.out.trans (HB2.out.mono HL1.out.size)⟩
          by_cases e : i = j
          · rw [e, HSX.out.1] at hy
            cases hy
            exact HSX.out.2
          · exact HN.out i y (by omega) hy
        case measure => simp [intOf]; omega
      | false =>
        go_wp2_with fail
        refine HC.out.mono ?_
        rintro e w2 ⟨rfl, b2⟩
        have HB2 := Lib.hid b2
        clear b2
        go_wp2
        go_ret
        refine ⟨?_, HB.out.trans ((HL1.out.trans (HB2.out.mono HL1.out.size)).mono HB.out.size)⟩
        rw [← HT.out, cov_no j x HSX.out.1 HSX.out.2]
        rfl
    · obtain rfl : j = m := by omega
      clear hno hbel
      go_wp2
      go_ret
      refine ⟨?_, HB.out.trans (HL1.out.mono HB.out.size)⟩
      rw [← HT.out, cov_at fun i x hx => HN.out i x (by
        have := HI.out.len
        rcases Nat.lt_or_ge i l.length with h1 | h1
        · omega
        · rw [List.getElem?_eq_none h1] at hx; cases hx) hx]
      rfl
set_option maxHeartbeats 2000000 in
theorem cover19 {w : World} {A : Option Addr} {n c : Nat} {S : List Sp} (h : Sl w A n c S) {L : Option Addr} {m d : Nat} {l : List Int} (hl : Li w L m d l) :
    Calls Try.prog 19 #[.agg #[.slice A n c], .slice L m d] w fun e w' => e = .returned (.bool (cov S l)) ∧ Below w.heap.size w w' := by
  obtain ⟨t, ht⟩ : ∃ t, cov S l = t := ⟨_, rfl⟩
  have HT := Lib.hid ht
  rw [ht]
  have hn := hl.le
  have hm := hl.max
  unfold maxLen at hm
  have HB : Hid (Below w.heap.size w (w.alloc (.cells #[.slice A n c] 28))) := Lib.hid ((Below.refl _ _).alloc (Nat.le_refl _) _)
  have HS := Lib.hid (h.below HB.out)
  have HI := Lib.hid (hl.below HB.out)
  have HX : Has (w.alloc (.cells #[.slice A n c] 28)) w.heap.size 28 #[.slice A n c] := heap_alloc_new w _
  have HXX := Lib.hid HX
  have HZ : Hid (w.heap.size < (w.alloc (.cells #[.slice A n c] 28)).heap.size) := Lib.hid HX.lt
  generalize hw1 : w.alloc (.cells #[.slice A n c] 28) = w1 at *
  clear h ht HX hl
  go_enter Try.func19, Try.ntmps19
  go_wp2
  go_loopw [5] (fun iv wr => ∃ j : Nat, j ≤ m ∧ iv = .int .i64 j ∧ (∀ (i : Nat) (x : Int), i < j → l[i]? = some x → hs S x = true) ∧ Below w1.heap.size w1 wr) (fun iv _ => m - (intOf iv).toNat)
  case atStart => exact ⟨0, Nat.zero_le _, rfl, fun i x hi => absurd hi (Nat.not_lt_zero _), Below.refl _ _⟩
  case round =>
    obtain ⟨j, hj, rfl, hno, hbel⟩ := hrel
    have HN := Lib.hid hno
    have HL1 := Lib.hid hbel
    have x0 := (HXX.out.below hbel HZ.out).cell 0
    have HSR := Lib.hid (HS.out.below hbel)
    by_cases hlt : j < m
    · obtain ⟨g, off, x, rfl, c1, hx⟩ := (HI.out.below hbel).cel j hlt
      have HC := Lib.hid (has19 HSR.out.drew x)
      obtain ⟨s, hs'⟩ : ∃ s, hs S x = s := ⟨_, rfl⟩
      rw [hs'] at HC
      have HSX := Lib.hid (And.intro hx hs')
      clear hno hbel hx hs'
      cases s with
      | true =>
        go_wp2_with fail
        go_region_law (go_simp; go_at_call 15; refine HC.out.mono ?_; rintro e w2 ⟨rfl, b2⟩)
        all_goals
          have HB2 := Lib.hid b2
          clear b2
          go_wp2
          go_roundw
          case rel =>
            refine ⟨j + 1, by omega, by go_num, fun i y hi hy => ?_, HL1.out.drew.trans (HB2.out.mono HL1.out.size)⟩
            by_cases e : i = j
            · rw [e, HSX.out.1] at hy
              cases hy
              exact HSX.out.2
            · exact HN.out i y (by omega) hy
          case measure => simp [intOf]; omega
      | false =>
        go_wp2_with fail
        go_region_law (go_simp; go_at_call 15; refine HC.out.mono ?_; rintro e w2 ⟨rfl, b2⟩)
        all_goals
          have HB2 := Lib.hid b2
          clear b2
          go_wp2
          go_ret
          refine ⟨?_, HB.out.trans ((HL1.out.drew.trans (HB2.out.mono HL1.out.size)).mono HB.out.size)⟩
          rw [← HT.out, cov_no j x HSX.out.1 HSX.out.2]
          rfl
    · obtain rfl : j = m := by omega
      clear hno hbel
      go_wp2
      go_ret
      refine ⟨?_, HB.out.trans (HL1.out.mono HB.out.size)⟩
      rw [← HT.out, cov_at fun i x hx => HN.out i x (by
        have := HI.out.len
        rcases Nat.lt_or_ge i l.length with h1 | h1
        · omega
        · rw [List.getElem?_eq_none h1] at hx; cases hx) hx]
      rfl
end Go.Proofs.Ytadgplpbkephiaa
