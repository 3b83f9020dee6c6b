/- Right ones: the program's Right, and the document's. -/
import Derived.Test.YtadgplpbkephiaaSpDef
namespace Go.Proofs.Ytadgplpbkephiaa
open Go.RowKit
set_option linter.unusedVariables false

/-- The first j are in order. -/
def Upto (S : List Sp) (j : Nat) : Prop := ∀ i, i < j → (sp S i).1 ≤ (sp S i).2 ∧ (0 < i → (sp S (i - 1)).2 < (sp S i).1)
theorem Upto.next {S : List Sp} {j : Nat} (h : Upto S j) (h1 : (sp S j).1 ≤ (sp S j).2) (h2 : 0 < j → (sp S (j - 1)).2 < (sp S j).1) : Upto S (j + 1) := fun i hi => by
  by_cases e : i = j
  · subst e; exact ⟨h1, h2⟩
  · exact h i (by omega)
theorem rgt_no1 {S : List Sp} (h : 4 < S.length) : decide (Rgt S) = false := decide_eq_false fun h1 => by have := h1.1; omega
theorem rgt_no2 {S : List Sp} (j : Nat) (hj : j < S.length) (h : ¬ ((sp S j).1 ≤ (sp S j).2 ∧ (0 < j → (sp S (j - 1)).2 < (sp S j).1))) : decide (Rgt S) = false := decide_eq_false fun h1 => h (h1.2 j hj)
theorem rgt_yes {S : List Sp} (h : S.length ≤ 4) (hu : Upto S S.length) : decide (Rgt S) = true := decide_eq_true ⟨h, hu⟩
set_option maxHeartbeats 1000000 in
theorem right_any {w : World} {A : Option Addr} {n c : Nat} {S : List Sp} (h : Sl w A n c S) :
    Calls Try.prog 20 #[.agg #[.slice A n c]] w fun e w' => e = .returned (.bool (decide (Rgt S))) ∧ Below w.heap.size w w' := by
  obtain ⟨t, ht⟩ : ∃ t, decide (Rgt S) = t := ⟨_, rfl⟩
  have HT := Lib.hid ht
  rw [ht]
  have hn := h.le
  have hm := h.max
  unfold maxLen at hm
  have HB : Hid (Below w.heap.size w (w.alloc (.cells #[.slice A n c] 24))) := Lib.hid ((Below.refl _ _).alloc (Nat.le_refl _) _)
  have HS := Lib.hid (h.below HB.out)
  have HX : Has (w.alloc (.cells #[.slice A n c] 24)) w.heap.size 24 #[.slice A n c] := heap_alloc_new w _
  have HXX := Lib.hid HX
  have HZ : Hid (w.heap.size < (w.alloc (.cells #[.slice A n c] 24)).heap.size) := Lib.hid HX.lt
  have x0 := HX.cell 0
  generalize hw1 : w.alloc (.cells #[.slice A n c] 24) = w1 at *
  clear h ht HX
  by_cases hbig : 4 < n
  · go_enter Try.func20, Try.ntmps20
    go_wp2
    go_ret
    refine ⟨?_, HB.out⟩
    rw [← HT.out, rgt_no1 (by rw [HS.out.len]; exact hbig)]
    rfl
  have hn4 : n ≤ 4 := by omega
  clear hbig
  go_enter Try.func20, Try.ntmps20
  go_wp2
  clear x0
  go_loopw [12] (fun iv wr => ∃ j : Nat, j ≤ n ∧ iv = .int .i64 j ∧ Upto S j ∧ Below w1.heap.size w1 wr) (fun iv _ => n - (intOf iv).toNat)
  case atStart => exact ⟨0, Nat.zero_le _, rfl, fun i hi => absurd hi (Nat.not_lt_zero _), Below.refl _ _⟩
  case round =>
    obtain ⟨j, hj, rfl, hno, hbel⟩ := hrel
    have HN := Lib.hid hno
    have HL1 := Lib.hid hbel
    have HL := Lib.hid (HB.out.trans (hbel.mono HB.out.size))
    have x0 := (HXX.out.below hbel HZ.out).cell 0
    have hwz : w.heap.size < wr.heap.size := Nat.lt_of_lt_of_le HZ.out hbel.size
    by_cases hlt : j < n
    · obtain ⟨g, off, rfl, hg, hcc⟩ := (HS.out.below hbel).all (by omega)
      obtain ⟨c1, c2⟩ := hcc j hlt
      have HJ := Lib.hid (show j < S.length by rw [HS.out.len]; exact hlt)
      have HUP : Hid ((sp S j).1 ≤ (sp S j).2 → (0 < j → (sp S (j - 1)).2 < (sp S j).1) → Upto S (j + 1)) := Lib.hid fun h1 h2 => hno.next h1 h2
      have HNO : Hid (¬ ((sp S j).1 ≤ (sp S j).2 ∧ (0 < j → (sp S (j - 1)).2 < (sp S j).1)) → t = false) := Lib.hid fun h1 => by rw [← HT.out]; exact rgt_no2 j HJ.out h1
      clear hno hbel
      by_cases h0 : 0 < j
      · obtain ⟨k, hk⟩ : ∃ k, k + 1 = j := ⟨j - 1, by omega⟩
        have hkj : j - 1 = k := by omega
        rw [hkj] at HUP HNO
        obtain ⟨-, c3⟩ := hcc k (by omega)
        clear hcc
        generalize hx : (sp S j).1 = x at *
        generalize hy : (sp S j).2 = y at *
        generalize hz : (sp S k).2 = z at *
        clear hx hy hz
        have w1' : IntKind.i64.wrap ((j : Int) - 1) = (k : Int) := by rw [IntWalk.i64_in _ (by omega)]; omega
        have w2' : (j : Int) - 1 = (k : Int) := by omega
        have h0' : decide ((0 : Int) < (j : Int)) = true := decide_eq_true (by omega)
        by_cases h1 : y < x
        · have ht := HNO.out (fun h => by omega)
          have d1 : decide (y < x) = true := decide_eq_true h1
          have HTF := Lib.hid ht
          clear ht hk hkj
          go_wp2_with fail
          go_quiet (fail)
          go_wp2
          go_ret
          exact ⟨by rw [HTF.out]; rfl, below_drewN (HL.out.alloc HL.out.size _) _⟩
        · have d1 : decide (y < x) = false := decide_eq_false h1
          by_cases h2 : x ≤ z
          · have ht := HNO.out (fun h => by have := h.2 h0; omega)
            have HTF := Lib.hid ht
            clear ht hk hkj
            go_wp2_with fail
            go_quiet (fail)
            go_wp2
            go_ret
            exact ⟨by rw [HTF.out]; rfl, below_drewN (HL.out.alloc HL.out.size _) _⟩
          · have HUQ := Lib.hid (HUP.out (by omega) (fun _ => by omega))
            clear hk hkj
            go_wp2_with fail
            go_quiet (fail)
            go_wp2
            go_roundw
            case rel => exact ⟨j + 1, by omega, by go_num, HUQ.out, below_drewN (HL1.out.alloc HL1.out.size _) _⟩
            case measure => simp [intOf]; omega
      · clear hcc
        generalize hx : (sp S j).1 = x at *
        generalize hy : (sp S j).2 = y at *
        clear hx hy
        have h0' : decide ((0 : Int) < (j : Int)) = false := decide_eq_false (by omega)
        by_cases h1 : y < x
        · have ht := HNO.out (fun h => by omega)
          have d1 : decide (y < x) = true := decide_eq_true h1
          have HTF := Lib.hid ht
          clear ht
          go_wp2_with fail
          go_quiet (fail)
          go_wp2
          go_ret
          exact ⟨by rw [HTF.out]; rfl, below_drewN (HL.out.alloc HL.out.size _) _⟩
        · have HUQ := Lib.hid (HUP.out (by omega) (fun h => absurd h h0))
          have d1 : decide (y < x) = false := decide_eq_false h1
          go_wp2_with fail
          go_quiet (fail)
          go_wp2
          go_roundw
          case rel => exact ⟨j + 1, by omega, by go_num, HUQ.out, below_drewN (HL1.out.alloc HL1.out.size _) _⟩
          case measure => simp [intOf]; omega
    · obtain rfl : j = n := by omega
      clear hno hbel
      go_wp2
      go_ret
      refine ⟨?_, HL.out⟩
      have hl := HS.out.len
      rw [← HT.out, rgt_yes (by omega) (by rw [hl]; exact HN.out)]
      rfl
set_option maxHeartbeats 1000000 in
theorem right19 {w : World} {A : Option Addr} {n c : Nat} {S : List Sp} (h : Sl w A n c S) :
    Calls Try.prog 21 #[.agg #[.slice A n c]] w fun e w' => e = .returned (.bool (decide (Rgt S))) ∧ Below w.heap.size w w' := by
  obtain ⟨t, ht⟩ : ∃ t, decide (Rgt S) = t := ⟨_, rfl⟩
  have HT := Lib.hid ht
  rw [ht]
  have hn := h.le
  have hm := h.max
  unfold maxLen at hm
  have HB : Hid (Below w.heap.size w (w.alloc (.cells #[.slice A n c] 28))) := Lib.hid ((Below.refl _ _).alloc (Nat.le_refl _) _)
  have HS := Lib.hid (h.below HB.out)
  have HX : Has (w.alloc (.cells #[.slice A n c] 28)) w.heap.size 28 #[.slice A n c] := heap_alloc_new w _
  have HXX := Lib.hid HX
  have HZ : Hid (w.heap.size < (w.alloc (.cells #[.slice A n c] 28)).heap.size) := Lib.hid HX.lt
  generalize hw1 : w.alloc (.cells #[.slice A n c] 28) = w1 at *
  clear h ht HX
  go_enter Try.func21, Try.ntmps21
  go_wp2
  go_loopw [3] (fun iv wr => ∃ j : Nat, j ≤ n ∧ iv = .int .i64 j ∧ Upto S j ∧ Below w1.heap.size w1 wr) (fun iv _ => n - (intOf iv).toNat)
  case atStart => exact ⟨0, Nat.zero_le _, rfl, fun i hi => absurd hi (Nat.not_lt_zero _), Below.refl _ _⟩
  case round =>
    obtain ⟨j, hj, rfl, hno, hbel⟩ := hrel
    have HN := Lib.hid hno
    have HL1 := Lib.hid hbel
    have HL := Lib.hid (HB.out.trans (hbel.mono HB.out.size))
    have x0 := (HXX.out.below hbel HZ.out).cell 0
    by_cases hlt : j < n
    · obtain ⟨g, off, rfl, hg, hcc⟩ := (HS.out.below hbel).all (by omega)
      obtain ⟨c1, c2⟩ := hcc j hlt
      have HJ := Lib.hid (show j < S.length by rw [HS.out.len]; exact hlt)
      have HUP : Hid ((sp S j).1 ≤ (sp S j).2 → (0 < j → (sp S (j - 1)).2 < (sp S j).1) → Upto S (j + 1)) := Lib.hid fun h1 h2 => hno.next h1 h2
      have HNO : Hid (¬ ((sp S j).1 ≤ (sp S j).2 ∧ (0 < j → (sp S (j - 1)).2 < (sp S j).1)) → t = false) := Lib.hid fun h1 => by rw [← HT.out]; exact rgt_no2 j HJ.out h1
      clear hno hbel
      by_cases h0 : 0 < j
      · obtain ⟨k, hk⟩ : ∃ k, k + 1 = j := ⟨j - 1, by omega⟩
        have hkj : j - 1 = k := by omega
        rw [hkj] at HUP HNO
        obtain ⟨-, c3⟩ := hcc k (by omega)
        clear hcc
        generalize hx : (sp S j).1 = x at *
        generalize hy : (sp S j).2 = y at *
        generalize hz : (sp S k).2 = z at *
        clear hx hy hz
        have w1' : IntKind.i64.wrap ((j : Int) - 1) = (k : Int) := by rw [IntWalk.i64_in _ (by omega)]; omega
        have w2' : (j : Int) - 1 = (k : Int) := by omega
        have h0' : decide ((0 : Int) < (j : Int)) = true := decide_eq_true (by omega)
        by_cases h1 : y < x
        · have ht := HNO.out (fun h => by omega)
          have d1 : decide (y < x) = true := decide_eq_true h1
          have HTF := Lib.hid ht
          clear ht hk hkj
          go_wp2_with fail
          go_quiet (fail)
          go_wp2
          go_ret
          exact ⟨by rw [HTF.out]; rfl, below_drewN HL.out _⟩
        · have d1 : decide (y < x) = false := decide_eq_false h1
          by_cases h2 : x ≤ z
          · have ht := HNO.out (fun h => by have := h.2 h0; omega)
            have HTF := Lib.hid ht
            clear ht hk hkj
            go_wp2_with fail
            go_quiet (fail)
            go_wp2
            go_ret
            exact ⟨by rw [HTF.out]; rfl, below_drewN HL.out _⟩
          · have HUQ := Lib.hid (HUP.out (by omega) (fun _ => by omega))
            clear hk hkj
            go_wp2_with fail
            go_quiet (fail)
            go_wp2
            go_roundw
            case rel => exact ⟨j + 1, by omega, by go_num, HUQ.out, below_drewN HL1.out _⟩
            case measure => simp [intOf]; omega
      · clear hcc
        generalize hx : (sp S j).1 = x at *
        generalize hy : (sp S j).2 = y at *
        clear hx hy
        have h0' : decide ((0 : Int) < (j : Int)) = false := decide_eq_false (by omega)
        by_cases h1 : y < x
        · have ht := HNO.out (fun h => by omega)
          have d1 : decide (y < x) = true := decide_eq_true h1
          have HTF := Lib.hid ht
          clear ht
          go_wp2_with fail
          go_quiet (fail)
          go_wp2
          go_ret
          exact ⟨by rw [HTF.out]; rfl, below_drewN HL.out _⟩
        · have HUQ := Lib.hid (HUP.out (by omega) (fun h => absurd h h0))
          have d1 : decide (y < x) = false := decide_eq_false h1
          go_wp2_with fail
          go_quiet (fail)
          go_wp2
          go_roundw
          case rel => exact ⟨j + 1, by omega, by go_num, HUQ.out, below_drewN HL1.out _⟩
          case measure => simp [intOf]; omega
    · obtain rfl : j = n := by omega
      clear hno hbel
      have hl := HS.out.len
      by_cases hbig : 4 < j
      · go_wp2
        go_ret
        refine ⟨?_, HL.out⟩
        rw [← HT.out, rgt_no1 (by omega)]
        simp; omega
      · go_wp2
        go_ret
        refine ⟨?_, HL.out⟩
        rw [← HT.out, rgt_yes (by omega) (by rw [hl]; exact HN.out)]
        simp; omega
end Go.Proofs.Ytadgplpbkephiaa
