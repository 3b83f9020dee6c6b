/- Small functions of the law: near, has, ref. -/
import Derived.Test.YtadgplpbkephiaaSpCover
namespace Go.Proofs.Ytadgplpbkephiaa
open Go.RowKit
set_option linter.unusedVariables false

set_option maxHeartbeats 1000000 in
theorem near_law (n : Int) (k : Nat) (hk : k < 256) : ∃ m : Int, ∀ w, Calls Try.prog 10 #[.int .i64 n, .int .u8 k] w fun e w' => e = .returned (.int .i64 m) ∧ Below w.heap.size w w' := by
  by_cases h1 : k < 150
  · obtain ⟨r, hr⟩ : ∃ r, n.tmod 50 = r := ⟨_, rfl⟩
    have h1' : (k : Int) < 150 := by omega
    refine ⟨r, fun w => ?_⟩
    go_enter Try.func10, Try.ntmps10
    go_wp2
    go_ret
    exact ⟨rfl, Below.refl _ _⟩
  · have h1' : ¬ (k : Int) < 150 := by omega
    by_cases h2 : k < 190
    · have h2' : (k : Int) < 190 := by omega
      have h3 : k % 3 = 0 ∨ k % 3 = 1 ∨ k % 3 = 2 := by omega
      have hb : ∀ w : World, Below w.heap.size w (w.alloc (.cells #[.int .i64 (-9223372036854775808), .int .i64 9223372036854775807, .int .i64 0] 2)) := fun w => (Below.refl _ _).alloc (Nat.le_refl _) _
      rcases h3 with h3 | h3 | h3
      · have h4 : (k : Int) % 3 = 0 := by omega
        have h5 : (k : Int).tmod 3 = 0 := by rw [Int.tmod_eq_emod_of_nonneg (by omega)]; exact h4
        refine ⟨-9223372036854775808, fun w => ?_⟩
        go_enter Try.func10, Try.ntmps10
        go_wp2
        go_ret
        exact ⟨rfl, hb w⟩
      · have h4 : (k : Int) % 3 = 1 := by omega
        have h5 : (k : Int).tmod 3 = 1 := by rw [Int.tmod_eq_emod_of_nonneg (by omega)]; exact h4
        refine ⟨9223372036854775807, fun w => ?_⟩
        go_enter Try.func10, Try.ntmps10
        go_wp2
        go_ret
        exact ⟨rfl, hb w⟩
      · have h4 : (k : Int) % 3 = 2 := by omega
        have h5 : (k : Int).tmod 3 = 2 := by rw [Int.tmod_eq_emod_of_nonneg (by omega)]; exact h4
        refine ⟨0, fun w => ?_⟩
        go_enter Try.func10, Try.ntmps10
        go_wp2
        go_ret
        exact ⟨rfl, hb w⟩
    · have h2' : ¬ (k : Int) < 190 := by omega
      refine ⟨n, fun w => ?_⟩
      go_enter Try.func10, Try.ntmps10
      go_wp2
      go_ret
      exact ⟨rfl, Below.refl _ _⟩
theorem inl_yes {l : List Int} {x : Int} (j : Nat) (h : l[j]? = some x) : decide (x ∈ l) = true := decide_eq_true (List.mem_of_getElem? h)
theorem inl_no {l : List Int} {x : Int} (h : ∀ (j : Nat) (y : Int), l[j]? = some y → y ≠ x) : decide (x ∈ l) = false := decide_eq_false fun h1 => by
  obtain ⟨j, hj, e⟩ := List.getElem_of_mem h1
  exact h j _ (List.getElem?_eq_getElem hj) e
set_option maxHeartbeats 1000000 in
theorem has_law {w : World} {L : Option Addr} {m d : Nat} {l : List Int} (hl : Li w L m d l) (v : Int) :
    Calls Try.prog 23 #[.slice L m d, .int .i64 v] w fun e w' => e = .returned (.bool (decide (v ∈ l))) ∧ w' = w := by
  obtain ⟨t, ht⟩ : ∃ t, decide (v ∈ l) = t := ⟨_, rfl⟩
  have HT := Lib.hid ht
  rw [ht]
  have hn := hl.le
  have hm := hl.max
  unfold maxLen at hm
  have HI := Lib.hid hl
  clear hl ht
  go_enter Try.func23, Try.ntmps23
  go_wp2
  go_loop [5] (fun iv => ∃ j : Nat, j ≤ m ∧ iv = .int .i64 j ∧ ∀ (i : Nat) (y : Int), i < j → l[i]? = some y → y ≠ v) (fun iv => m - (intOf iv).toNat)
  case atStart => exact ⟨0, Nat.zero_le _, rfl, fun i y hi => absurd hi (Nat.not_lt_zero _)⟩
  case round =>
    obtain ⟨j, hj, rfl, hno⟩ := hrel
    have HN := Lib.hid hno
    by_cases hlt : j < m
    · obtain ⟨g, off, x, rfl, c1, hx⟩ := HI.out.cel j hlt
      have HX := Lib.hid hx
      clear hno hx
      by_cases hxv : x = v
      · subst hxv
        go_wp2
        go_ret
        refine ⟨?_, rfl⟩
        rw [← HT.out, inl_yes j HX.out]
        rfl
      · have hxb : (x == v) = false := by simp [hxv]
        go_wp2
        go_round
        case rel =>
          refine ⟨j + 1, by omega, by go_num, fun i y hi hy => ?_⟩
          by_cases e : i = j
          · rw [e, HX.out] at hy
            cases hy
            exact hxv
          · exact HN.out i y (by omega) hy
        case measure => simp [intOf]; omega
    · obtain rfl : j = m := by omega
      clear hno
      go_wp2
      go_ret
      refine ⟨?_, rfl⟩
      rw [← HT.out, inl_no fun i y hy => HN.out i y (by
        have := HI.out.len
        rcases Nat.lt_or_ge i l.length with h1 | h1
        · omega
        · rw [List.getElem?_eq_none h1] at hy; cases hy) hy]
      rfl
set_option maxHeartbeats 1000000 in
theorem ref_law {w : World} {A : Option Addr} {n c : Nat} : Calls Try.prog 9 #[.agg #[.slice A n c]] w fun e w' => e = .returned (.agg #[.slice A n c]) ∧ Below w.heap.size w w' := by
  have hb : Below w.heap.size w ((w.alloc (.cells #[.slice A n c] 24)).alloc (.cells #[.slice A n c] 28)) := ((Below.refl _ _).alloc (Nat.le_refl _) _).alloc (by simp) _
  have HB := Lib.hid hb
  clear hb
  go_enter Try.func9, Try.ntmps9
  go_wp2
  refine bodyPost_ret (v := .agg #[.slice A n c]) (by simp [results, Try.results9, go_sem]) rfl ?_
  exact ⟨rfl, HB.out⟩
end Go.Proofs.Ytadgplpbkephiaa
