/- Layer 8: near; ValueSums' walk. -/
import Derived.Test.YtbhjimlikffalaaDoorVaEx
namespace Go.Proofs.YtbhjimlikffalaaDoor
open Go.RowKit
set_option linter.unusedVariables false

/-- What near tells. -/
def nearL : List Int := [-9223372036854775808, 9223372036854775807, 0, 1, -1, 4294967296, -2147483648]
theorem near_at : ∀ j, j < 7 → ∃ N : Int, nearL[j]? = some N ∧ in64 N
  | 0, _ => ⟨_, rfl, by unfold in64; decide⟩
  | 1, _ => ⟨_, rfl, by unfold in64; decide⟩
  | 2, _ => ⟨_, rfl, by unfold in64; decide⟩
  | 3, _ => ⟨_, rfl, by unfold in64; decide⟩
  | 4, _ => ⟨_, rfl, by unfold in64; decide⟩
  | 5, _ => ⟨_, rfl, by unfold in64; decide⟩
  | 6, _ => ⟨_, rfl, by unfold in64; decide⟩
  | n + 7, h => absurd h (by omega)
set_option maxHeartbeats 1000000 in
theorem near_any (n k : Int) (hn : in64 n) (hk : 0 ≤ k ∧ k ≤ 255) : ∃ N, in64 N ∧ ∀ w, Calls Tryd.prog 15 #[.int .i64 n, .int .u8 k] w fun e w' => e = .returned (.int .i64 N) ∧ Below w.heap.size w w' := by
  have hn' := hn
  unfold in64 at hn'
  by_cases h1 : k < 80
  · refine ⟨n.tmod 70, tmod_in hn (by unfold in64; decide) ⟨by decide, .inr (by decide)⟩, fun w => ?_⟩
    have hr := tmod_in hn (b := 70) (by unfold in64; decide) ⟨by decide, .inr (by decide)⟩
    unfold in64 at hr
    go_enter Tryd.func15, Tryd.ntmps15
    go_wp2
    go_ret
    exact ⟨rfl, Below.refl _ _⟩
  by_cases h2 : k < 140
  · obtain ⟨j, hj⟩ : ∃ j : Nat, k % 7 = (j : Int) := ⟨(k % 7).toNat, by omega⟩
    obtain ⟨N, hN, hi⟩ := near_at j (by omega)
    refine ⟨N, hi, fun w => ?_⟩
    have hm : k.tmod 7 = (j : Int) := by rw [Int.tmod_eq_emod_of_nonneg hk.1]; exact hj
    have hj7 : j < 7 := by omega
    have hc : (w.alloc (.cells #[.int .i64 (-9223372036854775808), .int .i64 9223372036854775807, .int .i64 0, .int .i64 1, .int .i64 (-1), .int .i64 4294967296, .int .i64 (-2147483648)] 2)).cell? ⟨w.heap.size, j, none⟩ = some (.int .i64 N) := by
      have := (nums_new w nearL 2 (by decide)).1 j (.int .i64 N) (by rw [List.getElem?_map, hN]; rfl)
      obtain ⟨x, e, hx⟩ := this
      cases e
      rw [Go.WideShapes.add_plain, Nat.zero_add] at hx
      exact hx
    have hb := Lib.hid (step1 w (.cells #[.int .i64 (-9223372036854775808), .int .i64 9223372036854775807, .int .i64 0, .int .i64 1, .int .i64 (-1), .int .i64 4294967296, .int .i64 (-2147483648)] 2))
    clear hN hj
    go_enter Tryd.func15, Tryd.ntmps15
    go_wp2
    go_ret
    exact ⟨rfl, hb.out⟩
  · refine ⟨n, hn, fun w => ?_⟩
    go_enter Tryd.func15, Tryd.ntmps15
    go_wp2
    go_ret
    exact ⟨rfl, Below.refl _ _⟩
end Go.Proofs.YtbhjimlikffalaaDoor
