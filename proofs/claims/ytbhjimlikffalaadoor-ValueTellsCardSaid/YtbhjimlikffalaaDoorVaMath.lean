/- Layer 8 without the program: checked numbers. -/
import Derived.Test.YtbhjimlikffalaaDoorBase
namespace Go.Proofs.YtbhjimlikffalaaDoor
open Go.RowKit
set_option linter.unusedVariables false

/-- A number of 64 bits. -/
def in64 (x : Int) : Prop := -9223372036854775808 ≤ x ∧ x ≤ 9223372036854775807
instance (x : Int) : Decidable (in64 x) := by unfold in64; infer_instance
/-- A number, if it has room. -/
def ck (x : Int) : Int × Bool := if in64 x then (x, true) else (0, false)
def addV (a b : Int) : Int × Bool := ck (a + b)
def subV (a b : Int) : Int × Bool := ck (a - b)
def mulV (a b : Int) : Int × Bool := ck (a * b)
def divOk (a b : Int) : Prop := b ≠ 0 ∧ (a ≠ -9223372036854775808 ∨ b ≠ -1)
instance (a b : Int) : Decidable (divOk a b) := by unfold divOk; infer_instance
def divV (a b : Int) : Int × Bool := if divOk a b then (a.tdiv b, true) else (0, false)
def remV (a b : Int) : Int × Bool := if divOk a b then (a.tmod b, true) else (0, false)
theorem ck_yes {x : Int} (h : in64 x) : ck x = (x, true) := by rw [ck, if_pos h]
theorem ck_no {x : Int} (h : ¬ in64 x) : ck x = (0, false) := by rw [ck, if_neg h]
theorem ck_in (x : Int) : in64 (ck x).1 := by
  unfold ck
  split
  · assumption
  · unfold in64; simp
theorem ck_no_eq {x : Int} (h : (ck x).2 = false) : (ck x).1 = 0 := by
  unfold ck at *
  split
  · rename_i hx; rw [if_pos hx] at h; cases h
  · rfl
theorem tdiv_parts (a b : Int) : b * a.tdiv b + a.tmod b = a := Int.mul_tdiv_add_tmod a b
theorem tmod_small {a b : Int} (h : b ≠ 0) : (a.tmod b).natAbs < b.natAbs := by
  rw [Int.natAbs_tmod]
  exact Nat.mod_lt _ (by omega)
theorem tmod_sign {a b : Int} : (0 ≤ a → 0 ≤ a.tmod b) ∧ (a ≤ 0 → a.tmod b ≤ 0) := by
  refine ⟨fun h => Int.tmod_nonneg b h, fun h => ?_⟩
  have := Int.tmod_nonneg b (a := -a) (by omega)
  rw [Int.neg_tmod] at this
  omega
theorem tdiv_in {a b : Int} (ha : in64 a) (h : divOk a b) : in64 (a.tdiv b) := by
  unfold in64 divOk at *
  have e : (a.tdiv b).natAbs = a.natAbs / b.natAbs := Int.natAbs_tdiv ..
  have hb : 1 ≤ b.natAbs := by omega
  have h1 : a.natAbs / b.natAbs ≤ a.natAbs := Nat.div_le_self _ _
  by_cases h2 : 2 ≤ b.natAbs
  · have h3 : a.natAbs / b.natAbs ≤ a.natAbs / 2 := Nat.div_le_div_left h2 (by omega)
    omega
  · have h4 : b = 1 ∨ b = -1 := by omega
    rcases h4 with rfl | rfl
    · rw [Int.tdiv_one]; omega
    · rw [show (-1 : Int) = -(1) from rfl, Int.tdiv_neg, Int.tdiv_one]; omega
theorem tmod_in {a b : Int} (ha : in64 a) (hb : in64 b) (h : divOk a b) : in64 (a.tmod b) := by
  have := tmod_small (a := a) h.1
  unfold in64 at *
  omega
theorem add_no {a b s : Int} (ha : in64 a) (hb : in64 b) (h : ¬ in64 (a + b)) (hs : s = IntKind.i64.wrap (a + b)) : (decide (s < a) != decide (b < 0)) = true := by
  rw [IntKind.wrap_i64] at hs
  unfold in64 at *
  by_cases h1 : b < 0 <;> by_cases h2 : s < a <;> simp [h1, h2] <;> omega
theorem sub_no {a b s : Int} (ha : in64 a) (hb : in64 b) (h : ¬ in64 (a - b)) (hs : s = IntKind.i64.wrap (a - b)) : (decide (a < s) != decide (b < 0)) = true := by
  rw [IntKind.wrap_i64] at hs
  unfold in64 at *
  by_cases h1 : b < 0 <;> by_cases h2 : a < s <;> simp [h1, h2] <;> omega
theorem mul_no {a b p : Int} (ha : in64 a) (hb : in64 b) (h : ¬ in64 (a * b)) (hp : p = IntKind.i64.wrap (a * b)) (hd : divOk p b) : p.tdiv b ≠ a := by
  intro e
  have h1 := tdiv_parts p b
  rw [e] at h1
  have h2 := tmod_small (a := p) hd.1
  rw [Int.mul_comm] at h1
  rw [IntKind.wrap_i64] at hp
  unfold in64 at *
  generalize a * b = q at *
  generalize p.tmod b = r at *
  omega
theorem mul_yes {a b : Int} (ha : in64 a) (hb0 : b ≠ 0) (h : in64 (a * b)) : divOk (a * b) b ∧ (a * b).tdiv b = a := by
  refine ⟨⟨hb0, ?_⟩, Int.mul_tdiv_cancel a hb0⟩
  by_cases h1 : b = -1
  · subst h1
    left
    unfold in64 at *
    omega
  · exact .inr h1
end Go.Proofs.YtbhjimlikffalaaDoor
