/- So many kinds, each with so many fields. -/
import Derived.Test.YtkoomphkbiifhaaDoorScRight
import Derived.KernelRfl
namespace Go.Proofs.YtkoomphkbiifhaaDoor
set_option linter.unusedVariables false
def limF (k : Nat) : List Nm := (List.range k).map fun j => [102, UInt8.ofNat (97 + j)]
def limN (bad : Bool) (i : Nat) : Nm := if bad then [57] else [75, UInt8.ofNat (97 + i)]
def limK (bad : Bool) (k m : Nat) : List Kd := (List.range m).map fun i => (limN bad i, limF k)
def limW (bad : Bool) (k m : Nat) : Int := if m < 1 ∨ 16 < m ∨ 8 < k then 4 else if bad then 5 else 0
set_option maxRecDepth 100000 in
theorem lim_all : ((List.range 22).all fun m => (List.range 12).all fun k => decide (rightE (limK true k m) = limW true k m) && decide (rightE (limK false k m) = limW false k m)) = true := by kernel_rfl
theorem lim_right (bad : Bool) {k m : Nat} (hk : k < 12) (hm : m < 22) : rightE (limK bad k m) = limW bad k m := by
  have h := List.all_eq_true.1 (List.all_eq_true.1 lim_all m (List.mem_range.2 hm)) k (List.mem_range.2 hk)
  simp only [Bool.and_eq_true, decide_eq_true_eq] at h
  cases bad
  · exact h.2
  · exact h.1
theorem limF_succ (k : Nat) : limF (k + 1) = limF k ++ [[102, UInt8.ofNat (97 + k)]] := by simp [limF, List.range_succ]
theorem limK_succ (bad : Bool) (k m : Nat) : limK bad k (m + 1) = limK bad k m ++ [(limN bad m, limF k)] := by simp [limK, List.range_succ]
theorem limF_len (k : Nat) : (limF k).length = k := by simp [limF]
theorem limK_len (bad : Bool) (k m : Nat) : (limK bad k m).length = m := by simp [limK]
end Go.Proofs.YtkoomphkbiifhaaDoor
