/- RankDrops: who is there, as a function; who is the best so far. -/
import Derived.Test.YtplhdmaiammckaaRkBools
namespace Go.Proofs.Ytplhdmaiammckaa
open Go.RowKit
set_option linter.unusedVariables false

def tS (zs : List Int) (j : Nat) : Int := (zs.getD j 0).tmod 7
theorem tS_in (zs : List Int) (j : Nat) : I64 (tS zs j) := by
  unfold tS I64
  have h1 := Int.tmod_lt_of_pos (zs.getD j 0) (show (0 : Int) < 7 by omega)
  have h2 : -7 < (zs.getD j 0).tmod 7 := Int.lt_tmod_of_pos _ (by omega)
  omega
/-- Those that are there, with their scores. -/
def sF (zs : List Int) (M : Nat) (f : Nat → Bool) : Int → Option Int := fun d => if 0 ≤ d ∧ d < M ∧ f d.toNat = true then some (tS zs d.toNat) else none
theorem sF_yes {zs : List Int} {M : Nat} {f : Nat → Bool} {j : Nat} (h : j < M) (hf : f j = true) : sF zs M f j = some (tS zs j) := by
  unfold sF
  rw [if_pos ⟨by omega, by omega, by simpa using hf⟩]
  simp
theorem sF_no {zs : List Int} {M : Nat} {f : Nat → Bool} {j : Nat} (hf : f j = false) : sF zs M f j = none := by
  unfold sF
  rw [if_neg]
  rintro ⟨_, _, h⟩
  simp only [Int.toNat_natCast] at h
  rw [hf] at h; cases h
theorem sF_mem {zs : List Int} {M : Nat} {f : Nat → Bool} {d s : Int} (h : sF zs M f d = some s) : ∃ j : Nat, d = j ∧ j < M ∧ f j = true ∧ s = tS zs j := by
  unfold sF at h
  split at h
  · rename_i hc
    exact ⟨d.toNat, by omega, by omega, hc.2.2, (Option.some.inj h).symm⟩
  · cases h
theorem sF_put (zs : List Int) (M : Nat) (f : Nat → Bool) (j : Nat) (h : j < M) : upd (sF zs M f) j (some (tS zs j)) = sF zs M (updB f j true) := by
  funext d
  by_cases e : d = j
  · subst e
    rw [upd_same, sF_yes h (updB_same _ _ _)]
  · rw [upd_other _ _ _ _ e]
    unfold sF
    by_cases e2 : 0 ≤ d
    · rw [updB_other _ _ _ _ (show d.toNat ≠ j by omega)]
    · rw [if_neg (by omega), if_neg (by omega)]
theorem sF_drop (zs : List Int) (M : Nat) (f : Nat → Bool) (j : Nat) : upd (sF zs M f) j none = sF zs M (updB f j false) := by
  funext d
  by_cases e : d = j
  · subst e
    rw [upd_same, sF_no (updB_same _ _ _)]
  · rw [upd_other _ _ _ _ e]
    unfold sF
    by_cases e2 : 0 ≤ d
    · rw [updB_other _ _ _ _ (show d.toNat ≠ j by omega)]
    · rw [if_neg (by omega), if_neg (by omega)]
theorem sF_none (zs : List Int) (M : Nat) : sF zs M (fun _ => false) = fun _ => none := by
  funext d
  unfold sF; simp
/-- The best of the first i. -/
def Best (zs : List Int) (f : Nat → Bool) (i : Nat) (bv : Int) : Prop :=
  (bv = -1 ∧ ∀ j, j < i → f j = false) ∨ ∃ b : Nat, bv = b ∧ b < i ∧ f b = true ∧ ∀ j, j < i → f j = true → Le ((b : Int), tS zs b) ((j : Int), tS zs j)
theorem Best.start (zs : List Int) (f : Nat → Bool) : Best zs f 0 (-1) := .inl ⟨rfl, fun j h => by omega⟩
theorem Best.skip {zs : List Int} {f : Nat → Bool} {i : Nat} {bv : Int} (h : Best zs f i bv) (hf : f i = false) : Best zs f (i + 1) bv := by
  rcases h with ⟨h1, h2⟩ | ⟨b, h1, h2, h3, h4⟩
  · exact .inl ⟨h1, fun j hj => by
      by_cases e : j = i
      · rw [e]; exact hf
      · exact h2 j (by omega)⟩
  · exact .inr ⟨b, h1, by omega, h3, fun j hj hfj => by
      by_cases e : j = i
      · rw [e, hf] at hfj; cases hfj
      · exact h4 j (by omega) hfj⟩
theorem Best.first {zs : List Int} {f : Nat → Bool} {i : Nat} (h : Best zs f i (-1)) (hf : f i = true) : Best zs f (i + 1) i := by
  rcases h with ⟨h1, h2⟩ | ⟨b, h1, h2, h3, h4⟩
  · exact .inr ⟨i, rfl, by omega, hf, fun j hj hfj => by
      by_cases e : j = i
      · rw [e]; exact .refl _
      · rw [h2 j (by omega)] at hfj; cases hfj⟩
  · omega
theorem Best.take {zs : List Int} {f : Nat → Bool} {i b : Nat} (h : Best zs f i b) (hf : f i = true) (hlt : ltB ((i : Int), tS zs i) ((b : Int), tS zs b) = true) : Best zs f (i + 1) i := by
  rcases h with ⟨h1, h2⟩ | ⟨b', h1, h2, h3, h4⟩
  · omega
  · obtain rfl : b = b' := by omega
    exact .inr ⟨i, rfl, by omega, hf, fun j hj hfj => by
      by_cases e : j = i
      · rw [e]; exact .refl _
      · exact (ltB_true hlt).1.trans (h4 j (by omega) hfj)⟩
theorem Best.keep {zs : List Int} {f : Nat → Bool} {i b : Nat} (h : Best zs f i b) (hlt : ltB ((i : Int), tS zs i) ((b : Int), tS zs b) = false) : Best zs f (i + 1) b := by
  rcases h with ⟨h1, h2⟩ | ⟨b', h1, h2, h3, h4⟩
  · omega
  · obtain rfl : b = b' := by omega
    exact .inr ⟨b, rfl, by omega, h3, fun j hj hfj => by
      by_cases e : j = i
      · rw [e]; exact ltB_false hlt
      · exact h4 j (by omega) hfj⟩
/-- At the end the best is least. -/
theorem Best.least {zs : List Int} {M : Nat} {f : Nat → Bool} {bv d s : Int} (h : Best zs f M bv) (hl : IsLeast (sF zs M f) d s) : ∃ b : Nat, bv = b ∧ b < M ∧ f b = true ∧ d = b ∧ s = tS zs b := by
  obtain ⟨j, rfl, hj, hfj, rfl⟩ := sF_mem hl.mem
  rcases h with ⟨h1, h2⟩ | ⟨b, h1, h2, h3, h4⟩
  · rw [h2 j hj] at hfj; cases hfj
  · have hb : IsLeast (sF zs M f) b (tS zs b) := ⟨sF_yes h2 h3, fun k t hk => by
      obtain ⟨i, rfl, hi, hfi, rfl⟩ := sF_mem hk
      exact h4 i hi hfi, by unfold I64; have := hl.ik; have := h4 j hj hfj; have := hl.le b _ (sF_yes h2 h3); unfold Le at *; simp only at *; omega, tS_in _ _⟩
    obtain ⟨e1, e2⟩ := hl.one hb
    exact ⟨b, h1, h2, h3, e1, e2⟩
end Go.Proofs.Ytplhdmaiammckaa
