/- Five numbers apart, added: the two that are nearest are one. No model. -/
import Derived.Test.YtadgplpbkephiaaSpExactM
namespace Go.Proofs.Ytadgplpbkephiaa
set_option linter.unusedVariables false

/-- Four of five numbers, two neighbours being one. -/
structure Mg (S : List Sp) (P : List Int) (i0 : Nat) : Prop where
  len : S.length = 4
  five : P.length = 5
  i4 : i0 < 4
  pts : ∀ i, i < 4 → i ≠ i0 → (sp S i).1 = (sp S i).2
  lo : (sp S i0).1 = P.getD i0 0
  hi : (sp S i0).2 = P.getD (i0 + 1) 0
  inc : ∀ i, i < 4 → P.getD i 0 < P.getD (i + 1) 0
  least : ∀ k, k < 4 → P.getD (i0 + 1) 0 - P.getD i0 0 ≤ P.getD (k + 1) 0 - P.getD k 0
  small : ∀ i, i < 5 → -3 ≤ P.getD i 0 ∧ P.getD i 0 ≤ 100000
  cov : cov S P = true
theorem Mg.inj {S : List Sp} {P : List Int} {i0 : Nat} (h : Mg S P i0) (k : Nat) (hk : k < 4) (e : P.getD k 0 = P.getD i0 0) : k = i0 := by
  have h0 := h.inc 0 (by omega)
  have h1 := h.inc 1 (by omega)
  have h2 := h.inc 2 (by omega)
  have h3 := h.inc 3 (by omega)
  have hi := h.i4
  simp only [Nat.zero_add, Nat.reduceAdd] at h0 h1 h2 h3
  rcases (by omega : k = 0 ∨ k = 1 ∨ k = 2 ∨ k = 3) with rfl | rfl | rfl | rfl <;> rcases (by omega : i0 = 0 ∨ i0 = 1 ∨ i0 = 2 ∨ i0 = 3) with rfl | rfl | rfl | rfl <;> first | rfl | omega
/-- The five numbers, from their distances. -/
def five (p0 p1 p2 p3 p4 : Int) : List Int := [p0, p1, p2, p3, p4]
theorem merge_math {p0 p1 p2 p3 p4 : Int} (h0 : -3 ≤ p0) (h1 : p0 < p1) (h2 : p1 < p2) (h3 : p2 < p3) (h4 : p3 < p4) (h5 : p4 ≤ 100000) :
    ∃ i0, Mg (addS (addS (addS (addS (addS [] p0) p3) p1) p4) p2) (five p0 p1 p2 p3 p4) i0 := by
  have e1 : addS [] p0 = [(p0, p0)] := by rw [addS_put rgt_nil rfl (by simp)]; rfl
  have P1 : Pts [(p0, p0)] [p0] := by have := pts_nil.add p0 (by simp); rw [e1] at this; exact this
  have n1 : hs [(p0, p0)] p3 = false := by rw [P1.has]; simp; omega
  have e2 : addS [(p0, p0)] p3 = [(p0, p0), (p3, p3)] := by rw [addS_put P1.rgt n1 (by simp)]; simp [putS]; omega
  have P2 : Pts [(p0, p0), (p3, p3)] [p0, p3] := by have := P1.add p3 (by simp); rw [e2] at this; exact this
  have n2 : hs [(p0, p0), (p3, p3)] p1 = false := by rw [P2.has]; simp; omega
  have e3 : addS [(p0, p0), (p3, p3)] p1 = [(p0, p0), (p1, p1), (p3, p3)] := by rw [addS_put P2.rgt n2 (by simp)]; simp [putS, h1, show ¬ p3 < p1 by omega]
  have P3 : Pts [(p0, p0), (p1, p1), (p3, p3)] [p0, p3, p1] := by have := P2.add p1 (by simp); rw [e3] at this; exact this
  have n3 : hs [(p0, p0), (p1, p1), (p3, p3)] p4 = false := by rw [P3.has]; simp; omega
  have e4 : addS [(p0, p0), (p1, p1), (p3, p3)] p4 = [(p0, p0), (p1, p1), (p3, p3), (p4, p4)] := by rw [addS_put P3.rgt n3 (by simp)]; simp [putS, h4, show p0 < p4 by omega, show p1 < p4 by omega]
  have P4 : Pts [(p0, p0), (p1, p1), (p3, p3), (p4, p4)] [p0, p3, p1, p4] := by have := P3.add p4 (by simp); rw [e4] at this; exact this
  have n4 : hs [(p0, p0), (p1, p1), (p3, p3), (p4, p4)] p2 = false := by rw [P4.has]; simp; omega
  have e5 : putS [(p0, p0), (p1, p1), (p3, p3), (p4, p4)] p2 = [(p0, p0), (p1, p1), (p2, p2), (p3, p3), (p4, p4)] := by simp [putS, h2, show p0 < p2 by omega, show ¬ p3 < p2 by omega]
  have e6 := addS_join P4.rgt n4 rfl
  rw [e1, e2, e3, e4, e6, e5]
  have hc : cov (addS [(p0, p0), (p1, p1), (p3, p3), (p4, p4)] p2) (five p0 p1 p2 p3 p4) = true := cov_at fun i x hx => by
    refine add_keeps P4.rgt ?_
    rw [P4.has]
    have hm := List.mem_of_getElem? hx
    simp [five] at hm
    rcases hm with rfl | rfl | rfl | rfl | rfl <;> simp
  rw [e6, e5] at hc
  have hn := (near_lt [(p0, p0), (p1, p1), (p2, p2), (p3, p3), (p4, p4)] 4).2 (by omega)
  have hl := near_le [(p0, p0), (p1, p1), (p2, p2), (p3, p3), (p4, p4)] 4
  generalize near [(p0, p0), (p1, p1), (p2, p2), (p3, p3), (p4, p4)] 4 = i0 at *
  have g0 := hl 0 (by omega)
  have g1 := hl 1 (by omega)
  have g2 := hl 2 (by omega)
  have g3 := hl 3 (by omega)
  have k0 : gapU [(p0, p0), (p1, p1), (p2, p2), (p3, p3), (p4, p4)] 0 = p1 - p0 := by show (p1 - p0) % 18446744073709551616 = _; omega
  have k1 : gapU [(p0, p0), (p1, p1), (p2, p2), (p3, p3), (p4, p4)] 1 = p2 - p1 := by show (p2 - p1) % 18446744073709551616 = _; omega
  have k2 : gapU [(p0, p0), (p1, p1), (p2, p2), (p3, p3), (p4, p4)] 2 = p3 - p2 := by show (p3 - p2) % 18446744073709551616 = _; omega
  have k3 : gapU [(p0, p0), (p1, p1), (p2, p2), (p3, p3), (p4, p4)] 3 = p4 - p3 := by show (p4 - p3) % 18446744073709551616 = _; omega
  rw [k0] at g0
  rw [k1] at g1
  rw [k2] at g2
  rw [k3] at g3
  refine ⟨i0, ?_⟩
  rcases (by omega : i0 = 0 ∨ i0 = 1 ∨ i0 = 2 ∨ i0 = 3) with rfl | rfl | rfl | rfl
  all_goals
    first | rw [k0] at g0 g1 g2 g3 | rw [k1] at g0 g1 g2 g3 | rw [k2] at g0 g1 g2 g3 | rw [k3] at g0 g1 g2 g3
    refine ⟨rfl, rfl, by omega, fun i hi hne => ?_, rfl, rfl, fun i hi => ?_, fun k hk => ?_, fun i hi => ?_, hc⟩
    · rcases (by omega : i = 0 ∨ i = 1 ∨ i = 2 ∨ i = 3) with rfl | rfl | rfl | rfl <;> first | rfl | exact absurd rfl hne
    · rcases (by omega : i = 0 ∨ i = 1 ∨ i = 2 ∨ i = 3) with rfl | rfl | rfl | rfl <;> simp [five] <;> omega
    · rcases (by omega : k = 0 ∨ k = 1 ∨ k = 2 ∨ k = 3) with rfl | rfl | rfl | rfl <;> simp [five] <;> omega
    · rcases (by omega : i = 0 ∨ i = 1 ∨ i = 2 ∨ i = 3 ∨ i = 4) with rfl | rfl | rfl | rfl | rfl <;> simp [five] <;> omega
end Go.Proofs.Ytadgplpbkephiaa
