/- The program's kinds as the reference's: refKinds. -/
import Derived.Test.YtkoomphkbiifhaaDoorScOwnR
import Derived.Test.YtkoomphkbiifhaaDoorScRefA
import Derived.Test.YtkoomphkbiifhaaDoorAppStep
import Derived.Deep.RegionLaw
namespace Go.Proofs.YtkoomphkbiifhaaDoor
open Go.RowKit
set_option linter.unusedVariables false

set_option maxHeartbeats 4000000 in
set_option maxRecDepth 100000 in
theorem refKinds_any (l : List Kd) (A : Option Addr) (c : Nat) (w : World) (h : Kinds w A c l) (hl : l.length ≤ 1000000000) :
    Calls Tryd.prog 11 #[.slice A l.length c] w fun e w' => ∃ v, e = .returned v ∧ KR w' w.heap.size v l ∧ Below w.heap.size w w' := by
  have hcap := h.cap
  go_enter Tryd.func11, Tryd.ntmps11
  go_wp2_with fail
  go_loopw [3, 4] (fun v i wr => ∃ j : Nat, j ≤ l.length ∧ i = .int .i64 j ∧ KR wr w.heap.size v (l.take j) ∧ Below w.heap.size w wr) (fun _ i _ => l.length - (intOf i).toNat)
  case atStart => exact ⟨0, Nat.zero_le _, rfl, KR.nil w _, Below.refl _ _⟩
  case round =>
    rename World => wr
    obtain ⟨j, hj, rfl, hK, br⟩ := hrel
    by_cases hlt : j < l.length
    · obtain ⟨b, off, rfl, hc⟩ := h.shape (by omega)
      obtain ⟨F, d, g0', g1', hs⟩ := hc j hlt
      have g0 := (br.cell (World.block_lt_of_cell? _ _ g0')).trans g0'
      have g1 := (br.cell (World.block_lt_of_cell? _ _ g1')).trans g1'
      clear hc g0' g1'
      have hlK := hK.lt
      obtain ⟨v', w4, hrun, hK4, b4, _, _, _⟩ := (hK.below (Below.refl _ _).drew).app (w := wr.drew) br.size l[j] F d ((hs.below br).below (Below.refl _ _).drew) (fun h0 a ha => by
        intro e
        have h1 := (hlK _ e).1
        obtain ⟨fb, foff, e5, hc⟩ := hs.shape h0
        have hlt := World.block_lt_of_cell? _ _ (hc 0 h0)
        rw [ha] at e5
        cases e5
        simp only at *
        omega) (by simp; omega)
      have HR := Lib.hid hrun
      have HK4 := Lib.hid hK4
      have B4 := br.drew.trans b4
      clear hrun hK4 hlK b4
      go_wp2_with fail
      go_region_law (refine step_app (R := fun x y => x = v' ∧ y = w4) ⟨v', w4, HR.out, rfl, rfl⟩ rfl rfl rfl (by simp [Act.eval]) (by simp [Act.eval]) ?_; rintro _ _ ⟨rfl, rfl⟩)
      all_goals
       go_wp2_with fail
       go_roundw
       case rel => exact ⟨j + 1, by omega, by go_num, by rw [List.take_succ_eq_append_getElem hlt]; exact HK4.out, B4⟩
       case measure => simp [intOf]; omega
    · have e : l.take j = l := List.take_of_length_le (by omega)
      rw [e] at hK
      clear e
      go_wp2_with fail
      go_ret
      exact ⟨_, rfl, hK, br⟩
end Go.Proofs.YtkoomphkbiifhaaDoor
