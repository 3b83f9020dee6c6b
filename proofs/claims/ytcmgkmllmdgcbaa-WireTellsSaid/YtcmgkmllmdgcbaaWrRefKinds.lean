/- The program's kinds as the reference's, in the statements of layer 5: refKinds. -/
import Derived.Test.YtcmgkmllmdgcbaaScOwnR
import Derived.Test.YtcmgkmllmdgcbaaWrRefGet
import Derived.Test.YtcmgkmllmdgcbaaAppStep
import Derived.Deep.RegionLaw
namespace Go.Proofs.Ytcmgkmllmdgcbaa
open Go.RowKit
set_option linter.unusedVariables false

set_option maxHeartbeats 4000000 in
set_option maxRecDepth 100000 in
theorem refKinds_any (l : List Kd) (A : Option Addr) (c : Nat) (w : World) (h : Kinds w A c l) (hl : l.length ≤ 3518437208800) :
    Calls Try.prog 21 #[.slice A l.length c] w fun e w' => ∃ v, e = .returned v ∧ KR w' w.heap.size v l ∧ Below w.heap.size w w' := by
  have hcap := h.cap
  go_enter Try.func21, Try.ntmps21
  go_wp2_with fail
  go_loopw [3, 4] (fun v i wr => ∃ j : Nat, j ≤ l.length ∧ i = .int .i64 j ∧ KR wr w.heap.size v (l.take j) ∧ Below w.heap.size w wr) (fun _ i _ => l.length - (intOf i).toNat)
  case atStart => exact ⟨0, Nat.zero_le _, rfl, KR.nil w _, Below.refl _ _⟩
  case round =>
    rename World => wr
    obtain ⟨j, hj, rfl, hK, br⟩ := hrel
    by_cases hlt : j < l.length
    · obtain ⟨b, off, rfl, hc⟩ := h.shape (by omega)
      obtain ⟨F, d, g0', g1', hs⟩ := hc j hlt
      have g0 := (br.cell (World.block_lt_of_cell? _ _ g0')).trans g0'
      have g1 := (br.cell (World.block_lt_of_cell? _ _ g1')).trans g1'
      clear hc g0' g1'
      have hlK := hK.lt
      obtain ⟨v', w4, hrun, hK4, b4, _, _, _⟩ := (hK.below (Below.refl _ _).drew).app (w := wr.drew) br.size l[j] F d ((hs.below br).below (Below.refl _ _).drew) (fun h0 a ha => by
        intro e
        have h1 := (hlK _ e).1
        obtain ⟨fb, foff, e5, hc⟩ := hs.shape h0
        have hlt := World.block_lt_of_cell? _ _ (hc 0 h0)
        rw [ha] at e5
        cases e5
        simp only at *
        omega) (by simp; omega)
      have HR := Lib.hid hrun
      have HK4 := Lib.hid hK4
      have B4 := br.drew.trans b4
      clear hrun hK4 hlK b4
      go_wp2_with fail
      go_region_law (refine step_app (R := fun x y => x = v' ∧ y = w4) ⟨v', w4, HR.out, rfl, rfl⟩ rfl rfl rfl (by simp [Act.eval]) (by simp [Act.eval]) ?_; rintro _ _ ⟨rfl, rfl⟩)
      all_goals
       go_wp2_with fail
       go_roundw
       case rel => exact ⟨j + 1, by omega, by go_num, by rw [List.take_succ_eq_append_getElem hlt]; exact HK4.out, B4⟩
       case measure => simp [intOf]; omega
    · have e : l.take j = l := List.take_of_length_le (by omega)
      rw [e] at hK
      clear e
      go_wp2_with fail
      go_ret
      exact ⟨_, rfl, hK, br⟩
/-- Of kinds only how many fields each has. -/
theorem Kinds.klies {w : World} {A : Option Addr} {c : Nat} {l : List Kd} (h : Kinds w A c l) : KLies w A (l.map fun k => k.2.length) := by
  intro i m hi
  rw [List.getElem?_map] at hi
  have hl : i < l.length := by
    rcases Nat.lt_or_ge i l.length with h1 | h1
    · exact h1
    · rw [List.getElem?_eq_none h1] at hi; cases hi
  rw [List.getElem?_eq_getElem hl] at hi
  obtain ⟨b, off, rfl, hc⟩ := h.shape (by omega)
  obtain ⟨F, d, h0, h1, _⟩ := hc i hl
  simp only [Option.map_some, Option.some.injEq] at hi
  subst hi
  exact ⟨b, off, F, d, rfl, h1⟩
end Go.Proofs.Ytcmgkmllmdgcbaa
