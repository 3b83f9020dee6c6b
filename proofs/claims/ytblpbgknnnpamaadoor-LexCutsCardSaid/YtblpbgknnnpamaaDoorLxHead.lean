/- The chapter's examples, ahead of each statement. -/
import Derived.Test.YtblpbgknnnpamaaDoorLxAll
namespace Go.Proofs.YtblpbgknnnpamaaDoor
open Go.RowKit
set_option linter.unusedVariables false

theorem all_good {s : Nm} {ts : List Tok} (h : lexA s = .good ts) (w : World) (hs : s.length ≤ 2048) (hT : Tabs w) :
    Calls Tryd.prog 10 #[.string (str s)] w fun e w' => ∃ A c, e = .returned (.tuple #[.slice A ts.length c, .int .i64 s.length, .int .i64 0]) ∧ Toks w' A c ts ∧ Below w.heap.size w w' := by
  refine (all_any s w hs hT).mono ?_
  intro e w' he
  rw [h] at he
  obtain ⟨⟨A, c, h1, h2⟩, h3⟩ := he
  exact ⟨A, c, h1, h2, h3⟩
theorem all_bad {s : Nm} {p : Nat} (h : lexA s = .bad p) (w : World) (hs : s.length ≤ 2048) (hT : Tabs w) :
    Calls Tryd.prog 10 #[.string (str s)] w fun e w' => e = .returned (.tuple #[.slice none 0 0, .int .i64 p, .int .i64 2]) ∧ Below w.heap.size w w' := by
  refine (all_any s w hs hT).mono ?_
  intro e w' he
  rw [h] at he
  exact he
def exT : List Tok := [⟨1, [97], 0, 1⟩, ⟨3, [60, 61], 0, 2⟩, ⟨2, [49], 1, 4⟩, ⟨1, [66, 89, 195, 169], 0, 6⟩, ⟨4, [66, 89], 0, 11⟩, ⟨3, [33], 0, 13⟩]
set_option maxRecDepth 100000 in
theorem ex1 : lexA [32, 97, 60, 61, 49, 32, 66, 89, 195, 169, 32, 66, 89, 33] = .good exT := by kernel_rfl
set_option maxRecDepth 100000 in
theorem ex2 : lexA [97, 32, 48, 55] = .bad 2 := by kernel_rfl
set_option maxRecDepth 100000 in
theorem ex3 : lexA [97, 255] = .bad 1 := by kernel_rfl
set_option maxHeartbeats 2000000 in
set_option maxRecDepth 100000 in
theorem examples_any (w : World) (hT : Tabs w) :
    Calls Tryd.prog 8 #[] w fun e w' => e = .returned (.bool true) ∧ Below w.heap.size w w' := by
  have g1 := all_good ex1 w (by decide) hT
  go_enter Tryd.func8, Tryd.ntmps8
  go_wp2_with fail
  refine g1.mono ?_
  rintro e w1 ⟨A, c, rfl, h1, b1⟩
  have g2 := all_bad ex2 w1 (by decide) (hT.below b1)
  clear g1
  go_wp2_with fail
  refine g2.mono ?_
  rintro e w2 ⟨rfl, b2⟩
  have B2 := b1.trans (b2.mono b1.size)
  have g3 := all_bad ex3 w2 (by decide) (hT.below B2)
  have h2 := h1.below b2
  clear g2 b2 b1 h1
  go_wp2_with fail
  refine g3.mono ?_
  rintro e w3 ⟨rfl, b3⟩
  have B3 := B2.trans (b3.mono B2.size)
  have h3 := h2.below b3
  have hl : exT.length = 6 := rfl
  clear g3 b3 B2 h2
  obtain ⟨b, off, rfl, p0, p1, p2, p3⟩ := h3.at_ 0 (by rw [hl]; omega)
  obtain ⟨_, _, e1, q0, q1, q2, q3⟩ := h3.at_ 1 (by rw [hl]; omega)
  cases e1
  obtain ⟨_, _, e1, r0, r1, r2, r3⟩ := h3.at_ 2 (by rw [hl]; omega)
  cases e1
  obtain ⟨_, _, e1, s0, s1, s2, s3⟩ := h3.at_ 3 (by rw [hl]; omega)
  cases e1
  obtain ⟨_, _, e1, t0, t1, t2, t3⟩ := h3.at_ 4 (by rw [hl]; omega)
  cases e1
  obtain ⟨_, _, e1, u0, u1, u2, u3⟩ := h3.at_ 5 (by rw [hl]; omega)
  cases e1
  clear h3 p1 p2 q0 q2 q3 r0 r1 r3 s1 s2 s3 t1 t2 t3 u0 u2 u3
  simp [exT] at p0 p3 q1 r2 s0 t0 u1
  have e5 : (str [60, 61]).toList = [60, 61] := str_toList _
  have e6 : (str [33]).toList = [33] := str_toList _
  go_wp2_with fail
  clear p0 p3 q1 r2 s0 t0 u1
  refine (signs_any w3).mono ?_
  rintro e w4 ⟨A, rfl, _, b4⟩
  go_wp2_with fail
  go_ret
  exact ⟨rfl, B3.trans (b4.mono B3.size)⟩
end Go.Proofs.YtblpbgknnnpamaaDoor
