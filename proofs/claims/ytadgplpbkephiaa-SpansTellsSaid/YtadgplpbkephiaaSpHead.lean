/- The chapter's examples of intervals hold. -/
import Derived.Test.YtadgplpbkephiaaSpBox
namespace Go.Proofs.Ytadgplpbkephiaa
open Go.RowKit
set_option linter.unusedVariables false

def exX (j : Nat) : Int := [10, 0, 3, 20, 5].getD j 0
def exS : Nat → List Sp
  | 0 => []
  | j + 1 => addS (exS j) (exX j)
theorem exS5 : exS 5 = [(0, 0), (3, 5), (10, 10), (20, 20)] := by decide
theorem li_lit (w : World) (l : List Int) {n : Nat} (hn : l.length = n) (hm : n ≤ 1000 := by decide) : Li (w.alloc (.cells (l.map (Value.int .i64)).toArray 2)) (some ⟨w.heap.size, 0, none⟩) n n l := by
  refine ⟨hn, fun j u hu => ⟨_, rfl, ?_⟩, Nat.le_refl _, by unfold maxLen; omega⟩
  have hq : Has (w.alloc (.cells (l.map (Value.int .i64)).toArray 2)) w.heap.size 2 (l.map (Value.int .i64)).toArray := heap_alloc_new w _
  rw [Go.WideShapes.add_plain, Nat.zero_add, hq.cell]
  simpa using hu
set_option maxRecDepth 100000 in
set_option maxHeartbeats 1000000 in
theorem ex_any (w : World) : Calls Try.prog 8 #[] w fun e w' => e = .returned (.bool true) ∧ Below w.heap.size w w' := by
  have hb0 : Below w.heap.size w (w.alloc (.cells #[.slice none 0 0] 24)) := (Below.refl _ _).alloc (Nat.le_refl _) _
  have k0 : Bx (w.alloc (.cells #[.slice none 0 0] 24)) w.heap.size 24 none 0 0 (exS 0) := ⟨heap_alloc_new w _, sl_nil _⟩
  have HK0 := Lib.hid (And.intro hb0 k0)
  clear hb0 k0
  go_enter Try.func8, Try.ntmps8
  go_wp2
  go_loopw [2] (fun iv wr => ∃ (j : Nat) (A : Option Addr) (n c : Nat), j ≤ 5 ∧ iv = .int .i64 j ∧ Hid (Bx wr w.heap.size 24 A n c (exS j)) ∧ Hid (Below w.heap.size w wr)) (fun iv _ => 5 - (intOf iv).toNat)
  case atStart => exact ⟨0, none, 0, 0, Nat.zero_le _, rfl, Lib.hid HK0.out.2, Lib.hid HK0.out.1⟩
  case round =>
    obtain ⟨j, A, n, c, hj, rfl, HB, HL⟩ := hrel
    have x0 := HB.out.box.cell 0
    by_cases hlt : j < 5
    · have hb1 : Below w.heap.size w (wr.alloc (.cells #[.int .i64 10, .int .i64 0, .int .i64 3, .int .i64 20, .int .i64 5] 2)).drew := (HL.out.alloc HL.out.size _).drew
      have hb2 : Below wr.heap.size wr (wr.alloc (.cells #[.int .i64 10, .int .i64 0, .int .i64 3, .int .i64 20, .int .i64 5] 2)).drew := ((Below.refl _ _).alloc (Nat.le_refl _) _).drew
      have HB1 := Lib.hid (HB.out.below hb2)
      have HB2 := Lib.hid hb1
      have hx1 := HB1.out.box.cell 0
      have hj' : j = 0 ∨ j = 1 ∨ j = 2 ∨ j = 3 ∨ j = 4 := by omega
      clear hb1 hb2 hlt hj
      rcases hj' with rfl | rfl | rfl | rfl | rfl
      case' inl => have HA := Lib.hid (add_any HB1.out.sl 10); have HE : Hid (∃ j' : Nat, j' ≤ 5 ∧ Value.int .i64 1 = .int .i64 (j' : Int) ∧ 5 - j' < 5 - 0 ∧ exS j' = addS (exS 0) 10) := Lib.hid ⟨1, by omega, rfl, by omega, rfl⟩
      case' inr.inl => have HA := Lib.hid (add_any HB1.out.sl 0); have HE : Hid (∃ j' : Nat, j' ≤ 5 ∧ Value.int .i64 2 = .int .i64 (j' : Int) ∧ 5 - j' < 5 - 1 ∧ exS j' = addS (exS 1) 0) := Lib.hid ⟨2, by omega, rfl, by omega, rfl⟩
      case' inr.inr.inl => have HA := Lib.hid (add_any HB1.out.sl 3); have HE : Hid (∃ j' : Nat, j' ≤ 5 ∧ Value.int .i64 3 = .int .i64 (j' : Int) ∧ 5 - j' < 5 - 2 ∧ exS j' = addS (exS 2) 3) := Lib.hid ⟨3, by omega, rfl, by omega, rfl⟩
      case' inr.inr.inr.inl => have HA := Lib.hid (add_any HB1.out.sl 20); have HE : Hid (∃ j' : Nat, j' ≤ 5 ∧ Value.int .i64 4 = .int .i64 (j' : Int) ∧ 5 - j' < 5 - 3 ∧ exS j' = addS (exS 3) 20) := Lib.hid ⟨4, by omega, rfl, by omega, rfl⟩
      case' inr.inr.inr.inr => have HA := Lib.hid (add_any HB1.out.sl 5); have HE : Hid (∃ j' : Nat, j' ≤ 5 ∧ Value.int .i64 5 = .int .i64 (j' : Int) ∧ 5 - j' < 5 - 4 ∧ exS j' = addS (exS 4) 5) := Lib.hid ⟨5, by omega, rfl, by omega, rfl⟩
      all_goals
        go_wp2_with fail
        go_region_law (go_simp; go_at_call 11; refine HA.out.mono ?_; rintro e w2 ⟨B, m, d, rfl, hsl, hb3⟩; have y2 := (HB1.out.below hb3).box.cell 0; have z2 := (HB1.out.below hb3).box.free 0)
      all_goals
        obtain ⟨j', q1, q2, q3, q4⟩ := HE.out
        have HF : Hid (Bx (w2.setCell ⟨w.heap.size, 0, none⟩ (.slice B m d)) w.heap.size 24 B m d (exS j')) := Lib.hid (by rw [q4]; exact (HB1.out.below hb3).set hsl)
        have HG : Hid (Below w.heap.size w (w2.setCell ⟨w.heap.size, 0, none⟩ (.slice B m d))) := Lib.hid ((HB2.out.trans (hb3.mono HB2.out.size)).setCell (Nat.le_refl _) _)
        have HQ := Lib.hid (And.intro q1 (And.intro q2 q3))
        clear q1 q2 q3 q4 hsl hb3 y2 z2 x0 hx1
        generalize w2.setCell ⟨w.heap.size, 0, none⟩ (.slice B m d) = w3 at *
        go_wp2
        go_roundw
        case rel => exact ⟨j', B, m, d, HQ.out.1, HQ.out.2.1, HF, HG⟩
        case measure => simp [intOf]
    · obtain rfl : j = 5 := by omega
      rw [exS5] at HB
      have hn : n = 4 := HB.out.sl.len.symm
      subst hn
      obtain ⟨b, off, rfl⟩ := HB.out.sl.shp (by have := HB.out.sl.le; omega)
      have hcc := HB.out.sl.le
      clear hlt hj
      have HC1 := Lib.hid (has_any HB.out.sl 4)
      rw [show hs [(0, 0), (3, 5), (10, 10), (20, 20)] 4 = true by decide] at HC1
      go_wp2_with fail
      refine HC1.out.mono ?_
      rintro e w1 ⟨rfl, b1⟩
      have HB1 := Lib.hid (HB.out.below b1)
      have HL1 := Lib.hid (HL.out.trans (b1.mono HL.out.size))
      have x1 := HB1.out.box.cell 0
      clear b1 HC1 HB HL
      have HC2 := Lib.hid (has_any HB1.out.sl 3)
      rw [show hs [(0, 0), (3, 5), (10, 10), (20, 20)] 3 = true by decide] at HC2
      go_wp2_with fail
      refine HC2.out.mono ?_
      rintro e w2 ⟨rfl, b2⟩
      have HB2 := Lib.hid (HB1.out.below b2)
      have HL2 := Lib.hid (HL1.out.trans (b2.mono HL1.out.size))
      have x2 := HB2.out.box.cell 0
      clear b2 HC2 HB1 HL1
      have HC3 := Lib.hid (has_any HB2.out.sl 6)
      rw [show hs [(0, 0), (3, 5), (10, 10), (20, 20)] 6 = false by decide] at HC3
      go_wp2_with fail
      refine HC3.out.mono ?_
      rintro e w3 ⟨rfl, b3⟩
      have HB3 := Lib.hid (HB2.out.below b3)
      have HL3 := Lib.hid (HL2.out.trans (b3.mono HL2.out.size))
      have x3 := HB3.out.box.cell 0
      clear b3 HC3 HB2 HL2
      obtain ⟨b', off', e', -, d1, d2⟩ := HB3.out.sl.cel 1 (by omega)
      cases e'
      rw [show (sp [(0, 0), (3, 5), (10, 10), (20, 20)] 1).1 = 3 from rfl] at d1
      rw [show (sp [(0, 0), (3, 5), (10, 10), (20, 20)] 1).2 = 5 from rfl] at d2
      have HC4 := Lib.hid (meets_any HB3.out.sl 1 3)
      rw [show mts [(0, 0), (3, 5), (10, 10), (20, 20)] 1 3 = true by decide] at HC4
      go_wp2_with fail
      refine HC4.out.mono ?_
      rintro e w4 ⟨rfl, b4⟩
      have HB4 := Lib.hid (HB3.out.below b4)
      have HL4 := Lib.hid (HL3.out.trans (b4.mono HL3.out.size))
      have x4 := HB4.out.box.cell 0
      clear b4 HC4 HB3 HL3
      clear d1 d2
      have HC5 := Lib.hid (meets_any HB4.out.sl 11 19)
      rw [show mts [(0, 0), (3, 5), (10, 10), (20, 20)] 11 19 = false by decide] at HC5
      go_wp2_with fail
      refine HC5.out.mono ?_
      rintro e w5 ⟨rfl, b5⟩
      have HB5 := Lib.hid (HB4.out.below b5)
      have HL5 := Lib.hid (HL4.out.trans (b5.mono HL4.out.size))
      have x5 := HB5.out.box.cell 0
      clear b5 HC5 HB4 HL4
      have a6 : Below w5.heap.size w5 (w5.alloc (.cells #[.int .i64 0, .int .i64 10, .int .i64 20, .int .i64 4] 2)) := (Below.refl _ _).alloc (Nat.le_refl _) _
      have HC6 := Lib.hid (cover_any (HB5.out.below a6).sl (li_lit w5 [0, 10, 20, 4] rfl))
      rw [show cov [(0, 0), (3, 5), (10, 10), (20, 20)] [0, 10, 20, 4] = true by decide] at HC6
      go_wp2_with fail
      refine HC6.out.mono ?_
      rintro e w6 ⟨rfl, b6⟩
      have bb6 := a6.trans (b6.mono a6.size)
      have HB6 := Lib.hid (HB5.out.below bb6)
      have HL6 := Lib.hid (HL5.out.trans (bb6.mono HL5.out.size))
      have x6 := HB6.out.box.cell 0
      clear b6 HC6 HB5 HL5 bb6
      have a7 : Below w6.heap.size w6 (w6.alloc (.cells #[.int .i64 0, .int .i64 1] 2)) := (Below.refl _ _).alloc (Nat.le_refl _) _
      have HC7 := Lib.hid (cover_any (HB6.out.below a7).sl (li_lit w6 [0, 1] rfl))
      rw [show cov [(0, 0), (3, 5), (10, 10), (20, 20)] [0, 1] = false by decide] at HC7
      go_wp2_with fail
      refine HC7.out.mono ?_
      rintro e w7 ⟨rfl, b7⟩
      have bb7 := a7.trans (b7.mono a7.size)
      have HB7 := Lib.hid (HB6.out.below bb7)
      have HL7 := Lib.hid (HL6.out.trans (bb7.mono HL6.out.size))
      have x7 := HB7.out.box.cell 0
      clear b7 HC7 HB6 HL6 bb7
      have HC8 := Lib.hid (right_any HB7.out.sl)
      rw [show decide (Rgt [(0, 0), (3, 5), (10, 10), (20, 20)]) = true by decide] at HC8
      go_wp2_with fail
      refine HC8.out.mono ?_
      rintro e w8 ⟨rfl, b8⟩
      have HB8 := Lib.hid (HB7.out.below b8)
      have HL8 := Lib.hid (HL7.out.trans (b8.mono HL7.out.size))
      have x8 := HB8.out.box.cell 0
      clear b8 HC8 HB7 HL7
      have HC9 := Lib.hid (same_any HB8.out.sl HB8.out.sl)
      rw [show decide (([(0, 0), (3, 5), (10, 10), (20, 20)] : List Sp) = [(0, 0), (3, 5), (10, 10), (20, 20)]) = true by decide] at HC9
      go_wp2_with fail
      refine HC9.out.mono ?_
      rintro e w9 ⟨rfl, b9⟩
      have HB9 := Lib.hid (HB8.out.below b9)
      have HL9 := Lib.hid (HL8.out.trans (b9.mono HL8.out.size))
      have x9 := HB9.out.box.cell 0
      clear b9 HC9 HB8 HL8
      have a10 : Below w9.heap.size w9 (w9.alloc (.cells #[.int .i64 1, .int .i64 0] 43)) := (Below.refl _ _).alloc (Nat.le_refl _) _
      have HC10 := Lib.hid (right_any (sl_one w9 1 0))
      rw [show decide (Rgt [((1 : Int), (0 : Int))]) = false by decide] at HC10
      go_wp2_with fail
      refine HC10.out.mono ?_
      rintro e w10 ⟨rfl, b10⟩
      have bb10 := a10.trans (b10.mono a10.size)
      have HB10 := Lib.hid (HB9.out.below bb10)
      have HL10 := Lib.hid (HL9.out.trans (bb10.mono HL9.out.size))
      have x10 := HB10.out.box.cell 0
      clear b10 HC10 HB9 HL9 bb10
      go_wp2
      go_ret
      exact ⟨rfl, HL10.out⟩
end Go.Proofs.Ytadgplpbkephiaa
