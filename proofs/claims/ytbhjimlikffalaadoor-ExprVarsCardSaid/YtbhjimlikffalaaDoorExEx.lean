/- Layer 7: the chapter's examples, walked. -/
import Derived.Test.YtbhjimlikffalaaDoorExMade
namespace Go.Proofs.YtbhjimlikffalaaDoor
open Go.RowKit
set_option linter.unusedVariables false

/-- The operations. -/
def opsL : List Nm := [[124, 124], [38, 38], [61, 61], [33, 61], [60], [60, 61], [62], [62, 61], [43], [45], [42], [47], [37]]
theorem ops_any (w : World) : Calls Tryd.prog 40 #[] w fun e w' => ∃ A, e = .returned (.slice A 13 13) ∧ Strs w' A 13 opsL ∧ Below w.heap.size w w' := by
  go_enter Tryd.func40, Tryd.ntmps40
  go_wp2
  go_ret
  exact ⟨_, rfl, strs_new w opsL 9 (by decide), (Below.refl _ _).alloc (Nat.le_refl _) _⟩
set_option maxHeartbeats 8000000 in
theorem ex_any (w : World) (hT : Tabs w) : Calls Tryd.prog 6 #[] w fun e w' => e = .returned (.bool true) ∧ Below w.heap.size w w' := by
  have hmk1 := mkref_any [97] [120]
  have hmk2 := mkref_any [98] [121]
  have HT := Lib.hid hT
  clear hT
  go_enter Tryd.func6, Tryd.ntmps6
  go_wp2_with fail
  refine (hmk1 _).mono ?_
  rintro e w1 ⟨rfl, b1⟩
  go_wp2_with fail
  refine (hmk2 _).mono ?_
  rintro e w2 ⟨rfl, b2⟩
  have b12 := b1.trans (b2.mono b1.size)
  obtain ⟨pk0, be0⟩ := exW_pk w2 (HT.out.below b12)
  have HB0 := Lib.hid (b12.trans (be0.mono b12.size))
  have HK0 := Lib.hid pk0
  clear b1 b2 b12 pk0 be0 hmk1 hmk2
  go_wp2_with fail
  have hc := vars_any (t1 w2.heap.size) (exW w2) HK0.out.2.1 (by rw [size_t1]; omega)
  rw [vars_t1] at hc
  refine hc.mono ?_
  clear hc
  rintro e w3 ⟨⟨A, cl, rfl, sl⟩, b3⟩
  obtain ⟨bl, ol, rfl, hcl⟩ := sl.shape (by simp)
  have HL := Lib.hid (show w3.cell? ⟨bl, ol, none⟩ = some (.string { data := #[97] }) from hcl 0 (by simp))
  clear hcl sl
  have HK3 := Lib.hid (HK0.out.below b3)
  have HB3 := Lib.hid (HB0.out.trans (b3.mono HB0.out.size))
  clear b3 HK0 HB0
  obtain ⟨c0, c1, c2, c3, c4, c5⟩ : six w3 (w2.heap.size + 1 + 1) 3 [45] 0 [] [] (some ⟨w2.heap.size + 1, 0, none⟩) 2 2 := six_has HK3.out.2.2.1
  go_wp2_with fail
  have hc : Calls Tryd.prog 10 #[(e1 w2.heap.size).val] w3 fun e w' => e = .returned (.string { data := #[97, 46, 120, 32, 45, 32, 40, 98, 46, 121, 32, 45, 32, 49, 41] }) ∧ Below w3.heap.size w3 w' := by
    have := putE_any (e1 w2.heap.size) w3 HK3.out.1 HK3.out.2.2.2.2 (right_e1 _) (by rw [put_e1]; simp)
    rw [put_e1] at this
    exact this
  clear c0 c1 c2 c3 c4 c5
  refine hc.mono ?_
  clear hc
  rintro e w4 ⟨rfl, b4⟩
  have HK4 := Lib.hid (HK3.out.below b4)
  have HB4 := Lib.hid (HB3.out.trans (b4.mono HB3.out.size))
  have HL4 := Lib.hid ((b4.cell (p := ⟨bl, ol, none⟩) (World.block_lt_of_cell? _ _ HL.out)).trans HL.out)
  clear b4 HK3 HB3 HL
  obtain ⟨c0, c1, c2, c3, c4, c5⟩ : six w4 (w2.heap.size + 1 + 1) 3 [45] 0 [] [] (some ⟨w2.heap.size + 1, 0, none⟩) 2 2 := six_has HK4.out.2.2.1
  go_wp2_with fail
  have hc : Calls Tryd.prog 9 #[(e1 w2.heap.size).val] w4 fun e w' => e = .returned (.bool true) ∧ Below w4.heap.size w4 w' := by
    have := right_any (e1 w2.heap.size) w4 HK4.out.1 HK4.out.2.2.2.2
    rw [right_e1] at this
    exact this
  clear c0 c1 c2 c3 c4 c5
  refine hc.mono ?_
  clear hc
  rintro e w5 ⟨rfl, b5⟩
  have HK5 := Lib.hid (HK4.out.below b5)
  have HB5 := Lib.hid (HB4.out.trans (b5.mono HB4.out.size))
  have HL5 := Lib.hid ((b5.cell (p := ⟨bl, ol, none⟩) (World.block_lt_of_cell? _ _ HL4.out)).trans HL4.out)
  clear b5 HK4 HB4 HL4
  obtain ⟨c0, c1, c2, c3, c4, c5⟩ : six w5 (w2.heap.size + 1 + 1) 3 [45] 0 [] [] (some ⟨w2.heap.size + 1, 0, none⟩) 2 2 := six_has HK5.out.2.2.1
  go_wp2_with fail
  have hc : Calls Tryd.prog 8 #[(e1 w2.heap.size).val] w5 fun e w' => e = .returned (.int .i64 1) ∧ Below w5.heap.size w5 w' := by
    have := type_any (e1 w2.heap.size) w5 HK5.out.1 HK5.out.2.2.2.2
    rw [type_e1] at this
    exact this
  clear c0 c1 c2 c3 c4 c5
  refine hc.mono ?_
  clear hc
  rintro e w6 ⟨rfl, b6⟩
  have HK6 := Lib.hid (HK5.out.below b6)
  have HB6 := Lib.hid (HB5.out.trans (b6.mono HB5.out.size))
  have HL6 := Lib.hid ((b6.cell (p := ⟨bl, ol, none⟩) (World.block_lt_of_cell? _ _ HL5.out)).trans HL5.out)
  clear b6 HK5 HB5 HL5
  obtain ⟨c0, c1, c2, c3, c4, c5⟩ : six w6 (w2.heap.size + 1 + 1 + 1 + 1) 3 [60] 0 [] [] (some ⟨w2.heap.size + 1 + 1 + 1, 0, none⟩) 2 2 := six_has HK6.out.2.2.2.1
  go_wp2_with fail
  have hc : Calls Tryd.prog 8 #[(t1 w2.heap.size).val] w6 fun e w' => e = .returned (.int .i64 2) ∧ Below w6.heap.size w6 w' := by
    have := type_any (t1 w2.heap.size) w6 HK6.out.2.1 HK6.out.2.2.2.2
    rw [type_t1] at this
    exact this
  clear c0 c1 c2 c3 c4 c5
  refine hc.mono ?_
  clear hc
  rintro e w7 ⟨rfl, b7⟩
  have HK7 := Lib.hid (HK6.out.below b7)
  have HB7 := Lib.hid (HB6.out.trans (b7.mono HB6.out.size))
  have HL7 := Lib.hid ((b7.cell (p := ⟨bl, ol, none⟩) (World.block_lt_of_cell? _ _ HL6.out)).trans HL6.out)
  clear b7 HK6 HB6 HL6
  obtain ⟨c0, c1, c2, c3, c4, c5⟩ : six w7 (w2.heap.size + 1 + 1) 3 [45] 0 [] [] (some ⟨w2.heap.size + 1, 0, none⟩) 2 2 := six_has HK7.out.2.2.1
  go_wp2_with fail
  have s7 := step1 w7 (.cells (cs1 (e1 w2.heap.size)) 24)
  have h7 : Has (w7.alloc (.cells (cs1 (e1 w2.heap.size)) 24)) w7.heap.size 24 (cs1 (e1 w2.heap.size)) := has_at rfl rfl
  have i7 : ET.In (w7.alloc (.cells (cs1 (e1 w2.heap.size)) 24)) (.mk 2 [33] 0 [] [] (some ⟨w7.heap.size, 0, none⟩) 1 [e1 w2.heap.size]) := in1 2 [33] 0 [] [] 1 h7 (HK7.out.1.below s7) (okE_small _ _ _ _ (by simp) (by omega) (by omega))
  have hc : Calls Tryd.prog 8 #[(ET.mk 2 [33] 0 [] [] (some ⟨w7.heap.size, 0, none⟩) 1 [e1 w2.heap.size]).val] (w7.alloc (.cells (cs1 (e1 w2.heap.size)) 24)) fun e w' => e = .returned (.int .i64 0) ∧ Below w7.heap.size w7 w' := by
    have := type_any (ET.mk 2 [33] 0 [] [] (some ⟨w7.heap.size, 0, none⟩) 1 [e1 w2.heap.size]) _ i7 (HK7.out.2.2.2.2.below s7)
    rw [type_n1] at this
    exact this.mono fun e w' h => ⟨h.1, s7.trans (h.2.mono s7.size)⟩
  clear s7 h7 i7
  clear c0 c1 c2 c3 c4 c5
  refine hc.mono ?_
  clear hc
  rintro e w8 ⟨rfl, b8⟩
  have HK8 := Lib.hid (HK7.out.below b8)
  have HB8 := Lib.hid (HB7.out.trans (b8.mono HB7.out.size))
  have HL8 := Lib.hid ((b8.cell (p := ⟨bl, ol, none⟩) (World.block_lt_of_cell? _ _ HL7.out)).trans HL7.out)
  clear b8 HK7 HB7 HL7
  obtain ⟨c0, c1, c2, c3, c4, c5⟩ : six w8 (w2.heap.size + 1 + 1 + 1 + 1) 3 [60] 0 [] [] (some ⟨w2.heap.size + 1 + 1 + 1, 0, none⟩) 2 2 := six_has HK8.out.2.2.2.1
  go_wp2_with fail
  have hc : Calls Tryd.prog 38 #[(t1 w2.heap.size).val] w8 fun e w' => e = .returned (.int .i64 7) ∧ Below w8.heap.size w8 w' := by
    have := size_any (t1 w2.heap.size) w8 HK8.out.2.1 (by rw [size_t1]; omega)
    rw [size_t1] at this
    exact this
  clear c0 c1 c2 c3 c4 c5
  refine hc.mono ?_
  clear hc
  rintro e w9 ⟨rfl, b9⟩
  have HK9 := Lib.hid (HK8.out.below b9)
  have HB9 := Lib.hid (HB8.out.trans (b9.mono HB8.out.size))
  have HL9 := Lib.hid ((b9.cell (p := ⟨bl, ol, none⟩) (World.block_lt_of_cell? _ _ HL8.out)).trans HL8.out)
  clear b9 HK8 HB8 HL8
  obtain ⟨c0, c1, c2, c3, c4, c5⟩ : six w9 (w2.heap.size + 1 + 1) 3 [45] 0 [] [] (some ⟨w2.heap.size + 1, 0, none⟩) 2 2 := six_has HK9.out.2.2.1
  have cl0 := HL9.out
  go_wp2_with fail
  have hc : Calls Tryd.prog 11 #[(e1 w2.heap.size).val, (e1 w2.heap.size).val] w9 fun e w' => e = .returned (.bool true) ∧ Below w9.heap.size w9 w' := by
    have := sameT_any (e1 w2.heap.size) (e1 w2.heap.size) w9 HK9.out.1 HK9.out.1
    rw [same_e1] at this
    exact this
  clear c0 c1 c2 c3 c4 c5
  refine hc.mono ?_
  clear hc
  rintro e w10 ⟨rfl, b10⟩
  have HK10 := Lib.hid (HK9.out.below b10)
  have HB10 := Lib.hid (HB9.out.trans (b10.mono HB9.out.size))
  have HL10 := Lib.hid ((b10.cell (p := ⟨bl, ol, none⟩) (World.block_lt_of_cell? _ _ HL9.out)).trans HL9.out)
  clear b10 HK9 HB9 HL9
  go_wp2_with fail
  have hc : Calls Tryd.prog 39 #[.string { data := #[37] }] w10 fun e w' => e = .returned (.int .i64 6) ∧ w10 = w' := level_any [37] w10
  refine hc.mono ?_
  clear hc cl0
  rintro e w11 ⟨rfl, rfl⟩
  go_wp2_with fail
  refine (ops_any w10).mono ?_
  rintro e w12 ⟨A12, rfl, s12, b12⟩
  have HK12 := Lib.hid (HK10.out.below b12)
  have HB12 := Lib.hid (HB10.out.trans (b12.mono HB10.out.size))
  clear b12 s12 HK10 HB10 HL10
  go_wp2_with fail
  have hc : Calls Tryd.prog 9 #[(nm (-1)).val] w12 fun e w' => e = .returned (.bool false) ∧ Below w12.heap.size w12 w' := by
    have := right_any (nm (-1)) w12 (in_nm _ _ (by omega) (by omega)) HK12.out.2.2.2.2
    rw [right_m1] at this
    exact this
  refine hc.mono ?_
  clear hc
  rintro e w13 ⟨rfl, b13⟩
  go_wp2_with fail
  go_ret
  exact ⟨rfl, HB12.out.trans (b13.mono HB12.out.size)⟩
end Go.Proofs.YtbhjimlikffalaaDoor
