/- The chapter's examples, which stand ahead of each statement. -/
import Derived.Test.YtkoomphkbiifhaaDoorScGet
namespace Go.Proofs.YtkoomphkbiifhaaDoor
open Go.RowKit
set_option linter.unusedVariables false

/-- The examples' kinds, and what they are put as. -/
def exK : List Kd := [([65], [[120], [121]]), ([195, 169], [])]
def exT : Nm := [65, 40, 120, 44, 121, 41, 59, 195, 169, 40, 41, 59]
theorem ex1 : nameB [97, 95, 57] = true := by kernel_rfl
theorem ex2 : nameB [57, 97] = false := by kernel_rfl
theorem ex3 : nameB [66, 89] = false := by kernel_rfl
theorem ex4 : nameB [255] = false := by kernel_rfl
theorem ex5 : nameB [239, 191, 189] = true := by kernel_rfl
theorem ex6 : rightE exK = 0 := by kernel_rfl
theorem ex7 : rightE [] = 4 := by kernel_rfl
theorem ex8 : idx (fun x : Kd => x.1 == [65]) exK = 0 := by kernel_rfl
theorem ex9 : idx (fun x : Nm => x == [121]) [[120], [121]] = 1 := by kernel_rfl
theorem ex10 : putL exK = exT := by kernel_rfl
theorem ex11 : getT exT = some exK := by kernel_rfl
theorem ex12 : getT [65, 40, 120, 44, 120, 41, 59] = none := by kernel_rfl
theorem ex13 : (exK == exK) = true := by simp
theorem ex_len : ∀ k ∈ exK, k.1.length ≤ 9223372036854775807 ∧ ∀ f ∈ k.2, f.length ≤ 9223372036854775807 := by
  intro k hk
  simp [exK] at hk
  rcases hk with rfl | rfl <;> simp

/-- A world with the examples' kinds in it. -/
theorem ex_mem (w : World) : Kinds ((w.alloc (.cells #[.string { data := #[120] }, .string { data := #[121] }] 9)).alloc (.cells #[.string { data := #[65] }, .slice (some ⟨w.heap.size, 0, none⟩) 2 2, .string { data := #[195, 169] }, .slice none 0 0] 40)) (some ⟨w.heap.size + 1, 0, none⟩) 2 exK := by
  refine ⟨fun i k hk => ?_, (fun h => by cases h), by decide, by unfold maxLen; omega⟩
  have hl : i < exK.length := by
    rcases Nat.lt_or_ge i exK.length with h | h
    · exact h
    · rw [List.getElem?_eq_none h] at hk; cases hk
  have h2 : exK.length = 2 := rfl
  match i, hl, hk with
  | 0, _, hk =>
    cases hk
    refine ⟨_, 0, some ⟨w.heap.size, 0, none⟩, 2, rfl, by go_simp; rfl, by go_simp, ⟨fun i u hu => ⟨_, rfl, ?_⟩, (fun h => by cases h), by simp, by unfold maxLen; omega⟩⟩
    rw [Go.WideShapes.add_plain]
    match i, hu with
    | 0, hu => cases hu; go_simp; rfl
    | 1, hu => cases hu; go_simp; rfl
  | 1, _, hk =>
    cases hk
    exact ⟨_, 0, none, 0, rfl, by go_simp; rfl, by go_simp, Strs.nil _⟩
set_option maxHeartbeats 2000000 in
set_option maxRecDepth 100000 in
theorem examples_any (w : World) (hT : Tabs w) :
    Calls Tryd.prog 8 #[] w fun e w' => e = .returned (.bool true) ∧ Below w.heap.size w w' := by
  obtain ⟨W, hW⟩ : ∃ W, W = ((w.alloc (.cells #[.string { data := #[120] }, .string { data := #[121] }] 9)).alloc (.cells #[.string { data := #[65] }, .slice (some ⟨w.heap.size, 0, none⟩) 2 2, .string { data := #[195, 169] }, .slice none 0 0] 40)) := ⟨_, rfl⟩
  have hK : Kinds W (some ⟨w.heap.size + 1, 0, none⟩) 2 exK := by rw [hW]; exact ex_mem w
  have bW : Below w.heap.size w W := by rw [hW]; exact ((Below.refl _ _).alloc (Nat.le_refl _) _).alloc (by simp) _
  have hTW := hT.below bW
  have HW := Lib.hid hW
  have HK := Lib.hid hK
  clear hW hK
  go_enter Tryd.func8, Tryd.ntmps8
  go_wp2_with fail
  rw [← HW.out]
  have B0 := Below.refl W.heap.size W
  refine (get_any exT W (by decide) hTW).mono ?_
  rw [ex11]
  rintro e w1 ⟨b1, A1, k1, rfl, hK1⟩
  have B1 := B0.trans (b1.mono B0.size)
  have HK1 := Lib.hid hK1
  have HB1 := Lib.hid B1
  clear b1 hK1 B0
  go_wp2_with fail
  refine (get_any [65, 40, 120, 44, 120, 41, 59] w1 (by decide) (hTW.below B1)).mono ?_
  rw [ex12]
  rintro e w2 ⟨b2, rfl⟩
  have B2 := B1.trans (b2.mono B1.size)
  have HK2 := Lib.hid (HK1.out.below b2)
  have D2 := Below.refl w2.heap.size w2
  clear b2 B1 HK1 HB1
  go_wp2_with fail
  refine (isName_any [97, 95, 57] w2 (by decide) (hTW.below B2)).mono ?_
  rw [ex1]
  rintro e w3 ⟨rfl, b3⟩
  have B3 := B2.trans (b3.mono B2.size)
  have D3 := D2.trans (b3.mono D2.size)
  clear b3 B2 D2
  go_wp2_with fail
  refine (isName_any [57, 97] w3 (by decide) (hTW.below B3)).mono ?_
  rw [ex2]
  rintro e w4 ⟨rfl, b4⟩
  have B4 := B3.trans (b4.mono B3.size)
  have D4 := D3.trans (b4.mono D3.size)
  clear b4 B3 D3
  go_wp2_with fail
  refine (isName_any [66, 89] w4 (by decide) (hTW.below B4)).mono ?_
  rw [ex3]
  rintro e w5 ⟨rfl, b5⟩
  have B5 := B4.trans (b5.mono B4.size)
  have D5 := D4.trans (b5.mono D4.size)
  clear b5 B4 D4
  go_wp2_with fail
  refine (isName_any [255] w5 (by decide) (hTW.below B5)).mono ?_
  rw [ex4]
  rintro e w6 ⟨rfl, b6⟩
  have B6 := B5.trans (b6.mono B5.size)
  have D6 := D5.trans (b6.mono D5.size)
  clear b6 B5 D5
  go_wp2_with fail
  refine (isName_any [239, 191, 189] w6 (by decide) (hTW.below B6)).mono ?_
  rw [ex5]
  rintro e w7 ⟨rfl, b7⟩
  have B7 := B6.trans (b7.mono B6.size)
  have D7 := D6.trans (b7.mono D6.size)
  clear b7 B6 D6
  go_wp2_with fail
  refine (right_any exK _ 2 w7 (HK.out.below B7) (hTW.below B7) ex_len).mono ?_
  rw [ex6]
  rintro e w8 ⟨rfl, b8⟩
  have B8 := B7.trans (b8.mono B7.size)
  have D8 := D7.trans (b8.mono D7.size)
  clear b8 B7 D7
  go_wp2_with fail
  refine (right_any [] none 0 w8 (Kinds.nil _) (hTW.below B8) (fun k hk => by cases hk)).mono ?_
  rw [ex7]
  rintro e w9 ⟨rfl, b9⟩
  have B9 := B8.trans (b9.mono B8.size)
  have D9 := D8.trans (b9.mono D8.size)
  clear b9 B8 D8
  go_wp2_with fail
  refine (find_any exK _ 2 [65] w9 (HK.out.below B9)).mono ?_
  rw [ex8]
  rintro e w10 ⟨rfl, b10⟩
  have B10 := B9.trans (b10.mono B9.size)
  have D10 := D9.trans (b10.mono D9.size)
  clear b10 B9 D9
  obtain ⟨F, d, c0, c1, hst⟩ : ∃ F d, w10.cell? ⟨w.heap.size + 1, 0, none⟩ = some (.string (str [65])) ∧ w10.cell? ⟨w.heap.size + 1, 1, none⟩ = some (.slice F 2 d) ∧ Strs w10 F d [[120], [121]] := by
    obtain ⟨b, off, e, hc⟩ := (HK.out.below B10).shape (by decide)
    cases e
    obtain ⟨F, d, h1, h2, h3⟩ := hc 0 (by decide)
    exact ⟨F, d, h1, h2, h3⟩
  go_wp2_with fail
  refine (field_any [65] [[120], [121]] F d [121] w10 hst).mono ?_
  rw [ex9]
  rintro e w11 ⟨rfl, b11⟩
  have B11 := B10.trans (b11.mono B10.size)
  have D11 := D10.trans (b11.mono D10.size)
  clear b11 B10 D10 c0 c1 hst
  go_wp2_with fail
  refine (put_any exK _ 2 w11 (HK.out.below B11) (by decide)).mono ?_
  rw [ex10]
  rintro e w12 ⟨rfl, b12⟩
  have B12 := B11.trans (b12.mono B11.size)
  have D12 := D11.trans (b12.mono D11.size)
  clear b12 B11 D11
  have eT : (str exT).toList = [65, 40, 120, 44, 121, 41, 59, 195, 169, 40, 41, 59] := str_toList exT
  go_wp2_with fail
  refine (sames_any exK exK _ A1 2 k1 w12 (HK.out.below B12) (HK2.out.below D12)).mono ?_
  rw [ex13]
  rintro e w13 ⟨rfl, b13⟩
  go_wp2_with fail
  go_ret
  exact ⟨rfl, bW.trans ((B12.trans (b13.mono B12.size)).mono bW.size)⟩
end Go.Proofs.YtkoomphkbiifhaaDoor
