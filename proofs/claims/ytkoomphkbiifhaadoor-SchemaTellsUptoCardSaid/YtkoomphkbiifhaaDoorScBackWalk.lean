/- SchemaBack: the walk. -/
import Derived.Test.YtkoomphkbiifhaaDoorScHead
import Derived.Test.YtkoomphkbiifhaaDoorScSome
import Derived.Test.YtkoomphkbiifhaaDoorScBackMath
namespace Go.Proofs.YtkoomphkbiifhaaDoor
open Go.RowKit
set_option linter.unusedVariables false

theorem few_bd {l : List Kd} (h : Few l) : ∀ k ∈ l, k.1.length ≤ 9223372036854775807 ∧ ∀ f ∈ k.2, f.length ≤ 9223372036854775807 := fun k hk => ⟨by have := (h.2 k hk).1; omega, fun f hf => by have := (h.2 k hk).2.2 f hf; omega⟩
theorem right_bd {l : List Kd} (h : rightE l = 0) : ∀ k ∈ l, k.1.length ≤ 9223372036854775807 ∧ ∀ f ∈ k.2, f.length ≤ 9223372036854775807 := fun k hk => by
  have := right_names h k hk
  exact ⟨by have := (name_ok this.1).2.1; omega, fun f hf => by have := (name_ok (this.2.2 f hf)).2.1; omega⟩
theorem few_put {l : List Kd} (h : Few l) : (putL l).length ≤ 5400 := by have := few_len h.2; have := h.1; omega
/-- The three cells of a box of Some. -/
theorem Has.cell3 {w : World} {q : Nat} {t : TypeId} {x y z : Value} (h : Has w q t #[x, y, z]) : w.cell? ⟨q, 0, none⟩ = some x ∧ w.cell? ⟨q, 1, none⟩ = some y ∧ w.cell? ⟨q, 2, none⟩ = some z := ⟨by simpa using h.cell 0, by simpa using h.cell 1, by simpa using h.cell 2⟩
theorem Has.set_ne {w : World} {q : Nat} {t : TypeId} {cs : Array Value} (h : Has w q t cs) (p : Addr) (u : Value) (hp : q ≠ p.block) : Has (w.setCell p u) q t cs := (Below.heap_setCell w p u q hp).trans h

set_option maxHeartbeats 4000000 in
set_option maxRecDepth 100000 in
theorem back_walk (A1 : Option Addr) (n1 c1 : Nat) (o1 : Bool) (a1 : Option Addr) (len1 cap1 : Nat) (zs1 : List Int) (A2 : Option Addr) (n2 c2 : Nat) (o2 : Bool) (a2 : Option Addr) (len2 cap2 : Nat) (zs2 : List Int) (same : Bool)
    (w : World) (hr1 : IsRow .u8 w a1 len1 cap1 zs1) (hz1 : ∀ z ∈ zs1, 0 ≤ z ∧ z ≤ 255) (hr2 : IsRow .u8 w a2 len2 cap2 zs2) (hz2 : ∀ z ∈ zs2, 0 ≤ z ∧ z ≤ 255) (hT : Tabs w) :
    Calls Tryd.prog 4 #[.agg #[.slice A1 n1 c1, .bool o1, .slice a1 len1 cap1], .agg #[.slice A2 n2 c2, .bool o2, .slice a2 len2 cap2], .bool same] w fun e w' => e = .returned (.bool true) ∧ Below w.heap.size w w' := by
  obtain ⟨p, hp⟩ : ∃ p, w.heap.size = p := ⟨_, rfl⟩
  obtain ⟨W, hW⟩ : ∃ W, W = ((w.alloc (.cells #[.slice A1 n1 c1, .bool o1, .slice a1 len1 cap1] 25)).alloc (.cells #[.slice A2 n2 c2, .bool o2, .slice a2 len2 cap2] 25)) := ⟨_, rfl⟩
  have bW : Below w.heap.size w W := by rw [hW]; exact ((Below.refl _ _).alloc (Nat.le_refl _) _).alloc (by simp) _
  have hXq : Has W (p + 1) 25 #[.slice A2 n2 c2, .bool o2, .slice a2 len2 cap2] := by
    rw [hW, ← hp]
    have := heap_alloc_new (w.alloc (.cells #[.slice A1 n1 c1, .bool o1, .slice a1 len1 cap1] 25)) (.cells #[.slice A2 n2 c2, .bool o2, .slice a2 len2 cap2] 25)
    simpa [Has] using this
  have hXp : Has W p 25 #[.slice A1 n1 c1, .bool o1, .slice a1 len1 cap1] := by
    rw [hW, ← hp]
    refine Has.below (B := w.heap.size + 1) (heap_alloc_new w _) ((Below.refl _ _).alloc (by simp) _) (by omega)
  have HW := Lib.hid hW
  have HP := Lib.hid hp
  have HXp := Lib.hid hXp
  have HXq := Lib.hid hXq
  have HR1 := Lib.hid hr1
  have HR2 := Lib.hid hr2
  have HZ1 := Lib.hid hz1
  have HZ2 := Lib.hid hz2
  clear hW hp hXp hXq hr1 hr2 hz1 hz2
  go_enter Tryd.func4, Tryd.ntmps4
  go_wp2_with fail
  rw [← HW.out, HP.out]
  refine (examples_any W (hT.below bW)).mono ?_
  rintro e w1 ⟨rfl, bx⟩
  have B1 := bW.trans (bx.mono bW.size)
  have hXp1 := HXp.out.below bx HXp.out.lt
  have hXq1 := HXq.out.below bx HXq.out.lt
  have HXp1 := Lib.hid hXp1
  have HXq1 := Lib.hid hXq1
  have f1 := hXp1.free 1
  have f2 := hXq1.free 1
  have y1 := hXp1.cell3.2.1
  have y2 := hXq1.cell3.2.1
  clear HXp HXq bx hXp1 hXq1
  go_upto_if 17 with fail
  obtain ⟨W2, hW2⟩ : ∃ W2, W2 = (w1.setCell ⟨p, 1, none⟩ (.bool true)).setCell ⟨p + 1, 1, none⟩ (.bool true) := ⟨_, rfl⟩
  have hXp2 : Has W2 p 25 #[.slice A1 n1 c1, .bool true, .slice a1 len1 cap1] := by
    rw [hW2]; exact Has.set_ne (HXp1.out.put 1 _) _ _ (by simp only; omega)
  have hXq2 : Has W2 (p + 1) 25 #[.slice A2 n2 c2, .bool true, .slice a2 len2 cap2] := by
    rw [hW2]; exact (Has.set_ne HXq1.out ⟨p, 1, none⟩ _ (by simp only; omega)).put 1 _
  have B2 : Below w.heap.size w W2 := by
    rw [hW2]; exact (B1.setCell (by have := HP.out; simp only; omega) _).setCell (by have := HP.out; simp only; omega) _
  have HW2 := Lib.hid hW2
  have HXp2 := Lib.hid hXp2
  have HXq2 := Lib.hid hXq2
  clear hW2 hXp2 hXq2 y1 y2 f1 f2
  rw [← HW2.out]
  clear HXp1 HXq1 HW2
  go_cut [18] from 18 to 18 (fun _ wx => ∃ A n c a len cap zs, Has wx p 25 #[.slice A1 n1 c1, .bool true, .slice a1 len1 cap1] ∧ Has wx (p + 1) 25 #[.slice A n c, .bool true, .slice a len cap] ∧ IsRow .u8 w a len cap zs ∧ (∀ z ∈ zs, 0 ≤ z ∧ z ≤ 255) ∧ Below w.heap.size w wx)
  case first =>
    cases same with
    | false =>
      go_wp2_with fail
      go_meet
      exact ⟨_, _, _, _, _, _, _, HXp2.out, HXq2.out, HR2.out, HZ2.out, B2⟩
    | true =>
      obtain ⟨u0, u1, u2⟩ := HXp2.out.cell3
      obtain ⟨v0, v1, v2⟩ := HXq2.out.cell3
      have g0 := HXq2.out.free 0
      have g1 := HXq2.out.free 1
      have g2 := HXq2.out.free 2
      go_wp2_with fail
      go_meet
      refine ⟨A1, n1, c1, a1, len1, cap1, zs1, ?_, ?_, HR1.out, HZ1.out, ?_⟩
      · exact ((HXp2.out.set_ne _ _ (by simp only; omega)).set_ne _ _ (by simp only; omega)).set_ne _ _ (by simp only; omega)
      · exact ((HXq2.out.put 0 _).put 1 _).put 2 _
      · exact ((B2.setCell (by have := HP.out; simp only; omega) _).setCell (by have := HP.out; simp only; omega) _).setCell (by have := HP.out; simp only; omega) _
  case rest =>
    clear HXp2 HXq2 B2 B1
    rename World => w2
    obtain ⟨A, n, c, a, len, cap, zs, hXp, hXq, hr, hz, B2⟩ := hcut
    obtain ⟨u0, u1, u2⟩ := hXp.cell3
    have HXq := Lib.hid hXq
    clear hXp hXq
    go_wp2_with fail
    refine (some_own (.slice A1 n1 c1) a1 len1 cap1 zs1 w2 (HR1.out.below B2) HZ1.out ⟨_, _, _, rfl⟩).mono ?_
    rintro e w3 ⟨la, Aa, ca, hFa, rfl, hKa, b3⟩
    clear u0 u1 u2
    have B3 := B2.trans (b3.mono B2.size)
    obtain ⟨v0, v1, v2⟩ := (HXq.out.below b3 HXq.out.lt).cell3
    have HKa := Lib.hid hKa
    clear hKa
    go_wp2_with fail
    refine (some_own (.slice A n c) a len cap zs w3 (hr.below B3) hz ⟨_, _, _, rfl⟩).mono ?_
    rintro e w4 ⟨lb, Ab, cb, hFb, rfl, hKb, b4⟩
    clear v0 v1 v2 HXq
    have B4 := B3.trans (b4.mono B3.size)
    have HKa4 := Lib.hid (HKa.out.below b4)
    have HKb4 := Lib.hid hKb
    have pa := few_put hFa
    have pb := few_put hFb
    clear hKb b4 b3 HKa
    go_wp2_with fail
    refine (put_any la Aa ca w4 HKa4.out (by omega)).mono ?_
    rintro e w5 ⟨rfl, b5⟩
    have B5 := B4.trans (b5.mono B4.size)
    have HKa5 := Lib.hid (HKa4.out.below b5)
    have HKb5 := Lib.hid (HKb4.out.below b5)
    clear HKa4 HKb4 b5
    go_wp2_with fail
    refine (get_any (putL la) w5 (by omega) (hT.below B5)).mono ?_
    rintro e w6 ⟨b6, he⟩
    have B6 := B5.trans (b6.mono B5.size)
    have HKa6 := Lib.hid (HKa5.out.below b6)
    have HKb6 := Lib.hid (HKb5.out.below b6)
    clear HKa5 HKb5 b6
    by_cases h0 : rightE la = 0
    · rw [get_put h0] at he
      obtain ⟨Ag, cg, rfl, hKg⟩ := he
      have HKg := Lib.hid hKg
      clear hKg
      go_wp2_with fail
      refine (right_any la Aa ca w6 HKa6.out (hT.below B6) (few_bd hFa)).mono ?_
      rw [h0]
      rintro e w7 ⟨rfl, b7⟩
      have B7 := B6.trans (b7.mono B6.size)
      go_wp2_with fail
      refine (sames_any la la Ag Aa cg ca w7 (HKg.out.below b7) (HKa6.out.below b7)).mono ?_
      rw [show (la == la) = true by simp]
      rintro e w8 ⟨rfl, b8⟩
      have B8 := B7.trans (b8.mono B7.size)
      have HKa8 := Lib.hid ((HKa6.out.below b7).below b8)
      have HKb8 := Lib.hid ((HKb6.out.below b7).below b8)
      clear HKa6 HKb6 b7 b8 HKg
      go_wp2_with fail
      refine (right_any lb Ab cb w8 HKb8.out (hT.below B8) (few_bd hFb)).mono ?_
      by_cases hb0 : rightE lb = 0
      · rw [hb0]
        rintro e w9 ⟨rfl, b9⟩
        have B9 := B8.trans (b9.mono B8.size)
        go_wp2_with fail
        refine (put_any la Aa ca w9 (HKa8.out.below b9) (by omega)).mono ?_
        rintro e w10 ⟨rfl, b10⟩
        have B10 := B9.trans (b10.mono B9.size)
        go_wp2_with fail
        refine (put_any lb Ab cb w10 ((HKb8.out.below b9).below b10) (by omega)).mono ?_
        rintro e w11 ⟨rfl, b11⟩
        have B11 := B10.trans (b11.mono B10.size)
        have ps := put_same h0 hb0
        go_wp2_with fail
        refine (sames_any la lb Aa Ab ca cb w11 (((HKa8.out.below b9).below b10).below b11) (((HKb8.out.below b9).below b10).below b11)).mono ?_
        rw [← ps]
        rintro e w12 ⟨rfl, b12⟩
        have B12 := B11.trans (b12.mono B11.size)
        clear ps
        go_wp2_with fail
        go_ret
        exact ⟨ret_bool (by rw [str_toList, str_toList]; simp), B12⟩
      · obtain ⟨r, hr2⟩ : ∃ r, rightE lb = r := ⟨_, rfl⟩
        rw [hr2] at hb0 ⊢
        have hrn : (r != 0) = true := by simp [hb0]
        rintro e w9 ⟨rfl, b9⟩
        go_wp2_with fail
        go_ret
        exact ⟨rfl, B8.trans (b9.mono B8.size)⟩
    · have hgr := getL_right ((putL la).length + 1) [] (putL la)
      change ∀ g, getT (putL la) = some g → rightE g = 0 at hgr
      generalize getT (putL la) = rg at *
      obtain ⟨r, hr2⟩ : ∃ r, rightE la = r := ⟨_, rfl⟩
      have hrn : (r != 0) = true := by rw [← hr2]; simpa using h0
      cases rg with
      | none =>
        simp only at he
        subst he
        go_wp2_with fail
        refine (right_any la Aa ca w6 HKa6.out (hT.below B6) (few_bd hFa)).mono ?_
        rw [hr2]
        clear hr2
        rintro e w7 ⟨rfl, b7⟩
        go_wp2_with fail
        go_ret
        exact ⟨rfl, B6.trans (b7.mono B6.size)⟩
      | some g =>
        have hg0 := hgr g rfl
        have hne : (g == la) = false := by
          rw [beq_eq_false_iff_ne]
          rintro rfl
          exact h0 hg0
        obtain ⟨Ag, cg, rfl, hKg⟩ := he
        have HKg := Lib.hid hKg
        clear hKg hgr
        go_wp2_with fail
        refine (right_any la Aa ca w6 HKa6.out (hT.below B6) (few_bd hFa)).mono ?_
        rw [hr2]
        clear hr2
        rintro e w7 ⟨rfl, b7⟩
        have B7 := B6.trans (b7.mono B6.size)
        go_wp2_with fail
        refine (sames_any g la Ag Aa cg ca w7 (HKg.out.below b7) (HKa6.out.below b7)).mono ?_
        rw [hne]
        clear hne
        rintro e w8 ⟨rfl, b8⟩
        have B8 := B7.trans (b8.mono B7.size)
        go_wp2_with fail
        refine (right_any g Ag cg w8 ((HKg.out.below b7).below b8) (hT.below B8) (right_bd hg0)).mono ?_
        rw [hg0]
        rintro e w9 ⟨rfl, b9⟩
        go_wp2_with fail
        go_ret
        exact ⟨rfl, B8.trans (b9.mono B8.size)⟩
end Go.Proofs.YtkoomphkbiifhaaDoor
