/- heap.down: what stands at i goes down to its place. -/
import Derived.Test.YtplhdmaiammckaaRkUp
namespace Go.Proofs.Ytplhdmaiammckaa
open Go.RowKit
set_option linter.unusedVariables false

/-- What down leaves: moved, or not. -/
def Dwn (w : World) (B g m n : Nat) (v : Value) (l : List Ent) (i0 : Nat) (b : Bool) (w' : World) : Prop :=
  ∃ l' i, Wy w w' B g m n v l l' ∧ Ex l' n i ∧ Kid l' n i ∧ i < n ∧ (b = true → Up l' i) ∧ (b = false → i = i0)
def Down (w : World) (B g m n : Nat) (v : Value) (l : List Ent) (i0 : Nat) (e : Ending) (w' : World) : Prop := ∃ b, e = .returned (.bool b) ∧ Dwn w B g m n v l i0 b w'
theorem kid_none {l : List Ent} {n i : Nat} (h : n ≤ 2 * i + 1) : Kid l n i := fun k h0 h1 e => by
  have : par k = (k - 1) / 2 := rfl
  omega
theorem kid_of {l : List Ent} {n i c : Nat} (hmin : ∀ k, 0 < k → k < n → par k = i → Le (ent l c) (ent l k)) (h : Le (ent l i) (ent l c)) : Kid l n i := fun k h0 h1 e => h.trans (hmin k h0 h1 e)
set_option maxRecDepth 100000 in
set_option maxHeartbeats 1000000 in
theorem down_any {w : World} {B g m n : Nat} {v : Value} {l : List Ent} (h : Ok w B g m v l) (i0 : Nat) (hi0 : i0 < n) (hn : n ≤ l.length) (hx : Ex l n i0) :
    Calls Try.prog 30 #[.iface 58 (.pointer (some ⟨g, 0, none⟩)), .int .i64 i0, .int .i64 n] w fun e w' => Down w B g m n v l i0 e w' := by
  have hf := h.few
  have hn2 : n ≤ 100000 := by omega
  have H0 : Hid (Wy w w B g m n v l l) := Lib.hid ⟨h, .refl _ _ _ _, .refl _ _⟩
  have HX := Lib.hid hx
  clear h hx
  go_enter Try.func30, Try.ntmps30
  go_wp2
  go_loopw [7] (fun iv wr => ∃ (i : Nat) (l' : List Ent), iv = .int .i64 i ∧ i < n ∧ i0 ≤ i ∧ Wy w wr B g m n v l l' ∧ Ex l' n i ∧ (i = i0 ∨ Up l' i)) (fun iv _ => n - (intOf iv).toNat)
  case atStart => exact ⟨i0, l, rfl, hi0, Nat.le_refl _, H0.out, HX.out, .inl rfl⟩
  case round =>
    obtain ⟨i, l', rfl, hin, hii, hw, hx, hu⟩ := hrel
    have hlen := hw.sm.len
    have HW := Lib.hid hw
    have HXX := Lib.hid hx
    have HU := Lib.hid hu
    have HL := Lib.hid hlen
    clear hx hu hw
    have hend : ∀ w2, Below wr.heap.size wr w2 → Kid l' n i → Dwn w B g m n v l i0 (decide (i0 < i)) w2 := fun w2 b2 hk => ⟨l', i, HW.out.below b2, HXX.out, hk, hin, fun e => by
      have := of_decide_eq_true e
      rcases HU.out with e | e
      · omega
      · exact e, fun e => by
      have := of_decide_eq_false e
      omega⟩
    have HEND := Lib.hid hend
    clear hend
    obtain ⟨a, ha⟩ : ∃ a, 2 * i + 1 = a := ⟨_, rfl⟩
    have e1 : 2 * (i : Int) + 1 = (a : Int) := by omega
    have hia : i < a := by omega
    have ha9 : a ≤ 200000 := by omega
    have HA := Lib.hid ha
    by_cases hna : n ≤ a
    · clear hlen ha
      go_wp2
      go_ret
      exact ⟨_, rfl, HEND.out _ (.refl _ _) (kid_none (by have := HA.out; omega))⟩
    · have hna : a < n := by omega
      obtain ⟨b, hb⟩ : ∃ b, a + 1 = b := ⟨_, rfl⟩
      have e2 : (a : Int) + 1 = (b : Int) := by omega
      have hab : a < b := by omega
      have hb9 : b ≤ 200001 := by omega
      have HBB := Lib.hid hb
      by_cases hbn : b < n
      · have hk1 := less_any HW.out.ok b a (by omega) (by omega)
        have HK1 := Lib.hid hk1
        clear hk1 hb ha hlen
        cases hb1 : ltB (ent l' b) (ent l' a) with
        | false =>
          rw [hb1] at HK1
          have hmin : ∀ k, 0 < k → k < n → par k = i → Le (ent l' a) (ent l' k) := fun k h0 h1 e => by
            have e : (k - 1) / 2 = i := e
            have := HA.out
            have := HBB.out
            by_cases e2 : k = a
            · rw [e2]; exact .refl _
            · rw [show k = b by omega]; exact ltB_false hb1
          have hpc : par a = i := by show (a - 1) / 2 = i; have := HA.out; have := HBB.out; omega
          have HMIN := Lib.hid (And.intro hmin hpc)
          clear hmin hpc
          clear hb1
          go_wp2_with fail
          refine HK1.out.mono ?_
          rintro e w2 ⟨rfl, b2⟩
          clear HK1
          have hw2 := HW.out.below b2
          have hk2 := less_any hw2.ok a i (by have := HL.out; omega) (by have := HL.out; omega)
          have HK2 := Lib.hid hk2
          have HW2 := Lib.hid hw2
          have HB2 := Lib.hid b2
          clear hk2 hw2
          cases hb2 : ltB (ent l' a) (ent l' i) with
          | false =>
            rw [hb2] at HK2
            have HQ := Lib.hid hb2
            clear hb2
            go_wp2_with fail
            refine HK2.out.mono ?_
            rintro e w3 ⟨rfl, b3⟩
            go_wp2
            go_ret
            exact ⟨_, rfl, HEND.out _ (HB2.out.trans (b3.mono HB2.out.size)) (kid_of HMIN.out.1 (ltB_false HQ.out))⟩
          | true =>
            rw [hb2] at HK2
            have hstep := HXX.out.down hin (by have := HL.out; omega) (by omega) (by omega) HMIN.out.2 HMIN.out.1 hb2 (.inr fun _ _ => trivial)
            have HST := Lib.hid hstep
            clear hstep hb2
            go_wp2_with fail
            refine HK2.out.mono ?_
            rintro e w3 ⟨rfl, b3⟩
            have hw3 := HW2.out.below b3
            have hsw := swap_any hw3.ok i a (by have := HL.out; omega) (by have := HL.out; omega) (by omega)
            have HW3 := Lib.hid hw3
            have HSW := Lib.hid hsw
            clear hw3 hsw b3
            go_wp2_with fail
            refine HSW.out.mono ?_
            rintro e w4 ⟨rfl, o4, q4⟩
            go_wp2
            go_roundw
            case rel => exact ⟨a, swp l' i a, rfl, by omega, by omega, ⟨o4, HW3.out.fq.trans' q4, HW3.out.sm.swp hin (by omega) hn⟩, HST.out.1, .inr HST.out.2⟩
            case measure => simp [intOf]; omega
        | true =>
          rw [hb1] at HK1
          have hmin : ∀ k, 0 < k → k < n → par k = i → Le (ent l' b) (ent l' k) := fun k h0 h1 e => by
            have e : (k - 1) / 2 = i := e
            have := HA.out
            have := HBB.out
            by_cases e2 : k = a
            · rw [e2]; exact (ltB_true hb1).1
            · rw [show k = b by omega]; exact .refl _
          have hpc : par b = i := by show (b - 1) / 2 = i; have := HA.out; have := HBB.out; omega
          have HMIN := Lib.hid (And.intro hmin hpc)
          clear hmin hpc
          clear hb1
          go_wp2_with fail
          refine HK1.out.mono ?_
          rintro e w2 ⟨rfl, b2⟩
          clear HK1
          have hw2 := HW.out.below b2
          have hk2 := less_any hw2.ok b i (by have := HL.out; omega) (by have := HL.out; omega)
          have HK2 := Lib.hid hk2
          have HW2 := Lib.hid hw2
          have HB2 := Lib.hid b2
          clear hk2 hw2
          cases hb2 : ltB (ent l' b) (ent l' i) with
          | false =>
            rw [hb2] at HK2
            have HQ := Lib.hid hb2
            clear hb2
            go_wp2_with fail
            refine HK2.out.mono ?_
            rintro e w3 ⟨rfl, b3⟩
            go_wp2
            go_ret
            exact ⟨_, rfl, HEND.out _ (HB2.out.trans (b3.mono HB2.out.size)) (kid_of HMIN.out.1 (ltB_false HQ.out))⟩
          | true =>
            rw [hb2] at HK2
            have hstep := HXX.out.down hin (by have := HL.out; omega) (by omega) (by omega) HMIN.out.2 HMIN.out.1 hb2 (.inr fun _ _ => trivial)
            have HST := Lib.hid hstep
            clear hstep hb2
            go_wp2_with fail
            refine HK2.out.mono ?_
            rintro e w3 ⟨rfl, b3⟩
            have hw3 := HW2.out.below b3
            have hsw := swap_any hw3.ok i b (by have := HL.out; omega) (by have := HL.out; omega) (by omega)
            have HW3 := Lib.hid hw3
            have HSW := Lib.hid hsw
            clear hw3 hsw b3
            go_wp2_with fail
            refine HSW.out.mono ?_
            rintro e w4 ⟨rfl, o4, q4⟩
            go_wp2
            go_roundw
            case rel => exact ⟨b, swp l' i b, rfl, by omega, by omega, ⟨o4, HW3.out.fq.trans' q4, HW3.out.sm.swp hin (by omega) hn⟩, HST.out.1, .inr HST.out.2⟩
            case measure => simp [intOf]; omega
      · clear hb ha hlen
        have hmin : ∀ k, 0 < k → k < n → par k = i → Le (ent l' a) (ent l' k) := fun k h0 h1 e => by
          have e : (k - 1) / 2 = i := e
          have := HA.out
          have := HBB.out
          rw [show k = a by omega]; exact .refl _
        have hpc : par a = i := by show (a - 1) / 2 = i; have := HA.out; have := HBB.out; omega
        have HMIN := Lib.hid (And.intro hmin hpc)
        clear hmin hpc
        have b2 := Below.refl wr.heap.size wr
        have hw2 := HW.out.below b2
        have hk2 := less_any hw2.ok a i (by have := HL.out; omega) (by have := HL.out; omega)
        have HK2 := Lib.hid hk2
        have HW2 := Lib.hid hw2
        have HB2 := Lib.hid b2
        clear hk2 hw2
        cases hb2 : ltB (ent l' a) (ent l' i) with
        | false =>
          rw [hb2] at HK2
          have HQ := Lib.hid hb2
          clear hb2
          go_wp2_with fail
          refine HK2.out.mono ?_
          rintro e w3 ⟨rfl, b3⟩
          go_wp2
          go_ret
          exact ⟨_, rfl, HEND.out _ (HB2.out.trans (b3.mono HB2.out.size)) (kid_of HMIN.out.1 (ltB_false HQ.out))⟩
        | true =>
          rw [hb2] at HK2
          have hstep := HXX.out.down hin (by have := HL.out; omega) (by omega) (by omega) HMIN.out.2 HMIN.out.1 hb2 (.inr fun _ _ => trivial)
          have HST := Lib.hid hstep
          clear hstep hb2
          go_wp2_with fail
          refine HK2.out.mono ?_
          rintro e w3 ⟨rfl, b3⟩
          have hw3 := HW2.out.below b3
          have hsw := swap_any hw3.ok i a (by have := HL.out; omega) (by have := HL.out; omega) (by omega)
          have HW3 := Lib.hid hw3
          have HSW := Lib.hid hsw
          clear hw3 hsw b3
          go_wp2_with fail
          refine HSW.out.mono ?_
          rintro e w4 ⟨rfl, o4, q4⟩
          go_wp2
          go_roundw
          case rel => exact ⟨a, swp l' i a, rfl, by omega, by omega, ⟨o4, HW3.out.fq.trans' q4, HW3.out.sm.swp hin (by omega) hn⟩, HST.out.1, .inr HST.out.2⟩
          case measure => simp [intOf]; omega
end Go.Proofs.Ytplhdmaiammckaa
