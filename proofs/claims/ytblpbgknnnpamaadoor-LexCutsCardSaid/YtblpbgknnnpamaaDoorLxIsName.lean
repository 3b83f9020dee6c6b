/- IsName: what it tells, as a function of the text's bytes. -/
import Derived.Test.YtblpbgknnnpamaaDoorLxTabs
import Derived.Lib.OthersKept
import Derived.Lib.TrimUEq

namespace Go.Proofs.YtblpbgknnnpamaaDoor
open Go.RowKit
set_option linter.unusedVariables false

theorem same_within (l : Nm) (w : World) :
    Calls Tryd.prog 17 #[.string (str l), .string { data := #[87, 73, 84, 72, 73, 78] }] w fun e w' => e = .returned (.bool (l == wWithin)) ∧ w = w' := same_any l wWithin w
theorem same_by (l : Nm) (w : World) :
    Calls Tryd.prog 17 #[.string (str l), .string { data := #[66, 89] }] w fun e w' => e = .returned (.bool (l == wBy)) ∧ w = w' := same_any l wBy w
theorem name_of {l : Nm} (h0 : l ≠ []) (h1 : ¬ 24 < l.length) (h2 : (l == wWithin) = false) (h3 : (l == wBy) = false) : nameB l = (Lib.validD l && runesB l.length true l) := by
  have : l.length ≤ 24 := by omega
  unfold nameB
  rw [h2, h3, decide_eq_true h0, decide_eq_true this]
  simp
theorem not_name {l : Nm} (h : l = [] ∨ 24 < l.length ∨ l = wWithin ∨ l = wBy) : nameB l = false := by
  unfold nameB
  rcases h with h | h | h | h
  · simp [h]
  · have : ¬ l.length ≤ 24 := by omega
    simp [this]
  · simp [h]
  · simp [h]

set_option maxHeartbeats 1000000 in
theorem isName_any (l : Nm) (w : World) (hs : l.length ≤ 9223372036854775807) (hT : Tabs w) :
    Calls Tryd.prog 11 #[.string (str l)] w fun e w' => e = .returned (.bool (nameB l)) ∧ Below w.heap.size w w' := by
  have hz := str_size l
  by_cases h0 : l = []
  · rw [not_name (.inl h0)]
    subst h0
    go_enter Tryd.func11, Tryd.ntmps11
    go_wp2
    go_ret
    exact ⟨rfl, Below.refl _ _⟩
  by_cases h24 : 24 < l.length
  · rw [not_name (.inr (.inl h24))]
    go_enter Tryd.func11, Tryd.ntmps11
    go_wp2
    go_ret
    exact ⟨rfl, Below.refl _ _⟩
  have hpos : 0 < l.length := by cases l <;> simp_all
  have d0 : ((l.length : Int) == 0) = false := by simp; omega
  have d1 : ((l.length : Int) > 24) = False := by simp; omega
  cases hw : (l == wWithin) with
  | true =>
    rw [not_name (.inr (.inr (.inl (by simpa using hw))))]
    go_enter Tryd.func11, Tryd.ntmps11
    go_wp2_with (go_at_call 17; refine (same_within l _).mono ?_; rintro e w' ⟨rfl, rfl⟩)
    go_ret
    exact ⟨rfl, Below.refl _ _⟩
  | false =>
  cases hy : (l == wBy) with
  | true =>
    rw [not_name (.inr (.inr (.inr (by simpa using hy))))]
    go_enter Tryd.func11, Tryd.ntmps11
    go_wp2_with fail
    refine (same_within l _).mono ?_; rintro e w' ⟨rfl, rfl⟩
    go_wp2_with fail
    refine (same_by l _).mono ?_; rintro e w' ⟨rfl, rfl⟩
    go_wp2_with fail
    go_ret
    exact ⟨rfl, Below.refl _ _⟩
  | false =>
  have HV := Lib.hid (name_of h0 h24 hw hy)
  go_enter Tryd.func11, Tryd.ntmps11
  go_wp2_with fail
  refine (same_within l _).mono ?_; rintro e w' ⟨rfl, rfl⟩
  go_wp2_with fail
  refine (same_by l _).mono ?_; rintro e w' ⟨rfl, rfl⟩
  cases hv : Lib.validD l with
  | false =>
    go_wp2_with fail
    refine (valid_any l _ hs hT).mono ?_; rintro e w1 ⟨rfl, hb1⟩
    go_wp2_with fail
    go_ret
    exact ⟨ret_bool (by rw [HV.out, hv]; rfl), hb1⟩
  | true =>
    go_wp2_with fail
    refine (valid_any l _ hs hT).mono ?_; rintro e w1 ⟨rfl, hb1⟩
    have hv2 : nameB l = runesB l.length true l := by rw [HV.out, hv]; rfl
    have HV2 := Lib.hid hv2
    clear HV hv2
    go_wp2_with fail
    clear hv d0 d1 hw hy
    go_loopw [] (fun wr => ∃ pos fuel : Nat, wr.heap[w1.heap.size]? = some (.stringIter (str l) pos) ∧ Below w1.heap.size w1 wr ∧ runesB fuel (decide (pos = 0)) (l.drop pos) = runesB l.length true l ∧ l.length ≤ pos + fuel) (fun wr => (str l).size - wr.iterPos w1.heap.size)
    case atStart =>
      refine ⟨0, l.length, World.iter_heap w1 (str l) 0, (Below.refl _ _).alloc (Nat.le_refl _) _, by simp, by omega⟩
    case round =>
      obtain ⟨pos, fuel, hit, hb2, hrest, hfu⟩ := hrel
      have HR := Lib.hid hrest
      clear hrest
      have hsz : w1.heap.size < wr.heap.size := (Array.getElem?_eq_some_iff.1 hit).1
      by_cases hp : pos < (str l).size
      · have hp' : pos < l.length := by rw [← hz]; exact hp
        have hnx : ∀ ty, (Instr.next (.pointer (some ⟨w1.heap.size, 0, none⟩)) true ty).run Tryd.prog wr = _ := fun ty => Lib.run_next_any_at wr w1.heap.size (str l) pos ty hit hp
        have hwd : 1 ≤ (Utf8.decode (str l) pos).2 := Lib.width_pos _ _
        have hrl : (Utf8.decode (str l) pos).1 ≤ 1114111 := Lib.rune_le _ _
        have hit2 := Lib.iterAt_heap wr w1.heap.size (str l) pos (pos + (Utf8.decode (str l) pos).2) hit
        have hb3 := Lib.below_iterAt hb2 (k := w1.heap.size) (by omega) (str l) (pos + (Utf8.decode (str l) pos).2)
        obtain ⟨f, hf⟩ : ∃ f, fuel = f + 1 := ⟨fuel - 1, by omega⟩
        subst hf
        have hne : l.drop pos ≠ [] := by
          intro h
          have := congrArg List.length h
          simp at this
          omega
        have hst := runesB_step f (decide (pos = 0)) (l.drop pos) hne
        rw [← dec_at, List.drop_drop] at hst
        have HS := Lib.hid hst
        clear hst
        obtain ⟨r, hr⟩ : ∃ r, (Utf8.decode (str l) pos).1 = r := ⟨_, rfl⟩
        obtain ⟨d, hd⟩ : ∃ d, (Utf8.decode (str l) pos).2 = d := ⟨_, rfl⟩
        rw [hr] at hrl
        rw [hd] at hwd hit2 hb3
        rw [hr, hd] at HS
        cases hbg : begB (r : Int) with
        | true =>
          go_wp2_with (go_at_call 19; refine (begins_any (r : Int) _ (by omega) (by omega)).mono ?_; rintro e w' ⟨rfl, rfl⟩)
          go_roundw
          case rel =>
            refine ⟨pos + d, f, hit2, hb3, ?_, by omega⟩
            rw [← HR.out, HS.out, hbg, decide_eq_false (by omega)]
            simp
          case measure =>
            simp only [World.iterPos, hit2, hit]
            omega
        | false =>
          by_cases hp0 : pos = 0
          · have HP := Lib.hid hp0
            have e0 : ((pos : Int) == 0) = true := by simp; omega
            clear hp0
            go_wp2_with (go_at_call 19; refine (begins_any (r : Int) _ (by omega) (by omega)).mono ?_; rintro e w' ⟨rfl, rfl⟩)
            go_ret
            refine ⟨ret_bool ?_, hb1.trans (hb3.mono hb1.size)⟩
            rw [HV2.out, ← HR.out, HS.out, hbg, decide_eq_true HP.out]
            simp
          · have HP := Lib.hid hp0
            have e0 : ((pos : Int) == 0) = false := by simp; omega
            clear hp0
            cases hdg : digB (r : Int) with
            | true =>
              go_wp2_with (first | (go_at_call 19; refine (begins_any (r : Int) _ (by omega) (by omega)).mono ?_; rintro e w' ⟨rfl, rfl⟩) | (go_at_call 20; refine (isDigit_any (r : Int) _ (by omega) (by omega)).mono ?_; rintro e w' ⟨rfl, rfl⟩))
              go_roundw
              case rel =>
                refine ⟨pos + d, f, hit2, hb3, ?_, by omega⟩
                rw [← HR.out, HS.out, hbg, hdg, decide_eq_false (by omega), decide_eq_false HP.out]
                simp
              case measure =>
                simp only [World.iterPos, hit2, hit]
                omega
            | false =>
              go_wp2_with (first | (go_at_call 19; refine (begins_any (r : Int) _ (by omega) (by omega)).mono ?_; rintro e w' ⟨rfl, rfl⟩) | (go_at_call 20; refine (isDigit_any (r : Int) _ (by omega) (by omega)).mono ?_; rintro e w' ⟨rfl, rfl⟩))
              go_ret
              refine ⟨ret_bool ?_, hb1.trans (hb3.mono hb1.size)⟩
              rw [HV2.out, ← HR.out, HS.out, hbg, hdg]
              simp
      · have hnx : ∀ ty, (Instr.next (.pointer (some ⟨w1.heap.size, 0, none⟩)) true ty).run Tryd.prog wr = _ := fun ty => Lib.run_next_end_at wr w1.heap.size (str l) pos ty hit hp
        go_wp2_with fail
        go_ret
        refine ⟨ret_bool ?_, hb1.trans (hb2.mono hb1.size)⟩
        rw [HV2.out, ← HR.out, List.drop_eq_nil_of_le (by omega), runesB_nil]
end Go.Proofs.YtblpbgknnnpamaaDoor
