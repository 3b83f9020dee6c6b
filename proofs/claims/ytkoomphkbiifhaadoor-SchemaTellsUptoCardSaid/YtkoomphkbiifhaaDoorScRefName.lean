/- The reference's IsName tells what the program's does. -/
import Derived.Test.YtkoomphkbiifhaaDoorScRefRune2
import Derived.Lib.MapLaws
namespace Go.Proofs.YtkoomphkbiifhaaDoor
open Go.RowKit
set_option linter.unusedVariables false
theorem runeR_nil (l : Nm) : (runeR l).1 ≤ 1114111 ∧ (runeR l).2 ≤ 4 := by
  unfold runeR
  split
  · simp
  · refine ⟨Lib.decodeL_rune l, ?_⟩
    rw [Lib.decodeL_N]
    unfold Lib.decodeN
    repeat' split
    all_goals simp
theorem runeR_len {l : Nm} (h : l ≠ []) : (runeR l).2 ≤ l.length := by
  unfold runeR
  split
  · simp
  · exact Lib.decodeL_le l h
/-- A step of J, by the reference's rune. -/
theorem J_rune (b : Bool) {l : Nm} (h : l ≠ []) : J b l = (!decide ((runeR l).2 = 0) && (begB ((runeR l).1 : Int) || (!b && digB ((runeR l).1 : Int))) && J false (l.drop (runeR l).2)) := by
  rw [J_step b l h]
  have w := dec_w l
  by_cases hb : (Lib.decodeL l).1 = 65533 ∧ (Lib.decodeL l).2 = 1
  · have : runeR l = (0, 0) := by unfold runeR; rw [if_pos (.inr hb)]
    rw [this, decide_eq_true hb]
    simp
  · have : runeR l = Lib.decodeL l := by unfold runeR; rw [if_neg (by rintro (h0 | h0); exact h h0; exact hb h0)]
    rw [this, decide_eq_false hb, decide_eq_false (show ¬ (Lib.decodeL l).2 = 0 by omega)]
theorem extract_str (l : Nm) (k : Nat) : (str l).extract k l.length = str (l.drop k) := by
  rw [← str_of ((str l).extract k l.length)]
  congr 1
  rw [Lib.extract_data, str_data]
  rw [List.take_of_length_le (by rw [List.length_drop]; omega)]
set_option maxHeartbeats 1000000 in
theorem rname_any (l : Nm) (w : World) (hl : l.length ≤ 9223372036854775807) :
    Calls Tryd.prog 19 #[.string (str l)] w fun e w' => e = .returned (.bool (nameB l)) ∧ w = w' := by
  have hz := str_size l
  by_cases h0 : l = []
  · rw [not_name (.inl h0)]
    subst h0
    have es : (str ([] : Nm)).toList = [] := str_toList []
    go_enter Tryd.func19, Tryd.ntmps19
    go_wp2_with fail
    go_ret
    exact ⟨rfl, rfl⟩
  have es : (str l).toList.isEmpty = false := by rw [str_toList]; simpa using h0
  have es2 : ((str l).toList = []) = False := by rw [str_toList]; simpa using h0
  have hp : 0 < l.length := List.length_pos_iff.2 h0
  by_cases h24 : 24 < l.length
  · rw [not_name (.inr (.inl h24))]
    go_enter Tryd.func19, Tryd.ntmps19
    go_wp2_with fail
    go_ret
    exact ⟨rfl, rfl⟩
  have q1 : ((str l).toList == [87, 73, 84, 72, 73, 78]) = (l == wWithin) := by rw [str_toList]; rfl
  have q2 : ((str l).toList == [66, 89]) = (l == wBy) := by rw [str_toList]; rfl
  cases hw : (l == wWithin) with
  | true =>
    rw [not_name (.inr (.inr (.inl (by simpa using hw))))]
    go_enter Tryd.func19, Tryd.ntmps19
    go_wp2_with fail
    go_ret
    exact ⟨rfl, rfl⟩
  | false =>
  cases hy : (l == wBy) with
  | true =>
    rw [not_name (.inr (.inr (.inr (by simpa using hy))))]
    go_enter Tryd.func19, Tryd.ntmps19
    go_wp2_with fail
    go_ret
    exact ⟨rfl, rfl⟩
  | false =>
  have HV := Lib.hid (show nameB l = J true l from by
    rw [nameB_J, hw, hy, decide_eq_true h0, decide_eq_true (show l.length ≤ 24 by omega)]; simp)
  go_enter Tryd.func19, Tryd.ntmps19
  go_wp2_with fail
  clear q1 q2 hw hy
  go_loop [3] (fun i => ∃ k : Nat, k ≤ l.length ∧ i = .int .i64 k ∧ J (decide (k = 0)) (l.drop k) = J true l) (fun i => l.length - (intOf i).toNat)
  case atStart => exact ⟨0, Nat.zero_le _, rfl, rfl⟩
  case round =>
    obtain ⟨k, hk, rfl, hj⟩ := hrel
    have HJ := Lib.hid hj
    clear hj
    by_cases hlt : k < l.length
    · have hne : l.drop k ≠ [] := by
        intro h
        have := congrArg List.length h
        simp at this
        omega
      have hex := extract_str l k
      have hst := J_rune (decide (k = 0)) hne
      have hrl := runeR_nil (l.drop k)
      have hrn := runeR_len hne
      rw [List.length_drop] at hrn
      have hrc := rune_any (l.drop k) w (by rw [List.length_drop]; omega)
      unfold RuneIs at hrc
      rw [List.drop_drop] at hst
      generalize (runeR (l.drop k)).1 = r at *
      generalize (runeR (l.drop k)).2 = n at *
      have HST := Lib.hid hst
      clear hst
      go_wp2_with fail
      refine hrc.mono ?_
      rintro e w' ⟨rfl, rfl⟩
      by_cases hn0 : n = 0
      · subst hn0
        go_wp2_with fail
        go_ret
        refine ⟨ret_bool ?_, rfl⟩
        rw [HV.out, ← HJ.out, HST.out]
        simp
      · have dn : ((n : Int) == 0) = false := by rw [beq_eq_false_iff_ne]; omega
        cases hbg : begB (r : Int) with
        | true =>
          go_wp2_with fail
          refine (letter_any (r : Int) _ (by omega) (by omega)).mono ?_; rintro e w1 ⟨rfl, rfl⟩
          go_wp2_with fail
          go_round
          case rel =>
            refine ⟨k + n, by omega, by go_num, ?_⟩
            rw [← HJ.out, HST.out, hbg, decide_eq_false hn0, decide_eq_false (show ¬ k + n = 0 by omega)]
            simp
          case measure => simp [intOf]; omega
        | false =>
          by_cases hk0 : k = 0
          · have dk : ((k : Int) == 0) = true := by simp; omega
            have HK0 := Lib.hid hk0
            clear hk0
            go_wp2_with fail
            refine (letter_any (r : Int) _ (by omega) (by omega)).mono ?_; rintro e w1 ⟨rfl, rfl⟩
            go_wp2_with fail
            go_ret
            refine ⟨ret_bool ?_, rfl⟩
            rw [HV.out, ← HJ.out, HST.out, hbg, decide_eq_true HK0.out]
            simp
          · have dk : ((k : Int) == 0) = false := by rw [beq_eq_false_iff_ne]; omega
            cases hdg : digB (r : Int) with
            | true =>
              go_wp2_with fail
              refine (letter_any (r : Int) _ (by omega) (by omega)).mono ?_; rintro e w1 ⟨rfl, rfl⟩
              go_wp2_with fail
              refine (digit_any (r : Int) _ (by omega) (by omega)).mono ?_
              rintro e w2 ⟨rfl, rfl⟩
              go_wp2_with fail
              go_round
              case rel =>
                refine ⟨k + n, by omega, by go_num, ?_⟩
                rw [← HJ.out, HST.out, hbg, hdg, decide_eq_false hn0, decide_eq_false hk0, decide_eq_false (show ¬ k + n = 0 by omega)]
                simp
              case measure => simp [intOf]; omega
            | false =>
              go_wp2_with fail
              refine (letter_any (r : Int) _ (by omega) (by omega)).mono ?_; rintro e w1 ⟨rfl, rfl⟩
              go_wp2_with fail
              refine (digit_any (r : Int) _ (by omega) (by omega)).mono ?_
              rintro e w2 ⟨rfl, rfl⟩
              go_wp2_with fail
              go_ret
              refine ⟨ret_bool ?_, rfl⟩
              rw [HV.out, ← HJ.out, HST.out, hbg, hdg]
              simp
    · go_wp2_with fail
      go_ret
      refine ⟨ret_bool ?_, rfl⟩
      rw [HV.out, ← HJ.out, List.drop_eq_nil_of_le (by omega), J_nil]
end Go.Proofs.YtkoomphkbiifhaaDoor
