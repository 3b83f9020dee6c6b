/- The reference's Put writes what the program's writes. -/
import Derived.Test.YtkoomphkbiifhaaDoorScRefA
import Derived.Test.YtkoomphkbiifhaaDoorScPutMath
import Derived.Test.YtkoomphkbiifhaaDoorScSome
namespace Go.Proofs.YtkoomphkbiifhaaDoor
open Go.RowKit
set_option linter.unusedVariables false

set_option maxHeartbeats 4000000 in
set_option maxRecDepth 100000 in
theorem rput_any (l : List Kd) (A : Option Addr) (c : Nat) (w : World) (h : Kinds w A c l) (hlen : (putL l).length ≤ 140737488355328) :
    Calls Tryd.prog 24 #[.slice A l.length c] w fun e w' => e = .returned (.string (str (putL l))) ∧ w = w' := by
  have hcap := h.cap
  go_enter Tryd.func24, Tryd.ntmps24
  go_wp2_with fail
  go_loop [3, 4] (fun o i => ∃ j : Nat, j ≤ l.length ∧ i = .int .i64 j ∧ o = .string (str (putL (l.take j)))) (fun o i => l.length - (intOf i).toNat)
  case atStart => exact ⟨0, Nat.zero_le _, rfl, rfl⟩
  case round =>
    obtain ⟨j, hj, rfl, rfl⟩ := hrel
    by_cases hlt : j < l.length
    · obtain ⟨b, off, rfl, hc⟩ := h.shape (by omega)
      obtain ⟨F, d, g0, g1, hs⟩ := hc j hlt
      clear hc
      have hcf := hs.cap
      have hsp := putL_split hlt
      rw [kindTxt_length] at hsp
      have HS := Lib.hid hsp
      clear hsp
      have HT := Lib.hid (putL_take hlt)
      obtain ⟨P, hP⟩ : ∃ P, putL (l.take j) = P := ⟨_, rfl⟩
      rw [hP] at HS HT ⊢
      have a1 : ∀ W, (Op.stringOp .add (str P) (str l[j].1)).run Tryd.prog W = .ok (.string (str (P ++ l[j].1))) W := run_add_str P l[j].1 (by have := HS.out; omega)
      have a2 : ∀ W, (Op.stringOp .add (str (P ++ l[j].1)) { data := #[40] }).run Tryd.prog W = .ok (.string (str (P ++ l[j].1 ++ [40]))) W := run_add_str (P ++ l[j].1) [40] (by have := HS.out; simp; omega)
      go_wp2_with fail
      clear a1 a2
      go_loop [3, 5] (fun o i => ∃ k : Nat, k ≤ l[j].2.length ∧ i = .int .i64 k ∧ o = .string (str (P ++ l[j].1 ++ [40] ++ joinC (l[j].2.take k)))) (fun o i => l[j].2.length - (intOf i).toNat)
      case atStart => exact ⟨0, Nat.zero_le _, rfl, by simp [joinC]⟩
      case round =>
        obtain ⟨k, hk, rfl, rfl⟩ := hrel
        by_cases hlk : k < l[j].2.length
        · obtain ⟨fb, foff, rfl, hcf⟩ := hs.shape (by omega)
          have hck := hcf k hlk
          clear hcf
          have tl := joinC_take hlk
          have tl2 := joinC_le (l := l[j].2) (j := k + 1) (by omega)
          rw [tl, List.length_append, List.length_append] at tl2
          have HTL := Lib.hid tl
          clear tl
          obtain ⟨Q, hQ⟩ : ∃ Q, P ++ l[j].1 ++ [40] ++ joinC (l[j].2.take k) = Q := ⟨_, rfl⟩
          have hQl : Q.length = P.length + l[j].1.length + 1 + (joinC (l[j].2.take k)).length := by rw [← hQ]; simp; omega
          rw [hQ]
          have HQ := Lib.hid hQ
          clear hQ
          by_cases hk0 : 0 < k
          · rw [if_pos hk0] at tl2
            have a1 : ∀ W, (Op.stringOp .add (str Q) { data := #[44] }).run Tryd.prog W = .ok (.string (str (Q ++ [44]))) W := run_add_str Q [44] (by have := HS.out; simp at tl2 ⊢; omega)
            have a2 : ∀ W, (Op.stringOp .add (str (Q ++ [44])) (str l[j].2[k])).run Tryd.prog W = .ok (.string (str (Q ++ [44] ++ l[j].2[k]))) W := run_add_str (Q ++ [44]) l[j].2[k] (by have := HS.out; simp at tl2 ⊢; omega)
            have HL := Lib.hid tl2
            have HQL := Lib.hid hQl
            clear tl2 hQl
            have e0 : decide (0 < (k : Int)) = true := by simp; omega
            go_wp2_with fail
            go_round
            case rel => exact ⟨k + 1, by omega, by go_num, by rw [HTL.out, if_pos hk0, ← HQ.out]; simp [List.append_assoc]⟩
            case measure => simp [intOf]; omega
          · rw [if_neg hk0] at tl2
            have a2 : ∀ W, (Op.stringOp .add (str Q) (str l[j].2[k])).run Tryd.prog W = .ok (.string (str (Q ++ l[j].2[k]))) W := run_add_str Q l[j].2[k] (by have := HS.out; simp at tl2 ⊢; omega)
            have HL := Lib.hid tl2
            have HQL := Lib.hid hQl
            clear tl2 hQl
            have e0 : decide (0 < (k : Int)) = false := by simp; omega
            go_wp2_with fail
            go_round
            case rel => exact ⟨k + 1, by omega, by go_num, by rw [HTL.out, if_neg hk0, ← HQ.out]; simp [List.append_assoc]⟩
            case measure => simp [intOf]; omega
        · have e : l[j].2.take k = l[j].2 := List.take_of_length_le (by omega)
          rw [e]
          clear e
          obtain ⟨Q, hQ⟩ : ∃ Q, P ++ l[j].1 ++ [40] ++ joinC l[j].2 = Q := ⟨_, rfl⟩
          have hQl : Q.length = P.length + l[j].1.length + 1 + (joinC l[j].2).length := by rw [← hQ]; simp; omega
          rw [hQ]
          have HQ := Lib.hid hQ
          clear hQ
          have a1 : ∀ W, (Op.stringOp .add (str Q) { data := #[41, 59] }).run Tryd.prog W = .ok (.string (str (Q ++ [41, 59]))) W := run_add_str Q [41, 59] (by have := HS.out; simp; omega)
          have HQL := Lib.hid hQl
          clear hQl
          go_wp2_with fail
          go_round
          case rel => exact ⟨j + 1, by omega, by go_num, by rw [HT.out, ← HQ.out]; simp [kindTxt, List.append_assoc]⟩
          case measure => simp [intOf]; omega
    · have e : l.take j = l := List.take_of_length_le (by omega)
      rw [e]
      clear e
      go_wp2_with fail
      go_ret
      exact ⟨rfl, rfl⟩
end Go.Proofs.YtkoomphkbiifhaaDoor
