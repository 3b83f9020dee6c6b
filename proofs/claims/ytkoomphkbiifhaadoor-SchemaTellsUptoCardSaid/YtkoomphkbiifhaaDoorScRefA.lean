/- The reference of chapter 4: letters, digits; kinds and fields that are looked for. -/
import Derived.Test.YtkoomphkbiifhaaDoorScIsName
namespace Go.Proofs.YtkoomphkbiifhaaDoor
open Go.RowKit
set_option linter.unusedVariables false

theorem letter_any (r : Int) (w : World) (h0 : 0 ≤ r) (h1 : r ≤ 1114111) :
    Calls Tryd.prog 38 #[.int .i64 r] w fun e w' => e = .returned (.bool (begB r)) ∧ w = w' := by
  go_enter Tryd.func38, Tryd.ntmps38
  go_wp2
  all_goals go_ret
  all_goals exact ⟨ret_bool (by first | rfl | (unfold begB; rw [Bool.eq_iff_iff]; simp; omega)), rfl⟩
theorem digit_any (r : Int) (w : World) (h0 : 0 ≤ r) (h1 : r ≤ 1114111) :
    Calls Tryd.prog 39 #[.int .i64 r] w fun e w' => e = .returned (.bool (digB r)) ∧ w = w' := by
  go_enter Tryd.func39, Tryd.ntmps39
  go_wp2
  all_goals go_ret
  all_goals exact ⟨ret_bool (by first | rfl | (unfold digB; rw [Bool.eq_iff_iff]; simp; omega)), rfl⟩
theorem str_eqB (a b : Nm) : ((str a).toList == (str b).toList) = (a == b) := by rw [str_toList, str_toList]
set_option maxHeartbeats 400000 in
theorem rfind_any (l : List Kd) (A : Option Addr) (c : Nat) (y : Nm) (w : World) (h : Kinds w A c l) :
    Calls Tryd.prog 23 #[.slice A l.length c, .string (str y)] w fun e w' => e = .returned (.int .i64 (idx (fun x => x.1 == y) l)) ∧ w = w' := by
  have hcap := h.cap
  go_enter Tryd.func23, Tryd.ntmps23
  go_wp2
  go_loop [5] (fun i => ∃ k : Nat, k ≤ l.length ∧ i = .int .i64 k ∧ ∀ j (hj : j < l.length), j < k → (l[j].1 == y) = false) (fun i => l.length - (intOf i).toNat)
  case atStart => exact ⟨0, Nat.zero_le _, rfl, fun _ _ h => by omega⟩
  case round =>
    obtain ⟨k, hk, rfl, hno⟩ := hrel
    have HN := Lib.hid hno
    clear hno
    by_cases hlt : k < l.length
    · obtain ⟨b, off, rfl, hc⟩ := h.shape (by omega)
      obtain ⟨B, d, hc0, hc1, _⟩ := hc k hlt
      clear hc
      have es := str_eqB l[k].1 y
      cases hh : (l[k].1 == y) with
      | true =>
        go_wp2_with fail
        go_ret
        exact ⟨ret_int (idx_at (fun x : Kd => x.1 == y) l k hlt hh fun i hi hik => HN.out i hi hik).symm, rfl⟩
      | false =>
        go_wp2_with fail
        go_round
        case rel => exact ⟨k + 1, by omega, by go_num, (fun j hj hjk => by
          by_cases e : j = k
          · subst e; exact hh
          · exact HN.out j hj (by omega))⟩
        case measure => simp [intOf]; omega
    · go_wp2
      go_ret
      exact ⟨ret_int (idx_none (fun x : Kd => x.1 == y) l fun i hi => HN.out i hi (by omega)).symm, rfl⟩
set_option maxHeartbeats 400000 in
theorem rfield_any (nm : Nm) (l : List Nm) (A : Option Addr) (c : Nat) (y : Nm) (w : World) (h : Strs w A c l) :
    Calls Tryd.prog 17 #[.agg #[.string (str nm), .slice A l.length c], .string (str y)] w fun e w' => e = .returned (.int .i64 (idx (fun x => x == y) l)) ∧ Below w.heap.size w w' := by
  have hcap := h.cap
  obtain ⟨W, hW⟩ : ∃ W, W = w.alloc (.cells #[Value.string (str nm), .slice A l.length c] 42) := ⟨_, rfl⟩
  have bl : Below w.heap.size w W := by rw [hW]; exact (Below.refl _ _).alloc (Nat.le_refl _) _
  have h2 := h.below bl
  have c1 : W.cell? ⟨w.heap.size, 1, none⟩ = some (.slice A l.length c) := by rw [hW]; go_simp
  have HW := Lib.hid hW
  clear hW
  go_enter Tryd.func17, Tryd.ntmps17
  go_wp2
  rw [← HW.out]
  go_loop [5] (fun i => ∃ k : Nat, k ≤ l.length ∧ i = .int .i64 k ∧ ∀ j (hj : j < l.length), j < k → (l[j] == y) = false) (fun i => l.length - (intOf i).toNat)
  case atStart => exact ⟨0, Nat.zero_le _, rfl, fun _ _ h => by omega⟩
  case round =>
    obtain ⟨k, hk, rfl, hno⟩ := hrel
    have HN := Lib.hid hno
    clear hno
    by_cases hlt : k < l.length
    · obtain ⟨b, off, rfl, hc⟩ := h2.shape (by omega)
      have hck := hc k hlt
      clear hc
      have es := str_eqB l[k] y
      cases hh : (l[k] == y) with
      | true =>
        go_wp2_with fail
        go_ret
        exact ⟨ret_int (idx_at (fun x => x == y) l k hlt hh fun i hi hik => HN.out i hi hik).symm, bl⟩
      | false =>
        go_wp2_with fail
        go_round
        case rel => exact ⟨k + 1, by omega, by go_num, (fun j hj hjk => by
          by_cases e : j = k
          · subst e; exact hh
          · exact HN.out j hj (by omega))⟩
        case measure => simp [intOf]; omega
    · go_wp2_with fail
      go_ret
      exact ⟨ret_int (idx_none (fun x => x == y) l fun i hi => HN.out i hi (by omega)).symm, bl⟩
end Go.Proofs.YtkoomphkbiifhaaDoor
