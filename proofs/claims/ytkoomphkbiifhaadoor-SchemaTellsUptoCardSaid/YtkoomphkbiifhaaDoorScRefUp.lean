/- The reference's upTo: where the first of some bytes stands. -/
import Derived.Test.YtkoomphkbiifhaaDoorScRefRune
import Derived.Test.YtkoomphkbiifhaaDoorScGet
import Derived.Deep.QuietTactic
import Derived.BigQuiet
namespace Go.Proofs.YtkoomphkbiifhaaDoor
open Go.RowKit
set_option linter.unusedVariables false

/-- How many bytes stand ahead of the first that is one of these. -/
def upN (any : List UInt8) : List UInt8 → Nat
  | [] => 0
  | b :: l => if any.contains b then 0 else upN any l + 1
theorem upN_le (any : List UInt8) : ∀ s : List UInt8, upN any s ≤ s.length
  | [] => Nat.le_refl _
  | b :: l => by have := upN_le any l; rw [upN]; split <;> simp <;> omega
theorem upN_at (any : List UInt8) : ∀ (s : List UInt8) (i : Nat), i < s.length → any.contains (s.getD i 0) = true → (∀ j, j < i → any.contains (s.getD j 0) = false) → upN any s = i
  | [], i, hi, _, _ => absurd hi (Nat.not_lt_zero _)
  | b :: l, 0, hi, h, _ => by rw [upN, if_pos (by simpa using h)]
  | b :: l, i + 1, hi, h, hno => by
    have h0 := hno 0 (by omega)
    rw [upN, if_neg (by simpa using h0), upN_at any l i (by simpa using hi) (by simpa using h) fun j hji => by simpa using hno (j + 1) (by omega)]
theorem upN_none (any : List UInt8) : ∀ (s : List UInt8), (∀ j, j < s.length → any.contains (s.getD j 0) = false) → upN any s = s.length
  | [], _ => rfl
  | b :: l, hno => by
    have h0 := hno 0 (by simp)
    rw [upN, if_neg (by simpa using h0), upN_none any l fun j hj => by simpa using hno (j + 1) (by simpa using hj)]
    rfl
theorem contains_no (b : UInt8) : ∀ any : List UInt8, (∀ k, k < any.length → (b == any.getD k 0) = false) → any.contains b = false
  | [], _ => rfl
  | c :: l, h => by
    have h0 := h 0 (by simp)
    rw [List.contains_cons, contains_no b l fun k hk => by simpa using h (k + 1) (by simpa using hk)]
    simpa using h0
theorem contains_at (b : UInt8) : ∀ (any : List UInt8) (k : Nat), k < any.length → (b == any.getD k 0) = true → any.contains b = true
  | [], k, hk, _ => absurd hk (Nat.not_lt_zero _)
  | c :: l, 0, _, h => by rw [List.contains_cons]; have : b == c := by simpa using h
                          rw [this]; rfl
  | c :: l, k + 1, hk, h => by rw [List.contains_cons, contains_at b l k (by simpa using hk) (by simpa using h)]; simp
set_option maxHeartbeats 4000000 in
set_option maxRecDepth 100000 in
theorem upTo_any (s any : List UInt8) (w : World) (hs : s.length ≤ 9223372036854775807) (ha : any.length ≤ 9223372036854775807) :
    Calls Tryd.prog 31 #[.string (str s), .string (str any)] w fun e w' => e = .returned (.int .i64 (upN any s)) ∧ Below w.heap.size w w' := by
  go_enter Tryd.func31, Tryd.ntmps31
  go_wp2_with fail
  go_loopw [5] (fun i wr => ∃ j : Nat, j ≤ s.length ∧ i = .int .i64 j ∧ (∀ i, i < j → any.contains (s.getD i 0) = false) ∧ Below w.heap.size w wr) (fun i _ => s.length - (intOf i).toNat)
  case atStart => exact ⟨0, Nat.zero_le _, rfl, fun _ h => by omega, Below.refl _ _⟩
  case round =>
    rename World => wo
    obtain ⟨j, hj, rfl, hno, br⟩ := hrel
    have HN := Lib.hid hno
    clear hno
    by_cases hlt : j < s.length
    · go_wp2_with fail
      go_loopw [6] (fun i wi => ∃ k : Nat, k ≤ any.length ∧ i = .int .i64 k ∧ (∀ i, i < k → (s.getD j 0 == any.getD i 0) = false) ∧ Below w.heap.size w wi) (fun i _ => any.length - (intOf i).toNat)
      case atStart => exact ⟨0, Nat.zero_le _, rfl, (fun _ h => by omega), br⟩
      case round =>
        rename World => wi
        obtain ⟨k, hk, rfl, hnk, bi⟩ := hrel
        have HK := Lib.hid hnk
        clear hnk
        by_cases hlk : k < any.length
        · have hz := str_size s
          have hz2 := str_size any
          have hg : ((str s)[j]'(by omega)).toNat = (s.getD j 0).toNat := by rw [str_get]
          have hg2 : ((str any)[k]'(by omega)).toNat = (any.getD k 0).toNat := by rw [str_get]
          have HE : Hid ((s.getD j 0 == any.getD k 0) = (((s.getD j 0).toNat : Int) == ((any.getD k 0).toNat : Int))) := Lib.hid (by rw [Bool.eq_iff_iff, beq_iff_eq, beq_iff_eq, ← UInt8.toNat_inj]; omega)
          generalize (s.getD j 0).toNat = x at hg HE
          generalize (any.getD k 0).toNat = y at hg2 HE
          cases hxy : ((x : Int) == (y : Int)) with
          | true =>
            go_wp2_with fail
            go_quiet (fail)
            go_wp2_with fail
            go_ret
            exact ⟨ret_int (by rw [upN_at any s j hlt (contains_at _ any k hlk (by rw [HE.out, hxy])) fun i hij => HN.out i hij]), below_drewN bi _⟩
          | false =>
            go_wp2_with fail
            go_quiet (fail)
            go_wp2_with fail
            go_roundw
            case rel => exact ⟨k + 1, by omega, by go_num, (fun i hi => by
              by_cases e : i = k
              · subst e; rw [HE.out, hxy]
              · exact HK.out i (by omega)), below_drewN bi _⟩
            case measure => simp [intOf]; omega
        · go_wp2_with fail
          go_roundw
          case rel => exact ⟨j + 1, by omega, by go_num, (fun i hi => by
            by_cases e : i = j
            · subst e; exact contains_no _ _ fun k hk => HK.out k (by omega)
            · exact HN.out i (by omega)), bi⟩
          case measure => simp [intOf]; omega
    · go_wp2_with fail
      go_ret
      exact ⟨ret_int (by rw [upN_none any s fun i hi => HN.out i (by omega), str_size]), br⟩
end Go.Proofs.YtkoomphkbiifhaaDoor
