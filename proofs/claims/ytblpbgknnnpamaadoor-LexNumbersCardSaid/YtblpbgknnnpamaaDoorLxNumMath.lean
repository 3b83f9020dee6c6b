/- Digits of a number, as a word. -/
import Derived.Test.YtblpbgknnnpamaaDoorLxMath
namespace Go.Proofs.YtblpbgknnnpamaaDoor
set_option linter.unusedVariables false

/-- What digits come to, behind acc. -/
def vl (acc : Nat) (l : Nm) : Nat := l.foldl (fun a c => a * 10 + (c.toNat - 48)) acc
theorem vl_nil (acc : Nat) : vl acc [] = acc := rfl
theorem vl_step (acc : Nat) (c : UInt8) (r : Nm) : vl acc (c :: r) = vl (acc * 10 + (c.toNat - 48)) r := by unfold vl; rw [List.foldl_cons]
theorem vl_acc (l : Nm) : ∀ (acc : Nat), vl acc l = acc * 10 ^ l.length + vl 0 l := by
  induction l with
  | nil => intro acc; rw [vl_nil, vl_nil, List.length_nil, Nat.pow_zero, Nat.mul_one, Nat.add_zero]
  | cons c r ih =>
    intro acc
    rw [vl_step, ih, vl_step, ih (0 * 10 + (c.toNat - 48)), List.length_cons, Nat.pow_succ, Nat.zero_mul, Nat.zero_add, Nat.add_mul, Nat.mul_assoc, Nat.mul_comm 10, Nat.add_assoc]
theorem vl_cons (c : UInt8) (r : Nm) : vl 0 (c :: r) = (c.toNat - 48) * 10 ^ r.length + vl 0 r := by
  rw [vl_step, vl_acc, Nat.zero_mul, Nat.zero_add]
theorem vl_ge (l : Nm) (acc : Nat) : acc ≤ vl acc l := by
  rw [vl_acc]
  have : 0 < 10 ^ l.length := Nat.pow_pos (by omega)
  exact Nat.le_trans (Nat.le_mul_of_pos_right acc this) (Nat.le_add_right _ _)
theorem parse_digs : ∀ (l : Nm) (acc : Nat), digs l → vl acc l ≤ 18446744073709551615 → Lib.parseUintM (2 ^ 64 - 1) acc l = .ok (vl acc l)
  | [], acc, _, _ => rfl
  | c :: r, acc, hd, hv => by
    have hc := hd c (by simp)
    have h1 := vl_ge r (acc * 10 + (c.toNat - 48))
    rw [vl_step] at hv ⊢
    rw [Lib.parseUintM, if_pos hc, if_neg (by omega), if_neg (by have : (2 : Nat) ^ 64 - 1 = 18446744073709551615 := rfl; omega)]
    exact parse_digs r _ (fun x hx => hd x (by simp [hx])) hv
theorem parse_num {l : Nm} (h0 : l ≠ []) (hd : digs l) (hv : vl 0 l ≤ 18446744073709551615) : Lib.parseIntB 64 l = if vl 0 l < 9223372036854775808 then .ok (vl 0 l : Int) else .range := by
  cases l with
  | nil => exact absurd rfl h0
  | cons c r =>
    have hc := hd c (by simp)
    have hp := parse_digs (c :: r) 0 hd hv
    unfold Lib.parseIntB Lib.parseUintB
    dsimp only
    rw [if_neg (by omega : ¬ (c.toNat = 43 ∨ c.toNat = 45)), if_neg (by simp : ¬ c :: r = []), hp]
    dsimp only
    have e : (2 : Nat) ^ (64 - 1) = 9223372036854775808 := rfl
    rw [e]
    by_cases hlt : vl 0 (c :: r) < 9223372036854775808
    · rw [if_neg (by omega), if_neg (by omega), if_neg (by omega), if_pos hlt]
    · rw [if_pos (by omega), if_neg hlt]
theorem num_val {l : Nm} (h0 : l ≠ []) (hd : digs l) (hv : vl 0 l ≤ 18446744073709551615) (hz : 1 < l.length → l.getD 0 0 ≠ 48) : numV l = if vl 0 l < 9223372036854775808 then some (vl 0 l : Int) else none := by
  unfold numV
  rw [if_neg (fun h => hz h.1 h.2), parse_num h0 hd hv]
  by_cases hlt : vl 0 l < 9223372036854775808
  · rw [if_pos hlt, if_pos hlt]
  · rw [if_neg hlt, if_neg hlt]
/-- A text of digits is one word, or wrong where it begins. -/
theorem lex_digs {l : Nm} (h0 : l ≠ []) (hd : digs l) : lexA l = match numV l with
    | some n => .good [⟨2, l, n, 0⟩]
    | none => .bad 0 := by
  cases l with
  | nil => exact absurd rfl h0
  | cons b v =>
    have hb := hd b (by simp)
    have e := dec_ascii (show b.toNat < 128 by omega) v
    have e1 : beg (b :: v) = 2 := by
      unfold beg
      rw [bn_ascii (show b.toNat < 128 by omega), e, if_neg, if_neg, if_pos]
      · unfold digB; simp; omega
      · unfold begB; simp; omega
      · unfold spB; simp; omega
    have : lexA (b :: v) = W 0 [] 0 0 (b :: v) := rfl
    rw [this, W_new 0 (by simp) (goes_new rfl) (show close 0 [] 0 = some [] by simp [close]), e, e1, pre_nil]
    simp only [List.take_succ_cons, List.take_zero, List.drop_succ_cons, List.drop_zero]
    have hr := run2 v (fun x hx => hd x (by simp [hx])) [b] 0 (0 + 1) []
    rw [List.append_nil] at hr
    rw [hr, W_nil]
    unfold fin close
    simp only [List.singleton_append]
    cases numV (b :: v) <;> rfl
theorem lex_zero {l : Nm} (h0 : l ≠ []) (hd : digs l) : lexA (48 :: l) = .bad 0 := by
  have hd2 : digs (48 :: l) := by
    intro b hb
    rcases List.mem_cons.1 hb with rfl | hb
    · exact ⟨by decide, by decide⟩
    · exact hd b hb
  have : numV (48 :: l) = none := by
    unfold numV
    rw [if_pos]
    exact ⟨by have := List.length_pos_iff.2 h0; simp; omega, rfl⟩
  rw [lex_digs (by simp) hd2, this]
end Go.Proofs.YtblpbgknnnpamaaDoor
