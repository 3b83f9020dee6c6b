/- Numbers as bytes, the greatest ahead: the plain mathematics of layer 2. -/
import Derived.WalkKit
import Derived.Laws.BitsAllLaws
import Derived.Laws.Strings
namespace Go.Proofs.YtglhebpblncjaaaDoor

/-- The k lowest bytes of n, the greatest ahead. -/
def put : Nat → Nat → List UInt8
  | 0, _ => []
  | k + 1, n => put k (n / 256) ++ [UInt8.ofNat (n % 256)]
/-- The number that bytes are. -/
def num (l : List UInt8) : Nat := l.foldl (fun a b => a * 256 + b.toNat) 0

theorem snoc_ind {P : List UInt8 → Prop} (h0 : P []) (h1 : ∀ l b, P l → P (l ++ [b])) (l : List UInt8) : P l := by
  rw [← List.reverse_reverse l]
  induction l.reverse with
  | nil => exact h0
  | cons b t ih => rw [List.reverse_cons]; exact h1 _ _ ih
theorem put_length (k n : Nat) : (put k n).length = k := by
  induction k generalizing n with
  | zero => rfl
  | succ k ih => simp [put, ih]
theorem ofNat_toNat {x : Nat} (h : x < 256) : (UInt8.ofNat x).toNat = x := by
  simp; omega
theorem num_snoc (l : List UInt8) (b : UInt8) : num (l ++ [b]) = num l * 256 + b.toNat := by simp [num]
theorem num_nil : num [] = 0 := rfl
theorem num_put (k n : Nat) : num (put k n) = n % 256 ^ k := by
  induction k generalizing n with
  | zero => simp [put, num, Nat.mod_one]
  | succ k ih =>
    rw [put, num_snoc, ih, ofNat_toNat (Nat.mod_lt _ (by omega)), Nat.pow_succ, Nat.mul_comm (256 ^ k) 256, Nat.mod_mul]
    omega
theorem num_put_of {k n : Nat} (h : n < 256 ^ k) : num (put k n) = n := by rw [num_put, Nat.mod_eq_of_lt h]
theorem num_lt (l : List UInt8) : num l < 256 ^ l.length := by
  induction l using snoc_ind with
  | h0 => simp [num]
  | h1 l b ih =>
    rw [num_snoc]
    have := b.toNat_lt
    simp only [List.length_append, List.length_singleton, Nat.pow_succ]
    omega
theorem put_get (k n i : Nat) (h : i < k) : (put k n)[i]'(by rw [put_length]; exact h) = UInt8.ofNat (n / 256 ^ (k - 1 - i) % 256) := by
  induction k generalizing n i with
  | zero => omega
  | succ k ih =>
    by_cases hi : i < k
    · have e : k + 1 - 1 - i = (k - 1 - i) + 1 := by omega
      rw [e, Nat.pow_succ, Nat.mul_comm, ← Nat.div_div_eq_div_mul, ← ih (n / 256) i hi]
      simp [put, put_length, hi]
    · obtain rfl : i = k := by omega
      simp [put, put_length]
theorem foldl_num (l : List UInt8) (a : Nat) : l.foldl (fun a b => a * 256 + b.toNat) a = a * 256 ^ l.length + num l := by
  induction l generalizing a with
  | nil => simp [num]
  | cons b l ih =>
    have e0 : num (b :: l) = (0 * 256 + b.toNat) * 256 ^ l.length + num l := ih _
    rw [List.foldl_cons, ih, e0]
    simp only [List.length_cons, Nat.pow_succ]
    rw [Nat.add_mul]
    have e : a * 256 * 256 ^ l.length = a * (256 ^ l.length * 256) := by rw [Nat.mul_assoc, Nat.mul_comm 256]
    rw [e]
    simp
    omega
theorem num_cons (b : UInt8) (l : List UInt8) : num (b :: l) = b.toNat * 256 ^ l.length + num l := by
  rw [num, List.foldl_cons, foldl_num]; simp
theorem num_append (l r : List UInt8) : num (l ++ r) = num l * 256 ^ r.length + num r := by
  rw [num, List.foldl_append, foldl_num]; rfl
theorem put_num (l : List UInt8) : put l.length (num l) = l := by
  induction l using snoc_ind with
  | h0 => rfl
  | h1 l b ih =>
    have := b.toNat_lt
    rw [num_snoc, List.length_append, List.length_singleton, put, show (num l * 256 + b.toNat) / 256 = num l by omega, show (num l * 256 + b.toNat) % 256 = b.toNat by omega, ih]
    simp
theorem num_inj {l r : List UInt8} (h : l.length = r.length) (e : num l = num r) : l = r := by
  rw [← put_num l, ← put_num r, h, e]
/-- Bytes as many: the lesser number is the lesser text. -/
theorem less_num : ∀ (l r : List UInt8), l.length = r.length → Op.bytesLess l r = decide (num l < num r)
  | [], [], _ => by simp [Op.bytesLess]
  | b :: l, c :: r, h => by
    have hl : l.length = r.length := by simpa using h
    have ih := less_num l r hl
    rw [num_cons, num_cons, hl]
    have h1 := num_lt l
    have h2 := num_lt r
    rw [hl] at h1
    simp only [Op.bytesLess]
    rw [ih]
    generalize 256 ^ r.length = B at *
    by_cases h3 : b.toNat < c.toNat
    · have e : num l + b.toNat * B < c.toNat * B := by
        have : (b.toNat + 1) * B ≤ c.toNat * B := Nat.mul_le_mul_right _ h3
        rw [Nat.add_mul] at this; omega
      have hb : decide (b < c) = true := by simpa [UInt8.lt_iff_toNat_lt] using h3
      rw [hb]; simp; omega
    · have hb : decide (b < c) = false := by simpa [UInt8.lt_iff_toNat_lt] using h3
      rw [hb]
      by_cases h4 : b = c
      · subst h4; simp
      · have h5 : c.toNat < b.toNat := by
          have : b.toNat ≠ c.toNat := fun e => h4 (UInt8.toNat_inj.1 e)
          omega
        have e : c.toNat * B + num r < b.toNat * B := by
          have : (c.toNat + 1) * B ≤ b.toNat * B := Nat.mul_le_mul_right _ h5
          rw [Nat.add_mul] at this; omega
        have hbc : (b == c) = false := by simpa using h4
        rw [hbc]; simp; omega
end Go.Proofs.YtglhebpblncjaaaDoor
