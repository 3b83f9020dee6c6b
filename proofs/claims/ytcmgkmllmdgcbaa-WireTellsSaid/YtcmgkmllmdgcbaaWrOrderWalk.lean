/- WireOrder returns true, as a walk; and the mathematics of events' bytes: which are lesser, which are the same. -/
import Derived.Test.YtcmgkmllmdgcbaaWrHead2
namespace Go.Proofs.Ytcmgkmllmdgcbaa
open Go.RowKit
set_option linter.unusedVariables false

/-- A time as a number that is not below 0. -/
def upT (a : Int) : Int := if a < 0 then -(a + 1) else a
theorem upT_bd {a : Int} (h0 : -9223372036854775808 ≤ a) (h1 : a ≤ 9223372036854775807) : 0 ≤ upT a ∧ upT a ≤ 9223372036854775807 := by unfold upT; split <;> omega
theorem u64n_pos {n : Int} (h0 : 0 ≤ n) (h1 : n ≤ 9223372036854775807) : (u64n n : Int) = n := by unfold u64n; omega
/-- Bytes with a number of eight in the midst. -/
theorem num_mid (P S : List UInt8) (N : Nat) (h : N < 18446744073709551616) : num (P ++ (put 8 N ++ S)) = (num P * 256 ^ 8 + N) * 256 ^ S.length + num S := by
  rw [num_append, num_append, num_put_of h, List.length_append, put_length, Nat.pow_add, ← Nat.mul_assoc, Nat.add_mul]
  omega
theorem mid_lt (P S : List UInt8) (M N : Nat) (hM : M < 18446744073709551616) (hN : N < 18446744073709551616) :
    Op.bytesLess (P ++ (put 8 M ++ S)) (P ++ (put 8 N ++ S)) = decide (M < N) := by
  rw [less_num _ _ (by simp [put_length]), num_mid _ _ _ hM, num_mid _ _ _ hN]
  have hp : 0 < 256 ^ S.length := Nat.pow_pos (by omega)
  by_cases h : M < N
  · rw [decide_eq_true h]
    apply decide_eq_true
    have : num P * 256 ^ 8 + M < num P * 256 ^ 8 + N := by omega
    have := Nat.mul_lt_mul_of_pos_right this hp
    omega
  · rw [decide_eq_false h]
    apply decide_eq_false
    have : num P * 256 ^ 8 + N ≤ num P * 256 ^ 8 + M := by omega
    have := Nat.mul_le_mul_right (256 ^ S.length) this
    omega
theorem mid_eq (P S : List UInt8) (M N : Nat) (hM : M < 18446744073709551616) (hN : N < 18446744073709551616) :
    (P ++ (put 8 M ++ S) == P ++ (put 8 N ++ S)) = decide (M = N) := by
  by_cases h : M = N
  · subst h; simp
  · rw [decide_eq_false h]
    apply beq_eq_false_iff_ne.2
    intro e
    have e1 := List.append_cancel_left e
    have e2 := List.append_cancel_right e1
    have := congrArg num e2
    rw [num_put_of hM, num_put_of hN] at this
    exact h this
theorem wput_mid (k : Nat) (T : Int) (l : List Int) (hk : k < 256) (h8 : l.length ≤ 8) : wput k T l = (put 1 k ++ put 1 l.length) ++ (put 8 (u64n T) ++ vs l) := by
  rw [wput_yes (wok_yes hk h8), hd]
  simp only [List.append_assoc]
theorem wput_lt (k : Nat) (a b : Int) (l : List Int) (hk : k < 256) (h8 : l.length ≤ 8) (ha : 0 ≤ a ∧ a ≤ 9223372036854775807) (hb : 0 ≤ b ∧ b ≤ 9223372036854775807) :
    Op.bytesLess (wput k a l) (wput k b l) = decide (a < b) := by
  rw [wput_mid _ _ _ hk h8, wput_mid _ _ _ hk h8, mid_lt _ _ _ _ (u64n_lt a) (u64n_lt b)]
  have := u64n_pos ha.1 ha.2
  have := u64n_pos hb.1 hb.2
  by_cases h : a < b
  · rw [decide_eq_true h]; exact decide_eq_true (by omega)
  · rw [decide_eq_false h]; exact decide_eq_false (by omega)
theorem wput_eq (k : Nat) (a b : Int) (l : List Int) (hk : k < 256) (h8 : l.length ≤ 8) (ha : 0 ≤ a ∧ a ≤ 9223372036854775807) (hb : 0 ≤ b ∧ b ≤ 9223372036854775807) :
    (wput k a l == wput k b l) = decide (a = b) := by
  rw [wput_mid _ _ _ hk h8, wput_mid _ _ _ hk h8, mid_eq _ _ _ _ (u64n_lt a) (u64n_lt b)]
  have := u64n_pos ha.1 ha.2
  have := u64n_pos hb.1 hb.2
  by_cases h : a = b
  · rw [decide_eq_true h]; exact decide_eq_true (by omega)
  · rw [decide_eq_false h]; exact decide_eq_false (by omega)
theorem wput_length (k : Nat) (T : Int) (l : List Int) (hk : k < 256) (h8 : l.length ≤ 8) : (wput k T l).length = 10 + 8 * l.length := by
  rw [wput_yes (wok_yes hk h8), List.length_append, hd_length, vs_length]
theorem Lies.take {w : World} {A : Option Addr} {l : List Int} (h : Lies w A (ints l)) (n : Nat) : Lies w A (ints (l.take n)) := fun i u hu => by
  refine h i u ?_
  simp only [ints] at hu ⊢
  rw [List.map_take, List.getElem?_take] at hu
  split at hu
  · exact hu
  · cases hu

theorem small8 {N : Nat} (h : N ≤ 8) : N ≤ maxLen := by unfold maxLen; omega
set_option maxRecDepth 100000 in
set_option maxHeartbeats 8000000 in
theorem order_walk (a b : Int) (k : Nat) (A : Option Addr) (n c : Nat) (l : List Int) (w : World) (ha : -9223372036854775808 ≤ a ∧ a ≤ 9223372036854775807) (hb : -9223372036854775808 ≤ b ∧ b ≤ 9223372036854775807) (hk : k < 256)
    (hl : l.length = n) (hnc : n ≤ c) (hcm : c ≤ maxLen) (hnil : A = none → c = 0) (hr : Lies w A (ints l)) (hbz : ∀ n ∈ l, (Lit.int .i64 n).wf = true) :
    Calls Try.prog 7 #[.int .i64 a, .int .i64 b, .int .u8 k, .slice A n c] w fun e w' => e = .returned (.bool true) ∧ Below w.heap.size w w' := by
  have HA := Lib.hid (upT_bd ha.1 ha.2)
  have HBd := Lib.hid (upT_bd hb.1 hb.2)
  have HK := Lib.hid hk
  obtain ⟨ha0, ha1⟩ := ha
  obtain ⟨hb0, hb1⟩ := hb
  obtain ⟨N, hN⟩ : ∃ N : Nat, N = min n 8 := ⟨_, rfl⟩
  have HL : Hid ((l.take N).length = N) := Lib.hid (by rw [List.length_take]; omega)
  have HR := Lib.hid (hr.take N)
  have HL8 : Hid ((l.take N).length ≤ 8) := Lib.hid (by rw [HL.out]; omega)
  clear hr hl hbz
  unfold maxLen at hcm
  generalize l.take N = r at *
  have hmin : min (n : Int) 8 = (N : Int) := by omega
  go_enter Try.func7, Try.ntmps7
  go_wp2_with fail
  refine (examples_any w).mono ?_
  rintro e w1 ⟨rfl, h1⟩
  have B1 := Lib.hid h1
  have R1 := Lib.hid (HR.out.below h1)
  clear h1 HR
  clear hmin
  by_cases hA : a < 0 <;> by_cases hB : b < 0 <;> by_cases h8 : 8 < n
  · rw [show upT a = (-(a + 1)) from if_pos hA] at HA
    rw [show upT b = (-(b + 1)) from if_pos hB] at HBd
    have HM : Hid (8 ≤ 8) := Lib.hid (by omega)
    obtain rfl : N = 8 := by omega
    clear hN
    go_wp2_with fail
    refine (wput_any k (-(a + 1)) A 8 c r w1 (by omega) (by omega) HL.out (small8 HM.out) R1.out).mono ?_
    rw [wok_yes HK.out HL8.out]
    rintro e w2 ⟨rfl, h2⟩
    have R2 := Lib.hid (R1.out.below h2)
    have B2 := Lib.hid (Below.step B1.out h2 (Nat.le_refl _))
    clear h2 R1 B1
    go_wp2_with fail
    refine (wput_any k (-(b + 1)) A 8 c r w2 (by omega) (by omega) HL.out (small8 HM.out) R2.out).mono ?_
    rw [wok_yes HK.out HL8.out]
    rintro e w3 ⟨rfl, h3⟩
    have B3 := Lib.hid (Below.step B2.out h3 (Nat.le_refl _))
    clear h3 R2 B2
    have e1 := wput_lt k (-(a + 1)) (-(b + 1)) r HK.out HL8.out HA.out HBd.out
    have e2 := wput_eq k (-(a + 1)) (-(b + 1)) r HK.out HL8.out HA.out HBd.out
    have s1 : (str (wput k (-(a + 1)) r)).size = 10 + 8 * r.length := (str_size _).trans (wput_length k (-(a + 1)) r HK.out HL8.out)
    have s2 : (str (wput k (-(b + 1)) r)).size = 10 + 8 * r.length := (str_size _).trans (wput_length k (-(b + 1)) r HK.out HL8.out)
    have e3 : Op.bytesLess (str (wput k (-(a + 1)) r)).toList (str (wput k (-(b + 1)) r)).toList = decide ((-(a + 1)) < (-(b + 1))) := by rw [str_toList, str_toList]; exact e1
    have e4 : ((str (wput k (-(a + 1)) r)).toList == (str (wput k (-(b + 1)) r)).toList) = ((-(a + 1)) == (-(b + 1))) := by rw [str_toList, str_toList, e2]; simp [BEq.beq]
    clear e1 e2
    generalize str (wput k (-(a + 1)) r) = sx at *
    generalize str (wput k (-(b + 1)) r) = sy at *
    obtain ⟨bl, hbl⟩ : ∃ bl, bl = decide ((-(a + 1)) < (-(b + 1))) := ⟨_, rfl⟩
    obtain ⟨be, hbe⟩ : ∃ be, be = ((-(a + 1)) == (-(b + 1))) := ⟨_, rfl⟩
    rw [← hbl] at e3
    rw [← hbe] at e4
    have hbl' := hbl.symm
    have hbe' := hbe.symm
    clear hbl hbe
    generalize -(a + 1) = X at *
    generalize -(b + 1) = Y at *
    have g1 : (bl == bl) = true := by simp
    have g2 : (be == be) = true := by simp
    go_wp2
    go_ret
    exact ⟨rfl, B3.out⟩
  · rw [show upT a = (-(a + 1)) from if_pos hA] at HA
    rw [show upT b = (-(b + 1)) from if_pos hB] at HBd
    have HM : Hid (N ≤ 8) := Lib.hid (by omega)
    obtain rfl : N = n := by omega
    clear hN
    go_wp2_with fail
    refine (wput_any k (-(a + 1)) A N c r w1 (by omega) (by omega) HL.out (small8 HM.out) R1.out).mono ?_
    rw [wok_yes HK.out HL8.out]
    rintro e w2 ⟨rfl, h2⟩
    have R2 := Lib.hid (R1.out.below h2)
    have B2 := Lib.hid (Below.step B1.out h2 (Nat.le_refl _))
    clear h2 R1 B1
    go_wp2_with fail
    refine (wput_any k (-(b + 1)) A N c r w2 (by omega) (by omega) HL.out (small8 HM.out) R2.out).mono ?_
    rw [wok_yes HK.out HL8.out]
    rintro e w3 ⟨rfl, h3⟩
    have B3 := Lib.hid (Below.step B2.out h3 (Nat.le_refl _))
    clear h3 R2 B2
    have e1 := wput_lt k (-(a + 1)) (-(b + 1)) r HK.out HL8.out HA.out HBd.out
    have e2 := wput_eq k (-(a + 1)) (-(b + 1)) r HK.out HL8.out HA.out HBd.out
    have s1 : (str (wput k (-(a + 1)) r)).size = 10 + 8 * r.length := (str_size _).trans (wput_length k (-(a + 1)) r HK.out HL8.out)
    have s2 : (str (wput k (-(b + 1)) r)).size = 10 + 8 * r.length := (str_size _).trans (wput_length k (-(b + 1)) r HK.out HL8.out)
    have e3 : Op.bytesLess (str (wput k (-(a + 1)) r)).toList (str (wput k (-(b + 1)) r)).toList = decide ((-(a + 1)) < (-(b + 1))) := by rw [str_toList, str_toList]; exact e1
    have e4 : ((str (wput k (-(a + 1)) r)).toList == (str (wput k (-(b + 1)) r)).toList) = ((-(a + 1)) == (-(b + 1))) := by rw [str_toList, str_toList, e2]; simp [BEq.beq]
    clear e1 e2
    generalize str (wput k (-(a + 1)) r) = sx at *
    generalize str (wput k (-(b + 1)) r) = sy at *
    obtain ⟨bl, hbl⟩ : ∃ bl, bl = decide ((-(a + 1)) < (-(b + 1))) := ⟨_, rfl⟩
    obtain ⟨be, hbe⟩ : ∃ be, be = ((-(a + 1)) == (-(b + 1))) := ⟨_, rfl⟩
    rw [← hbl] at e3
    rw [← hbe] at e4
    have hbl' := hbl.symm
    have hbe' := hbe.symm
    clear hbl hbe
    generalize -(a + 1) = X at *
    generalize -(b + 1) = Y at *
    have g1 : (bl == bl) = true := by simp
    have g2 : (be == be) = true := by simp
    go_wp2
    go_ret
    exact ⟨rfl, B3.out⟩
  · rw [show upT a = (-(a + 1)) from if_pos hA] at HA
    rw [show upT b = b from if_neg hB] at HBd
    have HM : Hid (8 ≤ 8) := Lib.hid (by omega)
    obtain rfl : N = 8 := by omega
    clear hN
    go_wp2_with fail
    refine (wput_any k (-(a + 1)) A 8 c r w1 (by omega) (by omega) HL.out (small8 HM.out) R1.out).mono ?_
    rw [wok_yes HK.out HL8.out]
    rintro e w2 ⟨rfl, h2⟩
    have R2 := Lib.hid (R1.out.below h2)
    have B2 := Lib.hid (Below.step B1.out h2 (Nat.le_refl _))
    clear h2 R1 B1
    go_wp2_with fail
    refine (wput_any k b A 8 c r w2 (by omega) (by omega) HL.out (small8 HM.out) R2.out).mono ?_
    rw [wok_yes HK.out HL8.out]
    rintro e w3 ⟨rfl, h3⟩
    have B3 := Lib.hid (Below.step B2.out h3 (Nat.le_refl _))
    clear h3 R2 B2
    have e1 := wput_lt k (-(a + 1)) b r HK.out HL8.out HA.out HBd.out
    have e2 := wput_eq k (-(a + 1)) b r HK.out HL8.out HA.out HBd.out
    have s1 : (str (wput k (-(a + 1)) r)).size = 10 + 8 * r.length := (str_size _).trans (wput_length k (-(a + 1)) r HK.out HL8.out)
    have s2 : (str (wput k b r)).size = 10 + 8 * r.length := (str_size _).trans (wput_length k b r HK.out HL8.out)
    have e3 : Op.bytesLess (str (wput k (-(a + 1)) r)).toList (str (wput k b r)).toList = decide ((-(a + 1)) < b) := by rw [str_toList, str_toList]; exact e1
    have e4 : ((str (wput k (-(a + 1)) r)).toList == (str (wput k b r)).toList) = ((-(a + 1)) == b) := by rw [str_toList, str_toList, e2]; simp [BEq.beq]
    clear e1 e2
    generalize str (wput k (-(a + 1)) r) = sx at *
    generalize str (wput k b r) = sy at *
    obtain ⟨bl, hbl⟩ : ∃ bl, bl = decide ((-(a + 1)) < b) := ⟨_, rfl⟩
    obtain ⟨be, hbe⟩ : ∃ be, be = ((-(a + 1)) == b) := ⟨_, rfl⟩
    rw [← hbl] at e3
    rw [← hbe] at e4
    have hbl' := hbl.symm
    have hbe' := hbe.symm
    clear hbl hbe
    have g1 : (bl == bl) = true := by simp
    have g2 : (be == be) = true := by simp
    go_wp2
    go_ret
    exact ⟨rfl, B3.out⟩
  · rw [show upT a = (-(a + 1)) from if_pos hA] at HA
    rw [show upT b = b from if_neg hB] at HBd
    have HM : Hid (N ≤ 8) := Lib.hid (by omega)
    obtain rfl : N = n := by omega
    clear hN
    go_wp2_with fail
    refine (wput_any k (-(a + 1)) A N c r w1 (by omega) (by omega) HL.out (small8 HM.out) R1.out).mono ?_
    rw [wok_yes HK.out HL8.out]
    rintro e w2 ⟨rfl, h2⟩
    have R2 := Lib.hid (R1.out.below h2)
    have B2 := Lib.hid (Below.step B1.out h2 (Nat.le_refl _))
    clear h2 R1 B1
    go_wp2_with fail
    refine (wput_any k b A N c r w2 (by omega) (by omega) HL.out (small8 HM.out) R2.out).mono ?_
    rw [wok_yes HK.out HL8.out]
    rintro e w3 ⟨rfl, h3⟩
    have B3 := Lib.hid (Below.step B2.out h3 (Nat.le_refl _))
    clear h3 R2 B2
    have e1 := wput_lt k (-(a + 1)) b r HK.out HL8.out HA.out HBd.out
    have e2 := wput_eq k (-(a + 1)) b r HK.out HL8.out HA.out HBd.out
    have s1 : (str (wput k (-(a + 1)) r)).size = 10 + 8 * r.length := (str_size _).trans (wput_length k (-(a + 1)) r HK.out HL8.out)
    have s2 : (str (wput k b r)).size = 10 + 8 * r.length := (str_size _).trans (wput_length k b r HK.out HL8.out)
    have e3 : Op.bytesLess (str (wput k (-(a + 1)) r)).toList (str (wput k b r)).toList = decide ((-(a + 1)) < b) := by rw [str_toList, str_toList]; exact e1
    have e4 : ((str (wput k (-(a + 1)) r)).toList == (str (wput k b r)).toList) = ((-(a + 1)) == b) := by rw [str_toList, str_toList, e2]; simp [BEq.beq]
    clear e1 e2
    generalize str (wput k (-(a + 1)) r) = sx at *
    generalize str (wput k b r) = sy at *
    obtain ⟨bl, hbl⟩ : ∃ bl, bl = decide ((-(a + 1)) < b) := ⟨_, rfl⟩
    obtain ⟨be, hbe⟩ : ∃ be, be = ((-(a + 1)) == b) := ⟨_, rfl⟩
    rw [← hbl] at e3
    rw [← hbe] at e4
    have hbl' := hbl.symm
    have hbe' := hbe.symm
    clear hbl hbe
    have g1 : (bl == bl) = true := by simp
    have g2 : (be == be) = true := by simp
    go_wp2
    go_ret
    exact ⟨rfl, B3.out⟩
  · rw [show upT a = a from if_neg hA] at HA
    rw [show upT b = (-(b + 1)) from if_pos hB] at HBd
    have HM : Hid (8 ≤ 8) := Lib.hid (by omega)
    obtain rfl : N = 8 := by omega
    clear hN
    go_wp2_with fail
    refine (wput_any k a A 8 c r w1 (by omega) (by omega) HL.out (small8 HM.out) R1.out).mono ?_
    rw [wok_yes HK.out HL8.out]
    rintro e w2 ⟨rfl, h2⟩
    have R2 := Lib.hid (R1.out.below h2)
    have B2 := Lib.hid (Below.step B1.out h2 (Nat.le_refl _))
    clear h2 R1 B1
    go_wp2_with fail
    refine (wput_any k (-(b + 1)) A 8 c r w2 (by omega) (by omega) HL.out (small8 HM.out) R2.out).mono ?_
    rw [wok_yes HK.out HL8.out]
    rintro e w3 ⟨rfl, h3⟩
    have B3 := Lib.hid (Below.step B2.out h3 (Nat.le_refl _))
    clear h3 R2 B2
    have e1 := wput_lt k a (-(b + 1)) r HK.out HL8.out HA.out HBd.out
    have e2 := wput_eq k a (-(b + 1)) r HK.out HL8.out HA.out HBd.out
    have s1 : (str (wput k a r)).size = 10 + 8 * r.length := (str_size _).trans (wput_length k a r HK.out HL8.out)
    have s2 : (str (wput k (-(b + 1)) r)).size = 10 + 8 * r.length := (str_size _).trans (wput_length k (-(b + 1)) r HK.out HL8.out)
    have e3 : Op.bytesLess (str (wput k a r)).toList (str (wput k (-(b + 1)) r)).toList = decide (a < (-(b + 1))) := by rw [str_toList, str_toList]; exact e1
    have e4 : ((str (wput k a r)).toList == (str (wput k (-(b + 1)) r)).toList) = (a == (-(b + 1))) := by rw [str_toList, str_toList, e2]; simp [BEq.beq]
    clear e1 e2
    generalize str (wput k a r) = sx at *
    generalize str (wput k (-(b + 1)) r) = sy at *
    obtain ⟨bl, hbl⟩ : ∃ bl, bl = decide (a < (-(b + 1))) := ⟨_, rfl⟩
    obtain ⟨be, hbe⟩ : ∃ be, be = (a == (-(b + 1))) := ⟨_, rfl⟩
    rw [← hbl] at e3
    rw [← hbe] at e4
    have hbl' := hbl.symm
    have hbe' := hbe.symm
    clear hbl hbe
    have g1 : (bl == bl) = true := by simp
    have g2 : (be == be) = true := by simp
    go_wp2
    go_ret
    exact ⟨rfl, B3.out⟩
  · rw [show upT a = a from if_neg hA] at HA
    rw [show upT b = (-(b + 1)) from if_pos hB] at HBd
    have HM : Hid (N ≤ 8) := Lib.hid (by omega)
    obtain rfl : N = n := by omega
    clear hN
    go_wp2_with fail
    refine (wput_any k a A N c r w1 (by omega) (by omega) HL.out (small8 HM.out) R1.out).mono ?_
    rw [wok_yes HK.out HL8.out]
    rintro e w2 ⟨rfl, h2⟩
    have R2 := Lib.hid (R1.out.below h2)
    have B2 := Lib.hid (Below.step B1.out h2 (Nat.le_refl _))
    clear h2 R1 B1
    go_wp2_with fail
    refine (wput_any k (-(b + 1)) A N c r w2 (by omega) (by omega) HL.out (small8 HM.out) R2.out).mono ?_
    rw [wok_yes HK.out HL8.out]
    rintro e w3 ⟨rfl, h3⟩
    have B3 := Lib.hid (Below.step B2.out h3 (Nat.le_refl _))
    clear h3 R2 B2
    have e1 := wput_lt k a (-(b + 1)) r HK.out HL8.out HA.out HBd.out
    have e2 := wput_eq k a (-(b + 1)) r HK.out HL8.out HA.out HBd.out
    have s1 : (str (wput k a r)).size = 10 + 8 * r.length := (str_size _).trans (wput_length k a r HK.out HL8.out)
    have s2 : (str (wput k (-(b + 1)) r)).size = 10 + 8 * r.length := (str_size _).trans (wput_length k (-(b + 1)) r HK.out HL8.out)
    have e3 : Op.bytesLess (str (wput k a r)).toList (str (wput k (-(b + 1)) r)).toList = decide (a < (-(b + 1))) := by rw [str_toList, str_toList]; exact e1
    have e4 : ((str (wput k a r)).toList == (str (wput k (-(b + 1)) r)).toList) = (a == (-(b + 1))) := by rw [str_toList, str_toList, e2]; simp [BEq.beq]
    clear e1 e2
    generalize str (wput k a r) = sx at *
    generalize str (wput k (-(b + 1)) r) = sy at *
    obtain ⟨bl, hbl⟩ : ∃ bl, bl = decide (a < (-(b + 1))) := ⟨_, rfl⟩
    obtain ⟨be, hbe⟩ : ∃ be, be = (a == (-(b + 1))) := ⟨_, rfl⟩
    rw [← hbl] at e3
    rw [← hbe] at e4
    have hbl' := hbl.symm
    have hbe' := hbe.symm
    clear hbl hbe
    have g1 : (bl == bl) = true := by simp
    have g2 : (be == be) = true := by simp
    go_wp2
    go_ret
    exact ⟨rfl, B3.out⟩
  · rw [show upT a = a from if_neg hA] at HA
    rw [show upT b = b from if_neg hB] at HBd
    have HM : Hid (8 ≤ 8) := Lib.hid (by omega)
    obtain rfl : N = 8 := by omega
    clear hN
    go_wp2_with fail
    refine (wput_any k a A 8 c r w1 (by omega) (by omega) HL.out (small8 HM.out) R1.out).mono ?_
    rw [wok_yes HK.out HL8.out]
    rintro e w2 ⟨rfl, h2⟩
    have R2 := Lib.hid (R1.out.below h2)
    have B2 := Lib.hid (Below.step B1.out h2 (Nat.le_refl _))
    clear h2 R1 B1
    go_wp2_with fail
    refine (wput_any k b A 8 c r w2 (by omega) (by omega) HL.out (small8 HM.out) R2.out).mono ?_
    rw [wok_yes HK.out HL8.out]
    rintro e w3 ⟨rfl, h3⟩
    have B3 := Lib.hid (Below.step B2.out h3 (Nat.le_refl _))
    clear h3 R2 B2
    have e1 := wput_lt k a b r HK.out HL8.out HA.out HBd.out
    have e2 := wput_eq k a b r HK.out HL8.out HA.out HBd.out
    have s1 : (str (wput k a r)).size = 10 + 8 * r.length := (str_size _).trans (wput_length k a r HK.out HL8.out)
    have s2 : (str (wput k b r)).size = 10 + 8 * r.length := (str_size _).trans (wput_length k b r HK.out HL8.out)
    have e3 : Op.bytesLess (str (wput k a r)).toList (str (wput k b r)).toList = decide (a < b) := by rw [str_toList, str_toList]; exact e1
    have e4 : ((str (wput k a r)).toList == (str (wput k b r)).toList) = (a == b) := by rw [str_toList, str_toList, e2]; simp [BEq.beq]
    clear e1 e2
    generalize str (wput k a r) = sx at *
    generalize str (wput k b r) = sy at *
    obtain ⟨bl, hbl⟩ : ∃ bl, bl = decide (a < b) := ⟨_, rfl⟩
    obtain ⟨be, hbe⟩ : ∃ be, be = (a == b) := ⟨_, rfl⟩
    rw [← hbl] at e3
    rw [← hbe] at e4
    have hbl' := hbl.symm
    have hbe' := hbe.symm
    clear hbl hbe
    have g1 : (bl == bl) = true := by simp
    have g2 : (be == be) = true := by simp
    go_wp2
    go_ret
    exact ⟨rfl, B3.out⟩
  · rw [show upT a = a from if_neg hA] at HA
    rw [show upT b = b from if_neg hB] at HBd
    have HM : Hid (N ≤ 8) := Lib.hid (by omega)
    obtain rfl : N = n := by omega
    clear hN
    go_wp2_with fail
    refine (wput_any k a A N c r w1 (by omega) (by omega) HL.out (small8 HM.out) R1.out).mono ?_
    rw [wok_yes HK.out HL8.out]
    rintro e w2 ⟨rfl, h2⟩
    have R2 := Lib.hid (R1.out.below h2)
    have B2 := Lib.hid (Below.step B1.out h2 (Nat.le_refl _))
    clear h2 R1 B1
    go_wp2_with fail
    refine (wput_any k b A N c r w2 (by omega) (by omega) HL.out (small8 HM.out) R2.out).mono ?_
    rw [wok_yes HK.out HL8.out]
    rintro e w3 ⟨rfl, h3⟩
    have B3 := Lib.hid (Below.step B2.out h3 (Nat.le_refl _))
    clear h3 R2 B2
    have e1 := wput_lt k a b r HK.out HL8.out HA.out HBd.out
    have e2 := wput_eq k a b r HK.out HL8.out HA.out HBd.out
    have s1 : (str (wput k a r)).size = 10 + 8 * r.length := (str_size _).trans (wput_length k a r HK.out HL8.out)
    have s2 : (str (wput k b r)).size = 10 + 8 * r.length := (str_size _).trans (wput_length k b r HK.out HL8.out)
    have e3 : Op.bytesLess (str (wput k a r)).toList (str (wput k b r)).toList = decide (a < b) := by rw [str_toList, str_toList]; exact e1
    have e4 : ((str (wput k a r)).toList == (str (wput k b r)).toList) = (a == b) := by rw [str_toList, str_toList, e2]; simp [BEq.beq]
    clear e1 e2
    generalize str (wput k a r) = sx at *
    generalize str (wput k b r) = sy at *
    obtain ⟨bl, hbl⟩ : ∃ bl, bl = decide (a < b) := ⟨_, rfl⟩
    obtain ⟨be, hbe⟩ : ∃ be, be = (a == b) := ⟨_, rfl⟩
    rw [← hbl] at e3
    rw [← hbe] at e4
    have hbl' := hbl.symm
    have hbe' := hbe.symm
    clear hbl hbe
    have g1 : (bl == bl) = true := by simp
    have g2 : (be == be) = true := by simp
    go_wp2
    go_ret
    exact ⟨rfl, B3.out⟩
end Go.Proofs.Ytcmgkmllmdgcbaa
