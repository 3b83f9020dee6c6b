/- What the document's own Put, Get, Int and GetInt of chapter 2 return, as contracts: the same functions of numbers and lists as the program's. -/
import Derived.Test.YtcmgkmllmdgcbaaCdGet
namespace Go.Proofs.Ytcmgkmllmdgcbaa
open Go.RowKit
set_option linter.unusedVariables false

theorem put_two (a b n : Nat) : put (a + b) n = put a (n / 256 ^ b) ++ put b n := by
  induction b generalizing n with
  | zero => simp [put]
  | succ b ih => rw [← Nat.add_assoc, put, ih, put, Nat.pow_succ, Nat.mul_comm, ← Nat.div_div_eq_div_mul, List.append_assoc]
theorem put_front (j n : Nat) : put (j + 1) n = [UInt8.ofNat (n / 256 ^ j % 256)] ++ put j n := by
  rw [Nat.add_comm, put_two 1 j n]; rfl
theorem conv_rem (x : Nat) (wr : World) : (convert 34 9 (.slice (some ⟨wr.heap.size, 0, none⟩) 1 1)).run Try.prog (wr.alloc (.cells #[.int .u8 ((x : Int) % 256)] 5)) =
    .ok (.string (str [UInt8.ofNat (x % 256)])) (wr.alloc (.cells #[.int .u8 ((x : Int) % 256)] 5)) := by
  refine conv_bytes (l := [UInt8.ofNat (x % 256)]) (W := 1) ?_ rfl
  have e : bcells [UInt8.ofNat (x % 256)] = #[.int .u8 ((x : Int) % 256)] := by
    unfold bcells
    simp only [List.map_cons, List.map_nil, ofNat_toNat (Nat.mod_lt x (show 256 > 0 by omega))]
    rw [Int.natCast_emod]; rfl
  rw [e]
  exact heap_alloc_new wr _

set_option maxHeartbeats 400000 in
theorem refput_in (K N : Nat) (w : World) (h1 : 1 ≤ K) (h8 : K ≤ 8) (hN : N < 18446744073709551616) :
    Calls Try.prog 33 #[.int .i64 K, .int .u64 N] w fun e w' => e = .returned (.tuple #[.string (str (putv K N)), .bool (putk K N)]) ∧ Below w.heap.size w w' := by
  have HN := Lib.hid hN
  clear hN
  go_enter Try.func33, Try.ntmps33
  go_wp2
  go_loopw [1, 6, 7] (fun n s i wr => ∃ j x : Nat, j ≤ K ∧ i = .int .i64 j ∧ n = .int .u64 x ∧ x = N / 256 ^ j ∧ s = .string (str (put j N)) ∧ Below w.heap.size w wr) (fun _ _ i _ => K - (intOf i).toNat)
  case atStart => exact ⟨0, N, by omega, rfl, rfl, by simp, rfl, Below.refl _ _⟩
  case round =>
    obtain ⟨j, x, hj, rfl, rfl, hx, rfl, hb⟩ := hrel
    have hx64 : x < 18446744073709551616 := by rw [hx]; exact Nat.lt_of_le_of_lt (Nat.div_le_self _ _) HN.out
    have HX := Lib.hid hx
    have HB := Lib.hid hb
    clear hx hb
    by_cases hlt : j < K
    · have hc := conv_rem x wr
      have hx' : ((x : Int)) ≤ 18446744073709551615 := by omega
      have hadd := run_add_str [UInt8.ofNat (x % 256)] (put j N) (by rw [put_length]; simp; omega)
      have HP : Hid ([UInt8.ofNat (x % 256)] ++ put j N = put (j + 1) N) := Lib.hid (by rw [put_front, HX.out])
      rw [HP.out] at hadd
      clear hx64
      go_wp2
      go_roundw
      case rel => exact ⟨j + 1, x / 256, by omega, by go_num, by rw [Int.natCast_ediv]; rfl, by rw [HX.out, Nat.pow_succ, Nat.div_div_eq_div_mul], rfl, HB.out.alloc HB.out.size _⟩
      case measure => simp [intOf]; omega
    · obtain rfl : j = K := by omega
      by_cases hp : putk j N = true
      · have hfit : N < 256 ^ j := by
          apply Classical.byContradiction
          intro hc
          rw [putk_big hc] at hp; cases hp
        have hx0 : ¬ 0 < x := by rw [HX.out, Nat.div_eq_of_lt hfit]; omega
        have P := Lib.hid hp
        clear hp hfit hx64
        go_wp2
        go_ret2
        exact ⟨by rw [putv_yes P.out, P.out]; rfl, HB.out⟩
      · have hp' : putk j N = false := by simpa using hp
        have hfit : 256 ^ j ≤ N := by
          apply Classical.byContradiction
          intro hc
          rw [putk_yes h1 h8 (by omega)] at hp'; cases hp'
        have hx0 : 0 < x := by rw [HX.out]; exact Nat.div_pos hfit (Nat.pow_pos (by omega))
        have P := Lib.hid hp'
        clear hp hp' hfit hx64
        go_wp2
        go_ret2
        exact ⟨by rw [putv_no P.out, P.out]; rfl, HB.out⟩
set_option maxHeartbeats 400000 in
theorem refput_any (W : Int) (N : Nat) (w : World) (hN : N < 18446744073709551616) :
    Calls Try.prog 33 #[.int .i64 W, .int .u64 N] w fun e w' => e = .returned (.tuple #[.string (str (putv W N)), .bool (putk W N)]) ∧ Below w.heap.size w w' := by
  by_cases hl : W < 1
  · have H := Lib.hid (putk_out (N := N) (.inl hl))
    clear hN
    go_enter Try.func33, Try.ntmps33
    go_wp2
    go_ret2
    exact ⟨by rw [putv_no H.out, H.out]; rfl, Below.refl _ _⟩
  by_cases hh : 8 < W
  · have H := Lib.hid (putk_out (N := N) (.inr hh))
    clear hN
    go_enter Try.func33, Try.ntmps33
    go_wp2
    go_ret2
    exact ⟨by rw [putv_no H.out, H.out]; rfl, Below.refl _ _⟩
  obtain ⟨k, rfl⟩ : ∃ k : Nat, W = k := ⟨W.toNat, by omega⟩
  exact refput_in k N w (by omega) (by omega) hN

theorem num_add (s : ByteArray) (i j k : Nat) (h : i + j < s.size) (hj : j < k) (h8 : k ≤ 8) :
    IntKind.u64.wrap (IntKind.u64.wrap (↑(num ((s.data.toList.drop i).take j)) * 256) + IntKind.u64.wrap ↑s[i + j].toNat) = (num ((s.data.toList.drop i).take (j + 1)) : Nat) := by
  have hl : i + j < s.data.toList.length := by simpa using h
  have h1 := num_lt ((s.data.toList.drop i).take j)
  have h2 : ((s.data.toList.drop i).take j).length ≤ 7 := by simp; omega
  have h3 : 256 ^ ((s.data.toList.drop i).take j).length ≤ 256 ^ 7 := Nat.pow_le_pow_right (by omega) h2
  have hx := Nat.lt_of_lt_of_le h1 h3
  have e : (s.data.toList[i + j]'hl) = s[i + j] := rfl
  rw [take_step hl, num_snoc, e]
  have hb := s[i + j].toNat_lt
  generalize num ((s.data.toList.drop i).take j) = x at *
  rw [IntWalk.u64_in ((x : Int) * 256) (by omega), IntWalk.u64_in (s[i + j].toNat : Int) (by omega), IntWalk.u64_in _ (by omega)]
  omega
set_option maxHeartbeats 400000 in
theorem refget_yes (s : ByteArray) (i k : Nat) (w : World) (h1 : 1 ≤ k) (h8 : k ≤ 8) (hi : i + k ≤ s.size) (hs : s.size ≤ 4611686018427387904) :
    Calls Try.prog 36 #[.string s, .int .i64 i, .int .i64 k] w fun e w' => e = .returned (.tuple #[.int .u64 (num ((s.data.toList.drop i).take k) : Nat), .bool true]) ∧ w = w' := by
  have hd1 : decide ((k : Int) < 1) = false := by simp; omega
  have hd2 : decide ((8 : Int) < (k : Int)) = false := by simp; omega
  have hd3 : decide ((i : Int) < 0) = false := by simp
  have hd4 : decide (s.size < i) = false := by simp; omega
  have hd5 : decide ((s.size : Int) - i < k) = false := by simp; omega
  go_enter Try.func36, Try.ntmps36
  go_wp2
  go_loop [8, 9] (fun n i' => ∃ j : Nat, j ≤ k ∧ i' = .int .i64 j ∧ n = .int .u64 (num ((s.data.toList.drop i).take j) : Nat)) (fun _ i' => k - (intOf i').toNat)
  case atStart => exact ⟨0, by omega, rfl, rfl⟩
  case round =>
    obtain ⟨j, hj, rfl, rfl⟩ := hrel
    by_cases hlt : j < k
    · have HN := Lib.hid (num_add s i j k (by omega) hlt h8)
      have hij : i + j < s.size := by omega
      go_wp2
      go_round
      case rel => exact ⟨j + 1, by omega, by go_num, by rw [HN.out]⟩
      case measure => simp [intOf]; omega
    · obtain rfl : j = k := by omega
      go_wp2
      go_ret2
      exact ⟨rfl, rfl⟩
set_option maxHeartbeats 400000 in
theorem refget_no (s : ByteArray) (at_ W : Int) (w : World) (h : W < 1 ∨ 8 < W ∨ at_ < 0 ∨ s.size < at_ + W) (hs : s.size ≤ 4611686018427387904) :
    Calls Try.prog 36 #[.string s, .int .i64 at_, .int .i64 W] w fun e w' => e = .returned (.tuple #[.int .u64 0, .bool false]) ∧ w = w' := by
  by_cases h1 : W < 1
  · clear h
    go_enter Try.func36, Try.ntmps36
    go_wp2
    go_ret2
    exact ⟨rfl, rfl⟩
  by_cases h8 : 8 < W
  · clear h
    go_enter Try.func36, Try.ntmps36
    go_wp2
    go_ret2
    exact ⟨rfl, rfl⟩
  by_cases h0 : at_ < 0
  · clear h
    go_enter Try.func36, Try.ntmps36
    go_wp2
    go_ret2
    exact ⟨rfl, rfl⟩
  by_cases h9 : s.size < at_
  · clear h
    go_enter Try.func36, Try.ntmps36
    go_wp2
    go_ret2
    exact ⟨rfl, rfl⟩
  have h10 : s.size - at_ < W := by omega
  clear h
  go_enter Try.func36, Try.ntmps36
  go_wp2
  go_ret2
  exact ⟨rfl, rfl⟩

theorem refget_any (s : ByteArray) (at_ W : Int) (w : World) (hs : s.size ≤ 4611686018427387904) :
    Calls Try.prog 36 #[.string s, .int .i64 at_, .int .i64 W] w fun e w' => e = .returned (.tuple #[.int .u64 (getv s.data.toList at_ W : Nat), .bool (getk s.data.toList at_ W)]) ∧ w = w' := by
  have hl : s.data.toList.length = s.size := by simp
  rcases getk_cases s.data.toList at_ W with ⟨hk, i, k, rfl, rfl, h1, h8, hi⟩ | ⟨hk, h⟩
  · rw [getv_yes hk, hk]
    exact refget_yes s i k w h1 h8 (by omega) hs
  · rw [getv_no hk, hk]
    exact refget_no s at_ W w (by omega) hs
set_option maxHeartbeats 400000 in
theorem refgetint_any (s : ByteArray) (at_ : Int) (w : World) (hs : s.size ≤ 4611686018427387904) :
    Calls Try.prog 27 #[.string s, .int .i64 at_] w fun e w' => e = .returned (.tuple #[.int .i64 (wrap64 (getv s.data.toList at_ 8 : Nat)), .bool (getk s.data.toList at_ 8)]) ∧ w = w' := by
  go_enter Try.func27, Try.ntmps27
  go_wp2_with fail
  refine (refget_any s at_ 8 _ hs).mono ?_
  rintro e w' ⟨rfl, rfl⟩
  go_wp2
  go_ret2
  exact ⟨rfl, rfl⟩
set_option maxHeartbeats 400000 in
theorem refint_any (n : Int) (N : Nat) (w : World) (h : IntKind.u64.wrap n = N) (hN : N < 18446744073709551616) :
    Calls Try.prog 24 #[.int .i64 n] w fun e w' => e = .returned (.string (str (put 8 N))) ∧ Below w.heap.size w w' := by
  have hp : putk 8 N = true := putk_yes (k := 8) (by omega) (by omega) (by rw [show (256 : Nat) ^ 8 = 18446744073709551616 from rfl]; exact hN)
  have hpv : putv 8 N = put 8 N := putv_yes (k := 8) hp
  have PV := Lib.hid hpv
  have HN := Lib.hid hN
  clear hN hp hpv
  go_enter Try.func24, Try.ntmps24
  go_wp2_with fail
  refine (refput_any 8 N _ HN.out).mono ?_
  rintro e w' ⟨rfl, hb⟩
  rw [PV.out]
  have HB := Lib.hid hb
  clear hb
  go_wp2
  go_ret
  exact ⟨rfl, HB.out⟩
end Go.Proofs.Ytcmgkmllmdgcbaa
