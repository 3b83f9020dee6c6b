/- The walk of CodecParts: it returns true, whatever the number and the texts around it. -/
import Derived.Test.YtaglconijjfioaaCodecIntsWalk
namespace Go.Proofs.Ytaglconijjfioaa
open Go.RowKit
set_option linter.unusedVariables false

theorem put_split (a b n : Nat) : put (a + b) n = put a (n / 256 ^ b) ++ put b n := by
  induction b generalizing n with
  | zero => simp [put]
  | succ b ih => rw [← Nat.add_assoc, put, ih, put, Nat.pow_succ, Nat.mul_comm, ← Nat.div_div_eq_div_mul, List.append_assoc]
theorem nat_and_255 (x : Nat) : x &&& 255 = x % 256 := Nat.and_two_pow_sub_one_eq_mod x 8
theorem parts_or (H L : Nat) (hH : H < 4294967296) (hL : L < 4294967296) : bits BinOp.or IntKind.u64 (IntKind.u64.wrap ((H : Int) * 4294967296)) (L : Int) = ((H * 4294967296 + L : Nat) : Int) := by
  rw [IntWalk.u64_in _ (by omega), show (H : Int) * 4294967296 = ((H * 4294967296 : Nat) : Int) by omega, u64_or_nat _ _ (by omega) (by omega),
    nat_join 32 (H * 4294967296) L (by omega) (by omega)]
theorem parts_and (N : Nat) (hN : N < 18446744073709551616) : bits BinOp.and IntKind.u64 (N : Int) 255 = ((N % 256 : Nat) : Int) := by
  have := u64_and_nat N 255 hN (by omega)
  rw [nat_and_255] at this
  exact this

set_option maxRecDepth 100000 in
set_option maxHeartbeats 1000000 in
theorem parts_walk (n : Int) (l r : List UInt8) (w : World) (hn : 0 ≤ n ∧ n ≤ 18446744073709551615) (hl : l.length ≤ 1000000000000000) (hr : r.length ≤ 1000000000000000) :
    Calls Try.prog 7 #[.int .u64 n, .string (str l), .string (str r)] w fun e w' => e = .returned (.bool true) ∧ Below w.heap.size w w' := by
  obtain ⟨N, rfl⟩ : ∃ N : Nat, n = N := ⟨n.toNat, by omega⟩
  have hN : N < 18446744073709551616 := by omega
  have HN := Lib.hid hN
  clear hn
  obtain ⟨H, L, O, hH, hL, hO, hor, hand⟩ : ∃ H L O : Nat, H = N / 256 ^ 4 % 256 ^ 4 ∧ L = N % 256 ^ 4 ∧ O = N % 256 ^ 1 ∧ bits BinOp.or IntKind.u64 (IntKind.u64.wrap ((H : Int) * 4294967296)) (L : Int) = N ∧ bits BinOp.and IntKind.u64 (N : Int) 255 = O := by
    refine ⟨_, _, _, rfl, rfl, rfl, ?_, ?_⟩
    · rw [parts_or _ _ (by omega) (by omega)]; omega
    · exact parts_and N hN
  have h8 : put 8 N = put 4 (N / 256 ^ 4) ++ put 4 N := put_split 4 4 N
  have h71 : put 8 N = put 7 (N / 256 ^ 1) ++ put 1 N := put_split 7 1 N
  have hv1 : getv (l ++ (put 8 N ++ r)) l.length 4 = H := by
    have := getv_mid (a := l) (b := put 4 (N / 256 ^ 4)) (c := put 4 N ++ r) (k := 4) (by omega) (by omega) (put_length _ _)
    rw [num_put, ← hH, ← List.append_assoc (put 4 _), ← h8] at this
    exact this
  have hk1 : getk (l ++ (put 8 N ++ r)) l.length 4 = true := getk_yes (k := 4) (by omega) (by omega) (by simp [put_length]; omega)
  have hv2 : getv (l ++ (put 8 N ++ r)) (l.length + 4) 4 = L := by
    have := getv_mid (a := l ++ put 4 (N / 256 ^ 4)) (b := put 4 N) (c := r) (k := 4) (by omega) (by omega) (put_length _ _)
    rw [num_put, ← hL, List.append_assoc, ← List.append_assoc (put 4 _), ← h8, List.length_append, put_length] at this
    exact this
  have hk2 : getk (l ++ (put 8 N ++ r)) (l.length + 4) 4 = true := by
    have := getk_yes (l := l ++ (put 8 N ++ r)) (i := l.length + 4) (k := 4) (by omega) (by omega) (by simp [put_length]; omega)
    exact this
  have hv3 : getv (l ++ (put 8 N ++ r)) (l.length + 7) 1 = O := by
    have := getv_mid (a := l ++ put 7 (N / 256 ^ 1)) (b := put 1 N) (c := r) (k := 1) (by omega) (by omega) (put_length _ _)
    rw [num_put, ← hO, List.append_assoc, ← List.append_assoc (put 7 _), ← h71, List.length_append, put_length] at this
    exact this
  have hk3 : getk (l ++ (put 8 N ++ r)) (l.length + 7) 1 = true := by
    have := getk_yes (l := l ++ (put 8 N ++ r)) (i := l.length + 7) (k := 1) (by omega) (by omega) (by simp [put_length]; omega)
    exact this
  have hp : putk 8 N = true := putk_yes (k := 8) (by omega) (by omega) (by rw [pow8]; exact hN)
  have hpv : putv 8 N = put 8 N := putv_yes (k := 8) hp
  obtain ⟨t, ht⟩ : ∃ t, t = l ++ (put 8 N ++ r) := ⟨_, rfl⟩
  have htl : t.length = l.length + (8 + r.length) := by rw [ht, List.length_append, List.length_append, put_length]
  have hadd1 := run_add_str l (put 8 N) (by rw [put_length]; omega)
  have hadd2 := run_add_str (l ++ put 8 N) r (by rw [List.length_append, put_length]; omega)
  rw [List.append_assoc, ← ht] at hadd2
  rw [← ht] at hv1 hk1 hv2 hk2 hv3 hk3
  have V1 := Lib.hid hv1
  have K1 := Lib.hid hk1
  have V2 := Lib.hid hv2
  have K2 := Lib.hid hk2
  have V3 := Lib.hid hv3
  have K3 := Lib.hid hk3
  have P := Lib.hid hp
  have PV := Lib.hid hpv
  have TL := Lib.hid htl
  have OR := Lib.hid hor
  have AND := Lib.hid hand
  have hsz := str_size l
  have hts : t.length ≤ 3000000000000000 := by omega
  have hl8 : l.length + 8 ≤ t.length := by omega
  clear hv1 hk1 hv2 hk2 hv3 hk3 hp hpv ht htl h8 h71 hH hL hO hor hand hN
  go_enter Try.func7, Try.ntmps7
  go_wp2_with fail
  refine (codec_head _).mono ?_
  rintro e w1 ⟨rfl, hb⟩
  have B1 := Lib.hid hb
  clear hb
  go_wp2_with fail
  refine (put_any 8 N _ HN.out).mono ?_
  rintro e w2 ⟨rfl, hb⟩
  rw [P.out, PV.out]
  have B2 := Lib.hid (below2 B1.out hb)
  clear hb B1
  go_wp2_with fail
  refine (get_any (str t) l.length 4 _ (by rw [str_size]; omega)).mono ?_
  rintro e w3 ⟨rfl, hb⟩
  rw [str_data, V1.out, K1.out]
  have B3 := Lib.hid (below2 B2.out hb)
  clear hb B2
  go_wp2_with fail
  refine (get_any (str t) (l.length + 4) 4 _ (by rw [str_size]; omega)).mono ?_
  rintro e w4 ⟨rfl, hb⟩
  rw [str_data, V2.out, K2.out]
  have B4 := Lib.hid (below2 B3.out hb)
  clear hb B3
  go_wp2_with fail
  refine (get_any (str t) (l.length + 7) 1 _ (by rw [str_size]; omega)).mono ?_
  rintro e w5 ⟨rfl, hb⟩
  rw [str_data, V3.out, K3.out]
  have B5 := Lib.hid (below2 B4.out hb)
  clear hb B4
  have hst := str_size t
  go_wp2_with fail
  refine (get_any (str t) t.length 1 _ (by rw [str_size]; omega)).mono ?_
  rintro e w6 ⟨rfl, hb⟩
  rw [str_data, show getk t t.length 1 = false from getk_no (by omega)]
  have B6 := Lib.hid (below2 B5.out hb)
  clear hb B5
  go_wp2_with fail
  refine (get_any (str t) (-1) 1 _ (by rw [str_size]; omega)).mono ?_
  rintro e w7 ⟨rfl, hb⟩
  rw [str_data, show getk t (-1) 1 = false from getk_no (by omega)]
  have B7 := Lib.hid (below2 B6.out hb)
  clear hb B6
  go_wp2_with fail
  refine (get_any (str t) 0 9 _ (by rw [str_size]; omega)).mono ?_
  rintro e w8 ⟨rfl, hb⟩
  rw [str_data, show getk t 0 9 = false from getk_no (by omega)]
  have B8 := Lib.hid (below2 B7.out hb)
  clear hb B7 hadd1 hadd2 hsz hst
  have hor := OR.out
  have hand := AND.out
  go_wp2
  go_ret
  exact ⟨rfl, B8.out⟩
end Go.Proofs.Ytaglconijjfioaa
