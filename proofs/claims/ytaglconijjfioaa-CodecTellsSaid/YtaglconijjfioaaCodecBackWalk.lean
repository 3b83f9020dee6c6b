/- The walk of CodecBack: it returns true, whatever the two numbers and the width. -/
import Derived.Test.YtaglconijjfioaaCodecIntsWalk
namespace Go.Proofs.Ytaglconijjfioaa
open Go.RowKit
set_option linter.unusedVariables false

theorem wrap_pow {K : Nat} (h : K ≤ 7) : IntKind.u64.wrap (2 ^ (8 * K)) = ((256 ^ K : Nat) : Int) := by
  have h1 : 256 ^ K ≤ 256 ^ 7 := Nat.pow_le_pow_right (by omega) h
  rw [two_pow_bytes]
  generalize 256 ^ K = z at *
  exact IntWalk.u64_in _ (by omega)

set_option maxRecDepth 100000 in
set_option maxHeartbeats 2000000 in
theorem back_no (N M K : Nat) (d : Int) (w : World) (hN : N < 18446744073709551616) (hM : M < 18446744073709551616) (hd0 : 0 ≤ d) (hd1 : d ≤ 255) (hK : 1 + d % 8 = (K : Int)) (hK7 : K ≤ 7) (hb : 256 ^ K ≤ N) :
    Calls Try.prog 4 #[.int .u64 N, .int .u64 M, .int .u8 d] w fun e w' => e = .returned (.bool true) ∧ Below w.heap.size w w' := by
  have hK1 : 1 ≤ K := by omega
  have HN := Lib.hid hN
  have HM := Lib.hid hM
  have P := Lib.hid (putk_big (N := N) (k := K) (by omega))
  have hne : ((K : Int) == 8) = false := by simp; omega
  have hw := wrap_pow hK7
  obtain ⟨Z, hZ⟩ : ∃ Z : Nat, Z = 256 ^ K := ⟨_, rfl⟩
  rw [← hZ] at hb hw
  have hz : decide (N < Z) = false := by simp; omega
  have he : (str []).toList = [] := str_toList _
  clear hZ
  clear hN hM
  go_enter Try.func4, Try.ntmps4
  go_wp2_with fail
  refine (codec_head _).mono ?_
  rintro e w1 ⟨rfl, hb⟩
  have B1 := Lib.hid hb
  clear hb
  go_wp2_with fail
  refine (put_any K N _ HN.out).mono ?_
  rintro e w2 ⟨rfl, hb⟩
  rw [P.out, putv_no P.out]
  have B2 := Lib.hid (below2 B1.out hb)
  clear hb B1
  go_wp2_with fail
  refine (put_any K M _ HM.out).mono ?_
  rintro e w3 ⟨rfl, hb⟩
  rw [show putk K M = putk K M from rfl]
  have B3 := Lib.hid (below2 B2.out hb)
  clear hb B2

  go_wp2
  go_ret
  exact ⟨rfl, B3.out⟩

set_option maxRecDepth 100000 in
set_option maxHeartbeats 2000000 in
theorem back_half (N M K : Nat) (d : Int) (w : World) (hN : N < 18446744073709551616) (hM : M < 18446744073709551616) (hd0 : 0 ≤ d) (hd1 : d ≤ 255) (hK : 1 + d % 8 = (K : Int)) (hK7 : K ≤ 7) (hb : N < 256 ^ K) (hc : 256 ^ K ≤ M) :
    Calls Try.prog 4 #[.int .u64 N, .int .u64 M, .int .u8 d] w fun e w' => e = .returned (.bool true) ∧ Below w.heap.size w w' := by
  have hK1 : 1 ≤ K := by omega
  have HN := Lib.hid hN
  have HM := Lib.hid hM
  have P := Lib.hid (putk_yes (N := N) (k := K) hK1 (by omega) hb)
  have P2 := Lib.hid (putk_big (N := M) (k := K) (by omega))
  have hne : ((K : Int) == 8) = false := by simp; omega
  have hw := wrap_pow hK7
  obtain ⟨Z, hZ⟩ : ∃ Z : Nat, Z = 256 ^ K := ⟨_, rfl⟩
  rw [← hZ] at hb hc hw
  clear hZ
  clear hN hM
  go_enter Try.func4, Try.ntmps4
  go_wp2_with fail
  refine (codec_head _).mono ?_
  rintro e w1 ⟨rfl, hb⟩
  have B1 := Lib.hid hb
  clear hb
  go_wp2_with fail
  refine (put_any K N _ HN.out).mono ?_
  rintro e w2 ⟨rfl, hb⟩
  rw [P.out]
  have B2 := Lib.hid (below2 B1.out hb)
  clear hb B1
  go_wp2_with fail
  refine (put_any K M _ HM.out).mono ?_
  rintro e w3 ⟨rfl, hb⟩
  rw [P2.out]
  have B3 := Lib.hid (below2 B2.out hb)
  clear hb B2

  go_wp2
  go_ret
  exact ⟨rfl, B3.out⟩

theorem cmp_put {N M K : Nat} (hN : N < 256 ^ K) (hM : M < 256 ^ K) : Op.bytesLess (put K N) (put K M) = decide (N < M) ∧ (put K N == put K M) = ((N : Int) == (M : Int)) := by
  refine ⟨?_, ?_⟩
  · rw [less_num _ _ (by rw [put_length, put_length]), num_put_of hN, num_put_of hM]
  · by_cases h : N = M
    · subst h; simp
    · have : put K N ≠ put K M := fun e => h (by rw [← num_put_of hN, ← num_put_of hM, e])
      have h' : ((N : Int) == (M : Int)) = false := by simp; omega
      rw [h']; simpa using this

set_option maxRecDepth 100000 in
set_option maxHeartbeats 2000000 in
theorem back_yes (N M K : Nat) (d : Int) (w : World) (hN : N < 18446744073709551616) (hM : M < 18446744073709551616) (hd0 : 0 ≤ d) (hd1 : d ≤ 255) (hK : 1 + d % 8 = (K : Int)) (hK7 : K ≤ 7) (hb : N < 256 ^ K) (hc : M < 256 ^ K) :
    Calls Try.prog 4 #[.int .u64 N, .int .u64 M, .int .u8 d] w fun e w' => e = .returned (.bool true) ∧ Below w.heap.size w w' := by
  have hK1 : 1 ≤ K := by omega
  have HN := Lib.hid hN
  have HM := Lib.hid hM
  have hpn := putk_yes (N := N) (k := K) hK1 (by omega) hb
  have hpm := putk_yes (N := M) (k := K) hK1 (by omega) hc
  have P := Lib.hid hpn
  have P2 := Lib.hid hpm
  have PV := Lib.hid (putv_yes hpn)
  have PV2 := Lib.hid (putv_yes hpm)
  clear hpn hpm
  obtain ⟨u, hu⟩ : ∃ u, u = [120] ++ put K N := ⟨_, rfl⟩
  obtain ⟨t, ht⟩ : ∃ t, t = u ++ put K M := ⟨_, rfl⟩
  have hul : u.length = 1 + K := by rw [hu, List.length_append, put_length]; rfl
  have htl : t.length = 1 + K + K := by rw [ht, List.length_append, put_length, hul]
  have hadd1 : ∀ W, (Op.stringOp .add ⟨#[120]⟩ (str (put K N))).run Try.prog W = .ok (.string (str u)) W := by
    rw [hu]; exact run_add_str [120] (put K N) (by rw [put_length]; simp; omega)
  have hadd2 := run_add_str u (put K M) (by rw [put_length]; omega)
  rw [← ht] at hadd2
  have hv1 : getv t 1 K = N := by
    have := getv_mid (a := [120]) (b := put K N) (c := put K M) hK1 (by omega) (put_length _ _)
    rw [num_put_of hb, ← List.append_assoc, ← hu, ← ht] at this
    exact this
  have hk1 : getk t 1 K = true := getk_yes (i := 1) hK1 (by omega) (by omega)
  have hv2 : getv t (1 + K) K = M := by
    have := getv_mid (a := u) (b := put K M) (c := []) hK1 (by omega) (put_length _ _)
    rw [num_put_of hc, List.append_nil, ← ht, hul] at this
    exact this
  have hk2 : getk t (1 + K) K = true := by
    have := getk_yes (l := t) (i := 1 + K) hK1 (by omega) (by omega)
    exact this
  have V1 := Lib.hid hv1
  have K1 := Lib.hid hk1
  have V2 := Lib.hid hv2
  have K2 := Lib.hid hk2
  have hts : t.length ≤ 100 := by omega
  have hs1 := str_toList (put K N)
  have hs2 := str_toList (put K M)
  have hz1 : (str (put K N)).size = K := by rw [str_size, put_length]
  obtain ⟨hless, heq⟩ := cmp_put hb hc
  clear hv1 hk1 hv2 hk2 hu ht hul htl
  have hne : ((K : Int) == 8) = false := by simp; omega
  have hw := wrap_pow hK7
  obtain ⟨Z, hZ⟩ : ∃ Z : Nat, Z = 256 ^ K := ⟨_, rfl⟩
  rw [← hZ] at hb hc hw
  clear hZ
  clear hN hM
  go_enter Try.func4, Try.ntmps4
  go_wp2_with fail
  refine (codec_head _).mono ?_
  rintro e w1 ⟨rfl, hb⟩
  have B1 := Lib.hid hb
  clear hb
  go_wp2_with fail
  refine (put_any K N _ HN.out).mono ?_
  rintro e w2 ⟨rfl, hb⟩
  rw [P.out, PV.out]
  have B2 := Lib.hid (below2 B1.out hb)
  clear hb B1
  go_wp2_with fail
  refine (put_any K M _ HM.out).mono ?_
  rintro e w3 ⟨rfl, hb⟩
  rw [P2.out, PV2.out]
  have B3 := Lib.hid (below2 B2.out hb)
  clear hb B2
  go_wp2_with fail
  refine (get_any (str t) 1 K _ (by rw [str_size]; omega)).mono ?_
  rintro e w4 ⟨rfl, hb⟩
  rw [str_data, V1.out, K1.out]
  have B4 := Lib.hid (below2 B3.out hb)
  clear hb B3
  go_wp2_with fail
  refine (get_any (str t) (1 + K) K _ (by rw [str_size]; omega)).mono ?_
  rintro e w5 ⟨rfl, hb⟩
  rw [str_data, V2.out, K2.out]
  have B5 := Lib.hid (below2 B4.out hb)
  clear hb B4 hadd1 hadd2
  go_wp2
  go_ret
  exact ⟨rfl, B5.out⟩

set_option maxRecDepth 100000 in
set_option maxHeartbeats 2000000 in
theorem back_all (N M K : Nat) (d : Int) (w : World) (hN : N < 18446744073709551616) (hM : M < 18446744073709551616) (hd0 : 0 ≤ d) (hd1 : d ≤ 255) (hK : 1 + d % 8 = (K : Int)) (hK8 : K = 8) :
    Calls Try.prog 4 #[.int .u64 N, .int .u64 M, .int .u8 d] w fun e w' => e = .returned (.bool true) ∧ Below w.heap.size w w' := by
  have hK1 : 1 ≤ K := by omega
  have HN := Lib.hid hN
  have HM := Lib.hid hM
  have hb : N < 256 ^ K := by rw [hK8, pow8]; exact hN
  have hc : M < 256 ^ K := by rw [hK8, pow8]; exact hM
  have hpn := putk_yes (N := N) (k := K) hK1 (by omega) hb
  have hpm := putk_yes (N := M) (k := K) hK1 (by omega) hc
  have P := Lib.hid hpn
  have P2 := Lib.hid hpm
  have PV := Lib.hid (putv_yes hpn)
  have PV2 := Lib.hid (putv_yes hpm)
  clear hpn hpm
  obtain ⟨u, hu⟩ : ∃ u, u = [120] ++ put K N := ⟨_, rfl⟩
  obtain ⟨t, ht⟩ : ∃ t, t = u ++ put K M := ⟨_, rfl⟩
  have hul : u.length = 1 + K := by rw [hu, List.length_append, put_length]; rfl
  have htl : t.length = 1 + K + K := by rw [ht, List.length_append, put_length, hul]
  have hadd1 : ∀ W, (Op.stringOp .add ⟨#[120]⟩ (str (put K N))).run Try.prog W = .ok (.string (str u)) W := by
    rw [hu]; exact run_add_str [120] (put K N) (by rw [put_length]; simp; omega)
  have hadd2 := run_add_str u (put K M) (by rw [put_length]; omega)
  rw [← ht] at hadd2
  have hv1 : getv t 1 K = N := by
    have := getv_mid (a := [120]) (b := put K N) (c := put K M) hK1 (by omega) (put_length _ _)
    rw [num_put_of hb, ← List.append_assoc, ← hu, ← ht] at this
    exact this
  have hk1 : getk t 1 K = true := getk_yes (i := 1) hK1 (by omega) (by omega)
  have hv2 : getv t (1 + K) K = M := by
    have := getv_mid (a := u) (b := put K M) (c := []) hK1 (by omega) (put_length _ _)
    rw [num_put_of hc, List.append_nil, ← ht, hul] at this
    exact this
  have hk2 : getk t (1 + K) K = true := by
    have := getk_yes (l := t) (i := 1 + K) hK1 (by omega) (by omega)
    exact this
  have V1 := Lib.hid hv1
  have K1 := Lib.hid hk1
  have V2 := Lib.hid hv2
  have K2 := Lib.hid hk2
  have hts : t.length ≤ 100 := by omega
  have hs1 := str_toList (put K N)
  have hs2 := str_toList (put K M)
  have hz1 : (str (put K N)).size = K := by rw [str_size, put_length]
  obtain ⟨hless, heq⟩ := cmp_put hb hc
  clear hv1 hk1 hv2 hk2 hu ht hul htl
  have hne : ((K : Int) == 8) = true := by simp; omega
  have h8 : K ≤ 8 := by omega
  clear hK8 hb hc
  clear hN hM
  go_enter Try.func4, Try.ntmps4
  go_wp2_with fail
  refine (codec_head _).mono ?_
  rintro e w1 ⟨rfl, hb⟩
  have B1 := Lib.hid hb
  clear hb
  go_wp2_with fail
  refine (put_any K N _ HN.out).mono ?_
  rintro e w2 ⟨rfl, hb⟩
  rw [P.out, PV.out]
  have B2 := Lib.hid (below2 B1.out hb)
  clear hb B1
  go_wp2_with fail
  refine (put_any K M _ HM.out).mono ?_
  rintro e w3 ⟨rfl, hb⟩
  rw [P2.out, PV2.out]
  have B3 := Lib.hid (below2 B2.out hb)
  clear hb B2
  go_wp2_with fail
  refine (get_any (str t) 1 K _ (by rw [str_size]; omega)).mono ?_
  rintro e w4 ⟨rfl, hb⟩
  rw [str_data, V1.out, K1.out]
  have B4 := Lib.hid (below2 B3.out hb)
  clear hb B3
  go_wp2_with fail
  refine (get_any (str t) (1 + K) K _ (by rw [str_size]; omega)).mono ?_
  rintro e w5 ⟨rfl, hb⟩
  rw [str_data, V2.out, K2.out]
  have B5 := Lib.hid (below2 B4.out hb)
  clear hb B4 hadd1 hadd2
  go_wp2
  go_ret
  exact ⟨rfl, B5.out⟩

theorem back_walk (n m d : Int) (w : World) (hn : 0 ≤ n ∧ n ≤ 18446744073709551615) (hm : 0 ≤ m ∧ m ≤ 18446744073709551615) (hd : 0 ≤ d ∧ d ≤ 255) :
    Calls Try.prog 4 #[.int .u64 n, .int .u64 m, .int .u8 d] w fun e w' => e = .returned (.bool true) ∧ Below w.heap.size w w' := by
  obtain ⟨N, rfl⟩ : ∃ N : Nat, n = N := ⟨n.toNat, by omega⟩
  obtain ⟨M, rfl⟩ : ∃ M : Nat, m = M := ⟨m.toNat, by omega⟩
  obtain ⟨K, hK⟩ : ∃ K : Nat, 1 + d % 8 = K := ⟨(1 + d % 8).toNat, by omega⟩
  by_cases h8 : K = 8
  · exact back_all N M K d w (by omega) (by omega) hd.1 hd.2 hK h8
  · by_cases h1 : N < 256 ^ K
    · by_cases h2 : M < 256 ^ K
      · exact back_yes N M K d w (by omega) (by omega) hd.1 hd.2 hK (by omega) h1 h2
      · exact back_half N M K d w (by omega) (by omega) hd.1 hd.2 hK (by omega) h1 (by omega)
    · exact back_no N M K d w (by omega) (by omega) hd.1 hd.2 hK (by omega) (by omega)
end Go.Proofs.Ytaglconijjfioaa
