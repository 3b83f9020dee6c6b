/- The walk of CodecSets: it returns true, whatever the text, the place, the width and the number. -/
import Derived.Test.YtaglconijjfioaaCodecBackWalk
namespace Go.Proofs.Ytaglconijjfioaa
open Go.RowKit
set_option linter.unusedVariables false

theorem setv_yes {l : List UInt8} {i k N : Nat} (h1 : 1 ≤ k) (h8 : k ≤ 8) (hi : i + k ≤ l.length) (hN : N < 256 ^ k) :
    setk l i k N = true ∧ setv l i k N = l.take i ++ (put k N ++ l.drop (i + k)) := by
  have e : setk l i k N = true := by unfold setk; rw [putk_yes h1 h8 hN, getk_yes h1 h8 hi]; rfl
  exact ⟨e, by unfold setv; rw [e]; simp⟩
theorem setk_out {l : List UInt8} {i k N : Nat} (h : l.length < i + k) : setk l i k N = false := by
  unfold setk; rw [getk_no (by omega), Bool.and_false]

set_option maxRecDepth 100000 in
set_option maxHeartbeats 2000000 in
theorem sets_out_low (l : List UInt8) (a d : Int) (N I K R Z : Nat) (w : World) (hl : l.length ≤ 1000000000000000) (hN : N < 18446744073709551616) (ha0 : 0 ≤ a) (ha1 : a ≤ 255) (hI : a % 30 = (I : Int)) (hd0 : 0 ≤ d) (hd1 : d ≤ 255) (hK : 1 + d % 8 = (K : Int)) (hR : R < 18446744073709551616) (hout : l.length < I + K) (hK7 : K ≤ 7) (hw : IntKind.u64.wrap (2 ^ (8 * K)) = (Z : Int)) (hZ : 1 ≤ Z) (hm : (N : Int) % Z = R) :
    Calls Try.prog 5 #[.string (str l), .int .u8 a, .int .u8 d, .int .u64 N] w fun e w' => e = .returned (.bool true) ∧ Below w.heap.size w w' := by
  have hK1 : 1 ≤ K := by omega
  have hI30 : I < 30 := by omega
  have HN := Lib.hid hN
  have HR := Lib.hid hR
  have hsz := str_size l
  have OUT := Lib.hid (setk_out (N := R) hout)
  clear hN hR
  go_enter Try.func5, Try.ntmps5
  go_wp2_with fail
  refine (codec_head _).mono ?_
  rintro e w1 ⟨rfl, hb⟩
  have B1 := Lib.hid hb
  clear hb
  go_wp2_with fail
  refine (set_any (str l) I K R _ HR.out (by rw [str_size]; omega)).mono ?_
  rintro e w2 ⟨rfl, hb⟩
  rw [str_data, OUT.out, setk_no OUT.out]
  have B2 := Lib.hid (below2 B1.out hb)
  clear hb B1
  have he : (str []).toList = [] := str_toList _
  go_wp2
  go_ret
  exact ⟨rfl, B2.out⟩


set_option maxRecDepth 100000 in
set_option maxHeartbeats 2000000 in
theorem sets_out_top (l : List UInt8) (a d : Int) (N I K R : Nat) (w : World) (hl : l.length ≤ 1000000000000000) (hN : N < 18446744073709551616) (ha0 : 0 ≤ a) (ha1 : a ≤ 255) (hI : a % 30 = (I : Int)) (hd0 : 0 ≤ d) (hd1 : d ≤ 255) (hK : 1 + d % 8 = (K : Int)) (hR : R < 18446744073709551616) (hout : l.length < I + K) (hK8 : 8 ≤ K) (hK9 : K ≤ 8) (hm : R = N) :
    Calls Try.prog 5 #[.string (str l), .int .u8 a, .int .u8 d, .int .u64 N] w fun e w' => e = .returned (.bool true) ∧ Below w.heap.size w w' := by
  have hK1 : 1 ≤ K := by omega
  have hI30 : I < 30 := by omega
  have HN := Lib.hid hN
  have HR := Lib.hid hR
  have hsz := str_size l
  have OUT := Lib.hid (setk_out (N := R) hout)
  subst hm
  clear hN hR
  go_enter Try.func5, Try.ntmps5
  go_wp2_with fail
  refine (codec_head _).mono ?_
  rintro e w1 ⟨rfl, hb⟩
  have B1 := Lib.hid hb
  clear hb
  go_wp2_with fail
  refine (set_any (str l) I K R _ HR.out (by rw [str_size]; omega)).mono ?_
  rintro e w2 ⟨rfl, hb⟩
  rw [str_data, OUT.out, setk_no OUT.out]
  have B2 := Lib.hid (below2 B1.out hb)
  clear hb B1
  have he : (str []).toList = [] := str_toList _
  go_wp2
  go_ret
  exact ⟨rfl, B2.out⟩


set_option maxRecDepth 100000 in
set_option maxHeartbeats 2000000 in
theorem sets_in_low (l : List UInt8) (a d : Int) (N I K R Z : Nat) (w : World) (hl : l.length ≤ 1000000000000000) (hN : N < 18446744073709551616) (ha0 : 0 ≤ a) (ha1 : a ≤ 255) (hI : a % 30 = (I : Int)) (hd0 : 0 ≤ d) (hd1 : d ≤ 255) (hK : 1 + d % 8 = (K : Int)) (hR : R < 18446744073709551616) (hin : I + K ≤ l.length) (hfit : R < 256 ^ K) (hK7 : K ≤ 7) (hw : IntKind.u64.wrap (2 ^ (8 * K)) = (Z : Int)) (hZ : 1 ≤ Z) (hm : (N : Int) % Z = R) :
    Calls Try.prog 5 #[.string (str l), .int .u8 a, .int .u8 d, .int .u64 N] w fun e w' => e = .returned (.bool true) ∧ Below w.heap.size w w' := by
  have hK1 : 1 ≤ K := by omega
  have hI30 : I < 30 := by omega
  have HN := Lib.hid hN
  have HR := Lib.hid hR
  have hsz := str_size l
  have hin' : I + K ≤ l.length := hin
  obtain ⟨sk, sv⟩ := setv_yes (l := l) (i := I) (k := K) (N := R) hK1 (by omega) hin hfit
  obtain ⟨t, ht⟩ : ∃ t, t = l.take I ++ (put K R ++ l.drop (I + K)) := ⟨_, rfl⟩
  rw [← ht] at sv
  have hti : (l.take I).length = I := by simp; omega
  have htl : t.length = l.length := by rw [ht]; simp [put_length]; omega
  have gv : getv t I K = R := by
    have := getv_mid (a := l.take I) (b := put K R) (c := l.drop (I + K)) hK1 (by omega) (put_length _ _)
    rw [num_put_of hfit, ← ht, hti] at this
    exact this
  have gk : getk t I K = true := getk_yes hK1 (by omega) (by omega)
  have hx1 : (str t).extract 0 I = str (l.take I) := by
    rw [extract_str, str_data, ht, List.drop_zero, Nat.sub_zero, List.take_append_of_le_length (by omega), List.take_take, Nat.min_self]
  have hx2 : (str l).extract 0 I = str (l.take I) := by
    rw [extract_str, str_data, List.drop_zero, Nat.sub_zero]
  have hy1 : (str t).extract (I + K) l.length = str (l.drop (I + K)) := by
    rw [extract_str, str_data, ht, ← List.append_assoc, List.drop_append_of_le_length (by simp [put_length]; omega), List.drop_of_length_le (by simp [put_length]; omega), List.nil_append, List.take_of_length_le (by simp)]
  have hy2 : (str l).extract (I + K) l.length = str (l.drop (I + K)) := by
    rw [extract_str, str_data, List.take_of_length_le (by simp)]
  have hts : (str t).size = l.length := by rw [str_size, htl]
  have SK := Lib.hid sk
  have SV := Lib.hid sv
  have GV := Lib.hid gv
  have GK := Lib.hid gk
  have TL := Lib.hid htl
  have hIl : I ≤ l.length := by omega
  clear sk sv gv gk htl ht hti hfit
  clear hN hR
  go_enter Try.func5, Try.ntmps5
  go_wp2_with fail
  refine (codec_head _).mono ?_
  rintro e w1 ⟨rfl, hb⟩
  have B1 := Lib.hid hb
  clear hb
  go_wp2_with fail
  refine (set_any (str l) I K R _ HR.out (by rw [str_size]; omega)).mono ?_
  rintro e w2 ⟨rfl, hb⟩
  rw [str_data, SK.out, SV.out]
  have B2 := Lib.hid (below2 B1.out hb)
  clear hb B1
  go_wp2_with fail
  refine (get_any (str t) I K _ (by rw [str_size, TL.out]; omega)).mono ?_
  rintro e w3 ⟨rfl, hb⟩
  rw [str_data, GV.out, GK.out]
  have B3 := Lib.hid (below2 B2.out hb)
  clear hb B2
  go_wp2
  go_region
  go_wp2
  go_ret
  exact ⟨rfl, B3.out.drew⟩


set_option maxRecDepth 100000 in
set_option maxHeartbeats 2000000 in
theorem sets_in_top (l : List UInt8) (a d : Int) (N I K R : Nat) (w : World) (hl : l.length ≤ 1000000000000000) (hN : N < 18446744073709551616) (ha0 : 0 ≤ a) (ha1 : a ≤ 255) (hI : a % 30 = (I : Int)) (hd0 : 0 ≤ d) (hd1 : d ≤ 255) (hK : 1 + d % 8 = (K : Int)) (hR : R < 18446744073709551616) (hin : I + K ≤ l.length) (hfit : R < 256 ^ K) (hK8 : 8 ≤ K) (hK9 : K ≤ 8) (hm : R = N) :
    Calls Try.prog 5 #[.string (str l), .int .u8 a, .int .u8 d, .int .u64 N] w fun e w' => e = .returned (.bool true) ∧ Below w.heap.size w w' := by
  have hK1 : 1 ≤ K := by omega
  have hI30 : I < 30 := by omega
  have HN := Lib.hid hN
  have HR := Lib.hid hR
  have hsz := str_size l
  have hin' : I + K ≤ l.length := hin
  obtain ⟨sk, sv⟩ := setv_yes (l := l) (i := I) (k := K) (N := R) hK1 (by omega) hin hfit
  obtain ⟨t, ht⟩ : ∃ t, t = l.take I ++ (put K R ++ l.drop (I + K)) := ⟨_, rfl⟩
  rw [← ht] at sv
  have hti : (l.take I).length = I := by simp; omega
  have htl : t.length = l.length := by rw [ht]; simp [put_length]; omega
  have gv : getv t I K = R := by
    have := getv_mid (a := l.take I) (b := put K R) (c := l.drop (I + K)) hK1 (by omega) (put_length _ _)
    rw [num_put_of hfit, ← ht, hti] at this
    exact this
  have gk : getk t I K = true := getk_yes hK1 (by omega) (by omega)
  have hx1 : (str t).extract 0 I = str (l.take I) := by
    rw [extract_str, str_data, ht, List.drop_zero, Nat.sub_zero, List.take_append_of_le_length (by omega), List.take_take, Nat.min_self]
  have hx2 : (str l).extract 0 I = str (l.take I) := by
    rw [extract_str, str_data, List.drop_zero, Nat.sub_zero]
  have hy1 : (str t).extract (I + K) l.length = str (l.drop (I + K)) := by
    rw [extract_str, str_data, ht, ← List.append_assoc, List.drop_append_of_le_length (by simp [put_length]; omega), List.drop_of_length_le (by simp [put_length]; omega), List.nil_append, List.take_of_length_le (by simp)]
  have hy2 : (str l).extract (I + K) l.length = str (l.drop (I + K)) := by
    rw [extract_str, str_data, List.take_of_length_le (by simp)]
  have hts : (str t).size = l.length := by rw [str_size, htl]
  have SK := Lib.hid sk
  have SV := Lib.hid sv
  have GV := Lib.hid gv
  have GK := Lib.hid gk
  have TL := Lib.hid htl
  have hIl : I ≤ l.length := by omega
  clear sk sv gv gk htl ht hti hfit
  subst hm
  clear hN hR
  go_enter Try.func5, Try.ntmps5
  go_wp2_with fail
  refine (codec_head _).mono ?_
  rintro e w1 ⟨rfl, hb⟩
  have B1 := Lib.hid hb
  clear hb
  go_wp2_with fail
  refine (set_any (str l) I K R _ HR.out (by rw [str_size]; omega)).mono ?_
  rintro e w2 ⟨rfl, hb⟩
  rw [str_data, SK.out, SV.out]
  have B2 := Lib.hid (below2 B1.out hb)
  clear hb B1
  go_wp2_with fail
  refine (get_any (str t) I K _ (by rw [str_size, TL.out]; omega)).mono ?_
  rintro e w3 ⟨rfl, hb⟩
  rw [str_data, GV.out, GK.out]
  have B3 := Lib.hid (below2 B2.out hb)
  clear hb B2
  go_wp2
  go_region
  go_wp2
  go_ret
  exact ⟨rfl, B3.out.drew⟩


theorem sets_walk (l : List UInt8) (a d n : Int) (w : World) (hl : l.length ≤ 1000000000000000) (ha : 0 ≤ a ∧ a ≤ 255) (hd : 0 ≤ d ∧ d ≤ 255) (hn : 0 ≤ n ∧ n ≤ 18446744073709551615) :
    Calls Try.prog 5 #[.string (str l), .int .u8 a, .int .u8 d, .int .u64 n] w fun e w' => e = .returned (.bool true) ∧ Below w.heap.size w w' := by
  obtain ⟨N, rfl⟩ : ∃ N : Nat, n = N := ⟨n.toNat, by omega⟩
  obtain ⟨K, hK⟩ : ∃ K : Nat, 1 + d % 8 = K := ⟨(1 + d % 8).toNat, by omega⟩
  obtain ⟨I, hI⟩ : ∃ I : Nat, a % 30 = I := ⟨(a % 30).toNat, by omega⟩
  have hN : N < 18446744073709551616 := by omega
  by_cases h8 : K = 8
  · by_cases hin : I + K ≤ l.length
    · exact sets_in_top l a d N I K N w hl hN ha.1 ha.2 hI hd.1 hd.2 hK hN hin (by rw [h8, pow8]; exact hN) (by omega) (by omega) rfl
    · exact sets_out_top l a d N I K N w hl hN ha.1 ha.2 hI hd.1 hd.2 hK hN (by omega) (by omega) (by omega) rfl
  · have hw := wrap_pow (K := K) (by omega)
    have h1 : 1 ≤ 256 ^ K := Nat.pow_pos (by omega)
    have hm : (N : Int) % ((256 ^ K : Nat) : Int) = ((N % 256 ^ K : Nat) : Int) := (Int.natCast_emod _ _).symm
    have hr : N % 256 ^ K < 256 ^ K := Nat.mod_lt _ h1
    have hR : N % 256 ^ K < 18446744073709551616 := Nat.lt_of_le_of_lt (Nat.mod_le _ _) hN
    by_cases hin : I + K ≤ l.length
    · exact sets_in_low l a d N I K _ _ w hl hN ha.1 ha.2 hI hd.1 hd.2 hK hR hin hr (by omega) hw h1 hm
    · exact sets_out_low l a d N I K _ _ w hl hN ha.1 ha.2 hI hd.1 hd.2 hK hR (by omega) (by omega) hw h1 hm
end Go.Proofs.Ytaglconijjfioaa
