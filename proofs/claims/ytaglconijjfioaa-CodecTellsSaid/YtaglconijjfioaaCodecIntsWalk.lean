/- The walk of CodecInts: it returns true, whatever the number and the text ahead. -/
import Derived.Test.YtaglconijjfioaaCodecHead
namespace Go.Proofs.Ytaglconijjfioaa
open Go.RowKit
set_option linter.unusedVariables false

theorem u64_of (n : Int) (h : -9223372036854775808 ≤ n ∧ n ≤ 9223372036854775807) : ∃ N : Nat, IntKind.u64.wrap n = N ∧ N < 18446744073709551616 ∧ wrap64 (N : Int) = n := by
  have e : IntKind.u64.wrap n = n % 18446744073709551616 := IntKind.wrap_u64 n
  refine ⟨(IntKind.u64.wrap n).toNat, ?_, ?_, ?_⟩
  · rw [e]; omega
  · rw [e]; omega
  · rw [e]; unfold wrap64; omega
theorem pow8 : (256 : Nat) ^ 8 = 18446744073709551616 := by decide
theorem below2 {w w1 w2 : World} (h1 : Below w.heap.size w w1) (h2 : Below w1.heap.size w1 w2) : Below w.heap.size w w2 := h1.trans (h2.mono h1.size)

set_option maxRecDepth 100000 in
set_option maxHeartbeats 800000 in
theorem ints_walk (n : Int) (l : List UInt8) (w : World) (hn : -9223372036854775808 ≤ n ∧ n ≤ 9223372036854775807) (hl : l.length ≤ 1000000000000000) :
    Calls Try.prog 6 #[.int .i64 n, .string (str l)] w fun e w' => e = .returned (.bool true) ∧ Below w.heap.size w w' := by
  obtain ⟨N, hN, hlt, hback⟩ := u64_of n hn
  have HL := Lib.hid hlt
  have HN := Lib.hid hN
  have HK := Lib.hid hback
  have hadd := run_add_str l (put 8 N) (by rw [put_length]; omega)
  have hsz := str_size l
  clear hlt hN hback hn
  go_enter Try.func6, Try.ntmps6
  go_wp2_with fail
  refine (codec_head _).mono ?_
  rintro e w1 ⟨rfl, hb⟩
  have B1 := Lib.hid hb
  clear hb
  go_wp2_with fail
  refine (int_any n N _ HN.out HL.out).mono ?_
  rintro e w2 ⟨rfl, hb⟩
  have B2 := Lib.hid (below2 B1.out hb)
  clear hb B1
  go_wp2_with fail
  refine (getint_any (str (l ++ put 8 N)) l.length _ (by rw [str_size, List.length_append, put_length]; omega)).mono ?_
  rintro e w3 ⟨rfl, hb⟩
  have hv : getv (l ++ put 8 N) l.length 8 = N := by
    have := getv_mid (a := l) (b := put 8 N) (c := []) (k := 8) (by omega) (by omega) (put_length 8 N)
    rw [List.append_nil, num_put_of (by rw [pow8]; exact HL.out)] at this
    exact this
  have hk : getk (l ++ put 8 N) l.length 8 = true := by
    have := getk_mid (a := l) (b := put 8 N) (c := []) (k := 8) (by omega) (by omega) (put_length 8 N)
    rw [List.append_nil] at this
    exact this
  rw [str_data, hv, HK.out, hk]
  have B3 := Lib.hid (below2 B2.out hb)
  clear hb B2 hv hk
  go_wp2_with fail
  refine (get_any (str (put 8 N)) 0 8 _ (by rw [str_size, put_length]; omega)).mono ?_
  rintro e w4 ⟨rfl, hb⟩
  rw [str_data, show getv (put 8 N) 0 8 = N from getv_put (k := 8) (by omega) (by omega) (by rw [pow8]; exact HL.out), show getk (put 8 N) 0 8 = true from getk_put (k := 8) (by omega) (by omega)]
  have B4 := Lib.hid (below2 B3.out hb)
  clear hb B3
  go_wp2_with fail
  refine (getint_any (str (l ++ put 8 N)) (l.length + 1) _ (by rw [str_size, List.length_append, put_length]; omega)).mono ?_
  rintro e w5 ⟨rfl, hb⟩
  rw [str_data, show getk (l ++ put 8 N) (l.length + 1) 8 = false from getk_no (by rw [List.length_append, put_length]; omega)]
  have B5 := Lib.hid (below2 B4.out hb)
  clear hb B4
  have hz : (str (put 8 N)).size = 8 := by rw [str_size, put_length]
  have hN := HN.out
  go_wp2
  go_ret
  exact ⟨rfl, B5.out⟩
end Go.Proofs.Ytaglconijjfioaa
