/- The walk of CodecTells: it returns true, whatever the text, the place, the width and the numbers. -/
import Derived.Test.YtaglconijjfioaaCodecRef
namespace Go.Proofs.Ytaglconijjfioaa
open Go.RowKit
set_option linter.unusedVariables false

set_option maxRecDepth 100000 in
set_option maxHeartbeats 2000000 in
theorem tells_far (l : List UInt8) (A' W' : Int) (N' M : Nat) (sm m : Int) (w : World) (hl : l.length ≤ 1000000000000000) (hN : N' < 18446744073709551616) (hs0 : 0 ≤ sm) (hs1 : sm ≤ 255) (hM : IntKind.u64.wrap m = M) (hM64 : M < 18446744073709551616) :
    Calls Try.prog 3 #[.string (str l), .int .i64 A', .int .i64 W', .bool false, .int .u64 N', .int .u8 sm, .int .i64 m] w fun e w' => e = .returned (.bool true) ∧ Below w.heap.size w w' := by
  have HN := Lib.hid hN
  have HM := Lib.hid hM
  have HM64 := Lib.hid hM64
  clear hN hM hM64
  go_enter Try.func3, Try.ntmps3
  go_wp2_with fail
  refine (codec_head _).mono ?_
  rintro e w1 ⟨rfl, hb⟩
  have B1 := Lib.hid hb
  clear hb
  go_wp2_with fail
  refine (put_any W' N' _ HN.out).mono ?_
  rintro e w2 ⟨rfl, hb⟩
  have B2 := Lib.hid (below2 B1.out hb)
  clear hb B1
  go_wp2_with fail
  refine (refput_any W' N' _ HN.out).mono ?_
  rintro e w3 ⟨rfl, hb⟩
  have B3 := Lib.hid (below2 B2.out hb)
  clear hb B2
  go_wp2_with fail
  refine (get_any (str l) A' W' _ (by rw [str_size]; omega)).mono ?_
  rintro e w4 ⟨rfl, hb⟩
  have B4 := Lib.hid (below2 B3.out hb)
  clear hb B3
  go_wp2_with fail
  refine (refget_any (str l) A' W' _ (by rw [str_size]; omega)).mono ?_
  rintro e w5 ⟨rfl, rfl⟩
  go_wp2_with fail
  refine (set_any (str l) A' W' N' _ HN.out (by rw [str_size]; omega)).mono ?_
  rintro e w6 ⟨rfl, hb⟩
  have B5 := Lib.hid (below2 B4.out hb)
  clear hb B4
  go_wp2_with fail
  refine (refset_any (str l) A' W' N' _ HN.out (by rw [str_size]; omega)).mono ?_
  rintro e w7 ⟨rfl, hb⟩
  have B6 := Lib.hid (below2 B5.out hb)
  clear hb B5
  go_wp2_with fail
  refine (getint_any (str l) A' _ (by rw [str_size]; omega)).mono ?_
  rintro e w8 ⟨rfl, hb⟩
  have B7 := Lib.hid (below2 B6.out hb)
  clear hb B6
  go_wp2_with fail
  refine (refgetint_any (str l) A' _ (by rw [str_size]; omega)).mono ?_
  rintro e w9 ⟨rfl, rfl⟩
  go_wp2_with fail
  refine (int_any m M _ HM.out HM64.out).mono ?_
  rintro e w10 ⟨rfl, hb⟩
  have B8 := Lib.hid (below2 B7.out hb)
  clear hb B7
  go_wp2_with fail
  refine (refint_any m M _ HM.out HM64.out).mono ?_
  rintro e w11 ⟨rfl, hb⟩
  have B9 := Lib.hid (below2 B8.out hb)
  clear hb B8
  go_wp2
  go_ret
  exact ⟨rfl, B9.out⟩

set_option maxRecDepth 100000 in
set_option maxHeartbeats 2000000 in
theorem tells_near (l : List UInt8) (at_ W A' W' : Int) (N N' M : Nat) (sm m : Int) (w : World) (hl : l.length ≤ 1000000000000000) (hN : N' < 18446744073709551616) (hs0 : 0 ≤ sm) (hs1 : sm ≤ 255) (hM : IntKind.u64.wrap m = M) (hM64 : M < 18446744073709551616) (hA : at_.tmod 20 = A') (hW : W.tmod 10 = W') (hNN : (N : Int) / 2 ^ (sm % 64).toNat = (N' : Int)) :
    Calls Try.prog 3 #[.string (str l), .int .i64 at_, .int .i64 W, .bool true, .int .u64 N, .int .u8 sm, .int .i64 m] w fun e w' => e = .returned (.bool true) ∧ Below w.heap.size w w' := by
  have HN := Lib.hid hN
  have HM := Lib.hid hM
  have HM64 := Lib.hid hM64
  clear hN hM hM64
  go_enter Try.func3, Try.ntmps3
  go_wp2_with fail
  refine (codec_head _).mono ?_
  rintro e w1 ⟨rfl, hb⟩
  have B1 := Lib.hid hb
  clear hb
  go_wp2_with fail
  refine (put_any W' N' _ HN.out).mono ?_
  rintro e w2 ⟨rfl, hb⟩
  have B2 := Lib.hid (below2 B1.out hb)
  clear hb B1
  go_wp2_with fail
  refine (refput_any W' N' _ HN.out).mono ?_
  rintro e w3 ⟨rfl, hb⟩
  have B3 := Lib.hid (below2 B2.out hb)
  clear hb B2
  go_wp2_with fail
  refine (get_any (str l) A' W' _ (by rw [str_size]; omega)).mono ?_
  rintro e w4 ⟨rfl, hb⟩
  have B4 := Lib.hid (below2 B3.out hb)
  clear hb B3
  go_wp2_with fail
  refine (refget_any (str l) A' W' _ (by rw [str_size]; omega)).mono ?_
  rintro e w5 ⟨rfl, rfl⟩
  go_wp2_with fail
  refine (set_any (str l) A' W' N' _ HN.out (by rw [str_size]; omega)).mono ?_
  rintro e w6 ⟨rfl, hb⟩
  have B5 := Lib.hid (below2 B4.out hb)
  clear hb B4
  go_wp2_with fail
  refine (refset_any (str l) A' W' N' _ HN.out (by rw [str_size]; omega)).mono ?_
  rintro e w7 ⟨rfl, hb⟩
  have B6 := Lib.hid (below2 B5.out hb)
  clear hb B5
  go_wp2_with fail
  refine (getint_any (str l) A' _ (by rw [str_size]; omega)).mono ?_
  rintro e w8 ⟨rfl, hb⟩
  have B7 := Lib.hid (below2 B6.out hb)
  clear hb B6
  go_wp2_with fail
  refine (refgetint_any (str l) A' _ (by rw [str_size]; omega)).mono ?_
  rintro e w9 ⟨rfl, rfl⟩
  go_wp2_with fail
  refine (int_any m M _ HM.out HM64.out).mono ?_
  rintro e w10 ⟨rfl, hb⟩
  have B8 := Lib.hid (below2 B7.out hb)
  clear hb B7
  go_wp2_with fail
  refine (refint_any m M _ HM.out HM64.out).mono ?_
  rintro e w11 ⟨rfl, hb⟩
  have B9 := Lib.hid (below2 B8.out hb)
  clear hb B8
  go_wp2
  go_ret
  exact ⟨rfl, B9.out⟩

theorem tells_walk (l : List UInt8) (at_ W : Int) (near : Bool) (n sm m : Int) (w : World) (hl : l.length ≤ 1000000000000000) (ha : -9223372036854775808 ≤ at_ ∧ at_ ≤ 9223372036854775807) (hW : -9223372036854775808 ≤ W ∧ W ≤ 9223372036854775807)
    (hn : 0 ≤ n ∧ n ≤ 18446744073709551615) (hs : 0 ≤ sm ∧ sm ≤ 255) (hm : -9223372036854775808 ≤ m ∧ m ≤ 9223372036854775807) :
    Calls Try.prog 3 #[.string (str l), .int .i64 at_, .int .i64 W, .bool near, .int .u64 n, .int .u8 sm, .int .i64 m] w fun e w' => e = .returned (.bool true) ∧ Below w.heap.size w w' := by
  obtain ⟨N, rfl⟩ : ∃ N : Nat, n = N := ⟨n.toNat, by omega⟩
  obtain ⟨M, hM, hM64, _⟩ := u64_of m hm
  have hN : N < 18446744073709551616 := by omega
  cases near with
  | false => exact tells_far l at_ W N M sm m w hl hN hs.1 hs.2 hM hM64
  | true =>
    refine tells_near l at_ W _ _ N (N / 2 ^ (sm % 64).toNat) M sm m w hl (Nat.lt_of_le_of_lt (Nat.div_le_self _ _) hN) hs.1 hs.2 hM hM64 rfl rfl ?_
    rw [Int.natCast_ediv, Int.natCast_pow]; rfl
end Go.Proofs.Ytaglconijjfioaa
