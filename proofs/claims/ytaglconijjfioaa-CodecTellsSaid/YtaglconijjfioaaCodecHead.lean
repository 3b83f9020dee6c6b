/- What the statements of layer 2 ask ahead, that the chapter's examples are so, returns true, in any memory. -/
import Derived.Test.YtaglconijjfioaaCodecGet
namespace Go.Proofs.Ytaglconijjfioaa
open Go.RowKit
set_option linter.unusedVariables false

theorem wrap_u64_m5 : IntKind.u64.wrap (-5) = ((18446744073709551611 : Nat) : Int) := by decide
theorem wrap64_m5 : wrap64 ((18446744073709551611 : Nat) : Int) = -5 := by unfold wrap64; omega
theorem toList_mk (l : List UInt8) : (ByteArray.mk l.toArray).data.toList = l := by simp
/-- What stands between two texts is got from there. -/
theorem getk_mid {a b c : List UInt8} {k : Nat} (h1 : 1 ≤ k) (h8 : k ≤ 8) (h : b.length = k) : getk (a ++ (b ++ c)) a.length k = true :=
  getk_yes h1 h8 (by simp; omega)
theorem getv_mid {a b c : List UInt8} {k : Nat} (h1 : 1 ≤ k) (h8 : k ≤ 8) (h : b.length = k) : getv (a ++ (b ++ c)) a.length k = num b := by
  rw [getv_yes (getk_mid h1 h8 h)]
  subst h
  simp
theorem getv_put {k N : Nat} (h1 : 1 ≤ k) (h8 : k ≤ 8) (h : N < 256 ^ k) : getv (put k N) 0 k = N := by
  have := getv_mid (a := []) (b := put k N) (c := []) h1 h8 (put_length k N)
  simp only [List.nil_append, List.append_nil, List.length_nil] at this
  rw [num_put_of h] at this
  exact this
theorem getk_put {k N : Nat} (h1 : 1 ≤ k) (h8 : k ≤ 8) : getk (put k N) 0 k = true := by
  have := getk_mid (a := []) (b := put k N) (c := []) h1 h8 (put_length k N)
  simpa using this
set_option maxRecDepth 100000 in
set_option maxHeartbeats 800000 in
theorem codec_head (w : World) :
    Calls Try.prog 8 #[] w fun e w' => e = .returned (.bool true) ∧ Below w.heap.size w w' := by
  go_enter Try.func8, Try.ntmps8
  go_wp2_with fail
  refine (put_any 2 258 _ (by omega)).mono ?_
  rintro e w1 ⟨rfl, hb⟩
  rw [show putk 2 258 = true by decide, show putv 2 258 = [1, 2] by decide]
  have HB1 := Lib.hid hb
  clear hb
  go_wp2_with fail
  refine (put_any 1 256 _ (by omega)).mono ?_
  rintro e w2 ⟨rfl, hb⟩
  rw [show putk 1 256 = false by decide]
  have HB2 := Lib.hid hb
  clear hb
  go_wp2_with fail
  refine (get_any ⟨#[1, 2, 3]⟩ 1 2 _ (by decide)).mono ?_
  rintro e w3 ⟨rfl, hb⟩
  rw [toList_mk [1, 2, 3], show getv [1, 2, 3] 1 2 = 515 by decide, show getk [1, 2, 3] 1 2 = true by decide]
  have HB3 := Lib.hid hb
  clear hb
  go_wp2_with fail
  refine (set_any ⟨#[97, 98, 99, 100]⟩ 1 2 16706 _ (by omega) (by decide)).mono ?_
  rintro e w4 ⟨rfl, hb⟩
  rw [toList_mk [97, 98, 99, 100], show setv [97, 98, 99, 100] 1 2 16706 = [97, 65, 66, 100] by decide, show setk [97, 98, 99, 100] 1 2 16706 = true by decide]
  have HB4 := Lib.hid hb
  clear hb
  go_wp2_with fail
  refine (set_any ⟨#[97, 98, 99, 100]⟩ 3 2 1 _ (by omega) (by decide)).mono ?_
  rintro e w5 ⟨rfl, hb⟩
  rw [toList_mk [97, 98, 99, 100], show setk [97, 98, 99, 100] 3 2 1 = false by decide]
  have HB5 := Lib.hid hb
  clear hb
  go_wp2_with fail
  refine (int_any (-5) 18446744073709551611 _ wrap_u64_m5 (by omega)).mono ?_
  rintro e w6 ⟨rfl, hb⟩
  have HB6 := Lib.hid hb
  clear hb
  go_wp2_with fail
  refine (getint_any (str (put 8 18446744073709551611)) 0 _ (by rw [str_size, put_length]; omega)).mono ?_
  rintro e w7 ⟨rfl, hb⟩
  rw [str_data, show wrap64 (getv (put 8 18446744073709551611) 0 8 : Nat) = -5 by rw [show getv (put 8 18446744073709551611) 0 8 = 18446744073709551611 from getv_put (k := 8) (by omega) (by omega) (by omega)]; exact wrap64_m5,
    show getk (put 8 18446744073709551611) 0 8 = true from getk_put (k := 8) (by omega) (by omega)]
  have HB7 := Lib.hid hb
  clear hb
  have hs1 : (str [1, 2]).toList = [1, 2] := str_toList _
  have hs2 : (str [97, 65, 66, 100]).toList = [97, 65, 66, 100] := str_toList _
  go_wp2
  go_ret
  refine ⟨rfl, ?_⟩
  have b1 := HB1.out
  have b2 := b1.trans (HB2.out.mono b1.size)
  have b3 := b2.trans (HB3.out.mono b2.size)
  have b4 := b3.trans (HB4.out.mono b3.size)
  have b5 := b4.trans (HB5.out.mono b4.size)
  have b6 := b5.trans (HB6.out.mono b5.size)
  exact b6.trans (HB7.out.mono b6.size)
end Go.Proofs.Ytaglconijjfioaa
