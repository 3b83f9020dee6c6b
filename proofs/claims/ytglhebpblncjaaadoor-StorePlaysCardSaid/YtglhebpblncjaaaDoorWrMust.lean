/- Contracts of package wire: must returns or panics with the error; a byte and a number put and got; what the deferred literals do in a call that returns and in one that panics. -/
import Derived.Test.YtglhebpblncjaaaDoorCdGet
import Derived.Defers
import Derived.Recover
import Derived.WalkLawsBesides
import Derived.Laws.Pointers
namespace Go.Proofs.YtglhebpblncjaaaDoor
open Go.RowKit
set_option linter.unusedVariables false

/-- The panic that must throws. -/
def thrown (c : Int) : List PanicEntry := [{ v := .iface 39 (.int .i64 c), recovered := false }]
theorem must_yes (c : Int) (w : World) :
    Calls Tryd.prog 57 #[.bool true, .int .i64 c] w fun e w' => e = .returned (.tuple #[]) ∧ w = w' := by
  go_enter Tryd.func57, Tryd.ntmps57
  go_wp2
  go_end0
  exact ⟨rfl, rfl⟩
theorem must_no (c : Int) (w : World) :
    Calls Tryd.prog 57 #[.bool false, .int .i64 c] w fun e w' => e = .panicked (thrown c) ∧ w = w' := by
  go_enter Tryd.func57, Tryd.ntmps57
  go_wp2
  exact ⟨rfl, rfl, rfl⟩

/-- A number with a sign as one without. -/
def u64n (n : Int) : Nat := (n % 18446744073709551616).toNat
theorem wrap_u64n (n : Int) : IntKind.u64.wrap n = (u64n n : Int) := by rw [IntKind.wrap_u64]; unfold u64n; omega
theorem u64n_lt (n : Int) : u64n n < 18446744073709551616 := by unfold u64n; omega
theorem u64n_back {n : Int} (h0 : -9223372036854775808 ≤ n) (h1 : n ≤ 9223372036854775807) : wrap64 (u64n n : Nat) = n := by unfold u64n wrap64; omega

set_option maxHeartbeats 400000 in
theorem putByte_yes (K : Nat) (h : K < 256) (w : World) :
    Calls Tryd.prog 58 #[.int .i64 K] w fun e w' => e = .returned (.string (str (put 1 K))) ∧ Below w.heap.size w w' := by
  have hw : IntKind.u64.wrap (K : Int) = (K : Int) := IntWalk.u64_in _ (by omega)
  go_enter Tryd.func58, Tryd.ntmps58
  go_wp2_with fail
  refine (put_any 1 K _ (by omega)).mono ?_
  rintro e w1 ⟨rfl, hb⟩
  rw [show putk 1 K = true from putk_yes (k := 1) (by omega) (by omega) (by omega), show putv 1 K = put 1 K from putv_yes (k := 1) (putk_yes (by omega) (by omega) (by omega))]
  have HB := Lib.hid hb
  clear hb
  go_wp2_with fail
  refine (must_yes 7 _).mono ?_
  rintro e w2 ⟨rfl, rfl⟩
  go_wp2
  go_ret
  exact ⟨rfl, HB.out⟩
set_option maxHeartbeats 400000 in
theorem putByte_no (n : Int) (N : Nat) (hN : IntKind.u64.wrap n = N) (h : 256 ≤ N) (h2 : N < 18446744073709551616) (w : World) :
    Calls Tryd.prog 58 #[.int .i64 n] w fun e w' => e = .panicked (thrown 7) ∧ Below w.heap.size w w' := by
  go_enter Tryd.func58, Tryd.ntmps58
  go_wp2_with fail
  refine (put_any 1 N _ h2).mono ?_
  rintro e w1 ⟨rfl, hb⟩
  rw [show putk 1 N = false from putk_big (k := 1) (by omega), show putv 1 N = [] from putv_no (putk_big (k := 1) (by omega))]
  have HB := Lib.hid hb
  clear hb
  go_wp2_with fail
  refine (must_no 7 _).mono ?_
  rintro e w2 ⟨rfl, rfl⟩
  go_wp2
  exact ⟨rfl, rfl, HB.out⟩

/-- The byte at a place. -/
def byteAt (l : List UInt8) (i : Nat) : Nat := (l.getD i 0).toNat
/-- The number with a sign in the eight bytes from a place on. -/
def intAt (l : List UInt8) (i : Nat) : Int := wrap64 (num ((l.drop i).take 8) : Nat)
theorem byteAt_lt (l : List UInt8) (i : Nat) : byteAt l i < 256 := by unfold byteAt; exact UInt8.toNat_lt _
theorem num_one {l : List UInt8} {i : Nat} (h : i < l.length) : num ((l.drop i).take 1) = byteAt l i := by
  have : (l.drop i).take 1 = [l[i]] := by rw [List.drop_eq_getElem_cons h]; rfl
  rw [this]
  simp [num, byteAt, List.getD, h]
theorem getv_one {l : List UInt8} {i : Nat} (h : i < l.length) : getv l i 1 = byteAt l i := by
  rw [show getv l i 1 = num ((l.drop i).take 1) from getv_yes (k := 1) (getk_yes (by omega) (by omega) (by omega)), num_one h]
theorem getv_int {l : List UInt8} {i : Nat} (h : i + 8 ≤ l.length) : wrap64 (getv l i 8 : Nat) = intAt l i := by
  rw [show getv l i 8 = num ((l.drop i).take 8) from getv_yes (k := 8) (getk_yes (by omega) (by omega) (by omega))]; rfl

set_option maxHeartbeats 400000 in
theorem getByte_yes (s : ByteArray) (i : Nat) (h : i < s.size) (hs : s.size ≤ 4611686018427387904) (w : World) :
    Calls Tryd.prog 65 #[.string s, .int .i64 i] w fun e w' => e = .returned (.int .i64 (byteAt s.data.toList i : Nat)) ∧ Below w.heap.size w w' := by
  have hl : s.data.toList.length = s.size := by simp
  go_enter Tryd.func65, Tryd.ntmps65
  go_wp2_with fail
  refine (get_any s i 1 _ hs).mono ?_
  rintro e w1 ⟨rfl, hb⟩
  rw [getv_one (by omega), show getk s.data.toList i 1 = true from getk_yes (k := 1) (by omega) (by omega) (by omega)]
  have hlt := byteAt_lt s.data.toList i
  have HB := Lib.hid hb
  clear hb
  go_wp2_with fail
  refine (must_yes 7 _).mono ?_
  rintro e w2 ⟨rfl, rfl⟩
  go_wp2
  go_ret
  refine ⟨ret_int ?_, HB.out⟩
  first | rfl | (rw [IntWalk.i64_in _ (by omega)]) | (unfold wrap64; omega)
set_option maxHeartbeats 400000 in
theorem getByte_no (s : ByteArray) (i : Nat) (h : s.size ≤ i) (hs : s.size ≤ 4611686018427387904) (w : World) :
    Calls Tryd.prog 65 #[.string s, .int .i64 i] w fun e w' => e = .panicked (thrown 7) ∧ Below w.heap.size w w' := by
  have hl : s.data.toList.length = s.size := by simp
  go_enter Tryd.func65, Tryd.ntmps65
  go_wp2_with fail
  refine (get_any s i 1 _ hs).mono ?_
  rintro e w1 ⟨rfl, hb⟩
  have hk : getk s.data.toList i 1 = false := getk_no (by omega)
  rw [getv_no hk, hk]
  have HB := Lib.hid hb
  clear hb
  go_wp2_with fail
  refine (must_no 7 _).mono ?_
  rintro e w2 ⟨rfl, rfl⟩
  go_wp2
  exact ⟨rfl, rfl, HB.out⟩
set_option maxHeartbeats 400000 in
theorem getInt_yes (s : ByteArray) (i : Nat) (h : i + 8 ≤ s.size) (hs : s.size ≤ 4611686018427387904) (w : World) :
    Calls Tryd.prog 66 #[.string s, .int .i64 i] w fun e w' => e = .returned (.int .i64 (intAt s.data.toList i)) ∧ Below w.heap.size w w' := by
  have hl : s.data.toList.length = s.size := by simp
  go_enter Tryd.func66, Tryd.ntmps66
  go_wp2_with fail
  refine (getint_any s i _ hs).mono ?_
  rintro e w1 ⟨rfl, hb⟩
  rw [getv_int (by omega), show getk s.data.toList i 8 = true from getk_yes (k := 8) (by omega) (by omega) (by omega)]
  have HB := Lib.hid hb
  clear hb
  go_wp2_with fail
  refine (must_yes 7 _).mono ?_
  rintro e w2 ⟨rfl, rfl⟩
  go_wp2
  go_ret
  exact ⟨rfl, HB.out⟩
set_option maxHeartbeats 400000 in
theorem getInt_no (s : ByteArray) (i : Nat) (h : s.size < i + 8) (hs : s.size ≤ 4611686018427387904) (w : World) :
    Calls Tryd.prog 66 #[.string s, .int .i64 i] w fun e w' => e = .panicked (thrown 7) ∧ Below w.heap.size w w' := by
  have hl : s.data.toList.length = s.size := by simp
  go_enter Tryd.func66, Tryd.ntmps66
  go_wp2_with fail
  refine (getint_any s i _ hs).mono ?_
  rintro e w1 ⟨rfl, hb⟩
  have hk : getk s.data.toList i 8 = false := getk_no (by omega)
  rw [getv_no hk, hk]
  have HB := Lib.hid hb
  clear hb
  go_wp2_with fail
  refine (must_no 7 _).mono ?_
  rintro e w2 ⟨rfl, rfl⟩
  go_wp2
  exact ⟨rfl, rfl, HB.out⟩
end Go.Proofs.YtglhebpblncjaaaDoor
