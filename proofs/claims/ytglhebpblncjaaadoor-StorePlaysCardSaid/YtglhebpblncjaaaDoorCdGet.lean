/- What Get, Int and GetInt of package codec return, as contracts. -/
import Derived.Test.YtglhebpblncjaaaDoorCodecWalks
import Derived.Lib.Strings
namespace Go.Proofs.YtglhebpblncjaaaDoor
open Go.RowKit
set_option linter.unusedVariables false

/-- Does Get tell true? -/
def getk (l : List UInt8) (at_ W : Int) : Bool := decide (1 ≤ W ∧ W ≤ 8 ∧ 0 ≤ at_ ∧ at_ + W ≤ l.length)
def getv (l : List UInt8) (at_ W : Int) : Nat := if getk l at_ W then num ((l.drop at_.toNat).take W.toNat) else 0

theorem placed_text (s : ByteArray) (i : Int) (w : World) : (placed s i w).cell? ⟨w.heap.size, 0, none⟩ = some (.string s) := by
  unfold placed
  rw [World.cell?_alloc_lt _ _ _ (by simp)]
  exact cell_of_row _ w.heap.size 0 _ _ _ (heap_alloc_new w _)
theorem placed_at (s : ByteArray) (i : Int) (w : World) : (placed s i w).cell? ⟨w.heap.size + 1, 0, none⟩ = some (.int .i64 i) := by
  unfold placed
  simp
theorem placed_below (s : ByteArray) (i : Int) (w : World) : Below w.heap.size w (placed s i w) :=
  ((Below.refl _ _).alloc (Nat.le_refl _) _).alloc (by simp) _

theorem step_or (x : Nat) (b : UInt8) (hx : x < 256 ^ 7) : bits BinOp.or IntKind.u64 (IntKind.u64.wrap ((x : Int) * 256)) (IntKind.u64.wrap (b.toNat : Int)) = ((x * 256 + b.toNat : Nat) : Int) := by
  have hb := b.toNat_lt
  rw [IntWalk.u64_in _ (by omega), IntWalk.u64_in _ (by omega), show (x : Int) * 256 = ((x * 256 : Nat) : Int) by omega, u64_or_nat _ _ (by omega) (by omega),
    nat_join 8 (x * 256) b.toNat (by omega) (by omega)]
theorem take_step {l : List UInt8} {i j : Nat} (h : i + j < l.length) : (l.drop i).take (j + 1) = (l.drop i).take j ++ [l[i + j]] := by
  rw [List.take_succ_eq_append_getElem (by simp; omega)]; simp
theorem num_step (s : ByteArray) (i j k : Nat) (h : i + j < s.size) (hj : j < k) (h8 : k ≤ 8) :
    bits BinOp.or IntKind.u64 (IntKind.u64.wrap (↑(num ((s.data.toList.drop i).take j)) * 256)) (IntKind.u64.wrap ↑s[i + j].toNat) = (num ((s.data.toList.drop i).take (j + 1)) : Nat) := by
  have hl : i + j < s.data.toList.length := by simpa using h
  have h1 := num_lt ((s.data.toList.drop i).take j)
  have h2 : ((s.data.toList.drop i).take j).length ≤ 7 := by simp; omega
  have h3 : 256 ^ ((s.data.toList.drop i).take j).length ≤ 256 ^ 7 := Nat.pow_le_pow_right (by omega) h2
  rw [take_step hl, num_snoc, step_or _ _ (Nat.lt_of_lt_of_le h1 h3)]
  rfl

set_option maxHeartbeats 400000 in
theorem get_yes (s : ByteArray) (i k : Nat) (w : World) (h1 : 1 ≤ k) (h8 : k ≤ 8) (hi : i + k ≤ s.size) (hs : s.size ≤ 4611686018427387904) :
    Calls Tryd.prog 70 #[.string s, .int .i64 i, .int .i64 k] w fun e w' => e = .returned (.tuple #[.int .u64 (num ((s.data.toList.drop i).take k) : Nat), .bool true]) ∧ Below w.heap.size w w' := by
  go_enter Tryd.func70, Tryd.ntmps70
  go_wp2_with fail
  refine (place_yes s i k _ h1 h8 hi hs).mono ?_
  rintro e w' ⟨rfl, rfl⟩
  unfold asker
  go_wp2
  go_loop [10, 22] (fun n i' => ∃ j : Nat, j ≤ k ∧ i' = .int .i64 j ∧ n = .int .u64 (num ((s.data.toList.drop i).take j) : Nat)) (fun _ i' => k - (intOf i').toNat)
  case atStart => exact ⟨0, by omega, rfl, rfl⟩
  case round =>
    obtain ⟨j, hj, rfl, rfl⟩ := hrel
    by_cases hlt : j < k
    · go_wp2_with fail
      refine (ask_any s i j w.heap.size _ (by omega) hs (placed_text s i w) (placed_at s i w)).mono ?_
      rintro e w' ⟨rfl, rfl⟩
      have HN := Lib.hid (num_step s i j k (by omega) hlt h8)
      go_wp2
      go_round
      case rel => exact ⟨j + 1, by omega, by go_num, by rw [HN.out]⟩
      case measure => simp [intOf]; omega
    · obtain rfl : j = k := by omega
      go_wp2
      go_ret2
      exact ⟨rfl, placed_below s i w⟩
set_option maxHeartbeats 400000 in
theorem get_no (s : ByteArray) (at_ W : Int) (w : World) (h : W < 1 ∨ 8 < W ∨ at_ < 0 ∨ s.size < at_ + W) (hs : s.size ≤ 4611686018427387904) :
    Calls Tryd.prog 70 #[.string s, .int .i64 at_, .int .i64 W] w fun e w' => e = .returned (.tuple #[.int .u64 0, .bool false]) ∧ Below w.heap.size w w' := by
  have H := Lib.hid h
  clear h
  go_enter Tryd.func70, Tryd.ntmps70
  go_wp2_with fail
  refine (place_no s at_ W _ H.out hs).mono ?_
  rintro e w' ⟨rfl, rfl⟩
  go_wp2
  go_ret2
  exact ⟨rfl, placed_below s at_ w⟩
theorem getk_yes {l : List UInt8} {i k : Nat} (h1 : 1 ≤ k) (h8 : k ≤ 8) (hi : i + k ≤ l.length) : getk l i k = true := by
  unfold getk; exact decide_eq_true ⟨by omega, by omega, by omega, by omega⟩
theorem getk_no {l : List UInt8} {at_ W : Int} (h : W < 1 ∨ 8 < W ∨ at_ < 0 ∨ l.length < at_ + W) : getk l at_ W = false := by
  unfold getk; exact decide_eq_false fun ⟨_, _, _, _⟩ => by omega
theorem getk_cases (l : List UInt8) (at_ W : Int) : (getk l at_ W = true ∧ ∃ i k : Nat, at_ = i ∧ W = k ∧ 1 ≤ k ∧ k ≤ 8 ∧ i + k ≤ l.length) ∨ (getk l at_ W = false ∧ (W < 1 ∨ 8 < W ∨ at_ < 0 ∨ l.length < at_ + W)) := by
  by_cases h : 1 ≤ W ∧ W ≤ 8 ∧ 0 ≤ at_ ∧ at_ + W ≤ l.length
  · exact .inl ⟨decide_eq_true h, at_.toNat, W.toNat, by omega, by omega, by omega, by omega, by omega⟩
  · exact .inr ⟨decide_eq_false h, by omega⟩
theorem getv_yes {l : List UInt8} {i k : Nat} (h : getk l i k = true) : getv l i k = num ((l.drop i).take k) := by unfold getv; rw [h]; simp
theorem getv_no {l : List UInt8} {at_ W : Int} (h : getk l at_ W = false) : getv l at_ W = 0 := by unfold getv; rw [h]; simp
theorem get_any (s : ByteArray) (at_ W : Int) (w : World) (hs : s.size ≤ 4611686018427387904) :
    Calls Tryd.prog 70 #[.string s, .int .i64 at_, .int .i64 W] w fun e w' => e = .returned (.tuple #[.int .u64 (getv s.data.toList at_ W : Nat), .bool (getk s.data.toList at_ W)]) ∧ Below w.heap.size w w' := by
  have hl : s.data.toList.length = s.size := by simp
  rcases getk_cases s.data.toList at_ W with ⟨hk, i, k, rfl, rfl, h1, h8, hi⟩ | ⟨hk, h⟩
  · rw [getv_yes hk, hk]
    exact get_yes s i k w h1 h8 (by omega) hs
  · rw [getv_no hk, hk]
    exact get_no s at_ W w (by omega) hs

set_option maxHeartbeats 400000 in
theorem getint_any (s : ByteArray) (at_ : Int) (w : World) (hs : s.size ≤ 4611686018427387904) :
    Calls Tryd.prog 71 #[.string s, .int .i64 at_] w fun e w' => e = .returned (.tuple #[.int .i64 (wrap64 (getv s.data.toList at_ 8 : Nat)), .bool (getk s.data.toList at_ 8)]) ∧ Below w.heap.size w w' := by
  go_enter Tryd.func71, Tryd.ntmps71
  go_wp2_with fail
  refine (get_any s at_ 8 _ hs).mono ?_
  rintro e w' ⟨rfl, hb⟩
  have HB := Lib.hid hb
  clear hb
  go_wp2
  go_ret2
  exact ⟨rfl, HB.out⟩
set_option maxHeartbeats 400000 in
theorem int_any (n : Int) (N : Nat) (w : World) (h : IntKind.u64.wrap n = N) (hN : N < 18446744073709551616) :
    Calls Tryd.prog 59 #[.int .i64 n] w fun e w' => e = .returned (.string (str (put 8 N))) ∧ Below w.heap.size w w' := by
  have HN := Lib.hid hN
  clear hN
  go_enter Tryd.func59, Tryd.ntmps59
  go_wp2_with fail
  refine (bytes_any 8 N _ (by omega) (by omega) HN.out).mono ?_
  rintro e w' ⟨rfl, hb⟩
  have HB := Lib.hid hb
  clear hb
  go_wp2
  go_ret
  exact ⟨rfl, HB.out⟩

theorem run_add_str (a b : List UInt8) (h : a.length + b.length ≤ 9223372036854775807) (W : World) : (Op.stringOp .add (str a) (str b)).run Tryd.prog W = .ok (.string (str (a ++ b))) W := by
  rw [run_string_add_sum W _ _ (by rw [str_size, str_size]; exact h), str_append]
theorem extract_str (s : ByteArray) (a b : Nat) : s.extract a b = str ((s.data.toList.drop a).take (b - a)) := by
  rw [← str_of (s.extract a b)]
  congr 1
  exact Lib.extract_data s a b
end Go.Proofs.YtglhebpblncjaaaDoor
