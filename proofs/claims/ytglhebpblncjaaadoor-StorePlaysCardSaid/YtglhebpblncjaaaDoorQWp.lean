/- What the document's own Put, Get, Int and GetInt of chapter 2 return, as contracts: the same functions of numbers and lists as the program's. -/
import Derived.Test.YtglhebpblncjaaaDoorCdGet
import Derived.Test.YtglhebpblncjaaaDoorWrGet2
import Derived.Test.YtglhebpblncjaaaDoorWrSame
import Derived.StillTailTactics
namespace Go.Proofs.YtglhebpblncjaaaDoor
open Go.RowKit
set_option linter.unusedVariables false

theorem put_two (a b n : Nat) : put (a + b) n = put a (n / 256 ^ b) ++ put b n := by
  induction b generalizing n with
  | zero => simp [put]
  | succ b ih => rw [← Nat.add_assoc, put, ih, put, Nat.pow_succ, Nat.mul_comm, ← Nat.div_div_eq_div_mul, List.append_assoc]
theorem put_front (j n : Nat) : put (j + 1) n = [UInt8.ofNat (n / 256 ^ j % 256)] ++ put j n := by
  rw [Nat.add_comm, put_two 1 j n]; rfl
theorem conv_rem (x : Nat) (wr : World) : (convert 57 9 (.slice (some ⟨wr.heap.size, 0, none⟩) 1 1)).run Tryd.prog (wr.alloc (.cells #[.int .u8 ((x : Int) % 256)] 5)) =
    .ok (.string (str [UInt8.ofNat (x % 256)])) (wr.alloc (.cells #[.int .u8 ((x : Int) % 256)] 5)) := by
  refine conv_bytes (l := [UInt8.ofNat (x % 256)]) (W := 1) ?_ rfl
  have e : bcells [UInt8.ofNat (x % 256)] = #[.int .u8 ((x : Int) % 256)] := by
    unfold bcells
    simp only [List.map_cons, List.map_nil, ofNat_toNat (Nat.mod_lt x (show 256 > 0 by omega))]
    rw [Int.natCast_emod]; rfl
  rw [e]
  exact heap_alloc_new wr _

set_option maxHeartbeats 400000 in
theorem refput_in (K N : Nat) (w : World) (h1 : 1 ≤ K) (h8 : K ≤ 8) (hN : N < 18446744073709551616) :
    Calls Tryd.prog 62 #[.int .i64 K, .int .u64 N] w fun e w' => e = .returned (.tuple #[.string (str (putv K N)), .bool (putk K N)]) ∧ Below w.heap.size w w' := by
  have HN := Lib.hid hN
  clear hN
  go_enter Tryd.func62, Tryd.ntmps62
  go_wp2
  go_loopw [1, 6, 7] (fun n s i wr => ∃ j x : Nat, j ≤ K ∧ i = .int .i64 j ∧ n = .int .u64 x ∧ x = N / 256 ^ j ∧ s = .string (str (put j N)) ∧ Below w.heap.size w wr) (fun _ _ i _ => K - (intOf i).toNat)
  case atStart => exact ⟨0, N, by omega, rfl, rfl, by simp, rfl, Below.refl _ _⟩
  case round =>
    obtain ⟨j, x, hj, rfl, rfl, hx, rfl, hb⟩ := hrel
    have hx64 : x < 18446744073709551616 := by rw [hx]; exact Nat.lt_of_le_of_lt (Nat.div_le_self _ _) HN.out
    have HX := Lib.hid hx
    have HB := Lib.hid hb
    clear hx hb
    by_cases hlt : j < K
    · have hc := conv_rem x wr
      have hx' : ((x : Int)) ≤ 18446744073709551615 := by omega
      have hadd := run_add_str [UInt8.ofNat (x % 256)] (put j N) (by rw [put_length]; simp; omega)
      have HP : Hid ([UInt8.ofNat (x % 256)] ++ put j N = put (j + 1) N) := Lib.hid (by rw [put_front, HX.out])
      rw [HP.out] at hadd
      clear hx64
      go_wp2
      go_roundw
      case rel => exact ⟨j + 1, x / 256, by omega, by go_num, by rw [Int.natCast_ediv]; rfl, by rw [HX.out, Nat.pow_succ, Nat.div_div_eq_div_mul], rfl, HB.out.alloc HB.out.size _⟩
      case measure => simp [intOf]; omega
    · obtain rfl : j = K := by omega
      by_cases hp : putk j N = true
      · have hfit : N < 256 ^ j := by
          apply Classical.byContradiction
          intro hc
          rw [putk_big hc] at hp; cases hp
        have hx0 : ¬ 0 < x := by rw [HX.out, Nat.div_eq_of_lt hfit]; omega
        have P := Lib.hid hp
        clear hp hfit hx64
        go_wp2
        go_ret2
        exact ⟨by rw [putv_yes P.out, P.out]; rfl, HB.out⟩
      · have hp' : putk j N = false := by simpa using hp
        have hfit : 256 ^ j ≤ N := by
          apply Classical.byContradiction
          intro hc
          rw [putk_yes h1 h8 (by omega)] at hp'; cases hp'
        have hx0 : 0 < x := by rw [HX.out]; exact Nat.div_pos hfit (Nat.pow_pos (by omega))
        have P := Lib.hid hp'
        clear hp hp' hfit hx64
        go_wp2
        go_ret2
        exact ⟨by rw [putv_no P.out, P.out]; rfl, HB.out⟩
set_option maxHeartbeats 400000 in
theorem refput_any (W : Int) (N : Nat) (w : World) (hN : N < 18446744073709551616) :
    Calls Tryd.prog 62 #[.int .i64 W, .int .u64 N] w fun e w' => e = .returned (.tuple #[.string (str (putv W N)), .bool (putk W N)]) ∧ Below w.heap.size w w' := by
  by_cases hl : W < 1
  · have H := Lib.hid (putk_out (N := N) (.inl hl))
    clear hN
    go_enter Tryd.func62, Tryd.ntmps62
    go_wp2
    go_ret2
    exact ⟨by rw [putv_no H.out, H.out]; rfl, Below.refl _ _⟩
  by_cases hh : 8 < W
  · have H := Lib.hid (putk_out (N := N) (.inr hh))
    clear hN
    go_enter Tryd.func62, Tryd.ntmps62
    go_wp2
    go_ret2
    exact ⟨by rw [putv_no H.out, H.out]; rfl, Below.refl _ _⟩
  obtain ⟨k, rfl⟩ : ∃ k : Nat, W = k := ⟨W.toNat, by omega⟩
  exact refput_in k N w (by omega) (by omega) hN

theorem num_add (s : ByteArray) (i j k : Nat) (h : i + j < s.size) (hj : j < k) (h8 : k ≤ 8) :
    IntKind.u64.wrap (IntKind.u64.wrap (↑(num ((s.data.toList.drop i).take j)) * 256) + IntKind.u64.wrap ↑s[i + j].toNat) = (num ((s.data.toList.drop i).take (j + 1)) : Nat) := by
  have hl : i + j < s.data.toList.length := by simpa using h
  have h1 := num_lt ((s.data.toList.drop i).take j)
  have h2 : ((s.data.toList.drop i).take j).length ≤ 7 := by simp; omega
  have h3 : 256 ^ ((s.data.toList.drop i).take j).length ≤ 256 ^ 7 := Nat.pow_le_pow_right (by omega) h2
  have hx := Nat.lt_of_lt_of_le h1 h3
  have e : (s.data.toList[i + j]'hl) = s[i + j] := rfl
  rw [take_step hl, num_snoc, e]
  have hb := s[i + j].toNat_lt
  generalize num ((s.data.toList.drop i).take j) = x at *
  rw [IntWalk.u64_in ((x : Int) * 256) (by omega), IntWalk.u64_in (s[i + j].toNat : Int) (by omega), IntWalk.u64_in _ (by omega)]
  omega
set_option maxHeartbeats 400000 in
theorem refget_yes (s : ByteArray) (i k : Nat) (w : World) (h1 : 1 ≤ k) (h8 : k ≤ 8) (hi : i + k ≤ s.size) (hs : s.size ≤ 4611686018427387904) :
    Calls Tryd.prog 67 #[.string s, .int .i64 i, .int .i64 k] w fun e w' => e = .returned (.tuple #[.int .u64 (num ((s.data.toList.drop i).take k) : Nat), .bool true]) ∧ w = w' := by
  have hd1 : decide ((k : Int) < 1) = false := by simp; omega
  have hd2 : decide ((8 : Int) < (k : Int)) = false := by simp; omega
  have hd3 : decide ((i : Int) < 0) = false := by simp
  have hd4 : decide (s.size < i) = false := by simp; omega
  have hd5 : decide ((s.size : Int) - i < k) = false := by simp; omega
  go_enter Tryd.func67, Tryd.ntmps67
  go_wp2
  go_loop [8, 9] (fun n i' => ∃ j : Nat, j ≤ k ∧ i' = .int .i64 j ∧ n = .int .u64 (num ((s.data.toList.drop i).take j) : Nat)) (fun _ i' => k - (intOf i').toNat)
  case atStart => exact ⟨0, by omega, rfl, rfl⟩
  case round =>
    obtain ⟨j, hj, rfl, rfl⟩ := hrel
    by_cases hlt : j < k
    · have HN := Lib.hid (num_add s i j k (by omega) hlt h8)
      have hij : i + j < s.size := by omega
      go_wp2
      go_round
      case rel => exact ⟨j + 1, by omega, by go_num, by rw [HN.out]⟩
      case measure => simp [intOf]; omega
    · obtain rfl : j = k := by omega
      go_wp2
      go_ret2
      exact ⟨rfl, rfl⟩
set_option maxHeartbeats 400000 in
theorem refget_no (s : ByteArray) (at_ W : Int) (w : World) (h : W < 1 ∨ 8 < W ∨ at_ < 0 ∨ s.size < at_ + W) (hs : s.size ≤ 4611686018427387904) :
    Calls Tryd.prog 67 #[.string s, .int .i64 at_, .int .i64 W] w fun e w' => e = .returned (.tuple #[.int .u64 0, .bool false]) ∧ w = w' := by
  by_cases h1 : W < 1
  · clear h
    go_enter Tryd.func67, Tryd.ntmps67
    go_wp2
    go_ret2
    exact ⟨rfl, rfl⟩
  by_cases h8 : 8 < W
  · clear h
    go_enter Tryd.func67, Tryd.ntmps67
    go_wp2
    go_ret2
    exact ⟨rfl, rfl⟩
  by_cases h0 : at_ < 0
  · clear h
    go_enter Tryd.func67, Tryd.ntmps67
    go_wp2
    go_ret2
    exact ⟨rfl, rfl⟩
  by_cases h9 : s.size < at_
  · clear h
    go_enter Tryd.func67, Tryd.ntmps67
    go_wp2
    go_ret2
    exact ⟨rfl, rfl⟩
  have h10 : s.size - at_ < W := by omega
  clear h
  go_enter Tryd.func67, Tryd.ntmps67
  go_wp2
  go_ret2
  exact ⟨rfl, rfl⟩

theorem refget_any (s : ByteArray) (at_ W : Int) (w : World) (hs : s.size ≤ 4611686018427387904) :
    Calls Tryd.prog 67 #[.string s, .int .i64 at_, .int .i64 W] w fun e w' => e = .returned (.tuple #[.int .u64 (getv s.data.toList at_ W : Nat), .bool (getk s.data.toList at_ W)]) ∧ w = w' := by
  have hl : s.data.toList.length = s.size := by simp
  rcases getk_cases s.data.toList at_ W with ⟨hk, i, k, rfl, rfl, h1, h8, hi⟩ | ⟨hk, h⟩
  · rw [getv_yes hk, hk]
    exact refget_yes s i k w h1 h8 (by omega) hs
  · rw [getv_no hk, hk]
    exact refget_no s at_ W w (by omega) hs
set_option maxHeartbeats 400000 in
theorem refgetint_any (s : ByteArray) (at_ : Int) (w : World) (hs : s.size ≤ 4611686018427387904) :
    Calls Tryd.prog 56 #[.string s, .int .i64 at_] w fun e w' => e = .returned (.tuple #[.int .i64 (wrap64 (getv s.data.toList at_ 8 : Nat)), .bool (getk s.data.toList at_ 8)]) ∧ w = w' := by
  go_enter Tryd.func56, Tryd.ntmps56
  go_wp2_with fail
  refine (refget_any s at_ 8 _ hs).mono ?_
  rintro e w' ⟨rfl, rfl⟩
  go_wp2
  go_ret2
  exact ⟨rfl, rfl⟩
set_option maxHeartbeats 400000 in
theorem refint_any (n : Int) (N : Nat) (w : World) (h : IntKind.u64.wrap n = N) (hN : N < 18446744073709551616) :
    Calls Tryd.prog 50 #[.int .i64 n] w fun e w' => e = .returned (.string (str (put 8 N))) ∧ Below w.heap.size w w' := by
  have hp : putk 8 N = true := putk_yes (k := 8) (by omega) (by omega) (by rw [show (256 : Nat) ^ 8 = 18446744073709551616 from rfl]; exact hN)
  have hpv : putv 8 N = put 8 N := putv_yes (k := 8) hp
  have PV := Lib.hid hpv
  have HN := Lib.hid hN
  clear hN hp hpv
  go_enter Tryd.func50, Tryd.ntmps50
  go_wp2_with fail
  refine (refput_any 8 N _ HN.out).mono ?_
  rintro e w' ⟨rfl, hb⟩
  rw [PV.out]
  have HB := Lib.hid hb
  clear hb
  go_wp2
  go_ret
  exact ⟨rfl, HB.out⟩
end Go.Proofs.YtglhebpblncjaaaDoor
/- What the document's own Put and Size of chapter 5 return, as contracts: the same functions as the program's. -/
namespace Go.Proofs.YtglhebpblncjaaaDoor
open Go.RowKit
set_option linter.unusedVariables false

theorem two_cells {K n : Nat} (hK : K < 256) (hn : n < 256) : bcells (put 1 K ++ put 1 n) = #[.int .u8 (K : Int), .int .u8 (n : Int)] := by
  have e : ∀ x : Nat, put 1 x = [UInt8.ofNat (x % 256)] := fun x => by simp [put]
  rw [e, e]
  unfold bcells
  simp only [List.cons_append, List.nil_append, List.map_cons, List.map_nil]
  rw [ofNat_toNat (Nat.mod_lt _ (by omega)), ofNat_toNat (Nat.mod_lt _ (by omega)), Nat.mod_eq_of_lt hK, Nat.mod_eq_of_lt hn]
theorem conv_two {K n g : Nat} {wr : World} (hK : K < 256) (hn : n < 256) (h : Has wr g 5 #[.int .u8 (K : Int), .int .u8 (n : Int)]) :
    (convert 57 9 (.slice (some ⟨g, 0, none⟩) 2 2)).run Tryd.prog wr = .ok (.string (str (put 1 K ++ put 1 n))) wr := by
  refine conv_bytes (l := put 1 K ++ put 1 n) (W := 2) ?_ (by simp [put_length])
  rw [two_cells hK hn]
  exact h
theorem u8_in {n : Nat} (h : n < 256) : IntKind.u8.wrap (n : Int) = (n : Int) := by simp [IntKind.wrap, IntKind.bits, IntKind.signed]; omega
set_option maxRecDepth 100000 in
set_option maxHeartbeats 4000000 in
theorem rput_yes (K : Nat) (T : Int) (A : Option Addr) (n c : Nat) (l : List Int) (w : World) (hK : K < 256) (h8 : n ≤ 8) (hl : l.length = n) (hr : Lies w A (ints l)) :
    Calls Tryd.prog 34 #[ev K T A n c] w fun e w' => e = .returned (.tuple #[.string (str (hd K n T ++ vs l)), .bool true]) ∧ Below w.heap.size w w' := by
  unfold ev
  have HR := Lib.hid (hr.alloc (.cells #[.int .i64 K, .int .i64 T, .slice A n c] 42))
  have HL := Lib.hid hl
  have HK := Lib.hid hK
  have HN : Hid (n < 256) := Lib.hid (by omega)
  have hrw := hr
  clear hr hl
  have hwk := u8_in hK
  have hwn := u8_in HN.out
  go_enter Tryd.func34, Tryd.ntmps34
  go_wp2_with fail
  have H0 : Has (w.alloc (.cells #[.int .i64 K, .int .i64 T, .slice A n c] 42)) w.heap.size 42 #[.int .i64 K, .int .i64 T, .slice A n c] := heap_alloc_new w _
  have HB := Lib.hid ((Below.refl w.heap.size w).alloc (Nat.le_refl _) (.cells #[.int .i64 K, .int .i64 T, .slice A n c] 42))
  generalize w.alloc (.cells #[.int .i64 K, .int .i64 T, .slice A n c] 42) = w0 at *
  have C0 := Lib.hid H0
  clear H0
  have hr2 := run_add_str (put 1 K ++ put 1 n) (put 8 (u64n T)) (by simp [put_length])
  have N1 := Lib.hid (has_new w0 #[.int .u8 (K : Int), .int .u8 (n : Int)] 5).drew
  have v1 := conv_two hK HN.out N1.out
  have C1 := Lib.hid (C0.out.alloc (.cells #[.int .u8 (K : Int), .int .u8 (n : Int)] 5)).drew
  have B1 := Lib.hid (HB.out.alloc HB.out.size (.cells #[.int .u8 (K : Int), .int .u8 (n : Int)] 5)).drew
  go_region_held (fun w' => w'.cell? ⟨w.heap.size, 0, none⟩ = some (.int .i64 K) ∧ w'.cell? ⟨w.heap.size, 1, none⟩ = some (.int .i64 T) ∧ w'.cell? ⟨w.heap.size, 2, none⟩ = some (.slice A n c))
    (first | exact C5.out.three | exact C6.out.three | exact C1.out.three | exact C0.out.three)
    (first
      | (go_at_call 50; refine (refint_any T (u64n T) _ (wrap_u64n T) (u64n_lt T)).mono ?_; rintro e w5 ⟨rfl, h5⟩
         first
           | (have C5 := Lib.hid (C1.out.next h5); have H5 := Lib.hid (Below.step B1.out h5 (Nat.le_refl _)); have v2 := conv_two HK.out HN.out (N1.out.next h5); clear h5)
           | (have C5 := Lib.hid (C0.out.drew.next h5); have H5 := Lib.hid (Below.step HB.out.drew h5 (Nat.le_refl _)); have v2 := conv_two HK.out HN.out (has_new w5 #[.int .u8 (K : Int), .int .u8 (n : Int)] 5); have C6 := Lib.hid (C5.out.alloc (.cells #[.int .u8 (K : Int), .int .u8 (n : Int)] 5)); clear h5)))
  · have CB := Lib.hid C5.out
    have HF := Lib.hid H5.out
    have RF := Lib.hid (hrw.below H5.out)
    clear hr2 v1 N1 C0 HB HR C1 B1 v2 C5
    have e0 := CB.out.three.2.2
    rw [show put 1 K ++ (put 1 n ++ put 8 (u64n T)) = hd K n T from rfl]
    clear CB
    go_wp2_with fail
    go_loopw [4, 5] (fun s i wr => ∃ k : Nat, k ≤ n ∧ i = .int .i64 k ∧ s = .string (str (hd K n T ++ vs (l.take k))) ∧ Below w.heap.size w wr ∧ Lies wr A (ints l) ∧ wr.cell? ⟨w.heap.size, 2, none⟩ = some (.slice A n c)) (fun _ i _ => n - (intOf i).toNat)
    case atStart => exact ⟨0, by omega, rfl, by simp [vs], HF.out, RF.out, e0⟩
    case round =>
      obtain ⟨k, hk, rfl, rfl, hb, hrr, hc2⟩ := hrel
      clear HF RF e0
      by_cases hlt : k < n
      · have hkl : k < l.length := by rw [HL.out]; exact hlt
        obtain ⟨b, off, rfl, hc⟩ := hrr.at_ (ints_get hkl)
        have HX := Lib.hid (vs_take hkl)
        have HRR := Lib.hid hrr
        have HBB := Lib.hid hb
        have hr3 := run_add_str (hd K n T ++ vs (l.take k)) (put 8 (u64n (l.getD k 0))) (by simp [put_length, hd_length, vs_length]; omega)
        clear hkl hrr hb
        generalize l.getD k 0 = x at *
        have d1 : decide ((k : Int) < (n : Int)) = true := by simp; omega
        go_wp2_with fail
        refine (refint_any x (u64n x) _ (wrap_u64n x) (u64n_lt x)).mono ?_
        rintro e w6 ⟨rfl, h6⟩
        have H6 := Lib.hid h6
        have hc3 := Lib.hid ((h6.cell (World.block_lt_of_cell? _ _ hc2)).trans hc2)
        clear h6
        go_wp2
        go_roundw
        case rel => exact ⟨k + 1, by omega, by go_num, by simp only [HX.out], Below.step HBB.out H6.out (Nat.le_refl _), HRR.out.below H6.out, hc3.out⟩
        case measure => simp [intOf]; omega
      · obtain rfl : k = n := by omega
        have HX : Hid (l.take k = l) := Lib.hid (List.take_of_length_le (by rw [HL.out]; exact Nat.le_refl _))
        have HBB := Lib.hid hb
        have d1 : decide ((k : Int) < (k : Int)) = false := by simp
        clear hrr hb
        go_wp2
        go_ret2
        exact ⟨by rw [HX.out]; rfl, HBB.out⟩
  · have CB := Lib.hid C5.out
    have HF := Lib.hid H5.out
    have RF := Lib.hid (hrw.below H5.out)
    clear hr2 v1 N1 C0 HB HR C1 B1 v2 C5
    have e0 := CB.out.three.2.2
    rw [show put 1 K ++ (put 1 n ++ put 8 (u64n T)) = hd K n T from rfl]
    clear CB
    go_wp2_with fail
    go_loopw [4, 5] (fun s i wr => ∃ k : Nat, k ≤ n ∧ i = .int .i64 k ∧ s = .string (str (hd K n T ++ vs (l.take k))) ∧ Below w.heap.size w wr ∧ Lies wr A (ints l) ∧ wr.cell? ⟨w.heap.size, 2, none⟩ = some (.slice A n c)) (fun _ i _ => n - (intOf i).toNat)
    case atStart => exact ⟨0, by omega, rfl, by simp [vs], HF.out, RF.out, e0⟩
    case round =>
      obtain ⟨k, hk, rfl, rfl, hb, hrr, hc2⟩ := hrel
      clear HF RF e0
      by_cases hlt : k < n
      · have hkl : k < l.length := by rw [HL.out]; exact hlt
        obtain ⟨b, off, rfl, hc⟩ := hrr.at_ (ints_get hkl)
        have HX := Lib.hid (vs_take hkl)
        have HRR := Lib.hid hrr
        have HBB := Lib.hid hb
        have hr3 := run_add_str (hd K n T ++ vs (l.take k)) (put 8 (u64n (l.getD k 0))) (by simp [put_length, hd_length, vs_length]; omega)
        clear hkl hrr hb
        generalize l.getD k 0 = x at *
        have d1 : decide ((k : Int) < (n : Int)) = true := by simp; omega
        go_wp2_with fail
        refine (refint_any x (u64n x) _ (wrap_u64n x) (u64n_lt x)).mono ?_
        rintro e w6 ⟨rfl, h6⟩
        have H6 := Lib.hid h6
        have hc3 := Lib.hid ((h6.cell (World.block_lt_of_cell? _ _ hc2)).trans hc2)
        clear h6
        go_wp2
        go_roundw
        case rel => exact ⟨k + 1, by omega, by go_num, by simp only [HX.out], Below.step HBB.out H6.out (Nat.le_refl _), HRR.out.below H6.out, hc3.out⟩
        case measure => simp [intOf]; omega
      · obtain rfl : k = n := by omega
        have HX : Hid (l.take k = l) := Lib.hid (List.take_of_length_le (by rw [HL.out]; exact Nat.le_refl _))
        have HBB := Lib.hid hb
        have d1 : decide ((k : Int) < (k : Int)) = false := by simp
        clear hrr hb
        go_wp2
        go_ret2
        exact ⟨by rw [HX.out]; rfl, HBB.out⟩
  · have CB := Lib.hid C6.out
    have HF := Lib.hid (H5.out.alloc H5.out.size (.cells #[.int .u8 (K : Int), .int .u8 (n : Int)] 5))
    have RF := Lib.hid (hrw.below HF.out)
    generalize w5.alloc (.cells #[.int .u8 (K : Int), .int .u8 (n : Int)] 5) = w7 at *
    clear hr2 v1 N1 C0 HB HR C1 B1 v2 C5
    have e0 := CB.out.three.2.2
    rw [show put 1 K ++ (put 1 n ++ put 8 (u64n T)) = hd K n T from rfl]
    clear CB
    go_wp2_with fail
    go_loopw [4, 5] (fun s i wr => ∃ k : Nat, k ≤ n ∧ i = .int .i64 k ∧ s = .string (str (hd K n T ++ vs (l.take k))) ∧ Below w.heap.size w wr ∧ Lies wr A (ints l) ∧ wr.cell? ⟨w.heap.size, 2, none⟩ = some (.slice A n c)) (fun _ i _ => n - (intOf i).toNat)
    case atStart => exact ⟨0, by omega, rfl, by simp [vs], HF.out, RF.out, e0⟩
    case round =>
      obtain ⟨k, hk, rfl, rfl, hb, hrr, hc2⟩ := hrel
      clear HF RF e0
      by_cases hlt : k < n
      · have hkl : k < l.length := by rw [HL.out]; exact hlt
        obtain ⟨b, off, rfl, hc⟩ := hrr.at_ (ints_get hkl)
        have HX := Lib.hid (vs_take hkl)
        have HRR := Lib.hid hrr
        have HBB := Lib.hid hb
        have hr3 := run_add_str (hd K n T ++ vs (l.take k)) (put 8 (u64n (l.getD k 0))) (by simp [put_length, hd_length, vs_length]; omega)
        clear hkl hrr hb
        generalize l.getD k 0 = x at *
        have d1 : decide ((k : Int) < (n : Int)) = true := by simp; omega
        go_wp2_with fail
        refine (refint_any x (u64n x) _ (wrap_u64n x) (u64n_lt x)).mono ?_
        rintro e w6 ⟨rfl, h6⟩
        have H6 := Lib.hid h6
        have hc3 := Lib.hid ((h6.cell (World.block_lt_of_cell? _ _ hc2)).trans hc2)
        clear h6
        go_wp2
        go_roundw
        case rel => exact ⟨k + 1, by omega, by go_num, by simp only [HX.out], Below.step HBB.out H6.out (Nat.le_refl _), HRR.out.below H6.out, hc3.out⟩
        case measure => simp [intOf]; omega
      · obtain rfl : k = n := by omega
        have HX : Hid (l.take k = l) := Lib.hid (List.take_of_length_le (by rw [HL.out]; exact Nat.le_refl _))
        have HBB := Lib.hid hb
        have d1 : decide ((k : Int) < (k : Int)) = false := by simp
        clear hrr hb
        go_wp2
        go_ret2
        exact ⟨by rw [HX.out]; rfl, HBB.out⟩
end Go.Proofs.YtglhebpblncjaaaDoor
/- What Fits of package wire tells, as a contract: of kinds only how many fields each has is known. -/
namespace Go.Proofs.YtglhebpblncjaaaDoor
open Go.RowKit
set_option linter.unusedVariables false

/-- From A on lie kinds, of which the i-th has so many fields. -/
def KLies (w : World) (A : Option Addr) (fl : List Nat) : Prop := ∀ (i m : Nat), fl[i]? = some m → ∃ b off F c, A = some ⟨b, off, none⟩ ∧ w.cell? ⟨b, off + i * 2 + 1, none⟩ = some (.slice F m c)
theorem KLies.below {w w' : World} {A : Option Addr} {fl : List Nat} (h : KLies w A fl) (hb : Below w.heap.size w w') : KLies w' A fl := fun i m hi => by
  obtain ⟨b, off, F, c, rfl, hc⟩ := h i m hi
  exact ⟨b, off, F, c, rfl, (hb.cell (World.block_lt_of_cell? _ _ hc)).trans hc⟩
/-- What Fits tells. -/
def fitE (fl : List Nat) (K : Int) (n : Nat) : Int := if 0 ≤ K ∧ K < fl.length then (if fl.getD K.toNat 0 = n then 0 else 7) else 5
theorem fitE_out {fl : List Nat} {K : Int} {n : Nat} (h : K < 0 ∨ fl.length ≤ K) : fitE fl K n = 5 := by unfold fitE; rw [if_neg (by omega)]
theorem fitE_in {fl : List Nat} {k n m : Nat} (h : fl[k]? = some m) : fitE fl k n = if m = n then 0 else 7 := by
  have hl : k < fl.length := by
    rcases Nat.lt_or_ge k fl.length with h1 | h1
    · exact h1
    · rw [List.getElem?_eq_none h1] at h; cases h
  unfold fitE; rw [if_pos (by omega), List.getD_eq_getElem?_getD, Int.toNat_natCast, h]; rfl

end Go.Proofs.YtglhebpblncjaaaDoor
