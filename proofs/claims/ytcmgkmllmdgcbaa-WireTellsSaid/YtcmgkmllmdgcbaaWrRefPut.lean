/- What the document's own Put and Size of chapter 5 return, as contracts: the same functions as the program's. -/
import Derived.Test.YtcmgkmllmdgcbaaCdRef
import Derived.Test.YtcmgkmllmdgcbaaWrGet2
namespace Go.Proofs.Ytcmgkmllmdgcbaa
open Go.RowKit
set_option linter.unusedVariables false

theorem two_cells {K n : Nat} (hK : K < 256) (hn : n < 256) : bcells (put 1 K ++ put 1 n) = #[.int .u8 (K : Int), .int .u8 (n : Int)] := by
  have e : ∀ x : Nat, put 1 x = [UInt8.ofNat (x % 256)] := fun x => by simp [put]
  rw [e, e]
  unfold bcells
  simp only [List.cons_append, List.nil_append, List.map_cons, List.map_nil]
  rw [ofNat_toNat (Nat.mod_lt _ (by omega)), ofNat_toNat (Nat.mod_lt _ (by omega)), Nat.mod_eq_of_lt hK, Nat.mod_eq_of_lt hn]
theorem conv_two {K n g : Nat} {wr : World} (hK : K < 256) (hn : n < 256) (h : Has wr g 5 #[.int .u8 (K : Int), .int .u8 (n : Int)]) :
    (convert 34 9 (.slice (some ⟨g, 0, none⟩) 2 2)).run Try.prog wr = .ok (.string (str (put 1 K ++ put 1 n))) wr := by
  refine conv_bytes (l := put 1 K ++ put 1 n) (W := 2) ?_ (by simp [put_length])
  rw [two_cells hK hn]
  exact h
theorem u8_in {n : Nat} (h : n < 256) : IntKind.u8.wrap (n : Int) = (n : Int) := by simp [IntKind.wrap, IntKind.bits, IntKind.signed]; omega
set_option maxRecDepth 100000 in
set_option maxHeartbeats 4000000 in
theorem rput_yes (K : Nat) (T : Int) (A : Option Addr) (n c : Nat) (l : List Int) (w : World) (hK : K < 256) (h8 : n ≤ 8) (hl : l.length = n) (hr : Lies w A (ints l)) :
    Calls Try.prog 10 #[ev K T A n c] w fun e w' => e = .returned (.tuple #[.string (str (hd K n T ++ vs l)), .bool true]) ∧ Below w.heap.size w w' := by
  unfold ev
  have HR := Lib.hid (hr.alloc (.cells #[.int .i64 K, .int .i64 T, .slice A n c] 32))
  have HL := Lib.hid hl
  have HK := Lib.hid hK
  have HN : Hid (n < 256) := Lib.hid (by omega)
  have hrw := hr
  clear hr hl
  have hwk := u8_in hK
  have hwn := u8_in HN.out
  go_enter Try.func10, Try.ntmps10
  go_wp2_with fail
  have H0 : Has (w.alloc (.cells #[.int .i64 K, .int .i64 T, .slice A n c] 32)) w.heap.size 32 #[.int .i64 K, .int .i64 T, .slice A n c] := heap_alloc_new w _
  have HB := Lib.hid ((Below.refl w.heap.size w).alloc (Nat.le_refl _) (.cells #[.int .i64 K, .int .i64 T, .slice A n c] 32))
  generalize w.alloc (.cells #[.int .i64 K, .int .i64 T, .slice A n c] 32) = w0 at *
  have C0 := Lib.hid H0
  clear H0
  have hr2 := run_add_str (put 1 K ++ put 1 n) (put 8 (u64n T)) (by simp [put_length])
  have N1 := Lib.hid (has_new w0 #[.int .u8 (K : Int), .int .u8 (n : Int)] 5).drew
  have v1 := conv_two hK HN.out N1.out
  have C1 := Lib.hid (C0.out.alloc (.cells #[.int .u8 (K : Int), .int .u8 (n : Int)] 5)).drew
  have B1 := Lib.hid (HB.out.alloc HB.out.size (.cells #[.int .u8 (K : Int), .int .u8 (n : Int)] 5)).drew
  go_region_held (fun w' => w'.cell? ⟨w.heap.size, 0, none⟩ = some (.int .i64 K) ∧ w'.cell? ⟨w.heap.size, 1, none⟩ = some (.int .i64 T) ∧ w'.cell? ⟨w.heap.size, 2, none⟩ = some (.slice A n c))
    (first | exact C5.out.three | exact C6.out.three | exact C1.out.three | exact C0.out.three)
    (first
      | (go_at_call 24; refine (refint_any T (u64n T) _ (wrap_u64n T) (u64n_lt T)).mono ?_; rintro e w5 ⟨rfl, h5⟩
         first
           | (have C5 := Lib.hid (C1.out.next h5); have H5 := Lib.hid (Below.step B1.out h5 (Nat.le_refl _)); have v2 := conv_two HK.out HN.out (N1.out.next h5); clear h5)
           | (have C5 := Lib.hid (C0.out.drew.next h5); have H5 := Lib.hid (Below.step HB.out.drew h5 (Nat.le_refl _)); have v2 := conv_two HK.out HN.out (has_new w5 #[.int .u8 (K : Int), .int .u8 (n : Int)] 5); have C6 := Lib.hid (C5.out.alloc (.cells #[.int .u8 (K : Int), .int .u8 (n : Int)] 5)); clear h5)))
  · have CB := Lib.hid C5.out
    have HF := Lib.hid H5.out
    have RF := Lib.hid (hrw.below H5.out)
    clear hr2 v1 N1 C0 HB HR C1 B1 v2 C5
    have e0 := CB.out.three.2.2
    rw [show put 1 K ++ (put 1 n ++ put 8 (u64n T)) = hd K n T from rfl]
    clear CB
    go_wp2_with fail
    go_loopw [4, 5] (fun s i wr => ∃ k : Nat, k ≤ n ∧ i = .int .i64 k ∧ s = .string (str (hd K n T ++ vs (l.take k))) ∧ Below w.heap.size w wr ∧ Lies wr A (ints l) ∧ wr.cell? ⟨w.heap.size, 2, none⟩ = some (.slice A n c)) (fun _ i _ => n - (intOf i).toNat)
    case atStart => exact ⟨0, by omega, rfl, by simp [vs], HF.out, RF.out, e0⟩
    case round =>
      obtain ⟨k, hk, rfl, rfl, hb, hrr, hc2⟩ := hrel
      clear HF RF e0
      by_cases hlt : k < n
      · have hkl : k < l.length := by rw [HL.out]; exact hlt
        obtain ⟨b, off, rfl, hc⟩ := hrr.at_ (ints_get hkl)
        have HX := Lib.hid (vs_take hkl)
        have HRR := Lib.hid hrr
        have HBB := Lib.hid hb
        have hr3 := run_add_str (hd K n T ++ vs (l.take k)) (put 8 (u64n (l.getD k 0))) (by simp [put_length, hd_length, vs_length]; omega)
        clear hkl hrr hb
        generalize l.getD k 0 = x at *
        have d1 : decide ((k : Int) < (n : Int)) = true := by simp; omega
        go_wp2_with fail
        refine (refint_any x (u64n x) _ (wrap_u64n x) (u64n_lt x)).mono ?_
        rintro e w6 ⟨rfl, h6⟩
        have H6 := Lib.hid h6
        have hc3 := Lib.hid ((h6.cell (World.block_lt_of_cell? _ _ hc2)).trans hc2)
        clear h6
        go_wp2
        go_roundw
        case rel => exact ⟨k + 1, by omega, by go_num, by simp only [HX.out], Below.step HBB.out H6.out (Nat.le_refl _), HRR.out.below H6.out, hc3.out⟩
        case measure => simp [intOf]; omega
      · obtain rfl : k = n := by omega
        have HX : Hid (l.take k = l) := Lib.hid (List.take_of_length_le (by rw [HL.out]; exact Nat.le_refl _))
        have HBB := Lib.hid hb
        have d1 : decide ((k : Int) < (k : Int)) = false := by simp
        clear hrr hb
        go_wp2
        go_ret2
        exact ⟨by rw [HX.out]; rfl, HBB.out⟩
  · have CB := Lib.hid C5.out
    have HF := Lib.hid H5.out
    have RF := Lib.hid (hrw.below H5.out)
    clear hr2 v1 N1 C0 HB HR C1 B1 v2 C5
    have e0 := CB.out.three.2.2
    rw [show put 1 K ++ (put 1 n ++ put 8 (u64n T)) = hd K n T from rfl]
    clear CB
    go_wp2_with fail
    go_loopw [4, 5] (fun s i wr => ∃ k : Nat, k ≤ n ∧ i = .int .i64 k ∧ s = .string (str (hd K n T ++ vs (l.take k))) ∧ Below w.heap.size w wr ∧ Lies wr A (ints l) ∧ wr.cell? ⟨w.heap.size, 2, none⟩ = some (.slice A n c)) (fun _ i _ => n - (intOf i).toNat)
    case atStart => exact ⟨0, by omega, rfl, by simp [vs], HF.out, RF.out, e0⟩
    case round =>
      obtain ⟨k, hk, rfl, rfl, hb, hrr, hc2⟩ := hrel
      clear HF RF e0
      by_cases hlt : k < n
      · have hkl : k < l.length := by rw [HL.out]; exact hlt
        obtain ⟨b, off, rfl, hc⟩ := hrr.at_ (ints_get hkl)
        have HX := Lib.hid (vs_take hkl)
        have HRR := Lib.hid hrr
        have HBB := Lib.hid hb
        have hr3 := run_add_str (hd K n T ++ vs (l.take k)) (put 8 (u64n (l.getD k 0))) (by simp [put_length, hd_length, vs_length]; omega)
        clear hkl hrr hb
        generalize l.getD k 0 = x at *
        have d1 : decide ((k : Int) < (n : Int)) = true := by simp; omega
        go_wp2_with fail
        refine (refint_any x (u64n x) _ (wrap_u64n x) (u64n_lt x)).mono ?_
        rintro e w6 ⟨rfl, h6⟩
        have H6 := Lib.hid h6
        have hc3 := Lib.hid ((h6.cell (World.block_lt_of_cell? _ _ hc2)).trans hc2)
        clear h6
        go_wp2
        go_roundw
        case rel => exact ⟨k + 1, by omega, by go_num, by simp only [HX.out], Below.step HBB.out H6.out (Nat.le_refl _), HRR.out.below H6.out, hc3.out⟩
        case measure => simp [intOf]; omega
      · obtain rfl : k = n := by omega
        have HX : Hid (l.take k = l) := Lib.hid (List.take_of_length_le (by rw [HL.out]; exact Nat.le_refl _))
        have HBB := Lib.hid hb
        have d1 : decide ((k : Int) < (k : Int)) = false := by simp
        clear hrr hb
        go_wp2
        go_ret2
        exact ⟨by rw [HX.out]; rfl, HBB.out⟩
  · have CB := Lib.hid C6.out
    have HF := Lib.hid (H5.out.alloc H5.out.size (.cells #[.int .u8 (K : Int), .int .u8 (n : Int)] 5))
    have RF := Lib.hid (hrw.below HF.out)
    generalize w5.alloc (.cells #[.int .u8 (K : Int), .int .u8 (n : Int)] 5) = w7 at *
    clear hr2 v1 N1 C0 HB HR C1 B1 v2 C5
    have e0 := CB.out.three.2.2
    rw [show put 1 K ++ (put 1 n ++ put 8 (u64n T)) = hd K n T from rfl]
    clear CB
    go_wp2_with fail
    go_loopw [4, 5] (fun s i wr => ∃ k : Nat, k ≤ n ∧ i = .int .i64 k ∧ s = .string (str (hd K n T ++ vs (l.take k))) ∧ Below w.heap.size w wr ∧ Lies wr A (ints l) ∧ wr.cell? ⟨w.heap.size, 2, none⟩ = some (.slice A n c)) (fun _ i _ => n - (intOf i).toNat)
    case atStart => exact ⟨0, by omega, rfl, by simp [vs], HF.out, RF.out, e0⟩
    case round =>
      obtain ⟨k, hk, rfl, rfl, hb, hrr, hc2⟩ := hrel
      clear HF RF e0
      by_cases hlt : k < n
      · have hkl : k < l.length := by rw [HL.out]; exact hlt
        obtain ⟨b, off, rfl, hc⟩ := hrr.at_ (ints_get hkl)
        have HX := Lib.hid (vs_take hkl)
        have HRR := Lib.hid hrr
        have HBB := Lib.hid hb
        have hr3 := run_add_str (hd K n T ++ vs (l.take k)) (put 8 (u64n (l.getD k 0))) (by simp [put_length, hd_length, vs_length]; omega)
        clear hkl hrr hb
        generalize l.getD k 0 = x at *
        have d1 : decide ((k : Int) < (n : Int)) = true := by simp; omega
        go_wp2_with fail
        refine (refint_any x (u64n x) _ (wrap_u64n x) (u64n_lt x)).mono ?_
        rintro e w6 ⟨rfl, h6⟩
        have H6 := Lib.hid h6
        have hc3 := Lib.hid ((h6.cell (World.block_lt_of_cell? _ _ hc2)).trans hc2)
        clear h6
        go_wp2
        go_roundw
        case rel => exact ⟨k + 1, by omega, by go_num, by simp only [HX.out], Below.step HBB.out H6.out (Nat.le_refl _), HRR.out.below H6.out, hc3.out⟩
        case measure => simp [intOf]; omega
      · obtain rfl : k = n := by omega
        have HX : Hid (l.take k = l) := Lib.hid (List.take_of_length_le (by rw [HL.out]; exact Nat.le_refl _))
        have HBB := Lib.hid hb
        have d1 : decide ((k : Int) < (k : Int)) = false := by simp
        clear hrr hb
        go_wp2
        go_ret2
        exact ⟨by rw [HX.out]; rfl, HBB.out⟩
end Go.Proofs.Ytcmgkmllmdgcbaa
