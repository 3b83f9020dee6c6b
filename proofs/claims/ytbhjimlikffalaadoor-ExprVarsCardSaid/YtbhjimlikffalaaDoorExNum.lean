/- Layer 7: numbers that bytes make. -/
import Derived.Test.YtbhjimlikffalaaDoorExGen
namespace Go.Proofs.YtbhjimlikffalaaDoor
open Go.RowKit
set_option linter.unusedVariables false

theorem cell_ints (w : World) (l : List Int) (t : TypeId) (j : Nat) (E : Int) (h : l[j]? = some E) :
    (w.alloc (.cells ((l.map (Value.int .i64)).toArray) t)).cell? ⟨w.heap.size, j, none⟩ = some (.int .i64 E) := by
  rw [cell_of_row _ w.heap.size j _ t (0, 0) (heap_alloc_new w _), List.getElem?_toArray, List.getElem?_map, h]
  rfl
theorem cell_strs (w : World) (l : List Nm) (t : TypeId) (j : Nat) (E : Nm) (h : l[j]? = some E) :
    (w.alloc (.cells ((l.map fun s => Value.string (str s)).toArray) t)).cell? ⟨w.heap.size, j, none⟩ = some (.string (str E)) := by
  rw [cell_of_row _ w.heap.size j _ t (0, 0) (heap_alloc_new w _), List.getElem?_toArray, List.getElem?_map, h]
  rfl
theorem nums_at : ∀ j, j < 6 → ∃ N : Int, ([0, 1, 2, 3, 5, 9223372036854775807] : List Int)[j]? = some N ∧ 0 ≤ N ∧ N ≤ 9223372036854775807
  | 0, _ => ⟨_, rfl, by decide, by decide⟩
  | 1, _ => ⟨_, rfl, by decide, by decide⟩
  | 2, _ => ⟨_, rfl, by decide, by decide⟩
  | 3, _ => ⟨_, rfl, by decide, by decide⟩
  | 4, _ => ⟨_, rfl, by decide, by decide⟩
  | 5, _ => ⟨_, rfl, by decide, by decide⟩
  | n + 6, h => absurd h (by omega)
theorem right_nm {N : Int} (h : 0 ≤ N) : rightT (nm N) = true := right_of (by unfold oneB bareB; simp [h]) fun t ht => by cases ht
theorem typ_nm (N : Int) : typT (nm N) = 1 := by kernel_rfl
theorem right_rf {v f : Nm} (hv : nameB v = true) (hf : nameB f = true) : rightT (rf v f) = true := right_of (by unfold oneB bareB; simp [hv, hf]) fun t ht => by cases ht
theorem typ_rf (v f : Nm) : typT (rf v f) = 1 := by kernel_rfl
theorem refV_ok (x : Int) : nameB (refV x) = true ∧ (refV x).length ≤ 1000000 := by
  have h1 : nameB [97] = true := by kernel_rfl
  have h2 : nameB [98] = true := by kernel_rfl
  have h3 : nameB [99] = true := by kernel_rfl
  unfold refV
  split
  · split
    · exact ⟨h1, by simp⟩
    · exact ⟨h2, by simp⟩
  · exact ⟨h3, by simp⟩
theorem refF_ok (x : Int) : nameB (refF x) = true ∧ (refF x).length ≤ 1000000 := by
  have h1 : nameB [107] = true := by kernel_rfl
  have h2 : nameB [121] = true := by kernel_rfl
  have h3 : nameB [120] = true := by kernel_rfl
  unfold refF
  split
  · exact ⟨h1, by simp⟩
  · split
    · exact ⟨h2, by simp⟩
    · exact ⟨h3, by simp⟩
set_option maxHeartbeats 4000000 in
theorem num_A1 {bs : List Int} (hbyt : ∀ x ∈ bs, 0 ≤ x ∧ x ≤ 255) (i : Nat) (x : Int) (i1 : Nat) (hx : nx bs i = (x, i1)) (d : Int) (h3 : x % 8 < 3) : ∃ T0, ∀ (w0 : World) (L V O : Option Addr) (n c : Nat) (hC : FdC w0 bs L V O n c) (p : Nat) (w : World), Fd w0 p L V O n c i w → Calls Tryd.prog 66 #[.pointer (some ⟨p, 0, none⟩), .string (str [99]), .string (str [67]), .int .i64 d] w fun e w' => Mk w0 p L V O n c 1 1 (T0) i1 w e w' := by
  have hxb0 := nx_b hbyt i
  rw [hx] at hxb0
  simp only at hxb0
  obtain ⟨j, hj⟩ : ∃ j : Nat, x / 8 % 6 = (j : Int) := ⟨(x / 8 % 6).toNat, by omega⟩
  obtain ⟨N, hN, hN0, hN1⟩ := nums_at j (by omega)
  refine ⟨nm N, ?_⟩
  intro w0 L V O n c hC p w h
  have hxb := nx_b hC.byt i
  have hpl := h.2.1.lt
  have hqp : w.heap.size ≠ p := by omega
  have h0s := h.1.size
  obtain ⟨W, hW⟩ : ∃ W, W = w.alloc (.cells zer 24) := ⟨_, rfl⟩
  have bl : Below w.heap.size w W := by rw [hW]; exact (Below.refl _ _).alloc (Nat.le_refl _) _
  have hz : Has W w.heap.size 24 zer := by rw [hW]; exact heap_alloc_new w _
  have hWs : W.heap.size = w.heap.size + 1 := by rw [hW]; simp
  have hn := next_any hC p i W (h.below bl)
  rw [hx] at hxb hn
  simp only at hxb hn
  have HN := Lib.hid hn
  have HW := Lib.hid hW
  have HZ := Lib.hid hz
  have HB := Lib.hid (FrP.below hpl bl)
  have HP := Lib.hid hpl
  have HQ := Lib.hid hqp
  have HS := Lib.hid h0s
  have HWS := Lib.hid hWs
  clear hn hW hz bl hpl hqp h0s h hWs
  have m8 := tmod_of hxb.1 8
  have m2 := tmod_of hxb.1 2
  have d8 := tdiv_of hxb.1 8
  have m6 : (x / 8).tmod 6 = (j : Int) := by rw [tmod_of (by omega)]; exact hj
  have hj6 : j < 6 := by omega
  go_enter Tryd.func66, Tryd.ntmps66
  go_wp2_with fail
  rw [← HW.out]
  refine HN.out.mono ?_
  rintro e w1 ⟨rfl, fd1, fr1⟩
  have hz1 := fr1.has HZ.out HQ.out
  have HFD := Lib.hid fd1
  have HFR := Lib.hid (HB.out.trans fr1)
  have HZ1 := Lib.hid hz1
  have HS1 := Lib.hid (show w.heap.size + 1 ≤ w1.heap.size by rw [← HWS.out]; exact fr1.size)
  have hc0 := cell_ints w1 [0, 1, 2, 3, 5, 9223372036854775807] 2 j N hN
  have bA := step1 w1 (.cells (([0, 1, 2, 3, 5, 9223372036854775807].map (Value.int .i64)).toArray) 2)
  obtain ⟨W2, hW2⟩ : ∃ W2, w1.alloc (.cells (([0, 1, 2, 3, 5, 9223372036854775807].map (Value.int .i64)).toArray) 2) = W2 := ⟨_, rfl⟩
  rw [hW2] at hc0 bA
  have hW3 : w1.alloc (.cells #[.int .i64 0, .int .i64 1, .int .i64 2, .int .i64 3, .int .i64 5, .int .i64 9223372036854775807] 2) = W2 := hW2
  have hz2 := hz1.below bA hz1.lt
  obtain ⟨⟨X1, X2, X3⟩, -⟩ := end_store HP.out HS.out hz2 (HFD.out.below bA) (HFR.out.trans (FrP.below HFD.out.2.1.lt bA)) (.int .i64 0) (.string { data := #[] }) (.int .i64 N) (.string { data := #[] }) (.string { data := #[] }) (.slice none 0 0) (.cells #[] 0)
  have HX := Lib.hid (And.intro X1 (And.intro X2 X3))
  obtain ⟨z0, z1, z2, z3, z4, z5⟩ := zer_six hz2
  obtain ⟨f0, f1, f2, f3, f4, f5⟩ := six_free hz2
  have HNN := Lib.hid (And.intro hN0 hN1)
  clear X1 X2 X3 fd1 fr1 hz1 hz2 bA hW2 hN hN0 hN1
  go_wp2_with fail
  rw [set6_fold]
  clear z0 z1 z2 z3 z4 z5 f0 f1 f2 f3 f4 f5 m8 m2 d8 m6 hc0 hW3
  generalize set6 W2 w.heap.size (.int .i64 0) (.string { data := #[] }) (.int .i64 N) (.string { data := #[] }) (.string { data := #[] }) (.slice none 0 0) = X at HX ⊢
  have y0 : X.cell? ⟨w.heap.size, 0, none⟩ = some (.int .i64 0) := HX.out.2.2.cell 0
  have y1 : X.cell? ⟨w.heap.size, 1, none⟩ = some (.string { data := #[] }) := HX.out.2.2.cell 1
  have y2 : X.cell? ⟨w.heap.size, 2, none⟩ = some (.int .i64 N) := HX.out.2.2.cell 2
  have y3 : X.cell? ⟨w.heap.size, 3, none⟩ = some (.string { data := #[] }) := HX.out.2.2.cell 3
  have y4 : X.cell? ⟨w.heap.size, 4, none⟩ = some (.string { data := #[] }) := HX.out.2.2.cell 4
  have y5 : X.cell? ⟨w.heap.size, 5, none⟩ = some (.slice none 0 0) := HX.out.2.2.cell 5
  refine bodyPost_ret (v := .agg #[.int .i64 0, .string { data := #[] }, .int .i64 N, .string { data := #[] }, .string { data := #[] }, .slice none 0 0]) (by simp [results, Tryd.results66, go_sem, y0, y1, y2, y3, y4, y5]) rfl ?_
  exact ⟨nm N, rfl, er_mk _ _ _ _ _ _ _ _, ⟨right_nm HNN.out.1, typ_nm N, Nat.le_of_eq (by kernel_rfl)⟩, nw_nm _ _ _ (by have := HNN.out; omega) HNN.out.2, HX.out.1, HX.out.2.1⟩
set_option maxHeartbeats 4000000 in
theorem num_A2 {bs : List Int} (hbyt : ∀ x ∈ bs, 0 ≤ x ∧ x ≤ 255) (i : Nat) (x : Int) (i1 : Nat) (hx : nx bs i = (x, i1))  (h3 : ¬ x % 8 < 3) (h2 : x % 2 = 0) : ∃ T0, ∀ (w0 : World) (L V O : Option Addr) (n c : Nat) (hC : FdC w0 bs L V O n c) (p : Nat) (w : World), Fd w0 p L V O n c i w → Calls Tryd.prog 66 #[.pointer (some ⟨p, 0, none⟩), .string (str [99]), .string (str [67]), .int .i64 0] w fun e w' => Mk w0 p L V O n c 1 1 (T0) i1 w e w' := by
  have hxb0 := nx_b hbyt i
  rw [hx] at hxb0
  simp only at hxb0
  obtain ⟨j, hj⟩ : ∃ j : Nat, x / 8 % 6 = (j : Int) := ⟨(x / 8 % 6).toNat, by omega⟩
  obtain ⟨N, hN, hN0, hN1⟩ := nums_at j (by omega)
  refine ⟨nm N, ?_⟩
  intro w0 L V O n c hC p w h
  have hxb := nx_b hC.byt i
  have hpl := h.2.1.lt
  have hqp : w.heap.size ≠ p := by omega
  have h0s := h.1.size
  obtain ⟨W, hW⟩ : ∃ W, W = w.alloc (.cells zer 24) := ⟨_, rfl⟩
  have bl : Below w.heap.size w W := by rw [hW]; exact (Below.refl _ _).alloc (Nat.le_refl _) _
  have hz : Has W w.heap.size 24 zer := by rw [hW]; exact heap_alloc_new w _
  have hWs : W.heap.size = w.heap.size + 1 := by rw [hW]; simp
  have hn := next_any hC p i W (h.below bl)
  rw [hx] at hxb hn
  simp only at hxb hn
  have HN := Lib.hid hn
  have HW := Lib.hid hW
  have HZ := Lib.hid hz
  have HB := Lib.hid (FrP.below hpl bl)
  have HP := Lib.hid hpl
  have HQ := Lib.hid hqp
  have HS := Lib.hid h0s
  have HWS := Lib.hid hWs
  clear hn hW hz bl hpl hqp h0s h hWs
  have m8 := tmod_of hxb.1 8
  have m2 := tmod_of hxb.1 2
  have d8 := tdiv_of hxb.1 8
  have m6 : (x / 8).tmod 6 = (j : Int) := by rw [tmod_of (by omega)]; exact hj
  have hj6 : j < 6 := by omega
  go_enter Tryd.func66, Tryd.ntmps66
  go_wp2_with fail
  rw [← HW.out]
  refine HN.out.mono ?_
  rintro e w1 ⟨rfl, fd1, fr1⟩
  have hz1 := fr1.has HZ.out HQ.out
  have HFD := Lib.hid fd1
  have HFR := Lib.hid (HB.out.trans fr1)
  have HZ1 := Lib.hid hz1
  have HS1 := Lib.hid (show w.heap.size + 1 ≤ w1.heap.size by rw [← HWS.out]; exact fr1.size)
  have hc0 := cell_ints w1 [0, 1, 2, 3, 5, 9223372036854775807] 2 j N hN
  have bA := step1 w1 (.cells (([0, 1, 2, 3, 5, 9223372036854775807].map (Value.int .i64)).toArray) 2)
  obtain ⟨W2, hW2⟩ : ∃ W2, w1.alloc (.cells (([0, 1, 2, 3, 5, 9223372036854775807].map (Value.int .i64)).toArray) 2) = W2 := ⟨_, rfl⟩
  rw [hW2] at hc0 bA
  have hW3 : w1.alloc (.cells #[.int .i64 0, .int .i64 1, .int .i64 2, .int .i64 3, .int .i64 5, .int .i64 9223372036854775807] 2) = W2 := hW2
  have hz2 := hz1.below bA hz1.lt
  obtain ⟨⟨X1, X2, X3⟩, -⟩ := end_store HP.out HS.out hz2 (HFD.out.below bA) (HFR.out.trans (FrP.below HFD.out.2.1.lt bA)) (.int .i64 0) (.string { data := #[] }) (.int .i64 N) (.string { data := #[] }) (.string { data := #[] }) (.slice none 0 0) (.cells #[] 0)
  have HX := Lib.hid (And.intro X1 (And.intro X2 X3))
  obtain ⟨z0, z1, z2, z3, z4, z5⟩ := zer_six hz2
  obtain ⟨f0, f1, f2, f3, f4, f5⟩ := six_free hz2
  have HNN := Lib.hid (And.intro hN0 hN1)
  clear X1 X2 X3 fd1 fr1 hz1 hz2 bA hW2 hN hN0 hN1
  go_wp2_with fail
  rw [set6_fold]
  clear z0 z1 z2 z3 z4 z5 f0 f1 f2 f3 f4 f5 m8 m2 d8 m6 hc0 hW3
  generalize set6 W2 w.heap.size (.int .i64 0) (.string { data := #[] }) (.int .i64 N) (.string { data := #[] }) (.string { data := #[] }) (.slice none 0 0) = X at HX ⊢
  have y0 : X.cell? ⟨w.heap.size, 0, none⟩ = some (.int .i64 0) := HX.out.2.2.cell 0
  have y1 : X.cell? ⟨w.heap.size, 1, none⟩ = some (.string { data := #[] }) := HX.out.2.2.cell 1
  have y2 : X.cell? ⟨w.heap.size, 2, none⟩ = some (.int .i64 N) := HX.out.2.2.cell 2
  have y3 : X.cell? ⟨w.heap.size, 3, none⟩ = some (.string { data := #[] }) := HX.out.2.2.cell 3
  have y4 : X.cell? ⟨w.heap.size, 4, none⟩ = some (.string { data := #[] }) := HX.out.2.2.cell 4
  have y5 : X.cell? ⟨w.heap.size, 5, none⟩ = some (.slice none 0 0) := HX.out.2.2.cell 5
  refine bodyPost_ret (v := .agg #[.int .i64 0, .string { data := #[] }, .int .i64 N, .string { data := #[] }, .string { data := #[] }, .slice none 0 0]) (by simp [results, Tryd.results66, go_sem, y0, y1, y2, y3, y4, y5]) rfl ?_
  exact ⟨nm N, rfl, er_mk _ _ _ _ _ _ _ _, ⟨right_nm HNN.out.1, typ_nm N, Nat.le_of_eq (by kernel_rfl)⟩, nw_nm _ _ _ (by have := HNN.out; omega) HNN.out.2, HX.out.1, HX.out.2.1⟩
set_option maxHeartbeats 4000000 in
theorem num_B1 {bs : List Int} (hbyt : ∀ x ∈ bs, 0 ≤ x ∧ x ≤ 255) (i : Nat) (x : Int) (i1 : Nat) (hx : nx bs i = (x, i1)) (d : Int) (h3 : ¬ x % 8 < 3) (h6 : x % 8 < 6) (h1 : ¬ d < 1) : ∃ T0 i2, ∀ (w0 : World) (L V O : Option Addr) (n c : Nat) (hC : FdC w0 bs L V O n c) (p : Nat) (w : World), Fd w0 p L V O n c i w → Calls Tryd.prog 66 #[.pointer (some ⟨p, 0, none⟩), .string (str [99]), .string (str [67]), .int .i64 d] w fun e w' => Mk w0 p L V O n c 1 1 (T0) i2 w e w' := by
  obtain ⟨y, hy⟩ : ∃ y, nx bs i1 = y := ⟨_, rfl⟩
  obtain ⟨x2, i2⟩ := y
  obtain ⟨v, hv⟩ : ∃ v, refV x2 = v := ⟨_, rfl⟩
  obtain ⟨f, hf⟩ : ∃ v, refF x2 = v := ⟨_, rfl⟩
  refine ⟨rf v f, i2, ?_⟩
  intro w0 L V O n c hC p w h
  have hxb := nx_b hC.byt i
  have hpl := h.2.1.lt
  have hqp : w.heap.size ≠ p := by omega
  have h0s := h.1.size
  obtain ⟨W, hW⟩ : ∃ W, W = w.alloc (.cells zer 24) := ⟨_, rfl⟩
  have bl : Below w.heap.size w W := by rw [hW]; exact (Below.refl _ _).alloc (Nat.le_refl _) _
  have hz : Has W w.heap.size 24 zer := by rw [hW]; exact heap_alloc_new w _
  have hWs : W.heap.size = w.heap.size + 1 := by rw [hW]; simp
  have hn := next_any hC p i W (h.below bl)
  rw [hx] at hxb hn
  simp only at hxb hn
  have HN := Lib.hid hn
  have HW := Lib.hid hW
  have HZ := Lib.hid hz
  have HB := Lib.hid (FrP.below hpl bl)
  have HP := Lib.hid hpl
  have HQ := Lib.hid hqp
  have HS := Lib.hid h0s
  have HWS := Lib.hid hWs
  clear hn hW hz bl hpl hqp h0s h hWs
  have m8 := tmod_of hxb.1 8
  have m2 := tmod_of hxb.1 2
  have hvo := refV_ok x2
  have hfo := refF_ok x2
  rw [hv] at hvo
  rw [hf] at hfo
  have HVF := Lib.hid (And.intro hvo hfo)
  clear hvo hfo
  go_enter Tryd.func66, Tryd.ntmps66
  go_wp2_with fail
  rw [← HW.out]
  refine HN.out.mono ?_
  rintro e w1 ⟨rfl, fd1, fr1⟩
  have hz1 := fr1.has HZ.out HQ.out
  have HFD := Lib.hid fd1
  have HFR := Lib.hid (HB.out.trans fr1)
  have HZ1 := Lib.hid hz1
  have HS1 := Lib.hid (show w.heap.size + 1 ≤ w1.heap.size by rw [← HWS.out]; exact fr1.size)
  have hr := ref_any hC p i1 w1 fd1
  rw [hy] at hr
  simp only at hr
  rw [hv, hf] at hr
  have HR := Lib.hid hr
  clear hr fd1 fr1 hz1
  go_wp2_with fail
  refine HR.out.mono ?_
  rintro e w2 ⟨rfl, fd2, fr2⟩
  have hz2 := fr2.has HZ1.out HQ.out
  obtain ⟨⟨X1, X2, X3⟩, -⟩ := end_store HP.out HS.out hz2 fd2 (HFR.out.trans fr2) (.int .i64 1) (.string { data := #[] }) (.int .i64 0) (.string (str v)) (.string (str f)) (.slice none 0 0) (.cells #[] 0)
  have HX := Lib.hid (And.intro X1 (And.intro X2 X3))
  obtain ⟨z0, z1, z2, z3, z4, z5⟩ := zer_six hz2
  obtain ⟨f0, f1, f2, f3, f4, f5⟩ := six_free hz2
  clear X1 X2 X3 fd2 fr2 hz2 m8 m2
  go_wp2_with fail
  rw [set6_fold]
  clear z0 z1 z2 z3 z4 z5 f0 f1 f2 f3 f4 f5
  generalize set6 w2 w.heap.size (.int .i64 1) (.string { data := #[] }) (.int .i64 0) (.string (str v)) (.string (str f)) (.slice none 0 0) = X at HX ⊢
  have y0 : X.cell? ⟨w.heap.size, 0, none⟩ = some (.int .i64 1) := HX.out.2.2.cell 0
  have y1 : X.cell? ⟨w.heap.size, 1, none⟩ = some (.string { data := #[] }) := HX.out.2.2.cell 1
  have y2 : X.cell? ⟨w.heap.size, 2, none⟩ = some (.int .i64 0) := HX.out.2.2.cell 2
  have y3 : X.cell? ⟨w.heap.size, 3, none⟩ = some (.string (str v)) := HX.out.2.2.cell 3
  have y4 : X.cell? ⟨w.heap.size, 4, none⟩ = some (.string (str f)) := HX.out.2.2.cell 4
  have y5 : X.cell? ⟨w.heap.size, 5, none⟩ = some (.slice none 0 0) := HX.out.2.2.cell 5
  refine bodyPost_ret (v := .agg #[.int .i64 1, .string { data := #[] }, .int .i64 0, .string (str v), .string (str f), .slice none 0 0]) (by simp [results, Tryd.results66, go_sem, y0, y1, y2, y3, y4, y5]) rfl ?_
  exact ⟨rf v f, rfl, er_mk _ _ _ _ _ _ _ _, ⟨right_rf HVF.out.1.1 HVF.out.2.1, typ_rf v f, Nat.le_of_eq (by kernel_rfl)⟩, nw_rf _ _ _ _ HVF.out.1.2 HVF.out.2.2, HX.out.1, HX.out.2.1⟩
set_option maxHeartbeats 4000000 in
theorem num_B2_3 {bs : List Int} (hbyt : ∀ x ∈ bs, 0 ≤ x ∧ x ≤ 255) (i : Nat) (x : Int) (i1 : Nat) (hx : nx bs i = (x, i1))  (h8 : x % 8 = 3) (h2 : x % 2 = 1) : ∃ T0 i2, ∀ (w0 : World) (L V O : Option Addr) (n c : Nat) (hC : FdC w0 bs L V O n c) (p : Nat) (w : World), Fd w0 p L V O n c i w → Calls Tryd.prog 66 #[.pointer (some ⟨p, 0, none⟩), .string (str [99]), .string (str [67]), .int .i64 0] w fun e w' => Mk w0 p L V O n c 1 1 (T0) i2 w e w' := by
  obtain ⟨y, hy⟩ : ∃ y, nx bs i1 = y := ⟨_, rfl⟩
  obtain ⟨x2, i2⟩ := y
  obtain ⟨v, hv⟩ : ∃ v, refV x2 = v := ⟨_, rfl⟩
  obtain ⟨f, hf⟩ : ∃ v, refF x2 = v := ⟨_, rfl⟩
  refine ⟨rf v f, i2, ?_⟩
  intro w0 L V O n c hC p w h
  have hxb := nx_b hC.byt i
  have hpl := h.2.1.lt
  have hqp : w.heap.size ≠ p := by omega
  have h0s := h.1.size
  obtain ⟨W, hW⟩ : ∃ W, W = w.alloc (.cells zer 24) := ⟨_, rfl⟩
  have bl : Below w.heap.size w W := by rw [hW]; exact (Below.refl _ _).alloc (Nat.le_refl _) _
  have hz : Has W w.heap.size 24 zer := by rw [hW]; exact heap_alloc_new w _
  have hWs : W.heap.size = w.heap.size + 1 := by rw [hW]; simp
  have hn := next_any hC p i W (h.below bl)
  rw [hx] at hxb hn
  simp only at hxb hn
  have HN := Lib.hid hn
  have HW := Lib.hid hW
  have HZ := Lib.hid hz
  have HB := Lib.hid (FrP.below hpl bl)
  have HP := Lib.hid hpl
  have HQ := Lib.hid hqp
  have HS := Lib.hid h0s
  have HWS := Lib.hid hWs
  clear hn hW hz bl hpl hqp h0s h hWs
  have m8 := tmod_of hxb.1 8
  have m2 := tmod_of hxb.1 2
  rw [h8] at m8
  rw [h2] at m2
  have hvo := refV_ok x2
  have hfo := refF_ok x2
  rw [hv] at hvo
  rw [hf] at hfo
  have HVF := Lib.hid (And.intro hvo hfo)
  clear hvo hfo
  go_enter Tryd.func66, Tryd.ntmps66
  go_wp2_with fail
  rw [← HW.out]
  refine HN.out.mono ?_
  rintro e w1 ⟨rfl, fd1, fr1⟩
  have hz1 := fr1.has HZ.out HQ.out
  have HFD := Lib.hid fd1
  have HFR := Lib.hid (HB.out.trans fr1)
  have HZ1 := Lib.hid hz1
  have HS1 := Lib.hid (show w.heap.size + 1 ≤ w1.heap.size by rw [← HWS.out]; exact fr1.size)
  have hr := ref_any hC p i1 w1 fd1
  rw [hy] at hr
  simp only at hr
  rw [hv, hf] at hr
  have HR := Lib.hid hr
  clear hr fd1 fr1 hz1
  go_wp2_with fail
  refine HR.out.mono ?_
  rintro e w2 ⟨rfl, fd2, fr2⟩
  have hz2 := fr2.has HZ1.out HQ.out
  obtain ⟨⟨X1, X2, X3⟩, -⟩ := end_store HP.out HS.out hz2 fd2 (HFR.out.trans fr2) (.int .i64 1) (.string { data := #[] }) (.int .i64 0) (.string (str v)) (.string (str f)) (.slice none 0 0) (.cells #[] 0)
  have HX := Lib.hid (And.intro X1 (And.intro X2 X3))
  obtain ⟨z0, z1, z2, z3, z4, z5⟩ := zer_six hz2
  obtain ⟨f0, f1, f2, f3, f4, f5⟩ := six_free hz2
  clear X1 X2 X3 fd2 fr2 hz2 m8 m2
  go_wp2_with fail
  rw [set6_fold]
  clear z0 z1 z2 z3 z4 z5 f0 f1 f2 f3 f4 f5
  generalize set6 w2 w.heap.size (.int .i64 1) (.string { data := #[] }) (.int .i64 0) (.string (str v)) (.string (str f)) (.slice none 0 0) = X at HX ⊢
  have y0 : X.cell? ⟨w.heap.size, 0, none⟩ = some (.int .i64 1) := HX.out.2.2.cell 0
  have y1 : X.cell? ⟨w.heap.size, 1, none⟩ = some (.string { data := #[] }) := HX.out.2.2.cell 1
  have y2 : X.cell? ⟨w.heap.size, 2, none⟩ = some (.int .i64 0) := HX.out.2.2.cell 2
  have y3 : X.cell? ⟨w.heap.size, 3, none⟩ = some (.string (str v)) := HX.out.2.2.cell 3
  have y4 : X.cell? ⟨w.heap.size, 4, none⟩ = some (.string (str f)) := HX.out.2.2.cell 4
  have y5 : X.cell? ⟨w.heap.size, 5, none⟩ = some (.slice none 0 0) := HX.out.2.2.cell 5
  refine bodyPost_ret (v := .agg #[.int .i64 1, .string { data := #[] }, .int .i64 0, .string (str v), .string (str f), .slice none 0 0]) (by simp [results, Tryd.results66, go_sem, y0, y1, y2, y3, y4, y5]) rfl ?_
  exact ⟨rf v f, rfl, er_mk _ _ _ _ _ _ _ _, ⟨right_rf HVF.out.1.1 HVF.out.2.1, typ_rf v f, Nat.le_of_eq (by kernel_rfl)⟩, nw_rf _ _ _ _ HVF.out.1.2 HVF.out.2.2, HX.out.1, HX.out.2.1⟩
set_option maxHeartbeats 4000000 in
theorem num_B2_5 {bs : List Int} (hbyt : ∀ x ∈ bs, 0 ≤ x ∧ x ≤ 255) (i : Nat) (x : Int) (i1 : Nat) (hx : nx bs i = (x, i1))  (h8 : x % 8 = 5) (h2 : x % 2 = 1) : ∃ T0 i2, ∀ (w0 : World) (L V O : Option Addr) (n c : Nat) (hC : FdC w0 bs L V O n c) (p : Nat) (w : World), Fd w0 p L V O n c i w → Calls Tryd.prog 66 #[.pointer (some ⟨p, 0, none⟩), .string (str [99]), .string (str [67]), .int .i64 0] w fun e w' => Mk w0 p L V O n c 1 1 (T0) i2 w e w' := by
  obtain ⟨y, hy⟩ : ∃ y, nx bs i1 = y := ⟨_, rfl⟩
  obtain ⟨x2, i2⟩ := y
  obtain ⟨v, hv⟩ : ∃ v, refV x2 = v := ⟨_, rfl⟩
  obtain ⟨f, hf⟩ : ∃ v, refF x2 = v := ⟨_, rfl⟩
  refine ⟨rf v f, i2, ?_⟩
  intro w0 L V O n c hC p w h
  have hxb := nx_b hC.byt i
  have hpl := h.2.1.lt
  have hqp : w.heap.size ≠ p := by omega
  have h0s := h.1.size
  obtain ⟨W, hW⟩ : ∃ W, W = w.alloc (.cells zer 24) := ⟨_, rfl⟩
  have bl : Below w.heap.size w W := by rw [hW]; exact (Below.refl _ _).alloc (Nat.le_refl _) _
  have hz : Has W w.heap.size 24 zer := by rw [hW]; exact heap_alloc_new w _
  have hWs : W.heap.size = w.heap.size + 1 := by rw [hW]; simp
  have hn := next_any hC p i W (h.below bl)
  rw [hx] at hxb hn
  simp only at hxb hn
  have HN := Lib.hid hn
  have HW := Lib.hid hW
  have HZ := Lib.hid hz
  have HB := Lib.hid (FrP.below hpl bl)
  have HP := Lib.hid hpl
  have HQ := Lib.hid hqp
  have HS := Lib.hid h0s
  have HWS := Lib.hid hWs
  clear hn hW hz bl hpl hqp h0s h hWs
  have m8 := tmod_of hxb.1 8
  have m2 := tmod_of hxb.1 2
  rw [h8] at m8
  rw [h2] at m2
  have hvo := refV_ok x2
  have hfo := refF_ok x2
  rw [hv] at hvo
  rw [hf] at hfo
  have HVF := Lib.hid (And.intro hvo hfo)
  clear hvo hfo
  go_enter Tryd.func66, Tryd.ntmps66
  go_wp2_with fail
  rw [← HW.out]
  refine HN.out.mono ?_
  rintro e w1 ⟨rfl, fd1, fr1⟩
  have hz1 := fr1.has HZ.out HQ.out
  have HFD := Lib.hid fd1
  have HFR := Lib.hid (HB.out.trans fr1)
  have HZ1 := Lib.hid hz1
  have HS1 := Lib.hid (show w.heap.size + 1 ≤ w1.heap.size by rw [← HWS.out]; exact fr1.size)
  have hr := ref_any hC p i1 w1 fd1
  rw [hy] at hr
  simp only at hr
  rw [hv, hf] at hr
  have HR := Lib.hid hr
  clear hr fd1 fr1 hz1
  go_wp2_with fail
  refine HR.out.mono ?_
  rintro e w2 ⟨rfl, fd2, fr2⟩
  have hz2 := fr2.has HZ1.out HQ.out
  obtain ⟨⟨X1, X2, X3⟩, -⟩ := end_store HP.out HS.out hz2 fd2 (HFR.out.trans fr2) (.int .i64 1) (.string { data := #[] }) (.int .i64 0) (.string (str v)) (.string (str f)) (.slice none 0 0) (.cells #[] 0)
  have HX := Lib.hid (And.intro X1 (And.intro X2 X3))
  obtain ⟨z0, z1, z2, z3, z4, z5⟩ := zer_six hz2
  obtain ⟨f0, f1, f2, f3, f4, f5⟩ := six_free hz2
  clear X1 X2 X3 fd2 fr2 hz2 m8 m2
  go_wp2_with fail
  rw [set6_fold]
  clear z0 z1 z2 z3 z4 z5 f0 f1 f2 f3 f4 f5
  generalize set6 w2 w.heap.size (.int .i64 1) (.string { data := #[] }) (.int .i64 0) (.string (str v)) (.string (str f)) (.slice none 0 0) = X at HX ⊢
  have y0 : X.cell? ⟨w.heap.size, 0, none⟩ = some (.int .i64 1) := HX.out.2.2.cell 0
  have y1 : X.cell? ⟨w.heap.size, 1, none⟩ = some (.string { data := #[] }) := HX.out.2.2.cell 1
  have y2 : X.cell? ⟨w.heap.size, 2, none⟩ = some (.int .i64 0) := HX.out.2.2.cell 2
  have y3 : X.cell? ⟨w.heap.size, 3, none⟩ = some (.string (str v)) := HX.out.2.2.cell 3
  have y4 : X.cell? ⟨w.heap.size, 4, none⟩ = some (.string (str f)) := HX.out.2.2.cell 4
  have y5 : X.cell? ⟨w.heap.size, 5, none⟩ = some (.slice none 0 0) := HX.out.2.2.cell 5
  refine bodyPost_ret (v := .agg #[.int .i64 1, .string { data := #[] }, .int .i64 0, .string (str v), .string (str f), .slice none 0 0]) (by simp [results, Tryd.results66, go_sem, y0, y1, y2, y3, y4, y5]) rfl ?_
  exact ⟨rf v f, rfl, er_mk _ _ _ _ _ _ _ _, ⟨right_rf HVF.out.1.1 HVF.out.2.1, typ_rf v f, Nat.le_of_eq (by kernel_rfl)⟩, nw_rf _ _ _ _ HVF.out.1.2 HVF.out.2.2, HX.out.1, HX.out.2.1⟩
set_option maxHeartbeats 4000000 in
theorem num_B2_7 {bs : List Int} (hbyt : ∀ x ∈ bs, 0 ≤ x ∧ x ≤ 255) (i : Nat) (x : Int) (i1 : Nat) (hx : nx bs i = (x, i1))  (h8 : x % 8 = 7) (h2 : x % 2 = 1) : ∃ T0 i2, ∀ (w0 : World) (L V O : Option Addr) (n c : Nat) (hC : FdC w0 bs L V O n c) (p : Nat) (w : World), Fd w0 p L V O n c i w → Calls Tryd.prog 66 #[.pointer (some ⟨p, 0, none⟩), .string (str [99]), .string (str [67]), .int .i64 0] w fun e w' => Mk w0 p L V O n c 1 1 (T0) i2 w e w' := by
  obtain ⟨y, hy⟩ : ∃ y, nx bs i1 = y := ⟨_, rfl⟩
  obtain ⟨x2, i2⟩ := y
  obtain ⟨v, hv⟩ : ∃ v, refV x2 = v := ⟨_, rfl⟩
  obtain ⟨f, hf⟩ : ∃ v, refF x2 = v := ⟨_, rfl⟩
  refine ⟨rf v f, i2, ?_⟩
  intro w0 L V O n c hC p w h
  have hxb := nx_b hC.byt i
  have hpl := h.2.1.lt
  have hqp : w.heap.size ≠ p := by omega
  have h0s := h.1.size
  obtain ⟨W, hW⟩ : ∃ W, W = w.alloc (.cells zer 24) := ⟨_, rfl⟩
  have bl : Below w.heap.size w W := by rw [hW]; exact (Below.refl _ _).alloc (Nat.le_refl _) _
  have hz : Has W w.heap.size 24 zer := by rw [hW]; exact heap_alloc_new w _
  have hWs : W.heap.size = w.heap.size + 1 := by rw [hW]; simp
  have hn := next_any hC p i W (h.below bl)
  rw [hx] at hxb hn
  simp only at hxb hn
  have HN := Lib.hid hn
  have HW := Lib.hid hW
  have HZ := Lib.hid hz
  have HB := Lib.hid (FrP.below hpl bl)
  have HP := Lib.hid hpl
  have HQ := Lib.hid hqp
  have HS := Lib.hid h0s
  have HWS := Lib.hid hWs
  clear hn hW hz bl hpl hqp h0s h hWs
  have m8 := tmod_of hxb.1 8
  have m2 := tmod_of hxb.1 2
  rw [h8] at m8
  rw [h2] at m2
  have hvo := refV_ok x2
  have hfo := refF_ok x2
  rw [hv] at hvo
  rw [hf] at hfo
  have HVF := Lib.hid (And.intro hvo hfo)
  clear hvo hfo
  go_enter Tryd.func66, Tryd.ntmps66
  go_wp2_with fail
  rw [← HW.out]
  refine HN.out.mono ?_
  rintro e w1 ⟨rfl, fd1, fr1⟩
  have hz1 := fr1.has HZ.out HQ.out
  have HFD := Lib.hid fd1
  have HFR := Lib.hid (HB.out.trans fr1)
  have HZ1 := Lib.hid hz1
  have HS1 := Lib.hid (show w.heap.size + 1 ≤ w1.heap.size by rw [← HWS.out]; exact fr1.size)
  have hr := ref_any hC p i1 w1 fd1
  rw [hy] at hr
  simp only at hr
  rw [hv, hf] at hr
  have HR := Lib.hid hr
  clear hr fd1 fr1 hz1
  go_wp2_with fail
  refine HR.out.mono ?_
  rintro e w2 ⟨rfl, fd2, fr2⟩
  have hz2 := fr2.has HZ1.out HQ.out
  obtain ⟨⟨X1, X2, X3⟩, -⟩ := end_store HP.out HS.out hz2 fd2 (HFR.out.trans fr2) (.int .i64 1) (.string { data := #[] }) (.int .i64 0) (.string (str v)) (.string (str f)) (.slice none 0 0) (.cells #[] 0)
  have HX := Lib.hid (And.intro X1 (And.intro X2 X3))
  obtain ⟨z0, z1, z2, z3, z4, z5⟩ := zer_six hz2
  obtain ⟨f0, f1, f2, f3, f4, f5⟩ := six_free hz2
  clear X1 X2 X3 fd2 fr2 hz2 m8 m2
  go_wp2_with fail
  rw [set6_fold]
  clear z0 z1 z2 z3 z4 z5 f0 f1 f2 f3 f4 f5
  generalize set6 w2 w.heap.size (.int .i64 1) (.string { data := #[] }) (.int .i64 0) (.string (str v)) (.string (str f)) (.slice none 0 0) = X at HX ⊢
  have y0 : X.cell? ⟨w.heap.size, 0, none⟩ = some (.int .i64 1) := HX.out.2.2.cell 0
  have y1 : X.cell? ⟨w.heap.size, 1, none⟩ = some (.string { data := #[] }) := HX.out.2.2.cell 1
  have y2 : X.cell? ⟨w.heap.size, 2, none⟩ = some (.int .i64 0) := HX.out.2.2.cell 2
  have y3 : X.cell? ⟨w.heap.size, 3, none⟩ = some (.string (str v)) := HX.out.2.2.cell 3
  have y4 : X.cell? ⟨w.heap.size, 4, none⟩ = some (.string (str f)) := HX.out.2.2.cell 4
  have y5 : X.cell? ⟨w.heap.size, 5, none⟩ = some (.slice none 0 0) := HX.out.2.2.cell 5
  refine bodyPost_ret (v := .agg #[.int .i64 1, .string { data := #[] }, .int .i64 0, .string (str v), .string (str f), .slice none 0 0]) (by simp [results, Tryd.results66, go_sem, y0, y1, y2, y3, y4, y5]) rfl ?_
  exact ⟨rf v f, rfl, er_mk _ _ _ _ _ _ _ _, ⟨right_rf HVF.out.1.1 HVF.out.2.1, typ_rf v f, Nat.le_of_eq (by kernel_rfl)⟩, nw_rf _ _ _ _ HVF.out.1.2 HVF.out.2.2, HX.out.1, HX.out.2.1⟩
set_option maxHeartbeats 4000000 in
theorem num_C {bs : List Int} (hbyt : ∀ x ∈ bs, 0 ≤ x ∧ x ≤ 255) (i : Nat) (x : Int) (i1 : Nat) (hx : nx bs i = (x, i1))  (h6 : x % 8 = 6) (S : Nat) (ih : ∃ T0 i2, ∀ (w0 : World) (L V O : Option Addr) (n c : Nat) (hC : FdC w0 bs L V O n c) (p : Nat) (w : World), Fd w0 p L V O n c i1 w → Calls Tryd.prog 66 #[.pointer (some ⟨p, 0, none⟩), .string (str [99]), .string (str [67]), .int .i64 0] w fun e w' => Mk w0 p L V O n c S 1 (T0) i2 w e w') : ∃ T0 i2, ∀ (w0 : World) (L V O : Option Addr) (n c : Nat) (hC : FdC w0 bs L V O n c) (p : Nat) (w : World), Fd w0 p L V O n c i w → Calls Tryd.prog 66 #[.pointer (some ⟨p, 0, none⟩), .string (str [99]), .string (str [67]), .int .i64 1] w fun e w' => Mk w0 p L V O n c (S + 1) 1 (T0) i2 w e w' := by
  obtain ⟨T1, i2, hi⟩ := ih
  refine ⟨.mk 2 [45] 0 [] [] none 0 [T1], i2, ?_⟩
  have HI := Lib.hid hi
  clear hi
  intro w0 L V O n c hC p w h
  have hxb := nx_b hC.byt i
  have hpl := h.2.1.lt
  have hqp : w.heap.size ≠ p := by omega
  have h0s := h.1.size
  obtain ⟨W, hW⟩ : ∃ W, W = w.alloc (.cells zer 24) := ⟨_, rfl⟩
  have bl : Below w.heap.size w W := by rw [hW]; exact (Below.refl _ _).alloc (Nat.le_refl _) _
  have hz : Has W w.heap.size 24 zer := by rw [hW]; exact heap_alloc_new w _
  have hWs : W.heap.size = w.heap.size + 1 := by rw [hW]; simp
  have hn := next_any hC p i W (h.below bl)
  rw [hx] at hxb hn
  simp only at hxb hn
  have HN := Lib.hid hn
  have HW := Lib.hid hW
  have HZ := Lib.hid hz
  have HB := Lib.hid (FrP.below hpl bl)
  have HP := Lib.hid hpl
  have HQ := Lib.hid hqp
  have HS := Lib.hid h0s
  have HWS := Lib.hid hWs
  clear hn hW hz bl hpl hqp h0s h hWs
  have m8 := tmod_of hxb.1 8
  have m2 := tmod_of hxb.1 2
  have e3 : decide (x % 8 < 3) = false := by simp; omega
  have e6 : decide (x % 8 < 6) = false := by simp; omega
  rw [h6] at m8 e3 e6
  go_enter Tryd.func66, Tryd.ntmps66
  go_wp2_with fail
  rw [← HW.out]
  refine HN.out.mono ?_
  rintro e w1 ⟨rfl, fd1, fr1⟩
  have hz1 := fr1.has HZ.out HQ.out
  have HFD := Lib.hid fd1
  have HFR := Lib.hid (HB.out.trans fr1)
  have HZ1 := Lib.hid hz1
  have HS1 := Lib.hid (show w.heap.size + 1 ≤ w1.heap.size by rw [← HWS.out]; exact fr1.size)
  clear fd1 fr1 hz1
  go_wp2_with fail
  refine (HI.out w0 L V O n c hC p _ HFD.out).mono ?_
  rintro e w2 ⟨t1, rfl, er1, g1, n1, fd2, fr2⟩
  simp only [cs1]
  have hz2 := fr2.has HZ1.out HQ.out
  obtain ⟨-, X1, X2, X3⟩ := end_store HP.out HS.out hz2 fd2 (HFR.out.trans fr2) (.int .i64 2) (.string { data := #[45] }) (.int .i64 0) (.string { data := #[] }) (.string { data := #[] }) (.slice (some ⟨w2.heap.size, 0, none⟩) 1 1) (.cells (cs1 t1) 24)
  have hs1 := set6_size (w := w2) (q := w.heap.size) (.int .i64 2) (.string { data := #[45] }) (.int .i64 0) (.string { data := #[] }) (.string { data := #[] }) (.slice (some ⟨w2.heap.size, 0, none⟩) 1 1)
  have X4 : Has ((set6 w2 w.heap.size (.int .i64 2) (.string { data := #[45] }) (.int .i64 0) (.string { data := #[] }) (.string { data := #[] }) (.slice (some ⟨w2.heap.size, 0, none⟩) 1 1)).alloc (.cells (cs1 t1) 24)) w2.heap.size 24 (cs1 t1) := has_at rfl hs1.symm
  have X5 : Nw w.heap.size ((set6 w2 w.heap.size (.int .i64 2) (.string { data := #[45] }) (.int .i64 0) (.string { data := #[] }) (.string { data := #[] }) (.slice (some ⟨w2.heap.size, 0, none⟩) 1 1)).alloc (.cells (cs1 t1) 24)) t1 := (n1.set (N' := w.heap.size) (by have := HS1.out; omega) (by have := HS1.out; omega) (.int .i64 2) (.string { data := #[45] }) (.int .i64 0) (.string { data := #[] }) (.string { data := #[] }) (.slice (some ⟨w2.heap.size, 0, none⟩) 1 1)).below (Nat.le_refl _) (step1 _ _)
  have X6 := nw1 (N := w.heap.size) 2 [45] X4 (by have := fr2.size; have := HS1.out; omega) X5 (by simp)
  have HX := Lib.hid (And.intro X1 (And.intro X2 (And.intro X3 X6)))
  have HG := Lib.hid (And.intro er1 g1)
  obtain ⟨z0, z1, z2, z3, z4, z5⟩ := zer_six hz2
  obtain ⟨f0, f1, f2, f3, f4, f5⟩ := six_free hz2
  have hq2 := hz2.lt
  clear X1 X2 X3 X4 X5 X6 fd2 fr2 hz2 m8 m2 hs1 n1 er1 g1
  go_wp2_with fail
  rw [set6_fold]
  clear z0 z1 z2 z3 z4 z5 f0 f1 f2 f3 f4 f5
  generalize (set6 w2 w.heap.size (.int .i64 2) (.string { data := #[45] }) (.int .i64 0) (.string { data := #[] }) (.string { data := #[] }) (.slice (some ⟨w2.heap.size, 0, none⟩) 1 1)).alloc (.cells (cs1 t1) 24) = X at HX ⊢
  have y0 : X.cell? ⟨w.heap.size, 0, none⟩ = some (.int .i64 2) := HX.out.2.2.1.cell 0
  have y1 : X.cell? ⟨w.heap.size, 1, none⟩ = some (.string { data := #[45] }) := HX.out.2.2.1.cell 1
  have y2 : X.cell? ⟨w.heap.size, 2, none⟩ = some (.int .i64 0) := HX.out.2.2.1.cell 2
  have y3 : X.cell? ⟨w.heap.size, 3, none⟩ = some (.string { data := #[] }) := HX.out.2.2.1.cell 3
  have y4 : X.cell? ⟨w.heap.size, 4, none⟩ = some (.string { data := #[] }) := HX.out.2.2.1.cell 4
  have y5 : X.cell? ⟨w.heap.size, 5, none⟩ = some (.slice (some ⟨w2.heap.size, 0, none⟩) 1 1) := HX.out.2.2.1.cell 5
  refine bodyPost_ret (v := .agg #[.int .i64 2, .string { data := #[45] }, .int .i64 0, .string { data := #[] }, .string { data := #[] }, .slice (some ⟨w2.heap.size, 0, none⟩) 1 1]) (by simp [results, Tryd.results66, go_sem, y0, y1, y2, y3, y4, y5]) rfl ?_
  exact ⟨.mk 2 [45] 0 [] [] (some ⟨w2.heap.size, 0, none⟩) 1 [t1], rfl, by rw [er_mk, erL_cons, erL_nil, HG.out.1], ⟨right1 (by kernel_rfl) HG.out.2.1, typ1 (by kernel_rfl) HG.out.2.2.1, by rw [size1]; have := HG.out.2.2.2; omega⟩, HX.out.2.2.2, HX.out.1, HX.out.2.1⟩
/- The end of a way with two Kids. -/
def Pq (w0 : World) (p : Nat) (L V O : Option Addr) (n c i3 : Nat) (w : World) (o : Nm) (t1 t2 : ET) (A : Addr) (X : World) : Prop :=
  Fd w0 p L V O n c i3 X ∧ FrP p w X ∧ Has X w.heap.size 24 #[.int .i64 3, .string (str o), .int .i64 0, .string { data := #[] }, .string { data := #[] }, .slice (some A) 2 2] ∧ Nw w.heap.size X t1 ∧ Nw w.heap.size X t2
theorem Pq.alloc {w0 : World} {p : Nat} {L V O : Option Addr} {n c i3 : Nat} {w : World} {o : Nm} {t1 t2 : ET} {A : Addr} {X : World} (h : Pq w0 p L V O n c i3 w o t1 t2 A X) (ob : Obj) : Pq w0 p L V O n c i3 w o t1 t2 A (X.alloc ob) := by
  obtain ⟨h1, h2, h3, h4, h5⟩ := h
  exact ⟨h1.below (step1 _ _), h2.trans (FrP.below h1.2.1.lt (step1 _ _)), h3.below (step1 _ _) h3.lt, h4.below (Nat.le_refl _) (step1 _ _), h5.below (Nat.le_refl _) (step1 _ _)⟩
theorem pq_of {w0 : World} {p : Nat} {L V O : Option Addr} {n c i3 M M1 : Nat} {w w3 : World} {o : Nm} {t1 t2 : ET} (hp : p < w.heap.size) (h0 : w0.heap.size ≤ w.heap.size) (hz : Has w3 w.heap.size 24 zer) (hf : Fd w0 p L V O n c i3 w3) (hr : FrP p w w3)
    (hM : w.heap.size < M) (hM1 : w.heap.size < M1) (n2 : Nw M w3 t2) (m2 : Nw M1 w3 t1) (A : Addr) :
    Pq w0 p L V O n c i3 w o t1 t2 A (set6 w3 w.heap.size (.int .i64 3) (.string (str o)) (.int .i64 0) (.string { data := #[] }) (.string { data := #[] }) (.slice (some A) 2 2)) := by
  obtain ⟨⟨X1, X2, X3⟩, -⟩ := end_store hp h0 hz hf hr (.int .i64 3) (.string (str o)) (.int .i64 0) (.string { data := #[] }) (.string { data := #[] }) (.slice (some A) 2 2) (.cells #[] 0)
  exact ⟨X1, X2, X3, m2.set (by omega) hM1 _ _ _ _ _ _, n2.set (by omega) hM _ _ _ _ _ _⟩
theorem bi_mk {w0 : World} {p : Nat} {L V O : Option Addr} {n c i3 S b : Nat} {w X : World} {o : Nm} {t1 t2 T1 T2 : ET} {a r : Int} {ty : TypeId} (ho1 : oneB 3 o 0 [] [] 2 = true) (ho2 : opT o = (a, r)) (ho3 : o.length ≤ 10)
    (g1 : t1.er = T1 ∧ rightT t1 = true ∧ typT t1 = a ∧ t1.size ≤ S) (g2 : t2.er = T2 ∧ rightT t2 = true ∧ typT t2 = a ∧ t2.size ≤ S) (h : Pq w0 p L V O n c i3 w o t1 t2 ⟨b, 0, none⟩ X) (hb : Has X b ty (cs2 t1 t2)) (hbw : w.heap.size ≤ b) :
    Mk w0 p L V O n c (2 * S + 1) r (.mk 3 o 0 [] [] none 0 [T1, T2]) i3 w (.returned (.agg #[.int .i64 3, .string (str o), .int .i64 0, .string { data := #[] }, .string { data := #[] }, .slice (some ⟨b, 0, none⟩) 2 2])) X := by
  obtain ⟨h1, h2, h3, h4, h5⟩ := h
  exact ⟨.mk 3 o 0 [] [] (some ⟨b, 0, none⟩) 2 [t1, t2], rfl, by rw [er_mk, erL_cons, erL_cons, erL_nil, g1.1, g2.1], ⟨right2 ho1 g1.2.1 g2.2.1, typ2 ho2 g1.2.2.1 g2.2.2.1, by rw [size2]; have := g1.2.2.2; have := g2.2.2.2; omega⟩, nw2 3 o hb hbw h4 h5 ho3, h1, h2⟩
end Go.Proofs.YtbhjimlikffalaaDoor
