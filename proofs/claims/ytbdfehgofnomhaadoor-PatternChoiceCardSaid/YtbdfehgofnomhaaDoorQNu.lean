/- Layer 9: numbers that bytes make. -/
import Derived.Test.YtbdfehgofnomhaaDoorQPaRef
namespace Go.Proofs.YtbdfehgofnomhaaDoor
open Go.RowKit
set_option linter.unusedVariables false

theorem cell_ints (w : World) (l : List Int) (t : TypeId) (j : Nat) (E : Int) (h : l[j]? = some E) :
    (w.alloc (.cells ((l.map (Value.int .i64)).toArray) t)).cell? ⟨w.heap.size, j, none⟩ = some (.int .i64 E) := by
  rw [cell_of_row _ w.heap.size j _ t (0, 0) (heap_alloc_new w _), List.getElem?_toArray, List.getElem?_map, h]
  rfl
theorem cell_strs (w : World) (l : List Nm) (t : TypeId) (j : Nat) (E : Nm) (h : l[j]? = some E) :
    (w.alloc (.cells ((l.map fun s => Value.string (str s)).toArray) t)).cell? ⟨w.heap.size, j, none⟩ = some (.string (str E)) := by
  rw [cell_of_row _ w.heap.size j _ t (0, 0) (heap_alloc_new w _), List.getElem?_toArray, List.getElem?_map, h]
  rfl
theorem nums_at : ∀ j, j < 6 → ∃ N : Int, ([0, 1, 2, 3, 5, 9223372036854775807] : List Int)[j]? = some N ∧ 0 ≤ N ∧ N ≤ 9223372036854775807
  | 0, _ => ⟨_, rfl, by decide, by decide⟩
  | 1, _ => ⟨_, rfl, by decide, by decide⟩
  | 2, _ => ⟨_, rfl, by decide, by decide⟩
  | 3, _ => ⟨_, rfl, by decide, by decide⟩
  | 4, _ => ⟨_, rfl, by decide, by decide⟩
  | 5, _ => ⟨_, rfl, by decide, by decide⟩
  | n + 6, h => absurd h (by omega)
theorem right_nm {N : Int} (h : 0 ≤ N) : rightT (nm N) = true := right_of (by unfold oneB bareB; simp [h]) fun t ht => by cases ht
theorem right_rf {v f : Nm} (hv : nameB v = true) (hf : nameB f = true) : rightT (rf v f) = true := right_of (by unfold oneB bareB; simp [hv, hf]) fun t ht => by cases ht
theorem name_len {v : Nm} (h : nameB v = true) : v.length ≤ 1000000 := by
  unfold nameB at h
  simp only [Bool.and_eq_true, decide_eq_true_eq] at h
  omega
/-- What a call that reads bytes makes: a right tree in new memory, with nothing but the reader turned. -/
def MkP (w0 : World) (p : Nat) (K : PK) (S : Nat) (w : World) (e : Ending) (w' : World) : Prop :=
  ∃ t : ET, e = .returned (.agg (cs1 t)) ∧ (rightT t = true ∧ t.size ≤ S) ∧ Nw w.heap.size w' t ∧ Pd w0 p K w' ∧ FrP p w w'
/-- The end of such a call: the value is laid in its cell. -/
theorem end_storeP {w0 : World} {p : Nat} {K : PK} {w wk : World} (hp : p < w.heap.size) (h0 : w0.heap.size ≤ w.heap.size) (hz : Has wk w.heap.size 47 zer) (hf : Pd w0 p K wk) (hr : FrP p w wk) (u0 u1 u2 u3 u4 u5 : Value) (o : Obj) :
    (Pd w0 p K (set6 wk w.heap.size u0 u1 u2 u3 u4 u5) ∧ FrP p w (set6 wk w.heap.size u0 u1 u2 u3 u4 u5) ∧ Has (set6 wk w.heap.size u0 u1 u2 u3 u4 u5) w.heap.size 47 #[u0, u1, u2, u3, u4, u5])
    ∧ (Pd w0 p K ((set6 wk w.heap.size u0 u1 u2 u3 u4 u5).alloc o) ∧ FrP p w ((set6 wk w.heap.size u0 u1 u2 u3 u4 u5).alloc o) ∧ Has ((set6 wk w.heap.size u0 u1 u2 u3 u4 u5).alloc o) w.heap.size 47 #[u0, u1, u2, u3, u4, u5]) := by
  have s1 := set6_below (w := wk) (q := w.heap.size) (Nat.le_refl _) u0 u1 u2 u3 u4 u5
  have hh := set6_has hz u0 u1 u2 u3 u4 u5
  have f1 := hf.belowB s1 hp h0
  have r1 := hr.belowB hp s1
  exact ⟨⟨f1, r1, hh⟩, f1.below (step1 _ _), r1.trans (FrP.below f1.lt (step1 _ _)), hh.below (step1 _ _) hh.lt⟩
set_option maxHeartbeats 8000000 in
theorem num0_p {w0 : World} {K : PK} {bs : List Int} {vs os : List Nm} (hC : PdC w0 K bs vs os) (own kind : Nm) (hown : nameB own = true) (p : Nat) (w : World) (h : Pd w0 p K w) :
    Calls Tryd.prog 80 #[.pointer (some ⟨p, 0, none⟩), .string (str own), .string (str kind), .int .i64 0] w fun e w' => MkP w0 p K 1 w e w' := by
  have hpl := h.lt
  have hqp : w.heap.size ≠ p := by omega
  have h0s := h.size
  obtain ⟨W, hW⟩ : ∃ W, W = w.alloc (.cells zer 47) := ⟨_, rfl⟩
  have bl : Below w.heap.size w W := by rw [hW]; exact (Below.refl _ _).alloc (Nat.le_refl _) _
  have hz : Has W w.heap.size 47 zer := by rw [hW]; exact heap_alloc_new w _
  have hWs : W.heap.size = w.heap.size + 1 := by rw [hW]; simp
  have HN := Lib.hid (next_p hC p W (h.below bl))
  have HW := Lib.hid hW
  have HZ := Lib.hid hz
  have HB := Lib.hid (FrP.below hpl bl)
  have HP := Lib.hid hpl
  have HQ := Lib.hid hqp
  have HS := Lib.hid h0s
  have HWS := Lib.hid hWs
  have HR0 := Lib.hid (ref_p hC own kind hown p)
  clear hW hz bl hpl hqp h0s h hWs hown
  go_enter Tryd.func80, Tryd.ntmps80
  go_wp2_with fail
  rw [← HW.out]
  refine HN.out.mono ?_
  rintro e w1 ⟨x, rfl, hxb, fd1, fr1⟩
  have hz1 := fr1.has HZ.out HQ.out
  have HFD := Lib.hid fd1
  have HFR := Lib.hid (HB.out.trans fr1)
  have HZ1 := Lib.hid hz1
  have HS1 := Lib.hid (show w.heap.size + 1 ≤ w1.heap.size by rw [← HWS.out]; exact fr1.size)
  have m8 := tmod_of hxb.1 8
  have m2 := tmod_of hxb.1 2
  have d8 := tdiv_of hxb.1 8
  have hk : x % 8 < 3 ∨ (¬ x % 8 < 3 ∧ x % 2 = 0) ∨ (x % 8 = 3 ∧ x % 2 = 1) ∨ (x % 8 = 5 ∧ x % 2 = 1) ∨ (x % 8 = 7 ∧ x % 2 = 1) := by omega
  rcases hk with h3 | ⟨h3, h2⟩ | ⟨h8, h2⟩ | ⟨h8, h2⟩ | ⟨h8, h2⟩
  · obtain ⟨j, hj⟩ : ∃ j : Nat, x / 8 % 6 = (j : Int) := ⟨(x / 8 % 6).toNat, by omega⟩
    obtain ⟨N, hN, hN0, hN1⟩ := nums_at j (by omega)
    have m6 : (x / 8).tmod 6 = (j : Int) := by rw [tmod_of (by omega)]; exact hj
    have hj6 : j < 6 := by omega
    have hc0 := cell_ints w1 [0, 1, 2, 3, 5, 9223372036854775807] 2 j N hN
    have bA := step1 w1 (.cells (([0, 1, 2, 3, 5, 9223372036854775807].map (Value.int .i64)).toArray) 2)
    obtain ⟨W2, hW2⟩ : ∃ W2, w1.alloc (.cells (([0, 1, 2, 3, 5, 9223372036854775807].map (Value.int .i64)).toArray) 2) = W2 := ⟨_, rfl⟩
    rw [hW2] at hc0 bA
    have hW3 : w1.alloc (.cells #[.int .i64 0, .int .i64 1, .int .i64 2, .int .i64 3, .int .i64 5, .int .i64 9223372036854775807] 2) = W2 := hW2
    have hz2 := hz1.below bA hz1.lt
    obtain ⟨⟨X1, X2, X3⟩, -⟩ := end_storeP HP.out HS.out hz2 (HFD.out.below bA) (HFR.out.trans (FrP.below HFD.out.lt bA)) (.int .i64 0) (.string { data := #[] }) (.int .i64 N) (.string { data := #[] }) (.string { data := #[] }) (.slice none 0 0) (.cells #[] 0)
    have HX := Lib.hid (And.intro X1 (And.intro X2 X3))
    obtain ⟨z0, z1, z2, z3, z4, z5⟩ := zer_six hz2
    obtain ⟨f0, f1, f2, f3, f4, f5⟩ := six_free hz2
    have HNN := Lib.hid (And.intro hN0 hN1)
    clear X1 X2 X3 fd1 fr1 hz1 hz2 bA hW2 hN hN0 hN1 hj
    go_wp2_with fail
    rw [set6_fold]
    clear z0 z1 z2 z3 z4 z5 f0 f1 f2 f3 f4 f5 m8 m2 d8 m6 hc0 hW3
    generalize set6 W2 w.heap.size (.int .i64 0) (.string { data := #[] }) (.int .i64 N) (.string { data := #[] }) (.string { data := #[] }) (.slice none 0 0) = X at HX ⊢
    have y0 : X.cell? ⟨w.heap.size, 0, none⟩ = some (.int .i64 0) := HX.out.2.2.cell 0
    have y1 : X.cell? ⟨w.heap.size, 1, none⟩ = some (.string { data := #[] }) := HX.out.2.2.cell 1
    have y2 : X.cell? ⟨w.heap.size, 2, none⟩ = some (.int .i64 N) := HX.out.2.2.cell 2
    have y3 : X.cell? ⟨w.heap.size, 3, none⟩ = some (.string { data := #[] }) := HX.out.2.2.cell 3
    have y4 : X.cell? ⟨w.heap.size, 4, none⟩ = some (.string { data := #[] }) := HX.out.2.2.cell 4
    have y5 : X.cell? ⟨w.heap.size, 5, none⟩ = some (.slice none 0 0) := HX.out.2.2.cell 5
    refine bodyPost_ret (v := .agg #[.int .i64 0, .string { data := #[] }, .int .i64 N, .string { data := #[] }, .string { data := #[] }, .slice none 0 0]) (by simp [results, Tryd.results80, go_sem, y0, y1, y2, y3, y4, y5]) rfl ?_
    exact ⟨nm N, rfl, ⟨right_nm HNN.out.1, Nat.le_trans (Nat.le_of_eq (by kernel_rfl : (nm N).size = 1)) (by omega)⟩, nw_nm _ _ _ (by have := HNN.out; omega) HNN.out.2, HX.out.1, HX.out.2.1⟩
  · obtain ⟨j, hj⟩ : ∃ j : Nat, x / 8 % 6 = (j : Int) := ⟨(x / 8 % 6).toNat, by omega⟩
    obtain ⟨N, hN, hN0, hN1⟩ := nums_at j (by omega)
    have m6 : (x / 8).tmod 6 = (j : Int) := by rw [tmod_of (by omega)]; exact hj
    have hj6 : j < 6 := by omega
    have hc0 := cell_ints w1 [0, 1, 2, 3, 5, 9223372036854775807] 2 j N hN
    have bA := step1 w1 (.cells (([0, 1, 2, 3, 5, 9223372036854775807].map (Value.int .i64)).toArray) 2)
    obtain ⟨W2, hW2⟩ : ∃ W2, w1.alloc (.cells (([0, 1, 2, 3, 5, 9223372036854775807].map (Value.int .i64)).toArray) 2) = W2 := ⟨_, rfl⟩
    rw [hW2] at hc0 bA
    have hW3 : w1.alloc (.cells #[.int .i64 0, .int .i64 1, .int .i64 2, .int .i64 3, .int .i64 5, .int .i64 9223372036854775807] 2) = W2 := hW2
    have hz2 := hz1.below bA hz1.lt
    obtain ⟨⟨X1, X2, X3⟩, -⟩ := end_storeP HP.out HS.out hz2 (HFD.out.below bA) (HFR.out.trans (FrP.below HFD.out.lt bA)) (.int .i64 0) (.string { data := #[] }) (.int .i64 N) (.string { data := #[] }) (.string { data := #[] }) (.slice none 0 0) (.cells #[] 0)
    have HX := Lib.hid (And.intro X1 (And.intro X2 X3))
    obtain ⟨z0, z1, z2, z3, z4, z5⟩ := zer_six hz2
    obtain ⟨f0, f1, f2, f3, f4, f5⟩ := six_free hz2
    have HNN := Lib.hid (And.intro hN0 hN1)
    clear X1 X2 X3 fd1 fr1 hz1 hz2 bA hW2 hN hN0 hN1 hj
    go_wp2_with fail
    rw [set6_fold]
    clear z0 z1 z2 z3 z4 z5 f0 f1 f2 f3 f4 f5 m8 m2 d8 m6 hc0 hW3
    generalize set6 W2 w.heap.size (.int .i64 0) (.string { data := #[] }) (.int .i64 N) (.string { data := #[] }) (.string { data := #[] }) (.slice none 0 0) = X at HX ⊢
    have y0 : X.cell? ⟨w.heap.size, 0, none⟩ = some (.int .i64 0) := HX.out.2.2.cell 0
    have y1 : X.cell? ⟨w.heap.size, 1, none⟩ = some (.string { data := #[] }) := HX.out.2.2.cell 1
    have y2 : X.cell? ⟨w.heap.size, 2, none⟩ = some (.int .i64 N) := HX.out.2.2.cell 2
    have y3 : X.cell? ⟨w.heap.size, 3, none⟩ = some (.string { data := #[] }) := HX.out.2.2.cell 3
    have y4 : X.cell? ⟨w.heap.size, 4, none⟩ = some (.string { data := #[] }) := HX.out.2.2.cell 4
    have y5 : X.cell? ⟨w.heap.size, 5, none⟩ = some (.slice none 0 0) := HX.out.2.2.cell 5
    refine bodyPost_ret (v := .agg #[.int .i64 0, .string { data := #[] }, .int .i64 N, .string { data := #[] }, .string { data := #[] }, .slice none 0 0]) (by simp [results, Tryd.results80, go_sem, y0, y1, y2, y3, y4, y5]) rfl ?_
    exact ⟨nm N, rfl, ⟨right_nm HNN.out.1, Nat.le_trans (Nat.le_of_eq (by kernel_rfl : (nm N).size = 1)) (by omega)⟩, nw_nm _ _ _ (by have := HNN.out; omega) HNN.out.2, HX.out.1, HX.out.2.1⟩
  · rw [h8] at m8
    rw [h2] at m2
    clear fd1 fr1 hz1
    go_wp2_with fail
    refine (HR0.out w1 HFD.out).mono ?_
    rintro e w2 ⟨v, f, rfl, hvf, fd2, fr2⟩
    have hz2 := fr2.has HZ1.out HQ.out
    obtain ⟨⟨X1, X2, X3⟩, -⟩ := end_storeP HP.out HS.out hz2 fd2 (HFR.out.trans fr2) (.int .i64 1) (.string { data := #[] }) (.int .i64 0) (.string (str v)) (.string (str f)) (.slice none 0 0) (.cells #[] 0)
    have HX := Lib.hid (And.intro X1 (And.intro X2 X3))
    have HVF := Lib.hid hvf
    obtain ⟨z0, z1, z2, z3, z4, z5⟩ := zer_six hz2
    obtain ⟨f0, f1, f2, f3, f4, f5⟩ := six_free hz2
    clear X1 X2 X3 fd2 fr2 hz2 m8 m2 hvf
    go_wp2_with fail
    rw [set6_fold]
    clear z0 z1 z2 z3 z4 z5 f0 f1 f2 f3 f4 f5
    generalize set6 w2 w.heap.size (.int .i64 1) (.string { data := #[] }) (.int .i64 0) (.string (str v)) (.string (str f)) (.slice none 0 0) = X at HX ⊢
    have y0 : X.cell? ⟨w.heap.size, 0, none⟩ = some (.int .i64 1) := HX.out.2.2.cell 0
    have y1 : X.cell? ⟨w.heap.size, 1, none⟩ = some (.string { data := #[] }) := HX.out.2.2.cell 1
    have y2 : X.cell? ⟨w.heap.size, 2, none⟩ = some (.int .i64 0) := HX.out.2.2.cell 2
    have y3 : X.cell? ⟨w.heap.size, 3, none⟩ = some (.string (str v)) := HX.out.2.2.cell 3
    have y4 : X.cell? ⟨w.heap.size, 4, none⟩ = some (.string (str f)) := HX.out.2.2.cell 4
    have y5 : X.cell? ⟨w.heap.size, 5, none⟩ = some (.slice none 0 0) := HX.out.2.2.cell 5
    refine bodyPost_ret (v := .agg #[.int .i64 1, .string { data := #[] }, .int .i64 0, .string (str v), .string (str f), .slice none 0 0]) (by simp [results, Tryd.results80, go_sem, y0, y1, y2, y3, y4, y5]) rfl ?_
    exact ⟨rf v f, rfl, ⟨right_rf HVF.out.1 HVF.out.2, Nat.le_trans (Nat.le_of_eq (by kernel_rfl : (rf v f).size = 1)) (by omega)⟩, nw_rf _ _ _ _ (name_len HVF.out.1) (name_len HVF.out.2), HX.out.1, HX.out.2.1⟩
  · rw [h8] at m8
    rw [h2] at m2
    clear fd1 fr1 hz1
    go_wp2_with fail
    refine (HR0.out w1 HFD.out).mono ?_
    rintro e w2 ⟨v, f, rfl, hvf, fd2, fr2⟩
    have hz2 := fr2.has HZ1.out HQ.out
    obtain ⟨⟨X1, X2, X3⟩, -⟩ := end_storeP HP.out HS.out hz2 fd2 (HFR.out.trans fr2) (.int .i64 1) (.string { data := #[] }) (.int .i64 0) (.string (str v)) (.string (str f)) (.slice none 0 0) (.cells #[] 0)
    have HX := Lib.hid (And.intro X1 (And.intro X2 X3))
    have HVF := Lib.hid hvf
    obtain ⟨z0, z1, z2, z3, z4, z5⟩ := zer_six hz2
    obtain ⟨f0, f1, f2, f3, f4, f5⟩ := six_free hz2
    clear X1 X2 X3 fd2 fr2 hz2 m8 m2 hvf
    go_wp2_with fail
    rw [set6_fold]
    clear z0 z1 z2 z3 z4 z5 f0 f1 f2 f3 f4 f5
    generalize set6 w2 w.heap.size (.int .i64 1) (.string { data := #[] }) (.int .i64 0) (.string (str v)) (.string (str f)) (.slice none 0 0) = X at HX ⊢
    have y0 : X.cell? ⟨w.heap.size, 0, none⟩ = some (.int .i64 1) := HX.out.2.2.cell 0
    have y1 : X.cell? ⟨w.heap.size, 1, none⟩ = some (.string { data := #[] }) := HX.out.2.2.cell 1
    have y2 : X.cell? ⟨w.heap.size, 2, none⟩ = some (.int .i64 0) := HX.out.2.2.cell 2
    have y3 : X.cell? ⟨w.heap.size, 3, none⟩ = some (.string (str v)) := HX.out.2.2.cell 3
    have y4 : X.cell? ⟨w.heap.size, 4, none⟩ = some (.string (str f)) := HX.out.2.2.cell 4
    have y5 : X.cell? ⟨w.heap.size, 5, none⟩ = some (.slice none 0 0) := HX.out.2.2.cell 5
    refine bodyPost_ret (v := .agg #[.int .i64 1, .string { data := #[] }, .int .i64 0, .string (str v), .string (str f), .slice none 0 0]) (by simp [results, Tryd.results80, go_sem, y0, y1, y2, y3, y4, y5]) rfl ?_
    exact ⟨rf v f, rfl, ⟨right_rf HVF.out.1 HVF.out.2, Nat.le_trans (Nat.le_of_eq (by kernel_rfl : (rf v f).size = 1)) (by omega)⟩, nw_rf _ _ _ _ (name_len HVF.out.1) (name_len HVF.out.2), HX.out.1, HX.out.2.1⟩
  · rw [h8] at m8
    rw [h2] at m2
    clear fd1 fr1 hz1
    go_wp2_with fail
    refine (HR0.out w1 HFD.out).mono ?_
    rintro e w2 ⟨v, f, rfl, hvf, fd2, fr2⟩
    have hz2 := fr2.has HZ1.out HQ.out
    obtain ⟨⟨X1, X2, X3⟩, -⟩ := end_storeP HP.out HS.out hz2 fd2 (HFR.out.trans fr2) (.int .i64 1) (.string { data := #[] }) (.int .i64 0) (.string (str v)) (.string (str f)) (.slice none 0 0) (.cells #[] 0)
    have HX := Lib.hid (And.intro X1 (And.intro X2 X3))
    have HVF := Lib.hid hvf
    obtain ⟨z0, z1, z2, z3, z4, z5⟩ := zer_six hz2
    obtain ⟨f0, f1, f2, f3, f4, f5⟩ := six_free hz2
    clear X1 X2 X3 fd2 fr2 hz2 m8 m2 hvf
    go_wp2_with fail
    rw [set6_fold]
    clear z0 z1 z2 z3 z4 z5 f0 f1 f2 f3 f4 f5
    generalize set6 w2 w.heap.size (.int .i64 1) (.string { data := #[] }) (.int .i64 0) (.string (str v)) (.string (str f)) (.slice none 0 0) = X at HX ⊢
    have y0 : X.cell? ⟨w.heap.size, 0, none⟩ = some (.int .i64 1) := HX.out.2.2.cell 0
    have y1 : X.cell? ⟨w.heap.size, 1, none⟩ = some (.string { data := #[] }) := HX.out.2.2.cell 1
    have y2 : X.cell? ⟨w.heap.size, 2, none⟩ = some (.int .i64 0) := HX.out.2.2.cell 2
    have y3 : X.cell? ⟨w.heap.size, 3, none⟩ = some (.string (str v)) := HX.out.2.2.cell 3
    have y4 : X.cell? ⟨w.heap.size, 4, none⟩ = some (.string (str f)) := HX.out.2.2.cell 4
    have y5 : X.cell? ⟨w.heap.size, 5, none⟩ = some (.slice none 0 0) := HX.out.2.2.cell 5
    refine bodyPost_ret (v := .agg #[.int .i64 1, .string { data := #[] }, .int .i64 0, .string (str v), .string (str f), .slice none 0 0]) (by simp [results, Tryd.results80, go_sem, y0, y1, y2, y3, y4, y5]) rfl ?_
    exact ⟨rf v f, rfl, ⟨right_rf HVF.out.1 HVF.out.2, Nat.le_trans (Nat.le_of_eq (by kernel_rfl : (rf v f).size = 1)) (by omega)⟩, nw_rf _ _ _ _ (name_len HVF.out.1) (name_len HVF.out.2), HX.out.1, HX.out.2.1⟩
end Go.Proofs.YtbdfehgofnomhaaDoor
/- Layer 9: the end of a way with two Kids. -/
namespace Go.Proofs.YtbdfehgofnomhaaDoor
open Go.RowKit
set_option linter.unusedVariables false

/-- The end of a way with two Kids. -/
def PqP (w0 : World) (p : Nat) (K : PK) (w : World) (o : Nm) (t1 t2 : ET) (A : Addr) (X : World) : Prop :=
  Pd w0 p K X ∧ FrP p w X ∧ Has X w.heap.size 47 #[.int .i64 3, .string (str o), .int .i64 0, .string { data := #[] }, .string { data := #[] }, .slice (some A) 2 2] ∧ Nw w.heap.size X t1 ∧ Nw w.heap.size X t2
theorem PqP.alloc {w0 : World} {p : Nat} {K : PK} {w : World} {o : Nm} {t1 t2 : ET} {A : Addr} {X : World} (h : PqP w0 p K w o t1 t2 A X) (ob : Obj) : PqP w0 p K w o t1 t2 A (X.alloc ob) := by
  obtain ⟨h1, h2, h3, h4, h5⟩ := h
  exact ⟨h1.below (step1 _ _), h2.trans (FrP.below h1.lt (step1 _ _)), h3.below (step1 _ _) h3.lt, h4.below (Nat.le_refl _) (step1 _ _), h5.below (Nat.le_refl _) (step1 _ _)⟩
theorem pq_ofP {w0 : World} {p : Nat} {K : PK} {M M1 : Nat} {w w3 : World} {o : Nm} {t1 t2 : ET} (hp : p < w.heap.size) (h0 : w0.heap.size ≤ w.heap.size) (hz : Has w3 w.heap.size 47 zer) (hf : Pd w0 p K w3) (hr : FrP p w w3)
    (hM : w.heap.size < M) (hM1 : w.heap.size < M1) (n2 : Nw M w3 t2) (m2 : Nw M1 w3 t1) (A : Addr) :
    PqP w0 p K w o t1 t2 A (set6 w3 w.heap.size (.int .i64 3) (.string (str o)) (.int .i64 0) (.string { data := #[] }) (.string { data := #[] }) (.slice (some A) 2 2)) := by
  obtain ⟨⟨X1, X2, X3⟩, -⟩ := end_storeP hp h0 hz hf hr (.int .i64 3) (.string (str o)) (.int .i64 0) (.string { data := #[] }) (.string { data := #[] }) (.slice (some A) 2 2) (.cells #[] 0)
  exact ⟨X1, X2, X3, m2.set (by omega) hM1 _ _ _ _ _ _, n2.set (by omega) hM _ _ _ _ _ _⟩
theorem bi_mkP {w0 : World} {p : Nat} {K : PK} {S S2 b : Nat} {w X : World} {o : Nm} {t1 t2 : ET} {ty : TypeId} (ho1 : oneB 3 o 0 [] [] 2 = true) (ho3 : o.length ≤ 10)
    (g1 : rightT t1 = true ∧ t1.size ≤ S) (g2 : rightT t2 = true ∧ t2.size ≤ S) (h : PqP w0 p K w o t1 t2 ⟨b, 0, none⟩ X) (hb : Has X b ty (cs2 t1 t2)) (hbw : w.heap.size ≤ b) (hS : 2 * S + 1 ≤ S2 := by omega) :
    MkP w0 p K S2 w (.returned (.agg #[.int .i64 3, .string (str o), .int .i64 0, .string { data := #[] }, .string { data := #[] }, .slice (some ⟨b, 0, none⟩) 2 2])) X := by
  obtain ⟨h1, h2, h3, h4, h5⟩ := h
  exact ⟨.mk 3 o 0 [] [] (some ⟨b, 0, none⟩) 2 [t1, t2], rfl, ⟨right2 ho1 g1.1 g2.1, by rw [size2]; have := g1.2; have := g2.2; omega⟩, nw2 3 o hb hbw h4 h5 ho3, h1, h2⟩
def ops5 : List Nm := [[43], [45], [42], [47], [37]]
theorem ops5_at : ∀ j, j < 5 → ∃ o, ops5[j]? = some o ∧ oneB 3 o 0 [] [] 2 = true ∧ o.length ≤ 10
  | 0, _ => ⟨_, rfl, by kernel_rfl, by decide⟩
  | 1, _ => ⟨_, rfl, by kernel_rfl, by decide⟩
  | 2, _ => ⟨_, rfl, by kernel_rfl, by decide⟩
  | 3, _ => ⟨_, rfl, by kernel_rfl, by decide⟩
  | 4, _ => ⟨_, rfl, by kernel_rfl, by decide⟩
  | n + 5, h => absurd h (by omega)
def ops2 : List Nm := [[38, 38], [124, 124]]
theorem ops2_at : ∀ j, j < 2 → ∃ o, ops2[j]? = some o ∧ oneB 3 o 0 [] [] 2 = true ∧ o.length ≤ 10
  | 0, _ => ⟨_, rfl, by kernel_rfl, by decide⟩
  | 1, _ => ⟨_, rfl, by kernel_rfl, by decide⟩
  | n + 2, h => absurd h (by omega)
def ops8 : List Nm := [[61, 61], [33, 61], [60], [60, 61], [62], [62, 61], [60, 61], [62, 61]]
theorem ops8_at : ∀ j, j < 8 → ∃ o, ops8[j]? = some o ∧ oneB 3 o 0 [] [] 2 = true ∧ o.length ≤ 10
  | 0, _ => ⟨_, rfl, by kernel_rfl, by decide⟩
  | 1, _ => ⟨_, rfl, by kernel_rfl, by decide⟩
  | 2, _ => ⟨_, rfl, by kernel_rfl, by decide⟩
  | 3, _ => ⟨_, rfl, by kernel_rfl, by decide⟩
  | 4, _ => ⟨_, rfl, by kernel_rfl, by decide⟩
  | 5, _ => ⟨_, rfl, by kernel_rfl, by decide⟩
  | 6, _ => ⟨_, rfl, by kernel_rfl, by decide⟩
  | 7, _ => ⟨_, rfl, by kernel_rfl, by decide⟩
  | n + 8, h => absurd h (by omega)
end Go.Proofs.YtbdfehgofnomhaaDoor
/- Layer 9: numbers that bytes make, at depth 1. -/
namespace Go.Proofs.YtbdfehgofnomhaaDoor
open Go.RowKit
set_option linter.unusedVariables false

set_option maxHeartbeats 8000000 in
theorem num1_p {w0 : World} {K : PK} {bs : List Int} {vs os : List Nm} (hC : PdC w0 K bs vs os) (own kind : Nm) (hown : nameB own = true) (p : Nat) (w : World) (h : Pd w0 p K w) :
    Calls Tryd.prog 80 #[.pointer (some ⟨p, 0, none⟩), .string (str own), .string (str kind), .int .i64 1] w fun e w' => MkP w0 p K 3 w e w' := by
  have hpl := h.lt
  have hqp : w.heap.size ≠ p := by omega
  have h0s := h.size
  obtain ⟨W, hW⟩ : ∃ W, W = w.alloc (.cells zer 47) := ⟨_, rfl⟩
  have bl : Below w.heap.size w W := by rw [hW]; exact (Below.refl _ _).alloc (Nat.le_refl _) _
  have hz : Has W w.heap.size 47 zer := by rw [hW]; exact heap_alloc_new w _
  have hWs : W.heap.size = w.heap.size + 1 := by rw [hW]; simp
  have HN := Lib.hid (next_p hC p W (h.below bl))
  have HW := Lib.hid hW
  have HZ := Lib.hid hz
  have HB := Lib.hid (FrP.below hpl bl)
  have HP := Lib.hid hpl
  have HQ := Lib.hid hqp
  have HS := Lib.hid h0s
  have HWS := Lib.hid hWs
  have HR0 := Lib.hid (ref_p hC own kind hown p)
  have HI0 := Lib.hid (num0_p hC own kind hown p)
  clear hW hz bl hpl hqp h0s h hWs hown
  go_enter Tryd.func80, Tryd.ntmps80
  go_wp2_with fail
  rw [← HW.out]
  refine HN.out.mono ?_
  rintro e w1 ⟨x, rfl, hxb, fd1, fr1⟩
  have hz1 := fr1.has HZ.out HQ.out
  have HFD := Lib.hid fd1
  have HFR := Lib.hid (HB.out.trans fr1)
  have HZ1 := Lib.hid hz1
  have HS1 := Lib.hid (show w.heap.size + 1 ≤ w1.heap.size by rw [← HWS.out]; exact fr1.size)
  have m8 := tmod_of hxb.1 8
  have m2 := tmod_of hxb.1 2
  have d8 := tdiv_of hxb.1 8
  have hk : x % 8 < 3 ∨ (¬ x % 8 < 3 ∧ x % 8 < 6) ∨ x % 8 = 6 ∨ x % 8 = 7 := by omega
  rcases hk with h3 | ⟨h3, h6⟩ | h7 | h7
  · clear HI0
    obtain ⟨j, hj⟩ : ∃ j : Nat, x / 8 % 6 = (j : Int) := ⟨(x / 8 % 6).toNat, by omega⟩
    obtain ⟨N, hN, hN0, hN1⟩ := nums_at j (by omega)
    have m6 : (x / 8).tmod 6 = (j : Int) := by rw [tmod_of (by omega)]; exact hj
    have hj6 : j < 6 := by omega
    have hc0 := cell_ints w1 [0, 1, 2, 3, 5, 9223372036854775807] 2 j N hN
    have bA := step1 w1 (.cells (([0, 1, 2, 3, 5, 9223372036854775807].map (Value.int .i64)).toArray) 2)
    obtain ⟨W2, hW2⟩ : ∃ W2, w1.alloc (.cells (([0, 1, 2, 3, 5, 9223372036854775807].map (Value.int .i64)).toArray) 2) = W2 := ⟨_, rfl⟩
    rw [hW2] at hc0 bA
    have hW3 : w1.alloc (.cells #[.int .i64 0, .int .i64 1, .int .i64 2, .int .i64 3, .int .i64 5, .int .i64 9223372036854775807] 2) = W2 := hW2
    have hz2 := hz1.below bA hz1.lt
    obtain ⟨⟨X1, X2, X3⟩, -⟩ := end_storeP HP.out HS.out hz2 (HFD.out.below bA) (HFR.out.trans (FrP.below HFD.out.lt bA)) (.int .i64 0) (.string { data := #[] }) (.int .i64 N) (.string { data := #[] }) (.string { data := #[] }) (.slice none 0 0) (.cells #[] 0)
    have HX := Lib.hid (And.intro X1 (And.intro X2 X3))
    obtain ⟨z0, z1, z2, z3, z4, z5⟩ := zer_six hz2
    obtain ⟨f0, f1, f2, f3, f4, f5⟩ := six_free hz2
    have HNN := Lib.hid (And.intro hN0 hN1)
    clear X1 X2 X3 fd1 fr1 hz1 hz2 bA hW2 hN hN0 hN1 hj
    go_wp2_with fail
    rw [set6_fold]
    clear z0 z1 z2 z3 z4 z5 f0 f1 f2 f3 f4 f5 m8 m2 d8 m6 hc0 hW3
    generalize set6 W2 w.heap.size (.int .i64 0) (.string { data := #[] }) (.int .i64 N) (.string { data := #[] }) (.string { data := #[] }) (.slice none 0 0) = X at HX ⊢
    have y0 : X.cell? ⟨w.heap.size, 0, none⟩ = some (.int .i64 0) := HX.out.2.2.cell 0
    have y1 : X.cell? ⟨w.heap.size, 1, none⟩ = some (.string { data := #[] }) := HX.out.2.2.cell 1
    have y2 : X.cell? ⟨w.heap.size, 2, none⟩ = some (.int .i64 N) := HX.out.2.2.cell 2
    have y3 : X.cell? ⟨w.heap.size, 3, none⟩ = some (.string { data := #[] }) := HX.out.2.2.cell 3
    have y4 : X.cell? ⟨w.heap.size, 4, none⟩ = some (.string { data := #[] }) := HX.out.2.2.cell 4
    have y5 : X.cell? ⟨w.heap.size, 5, none⟩ = some (.slice none 0 0) := HX.out.2.2.cell 5
    refine bodyPost_ret (v := .agg #[.int .i64 0, .string { data := #[] }, .int .i64 N, .string { data := #[] }, .string { data := #[] }, .slice none 0 0]) (by simp [results, Tryd.results80, go_sem, y0, y1, y2, y3, y4, y5]) rfl ?_
    exact ⟨nm N, rfl, ⟨right_nm HNN.out.1, Nat.le_trans (Nat.le_of_eq (by kernel_rfl : (nm N).size = 1)) (by omega)⟩, nw_nm _ _ _ (by have := HNN.out; omega) HNN.out.2, HX.out.1, HX.out.2.1⟩
  · clear HI0
    clear fd1 fr1 hz1
    go_wp2_with fail
    refine (HR0.out w1 HFD.out).mono ?_
    rintro e w2 ⟨v, f, rfl, hvf, fd2, fr2⟩
    have hz2 := fr2.has HZ1.out HQ.out
    obtain ⟨⟨X1, X2, X3⟩, -⟩ := end_storeP HP.out HS.out hz2 fd2 (HFR.out.trans fr2) (.int .i64 1) (.string { data := #[] }) (.int .i64 0) (.string (str v)) (.string (str f)) (.slice none 0 0) (.cells #[] 0)
    have HX := Lib.hid (And.intro X1 (And.intro X2 X3))
    have HVF := Lib.hid hvf
    obtain ⟨z0, z1, z2, z3, z4, z5⟩ := zer_six hz2
    obtain ⟨f0, f1, f2, f3, f4, f5⟩ := six_free hz2
    clear X1 X2 X3 fd2 fr2 hz2 m8 m2 hvf
    go_wp2_with fail
    rw [set6_fold]
    clear z0 z1 z2 z3 z4 z5 f0 f1 f2 f3 f4 f5
    generalize set6 w2 w.heap.size (.int .i64 1) (.string { data := #[] }) (.int .i64 0) (.string (str v)) (.string (str f)) (.slice none 0 0) = X at HX ⊢
    have y0 : X.cell? ⟨w.heap.size, 0, none⟩ = some (.int .i64 1) := HX.out.2.2.cell 0
    have y1 : X.cell? ⟨w.heap.size, 1, none⟩ = some (.string { data := #[] }) := HX.out.2.2.cell 1
    have y2 : X.cell? ⟨w.heap.size, 2, none⟩ = some (.int .i64 0) := HX.out.2.2.cell 2
    have y3 : X.cell? ⟨w.heap.size, 3, none⟩ = some (.string (str v)) := HX.out.2.2.cell 3
    have y4 : X.cell? ⟨w.heap.size, 4, none⟩ = some (.string (str f)) := HX.out.2.2.cell 4
    have y5 : X.cell? ⟨w.heap.size, 5, none⟩ = some (.slice none 0 0) := HX.out.2.2.cell 5
    refine bodyPost_ret (v := .agg #[.int .i64 1, .string { data := #[] }, .int .i64 0, .string (str v), .string (str f), .slice none 0 0]) (by simp [results, Tryd.results80, go_sem, y0, y1, y2, y3, y4, y5]) rfl ?_
    exact ⟨rf v f, rfl, ⟨right_rf HVF.out.1 HVF.out.2, Nat.le_trans (Nat.le_of_eq (by kernel_rfl : (rf v f).size = 1)) (by omega)⟩, nw_rf _ _ _ _ (name_len HVF.out.1) (name_len HVF.out.2), HX.out.1, HX.out.2.1⟩
  · clear HR0
    have e3 : decide (x % 8 < 3) = false := by simp; omega
    have e6 : decide (x % 8 < 6) = false := by simp; omega
    rw [h7] at m8 e3 e6
    clear fd1 fr1 hz1
    go_wp2_with fail
    refine (HI0.out w1 HFD.out).mono ?_
    rintro e w2 ⟨t1, rfl, g1, n1, fd2, fr2⟩
    simp only [cs1]
    have hz2 := fr2.has HZ1.out HQ.out
    obtain ⟨-, X1, X2, X3⟩ := end_storeP HP.out HS.out hz2 fd2 (HFR.out.trans fr2) (.int .i64 2) (.string { data := #[45] }) (.int .i64 0) (.string { data := #[] }) (.string { data := #[] }) (.slice (some ⟨w2.heap.size, 0, none⟩) 1 1) (.cells (cs1 t1) 47)
    have hs1 := set6_size (w := w2) (q := w.heap.size) (.int .i64 2) (.string { data := #[45] }) (.int .i64 0) (.string { data := #[] }) (.string { data := #[] }) (.slice (some ⟨w2.heap.size, 0, none⟩) 1 1)
    have X4 : Has ((set6 w2 w.heap.size (.int .i64 2) (.string { data := #[45] }) (.int .i64 0) (.string { data := #[] }) (.string { data := #[] }) (.slice (some ⟨w2.heap.size, 0, none⟩) 1 1)).alloc (.cells (cs1 t1) 47)) w2.heap.size 47 (cs1 t1) := has_at rfl hs1.symm
    have X5 : Nw w.heap.size ((set6 w2 w.heap.size (.int .i64 2) (.string { data := #[45] }) (.int .i64 0) (.string { data := #[] }) (.string { data := #[] }) (.slice (some ⟨w2.heap.size, 0, none⟩) 1 1)).alloc (.cells (cs1 t1) 47)) t1 := (n1.set (N' := w.heap.size) (by have := HS1.out; omega) (by have := HS1.out; omega) (.int .i64 2) (.string { data := #[45] }) (.int .i64 0) (.string { data := #[] }) (.string { data := #[] }) (.slice (some ⟨w2.heap.size, 0, none⟩) 1 1)).below (Nat.le_refl _) (step1 _ _)
    have X6 := nw1 (N := w.heap.size) 2 [45] X4 (by have := fr2.size; have := HS1.out; omega) X5 (by simp)
    have HX := Lib.hid (And.intro X1 (And.intro X2 (And.intro X3 X6)))
    have HG := Lib.hid g1
    obtain ⟨z0, z1, z2, z3, z4, z5⟩ := zer_six hz2
    obtain ⟨f0, f1, f2, f3, f4, f5⟩ := six_free hz2
    have hq2 := hz2.lt
    clear X1 X2 X3 X4 X5 X6 fd2 fr2 hz2 m8 m2 hs1 n1 g1
    go_wp2_with fail
    rw [set6_fold]
    clear z0 z1 z2 z3 z4 z5 f0 f1 f2 f3 f4 f5
    generalize (set6 w2 w.heap.size (.int .i64 2) (.string { data := #[45] }) (.int .i64 0) (.string { data := #[] }) (.string { data := #[] }) (.slice (some ⟨w2.heap.size, 0, none⟩) 1 1)).alloc (.cells (cs1 t1) 47) = X at HX ⊢
    have y0 : X.cell? ⟨w.heap.size, 0, none⟩ = some (.int .i64 2) := HX.out.2.2.1.cell 0
    have y1 : X.cell? ⟨w.heap.size, 1, none⟩ = some (.string { data := #[45] }) := HX.out.2.2.1.cell 1
    have y2 : X.cell? ⟨w.heap.size, 2, none⟩ = some (.int .i64 0) := HX.out.2.2.1.cell 2
    have y3 : X.cell? ⟨w.heap.size, 3, none⟩ = some (.string { data := #[] }) := HX.out.2.2.1.cell 3
    have y4 : X.cell? ⟨w.heap.size, 4, none⟩ = some (.string { data := #[] }) := HX.out.2.2.1.cell 4
    have y5 : X.cell? ⟨w.heap.size, 5, none⟩ = some (.slice (some ⟨w2.heap.size, 0, none⟩) 1 1) := HX.out.2.2.1.cell 5
    refine bodyPost_ret (v := .agg #[.int .i64 2, .string { data := #[45] }, .int .i64 0, .string { data := #[] }, .string { data := #[] }, .slice (some ⟨w2.heap.size, 0, none⟩) 1 1]) (by simp [results, Tryd.results80, go_sem, y0, y1, y2, y3, y4, y5]) rfl ?_
    exact ⟨.mk 2 [45] 0 [] [] (some ⟨w2.heap.size, 0, none⟩) 1 [t1], rfl, ⟨right1 (by kernel_rfl) HG.out.1, by rw [size1]; have := HG.out.2; omega⟩, HX.out.2.2.2, HX.out.1, HX.out.2.1⟩
  · clear HR0 m2
    obtain ⟨j, hj⟩ : ∃ j : Nat, x / 8 % 5 = (j : Int) := ⟨(x / 8 % 5).toNat, by omega⟩
    obtain ⟨o, hoN, ho1, ho3⟩ := ops5_at j (by omega)
    have HO := Lib.hid (And.intro ho1 ho3)
    clear ho1 ho3
    have m6 : (x / 8).tmod 5 = (j : Int) := by rw [tmod_of (by omega)]; exact hj
    have hj6 : j < 5 := by omega
    have hjI : (j : Int) < 5 := by omega
    have hjz : (0 : Int) ≤ (j : Int) := by omega
    have hw2 : IntKind.i64.wrap (x / 8) = x / 8 := by rw [IntKind.wrap_i64]; omega
    have e3 : decide (x % 8 < 3) = false := by simp; omega
    have e6 : decide (x % 8 < 6) = false := by simp; omega
    rw [h7] at m8 e3 e6
    clear fd1 fr1 hz1
    go_wp2_with fail
    refine (HI0.out w1 HFD.out).mono ?_
    rintro e w2 ⟨t1, rfl, g1, n1, fd2, fr2⟩
    simp only [cs1]
    have hz2 := fr2.has HZ1.out HQ.out
    have s2 := step1 w2 (.cells (cs1 t1) 47)
    have hb2 : Has (w2.alloc (.cells (cs1 t1) 47)) w2.heap.size 47 (cs1 t1) := has_at rfl rfl
    have hp2 := fd2.lt
    have hs12 := fr2.size
    obtain ⟨W3, hW3⟩ : ∃ W3, w2.alloc (.cells (cs1 t1) 47) = W3 := ⟨_, rfl⟩
    rw [hW3] at s2 hb2
    have hW3' : w2.alloc (.cells #[.int .i64 t1.k, .string (str t1.op), .int .i64 t1.n, .string (str t1.v), .string (str t1.f), .slice t1.A t1.ks.length t1.c] 47) = W3 := hW3
    have hcE : (W3.alloc (.cells #[.string { data := #[43] }, .string { data := #[45] }, .string { data := #[42] }, .string { data := #[47] }, .string { data := #[37] }] 9)).drew.cell? ⟨W3.heap.size, j, none⟩ = some (.string (str o)) := cell_strs W3 ops5 9 j o hoN
    have hcE3 : ∀ u : World, (u.alloc (.cells #[.string { data := #[43] }, .string { data := #[45] }, .string { data := #[42] }, .string { data := #[47] }, .string { data := #[37] }] 9)).cell? ⟨u.heap.size, j, none⟩ = some (.string (str o)) := fun u => cell_strs u ops5 9 j o hoN
    have hcE4 : ∀ (u : World) (o2 : Obj), ((u.alloc (.cells #[.string { data := #[43] }, .string { data := #[45] }, .string { data := #[42] }, .string { data := #[47] }, .string { data := #[37] }] 9)).alloc o2).cell? ⟨u.heap.size, j, none⟩ = some (.string (str o)) := fun u o2 => (World.cell?_alloc_lt _ _ _ (by simp)).trans (cell_strs u ops5 9 j o hoN)
    have hcE5 : ∀ (u : World) (o2 : Obj), ((u.alloc o2).alloc (.cells #[.string { data := #[43] }, .string { data := #[45] }, .string { data := #[42] }, .string { data := #[47] }, .string { data := #[37] }] 9)).cell? ⟨u.heap.size + 1, j, none⟩ = some (.string (str o)) := fun u o2 => by have := cell_strs (u.alloc o2) ops5 9 j o hoN; rwa [show (u.alloc o2).heap.size = u.heap.size + 1 by simp] at this
    have gen : ∀ (u : World), Below W3.heap.size W3 u → Calls Tryd.prog 80 #[.pointer (some ⟨p, 0, none⟩), .string (str own), .string (str kind), .int .i64 0] u fun e w' => ∃ t2 : ET, e = .returned (.agg (cs1 t2)) ∧ (rightT t2 = true ∧ t2.size ≤ 1) ∧ Nw W3.heap.size w' t2 ∧ Nw w1.heap.size w' t1 ∧ Pd w0 p K w' ∧ FrP p w w' ∧ FrP p u w' ∧ six w' w2.heap.size t1.k t1.op t1.n t1.v t1.f t1.A t1.ks.length t1.c ∧ Has w' w.heap.size 47 zer ∧ W3.heap.size ≤ w'.heap.size := fun u hu => by
      have su := s2.trans (hu.mono s2.size)
      refine (HI0.out u (fd2.below su)).mono ?_
      rintro e w' ⟨t2, he, h1, h3, h4, h5⟩
      refine ⟨t2, he, h1, h3.imp hu.size (fun b _ _ => rfl), (n1.below (Nat.le_refl _) su).fr (Nat.le_refl _) (by have := HFD.out.lt; omega) h5, h4, (HFR.out.trans (fr2.trans (FrP.below hp2 su))).trans h5, h5, six_has (h5.has (hb2.below hu hb2.lt) (by omega)), h5.has (hz2.below su hz2.lt) HQ.out, Nat.le_trans hu.size h5.size⟩
    have HCA := Lib.hid (gen (W3.alloc (.cells #[.string { data := #[43] }, .string { data := #[45] }, .string { data := #[42] }, .string { data := #[47] }, .string { data := #[37] }] 9)).drew ((Below.refl _ W3).alloc (Nat.le_refl _) _).drew)
    have HCB := Lib.hid (gen W3.drew (Below.refl _ W3).drew)
    have HSW : Hid (W3.heap.size = w2.heap.size + 1) := Lib.hid (by rw [← hW3]; simp)
    have HG1 := Lib.hid g1
    have HS12 := Lib.hid hs12
    have HcE := Lib.hid hcE
    have hbq1 : ¬ w2.heap.size = w.heap.size := by have := HS1.out; omega
    have hbq2 : ¬ w.heap.size = w2.heap.size := by have := HS1.out; omega
    obtain ⟨b0, b1, b2, b3, b4, b5⟩ : six (W3.alloc (.cells #[.string { data := #[43] }, .string { data := #[45] }, .string { data := #[42] }, .string { data := #[47] }, .string { data := #[37] }] 9)).drew w2.heap.size t1.k t1.op t1.n t1.v t1.f t1.A t1.ks.length t1.c := six_has (hb2.below ((Below.refl _ W3).alloc (Nat.le_refl _) _).drew hb2.lt)
    obtain ⟨q0, q1, q2, q3, q4, q5⟩ : six W3 w2.heap.size t1.k t1.op t1.n t1.v t1.f t1.A t1.ks.length t1.c := six_has hb2
    clear s2 hb2 hp2 hs12 hW3 n1 g1 fd2 fr2 hz2 gen
    go_wp2_with fail
    go_region_with
      (first
        | (go_at_call 80; refine HCA.out.mono ?_; rintro e w3 ⟨t2, rfl, g2, n2, m2', fd3, fr3, fru, s3, hz3, hsz⟩; simp only [cs1]; have K5 : Hid (w3.cell? ⟨w2.heap.size, 0, none⟩ = some (.int .i64 t1.k) ∧ w3.cell? ⟨w2.heap.size, 1, none⟩ = some (.string (str t1.op)) ∧ w3.cell? ⟨w2.heap.size, 2, none⟩ = some (.int .i64 t1.n) ∧ w3.cell? ⟨w2.heap.size, 3, none⟩ = some (.string (str t1.v)) ∧ w3.cell? ⟨w2.heap.size, 4, none⟩ = some (.string (str t1.f)) ∧ w3.cell? ⟨w2.heap.size, 5, none⟩ = some (.slice t1.A t1.ks.length t1.c)) := Lib.hid s3; obtain ⟨r0, r1, r2, r3, r4, r5⟩ := s3; have hbl3 := World.block_lt_of_cell? _ _ r0; simp only at hbl3; have hq3 := hz3.lt; have kE : w3.cell? ⟨W3.heap.size, j, none⟩ = some (.string (str o)) := (cell_block (fru.block (by simp) (by have := HFD.out.lt; have := HS12.out; have := HSW.out; simp; omega))).trans HcE.out; have hbE := World.block_lt_of_cell? _ _ kE; simp only at hbE; have HG2 := Lib.hid g2; have HN2 := Lib.hid n2; have HM2 := Lib.hid m2'; have HF3 := Lib.hid fd3; have HR3 := Lib.hid fr3; have HZ3 := Lib.hid hz3; have HSZ := Lib.hid hsz; obtain ⟨z0, z1, z2, z3, z4, z5⟩ := zer_six hz3; obtain ⟨f0, f1, f2, f3, f4, f5⟩ := six_free hz3; clear fru hz3 hsz fd3 fr3 n2 m2' g2)
        | (go_at_call 80; refine HCB.out.mono ?_; rintro e w3 ⟨t2, rfl, g2, n2, m2', fd3, fr3, fru, s3, hz3, hsz⟩; simp only [cs1]; have K5 : Hid (w3.cell? ⟨w2.heap.size, 0, none⟩ = some (.int .i64 t1.k) ∧ w3.cell? ⟨w2.heap.size, 1, none⟩ = some (.string (str t1.op)) ∧ w3.cell? ⟨w2.heap.size, 2, none⟩ = some (.int .i64 t1.n) ∧ w3.cell? ⟨w2.heap.size, 3, none⟩ = some (.string (str t1.v)) ∧ w3.cell? ⟨w2.heap.size, 4, none⟩ = some (.string (str t1.f)) ∧ w3.cell? ⟨w2.heap.size, 5, none⟩ = some (.slice t1.A t1.ks.length t1.c)) := Lib.hid s3; obtain ⟨r0, r1, r2, r3, r4, r5⟩ := s3; have hbl3 := World.block_lt_of_cell? _ _ r0; simp only at hbl3; have hq3 := hz3.lt; have HG2 := Lib.hid g2; have HN2 := Lib.hid n2; have HM2 := Lib.hid m2'; have HF3 := Lib.hid fd3; have HR3 := Lib.hid fr3; have HZ3 := Lib.hid hz3; have HSZ := Lib.hid hsz; obtain ⟨z0, z1, z2, z3, z4, z5⟩ := zer_six hz3; obtain ⟨f0, f1, f2, f3, f4, f5⟩ := six_free hz3; clear fru hz3 hsz fd3 fr3 n2 m2' g2))
    all_goals go_wp2_with fail
    all_goals rw [set6_fold]
    all_goals clear z0 z1 z2 z3 z4 z5 f0 f1 f2 f3 f4 f5
    all_goals have P0 := pq_ofP (o := o) HP.out HS.out HZ3.out HF3.out HR3.out (by have := HS1.out; have := HSW.out; have := HS12.out; omega) (by have := HS1.out; omega) HN2.out HM2.out
    all_goals clear HF3 HR3 HZ3 HN2 HM2 HCA HCB HI0 hcE3 hcE4 hcE5 HcE
    all_goals first
      | (have HX := Lib.hid (And.intro ((P0 ⟨w3.heap.size, 0, none⟩).alloc (.cells (cs2 t1 t2) 47)) (has_at (w := set6 w3 w.heap.size (.int .i64 3) (.string (str o)) (.int .i64 0) (.string { data := #[] }) (.string { data := #[] }) (.slice (some ⟨w3.heap.size, 0, none⟩) 2 2)) (q := w3.heap.size) (o := .cells (cs2 t1 t2) 47) rfl (set6_size _ _ _ _ _ _).symm))
         generalize (set6 w3 w.heap.size (.int .i64 3) (.string (str o)) (.int .i64 0) (.string { data := #[] }) (.string { data := #[] }) (.slice (some ⟨w3.heap.size, 0, none⟩) 2 2)).alloc (.cells (cs2 t1 t2) 47) = X at HX ⊢
         have y0 : X.cell? ⟨w.heap.size, 0, none⟩ = some (.int .i64 3) := HX.out.1.2.2.1.cell 0
         have y1 : X.cell? ⟨w.heap.size, 1, none⟩ = some (.string (str o)) := HX.out.1.2.2.1.cell 1
         have y2 : X.cell? ⟨w.heap.size, 2, none⟩ = some (.int .i64 0) := HX.out.1.2.2.1.cell 2
         have y3 : X.cell? ⟨w.heap.size, 3, none⟩ = some (.string { data := #[] }) := HX.out.1.2.2.1.cell 3
         have y4 : X.cell? ⟨w.heap.size, 4, none⟩ = some (.string { data := #[] }) := HX.out.1.2.2.1.cell 4
         have y5 : X.cell? ⟨w.heap.size, 5, none⟩ = some (.slice (some ⟨w3.heap.size, 0, none⟩) 2 2) := HX.out.1.2.2.1.cell 5
         refine bodyPost_ret (v := .agg #[.int .i64 3, .string (str o), .int .i64 0, .string { data := #[] }, .string { data := #[] }, .slice (some ⟨w3.heap.size, 0, none⟩) 2 2]) (by first | (simp [results, Tryd.results80, go_sem, y0, y1, y2, y3, y4, y5]; done) | fail) rfl ?_
         exact bi_mkP (S := 1) HO.out.1 HO.out.2 HG1.out HG2.out HX.out.1 HX.out.2 (by have := HS1.out; have := HSZ.out; have := HSW.out; have := HS12.out; omega))
      | (have HX := Lib.hid (And.intro (((P0 ⟨w3.heap.size + 1, 0, none⟩).alloc (.cells #[.string { data := #[43] }, .string { data := #[45] }, .string { data := #[42] }, .string { data := #[47] }, .string { data := #[37] }] 9)).alloc (.cells (cs2 t1 t2) 47)) (has_at (w := (set6 w3 w.heap.size (.int .i64 3) (.string (str o)) (.int .i64 0) (.string { data := #[] }) (.string { data := #[] }) (.slice (some ⟨w3.heap.size + 1, 0, none⟩) 2 2)).alloc (.cells #[.string { data := #[43] }, .string { data := #[45] }, .string { data := #[42] }, .string { data := #[47] }, .string { data := #[37] }] 9)) (q := w3.heap.size + 1) (o := .cells (cs2 t1 t2) 47) rfl (by rw [show ((set6 w3 w.heap.size (.int .i64 3) (.string (str o)) (.int .i64 0) (.string { data := #[] }) (.string { data := #[] }) (.slice (some ⟨w3.heap.size + 1, 0, none⟩) 2 2)).alloc (.cells #[.string { data := #[43] }, .string { data := #[45] }, .string { data := #[42] }, .string { data := #[47] }, .string { data := #[37] }] 9)).heap.size = (set6 w3 w.heap.size (.int .i64 3) (.string (str o)) (.int .i64 0) (.string { data := #[] }) (.string { data := #[] }) (.slice (some ⟨w3.heap.size + 1, 0, none⟩) 2 2)).heap.size + 1 by simp, set6_size])))
         generalize ((set6 w3 w.heap.size (.int .i64 3) (.string (str o)) (.int .i64 0) (.string { data := #[] }) (.string { data := #[] }) (.slice (some ⟨w3.heap.size + 1, 0, none⟩) 2 2)).alloc (.cells #[.string { data := #[43] }, .string { data := #[45] }, .string { data := #[42] }, .string { data := #[47] }, .string { data := #[37] }] 9)).alloc (.cells (cs2 t1 t2) 47) = X at HX ⊢
         have y0 : X.cell? ⟨w.heap.size, 0, none⟩ = some (.int .i64 3) := HX.out.1.2.2.1.cell 0
         have y1 : X.cell? ⟨w.heap.size, 1, none⟩ = some (.string (str o)) := HX.out.1.2.2.1.cell 1
         have y2 : X.cell? ⟨w.heap.size, 2, none⟩ = some (.int .i64 0) := HX.out.1.2.2.1.cell 2
         have y3 : X.cell? ⟨w.heap.size, 3, none⟩ = some (.string { data := #[] }) := HX.out.1.2.2.1.cell 3
         have y4 : X.cell? ⟨w.heap.size, 4, none⟩ = some (.string { data := #[] }) := HX.out.1.2.2.1.cell 4
         have y5 : X.cell? ⟨w.heap.size, 5, none⟩ = some (.slice (some ⟨w3.heap.size + 1, 0, none⟩) 2 2) := HX.out.1.2.2.1.cell 5
         refine bodyPost_ret (v := .agg #[.int .i64 3, .string (str o), .int .i64 0, .string { data := #[] }, .string { data := #[] }, .slice (some ⟨w3.heap.size + 1, 0, none⟩) 2 2]) (by first | (simp [results, Tryd.results80, go_sem, y0, y1, y2, y3, y4, y5]; done) | fail) rfl ?_
         exact bi_mkP (S := 1) HO.out.1 HO.out.2 HG1.out HG2.out HX.out.1 HX.out.2 (by have := HS1.out; have := HSZ.out; have := HSW.out; have := HS12.out; omega))
      | (have HX := Lib.hid (And.intro (((P0 ⟨w3.heap.size, 0, none⟩).alloc (.cells (cs2 t1 t2) 47)).alloc (.cells #[.string { data := #[43] }, .string { data := #[45] }, .string { data := #[42] }, .string { data := #[47] }, .string { data := #[37] }] 9)) ((has_at (w := set6 w3 w.heap.size (.int .i64 3) (.string (str o)) (.int .i64 0) (.string { data := #[] }) (.string { data := #[] }) (.slice (some ⟨w3.heap.size, 0, none⟩) 2 2)) (q := w3.heap.size) (o := .cells (cs2 t1 t2) 47) rfl (set6_size _ _ _ _ _ _).symm : Has _ _ _ _).below (step1 ((set6 w3 w.heap.size (.int .i64 3) (.string (str o)) (.int .i64 0) (.string { data := #[] }) (.string { data := #[] }) (.slice (some ⟨w3.heap.size, 0, none⟩) 2 2)).alloc (.cells (cs2 t1 t2) 47)) (.cells #[.string { data := #[43] }, .string { data := #[45] }, .string { data := #[42] }, .string { data := #[47] }, .string { data := #[37] }] 9)) (by simp [set6_size])))
         generalize ((set6 w3 w.heap.size (.int .i64 3) (.string (str o)) (.int .i64 0) (.string { data := #[] }) (.string { data := #[] }) (.slice (some ⟨w3.heap.size, 0, none⟩) 2 2)).alloc (.cells (cs2 t1 t2) 47)).alloc (.cells #[.string { data := #[43] }, .string { data := #[45] }, .string { data := #[42] }, .string { data := #[47] }, .string { data := #[37] }] 9) = X at HX ⊢
         have y0 : X.cell? ⟨w.heap.size, 0, none⟩ = some (.int .i64 3) := HX.out.1.2.2.1.cell 0
         have y1 : X.cell? ⟨w.heap.size, 1, none⟩ = some (.string (str o)) := HX.out.1.2.2.1.cell 1
         have y2 : X.cell? ⟨w.heap.size, 2, none⟩ = some (.int .i64 0) := HX.out.1.2.2.1.cell 2
         have y3 : X.cell? ⟨w.heap.size, 3, none⟩ = some (.string { data := #[] }) := HX.out.1.2.2.1.cell 3
         have y4 : X.cell? ⟨w.heap.size, 4, none⟩ = some (.string { data := #[] }) := HX.out.1.2.2.1.cell 4
         have y5 : X.cell? ⟨w.heap.size, 5, none⟩ = some (.slice (some ⟨w3.heap.size, 0, none⟩) 2 2) := HX.out.1.2.2.1.cell 5
         refine bodyPost_ret (v := .agg #[.int .i64 3, .string (str o), .int .i64 0, .string { data := #[] }, .string { data := #[] }, .slice (some ⟨w3.heap.size, 0, none⟩) 2 2]) (by first | (simp [results, Tryd.results80, go_sem, y0, y1, y2, y3, y4, y5]; done) | fail) rfl ?_
         exact bi_mkP (S := 1) HO.out.1 HO.out.2 HG1.out HG2.out HX.out.1 HX.out.2 (by have := HS1.out; have := HSZ.out; have := HSW.out; have := HS12.out; omega))
end Go.Proofs.YtbdfehgofnomhaaDoor
