/- Layer 7: a truth of one Kid. -/
import Derived.Test.YtbhjimlikffalaaDoorExNum
namespace Go.Proofs.YtbhjimlikffalaaDoor
open Go.RowKit
set_option linter.unusedVariables false

set_option maxHeartbeats 4000000 in
theorem tru_U {bs : List Int} (hbyt : ∀ x ∈ bs, 0 ≤ x ∧ x ≤ 255) (i : Nat) (x : Int) (i1 : Nat) (hx : nx bs i = (x, i1)) (d : Int) (hd0 : 0 < d) (hd3 : d ≤ 3) (h0 : x % 8 = 0) (S : Nat) (ih : ∃ T0 i2, ∀ (w0 : World) (L V O : Option Addr) (n c : Nat) (hC : FdC w0 bs L V O n c) (p : Nat) (w : World), Fd w0 p L V O n c i1 w → Calls Tryd.prog 41 #[.pointer (some ⟨p, 0, none⟩), .string (str [99]), .string (str [67]), .int .i64 (d - 1)] w fun e w' => Mk w0 p L V O n c S 2 (T0) i2 w e w') : ∃ T0 i2, ∀ (w0 : World) (L V O : Option Addr) (n c : Nat) (hC : FdC w0 bs L V O n c) (p : Nat) (w : World), Fd w0 p L V O n c i w → Calls Tryd.prog 41 #[.pointer (some ⟨p, 0, none⟩), .string (str [99]), .string (str [67]), .int .i64 d] w fun e w' => Mk w0 p L V O n c (S + 1) 2 (T0) i2 w e w' := by
  obtain ⟨T1, i2, hi⟩ := ih
  refine ⟨.mk 2 [33] 0 [] [] none 0 [T1], i2, ?_⟩
  have HI := Lib.hid hi
  clear hi
  intro w0 L V O n c hC p w h
  have hxb := nx_b hC.byt i
  have hpl := h.2.1.lt
  have hqp : w.heap.size ≠ p := by omega
  have h0s := h.1.size
  obtain ⟨W, hW⟩ : ∃ W, W = w.alloc (.cells zer 24) := ⟨_, rfl⟩
  have bl : Below w.heap.size w W := by rw [hW]; exact (Below.refl _ _).alloc (Nat.le_refl _) _
  have hz : Has W w.heap.size 24 zer := by rw [hW]; exact heap_alloc_new w _
  have hWs : W.heap.size = w.heap.size + 1 := by rw [hW]; simp
  have hn := next_any hC p i W (h.below bl)
  rw [hx] at hxb hn
  simp only at hxb hn
  have HN := Lib.hid hn
  have HW := Lib.hid hW
  have HZ := Lib.hid hz
  have HB := Lib.hid (FrP.below hpl bl)
  have HP := Lib.hid hpl
  have HQ := Lib.hid hqp
  have HS := Lib.hid h0s
  have HWS := Lib.hid hWs
  clear hn hW hz bl hpl hqp h0s h hWs
  have m8 := tmod_of hxb.1 8
  have m2 := tmod_of hxb.1 2
  rw [h0] at m8
  go_enter Tryd.func41, Tryd.ntmps41
  go_wp2_with fail
  rw [← HW.out]
  refine HN.out.mono ?_
  rintro e w1 ⟨rfl, fd1, fr1⟩
  have hz1 := fr1.has HZ.out HQ.out
  have HFD := Lib.hid fd1
  have HFR := Lib.hid (HB.out.trans fr1)
  have HZ1 := Lib.hid hz1
  have HS1 := Lib.hid (show w.heap.size + 1 ≤ w1.heap.size by rw [← HWS.out]; exact fr1.size)
  clear fd1 fr1 hz1
  go_wp2_with fail
  refine (HI.out w0 L V O n c hC p _ HFD.out).mono ?_
  rintro e w2 ⟨t1, rfl, er1, g1, n1, fd2, fr2⟩
  simp only [cs1]
  have hz2 := fr2.has HZ1.out HQ.out
  obtain ⟨-, X1, X2, X3⟩ := end_store HP.out HS.out hz2 fd2 (HFR.out.trans fr2) (.int .i64 2) (.string { data := #[33] }) (.int .i64 0) (.string { data := #[] }) (.string { data := #[] }) (.slice (some ⟨w2.heap.size, 0, none⟩) 1 1) (.cells (cs1 t1) 24)
  have hs1 := set6_size (w := w2) (q := w.heap.size) (.int .i64 2) (.string { data := #[33] }) (.int .i64 0) (.string { data := #[] }) (.string { data := #[] }) (.slice (some ⟨w2.heap.size, 0, none⟩) 1 1)
  have X4 : Has ((set6 w2 w.heap.size (.int .i64 2) (.string { data := #[33] }) (.int .i64 0) (.string { data := #[] }) (.string { data := #[] }) (.slice (some ⟨w2.heap.size, 0, none⟩) 1 1)).alloc (.cells (cs1 t1) 24)) w2.heap.size 24 (cs1 t1) := has_at rfl hs1.symm
  have X5 : Nw w.heap.size ((set6 w2 w.heap.size (.int .i64 2) (.string { data := #[33] }) (.int .i64 0) (.string { data := #[] }) (.string { data := #[] }) (.slice (some ⟨w2.heap.size, 0, none⟩) 1 1)).alloc (.cells (cs1 t1) 24)) t1 := (n1.set (N' := w.heap.size) (by have := HS1.out; omega) (by have := HS1.out; omega) (.int .i64 2) (.string { data := #[33] }) (.int .i64 0) (.string { data := #[] }) (.string { data := #[] }) (.slice (some ⟨w2.heap.size, 0, none⟩) 1 1)).below (Nat.le_refl _) (step1 _ _)
  have X6 := nw1 (N := w.heap.size) 2 [33] X4 (by have := fr2.size; have := HS1.out; omega) X5 (by simp)
  have HX := Lib.hid (And.intro X1 (And.intro X2 (And.intro X3 X6)))
  have HG := Lib.hid (And.intro er1 g1)
  obtain ⟨z0, z1, z2, z3, z4, z5⟩ := zer_six hz2
  obtain ⟨f0, f1, f2, f3, f4, f5⟩ := six_free hz2
  have hq2 := hz2.lt
  clear X1 X2 X3 X4 X5 X6 fd2 fr2 hz2 m8 m2 hs1 n1 er1 g1
  go_wp2_with fail
  rw [set6_fold]
  clear z0 z1 z2 z3 z4 z5 f0 f1 f2 f3 f4 f5
  generalize (set6 w2 w.heap.size (.int .i64 2) (.string { data := #[33] }) (.int .i64 0) (.string { data := #[] }) (.string { data := #[] }) (.slice (some ⟨w2.heap.size, 0, none⟩) 1 1)).alloc (.cells (cs1 t1) 24) = X at HX ⊢
  have y0 : X.cell? ⟨w.heap.size, 0, none⟩ = some (.int .i64 2) := HX.out.2.2.1.cell 0
  have y1 : X.cell? ⟨w.heap.size, 1, none⟩ = some (.string { data := #[33] }) := HX.out.2.2.1.cell 1
  have y2 : X.cell? ⟨w.heap.size, 2, none⟩ = some (.int .i64 0) := HX.out.2.2.1.cell 2
  have y3 : X.cell? ⟨w.heap.size, 3, none⟩ = some (.string { data := #[] }) := HX.out.2.2.1.cell 3
  have y4 : X.cell? ⟨w.heap.size, 4, none⟩ = some (.string { data := #[] }) := HX.out.2.2.1.cell 4
  have y5 : X.cell? ⟨w.heap.size, 5, none⟩ = some (.slice (some ⟨w2.heap.size, 0, none⟩) 1 1) := HX.out.2.2.1.cell 5
  refine bodyPost_ret (v := .agg #[.int .i64 2, .string { data := #[33] }, .int .i64 0, .string { data := #[] }, .string { data := #[] }, .slice (some ⟨w2.heap.size, 0, none⟩) 1 1]) (by simp [results, Tryd.results41, go_sem, y0, y1, y2, y3, y4, y5]) rfl ?_
  exact ⟨.mk 2 [33] 0 [] [] (some ⟨w2.heap.size, 0, none⟩) 1 [t1], rfl, by rw [er_mk, erL_cons, erL_nil, HG.out.1], ⟨right1 (by kernel_rfl) HG.out.2.1, typ1 (by kernel_rfl) HG.out.2.2.1, by rw [size1]; have := HG.out.2.2.2; omega⟩, HX.out.2.2.2, HX.out.1, HX.out.2.1⟩
end Go.Proofs.YtbhjimlikffalaaDoor
