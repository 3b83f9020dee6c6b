/- Layer 9: a comparison that bytes make. -/
import Derived.Test.YtbdfehgofnomhaaDoorQNu
import Derived.Test.YtbdfehgofnomhaaDoorQMe
namespace Go.Proofs.YtbdfehgofnomhaaDoor
open Go.RowKit
set_option linter.unusedVariables false

set_option maxHeartbeats 8000000 in
theorem tru0_p {w0 : World} {K : PK} {bs : List Int} {vs os : List Nm} (hC : PdC w0 K bs vs os) (own kind : Nm) (hown : nameB own = true) (p : Nat) (w : World) (h : Pd w0 p K w) :
    Calls Tryd.prog 77 #[.pointer (some ⟨p, 0, none⟩), .string (str own), .string (str kind), .int .i64 0] w fun e w' => MkP w0 p K 7 w e w' := by
  have hpl := h.lt
  have hqp : w.heap.size ≠ p := by omega
  have h0s := h.size
  obtain ⟨W, hW⟩ : ∃ W, W = w.alloc (.cells zer 47) := ⟨_, rfl⟩
  have bl : Below w.heap.size w W := by rw [hW]; exact (Below.refl _ _).alloc (Nat.le_refl _) _
  have hz : Has W w.heap.size 47 zer := by rw [hW]; exact heap_alloc_new w _
  have hWs : W.heap.size = w.heap.size + 1 := by rw [hW]; simp
  have HN := Lib.hid (next_p hC p W (h.below bl))
  have HW := Lib.hid hW
  have HZ := Lib.hid hz
  have HB := Lib.hid (FrP.below hpl bl)
  have HP := Lib.hid hpl
  have HQ := Lib.hid hqp
  have HS := Lib.hid h0s
  have HWS := Lib.hid hWs
  have HI0 := Lib.hid (num1_p hC own kind hown p)
  clear hW hz bl hpl hqp h0s h hWs hown
  go_enter Tryd.func77, Tryd.ntmps77
  go_wp2_with fail
  rw [← HW.out]
  refine HN.out.mono ?_
  rintro e w1 ⟨x, rfl, hxb, fd1, fr1⟩
  have hz1 := fr1.has HZ.out HQ.out
  have HFD := Lib.hid fd1
  have HFR := Lib.hid (HB.out.trans fr1)
  have HZ1 := Lib.hid hz1
  have HS1 := Lib.hid (show w.heap.size + 1 ≤ w1.heap.size by rw [← HWS.out]; exact fr1.size)
  have m8 := tmod_of hxb.1 8
  have m2 := tmod_of hxb.1 2
  have d8 := tdiv_of hxb.1 8
  clear m2
  obtain ⟨j, hj⟩ : ∃ j : Nat, x / 8 % 8 = (j : Int) := ⟨(x / 8 % 8).toNat, by omega⟩
  obtain ⟨o, hoN, ho1, ho3⟩ := ops8_at j (by omega)
  have HO := Lib.hid (And.intro ho1 ho3)
  clear ho1 ho3
  have m6 : (x / 8).tmod 8 = (j : Int) := by rw [tmod_of (by omega)]; exact hj
  have hj6 : j < 8 := by omega
  have hjI : (j : Int) < 8 := by omega
  have hjz : (0 : Int) ≤ (j : Int) := by omega
  have hw2 : IntKind.i64.wrap (x / 8) = x / 8 := by rw [IntKind.wrap_i64]; omega
  clear fd1 fr1 hz1
  go_wp2_with fail
  refine (HI0.out w1 HFD.out).mono ?_
  rintro e w2 ⟨t1, rfl, g1, n1, fd2, fr2⟩
  simp only [cs1]
  have hz2 := fr2.has HZ1.out HQ.out
  have s2 := step1 w2 (.cells (cs1 t1) 47)
  have hb2 : Has (w2.alloc (.cells (cs1 t1) 47)) w2.heap.size 47 (cs1 t1) := has_at rfl rfl
  have hp2 := fd2.lt
  have hs12 := fr2.size
  obtain ⟨W3, hW3⟩ : ∃ W3, w2.alloc (.cells (cs1 t1) 47) = W3 := ⟨_, rfl⟩
  rw [hW3] at s2 hb2
  have hW3' : w2.alloc (.cells #[.int .i64 t1.k, .string (str t1.op), .int .i64 t1.n, .string (str t1.v), .string (str t1.f), .slice t1.A t1.ks.length t1.c] 47) = W3 := hW3
  have hcE : (W3.alloc (.cells #[.string { data := #[61, 61] }, .string { data := #[33, 61] }, .string { data := #[60] }, .string { data := #[60, 61] }, .string { data := #[62] }, .string { data := #[62, 61] }, .string { data := #[60, 61] }, .string { data := #[62, 61] }] 9)).drew.cell? ⟨W3.heap.size, j, none⟩ = some (.string (str o)) := cell_strs W3 ops8 9 j o hoN
  have hcE3 : ∀ u : World, (u.alloc (.cells #[.string { data := #[61, 61] }, .string { data := #[33, 61] }, .string { data := #[60] }, .string { data := #[60, 61] }, .string { data := #[62] }, .string { data := #[62, 61] }, .string { data := #[60, 61] }, .string { data := #[62, 61] }] 9)).cell? ⟨u.heap.size, j, none⟩ = some (.string (str o)) := fun u => cell_strs u ops8 9 j o hoN
  have hcE4 : ∀ (u : World) (o2 : Obj), ((u.alloc (.cells #[.string { data := #[61, 61] }, .string { data := #[33, 61] }, .string { data := #[60] }, .string { data := #[60, 61] }, .string { data := #[62] }, .string { data := #[62, 61] }, .string { data := #[60, 61] }, .string { data := #[62, 61] }] 9)).alloc o2).cell? ⟨u.heap.size, j, none⟩ = some (.string (str o)) := fun u o2 => (World.cell?_alloc_lt _ _ _ (by simp)).trans (cell_strs u ops8 9 j o hoN)
  have hcE5 : ∀ (u : World) (o2 : Obj), ((u.alloc o2).alloc (.cells #[.string { data := #[61, 61] }, .string { data := #[33, 61] }, .string { data := #[60] }, .string { data := #[60, 61] }, .string { data := #[62] }, .string { data := #[62, 61] }, .string { data := #[60, 61] }, .string { data := #[62, 61] }] 9)).cell? ⟨u.heap.size + 1, j, none⟩ = some (.string (str o)) := fun u o2 => by have := cell_strs (u.alloc o2) ops8 9 j o hoN; rwa [show (u.alloc o2).heap.size = u.heap.size + 1 by simp] at this
  have gen : ∀ (u : World), Below W3.heap.size W3 u → Calls Tryd.prog 80 #[.pointer (some ⟨p, 0, none⟩), .string (str own), .string (str kind), .int .i64 1] u fun e w' => ∃ t2 : ET, e = .returned (.agg (cs1 t2)) ∧ (rightT t2 = true ∧ t2.size ≤ 3) ∧ Nw W3.heap.size w' t2 ∧ Nw w1.heap.size w' t1 ∧ Pd w0 p K w' ∧ FrP p w w' ∧ FrP p u w' ∧ six w' w2.heap.size t1.k t1.op t1.n t1.v t1.f t1.A t1.ks.length t1.c ∧ Has w' w.heap.size 47 zer ∧ W3.heap.size ≤ w'.heap.size := fun u hu => by
    have su := s2.trans (hu.mono s2.size)
    refine (HI0.out u (fd2.below su)).mono ?_
    rintro e w' ⟨t2, he, h1, h3, h4, h5⟩
    refine ⟨t2, he, h1, h3.imp hu.size (fun b _ _ => rfl), (n1.below (Nat.le_refl _) su).fr (Nat.le_refl _) (by have := HFD.out.lt; omega) h5, h4, (HFR.out.trans (fr2.trans (FrP.below hp2 su))).trans h5, h5, six_has (h5.has (hb2.below hu hb2.lt) (by omega)), h5.has (hz2.below su hz2.lt) HQ.out, Nat.le_trans hu.size h5.size⟩
  have HCA := Lib.hid (gen (W3.alloc (.cells #[.string { data := #[61, 61] }, .string { data := #[33, 61] }, .string { data := #[60] }, .string { data := #[60, 61] }, .string { data := #[62] }, .string { data := #[62, 61] }, .string { data := #[60, 61] }, .string { data := #[62, 61] }] 9)).drew ((Below.refl _ W3).alloc (Nat.le_refl _) _).drew)
  have HCB := Lib.hid (gen W3.drew (Below.refl _ W3).drew)
  have HSW : Hid (W3.heap.size = w2.heap.size + 1) := Lib.hid (by rw [← hW3]; simp)
  have HG1 := Lib.hid g1
  have HS12 := Lib.hid hs12
  have HcE := Lib.hid hcE
  have hbq1 : ¬ w2.heap.size = w.heap.size := by have := HS1.out; omega
  have hbq2 : ¬ w.heap.size = w2.heap.size := by have := HS1.out; omega
  obtain ⟨b0, b1, b2, b3, b4, b5⟩ : six (W3.alloc (.cells #[.string { data := #[61, 61] }, .string { data := #[33, 61] }, .string { data := #[60] }, .string { data := #[60, 61] }, .string { data := #[62] }, .string { data := #[62, 61] }, .string { data := #[60, 61] }, .string { data := #[62, 61] }] 9)).drew w2.heap.size t1.k t1.op t1.n t1.v t1.f t1.A t1.ks.length t1.c := six_has (hb2.below ((Below.refl _ W3).alloc (Nat.le_refl _) _).drew hb2.lt)
  obtain ⟨q0, q1, q2, q3, q4, q5⟩ : six W3 w2.heap.size t1.k t1.op t1.n t1.v t1.f t1.A t1.ks.length t1.c := six_has hb2
  clear s2 hb2 hp2 hs12 hW3 n1 g1 fd2 fr2 hz2 gen
  go_wp2_with fail
  go_region_with
    (first
      | (go_at_call 80; refine HCA.out.mono ?_; rintro e w3 ⟨t2, rfl, g2, n2, m2', fd3, fr3, fru, s3, hz3, hsz⟩; simp only [cs1]; have K5 : Hid (w3.cell? ⟨w2.heap.size, 0, none⟩ = some (.int .i64 t1.k) ∧ w3.cell? ⟨w2.heap.size, 1, none⟩ = some (.string (str t1.op)) ∧ w3.cell? ⟨w2.heap.size, 2, none⟩ = some (.int .i64 t1.n) ∧ w3.cell? ⟨w2.heap.size, 3, none⟩ = some (.string (str t1.v)) ∧ w3.cell? ⟨w2.heap.size, 4, none⟩ = some (.string (str t1.f)) ∧ w3.cell? ⟨w2.heap.size, 5, none⟩ = some (.slice t1.A t1.ks.length t1.c)) := Lib.hid s3; obtain ⟨r0, r1, r2, r3, r4, r5⟩ := s3; have hbl3 := World.block_lt_of_cell? _ _ r0; simp only at hbl3; have hq3 := hz3.lt; have kE : w3.cell? ⟨W3.heap.size, j, none⟩ = some (.string (str o)) := (cell_block (fru.block (by simp) (by have := HFD.out.lt; have := HS12.out; have := HSW.out; simp; omega))).trans HcE.out; have hbE := World.block_lt_of_cell? _ _ kE; simp only at hbE; have HG2 := Lib.hid g2; have HN2 := Lib.hid n2; have HM2 := Lib.hid m2'; have HF3 := Lib.hid fd3; have HR3 := Lib.hid fr3; have HZ3 := Lib.hid hz3; have HSZ := Lib.hid hsz; obtain ⟨z0, z1, z2, z3, z4, z5⟩ := zer_six hz3; obtain ⟨f0, f1, f2, f3, f4, f5⟩ := six_free hz3; clear fru hz3 hsz fd3 fr3 n2 m2' g2)
      | (go_at_call 80; refine HCB.out.mono ?_; rintro e w3 ⟨t2, rfl, g2, n2, m2', fd3, fr3, fru, s3, hz3, hsz⟩; simp only [cs1]; have K5 : Hid (w3.cell? ⟨w2.heap.size, 0, none⟩ = some (.int .i64 t1.k) ∧ w3.cell? ⟨w2.heap.size, 1, none⟩ = some (.string (str t1.op)) ∧ w3.cell? ⟨w2.heap.size, 2, none⟩ = some (.int .i64 t1.n) ∧ w3.cell? ⟨w2.heap.size, 3, none⟩ = some (.string (str t1.v)) ∧ w3.cell? ⟨w2.heap.size, 4, none⟩ = some (.string (str t1.f)) ∧ w3.cell? ⟨w2.heap.size, 5, none⟩ = some (.slice t1.A t1.ks.length t1.c)) := Lib.hid s3; obtain ⟨r0, r1, r2, r3, r4, r5⟩ := s3; have hbl3 := World.block_lt_of_cell? _ _ r0; simp only at hbl3; have hq3 := hz3.lt; have HG2 := Lib.hid g2; have HN2 := Lib.hid n2; have HM2 := Lib.hid m2'; have HF3 := Lib.hid fd3; have HR3 := Lib.hid fr3; have HZ3 := Lib.hid hz3; have HSZ := Lib.hid hsz; obtain ⟨z0, z1, z2, z3, z4, z5⟩ := zer_six hz3; obtain ⟨f0, f1, f2, f3, f4, f5⟩ := six_free hz3; clear fru hz3 hsz fd3 fr3 n2 m2' g2))
  all_goals go_wp2_with fail
  all_goals rw [set6_fold]
  all_goals clear z0 z1 z2 z3 z4 z5 f0 f1 f2 f3 f4 f5
  all_goals have P0 := pq_ofP (o := o) HP.out HS.out HZ3.out HF3.out HR3.out (by have := HS1.out; have := HSW.out; have := HS12.out; omega) (by have := HS1.out; omega) HN2.out HM2.out
  all_goals clear HF3 HR3 HZ3 HN2 HM2 HCA HCB HI0 hcE3 hcE4 hcE5 HcE
  all_goals first
    | (have HX := Lib.hid (And.intro ((P0 ⟨w3.heap.size, 0, none⟩).alloc (.cells (cs2 t1 t2) 47)) (has_at (w := set6 w3 w.heap.size (.int .i64 3) (.string (str o)) (.int .i64 0) (.string { data := #[] }) (.string { data := #[] }) (.slice (some ⟨w3.heap.size, 0, none⟩) 2 2)) (q := w3.heap.size) (o := .cells (cs2 t1 t2) 47) rfl (set6_size _ _ _ _ _ _).symm))
       generalize (set6 w3 w.heap.size (.int .i64 3) (.string (str o)) (.int .i64 0) (.string { data := #[] }) (.string { data := #[] }) (.slice (some ⟨w3.heap.size, 0, none⟩) 2 2)).alloc (.cells (cs2 t1 t2) 47) = X at HX ⊢
       have y0 : X.cell? ⟨w.heap.size, 0, none⟩ = some (.int .i64 3) := HX.out.1.2.2.1.cell 0
       have y1 : X.cell? ⟨w.heap.size, 1, none⟩ = some (.string (str o)) := HX.out.1.2.2.1.cell 1
       have y2 : X.cell? ⟨w.heap.size, 2, none⟩ = some (.int .i64 0) := HX.out.1.2.2.1.cell 2
       have y3 : X.cell? ⟨w.heap.size, 3, none⟩ = some (.string { data := #[] }) := HX.out.1.2.2.1.cell 3
       have y4 : X.cell? ⟨w.heap.size, 4, none⟩ = some (.string { data := #[] }) := HX.out.1.2.2.1.cell 4
       have y5 : X.cell? ⟨w.heap.size, 5, none⟩ = some (.slice (some ⟨w3.heap.size, 0, none⟩) 2 2) := HX.out.1.2.2.1.cell 5
       refine bodyPost_ret (v := .agg #[.int .i64 3, .string (str o), .int .i64 0, .string { data := #[] }, .string { data := #[] }, .slice (some ⟨w3.heap.size, 0, none⟩) 2 2]) (by first | (simp [results, Tryd.results77, go_sem, y0, y1, y2, y3, y4, y5]; done) | fail) rfl ?_
       exact bi_mkP (S := 3) HO.out.1 HO.out.2 HG1.out HG2.out HX.out.1 HX.out.2 (by have := HS1.out; have := HSZ.out; have := HSW.out; have := HS12.out; omega))
    | (have HX := Lib.hid (And.intro (((P0 ⟨w3.heap.size + 1, 0, none⟩).alloc (.cells #[.string { data := #[61, 61] }, .string { data := #[33, 61] }, .string { data := #[60] }, .string { data := #[60, 61] }, .string { data := #[62] }, .string { data := #[62, 61] }, .string { data := #[60, 61] }, .string { data := #[62, 61] }] 9)).alloc (.cells (cs2 t1 t2) 47)) (has_at (w := (set6 w3 w.heap.size (.int .i64 3) (.string (str o)) (.int .i64 0) (.string { data := #[] }) (.string { data := #[] }) (.slice (some ⟨w3.heap.size + 1, 0, none⟩) 2 2)).alloc (.cells #[.string { data := #[61, 61] }, .string { data := #[33, 61] }, .string { data := #[60] }, .string { data := #[60, 61] }, .string { data := #[62] }, .string { data := #[62, 61] }, .string { data := #[60, 61] }, .string { data := #[62, 61] }] 9)) (q := w3.heap.size + 1) (o := .cells (cs2 t1 t2) 47) rfl (by rw [show ((set6 w3 w.heap.size (.int .i64 3) (.string (str o)) (.int .i64 0) (.string { data := #[] }) (.string { data := #[] }) (.slice (some ⟨w3.heap.size + 1, 0, none⟩) 2 2)).alloc (.cells #[.string { data := #[61, 61] }, .string { data := #[33, 61] }, .string { data := #[60] }, .string { data := #[60, 61] }, .string { data := #[62] }, .string { data := #[62, 61] }, .string { data := #[60, 61] }, .string { data := #[62, 61] }] 9)).heap.size = (set6 w3 w.heap.size (.int .i64 3) (.string (str o)) (.int .i64 0) (.string { data := #[] }) (.string { data := #[] }) (.slice (some ⟨w3.heap.size + 1, 0, none⟩) 2 2)).heap.size + 1 by simp, set6_size])))
       generalize ((set6 w3 w.heap.size (.int .i64 3) (.string (str o)) (.int .i64 0) (.string { data := #[] }) (.string { data := #[] }) (.slice (some ⟨w3.heap.size + 1, 0, none⟩) 2 2)).alloc (.cells #[.string { data := #[61, 61] }, .string { data := #[33, 61] }, .string { data := #[60] }, .string { data := #[60, 61] }, .string { data := #[62] }, .string { data := #[62, 61] }, .string { data := #[60, 61] }, .string { data := #[62, 61] }] 9)).alloc (.cells (cs2 t1 t2) 47) = X at HX ⊢
       have y0 : X.cell? ⟨w.heap.size, 0, none⟩ = some (.int .i64 3) := HX.out.1.2.2.1.cell 0
       have y1 : X.cell? ⟨w.heap.size, 1, none⟩ = some (.string (str o)) := HX.out.1.2.2.1.cell 1
       have y2 : X.cell? ⟨w.heap.size, 2, none⟩ = some (.int .i64 0) := HX.out.1.2.2.1.cell 2
       have y3 : X.cell? ⟨w.heap.size, 3, none⟩ = some (.string { data := #[] }) := HX.out.1.2.2.1.cell 3
       have y4 : X.cell? ⟨w.heap.size, 4, none⟩ = some (.string { data := #[] }) := HX.out.1.2.2.1.cell 4
       have y5 : X.cell? ⟨w.heap.size, 5, none⟩ = some (.slice (some ⟨w3.heap.size + 1, 0, none⟩) 2 2) := HX.out.1.2.2.1.cell 5
       refine bodyPost_ret (v := .agg #[.int .i64 3, .string (str o), .int .i64 0, .string { data := #[] }, .string { data := #[] }, .slice (some ⟨w3.heap.size + 1, 0, none⟩) 2 2]) (by first | (simp [results, Tryd.results77, go_sem, y0, y1, y2, y3, y4, y5]; done) | fail) rfl ?_
       exact bi_mkP (S := 3) HO.out.1 HO.out.2 HG1.out HG2.out HX.out.1 HX.out.2 (by have := HS1.out; have := HSZ.out; have := HSW.out; have := HS12.out; omega))
    | (have HX := Lib.hid (And.intro (((P0 ⟨w3.heap.size, 0, none⟩).alloc (.cells (cs2 t1 t2) 47)).alloc (.cells #[.string { data := #[61, 61] }, .string { data := #[33, 61] }, .string { data := #[60] }, .string { data := #[60, 61] }, .string { data := #[62] }, .string { data := #[62, 61] }, .string { data := #[60, 61] }, .string { data := #[62, 61] }] 9)) ((has_at (w := set6 w3 w.heap.size (.int .i64 3) (.string (str o)) (.int .i64 0) (.string { data := #[] }) (.string { data := #[] }) (.slice (some ⟨w3.heap.size, 0, none⟩) 2 2)) (q := w3.heap.size) (o := .cells (cs2 t1 t2) 47) rfl (set6_size _ _ _ _ _ _).symm : Has _ _ _ _).below (step1 ((set6 w3 w.heap.size (.int .i64 3) (.string (str o)) (.int .i64 0) (.string { data := #[] }) (.string { data := #[] }) (.slice (some ⟨w3.heap.size, 0, none⟩) 2 2)).alloc (.cells (cs2 t1 t2) 47)) (.cells #[.string { data := #[61, 61] }, .string { data := #[33, 61] }, .string { data := #[60] }, .string { data := #[60, 61] }, .string { data := #[62] }, .string { data := #[62, 61] }, .string { data := #[60, 61] }, .string { data := #[62, 61] }] 9)) (by simp [set6_size])))
       generalize ((set6 w3 w.heap.size (.int .i64 3) (.string (str o)) (.int .i64 0) (.string { data := #[] }) (.string { data := #[] }) (.slice (some ⟨w3.heap.size, 0, none⟩) 2 2)).alloc (.cells (cs2 t1 t2) 47)).alloc (.cells #[.string { data := #[61, 61] }, .string { data := #[33, 61] }, .string { data := #[60] }, .string { data := #[60, 61] }, .string { data := #[62] }, .string { data := #[62, 61] }, .string { data := #[60, 61] }, .string { data := #[62, 61] }] 9) = X at HX ⊢
       have y0 : X.cell? ⟨w.heap.size, 0, none⟩ = some (.int .i64 3) := HX.out.1.2.2.1.cell 0
       have y1 : X.cell? ⟨w.heap.size, 1, none⟩ = some (.string (str o)) := HX.out.1.2.2.1.cell 1
       have y2 : X.cell? ⟨w.heap.size, 2, none⟩ = some (.int .i64 0) := HX.out.1.2.2.1.cell 2
       have y3 : X.cell? ⟨w.heap.size, 3, none⟩ = some (.string { data := #[] }) := HX.out.1.2.2.1.cell 3
       have y4 : X.cell? ⟨w.heap.size, 4, none⟩ = some (.string { data := #[] }) := HX.out.1.2.2.1.cell 4
       have y5 : X.cell? ⟨w.heap.size, 5, none⟩ = some (.slice (some ⟨w3.heap.size, 0, none⟩) 2 2) := HX.out.1.2.2.1.cell 5
       refine bodyPost_ret (v := .agg #[.int .i64 3, .string (str o), .int .i64 0, .string { data := #[] }, .string { data := #[] }, .slice (some ⟨w3.heap.size, 0, none⟩) 2 2]) (by first | (simp [results, Tryd.results77, go_sem, y0, y1, y2, y3, y4, y5]; done) | fail) rfl ?_
       exact bi_mkP (S := 3) HO.out.1 HO.out.2 HG1.out HG2.out HX.out.1 HX.out.2 (by have := HS1.out; have := HSZ.out; have := HSW.out; have := HS12.out; omega))
end Go.Proofs.YtbdfehgofnomhaaDoor
/- Layer 9: a truth that bytes make, at depth 1. -/
namespace Go.Proofs.YtbdfehgofnomhaaDoor
open Go.RowKit
set_option linter.unusedVariables false

set_option maxHeartbeats 8000000 in
theorem tru1_p {w0 : World} {K : PK} {bs : List Int} {vs os : List Nm} (hC : PdC w0 K bs vs os) (own kind : Nm) (hown : nameB own = true) (p : Nat) (w : World) (h : Pd w0 p K w) :
    Calls Tryd.prog 77 #[.pointer (some ⟨p, 0, none⟩), .string (str own), .string (str kind), .int .i64 1] w fun e w' => MkP w0 p K 15 w e w' := by
  have hpl := h.lt
  have hqp : w.heap.size ≠ p := by omega
  have h0s := h.size
  obtain ⟨W, hW⟩ : ∃ W, W = w.alloc (.cells zer 47) := ⟨_, rfl⟩
  have bl : Below w.heap.size w W := by rw [hW]; exact (Below.refl _ _).alloc (Nat.le_refl _) _
  have hz : Has W w.heap.size 47 zer := by rw [hW]; exact heap_alloc_new w _
  have hWs : W.heap.size = w.heap.size + 1 := by rw [hW]; simp
  have HN := Lib.hid (next_p hC p W (h.below bl))
  have HW := Lib.hid hW
  have HZ := Lib.hid hz
  have HB := Lib.hid (FrP.below hpl bl)
  have HP := Lib.hid hpl
  have HQ := Lib.hid hqp
  have HS := Lib.hid h0s
  have HWS := Lib.hid hWs
  have HI0 := Lib.hid (num1_p hC own kind hown p)
  have HI1 := Lib.hid (tru0_p hC own kind hown p)
  clear hW hz bl hpl hqp h0s h hWs hown
  go_enter Tryd.func77, Tryd.ntmps77
  go_wp2_with fail
  rw [← HW.out]
  refine HN.out.mono ?_
  rintro e w1 ⟨x, rfl, hxb, fd1, fr1⟩
  have hz1 := fr1.has HZ.out HQ.out
  have HFD := Lib.hid fd1
  have HFR := Lib.hid (HB.out.trans fr1)
  have HZ1 := Lib.hid hz1
  have HS1 := Lib.hid (show w.heap.size + 1 ≤ w1.heap.size by rw [← HWS.out]; exact fr1.size)
  have m8 := tmod_of hxb.1 8
  have m2 := tmod_of hxb.1 2
  have d8 := tdiv_of hxb.1 8
  have hk : x % 8 = 0 ∨ (¬ x % 8 = 0 ∧ x % 8 < 3) ∨ (¬ x % 8 < 3) := by omega
  rcases hk with h0 | ⟨h0, h3⟩ | h3
  · clear HI0
    rw [h0] at m8
    clear fd1 fr1 hz1
    go_wp2_with fail
    refine (HI1.out w1 HFD.out).mono ?_
    rintro e w2 ⟨t1, rfl, g1, n1, fd2, fr2⟩
    simp only [cs1]
    have hz2 := fr2.has HZ1.out HQ.out
    obtain ⟨-, X1, X2, X3⟩ := end_storeP HP.out HS.out hz2 fd2 (HFR.out.trans fr2) (.int .i64 2) (.string { data := #[33] }) (.int .i64 0) (.string { data := #[] }) (.string { data := #[] }) (.slice (some ⟨w2.heap.size, 0, none⟩) 1 1) (.cells (cs1 t1) 47)
    have hs1 := set6_size (w := w2) (q := w.heap.size) (.int .i64 2) (.string { data := #[33] }) (.int .i64 0) (.string { data := #[] }) (.string { data := #[] }) (.slice (some ⟨w2.heap.size, 0, none⟩) 1 1)
    have X4 : Has ((set6 w2 w.heap.size (.int .i64 2) (.string { data := #[33] }) (.int .i64 0) (.string { data := #[] }) (.string { data := #[] }) (.slice (some ⟨w2.heap.size, 0, none⟩) 1 1)).alloc (.cells (cs1 t1) 47)) w2.heap.size 47 (cs1 t1) := has_at rfl hs1.symm
    have X5 : Nw w.heap.size ((set6 w2 w.heap.size (.int .i64 2) (.string { data := #[33] }) (.int .i64 0) (.string { data := #[] }) (.string { data := #[] }) (.slice (some ⟨w2.heap.size, 0, none⟩) 1 1)).alloc (.cells (cs1 t1) 47)) t1 := (n1.set (N' := w.heap.size) (by have := HS1.out; omega) (by have := HS1.out; omega) (.int .i64 2) (.string { data := #[33] }) (.int .i64 0) (.string { data := #[] }) (.string { data := #[] }) (.slice (some ⟨w2.heap.size, 0, none⟩) 1 1)).below (Nat.le_refl _) (step1 _ _)
    have X6 := nw1 (N := w.heap.size) 2 [33] X4 (by have := fr2.size; have := HS1.out; omega) X5 (by simp)
    have HX := Lib.hid (And.intro X1 (And.intro X2 (And.intro X3 X6)))
    have HG := Lib.hid g1
    obtain ⟨z0, z1, z2, z3, z4, z5⟩ := zer_six hz2
    obtain ⟨f0, f1, f2, f3, f4, f5⟩ := six_free hz2
    have hq2 := hz2.lt
    clear X1 X2 X3 X4 X5 X6 fd2 fr2 hz2 m8 m2 hs1 n1 g1
    go_wp2_with fail
    rw [set6_fold]
    clear z0 z1 z2 z3 z4 z5 f0 f1 f2 f3 f4 f5
    generalize (set6 w2 w.heap.size (.int .i64 2) (.string { data := #[33] }) (.int .i64 0) (.string { data := #[] }) (.string { data := #[] }) (.slice (some ⟨w2.heap.size, 0, none⟩) 1 1)).alloc (.cells (cs1 t1) 47) = X at HX ⊢
    have y0 : X.cell? ⟨w.heap.size, 0, none⟩ = some (.int .i64 2) := HX.out.2.2.1.cell 0
    have y1 : X.cell? ⟨w.heap.size, 1, none⟩ = some (.string { data := #[33] }) := HX.out.2.2.1.cell 1
    have y2 : X.cell? ⟨w.heap.size, 2, none⟩ = some (.int .i64 0) := HX.out.2.2.1.cell 2
    have y3 : X.cell? ⟨w.heap.size, 3, none⟩ = some (.string { data := #[] }) := HX.out.2.2.1.cell 3
    have y4 : X.cell? ⟨w.heap.size, 4, none⟩ = some (.string { data := #[] }) := HX.out.2.2.1.cell 4
    have y5 : X.cell? ⟨w.heap.size, 5, none⟩ = some (.slice (some ⟨w2.heap.size, 0, none⟩) 1 1) := HX.out.2.2.1.cell 5
    refine bodyPost_ret (v := .agg #[.int .i64 2, .string { data := #[33] }, .int .i64 0, .string { data := #[] }, .string { data := #[] }, .slice (some ⟨w2.heap.size, 0, none⟩) 1 1]) (by simp [results, Tryd.results77, go_sem, y0, y1, y2, y3, y4, y5]) rfl ?_
    exact ⟨.mk 2 [33] 0 [] [] (some ⟨w2.heap.size, 0, none⟩) 1 [t1], rfl, ⟨right1 (by kernel_rfl) HG.out.1, by rw [size1]; have := HG.out.2; omega⟩, HX.out.2.2.2, HX.out.1, HX.out.2.1⟩
  · clear HI0 m2
    have e0 : (x % 8 == 0) = false := by simpa using h0
    obtain ⟨j, hj⟩ : ∃ j : Nat, x / 8 % 2 = (j : Int) := ⟨(x / 8 % 2).toNat, by omega⟩
    obtain ⟨o, hoN, ho1, ho3⟩ := ops2_at j (by omega)
    have HO := Lib.hid (And.intro ho1 ho3)
    clear ho1 ho3
    have m6 : (x / 8).tmod 2 = (j : Int) := by rw [tmod_of (by omega)]; exact hj
    have hj6 : j < 2 := by omega
    have hjI : (j : Int) < 2 := by omega
    have hjz : (0 : Int) ≤ (j : Int) := by omega
    have hw2 : IntKind.i64.wrap (x / 8) = x / 8 := by rw [IntKind.wrap_i64]; omega
    clear fd1 fr1 hz1
    go_wp2_with fail
    refine (HI1.out w1 HFD.out).mono ?_
    rintro e w2 ⟨t1, rfl, g1, n1, fd2, fr2⟩
    simp only [cs1]
    have hz2 := fr2.has HZ1.out HQ.out
    have s2 := step1 w2 (.cells (cs1 t1) 47)
    have hb2 : Has (w2.alloc (.cells (cs1 t1) 47)) w2.heap.size 47 (cs1 t1) := has_at rfl rfl
    have hp2 := fd2.lt
    have hs12 := fr2.size
    obtain ⟨W3, hW3⟩ : ∃ W3, w2.alloc (.cells (cs1 t1) 47) = W3 := ⟨_, rfl⟩
    rw [hW3] at s2 hb2
    have hW3' : w2.alloc (.cells #[.int .i64 t1.k, .string (str t1.op), .int .i64 t1.n, .string (str t1.v), .string (str t1.f), .slice t1.A t1.ks.length t1.c] 47) = W3 := hW3
    have hcE : (W3.alloc (.cells #[.string { data := #[38, 38] }, .string { data := #[124, 124] }] 9)).drew.cell? ⟨W3.heap.size, j, none⟩ = some (.string (str o)) := cell_strs W3 ops2 9 j o hoN
    have hcE3 : ∀ u : World, (u.alloc (.cells #[.string { data := #[38, 38] }, .string { data := #[124, 124] }] 9)).cell? ⟨u.heap.size, j, none⟩ = some (.string (str o)) := fun u => cell_strs u ops2 9 j o hoN
    have hcE4 : ∀ (u : World) (o2 : Obj), ((u.alloc (.cells #[.string { data := #[38, 38] }, .string { data := #[124, 124] }] 9)).alloc o2).cell? ⟨u.heap.size, j, none⟩ = some (.string (str o)) := fun u o2 => (World.cell?_alloc_lt _ _ _ (by simp)).trans (cell_strs u ops2 9 j o hoN)
    have hcE5 : ∀ (u : World) (o2 : Obj), ((u.alloc o2).alloc (.cells #[.string { data := #[38, 38] }, .string { data := #[124, 124] }] 9)).cell? ⟨u.heap.size + 1, j, none⟩ = some (.string (str o)) := fun u o2 => by have := cell_strs (u.alloc o2) ops2 9 j o hoN; rwa [show (u.alloc o2).heap.size = u.heap.size + 1 by simp] at this
    have gen : ∀ (u : World), Below W3.heap.size W3 u → Calls Tryd.prog 77 #[.pointer (some ⟨p, 0, none⟩), .string (str own), .string (str kind), .int .i64 0] u fun e w' => ∃ t2 : ET, e = .returned (.agg (cs1 t2)) ∧ (rightT t2 = true ∧ t2.size ≤ 7) ∧ Nw W3.heap.size w' t2 ∧ Nw w1.heap.size w' t1 ∧ Pd w0 p K w' ∧ FrP p w w' ∧ FrP p u w' ∧ six w' w2.heap.size t1.k t1.op t1.n t1.v t1.f t1.A t1.ks.length t1.c ∧ Has w' w.heap.size 47 zer ∧ W3.heap.size ≤ w'.heap.size := fun u hu => by
      have su := s2.trans (hu.mono s2.size)
      refine (HI1.out u (fd2.below su)).mono ?_
      rintro e w' ⟨t2, he, h1, h3, h4, h5⟩
      refine ⟨t2, he, h1, h3.imp hu.size (fun b _ _ => rfl), (n1.below (Nat.le_refl _) su).fr (Nat.le_refl _) (by have := HFD.out.lt; omega) h5, h4, (HFR.out.trans (fr2.trans (FrP.below hp2 su))).trans h5, h5, six_has (h5.has (hb2.below hu hb2.lt) (by omega)), h5.has (hz2.below su hz2.lt) HQ.out, Nat.le_trans hu.size h5.size⟩
    have HCA := Lib.hid (gen (W3.alloc (.cells #[.string { data := #[38, 38] }, .string { data := #[124, 124] }] 9)).drew ((Below.refl _ W3).alloc (Nat.le_refl _) _).drew)
    have HCB := Lib.hid (gen W3.drew (Below.refl _ W3).drew)
    have HSW : Hid (W3.heap.size = w2.heap.size + 1) := Lib.hid (by rw [← hW3]; simp)
    have HG1 := Lib.hid g1
    have HS12 := Lib.hid hs12
    have HcE := Lib.hid hcE
    have hbq1 : ¬ w2.heap.size = w.heap.size := by have := HS1.out; omega
    have hbq2 : ¬ w.heap.size = w2.heap.size := by have := HS1.out; omega
    obtain ⟨b0, b1, b2, b3, b4, b5⟩ : six (W3.alloc (.cells #[.string { data := #[38, 38] }, .string { data := #[124, 124] }] 9)).drew w2.heap.size t1.k t1.op t1.n t1.v t1.f t1.A t1.ks.length t1.c := six_has (hb2.below ((Below.refl _ W3).alloc (Nat.le_refl _) _).drew hb2.lt)
    obtain ⟨q0, q1, q2, q3, q4, q5⟩ : six W3 w2.heap.size t1.k t1.op t1.n t1.v t1.f t1.A t1.ks.length t1.c := six_has hb2
    clear s2 hb2 hp2 hs12 hW3 n1 g1 fd2 fr2 hz2 gen
    go_wp2_with fail
    go_region_with
      (first
        | (go_at_call 77; refine HCA.out.mono ?_; rintro e w3 ⟨t2, rfl, g2, n2, m2', fd3, fr3, fru, s3, hz3, hsz⟩; simp only [cs1]; have K5 : Hid (w3.cell? ⟨w2.heap.size, 0, none⟩ = some (.int .i64 t1.k) ∧ w3.cell? ⟨w2.heap.size, 1, none⟩ = some (.string (str t1.op)) ∧ w3.cell? ⟨w2.heap.size, 2, none⟩ = some (.int .i64 t1.n) ∧ w3.cell? ⟨w2.heap.size, 3, none⟩ = some (.string (str t1.v)) ∧ w3.cell? ⟨w2.heap.size, 4, none⟩ = some (.string (str t1.f)) ∧ w3.cell? ⟨w2.heap.size, 5, none⟩ = some (.slice t1.A t1.ks.length t1.c)) := Lib.hid s3; obtain ⟨r0, r1, r2, r3, r4, r5⟩ := s3; have hbl3 := World.block_lt_of_cell? _ _ r0; simp only at hbl3; have hq3 := hz3.lt; have kE : w3.cell? ⟨W3.heap.size, j, none⟩ = some (.string (str o)) := (cell_block (fru.block (by simp) (by have := HFD.out.lt; have := HS12.out; have := HSW.out; simp; omega))).trans HcE.out; have hbE := World.block_lt_of_cell? _ _ kE; simp only at hbE; have HG2 := Lib.hid g2; have HN2 := Lib.hid n2; have HM2 := Lib.hid m2'; have HF3 := Lib.hid fd3; have HR3 := Lib.hid fr3; have HZ3 := Lib.hid hz3; have HSZ := Lib.hid hsz; obtain ⟨z0, z1, z2, z3, z4, z5⟩ := zer_six hz3; obtain ⟨f0, f1, f2, f3, f4, f5⟩ := six_free hz3; clear fru hz3 hsz fd3 fr3 n2 m2' g2)
        | (go_at_call 77; refine HCB.out.mono ?_; rintro e w3 ⟨t2, rfl, g2, n2, m2', fd3, fr3, fru, s3, hz3, hsz⟩; simp only [cs1]; have K5 : Hid (w3.cell? ⟨w2.heap.size, 0, none⟩ = some (.int .i64 t1.k) ∧ w3.cell? ⟨w2.heap.size, 1, none⟩ = some (.string (str t1.op)) ∧ w3.cell? ⟨w2.heap.size, 2, none⟩ = some (.int .i64 t1.n) ∧ w3.cell? ⟨w2.heap.size, 3, none⟩ = some (.string (str t1.v)) ∧ w3.cell? ⟨w2.heap.size, 4, none⟩ = some (.string (str t1.f)) ∧ w3.cell? ⟨w2.heap.size, 5, none⟩ = some (.slice t1.A t1.ks.length t1.c)) := Lib.hid s3; obtain ⟨r0, r1, r2, r3, r4, r5⟩ := s3; have hbl3 := World.block_lt_of_cell? _ _ r0; simp only at hbl3; have hq3 := hz3.lt; have HG2 := Lib.hid g2; have HN2 := Lib.hid n2; have HM2 := Lib.hid m2'; have HF3 := Lib.hid fd3; have HR3 := Lib.hid fr3; have HZ3 := Lib.hid hz3; have HSZ := Lib.hid hsz; obtain ⟨z0, z1, z2, z3, z4, z5⟩ := zer_six hz3; obtain ⟨f0, f1, f2, f3, f4, f5⟩ := six_free hz3; clear fru hz3 hsz fd3 fr3 n2 m2' g2))
    all_goals go_wp2_with fail
    all_goals rw [set6_fold]
    all_goals clear z0 z1 z2 z3 z4 z5 f0 f1 f2 f3 f4 f5
    all_goals have P0 := pq_ofP (o := o) HP.out HS.out HZ3.out HF3.out HR3.out (by have := HS1.out; have := HSW.out; have := HS12.out; omega) (by have := HS1.out; omega) HN2.out HM2.out
    all_goals clear HF3 HR3 HZ3 HN2 HM2 HCA HCB HI1 hcE3 hcE4 hcE5 HcE
    all_goals first
      | (have HX := Lib.hid (And.intro ((P0 ⟨w3.heap.size, 0, none⟩).alloc (.cells (cs2 t1 t2) 47)) (has_at (w := set6 w3 w.heap.size (.int .i64 3) (.string (str o)) (.int .i64 0) (.string { data := #[] }) (.string { data := #[] }) (.slice (some ⟨w3.heap.size, 0, none⟩) 2 2)) (q := w3.heap.size) (o := .cells (cs2 t1 t2) 47) rfl (set6_size _ _ _ _ _ _).symm))
         generalize (set6 w3 w.heap.size (.int .i64 3) (.string (str o)) (.int .i64 0) (.string { data := #[] }) (.string { data := #[] }) (.slice (some ⟨w3.heap.size, 0, none⟩) 2 2)).alloc (.cells (cs2 t1 t2) 47) = X at HX ⊢
         have y0 : X.cell? ⟨w.heap.size, 0, none⟩ = some (.int .i64 3) := HX.out.1.2.2.1.cell 0
         have y1 : X.cell? ⟨w.heap.size, 1, none⟩ = some (.string (str o)) := HX.out.1.2.2.1.cell 1
         have y2 : X.cell? ⟨w.heap.size, 2, none⟩ = some (.int .i64 0) := HX.out.1.2.2.1.cell 2
         have y3 : X.cell? ⟨w.heap.size, 3, none⟩ = some (.string { data := #[] }) := HX.out.1.2.2.1.cell 3
         have y4 : X.cell? ⟨w.heap.size, 4, none⟩ = some (.string { data := #[] }) := HX.out.1.2.2.1.cell 4
         have y5 : X.cell? ⟨w.heap.size, 5, none⟩ = some (.slice (some ⟨w3.heap.size, 0, none⟩) 2 2) := HX.out.1.2.2.1.cell 5
         refine bodyPost_ret (v := .agg #[.int .i64 3, .string (str o), .int .i64 0, .string { data := #[] }, .string { data := #[] }, .slice (some ⟨w3.heap.size, 0, none⟩) 2 2]) (by first | (simp [results, Tryd.results77, go_sem, y0, y1, y2, y3, y4, y5]; done) | fail) rfl ?_
         exact bi_mkP (S := 7) HO.out.1 HO.out.2 HG1.out HG2.out HX.out.1 HX.out.2 (by have := HS1.out; have := HSZ.out; have := HSW.out; have := HS12.out; omega))
      | (have HX := Lib.hid (And.intro (((P0 ⟨w3.heap.size + 1, 0, none⟩).alloc (.cells #[.string { data := #[38, 38] }, .string { data := #[124, 124] }] 9)).alloc (.cells (cs2 t1 t2) 47)) (has_at (w := (set6 w3 w.heap.size (.int .i64 3) (.string (str o)) (.int .i64 0) (.string { data := #[] }) (.string { data := #[] }) (.slice (some ⟨w3.heap.size + 1, 0, none⟩) 2 2)).alloc (.cells #[.string { data := #[38, 38] }, .string { data := #[124, 124] }] 9)) (q := w3.heap.size + 1) (o := .cells (cs2 t1 t2) 47) rfl (by rw [show ((set6 w3 w.heap.size (.int .i64 3) (.string (str o)) (.int .i64 0) (.string { data := #[] }) (.string { data := #[] }) (.slice (some ⟨w3.heap.size + 1, 0, none⟩) 2 2)).alloc (.cells #[.string { data := #[38, 38] }, .string { data := #[124, 124] }] 9)).heap.size = (set6 w3 w.heap.size (.int .i64 3) (.string (str o)) (.int .i64 0) (.string { data := #[] }) (.string { data := #[] }) (.slice (some ⟨w3.heap.size + 1, 0, none⟩) 2 2)).heap.size + 1 by simp, set6_size])))
         generalize ((set6 w3 w.heap.size (.int .i64 3) (.string (str o)) (.int .i64 0) (.string { data := #[] }) (.string { data := #[] }) (.slice (some ⟨w3.heap.size + 1, 0, none⟩) 2 2)).alloc (.cells #[.string { data := #[38, 38] }, .string { data := #[124, 124] }] 9)).alloc (.cells (cs2 t1 t2) 47) = X at HX ⊢
         have y0 : X.cell? ⟨w.heap.size, 0, none⟩ = some (.int .i64 3) := HX.out.1.2.2.1.cell 0
         have y1 : X.cell? ⟨w.heap.size, 1, none⟩ = some (.string (str o)) := HX.out.1.2.2.1.cell 1
         have y2 : X.cell? ⟨w.heap.size, 2, none⟩ = some (.int .i64 0) := HX.out.1.2.2.1.cell 2
         have y3 : X.cell? ⟨w.heap.size, 3, none⟩ = some (.string { data := #[] }) := HX.out.1.2.2.1.cell 3
         have y4 : X.cell? ⟨w.heap.size, 4, none⟩ = some (.string { data := #[] }) := HX.out.1.2.2.1.cell 4
         have y5 : X.cell? ⟨w.heap.size, 5, none⟩ = some (.slice (some ⟨w3.heap.size + 1, 0, none⟩) 2 2) := HX.out.1.2.2.1.cell 5
         refine bodyPost_ret (v := .agg #[.int .i64 3, .string (str o), .int .i64 0, .string { data := #[] }, .string { data := #[] }, .slice (some ⟨w3.heap.size + 1, 0, none⟩) 2 2]) (by first | (simp [results, Tryd.results77, go_sem, y0, y1, y2, y3, y4, y5]; done) | fail) rfl ?_
         exact bi_mkP (S := 7) HO.out.1 HO.out.2 HG1.out HG2.out HX.out.1 HX.out.2 (by have := HS1.out; have := HSZ.out; have := HSW.out; have := HS12.out; omega))
      | (have HX := Lib.hid (And.intro (((P0 ⟨w3.heap.size, 0, none⟩).alloc (.cells (cs2 t1 t2) 47)).alloc (.cells #[.string { data := #[38, 38] }, .string { data := #[124, 124] }] 9)) ((has_at (w := set6 w3 w.heap.size (.int .i64 3) (.string (str o)) (.int .i64 0) (.string { data := #[] }) (.string { data := #[] }) (.slice (some ⟨w3.heap.size, 0, none⟩) 2 2)) (q := w3.heap.size) (o := .cells (cs2 t1 t2) 47) rfl (set6_size _ _ _ _ _ _).symm : Has _ _ _ _).below (step1 ((set6 w3 w.heap.size (.int .i64 3) (.string (str o)) (.int .i64 0) (.string { data := #[] }) (.string { data := #[] }) (.slice (some ⟨w3.heap.size, 0, none⟩) 2 2)).alloc (.cells (cs2 t1 t2) 47)) (.cells #[.string { data := #[38, 38] }, .string { data := #[124, 124] }] 9)) (by simp [set6_size])))
         generalize ((set6 w3 w.heap.size (.int .i64 3) (.string (str o)) (.int .i64 0) (.string { data := #[] }) (.string { data := #[] }) (.slice (some ⟨w3.heap.size, 0, none⟩) 2 2)).alloc (.cells (cs2 t1 t2) 47)).alloc (.cells #[.string { data := #[38, 38] }, .string { data := #[124, 124] }] 9) = X at HX ⊢
         have y0 : X.cell? ⟨w.heap.size, 0, none⟩ = some (.int .i64 3) := HX.out.1.2.2.1.cell 0
         have y1 : X.cell? ⟨w.heap.size, 1, none⟩ = some (.string (str o)) := HX.out.1.2.2.1.cell 1
         have y2 : X.cell? ⟨w.heap.size, 2, none⟩ = some (.int .i64 0) := HX.out.1.2.2.1.cell 2
         have y3 : X.cell? ⟨w.heap.size, 3, none⟩ = some (.string { data := #[] }) := HX.out.1.2.2.1.cell 3
         have y4 : X.cell? ⟨w.heap.size, 4, none⟩ = some (.string { data := #[] }) := HX.out.1.2.2.1.cell 4
         have y5 : X.cell? ⟨w.heap.size, 5, none⟩ = some (.slice (some ⟨w3.heap.size, 0, none⟩) 2 2) := HX.out.1.2.2.1.cell 5
         refine bodyPost_ret (v := .agg #[.int .i64 3, .string (str o), .int .i64 0, .string { data := #[] }, .string { data := #[] }, .slice (some ⟨w3.heap.size, 0, none⟩) 2 2]) (by first | (simp [results, Tryd.results77, go_sem, y0, y1, y2, y3, y4, y5]; done) | fail) rfl ?_
         exact bi_mkP (S := 7) HO.out.1 HO.out.2 HG1.out HG2.out HX.out.1 HX.out.2 (by have := HS1.out; have := HSZ.out; have := HSW.out; have := HS12.out; omega))
  · clear HI1 m2
    have e0 : (x % 8 == 0) = false := by simp; omega
    obtain ⟨j, hj⟩ : ∃ j : Nat, x / 8 % 8 = (j : Int) := ⟨(x / 8 % 8).toNat, by omega⟩
    obtain ⟨o, hoN, ho1, ho3⟩ := ops8_at j (by omega)
    have HO := Lib.hid (And.intro ho1 ho3)
    clear ho1 ho3
    have m6 : (x / 8).tmod 8 = (j : Int) := by rw [tmod_of (by omega)]; exact hj
    have hj6 : j < 8 := by omega
    have hjI : (j : Int) < 8 := by omega
    have hjz : (0 : Int) ≤ (j : Int) := by omega
    have hw2 : IntKind.i64.wrap (x / 8) = x / 8 := by rw [IntKind.wrap_i64]; omega
    clear fd1 fr1 hz1
    go_wp2_with fail
    refine (HI0.out w1 HFD.out).mono ?_
    rintro e w2 ⟨t1, rfl, g1, n1, fd2, fr2⟩
    simp only [cs1]
    have hz2 := fr2.has HZ1.out HQ.out
    have s2 := step1 w2 (.cells (cs1 t1) 47)
    have hb2 : Has (w2.alloc (.cells (cs1 t1) 47)) w2.heap.size 47 (cs1 t1) := has_at rfl rfl
    have hp2 := fd2.lt
    have hs12 := fr2.size
    obtain ⟨W3, hW3⟩ : ∃ W3, w2.alloc (.cells (cs1 t1) 47) = W3 := ⟨_, rfl⟩
    rw [hW3] at s2 hb2
    have hW3' : w2.alloc (.cells #[.int .i64 t1.k, .string (str t1.op), .int .i64 t1.n, .string (str t1.v), .string (str t1.f), .slice t1.A t1.ks.length t1.c] 47) = W3 := hW3
    have hcE : (W3.alloc (.cells #[.string { data := #[61, 61] }, .string { data := #[33, 61] }, .string { data := #[60] }, .string { data := #[60, 61] }, .string { data := #[62] }, .string { data := #[62, 61] }, .string { data := #[60, 61] }, .string { data := #[62, 61] }] 9)).drew.cell? ⟨W3.heap.size, j, none⟩ = some (.string (str o)) := cell_strs W3 ops8 9 j o hoN
    have hcE3 : ∀ u : World, (u.alloc (.cells #[.string { data := #[61, 61] }, .string { data := #[33, 61] }, .string { data := #[60] }, .string { data := #[60, 61] }, .string { data := #[62] }, .string { data := #[62, 61] }, .string { data := #[60, 61] }, .string { data := #[62, 61] }] 9)).cell? ⟨u.heap.size, j, none⟩ = some (.string (str o)) := fun u => cell_strs u ops8 9 j o hoN
    have hcE4 : ∀ (u : World) (o2 : Obj), ((u.alloc (.cells #[.string { data := #[61, 61] }, .string { data := #[33, 61] }, .string { data := #[60] }, .string { data := #[60, 61] }, .string { data := #[62] }, .string { data := #[62, 61] }, .string { data := #[60, 61] }, .string { data := #[62, 61] }] 9)).alloc o2).cell? ⟨u.heap.size, j, none⟩ = some (.string (str o)) := fun u o2 => (World.cell?_alloc_lt _ _ _ (by simp)).trans (cell_strs u ops8 9 j o hoN)
    have hcE5 : ∀ (u : World) (o2 : Obj), ((u.alloc o2).alloc (.cells #[.string { data := #[61, 61] }, .string { data := #[33, 61] }, .string { data := #[60] }, .string { data := #[60, 61] }, .string { data := #[62] }, .string { data := #[62, 61] }, .string { data := #[60, 61] }, .string { data := #[62, 61] }] 9)).cell? ⟨u.heap.size + 1, j, none⟩ = some (.string (str o)) := fun u o2 => by have := cell_strs (u.alloc o2) ops8 9 j o hoN; rwa [show (u.alloc o2).heap.size = u.heap.size + 1 by simp] at this
    have gen : ∀ (u : World), Below W3.heap.size W3 u → Calls Tryd.prog 80 #[.pointer (some ⟨p, 0, none⟩), .string (str own), .string (str kind), .int .i64 1] u fun e w' => ∃ t2 : ET, e = .returned (.agg (cs1 t2)) ∧ (rightT t2 = true ∧ t2.size ≤ 3) ∧ Nw W3.heap.size w' t2 ∧ Nw w1.heap.size w' t1 ∧ Pd w0 p K w' ∧ FrP p w w' ∧ FrP p u w' ∧ six w' w2.heap.size t1.k t1.op t1.n t1.v t1.f t1.A t1.ks.length t1.c ∧ Has w' w.heap.size 47 zer ∧ W3.heap.size ≤ w'.heap.size := fun u hu => by
      have su := s2.trans (hu.mono s2.size)
      refine (HI0.out u (fd2.below su)).mono ?_
      rintro e w' ⟨t2, he, h1, h3, h4, h5⟩
      refine ⟨t2, he, h1, h3.imp hu.size (fun b _ _ => rfl), (n1.below (Nat.le_refl _) su).fr (Nat.le_refl _) (by have := HFD.out.lt; omega) h5, h4, (HFR.out.trans (fr2.trans (FrP.below hp2 su))).trans h5, h5, six_has (h5.has (hb2.below hu hb2.lt) (by omega)), h5.has (hz2.below su hz2.lt) HQ.out, Nat.le_trans hu.size h5.size⟩
    have HCA := Lib.hid (gen (W3.alloc (.cells #[.string { data := #[61, 61] }, .string { data := #[33, 61] }, .string { data := #[60] }, .string { data := #[60, 61] }, .string { data := #[62] }, .string { data := #[62, 61] }, .string { data := #[60, 61] }, .string { data := #[62, 61] }] 9)).drew ((Below.refl _ W3).alloc (Nat.le_refl _) _).drew)
    have HCB := Lib.hid (gen W3.drew (Below.refl _ W3).drew)
    have HSW : Hid (W3.heap.size = w2.heap.size + 1) := Lib.hid (by rw [← hW3]; simp)
    have HG1 := Lib.hid g1
    have HS12 := Lib.hid hs12
    have HcE := Lib.hid hcE
    have hbq1 : ¬ w2.heap.size = w.heap.size := by have := HS1.out; omega
    have hbq2 : ¬ w.heap.size = w2.heap.size := by have := HS1.out; omega
    obtain ⟨b0, b1, b2, b3, b4, b5⟩ : six (W3.alloc (.cells #[.string { data := #[61, 61] }, .string { data := #[33, 61] }, .string { data := #[60] }, .string { data := #[60, 61] }, .string { data := #[62] }, .string { data := #[62, 61] }, .string { data := #[60, 61] }, .string { data := #[62, 61] }] 9)).drew w2.heap.size t1.k t1.op t1.n t1.v t1.f t1.A t1.ks.length t1.c := six_has (hb2.below ((Below.refl _ W3).alloc (Nat.le_refl _) _).drew hb2.lt)
    obtain ⟨q0, q1, q2, q3, q4, q5⟩ : six W3 w2.heap.size t1.k t1.op t1.n t1.v t1.f t1.A t1.ks.length t1.c := six_has hb2
    clear s2 hb2 hp2 hs12 hW3 n1 g1 fd2 fr2 hz2 gen
    go_wp2_with fail
    go_region_with
      (first
        | (go_at_call 80; refine HCA.out.mono ?_; rintro e w3 ⟨t2, rfl, g2, n2, m2', fd3, fr3, fru, s3, hz3, hsz⟩; simp only [cs1]; have K5 : Hid (w3.cell? ⟨w2.heap.size, 0, none⟩ = some (.int .i64 t1.k) ∧ w3.cell? ⟨w2.heap.size, 1, none⟩ = some (.string (str t1.op)) ∧ w3.cell? ⟨w2.heap.size, 2, none⟩ = some (.int .i64 t1.n) ∧ w3.cell? ⟨w2.heap.size, 3, none⟩ = some (.string (str t1.v)) ∧ w3.cell? ⟨w2.heap.size, 4, none⟩ = some (.string (str t1.f)) ∧ w3.cell? ⟨w2.heap.size, 5, none⟩ = some (.slice t1.A t1.ks.length t1.c)) := Lib.hid s3; obtain ⟨r0, r1, r2, r3, r4, r5⟩ := s3; have hbl3 := World.block_lt_of_cell? _ _ r0; simp only at hbl3; have hq3 := hz3.lt; have kE : w3.cell? ⟨W3.heap.size, j, none⟩ = some (.string (str o)) := (cell_block (fru.block (by simp) (by have := HFD.out.lt; have := HS12.out; have := HSW.out; simp; omega))).trans HcE.out; have hbE := World.block_lt_of_cell? _ _ kE; simp only at hbE; have HG2 := Lib.hid g2; have HN2 := Lib.hid n2; have HM2 := Lib.hid m2'; have HF3 := Lib.hid fd3; have HR3 := Lib.hid fr3; have HZ3 := Lib.hid hz3; have HSZ := Lib.hid hsz; obtain ⟨z0, z1, z2, z3, z4, z5⟩ := zer_six hz3; obtain ⟨f0, f1, f2, f3, f4, f5⟩ := six_free hz3; clear fru hz3 hsz fd3 fr3 n2 m2' g2)
        | (go_at_call 80; refine HCB.out.mono ?_; rintro e w3 ⟨t2, rfl, g2, n2, m2', fd3, fr3, fru, s3, hz3, hsz⟩; simp only [cs1]; have K5 : Hid (w3.cell? ⟨w2.heap.size, 0, none⟩ = some (.int .i64 t1.k) ∧ w3.cell? ⟨w2.heap.size, 1, none⟩ = some (.string (str t1.op)) ∧ w3.cell? ⟨w2.heap.size, 2, none⟩ = some (.int .i64 t1.n) ∧ w3.cell? ⟨w2.heap.size, 3, none⟩ = some (.string (str t1.v)) ∧ w3.cell? ⟨w2.heap.size, 4, none⟩ = some (.string (str t1.f)) ∧ w3.cell? ⟨w2.heap.size, 5, none⟩ = some (.slice t1.A t1.ks.length t1.c)) := Lib.hid s3; obtain ⟨r0, r1, r2, r3, r4, r5⟩ := s3; have hbl3 := World.block_lt_of_cell? _ _ r0; simp only at hbl3; have hq3 := hz3.lt; have HG2 := Lib.hid g2; have HN2 := Lib.hid n2; have HM2 := Lib.hid m2'; have HF3 := Lib.hid fd3; have HR3 := Lib.hid fr3; have HZ3 := Lib.hid hz3; have HSZ := Lib.hid hsz; obtain ⟨z0, z1, z2, z3, z4, z5⟩ := zer_six hz3; obtain ⟨f0, f1, f2, f3, f4, f5⟩ := six_free hz3; clear fru hz3 hsz fd3 fr3 n2 m2' g2))
    all_goals go_wp2_with fail
    all_goals rw [set6_fold]
    all_goals clear z0 z1 z2 z3 z4 z5 f0 f1 f2 f3 f4 f5
    all_goals have P0 := pq_ofP (o := o) HP.out HS.out HZ3.out HF3.out HR3.out (by have := HS1.out; have := HSW.out; have := HS12.out; omega) (by have := HS1.out; omega) HN2.out HM2.out
    all_goals clear HF3 HR3 HZ3 HN2 HM2 HCA HCB HI0 hcE3 hcE4 hcE5 HcE
    all_goals first
      | (have HX := Lib.hid (And.intro ((P0 ⟨w3.heap.size, 0, none⟩).alloc (.cells (cs2 t1 t2) 47)) (has_at (w := set6 w3 w.heap.size (.int .i64 3) (.string (str o)) (.int .i64 0) (.string { data := #[] }) (.string { data := #[] }) (.slice (some ⟨w3.heap.size, 0, none⟩) 2 2)) (q := w3.heap.size) (o := .cells (cs2 t1 t2) 47) rfl (set6_size _ _ _ _ _ _).symm))
         generalize (set6 w3 w.heap.size (.int .i64 3) (.string (str o)) (.int .i64 0) (.string { data := #[] }) (.string { data := #[] }) (.slice (some ⟨w3.heap.size, 0, none⟩) 2 2)).alloc (.cells (cs2 t1 t2) 47) = X at HX ⊢
         have y0 : X.cell? ⟨w.heap.size, 0, none⟩ = some (.int .i64 3) := HX.out.1.2.2.1.cell 0
         have y1 : X.cell? ⟨w.heap.size, 1, none⟩ = some (.string (str o)) := HX.out.1.2.2.1.cell 1
         have y2 : X.cell? ⟨w.heap.size, 2, none⟩ = some (.int .i64 0) := HX.out.1.2.2.1.cell 2
         have y3 : X.cell? ⟨w.heap.size, 3, none⟩ = some (.string { data := #[] }) := HX.out.1.2.2.1.cell 3
         have y4 : X.cell? ⟨w.heap.size, 4, none⟩ = some (.string { data := #[] }) := HX.out.1.2.2.1.cell 4
         have y5 : X.cell? ⟨w.heap.size, 5, none⟩ = some (.slice (some ⟨w3.heap.size, 0, none⟩) 2 2) := HX.out.1.2.2.1.cell 5
         refine bodyPost_ret (v := .agg #[.int .i64 3, .string (str o), .int .i64 0, .string { data := #[] }, .string { data := #[] }, .slice (some ⟨w3.heap.size, 0, none⟩) 2 2]) (by first | (simp [results, Tryd.results77, go_sem, y0, y1, y2, y3, y4, y5]; done) | fail) rfl ?_
         exact bi_mkP (S := 3) HO.out.1 HO.out.2 HG1.out HG2.out HX.out.1 HX.out.2 (by have := HS1.out; have := HSZ.out; have := HSW.out; have := HS12.out; omega))
      | (have HX := Lib.hid (And.intro (((P0 ⟨w3.heap.size + 1, 0, none⟩).alloc (.cells #[.string { data := #[61, 61] }, .string { data := #[33, 61] }, .string { data := #[60] }, .string { data := #[60, 61] }, .string { data := #[62] }, .string { data := #[62, 61] }, .string { data := #[60, 61] }, .string { data := #[62, 61] }] 9)).alloc (.cells (cs2 t1 t2) 47)) (has_at (w := (set6 w3 w.heap.size (.int .i64 3) (.string (str o)) (.int .i64 0) (.string { data := #[] }) (.string { data := #[] }) (.slice (some ⟨w3.heap.size + 1, 0, none⟩) 2 2)).alloc (.cells #[.string { data := #[61, 61] }, .string { data := #[33, 61] }, .string { data := #[60] }, .string { data := #[60, 61] }, .string { data := #[62] }, .string { data := #[62, 61] }, .string { data := #[60, 61] }, .string { data := #[62, 61] }] 9)) (q := w3.heap.size + 1) (o := .cells (cs2 t1 t2) 47) rfl (by rw [show ((set6 w3 w.heap.size (.int .i64 3) (.string (str o)) (.int .i64 0) (.string { data := #[] }) (.string { data := #[] }) (.slice (some ⟨w3.heap.size + 1, 0, none⟩) 2 2)).alloc (.cells #[.string { data := #[61, 61] }, .string { data := #[33, 61] }, .string { data := #[60] }, .string { data := #[60, 61] }, .string { data := #[62] }, .string { data := #[62, 61] }, .string { data := #[60, 61] }, .string { data := #[62, 61] }] 9)).heap.size = (set6 w3 w.heap.size (.int .i64 3) (.string (str o)) (.int .i64 0) (.string { data := #[] }) (.string { data := #[] }) (.slice (some ⟨w3.heap.size + 1, 0, none⟩) 2 2)).heap.size + 1 by simp, set6_size])))
         generalize ((set6 w3 w.heap.size (.int .i64 3) (.string (str o)) (.int .i64 0) (.string { data := #[] }) (.string { data := #[] }) (.slice (some ⟨w3.heap.size + 1, 0, none⟩) 2 2)).alloc (.cells #[.string { data := #[61, 61] }, .string { data := #[33, 61] }, .string { data := #[60] }, .string { data := #[60, 61] }, .string { data := #[62] }, .string { data := #[62, 61] }, .string { data := #[60, 61] }, .string { data := #[62, 61] }] 9)).alloc (.cells (cs2 t1 t2) 47) = X at HX ⊢
         have y0 : X.cell? ⟨w.heap.size, 0, none⟩ = some (.int .i64 3) := HX.out.1.2.2.1.cell 0
         have y1 : X.cell? ⟨w.heap.size, 1, none⟩ = some (.string (str o)) := HX.out.1.2.2.1.cell 1
         have y2 : X.cell? ⟨w.heap.size, 2, none⟩ = some (.int .i64 0) := HX.out.1.2.2.1.cell 2
         have y3 : X.cell? ⟨w.heap.size, 3, none⟩ = some (.string { data := #[] }) := HX.out.1.2.2.1.cell 3
         have y4 : X.cell? ⟨w.heap.size, 4, none⟩ = some (.string { data := #[] }) := HX.out.1.2.2.1.cell 4
         have y5 : X.cell? ⟨w.heap.size, 5, none⟩ = some (.slice (some ⟨w3.heap.size + 1, 0, none⟩) 2 2) := HX.out.1.2.2.1.cell 5
         refine bodyPost_ret (v := .agg #[.int .i64 3, .string (str o), .int .i64 0, .string { data := #[] }, .string { data := #[] }, .slice (some ⟨w3.heap.size + 1, 0, none⟩) 2 2]) (by first | (simp [results, Tryd.results77, go_sem, y0, y1, y2, y3, y4, y5]; done) | fail) rfl ?_
         exact bi_mkP (S := 3) HO.out.1 HO.out.2 HG1.out HG2.out HX.out.1 HX.out.2 (by have := HS1.out; have := HSZ.out; have := HSW.out; have := HS12.out; omega))
      | (have HX := Lib.hid (And.intro (((P0 ⟨w3.heap.size, 0, none⟩).alloc (.cells (cs2 t1 t2) 47)).alloc (.cells #[.string { data := #[61, 61] }, .string { data := #[33, 61] }, .string { data := #[60] }, .string { data := #[60, 61] }, .string { data := #[62] }, .string { data := #[62, 61] }, .string { data := #[60, 61] }, .string { data := #[62, 61] }] 9)) ((has_at (w := set6 w3 w.heap.size (.int .i64 3) (.string (str o)) (.int .i64 0) (.string { data := #[] }) (.string { data := #[] }) (.slice (some ⟨w3.heap.size, 0, none⟩) 2 2)) (q := w3.heap.size) (o := .cells (cs2 t1 t2) 47) rfl (set6_size _ _ _ _ _ _).symm : Has _ _ _ _).below (step1 ((set6 w3 w.heap.size (.int .i64 3) (.string (str o)) (.int .i64 0) (.string { data := #[] }) (.string { data := #[] }) (.slice (some ⟨w3.heap.size, 0, none⟩) 2 2)).alloc (.cells (cs2 t1 t2) 47)) (.cells #[.string { data := #[61, 61] }, .string { data := #[33, 61] }, .string { data := #[60] }, .string { data := #[60, 61] }, .string { data := #[62] }, .string { data := #[62, 61] }, .string { data := #[60, 61] }, .string { data := #[62, 61] }] 9)) (by simp [set6_size])))
         generalize ((set6 w3 w.heap.size (.int .i64 3) (.string (str o)) (.int .i64 0) (.string { data := #[] }) (.string { data := #[] }) (.slice (some ⟨w3.heap.size, 0, none⟩) 2 2)).alloc (.cells (cs2 t1 t2) 47)).alloc (.cells #[.string { data := #[61, 61] }, .string { data := #[33, 61] }, .string { data := #[60] }, .string { data := #[60, 61] }, .string { data := #[62] }, .string { data := #[62, 61] }, .string { data := #[60, 61] }, .string { data := #[62, 61] }] 9) = X at HX ⊢
         have y0 : X.cell? ⟨w.heap.size, 0, none⟩ = some (.int .i64 3) := HX.out.1.2.2.1.cell 0
         have y1 : X.cell? ⟨w.heap.size, 1, none⟩ = some (.string (str o)) := HX.out.1.2.2.1.cell 1
         have y2 : X.cell? ⟨w.heap.size, 2, none⟩ = some (.int .i64 0) := HX.out.1.2.2.1.cell 2
         have y3 : X.cell? ⟨w.heap.size, 3, none⟩ = some (.string { data := #[] }) := HX.out.1.2.2.1.cell 3
         have y4 : X.cell? ⟨w.heap.size, 4, none⟩ = some (.string { data := #[] }) := HX.out.1.2.2.1.cell 4
         have y5 : X.cell? ⟨w.heap.size, 5, none⟩ = some (.slice (some ⟨w3.heap.size, 0, none⟩) 2 2) := HX.out.1.2.2.1.cell 5
         refine bodyPost_ret (v := .agg #[.int .i64 3, .string (str o), .int .i64 0, .string { data := #[] }, .string { data := #[] }, .slice (some ⟨w3.heap.size, 0, none⟩) 2 2]) (by first | (simp [results, Tryd.results77, go_sem, y0, y1, y2, y3, y4, y5]; done) | fail) rfl ?_
         exact bi_mkP (S := 3) HO.out.1 HO.out.2 HG1.out HG2.out HX.out.1 HX.out.2 (by have := HS1.out; have := HSZ.out; have := HSW.out; have := HS12.out; omega))
end Go.Proofs.YtbdfehgofnomhaaDoor
/- Layer 9: a predicate that bytes make, or none. -/
namespace Go.Proofs.YtbdfehgofnomhaaDoor
open Go.RowKit
set_option linter.unusedVariables false

set_option maxHeartbeats 4000000 in
theorem pred_p {w0 : World} {K : PK} {bs : List Int} {vs os : List Nm} (hC : PdC w0 K bs vs os) (own kind : Nm) (hown : nameB own = true) (p : Nat) (w : World) (h : Pd w0 p K w) :
    Calls Tryd.prog 65 #[.pointer (some ⟨p, 0, none⟩), .string (str own), .string (str kind)] w fun e w' => ∃ (A : Option Addr) (c : Nat) (ps : List ET), e = .returned (.slice A ps.length c) ∧ okS A ps.length c
      ∧ (ps.length ≤ 1 ∧ ps.all rightT = true ∧ sizeL ps ≤ 15) ∧ Ets (hidL w.heap.size w') A ps ∧ Pd w0 p K w' ∧ FrP p w w' := by
  have hpl := h.lt
  have HN := Lib.hid (next_p hC p w h)
  have HT := Lib.hid (tru1_p hC own kind hown p)
  have HP := Lib.hid hpl
  clear h hpl hown
  go_enter Tryd.func65, Tryd.ntmps65
  go_wp2_with fail
  refine HN.out.mono ?_
  rintro e w1 ⟨x, rfl, hxb, fd1, fr1⟩
  have m2 := tmod_of hxb.1 2
  have HFD := Lib.hid fd1
  have HFR := Lib.hid fr1
  have hk : x % 2 = 0 ∨ x % 2 = 1 := by omega
  rcases hk with h0 | h0
  · rw [h0] at m2
    clear fd1 fr1 HN HT
    go_wp2_with fail
    go_ret
    exact ⟨none, 0, [], rfl, ⟨fun _ => rfl, Nat.le_refl _, Nat.zero_le _⟩, ⟨by simp, rfl, by rw [sizeL_nil]; omega⟩, fun j h => by simp at h, HFD.out, HFR.out⟩
  · rw [h0] at m2
    clear fd1 fr1 HN
    go_wp2_with fail
    refine (HT.out w1 HFD.out).mono ?_
    rintro e w2 ⟨t, rfl, g1, n1, fd2, fr2⟩
    have HG := Lib.hid g1
    have HF2 := Lib.hid fd2
    have HR2 := Lib.hid fr2
    have HN1 := Lib.hid n1
    clear g1 fd2 fr2 n1
    go_wp2_with fail
    go_ret
    have X4 : Has (w2.alloc (.cells (cs1 t) 47)) w2.heap.size 47 (cs1 t) := has_at rfl rfl
    have hsz : w.heap.size ≤ w2.heap.size := Nat.le_trans HFR.out.size HR2.out.size
    refine ⟨some ⟨w2.heap.size, 0, none⟩, 1, [t], rfl, ⟨(fun h => by cases h), Nat.le_refl _, by unfold maxLen; omega⟩, ⟨by simp, by simp [HG.out.1], by rw [sizeL_cons, sizeL_nil]; have := HG.out.2; omega⟩, fun j hj => ?_, HF2.out.below (step1 _ _), (HFR.out.trans HR2.out).trans (FrP.below HF2.out.lt (step1 _ _))⟩
    obtain rfl : j = 0 := by simpa using hj
    exact ⟨at1 (nw_has X4 hsz), HN1.out.below HFR.out.size (step1 _ _)⟩
end Go.Proofs.YtbdfehgofnomhaaDoor
