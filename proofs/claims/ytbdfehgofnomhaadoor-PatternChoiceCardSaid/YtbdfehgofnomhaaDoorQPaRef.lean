/- Layer 9: a Ref that bytes make. -/
import Derived.Test.YtbdfehgofnomhaaDoorQPaFeed
import Derived.Test.YtbdfehgofnomhaaDoorExHid
namespace Go.Proofs.YtbdfehgofnomhaaDoor
open Go.RowKit
set_option linter.unusedVariables false

theorem pmap3_x (l : Nm) : ∃ fr : Nm, nameB fr = true ∧ ∀ w : World, Calls Tryd.prog 82 #[.string (str l)] w fun e w' => e = .returned (.string (str fr)) ∧ w = w' := by
  refine ⟨if l = [66] then [121] else [120], ?_, pmap3_any l⟩
  split
  · kernel_rfl
  · kernel_rfl
set_option maxHeartbeats 8000000 in
theorem ref_p {w0 : World} {K : PK} {bs : List Int} {vs os : List Nm} (hC : PdC w0 K bs vs os) (own kind : Nm) (hown : nameB own = true) (p : Nat) (w : World) (h : Pd w0 p K w) :
    Calls Tryd.prog 81 #[.pointer (some ⟨p, 0, none⟩), .string (str own), .string (str kind)] w fun e w' => ∃ v f : Nm, e = .returned (.agg #[.int .i64 1, .string { data := #[] }, .int .i64 0, .string (str v), .string (str f), .slice none 0 0]) ∧ (nameB v = true ∧ nameB f = true) ∧ Pd w0 p K w' ∧ FrP p w w' := by
  have hpl := h.lt
  have hqp : w.heap.size ≠ p := by omega
  have h0s := h.size
  obtain ⟨W, hW⟩ : ∃ W, W = w.alloc (.cells zer 47) := ⟨_, rfl⟩
  have bl : Below w.heap.size w W := by rw [hW]; exact (Below.refl _ _).alloc (Nat.le_refl _) _
  have hz : Has W w.heap.size 47 zer := by rw [hW]; exact heap_alloc_new w _
  have hn := next_p hC p W (h.below bl)
  have HN := Lib.hid hn
  have HW := Lib.hid hW
  have HZ := Lib.hid hz
  have HB := Lib.hid (FrP.below hpl bl)
  have HP := Lib.hid hpl
  have HQ := Lib.hid hqp
  have HS := Lib.hid h0s
  have HOWN := Lib.hid hown
  have HC := Lib.hid hC
  clear hn hW hz bl hpl hqp h0s h hC hown
  have fin : ∀ (w1 : World) (v : Nm) (u4 : Value) (o : Obj), Pd w0 p K w1 → FrP p W w1 → Pd w0 p K ((set6 w1 w.heap.size (.int .i64 1) (.string { data := #[] }) (.int .i64 0) (.string (str v)) u4 (.slice none 0 0)).alloc o) ∧ FrP p w ((set6 w1 w.heap.size (.int .i64 1) (.string { data := #[] }) (.int .i64 0) (.string (str v)) u4 (.slice none 0 0)).alloc o)
      ∧ Has ((set6 w1 w.heap.size (.int .i64 1) (.string { data := #[] }) (.int .i64 0) (.string (str v)) u4 (.slice none 0 0)).alloc o) w.heap.size 47 #[.int .i64 1, .string { data := #[] }, .int .i64 0, .string (str v), u4, .slice none 0 0] := fun w1 v u4 o h1 h2 => by
    have s1 := set6_below (w := w1) (q := w.heap.size) (Nat.le_refl _) (.int .i64 1) (.string { data := #[] }) (.int .i64 0) (.string (str v)) u4 (.slice none 0 0)
    have hh := set6_has (h2.has HZ.out HQ.out) (.int .i64 1) (.string { data := #[] }) (.int .i64 0) (.string (str v)) u4 (.slice none 0 0)
    have f1 := h1.belowB s1 HP.out HS.out
    exact ⟨f1.below (step1 _ _), ((HB.out.trans h2).belowB HP.out s1).trans (FrP.below f1.lt (step1 _ _)), hh.below (step1 _ _) hh.lt⟩
  have HFin := Lib.hid fin
  clear fin
  have n107 : nameB [107] = true := by kernel_rfl
  have HNF := Lib.hid n107
  clear n107
  have k000 : K.m = 0 ∨ 0 < K.m := by omega
  rcases k000 with km | km
  · go_enter Tryd.func81, Tryd.ntmps81
    go_wp2_with fail
    rw [← HW.out]
    refine HN.out.mono ?_
    rintro e w1 ⟨x, rfl, hxb, fd1, fr1⟩
    obtain ⟨k2, k3⟩ := fd1.vars
    rw [km] at k2 k3
    have hz1 := fr1.has HZ.out HQ.out
    have hlt1 := hz1.lt
    obtain ⟨z0, z1, z2, z3, z4, z5⟩ := zer_six hz1
    obtain ⟨f0, f1, f2, f3, f4, f5⟩ := six_free hz1
    have HFD := Lib.hid fd1
    have HFR := Lib.hid fr1
    have HZ1 := Lib.hid hz1
    have d64 := tdiv_of hxb.1 64
    have mj : (x / 64).tmod 2 = x / 64 % 2 := tmod_of (by omega) 2
    have m3 := tmod_of hxb.1 3
    clear fd1 fr1 hz1
    have hj2 : x / 64 % 2 = 0 ∨ x / 64 % 2 = 1 := by omega
    rcases hj2 with hj2 | hj2
    · rw [hj2] at mj
      clear hj2
      obtain ⟨fr, hfr, hm⟩ := pmap3_x kind
      have HFRN := Lib.hid hfr
      have HM := Lib.hid hm
      clear hfr hm
      go_wp2_with (go_at_call 82; refine (HM.out _).mono ?_; rintro e w' ⟨rfl, rfl⟩)
      obtain ⟨X1, X2, X3⟩ := HFin.out w1 own (.string { data := #[107] }) (.cells #[.string { data := #[107] }, .string (str fr)] 9) HFD.out HFR.out
      rw [set6_fold]
      clear z0 z1 z2 z3 z4 z5 f0 f1 f2 f3 f4 f5 k2 k3 m3 d64 mj HFin
      generalize (set6 w1 w.heap.size (.int .i64 1) (.string { data := #[] }) (.int .i64 0) (.string (str own)) (.string { data := #[107] }) (.slice none 0 0)).alloc (.cells #[.string { data := #[107] }, .string (str fr)] 9) = X at X1 X2 X3 ⊢
      have HX := Lib.hid (And.intro X1 X2)
      have y0 : X.cell? ⟨w.heap.size, 0, none⟩ = some (.int .i64 1) := X3.cell 0
      have y1 : X.cell? ⟨w.heap.size, 1, none⟩ = some (.string { data := #[] }) := X3.cell 1
      have y2 : X.cell? ⟨w.heap.size, 2, none⟩ = some (.int .i64 0) := X3.cell 2
      have y3 : X.cell? ⟨w.heap.size, 3, none⟩ = some (.string (str own)) := X3.cell 3
      have y4 : X.cell? ⟨w.heap.size, 4, none⟩ = some (.string { data := #[107] }) := X3.cell 4
      have y5 : X.cell? ⟨w.heap.size, 5, none⟩ = some (.slice none 0 0) := X3.cell 5
      clear X1 X2 X3
      refine bodyPost_ret (v := .agg #[.int .i64 1, .string { data := #[] }, .int .i64 0, .string (str own), .string { data := #[107] }, .slice none 0 0]) (by simp [results, Tryd.results81, go_sem, y0, y1, y2, y3, y4, y5]) rfl ?_
      exact ⟨own, [107], rfl, ⟨HOWN.out, HNF.out⟩, HX.out⟩
    · rw [hj2] at mj
      clear hj2
      obtain ⟨fr, hfr, hm⟩ := pmap3_x kind
      have HFRN := Lib.hid hfr
      have HM := Lib.hid hm
      clear hfr hm
      go_wp2_with (go_at_call 82; refine (HM.out _).mono ?_; rintro e w' ⟨rfl, rfl⟩)
      obtain ⟨X1, X2, X3⟩ := HFin.out w1 own (.string (str fr)) (.cells #[.string { data := #[107] }, .string (str fr)] 9) HFD.out HFR.out
      rw [set6_fold]
      clear z0 z1 z2 z3 z4 z5 f0 f1 f2 f3 f4 f5 k2 k3 m3 d64 mj HFin
      generalize (set6 w1 w.heap.size (.int .i64 1) (.string { data := #[] }) (.int .i64 0) (.string (str own)) (.string (str fr)) (.slice none 0 0)).alloc (.cells #[.string { data := #[107] }, .string (str fr)] 9) = X at X1 X2 X3 ⊢
      have HX := Lib.hid (And.intro X1 X2)
      have y0 : X.cell? ⟨w.heap.size, 0, none⟩ = some (.int .i64 1) := X3.cell 0
      have y1 : X.cell? ⟨w.heap.size, 1, none⟩ = some (.string { data := #[] }) := X3.cell 1
      have y2 : X.cell? ⟨w.heap.size, 2, none⟩ = some (.int .i64 0) := X3.cell 2
      have y3 : X.cell? ⟨w.heap.size, 3, none⟩ = some (.string (str own)) := X3.cell 3
      have y4 : X.cell? ⟨w.heap.size, 4, none⟩ = some (.string (str fr)) := X3.cell 4
      have y5 : X.cell? ⟨w.heap.size, 5, none⟩ = some (.slice none 0 0) := X3.cell 5
      clear X1 X2 X3
      refine bodyPost_ret (v := .agg #[.int .i64 1, .string { data := #[] }, .int .i64 0, .string (str own), .string (str fr), .slice none 0 0]) (by simp [results, Tryd.results81, go_sem, y0, y1, y2, y3, y4, y5]) rfl ?_
      exact ⟨own, fr, rfl, ⟨HOWN.out, HFRN.out⟩, HX.out⟩
  · go_enter Tryd.func81, Tryd.ntmps81
    go_wp2_with fail
    rw [← HW.out]
    refine HN.out.mono ?_
    rintro e w1 ⟨x, rfl, hxb, fd1, fr1⟩
    obtain ⟨k2, k3⟩ := fd1.vars
    have hz1 := fr1.has HZ.out HQ.out
    have hlt1 := hz1.lt
    obtain ⟨z0, z1, z2, z3, z4, z5⟩ := zer_six hz1
    obtain ⟨f0, f1, f2, f3, f4, f5⟩ := six_free hz1
    have HFD := Lib.hid fd1
    have HFR := Lib.hid fr1
    have HZ1 := Lib.hid hz1
    have d64 := tdiv_of hxb.1 64
    have mj : (x / 64).tmod 2 = x / 64 % 2 := tmod_of (by omega) 2
    have m3 := tmod_of hxb.1 3
    clear fd1 fr1 hz1
    have hj2 : x / 64 % 2 = 0 ∨ x / 64 % 2 = 1 := by omega
    have h3 : x % 3 = 0 ∨ ¬ x % 3 = 0 := by omega
    rcases h3 with h3 | h3
    · rw [h3] at m3
      have d3 := tdiv_of hxb.1 3
      obtain ⟨k, hk⟩ : ∃ k : Nat, x / 3 % (K.m : Int) = (k : Int) := ⟨(x / 3 % (K.m : Int)).toNat, by have := Int.emod_nonneg (x / 3) (show (K.m : Int) ≠ 0 by omega); omega⟩
      have hkm : k < K.m := by have := Int.emod_lt_of_pos (x / 3) (show (0 : Int) < (K.m : Int) by omega); omega
      have mk : (x / 3).tmod (K.m : Int) = (k : Int) := by rw [tmod_of (by omega)]; exact hk
      obtain ⟨vk, hvk⟩ : ∃ vk, vs[k]? = some vk := ⟨_, List.getElem?_eq_getElem (by rw [HC.out.vm]; exact hkm)⟩
      obtain ⟨ok, hok⟩ : ∃ ok, os[k]? = some ok := ⟨_, List.getElem?_eq_getElem (by rw [HC.out.om]; exact hkm)⟩
      have HVN := Lib.hid (HC.out.nam vk (List.mem_of_getElem? hvk))
      obtain ⟨bv, ov, eV, hcv⟩ := HC.out.v.1.at_ (i := k) (u := .string (str vk)) (by rw [List.getElem?_map, hvk]; rfl)
      obtain ⟨bo, oo, eO, hco⟩ := HC.out.o.1.at_ (i := k) (u := .string (str ok)) (by rw [List.getElem?_map, hok]; rfl)
      have hcv1 := HFD.out.cell hcv
      have hco1 := HFD.out.cell hco
      rw [eV] at k2
      rw [eO] at k3
      clear hcv hco hvk hok eV eO hk h3
      rcases hj2 with hj2 | hj2
      · rw [hj2] at mj
        clear hj2
        obtain ⟨fr, hfr, hm⟩ := pmap3_x ok
        have HFRN := Lib.hid hfr
        have HM := Lib.hid hm
        clear hfr hm
        go_wp2_with (go_at_call 82; refine (HM.out _).mono ?_; rintro e w' ⟨rfl, rfl⟩)
        obtain ⟨X1, X2, X3⟩ := HFin.out w1 vk (.string { data := #[107] }) (.cells #[.string { data := #[107] }, .string (str fr)] 9) HFD.out HFR.out
        rw [set6_fold]
        clear z0 z1 z2 z3 z4 z5 f0 f1 f2 f3 f4 f5 k2 k3 m3 d64 mj HFin hcv1 hco1
        generalize (set6 w1 w.heap.size (.int .i64 1) (.string { data := #[] }) (.int .i64 0) (.string (str vk)) (.string { data := #[107] }) (.slice none 0 0)).alloc (.cells #[.string { data := #[107] }, .string (str fr)] 9) = X at X1 X2 X3 ⊢
        have HX := Lib.hid (And.intro X1 X2)
        have y0 : X.cell? ⟨w.heap.size, 0, none⟩ = some (.int .i64 1) := X3.cell 0
        have y1 : X.cell? ⟨w.heap.size, 1, none⟩ = some (.string { data := #[] }) := X3.cell 1
        have y2 : X.cell? ⟨w.heap.size, 2, none⟩ = some (.int .i64 0) := X3.cell 2
        have y3 : X.cell? ⟨w.heap.size, 3, none⟩ = some (.string (str vk)) := X3.cell 3
        have y4 : X.cell? ⟨w.heap.size, 4, none⟩ = some (.string { data := #[107] }) := X3.cell 4
        have y5 : X.cell? ⟨w.heap.size, 5, none⟩ = some (.slice none 0 0) := X3.cell 5
        clear X1 X2 X3
        refine bodyPost_ret (v := .agg #[.int .i64 1, .string { data := #[] }, .int .i64 0, .string (str vk), .string { data := #[107] }, .slice none 0 0]) (by simp [results, Tryd.results81, go_sem, y0, y1, y2, y3, y4, y5]) rfl ?_
        exact ⟨vk, [107], rfl, ⟨HVN.out, HNF.out⟩, HX.out⟩
      · rw [hj2] at mj
        clear hj2
        obtain ⟨fr, hfr, hm⟩ := pmap3_x ok
        have HFRN := Lib.hid hfr
        have HM := Lib.hid hm
        clear hfr hm
        go_wp2_with (go_at_call 82; refine (HM.out _).mono ?_; rintro e w' ⟨rfl, rfl⟩)
        obtain ⟨X1, X2, X3⟩ := HFin.out w1 vk (.string (str fr)) (.cells #[.string { data := #[107] }, .string (str fr)] 9) HFD.out HFR.out
        rw [set6_fold]
        clear z0 z1 z2 z3 z4 z5 f0 f1 f2 f3 f4 f5 k2 k3 m3 d64 mj HFin hcv1 hco1
        generalize (set6 w1 w.heap.size (.int .i64 1) (.string { data := #[] }) (.int .i64 0) (.string (str vk)) (.string (str fr)) (.slice none 0 0)).alloc (.cells #[.string { data := #[107] }, .string (str fr)] 9) = X at X1 X2 X3 ⊢
        have HX := Lib.hid (And.intro X1 X2)
        have y0 : X.cell? ⟨w.heap.size, 0, none⟩ = some (.int .i64 1) := X3.cell 0
        have y1 : X.cell? ⟨w.heap.size, 1, none⟩ = some (.string { data := #[] }) := X3.cell 1
        have y2 : X.cell? ⟨w.heap.size, 2, none⟩ = some (.int .i64 0) := X3.cell 2
        have y3 : X.cell? ⟨w.heap.size, 3, none⟩ = some (.string (str vk)) := X3.cell 3
        have y4 : X.cell? ⟨w.heap.size, 4, none⟩ = some (.string (str fr)) := X3.cell 4
        have y5 : X.cell? ⟨w.heap.size, 5, none⟩ = some (.slice none 0 0) := X3.cell 5
        clear X1 X2 X3
        refine bodyPost_ret (v := .agg #[.int .i64 1, .string { data := #[] }, .int .i64 0, .string (str vk), .string (str fr), .slice none 0 0]) (by simp [results, Tryd.results81, go_sem, y0, y1, y2, y3, y4, y5]) rfl ?_
        exact ⟨vk, fr, rfl, ⟨HVN.out, HFRN.out⟩, HX.out⟩
    · have e3 : (x % 3 == 0) = false := by simpa using h3
      rcases hj2 with hj2 | hj2
      · rw [hj2] at mj
        clear hj2
        obtain ⟨fr, hfr, hm⟩ := pmap3_x kind
        have HFRN := Lib.hid hfr
        have HM := Lib.hid hm
        clear hfr hm
        go_wp2_with (go_at_call 82; refine (HM.out _).mono ?_; rintro e w' ⟨rfl, rfl⟩)
        obtain ⟨X1, X2, X3⟩ := HFin.out w1 own (.string { data := #[107] }) (.cells #[.string { data := #[107] }, .string (str fr)] 9) HFD.out HFR.out
        rw [set6_fold]
        clear z0 z1 z2 z3 z4 z5 f0 f1 f2 f3 f4 f5 k2 k3 m3 d64 mj HFin
        generalize (set6 w1 w.heap.size (.int .i64 1) (.string { data := #[] }) (.int .i64 0) (.string (str own)) (.string { data := #[107] }) (.slice none 0 0)).alloc (.cells #[.string { data := #[107] }, .string (str fr)] 9) = X at X1 X2 X3 ⊢
        have HX := Lib.hid (And.intro X1 X2)
        have y0 : X.cell? ⟨w.heap.size, 0, none⟩ = some (.int .i64 1) := X3.cell 0
        have y1 : X.cell? ⟨w.heap.size, 1, none⟩ = some (.string { data := #[] }) := X3.cell 1
        have y2 : X.cell? ⟨w.heap.size, 2, none⟩ = some (.int .i64 0) := X3.cell 2
        have y3 : X.cell? ⟨w.heap.size, 3, none⟩ = some (.string (str own)) := X3.cell 3
        have y4 : X.cell? ⟨w.heap.size, 4, none⟩ = some (.string { data := #[107] }) := X3.cell 4
        have y5 : X.cell? ⟨w.heap.size, 5, none⟩ = some (.slice none 0 0) := X3.cell 5
        clear X1 X2 X3
        refine bodyPost_ret (v := .agg #[.int .i64 1, .string { data := #[] }, .int .i64 0, .string (str own), .string { data := #[107] }, .slice none 0 0]) (by simp [results, Tryd.results81, go_sem, y0, y1, y2, y3, y4, y5]) rfl ?_
        exact ⟨own, [107], rfl, ⟨HOWN.out, HNF.out⟩, HX.out⟩
      · rw [hj2] at mj
        clear hj2
        obtain ⟨fr, hfr, hm⟩ := pmap3_x kind
        have HFRN := Lib.hid hfr
        have HM := Lib.hid hm
        clear hfr hm
        go_wp2_with (go_at_call 82; refine (HM.out _).mono ?_; rintro e w' ⟨rfl, rfl⟩)
        obtain ⟨X1, X2, X3⟩ := HFin.out w1 own (.string (str fr)) (.cells #[.string { data := #[107] }, .string (str fr)] 9) HFD.out HFR.out
        rw [set6_fold]
        clear z0 z1 z2 z3 z4 z5 f0 f1 f2 f3 f4 f5 k2 k3 m3 d64 mj HFin
        generalize (set6 w1 w.heap.size (.int .i64 1) (.string { data := #[] }) (.int .i64 0) (.string (str own)) (.string (str fr)) (.slice none 0 0)).alloc (.cells #[.string { data := #[107] }, .string (str fr)] 9) = X at X1 X2 X3 ⊢
        have HX := Lib.hid (And.intro X1 X2)
        have y0 : X.cell? ⟨w.heap.size, 0, none⟩ = some (.int .i64 1) := X3.cell 0
        have y1 : X.cell? ⟨w.heap.size, 1, none⟩ = some (.string { data := #[] }) := X3.cell 1
        have y2 : X.cell? ⟨w.heap.size, 2, none⟩ = some (.int .i64 0) := X3.cell 2
        have y3 : X.cell? ⟨w.heap.size, 3, none⟩ = some (.string (str own)) := X3.cell 3
        have y4 : X.cell? ⟨w.heap.size, 4, none⟩ = some (.string (str fr)) := X3.cell 4
        have y5 : X.cell? ⟨w.heap.size, 5, none⟩ = some (.slice none 0 0) := X3.cell 5
        clear X1 X2 X3
        refine bodyPost_ret (v := .agg #[.int .i64 1, .string { data := #[] }, .int .i64 0, .string (str own), .string (str fr), .slice none 0 0]) (by simp [results, Tryd.results81, go_sem, y0, y1, y2, y3, y4, y5]) rfl ?_
        exact ⟨own, fr, rfl, ⟨HOWN.out, HFRN.out⟩, HX.out⟩
end Go.Proofs.YtbdfehgofnomhaaDoor
