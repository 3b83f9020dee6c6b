/- Layer 7: a Ref that bytes make. -/
import Derived.Test.YtbhjimlikffalaaDoorExFeed
namespace Go.Proofs.YtbhjimlikffalaaDoor
open Go.RowKit
set_option linter.unusedVariables false

abbrev zer : Array Value := #[.int .i64 0, .string { data := #[] }, .int .i64 0, .string { data := #[] }, .string { data := #[] }, .slice none 0 0]
theorem Fd.belowB {w0 : World} {p : Nat} {L V O : Option Addr} {n c i B : Nat} {w w' : World} (h : Fd w0 p L V O n c i w) (hb : Below B w w') (hp : p < B) (h0 : w0.heap.size ≤ B) : Fd w0 p L V O n c i w' :=
  ⟨h.1.trans (hb.mono h0), h.2.1.below hb hp, h.2.2⟩
theorem FrP.belowB {p : Nat} {w w1 w' : World} (h : FrP p w w1) (hp : p < w.heap.size) (hb : Below w.heap.size w1 w') : FrP p w w' :=
  .of hp (Nat.le_trans h.size hb.size) (fun q hq e => (hb.block q hq).trans (h.block hq e)) (hb.os.trans (show Below w.heap.size (hidB p w) (hidB p w1) from h).os) (hb.tape.trans (show Below w.heap.size (hidB p w) (hidB p w1) from h).tape) (hb.output.trans (show Below w.heap.size (hidB p w) (hidB p w1) from h).output)
/-- All six cells of a block set anew, as a store of a value does. -/
def set6 (w : World) (q : Nat) (u0 u1 u2 u3 u4 u5 : Value) : World := (((((w.setCell ⟨q, 0, none⟩ u0).setCell ⟨q, 1, none⟩ u1).setCell ⟨q, 2, none⟩ u2).setCell ⟨q, 3, none⟩ u3).setCell ⟨q, 4, none⟩ u4).setCell ⟨q, 5, none⟩ u5
theorem set6_has {w : World} {q : Nat} {t : TypeId} {z0 z1 z2 z3 z4 z5 : Value} (h : Has w q t #[z0, z1, z2, z3, z4, z5]) (u0 u1 u2 u3 u4 u5 : Value) : Has (set6 w q u0 u1 u2 u3 u4 u5) q t #[u0, u1, u2, u3, u4, u5] := by
  have := (((((h.put 0 u0).put 1 u1).put 2 u2).put 3 u3).put 4 u4).put 5 u5
  unfold set6
  simpa using this
theorem set6_below {w : World} {q B : Nat} (h : B ≤ q) (u0 u1 u2 u3 u4 u5 : Value) : Below B w (set6 w q u0 u1 u2 u3 u4 u5) :=
  (((((((Below.refl B w).setCell (p := ⟨q, 0, none⟩) h _).setCell (p := ⟨q, 1, none⟩) h _).setCell (p := ⟨q, 2, none⟩) h _).setCell (p := ⟨q, 3, none⟩) h _).setCell (p := ⟨q, 4, none⟩) h _).setCell (p := ⟨q, 5, none⟩) h _)
theorem set6_fold (w : World) (q : Nat) (u0 u1 u2 u3 u4 u5 : Value) : (((((w.setCell ⟨q, 0, none⟩ u0).setCell ⟨q, 1, none⟩ u1).setCell ⟨q, 2, none⟩ u2).setCell ⟨q, 3, none⟩ u3).setCell ⟨q, 4, none⟩ u4).setCell ⟨q, 5, none⟩ u5 = set6 w q u0 u1 u2 u3 u4 u5 := rfl
theorem six_free {w : World} {q : Nat} {t : TypeId} {cs : Array Value} (h : Has w q t cs) : w.frozen? ⟨q, 0, none⟩ = false ∧ w.frozen? ⟨q, 1, none⟩ = false ∧ w.frozen? ⟨q, 2, none⟩ = false ∧ w.frozen? ⟨q, 3, none⟩ = false ∧ w.frozen? ⟨q, 4, none⟩ = false ∧ w.frozen? ⟨q, 5, none⟩ = false :=
  ⟨h.free 0, h.free 1, h.free 2, h.free 3, h.free 4, h.free 5⟩
theorem zer_six {w : World} {q : Nat} {t : TypeId} (h : Has w q t zer) : w.cell? ⟨q, 0, none⟩ = some (.int .i64 0) ∧ w.cell? ⟨q, 1, none⟩ = some (.string { data := #[] }) ∧ w.cell? ⟨q, 2, none⟩ = some (.int .i64 0) ∧ w.cell? ⟨q, 3, none⟩ = some (.string { data := #[] }) ∧ w.cell? ⟨q, 4, none⟩ = some (.string { data := #[] }) ∧ w.cell? ⟨q, 5, none⟩ = some (.slice none 0 0) :=
  ⟨h.cell 0, h.cell 1, h.cell 2, h.cell 3, h.cell 4, h.cell 5⟩
theorem tmod_of {x : Int} (h : 0 ≤ x) (k : Int) : x.tmod k = x % k := Int.tmod_eq_emod_of_nonneg h
theorem tdiv_of {x : Int} (h : 0 ≤ x) (k : Int) : x.tdiv k = x / k := Int.tdiv_eq_ediv_of_nonneg h
set_option maxHeartbeats 8000000 in
theorem ref_any {w0 : World} {bs : List Int} {L V O : Option Addr} {n c : Nat} (hC : FdC w0 bs L V O n c) (p i : Nat) (w : World) (h : Fd w0 p L V O n c i w) :
    Calls Tryd.prog 84 #[.pointer (some ⟨p, 0, none⟩), .string (str [99]), .string (str [67])] w fun e w' => e = .returned (.agg #[.int .i64 1, .string { data := #[] }, .int .i64 0, .string (str (refV (nx bs i).1)), .string (str (refF (nx bs i).1)), .slice none 0 0]) ∧ Fd w0 p L V O n c (nx bs i).2 w' ∧ FrP p w w' := by
  have hxb := nx_b hC.byt i
  have hpl := h.2.1.lt
  have hqp : w.heap.size ≠ p := by omega
  have h0s := h.1.size
  obtain ⟨W, hW⟩ : ∃ W, W = w.alloc (.cells zer 24) := ⟨_, rfl⟩
  have bl : Below w.heap.size w W := by rw [hW]; exact (Below.refl _ _).alloc (Nat.le_refl _) _
  have hz : Has W w.heap.size 24 zer := by rw [hW]; exact heap_alloc_new w _
  have hn := next_any hC p i W (h.below bl)
  obtain ⟨bv, ov, eV, hcv⟩ := hC.v.shape (by simp)
  obtain ⟨bo, oo, eO, hco⟩ := hC.o.shape (by simp)
  have v0 := hcv 0 (by simp)
  have v1 := hcv 1 (by simp)
  have o0 := hco 0 (by simp)
  have o1 := hco 1 (by simp)
  subst eV eO
  generalize hx : nx bs i = r at *
  obtain ⟨x, i'⟩ := r
  simp only at hxb hn ⊢
  have m3 := tmod_of hxb.1 3
  have d3 := tdiv_of hxb.1 3
  have d64 := tdiv_of hxb.1 64
  have mk : (x / 3).tmod 2 = x / 3 % 2 := tmod_of (by omega) 2
  have mj : (x / 64).tmod 2 = x / 64 % 2 := tmod_of (by omega) 2
  have HN := Lib.hid hn
  have HW := Lib.hid hW
  have HZ := Lib.hid hz
  have HB := Lib.hid (FrP.below hpl bl)
  have HP := Lib.hid hpl
  have HQ := Lib.hid hqp
  have HS := Lib.hid h0s
  have HV := Lib.hid (And.intro v0 v1)
  have HO := Lib.hid (And.intro o0 o1)
  clear hn hW hz bl hpl hqp h0s h hC v0 v1 o0 o1 hcv hco hx
  have fin : ∀ (w1 : World) (v : Nm) (u4 : Value) (o : Obj), Fd w0 p L (some ⟨bv, ov, none⟩) (some ⟨bo, oo, none⟩) n c i' w1 → FrP p W w1 → Fd w0 p L (some ⟨bv, ov, none⟩) (some ⟨bo, oo, none⟩) n c i' ((set6 w1 w.heap.size (.int .i64 1) (.string { data := #[] }) (.int .i64 0) (.string (str v)) u4 (.slice none 0 0)).alloc o) ∧ FrP p w ((set6 w1 w.heap.size (.int .i64 1) (.string { data := #[] }) (.int .i64 0) (.string (str v)) u4 (.slice none 0 0)).alloc o)
      ∧ Has ((set6 w1 w.heap.size (.int .i64 1) (.string { data := #[] }) (.int .i64 0) (.string (str v)) u4 (.slice none 0 0)).alloc o) w.heap.size 24 #[.int .i64 1, .string { data := #[] }, .int .i64 0, .string (str v), u4, .slice none 0 0] := fun w1 v u4 o h1 h2 => by
    have s1 := set6_below (w := w1) (q := w.heap.size) (Nat.le_refl _) (.int .i64 1) (.string { data := #[] }) (.int .i64 0) (.string (str v)) u4 (.slice none 0 0)
    have hh := set6_has (h2.has HZ.out HQ.out) (.int .i64 1) (.string { data := #[] }) (.int .i64 0) (.string (str v)) u4 (.slice none 0 0)
    have f1 := h1.belowB s1 HP.out HS.out
    exact ⟨f1.below (step1 _ _), ((HB.out.trans h2).belowB HP.out s1).trans (FrP.below f1.2.1.lt (step1 _ _)), hh.below (step1 _ _) hh.lt⟩
  have HFin := Lib.hid fin
  clear fin
  have hm3 : x % 3 = 0 ∨ ¬ x % 3 = 0 := by omega
  have hk2 : x / 3 % 2 = 0 ∨ x / 3 % 2 = 1 := by omega
  have hj2 : x / 64 % 2 = 0 ∨ x / 64 % 2 = 1 := by omega
  rcases hm3 with hm3 | hm3
  · rw [hm3] at m3
    rcases hk2 with hk2 | hk2
    · rw [hk2] at mk
      rcases hj2 with hj2 | hj2
      · rw [hj2] at mj
        have E1 := Lib.hid hm3
        have E2 := Lib.hid hk2
        have E3 := Lib.hid hj2
        clear hm3 hk2 hj2
        go_enter Tryd.func84, Tryd.ntmps84
        go_wp2_with fail
        rw [← HW.out]
        refine HN.out.mono ?_
        rintro e w1 ⟨rfl, fd1, fr1⟩
        have k2 : w1.cell? ⟨p, 2, none⟩ = some (.slice (some ⟨bv, ov, none⟩) 2 2) := fd1.2.1.cell 2
        have k3 : w1.cell? ⟨p, 3, none⟩ = some (.slice (some ⟨bo, oo, none⟩) 2 2) := fd1.2.1.cell 3
        have gg : ∀ b o u, w0.cell? ⟨b, o, none⟩ = some u → w1.cell? ⟨b, o, none⟩ = some u := fun b o u hu => (fd1.1.cell (p := ⟨b, o, none⟩) (World.block_lt_of_cell? _ _ hu)).trans hu
        have v0 : w1.cell? ⟨bv, ov, none⟩ = some (.string (str [97])) := gg _ _ _ HV.out.1
        have v1 : w1.cell? ⟨bv, ov + 1, none⟩ = some (.string (str [98])) := gg _ _ _ HV.out.2
        have o0 : w1.cell? ⟨bo, oo, none⟩ = some (.string (str [65])) := gg _ _ _ HO.out.1
        have o1 : w1.cell? ⟨bo, oo + 1, none⟩ = some (.string (str [66])) := gg _ _ _ HO.out.2
        have hz1 := fr1.has HZ.out HQ.out
        have hlt1 := hz1.lt
        obtain ⟨z0, z1, z2, z3, z4, z5⟩ := zer_six hz1
        obtain ⟨f0, f1, f2, f3, f4, f5⟩ := six_free hz1
        have HFD := Lib.hid fd1
        have HFR := Lib.hid fr1
        have HZ1 := Lib.hid hz1
        clear gg fd1 fr1 hz1
        go_wp2_with (go_at_call 105; refine (map3_any _ _).mono ?_; rintro e w' ⟨rfl, rfl⟩)
        obtain ⟨X1, X2, X3⟩ := HFin.out w1 [97] (.string { data := #[107] }) (.cells #[.string { data := #[107] }, .string (str [120])] 9) HFD.out HFR.out
        rw [set6_fold]
        clear z0 z1 z2 z3 z4 z5 f0 f1 f2 f3 f4 f5 k2 k3 v0 v1 o0 o1 m3 d3 d64 mk mj HFin
        generalize (set6 w1 w.heap.size (.int .i64 1) (.string { data := #[] }) (.int .i64 0) (.string (str [97])) (.string { data := #[107] }) (.slice none 0 0)).alloc (.cells #[.string { data := #[107] }, .string (str [120])] 9) = X at X1 X2 X3 ⊢
        have HX := Lib.hid (And.intro X1 X2)
        have y0 : X.cell? ⟨w.heap.size, 0, none⟩ = some (.int .i64 1) := X3.cell 0
        have y1 : X.cell? ⟨w.heap.size, 1, none⟩ = some (.string { data := #[] }) := X3.cell 1
        have y2 : X.cell? ⟨w.heap.size, 2, none⟩ = some (.int .i64 0) := X3.cell 2
        have y3 : X.cell? ⟨w.heap.size, 3, none⟩ = some (.string (str [97])) := X3.cell 3
        have y4 : X.cell? ⟨w.heap.size, 4, none⟩ = some (.string { data := #[107] }) := X3.cell 4
        have y5 : X.cell? ⟨w.heap.size, 5, none⟩ = some (.slice none 0 0) := X3.cell 5
        clear X1 X2 X3
        have eV : refV x = [97] := by unfold refV; simp [E1.out, E2.out]
        have eF : refF x = [107] := by unfold refF; simp [E3.out]
        rw [eV, eF]
        refine bodyPost_ret (v := .agg #[.int .i64 1, .string { data := #[] }, .int .i64 0, .string (str [97]), .string { data := #[107] }, .slice none 0 0]) (by simp [results, Tryd.results84, go_sem, y0, y1, y2, y3, y4, y5]) rfl ?_
        exact ⟨rfl, HX.out⟩
      · rw [hj2] at mj
        have E1 := Lib.hid hm3
        have E2 := Lib.hid hk2
        have E3 := Lib.hid hj2
        clear hm3 hk2 hj2
        go_enter Tryd.func84, Tryd.ntmps84
        go_wp2_with fail
        rw [← HW.out]
        refine HN.out.mono ?_
        rintro e w1 ⟨rfl, fd1, fr1⟩
        have k2 : w1.cell? ⟨p, 2, none⟩ = some (.slice (some ⟨bv, ov, none⟩) 2 2) := fd1.2.1.cell 2
        have k3 : w1.cell? ⟨p, 3, none⟩ = some (.slice (some ⟨bo, oo, none⟩) 2 2) := fd1.2.1.cell 3
        have gg : ∀ b o u, w0.cell? ⟨b, o, none⟩ = some u → w1.cell? ⟨b, o, none⟩ = some u := fun b o u hu => (fd1.1.cell (p := ⟨b, o, none⟩) (World.block_lt_of_cell? _ _ hu)).trans hu
        have v0 : w1.cell? ⟨bv, ov, none⟩ = some (.string (str [97])) := gg _ _ _ HV.out.1
        have v1 : w1.cell? ⟨bv, ov + 1, none⟩ = some (.string (str [98])) := gg _ _ _ HV.out.2
        have o0 : w1.cell? ⟨bo, oo, none⟩ = some (.string (str [65])) := gg _ _ _ HO.out.1
        have o1 : w1.cell? ⟨bo, oo + 1, none⟩ = some (.string (str [66])) := gg _ _ _ HO.out.2
        have hz1 := fr1.has HZ.out HQ.out
        have hlt1 := hz1.lt
        obtain ⟨z0, z1, z2, z3, z4, z5⟩ := zer_six hz1
        obtain ⟨f0, f1, f2, f3, f4, f5⟩ := six_free hz1
        have HFD := Lib.hid fd1
        have HFR := Lib.hid fr1
        have HZ1 := Lib.hid hz1
        clear gg fd1 fr1 hz1
        go_wp2_with (go_at_call 105; refine (map3_any _ _).mono ?_; rintro e w' ⟨rfl, rfl⟩)
        obtain ⟨X1, X2, X3⟩ := HFin.out w1 [97] (.string (str [120])) (.cells #[.string { data := #[107] }, .string (str [120])] 9) HFD.out HFR.out
        rw [set6_fold]
        clear z0 z1 z2 z3 z4 z5 f0 f1 f2 f3 f4 f5 k2 k3 v0 v1 o0 o1 m3 d3 d64 mk mj HFin
        generalize (set6 w1 w.heap.size (.int .i64 1) (.string { data := #[] }) (.int .i64 0) (.string (str [97])) (.string (str [120])) (.slice none 0 0)).alloc (.cells #[.string { data := #[107] }, .string (str [120])] 9) = X at X1 X2 X3 ⊢
        have HX := Lib.hid (And.intro X1 X2)
        have y0 : X.cell? ⟨w.heap.size, 0, none⟩ = some (.int .i64 1) := X3.cell 0
        have y1 : X.cell? ⟨w.heap.size, 1, none⟩ = some (.string { data := #[] }) := X3.cell 1
        have y2 : X.cell? ⟨w.heap.size, 2, none⟩ = some (.int .i64 0) := X3.cell 2
        have y3 : X.cell? ⟨w.heap.size, 3, none⟩ = some (.string (str [97])) := X3.cell 3
        have y4 : X.cell? ⟨w.heap.size, 4, none⟩ = some (.string (str [120])) := X3.cell 4
        have y5 : X.cell? ⟨w.heap.size, 5, none⟩ = some (.slice none 0 0) := X3.cell 5
        clear X1 X2 X3
        have eV : refV x = [97] := by unfold refV; simp [E1.out, E2.out]
        have eF : refF x = [120] := by unfold refF; simp [E1.out, E2.out, E3.out]
        rw [eV, eF]
        refine bodyPost_ret (v := .agg #[.int .i64 1, .string { data := #[] }, .int .i64 0, .string (str [97]), .string (str [120]), .slice none 0 0]) (by simp [results, Tryd.results84, go_sem, y0, y1, y2, y3, y4, y5]) rfl ?_
        exact ⟨rfl, HX.out⟩
    · rw [hk2] at mk
      rcases hj2 with hj2 | hj2
      · rw [hj2] at mj
        have E1 := Lib.hid hm3
        have E2 := Lib.hid hk2
        have E3 := Lib.hid hj2
        clear hm3 hk2 hj2
        go_enter Tryd.func84, Tryd.ntmps84
        go_wp2_with fail
        rw [← HW.out]
        refine HN.out.mono ?_
        rintro e w1 ⟨rfl, fd1, fr1⟩
        have k2 : w1.cell? ⟨p, 2, none⟩ = some (.slice (some ⟨bv, ov, none⟩) 2 2) := fd1.2.1.cell 2
        have k3 : w1.cell? ⟨p, 3, none⟩ = some (.slice (some ⟨bo, oo, none⟩) 2 2) := fd1.2.1.cell 3
        have gg : ∀ b o u, w0.cell? ⟨b, o, none⟩ = some u → w1.cell? ⟨b, o, none⟩ = some u := fun b o u hu => (fd1.1.cell (p := ⟨b, o, none⟩) (World.block_lt_of_cell? _ _ hu)).trans hu
        have v0 : w1.cell? ⟨bv, ov, none⟩ = some (.string (str [97])) := gg _ _ _ HV.out.1
        have v1 : w1.cell? ⟨bv, ov + 1, none⟩ = some (.string (str [98])) := gg _ _ _ HV.out.2
        have o0 : w1.cell? ⟨bo, oo, none⟩ = some (.string (str [65])) := gg _ _ _ HO.out.1
        have o1 : w1.cell? ⟨bo, oo + 1, none⟩ = some (.string (str [66])) := gg _ _ _ HO.out.2
        have hz1 := fr1.has HZ.out HQ.out
        have hlt1 := hz1.lt
        obtain ⟨z0, z1, z2, z3, z4, z5⟩ := zer_six hz1
        obtain ⟨f0, f1, f2, f3, f4, f5⟩ := six_free hz1
        have HFD := Lib.hid fd1
        have HFR := Lib.hid fr1
        have HZ1 := Lib.hid hz1
        clear gg fd1 fr1 hz1
        go_wp2_with (go_at_call 105; refine (map3_any _ _).mono ?_; rintro e w' ⟨rfl, rfl⟩)
        obtain ⟨X1, X2, X3⟩ := HFin.out w1 [98] (.string { data := #[107] }) (.cells #[.string { data := #[107] }, .string (str [121])] 9) HFD.out HFR.out
        rw [set6_fold]
        clear z0 z1 z2 z3 z4 z5 f0 f1 f2 f3 f4 f5 k2 k3 v0 v1 o0 o1 m3 d3 d64 mk mj HFin
        generalize (set6 w1 w.heap.size (.int .i64 1) (.string { data := #[] }) (.int .i64 0) (.string (str [98])) (.string { data := #[107] }) (.slice none 0 0)).alloc (.cells #[.string { data := #[107] }, .string (str [121])] 9) = X at X1 X2 X3 ⊢
        have HX := Lib.hid (And.intro X1 X2)
        have y0 : X.cell? ⟨w.heap.size, 0, none⟩ = some (.int .i64 1) := X3.cell 0
        have y1 : X.cell? ⟨w.heap.size, 1, none⟩ = some (.string { data := #[] }) := X3.cell 1
        have y2 : X.cell? ⟨w.heap.size, 2, none⟩ = some (.int .i64 0) := X3.cell 2
        have y3 : X.cell? ⟨w.heap.size, 3, none⟩ = some (.string (str [98])) := X3.cell 3
        have y4 : X.cell? ⟨w.heap.size, 4, none⟩ = some (.string { data := #[107] }) := X3.cell 4
        have y5 : X.cell? ⟨w.heap.size, 5, none⟩ = some (.slice none 0 0) := X3.cell 5
        clear X1 X2 X3
        have eV : refV x = [98] := by unfold refV; simp [E1.out, E2.out]
        have eF : refF x = [107] := by unfold refF; simp [E3.out]
        rw [eV, eF]
        refine bodyPost_ret (v := .agg #[.int .i64 1, .string { data := #[] }, .int .i64 0, .string (str [98]), .string { data := #[107] }, .slice none 0 0]) (by simp [results, Tryd.results84, go_sem, y0, y1, y2, y3, y4, y5]) rfl ?_
        exact ⟨rfl, HX.out⟩
      · rw [hj2] at mj
        have E1 := Lib.hid hm3
        have E2 := Lib.hid hk2
        have E3 := Lib.hid hj2
        clear hm3 hk2 hj2
        go_enter Tryd.func84, Tryd.ntmps84
        go_wp2_with fail
        rw [← HW.out]
        refine HN.out.mono ?_
        rintro e w1 ⟨rfl, fd1, fr1⟩
        have k2 : w1.cell? ⟨p, 2, none⟩ = some (.slice (some ⟨bv, ov, none⟩) 2 2) := fd1.2.1.cell 2
        have k3 : w1.cell? ⟨p, 3, none⟩ = some (.slice (some ⟨bo, oo, none⟩) 2 2) := fd1.2.1.cell 3
        have gg : ∀ b o u, w0.cell? ⟨b, o, none⟩ = some u → w1.cell? ⟨b, o, none⟩ = some u := fun b o u hu => (fd1.1.cell (p := ⟨b, o, none⟩) (World.block_lt_of_cell? _ _ hu)).trans hu
        have v0 : w1.cell? ⟨bv, ov, none⟩ = some (.string (str [97])) := gg _ _ _ HV.out.1
        have v1 : w1.cell? ⟨bv, ov + 1, none⟩ = some (.string (str [98])) := gg _ _ _ HV.out.2
        have o0 : w1.cell? ⟨bo, oo, none⟩ = some (.string (str [65])) := gg _ _ _ HO.out.1
        have o1 : w1.cell? ⟨bo, oo + 1, none⟩ = some (.string (str [66])) := gg _ _ _ HO.out.2
        have hz1 := fr1.has HZ.out HQ.out
        have hlt1 := hz1.lt
        obtain ⟨z0, z1, z2, z3, z4, z5⟩ := zer_six hz1
        obtain ⟨f0, f1, f2, f3, f4, f5⟩ := six_free hz1
        have HFD := Lib.hid fd1
        have HFR := Lib.hid fr1
        have HZ1 := Lib.hid hz1
        clear gg fd1 fr1 hz1
        go_wp2_with (go_at_call 105; refine (map3_any _ _).mono ?_; rintro e w' ⟨rfl, rfl⟩)
        obtain ⟨X1, X2, X3⟩ := HFin.out w1 [98] (.string (str [121])) (.cells #[.string { data := #[107] }, .string (str [121])] 9) HFD.out HFR.out
        rw [set6_fold]
        clear z0 z1 z2 z3 z4 z5 f0 f1 f2 f3 f4 f5 k2 k3 v0 v1 o0 o1 m3 d3 d64 mk mj HFin
        generalize (set6 w1 w.heap.size (.int .i64 1) (.string { data := #[] }) (.int .i64 0) (.string (str [98])) (.string (str [121])) (.slice none 0 0)).alloc (.cells #[.string { data := #[107] }, .string (str [121])] 9) = X at X1 X2 X3 ⊢
        have HX := Lib.hid (And.intro X1 X2)
        have y0 : X.cell? ⟨w.heap.size, 0, none⟩ = some (.int .i64 1) := X3.cell 0
        have y1 : X.cell? ⟨w.heap.size, 1, none⟩ = some (.string { data := #[] }) := X3.cell 1
        have y2 : X.cell? ⟨w.heap.size, 2, none⟩ = some (.int .i64 0) := X3.cell 2
        have y3 : X.cell? ⟨w.heap.size, 3, none⟩ = some (.string (str [98])) := X3.cell 3
        have y4 : X.cell? ⟨w.heap.size, 4, none⟩ = some (.string (str [121])) := X3.cell 4
        have y5 : X.cell? ⟨w.heap.size, 5, none⟩ = some (.slice none 0 0) := X3.cell 5
        clear X1 X2 X3
        have eV : refV x = [98] := by unfold refV; simp [E1.out, E2.out]
        have eF : refF x = [121] := by unfold refF; simp [E1.out, E2.out, E3.out]
        rw [eV, eF]
        refine bodyPost_ret (v := .agg #[.int .i64 1, .string { data := #[] }, .int .i64 0, .string (str [98]), .string (str [121]), .slice none 0 0]) (by simp [results, Tryd.results84, go_sem, y0, y1, y2, y3, y4, y5]) rfl ?_
        exact ⟨rfl, HX.out⟩
  · have e3 : (x % 3 == 0) = false := by simpa using hm3
    rcases hj2 with hj2 | hj2
    · rw [hj2] at mj
      have E1 := Lib.hid hm3
      have E3 := Lib.hid hj2
      clear hm3 hk2 hj2
      go_enter Tryd.func84, Tryd.ntmps84
      go_wp2_with fail
      rw [← HW.out]
      refine HN.out.mono ?_
      rintro e w1 ⟨rfl, fd1, fr1⟩
      have k2 : w1.cell? ⟨p, 2, none⟩ = some (.slice (some ⟨bv, ov, none⟩) 2 2) := fd1.2.1.cell 2
      have k3 : w1.cell? ⟨p, 3, none⟩ = some (.slice (some ⟨bo, oo, none⟩) 2 2) := fd1.2.1.cell 3
      have gg : ∀ b o u, w0.cell? ⟨b, o, none⟩ = some u → w1.cell? ⟨b, o, none⟩ = some u := fun b o u hu => (fd1.1.cell (p := ⟨b, o, none⟩) (World.block_lt_of_cell? _ _ hu)).trans hu
      have v0 : w1.cell? ⟨bv, ov, none⟩ = some (.string (str [97])) := gg _ _ _ HV.out.1
      have v1 : w1.cell? ⟨bv, ov + 1, none⟩ = some (.string (str [98])) := gg _ _ _ HV.out.2
      have o0 : w1.cell? ⟨bo, oo, none⟩ = some (.string (str [65])) := gg _ _ _ HO.out.1
      have o1 : w1.cell? ⟨bo, oo + 1, none⟩ = some (.string (str [66])) := gg _ _ _ HO.out.2
      have hz1 := fr1.has HZ.out HQ.out
      have hlt1 := hz1.lt
      obtain ⟨z0, z1, z2, z3, z4, z5⟩ := zer_six hz1
      obtain ⟨f0, f1, f2, f3, f4, f5⟩ := six_free hz1
      have HFD := Lib.hid fd1
      have HFR := Lib.hid fr1
      have HZ1 := Lib.hid hz1
      clear gg fd1 fr1 hz1
      go_wp2_with (go_at_call 105; refine (map3_any _ _).mono ?_; rintro e w' ⟨rfl, rfl⟩)
      obtain ⟨X1, X2, X3⟩ := HFin.out w1 [99] (.string { data := #[107] }) (.cells #[.string { data := #[107] }, .string (str [120])] 9) HFD.out HFR.out
      rw [set6_fold]
      clear z0 z1 z2 z3 z4 z5 f0 f1 f2 f3 f4 f5 k2 k3 v0 v1 o0 o1 m3 d3 d64 mk mj HFin
      generalize (set6 w1 w.heap.size (.int .i64 1) (.string { data := #[] }) (.int .i64 0) (.string (str [99])) (.string { data := #[107] }) (.slice none 0 0)).alloc (.cells #[.string { data := #[107] }, .string (str [120])] 9) = X at X1 X2 X3 ⊢
      have HX := Lib.hid (And.intro X1 X2)
      have y0 : X.cell? ⟨w.heap.size, 0, none⟩ = some (.int .i64 1) := X3.cell 0
      have y1 : X.cell? ⟨w.heap.size, 1, none⟩ = some (.string { data := #[] }) := X3.cell 1
      have y2 : X.cell? ⟨w.heap.size, 2, none⟩ = some (.int .i64 0) := X3.cell 2
      have y3 : X.cell? ⟨w.heap.size, 3, none⟩ = some (.string (str [99])) := X3.cell 3
      have y4 : X.cell? ⟨w.heap.size, 4, none⟩ = some (.string { data := #[107] }) := X3.cell 4
      have y5 : X.cell? ⟨w.heap.size, 5, none⟩ = some (.slice none 0 0) := X3.cell 5
      clear X1 X2 X3
      have eV : refV x = [99] := by unfold refV; simp [E1.out]
      have eF : refF x = [107] := by unfold refF; simp [E3.out]
      rw [eV, eF]
      refine bodyPost_ret (v := .agg #[.int .i64 1, .string { data := #[] }, .int .i64 0, .string (str [99]), .string { data := #[107] }, .slice none 0 0]) (by simp [results, Tryd.results84, go_sem, y0, y1, y2, y3, y4, y5]) rfl ?_
      exact ⟨rfl, HX.out⟩
    · rw [hj2] at mj
      have E1 := Lib.hid hm3
      have E3 := Lib.hid hj2
      clear hm3 hk2 hj2
      go_enter Tryd.func84, Tryd.ntmps84
      go_wp2_with fail
      rw [← HW.out]
      refine HN.out.mono ?_
      rintro e w1 ⟨rfl, fd1, fr1⟩
      have k2 : w1.cell? ⟨p, 2, none⟩ = some (.slice (some ⟨bv, ov, none⟩) 2 2) := fd1.2.1.cell 2
      have k3 : w1.cell? ⟨p, 3, none⟩ = some (.slice (some ⟨bo, oo, none⟩) 2 2) := fd1.2.1.cell 3
      have gg : ∀ b o u, w0.cell? ⟨b, o, none⟩ = some u → w1.cell? ⟨b, o, none⟩ = some u := fun b o u hu => (fd1.1.cell (p := ⟨b, o, none⟩) (World.block_lt_of_cell? _ _ hu)).trans hu
      have v0 : w1.cell? ⟨bv, ov, none⟩ = some (.string (str [97])) := gg _ _ _ HV.out.1
      have v1 : w1.cell? ⟨bv, ov + 1, none⟩ = some (.string (str [98])) := gg _ _ _ HV.out.2
      have o0 : w1.cell? ⟨bo, oo, none⟩ = some (.string (str [65])) := gg _ _ _ HO.out.1
      have o1 : w1.cell? ⟨bo, oo + 1, none⟩ = some (.string (str [66])) := gg _ _ _ HO.out.2
      have hz1 := fr1.has HZ.out HQ.out
      have hlt1 := hz1.lt
      obtain ⟨z0, z1, z2, z3, z4, z5⟩ := zer_six hz1
      obtain ⟨f0, f1, f2, f3, f4, f5⟩ := six_free hz1
      have HFD := Lib.hid fd1
      have HFR := Lib.hid fr1
      have HZ1 := Lib.hid hz1
      clear gg fd1 fr1 hz1
      go_wp2_with (go_at_call 105; refine (map3_any _ _).mono ?_; rintro e w' ⟨rfl, rfl⟩)
      obtain ⟨X1, X2, X3⟩ := HFin.out w1 [99] (.string (str [120])) (.cells #[.string { data := #[107] }, .string (str [120])] 9) HFD.out HFR.out
      rw [set6_fold]
      clear z0 z1 z2 z3 z4 z5 f0 f1 f2 f3 f4 f5 k2 k3 v0 v1 o0 o1 m3 d3 d64 mk mj HFin
      generalize (set6 w1 w.heap.size (.int .i64 1) (.string { data := #[] }) (.int .i64 0) (.string (str [99])) (.string (str [120])) (.slice none 0 0)).alloc (.cells #[.string { data := #[107] }, .string (str [120])] 9) = X at X1 X2 X3 ⊢
      have HX := Lib.hid (And.intro X1 X2)
      have y0 : X.cell? ⟨w.heap.size, 0, none⟩ = some (.int .i64 1) := X3.cell 0
      have y1 : X.cell? ⟨w.heap.size, 1, none⟩ = some (.string { data := #[] }) := X3.cell 1
      have y2 : X.cell? ⟨w.heap.size, 2, none⟩ = some (.int .i64 0) := X3.cell 2
      have y3 : X.cell? ⟨w.heap.size, 3, none⟩ = some (.string (str [99])) := X3.cell 3
      have y4 : X.cell? ⟨w.heap.size, 4, none⟩ = some (.string (str [120])) := X3.cell 4
      have y5 : X.cell? ⟨w.heap.size, 5, none⟩ = some (.slice none 0 0) := X3.cell 5
      clear X1 X2 X3
      have eV : refV x = [99] := by unfold refV; simp [E1.out]
      have eF : refF x = [120] := by unfold refF; simp [E1.out, E3.out]
      rw [eV, eF]
      refine bodyPost_ret (v := .agg #[.int .i64 1, .string { data := #[] }, .int .i64 0, .string (str [99]), .string (str [120]), .slice none 0 0]) (by simp [results, Tryd.results84, go_sem, y0, y1, y2, y3, y4, y5]) rfl ?_
      exact ⟨rfl, HX.out⟩
end Go.Proofs.YtbhjimlikffalaaDoor
