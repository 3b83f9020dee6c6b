/- Layer 8: reckon. -/
import Derived.Test.YtbhjimlikffalaaDoorVaRk
namespace Go.Proofs.YtbhjimlikffalaaDoor
open Go.RowKit
set_option linter.unusedVariables false

theorem Bds.imp {w w' : World} {A : Option Addr} {c : Nat} {l : List Bd} (h : Bds w A c l) (hk : ∀ (p : Addr) v, w.cell? p = some v → w'.cell? p = some v) : Bds w' A c l := by
  have hL : ∀ A xs, Lies w A xs → Lies w' A xs := fun A xs h i u hu => by obtain ⟨x, rfl, hx⟩ := h i u hu; exact ⟨x, rfl, hk _ _ hx⟩
  refine ⟨fun i x hx => ?_, h.2⟩
  obtain ⟨⟨b, off, rfl, h0, h1, h2⟩, hs, hn⟩ := h.1 i x hx
  exact ⟨⟨b, off, rfl, hk _ _ h0, hk _ _ h1, hk _ _ h2⟩, ⟨hL _ _ hs.1, hs.2⟩, ⟨hL _ _ hn.1, hn.2⟩⟩
theorem Bds.fr {p : Nat} {w w' : World} {A : Option Addr} {c : Nat} {l : List Bd} (h : Bds (hidB p w) A c l) (hf : FrP p w w') : Bds (hidB p w') A c l := h.below (by rw [hid_size]; exact hf)
theorem Bds.out {p : Nat} {w : World} {A : Option Addr} {c : Nat} {l : List Bd} (h : Bds (hidB p w) A c l) : Bds w A c l := h.imp fun _ _ h => hid_cell h
theorem cells_out {p : Nat} {w : World} {A : Option Addr} {i : Nat} {t : ET} (h : CellsAt (hidB p w) A i t) : CellsAt w A i t := h.imp fun _ _ h => hid_cell h
/-- What a call of reckon does. -/
def RkAt (A : Option Addr) (c : Nat) (l : List Bd) (t : ET) : Prop := ∀ (w : World) (p : Nat) (bad : Bool), t.In (hidB p w) → Bds (hidB p w) A c l → Bad w p bad →
  Calls Tryd.prog 58 #[t.val, .slice A l.length c, clo p] w fun e w' => e = .returned (rk l t).1.val ∧ Bad w' p (bad || (rk l t).2) ∧ FrP p w w'
/-- An expression's cells. -/
abbrev bxs (t : ET) : Array Value := #[.int .i64 t.k, .string (str t.op), .int .i64 t.n, .string (str t.v), .string (str t.f), .slice t.A t.ks.length t.c]
/-- The box of an expression, ahead of the walk. -/
theorem box_pre {w : World} {p : Nat} {bad : Bool} (hb : Bad w p bad) (t : ET) : ∃ W, W = w.alloc (.cells (bxs t) 24) ∧ Has W w.heap.size 24 (bxs t) ∧ FrP p w W ∧ Bad W p bad ∧ w.heap.size ≠ p := by
  refine ⟨_, rfl, heap_alloc_new w _, ?_, ?_, ?_⟩
  · exact FrP.below hb.lt ((Below.refl _ _).alloc (Nat.le_refl _) _)
  · exact hb.below ((Below.refl _ _).alloc (Nat.le_refl _) _) hb.lt
  · have := hb.lt; omega
set_option maxHeartbeats 2000000 in
theorem reckon_0 {A : Option Addr} {c : Nat} {l : List Bd} (op : Nm) (n : Int) (v f : Nm) (B : Option Addr) (d : Nat) (ks : List ET) : RkAt A c l (.mk 0 op n v f B d ks) := by
  intro w p bad hin hB hb
  rw [rk_0]
  obtain ⟨W, hW, hx, fr, hbW, hqp⟩ := box_pre hb (.mk 0 op n v f B d ks)
  obtain ⟨z0, z1, z2, z3, z4, z5⟩ := six_has hx
  have HW := Lib.hid hW
  have HF := Lib.hid fr
  have HB := Lib.hid hbW
  clear hW fr hbW hx hb hB hin
  show Calls _ _ #[ex 0 op n v f B ks.length d, _, _] _ _
  unfold ex
  go_enter Tryd.func58, Tryd.ntmps58
  go_wp2_with fail
  go_ret
  rw [show w.alloc (.cells #[.int .i64 0, .string (str op), .int .i64 n, .string (str v), .string (str f), .slice B ks.length d] 24) = W from HW.out.symm]
  exact ⟨rfl, by have := HB.out; simpa using this, HF.out⟩
set_option maxHeartbeats 2000000 in
theorem reckon_1 {A : Option Addr} {c : Nat} {l : List Bd} (op : Nm) (n : Int) (v f : Nm) (B : Option Addr) (d : Nat) (ks : List ET) : RkAt A c l (.mk 1 op n v f B d ks) := by
  intro w p bad hin hB hb
  rw [rk_1]
  obtain ⟨W, hW, hx, fr, hbW, hqp⟩ := box_pre hb (.mk 1 op n v f B d ks)
  obtain ⟨z0, z1, z2, z3, z4, z5⟩ := six_has hx
  have ec := enters_clo
  have HL := Lib.hid (look_any A c l v f W (hB.fr fr).out)
  have HW := Lib.hid hW
  have HF := Lib.hid fr
  have HB := Lib.hid hbW
  clear hW fr hbW hx hb hB hin
  show Calls _ _ #[ex 1 op n v f B ks.length d, _, _] _ _
  unfold ex
  go_enter Tryd.func58, Tryd.ntmps58
  go_wp2_with (first
    | (go_at_call 32; rw [show w.alloc (.cells #[.int .i64 1, .string (str op), .int .i64 n, .string (str v), .string (str f), .slice B ks.length d] 24) = W from HW.out.symm]; refine HL.out.mono ?_; rw [two]; rintro e w1 ⟨rfl, b1⟩; have bd1 := HB.out.below b1 HB.out.lt; have fr1 := HF.out.trans (FrP.below HB.out.lt b1))
    | (go_at_fn 57; refine (clo_any _ _ _ p _ bd1).mono ?_; rintro e w2 ⟨rfl, bd2, fr2⟩))
  go_ret
  exact ⟨rfl, bd2, fr1.trans fr2⟩
set_option maxHeartbeats 4000000 in
theorem reckon_2 {A : Option Addr} {c : Nat} {l : List Bd} (op : Nm) (n : Int) (v f : Nm) (B : Option Addr) (d : Nat) (x : ET) (hx : RkAt A c l x) (hok : (rk l x).1.ok) : RkAt A c l (.mk 2 op n v f B d [x]) := by
  intro w p bad hin hB hb
  rw [rk_2, unV]
  obtain ⟨r, hr⟩ : ∃ r, rk l x = r := ⟨_, rfl⟩
  obtain ⟨W, hW, hxx, fr, hbW, hqp⟩ := box_pre hb (.mk 2 op n v f B d [x])
  have hc0 := (hin.kids 0 (by simp)).1
  have hk0 := ((FrP.in_ hin fr).kids 0 (by simp)).2
  have hcall := hx W p bad hk0 (hB.fr fr) hbW
  obtain ⟨b, off, hBe, g0, g1, g2, g3, g4, g5⟩ := cells_out hc0
  subst hBe
  simp only [List.getElem_cons_zero, Nat.zero_mul, Nat.add_zero] at g0 g1 g2 g3 g4 g5
  have hbl : b < w.heap.size := World.block_lt_of_cell? _ _ g0
  rw [hr] at hcall hok
  rw [hr]
  have HX := Lib.hid hcall
  have HO := Lib.hid hok
  have HW := Lib.hid hW
  have HF := Lib.hid fr
  clear hW fr hbW hxx hb hB hin hc0 hk0 hcall hx hok hr
  show Calls _ _ #[ex 2 op n v f (some ⟨b, off, none⟩) 1 d, _, _] _ _
  have hv : x.val = .agg #[.int .i64 x.k, .string (str x.op), .int .i64 x.n, .string (str x.v), .string (str x.f), .slice x.A x.ks.length x.c] := rfl
  rw [hv] at HX
  clear hv
  unfold ex
  go_enter Tryd.func58, Tryd.ntmps58
  go_wp2_with (first
    | (go_at_call 58; rw [show w.alloc (.cells #[.int .i64 2, .string (str op), .int .i64 n, .string (str v), .string (str f), .slice (some ⟨b, off, none⟩) 1 d] 24) = W from HW.out.symm]; refine HX.out.mono ?_; rintro e w1 ⟨rfl, bd1, fr1⟩)
    | (go_at_call 78; refine (contrary_any _ HO.out _ p _ bd1).mono ?_; rintro e w2 ⟨rfl, bd2, fr2⟩))
  go_ret
  exact ⟨rfl, by rw [← Bool.or_assoc]; exact bd2, HF.out.trans (fr1.trans fr2)⟩
set_option maxHeartbeats 8000000 in
theorem reckon_3 {A : Option Addr} {c : Nat} {l : List Bd} (op : Nm) (n : Int) (v f : Nm) (B : Option Addr) (d : Nat) (x y : ET) (hx : RkAt A c l x) (hy : RkAt A c l y) (s : Int) (hok : (rk l x).1.of s) (hok2 : (rk l y).1.of s) : RkAt A c l (.mk 3 op n v f B d [x, y]) := by
  intro w p bad hin hB hb
  rw [rk_3]
  obtain ⟨r, hr⟩ : ∃ r, rk l x = r := ⟨_, rfl⟩
  obtain ⟨r2, hr2⟩ : ∃ r, rk l y = r := ⟨_, rfl⟩
  obtain ⟨W, hW, hxx, fr, hbW, hqp⟩ := box_pre hb (.mk 3 op n v f B d [x, y])
  have hc0 := (hin.kids 0 (by simp)).1
  have hc1 := (hin.kids 1 (by simp)).1
  have hinW := FrP.in_ hin fr
  have hBW := hB.fr fr
  have hk0 := (hinW.kids 0 (by simp)).2
  have hk1 := (hinW.kids 1 (by simp)).2
  have hc1W := (hinW.kids 1 (by simp)).1
  have hcall := hx W p bad hk0 hBW hbW
  obtain ⟨b, off, hBe, g0, g1, g2, g3, g4, g5⟩ := cells_out hc0
  subst hBe
  simp only [List.getElem_cons_zero, Nat.zero_mul, Nat.add_zero] at g0 g1 g2 g3 g4 g5
  have hbl : b < w.heap.size := World.block_lt_of_cell? _ _ g0
  rw [hr] at hcall hok
  rw [hr2] at hok2
  rw [hr, hr2]
  obtain ⟨v1, d1⟩ := r
  obtain ⟨v2, d2⟩ := r2
  simp only at hcall hok hok2
  /- the second Kid, in whatever world the first has left -/
  have second : ∀ (w1 : World) (bad1 : Bool), FrP p W w1 → Bad w1 p bad1 → (Has w1 w.heap.size 24 (bxs (.mk 3 op n v f (some ⟨b, off, none⟩) d [x, y])) ∧ (w1.cell? ⟨b, off + 6, none⟩ = some (.int .i64 y.k) ∧ w1.cell? ⟨b, off + 6 + 1, none⟩ = some (.string (str y.op)) ∧ w1.cell? ⟨b, off + 6 + 2, none⟩ = some (.int .i64 y.n) ∧ w1.cell? ⟨b, off + 6 + 3, none⟩ = some (.string (str y.v)) ∧ w1.cell? ⟨b, off + 6 + 4, none⟩ = some (.string (str y.f)) ∧ w1.cell? ⟨b, off + 6 + 5, none⟩ = some (.slice y.A y.ks.length y.c))
      ∧ Calls Tryd.prog 58 #[.agg #[.int .i64 y.k, .string (str y.op), .int .i64 y.n, .string (str y.v), .string (str y.f), .slice y.A y.ks.length y.c], .slice A l.length c, clo p] w1 fun e w' => e = .returned v2.val ∧ Bad w' p (bad1 || d2) ∧ (FrP p W w' ∧ Has w' w.heap.size 24 (bxs (.mk 3 op n v f (some ⟨b, off, none⟩) d [x, y])))) := by
    intro w1 bad1 f1 hb1
    refine ⟨f1.has hxx hqp, ?_, ?_⟩
    · obtain ⟨b', off', e, g0, g1, g2, g3, g4, g5⟩ := cells_out (FrP.in_ hinW f1 |>.kids 1 (by simp)).1
      cases e
      simp only [List.getElem_cons_succ, List.getElem_cons_zero, Nat.one_mul] at g0 g1 g2 g3 g4 g5
      exact ⟨g0, g1, g2, g3, g4, g5⟩
    · have := hy w1 p bad1 ((FrP.in_ hinW f1).kids 1 (by simp)).2 (hBW.fr f1) hb1
      rw [hr2] at this
      refine this.mono ?_
      rintro e w' ⟨rfl, h1, h2⟩
      exact ⟨rfl, h1, f1.trans h2, (f1.trans h2).has hxx hqp⟩
  have HX := Lib.hid hcall
  have HW := Lib.hid hW
  have HF := Lib.hid fr
  have H2 := Lib.hid second
  clear hW fr hbW hb hB hin hc0 hk0 hcall hx hr hr2 second hinW hBW hk1 hc1 hc1W hy
  show Calls _ _ #[ex 3 op n v f (some ⟨b, off, none⟩) 2 d, _, _] _ _
  have hv : x.val = .agg #[.int .i64 x.k, .string (str x.op), .int .i64 x.n, .string (str x.v), .string (str x.f), .slice x.A x.ks.length x.c] := rfl
  rw [hv] at HX
  clear hv
  unfold ex
  have e1 := str_toList op
  have HXX := Lib.hid hxx
  clear hxx
  cases v1 with
  | t dd =>
    have a1 := as_tt (.bool dd)
    dsimp only [Vl.val] at HX
    by_cases hd : dd = (op == [124, 124])
    · have hd1 : (dd == (op == [124, 124])) = true := by simpa using hd
      have HR : Hid (binV op (.t dd, d1) (v2, d2) = (.t dd, d1)) := Lib.hid (by unfold binV; simp only; rw [if_pos hd])
      clear hd
      go_enter Tryd.func58, Tryd.ntmps58
      go_wp2_with (go_at_call 58; rw [show w.alloc (.cells #[.int .i64 3, .string (str op), .int .i64 n, .string (str v), .string (str f), .slice (some ⟨b, off, none⟩) 2 d] 24) = W from HW.out.symm]; refine HX.out.mono ?_; rintro e w1 ⟨rfl, bd1, fr1⟩; have HZ := Lib.hid (H2.out w1 _ fr1 bd1); have k1 : w1.cell? ⟨w.heap.size, 1, none⟩ = some (.string (str op)) := HZ.out.1.cell 1; have k5 : w1.cell? ⟨w.heap.size, 5, none⟩ = some (.slice (some ⟨b, off, none⟩) 2 d) := HZ.out.1.cell 5; obtain ⟨g10, g11, g12, g13, g14, g15⟩ := HZ.out.2.1; have fr2 := HF.out.trans fr1)
      go_ret
      rw [HR.out]
      exact ⟨rfl, bd1, fr2⟩
    · have hd1 : (dd == (op == [124, 124])) = false := by simpa using hd
      have HR : Hid (binV op (.t dd, d1) (v2, d2) = (v2, d1 || d2)) := Lib.hid (by unfold binV; simp only; rw [if_neg hd])
      clear hd
      go_enter Tryd.func58, Tryd.ntmps58
      go_wp2_with (first
        | (go_at_call 58; rw [show w.alloc (.cells #[.int .i64 3, .string (str op), .int .i64 n, .string (str v), .string (str f), .slice (some ⟨b, off, none⟩) 2 d] 24) = W from HW.out.symm]; refine HX.out.mono ?_; rintro e w1 ⟨rfl, bd1, fr1⟩; have HZ := Lib.hid (H2.out w1 _ fr1 bd1); have k1 : w1.cell? ⟨w.heap.size, 1, none⟩ = some (.string (str op)) := HZ.out.1.cell 1; have k5 : w1.cell? ⟨w.heap.size, 5, none⟩ = some (.slice (some ⟨b, off, none⟩) 2 d) := HZ.out.1.cell 5; obtain ⟨g10, g11, g12, g13, g14, g15⟩ := HZ.out.2.1; have fr2 := HF.out.trans fr1)
        | (go_at_call 58; refine HZ.out.2.2.mono ?_; rintro e w2 ⟨rfl, bd2, fr3, hx2⟩; have m1 : w2.cell? ⟨w.heap.size, 1, none⟩ = some (.string (str op)) := hx2.cell 1; have fr4 := HF.out.trans fr3))
      go_ret
      rw [HR.out]
      exact ⟨rfl, by rw [← Bool.or_assoc]; exact bd2, fr4⟩
  | n xx =>
    obtain ⟨rfl, hin1⟩ := hok
    cases v2 with
    | t d2 => exact absurd (show (1 : Int) = 2 from hok2) (by decide)
    | n yy =>
      have a1 := as_nt (.int .i64 xx)
      have a2 := as_n (.int .i64 xx)
      have a3 := as_n (.int .i64 yy)
      have HI := Lib.hid (And.intro hin1 hok2.2)
      dsimp only [Vl.val] at HX H2
      have HR : Hid (binV op (.n xx, d1) (.n yy, d2) = ((operV op xx yy).1, (d1 || d2) || (operV op xx yy).2)) := Lib.hid rfl
      go_enter Tryd.func58, Tryd.ntmps58
      go_wp2_with (first
        | (go_at_call 58; rw [show w.alloc (.cells #[.int .i64 3, .string (str op), .int .i64 n, .string (str v), .string (str f), .slice (some ⟨b, off, none⟩) 2 d] 24) = W from HW.out.symm]; refine HX.out.mono ?_; rintro e w1 ⟨rfl, bd1, fr1⟩; have HZ := Lib.hid (H2.out w1 _ fr1 bd1); have k1 : w1.cell? ⟨w.heap.size, 1, none⟩ = some (.string (str op)) := HZ.out.1.cell 1; have k5 : w1.cell? ⟨w.heap.size, 5, none⟩ = some (.slice (some ⟨b, off, none⟩) 2 d) := HZ.out.1.cell 5; obtain ⟨g10, g11, g12, g13, g14, g15⟩ := HZ.out.2.1; have fr2 := HF.out.trans fr1)
        | (go_at_call 58; refine HZ.out.2.2.mono ?_; rintro e w2 ⟨rfl, bd2, fr3, hx2⟩; have m1 : w2.cell? ⟨w.heap.size, 1, none⟩ = some (.string (str op)) := hx2.cell 1; have fr4 := HF.out.trans fr3))
      go_region_with (go_at_call 79; refine (operate_any op xx yy HI.out.1 HI.out.2 _ p _ (bd2.below (Below.refl _ _).drew bd2.lt)).mono ?_; rintro e w3 ⟨rfl, bd3, fr5⟩)
      all_goals go_wp2_with fail
      all_goals go_ret
      all_goals rw [HR.out]
      all_goals exact ⟨rfl, by simpa [Bool.or_assoc] using bd3, fr4.trans ((FrP.below bd2.lt (Below.refl _ _).drew).trans fr5)⟩
end Go.Proofs.YtbhjimlikffalaaDoor
