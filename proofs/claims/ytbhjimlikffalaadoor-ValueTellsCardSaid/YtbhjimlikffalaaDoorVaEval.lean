/- Layer 8: Eval, Holds. -/
import Derived.Test.YtbhjimlikffalaaDoorVaReck
namespace Go.Proofs.YtbhjimlikffalaaDoor
open Go.RowKit
set_option linter.unusedVariables false

theorem ok_of {v : Vl} {ty : Int} (h : v.of ty) : v.ok := by cases v with
  | n x => exact h.2
  | t b => trivial
theorem reckon_any {A : Option Addr} {c : Nat} {l : List Bd} (h64 : Bd64 l) {w0 : World} : ∀ t : ET, t.In w0 → rightT t = true → typT t ≠ 0 → RkAt A c l t := by
  refine ET.ind fun k op n v f B d ks ih hin hr ht => ?_
  have h1 := one_kinds (right_one hr)
  have hk := right_kids hr
  rcases h1 with ⟨rfl, hm, hn, rfl, rfl, rfl⟩ | ⟨rfl, hm, hv, hf, rfl, rfl⟩ | ⟨rfl, hm, ho, -⟩ | ⟨rfl, hm, hl, -⟩
  · exact reckon_0 _ _ _ _ _ _ _
  · exact reckon_1 _ _ _ _ _ _ _
  · obtain ⟨x, rfl⟩ := List.length_eq_one_iff.1 hm
    obtain ⟨t1, t2⟩ := typ_one ht
    have h0 : typT x ≠ 0 := by rcases ho with rfl | rfl <;> rw [t1] <;> decide
    have hxi := (hin.kids 0 (by simp)).2
    exact reckon_2 _ _ _ _ _ _ _ (ih x (by simp) hxi (hk x (by simp)) h0) (ok_of (rk_of h64 x hxi (hk x (by simp)) h0))
  · obtain ⟨x, y, rfl⟩ := len_two hm
    obtain ⟨t1, t2, t3⟩ := typ_two ht
    have hn : (opT op).1 ≠ 0 := by rcases opT_pair op with e | e | e <;> rw [e] <;> decide
    have hxi := (hin.kids 0 (by simp)).2
    have hyi := (hin.kids 1 (by simp)).2
    have hx := rk_of h64 x hxi (hk x (by simp)) (by rw [t1]; exact hn)
    have hy := rk_of h64 y hyi (hk y (by simp)) (by rw [t2]; exact hn)
    rw [t1] at hx
    rw [t2] at hy
    exact reckon_3 _ _ _ _ _ _ _ _ (ih x (by simp) hxi (hk x (by simp)) (by rw [t1]; exact hn)) (ih y (by simp) hyi (hk y (by simp)) (by rw [t2]; exact hn)) _ hx hy
/-- A new block, laid aside. -/
theorem hid_new {w : World} (o : Obj) (a : Addr) (v : Value) (h : w.cell? a = some v) : (hidB w.heap.size (w.alloc o)).cell? a = some v := by
  have hlt := World.block_lt_of_cell? _ _ h
  rw [cell_block (hid_block (w.alloc o) (by omega : a.block ≠ w.heap.size)), World.cell?_alloc_lt _ _ _ hlt]
  exact h
theorem FrP.new {w w' : World} {o : Obj} (h : FrP w.heap.size (w.alloc o) w') : Below w.heap.size w w' :=
  ((Below.refl _ w).alloc (Nat.le_refl _) o).trans (h.low (Nat.le_refl _) (by simp))
set_option maxHeartbeats 4000000 in
theorem eval_any {A : Option Addr} {c : Nat} {l : List Bd} (h64 : Bd64 l) (t : ET) (w : World) (hin : t.In w) (hT : Tabs8 w) (hB : Bds w A c l) :
    Calls Tryd.prog 29 #[t.val, .slice A l.length c] w fun e w' => e = .returned (two (evV l t)) ∧ Below w.heap.size w w' := by
  obtain ⟨W, hW⟩ : ∃ W, W = w.alloc (.cells (bxs t) 24) := ⟨_, rfl⟩
  have bl : Below w.heap.size w W := by rw [hW]; exact (Below.refl _ _).alloc (Nat.le_refl _) _
  have hx : Has W w.heap.size 24 (bxs t) := by rw [hW]; exact heap_alloc_new w _
  have hty := type_any t W (hin.below bl) (hT.below bl)
  obtain ⟨R, hR⟩ : ∃ R, evV l t = R := ⟨_, rfl⟩
  rw [hR]
  have hv : t.val = .agg #[.int .i64 t.k, .string (str t.op), .int .i64 t.n, .string (str t.v), .string (str t.f), .slice t.A t.ks.length t.c] := rfl
  obtain ⟨ty, hty'⟩ : ∃ x, typeT t = x := ⟨_, rfl⟩
  unfold evV at hR
  rw [hty'] at hty hR
  have HW := Lib.hid hW
  have HB := Lib.hid bl
  by_cases h0 : ty = 0
  · subst h0
    rw [if_pos rfl] at hR
    rw [hv] at hty ⊢
    have HR := Lib.hid hR
    have HT := Lib.hid hty
    clear hR hty hx hW bl hin hT hB hv hty'
    go_enter Tryd.func29, Tryd.ntmps29
    go_wp2_with (go_at_call 8; rw [show w.alloc (.cells #[.int .i64 t.k, .string (str t.op), .int .i64 t.n, .string (str t.v), .string (str t.f), .slice t.A t.ks.length t.c] 24) = W from HW.out.symm]; refine HT.out.mono ?_; rintro e w1 ⟨rfl, b1⟩)
    go_ret2
    exact ⟨ret_tw HR.out, HB.out.trans (b1.mono HB.out.size)⟩
  · rw [if_neg h0] at hR
    have hr : rightT t = true := by
      unfold typeT at hty'
      split at hty'
      · assumption
      · exact absurd hty'.symm h0
    have htt : typT t ≠ 0 := by
      unfold typeT at hty'
      rw [if_pos hr] at hty'
      rw [hty']; exact h0
    have hd : (ty == 0) = false := by simpa using h0
    obtain ⟨r, hrk⟩ : ∃ r, rk l t = r := ⟨_, rfl⟩
    have call2 : ∀ w1, Below W.heap.size W w1 → Calls Tryd.prog 58 #[t.val, .slice A l.length c, clo w1.heap.size] (w1.alloc (.cells #[.bool false] 4)) fun e w' => e = .returned r.1.val ∧ w'.cell? ⟨w1.heap.size, 0, none⟩ = some (.bool r.2) ∧ Below w.heap.size w w' := by
      intro w1 hb1
      have hrk2 := reckon_any h64 (A := A) (c := c) t hin hr htt (w1.alloc (.cells #[.bool false] 4)) w1.heap.size false (ET.In.imp (hid_new _) t ((hin.below bl).below hb1)) (((hB.below bl).below hb1).imp (hid_new _)) (heap_alloc_new w1 _)
      rw [hrk, Bool.false_or] at hrk2
      refine hrk2.mono ?_
      rintro e w' ⟨rfl, h1, h2⟩
      exact ⟨rfl, h1.cell 0, (bl.trans (hb1.mono bl.size)).trans (h2.new.mono (by have := hb1.size; have := bl.size; omega))⟩
    obtain ⟨v, bad⟩ := r
    rw [hrk] at hR
    simp only at hR
    rw [hv] at hty call2 ⊢
    have HR := Lib.hid hR
    have HT := Lib.hid hty
    have H2 := Lib.hid call2
    have HX := Lib.hid hx
    clear hR hty hx hW bl hin hT hB hv hty' call2 h64 hrk hr htt h0
    cases bad
    all_goals
      go_enter Tryd.func29, Tryd.ntmps29
      go_wp2_with (first
        | (go_at_call 8; rw [show w.alloc (.cells #[.int .i64 t.k, .string (str t.op), .int .i64 t.n, .string (str t.v), .string (str t.f), .slice t.A t.ks.length t.c] 24) = W from HW.out.symm]; refine HT.out.mono ?_; rintro e w1 ⟨rfl, b1⟩; obtain ⟨z0, z1, z2, z3, z4, z5⟩ := six_has (HX.out.below b1 HX.out.lt); have hlt := World.block_lt_of_cell? _ _ z0)
        | (go_at_call 58; refine (H2.out w1 b1).mono ?_; rintro e w2 ⟨rfl, hc2, b2⟩)
        | (go_at_call 59; refine (asNumber_any _ _).mono ?_; rintro e w3 ⟨rfl, rfl⟩))
      go_ret2
      exact ⟨ret_tw (by rw [← HR.out]; simp), b2⟩
set_option maxHeartbeats 4000000 in
theorem holds_any {A : Option Addr} {c : Nat} {l : List Bd} (h64 : Bd64 l) (t : ET) (w : World) (hin : t.In w) (hT : Tabs8 w) (hB : Bds w A c l) :
    Calls Tryd.prog 34 #[t.val, .slice A l.length c] w fun e w' => e = .returned (.bool (holdsV l t)) ∧ Below w.heap.size w w' := by
  obtain ⟨W, hW⟩ : ∃ W, W = w.alloc (.cells (bxs t) 24) := ⟨_, rfl⟩
  have bl : Below w.heap.size w W := by rw [hW]; exact (Below.refl _ _).alloc (Nat.le_refl _) _
  have hx : Has W w.heap.size 24 (bxs t) := by rw [hW]; exact heap_alloc_new w _
  have hev := eval_any h64 t W (hin.below bl) (hT.below bl) (hB.below bl)
  have hty : ∀ w1, Below W.heap.size W w1 → Calls Tryd.prog 8 #[t.val] w1 fun e w' => e = .returned (.int .i64 (typeT t)) ∧ Below w.heap.size w w' := fun w1 h1 =>
    (type_any t w1 ((hin.below bl).below h1) ((hT.below bl).below h1)).mono fun e w' ⟨h, h2⟩ => ⟨h, (bl.trans (h1.mono bl.size)).trans (h2.mono (by have := h1.size; have := bl.size; omega))⟩
  obtain ⟨R, hR⟩ : ∃ R, holdsV l t = R := ⟨_, rfl⟩
  rw [hR]
  have hv : t.val = .agg #[.int .i64 t.k, .string (str t.op), .int .i64 t.n, .string (str t.v), .string (str t.f), .slice t.A t.ks.length t.c] := rfl
  unfold holdsV at hR
  obtain ⟨ty, hty'⟩ : ∃ x, typeT t = x := ⟨_, rfl⟩
  obtain ⟨r, hr⟩ : ∃ x, evV l t = x := ⟨_, rfl⟩
  obtain ⟨n, ok⟩ := r
  rw [hty'] at hty hR
  rw [hr] at hev hR
  rw [hv] at hty hev ⊢
  simp only at hR
  have HW := Lib.hid hW
  have HB := Lib.hid bl
  have HR := Lib.hid hR
  have HT := Lib.hid hty
  have HE := Lib.hid hev
  have HX := Lib.hid hx
  clear hR hty hx hW bl hin hT hB hv hty' hev h64 hr
  have hstep : ok = false ∨ ok = true ∧ (n == 1) = false ∨ ok = true ∧ n = 1 := by
    cases ok with
    | false => exact .inl rfl
    | true =>
      by_cases h : n = 1
      · exact .inr (.inr ⟨rfl, h⟩)
      · exact .inr (.inl ⟨rfl, by simpa using h⟩)
  rcases hstep with rfl | ⟨rfl, h1⟩ | ⟨rfl, rfl⟩
  all_goals
    go_enter Tryd.func34, Tryd.ntmps34
    go_wp2_with (first
      | (go_at_call 29; rw [show w.alloc (.cells #[.int .i64 t.k, .string (str t.op), .int .i64 t.n, .string (str t.v), .string (str t.f), .slice t.A t.ks.length t.c] 24) = W from HW.out.symm]; refine HE.out.mono ?_; rw [two]; rintro e w1 ⟨rfl, b1⟩; obtain ⟨z0, z1, z2, z3, z4, z5⟩ := six_has (HX.out.below b1 HX.out.lt))
      | (go_at_call 8; refine (HT.out w1 b1).mono ?_; rintro e w2 ⟨rfl, b2⟩))
    go_ret
  · exact ⟨ret_bool (by rw [← HR.out]; simp), HB.out.trans (b1.mono HB.out.size)⟩
  · exact ⟨ret_bool (by rw [← HR.out]; simp at h1; simp [h1]), HB.out.trans (b1.mono HB.out.size)⟩
  · exact ⟨ret_bool (by rw [← HR.out, Bool.eq_iff_iff]; simp), b2⟩
end Go.Proofs.YtbhjimlikffalaaDoor
