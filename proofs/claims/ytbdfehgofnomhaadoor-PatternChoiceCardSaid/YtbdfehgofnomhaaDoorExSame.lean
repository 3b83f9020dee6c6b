/- Layer 7: Same, and what an expression without its questions tells (typeOf). -/
import Derived.Test.YtbdfehgofnomhaaDoorExTwo
namespace Go.Proofs.YtbdfehgofnomhaaDoor
open Go.RowKit
set_option linter.unusedVariables false

/- Are they the same? -/
mutual
def sameT : ET → ET → Bool
  | .mk k op n v f A c ks, u => aloneB k op n v f ks.length u.k u.op u.n u.v u.f u.ks.length && sameLs ks u.ks
def sameLs : List ET → List ET → Bool
  | [], _ => true
  | t :: ts, us => match us with
    | [] => true
    | u :: vs => sameT t u && sameLs ts vs
end
theorem sameT_eq (k : Int) (op : Nm) (n : Int) (v f : Nm) (A : Option Addr) (c : Nat) (ks : List ET) (u : ET) : sameT (.mk k op n v f A c ks) u = (aloneB k op n v f ks.length u.k u.op u.n u.v u.f u.ks.length && sameLs ks u.ks) := by rw [sameT]
theorem sameLs_cons (t u : ET) (ts us : List ET) : sameLs (t :: ts) (u :: us) = (sameT t u && sameLs ts us) := by rw [sameLs]
theorem sameLs_nil (us : List ET) : sameLs [] us = true := by rw [sameLs]
set_option maxHeartbeats 4000000 in
/-- The Kids of both, one by one. -/
theorem eqf_any (ks : List ET) (ih : ∀ t ∈ ks, ∀ (u : ET) (w : World), t.In w → u.In w → Calls Tryd.prog 48 #[t.val, u.val] w fun e w' => e = .returned (.bool (sameT t u)) ∧ Below w.heap.size w w')
    (us : List ET) (A B : Option Addr) (c d : Nat) (w : World) (hl : ks.length = us.length) (hcap : ks.length ≤ 9223372036854775807)
    (hk : ∀ j (h : j < ks.length), CellsAt w A j ks[j] ∧ ET.In w ks[j]) (hu : ∀ j (h : j < us.length), CellsAt w B j us[j] ∧ ET.In w us[j]) :
    Calls Tryd.prog 47 #[.slice A ks.length c, .slice B us.length d, .func (Fn.func 48) #[] #[]] w fun e w' => e = .returned (.bool (sameLs ks us)) ∧ Below w.heap.size w w' := by
  obtain ⟨R, hR⟩ : ∃ R, sameLs ks us = R := ⟨_, rfl⟩
  rw [hR]
  have d1 : ((ks.length : Int) != (us.length : Int)) = false := by simp; omega
  have hcap2 : us.length ≤ 9223372036854775807 := by omega
  have HL := Lib.hid hl
  have HR := Lib.hid hR
  have HI := Lib.hid ih
  have HK := Lib.hid hk
  have HU := Lib.hid hu
  clear hl hR ih hk hu
  go_enter Tryd.func47, Tryd.ntmps47
  go_wp2
  go_loopw [17] (fun i wr => ∃ k : Nat, k ≤ ks.length ∧ i = .int .i64 k ∧ sameLs (ks.drop k) (us.drop k) = R ∧ Below w.heap.size w wr) (fun i _ => ks.length - (intOf i).toNat)
  case atStart => exact ⟨0, Nat.zero_le _, rfl, HR.out, Below.refl _ _⟩
  case round =>
    obtain ⟨j, hj, rfl, hrest, hb⟩ := hrel
    have HRR := Lib.hid hrest
    have HB := Lib.hid hb
    clear hrest hb
    by_cases hlt : j < ks.length
    · have hlt' : j < us.length := by have := HL.out; omega
      have cl : ∀ {A i t}, CellsAt w A i t → CellsAt wr A i t := fun h => h.below HB.out
      obtain ⟨⟨b, off, rfl, g0, g1, g2, g3, g4, g5⟩, hkin⟩ := (HK.out j hlt).imp (fun h => h.below HB.out) (fun h => h.below HB.out)
      obtain ⟨⟨b', off', rfl, q0, q1, q2, q3, q4, q5⟩, huin⟩ := (HU.out j hlt').imp (fun h => h.below HB.out) (fun h => h.below HB.out)
      clear cl
      have e1 := drop_at hlt
      have e2 := drop_at hlt'
      obtain ⟨x, hx⟩ : ∃ x, ks[j] = x := ⟨_, rfl⟩
      obtain ⟨y, hy⟩ : ∃ y, us[j] = y := ⟨_, rfl⟩
      have hmem : x ∈ ks := by rw [← hx]; exact List.getElem_mem _
      rw [hx] at g0 g1 g2 g3 g4 g5 hkin e1
      rw [hy] at q0 q1 q2 q3 q4 q5 huin e2
      have z0 := World.block_lt_of_cell? _ _ q0
      simp only at z0
      obtain ⟨W, hW⟩ : ∃ W, W = (wr.alloc (.cells #[.int .i64 x.k, .string (str x.op), .int .i64 x.n, .string (str x.v), .string (str x.f), .slice x.A x.ks.length x.c] 47)).alloc (.cells #[.int .i64 y.k, .string (str y.op), .int .i64 y.n, .string (str y.v), .string (str y.f), .slice y.A y.ks.length y.c] 47) := ⟨_, rfl⟩
      have bl : Below wr.heap.size wr W := by rw [hW]; exact ((Below.refl _ _).alloc (Nat.le_refl _) _).alloc (by simp) _
      have hcl := HI.out x hmem y W (hkin.below bl) (huin.below bl)
      rw [show x.val = Value.agg #[.int .i64 x.k, .string (str x.op), .int .i64 x.n, .string (str x.v), .string (str x.f), .slice x.A x.ks.length x.c] from rfl, show y.val = Value.agg #[.int .i64 y.k, .string (str y.op), .int .i64 y.n, .string (str y.v), .string (str y.f), .slice y.A y.ks.length y.c] from rfl] at hcl
      have bt := HB.out.trans (bl.mono HB.out.size)
      have hst : sameLs (ks.drop j) (us.drop j) = (sameT x y && sameLs (ks.drop (j + 1)) (us.drop (j + 1))) := by rw [e1, e2, sameLs_cons]
      obtain ⟨sb, hsb⟩ : ∃ sb, sameT x y = sb := ⟨_, rfl⟩
      rw [hsb] at hcl hst
      have HC := Lib.hid hcl
      have HW := Lib.hid hW
      have HBT := Lib.hid bt
      have HST := Lib.hid hst
      clear hcl hW bt hst hkin huin e1 e2 hx hy hmem bl hsb
      cases sb with
      | false =>
        go_wp2_with (go_at_call 48; rw [← HW.out]; refine HC.out.mono ?_; rintro e w' ⟨rfl, hb2⟩)
        go_ret
        exact ⟨ret_bool (by rw [← HRR.out, HST.out]; rfl), HBT.out.trans (hb2.mono HBT.out.size)⟩
      | true =>
        go_wp2_with (go_at_call 48; rw [← HW.out]; refine HC.out.mono ?_; rintro e w' ⟨rfl, hb2⟩)
        go_roundw
        case rel => exact ⟨j + 1, by omega, by go_num, by rw [← HRR.out, HST.out]; rfl, HBT.out.trans (hb2.mono HBT.out.size)⟩
        case measure => simp [intOf]; omega
    · go_wp2
      go_ret
      exact ⟨ret_bool (by rw [← HRR.out, List.drop_eq_nil_of_le (by omega), sameLs_nil]), HB.out⟩
set_option maxHeartbeats 4000000 in
theorem sameT_any : ∀ (t u : ET) (w : World), t.In w → u.In w → Calls Tryd.prog 48 #[t.val, u.val] w fun e w' => e = .returned (.bool (sameT t u)) ∧ Below w.heap.size w w' := by
  refine ET.ind fun k op n v f A c ks ih u w hin huin => ?_
  obtain ⟨k', op', n', v', f', A', c', us⟩ := u
  have hcap : ks.length ≤ 9223372036854775807 := by have := hin.ok.2.2.2.2.2.2; unfold maxLen at this; omega
  obtain ⟨x1, x2, x3⟩ : Has ((w.alloc (.cells #[.int .i64 k, .string (str op), .int .i64 n, .string (str v), .string (str f), .slice A ks.length c] 47)).alloc (.cells #[.int .i64 k', .string (str op'), .int .i64 n', .string (str v'), .string (str f'), .slice A' us.length c'] 47)) w.heap.size 47 #[.int .i64 k, .string (str op), .int .i64 n, .string (str v), .string (str f), .slice A ks.length c]
      ∧ Has ((w.alloc (.cells #[.int .i64 k, .string (str op), .int .i64 n, .string (str v), .string (str f), .slice A ks.length c] 47)).alloc (.cells #[.int .i64 k', .string (str op'), .int .i64 n', .string (str v'), .string (str f'), .slice A' us.length c'] 47)) (w.heap.size + 1) 47 #[.int .i64 k', .string (str op'), .int .i64 n', .string (str v'), .string (str f'), .slice A' us.length c']
      ∧ Below w.heap.size w ((w.alloc (.cells #[.int .i64 k, .string (str op), .int .i64 n, .string (str v), .string (str f), .slice A ks.length c] 47)).alloc (.cells #[.int .i64 k', .string (str op'), .int .i64 n', .string (str v'), .string (str f'), .slice A' us.length c'] 47)) := two_new _ _ _ _ _
  obtain ⟨W, hW⟩ : ∃ W, W = (w.alloc (.cells #[.int .i64 k, .string (str op), .int .i64 n, .string (str v), .string (str f), .slice A ks.length c] 47)).alloc (.cells #[.int .i64 k', .string (str op'), .int .i64 n', .string (str v'), .string (str f'), .slice A' us.length c'] 47) := ⟨_, rfl⟩
  rw [← hW] at x1 x2 x3
  have hal := alone_any k op n v f A ks.length c k' op' n' v' f' A' us.length c' W
  unfold ex at hal
  obtain ⟨sb, hsb⟩ : ∃ x, aloneB k op n v f ks.length k' op' n' v' f' us.length = x := ⟨_, rfl⟩
  have hs : sameT (.mk k op n v f A c ks) (.mk k' op' n' v' f' A' c' us) = (sb && sameLs ks us) := by rw [sameT_eq, ← hsb]; rfl
  rw [hsb] at hal
  have HW := Lib.hid hW
  have HA := Lib.hid hal
  have HX1 := Lib.hid x1
  have HX2 := Lib.hid x2
  have HX3 := Lib.hid x3
  rw [hs]
  show Calls _ _ #[ex k op n v f A ks.length c, ex k' op' n' v' f' A' us.length c'] _ _
  unfold ex
  cases sb with
  | false =>
    clear hin huin x1 x2 x3 hal hW ih hs hsb
    go_enter Tryd.func48, Tryd.ntmps48
    go_wp2_with (go_at_call 64; rw [← HW.out]; refine HA.out.mono ?_; rintro e w' ⟨rfl, hb2⟩)
    go_ret
    exact ⟨rfl, HX3.out.trans (hb2.mono HX3.out.size)⟩
  | true =>
    have hl : ks.length = us.length := by
      have := of_decide_eq_true hsb
      exact this.2.2.2.2.2
    have HE : Hid (∀ w', Below W.heap.size W w' → Calls Tryd.prog 47 #[.slice A ks.length c, .slice A' us.length c', .func (Fn.func 48) #[] #[]] w' fun e w'' => e = .returned (.bool (sameLs ks us)) ∧ Below w'.heap.size w' w'') :=
      Lib.hid fun w' hb => eqf_any ks ih us A A' c c' w' hl hcap (fun j hj => ⟨((hin.kids j hj).1.below HX3.out).below hb, ((hin.kids j hj).2.below HX3.out).below hb⟩) (fun j hj => ⟨((huin.kids j hj).1.below HX3.out).below hb, ((huin.kids j hj).2.below HX3.out).below hb⟩)
    clear hin huin x1 x2 x3 hal hW ih hs hsb hl
    go_enter Tryd.func48, Tryd.ntmps48
    go_wp2_with (first | (go_at_call 64; rw [← HW.out]; refine HA.out.mono ?_; rintro e w1 ⟨rfl, hb2⟩; have c5 : w1.cell? ⟨w.heap.size, 5, none⟩ = some (.slice A ks.length c) := (HX1.out.below hb2 HX1.out.lt).cell 5; have c6 : w1.cell? ⟨w.heap.size + 1, 5, none⟩ = some (.slice A' us.length c') := (HX2.out.below hb2 HX2.out.lt).cell 5; have HB2 := Lib.hid hb2; clear hb2) | (go_at_call 47; refine (HE.out _ HB2.out).mono ?_; rintro e w2 ⟨rfl, hb3⟩))
    go_ret
    exact ⟨ret_bool (by simp), HX3.out.trans ((HB2.out.trans (hb3.mono HB2.out.size)).mono HX3.out.size)⟩
end Go.Proofs.YtbdfehgofnomhaaDoor
