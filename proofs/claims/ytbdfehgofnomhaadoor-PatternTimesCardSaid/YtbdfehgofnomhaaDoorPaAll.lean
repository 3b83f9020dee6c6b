/- Layer 9: all: of items, of lists, of expressions. -/
import Derived.Test.YtbdfehgofnomhaaDoorPaIt
import Derived.Test.YtbdfehgofnomhaaDoorExRight
namespace Go.Proofs.YtbdfehgofnomhaaDoor
open Go.RowKit
set_option linter.unusedVariables false

set_option maxHeartbeats 4000000 in
theorem allI_any (l : List IT) (A : Option Addr) (c : Nat) (w : World) (hcap : l.length ≤ 9223372036854775807) (hl : Its w A l)
    (ih : ∀ t ∈ l, ∀ w', Below w.heap.size w w' → Calls Tryd.prog 27 #[t.val] w' fun e w'' => e = .returned (.bool (rightI t)) ∧ Below w'.heap.size w' w'') :
    Calls Tryd.prog 26 #[.slice A l.length c, .func (Fn.func 27) #[] #[]] w fun e w' => e = .returned (.bool (rightLs l)) ∧ Below w.heap.size w w' := by
  obtain ⟨R, hR⟩ : ∃ R, rightLs l = R := ⟨_, rfl⟩
  rw [hR]
  have HR := Lib.hid hR
  have HI := Lib.hid ih
  have HK := Lib.hid hl
  clear hR ih hl
  go_enter Tryd.func26, Tryd.ntmps26
  go_wp2
  go_loopw [9] (fun i wr => ∃ k : Nat, k ≤ l.length ∧ i = .int .i64 k ∧ rightLs (l.drop k) = R ∧ Below w.heap.size w wr) (fun i _ => l.length - (intOf i).toNat)
  case atStart => exact ⟨0, Nat.zero_le _, rfl, HR.out, Below.refl _ _⟩
  case round =>
    obtain ⟨j, hj, rfl, hrest, hb⟩ := hrel
    have HRR := Lib.hid hrest
    have HB := Lib.hid hb
    clear hrest hb
    by_cases hlt : j < l.length
    · obtain ⟨⟨b, off, rfl, g0, g1, g2, g3, g4, g5, g6⟩, hkin⟩ := (HK.out j hlt).imp (fun h => h.below HB.out) (fun h => h.below HB.out)
      have e1 := List.drop_eq_getElem_cons hlt
      obtain ⟨x, hx⟩ : ∃ x, l[j] = x := ⟨_, rfl⟩
      have hmem : x ∈ l := by rw [← hx]; exact List.getElem_mem _
      rw [hx] at g0 g1 g2 g3 g4 g5 g6 e1
      obtain ⟨W, hW⟩ : ∃ W, W = wr.alloc (.cells #[.int .i64 x.k, .string (str x.nm), .string (str x.vr), .slice x.pA x.ps.length x.pc, .int .i64 x.lo, .int .i64 x.hi, .slice x.kA x.ks.length x.kc] 42) := ⟨_, rfl⟩
      have bl : Below wr.heap.size wr W := by rw [hW]; exact (Below.refl _ _).alloc (Nat.le_refl _) _
      have bt := HB.out.trans (bl.mono HB.out.size)
      have hcl := HI.out x hmem W bt
      rw [show x.val = Value.agg #[.int .i64 x.k, .string (str x.nm), .string (str x.vr), .slice x.pA x.ps.length x.pc, .int .i64 x.lo, .int .i64 x.hi, .slice x.kA x.ks.length x.kc] from rfl] at hcl
      have hst : rightLs (l.drop j) = (rightI x && rightLs (l.drop (j + 1))) := by rw [e1, rightLs_cons]
      obtain ⟨sb, hsb⟩ : ∃ sb, rightI x = sb := ⟨_, rfl⟩
      rw [hsb] at hcl hst
      have HC := Lib.hid hcl
      have HW := Lib.hid hW
      have HBT := Lib.hid bt
      have HST := Lib.hid hst
      clear hcl hW bt hst hkin e1 hx hmem bl hsb
      cases sb with
      | false =>
        go_wp2_with (go_at_call 27; rw [← HW.out]; refine HC.out.mono ?_; rintro e w' ⟨rfl, hb2⟩)
        go_ret
        exact ⟨ret_bool (by rw [← HRR.out, HST.out]; rfl), HBT.out.trans (hb2.mono HBT.out.size)⟩
      | true =>
        go_wp2_with (go_at_call 27; rw [← HW.out]; refine HC.out.mono ?_; rintro e w' ⟨rfl, hb2⟩)
        go_roundw
        case rel => exact ⟨j + 1, by omega, by go_num, by rw [← HRR.out, HST.out]; rfl, HBT.out.trans (hb2.mono HBT.out.size)⟩
        case measure => simp [intOf]; omega
    · have HE : Hid (R = true) := Lib.hid (by rw [← HRR.out, List.drop_eq_nil_of_le (by omega)]; rw [rightLs])
      go_wp2
      go_ret
      exact ⟨ret_bool HE.out.symm, HB.out⟩
set_option maxHeartbeats 4000000 in
theorem allK_any (l : List (List IT)) (kp : List (Option Addr × Nat)) (A : Option Addr) (c : Nat) (w : World) (hcap : l.length ≤ 9223372036854775807) (hl : Kds w A l kp)
    (ih : ∀ j (h : j < l.length) (h' : j < kp.length), ∀ w', Below w.heap.size w w' → Calls Tryd.prog 14 #[.slice kp[j].1 l[j].length kp[j].2] w' fun e w'' => e = .returned (.bool (rightIs l[j])) ∧ Below w'.heap.size w' w'') :
    Calls Tryd.prog 45 #[.slice A l.length c, .func (Fn.func 14) #[] #[]] w fun e w' => e = .returned (.bool (rightKs l)) ∧ Below w.heap.size w w' := by
  obtain ⟨R, hR⟩ : ∃ R, rightKs l = R := ⟨_, rfl⟩
  rw [hR]
  have HR := Lib.hid hR
  have HI := Lib.hid ih
  have HK := Lib.hid hl
  clear hR ih hl
  go_enter Tryd.func45, Tryd.ntmps45
  go_wp2
  go_loopw [9] (fun i wr => ∃ k : Nat, k ≤ l.length ∧ i = .int .i64 k ∧ rightKs (l.drop k) = R ∧ Below w.heap.size w wr) (fun i _ => l.length - (intOf i).toNat)
  case atStart => exact ⟨0, Nat.zero_le _, rfl, HR.out, Below.refl _ _⟩
  case round =>
    obtain ⟨j, hj, rfl, hrest, hb⟩ := hrel
    have HRR := Lib.hid hrest
    have HB := Lib.hid hb
    clear hrest hb
    by_cases hlt : j < l.length
    · have hlt' : j < kp.length := by rw [HK.out.1]; exact hlt
      obtain ⟨b, off, rfl, g0⟩ := (HK.out.2 j hlt hlt').1.1.imp (below_imp HB.out)
      have hcl := HI.out j hlt hlt' wr HB.out
      have e1 := List.drop_eq_getElem_cons hlt
      obtain ⟨x, hx⟩ : ∃ x, l[j] = x := ⟨_, rfl⟩
      obtain ⟨q, hq⟩ : ∃ q, kp[j] = q := ⟨_, rfl⟩
      rw [hx, hq] at g0 hcl
      rw [hx] at e1
      have hst : rightKs (l.drop j) = (rightIs x && rightKs (l.drop (j + 1))) := by rw [e1, rightKs_cons]; rfl
      obtain ⟨sb, hsb⟩ : ∃ sb, rightIs x = sb := ⟨_, rfl⟩
      rw [hsb] at hcl hst
      have HC := Lib.hid hcl
      have HST := Lib.hid hst
      clear hcl hst e1 hx hq hsb
      cases sb with
      | false =>
        go_wp2_with (go_at_call 14; refine HC.out.mono ?_; rintro e w' ⟨rfl, hb2⟩)
        go_ret
        exact ⟨ret_bool (by rw [← HRR.out, HST.out]; rfl), HB.out.trans (hb2.mono HB.out.size)⟩
      | true =>
        go_wp2_with (go_at_call 14; refine HC.out.mono ?_; rintro e w' ⟨rfl, hb2⟩)
        go_roundw
        case rel => exact ⟨j + 1, by omega, by go_num, by rw [← HRR.out, HST.out]; rfl, HB.out.trans (hb2.mono HB.out.size)⟩
        case measure => simp [intOf]; omega
    · have HE : Hid (R = true) := Lib.hid (by rw [← HRR.out, List.drop_eq_nil_of_le (by omega)]; rw [rightKs])
      go_wp2
      go_ret
      exact ⟨ret_bool HE.out.symm, HB.out⟩
set_option maxHeartbeats 4000000 in
theorem allE_any (l : List ET) (A : Option Addr) (c : Nat) (w : World) (hcap : l.length ≤ 9223372036854775807) (hl : Ets w A l) (hT : Tabs8 w) :
    Calls Tryd.prog 62 #[.slice A l.length c, .func (Fn.func 63) #[] #[]] w fun e w' => e = .returned (.bool (l.all rightT)) ∧ Below w.heap.size w w' := by
  obtain ⟨R, hR⟩ : ∃ R, l.all rightT = R := ⟨_, rfl⟩
  rw [hR]
  have HR := Lib.hid hR
  have HK := Lib.hid hl
  have HT := Lib.hid hT
  clear hR hl hT
  go_enter Tryd.func62, Tryd.ntmps62
  go_wp2
  go_loopw [9] (fun i wr => ∃ k : Nat, k ≤ l.length ∧ i = .int .i64 k ∧ (l.drop k).all rightT = R ∧ Below w.heap.size w wr) (fun i _ => l.length - (intOf i).toNat)
  case atStart => exact ⟨0, Nat.zero_le _, rfl, HR.out, Below.refl _ _⟩
  case round =>
    obtain ⟨j, hj, rfl, hrest, hb⟩ := hrel
    have HRR := Lib.hid hrest
    have HB := Lib.hid hb
    clear hrest hb
    by_cases hlt : j < l.length
    · obtain ⟨⟨b, off, rfl, g0, g1, g2, g3, g4, g5⟩, hkin⟩ := (HK.out j hlt).imp (fun h => h.below HB.out) (fun h => h.below HB.out)
      have e1 := List.drop_eq_getElem_cons hlt
      obtain ⟨x, hx⟩ : ∃ x, l[j] = x := ⟨_, rfl⟩
      rw [hx] at g0 g1 g2 g3 g4 g5 e1 hkin
      obtain ⟨W, hW⟩ : ∃ W, W = wr.alloc (.cells #[.int .i64 x.k, .string (str x.op), .int .i64 x.n, .string (str x.v), .string (str x.f), .slice x.A x.ks.length x.c] 47) := ⟨_, rfl⟩
      have bl : Below wr.heap.size wr W := by rw [hW]; exact (Below.refl _ _).alloc (Nat.le_refl _) _
      have bt := HB.out.trans (bl.mono HB.out.size)
      have hcl := right_any x W (hkin.below bl) (HT.out.below bt)
      rw [show x.val = Value.agg #[.int .i64 x.k, .string (str x.op), .int .i64 x.n, .string (str x.v), .string (str x.f), .slice x.A x.ks.length x.c] from rfl] at hcl
      have hst : (l.drop j).all rightT = (rightT x && (l.drop (j + 1)).all rightT) := by rw [e1, List.all_cons]
      obtain ⟨sb, hsb⟩ : ∃ sb, rightT x = sb := ⟨_, rfl⟩
      rw [hsb] at hcl hst
      have HC := Lib.hid hcl
      have HW := Lib.hid hW
      have HBT := Lib.hid bt
      have HST := Lib.hid hst
      clear hcl hW bt hst hkin e1 hx bl hsb
      cases sb with
      | false =>
        go_wp2_with (go_at_call 63; rw [← HW.out]; refine HC.out.mono ?_; rintro e w' ⟨rfl, hb2⟩)
        go_ret
        exact ⟨ret_bool (by rw [← HRR.out, HST.out]; rfl), HBT.out.trans (hb2.mono HBT.out.size)⟩
      | true =>
        go_wp2_with (go_at_call 63; rw [← HW.out]; refine HC.out.mono ?_; rintro e w' ⟨rfl, hb2⟩)
        go_roundw
        case rel => exact ⟨j + 1, by omega, by go_num, by rw [← HRR.out, HST.out]; rfl, HBT.out.trans (hb2.mono HBT.out.size)⟩
        case measure => simp [intOf]; omega
    · have HE : Hid (R = true) := Lib.hid (by rw [← HRR.out, List.drop_eq_nil_of_le (by omega), List.all_nil])
      go_wp2
      go_ret
      exact ⟨ret_bool HE.out.symm, HB.out⟩
end Go.Proofs.YtbdfehgofnomhaaDoor
