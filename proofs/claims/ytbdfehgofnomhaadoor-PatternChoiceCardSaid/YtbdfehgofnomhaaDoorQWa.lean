/- Layer 9: all: of items, of lists, of expressions. -/
import Derived.Test.YtbdfehgofnomhaaDoorQMe
import Derived.Test.YtbdfehgofnomhaaDoorExRight
import Derived.Test.YtbdfehgofnomhaaDoorExSame
import Derived.Test.YtbdfehgofnomhaaDoorExSaid
import Derived.Test.YtbdfehgofnomhaaDoorQMa
namespace Go.Proofs.YtbdfehgofnomhaaDoor
open Go.RowKit
set_option linter.unusedVariables false

set_option maxHeartbeats 4000000 in
theorem allI_any (l : List IT) (A : Option Addr) (c : Nat) (w : World) (hcap : l.length ≤ 9223372036854775807) (hl : Its w A l)
    (ih : ∀ t ∈ l, ∀ w', Below w.heap.size w w' → Calls Tryd.prog 27 #[t.val] w' fun e w'' => e = .returned (.bool (rightI t)) ∧ Below w'.heap.size w' w'') :
    Calls Tryd.prog 26 #[.slice A l.length c, .func (Fn.func 27) #[] #[]] w fun e w' => e = .returned (.bool (rightLs l)) ∧ Below w.heap.size w w' := by
  obtain ⟨R, hR⟩ : ∃ R, rightLs l = R := ⟨_, rfl⟩
  rw [hR]
  have HR := Lib.hid hR
  have HI := Lib.hid ih
  have HK := Lib.hid hl
  clear hR ih hl
  go_enter Tryd.func26, Tryd.ntmps26
  go_wp2
  go_loopw [9] (fun i wr => ∃ k : Nat, k ≤ l.length ∧ i = .int .i64 k ∧ rightLs (l.drop k) = R ∧ Below w.heap.size w wr) (fun i _ => l.length - (intOf i).toNat)
  case atStart => exact ⟨0, Nat.zero_le _, rfl, HR.out, Below.refl _ _⟩
  case round =>
    obtain ⟨j, hj, rfl, hrest, hb⟩ := hrel
    have HRR := Lib.hid hrest
    have HB := Lib.hid hb
    clear hrest hb
    by_cases hlt : j < l.length
    · obtain ⟨⟨b, off, rfl, g0, g1, g2, g3, g4, g5, g6⟩, hkin⟩ := (HK.out j hlt).imp (fun h => h.below HB.out) (fun h => h.below HB.out)
      have e1 := List.drop_eq_getElem_cons hlt
      obtain ⟨x, hx⟩ : ∃ x, l[j] = x := ⟨_, rfl⟩
      have hmem : x ∈ l := by rw [← hx]; exact List.getElem_mem _
      rw [hx] at g0 g1 g2 g3 g4 g5 g6 e1
      obtain ⟨W, hW⟩ : ∃ W, W = wr.alloc (.cells #[.int .i64 x.k, .string (str x.nm), .string (str x.vr), .slice x.pA x.ps.length x.pc, .int .i64 x.lo, .int .i64 x.hi, .slice x.kA x.ks.length x.kc] 42) := ⟨_, rfl⟩
      have bl : Below wr.heap.size wr W := by rw [hW]; exact (Below.refl _ _).alloc (Nat.le_refl _) _
      have bt := HB.out.trans (bl.mono HB.out.size)
      have hcl := HI.out x hmem W bt
      rw [show x.val = Value.agg #[.int .i64 x.k, .string (str x.nm), .string (str x.vr), .slice x.pA x.ps.length x.pc, .int .i64 x.lo, .int .i64 x.hi, .slice x.kA x.ks.length x.kc] from rfl] at hcl
      have hst : rightLs (l.drop j) = (rightI x && rightLs (l.drop (j + 1))) := by rw [e1, rightLs_cons]
      obtain ⟨sb, hsb⟩ : ∃ sb, rightI x = sb := ⟨_, rfl⟩
      rw [hsb] at hcl hst
      have HC := Lib.hid hcl
      have HW := Lib.hid hW
      have HBT := Lib.hid bt
      have HST := Lib.hid hst
      clear hcl hW bt hst hkin e1 hx hmem bl hsb
      cases sb with
      | false =>
        go_wp2_with (go_at_call 27; rw [← HW.out]; refine HC.out.mono ?_; rintro e w' ⟨rfl, hb2⟩)
        go_ret
        exact ⟨ret_bool (by rw [← HRR.out, HST.out]; rfl), HBT.out.trans (hb2.mono HBT.out.size)⟩
      | true =>
        go_wp2_with (go_at_call 27; rw [← HW.out]; refine HC.out.mono ?_; rintro e w' ⟨rfl, hb2⟩)
        go_roundw
        case rel => exact ⟨j + 1, by omega, by go_num, by rw [← HRR.out, HST.out]; rfl, HBT.out.trans (hb2.mono HBT.out.size)⟩
        case measure => simp [intOf]; omega
    · have HE : Hid (R = true) := Lib.hid (by rw [← HRR.out, List.drop_eq_nil_of_le (by omega)]; rw [rightLs])
      go_wp2
      go_ret
      exact ⟨ret_bool HE.out.symm, HB.out⟩
set_option maxHeartbeats 4000000 in
theorem allK_any (l : List (List IT)) (kp : List (Option Addr × Nat)) (A : Option Addr) (c : Nat) (w : World) (hcap : l.length ≤ 9223372036854775807) (hl : Kds w A l kp)
    (ih : ∀ j (h : j < l.length) (h' : j < kp.length), ∀ w', Below w.heap.size w w' → Calls Tryd.prog 14 #[.slice kp[j].1 l[j].length kp[j].2] w' fun e w'' => e = .returned (.bool (rightIs l[j])) ∧ Below w'.heap.size w' w'') :
    Calls Tryd.prog 45 #[.slice A l.length c, .func (Fn.func 14) #[] #[]] w fun e w' => e = .returned (.bool (rightKs l)) ∧ Below w.heap.size w w' := by
  obtain ⟨R, hR⟩ : ∃ R, rightKs l = R := ⟨_, rfl⟩
  rw [hR]
  have HR := Lib.hid hR
  have HI := Lib.hid ih
  have HK := Lib.hid hl
  clear hR ih hl
  go_enter Tryd.func45, Tryd.ntmps45
  go_wp2
  go_loopw [9] (fun i wr => ∃ k : Nat, k ≤ l.length ∧ i = .int .i64 k ∧ rightKs (l.drop k) = R ∧ Below w.heap.size w wr) (fun i _ => l.length - (intOf i).toNat)
  case atStart => exact ⟨0, Nat.zero_le _, rfl, HR.out, Below.refl _ _⟩
  case round =>
    obtain ⟨j, hj, rfl, hrest, hb⟩ := hrel
    have HRR := Lib.hid hrest
    have HB := Lib.hid hb
    clear hrest hb
    by_cases hlt : j < l.length
    · have hlt' : j < kp.length := by rw [HK.out.1]; exact hlt
      obtain ⟨b, off, rfl, g0⟩ := (HK.out.2 j hlt hlt').1.1.imp (below_imp HB.out)
      have hcl := HI.out j hlt hlt' wr HB.out
      have e1 := List.drop_eq_getElem_cons hlt
      obtain ⟨x, hx⟩ : ∃ x, l[j] = x := ⟨_, rfl⟩
      obtain ⟨q, hq⟩ : ∃ q, kp[j] = q := ⟨_, rfl⟩
      rw [hx, hq] at g0 hcl
      rw [hx] at e1
      have hst : rightKs (l.drop j) = (rightIs x && rightKs (l.drop (j + 1))) := by rw [e1, rightKs_cons]; rfl
      obtain ⟨sb, hsb⟩ : ∃ sb, rightIs x = sb := ⟨_, rfl⟩
      rw [hsb] at hcl hst
      have HC := Lib.hid hcl
      have HST := Lib.hid hst
      clear hcl hst e1 hx hq hsb
      cases sb with
      | false =>
        go_wp2_with (go_at_call 14; refine HC.out.mono ?_; rintro e w' ⟨rfl, hb2⟩)
        go_ret
        exact ⟨ret_bool (by rw [← HRR.out, HST.out]; rfl), HB.out.trans (hb2.mono HB.out.size)⟩
      | true =>
        go_wp2_with (go_at_call 14; refine HC.out.mono ?_; rintro e w' ⟨rfl, hb2⟩)
        go_roundw
        case rel => exact ⟨j + 1, by omega, by go_num, by rw [← HRR.out, HST.out]; rfl, HB.out.trans (hb2.mono HB.out.size)⟩
        case measure => simp [intOf]; omega
    · have HE : Hid (R = true) := Lib.hid (by rw [← HRR.out, List.drop_eq_nil_of_le (by omega)]; rw [rightKs])
      go_wp2
      go_ret
      exact ⟨ret_bool HE.out.symm, HB.out⟩
set_option maxHeartbeats 4000000 in
theorem allE_any (l : List ET) (A : Option Addr) (c : Nat) (w : World) (hcap : l.length ≤ 9223372036854775807) (hl : Ets w A l) (hT : Tabs8 w) :
    Calls Tryd.prog 62 #[.slice A l.length c, .func (Fn.func 63) #[] #[]] w fun e w' => e = .returned (.bool (l.all rightT)) ∧ Below w.heap.size w w' := by
  obtain ⟨R, hR⟩ : ∃ R, l.all rightT = R := ⟨_, rfl⟩
  rw [hR]
  have HR := Lib.hid hR
  have HK := Lib.hid hl
  have HT := Lib.hid hT
  clear hR hl hT
  go_enter Tryd.func62, Tryd.ntmps62
  go_wp2
  go_loopw [9] (fun i wr => ∃ k : Nat, k ≤ l.length ∧ i = .int .i64 k ∧ (l.drop k).all rightT = R ∧ Below w.heap.size w wr) (fun i _ => l.length - (intOf i).toNat)
  case atStart => exact ⟨0, Nat.zero_le _, rfl, HR.out, Below.refl _ _⟩
  case round =>
    obtain ⟨j, hj, rfl, hrest, hb⟩ := hrel
    have HRR := Lib.hid hrest
    have HB := Lib.hid hb
    clear hrest hb
    by_cases hlt : j < l.length
    · obtain ⟨⟨b, off, rfl, g0, g1, g2, g3, g4, g5⟩, hkin⟩ := (HK.out j hlt).imp (fun h => h.below HB.out) (fun h => h.below HB.out)
      have e1 := List.drop_eq_getElem_cons hlt
      obtain ⟨x, hx⟩ : ∃ x, l[j] = x := ⟨_, rfl⟩
      rw [hx] at g0 g1 g2 g3 g4 g5 e1 hkin
      obtain ⟨W, hW⟩ : ∃ W, W = wr.alloc (.cells #[.int .i64 x.k, .string (str x.op), .int .i64 x.n, .string (str x.v), .string (str x.f), .slice x.A x.ks.length x.c] 47) := ⟨_, rfl⟩
      have bl : Below wr.heap.size wr W := by rw [hW]; exact (Below.refl _ _).alloc (Nat.le_refl _) _
      have bt := HB.out.trans (bl.mono HB.out.size)
      have hcl := right_any x W (hkin.below bl) (HT.out.below bt)
      rw [show x.val = Value.agg #[.int .i64 x.k, .string (str x.op), .int .i64 x.n, .string (str x.v), .string (str x.f), .slice x.A x.ks.length x.c] from rfl] at hcl
      have hst : (l.drop j).all rightT = (rightT x && (l.drop (j + 1)).all rightT) := by rw [e1, List.all_cons]
      obtain ⟨sb, hsb⟩ : ∃ sb, rightT x = sb := ⟨_, rfl⟩
      rw [hsb] at hcl hst
      have HC := Lib.hid hcl
      have HW := Lib.hid hW
      have HBT := Lib.hid bt
      have HST := Lib.hid hst
      clear hcl hW bt hst hkin e1 hx bl hsb
      cases sb with
      | false =>
        go_wp2_with (go_at_call 63; rw [← HW.out]; refine HC.out.mono ?_; rintro e w' ⟨rfl, hb2⟩)
        go_ret
        exact ⟨ret_bool (by rw [← HRR.out, HST.out]; rfl), HBT.out.trans (hb2.mono HBT.out.size)⟩
      | true =>
        go_wp2_with (go_at_call 63; rw [← HW.out]; refine HC.out.mono ?_; rintro e w' ⟨rfl, hb2⟩)
        go_roundw
        case rel => exact ⟨j + 1, by omega, by go_num, by rw [← HRR.out, HST.out]; rfl, HBT.out.trans (hb2.mono HBT.out.size)⟩
        case measure => simp [intOf]; omega
    · have HE : Hid (R = true) := Lib.hid (by rw [← HRR.out, List.drop_eq_nil_of_le (by omega), List.all_nil])
      go_wp2
      go_ret
      exact ⟨ret_bool HE.out.symm, HB.out⟩
end Go.Proofs.YtbdfehgofnomhaaDoor
/- Layer 9: right. -/
namespace Go.Proofs.YtbdfehgofnomhaaDoor
open Go.RowKit
set_option linter.unusedVariables false

/-- Has it names and at most one predicate, that is right, and no Kids? -/
def nameE (nm vr : Nm) (ps : List ET) (km : Nat) : Bool := nameB nm && nameB vr && decide (ps.length ≤ 1) && ps.all rightT && decide (km = 0)
/-- Has it Kids alone? -/
def kidsE (nm vr : Nm) (pm : Nat) (lo hi : Int) : Bool := decide (nm = [] ∧ vr = [] ∧ pm = 0 ∧ lo = 0 ∧ hi = 0)
set_option maxHeartbeats 4000000 in
theorem kidsE_any (k : Int) (nm vr : Nm) (pA : Option Addr) (pm pc : Nat) (lo hi : Int) (kA : Option Addr) (km kc : Nat) (w : World) :
    Calls Tryd.prog 44 #[.agg #[.int .i64 k, .string (str nm), .string (str vr), .slice pA pm pc, .int .i64 lo, .int .i64 hi, .slice kA km kc]] w fun e w' => e = .returned (.bool (kidsE nm vr pm lo hi)) ∧ Below w.heap.size w w' := by
  obtain ⟨R, hR⟩ : ∃ R, kidsE nm vr pm lo hi = R := ⟨_, rfl⟩
  rw [hR]
  have bl : ∀ o, Below w.heap.size w (w.alloc o) := fun o => (Below.refl _ _).alloc (Nat.le_refl _) _
  have HR := Lib.hid hR
  have HB := Lib.hid bl
  have e1 := str_toList nm
  have e2 := str_toList vr
  clear hR bl
  go_enter Tryd.func44, Tryd.ntmps44
  go_wp2
  all_goals go_ret
  all_goals refine ⟨ret_bool ?_, HB.out _⟩
  all_goals (rw [← HR.out, kidsE]; clear HR HB; first | (simp_all; done) | (simp_all; rw [Bool.eq_iff_iff]; simp; done) | (simp_all; rw [Bool.eq_iff_iff]; simp; omega))
set_option maxHeartbeats 4000000 in
theorem nameE_any (k : Int) (nm vr : Nm) (pA : Option Addr) (pc : Nat) (ps : List ET) (lo hi : Int) (kA : Option Addr) (km kc : Nat) (w : World) (hn : nm.length ≤ 140737488355328) (hv : vr.length ≤ 140737488355328) (hcap : ps.length ≤ 9223372036854775807) (hp : Ets w pA ps) (hT : Tabs8 w) :
    Calls Tryd.prog 43 #[.agg #[.int .i64 k, .string (str nm), .string (str vr), .slice pA ps.length pc, .int .i64 lo, .int .i64 hi, .slice kA km kc]] w fun e w' => e = .returned (.bool (nameE nm vr ps km)) ∧ Below w.heap.size w w' := by
  obtain ⟨R, hR⟩ : ∃ R, nameE nm vr ps km = R := ⟨_, rfl⟩
  rw [hR]
  unfold nameE at hR
  obtain ⟨W, hW⟩ : ∃ W, W = w.alloc (.cells #[.int .i64 k, .string (str nm), .string (str vr), .slice pA ps.length pc, .int .i64 lo, .int .i64 hi, .slice kA km kc] 42) := ⟨_, rfl⟩
  have hx : Has W w.heap.size 42 #[.int .i64 k, .string (str nm), .string (str vr), .slice pA ps.length pc, .int .i64 lo, .int .i64 hi, .slice kA km kc] := by rw [hW]; exact heap_alloc_new w _
  have bl : Below w.heap.size w W := by rw [hW]; exact (Below.refl _ _).alloc (Nat.le_refl _) _
  have HN1 := Lib.hid (isName_any nm W (by omega) (hT.below bl))
  have HW := Lib.hid hW
  have HX := Lib.hid hx
  have HB := Lib.hid bl
  have HR := Lib.hid hR
  have HT := Lib.hid hT
  have HP := Lib.hid hp
  clear hW hx bl hR hT hp
  cases c1 : nameB nm with
  | false =>
    rw [c1] at HR HN1
    go_enter Tryd.func43, Tryd.ntmps43
    go_wp2_with (go_at_call 19; rw [← HW.out]; refine HN1.out.mono ?_; rintro e w1 ⟨rfl, b1⟩)
    go_ret
    exact ⟨ret_bool (by rw [← HR.out]; simp), HB.out.trans (b1.mono HB.out.size)⟩
  | true =>
    rw [c1] at HR HN1
    go_enter Tryd.func43, Tryd.ntmps43
    go_wp2_with fail
    rw [← HW.out]
    refine HN1.out.mono ?_
    rintro e w1 ⟨rfl, b1⟩
    have HB1 := Lib.hid (HB.out.trans (b1.mono HB.out.size))
    have HX1 := Lib.hid (HX.out.below b1 HX.out.lt)
    have HN2 := Lib.hid (isName_any vr w1 (by omega) (HT.out.below HB1.out))
    obtain ⟨y0, y1, y2, y3, y4, y5, y6⟩ := seven_has HX1.out
    clear b1 HX HB
    cases c2 : nameB vr with
    | false =>
      rw [c2] at HR HN2
      go_wp2_with (go_at_call 19; refine HN2.out.mono ?_; rintro e w2 ⟨rfl, b2⟩)
      go_ret
      exact ⟨ret_bool (by rw [← HR.out]; simp), HB1.out.trans (b2.mono HB1.out.size)⟩
    | true =>
      rw [c2] at HR HN2
      go_wp2_with fail
      refine HN2.out.mono ?_
      rintro e w2 ⟨rfl, b2⟩
      have HB2 := Lib.hid (HB1.out.trans (b2.mono HB1.out.size))
      have HX2 := Lib.hid (HX1.out.below b2 HX1.out.lt)
      have HE := Lib.hid (allE_any ps pA pc w2 hcap (HP.out.below HB2.out) (HT.out.below HB2.out))
      clear y0 y1 y2 y3 y4 y5 y6 b2
      obtain ⟨y0, y1, y2, y3, y4, y5, y6⟩ := seven_has HX2.out
      clear HX1 HB1
      by_cases c3 : ps.length ≤ 1
      · have dc3 : decide ((ps.length : Int) ≤ 1) = true := by simp; omega
        cases c4 : ps.all rightT with
        | false =>
          rw [c4] at HR HE
          go_wp2_with (go_at_call 62; refine HE.out.mono ?_; rintro e w3 ⟨rfl, b3⟩)
          go_ret
          exact ⟨ret_bool (by rw [← HR.out]; simp), HB2.out.trans (b3.mono HB2.out.size)⟩
        | true =>
          rw [c4] at HR HE
          go_wp2_with fail
          refine HE.out.mono ?_
          rintro e w3 ⟨rfl, b3⟩
          have HX3 := Lib.hid (HX2.out.below b3 HX2.out.lt)
          clear y0 y1 y2 y3 y4 y5 y6
          obtain ⟨y0, y1, y2, y3, y4, y5, y6⟩ := seven_has HX3.out
          go_wp2_with fail
          go_ret
          refine ⟨ret_bool ?_, HB2.out.trans (b3.mono HB2.out.size)⟩
          rw [← HR.out, decide_eq_true c3, Bool.eq_iff_iff]; simp; try omega
      · have dc3 : decide ((ps.length : Int) ≤ 1) = false := by simp; omega
        go_wp2_with fail
        go_ret
        exact ⟨ret_bool (by rw [← HR.out, decide_eq_false c3]; simp), HB2.out⟩
/-- RightItems asks all. -/
theorem rightIs_of (l : List IT) (A : Option Addr) (c : Nat) (w : World) (hcap : l.length ≤ 9223372036854775807) (hl : Its w A l)
    (ih : ∀ t ∈ l, ∀ w', Below w.heap.size w w' → Calls Tryd.prog 27 #[t.val] w' fun e w'' => e = .returned (.bool (rightI t)) ∧ Below w'.heap.size w' w'') :
    Calls Tryd.prog 14 #[.slice A l.length c] w fun e w' => e = .returned (.bool (rightIs l)) ∧ Below w.heap.size w w' := by
  by_cases h0 : l.length = 0
  · have HE : Hid (rightIs l = false) := Lib.hid (by rw [List.length_eq_zero_iff.1 h0]; rfl)
    rw [HE.out, h0]
    clear ih hl
    go_enter Tryd.func14, Tryd.ntmps14
    go_wp2
    go_ret
    exact ⟨rfl, Below.refl _ _⟩
  · have HC := Lib.hid (allI_any l A c w hcap hl ih)
    obtain ⟨R, hR⟩ : ∃ R, rightLs l = R := ⟨_, rfl⟩
    have HE : Hid (rightIs l = R) := Lib.hid (by unfold rightIs; rw [hR]; cases l with | nil => simp at h0 | cons => rfl)
    rw [hR] at HC
    rw [HE.out]
    have d0 : decide ((0 : Int) < (l.length : Int)) = true := by simp; omega
    have d1 : 0 < l.length := by omega
    obtain ⟨m, hm⟩ : ∃ m, l.length = m := ⟨_, rfl⟩
    rw [hm] at HC d0 d1 ⊢
    clear ih hl hR h0 hm
    go_enter Tryd.func14, Tryd.ntmps14
    go_wp2_with (go_at_call 26; refine HC.out.mono ?_; rintro e w1 ⟨rfl, b1⟩)
    go_ret
    exact ⟨rfl, b1⟩
theorem rightI_named {k : Int} {nm vr : Nm} {pA : Option Addr} {pc : Nat} {ps : List ET} {lo hi : Int} {kA : Option Addr} {kc : Nat} {kp : List (Option Addr × Nat)} {ks : List (List IT)} (h : k = 0 ∨ k = 2) : rightI (.mk k nm vr pA pc ps lo hi kA kc kp ks) = (nameE nm vr ps ks.length && decide (lo = 0) && decide (hi = 0)) := by
  rw [rightI, if_neg (by omega), nameE, Bool.eq_iff_iff]
  rcases h with rfl | rfl <;> (simp; try grind)
theorem rightI_times {nm vr : Nm} {pA : Option Addr} {pc : Nat} {ps : List ET} {lo hi : Int} {kA : Option Addr} {kc : Nat} {kp : List (Option Addr × Nat)} {ks : List (List IT)} : rightI (.mk 1 nm vr pA pc ps lo hi kA kc kp ks) = (nameE nm vr ps ks.length && decide (1 ≤ lo) && decide (lo ≤ hi) && decide (hi ≤ 4)) := by
  rw [rightI, if_neg (by omega), nameE, Bool.eq_iff_iff]
  simp; try grind
theorem rightI_choice {nm vr : Nm} {pA : Option Addr} {pc : Nat} {ps : List ET} {lo hi : Int} {kA : Option Addr} {kc : Nat} {kp : List (Option Addr × Nat)} {ks : List (List IT)} : rightI (.mk 3 nm vr pA pc ps lo hi kA kc kp ks) = (kidsE nm vr ps.length lo hi && decide (2 ≤ ks.length) && rightKs ks) := by
  rw [rightI, if_pos rfl, kidsE, Bool.eq_iff_iff]
  simp; try grind
theorem rightI_none {k : Int} {nm vr : Nm} {pA : Option Addr} {pc : Nat} {ps : List ET} {lo hi : Int} {kA : Option Addr} {kc : Nat} {kp : List (Option Addr × Nat)} {ks : List (List IT)} (h0 : k ≠ 0) (h1 : k ≠ 1) (h2 : k ≠ 2) (h3 : k ≠ 3) : rightI (.mk k nm vr pA pc ps lo hi kA kc kp ks) = false := by
  rw [rightI, if_neg h3]
  simp [h0, h1, h2]
set_option maxHeartbeats 8000000 in
theorem rightI_any : ∀ (t : IT) (w : World), t.In w → Tabs8 w → Calls Tryd.prog 27 #[t.val] w fun e w' => e = .returned (.bool (rightI t)) ∧ Below w.heap.size w w' := by
  refine IT.ind fun k nm vr pA pc ps lo hi kA kc kp ks ih w hin hT => ?_
  obtain ⟨ok1, ok2, ok3, okn, okv, okp, okk⟩ := hin.ok
  have cp := okS_cap okp
  have ck := okS_cap okk
  obtain ⟨W, hW⟩ : ∃ W, W = w.alloc (.cells (csIm k nm vr pA ps.length pc lo hi kA ks.length kc) 42) := ⟨_, rfl⟩
  have hx : Has W w.heap.size 42 (csIm k nm vr pA ps.length pc lo hi kA ks.length kc) := by rw [hW]; exact heap_alloc_new w _
  have bl : Below w.heap.size w W := by rw [hW]; exact (Below.refl _ _).alloc (Nat.le_refl _) _
  have hne := nameE_any k nm vr pA pc ps lo hi kA ks.length kc W okn okv cp (fun j hj => ⟨(hin.preds j hj).1.below bl, (hin.preds j hj).2.below bl⟩) (hT.below bl)
  have hke := kidsE_any k nm vr pA ps.length pc lo hi kA ks.length kc W
  have hal : ∀ W', Below W.heap.size W W' → Calls Tryd.prog 45 #[.slice kA ks.length kc, .func (Fn.func 14) #[] #[]] W' fun e w' => e = .returned (.bool (rightKs ks)) ∧ Below W'.heap.size W' w' := fun W' hb =>
    allK_any ks kp kA kc W' ck ((hin.kds.below bl).below hb) fun j h1 h2 w' hb2 =>
      rightIs_of ks[j] kp[j].1 kp[j].2 w' (okS_cap (hin.kids j h1 h2).1.2) ((((hin.kds.below bl).below hb).below hb2).2 j h1 h2).2
        fun t ht w'' hb3 => ih _ (List.getElem_mem _) t ht w'' (by
          obtain ⟨i, hi, rfl⟩ := List.getElem_of_mem ht
          exact ((((((hin.kds.below bl).below hb).below hb2).2 j h1 h2).2 i hi).2).below hb3) ((((hT.below bl).below hb).below hb2).below hb3)
  have HW := Lib.hid hW
  have HX := Lib.hid hx
  have HB := Lib.hid bl
  have HNE := Lib.hid hne
  have HKE := Lib.hid hke
  have HAL := Lib.hid hal
  obtain ⟨R, hR⟩ : ∃ R, rightI (.mk k nm vr pA pc ps lo hi kA kc kp ks) = R := ⟨_, rfl⟩
  rw [hR]
  show Calls _ _ #[.agg #[.int .i64 k, .string (str nm), .string (str vr), .slice pA ps.length pc, .int .i64 lo, .int .i64 hi, .slice kA ks.length kc]] _ _
  obtain ⟨pm, hpm⟩ : ∃ pm, ps.length = pm := ⟨_, rfl⟩
  obtain ⟨km, hkm⟩ : ∃ km, ks.length = km := ⟨_, rfl⟩
  obtain ⟨ne, hnE⟩ : ∃ ne, nameE nm vr ps km = ne := ⟨_, rfl⟩
  obtain ⟨ke, hkE⟩ : ∃ ke, kidsE nm vr pm lo hi = ke := ⟨_, rfl⟩
  obtain ⟨ak, hak⟩ : ∃ ak, rightKs ks = ak := ⟨_, rfl⟩
  rw [hpm, hkm] at HW HX HNE HKE
  rw [hkm] at HAL ck
  rw [hpm, hkm]
  rw [hnE] at HNE
  rw [hkE] at HKE
  rw [hak] at HAL
  clear hW hx bl hne hke hal ih hin hT okp okk okn okv cp
  by_cases k0 : k = 0 ∨ k = 2
  · rw [rightI_named k0, hkm, hnE] at hR
    have HR := Lib.hid hR
    clear hR hpm hkm hnE hkE hak HKE HAL
    cases ne with
    | false =>
      rcases k0 with rfl | rfl
      all_goals
        go_enter Tryd.func27, Tryd.ntmps27
        go_wp2_with (go_at_call 43; rw [← HW.out]; refine HNE.out.mono ?_; rintro e w1 ⟨rfl, b1⟩)
        go_ret
        exact ⟨ret_bool (by rw [← HR.out]; simp), HB.out.trans (b1.mono HB.out.size)⟩
    | true =>
      rcases k0 with rfl | rfl
      all_goals
        go_enter Tryd.func27, Tryd.ntmps27
        go_wp2_with (go_at_call 43; rw [← HW.out]; refine HNE.out.mono ?_; rintro e w1 ⟨rfl, b1⟩; obtain ⟨y0, y1, y2, y3, y4, y5, y6⟩ := seven_has (HX.out.below b1 HX.out.lt))
        all_goals go_ret
        all_goals (refine ⟨ret_bool ?_, HB.out.trans (b1.mono HB.out.size)⟩; rw [← HR.out]; clear HR HB HX HW HNE; first | (simp_all; done) | (simp_all; rw [Bool.eq_iff_iff]; simp; done))
  by_cases k1 : k = 1
  · subst k1
    rw [rightI_times, hkm, hnE] at hR
    have HR := Lib.hid hR
    clear hR hpm hkm hnE hkE hak HKE HAL k0
    cases ne with
    | false =>
      go_enter Tryd.func27, Tryd.ntmps27
      go_wp2_with (go_at_call 43; rw [← HW.out]; refine HNE.out.mono ?_; rintro e w1 ⟨rfl, b1⟩)
      go_ret
      exact ⟨ret_bool (by rw [← HR.out]; simp), HB.out.trans (b1.mono HB.out.size)⟩
    | true =>
      go_enter Tryd.func27, Tryd.ntmps27
      go_wp2_with (go_at_call 43; rw [← HW.out]; refine HNE.out.mono ?_; rintro e w1 ⟨rfl, b1⟩; obtain ⟨y0, y1, y2, y3, y4, y5, y6⟩ := seven_has (HX.out.below b1 HX.out.lt))
      all_goals go_ret
      all_goals (refine ⟨ret_bool ?_, HB.out.trans (b1.mono HB.out.size)⟩; rw [← HR.out]; clear HR HB HX HW HNE; first | (simp_all; done) | (simp_all; omega) | (simp_all; intros; omega) | (simp_all; rw [Bool.eq_iff_iff]; simp; done) | (simp_all; rw [Bool.eq_iff_iff]; simp; omega))
  by_cases k3 : k = 3
  · subst k3
    have hR' := hR
    rw [rightI_choice, hkm] at hR
    rw [hpm, hkE] at hR
    rw [hak] at hR
    have HR := Lib.hid hR
    clear hR hR' hpm hkm hnE hkE hak HNE k0 k1
    cases ke with
    | false =>
      go_enter Tryd.func27, Tryd.ntmps27
      go_wp2_with (go_at_call 44; rw [← HW.out]; refine HKE.out.mono ?_; rintro e w1 ⟨rfl, b1⟩)
      go_ret
      exact ⟨ret_bool (by rw [← HR.out]; simp), HB.out.trans (b1.mono HB.out.size)⟩
    | true =>
      by_cases c2 : 2 ≤ km
      · have d2 : decide ((2 : Int) ≤ (km : Int)) = true := by simp; omega
        go_enter Tryd.func27, Tryd.ntmps27
        go_wp2_with (first | (go_at_call 44; rw [← HW.out]; refine HKE.out.mono ?_; rintro e w1 ⟨rfl, b1⟩; obtain ⟨y0, y1, y2, y3, y4, y5, y6⟩ := seven_has (HX.out.below b1 HX.out.lt)) | (go_at_call 45; refine (HAL.out _ b1).mono ?_; rintro e w2 ⟨rfl, b2⟩))
        go_ret
        exact ⟨ret_bool (by rw [← HR.out, decide_eq_true c2]; simp), HB.out.trans ((b1.trans (b2.mono b1.size)).mono HB.out.size)⟩
      · have d2 : decide ((2 : Int) ≤ (km : Int)) = false := by simp; omega
        go_enter Tryd.func27, Tryd.ntmps27
        go_wp2_with (first | (go_at_call 44; rw [← HW.out]; refine HKE.out.mono ?_; rintro e w1 ⟨rfl, b1⟩; obtain ⟨y0, y1, y2, y3, y4, y5, y6⟩ := seven_has (HX.out.below b1 HX.out.lt)))
        go_ret
        exact ⟨ret_bool (by rw [← HR.out, decide_eq_false c2]; simp), HB.out.trans (b1.mono HB.out.size)⟩
  · have k2 : k ≠ 2 := by omega
    have kk0 : k ≠ 0 := by omega
    have HR : Hid (R = false) := Lib.hid (by rw [← hR]; exact rightI_none kk0 k1 k2 k3)
    have d0 : (k == 0) = false := by simpa using kk0
    have d1 : (k == 1) = false := by simpa using k1
    have d2 : (k == 2) = false := by simpa using k2
    have d3 : (k == 3) = false := by simpa using k3
    clear hR hpm hkm hnE hkE hak HNE HKE HAL k0 k1 k2 k3 kk0 HX
    go_enter Tryd.func27, Tryd.ntmps27
    go_wp2_with fail
    go_ret
    exact ⟨ret_bool HR.out.symm, by rw [← HW.out]; exact HB.out⟩
theorem rightL_any (l : List IT) (A : Option Addr) (c : Nat) (w : World) (hcap : l.length ≤ 9223372036854775807) (hl : Its w A l) (hT : Tabs8 w) :
    Calls Tryd.prog 14 #[.slice A l.length c] w fun e w' => e = .returned (.bool (rightIs l)) ∧ Below w.heap.size w w' :=
  rightIs_of l A c w hcap hl fun t ht w' hb => by
    obtain ⟨i, hi, rfl⟩ := List.getElem_of_mem ht
    exact rightI_any _ w' ((hl i hi).2.below hb) (hT.below hb)
end Go.Proofs.YtbdfehgofnomhaaDoor
/- Layer 9: same. -/
namespace Go.Proofs.YtbdfehgofnomhaaDoor
open Go.RowKit
set_option linter.unusedVariables false

theorem samePs_eq : ∀ (ps qs : List ET), samePs ps qs = (decide (ps.length = qs.length) && sameLs ps qs)
  | [], [] => by rw [samePs, sameLs]; rfl
  | [], y :: ys => by rw [samePs, sameLs]; rfl
  | x :: xs, [] => by rw [samePs]; simp
  | x :: xs, y :: ys => by
    rw [samePs, sameLs, samePs_eq xs ys]
    cases sameT x y <;> simp
theorem sameIs_len : ∀ (l m : List IT), l.length ≠ m.length → sameIs l m = false
  | [], [], h => absurd rfl h
  | [], y :: ys, h => by rw [sameIs]; rfl
  | x :: xs, [], h => by rw [sameIs]
  | x :: xs, y :: ys, h => by rw [sameIs_cons, sameIs_len xs ys (by simpa using h)]; simp
theorem sameKs_len : ∀ (l m : List (List IT)), l.length ≠ m.length → sameKs l m = false
  | [], [], h => absurd rfl h
  | [], y :: ys, h => by rw [sameKs]; rfl
  | x :: xs, [], h => by rw [sameKs]
  | x :: xs, y :: ys, h => by rw [sameKs_cons, sameKs_len xs ys (by simpa using h)]; simp
set_option maxHeartbeats 2000000 in
theorem eqE_any (ps qs : List ET) (A B : Option Addr) (c d : Nat) (w : World) (hcap : ps.length ≤ 9223372036854775807) (hp : Ets w A ps) (hq : Ets w B qs) :
    Calls Tryd.prog 47 #[.slice A ps.length c, .slice B qs.length d, .func (Fn.func 48) #[] #[]] w fun e w' => e = .returned (.bool (samePs ps qs)) ∧ Below w.heap.size w w' := by
  by_cases hl : ps.length = qs.length
  · rw [samePs_eq, decide_eq_true hl, Bool.true_and]
    exact eqf_any ps (fun t ht u w' h1 h2 => sameT_any t u w' h1 h2) qs A B c d w hl hcap hp hq
  · rw [samePs_eq, decide_eq_false hl, Bool.false_and]
    have d1 : ((ps.length : Int) != (qs.length : Int)) = true := by simp; omega
    clear hp hq
    go_enter Tryd.func47, Tryd.ntmps47
    go_wp2
    go_ret
    exact ⟨rfl, Below.refl _ _⟩
set_option maxHeartbeats 4000000 in
theorem eqI_any (l m : List IT) (A B : Option Addr) (c d : Nat) (w : World) (hcap : l.length ≤ 9223372036854775807) (hl : Its w A l) (hm : Its w B m)
    (ih : ∀ t ∈ l, ∀ u ∈ m, ∀ w', Below w.heap.size w w' → Calls Tryd.prog 31 #[t.val, u.val] w' fun e w'' => e = .returned (.bool (sameI t u)) ∧ Below w'.heap.size w' w'') :
    Calls Tryd.prog 30 #[.slice A l.length c, .slice B m.length d, .func (Fn.func 31) #[] #[]] w fun e w' => e = .returned (.bool (sameIs l m)) ∧ Below w.heap.size w w' := by
  by_cases hlen : l.length = m.length
  case neg =>
    rw [sameIs_len l m hlen]
    have d1 : ((l.length : Int) != (m.length : Int)) = true := by simp; omega
    clear hl hm ih
    go_enter Tryd.func30, Tryd.ntmps30
    go_wp2
    go_ret
    exact ⟨rfl, Below.refl _ _⟩
  obtain ⟨R, hR⟩ : ∃ R, sameIs l m = R := ⟨_, rfl⟩
  rw [hR]
  have d1 : ((l.length : Int) != (m.length : Int)) = false := by simp; omega
  have hcap2 : m.length ≤ 9223372036854775807 := by omega
  have HL := Lib.hid hlen
  have HR := Lib.hid hR
  have HI := Lib.hid ih
  have HK := Lib.hid hl
  have HM := Lib.hid hm
  clear hR ih hl hm hlen
  go_enter Tryd.func30, Tryd.ntmps30
  go_wp2
  go_loopw [17] (fun i wr => ∃ k : Nat, k ≤ l.length ∧ i = .int .i64 k ∧ sameIs (l.drop k) (m.drop k) = R ∧ Below w.heap.size w wr) (fun i _ => l.length - (intOf i).toNat)
  case atStart => exact ⟨0, Nat.zero_le _, rfl, HR.out, Below.refl _ _⟩
  case round =>
    obtain ⟨j, hj, rfl, hrest, hb⟩ := hrel
    have HRR := Lib.hid hrest
    have HB := Lib.hid hb
    clear hrest hb
    by_cases hlt : j < l.length
    · have hlt' : j < m.length := by have := HL.out; omega
      obtain ⟨⟨b, off, rfl, g0, g1, g2, g3, g4, g5, g6⟩, hkin⟩ := (HK.out j hlt).imp (fun h => h.below HB.out) (fun h => h.below HB.out)
      obtain ⟨⟨b', off', rfl, q0, q1, q2, q3, q4, q5, q6⟩, huin⟩ := (HM.out j hlt').imp (fun h => h.below HB.out) (fun h => h.below HB.out)
      have e1 := List.drop_eq_getElem_cons hlt
      have e2 := List.drop_eq_getElem_cons hlt'
      obtain ⟨x, hx⟩ : ∃ x, l[j] = x := ⟨_, rfl⟩
      obtain ⟨y, hy⟩ : ∃ y, m[j] = y := ⟨_, rfl⟩
      have hmx : x ∈ l := by rw [← hx]; exact List.getElem_mem _
      have hmy : y ∈ m := by rw [← hy]; exact List.getElem_mem _
      rw [hx] at g0 g1 g2 g3 g4 g5 g6 e1
      rw [hy] at q0 q1 q2 q3 q4 q5 q6 e2
      have z0 := World.block_lt_of_cell? _ _ q0
      simp only at z0
      obtain ⟨W, hW⟩ : ∃ W, W = (wr.alloc (.cells #[.int .i64 x.k, .string (str x.nm), .string (str x.vr), .slice x.pA x.ps.length x.pc, .int .i64 x.lo, .int .i64 x.hi, .slice x.kA x.ks.length x.kc] 42)).alloc (.cells #[.int .i64 y.k, .string (str y.nm), .string (str y.vr), .slice y.pA y.ps.length y.pc, .int .i64 y.lo, .int .i64 y.hi, .slice y.kA y.ks.length y.kc] 42) := ⟨_, rfl⟩
      have bl : Below wr.heap.size wr W := by rw [hW]; exact ((Below.refl _ _).alloc (Nat.le_refl _) _).alloc (by simp) _
      have bt := HB.out.trans (bl.mono HB.out.size)
      have hcl := HI.out x hmx y hmy W bt
      rw [show x.val = Value.agg #[.int .i64 x.k, .string (str x.nm), .string (str x.vr), .slice x.pA x.ps.length x.pc, .int .i64 x.lo, .int .i64 x.hi, .slice x.kA x.ks.length x.kc] from rfl, show y.val = Value.agg #[.int .i64 y.k, .string (str y.nm), .string (str y.vr), .slice y.pA y.ps.length y.pc, .int .i64 y.lo, .int .i64 y.hi, .slice y.kA y.ks.length y.kc] from rfl] at hcl
      have hst : sameIs (l.drop j) (m.drop j) = (sameI x y && sameIs (l.drop (j + 1)) (m.drop (j + 1))) := by rw [e1, e2, sameIs_cons]
      obtain ⟨sb, hsb⟩ : ∃ sb, sameI x y = sb := ⟨_, rfl⟩
      rw [hsb] at hcl hst
      have HC := Lib.hid hcl
      have HW := Lib.hid hW
      have HBT := Lib.hid bt
      have HST := Lib.hid hst
      clear hcl hW bt hst hkin huin e1 e2 hx hy hmx hmy bl hsb
      cases sb with
      | false =>
        go_wp2_with (go_at_call 31; rw [← HW.out]; refine HC.out.mono ?_; rintro e w' ⟨rfl, hb2⟩)
        go_ret
        exact ⟨ret_bool (by rw [← HRR.out, HST.out]; rfl), HBT.out.trans (hb2.mono HBT.out.size)⟩
      | true =>
        go_wp2_with (go_at_call 31; rw [← HW.out]; refine HC.out.mono ?_; rintro e w' ⟨rfl, hb2⟩)
        go_roundw
        case rel => exact ⟨j + 1, by omega, by go_num, by rw [← HRR.out, HST.out]; rfl, HBT.out.trans (hb2.mono HBT.out.size)⟩
        case measure => simp [intOf]; omega
    · have HE : Hid (R = true) := Lib.hid (by rw [← HRR.out, List.drop_eq_nil_of_le (by omega), List.drop_eq_nil_of_le (by have := HL.out; omega), sameIs_nil])
      go_wp2
      go_ret
      exact ⟨ret_bool HE.out.symm, HB.out⟩
set_option maxHeartbeats 4000000 in
theorem eqK_any (l m : List (List IT)) (kp kq : List (Option Addr × Nat)) (A B : Option Addr) (c d : Nat) (w : World) (hcap : l.length ≤ 9223372036854775807) (hl : Kds w A l kp) (hm : Kds w B m kq)
    (ih : ∀ j (h : j < l.length) (h' : j < kp.length) (h2 : j < m.length) (h2' : j < kq.length), ∀ w', Below w.heap.size w w' → Calls Tryd.prog 16 #[.slice kp[j].1 l[j].length kp[j].2, .slice kq[j].1 m[j].length kq[j].2] w' fun e w'' => e = .returned (.bool (sameIs l[j] m[j])) ∧ Below w'.heap.size w' w'') :
    Calls Tryd.prog 49 #[.slice A l.length c, .slice B m.length d, .func (Fn.func 16) #[] #[]] w fun e w' => e = .returned (.bool (sameKs l m)) ∧ Below w.heap.size w w' := by
  by_cases hlen : l.length = m.length
  case neg =>
    rw [sameKs_len l m hlen]
    have d1 : ((l.length : Int) != (m.length : Int)) = true := by simp; omega
    clear hl hm ih
    go_enter Tryd.func49, Tryd.ntmps49
    go_wp2
    go_ret
    exact ⟨rfl, Below.refl _ _⟩
  obtain ⟨R, hR⟩ : ∃ R, sameKs l m = R := ⟨_, rfl⟩
  rw [hR]
  have d1 : ((l.length : Int) != (m.length : Int)) = false := by simp; omega
  have hcap2 : m.length ≤ 9223372036854775807 := by omega
  have HL := Lib.hid hlen
  have HR := Lib.hid hR
  have HI := Lib.hid ih
  have HK := Lib.hid hl
  have HM := Lib.hid hm
  clear hR ih hl hm hlen
  go_enter Tryd.func49, Tryd.ntmps49
  go_wp2
  go_loopw [17] (fun i wr => ∃ k : Nat, k ≤ l.length ∧ i = .int .i64 k ∧ sameKs (l.drop k) (m.drop k) = R ∧ Below w.heap.size w wr) (fun i _ => l.length - (intOf i).toNat)
  case atStart => exact ⟨0, Nat.zero_le _, rfl, HR.out, Below.refl _ _⟩
  case round =>
    obtain ⟨j, hj, rfl, hrest, hb⟩ := hrel
    have HRR := Lib.hid hrest
    have HB := Lib.hid hb
    clear hrest hb
    by_cases hlt : j < l.length
    · have hlt' : j < m.length := by have := HL.out; omega
      have hk1 : j < kp.length := by rw [HK.out.1]; exact hlt
      have hk2 : j < kq.length := by rw [HM.out.1]; exact hlt'
      obtain ⟨b, off, rfl, g0⟩ := (HK.out.2 j hlt hk1).1.1.imp (below_imp HB.out)
      obtain ⟨b', off', rfl, q0⟩ := (HM.out.2 j hlt' hk2).1.1.imp (below_imp HB.out)
      have hcl := HI.out j hlt hk1 hlt' hk2 wr HB.out
      have e1 := List.drop_eq_getElem_cons hlt
      have e2 := List.drop_eq_getElem_cons hlt'
      obtain ⟨x, hx⟩ : ∃ x, l[j] = x := ⟨_, rfl⟩
      obtain ⟨y, hy⟩ : ∃ y, m[j] = y := ⟨_, rfl⟩
      obtain ⟨p1, hp1⟩ : ∃ q, kp[j] = q := ⟨_, rfl⟩
      obtain ⟨p2, hp2⟩ : ∃ q, kq[j] = q := ⟨_, rfl⟩
      rw [hx, hp1] at g0
      rw [hy, hp2] at q0
      rw [hx, hy, hp1, hp2] at hcl
      rw [hx] at e1
      rw [hy] at e2
      have hst : sameKs (l.drop j) (m.drop j) = (sameIs x y && sameKs (l.drop (j + 1)) (m.drop (j + 1))) := by rw [e1, e2, sameKs_cons]
      obtain ⟨sb, hsb⟩ : ∃ sb, sameIs x y = sb := ⟨_, rfl⟩
      rw [hsb] at hcl hst
      have HC := Lib.hid hcl
      have HST := Lib.hid hst
      clear hcl hst e1 e2 hx hy hp1 hp2 hsb
      cases sb with
      | false =>
        go_wp2_with (go_at_call 16; refine HC.out.mono ?_; rintro e w' ⟨rfl, hb2⟩)
        go_ret
        exact ⟨ret_bool (by rw [← HRR.out, HST.out]; rfl), HB.out.trans (hb2.mono HB.out.size)⟩
      | true =>
        go_wp2_with (go_at_call 16; refine HC.out.mono ?_; rintro e w' ⟨rfl, hb2⟩)
        go_roundw
        case rel => exact ⟨j + 1, by omega, by go_num, by rw [← HRR.out, HST.out]; rfl, HB.out.trans (hb2.mono HB.out.size)⟩
        case measure => simp [intOf]; omega
    · have HE : Hid (R = true) := Lib.hid (by rw [← HRR.out, List.drop_eq_nil_of_le (by omega), List.drop_eq_nil_of_le (by have := HL.out; omega), sameKs_nil])
      go_wp2
      go_ret
      exact ⟨ret_bool HE.out.symm, HB.out⟩
theorem sameIs_of (l m : List IT) (A B : Option Addr) (c d : Nat) (w : World) (hcap : l.length ≤ 9223372036854775807) (hl : Its w A l) (hm : Its w B m)
    (ih : ∀ t ∈ l, ∀ u ∈ m, ∀ w', Below w.heap.size w w' → Calls Tryd.prog 31 #[t.val, u.val] w' fun e w'' => e = .returned (.bool (sameI t u)) ∧ Below w'.heap.size w' w'') :
    Calls Tryd.prog 16 #[.slice A l.length c, .slice B m.length d] w fun e w' => e = .returned (.bool (sameIs l m)) ∧ Below w.heap.size w w' := by
  have HC := Lib.hid (eqI_any l m A B c d w hcap hl hm ih)
  clear ih hl hm
  go_enter Tryd.func16, Tryd.ntmps16
  go_wp2_with (go_at_call 30; refine HC.out.mono ?_; rintro e w1 ⟨rfl, b1⟩)
  go_ret
  exact ⟨rfl, b1⟩
set_option maxHeartbeats 8000000 in
theorem sameI_any : ∀ (t u : IT) (w : World), t.In w → u.In w → Calls Tryd.prog 31 #[t.val, u.val] w fun e w' => e = .returned (.bool (sameI t u)) ∧ Below w.heap.size w w' := by
  refine IT.ind fun k nm vr pA pc ps lo hi kA kc kp ks ih u w hin huin => ?_
  obtain ⟨k', nm', vr', pA', pc', qs, lo', hi', kA', kc', kq, ms⟩ := u
  have okp := okS_cap hin.ok.2.2.2.2.2.1
  have okk := okS_cap hin.ok.2.2.2.2.2.2
  obtain ⟨x1, x2, x3⟩ := two_new w (csIm k nm vr pA ps.length pc lo hi kA ks.length kc) (csIm k' nm' vr' pA' qs.length pc' lo' hi' kA' ms.length kc') 42 42
  obtain ⟨W, hW⟩ : ∃ W, W = (w.alloc (.cells (csIm k nm vr pA ps.length pc lo hi kA ks.length kc) 42)).alloc (.cells (csIm k' nm' vr' pA' qs.length pc' lo' hi' kA' ms.length kc') 42) := ⟨_, rfl⟩
  rw [← hW] at x1 x2 x3
  have hE := eqE_any ps qs pA pA' pc pc' W okp (fun j hj => ⟨(hin.preds j hj).1.below x3, (hin.preds j hj).2.below x3⟩) (fun j hj => ⟨(huin.preds j hj).1.below x3, (huin.preds j hj).2.below x3⟩)
  have hK : ∀ W', Below W.heap.size W W' → Calls Tryd.prog 49 #[.slice kA ks.length kc, .slice kA' ms.length kc', .func (Fn.func 16) #[] #[]] W' fun e w' => e = .returned (.bool (sameKs ks ms)) ∧ Below W'.heap.size W' w' := fun W' hb =>
    eqK_any ks ms kp kq kA kA' kc kc' W' okk ((hin.kds.below x3).below hb) ((huin.kds.below x3).below hb) fun j h1 h2 h3 h4 w' hb2 =>
      sameIs_of ks[j] ms[j] kp[j].1 kq[j].1 kp[j].2 kq[j].2 w' (okS_cap (hin.kids j h1 h2).1.2) ((((hin.kds.below x3).below hb).below hb2).2 j h1 h2).2 ((((huin.kds.below x3).below hb).below hb2).2 j h3 h4).2
        fun t ht u hu w'' hb3 => ih _ (List.getElem_mem _) t ht u w'' (by
          obtain ⟨i, hi, rfl⟩ := List.getElem_of_mem ht
          exact ((((((hin.kds.below x3).below hb).below hb2).2 j h1 h2).2 i hi).2).below hb3) (by
          obtain ⟨i, hi, rfl⟩ := List.getElem_of_mem hu
          exact ((((((huin.kds.below x3).below hb).below hb2).2 j h3 h4).2 i hi).2).below hb3)
  obtain ⟨R, hR⟩ : ∃ R, sameI (.mk k nm vr pA pc ps lo hi kA kc kp ks) (.mk k' nm' vr' pA' pc' qs lo' hi' kA' kc' kq ms) = R := ⟨_, rfl⟩
  rw [hR]
  rw [sameI_mk] at hR
  simp only [IT.k, IT.nm, IT.vr, IT.lo, IT.hi, IT.ps, IT.ks] at hR
  obtain ⟨eb, heb⟩ : ∃ eb, samePs ps qs = eb := ⟨_, rfl⟩
  obtain ⟨kb, hkb⟩ : ∃ kb, sameKs ks ms = kb := ⟨_, rfl⟩
  rw [heb] at hE hR
  rw [hkb] at hK hR
  show Calls _ _ #[.agg #[.int .i64 k, .string (str nm), .string (str vr), .slice pA ps.length pc, .int .i64 lo, .int .i64 hi, .slice kA ks.length kc], .agg #[.int .i64 k', .string (str nm'), .string (str vr'), .slice pA' qs.length pc', .int .i64 lo', .int .i64 hi', .slice kA' ms.length kc']] _ _
  obtain ⟨pm, hpm⟩ : ∃ pm, ps.length = pm := ⟨_, rfl⟩
  obtain ⟨km, hkm⟩ : ∃ km, ks.length = km := ⟨_, rfl⟩
  obtain ⟨pm', hpm'⟩ : ∃ pm, qs.length = pm := ⟨_, rfl⟩
  obtain ⟨km', hkm'⟩ : ∃ km, ms.length = km := ⟨_, rfl⟩
  rw [hpm, hpm', hkm, hkm'] at hW
  rw [hpm, hkm] at x1
  rw [hpm', hkm'] at x2
  rw [hpm, hpm'] at hE
  rw [hkm, hkm'] at hK
  rw [hpm, hpm', hkm, hkm']
  have e1 := str_toList nm
  have e2 := str_toList nm'
  have e3 := str_toList vr
  have e4 := str_toList vr'
  have HW := Lib.hid hW
  have HE := Lib.hid hE
  have HK := Lib.hid hK
  have HX1 := Lib.hid x1
  have HX2 := Lib.hid x2
  have HX3 := Lib.hid x3
  clear hW hE hK x1 x2 x3 ih hin huin okp okk hpm hkm hpm' hkm' heb hkb
  by_cases hd : k = k' ∧ nm = nm' ∧ vr = vr' ∧ lo = lo' ∧ hi = hi'
  · obtain ⟨rfl, rfl, rfl, rfl, rfl⟩ := hd
    simp only [and_self, decide_true, Bool.true_and] at hR
    have HR := Lib.hid hR
    clear hR
    cases eb with
    | false =>
      go_enter Tryd.func31, Tryd.ntmps31
      go_wp2_with (go_at_call 47; rw [← HW.out]; refine HE.out.mono ?_; rintro e w1 ⟨rfl, b1⟩)
      go_ret
      exact ⟨ret_bool (by rw [← HR.out]; rfl), HX3.out.trans (b1.mono HX3.out.size)⟩
    | true =>
      go_enter Tryd.func31, Tryd.ntmps31
      go_wp2_with (first | (go_at_call 47; rw [← HW.out]; refine HE.out.mono ?_; rintro e w1 ⟨rfl, b1⟩; obtain ⟨y0, y1, y2, y3, y4, y5, y6⟩ := seven_has (HX1.out.below b1 HX1.out.lt); obtain ⟨z0, z1, z2, z3, z4, z5, z6⟩ := seven_has (HX2.out.below b1 HX2.out.lt)) | (go_at_call 49; refine (HK.out _ b1).mono ?_; rintro e w2 ⟨rfl, b2⟩))
      go_ret
      exact ⟨ret_bool (by rw [← HR.out]; simp), HX3.out.trans ((b1.trans (b2.mono b1.size)).mono HX3.out.size)⟩
  · have HR : Hid (R = false) := Lib.hid (by
      rw [← hR, Bool.eq_false_iff]
      intro hh
      simp only [Bool.and_eq_true] at hh
      exact hd (of_decide_eq_true hh.1.1))
    clear hR HE HK HX1 HX2
    have HX4 : Hid (Below w.heap.size w ((w.alloc (.cells #[.int .i64 k, .string (str nm), .string (str vr), .slice pA pm pc, .int .i64 lo, .int .i64 hi, .slice kA km kc] 42)).alloc (.cells #[.int .i64 k', .string (str nm'), .string (str vr'), .slice pA' pm' pc', .int .i64 lo', .int .i64 hi', .slice kA' km' kc'] 42))) := Lib.hid (by rw [← HW.out]; exact HX3.out)
    by_cases h1 : k = k'
    case neg =>
      have d1 : (k == k') = false := by simpa using h1
      clear hd HW HX3
      go_enter Tryd.func31, Tryd.ntmps31
      go_wp2_with fail
      go_ret
      exact ⟨ret_bool HR.out.symm, HX4.out⟩
    subst h1
    by_cases h2 : nm = nm'
    case neg =>
      have d2 : ((str nm).toList == (str nm').toList) = false := by rw [e1, e2]; simpa using h2
      clear hd HW HX3 e1 e2 e3 e4
      go_enter Tryd.func31, Tryd.ntmps31
      go_wp2_with fail
      go_ret
      exact ⟨ret_bool HR.out.symm, HX4.out⟩
    subst h2
    by_cases h3 : vr = vr'
    case neg =>
      have d3 : ((str vr).toList == (str vr').toList) = false := by rw [e3, e4]; simpa using h3
      clear hd HW HX3 e1 e2 e3 e4
      go_enter Tryd.func31, Tryd.ntmps31
      go_wp2_with fail
      go_ret
      exact ⟨ret_bool HR.out.symm, HX4.out⟩
    subst h3
    by_cases h4 : lo = lo'
    case neg =>
      have d4 : (lo == lo') = false := by simpa using h4
      clear hd HW HX3
      go_enter Tryd.func31, Tryd.ntmps31
      go_wp2_with fail
      go_ret
      exact ⟨ret_bool HR.out.symm, HX4.out⟩
    subst h4
    have h5 : hi ≠ hi' := fun h5 => hd ⟨rfl, rfl, rfl, rfl, h5⟩
    have d5 : (hi == hi') = false := by simpa using h5
    clear hd HW HX3 h5
    go_enter Tryd.func31, Tryd.ntmps31
    go_wp2_with fail
    go_ret
    exact ⟨ret_bool HR.out.symm, HX4.out⟩
theorem sameL_any (l m : List IT) (A B : Option Addr) (c d : Nat) (w : World) (hcap : l.length ≤ 9223372036854775807) (hl : Its w A l) (hm : Its w B m) :
    Calls Tryd.prog 16 #[.slice A l.length c, .slice B m.length d] w fun e w' => e = .returned (.bool (sameIs l m)) ∧ Below w.heap.size w w' :=
  sameIs_of l m A B c d w hcap hl hm fun t ht u hu w' hb => by
    obtain ⟨i, hi, rfl⟩ := List.getElem_of_mem ht
    obtain ⟨k, hk, rfl⟩ := List.getElem_of_mem hu
    exact sameI_any _ _ w' ((hl i hi).2.below hb) ((hm k hk).2.below hb)
end Go.Proofs.YtbdfehgofnomhaaDoor
/- Layer 9: count. -/
namespace Go.Proofs.YtbdfehgofnomhaaDoor
open Go.RowKit
set_option linter.unusedVariables false

set_option maxHeartbeats 4000000 in
theorem sumI_any (l : List IT) (A : Option Addr) (c : Nat) (w : World) (hcap : l.length ≤ 9223372036854775807) (hl : Its w A l) (hB : countIs l ≤ 1000000000)
    (ih : ∀ t ∈ l, ∀ w', Below w.heap.size w w' → Calls Tryd.prog 25 #[t.val] w' fun e w'' => e = .returned (.int .i64 (countI t : Nat)) ∧ Below w'.heap.size w' w'') :
    Calls Tryd.prog 24 #[.slice A l.length c, .func (Fn.func 25) #[] #[]] w fun e w' => e = .returned (.int .i64 (countIs l : Nat)) ∧ Below w.heap.size w w' := by
  obtain ⟨C, hC⟩ : ∃ C, countIs l = C := ⟨_, rfl⟩
  rw [hC] at hB ⊢
  have HC := Lib.hid hC
  have HI := Lib.hid ih
  have HK := Lib.hid hl
  have HCB := Lib.hid hB
  clear hC ih hl hB
  go_enter Tryd.func24, Tryd.ntmps24
  go_wp2
  go_loopw [4, 9] (fun s i wr => ∃ k n : Nat, k ≤ l.length ∧ s = .int .i64 (n : Nat) ∧ i = .int .i64 k ∧ n + countIs (l.drop k) = C ∧ Below w.heap.size w wr) (fun s i _ => l.length - (intOf i).toNat)
  case atStart => exact ⟨0, 0, Nat.zero_le _, rfl, rfl, by have := HC.out; simp at this ⊢; omega, Below.refl _ _⟩
  case round =>
    obtain ⟨j, n, hj, rfl, rfl, hrest, hb⟩ := hrel
    have HRR := Lib.hid hrest
    have HB := Lib.hid hb
    clear hrest hb
    by_cases hlt : j < l.length
    · obtain ⟨⟨b, off, rfl, g0, g1, g2, g3, g4, g5, g6⟩, hkin⟩ := (HK.out j hlt).imp (fun h => h.below HB.out) (fun h => h.below HB.out)
      have e1 := List.drop_eq_getElem_cons hlt
      obtain ⟨x, hx⟩ : ∃ x, l[j] = x := ⟨_, rfl⟩
      have hmem : x ∈ l := by rw [← hx]; exact List.getElem_mem _
      rw [hx] at g0 g1 g2 g3 g4 g5 g6 e1
      obtain ⟨W, hW⟩ : ∃ W, W = wr.alloc (.cells #[.int .i64 x.k, .string (str x.nm), .string (str x.vr), .slice x.pA x.ps.length x.pc, .int .i64 x.lo, .int .i64 x.hi, .slice x.kA x.ks.length x.kc] 42) := ⟨_, rfl⟩
      have bl : Below wr.heap.size wr W := by rw [hW]; exact (Below.refl _ _).alloc (Nat.le_refl _) _
      have bt := HB.out.trans (bl.mono HB.out.size)
      have hcl := HI.out x hmem W bt
      rw [show x.val = Value.agg #[.int .i64 x.k, .string (str x.nm), .string (str x.vr), .slice x.pA x.ps.length x.pc, .int .i64 x.lo, .int .i64 x.hi, .slice x.kA x.ks.length x.kc] from rfl] at hcl
      have hst : countIs (l.drop j) = countI x + countIs (l.drop (j + 1)) := by rw [e1, countIs_cons]
      obtain ⟨v, hv⟩ : ∃ v, countI x = v := ⟨_, rfl⟩
      rw [hv] at hcl hst
      have hbd : n ≤ 1000000000 ∧ v ≤ 1000000000 ∧ n + v ≤ 1000000000 := by have := HRR.out; have := HCB.out; omega
      obtain ⟨hbd1, hbd2, hbd3⟩ := hbd
      have HCL := Lib.hid hcl
      have HST := Lib.hid hst
      have HW := Lib.hid hW
      have HBT := Lib.hid bt
      clear hcl hst hv e1 hW bt bl hkin hx hmem
      go_wp2_with (go_at_call 25; rw [← HW.out]; refine HCL.out.mono ?_; rintro e w' ⟨rfl, hb2⟩)
      go_roundw
      case rel => exact ⟨j + 1, n + v, by omega, by go_num, by go_num, by have := HRR.out; have := HST.out; omega, HBT.out.trans (hb2.mono HBT.out.size)⟩
      case measure => simp [intOf]; omega
    · have HE : Hid (n = C) := Lib.hid (by have := HRR.out; rw [List.drop_eq_nil_of_le (by omega), countIs_nil] at this; omega)
      go_wp2
      go_ret
      exact ⟨ret_int (by rw [HE.out]), HB.out⟩
set_option maxHeartbeats 4000000 in
theorem sumK_any (l : List (List IT)) (kp : List (Option Addr × Nat)) (A : Option Addr) (c : Nat) (w : World) (hcap : l.length ≤ 9223372036854775807) (hl : Kds w A l kp) (hB : countKs l ≤ 1000000000)
    (ih : ∀ j (h : j < l.length) (h' : j < kp.length), ∀ w', Below w.heap.size w w' → Calls Tryd.prog 12 #[.slice kp[j].1 l[j].length kp[j].2] w' fun e w'' => e = .returned (.int .i64 (countIs l[j] : Nat)) ∧ Below w'.heap.size w' w'') :
    Calls Tryd.prog 42 #[.slice A l.length c, .func (Fn.func 12) #[] #[]] w fun e w' => e = .returned (.int .i64 (countKs l : Nat)) ∧ Below w.heap.size w w' := by
  obtain ⟨C, hC⟩ : ∃ C, countKs l = C := ⟨_, rfl⟩
  rw [hC] at hB ⊢
  have HC := Lib.hid hC
  have HI := Lib.hid ih
  have HK := Lib.hid hl
  have HCB := Lib.hid hB
  clear hC ih hl hB
  go_enter Tryd.func42, Tryd.ntmps42
  go_wp2
  go_loopw [4, 9] (fun s i wr => ∃ k n : Nat, k ≤ l.length ∧ s = .int .i64 (n : Nat) ∧ i = .int .i64 k ∧ n + countKs (l.drop k) = C ∧ Below w.heap.size w wr) (fun s i _ => l.length - (intOf i).toNat)
  case atStart => exact ⟨0, 0, Nat.zero_le _, rfl, rfl, by have := HC.out; simp at this ⊢; omega, Below.refl _ _⟩
  case round =>
    obtain ⟨j, n, hj, rfl, rfl, hrest, hb⟩ := hrel
    have HRR := Lib.hid hrest
    have HB := Lib.hid hb
    clear hrest hb
    by_cases hlt : j < l.length
    · have hlt' : j < kp.length := by rw [HK.out.1]; exact hlt
      obtain ⟨b, off, rfl, g0⟩ := (HK.out.2 j hlt hlt').1.1.imp (below_imp HB.out)
      have hcl := HI.out j hlt hlt' wr HB.out
      have e1 := List.drop_eq_getElem_cons hlt
      obtain ⟨x, hx⟩ : ∃ x, l[j] = x := ⟨_, rfl⟩
      obtain ⟨q, hq⟩ : ∃ q, kp[j] = q := ⟨_, rfl⟩
      rw [hx, hq] at g0 hcl
      rw [hx] at e1
      have hst : countKs (l.drop j) = countIs x + countKs (l.drop (j + 1)) := by rw [e1, countKs_cons]
      obtain ⟨v, hv⟩ : ∃ v, countIs x = v := ⟨_, rfl⟩
      rw [hv] at hcl hst
      have hbd : n ≤ 1000000000 ∧ v ≤ 1000000000 ∧ n + v ≤ 1000000000 := by have := HRR.out; have := HCB.out; omega
      obtain ⟨hbd1, hbd2, hbd3⟩ := hbd
      have HCL := Lib.hid hcl
      have HST := Lib.hid hst

      clear hcl hst hv e1 hx hq
      go_wp2_with (go_at_call 12; refine HCL.out.mono ?_; rintro e w' ⟨rfl, hb2⟩)
      go_roundw
      case rel => exact ⟨j + 1, n + v, by omega, by go_num, by go_num, by have := HRR.out; have := HST.out; omega, HB.out.trans (hb2.mono HB.out.size)⟩
      case measure => simp [intOf]; omega
    · have HE : Hid (n = C) := Lib.hid (by have := HRR.out; rw [List.drop_eq_nil_of_le (by omega), countKs_nil] at this; omega)
      go_wp2
      go_ret
      exact ⟨ret_int (by rw [HE.out]), HB.out⟩
theorem countK_mem : ∀ {ks : List (List IT)} {l : List IT}, l ∈ ks → countIs l ≤ countKs ks
  | x :: xs, l, h => by
    rw [countKs_cons]
    rcases List.mem_cons.1 h with rfl | h
    · omega
    · have := countK_mem h; omega
theorem countL_mem : ∀ {l : List IT} {t : IT}, t ∈ l → countI t ≤ countIs l
  | x :: xs, t, h => by
    rw [countIs_cons]
    rcases List.mem_cons.1 h with rfl | h
    · omega
    · have := countL_mem h; omega
theorem countL_of (l : List IT) (A : Option Addr) (c : Nat) (w : World) (hcap : l.length ≤ 9223372036854775807) (hl : Its w A l) (hB : countIs l ≤ 1000000000)
    (ih : ∀ t ∈ l, ∀ w', Below w.heap.size w w' → Calls Tryd.prog 25 #[t.val] w' fun e w'' => e = .returned (.int .i64 (countI t : Nat)) ∧ Below w'.heap.size w' w'') :
    Calls Tryd.prog 12 #[.slice A l.length c] w fun e w' => e = .returned (.int .i64 (countIs l : Nat)) ∧ Below w.heap.size w w' := by
  have HC := Lib.hid (sumI_any l A c w hcap hl hB ih)
  clear ih hl
  go_enter Tryd.func12, Tryd.ntmps12
  go_wp2_with (go_at_call 24; refine HC.out.mono ?_; rintro e w1 ⟨rfl, b1⟩)
  go_ret
  exact ⟨rfl, b1⟩
set_option maxHeartbeats 4000000 in
theorem countI_any : ∀ (t : IT) (w : World), t.In w → countI t ≤ 1000000000 → Calls Tryd.prog 25 #[t.val] w fun e w' => e = .returned (.int .i64 (countI t : Nat)) ∧ Below w.heap.size w w' := by
  refine IT.ind fun k nm vr pA pc ps lo hi kA kc kp ks ih w hin hB => ?_
  rw [countI_mk] at hB ⊢
  have okk := okS_cap hin.ok.2.2.2.2.2.2
  obtain ⟨W, hW⟩ : ∃ W, W = w.alloc (.cells (csIm k nm vr pA ps.length pc lo hi kA ks.length kc) 42) := ⟨_, rfl⟩
  have bl : Below w.heap.size w W := by rw [hW]; exact (Below.refl _ _).alloc (Nat.le_refl _) _
  have hS := sumK_any ks kp kA kc W okk (hin.kds.below bl) (by omega) fun j h1 h2 w' hb2 =>
      countL_of ks[j] kp[j].1 kp[j].2 w' (okS_cap (hin.kids j h1 h2).1.2) (((hin.kds.below bl).below hb2).2 j h1 h2).2 (by have := countK_mem (List.getElem_mem h1); omega)
        fun t ht w'' hb3 => ih _ (List.getElem_mem _) t ht w'' (by
          obtain ⟨i, hi, rfl⟩ := List.getElem_of_mem ht
          exact (((((hin.kds.below bl).below hb2).2 j h1 h2).2 i hi).2).below hb3) (by have := countK_mem (List.getElem_mem h1); have := countL_mem ht; omega)
  have HS := Lib.hid hS
  have HW := Lib.hid hW
  have HB := Lib.hid bl
  obtain ⟨C, hC⟩ : ∃ C, countKs ks = C := ⟨_, rfl⟩
  rw [hC] at HS hB ⊢
  show Calls _ _ #[.agg #[.int .i64 k, .string (str nm), .string (str vr), .slice pA ps.length pc, .int .i64 lo, .int .i64 hi, .slice kA ks.length kc]] _ _
  clear hS hW bl ih hin hC
  go_enter Tryd.func25, Tryd.ntmps25
  go_wp2_with (go_at_call 42; rw [← HW.out]; refine HS.out.mono ?_; rintro e w1 ⟨rfl, b1⟩)
  go_ret
  exact ⟨ret_int (by omega), HB.out.trans (b1.mono HB.out.size)⟩
theorem countL_any (l : List IT) (A : Option Addr) (c : Nat) (w : World) (hcap : l.length ≤ 9223372036854775807) (hl : Its w A l) (hB : countIs l ≤ 1000000000) :
    Calls Tryd.prog 12 #[.slice A l.length c] w fun e w' => e = .returned (.int .i64 (countIs l : Nat)) ∧ Below w.heap.size w w' :=
  countL_of l A c w hcap hl hB fun t ht w' hb => by
    have h1 := countL_mem ht
    obtain ⟨i, hi, rfl⟩ := List.getElem_of_mem ht
    exact countI_any _ w' ((hl i hi).2.below hb) (by omega)
end Go.Proofs.YtbdfehgofnomhaaDoor
/- Layer 9: deep. -/
namespace Go.Proofs.YtbdfehgofnomhaaDoor
open Go.RowKit
set_option linter.unusedVariables false

/-- How deep the deepest of these is. -/
def mostI : List IT → Nat
  | [] => 0
  | x :: xs => max (deepI x) (mostI xs)
theorem mostI_nil : mostI [] = 0 := rfl
theorem mostI_cons (x : IT) (xs : List IT) : mostI (x :: xs) = max (deepI x) (mostI xs) := rfl
theorem deepIs_most : ∀ l : List IT, deepIs l = if l.length = 0 then 0 else 1 + mostI l
  | [] => by rw [deepIs_nil]; rfl
  | [x] => by rw [deepIs_cons, deepIs_nil, mostI_cons, mostI_nil]; simp
  | x :: y :: ys => by
    have := deepIs_most (y :: ys)
    rw [deepIs_cons, mostI_cons, this, if_neg (by simp), if_neg (by simp)]
    omega
set_option maxHeartbeats 4000000 in
theorem mostI_any (l : List IT) (A : Option Addr) (c : Nat) (w : World) (hcap : l.length ≤ 9223372036854775807) (hl : Its w A l) (hB : mostI l ≤ 1000000000)
    (ih : ∀ t ∈ l, ∀ w', Below w.heap.size w w' → Calls Tryd.prog 29 #[t.val] w' fun e w'' => e = .returned (.int .i64 (deepI t : Nat)) ∧ Below w'.heap.size w' w'') :
    Calls Tryd.prog 28 #[.slice A l.length c, .func (Fn.func 29) #[] #[]] w fun e w' => e = .returned (.int .i64 (mostI l : Nat)) ∧ Below w.heap.size w w' := by
  obtain ⟨C, hC⟩ : ∃ C, mostI l = C := ⟨_, rfl⟩
  rw [hC] at hB ⊢
  have HC := Lib.hid hC
  have HI := Lib.hid ih
  have HK := Lib.hid hl
  have HCB := Lib.hid hB
  clear hC ih hl hB
  go_enter Tryd.func28, Tryd.ntmps28
  go_wp2
  go_loopw [4, 9] (fun s i wr => ∃ k n : Nat, k ≤ l.length ∧ s = .int .i64 (n : Nat) ∧ i = .int .i64 k ∧ max n (mostI (l.drop k)) = C ∧ Below w.heap.size w wr) (fun s i _ => l.length - (intOf i).toNat)
  case atStart => exact ⟨0, 0, Nat.zero_le _, rfl, rfl, by have := HC.out; simp at this ⊢; omega, Below.refl _ _⟩
  case round =>
    obtain ⟨j, n, hj, rfl, rfl, hrest, hb⟩ := hrel
    have HRR := Lib.hid hrest
    have HB := Lib.hid hb
    clear hrest hb
    by_cases hlt : j < l.length
    · obtain ⟨⟨b, off, rfl, g0, g1, g2, g3, g4, g5, g6⟩, hkin⟩ := (HK.out j hlt).imp (fun h => h.below HB.out) (fun h => h.below HB.out)
      have e1 := List.drop_eq_getElem_cons hlt
      obtain ⟨x, hx⟩ : ∃ x, l[j] = x := ⟨_, rfl⟩
      have hmem : x ∈ l := by rw [← hx]; exact List.getElem_mem _
      rw [hx] at g0 g1 g2 g3 g4 g5 g6 e1
      obtain ⟨W, hW⟩ : ∃ W, W = wr.alloc (.cells #[.int .i64 x.k, .string (str x.nm), .string (str x.vr), .slice x.pA x.ps.length x.pc, .int .i64 x.lo, .int .i64 x.hi, .slice x.kA x.ks.length x.kc] 42) := ⟨_, rfl⟩
      have bl : Below wr.heap.size wr W := by rw [hW]; exact (Below.refl _ _).alloc (Nat.le_refl _) _
      have bt := HB.out.trans (bl.mono HB.out.size)
      have hcl := HI.out x hmem W bt
      rw [show x.val = Value.agg #[.int .i64 x.k, .string (str x.nm), .string (str x.vr), .slice x.pA x.ps.length x.pc, .int .i64 x.lo, .int .i64 x.hi, .slice x.kA x.ks.length x.kc] from rfl] at hcl
      have hst : mostI (l.drop j) = max (deepI x) (mostI (l.drop (j + 1))) := by rw [e1, mostI_cons]
      obtain ⟨v, hv⟩ : ∃ v, deepI x = v := ⟨_, rfl⟩
      rw [hv] at hcl hst
      have hbd : n ≤ 1000000000 ∧ v ≤ 1000000000 ∧ v ≤ 1000000000 := by have := HRR.out; have := HCB.out; omega
      obtain ⟨hbd1, hbd2, hbd3⟩ := hbd
      have HCL := Lib.hid hcl
      have HST := Lib.hid hst
      have HW := Lib.hid hW
      have HBT := Lib.hid bt
      clear hcl hst hv e1 hW bt bl hkin hx hmem
      rcases Nat.le_total n v with hm | hm
      · have hmx : (if (n : Int) < (v : Int) then (v : Int) else n) = v := by split <;> omega
        go_wp2_with (go_at_call 29; rw [← HW.out]; refine HCL.out.mono ?_; rintro e w' ⟨rfl, hb2⟩)
        go_roundw
        case rel => exact ⟨j + 1, v, by omega, by first | go_num | (simp; omega), by go_num, by have := HRR.out; have := HST.out; omega, HBT.out.trans (hb2.mono HBT.out.size)⟩
        case measure => simp [intOf]; omega
      · have hmx : (if (n : Int) < (v : Int) then (v : Int) else n) = n := by split <;> omega
        go_wp2_with (go_at_call 29; rw [← HW.out]; refine HCL.out.mono ?_; rintro e w' ⟨rfl, hb2⟩)
        go_roundw
        case rel => exact ⟨j + 1, n, by omega, by first | go_num | (simp; omega), by go_num, by have := HRR.out; have := HST.out; omega, HBT.out.trans (hb2.mono HBT.out.size)⟩
        case measure => simp [intOf]; omega
    · have HE : Hid (n = C) := Lib.hid (by have := HRR.out; rw [List.drop_eq_nil_of_le (by omega), mostI_nil] at this; omega)
      go_wp2
      go_ret
      exact ⟨ret_int (by rw [HE.out]), HB.out⟩
set_option maxHeartbeats 4000000 in
theorem mostK_any (l : List (List IT)) (kp : List (Option Addr × Nat)) (A : Option Addr) (c : Nat) (w : World) (hcap : l.length ≤ 9223372036854775807) (hl : Kds w A l kp) (hB : deepKs l ≤ 1000000000)
    (ih : ∀ j (h : j < l.length) (h' : j < kp.length), ∀ w', Below w.heap.size w w' → Calls Tryd.prog 15 #[.slice kp[j].1 l[j].length kp[j].2] w' fun e w'' => e = .returned (.int .i64 (deepIs l[j] : Nat)) ∧ Below w'.heap.size w' w'') :
    Calls Tryd.prog 46 #[.slice A l.length c, .func (Fn.func 15) #[] #[]] w fun e w' => e = .returned (.int .i64 (deepKs l : Nat)) ∧ Below w.heap.size w w' := by
  obtain ⟨C, hC⟩ : ∃ C, deepKs l = C := ⟨_, rfl⟩
  rw [hC] at hB ⊢
  have HC := Lib.hid hC
  have HI := Lib.hid ih
  have HK := Lib.hid hl
  have HCB := Lib.hid hB
  clear hC ih hl hB
  go_enter Tryd.func46, Tryd.ntmps46
  go_wp2
  go_loopw [4, 9] (fun s i wr => ∃ k n : Nat, k ≤ l.length ∧ s = .int .i64 (n : Nat) ∧ i = .int .i64 k ∧ max n (deepKs (l.drop k)) = C ∧ Below w.heap.size w wr) (fun s i _ => l.length - (intOf i).toNat)
  case atStart => exact ⟨0, 0, Nat.zero_le _, rfl, rfl, by have := HC.out; simp at this ⊢; omega, Below.refl _ _⟩
  case round =>
    obtain ⟨j, n, hj, rfl, rfl, hrest, hb⟩ := hrel
    have HRR := Lib.hid hrest
    have HB := Lib.hid hb
    clear hrest hb
    by_cases hlt : j < l.length
    · have hlt' : j < kp.length := by rw [HK.out.1]; exact hlt
      obtain ⟨b, off, rfl, g0⟩ := (HK.out.2 j hlt hlt').1.1.imp (below_imp HB.out)
      have hcl := HI.out j hlt hlt' wr HB.out
      have e1 := List.drop_eq_getElem_cons hlt
      obtain ⟨x, hx⟩ : ∃ x, l[j] = x := ⟨_, rfl⟩
      obtain ⟨q, hq⟩ : ∃ q, kp[j] = q := ⟨_, rfl⟩
      rw [hx, hq] at g0 hcl
      rw [hx] at e1
      have hst : deepKs (l.drop j) = max (deepIs x) (deepKs (l.drop (j + 1))) := by rw [e1, deepKs_cons]
      obtain ⟨v, hv⟩ : ∃ v, deepIs x = v := ⟨_, rfl⟩
      rw [hv] at hcl hst
      have hbd : n ≤ 1000000000 ∧ v ≤ 1000000000 ∧ v ≤ 1000000000 := by have := HRR.out; have := HCB.out; omega
      obtain ⟨hbd1, hbd2, hbd3⟩ := hbd
      have HCL := Lib.hid hcl
      have HST := Lib.hid hst

      clear hcl hst hv e1 hx hq
      rcases Nat.le_total n v with hm | hm
      · have hmx : (if (n : Int) < (v : Int) then (v : Int) else n) = v := by split <;> omega
        go_wp2_with (go_at_call 15; refine HCL.out.mono ?_; rintro e w' ⟨rfl, hb2⟩)
        go_roundw
        case rel => exact ⟨j + 1, v, by omega, by first | go_num | (simp; omega), by go_num, by have := HRR.out; have := HST.out; omega, HB.out.trans (hb2.mono HB.out.size)⟩
        case measure => simp [intOf]; omega
      · have hmx : (if (n : Int) < (v : Int) then (v : Int) else n) = n := by split <;> omega
        go_wp2_with (go_at_call 15; refine HCL.out.mono ?_; rintro e w' ⟨rfl, hb2⟩)
        go_roundw
        case rel => exact ⟨j + 1, n, by omega, by first | go_num | (simp; omega), by go_num, by have := HRR.out; have := HST.out; omega, HB.out.trans (hb2.mono HB.out.size)⟩
        case measure => simp [intOf]; omega
    · have HE : Hid (n = C) := Lib.hid (by have := HRR.out; rw [List.drop_eq_nil_of_le (by omega), deepKs_nil] at this; omega)
      go_wp2
      go_ret
      exact ⟨ret_int (by rw [HE.out]), HB.out⟩
theorem deepK_mem : ∀ {ks : List (List IT)} {l : List IT}, l ∈ ks → deepIs l ≤ deepKs ks
  | x :: xs, l, h => by
    rw [deepKs_cons]
    rcases List.mem_cons.1 h with rfl | h
    · omega
    · have := deepK_mem h; omega
theorem mostL_mem : ∀ {l : List IT} {t : IT}, t ∈ l → deepI t ≤ mostI l
  | x :: xs, t, h => by
    rw [mostI_cons]
    rcases List.mem_cons.1 h with rfl | h
    · omega
    · have := mostL_mem h; omega
theorem most_le (l : List IT) : mostI l ≤ deepIs l := by
  rw [deepIs_most]
  split
  · rename_i h; rw [List.length_eq_zero_iff.1 h]; exact Nat.le_refl _
  · omega
theorem deepL_of (l : List IT) (A : Option Addr) (c : Nat) (w : World) (hcap : l.length ≤ 9223372036854775807) (hl : Its w A l) (hB : deepIs l ≤ 1000000000)
    (ih : ∀ t ∈ l, ∀ w', Below w.heap.size w w' → Calls Tryd.prog 29 #[t.val] w' fun e w'' => e = .returned (.int .i64 (deepI t : Nat)) ∧ Below w'.heap.size w' w'') :
    Calls Tryd.prog 15 #[.slice A l.length c] w fun e w' => e = .returned (.int .i64 (deepIs l : Nat)) ∧ Below w.heap.size w w' := by
  have hm := most_le l
  have HC := Lib.hid (mostI_any l A c w hcap hl (by omega) ih)
  obtain ⟨M, hM⟩ : ∃ M, mostI l = M := ⟨_, rfl⟩
  rw [hM] at HC hm
  have hd := deepIs_most l
  rw [hM] at hd
  obtain ⟨m, hm2⟩ : ∃ m, l.length = m := ⟨_, rfl⟩
  rw [hm2] at hd HC ⊢
  obtain ⟨R, hR⟩ : ∃ R, deepIs l = R := ⟨_, rfl⟩
  rw [hR] at hd hB hm ⊢
  by_cases h0 : m = 0
  · rw [if_pos h0] at hd
    subst hd
    have d0 : ((m : Int) == 0) = true := by simp; omega
    clear ih hl
    go_enter Tryd.func15, Tryd.ntmps15
    go_wp2
    go_ret
    exact ⟨rfl, Below.refl _ _⟩
  · rw [if_neg h0] at hd
    have HD := Lib.hid hd
    have d0 : ((m : Int) == 0) = false := by simp; omega
    have hM1 : M ≤ 1000000000 := by omega
    clear ih hl hd
    go_enter Tryd.func15, Tryd.ntmps15
    go_wp2_with (go_at_call 28; refine HC.out.mono ?_; rintro e w1 ⟨rfl, b1⟩)
    go_ret
    exact ⟨ret_int (by rw [HD.out]; omega), b1⟩
set_option maxHeartbeats 4000000 in
theorem deepI_any : ∀ (t : IT) (w : World), t.In w → deepI t ≤ 1000000000 → Calls Tryd.prog 29 #[t.val] w fun e w' => e = .returned (.int .i64 (deepI t : Nat)) ∧ Below w.heap.size w w' := by
  refine IT.ind fun k nm vr pA pc ps lo hi kA kc kp ks ih w hin hB => ?_
  rw [deepI_mk] at hB ⊢
  have okk := okS_cap hin.ok.2.2.2.2.2.2
  obtain ⟨W, hW⟩ : ∃ W, W = w.alloc (.cells (csIm k nm vr pA ps.length pc lo hi kA ks.length kc) 42) := ⟨_, rfl⟩
  have bl : Below w.heap.size w W := by rw [hW]; exact (Below.refl _ _).alloc (Nat.le_refl _) _
  have hS := mostK_any ks kp kA kc W okk (hin.kds.below bl) (by omega) fun j h1 h2 w' hb2 =>
      deepL_of ks[j] kp[j].1 kp[j].2 w' (okS_cap (hin.kids j h1 h2).1.2) (((hin.kds.below bl).below hb2).2 j h1 h2).2 (by have := deepK_mem (List.getElem_mem h1); omega)
        fun t ht w'' hb3 => ih _ (List.getElem_mem _) t ht w'' (by
          obtain ⟨i, hi, rfl⟩ := List.getElem_of_mem ht
          exact (((((hin.kds.below bl).below hb2).2 j h1 h2).2 i hi).2).below hb3) (by have := deepK_mem (List.getElem_mem h1); have := mostL_mem ht; have := most_le ks[j]; omega)
  have HS := Lib.hid hS
  have HW := Lib.hid hW
  have HB := Lib.hid bl
  obtain ⟨C, hC⟩ : ∃ C, deepKs ks = C := ⟨_, rfl⟩
  rw [hC] at HS hB ⊢
  show Calls _ _ #[.agg #[.int .i64 k, .string (str nm), .string (str vr), .slice pA ps.length pc, .int .i64 lo, .int .i64 hi, .slice kA ks.length kc]] _ _
  clear hS hW bl ih hin hC
  go_enter Tryd.func29, Tryd.ntmps29
  go_wp2_with (go_at_call 46; rw [← HW.out]; refine HS.out.mono ?_; rintro e w1 ⟨rfl, b1⟩)
  go_ret
  exact ⟨rfl, HB.out.trans (b1.mono HB.out.size)⟩
theorem deepL_any (l : List IT) (A : Option Addr) (c : Nat) (w : World) (hcap : l.length ≤ 9223372036854775807) (hl : Its w A l) (hB : deepIs l ≤ 1000000000) :
    Calls Tryd.prog 15 #[.slice A l.length c] w fun e w' => e = .returned (.int .i64 (deepIs l : Nat)) ∧ Below w.heap.size w w' :=
  deepL_of l A c w hcap hl hB fun t ht w' hb => by
    have h1 := mostL_mem ht
    have h2 := most_le l
    obtain ⟨i, hi, rfl⟩ := List.getElem_of_mem ht
    exact deepI_any _ w' ((hl i hi).2.below hb) (by omega)
end Go.Proofs.YtbdfehgofnomhaaDoor
