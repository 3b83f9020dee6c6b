/- Layer 9: right. -/
import Derived.Test.YtbdfehgofnomhaaDoorPaAll
namespace Go.Proofs.YtbdfehgofnomhaaDoor
open Go.RowKit
set_option linter.unusedVariables false

/-- Has it names and at most one predicate, that is right, and no Kids? -/
def nameE (nm vr : Nm) (ps : List ET) (km : Nat) : Bool := nameB nm && nameB vr && decide (ps.length ≤ 1) && ps.all rightT && decide (km = 0)
/-- Has it Kids alone? -/
def kidsE (nm vr : Nm) (pm : Nat) (lo hi : Int) : Bool := decide (nm = [] ∧ vr = [] ∧ pm = 0 ∧ lo = 0 ∧ hi = 0)
set_option maxHeartbeats 4000000 in
theorem kidsE_any (k : Int) (nm vr : Nm) (pA : Option Addr) (pm pc : Nat) (lo hi : Int) (kA : Option Addr) (km kc : Nat) (w : World) :
    Calls Tryd.prog 44 #[.agg #[.int .i64 k, .string (str nm), .string (str vr), .slice pA pm pc, .int .i64 lo, .int .i64 hi, .slice kA km kc]] w fun e w' => e = .returned (.bool (kidsE nm vr pm lo hi)) ∧ Below w.heap.size w w' := by
  obtain ⟨R, hR⟩ : ∃ R, kidsE nm vr pm lo hi = R := ⟨_, rfl⟩
  rw [hR]
  have bl : ∀ o, Below w.heap.size w (w.alloc o) := fun o => (Below.refl _ _).alloc (Nat.le_refl _) _
  have HR := Lib.hid hR
  have HB := Lib.hid bl
  have e1 := str_toList nm
  have e2 := str_toList vr
  clear hR bl
  go_enter Tryd.func44, Tryd.ntmps44
  go_wp2
  all_goals go_ret
  all_goals refine ⟨ret_bool ?_, HB.out _⟩
  all_goals (rw [← HR.out, kidsE]; clear HR HB; first | (simp_all; done) | (simp_all; rw [Bool.eq_iff_iff]; simp; done) | (simp_all; rw [Bool.eq_iff_iff]; simp; omega))
set_option maxHeartbeats 4000000 in
theorem nameE_any (k : Int) (nm vr : Nm) (pA : Option Addr) (pc : Nat) (ps : List ET) (lo hi : Int) (kA : Option Addr) (km kc : Nat) (w : World) (hn : nm.length ≤ 140737488355328) (hv : vr.length ≤ 140737488355328) (hcap : ps.length ≤ 9223372036854775807) (hp : Ets w pA ps) (hT : Tabs8 w) :
    Calls Tryd.prog 43 #[.agg #[.int .i64 k, .string (str nm), .string (str vr), .slice pA ps.length pc, .int .i64 lo, .int .i64 hi, .slice kA km kc]] w fun e w' => e = .returned (.bool (nameE nm vr ps km)) ∧ Below w.heap.size w w' := by
  obtain ⟨R, hR⟩ : ∃ R, nameE nm vr ps km = R := ⟨_, rfl⟩
  rw [hR]
  unfold nameE at hR
  obtain ⟨W, hW⟩ : ∃ W, W = w.alloc (.cells #[.int .i64 k, .string (str nm), .string (str vr), .slice pA ps.length pc, .int .i64 lo, .int .i64 hi, .slice kA km kc] 42) := ⟨_, rfl⟩
  have hx : Has W w.heap.size 42 #[.int .i64 k, .string (str nm), .string (str vr), .slice pA ps.length pc, .int .i64 lo, .int .i64 hi, .slice kA km kc] := by rw [hW]; exact heap_alloc_new w _
  have bl : Below w.heap.size w W := by rw [hW]; exact (Below.refl _ _).alloc (Nat.le_refl _) _
  have HN1 := Lib.hid (isName_any nm W (by omega) (hT.below bl))
  have HW := Lib.hid hW
  have HX := Lib.hid hx
  have HB := Lib.hid bl
  have HR := Lib.hid hR
  have HT := Lib.hid hT
  have HP := Lib.hid hp
  clear hW hx bl hR hT hp
  cases c1 : nameB nm with
  | false =>
    rw [c1] at HR HN1
    go_enter Tryd.func43, Tryd.ntmps43
    go_wp2_with (go_at_call 19; rw [← HW.out]; refine HN1.out.mono ?_; rintro e w1 ⟨rfl, b1⟩)
    go_ret
    exact ⟨ret_bool (by rw [← HR.out]; simp), HB.out.trans (b1.mono HB.out.size)⟩
  | true =>
    rw [c1] at HR HN1
    go_enter Tryd.func43, Tryd.ntmps43
    go_wp2_with fail
    rw [← HW.out]
    refine HN1.out.mono ?_
    rintro e w1 ⟨rfl, b1⟩
    have HB1 := Lib.hid (HB.out.trans (b1.mono HB.out.size))
    have HX1 := Lib.hid (HX.out.below b1 HX.out.lt)
    have HN2 := Lib.hid (isName_any vr w1 (by omega) (HT.out.below HB1.out))
    obtain ⟨y0, y1, y2, y3, y4, y5, y6⟩ := seven_has HX1.out
    clear b1 HX HB
    cases c2 : nameB vr with
    | false =>
      rw [c2] at HR HN2
      go_wp2_with (go_at_call 19; refine HN2.out.mono ?_; rintro e w2 ⟨rfl, b2⟩)
      go_ret
      exact ⟨ret_bool (by rw [← HR.out]; simp), HB1.out.trans (b2.mono HB1.out.size)⟩
    | true =>
      rw [c2] at HR HN2
      go_wp2_with fail
      refine HN2.out.mono ?_
      rintro e w2 ⟨rfl, b2⟩
      have HB2 := Lib.hid (HB1.out.trans (b2.mono HB1.out.size))
      have HX2 := Lib.hid (HX1.out.below b2 HX1.out.lt)
      have HE := Lib.hid (allE_any ps pA pc w2 hcap (HP.out.below HB2.out) (HT.out.below HB2.out))
      clear y0 y1 y2 y3 y4 y5 y6 b2
      obtain ⟨y0, y1, y2, y3, y4, y5, y6⟩ := seven_has HX2.out
      clear HX1 HB1
      by_cases c3 : ps.length ≤ 1
      · have dc3 : decide ((ps.length : Int) ≤ 1) = true := by simp; omega
        cases c4 : ps.all rightT with
        | false =>
          rw [c4] at HR HE
          go_wp2_with (go_at_call 62; refine HE.out.mono ?_; rintro e w3 ⟨rfl, b3⟩)
          go_ret
          exact ⟨ret_bool (by rw [← HR.out]; simp), HB2.out.trans (b3.mono HB2.out.size)⟩
        | true =>
          rw [c4] at HR HE
          go_wp2_with fail
          refine HE.out.mono ?_
          rintro e w3 ⟨rfl, b3⟩
          have HX3 := Lib.hid (HX2.out.below b3 HX2.out.lt)
          clear y0 y1 y2 y3 y4 y5 y6
          obtain ⟨y0, y1, y2, y3, y4, y5, y6⟩ := seven_has HX3.out
          go_wp2_with fail
          go_ret
          refine ⟨ret_bool ?_, HB2.out.trans (b3.mono HB2.out.size)⟩
          rw [← HR.out, decide_eq_true c3, Bool.eq_iff_iff]; simp; try omega
      · have dc3 : decide ((ps.length : Int) ≤ 1) = false := by simp; omega
        go_wp2_with fail
        go_ret
        exact ⟨ret_bool (by rw [← HR.out, decide_eq_false c3]; simp), HB2.out⟩
/-- RightItems asks all. -/
theorem rightIs_of (l : List IT) (A : Option Addr) (c : Nat) (w : World) (hcap : l.length ≤ 9223372036854775807) (hl : Its w A l)
    (ih : ∀ t ∈ l, ∀ w', Below w.heap.size w w' → Calls Tryd.prog 27 #[t.val] w' fun e w'' => e = .returned (.bool (rightI t)) ∧ Below w'.heap.size w' w'') :
    Calls Tryd.prog 14 #[.slice A l.length c] w fun e w' => e = .returned (.bool (rightIs l)) ∧ Below w.heap.size w w' := by
  by_cases h0 : l.length = 0
  · have HE : Hid (rightIs l = false) := Lib.hid (by rw [List.length_eq_zero_iff.1 h0]; rfl)
    rw [HE.out, h0]
    clear ih hl
    go_enter Tryd.func14, Tryd.ntmps14
    go_wp2
    go_ret
    exact ⟨rfl, Below.refl _ _⟩
  · have HC := Lib.hid (allI_any l A c w hcap hl ih)
    obtain ⟨R, hR⟩ : ∃ R, rightLs l = R := ⟨_, rfl⟩
    have HE : Hid (rightIs l = R) := Lib.hid (by unfold rightIs; rw [hR]; cases l with | nil => simp at h0 | cons => rfl)
    rw [hR] at HC
    rw [HE.out]
    have d0 : decide ((0 : Int) < (l.length : Int)) = true := by simp; omega
    have d1 : 0 < l.length := by omega
    obtain ⟨m, hm⟩ : ∃ m, l.length = m := ⟨_, rfl⟩
    rw [hm] at HC d0 d1 ⊢
    clear ih hl hR h0 hm
    go_enter Tryd.func14, Tryd.ntmps14
    go_wp2_with (go_at_call 26; refine HC.out.mono ?_; rintro e w1 ⟨rfl, b1⟩)
    go_ret
    exact ⟨rfl, b1⟩
theorem rightI_named {k : Int} {nm vr : Nm} {pA : Option Addr} {pc : Nat} {ps : List ET} {lo hi : Int} {kA : Option Addr} {kc : Nat} {kp : List (Option Addr × Nat)} {ks : List (List IT)} (h : k = 0 ∨ k = 2) : rightI (.mk k nm vr pA pc ps lo hi kA kc kp ks) = (nameE nm vr ps ks.length && decide (lo = 0) && decide (hi = 0)) := by
  rw [rightI, if_neg (by omega), nameE, Bool.eq_iff_iff]
  rcases h with rfl | rfl <;> (simp; try grind)
theorem rightI_times {nm vr : Nm} {pA : Option Addr} {pc : Nat} {ps : List ET} {lo hi : Int} {kA : Option Addr} {kc : Nat} {kp : List (Option Addr × Nat)} {ks : List (List IT)} : rightI (.mk 1 nm vr pA pc ps lo hi kA kc kp ks) = (nameE nm vr ps ks.length && decide (1 ≤ lo) && decide (lo ≤ hi) && decide (hi ≤ 4)) := by
  rw [rightI, if_neg (by omega), nameE, Bool.eq_iff_iff]
  simp; try grind
theorem rightI_choice {nm vr : Nm} {pA : Option Addr} {pc : Nat} {ps : List ET} {lo hi : Int} {kA : Option Addr} {kc : Nat} {kp : List (Option Addr × Nat)} {ks : List (List IT)} : rightI (.mk 3 nm vr pA pc ps lo hi kA kc kp ks) = (kidsE nm vr ps.length lo hi && decide (2 ≤ ks.length) && rightKs ks) := by
  rw [rightI, if_pos rfl, kidsE, Bool.eq_iff_iff]
  simp; try grind
theorem rightI_none {k : Int} {nm vr : Nm} {pA : Option Addr} {pc : Nat} {ps : List ET} {lo hi : Int} {kA : Option Addr} {kc : Nat} {kp : List (Option Addr × Nat)} {ks : List (List IT)} (h0 : k ≠ 0) (h1 : k ≠ 1) (h2 : k ≠ 2) (h3 : k ≠ 3) : rightI (.mk k nm vr pA pc ps lo hi kA kc kp ks) = false := by
  rw [rightI, if_neg h3]
  simp [h0, h1, h2]
set_option maxHeartbeats 8000000 in
theorem rightI_any : ∀ (t : IT) (w : World), t.In w → Tabs8 w → Calls Tryd.prog 27 #[t.val] w fun e w' => e = .returned (.bool (rightI t)) ∧ Below w.heap.size w w' := by
  refine IT.ind fun k nm vr pA pc ps lo hi kA kc kp ks ih w hin hT => ?_
  obtain ⟨ok1, ok2, ok3, okn, okv, okp, okk⟩ := hin.ok
  have cp := okS_cap okp
  have ck := okS_cap okk
  obtain ⟨W, hW⟩ : ∃ W, W = w.alloc (.cells (csIm k nm vr pA ps.length pc lo hi kA ks.length kc) 42) := ⟨_, rfl⟩
  have hx : Has W w.heap.size 42 (csIm k nm vr pA ps.length pc lo hi kA ks.length kc) := by rw [hW]; exact heap_alloc_new w _
  have bl : Below w.heap.size w W := by rw [hW]; exact (Below.refl _ _).alloc (Nat.le_refl _) _
  have hne := nameE_any k nm vr pA pc ps lo hi kA ks.length kc W okn okv cp (fun j hj => ⟨(hin.preds j hj).1.below bl, (hin.preds j hj).2.below bl⟩) (hT.below bl)
  have hke := kidsE_any k nm vr pA ps.length pc lo hi kA ks.length kc W
  have hal : ∀ W', Below W.heap.size W W' → Calls Tryd.prog 45 #[.slice kA ks.length kc, .func (Fn.func 14) #[] #[]] W' fun e w' => e = .returned (.bool (rightKs ks)) ∧ Below W'.heap.size W' w' := fun W' hb =>
    allK_any ks kp kA kc W' ck ((hin.kds.below bl).below hb) fun j h1 h2 w' hb2 =>
      rightIs_of ks[j] kp[j].1 kp[j].2 w' (okS_cap (hin.kids j h1 h2).1.2) ((((hin.kds.below bl).below hb).below hb2).2 j h1 h2).2
        fun t ht w'' hb3 => ih _ (List.getElem_mem _) t ht w'' (by
          obtain ⟨i, hi, rfl⟩ := List.getElem_of_mem ht
          exact ((((((hin.kds.below bl).below hb).below hb2).2 j h1 h2).2 i hi).2).below hb3) ((((hT.below bl).below hb).below hb2).below hb3)
  have HW := Lib.hid hW
  have HX := Lib.hid hx
  have HB := Lib.hid bl
  have HNE := Lib.hid hne
  have HKE := Lib.hid hke
  have HAL := Lib.hid hal
  obtain ⟨R, hR⟩ : ∃ R, rightI (.mk k nm vr pA pc ps lo hi kA kc kp ks) = R := ⟨_, rfl⟩
  rw [hR]
  show Calls _ _ #[.agg #[.int .i64 k, .string (str nm), .string (str vr), .slice pA ps.length pc, .int .i64 lo, .int .i64 hi, .slice kA ks.length kc]] _ _
  obtain ⟨pm, hpm⟩ : ∃ pm, ps.length = pm := ⟨_, rfl⟩
  obtain ⟨km, hkm⟩ : ∃ km, ks.length = km := ⟨_, rfl⟩
  obtain ⟨ne, hnE⟩ : ∃ ne, nameE nm vr ps km = ne := ⟨_, rfl⟩
  obtain ⟨ke, hkE⟩ : ∃ ke, kidsE nm vr pm lo hi = ke := ⟨_, rfl⟩
  obtain ⟨ak, hak⟩ : ∃ ak, rightKs ks = ak := ⟨_, rfl⟩
  rw [hpm, hkm] at HW HX HNE HKE
  rw [hkm] at HAL ck
  rw [hpm, hkm]
  rw [hnE] at HNE
  rw [hkE] at HKE
  rw [hak] at HAL
  clear hW hx bl hne hke hal ih hin hT okp okk okn okv cp
  by_cases k0 : k = 0 ∨ k = 2
  · rw [rightI_named k0, hkm, hnE] at hR
    have HR := Lib.hid hR
    clear hR hpm hkm hnE hkE hak HKE HAL
    cases ne with
    | false =>
      rcases k0 with rfl | rfl
      all_goals
        go_enter Tryd.func27, Tryd.ntmps27
        go_wp2_with (go_at_call 43; rw [← HW.out]; refine HNE.out.mono ?_; rintro e w1 ⟨rfl, b1⟩)
        go_ret
        exact ⟨ret_bool (by rw [← HR.out]; simp), HB.out.trans (b1.mono HB.out.size)⟩
    | true =>
      rcases k0 with rfl | rfl
      all_goals
        go_enter Tryd.func27, Tryd.ntmps27
        go_wp2_with (go_at_call 43; rw [← HW.out]; refine HNE.out.mono ?_; rintro e w1 ⟨rfl, b1⟩; obtain ⟨y0, y1, y2, y3, y4, y5, y6⟩ := seven_has (HX.out.below b1 HX.out.lt))
        all_goals go_ret
        all_goals (refine ⟨ret_bool ?_, HB.out.trans (b1.mono HB.out.size)⟩; rw [← HR.out]; clear HR HB HX HW HNE; first | (simp_all; done) | (simp_all; rw [Bool.eq_iff_iff]; simp; done))
  by_cases k1 : k = 1
  · subst k1
    rw [rightI_times, hkm, hnE] at hR
    have HR := Lib.hid hR
    clear hR hpm hkm hnE hkE hak HKE HAL k0
    cases ne with
    | false =>
      go_enter Tryd.func27, Tryd.ntmps27
      go_wp2_with (go_at_call 43; rw [← HW.out]; refine HNE.out.mono ?_; rintro e w1 ⟨rfl, b1⟩)
      go_ret
      exact ⟨ret_bool (by rw [← HR.out]; simp), HB.out.trans (b1.mono HB.out.size)⟩
    | true =>
      go_enter Tryd.func27, Tryd.ntmps27
      go_wp2_with (go_at_call 43; rw [← HW.out]; refine HNE.out.mono ?_; rintro e w1 ⟨rfl, b1⟩; obtain ⟨y0, y1, y2, y3, y4, y5, y6⟩ := seven_has (HX.out.below b1 HX.out.lt))
      all_goals go_ret
      all_goals (refine ⟨ret_bool ?_, HB.out.trans (b1.mono HB.out.size)⟩; rw [← HR.out]; clear HR HB HX HW HNE; first | (simp_all; done) | (simp_all; omega) | (simp_all; intros; omega) | (simp_all; rw [Bool.eq_iff_iff]; simp; done) | (simp_all; rw [Bool.eq_iff_iff]; simp; omega))
  by_cases k3 : k = 3
  · subst k3
    have hR' := hR
    rw [rightI_choice, hkm] at hR
    rw [hpm, hkE] at hR
    rw [hak] at hR
    have HR := Lib.hid hR
    clear hR hR' hpm hkm hnE hkE hak HNE k0 k1
    cases ke with
    | false =>
      go_enter Tryd.func27, Tryd.ntmps27
      go_wp2_with (go_at_call 44; rw [← HW.out]; refine HKE.out.mono ?_; rintro e w1 ⟨rfl, b1⟩)
      go_ret
      exact ⟨ret_bool (by rw [← HR.out]; simp), HB.out.trans (b1.mono HB.out.size)⟩
    | true =>
      by_cases c2 : 2 ≤ km
      · have d2 : decide ((2 : Int) ≤ (km : Int)) = true := by simp; omega
        go_enter Tryd.func27, Tryd.ntmps27
        go_wp2_with (first | (go_at_call 44; rw [← HW.out]; refine HKE.out.mono ?_; rintro e w1 ⟨rfl, b1⟩; obtain ⟨y0, y1, y2, y3, y4, y5, y6⟩ := seven_has (HX.out.below b1 HX.out.lt)) | (go_at_call 45; refine (HAL.out _ b1).mono ?_; rintro e w2 ⟨rfl, b2⟩))
        go_ret
        exact ⟨ret_bool (by rw [← HR.out, decide_eq_true c2]; simp), HB.out.trans ((b1.trans (b2.mono b1.size)).mono HB.out.size)⟩
      · have d2 : decide ((2 : Int) ≤ (km : Int)) = false := by simp; omega
        go_enter Tryd.func27, Tryd.ntmps27
        go_wp2_with (first | (go_at_call 44; rw [← HW.out]; refine HKE.out.mono ?_; rintro e w1 ⟨rfl, b1⟩; obtain ⟨y0, y1, y2, y3, y4, y5, y6⟩ := seven_has (HX.out.below b1 HX.out.lt)))
        go_ret
        exact ⟨ret_bool (by rw [← HR.out, decide_eq_false c2]; simp), HB.out.trans (b1.mono HB.out.size)⟩
  · have k2 : k ≠ 2 := by omega
    have kk0 : k ≠ 0 := by omega
    have HR : Hid (R = false) := Lib.hid (by rw [← hR]; exact rightI_none kk0 k1 k2 k3)
    have d0 : (k == 0) = false := by simpa using kk0
    have d1 : (k == 1) = false := by simpa using k1
    have d2 : (k == 2) = false := by simpa using k2
    have d3 : (k == 3) = false := by simpa using k3
    clear hR hpm hkm hnE hkE hak HNE HKE HAL k0 k1 k2 k3 kk0 HX
    go_enter Tryd.func27, Tryd.ntmps27
    go_wp2_with fail
    go_ret
    exact ⟨ret_bool HR.out.symm, by rw [← HW.out]; exact HB.out⟩
theorem rightL_any (l : List IT) (A : Option Addr) (c : Nat) (w : World) (hcap : l.length ≤ 9223372036854775807) (hl : Its w A l) (hT : Tabs8 w) :
    Calls Tryd.prog 14 #[.slice A l.length c] w fun e w' => e = .returned (.bool (rightIs l)) ∧ Below w.heap.size w w' :=
  rightIs_of l A c w hcap hl fun t ht w' hb => by
    obtain ⟨i, hi, rfl⟩ := List.getElem_of_mem ht
    exact rightI_any _ w' ((hl i hi).2.below hb) (hT.below hb)
end Go.Proofs.YtbdfehgofnomhaaDoor
