/- Layer 9: putAll. -/
import Derived.Test.YtbdfehgofnomhaaDoorQMe
import Derived.Test.YtbdfehgofnomhaaDoorExPutWalk
import Derived.Test.YtbdfehgofnomhaaDoorQWa
namespace Go.Proofs.YtbdfehgofnomhaaDoor
open Go.RowKit
set_option linter.unusedVariables false

theorem box_okI {b q : Nat} {w w' : World} {cs : Array Value} (h : OK b w w') (hq : Has w q 42 cs) (hb : q ≠ b) : Has w' q 42 cs :=
  h q _ hq (by simpa using hb) (by rintro c fz e; cases e)
/-- What put does at an item. -/
def PutI (w0 : World) (B b : Nat) (t : IT) : Prop := ∀ (l : Nm) (w : World), PS w0 B b l w → l.length + (putI t).length ≤ 100000000 →
  Calls Tryd.prog 39 #[t.val, .pointer (some ⟨b, 0, none⟩)] w fun e w' => e = .returned (.tuple #[]) ∧ PS w0 B b (l ++ putI t) w' ∧ OK b w w'
def rstI (l : List IT) (k : Nat) : Nm := if k = 0 then putIs l else putTl (l.drop k)
def rstK (l : List (List IT)) (k : Nat) : Nm := if k = 0 then putKs l else putKt (l.drop k)
theorem rstI_end {l : List IT} {k : Nat} (h : l.length ≤ k) : rstI l k = [] := by
  unfold rstI
  split
  · rename_i e; subst e; rw [List.length_eq_zero_iff.1 (by omega : l.length = 0)]; rw [putIs]
  · rw [List.drop_eq_nil_of_le h, putTl_nil]
theorem rstK_end {l : List (List IT)} {k : Nat} (h : l.length ≤ k) : rstK l k = [] := by
  unfold rstK
  split
  · rename_i e; subst e; rw [List.length_eq_zero_iff.1 (by omega : l.length = 0)]; rw [putKs]
  · rw [List.drop_eq_nil_of_le h, putKt_nil]
theorem rstI_first {l : List IT} (h : 0 < l.length) : rstI l 0 = putI l[0] ++ rstI l 1 := by
  unfold rstI
  rw [if_pos rfl, if_neg (by omega)]
  match l, h with
  | x :: xs, _ => rw [putIs_cons]; rfl
theorem rstK_first {l : List (List IT)} (h : 0 < l.length) : rstK l 0 = putIs l[0] ++ rstK l 1 := by
  unfold rstK
  rw [if_pos rfl, if_neg (by omega)]
  match l, h with
  | x :: xs, _ => rw [putKs_cons]; rfl
theorem rstI_next {l : List IT} {k : Nat} (h0 : k ≠ 0) (h : k < l.length) : rstI l k = [32, 59, 32] ++ (putI l[k] ++ rstI l (k + 1)) := by
  unfold rstI
  rw [if_neg h0, if_neg (by omega), List.drop_eq_getElem_cons h, putTl_cons]
theorem rstK_next {l : List (List IT)} {k : Nat} (h0 : k ≠ 0) (h : k < l.length) : rstK l k = [32, 124, 32] ++ (putIs l[k] ++ rstK l (k + 1)) := by
  unfold rstK
  rw [if_neg h0, if_neg (by omega), List.drop_eq_getElem_cons h, putKt_cons]
set_option maxHeartbeats 8000000 in
theorem putAllI_any {w0 : World} {B b : Nat} (hB : w0.heap.size ≤ B) (l : List IT) (A : Option Addr) (c : Nat) (hcap : l.length ≤ 9223372036854775807) (hl : Its w0 A l)
    (ih : ∀ t ∈ l, PutI w0 B b t) (sep : Nm) (hsep : sep = [32, 59, 32]) (acc : Nm) (w : World) (hps : PS w0 B b acc w) (hlen : acc.length + (putIs l).length ≤ 100000000) :
    Calls Tryd.prog 38 #[.slice A l.length c, .string (str sep), .pointer (some ⟨b, 0, none⟩), .func (Fn.func 39) #[] #[]] w fun e w' => e = .returned (.tuple #[]) ∧ PS w0 B b (acc ++ putIs l) w' ∧ OK b w w' := by
  obtain ⟨T, hTT⟩ : ∃ T, acc ++ putIs l = T := ⟨_, rfl⟩
  have hTl : T.length ≤ 100000000 := by rw [← hTT]; simpa using hlen
  rw [hTT]
  have HT := Lib.hid hTT
  have HTL := Lib.hid hTl
  have HI := Lib.hid ih
  have HK := Lib.hid hl
  have HP := Lib.hid hps
  have HB := Lib.hid hB
  have HSEP := Lib.hid hsep
  clear hTT hTl ih hl hps hB hlen hsep
  go_enter Tryd.func38, Tryd.ntmps38
  go_wp2
  go_loopw [12] (fun i wr => ∃ (k : Nat) (t : Nm), k ≤ l.length ∧ i = .int .i64 k ∧ PS w0 B b t wr ∧ t ++ rstI l k = T ∧ OK b w wr) (fun i _ => l.length - (intOf i).toNat)
  case atStart => exact ⟨0, acc, Nat.zero_le _, rfl, HP.out, by rw [← HT.out]; rfl, ok_below (Below.refl _ _)⟩
  case round =>
    obtain ⟨j, t, hj, rfl, hps, hrest, hok⟩ := hrel
    have HRR := Lib.hid hrest
    have HPS := Lib.hid hps
    have HOK := Lib.hid hok
    clear hrest hps hok
    have htl : t.length ≤ 100000000 := by have := HRR.out; have := HTL.out; rw [← HRR.out] at this; simp at this; omega
    have HTT := Lib.hid htl
    clear htl
    by_cases hlt : j < l.length
    · obtain ⟨⟨b', off, rfl, g0, g1, g2, g3, g4, g5, g6⟩, hkin⟩ := HK.out j hlt
      have gg : ∀ (p : Addr) v, w0.cell? p = some v → wr.cell? p = some v := below_imp HPS.out.2.1
      replace g0 := gg _ _ g0
      replace g1 := gg _ _ g1
      replace g2 := gg _ _ g2
      replace g3 := gg _ _ g3
      replace g4 := gg _ _ g4
      replace g5 := gg _ _ g5
      replace g6 := gg _ _ g6
      clear gg hkin
      obtain ⟨x, hx⟩ : ∃ x, l[j] = x := ⟨_, rfl⟩
      have hmem : x ∈ l := by rw [← hx]; exact List.getElem_mem _
      rw [hx] at g0 g1 g2 g3 g4 g5 g6
      obtain ⟨W, hW⟩ : ∃ W, W = wr.alloc (.cells #[.int .i64 x.k, .string (str x.nm), .string (str x.vr), .slice x.pA x.ps.length x.pc, .int .i64 x.lo, .int .i64 x.hi, .slice x.kA x.ks.length x.kc] 42) := ⟨_, rfl⟩
      have bl : Below wr.heap.size wr W := by rw [hW]; exact (Below.refl _ _).alloc (Nat.le_refl _) _
      have hbx : Has W wr.heap.size 42 #[.int .i64 x.k, .string (str x.nm), .string (str x.vr), .slice x.pA x.ps.length x.pc, .int .i64 x.lo, .int .i64 x.hi, .slice x.kA x.ks.length x.kc] := by rw [hW]; exact heap_alloc_new wr _
      have pW := HPS.out.below bl
      have okW := HOK.out.trans (ok_below bl)
      have hib := HI.out x hmem
      have hval : x.val = Value.agg #[.int .i64 x.k, .string (str x.nm), .string (str x.vr), .slice x.pA x.ps.length x.pc, .int .i64 x.lo, .int .i64 x.hi, .slice x.kA x.ks.length x.kc] := rfl
      by_cases j0 : j = 0
      · have dj : decide ((0 : Int) < (j : Int)) = false := by simp; omega
        have dj2 : ¬ 0 < j := by omega
        have hst : T = (t ++ putI x) ++ rstI l (j + 1) := by
          have h0 := hlt
          rw [j0] at h0
          have hx0 : l[0] = x := by rw [← hx]; congr 1; exact j0.symm
          rw [← HRR.out, j0, rstI_first h0, hx0, List.append_assoc]
        have hcl := hib t W pW
        rw [hval] at hcl
        obtain ⟨v, hv⟩ : ∃ v, putI x = v := ⟨_, rfl⟩
        rw [hv] at hcl hst
        have HCL := Lib.hid (hcl (by have := HTL.out; rw [hst] at this; simp at this; omega))
        have HST := Lib.hid hst
        have HW := Lib.hid hW
        have HOKW := Lib.hid okW
        clear hcl hst hv hx j0 hW bl hbx pW okW hmem hib hval
        go_wp2_with (go_at_call 39; rw [← HW.out]; refine HCL.out.mono ?_; rintro e w' ⟨rfl, p2, o2⟩)
        go_roundw
        case rel => exact ⟨j + 1, t ++ v, by omega, by go_num, p2, HST.out.symm, HOKW.out.trans o2⟩
        case measure => simp [intOf]; omega
      · have dj : decide ((0 : Int) < (j : Int)) = true := by simp; omega
        have dj2 : 0 < j := by omega
        have hst : T = ((t ++ sep) ++ putI x) ++ rstI l (j + 1) := by rw [← HRR.out, rstI_next j0 hlt, hx, HSEP.out]; simp
        obtain ⟨v, hv⟩ : ∃ v, putI x = v := ⟨_, rfl⟩
        rw [hv] at hst
        have hl3 : t.length + sep.length + v.length ≤ 100000000 := by have := HTL.out; rw [hst] at this; simp at this; omega
        have HST := Lib.hid hst
        have HX := Lib.hid hx
        have HV := Lib.hid hv
        have HL3 := Lib.hid hl3
        have HW := Lib.hid hW
        have HOKW := Lib.hid okW
        have HPW := Lib.hid pW
        have HBX := Lib.hid hbx
        have HBN : Hid (wr.heap.size ≠ b) := Lib.hid (by have := bld_lt HPS.out.1; omega)
        obtain ⟨y0, y1, y2, y3, y4, y5, y6⟩ := seven_has hbx
        clear hst hv hx hl3 hW bl hbx pW okW hmem
        go_wp2_with fail
        rw [← HW.out]
        refine (ps_str (B := B) (b := b) HB.out sep HPW.out (by have := HTT.out; omega) (by have := HL3.out; omega)).mono ?_
        rintro e w1 ⟨rfl, p1, o1⟩
        have hcl := hib (t ++ sep) w1 p1
        rw [hval] at hcl
        rw [HV.out] at hcl
        have HCL := Lib.hid (hcl (by have := HL3.out; simp; omega))
        obtain ⟨z0, z1, z2, z3, z4, z5, z6⟩ := seven_has (box_okI o1 HBX.out HBN.out)
        clear y0 y1 y2 y3 y4 y5 y6 hib hval
        clear hcl
        go_wp2_with (go_at_call 39; refine HCL.out.mono ?_; rintro e w' ⟨rfl, p2, o2⟩)
        go_roundw
        case rel => exact ⟨j + 1, (t ++ sep) ++ v, by omega, by go_num, p2, HST.out.symm, (HOKW.out.trans o1).trans o2⟩
        case measure => simp [intOf]; omega
    · have HE : Hid (t = T) := Lib.hid (by have := HRR.out; rw [rstI_end (by omega)] at this; simpa using this)
      go_wp2
      go_end0
      exact ⟨rfl, by rw [← HE.out]; exact HPS.out, HOK.out⟩
set_option maxHeartbeats 8000000 in
theorem putAllK_any {w0 : World} {B b : Nat} (hB : w0.heap.size ≤ B) (l : List (List IT)) (kp : List (Option Addr × Nat)) (A : Option Addr) (c : Nat) (hcap : l.length ≤ 9223372036854775807) (hl : Kds w0 A l kp)
    (ih : ∀ j (h : j < l.length) (h2 : j < kp.length) (acc : Nm) (w : World), PS w0 B b acc w → acc.length + (putIs l[j]).length ≤ 100000000 → Calls Tryd.prog 20 #[.slice kp[j].1 l[j].length kp[j].2, .pointer (some ⟨b, 0, none⟩)] w fun e w' => e = .returned (.tuple #[]) ∧ PS w0 B b (acc ++ putIs l[j]) w' ∧ OK b w w') (sep : Nm) (hsep : sep = [32, 124, 32]) (acc : Nm) (w : World) (hps : PS w0 B b acc w) (hlen : acc.length + (putKs l).length ≤ 100000000) :
    Calls Tryd.prog 54 #[.slice A l.length c, .string (str sep), .pointer (some ⟨b, 0, none⟩), .func (Fn.func 20) #[] #[]] w fun e w' => e = .returned (.tuple #[]) ∧ PS w0 B b (acc ++ putKs l) w' ∧ OK b w w' := by
  obtain ⟨T, hTT⟩ : ∃ T, acc ++ putKs l = T := ⟨_, rfl⟩
  have hTl : T.length ≤ 100000000 := by rw [← hTT]; simpa using hlen
  rw [hTT]
  have HT := Lib.hid hTT
  have HTL := Lib.hid hTl
  have HI := Lib.hid ih
  have HK := Lib.hid hl
  have HP := Lib.hid hps
  have HB := Lib.hid hB
  have HSEP := Lib.hid hsep
  clear hTT hTl ih hl hps hB hlen hsep
  go_enter Tryd.func54, Tryd.ntmps54
  go_wp2
  go_loopw [12] (fun i wr => ∃ (k : Nat) (t : Nm), k ≤ l.length ∧ i = .int .i64 k ∧ PS w0 B b t wr ∧ t ++ rstK l k = T ∧ OK b w wr) (fun i _ => l.length - (intOf i).toNat)
  case atStart => exact ⟨0, acc, Nat.zero_le _, rfl, HP.out, by rw [← HT.out]; rfl, ok_below (Below.refl _ _)⟩
  case round =>
    obtain ⟨j, t, hj, rfl, hps, hrest, hok⟩ := hrel
    have HRR := Lib.hid hrest
    have HPS := Lib.hid hps
    have HOK := Lib.hid hok
    clear hrest hps hok
    have htl : t.length ≤ 100000000 := by have := HRR.out; have := HTL.out; rw [← HRR.out] at this; simp at this; omega
    have HTT := Lib.hid htl
    clear htl
    by_cases hlt : j < l.length
    · have hlt' : j < kp.length := by rw [HK.out.1]; exact hlt
      obtain ⟨b', off, rfl, g0⟩ := (HK.out.2 j hlt hlt').1.1.imp (below_imp HPS.out.2.1)
      have hib := HI.out j hlt hlt'
      obtain ⟨x, hx⟩ : ∃ x, l[j] = x := ⟨_, rfl⟩
      obtain ⟨q, hq⟩ : ∃ q, kp[j] = q := ⟨_, rfl⟩
      rw [hx, hq] at g0 hib
      by_cases j0 : j = 0
      · have dj : decide ((0 : Int) < (j : Int)) = false := by simp; omega
        have dj2 : ¬ 0 < j := by omega
        have hst : T = (t ++ putIs x) ++ rstK l (j + 1) := by
          have h0 := hlt
          rw [j0] at h0
          have hx0 : l[0] = x := by rw [← hx]; congr 1; exact j0.symm
          rw [← HRR.out, j0, rstK_first h0, hx0, List.append_assoc]
        have hcl := hib t wr HPS.out
        obtain ⟨v, hv⟩ : ∃ v, putIs x = v := ⟨_, rfl⟩
        rw [hv] at hcl hst
        have HCL := Lib.hid (hcl (by have := HTL.out; rw [hst] at this; simp at this; omega))
        have HST := Lib.hid hst
        clear hcl hst hv hx j0 hq hib
        go_wp2_with (go_at_call 20; refine HCL.out.mono ?_; rintro e w' ⟨rfl, p2, o2⟩)
        go_roundw
        case rel => exact ⟨j + 1, t ++ v, by omega, by go_num, p2, HST.out.symm, HOK.out.trans o2⟩
        case measure => simp [intOf]; omega
      · have dj : decide ((0 : Int) < (j : Int)) = true := by simp; omega
        have dj2 : 0 < j := by omega
        have hst : T = ((t ++ sep) ++ putIs x) ++ rstK l (j + 1) := by rw [← HRR.out, rstK_next j0 hlt, hx, HSEP.out]; simp
        obtain ⟨v, hv⟩ : ∃ v, putIs x = v := ⟨_, rfl⟩
        rw [hv] at hst
        have hl3 : t.length + sep.length + v.length ≤ 100000000 := by have := HTL.out; rw [hst] at this; simp at this; omega
        have HST := Lib.hid hst
        have HX := Lib.hid hx
        have HV := Lib.hid hv
        have HL3 := Lib.hid hl3
        clear hst hv hx hl3 hq
        go_wp2_with fail
        refine (ps_str (B := B) (b := b) HB.out sep HPS.out (by have := HTT.out; omega) (by have := HL3.out; omega)).mono ?_
        rintro e w1 ⟨rfl, p1, o1⟩
        have hcl := hib (t ++ sep) w1 p1
        rw [HV.out] at hcl
        have HCL := Lib.hid (hcl (by have := HL3.out; simp; omega))
        clear hib
        clear hcl
        go_wp2_with (go_at_call 20; refine HCL.out.mono ?_; rintro e w' ⟨rfl, p2, o2⟩)
        go_roundw
        case rel => exact ⟨j + 1, (t ++ sep) ++ v, by omega, by go_num, p2, HST.out.symm, (HOK.out.trans o1).trans o2⟩
        case measure => simp [intOf]; omega
    · have HE : Hid (t = T) := Lib.hid (by have := HRR.out; rw [rstK_end (by omega)] at this; simpa using this)
      go_wp2
      go_end0
      exact ⟨rfl, by rw [← HE.out]; exact HPS.out, HOK.out⟩
end Go.Proofs.YtbdfehgofnomhaaDoor
/- Layer 9: small numbers as digits. -/
namespace Go.Proofs.YtbdfehgofnomhaaDoor
open Go.RowKit
set_option linter.unusedVariables false

theorem small_any (n : Nat) (h0 : 1 ≤ n) (h1 : n ≤ 4) (w : World) : Calls Tryd.prog 58 #[.int .i64 n] w fun e w' => e = .returned (.string (str (Lib.itoa n))) ∧ w = w' := by
  have hc : n = 1 ∨ n = 2 ∨ n = 3 ∨ n = 4 := by omega
  rcases hc with rfl | rfl | rfl | rfl
  all_goals
    go_enter Tryd.func58, Tryd.ntmps58
    go_wp2
    go_ret
    exact ⟨by simp [Lib.itoa, Lib.decDigits, str]; try rfl, rfl⟩
theorem ifmt_any (n : Nat) (h0 : 1 ≤ n) (h1 : n ≤ 4) (w : World) : Calls Tryd.prog 41 #[.int .i64 n, .int .i64 10] w fun e w' => e = .returned (.string (str (Lib.itoa n))) ∧ w = w' := by
  have HC := Lib.hid (small_any n h0 h1)
  obtain ⟨r, hr⟩ : ∃ r, Lib.itoa n = r := ⟨_, rfl⟩
  rw [hr] at HC ⊢
  have d1 : decide ((0 : Int) ≤ (n : Int)) = true := by simp
  have d2 : decide ((n : Int) < 100) = true := by simp; omega
  clear hr
  go_enter Tryd.func41, Tryd.ntmps41
  go_wp2_with (go_at_call 58; refine (HC.out _).mono ?_; rintro e w1 ⟨rfl, rfl⟩)
  go_ret
  exact ⟨rfl, rfl⟩
theorem iitoa_any (n : Nat) (h0 : 1 ≤ n) (h1 : n ≤ 4) (w : World) : Calls Tryd.prog 66 #[.int .i64 n] w fun e w' => e = .returned (.string (str (Lib.itoa n))) ∧ w = w' := by
  have HC := Lib.hid (ifmt_any n h0 h1)
  obtain ⟨r, hr⟩ : ∃ r, Lib.itoa n = r := ⟨_, rfl⟩
  rw [hr] at HC ⊢
  clear hr
  go_enter Tryd.func66, Tryd.ntmps66
  go_wp2_with (go_at_call 41; refine (HC.out _).mono ?_; rintro e w1 ⟨rfl, rfl⟩)
  go_ret
  exact ⟨rfl, rfl⟩
theorem itoaN_any (n : Nat) (h0 : 1 ≤ n) (h1 : n ≤ 4) (w : World) : Calls Tryd.prog 55 #[.int .i64 n] w fun e w' => e = .returned (.string (str (Lib.itoa n))) ∧ w = w' := by
  have HC := Lib.hid (iitoa_any n h0 h1)
  obtain ⟨r, hr⟩ : ∃ r, Lib.itoa n = r := ⟨_, rfl⟩
  rw [hr] at HC ⊢
  clear hr
  go_enter Tryd.func55, Tryd.ntmps55
  go_wp2_with (go_at_call 66; refine (HC.out _).mono ?_; rintro e w1 ⟨rfl, rfl⟩)
  go_ret
  exact ⟨rfl, rfl⟩
/-- A number from 1 to 4, as its digits: nothing turns. -/
theorem itoa4_any (n : Int) (h0 : 1 ≤ n) (h1 : n ≤ 4) (w : World) : Calls Tryd.prog 55 #[.int .i64 n] w fun e w' => e = .returned (.string (str (Lib.itoa n))) ∧ w = w' := by
  obtain ⟨m, rfl⟩ : ∃ m : Nat, n = m := ⟨n.toNat, by omega⟩
  exact itoaN_any m (by omega) (by omega) w
end Go.Proofs.YtbdfehgofnomhaaDoor
/- Layer 9: put of a One. -/
namespace Go.Proofs.YtbdfehgofnomhaaDoor
open Go.RowKit
set_option linter.unusedVariables false

set_option maxHeartbeats 16000000 in
theorem putI_0 {w0 : World} {B b : Nat} (hB : w0.heap.size ≤ B) (hT : Tabs w0) (nm vr : Nm) (pA : Option Addr) (pc : Nat) (ps : List ET) (lo hi : Int) (kA : Option Addr) (kc : Nat) (kp : List (Option Addr × Nat)) (ks : List (List IT)) (hin : IT.In w0 (.mk 0 nm vr pA pc ps lo hi kA kc kp ks)) (hpr : ps.all rightT = true)  : PutI w0 B b (.mk 0 nm vr pA pc ps lo hi kA kc kp ks) := by
  intro l w hps hlen
  rw [putI_mk, if_neg (by omega)] at hlen ⊢
  have okp := okS_cap hin.ok.2.2.2.2.2.1
  have hin2 : Ets w0 pA ps := fun j hj => hin.preds j hj
  obtain ⟨T, hTT⟩ : ∃ T, l ++ (([] : Nm) ++ (nm ++ ([32] ++ (vr ++ (([] : Nm) ++ prd ps))))) = T := ⟨_, rfl⟩
  have hg : l ++ ((if (0 : Int) = 2 then [33] else []) ++ (nm ++ ([32] ++ (vr ++ ((if (0 : Int) = 1 then rng lo hi else []) ++ prd ps))))) = T := by rw [← hTT]; rfl
  have hTl : T.length ≤ 100000000 := by rw [← hg]; simpa using hlen
  rw [hg]
  obtain ⟨u, hu⟩ : ∃ u, nm ++ [32] = u := ⟨_, rfl⟩
  obtain ⟨d, hd⟩ : ∃ d, u ++ vr = d := ⟨_, rfl⟩
  have lu : u.length = nm.length + 1 := by rw [← hu]; simp
  have ld : d.length = u.length + vr.length := by rw [← hd]; simp
  have hTd : T = (l ++ ([] : Nm)) ++ (d ++ (([] : Nm) ++ prd ps)) := by rw [← hTT, ← hd, ← hu]; simp
  have lall : l.length + d.length + 0 ≤ 100000000 := by rw [hTd] at hTl; simp at hTl; omega
  have ha1 : ∀ W, (Op.stringOp .add (str nm) { data := #[32] }).run Tryd.prog W = .ok (.string (str u)) W := fun W => by rw [← hu]; exact run_add_str nm [32] (by simp; omega) W
  have ha2 : ∀ W, (Op.stringOp .add (str u) (str vr)).run Tryd.prog W = .ok (.string (str d)) W := fun W => by rw [← hd]; exact run_add_str u vr (by omega) W
  obtain ⟨W, hW⟩ : ∃ W, W = w.alloc (.cells #[.int .i64 0, .string (str nm), .string (str vr), .slice pA ps.length pc, .int .i64 lo, .int .i64 hi, .slice kA ks.length kc] 42) := ⟨_, rfl⟩
  have bl : Below w.heap.size w W := by rw [hW]; exact (Below.refl _ _).alloc (Nat.le_refl _) _
  have hx : Has W w.heap.size 42 #[.int .i64 0, .string (str nm), .string (str vr), .slice pA ps.length pc, .int .i64 lo, .int .i64 hi, .slice kA ks.length kc] := by rw [hW]; exact heap_alloc_new w _
  have pW := hps.below bl
  have HNB := Lib.hid (show w.heap.size ≠ b by have := bld_lt hps.1; omega)
  have HW := Lib.hid hW
  have HX := Lib.hid hx
  have HPW := Lib.hid pW
  have H6 := Lib.hid (ok_below (b := b) bl)
  have HTD := Lib.hid hTd
  have HTL := Lib.hid hTl
  have HLA := Lib.hid lall
  have HPS := Lib.hid hin2
  have HPR := Lib.hid hpr
  have HT := Lib.hid hT
  have HB := Lib.hid hB
  obtain ⟨y0, y1, y2, y3, y4, y5, y6⟩ := seven_has hx
  obtain ⟨km, hkm⟩ : ∃ km, ks.length = km := ⟨_, rfl⟩
  show Calls _ _ #[.agg #[.int .i64 0, .string (str nm), .string (str vr), .slice pA ps.length pc, .int .i64 lo, .int .i64 hi, .slice kA ks.length kc], _] _ _
  rw [hkm] at HW HX y6 ⊢
  clear hW hx bl pW hps hTd hTl lall hin2 hpr hT hB hTT hg hlen hin hu hd lu ld hkm
  go_enter Tryd.func39, Tryd.ntmps39
  go_wp2_with fail
  rw [← HW.out]
  have HX1 := HX
  have HO1 := H6
  have HP1 : Hid (PS w0 B b (l ++ []) W) := Lib.hid (by rw [List.append_nil]; exact HPW.out)
  refine (ps_str HB.out d HP1.out (by have := HLA.out; simp; omega) (by have := HLA.out; omega)).mono ?_
  rintro e w2 ⟨rfl, p2, o2⟩
  have HX2 := Lib.hid (box_okI o2 HX1.out HNB.out)
  have HO2 := Lib.hid (HO1.out.trans o2)
  have HP2 := Lib.hid p2
  clear y0 y1 y2 y3 y4 y5 y6 o2 p2
  obtain ⟨y0, y1, y2, y3, y4, y5, y6⟩ := seven_has HX2.out
  go_wp2_with fail
  have HP3 := HP2
  have HO3 := HO2
  have HX3 := HX2
  have hEq : (l ++ ([] : Nm) ++ d) ++ prd ps = T := by rw [HTD.out]; simp
  obtain ⟨w3, hw3⟩ : ∃ w3, w3 = w2 := ⟨_, rfl⟩
  rw [← hw3] at HP3 HO3 HX3 y0 y1 y2 y3 y4 y5 y6 ⊢
  clear hw3
  obtain ⟨t0, ht0⟩ : ∃ t0, l ++ ([] : Nm) ++ d = t0 := ⟨_, rfl⟩
  rw [ht0] at HP3 hEq
  have HEQ := Lib.hid hEq
  clear hEq ht0 HP2 HO2 HX2
  go_loopw [48] (fun i wr => ∃ (k : Nat) (t : Nm), k ≤ ps.length ∧ i = .int .i64 k ∧ PS w0 B b t wr ∧ t ++ prd (ps.drop k) = T ∧ OK b w wr) (fun i _ => ps.length - (intOf i).toNat)
  case atStart => exact ⟨0, t0, Nat.zero_le _, rfl, HP3.out, HEQ.out, HO3.out⟩
  case round =>
    obtain ⟨j, t, hj, rfl, hps, hrest, hok⟩ := hrel
    have HRR := Lib.hid hrest
    have HPP := Lib.hid hps
    have HOK := Lib.hid hok
    clear hrest hps hok
    by_cases hlt : j < ps.length
    · obtain ⟨⟨b', off, rfl, g0, g1, g2, g3, g4, g5⟩, hkin⟩ := HPS.out j hlt
      have gg : ∀ (p : Addr) v, w0.cell? p = some v → wr.cell? p = some v := below_imp HPP.out.2.1
      replace g0 := gg _ _ g0
      replace g1 := gg _ _ g1
      replace g2 := gg _ _ g2
      replace g3 := gg _ _ g3
      replace g4 := gg _ _ g4
      replace g5 := gg _ _ g5
      clear gg
      have hd := drop_at hlt
      have hrx := List.all_eq_true.1 HPR.out ps[j] (List.getElem_mem _)
      obtain ⟨x, hx⟩ : ∃ x, ps[j] = x := ⟨_, rfl⟩
      rw [hx] at g0 g1 g2 g3 g4 g5 hd hkin hrx
      obtain ⟨W2, hW2⟩ : ∃ W2, W2 = wr.alloc (.cells #[.int .i64 x.k, .string (str x.op), .int .i64 x.n, .string (str x.v), .string (str x.f), .slice x.A x.ks.length x.c] 47) := ⟨_, rfl⟩
      have bl2 : Below wr.heap.size wr W2 := by rw [hW2]; exact (Below.refl _ _).alloc (Nat.le_refl _) _
      have pW2 := HPP.out.below bl2
      have hR2 : T = t ++ ([91] ++ (putT 0 x ++ ([93] ++ prd (ps.drop (j + 1))))) := by rw [← HRR.out, hd, prd]
      have hlx : t.length + (putT 0 x).length + 2 ≤ 100000000 := by have := HTL.out; rw [hR2] at this; simp at this; omega
      have hcl := putE_any x W2 (ET.In.below hkin pW2.2.1) (HT.out.below pW2.2.1) hrx (by omega)
      rw [show x.val = Value.agg #[.int .i64 x.k, .string (str x.op), .int .i64 x.n, .string (str x.v), .string (str x.f), .slice x.A x.ks.length x.c] from rfl] at hcl
      obtain ⟨v, hv⟩ : ∃ v, putT 0 x = v := ⟨_, rfl⟩
      rw [hv] at hcl hR2 hlx
      obtain ⟨v1, hv1⟩ : ∃ v1, [91] ++ v = v1 := ⟨_, rfl⟩
      obtain ⟨v2, hv2⟩ : ∃ v2, v1 ++ [93] = v2 := ⟨_, rfl⟩
      have l1 : v1.length = v.length + 1 := by rw [← hv1]; simp
      have l2 : v2.length = v1.length + 1 := by rw [← hv2]; simp
      have hR3 : (t ++ v2) ++ prd (ps.drop (j + 1)) = T := by rw [hR2, ← hv2, ← hv1]; simp
      have hc1 : ∀ W, (Op.stringOp .add { data := #[91] } (str v)).run Tryd.prog W = .ok (.string (str v1)) W := fun W => by rw [← hv1]; exact run_add_str [91] v (by simp; omega) W
      have hc2 : ∀ W, (Op.stringOp .add (str v1) { data := #[93] }).run Tryd.prog W = .ok (.string (str v2)) W := fun W => by rw [← hv2]; exact run_add_str v1 [93] (by simp; omega) W
      have HC := Lib.hid hcl
      have HW2 := Lib.hid hW2
      have HPW2 := Lib.hid pW2
      have HOW2 := Lib.hid (HOK.out.trans (ok_below (b := b) bl2))
      have HR3 := Lib.hid hR3
      have HLX := Lib.hid hlx
      have HL2 := Lib.hid (And.intro l1 l2)
      clear hcl hW2 pW2 bl2 hR2 hR3 hlx hv hv1 hv2 l1 l2 hkin hrx hd hx
      go_wp2_with fail
      rw [← HW2.out]
      refine HC.out.mono ?_
      rintro e w4 ⟨rfl, b4⟩
      have HP4 := Lib.hid (HPW2.out.below b4)
      have HO4 := Lib.hid (HOW2.out.trans (ok_below (b := b) b4))
      clear b4
      go_wp2_with fail
      refine (ps_str HB.out v2 HP4.out (by have := HLX.out; omega) (by have := HLX.out; have := HL2.out; omega)).mono ?_
      rintro e w5 ⟨rfl, p5, o5⟩
      go_wp2_with fail
      go_roundw
      case rel => exact ⟨j + 1, t ++ v2, by omega, by go_num, p5, HR3.out, HO4.out.trans o5⟩
      case measure => simp [intOf]; omega
    · have HE : Hid (t = T) := Lib.hid (by have := HRR.out; rw [List.drop_eq_nil_of_le (by omega)] at this; simpa [prd] using this)
      go_wp2
      go_end0
      exact ⟨rfl, by rw [← HE.out]; exact HPP.out, HOK.out⟩
end Go.Proofs.YtbdfehgofnomhaaDoor
/- Layer 9: put of a Times. -/
namespace Go.Proofs.YtbdfehgofnomhaaDoor
open Go.RowKit
set_option linter.unusedVariables false

set_option maxHeartbeats 16000000 in
theorem putI_1 {w0 : World} {B b : Nat} (hB : w0.heap.size ≤ B) (hT : Tabs w0) (nm vr : Nm) (pA : Option Addr) (pc : Nat) (ps : List ET) (lo hi : Int) (kA : Option Addr) (kc : Nat) (kp : List (Option Addr × Nat)) (ks : List (List IT)) (hin : IT.In w0 (.mk 1 nm vr pA pc ps lo hi kA kc kp ks)) (hpr : ps.all rightT = true) (hlo1 : 1 ≤ lo) (hlohi : lo ≤ hi) (hhi4 : hi ≤ 4) : PutI w0 B b (.mk 1 nm vr pA pc ps lo hi kA kc kp ks) := by
  intro l w hps hlen
  rw [putI_mk, if_neg (by omega)] at hlen ⊢
  have okp := okS_cap hin.ok.2.2.2.2.2.1
  have hin2 : Ets w0 pA ps := fun j hj => hin.preds j hj
  obtain ⟨T, hTT⟩ : ∃ T, l ++ (([] : Nm) ++ (nm ++ ([32] ++ (vr ++ (rng lo hi ++ prd ps))))) = T := ⟨_, rfl⟩
  have hg : l ++ ((if (1 : Int) = 2 then [33] else []) ++ (nm ++ ([32] ++ (vr ++ ((if (1 : Int) = 1 then rng lo hi else []) ++ prd ps))))) = T := by rw [← hTT]; rfl
  have hTl : T.length ≤ 100000000 := by rw [← hg]; simpa using hlen
  rw [hg]
  obtain ⟨u, hu⟩ : ∃ u, nm ++ [32] = u := ⟨_, rfl⟩
  obtain ⟨d, hd⟩ : ∃ d, u ++ vr = d := ⟨_, rfl⟩
  have lu : u.length = nm.length + 1 := by rw [← hu]; simp
  have ld : d.length = u.length + vr.length := by rw [← hd]; simp
  have hTd : T = (l ++ ([] : Nm)) ++ (d ++ (rng lo hi ++ prd ps)) := by rw [← hTT, ← hd, ← hu]; simp
  have hrl : (rng lo hi).length = 5 := by rw [rng]; simp [itoa1 hlo1 (by omega), itoa1 (n := hi) (by omega) hhi4]
  have lall : l.length + d.length + 5 ≤ 100000000 := by rw [hTd] at hTl; simp at hTl; omega
  have ha1 : ∀ W, (Op.stringOp .add (str nm) { data := #[32] }).run Tryd.prog W = .ok (.string (str u)) W := fun W => by rw [← hu]; exact run_add_str nm [32] (by simp; omega) W
  have ha2 : ∀ W, (Op.stringOp .add (str u) (str vr)).run Tryd.prog W = .ok (.string (str d)) W := fun W => by rw [← hd]; exact run_add_str u vr (by omega) W
  obtain ⟨W, hW⟩ : ∃ W, W = w.alloc (.cells #[.int .i64 1, .string (str nm), .string (str vr), .slice pA ps.length pc, .int .i64 lo, .int .i64 hi, .slice kA ks.length kc] 42) := ⟨_, rfl⟩
  have bl : Below w.heap.size w W := by rw [hW]; exact (Below.refl _ _).alloc (Nat.le_refl _) _
  have hx : Has W w.heap.size 42 #[.int .i64 1, .string (str nm), .string (str vr), .slice pA ps.length pc, .int .i64 lo, .int .i64 hi, .slice kA ks.length kc] := by rw [hW]; exact heap_alloc_new w _
  have pW := hps.below bl
  have HNB := Lib.hid (show w.heap.size ≠ b by have := bld_lt hps.1; omega)
  have HW := Lib.hid hW
  have HX := Lib.hid hx
  have HPW := Lib.hid pW
  have H6 := Lib.hid (ok_below (b := b) bl)
  have HTD := Lib.hid hTd
  have HTL := Lib.hid hTl
  have HLA := Lib.hid lall
  have HPS := Lib.hid hin2
  have HPR := Lib.hid hpr
  have HT := Lib.hid hT
  have HB := Lib.hid hB
  obtain ⟨y0, y1, y2, y3, y4, y5, y6⟩ := seven_has hx
  obtain ⟨km, hkm⟩ : ∃ km, ks.length = km := ⟨_, rfl⟩
  show Calls _ _ #[.agg #[.int .i64 1, .string (str nm), .string (str vr), .slice pA ps.length pc, .int .i64 lo, .int .i64 hi, .slice kA ks.length kc], _] _ _
  rw [hkm] at HW HX y6 ⊢
  clear hW hx bl pW hps hTd hTl lall hin2 hpr hT hB hTT hg hlen hin hu hd lu ld hkm
  go_enter Tryd.func39, Tryd.ntmps39
  go_wp2_with fail
  rw [← HW.out]
  have HX1 := HX
  have HO1 := H6
  have HP1 : Hid (PS w0 B b (l ++ []) W) := Lib.hid (by rw [List.append_nil]; exact HPW.out)
  refine (ps_str HB.out d HP1.out (by have := HLA.out; simp; omega) (by have := HLA.out; omega)).mono ?_
  rintro e w2 ⟨rfl, p2, o2⟩
  have HX2 := Lib.hid (box_okI o2 HX1.out HNB.out)
  have HO2 := Lib.hid (HO1.out.trans o2)
  have HP2 := Lib.hid p2
  clear y0 y1 y2 y3 y4 y5 y6 o2 p2
  obtain ⟨y0, y1, y2, y3, y4, y5, y6⟩ := seven_has HX2.out
  go_wp2_with fail
  obtain ⟨r1, hr1⟩ : ∃ r, [123] ++ Lib.itoa lo = r := ⟨_, rfl⟩
  obtain ⟨r2, hr2⟩ : ∃ r, r1 ++ [44] = r := ⟨_, rfl⟩
  obtain ⟨r3, hr3⟩ : ∃ r, r2 ++ Lib.itoa hi = r := ⟨_, rfl⟩
  obtain ⟨r4, hr4⟩ : ∃ r, r3 ++ [125] = r := ⟨_, rfl⟩
  have i1 := itoa1 hlo1 (by omega : lo ≤ 4)
  have i2 := itoa1 (n := hi) (by omega) hhi4
  have q1 : r1.length = 2 := by rw [← hr1]; simp [i1]
  have q2 : r2.length = 3 := by rw [← hr2]; simp [q1]
  have q3 : r3.length = 4 := by rw [← hr3]; simp [q2, i2]
  have q4 : r4.length = 5 := by rw [← hr4]; simp [q3]
  have hrr : r4 = rng lo hi := by rw [← hr4, ← hr3, ← hr2, ← hr1, rng]; simp
  have HC1 := Lib.hid (itoa4_any lo hlo1 (by omega))
  have HC2 := Lib.hid (itoa4_any hi (by omega) hhi4)
  obtain ⟨s1, hs1⟩ : ∃ s, Lib.itoa lo = s := ⟨_, rfl⟩
  obtain ⟨s2, hs2⟩ : ∃ s, Lib.itoa hi = s := ⟨_, rfl⟩
  rw [hs1] at HC1 hr1 i1
  rw [hs2] at HC2 hr3 i2
  have hb1 : ∀ W, (Op.stringOp .add { data := #[123] } (str s1)).run Tryd.prog W = .ok (.string (str r1)) W := fun W => by rw [← hr1]; exact run_add_str [123] s1 (by simp [i1]) W
  have hb2 : ∀ W, (Op.stringOp .add (str r1) { data := #[44] }).run Tryd.prog W = .ok (.string (str r2)) W := fun W => by rw [← hr2]; exact run_add_str r1 [44] (by simp [q1]) W
  have hb3 : ∀ W, (Op.stringOp .add (str r2) (str s2)).run Tryd.prog W = .ok (.string (str r3)) W := fun W => by rw [← hr3]; exact run_add_str r2 s2 (by simp [q2, i2]) W
  have hb4 : ∀ W, (Op.stringOp .add (str r3) { data := #[125] }).run Tryd.prog W = .ok (.string (str r4)) W := fun W => by rw [← hr4]; exact run_add_str r3 [125] (by simp [q3]) W
  have HRR4 := Lib.hid hrr
  have hps4 : ∀ w', PS w0 B b (l ++ ([] : Nm) ++ d) w' → Calls Tryd.prog 21 #[.pointer (some ⟨b, 0, none⟩), .string (str r4)] w' fun e w'' => e = .returned (.tuple #[.int .i64 r4.length, .nilIface]) ∧ PS w0 B b (l ++ ([] : Nm) ++ d ++ r4) w'' ∧ OK b w' w'' := fun w' hp => ps_str HB.out r4 hp (by have := HLA.out; simp; omega) (by rw [q4]; omega)
  have HPS4 := Lib.hid hps4
  have HQ4 := Lib.hid q4
  clear hrl hr1 hr2 hr3 hr4 i1 i2 q1 q2 q3 q4 hrr hs1 hs2 hps4 hlo1 hlohi hhi4
  go_region_held3 (fun w' => w'.cell? ⟨w.heap.size, 4, none⟩ = some (.int .i64 lo) ∧ w'.cell? ⟨w.heap.size, 5, none⟩ = some (.int .i64 hi)) (first | exact ⟨y4, y5⟩ | exact ⟨k4, k5⟩) (first
    | (go_at_call 55; refine (HC1.out _).mono ?_; rintro e w' ⟨rfl, rfl⟩)
    | (go_at_call 55; refine (HC2.out _).mono ?_; rintro e w' ⟨rfl, rfl⟩)
    | (go_at_call 21; refine (HPS4.out _ (HP2.out.below ((Below.refl _ _).drew))).mono ?_; rintro e w3 ⟨rfl, p3, o3⟩; have HX3 := Lib.hid (box_okI o3 (HX2.out.below (Below.refl _ w2).drew HX2.out.lt) HNB.out); obtain ⟨k0, k1, k2, k3, k4, k5, k6⟩ := seven_has HX3.out))
  have HP3 := Lib.hid p3
  have HO3 := Lib.hid (HO2.out.trans ((ok_below (b := b) ((Below.refl _ w2).drew)).trans o3))
  have hEq : (l ++ ([] : Nm) ++ d ++ r4) ++ prd ps = T := by rw [HTD.out, HRR4.out]; simp
  clear y0 y1 y2 y3 y4 y5 y6 p3 o3
  obtain ⟨t0, ht0⟩ : ∃ t0, l ++ ([] : Nm) ++ d ++ r4 = t0 := ⟨_, rfl⟩
  rw [ht0] at HP3 hEq
  have HEQ := Lib.hid hEq
  clear hEq ht0 HP2 HO2 HX2 HC1 HC2 HPS4
  go_wp2_with fail
  go_loopw [48] (fun i wr => ∃ (k : Nat) (t : Nm), k ≤ ps.length ∧ i = .int .i64 k ∧ PS w0 B b t wr ∧ t ++ prd (ps.drop k) = T ∧ OK b w wr) (fun i _ => ps.length - (intOf i).toNat)
  case atStart => exact ⟨0, t0, Nat.zero_le _, rfl, HP3.out, HEQ.out, HO3.out⟩
  case round =>
    obtain ⟨j, t, hj, rfl, hps, hrest, hok⟩ := hrel
    have HRR := Lib.hid hrest
    have HPP := Lib.hid hps
    have HOK := Lib.hid hok
    clear hrest hps hok
    by_cases hlt : j < ps.length
    · obtain ⟨⟨b', off, rfl, g0, g1, g2, g3, g4, g5⟩, hkin⟩ := HPS.out j hlt
      have gg : ∀ (p : Addr) v, w0.cell? p = some v → wr.cell? p = some v := below_imp HPP.out.2.1
      replace g0 := gg _ _ g0
      replace g1 := gg _ _ g1
      replace g2 := gg _ _ g2
      replace g3 := gg _ _ g3
      replace g4 := gg _ _ g4
      replace g5 := gg _ _ g5
      clear gg
      have hd := drop_at hlt
      have hrx := List.all_eq_true.1 HPR.out ps[j] (List.getElem_mem _)
      obtain ⟨x, hx⟩ : ∃ x, ps[j] = x := ⟨_, rfl⟩
      rw [hx] at g0 g1 g2 g3 g4 g5 hd hkin hrx
      obtain ⟨W2, hW2⟩ : ∃ W2, W2 = wr.alloc (.cells #[.int .i64 x.k, .string (str x.op), .int .i64 x.n, .string (str x.v), .string (str x.f), .slice x.A x.ks.length x.c] 47) := ⟨_, rfl⟩
      have bl2 : Below wr.heap.size wr W2 := by rw [hW2]; exact (Below.refl _ _).alloc (Nat.le_refl _) _
      have pW2 := HPP.out.below bl2
      have hR2 : T = t ++ ([91] ++ (putT 0 x ++ ([93] ++ prd (ps.drop (j + 1))))) := by rw [← HRR.out, hd, prd]
      have hlx : t.length + (putT 0 x).length + 2 ≤ 100000000 := by have := HTL.out; rw [hR2] at this; simp at this; omega
      have hcl := putE_any x W2 (ET.In.below hkin pW2.2.1) (HT.out.below pW2.2.1) hrx (by omega)
      rw [show x.val = Value.agg #[.int .i64 x.k, .string (str x.op), .int .i64 x.n, .string (str x.v), .string (str x.f), .slice x.A x.ks.length x.c] from rfl] at hcl
      obtain ⟨v, hv⟩ : ∃ v, putT 0 x = v := ⟨_, rfl⟩
      rw [hv] at hcl hR2 hlx
      obtain ⟨v1, hv1⟩ : ∃ v1, [91] ++ v = v1 := ⟨_, rfl⟩
      obtain ⟨v2, hv2⟩ : ∃ v2, v1 ++ [93] = v2 := ⟨_, rfl⟩
      have l1 : v1.length = v.length + 1 := by rw [← hv1]; simp
      have l2 : v2.length = v1.length + 1 := by rw [← hv2]; simp
      have hR3 : (t ++ v2) ++ prd (ps.drop (j + 1)) = T := by rw [hR2, ← hv2, ← hv1]; simp
      have hc1 : ∀ W, (Op.stringOp .add { data := #[91] } (str v)).run Tryd.prog W = .ok (.string (str v1)) W := fun W => by rw [← hv1]; exact run_add_str [91] v (by simp; omega) W
      have hc2 : ∀ W, (Op.stringOp .add (str v1) { data := #[93] }).run Tryd.prog W = .ok (.string (str v2)) W := fun W => by rw [← hv2]; exact run_add_str v1 [93] (by simp; omega) W
      have HC := Lib.hid hcl
      have HW2 := Lib.hid hW2
      have HPW2 := Lib.hid pW2
      have HOW2 := Lib.hid (HOK.out.trans (ok_below (b := b) bl2))
      have HR3 := Lib.hid hR3
      have HLX := Lib.hid hlx
      have HL2 := Lib.hid (And.intro l1 l2)
      clear hcl hW2 pW2 bl2 hR2 hR3 hlx hv hv1 hv2 l1 l2 hkin hrx hd hx
      go_wp2_with fail
      rw [← HW2.out]
      refine HC.out.mono ?_
      rintro e w4 ⟨rfl, b4⟩
      have HP4 := Lib.hid (HPW2.out.below b4)
      have HO4 := Lib.hid (HOW2.out.trans (ok_below (b := b) b4))
      clear b4
      go_wp2_with fail
      refine (ps_str HB.out v2 HP4.out (by have := HLX.out; omega) (by have := HLX.out; have := HL2.out; omega)).mono ?_
      rintro e w5 ⟨rfl, p5, o5⟩
      go_wp2_with fail
      go_roundw
      case rel => exact ⟨j + 1, t ++ v2, by omega, by go_num, p5, HR3.out, HO4.out.trans o5⟩
      case measure => simp [intOf]; omega
    · have HE : Hid (t = T) := Lib.hid (by have := HRR.out; rw [List.drop_eq_nil_of_le (by omega)] at this; simpa [prd] using this)
      go_wp2
      go_end0
      exact ⟨rfl, by rw [← HE.out]; exact HPP.out, HOK.out⟩
end Go.Proofs.YtbdfehgofnomhaaDoor
/- Layer 9: put of a Not. -/
namespace Go.Proofs.YtbdfehgofnomhaaDoor
open Go.RowKit
set_option linter.unusedVariables false

set_option maxHeartbeats 16000000 in
theorem putI_2 {w0 : World} {B b : Nat} (hB : w0.heap.size ≤ B) (hT : Tabs w0) (nm vr : Nm) (pA : Option Addr) (pc : Nat) (ps : List ET) (lo hi : Int) (kA : Option Addr) (kc : Nat) (kp : List (Option Addr × Nat)) (ks : List (List IT)) (hin : IT.In w0 (.mk 2 nm vr pA pc ps lo hi kA kc kp ks)) (hpr : ps.all rightT = true)  : PutI w0 B b (.mk 2 nm vr pA pc ps lo hi kA kc kp ks) := by
  intro l w hps hlen
  rw [putI_mk, if_neg (by omega)] at hlen ⊢
  have okp := okS_cap hin.ok.2.2.2.2.2.1
  have hin2 : Ets w0 pA ps := fun j hj => hin.preds j hj
  obtain ⟨T, hTT⟩ : ∃ T, l ++ ([33] ++ (nm ++ ([32] ++ (vr ++ (([] : Nm) ++ prd ps))))) = T := ⟨_, rfl⟩
  have hg : l ++ ((if (2 : Int) = 2 then [33] else []) ++ (nm ++ ([32] ++ (vr ++ ((if (2 : Int) = 1 then rng lo hi else []) ++ prd ps))))) = T := by rw [← hTT]; rfl
  have hTl : T.length ≤ 100000000 := by rw [← hg]; simpa using hlen
  rw [hg]
  obtain ⟨u, hu⟩ : ∃ u, nm ++ [32] = u := ⟨_, rfl⟩
  obtain ⟨d, hd⟩ : ∃ d, u ++ vr = d := ⟨_, rfl⟩
  have lu : u.length = nm.length + 1 := by rw [← hu]; simp
  have ld : d.length = u.length + vr.length := by rw [← hd]; simp
  have hTd : T = (l ++ [33]) ++ (d ++ (([] : Nm) ++ prd ps)) := by rw [← hTT, ← hd, ← hu]; simp
  have lall : l.length + d.length + 0 ≤ 100000000 := by rw [hTd] at hTl; simp at hTl; omega
  have ha1 : ∀ W, (Op.stringOp .add (str nm) { data := #[32] }).run Tryd.prog W = .ok (.string (str u)) W := fun W => by rw [← hu]; exact run_add_str nm [32] (by simp; omega) W
  have ha2 : ∀ W, (Op.stringOp .add (str u) (str vr)).run Tryd.prog W = .ok (.string (str d)) W := fun W => by rw [← hd]; exact run_add_str u vr (by omega) W
  obtain ⟨W, hW⟩ : ∃ W, W = w.alloc (.cells #[.int .i64 2, .string (str nm), .string (str vr), .slice pA ps.length pc, .int .i64 lo, .int .i64 hi, .slice kA ks.length kc] 42) := ⟨_, rfl⟩
  have bl : Below w.heap.size w W := by rw [hW]; exact (Below.refl _ _).alloc (Nat.le_refl _) _
  have hx : Has W w.heap.size 42 #[.int .i64 2, .string (str nm), .string (str vr), .slice pA ps.length pc, .int .i64 lo, .int .i64 hi, .slice kA ks.length kc] := by rw [hW]; exact heap_alloc_new w _
  have pW := hps.below bl
  have HNB := Lib.hid (show w.heap.size ≠ b by have := bld_lt hps.1; omega)
  have HW := Lib.hid hW
  have HX := Lib.hid hx
  have HPW := Lib.hid pW
  have H6 := Lib.hid (ok_below (b := b) bl)
  have HTD := Lib.hid hTd
  have HTL := Lib.hid hTl
  have HLA := Lib.hid lall
  have HPS := Lib.hid hin2
  have HPR := Lib.hid hpr
  have HT := Lib.hid hT
  have HB := Lib.hid hB
  obtain ⟨y0, y1, y2, y3, y4, y5, y6⟩ := seven_has hx
  obtain ⟨km, hkm⟩ : ∃ km, ks.length = km := ⟨_, rfl⟩
  show Calls _ _ #[.agg #[.int .i64 2, .string (str nm), .string (str vr), .slice pA ps.length pc, .int .i64 lo, .int .i64 hi, .slice kA ks.length kc], _] _ _
  rw [hkm] at HW HX y6 ⊢
  clear hW hx bl pW hps hTd hTl lall hin2 hpr hT hB hTT hg hlen hin hu hd lu ld hkm
  go_enter Tryd.func39, Tryd.ntmps39
  go_wp2_with fail
  rw [← HW.out]
  refine (ps_byte (c := 33) HB.out HPW.out (by have := HLA.out; omega)).mono ?_
  rintro e w1 ⟨rfl, p1, o1⟩
  have HX1 := Lib.hid (box_okI o1 HX.out HNB.out)
  have HO1 := Lib.hid (H6.out.trans o1)
  clear y0 y1 y2 y3 y4 y5 y6 o1
  obtain ⟨y0, y1, y2, y3, y4, y5, y6⟩ := seven_has HX1.out
  have HP1 := Lib.hid p1
  clear p1
  go_wp2_with fail
  refine (ps_str HB.out d HP1.out (by have := HLA.out; simp; omega) (by have := HLA.out; omega)).mono ?_
  rintro e w2 ⟨rfl, p2, o2⟩
  have HX2 := Lib.hid (box_okI o2 HX1.out HNB.out)
  have HO2 := Lib.hid (HO1.out.trans o2)
  have HP2 := Lib.hid p2
  clear y0 y1 y2 y3 y4 y5 y6 o2 p2
  obtain ⟨y0, y1, y2, y3, y4, y5, y6⟩ := seven_has HX2.out
  go_wp2_with fail
  have HP3 := HP2
  have HO3 := HO2
  have HX3 := HX2
  have hEq : (l ++ [33] ++ d) ++ prd ps = T := by rw [HTD.out]; simp
  obtain ⟨w3, hw3⟩ : ∃ w3, w3 = w2 := ⟨_, rfl⟩
  rw [← hw3] at HP3 HO3 HX3 y0 y1 y2 y3 y4 y5 y6 ⊢
  clear hw3
  obtain ⟨t0, ht0⟩ : ∃ t0, l ++ [33] ++ d = t0 := ⟨_, rfl⟩
  rw [ht0] at HP3 hEq
  have HEQ := Lib.hid hEq
  clear hEq ht0 HP2 HO2 HX2
  go_loopw [48] (fun i wr => ∃ (k : Nat) (t : Nm), k ≤ ps.length ∧ i = .int .i64 k ∧ PS w0 B b t wr ∧ t ++ prd (ps.drop k) = T ∧ OK b w wr) (fun i _ => ps.length - (intOf i).toNat)
  case atStart => exact ⟨0, t0, Nat.zero_le _, rfl, HP3.out, HEQ.out, HO3.out⟩
  case round =>
    obtain ⟨j, t, hj, rfl, hps, hrest, hok⟩ := hrel
    have HRR := Lib.hid hrest
    have HPP := Lib.hid hps
    have HOK := Lib.hid hok
    clear hrest hps hok
    by_cases hlt : j < ps.length
    · obtain ⟨⟨b', off, rfl, g0, g1, g2, g3, g4, g5⟩, hkin⟩ := HPS.out j hlt
      have gg : ∀ (p : Addr) v, w0.cell? p = some v → wr.cell? p = some v := below_imp HPP.out.2.1
      replace g0 := gg _ _ g0
      replace g1 := gg _ _ g1
      replace g2 := gg _ _ g2
      replace g3 := gg _ _ g3
      replace g4 := gg _ _ g4
      replace g5 := gg _ _ g5
      clear gg
      have hd := drop_at hlt
      have hrx := List.all_eq_true.1 HPR.out ps[j] (List.getElem_mem _)
      obtain ⟨x, hx⟩ : ∃ x, ps[j] = x := ⟨_, rfl⟩
      rw [hx] at g0 g1 g2 g3 g4 g5 hd hkin hrx
      obtain ⟨W2, hW2⟩ : ∃ W2, W2 = wr.alloc (.cells #[.int .i64 x.k, .string (str x.op), .int .i64 x.n, .string (str x.v), .string (str x.f), .slice x.A x.ks.length x.c] 47) := ⟨_, rfl⟩
      have bl2 : Below wr.heap.size wr W2 := by rw [hW2]; exact (Below.refl _ _).alloc (Nat.le_refl _) _
      have pW2 := HPP.out.below bl2
      have hR2 : T = t ++ ([91] ++ (putT 0 x ++ ([93] ++ prd (ps.drop (j + 1))))) := by rw [← HRR.out, hd, prd]
      have hlx : t.length + (putT 0 x).length + 2 ≤ 100000000 := by have := HTL.out; rw [hR2] at this; simp at this; omega
      have hcl := putE_any x W2 (ET.In.below hkin pW2.2.1) (HT.out.below pW2.2.1) hrx (by omega)
      rw [show x.val = Value.agg #[.int .i64 x.k, .string (str x.op), .int .i64 x.n, .string (str x.v), .string (str x.f), .slice x.A x.ks.length x.c] from rfl] at hcl
      obtain ⟨v, hv⟩ : ∃ v, putT 0 x = v := ⟨_, rfl⟩
      rw [hv] at hcl hR2 hlx
      obtain ⟨v1, hv1⟩ : ∃ v1, [91] ++ v = v1 := ⟨_, rfl⟩
      obtain ⟨v2, hv2⟩ : ∃ v2, v1 ++ [93] = v2 := ⟨_, rfl⟩
      have l1 : v1.length = v.length + 1 := by rw [← hv1]; simp
      have l2 : v2.length = v1.length + 1 := by rw [← hv2]; simp
      have hR3 : (t ++ v2) ++ prd (ps.drop (j + 1)) = T := by rw [hR2, ← hv2, ← hv1]; simp
      have hc1 : ∀ W, (Op.stringOp .add { data := #[91] } (str v)).run Tryd.prog W = .ok (.string (str v1)) W := fun W => by rw [← hv1]; exact run_add_str [91] v (by simp; omega) W
      have hc2 : ∀ W, (Op.stringOp .add (str v1) { data := #[93] }).run Tryd.prog W = .ok (.string (str v2)) W := fun W => by rw [← hv2]; exact run_add_str v1 [93] (by simp; omega) W
      have HC := Lib.hid hcl
      have HW2 := Lib.hid hW2
      have HPW2 := Lib.hid pW2
      have HOW2 := Lib.hid (HOK.out.trans (ok_below (b := b) bl2))
      have HR3 := Lib.hid hR3
      have HLX := Lib.hid hlx
      have HL2 := Lib.hid (And.intro l1 l2)
      clear hcl hW2 pW2 bl2 hR2 hR3 hlx hv hv1 hv2 l1 l2 hkin hrx hd hx
      go_wp2_with fail
      rw [← HW2.out]
      refine HC.out.mono ?_
      rintro e w4 ⟨rfl, b4⟩
      have HP4 := Lib.hid (HPW2.out.below b4)
      have HO4 := Lib.hid (HOW2.out.trans (ok_below (b := b) b4))
      clear b4
      go_wp2_with fail
      refine (ps_str HB.out v2 HP4.out (by have := HLX.out; omega) (by have := HLX.out; have := HL2.out; omega)).mono ?_
      rintro e w5 ⟨rfl, p5, o5⟩
      go_wp2_with fail
      go_roundw
      case rel => exact ⟨j + 1, t ++ v2, by omega, by go_num, p5, HR3.out, HO4.out.trans o5⟩
      case measure => simp [intOf]; omega
    · have HE : Hid (t = T) := Lib.hid (by have := HRR.out; rw [List.drop_eq_nil_of_le (by omega)] at this; simpa [prd] using this)
      go_wp2
      go_end0
      exact ⟨rfl, by rw [← HE.out]; exact HPP.out, HOK.out⟩
end Go.Proofs.YtbdfehgofnomhaaDoor
/- Layer 9: put of a choice, of lists; Right and Same of queries. -/
namespace Go.Proofs.YtbdfehgofnomhaaDoor
open Go.RowKit
set_option linter.unusedVariables false

theorem putL_of {w0 : World} {B b : Nat} (hB : w0.heap.size ≤ B) (l : List IT) (A : Option Addr) (c : Nat) (hcap : l.length ≤ 9223372036854775807) (hl : Its w0 A l) (ih : ∀ t ∈ l, PutI w0 B b t) (acc : Nm) (w : World) (hps : PS w0 B b acc w) (hlen : acc.length + (putIs l).length ≤ 100000000) :
    Calls Tryd.prog 20 #[.slice A l.length c, .pointer (some ⟨b, 0, none⟩)] w fun e w' => e = .returned (.tuple #[]) ∧ PS w0 B b (acc ++ putIs l) w' ∧ OK b w w' := by
  have hc : Calls Tryd.prog 38 #[.slice A l.length c, .string { data := #[32, 59, 32] }, .pointer (some ⟨b, 0, none⟩), .func (Fn.func 39) #[] #[]] w fun e w' => e = .returned (.tuple #[]) ∧ PS w0 B b (acc ++ putIs l) w' ∧ OK b w w' := putAllI_any hB l A c hcap hl ih [32, 59, 32] rfl acc w hps hlen
  have HC := Lib.hid hc
  clear hc ih hl hps hlen
  go_enter Tryd.func20, Tryd.ntmps20
  go_wp2_with (go_at_call 38; refine HC.out.mono ?_; rintro e w1 ⟨rfl, p1, o1⟩)
  go_end0
  exact ⟨rfl, p1, o1⟩
set_option maxHeartbeats 8000000 in
theorem putI_3 {w0 : World} {B b : Nat} (hB : w0.heap.size ≤ B) (nm vr : Nm) (pA : Option Addr) (pc : Nat) (ps : List ET) (lo hi : Int) (kA : Option Addr) (kc : Nat) (kp : List (Option Addr × Nat)) (ks : List (List IT)) (hin : IT.In w0 (.mk 3 nm vr pA pc ps lo hi kA kc kp ks)) (ih : ∀ l ∈ ks, ∀ t ∈ l, PutI w0 B b t) : PutI w0 B b (.mk 3 nm vr pA pc ps lo hi kA kc kp ks) := by
  intro l w hps hlen
  rw [putI_mk, if_pos rfl] at hlen ⊢
  have okk := okS_cap hin.ok.2.2.2.2.2.2
  have hall : ∀ (acc : Nm) (w' : World), PS w0 B b acc w' → acc.length + (putKs ks).length ≤ 100000000 → Calls Tryd.prog 54 #[.slice kA ks.length kc, .string { data := #[32, 124, 32] }, .pointer (some ⟨b, 0, none⟩), .func (Fn.func 20) #[] #[]] w' fun e w'' => e = .returned (.tuple #[]) ∧ PS w0 B b (acc ++ putKs ks) w'' ∧ OK b w' w'' := fun acc w' hp hl2 =>
    putAllK_any hB ks kp kA kc okk hin.kds (fun j h1 h2 acc2 w2 hp2 hl3 => putL_of hB ks[j] kp[j].1 kp[j].2 (okS_cap (hin.kids j h1 h2).1.2) (hin.kds.2 j h1 h2).2 (ih _ (List.getElem_mem h1)) acc2 w2 hp2 hl3) [32, 124, 32] rfl acc w' hp hl2
  obtain ⟨pm, hpm⟩ : ∃ pm, ps.length = pm := ⟨_, rfl⟩
  obtain ⟨W, hW⟩ : ∃ W, W = w.alloc (.cells #[.int .i64 3, .string (str nm), .string (str vr), .slice pA pm pc, .int .i64 lo, .int .i64 hi, .slice kA ks.length kc] 42) := ⟨_, rfl⟩
  have bl : Below w.heap.size w W := by rw [hW]; exact (Below.refl _ _).alloc (Nat.le_refl _) _
  have hx : Has W w.heap.size 42 #[.int .i64 3, .string (str nm), .string (str vr), .slice pA pm pc, .int .i64 lo, .int .i64 hi, .slice kA ks.length kc] := by rw [hW]; exact heap_alloc_new w _
  have pW := hps.below bl
  obtain ⟨v, hv⟩ : ∃ v, putKs ks = v := ⟨_, rfl⟩
  rw [hv] at hall hlen ⊢
  have hl2 : l.length + v.length + 2 ≤ 100000000 := by simp at hlen; omega
  have HNB := Lib.hid (show w.heap.size ≠ b by have := bld_lt hps.1; omega)
  have HW := Lib.hid hW
  have HX := Lib.hid hx
  have HPW := Lib.hid pW
  have H6 := Lib.hid (ok_below (b := b) bl)
  have HAL := Lib.hid hall
  have HL2 := Lib.hid hl2
  have HB := Lib.hid hB
  obtain ⟨y0, y1, y2, y3, y4, y5, y6⟩ := seven_has hx
  show Calls _ _ #[.agg #[.int .i64 3, .string (str nm), .string (str vr), .slice pA ps.length pc, .int .i64 lo, .int .i64 hi, .slice kA ks.length kc], _] _ _
  rw [hpm]
  clear hW hx bl pW hps hall hlen hin ih hB hv hl2 hpm
  go_enter Tryd.func39, Tryd.ntmps39
  go_wp2_with fail
  rw [← HW.out]
  refine (ps_byte (c := 40) HB.out HPW.out (by have := HL2.out; omega)).mono ?_
  rintro e w1 ⟨rfl, p1, o1⟩
  have HX1 := Lib.hid (box_okI o1 HX.out HNB.out)
  have HO1 := Lib.hid (H6.out.trans o1)
  clear y0 y1 y2 y3 y4 y5 y6 o1
  obtain ⟨y0, y1, y2, y3, y4, y5, y6⟩ := seven_has HX1.out
  have HP1 := Lib.hid p1
  clear p1
  go_wp2_with fail
  refine (HAL.out _ w1 HP1.out (by have := HL2.out; simp; omega)).mono ?_
  rintro e w2 ⟨rfl, p2, o2⟩
  have HO2 := Lib.hid (HO1.out.trans o2)
  clear o2
  go_wp2_with fail
  refine (ps_byte (c := 41) HB.out p2 (by have := HL2.out; simp; omega)).mono ?_
  rintro e w3 ⟨rfl, p3, o3⟩
  go_wp2_with fail
  refine bodyPost_ret (v := .tuple #[]) (results_none rfl _ _ _) rfl ?_
  exact ⟨rfl, by simpa using p3, HO2.out.trans o3⟩
/-- put of an item that is right. -/
theorem putI_any {w0 : World} {B b : Nat} (hB : w0.heap.size ≤ B) (hT : Tabs w0) : ∀ t : IT, t.In w0 → rightI t = true → PutI w0 B b t := by
  refine IT.ind fun k nm vr pA pc ps lo hi kA kc kp ks ih hin hr => ?_
  rcases itm_kinds hr with ⟨rfl, _, _, _, _, _, _, hk⟩ | ⟨hk, hn, hv, hp, hpr, hk0, h1, h2⟩
  · refine putI_3 hB nm vr pA pc ps lo hi kA kc kp ks hin fun l hl t ht => ?_
    obtain ⟨j, hj, rfl⟩ := List.getElem_of_mem hl
    obtain ⟨i, hi, rfl⟩ := List.getElem_of_mem ht
    exact ih _ (List.getElem_mem _) _ (List.getElem_mem _) ((hin.kids j hj (by rw [hin.len]; exact hj)).2 i hi).2 (rightIs_all (rightKs_all hk _ hl) _ ht)
  · rcases hk with rfl | rfl | rfl
    · exact putI_0 hB hT nm vr pA pc ps lo hi kA kc kp ks hin hpr
    · obtain ⟨a1, a2, a3⟩ := h1 rfl
      exact putI_1 hB hT nm vr pA pc ps lo hi kA kc kp ks hin hpr a1 a2 a3
    · exact putI_2 hB hT nm vr pA pc ps lo hi kA kc kp ks hin hpr
theorem putL_any {w0 : World} {B b : Nat} (hB : w0.heap.size ≤ B) (hT : Tabs w0) (l : List IT) (A : Option Addr) (c : Nat) (hcap : l.length ≤ 9223372036854775807) (hl : Its w0 A l) (hr : rightIs l = true) (acc : Nm) (w : World) (hps : PS w0 B b acc w) (hlen : acc.length + (putIs l).length ≤ 100000000) :
    Calls Tryd.prog 20 #[.slice A l.length c, .pointer (some ⟨b, 0, none⟩)] w fun e w' => e = .returned (.tuple #[]) ∧ PS w0 B b (acc ++ putIs l) w' ∧ OK b w w' :=
  putL_of hB l A c hcap hl (fun t ht => by
    have h1 := rightIs_all hr t ht
    obtain ⟨i, hi, rfl⟩ := List.getElem_of_mem ht
    exact putI_any hB hT _ (hl i hi).2 h1) acc w hps hlen
/-- PutItems of what is right. -/
theorem putIs_any (l : List IT) (A : Option Addr) (c : Nat) (w : World) (hcap : l.length ≤ 9223372036854775807) (hl : Its w A l) (hT : Tabs w) (hr : rightIs l = true) (hlen : (putIs l).length ≤ 100000000) :
    Calls Tryd.prog 13 #[.slice A l.length c] w fun e w' => e = .returned (.string (str (putIs l))) ∧ Below w.heap.size w w' := by
  have hc := rightL_any l A c w hcap hl hT
  rw [hr] at hc
  have hp : ∀ (w1 : World), Below w.heap.size w w1 → Calls Tryd.prog 20 #[.slice A l.length c, .pointer (some ⟨w1.heap.size, 0, none⟩)] (w1.alloc (.cells #[.pointer none, .slice none 0 0] 52)) fun e w' => e = .returned (.tuple #[]) ∧ PS w w1.heap.size w1.heap.size (putIs l) w' := fun w1 hb => by
    have := putL_any (w0 := w) (B := w1.heap.size) (b := w1.heap.size) hb.size hT l A c hcap hl hr [] (w1.alloc (.cells #[.pointer none, .slice none 0 0] 52)) ⟨Lib.IsBuilderF.of (Lib.fresh_isBuilder _ _ w1), hb.alloc hb.size _, by simp⟩ (by simpa using hlen)
    exact this.mono fun e w' h => ⟨h.1, by simpa using h.2.1⟩
  obtain ⟨d, hd⟩ : ∃ d, putIs l = d := ⟨_, rfl⟩
  rw [hd] at hp ⊢
  have HC := Lib.hid hc
  have HP := Lib.hid hp
  clear hc hp hl hT hr hlen hd
  go_enter Tryd.func13, Tryd.ntmps13
  go_wp2_with fail
  refine HC.out.mono ?_
  rintro e w1 ⟨rfl, b1⟩
  have HB1 := Lib.hid b1
  clear b1
  go_wp2_with fail
  refine (HP.out w1 HB1.out).mono ?_
  rintro e w2 ⟨rfl, p2⟩
  go_wp2_with fail
  refine (bstr_any _ _ d w2 p2.1 p2.2.2).mono ?_
  rintro e w3 ⟨rfl, h1, h2, h3⟩
  go_wp2_with fail
  go_ret
  exact ⟨rfl, p2.2.1.trans (h2.mono HB1.out.size)⟩
/-- A query's value. -/
abbrev qv (A : Option Addr) (m c : Nat) (n : Int) (by_ : Nm) : Value := .agg #[.slice A m c, .int .i64 n, .string (str by_)]
theorem three_has {w : World} {q : Nat} {t : TypeId} {u0 u1 u2 : Value} (h : Has w q t #[u0, u1, u2]) : w.cell? ⟨q, 0, none⟩ = some u0 ∧ w.cell? ⟨q, 1, none⟩ = some u1 ∧ w.cell? ⟨q, 2, none⟩ = some u2 := ⟨h.cell 0, h.cell 1, h.cell 2⟩
set_option maxHeartbeats 4000000 in
theorem rightQ_any (l : List IT) (A : Option Addr) (c : Nat) (n : Int) (y : Nm) (w : World) (hcap : l.length ≤ 9223372036854775807) (hl : Its w A l) (hT : Tabs8 w) (hy : y.length ≤ 140737488355328) :
    Calls Tryd.prog 9 #[qv A l.length c n y] w fun e w' => e = .returned (.bool (rightQ l n y)) ∧ Below w.heap.size w w' := by
  obtain ⟨R, hR⟩ : ∃ R, rightQ l n y = R := ⟨_, rfl⟩
  rw [hR]
  rw [rightQ] at hR
  obtain ⟨m, hm⟩ : ∃ m, l.length = m := ⟨_, rfl⟩
  obtain ⟨W, hW⟩ : ∃ W, W = w.alloc (.cells #[.slice A m c, .int .i64 n, .string (str y)] 24) := ⟨_, rfl⟩
  have bl : Below w.heap.size w W := by rw [hW]; exact (Below.refl _ _).alloc (Nat.le_refl _) _
  have hx : Has W w.heap.size 24 #[.slice A m c, .int .i64 n, .string (str y)] := by rw [hW]; exact heap_alloc_new w _
  have hc := rightL_any l A c W hcap (hl.below bl) (hT.below bl)
  have hN : ∀ w', Below W.heap.size W w' → Calls Tryd.prog 19 #[.string (str y)] w' fun e w'' => e = .returned (.bool (nameB y)) ∧ Below w'.heap.size w' w'' := fun w' hb => isName_any y w' (by omega) ((hT.below bl).below hb)
  rw [hm] at hc ⊢
  obtain ⟨rb, hrb⟩ : ∃ rb, rightIs l = rb := ⟨_, rfl⟩
  obtain ⟨nb, hnb⟩ : ∃ nb, nameB y = nb := ⟨_, rfl⟩
  rw [hrb] at hc hR
  rw [hnb] at hN hR
  have ey := str_toList y
  have HR := Lib.hid hR
  have HC := Lib.hid hc
  have HN := Lib.hid hN
  have HW := Lib.hid hW
  have HX := Lib.hid hx
  have HB := Lib.hid bl
  clear hR hc hN hW hx bl hl hT hm hrb hnb
  unfold qv
  cases rb with
  | false =>
    go_enter Tryd.func9, Tryd.ntmps9
    go_wp2_with (go_at_call 14; rw [← HW.out]; refine HC.out.mono ?_; rintro e w1 ⟨rfl, b1⟩)
    go_ret
    exact ⟨ret_bool (by rw [← HR.out]; rfl), HB.out.trans (b1.mono HB.out.size)⟩
  | true =>
    by_cases h0 : 0 ≤ n
    case neg =>
      have d0 : decide ((0 : Int) ≤ n) = false := by simpa using h0
      have HE : Hid (R = false) := Lib.hid (by rw [← HR.out, decide_eq_false (fun h => h0 h.1)]; simp)
      clear h0
      go_enter Tryd.func9, Tryd.ntmps9
      go_wp2_with (go_at_call 14; rw [← HW.out]; refine HC.out.mono ?_; rintro e w1 ⟨rfl, b1⟩; obtain ⟨y0, y1, y2⟩ := three_has (HX.out.below b1 HX.out.lt))
      go_ret
      exact ⟨ret_bool HE.out.symm, HB.out.trans (b1.mono HB.out.size)⟩
    by_cases h1 : n ≤ 1000000000
    case neg =>
      have d0 : decide ((0 : Int) ≤ n) = true := by simpa using h0
      have d1 : decide (n ≤ (1000000000 : Int)) = false := by simpa using h1
      have HE : Hid (R = false) := Lib.hid (by rw [← HR.out, decide_eq_false (fun h => h1 h.2)]; simp)
      clear h0 h1
      go_enter Tryd.func9, Tryd.ntmps9
      go_wp2_with (go_at_call 14; rw [← HW.out]; refine HC.out.mono ?_; rintro e w1 ⟨rfl, b1⟩; obtain ⟨y0, y1, y2⟩ := three_has (HX.out.below b1 HX.out.lt))
      go_ret
      exact ⟨ret_bool HE.out.symm, HB.out.trans (b1.mono HB.out.size)⟩
    have d0 : decide ((0 : Int) ≤ n) = true := by simpa using h0
    have d1 : decide (n ≤ (1000000000 : Int)) = true := by simpa using h1
    by_cases hy0 : y = []
    · subst hy0
      have HE : Hid (R = true) := Lib.hid (by rw [← HR.out, decide_eq_true ⟨h0, h1⟩]; simp)
      clear h0 h1
      go_enter Tryd.func9, Tryd.ntmps9
      go_wp2_with (go_at_call 14; rw [← HW.out]; refine HC.out.mono ?_; rintro e w1 ⟨rfl, b1⟩; obtain ⟨y0, y1, y2⟩ := three_has (HX.out.below b1 HX.out.lt))
      go_ret
      exact ⟨ret_bool HE.out.symm, HB.out.trans (b1.mono HB.out.size)⟩
    · have d2 : ((str y).toList == []) = false := by rw [ey]; simpa using hy0
      have HE : Hid (R = nb) := Lib.hid (by rw [← HR.out, decide_eq_true ⟨h0, h1⟩, decide_eq_false hy0]; simp)
      clear h0 h1 hy0 ey
      go_enter Tryd.func9, Tryd.ntmps9
      go_wp2_with (first | (go_at_call 14; rw [← HW.out]; refine HC.out.mono ?_; rintro e w1 ⟨rfl, b1⟩; obtain ⟨y0, y1, y2⟩ := three_has (HX.out.below b1 HX.out.lt)) | (go_at_call 19; refine (HN.out _ b1).mono ?_; rintro e w2 ⟨rfl, b2⟩))
      go_ret
      exact ⟨ret_bool (by simp [HE.out]), HB.out.trans ((b1.trans (b2.mono b1.size)).mono HB.out.size)⟩
set_option maxHeartbeats 4000000 in
theorem sameQ_any (l m : List IT) (A A' : Option Addr) (c c' : Nat) (n n' : Int) (y y' : Nm) (w : World) (hcap : l.length ≤ 9223372036854775807) (hl : Its w A l) (hm : Its w A' m) :
    Calls Tryd.prog 11 #[qv A l.length c n y, qv A' m.length c' n' y'] w fun e w' => e = .returned (.bool (sameQ l n y m n' y')) ∧ Below w.heap.size w w' := by
  obtain ⟨R, hR⟩ : ∃ R, sameQ l n y m n' y' = R := ⟨_, rfl⟩
  rw [hR]
  rw [sameQ] at hR
  obtain ⟨x1, x2, x3⟩ := two_new w #[.slice A l.length c, .int .i64 n, .string (str y)] #[.slice A' m.length c', .int .i64 n', .string (str y')] 24 24
  obtain ⟨W, hW⟩ : ∃ W, W = (w.alloc (.cells #[.slice A l.length c, .int .i64 n, .string (str y)] 24)).alloc (.cells #[.slice A' m.length c', .int .i64 n', .string (str y')] 24) := ⟨_, rfl⟩
  rw [← hW] at x1 x2 x3
  have hc := sameL_any l m A A' c c' W hcap (hl.below x3) (hm.below x3)
  obtain ⟨sb, hsb⟩ : ∃ sb, sameIs l m = sb := ⟨_, rfl⟩
  rw [hsb] at hc hR
  have e1 := str_toList y
  have e2 := str_toList y'
  have HR := Lib.hid hR
  have HC := Lib.hid hc
  have HW := Lib.hid hW
  have HX := Lib.hid x3
  clear hR hc hW x1 x2 x3 hl hm hsb
  unfold qv
  have bl : ∀ o1 o2, Below w.heap.size w ((w.alloc o1).alloc o2) := fun o1 o2 => ((Below.refl _ _).alloc (Nat.le_refl _) _).alloc (by simp) _
  have HBL := Lib.hid bl
  clear bl
  by_cases h1 : n = n'
  case neg =>
    have d1 : (n == n') = false := by simpa using h1
    have HE : Hid (R = false) := Lib.hid (by rw [← HR.out, decide_eq_false h1]; simp)
    clear h1
    go_enter Tryd.func11, Tryd.ntmps11
    go_wp2_with fail
    go_ret
    exact ⟨ret_bool HE.out.symm, HBL.out _ _⟩
  subst h1
  by_cases h2 : y = y'
  case neg =>
    have d2 : ((str y).toList == (str y').toList) = false := by rw [e1, e2]; simpa using h2
    have HE : Hid (R = false) := Lib.hid (by rw [← HR.out, decide_eq_false h2]; simp)
    clear h2 e1 e2
    go_enter Tryd.func11, Tryd.ntmps11
    go_wp2_with fail
    go_ret
    exact ⟨ret_bool HE.out.symm, HBL.out _ _⟩
  subst h2
  have HE : Hid (R = sb) := Lib.hid (by rw [← HR.out]; simp)
  go_enter Tryd.func11, Tryd.ntmps11
  go_wp2_with (go_at_call 16; rw [← HW.out]; refine HC.out.mono ?_; rintro e w1 ⟨rfl, b1⟩)
  go_ret
  exact ⟨ret_bool (by simp [HE.out]), HX.out.trans (b1.mono HX.out.size)⟩
end Go.Proofs.YtbdfehgofnomhaaDoor
/- Layer 9: Put of a query. -/
namespace Go.Proofs.YtbdfehgofnomhaaDoor
open Go.RowKit
set_option linter.unusedVariables false

theorem box_okQ {b q : Nat} {w w' : World} {cs : Array Value} (h : OK b w w') (hq : Has w q 24 cs) (hb : q ≠ b) : Has w' q 24 cs :=
  h q _ hq (by simpa using hb) (by rintro c fz e; cases e)
set_option maxHeartbeats 8000000 in
/-- Put of a query that is right. -/
theorem putQ_any (l : List IT) (A : Option Addr) (c : Nat) (n : Int) (y : Nm) (w : World) (hcap : l.length ≤ 9223372036854775807) (hl : Its w A l) (hT : Tabs w) (hy : y.length ≤ 140737488355328) (hr : rightQ l n y = true) (hlen : (putQ l n y).length ≤ 100000000) :
    Calls Tryd.prog 10 #[qv A l.length c n y] w fun e w' => e = .returned (.string (str (putQ l n y))) ∧ Below w.heap.size w w' := by
  obtain ⟨T, hTT⟩ : ∃ T, putQ l n y = T := ⟨_, rfl⟩
  have hrr := hr
  rw [rightQ] at hrr
  simp only [Bool.and_eq_true, decide_eq_true_eq, Bool.or_eq_true] at hrr
  obtain ⟨⟨hri, hn0, hn1⟩, _⟩ := hrr
  rw [hTT] at hlen ⊢
  rw [putQ] at hTT
  obtain ⟨m, hm⟩ : ∃ m, l.length = m := ⟨_, rfl⟩
  obtain ⟨W, hW⟩ : ∃ W, W = w.alloc (.cells #[.slice A m c, .int .i64 n, .string (str y)] 24) := ⟨_, rfl⟩
  have bl : Below w.heap.size w W := by rw [hW]; exact (Below.refl _ _).alloc (Nat.le_refl _) _
  have hx : Has W w.heap.size 24 #[.slice A m c, .int .i64 n, .string (str y)] := by rw [hW]; exact heap_alloc_new w _
  have hc := rightQ_any l A c n y W hcap (hl.below bl) (hT.below bl) hy
  rw [hr] at hc
  have hpl : (putIs l).length ≤ 100000000 := by rw [← hTT] at hlen; simp at hlen; omega
  have hp : ∀ (w1 : World), Below W.heap.size W w1 → Calls Tryd.prog 20 #[.slice A l.length c, .pointer (some ⟨w1.heap.size, 0, none⟩)] (w1.alloc (.cells #[.pointer none, .slice none 0 0] 52)) fun e w' => e = .returned (.tuple #[]) ∧ PS W w1.heap.size w1.heap.size (putIs l) w' ∧ OK w1.heap.size (w1.alloc (.cells #[.pointer none, .slice none 0 0] 52)) w' := fun w1 hb => by
    have := putL_any (w0 := W) (B := w1.heap.size) (b := w1.heap.size) hb.size (hT.below bl) l A c hcap (hl.below bl) hri [] (w1.alloc (.cells #[.pointer none, .slice none 0 0] 52)) ⟨Lib.IsBuilderF.of (Lib.fresh_isBuilder _ _ w1), hb.alloc hb.size _, by simp⟩ (by simpa using hpl)
    exact this.mono fun e w' h => ⟨h.1, by simpa using h.2.1, h.2.2⟩
  have hTW := hT.below bl
  obtain ⟨d, hd⟩ : ∃ d, putIs l = d := ⟨_, rfl⟩
  obtain ⟨f, hf⟩ : ∃ f, Lib.itoa n = f := ⟨_, rfl⟩
  obtain ⟨v, hv⟩ : ∃ v, [32, 87, 73, 84, 72, 73, 78, 32] ++ f = v := ⟨_, rfl⟩
  rw [hd] at hp hTT
  rw [hf] at hTT
  have lv : v.length = f.length + 8 := by rw [← hv]; simp
  have hT2 : T = (d ++ v) ++ (if y = [] then [] else [32, 66, 89, 32] ++ y) := by rw [← hTT, ← hv]; simp
  have hl3 : d.length + v.length ≤ 100000000 := by rw [hT2] at hlen; simp at hlen; omega
  have ha1 : ∀ W, (Op.stringOp .add { data := #[32, 87, 73, 84, 72, 73, 78, 32] } (str f)).run Tryd.prog W = .ok (.string (str v)) W := fun W => by rw [← hv]; exact run_add_str [32, 87, 73, 84, 72, 73, 78, 32] f (by simp; omega) W
  have HF : Hid (∀ w' : World, Below W.heap.size W w' → Calls Tryd.prog 22 #[.int .i64 n, .int .i64 10] w' fun e w'' => e = .returned (.string (str f)) ∧ Below w'.heap.size w' w'') := Lib.hid fun w' hb => by rw [← hf]; exact format_any n w' (by omega) (by omega) (hTW.below hb)
  have HT2 := Lib.hid hT2
  have HLN := Lib.hid hlen
  have HC := Lib.hid hc
  have HP := Lib.hid hp
  have HW := Lib.hid hW
  have HX := Lib.hid hx
  have HB := Lib.hid bl
  have HL3 := Lib.hid hl3
  rw [hm] at HC HP ⊢
  clear hT2 hlen hc hp hW hx bl hl hT hTW hr hri hn0 hn1 hTT hd hf hv lv hpl hl3 hm
  unfold qv at HC ⊢
  have ey := str_toList y
  by_cases hy0 : y = []
  · have HE : Hid (d ++ v = T) := Lib.hid (by rw [HT2.out, if_pos hy0]; simp)
    have d2 : ((str y).toList == []) = true := by rw [ey, hy0]; rfl
    clear ey hy0 hy
    go_enter Tryd.func10, Tryd.ntmps10
    go_wp2_with fail
    rw [← HW.out]
    refine HC.out.mono ?_
    rintro e w1 ⟨rfl, b1⟩
    have HB1 := Lib.hid b1
    have HBS : Hid (W.heap.size ≤ w1.heap.size) := Lib.hid b1.size
    have hx1 := HX.out.below b1 HX.out.lt
    have HNB : Hid (w.heap.size ≠ w1.heap.size) := Lib.hid (by have := hx1.lt; omega)
    have hx2 := hx1.below ((Below.refl _ w1).alloc (Nat.le_refl _) (.cells #[.pointer none, .slice none 0 0] 52)) hx1.lt
    have HX2 := Lib.hid hx2
    obtain ⟨y0, y1, y2⟩ := three_has hx2
    clear b1 hx1 hx2
    go_wp2_with fail
    refine (HP.out w1 HB1.out).mono ?_
    rintro e w2 ⟨rfl, p2, o2⟩
    have HX3 := Lib.hid (box_okQ o2 HX2.out HNB.out)
    have HP3 := Lib.hid p2
    clear y0 y1 y2 p2 o2
    obtain ⟨y0, y1, y2⟩ := three_has HX3.out
    go_wp2_with fail
    refine (HF.out w2 HP3.out.2.1).mono ?_
    rintro e w4 ⟨rfl, b4⟩
    have HP4 := Lib.hid (HP3.out.below b4)
    have HX4 := Lib.hid (HX3.out.below b4 HX3.out.lt)
    clear y0 y1 y2 b4
    obtain ⟨y0, y1, y2⟩ := three_has HX4.out
    go_wp2_with fail
    refine (ps_str HBS.out v HP4.out (by have := HL3.out; omega) (by have := HL3.out; omega)).mono ?_
    rintro e w5 ⟨rfl, p5, o5⟩
    have HX5 := Lib.hid (box_okQ o5 HX4.out HNB.out)
    have HP5 := Lib.hid p5
    clear y0 y1 y2 p5 o5
    obtain ⟨y0, y1, y2⟩ := three_has HX5.out
    go_wp2_with fail
    refine (bstr_any _ _ T w5 (by rw [← HE.out]; exact HP5.out.1) HP5.out.2.2).mono ?_
    rintro e w6 ⟨rfl, h1, h2, h3⟩
    go_wp2_with fail
    go_ret
    exact ⟨rfl, HB.out.trans (Below.mono (HP5.out.2.1.trans (h2.mono HB1.out.size)) HB.out.size)⟩
  · obtain ⟨g, hg⟩ : ∃ g, [32, 66, 89, 32] ++ y = g := ⟨_, rfl⟩
    have HE : Hid ((d ++ v) ++ g = T) := Lib.hid (by rw [HT2.out, if_neg hy0, hg])
    have d2 : ((str y).toList == []) = false := by rw [ey]; simpa using hy0
    have lg : g.length = y.length + 4 := by rw [← hg]; simp
    have hlg : g.length ≤ 100000000 := by have := HLN.out; rw [← HE.out] at this; simp at this; omega
    have hb1 : ∀ W, (Op.stringOp .add { data := #[32, 66, 89, 32] } (str y)).run Tryd.prog W = .ok (.string (str g)) W := fun W => by rw [← hg]; exact run_add_str [32, 66, 89, 32] y (by simp; omega) W
    have HG := Lib.hid hlg
    clear ey hy0 hy lg hlg hg
    go_enter Tryd.func10, Tryd.ntmps10
    go_wp2_with fail
    rw [← HW.out]
    refine HC.out.mono ?_
    rintro e w1 ⟨rfl, b1⟩
    have HB1 := Lib.hid b1
    have HBS : Hid (W.heap.size ≤ w1.heap.size) := Lib.hid b1.size
    have hx1 := HX.out.below b1 HX.out.lt
    have HNB : Hid (w.heap.size ≠ w1.heap.size) := Lib.hid (by have := hx1.lt; omega)
    have hx2 := hx1.below ((Below.refl _ w1).alloc (Nat.le_refl _) (.cells #[.pointer none, .slice none 0 0] 52)) hx1.lt
    have HX2 := Lib.hid hx2
    obtain ⟨y0, y1, y2⟩ := three_has hx2
    clear b1 hx1 hx2
    go_wp2_with fail
    refine (HP.out w1 HB1.out).mono ?_
    rintro e w2 ⟨rfl, p2, o2⟩
    have HX3 := Lib.hid (box_okQ o2 HX2.out HNB.out)
    have HP3 := Lib.hid p2
    clear y0 y1 y2 p2 o2
    obtain ⟨y0, y1, y2⟩ := three_has HX3.out
    go_wp2_with fail
    refine (HF.out w2 HP3.out.2.1).mono ?_
    rintro e w4 ⟨rfl, b4⟩
    have HP4 := Lib.hid (HP3.out.below b4)
    have HX4 := Lib.hid (HX3.out.below b4 HX3.out.lt)
    clear y0 y1 y2 b4
    obtain ⟨y0, y1, y2⟩ := three_has HX4.out
    go_wp2_with fail
    refine (ps_str HBS.out v HP4.out (by have := HL3.out; omega) (by have := HL3.out; omega)).mono ?_
    rintro e w5 ⟨rfl, p5, o5⟩
    have HX5 := Lib.hid (box_okQ o5 HX4.out HNB.out)
    have HP5 := Lib.hid p5
    clear y0 y1 y2 p5 o5
    obtain ⟨y0, y1, y2⟩ := three_has HX5.out
    go_wp2_with fail
    refine (ps_str HBS.out g HP5.out (by have := HL3.out; simp; omega) (by have := HG.out; omega)).mono ?_
    rintro e w6 ⟨rfl, p6, o6⟩
    go_wp2_with fail
    refine (bstr_any _ _ T w6 (by rw [← HE.out]; exact p6.1) p6.2.2).mono ?_
    rintro e w7 ⟨rfl, h1, h2, h3⟩
    go_wp2_with fail
    go_ret
    exact ⟨rfl, HB.out.trans (Below.mono (p6.2.1.trans (h2.mono HB1.out.size)) HB.out.size)⟩
end Go.Proofs.YtbdfehgofnomhaaDoor
