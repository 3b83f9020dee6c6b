/- Layer 9: putAll. -/
import Derived.Test.YtbdfehgofnomhaaDoorPaIt
import Derived.Test.YtbdfehgofnomhaaDoorExPutWalk
namespace Go.Proofs.YtbdfehgofnomhaaDoor
open Go.RowKit
set_option linter.unusedVariables false

theorem box_okI {b q : Nat} {w w' : World} {cs : Array Value} (h : OK b w w') (hq : Has w q 42 cs) (hb : q ≠ b) : Has w' q 42 cs :=
  h q _ hq (by simpa using hb) (by rintro c fz e; cases e)
/-- What put does at an item. -/
def PutI (w0 : World) (B b : Nat) (t : IT) : Prop := ∀ (l : Nm) (w : World), PS w0 B b l w → l.length + (putI t).length ≤ 100000000 →
  Calls Tryd.prog 39 #[t.val, .pointer (some ⟨b, 0, none⟩)] w fun e w' => e = .returned (.tuple #[]) ∧ PS w0 B b (l ++ putI t) w' ∧ OK b w w'
def rstI (l : List IT) (k : Nat) : Nm := if k = 0 then putIs l else putTl (l.drop k)
def rstK (l : List (List IT)) (k : Nat) : Nm := if k = 0 then putKs l else putKt (l.drop k)
theorem rstI_end {l : List IT} {k : Nat} (h : l.length ≤ k) : rstI l k = [] := by
  unfold rstI
  split
  · rename_i e; subst e; rw [List.length_eq_zero_iff.1 (by omega : l.length = 0)]; rw [putIs]
  · rw [List.drop_eq_nil_of_le h, putTl_nil]
theorem rstK_end {l : List (List IT)} {k : Nat} (h : l.length ≤ k) : rstK l k = [] := by
  unfold rstK
  split
  · rename_i e; subst e; rw [List.length_eq_zero_iff.1 (by omega : l.length = 0)]; rw [putKs]
  · rw [List.drop_eq_nil_of_le h, putKt_nil]
theorem rstI_first {l : List IT} (h : 0 < l.length) : rstI l 0 = putI l[0] ++ rstI l 1 := by
  unfold rstI
  rw [if_pos rfl, if_neg (by omega)]
  match l, h with
  | x :: xs, _ => rw [putIs_cons]; rfl
theorem rstK_first {l : List (List IT)} (h : 0 < l.length) : rstK l 0 = putIs l[0] ++ rstK l 1 := by
  unfold rstK
  rw [if_pos rfl, if_neg (by omega)]
  match l, h with
  | x :: xs, _ => rw [putKs_cons]; rfl
theorem rstI_next {l : List IT} {k : Nat} (h0 : k ≠ 0) (h : k < l.length) : rstI l k = [32, 59, 32] ++ (putI l[k] ++ rstI l (k + 1)) := by
  unfold rstI
  rw [if_neg h0, if_neg (by omega), List.drop_eq_getElem_cons h, putTl_cons]
theorem rstK_next {l : List (List IT)} {k : Nat} (h0 : k ≠ 0) (h : k < l.length) : rstK l k = [32, 124, 32] ++ (putIs l[k] ++ rstK l (k + 1)) := by
  unfold rstK
  rw [if_neg h0, if_neg (by omega), List.drop_eq_getElem_cons h, putKt_cons]
set_option maxHeartbeats 8000000 in
theorem putAllI_any {w0 : World} {B b : Nat} (hB : w0.heap.size ≤ B) (l : List IT) (A : Option Addr) (c : Nat) (hcap : l.length ≤ 9223372036854775807) (hl : Its w0 A l)
    (ih : ∀ t ∈ l, PutI w0 B b t) (sep : Nm) (hsep : sep = [32, 59, 32]) (acc : Nm) (w : World) (hps : PS w0 B b acc w) (hlen : acc.length + (putIs l).length ≤ 100000000) :
    Calls Tryd.prog 38 #[.slice A l.length c, .string (str sep), .pointer (some ⟨b, 0, none⟩), .func (Fn.func 39) #[] #[]] w fun e w' => e = .returned (.tuple #[]) ∧ PS w0 B b (acc ++ putIs l) w' ∧ OK b w w' := by
  obtain ⟨T, hTT⟩ : ∃ T, acc ++ putIs l = T := ⟨_, rfl⟩
  have hTl : T.length ≤ 100000000 := by rw [← hTT]; simpa using hlen
  rw [hTT]
  have HT := Lib.hid hTT
  have HTL := Lib.hid hTl
  have HI := Lib.hid ih
  have HK := Lib.hid hl
  have HP := Lib.hid hps
  have HB := Lib.hid hB
  have HSEP := Lib.hid hsep
  clear hTT hTl ih hl hps hB hlen hsep
  go_enter Tryd.func38, Tryd.ntmps38
  go_wp2
  go_loopw [12] (fun i wr => ∃ (k : Nat) (t : Nm), k ≤ l.length ∧ i = .int .i64 k ∧ PS w0 B b t wr ∧ t ++ rstI l k = T ∧ OK b w wr) (fun i _ => l.length - (intOf i).toNat)
  case atStart => exact ⟨0, acc, Nat.zero_le _, rfl, HP.out, by rw [← HT.out]; rfl, ok_below (Below.refl _ _)⟩
  case round =>
    obtain ⟨j, t, hj, rfl, hps, hrest, hok⟩ := hrel
    have HRR := Lib.hid hrest
    have HPS := Lib.hid hps
    have HOK := Lib.hid hok
    clear hrest hps hok
    have htl : t.length ≤ 100000000 := by have := HRR.out; have := HTL.out; rw [← HRR.out] at this; simp at this; omega
    have HTT := Lib.hid htl
    clear htl
    by_cases hlt : j < l.length
    · obtain ⟨⟨b', off, rfl, g0, g1, g2, g3, g4, g5, g6⟩, hkin⟩ := HK.out j hlt
      have gg : ∀ (p : Addr) v, w0.cell? p = some v → wr.cell? p = some v := below_imp HPS.out.2.1
      replace g0 := gg _ _ g0
      replace g1 := gg _ _ g1
      replace g2 := gg _ _ g2
      replace g3 := gg _ _ g3
      replace g4 := gg _ _ g4
      replace g5 := gg _ _ g5
      replace g6 := gg _ _ g6
      clear gg hkin
      obtain ⟨x, hx⟩ : ∃ x, l[j] = x := ⟨_, rfl⟩
      have hmem : x ∈ l := by rw [← hx]; exact List.getElem_mem _
      rw [hx] at g0 g1 g2 g3 g4 g5 g6
      obtain ⟨W, hW⟩ : ∃ W, W = wr.alloc (.cells #[.int .i64 x.k, .string (str x.nm), .string (str x.vr), .slice x.pA x.ps.length x.pc, .int .i64 x.lo, .int .i64 x.hi, .slice x.kA x.ks.length x.kc] 42) := ⟨_, rfl⟩
      have bl : Below wr.heap.size wr W := by rw [hW]; exact (Below.refl _ _).alloc (Nat.le_refl _) _
      have hbx : Has W wr.heap.size 42 #[.int .i64 x.k, .string (str x.nm), .string (str x.vr), .slice x.pA x.ps.length x.pc, .int .i64 x.lo, .int .i64 x.hi, .slice x.kA x.ks.length x.kc] := by rw [hW]; exact heap_alloc_new wr _
      have pW := HPS.out.below bl
      have okW := HOK.out.trans (ok_below bl)
      have hib := HI.out x hmem
      have hval : x.val = Value.agg #[.int .i64 x.k, .string (str x.nm), .string (str x.vr), .slice x.pA x.ps.length x.pc, .int .i64 x.lo, .int .i64 x.hi, .slice x.kA x.ks.length x.kc] := rfl
      by_cases j0 : j = 0
      · have dj : decide ((0 : Int) < (j : Int)) = false := by simp; omega
        have dj2 : ¬ 0 < j := by omega
        have hst : T = (t ++ putI x) ++ rstI l (j + 1) := by
          have h0 := hlt
          rw [j0] at h0
          have hx0 : l[0] = x := by rw [← hx]; congr 1; exact j0.symm
          rw [← HRR.out, j0, rstI_first h0, hx0, List.append_assoc]
        have hcl := hib t W pW
        rw [hval] at hcl
        obtain ⟨v, hv⟩ : ∃ v, putI x = v := ⟨_, rfl⟩
        rw [hv] at hcl hst
        have HCL := Lib.hid (hcl (by have := HTL.out; rw [hst] at this; simp at this; omega))
        have HST := Lib.hid hst
        have HW := Lib.hid hW
        have HOKW := Lib.hid okW
        clear hcl hst hv hx j0 hW bl hbx pW okW hmem hib hval
        go_wp2_with (go_at_call 39; rw [← HW.out]; refine HCL.out.mono ?_; rintro e w' ⟨rfl, p2, o2⟩)
        go_roundw
        case rel => exact ⟨j + 1, t ++ v, by omega, by go_num, p2, HST.out.symm, HOKW.out.trans o2⟩
        case measure => simp [intOf]; omega
      · have dj : decide ((0 : Int) < (j : Int)) = true := by simp; omega
        have dj2 : 0 < j := by omega
        have hst : T = ((t ++ sep) ++ putI x) ++ rstI l (j + 1) := by rw [← HRR.out, rstI_next j0 hlt, hx, HSEP.out]; simp
        obtain ⟨v, hv⟩ : ∃ v, putI x = v := ⟨_, rfl⟩
        rw [hv] at hst
        have hl3 : t.length + sep.length + v.length ≤ 100000000 := by have := HTL.out; rw [hst] at this; simp at this; omega
        have HST := Lib.hid hst
        have HX := Lib.hid hx
        have HV := Lib.hid hv
        have HL3 := Lib.hid hl3
        have HW := Lib.hid hW
        have HOKW := Lib.hid okW
        have HPW := Lib.hid pW
        have HBX := Lib.hid hbx
        have HBN : Hid (wr.heap.size ≠ b) := Lib.hid (by have := bld_lt HPS.out.1; omega)
        obtain ⟨y0, y1, y2, y3, y4, y5, y6⟩ := seven_has hbx
        clear hst hv hx hl3 hW bl hbx pW okW hmem
        go_wp2_with fail
        rw [← HW.out]
        refine (ps_str (B := B) (b := b) HB.out sep HPW.out (by have := HTT.out; omega) (by have := HL3.out; omega)).mono ?_
        rintro e w1 ⟨rfl, p1, o1⟩
        have hcl := hib (t ++ sep) w1 p1
        rw [hval] at hcl
        rw [HV.out] at hcl
        have HCL := Lib.hid (hcl (by have := HL3.out; simp; omega))
        obtain ⟨z0, z1, z2, z3, z4, z5, z6⟩ := seven_has (box_okI o1 HBX.out HBN.out)
        clear y0 y1 y2 y3 y4 y5 y6 hib hval
        clear hcl
        go_wp2_with (go_at_call 39; refine HCL.out.mono ?_; rintro e w' ⟨rfl, p2, o2⟩)
        go_roundw
        case rel => exact ⟨j + 1, (t ++ sep) ++ v, by omega, by go_num, p2, HST.out.symm, (HOKW.out.trans o1).trans o2⟩
        case measure => simp [intOf]; omega
    · have HE : Hid (t = T) := Lib.hid (by have := HRR.out; rw [rstI_end (by omega)] at this; simpa using this)
      go_wp2
      go_end0
      exact ⟨rfl, by rw [← HE.out]; exact HPS.out, HOK.out⟩
set_option maxHeartbeats 8000000 in
theorem putAllK_any {w0 : World} {B b : Nat} (hB : w0.heap.size ≤ B) (l : List (List IT)) (kp : List (Option Addr × Nat)) (A : Option Addr) (c : Nat) (hcap : l.length ≤ 9223372036854775807) (hl : Kds w0 A l kp)
    (ih : ∀ j (h : j < l.length) (h2 : j < kp.length) (acc : Nm) (w : World), PS w0 B b acc w → acc.length + (putIs l[j]).length ≤ 100000000 → Calls Tryd.prog 20 #[.slice kp[j].1 l[j].length kp[j].2, .pointer (some ⟨b, 0, none⟩)] w fun e w' => e = .returned (.tuple #[]) ∧ PS w0 B b (acc ++ putIs l[j]) w' ∧ OK b w w') (sep : Nm) (hsep : sep = [32, 124, 32]) (acc : Nm) (w : World) (hps : PS w0 B b acc w) (hlen : acc.length + (putKs l).length ≤ 100000000) :
    Calls Tryd.prog 54 #[.slice A l.length c, .string (str sep), .pointer (some ⟨b, 0, none⟩), .func (Fn.func 20) #[] #[]] w fun e w' => e = .returned (.tuple #[]) ∧ PS w0 B b (acc ++ putKs l) w' ∧ OK b w w' := by
  obtain ⟨T, hTT⟩ : ∃ T, acc ++ putKs l = T := ⟨_, rfl⟩
  have hTl : T.length ≤ 100000000 := by rw [← hTT]; simpa using hlen
  rw [hTT]
  have HT := Lib.hid hTT
  have HTL := Lib.hid hTl
  have HI := Lib.hid ih
  have HK := Lib.hid hl
  have HP := Lib.hid hps
  have HB := Lib.hid hB
  have HSEP := Lib.hid hsep
  clear hTT hTl ih hl hps hB hlen hsep
  go_enter Tryd.func54, Tryd.ntmps54
  go_wp2
  go_loopw [12] (fun i wr => ∃ (k : Nat) (t : Nm), k ≤ l.length ∧ i = .int .i64 k ∧ PS w0 B b t wr ∧ t ++ rstK l k = T ∧ OK b w wr) (fun i _ => l.length - (intOf i).toNat)
  case atStart => exact ⟨0, acc, Nat.zero_le _, rfl, HP.out, by rw [← HT.out]; rfl, ok_below (Below.refl _ _)⟩
  case round =>
    obtain ⟨j, t, hj, rfl, hps, hrest, hok⟩ := hrel
    have HRR := Lib.hid hrest
    have HPS := Lib.hid hps
    have HOK := Lib.hid hok
    clear hrest hps hok
    have htl : t.length ≤ 100000000 := by have := HRR.out; have := HTL.out; rw [← HRR.out] at this; simp at this; omega
    have HTT := Lib.hid htl
    clear htl
    by_cases hlt : j < l.length
    · have hlt' : j < kp.length := by rw [HK.out.1]; exact hlt
      obtain ⟨b', off, rfl, g0⟩ := (HK.out.2 j hlt hlt').1.1.imp (below_imp HPS.out.2.1)
      have hib := HI.out j hlt hlt'
      obtain ⟨x, hx⟩ : ∃ x, l[j] = x := ⟨_, rfl⟩
      obtain ⟨q, hq⟩ : ∃ q, kp[j] = q := ⟨_, rfl⟩
      rw [hx, hq] at g0 hib
      by_cases j0 : j = 0
      · have dj : decide ((0 : Int) < (j : Int)) = false := by simp; omega
        have dj2 : ¬ 0 < j := by omega
        have hst : T = (t ++ putIs x) ++ rstK l (j + 1) := by
          have h0 := hlt
          rw [j0] at h0
          have hx0 : l[0] = x := by rw [← hx]; congr 1; exact j0.symm
          rw [← HRR.out, j0, rstK_first h0, hx0, List.append_assoc]
        have hcl := hib t wr HPS.out
        obtain ⟨v, hv⟩ : ∃ v, putIs x = v := ⟨_, rfl⟩
        rw [hv] at hcl hst
        have HCL := Lib.hid (hcl (by have := HTL.out; rw [hst] at this; simp at this; omega))
        have HST := Lib.hid hst
        clear hcl hst hv hx j0 hq hib
        go_wp2_with (go_at_call 20; refine HCL.out.mono ?_; rintro e w' ⟨rfl, p2, o2⟩)
        go_roundw
        case rel => exact ⟨j + 1, t ++ v, by omega, by go_num, p2, HST.out.symm, HOK.out.trans o2⟩
        case measure => simp [intOf]; omega
      · have dj : decide ((0 : Int) < (j : Int)) = true := by simp; omega
        have dj2 : 0 < j := by omega
        have hst : T = ((t ++ sep) ++ putIs x) ++ rstK l (j + 1) := by rw [← HRR.out, rstK_next j0 hlt, hx, HSEP.out]; simp
        obtain ⟨v, hv⟩ : ∃ v, putIs x = v := ⟨_, rfl⟩
        rw [hv] at hst
        have hl3 : t.length + sep.length + v.length ≤ 100000000 := by have := HTL.out; rw [hst] at this; simp at this; omega
        have HST := Lib.hid hst
        have HX := Lib.hid hx
        have HV := Lib.hid hv
        have HL3 := Lib.hid hl3
        clear hst hv hx hl3 hq
        go_wp2_with fail
        refine (ps_str (B := B) (b := b) HB.out sep HPS.out (by have := HTT.out; omega) (by have := HL3.out; omega)).mono ?_
        rintro e w1 ⟨rfl, p1, o1⟩
        have hcl := hib (t ++ sep) w1 p1
        rw [HV.out] at hcl
        have HCL := Lib.hid (hcl (by have := HL3.out; simp; omega))
        clear hib
        clear hcl
        go_wp2_with (go_at_call 20; refine HCL.out.mono ?_; rintro e w' ⟨rfl, p2, o2⟩)
        go_roundw
        case rel => exact ⟨j + 1, (t ++ sep) ++ v, by omega, by go_num, p2, HST.out.symm, (HOK.out.trans o1).trans o2⟩
        case measure => simp [intOf]; omega
    · have HE : Hid (t = T) := Lib.hid (by have := HRR.out; rw [rstK_end (by omega)] at this; simpa using this)
      go_wp2
      go_end0
      exact ⟨rfl, by rw [← HE.out]; exact HPS.out, HOK.out⟩
end Go.Proofs.YtbdfehgofnomhaaDoor
