/- Layer 9: same. -/
import Derived.Test.YtbdfehgofnomhaaDoorPaIt
import Derived.Test.YtbdfehgofnomhaaDoorExSame
import Derived.Test.YtbdfehgofnomhaaDoorExSaid
namespace Go.Proofs.YtbdfehgofnomhaaDoor
open Go.RowKit
set_option linter.unusedVariables false

theorem samePs_eq : ∀ (ps qs : List ET), samePs ps qs = (decide (ps.length = qs.length) && sameLs ps qs)
  | [], [] => by rw [samePs, sameLs]; rfl
  | [], y :: ys => by rw [samePs, sameLs]; rfl
  | x :: xs, [] => by rw [samePs]; simp
  | x :: xs, y :: ys => by
    rw [samePs, sameLs, samePs_eq xs ys]
    cases sameT x y <;> simp
theorem sameIs_len : ∀ (l m : List IT), l.length ≠ m.length → sameIs l m = false
  | [], [], h => absurd rfl h
  | [], y :: ys, h => by rw [sameIs]; rfl
  | x :: xs, [], h => by rw [sameIs]
  | x :: xs, y :: ys, h => by rw [sameIs_cons, sameIs_len xs ys (by simpa using h)]; simp
theorem sameKs_len : ∀ (l m : List (List IT)), l.length ≠ m.length → sameKs l m = false
  | [], [], h => absurd rfl h
  | [], y :: ys, h => by rw [sameKs]; rfl
  | x :: xs, [], h => by rw [sameKs]
  | x :: xs, y :: ys, h => by rw [sameKs_cons, sameKs_len xs ys (by simpa using h)]; simp
set_option maxHeartbeats 2000000 in
theorem eqE_any (ps qs : List ET) (A B : Option Addr) (c d : Nat) (w : World) (hcap : ps.length ≤ 9223372036854775807) (hp : Ets w A ps) (hq : Ets w B qs) :
    Calls Tryd.prog 47 #[.slice A ps.length c, .slice B qs.length d, .func (Fn.func 48) #[] #[]] w fun e w' => e = .returned (.bool (samePs ps qs)) ∧ Below w.heap.size w w' := by
  by_cases hl : ps.length = qs.length
  · rw [samePs_eq, decide_eq_true hl, Bool.true_and]
    exact eqf_any ps (fun t ht u w' h1 h2 => sameT_any t u w' h1 h2) qs A B c d w hl hcap hp hq
  · rw [samePs_eq, decide_eq_false hl, Bool.false_and]
    have d1 : ((ps.length : Int) != (qs.length : Int)) = true := by simp; omega
    clear hp hq
    go_enter Tryd.func47, Tryd.ntmps47
    go_wp2
    go_ret
    exact ⟨rfl, Below.refl _ _⟩
set_option maxHeartbeats 4000000 in
theorem eqI_any (l m : List IT) (A B : Option Addr) (c d : Nat) (w : World) (hcap : l.length ≤ 9223372036854775807) (hl : Its w A l) (hm : Its w B m)
    (ih : ∀ t ∈ l, ∀ u ∈ m, ∀ w', Below w.heap.size w w' → Calls Tryd.prog 31 #[t.val, u.val] w' fun e w'' => e = .returned (.bool (sameI t u)) ∧ Below w'.heap.size w' w'') :
    Calls Tryd.prog 30 #[.slice A l.length c, .slice B m.length d, .func (Fn.func 31) #[] #[]] w fun e w' => e = .returned (.bool (sameIs l m)) ∧ Below w.heap.size w w' := by
  by_cases hlen : l.length = m.length
  case neg =>
    rw [sameIs_len l m hlen]
    have d1 : ((l.length : Int) != (m.length : Int)) = true := by simp; omega
    clear hl hm ih
    go_enter Tryd.func30, Tryd.ntmps30
    go_wp2
    go_ret
    exact ⟨rfl, Below.refl _ _⟩
  obtain ⟨R, hR⟩ : ∃ R, sameIs l m = R := ⟨_, rfl⟩
  rw [hR]
  have d1 : ((l.length : Int) != (m.length : Int)) = false := by simp; omega
  have hcap2 : m.length ≤ 9223372036854775807 := by omega
  have HL := Lib.hid hlen
  have HR := Lib.hid hR
  have HI := Lib.hid ih
  have HK := Lib.hid hl
  have HM := Lib.hid hm
  clear hR ih hl hm hlen
  go_enter Tryd.func30, Tryd.ntmps30
  go_wp2
  go_loopw [17] (fun i wr => ∃ k : Nat, k ≤ l.length ∧ i = .int .i64 k ∧ sameIs (l.drop k) (m.drop k) = R ∧ Below w.heap.size w wr) (fun i _ => l.length - (intOf i).toNat)
  case atStart => exact ⟨0, Nat.zero_le _, rfl, HR.out, Below.refl _ _⟩
  case round =>
    obtain ⟨j, hj, rfl, hrest, hb⟩ := hrel
    have HRR := Lib.hid hrest
    have HB := Lib.hid hb
    clear hrest hb
    by_cases hlt : j < l.length
    · have hlt' : j < m.length := by have := HL.out; omega
      obtain ⟨⟨b, off, rfl, g0, g1, g2, g3, g4, g5, g6⟩, hkin⟩ := (HK.out j hlt).imp (fun h => h.below HB.out) (fun h => h.below HB.out)
      obtain ⟨⟨b', off', rfl, q0, q1, q2, q3, q4, q5, q6⟩, huin⟩ := (HM.out j hlt').imp (fun h => h.below HB.out) (fun h => h.below HB.out)
      have e1 := List.drop_eq_getElem_cons hlt
      have e2 := List.drop_eq_getElem_cons hlt'
      obtain ⟨x, hx⟩ : ∃ x, l[j] = x := ⟨_, rfl⟩
      obtain ⟨y, hy⟩ : ∃ y, m[j] = y := ⟨_, rfl⟩
      have hmx : x ∈ l := by rw [← hx]; exact List.getElem_mem _
      have hmy : y ∈ m := by rw [← hy]; exact List.getElem_mem _
      rw [hx] at g0 g1 g2 g3 g4 g5 g6 e1
      rw [hy] at q0 q1 q2 q3 q4 q5 q6 e2
      have z0 := World.block_lt_of_cell? _ _ q0
      simp only at z0
      obtain ⟨W, hW⟩ : ∃ W, W = (wr.alloc (.cells #[.int .i64 x.k, .string (str x.nm), .string (str x.vr), .slice x.pA x.ps.length x.pc, .int .i64 x.lo, .int .i64 x.hi, .slice x.kA x.ks.length x.kc] 42)).alloc (.cells #[.int .i64 y.k, .string (str y.nm), .string (str y.vr), .slice y.pA y.ps.length y.pc, .int .i64 y.lo, .int .i64 y.hi, .slice y.kA y.ks.length y.kc] 42) := ⟨_, rfl⟩
      have bl : Below wr.heap.size wr W := by rw [hW]; exact ((Below.refl _ _).alloc (Nat.le_refl _) _).alloc (by simp) _
      have bt := HB.out.trans (bl.mono HB.out.size)
      have hcl := HI.out x hmx y hmy W bt
      rw [show x.val = Value.agg #[.int .i64 x.k, .string (str x.nm), .string (str x.vr), .slice x.pA x.ps.length x.pc, .int .i64 x.lo, .int .i64 x.hi, .slice x.kA x.ks.length x.kc] from rfl, show y.val = Value.agg #[.int .i64 y.k, .string (str y.nm), .string (str y.vr), .slice y.pA y.ps.length y.pc, .int .i64 y.lo, .int .i64 y.hi, .slice y.kA y.ks.length y.kc] from rfl] at hcl
      have hst : sameIs (l.drop j) (m.drop j) = (sameI x y && sameIs (l.drop (j + 1)) (m.drop (j + 1))) := by rw [e1, e2, sameIs_cons]
      obtain ⟨sb, hsb⟩ : ∃ sb, sameI x y = sb := ⟨_, rfl⟩
      rw [hsb] at hcl hst
      have HC := Lib.hid hcl
      have HW := Lib.hid hW
      have HBT := Lib.hid bt
      have HST := Lib.hid hst
      clear hcl hW bt hst hkin huin e1 e2 hx hy hmx hmy bl hsb
      cases sb with
      | false =>
        go_wp2_with (go_at_call 31; rw [← HW.out]; refine HC.out.mono ?_; rintro e w' ⟨rfl, hb2⟩)
        go_ret
        exact ⟨ret_bool (by rw [← HRR.out, HST.out]; rfl), HBT.out.trans (hb2.mono HBT.out.size)⟩
      | true =>
        go_wp2_with (go_at_call 31; rw [← HW.out]; refine HC.out.mono ?_; rintro e w' ⟨rfl, hb2⟩)
        go_roundw
        case rel => exact ⟨j + 1, by omega, by go_num, by rw [← HRR.out, HST.out]; rfl, HBT.out.trans (hb2.mono HBT.out.size)⟩
        case measure => simp [intOf]; omega
    · have HE : Hid (R = true) := Lib.hid (by rw [← HRR.out, List.drop_eq_nil_of_le (by omega), List.drop_eq_nil_of_le (by have := HL.out; omega), sameIs_nil])
      go_wp2
      go_ret
      exact ⟨ret_bool HE.out.symm, HB.out⟩
set_option maxHeartbeats 4000000 in
theorem eqK_any (l m : List (List IT)) (kp kq : List (Option Addr × Nat)) (A B : Option Addr) (c d : Nat) (w : World) (hcap : l.length ≤ 9223372036854775807) (hl : Kds w A l kp) (hm : Kds w B m kq)
    (ih : ∀ j (h : j < l.length) (h' : j < kp.length) (h2 : j < m.length) (h2' : j < kq.length), ∀ w', Below w.heap.size w w' → Calls Tryd.prog 16 #[.slice kp[j].1 l[j].length kp[j].2, .slice kq[j].1 m[j].length kq[j].2] w' fun e w'' => e = .returned (.bool (sameIs l[j] m[j])) ∧ Below w'.heap.size w' w'') :
    Calls Tryd.prog 49 #[.slice A l.length c, .slice B m.length d, .func (Fn.func 16) #[] #[]] w fun e w' => e = .returned (.bool (sameKs l m)) ∧ Below w.heap.size w w' := by
  by_cases hlen : l.length = m.length
  case neg =>
    rw [sameKs_len l m hlen]
    have d1 : ((l.length : Int) != (m.length : Int)) = true := by simp; omega
    clear hl hm ih
    go_enter Tryd.func49, Tryd.ntmps49
    go_wp2
    go_ret
    exact ⟨rfl, Below.refl _ _⟩
  obtain ⟨R, hR⟩ : ∃ R, sameKs l m = R := ⟨_, rfl⟩
  rw [hR]
  have d1 : ((l.length : Int) != (m.length : Int)) = false := by simp; omega
  have hcap2 : m.length ≤ 9223372036854775807 := by omega
  have HL := Lib.hid hlen
  have HR := Lib.hid hR
  have HI := Lib.hid ih
  have HK := Lib.hid hl
  have HM := Lib.hid hm
  clear hR ih hl hm hlen
  go_enter Tryd.func49, Tryd.ntmps49
  go_wp2
  go_loopw [17] (fun i wr => ∃ k : Nat, k ≤ l.length ∧ i = .int .i64 k ∧ sameKs (l.drop k) (m.drop k) = R ∧ Below w.heap.size w wr) (fun i _ => l.length - (intOf i).toNat)
  case atStart => exact ⟨0, Nat.zero_le _, rfl, HR.out, Below.refl _ _⟩
  case round =>
    obtain ⟨j, hj, rfl, hrest, hb⟩ := hrel
    have HRR := Lib.hid hrest
    have HB := Lib.hid hb
    clear hrest hb
    by_cases hlt : j < l.length
    · have hlt' : j < m.length := by have := HL.out; omega
      have hk1 : j < kp.length := by rw [HK.out.1]; exact hlt
      have hk2 : j < kq.length := by rw [HM.out.1]; exact hlt'
      obtain ⟨b, off, rfl, g0⟩ := (HK.out.2 j hlt hk1).1.1.imp (below_imp HB.out)
      obtain ⟨b', off', rfl, q0⟩ := (HM.out.2 j hlt' hk2).1.1.imp (below_imp HB.out)
      have hcl := HI.out j hlt hk1 hlt' hk2 wr HB.out
      have e1 := List.drop_eq_getElem_cons hlt
      have e2 := List.drop_eq_getElem_cons hlt'
      obtain ⟨x, hx⟩ : ∃ x, l[j] = x := ⟨_, rfl⟩
      obtain ⟨y, hy⟩ : ∃ y, m[j] = y := ⟨_, rfl⟩
      obtain ⟨p1, hp1⟩ : ∃ q, kp[j] = q := ⟨_, rfl⟩
      obtain ⟨p2, hp2⟩ : ∃ q, kq[j] = q := ⟨_, rfl⟩
      rw [hx, hp1] at g0
      rw [hy, hp2] at q0
      rw [hx, hy, hp1, hp2] at hcl
      rw [hx] at e1
      rw [hy] at e2
      have hst : sameKs (l.drop j) (m.drop j) = (sameIs x y && sameKs (l.drop (j + 1)) (m.drop (j + 1))) := by rw [e1, e2, sameKs_cons]
      obtain ⟨sb, hsb⟩ : ∃ sb, sameIs x y = sb := ⟨_, rfl⟩
      rw [hsb] at hcl hst
      have HC := Lib.hid hcl
      have HST := Lib.hid hst
      clear hcl hst e1 e2 hx hy hp1 hp2 hsb
      cases sb with
      | false =>
        go_wp2_with (go_at_call 16; refine HC.out.mono ?_; rintro e w' ⟨rfl, hb2⟩)
        go_ret
        exact ⟨ret_bool (by rw [← HRR.out, HST.out]; rfl), HB.out.trans (hb2.mono HB.out.size)⟩
      | true =>
        go_wp2_with (go_at_call 16; refine HC.out.mono ?_; rintro e w' ⟨rfl, hb2⟩)
        go_roundw
        case rel => exact ⟨j + 1, by omega, by go_num, by rw [← HRR.out, HST.out]; rfl, HB.out.trans (hb2.mono HB.out.size)⟩
        case measure => simp [intOf]; omega
    · have HE : Hid (R = true) := Lib.hid (by rw [← HRR.out, List.drop_eq_nil_of_le (by omega), List.drop_eq_nil_of_le (by have := HL.out; omega), sameKs_nil])
      go_wp2
      go_ret
      exact ⟨ret_bool HE.out.symm, HB.out⟩
theorem sameIs_of (l m : List IT) (A B : Option Addr) (c d : Nat) (w : World) (hcap : l.length ≤ 9223372036854775807) (hl : Its w A l) (hm : Its w B m)
    (ih : ∀ t ∈ l, ∀ u ∈ m, ∀ w', Below w.heap.size w w' → Calls Tryd.prog 31 #[t.val, u.val] w' fun e w'' => e = .returned (.bool (sameI t u)) ∧ Below w'.heap.size w' w'') :
    Calls Tryd.prog 16 #[.slice A l.length c, .slice B m.length d] w fun e w' => e = .returned (.bool (sameIs l m)) ∧ Below w.heap.size w w' := by
  have HC := Lib.hid (eqI_any l m A B c d w hcap hl hm ih)
  clear ih hl hm
  go_enter Tryd.func16, Tryd.ntmps16
  go_wp2_with (go_at_call 30; refine HC.out.mono ?_; rintro e w1 ⟨rfl, b1⟩)
  go_ret
  exact ⟨rfl, b1⟩
set_option maxHeartbeats 8000000 in
theorem sameI_any : ∀ (t u : IT) (w : World), t.In w → u.In w → Calls Tryd.prog 31 #[t.val, u.val] w fun e w' => e = .returned (.bool (sameI t u)) ∧ Below w.heap.size w w' := by
  refine IT.ind fun k nm vr pA pc ps lo hi kA kc kp ks ih u w hin huin => ?_
  obtain ⟨k', nm', vr', pA', pc', qs, lo', hi', kA', kc', kq, ms⟩ := u
  have okp := okS_cap hin.ok.2.2.2.2.2.1
  have okk := okS_cap hin.ok.2.2.2.2.2.2
  obtain ⟨x1, x2, x3⟩ := two_new w (csIm k nm vr pA ps.length pc lo hi kA ks.length kc) (csIm k' nm' vr' pA' qs.length pc' lo' hi' kA' ms.length kc') 42 42
  obtain ⟨W, hW⟩ : ∃ W, W = (w.alloc (.cells (csIm k nm vr pA ps.length pc lo hi kA ks.length kc) 42)).alloc (.cells (csIm k' nm' vr' pA' qs.length pc' lo' hi' kA' ms.length kc') 42) := ⟨_, rfl⟩
  rw [← hW] at x1 x2 x3
  have hE := eqE_any ps qs pA pA' pc pc' W okp (fun j hj => ⟨(hin.preds j hj).1.below x3, (hin.preds j hj).2.below x3⟩) (fun j hj => ⟨(huin.preds j hj).1.below x3, (huin.preds j hj).2.below x3⟩)
  have hK : ∀ W', Below W.heap.size W W' → Calls Tryd.prog 49 #[.slice kA ks.length kc, .slice kA' ms.length kc', .func (Fn.func 16) #[] #[]] W' fun e w' => e = .returned (.bool (sameKs ks ms)) ∧ Below W'.heap.size W' w' := fun W' hb =>
    eqK_any ks ms kp kq kA kA' kc kc' W' okk ((hin.kds.below x3).below hb) ((huin.kds.below x3).below hb) fun j h1 h2 h3 h4 w' hb2 =>
      sameIs_of ks[j] ms[j] kp[j].1 kq[j].1 kp[j].2 kq[j].2 w' (okS_cap (hin.kids j h1 h2).1.2) ((((hin.kds.below x3).below hb).below hb2).2 j h1 h2).2 ((((huin.kds.below x3).below hb).below hb2).2 j h3 h4).2
        fun t ht u hu w'' hb3 => ih _ (List.getElem_mem _) t ht u w'' (by
          obtain ⟨i, hi, rfl⟩ := List.getElem_of_mem ht
          exact ((((((hin.kds.below x3).below hb).below hb2).2 j h1 h2).2 i hi).2).below hb3) (by
          obtain ⟨i, hi, rfl⟩ := List.getElem_of_mem hu
          exact ((((((huin.kds.below x3).below hb).below hb2).2 j h3 h4).2 i hi).2).below hb3)
  obtain ⟨R, hR⟩ : ∃ R, sameI (.mk k nm vr pA pc ps lo hi kA kc kp ks) (.mk k' nm' vr' pA' pc' qs lo' hi' kA' kc' kq ms) = R := ⟨_, rfl⟩
  rw [hR]
  rw [sameI_mk] at hR
  simp only [IT.k, IT.nm, IT.vr, IT.lo, IT.hi, IT.ps, IT.ks] at hR
  obtain ⟨eb, heb⟩ : ∃ eb, samePs ps qs = eb := ⟨_, rfl⟩
  obtain ⟨kb, hkb⟩ : ∃ kb, sameKs ks ms = kb := ⟨_, rfl⟩
  rw [heb] at hE hR
  rw [hkb] at hK hR
  show Calls _ _ #[.agg #[.int .i64 k, .string (str nm), .string (str vr), .slice pA ps.length pc, .int .i64 lo, .int .i64 hi, .slice kA ks.length kc], .agg #[.int .i64 k', .string (str nm'), .string (str vr'), .slice pA' qs.length pc', .int .i64 lo', .int .i64 hi', .slice kA' ms.length kc']] _ _
  obtain ⟨pm, hpm⟩ : ∃ pm, ps.length = pm := ⟨_, rfl⟩
  obtain ⟨km, hkm⟩ : ∃ km, ks.length = km := ⟨_, rfl⟩
  obtain ⟨pm', hpm'⟩ : ∃ pm, qs.length = pm := ⟨_, rfl⟩
  obtain ⟨km', hkm'⟩ : ∃ km, ms.length = km := ⟨_, rfl⟩
  rw [hpm, hpm', hkm, hkm'] at hW
  rw [hpm, hkm] at x1
  rw [hpm', hkm'] at x2
  rw [hpm, hpm'] at hE
  rw [hkm, hkm'] at hK
  rw [hpm, hpm', hkm, hkm']
  have e1 := str_toList nm
  have e2 := str_toList nm'
  have e3 := str_toList vr
  have e4 := str_toList vr'
  have HW := Lib.hid hW
  have HE := Lib.hid hE
  have HK := Lib.hid hK
  have HX1 := Lib.hid x1
  have HX2 := Lib.hid x2
  have HX3 := Lib.hid x3
  clear hW hE hK x1 x2 x3 ih hin huin okp okk hpm hkm hpm' hkm' heb hkb
  by_cases hd : k = k' ∧ nm = nm' ∧ vr = vr' ∧ lo = lo' ∧ hi = hi'
  · obtain ⟨rfl, rfl, rfl, rfl, rfl⟩ := hd
    simp only [and_self, decide_true, Bool.true_and] at hR
    have HR := Lib.hid hR
    clear hR
    cases eb with
    | false =>
      go_enter Tryd.func31, Tryd.ntmps31
      go_wp2_with (go_at_call 47; rw [← HW.out]; refine HE.out.mono ?_; rintro e w1 ⟨rfl, b1⟩)
      go_ret
      exact ⟨ret_bool (by rw [← HR.out]; rfl), HX3.out.trans (b1.mono HX3.out.size)⟩
    | true =>
      go_enter Tryd.func31, Tryd.ntmps31
      go_wp2_with (first | (go_at_call 47; rw [← HW.out]; refine HE.out.mono ?_; rintro e w1 ⟨rfl, b1⟩; obtain ⟨y0, y1, y2, y3, y4, y5, y6⟩ := seven_has (HX1.out.below b1 HX1.out.lt); obtain ⟨z0, z1, z2, z3, z4, z5, z6⟩ := seven_has (HX2.out.below b1 HX2.out.lt)) | (go_at_call 49; refine (HK.out _ b1).mono ?_; rintro e w2 ⟨rfl, b2⟩))
      go_ret
      exact ⟨ret_bool (by rw [← HR.out]; simp), HX3.out.trans ((b1.trans (b2.mono b1.size)).mono HX3.out.size)⟩
  · have HR : Hid (R = false) := Lib.hid (by
      rw [← hR, Bool.eq_false_iff]
      intro hh
      simp only [Bool.and_eq_true] at hh
      exact hd (of_decide_eq_true hh.1.1))
    clear hR HE HK HX1 HX2
    have HX4 : Hid (Below w.heap.size w ((w.alloc (.cells #[.int .i64 k, .string (str nm), .string (str vr), .slice pA pm pc, .int .i64 lo, .int .i64 hi, .slice kA km kc] 42)).alloc (.cells #[.int .i64 k', .string (str nm'), .string (str vr'), .slice pA' pm' pc', .int .i64 lo', .int .i64 hi', .slice kA' km' kc'] 42))) := Lib.hid (by rw [← HW.out]; exact HX3.out)
    by_cases h1 : k = k'
    case neg =>
      have d1 : (k == k') = false := by simpa using h1
      clear hd HW HX3
      go_enter Tryd.func31, Tryd.ntmps31
      go_wp2_with fail
      go_ret
      exact ⟨ret_bool HR.out.symm, HX4.out⟩
    subst h1
    by_cases h2 : nm = nm'
    case neg =>
      have d2 : ((str nm).toList == (str nm').toList) = false := by rw [e1, e2]; simpa using h2
      clear hd HW HX3 e1 e2 e3 e4
      go_enter Tryd.func31, Tryd.ntmps31
      go_wp2_with fail
      go_ret
      exact ⟨ret_bool HR.out.symm, HX4.out⟩
    subst h2
    by_cases h3 : vr = vr'
    case neg =>
      have d3 : ((str vr).toList == (str vr').toList) = false := by rw [e3, e4]; simpa using h3
      clear hd HW HX3 e1 e2 e3 e4
      go_enter Tryd.func31, Tryd.ntmps31
      go_wp2_with fail
      go_ret
      exact ⟨ret_bool HR.out.symm, HX4.out⟩
    subst h3
    by_cases h4 : lo = lo'
    case neg =>
      have d4 : (lo == lo') = false := by simpa using h4
      clear hd HW HX3
      go_enter Tryd.func31, Tryd.ntmps31
      go_wp2_with fail
      go_ret
      exact ⟨ret_bool HR.out.symm, HX4.out⟩
    subst h4
    have h5 : hi ≠ hi' := fun h5 => hd ⟨rfl, rfl, rfl, rfl, h5⟩
    have d5 : (hi == hi') = false := by simpa using h5
    clear hd HW HX3 h5
    go_enter Tryd.func31, Tryd.ntmps31
    go_wp2_with fail
    go_ret
    exact ⟨ret_bool HR.out.symm, HX4.out⟩
theorem sameL_any (l m : List IT) (A B : Option Addr) (c d : Nat) (w : World) (hcap : l.length ≤ 9223372036854775807) (hl : Its w A l) (hm : Its w B m) :
    Calls Tryd.prog 16 #[.slice A l.length c, .slice B m.length d] w fun e w' => e = .returned (.bool (sameIs l m)) ∧ Below w.heap.size w w' :=
  sameIs_of l m A B c d w hcap hl hm fun t ht u hu w' hb => by
    obtain ⟨i, hi, rfl⟩ := List.getElem_of_mem ht
    obtain ⟨k, hk, rfl⟩ := List.getElem_of_mem hu
    exact sameI_any _ _ w' ((hl i hi).2.below hb) ((hm k hk).2.below hb)
end Go.Proofs.YtbdfehgofnomhaaDoor
