/- StoreCharges: the walk. -/
import Derived.Test.YtglhebpblncjaaaDoorStChM
import Derived.Deep.CutRange
import Derived.Deep.CutBlock
namespace Go.Proofs.YtglhebpblncjaaaDoor
open Go.RowKit
set_option linter.unusedVariables false

/-- The store after at most so many deeds. -/
structure Ch (w0 : World) (B g hh m N : Nat) (S : Sv) (w : World) : Prop where
  st : St w B g hh m N S []
  cg : Cg S
  bel : Below w0.heap.size w0 w
  hB : w0.heap.size ≤ B
section
variable {w0 w w' : World} {B g hh m N N' : Nat} {S S' : Sv}
theorem Ch.deed (h : Ch w0 B g hh m N S w) (a : St w' B g hh m N' S' []) (k : Kp B [] w w') (c : Cg S') : Ch w0 B g hh m N' S' w' := ⟨a, c, h.bel.trans (k.bel.mono h.hB), h.hB⟩
theorem Ch.below (h : Ch w0 B g hh m N S w) (hb : Below w.heap.size w w') : Ch w0 B g hh m N S w' := h.deed (h.st.below hb) (h.st.kp hb) h.cg
end
/-- After a deed: some store. -/
def Chs (w0 : World) (B g hh m N : Nat) (w : World) : Prop := ∃ S, Ch w0 B g hh m N S w
theorem mod8 (a : Int) (h0 : 0 ≤ a) : ∃ x : Nat, a.tmod 8 = (x : Int) ∧ x < 8 := ⟨(a % 8).toNat, by rw [Int.tmod_eq_emod_of_nonneg h0]; omega, by omega⟩
theorem div84 (a : Int) (h0 : 0 ≤ a) (h1 : a ≤ 255) : ∃ (x : Int) (y : Nat), a.tdiv 8 = x ∧ x.tmod 4 = (y : Int) ∧ y < 4 ∧ 0 ≤ x ∧ x ≤ 31 := ⟨a / 8, (a / 8 % 4).toNat, by rw [Int.tdiv_eq_ediv_of_nonneg h0], by rw [Int.tmod_eq_emod_of_nonneg (by omega)]; omega, by omega, by omega, by omega⟩
set_option maxHeartbeats 4000000 in
set_option maxRecDepth 100000 in
theorem charges_walk (A : Option Addr) (n c : Nat) (l : List Int) (w : World) (hl : l.length = n) (hnc : n ≤ c) (hcm : c ≤ maxLen) (hr : Lies w A (l.map (Value.int .u8))) (hz : ∀ z ∈ l, 0 ≤ z ∧ z ≤ 255) (ht : Tab w) (hT : Dbt w) :
    Calls Tryd.prog 5 #[.slice A n c] w fun e w' => e = .returned (.bool true) ∧ Below w.heap.size w w' := by
  unfold maxLen at hcm
  have HT := Lib.hid ht
  have HD := Lib.hid hT
  have HL := Lib.hid hr
  have HLN := Lib.hid hl
  have HZ := Lib.hid hz
  clear ht hT hr hl hz
  go_enter Tryd.func5, Tryd.ntmps5
  go_wp2_with fail
  refine (examples_any w HT.out HD.out).mono ?_
  rintro e w1 ⟨rfl, b1⟩
  have T1 := Lib.hid (HT.out.below b1)
  have D1 := Lib.hid (HD.out.below b1)
  have B1 := Lib.hid b1
  clear b1 HT HD
  go_wp2_with fail
  refine (new_sc 300 w1 (by omega) (by omega) T1.out D1.out).mono ?_
  rintro e w2 ⟨rfl, h2, b2⟩
  have H2 := Lib.hid h2
  have B2 := Lib.hid (B1.out.trans (b2.mono B1.out.size))
  have HB := Lib.hid (B1.out.size)
  clear b2 h2 T1 D1 B1
  generalize w1.heap.size = B at *
  go_wp2_with fail
  refine (stnew_any H2.out (Tl.new _ _)).mono ?_
  rintro e w3 ⟨rfl, s3, b3⟩
  have X0 : Hid (Chs w B B (w2.heap.size + 1) w2.heap.size 0 w3) := Lib.hid ⟨r0 300, s3, Cg.new, B2.out.trans (b3.mono B2.out.size), HB.out⟩
  clear b3 s3 H2 B2 HB
  generalize w2.heap.size + 1 = hh at *
  generalize w2.heap.size = m at *
  go_wp2_with fail
  go_loopw [6] (fun i wr => ∃ k : Nat, k ≤ n ∧ k ≤ 60 ∧ i = .int .i64 k ∧ Hid (Chs w B B hh m k wr)) (fun i _ => 60 - (intOf i).toNat)
  case atStart => exact ⟨0, by omega, by omega, rfl, X0⟩
  case round =>
    rename World => wr
    clear X0
    obtain ⟨k, hk, hk60, rfl, HP⟩ := hrel
    by_cases hlt : k < n ∧ k < 60
    · obtain ⟨hl1, hl2⟩ := hlt
      obtain ⟨S, hS⟩ := HP.out
      have hkl : k < l.length := by rw [HLN.out]; exact hl1
      have hg : (l.map (Value.int .u8))[k]? = some (.int .u8 (l.getD k 0)) := by simp [List.getD, hkl]
      obtain ⟨bb, off, rfl, hc⟩ := Lies.at_ (HL.out.keep fun p hp => hS.bel.cell hp) hg
      have hd := HZ.out (l.getD k 0) (by rw [List.getD_eq_getElem?_getD, List.getElem?_eq_getElem hkl, Option.getD_some]; exact List.getElem_mem hkl)
      generalize l.getD k 0 = d at *
      have hd0 := hd.1
      have hd1 := hd.2
      clear hd hg hkl
      have HS := Lib.hid hS
      clear hS HP
      have hkli : (k : Int) < (n : Int) := by omega
      have hk6b : decide ((k : Int) < 60) = true := decide_eq_true (by omega)
      obtain ⟨i, hi, hi8⟩ := mod8 d hd0
      obtain ⟨dq, sw, hdq, hsw, hsw4, hdq0, hdq31⟩ := div84 d hd0 hd1
      obtain ⟨b, hb⟩ : ∃ b, scnt S (i : Int) = b := ⟨_, rfl⟩
      have hi64 : I64 (i : Int) := i64_small (by omega)
      have HI64 := Lib.hid hi64
      have hct := stcount_any HS.out.st (i : Int) hi64
      rw [hb] at hct
      have hbb : 0 ≤ b ∧ b ≤ 60 := by
        rw [← hb]
        cases e : S.f (i : Int) with
        | none => rw [cnt_none e]; omega
        | some c => have := HS.out.st.bd _ c e; rw [cnt_some e]; omega
      have hb0 := hbb.1
      have hb1 := hbb.2
      have HBE := Lib.hid hb
      clear hb hbb hi64
      go_wp2_with fail
      refine hct.mono ?_
      rintro e w4 ⟨rfl, rfl⟩
      clear hct
      go_upto_block 2 with fail
      go_cut [9] from 54 to 121 (fun v wx => Hid (Chs w B B hh m (k + 1) wx))
      case first => as_aux_lemma =>
        have hways : (sw = 0 ∨ sw = 1) ∨ sw = 2 ∨ sw = 3 := by omega
        clear hsw hdq hi hsw4
        rcases hways with (rfl | rfl) | rfl | rfl
        iterate 2
          · -- Put
            have hmk := make_ints i (by omega) wr
            have ba : Below wr.heap.size wr (wr.alloc (.cells (icells (List.replicate i 0)) 2)) := (Below.refl _ _).alloc (Nat.le_refl _) _
            have HA := Lib.hid (HS.out.below ba)
            have hli : Lies (wr.alloc (.cells (icells (List.replicate i 0)) 2)) (some ⟨wr.heap.size, 0, none⟩) (ints (List.replicate i 0)) := (has_new wr (icells (List.replicate i 0)) 2).lies
            have hok : wok (i : Int) (List.replicate i 0) = true := wok_yes (by omega) (by simp; omega)
            have hpt := stput_any HA.out.st (by omega) (i : Int) HI64.out (i : Int) 0 _ i i (List.replicate i 0) (by omega) (by omega) (by simp) (by unfold maxLen; omega) hli
            rw [hok, show wput (i : Int) 0 (List.replicate i 0) = t8 i from rfl] at hpt
            cases e : S.f (i : Int) with
            | none =>
              have hb := HBE.out
              rw [cnt_none e] at hb
              subst hb
              rcases HS.out.cg.err hi8 e with hp | hp
              all_goals
                rw [hp] at hpt
                have HPT := Lib.hid hpt
                have HC := Lib.hid (HS.out.cg.put hi8 e)
                clear hpt hp hli hok ba HS e HBE
                go_wp2_with fail
                refine HPT.out.mono ?_
                rintro e w5 ⟨rfl, s5, k5⟩
                have X1 : Hid (Chs w B B hh m (k + 1) w5) := Lib.hid ⟨_, HA.out.deed s5 k5 HC.out⟩
                clear s5 k5 HA HPT HC hmk
                go_wp2_with fail
                go_meet
                exact X1
            | some c =>
              have hb := HBE.out
              rw [cnt_some e] at hb
              have hb2 : 1 ≤ b := by have := HS.out.st.bd _ c e; omega
              obtain ⟨hp, hs⟩ := Cg.put_some (S := S) (i := i) e
              rw [hp, hs] at hpt
              have HPT := Lib.hid hpt
              have HC := Lib.hid HS.out.cg
              have hbn : (b == 0) = false := by simp; omega
              clear hpt hp hs hli hok ba HS e HBE hb
              go_wp2_with fail
              refine HPT.out.mono ?_
              rintro e w5 ⟨rfl, s5, k5⟩
              have X1 : Hid (Chs w B B hh m (k + 1) w5) := Lib.hid ⟨_, HA.out.deed s5 k5 HC.out⟩
              clear s5 k5 HA HPT HC hmk
              go_wp2_with fail
              go_meet
              exact X1
        · -- Hold
          have HC := Lib.hid (HS.out.cg.hold i)
          have hcl := sthold_any HS.out.st (by omega) (i : Int) HI64.out
          cases e : S.f (i : Int) with
          | none =>
            have hb := HBE.out
            rw [cnt_none e] at hb
            subst hb
            rw [e] at hcl
            clear e HBE
            go_wp2_with fail
            refine hcl.mono ?_
            rintro e w5 ⟨rfl, s5, k5⟩
            have X1 : Hid (Chs w B B hh m (k + 1) w5) := Lib.hid ⟨_, HS.out.deed s5 k5 HC.out⟩
            clear s5 k5 HS HC hcl
            go_wp2_with fail
            go_meet
            exact X1
          | some c =>
            have hb := HBE.out
            rw [cnt_some e] at hb
            have hb2 : 1 ≤ b := by have := HS.out.st.bd _ c e; omega
            have hcn := hold_cnt HS.out.cg.iv e
            rw [hb] at hcn
            have HCN := Lib.hid hcn
            rw [e] at hcl
            clear e HBE hb hcn
            go_wp2_with fail
            refine hcl.mono ?_
            rintro e w5 ⟨rfl, s5, k5⟩
            have X0 := Lib.hid (HS.out.deed s5 k5 HC.out)
            clear s5 k5 HS HC hcl
            go_wp2_with fail
            refine (stcount_any X0.out.st (i : Int) HI64.out).mono ?_
            rw [HCN.out]
            rintro e w6 ⟨rfl, rfl⟩
            obtain ⟨b9, hb9⟩ : ∃ x, b + 1 = x := ⟨_, rfl⟩
            have hnn : (b9 != b9) = false := by simp
            have X1 : Hid (Chs w B B hh m (k + 1) w5) := Lib.hid ⟨_, X0.out⟩
            clear X0 HCN
            rw [hb9]
            go_wp2_with fail
            go_meet
            exact X1
        · -- Drop
          have HC := Lib.hid (HS.out.cg.drop hi8)
          have hcl := stdrop_any HS.out.st (by omega) (i : Int) HI64.out
          cases e : S.f (i : Int) with
          | none =>
            have hb := HBE.out
            rw [cnt_none e] at hb
            subst hb
            rw [e] at hcl
            clear e HBE
            go_wp2_with fail
            refine hcl.mono ?_
            rintro e w5 ⟨rfl, s5, k5⟩
            have X1 : Hid (Chs w B B hh m (k + 1) w5) := Lib.hid ⟨_, HS.out.deed s5 k5 HC.out⟩
            clear s5 k5 HS HC hcl
            go_wp2_with fail
            go_meet
            exact X1
          | some c =>
            have hb := HBE.out
            rw [cnt_some e] at hb
            have hb2 : 1 ≤ b := by have := HS.out.st.bd _ c e; omega
            have hcn := drop_cnt HS.out.cg.iv e
            rw [hb] at hcn
            have HCN := Lib.hid hcn
            rw [e] at hcl
            clear e HBE hb hcn
            go_wp2_with fail
            refine hcl.mono ?_
            rintro e w5 ⟨rfl, s5, k5⟩
            have X0 := Lib.hid (HS.out.deed s5 k5 HC.out)
            clear s5 k5 HS HC hcl
            go_wp2_with fail
            refine (stcount_any X0.out.st (i : Int) HI64.out).mono ?_
            rw [HCN.out]
            rintro e w6 ⟨rfl, rfl⟩
            obtain ⟨b9, hb9⟩ : ∃ x, b - 1 = x := ⟨_, rfl⟩
            have hnn : (b9 != b9) = false := by simp
            have X1 : Hid (Chs w B B hh m (k + 1) w5) := Lib.hid ⟨_, X0.out⟩
            clear X0 HCN
            rw [hb9]
            go_wp2_with fail
            go_meet
            exact X1
      case rest => as_aux_lemma =>
        rename World => w5
        clear HS HBE hsw hdq hi
        obtain ⟨S5, hS5⟩ := hcut.out
        have HS := Lib.hid hS5
        clear hS5 hcut
        go_wp2_with fail
        go_loopw [10, 11, 12] (fun sv mv jv wx => ∃ j : Nat, j ≤ 8 ∧ jv = .int .i64 j ∧ sv = .int .i64 (sumTo S5 j) ∧ mv = .int .i64 (cntTo S5 j) ∧ Hid (Ch w B B hh m (k + 1) S5 wx)) (fun _ _ jv _ => 8 - (intOf jv).toNat)
        case atStart => exact ⟨0, by omega, rfl, rfl, rfl, HS⟩
        case round =>
          rename World => wz
          clear HS
          obtain ⟨j, hj, rfl, rfl, rfl, X⟩ := hrel
          by_cases hlt : j < 8
          · have hj8 : (j : Int) < 8 := by omega
            have hsb := X.out.cg.sums j
            have hmb := cnt_bd S5 j
            obtain ⟨sj, hsj⟩ : ∃ x, sumTo S5 j = x := ⟨_, rfl⟩
            obtain ⟨mj, hmj⟩ : ∃ x, cntTo S5 j = x := ⟨_, rfl⟩
            have HSN : Hid (sumTo S5 (j + 1) = sj + rz S5 j ∧ cntTo S5 (j + 1) = mj + so S5 j) := Lib.hid ⟨by rw [← hsj]; rfl, by rw [← hmj]; rfl⟩
            rw [hsj] at hsb
            rw [hmj] at hmb
            rw [hsj, hmj]
            have hs0 := hsb.1
            have hs1 := hsb.2
            have hm0 := hmb.1
            have hm1 := hmb.2
            have hjI := Lib.hid (i64_small (n := (j : Int)) (by omega))
            have hgt := stget_any X.out.st (j : Int) hjI.out
            clear hsj hmj hsb hmb
            cases e : S5.f (j : Int) with
            | none =>
              unfold StGot at hgt
              rw [sbyt_none e, g_nil.1, g_nil.2.1, g_nil.2.2.1, g_nil.2.2.2] at hgt
              have HSN2 : Hid (sumTo S5 (j + 1) = sj ∧ cntTo S5 (j + 1) = mj) := Lib.hid ⟨by rw [HSN.out.1, rz_none e]; omega, by rw [HSN.out.2, show so S5 j = 0 by unfold so; rw [e]; rfl]; omega⟩
              have hcz := cnt_none e
              have HCZ := Lib.hid hcz
              clear e hcz HSN
              go_wp2_with fail
              refine hgt.mono ?_
              rintro e w6 ⟨Z, rfl, b6, -, -⟩
              have X1 := Lib.hid (X.out.below (Below.step b6 ((Below.refl w6.heap.size w6).alloc (Nat.le_refl _) (.cells #[.int .i64 0, .int .i64 0, .slice Z 0 0] 35)) (Nat.le_refl _)))
              clear b6 X hgt
              unfold ev
              go_wp2_with fail
              generalize w6.alloc (.cells #[.int .i64 0, .int .i64 0, .slice Z 0 0] 35) = w7 at *
              refine (stcount_any X1.out.st (j : Int) hjI.out).mono ?_
              rw [HCZ.out]
              rintro e w8 ⟨rfl, rfl⟩
              go_wp2_with fail
              go_roundw
              case rel => exact ⟨j + 1, by omega, by go_num, by rw [HSN2.out.1], by rw [HSN2.out.2], X1⟩
              case measure => simp [intOf]; omega
            | some c =>
              obtain ⟨htx, hrz⟩ := X.out.cg.tx j hlt (by rw [e]; rfl)
              have hgK : gK (t8 j) = (j : Int) := got_K (T := 0) (l := List.replicate j 0) (by omega) (by simp; omega)
              have hgT : gT (t8 j) = 0 := got_T (l := List.replicate j 0) (T := 0) (k := j) (by omega) (by simp; omega) (by unfold In64; omega)
              have hgV : gV (t8 j) = List.replicate j 0 := got_V (T := 0) (l := List.replicate j 0) (by omega) (by simp; omega) (fun z hz => by rw [(List.mem_replicate.1 hz).2]; unfold In64; omega)
              have hgO : gok (t8 j) = true := put_ok (T := 0) (l := List.replicate j 0) (by omega) (by simp; omega)
              unfold StGot at hgt
              rw [htx, hgK, hgT, hgV, hgO, show (List.replicate j (0 : Int)).length = j by simp] at hgt
              have hl8 := t8_len hlt
              obtain ⟨r, hr⟩ : ∃ r, rnd ((t8 j).length : Int) = r := ⟨_, rfl⟩
              have hr0 := (rnd16 (n := ((t8 j).length : Int)) (rok_yes (by omega) (by omega))).1
              have hr1 := rnd128 (n := ((t8 j).length : Int)) (by omega) (by omega)
              rw [hr] at hr0 hr1 hrz
              have HR := Lib.hid hr
              have HSN2 : Hid (sumTo S5 (j + 1) = sj + r ∧ cntTo S5 (j + 1) = mj + 1) := Lib.hid ⟨by rw [HSN.out.1, hrz], by rw [HSN.out.2, show so S5 j = 1 by unfold so; rw [e]; rfl]⟩
              obtain ⟨b, hb⟩ : ∃ b, scnt S5 (j : Int) = b := ⟨_, rfl⟩
              have hb1 : 1 ≤ b := by have := X.out.st.bd _ c e; rw [cnt_some e] at hb; omega
              have HBC := Lib.hid hb
              have hbp : 0 < b := by omega
              have hbd : decide (0 < b) = true := decide_eq_true hbp
              clear e hb HSN htx hgK hgT hgV hgO hl8 hr hrz
              go_wp2_with fail
              refine hgt.mono ?_
              rintro e w6 ⟨Z, rfl, b6, l6, -⟩
              have bx := (Below.refl w6.heap.size w6).alloc (Nat.le_refl _) (.cells #[.int .i64 (j : Int), .int .i64 0, .slice Z j j] 35)
              have X1 := Lib.hid (X.out.below (Below.step b6 bx (Nat.le_refl _)))
              have EZ : Hid (Has (w6.alloc (.cells #[.int .i64 (j : Int), .int .i64 0, .slice Z j j] 35)) w6.heap.size 35 #[.int .i64 (j : Int), .int .i64 0, .slice Z j j]) := Lib.hid (heap_alloc_new w6 _)
              have LZ := Lib.hid (l6.alloc (.cells #[.int .i64 (j : Int), .int .i64 0, .slice Z j j] 35))
              clear b6 l6 bx X hgt
              unfold ev
              go_wp2_with fail
              generalize w6.alloc (.cells #[.int .i64 (j : Int), .int .i64 0, .slice Z j j] 35) = w7 at *
              generalize w6.heap.size = z at *
              refine (stcount_any X1.out.st (j : Int) hjI.out).mono ?_
              rw [HBC.out]
              rintro e w8 ⟨rfl, rfl⟩
              obtain ⟨v0, v1, v2⟩ := EZ.out.three
              go_wp2_with fail
              clear v0 v1 v2
              have hsz := wsize_any (j : Int) 0 Z j j (List.replicate j 0) w7 (by omega) (by omega) (by simp) (by unfold maxLen; omega) LZ.out
              rw [show wput (j : Int) 0 (List.replicate j 0) = t8 j from rfl] at hsz
              refine hsz.mono ?_
              rintro e w8 ⟨rfl, b8⟩
              have X2 := Lib.hid (X1.out.below b8)
              clear b8 X1 hsz EZ LZ
              go_wp2_with fail
              refine (round_any _ w8 X2.out.st.sc.tab).mono ?_
              rw [HR.out]
              rintro e w9 ⟨rfl, rfl⟩
              go_wp2_with fail
              go_roundw
              case rel => exact ⟨j + 1, by omega, by go_num, by rw [HSN2.out.1], by rw [HSN2.out.2], X2⟩
              case measure => simp [intOf]; omega
          · obtain rfl : j = 8 := by omega
            have hno : ¬ ((8 : Nat) : Int) < 8 := by omega
            have hc8 := X.out.cg.chg
            have hl8 := X.out.cg.liv
            have hn8 := X.out.cg.n
            obtain ⟨s8, hs8⟩ : ∃ x, sumTo S5 8 = x := ⟨_, rfl⟩
            obtain ⟨m8, hm8⟩ : ∃ x, cntTo S5 8 = x := ⟨_, rfl⟩
            rw [hs8] at hc8 ⊢
            rw [hm8] at hl8 hn8 ⊢
            have HC := Lib.hid (And.intro hc8 (And.intro hl8 hn8))
            have hss : (s8 != s8) = false := by simp
            have hmm : (m8 != m8) = false := by simp
            clear hc8 hl8 hn8 hs8 hm8
            go_wp2_with fail
            refine (charged_sc X.out.st.sc).mono ?_
            rw [HC.out.1]
            rintro e w8 ⟨rfl, rfl⟩
            go_wp2_with fail
            refine (stlen_any X.out.st).mono ?_
            rw [HC.out.2.2]
            rintro e w8 ⟨rfl, rfl⟩
            go_wp2_with fail
            refine (live_sc X.out.st.sc).mono ?_
            rw [HC.out.2.1]
            rintro e w8 ⟨rfl, rfl⟩
            go_wp2_with fail
            go_roundw
            case rel => exact ⟨k + 1, by omega, by omega, by go_num, Lib.hid ⟨S5, X.out⟩⟩
            case measure => simp [intOf]; omega
    · have hex : (¬ (k : Int) < (n : Int)) ∨ ((k : Int) < (n : Int) ∧ ¬ (k : Int) < 60) := by omega
      clear hlt
      have BE : Hid (Below w.heap.size w wr) := Lib.hid (by obtain ⟨S, hS⟩ := HP.out; exact hS.bel)
      clear HP HL HLN HZ
      rcases hex with x1 | ⟨x1, x2⟩
      all_goals
        go_wp2
        go_ret
        exact ⟨rfl, BE.out⟩
end Go.Proofs.YtglhebpblncjaaaDoor
