/- What the document's own Get of chapter 5 returns: the same function as the program's. -/
import Derived.Test.YtcmgkmllmdgcbaaWrRefFits
namespace Go.Proofs.Ytcmgkmllmdgcbaa
open Go.RowKit
set_option linter.unusedVariables false

theorem Has.grew {w w' : World} {q : Nat} {t : TypeId} {cs : Array Value} {row : Option Nat} (h : Has w q t cs) (hg : w.grownBy w' row) (hne : row ≠ some q) : Has w' q t cs :=
  (hg.block q h.lt (fun e => hne e.symm)).trans h
theorem app_i64 (w : World) (base : Nat) (v : Value) (n : Nat) (xs ys : List Int) (hown : w.ownsRow base 2 1 v n (ints xs)) (A : Option Addr) (m c : Nat) (hl : ys.length = m) (hlies : Lies w A (ints ys)) (hnil : A = none → c = 0)
    (hsmall : n + m ≤ 100000) (hbase : base ≤ w.heap.size) :
    ∃ v' w', (Builtin.append_ #[22, 22] 22 #[v, .slice A m c]).run Try.prog w = .ok v' w' ∧ w'.ownsRow base 2 1 v' (n + m) (ints (xs ++ ys)) ∧ w.grownBy w' v.ownBlock ∧ (v'.ownBlock = v.ownBlock ∨ v'.ownBlock = some w.heap.size) := by
  obtain ⟨i0, hi, hz0, hz1, hz2⟩ := info_parts info_i64
  obtain ⟨v', w', h1, h2, h3, h4⟩ := run_app (P := Try.prog) w base 22 22 2 i0 (.int .i64 0) 8 Try.underlying22 hi hz0 hz1 hz2 rfl v n (ints xs) hown A m c (ints ys) (by simpa using hl) hlies hnil (ints_one ys) (by unfold maxLen; omega) (by omega) hbase
  exact ⟨v', w', h1, by simpa [ints] using h2, h3, h4⟩
theorem at_byte (s : ByteArray) (i : Nat) (h : i < s.size) : (s[i].toNat : Int) = (byteAt s.data.toList i : Nat) := by
  unfold byteAt
  have hl : i < s.data.toList.length := by simpa using h
  rw [List.getD_eq_getElem?_getD, List.getElem?_eq_getElem hl]
  rfl
theorem gvs_take {l : List UInt8} {k : Nat} (h : k < byteAt l 1) : (gvs l).take (k + 1) = (gvs l).take k ++ [intAt l (10 + 8 * k)] := by
  have hl : k < (gvs l).length := by rw [gvs_length]; exact h
  rw [List.take_succ_eq_append_getElem hl]
  have := gvs_get l h
  rw [List.getD_eq_getElem?_getD, List.getElem?_eq_getElem hl, Option.getD_some] at this
  rw [this]

/-- What the document's Get leaves. -/
def RFaceP (l : List UInt8) (w : World) (e : Ending) (w' : World) : Prop :=
  ∃ A c, e = .returned (.tuple #[ev (gK l) (gT l) A (gV l).length c, .int .i64 (gE l)]) ∧ Below w.heap.size w w' ∧ Lies w' A (ints (gV l))
set_option maxRecDepth 100000 in
set_option maxHeartbeats 4000000 in
theorem rget_any (s : ByteArray) (l : List UInt8) (w : World) (hl : s.data.toList = l) (hs : s.size ≤ 4611686018427387904) :
    Calls Try.prog 13 #[.string s] w (RFaceP l w) := by
  have hlen : l.length = s.size := by rw [← hl]; simp
  have X0 := Lib.hid (has_new w #[.int .i64 0, .int .i64 0, .slice none 0 0] 32)
  have XB := Lib.hid ((Below.refl w.heap.size w).alloc (Nat.le_refl _) (.cells #[.int .i64 0, .int .i64 0, .slice none 0 0] 32))
  have HL := Lib.hid hl
  clear hl
  by_cases h10 : s.size < 10
  · have HG : Hid (gok l = false) := Lib.hid (gok_no (by omega))
    have d1 : decide ((s.size : Int) < 10) = true := by simp; omega
    go_enter Try.func13, Try.ntmps13
    go_wp2
    refine bodyPost_ret (v := .tuple #[.agg #[.int .i64 0, .int .i64 0, .slice none 0 0], .int .i64 7]) (by simp [results, Try.results13, go_sem]) rfl ?_
    exact ⟨none, 0, by simp [gK, gT, gV, gE, HG.out, ev], XB.out, fun i u hu => by simp [gV, HG.out] at hu⟩
  · have h1 : 1 < s.size := by omega
    have hb1 := at_byte s 1 h1
    rw [HL.out] at hb1
    have hb0 := at_byte s 0 (by omega)
    rw [HL.out] at hb0
    have hn2 := byteAt_lt l 1
    have hn0 := byteAt_lt l 0
    obtain ⟨n, hn⟩ : ∃ n, byteAt l 1 = n := ⟨_, rfl⟩
    have HN := Lib.hid hn
    rw [hn] at hb1 hn2
    clear hn
    have d1 : decide ((s.size : Int) < 10) = false := by simp; omega
    by_cases h8 : 8 < n
    · have HG : Hid (gok l = false) := Lib.hid (gok_no (by rw [HN.out]; omega))
      have d2 : decide (8 < (n : Int)) = true := by simp; omega
      go_enter Try.func13, Try.ntmps13
      go_wp2
      refine bodyPost_ret (v := .tuple #[.agg #[.int .i64 0, .int .i64 0, .slice none 0 0], .int .i64 7]) (by simp [results, Try.results13, go_sem]) rfl ?_
      exact ⟨none, 0, by simp [gK, gT, gV, gE, HG.out, ev], XB.out, fun i u hu => by simp [gV, HG.out] at hu⟩
    · have d2 : decide (8 < (n : Int)) = false := by simp; omega
      by_cases hsz : s.size = 10 + 8 * n
      · have d3 : ((s.size : Int) != 10 + 8 * (n : Int)) = false := by rw [hsz]; simp
        have HG : Hid (gok l = true) := Lib.hid (gok_yes (by rw [HN.out]; omega) (by rw [HN.out]; omega))
        have HSZ := Lib.hid hsz
        have hszl : 10 + 8 * n ≤ s.size := by omega
        clear hsz
        have HLN : Hid ((gvs l).length = n) := Lib.hid ((gvs_length l).trans HN.out)
        go_enter Try.func13, Try.ntmps13
        go_wp2_with fail
        have E1 := Lib.hid (has_new (w.alloc (.cells #[.int .i64 0, .int .i64 0, .slice none 0 0] 32)) #[.int .i64 (byteAt l 0 : Nat), .int .i64 0, .slice none 0 0] 32)
        have X1 := Lib.hid (X0.out.alloc (.cells #[.int .i64 (byteAt l 0 : Nat), .int .i64 0, .slice none 0 0] 32))
        have B1 := Lib.hid (XB.out.alloc XB.out.size (.cells #[.int .i64 (byteAt l 0 : Nat), .int .i64 0, .slice none 0 0] 32))
        rw [show (w.alloc (.cells #[.int .i64 0, .int .i64 0, .slice none 0 0] 32)).heap.size = w.heap.size + 1 by simp] at E1
        clear X0 XB
        generalize (w.alloc (.cells #[.int .i64 0, .int .i64 0, .slice none 0 0] 32)).alloc (.cells #[.int .i64 (byteAt l 0 : Nat), .int .i64 0, .slice none 0 0] 32) = w1 at *
        refine (refgetint_any s 2 w1 hs).mono ?_
        rw [HL.out, show wrap64 (getv l 2 8 : Nat) = intAt l 2 from getv_int (i := 2) (by omega)]
        rintro e w' ⟨rfl, rfl⟩
        have c1 := E1.out.three.2.1
        have f1 := E1.out.free 1
        go_wp2_with fail
        clear c1 f1
        have E2 := Lib.hid (E1.out.put 1 (.int .i64 (intAt l 2)))
        have X2 := Lib.hid (X1.out.set_other ⟨w.heap.size + 1, 1, none⟩ (.int .i64 (intAt l 2)) (by simp))
        have B2 := Lib.hid (B1.out.setCell (p := ⟨w.heap.size + 1, 1, none⟩) (by simp) (.int .i64 (intAt l 2)))
        clear E1 X1 B1
        generalize w1.setCell ⟨w.heap.size + 1, 1, none⟩ (.int .i64 (intAt l 2)) = w2 at *
        have hqb : w.heap.size + 1 < w2.heap.size := E2.out.lt
        obtain ⟨q, hq⟩ : ∃ q, q = w.heap.size + 1 := ⟨_, rfl⟩
        rw [← hq] at E2 hqb ⊢
        have hqw : w.heap.size < q := by omega
        clear hq
        go_loopw [5] (fun i wr => ∃ (k : Nat) (A : Option Addr) (cp : Nat), k ≤ n ∧ i = .int .i64 k ∧ Has wr q 32 #[.int .i64 (byteAt l 0 : Nat), .int .i64 (intAt l 2), .slice A k cp] ∧ Has wr w.heap.size 32 #[.int .i64 0, .int .i64 0, .slice none 0 0] ∧ wr.ownsRow w2.heap.size 2 1 (.slice A k cp) k (ints ((gvs l).take k)) ∧ w2.heap.size ≤ wr.heap.size ∧ Below w.heap.size w wr) (fun i _ => n - (intOf i).toNat)
        case atStart => exact ⟨0, none, 0, by omega, rfl, E2.out, X2.out, by simpa [ints] using World.ownsRow_nil w2 w2.heap.size 2 1, Nat.le_refl _, B2.out⟩
        case round =>
          obtain ⟨k, A, cp, hk, rfl, he, hx, hown, hbs, hb⟩ := hrel
          clear E2 X2 B2
          by_cases hlt : k < n
          · have hz : IntKind.i64.wrap (10 + IntKind.i64.wrap (8 * (k : Int))) = ((10 + 8 * k : Nat) : Int) := by rw [IntWalk.i64_in (8 * (k : Int)) (by omega), IntWalk.i64_in _ (by omega)]; omega
            have hkb : k < byteAt l 1 := by rw [HN.out]; exact hlt
            have HTK := Lib.hid (gvs_take hkb)
            have HIV : Hid (wrap64 (getv l (10 + 8 * k : Nat) 8 : Nat) = intAt l (10 + 8 * k)) := Lib.hid (getv_int (i := 10 + 8 * k) (by omega))
            obtain ⟨x, hx9⟩ : ∃ x, intAt l (10 + 8 * k) = x := ⟨_, rfl⟩
            rw [hx9] at HTK HIV
            clear hx9 hkb
            obtain ⟨v', w', hrun, hown', hgrow, hat⟩ := app_i64 (wr.alloc (.cells #[.int .i64 x] 2)) w2.heap.size _ k ((gvs l).take k) [x] (hown.alloc _) (some ⟨wr.heap.size, 0, none⟩) 1 1 rfl (Lies.one _ _ _) (fun h => by cases h) (by omega) (by simp; omega)
            obtain ⟨A', c', ev', hA', hc1', hc2', hc3'⟩ := own_shape hown'
            subst ev'
            have hl1 := hown.lt
            have hne1 : (Value.slice A k cp).ownBlock ≠ some q := fun e => by have := (hl1 _ e).1; omega
            have hne2 : (Value.slice A k cp).ownBlock ≠ some w.heap.size := fun e => by have := (hl1 _ e).1; omega
            have HE := Lib.hid ((((he.alloc (.cells #[.int .i64 x] 2)).grew hgrow hne1)).put 2 (.slice A' (k + 1) c'))
            have HXX := Lib.hid (((hx.alloc (.cells #[.int .i64 x] 2)).grew hgrow hne2).set_other ⟨q, 2, none⟩ (.slice A' (k + 1) c') (by simp; omega))
            have HOW := Lib.hid (ownsRow_setCell_below hown' (a := ⟨q, 2, none⟩) hqb (.slice A' (k + 1) c'))
            have HBW := Lib.hid (((hb.alloc hb.size (.cells #[.int .i64 x] 2)).grown hgrow (by have := hb.size; simp; omega) (fun g hg => by have := (hl1 g hg).1; omega)).setCell (p := ⟨q, 2, none⟩) (by simp; omega) (.slice A' (k + 1) c'))
            have HSW : Hid (w2.heap.size ≤ (w'.setCell ⟨q, 2, none⟩ (.slice A' (k + 1) c')).heap.size) := Lib.hid (by have := hgrow.size; simp [World.setCell] at this ⊢; omega)
            have c2 := he.three.2.2
            have c2' : (wr.alloc (.cells #[.int .i64 x] 2)).cell? ⟨q, 2, none⟩ = some (.slice A k cp) := (World.cell?_alloc_lt _ _ _ (World.block_lt_of_cell? _ _ c2)).trans c2
            have e2 := ((he.alloc (.cells #[.int .i64 x] 2)).grew hgrow hne1).three.2.2
            have f2 := ((he.alloc (.cells #[.int .i64 x] 2)).grew hgrow hne1).free 2
            have HR := Lib.hid hrun
            have d4 : decide ((k : Int) < (n : Int)) = true := by simp; omega
            clear he hx hown hb hown' hgrow hat hrun hl1 hne1 hne2 hA' hc1'
            go_wp2_with fail
            refine (refgetint_any s _ wr hs).mono ?_
            rw [HL.out]
            rintro e w9 ⟨rfl, rfl⟩
            have HIV2 : wrap64 (getv l (10 + 8 * (k : Int)) 8 : Nat) = x := by
              have := HIV.out
              rwa [show ((10 + 8 * k : Nat) : Int) = 10 + 8 * (k : Int) by omega] at this
            rw [HIV2]
            clear HIV2 HIV
            go_wp2_with (at_builtin; refine wpList_app HR.out rfl rfl rfl rfl rfl ?_)
            go_roundw
            case rel => exact ⟨k + 1, A', c', by omega, by go_num, HE.out, HXX.out, by rw [HTK.out]; exact HOW.out, HSW.out, HBW.out⟩
            case measure => simp [intOf]; omega
          · obtain rfl : k = n := by omega
            have HTK : Hid ((gvs l).take k = gvs l) := Lib.hid (List.take_of_length_le (by rw [HLN.out]; exact Nat.le_refl _))
            rw [HTK.out] at hown
            obtain ⟨A2, c2, ev2, hA2, hc12, hc22, hc32⟩ := own_shape hown
            cases ev2
            have hl1 := hown.lt
            have HE := Lib.hid he
            have HXX := Lib.hid hx
            have HOW := Lib.hid hown
            have HBW := Lib.hid hb
            obtain ⟨y0, y1, y2⟩ := he.three
            obtain ⟨z0, z1, z2⟩ := hx.three
            have f0 := hx.free 0
            have f1 := hx.free 1
            have f2 := hx.free 2
            have d4 : decide ((k : Int) < (k : Int)) = false := by simp
            clear he hx hown hb hA2
            go_wp2
            have R := ((HXX.out.put 0 (.int .i64 (byteAt l 0 : Nat))).put 1 (.int .i64 (intAt l 2))).put 2 (.slice A k cp)
            have hR0 := R.cell 0
            have hR1 := R.cell 1
            have hR2 := R.cell 2
            simp at hR0 hR1 hR2
            refine bodyPost_ret (v := .tuple #[.agg #[.int .i64 (byteAt l 0 : Nat), .int .i64 (intAt l 2), .slice A k cp], .int .i64 0]) (by simp [results, Try.results13, go_sem, hR0, hR1, hR2]) rfl ?_
            have hlie : Lies (((wr.setCell ⟨w.heap.size, 0, none⟩ (.int .i64 (byteAt l 0 : Nat))).setCell ⟨w.heap.size, 1, none⟩ (.int .i64 (intAt l 2))).setCell ⟨w.heap.size, 2, none⟩ (.slice A k cp)) A (ints (gvs l)) := by
              have o1 := ownsRow_setCell_below (ownsRow_setCell_below (ownsRow_setCell_below HOW.out (a := ⟨w.heap.size, 0, none⟩) (by simp; omega) (.int .i64 (byteAt l 0 : Nat))) (a := ⟨w.heap.size, 1, none⟩) (by simp; omega) (.int .i64 (intAt l 2))) (a := ⟨w.heap.size, 2, none⟩) (by simp; omega) (.slice A k cp)
              obtain ⟨A3, c3, ev3, hA3, _⟩ := own_shape o1
              cases ev3
              exact hA3
            refine ⟨A, cp, ?_, ((HBW.out.setCell (p := ⟨w.heap.size, 0, none⟩) (by simp) _).setCell (p := ⟨w.heap.size, 1, none⟩) (by simp) _).setCell (p := ⟨w.heap.size, 2, none⟩) (by simp) _, ?_⟩
            · have e1 : gK l = (byteAt l 0 : Nat) := by rw [gK, if_pos HG.out]
              have e2 : gT l = intAt l 2 := by rw [gT, if_pos HG.out]
              have e3 : gV l = gvs l := by rw [gV, if_pos HG.out]
              have e4 : gE l = 0 := by rw [gE, if_pos HG.out]
              rw [e1, e2, e3, e4, HLN.out]
              rfl
            · rw [gV, if_pos HG.out]
              exact hlie
      · have d3 : ((s.size : Int) != 10 + 8 * (n : Int)) = true := by simp; omega
        have HG : Hid (gok l = false) := Lib.hid (gok_no (by rw [HN.out]; omega))
        clear hsz
        go_enter Try.func13, Try.ntmps13
        go_wp2
        refine bodyPost_ret (v := .tuple #[.agg #[.int .i64 0, .int .i64 0, .slice none 0 0], .int .i64 7]) (by simp [results, Try.results13, go_sem]) rfl ?_
        exact ⟨none, 0, by simp [gK, gT, gV, gE, HG.out, ev], XB.out, fun i u hu => by simp [gV, HG.out] at hu⟩
end Go.Proofs.Ytcmgkmllmdgcbaa
