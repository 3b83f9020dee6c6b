/- The reference's Get. -/
import Derived.Test.YtkoomphkbiifhaaDoorScRefMath
import Derived.Test.YtkoomphkbiifhaaDoorScRefRight
import Derived.Test.YtkoomphkbiifhaaDoorScRefPut
import Derived.Test.YtkoomphkbiifhaaDoorScOwnR
import Derived.Test.YtkoomphkbiifhaaDoorScOwnS
import Derived.Test.YtkoomphkbiifhaaDoorAppStep
import Derived.Deep.RegionLaw
namespace Go.Proofs.YtkoomphkbiifhaaDoor
open Go.RowKit
set_option linter.unusedVariables false

theorem up40_any (s : Nm) (w : World) (hs : s.length ≤ 9223372036854775807) :
    Calls Tryd.prog 31 #[.string (str s), .string { data := #[40] }] w fun e w' => e = .returned (.int .i64 (upN [40] s)) ∧ Below w.heap.size w w' := upTo_any s [40] w hs (by simp)
theorem up44_any (s : Nm) (w : World) (hs : s.length ≤ 9223372036854775807) :
    Calls Tryd.prog 31 #[.string (str s), .string { data := #[44, 41] }] w fun e w' => e = .returned (.int .i64 (upN [44, 41] s)) ∧ Below w.heap.size w w' := upTo_any s [44, 41] w hs (by simp)
theorem extract_take (l : Nm) (k : Nat) : (str l).extract 0 k = str (l.take k) := by
  rw [← str_of ((str l).extract 0 k)]
  congr 1
  rw [Lib.extract_data, str_data]
  simp
set_option maxHeartbeats 4000000 in
set_option maxRecDepth 100000 in
theorem rget_any (t : Nm) (w : World) (hs : t.length ≤ 100000000) :
    Calls Tryd.prog 14 #[.string (str t)] w (GetPost (rgetT t) w) := by
  go_enter Tryd.func14, Tryd.ntmps14
  go_wp2_with fail
  go_loopw [4, 5] (fun v s wr => ∃ (acc : List Kd) (rest : Nm) (f : Nat), s = .string (str rest) ∧ KR wr w.heap.size v acc ∧ acc.length + rest.length ≤ t.length ∧ rest.length + 1 ≤ f ∧ kl f acc rest = npT t ∧ (∀ k ∈ acc, k.1.length ≤ t.length ∧ ∀ f ∈ k.2, f.length ≤ t.length) ∧ Below w.heap.size w wr) (fun _ s _ => (match s with | .string x => x.size | _ => 0))
  case atStart => exact ⟨[], t, t.length + 1, rfl, KR.nil w _, by simp, Nat.le_refl _, rfl, (fun k hk => by cases hk), Below.refl _ _⟩
  case round =>
    rename World => wr
    obtain ⟨acc, rest, f, rfl, hK, hac, hf, hg, hby, br⟩ := hrel
    have HG := Lib.hid hg
    have HK := Lib.hid hK
    have HB := Lib.hid hby
    clear hg hK hby
    obtain ⟨f', rfl⟩ : ∃ f', f = f' + 1 := ⟨f - 1, by omega⟩
    by_cases hr : rest = []
    · subst hr
      have es : (str ([] : Nm)).toList = [] := str_toList []
      have es2 : (!(str ([] : Nm)).toList.isEmpty) = false := by rw [es]; rfl
      obtain ⟨A, c, rfl, hKd⟩ := HK.out.shape
      have HN := Lib.hid (show npT t = acc by rw [← HG.out, kl, if_pos rfl])
      by_cases h0 : rightE acc = 0
      · have hpl : (putL acc).length ≤ 140737488355328 := by
          have := few_len (l := acc) fun k hk => by
            have h1 := right_names h0 k hk
            have h2 := (name_ok h1.1).2.1
            exact ⟨by omega, by have := h1.2.1; omega, fun f hf => by have := (name_ok (h1.2.2 f hf)).2.1; omega⟩
          omega
        have ep := str_eqB (putL acc) t
        obtain ⟨bb, hbb⟩ : ∃ bb, (putL acc == t) = bb := ⟨_, rfl⟩
        rw [hbb] at ep
        cases bb with
        | true =>
          have HE := Lib.hid (show rgetT t = some acc by unfold rgetT; rw [HN.out, if_pos ⟨h0, by simpa using hbb⟩])
          go_wp2_with fail
          refine (rright_any acc A c wr hKd (fun k hk => ⟨by have := (HB.out k hk).1; omega, fun f hf => by have := (HB.out k hk).2 f hf; omega⟩)).mono ?_
          rw [h0]
          rintro e w2 ⟨rfl, b2⟩
          go_wp2_with fail
          refine (rput_any acc A c w2 (hKd.below b2) hpl).mono ?_
          rintro e w3 ⟨rfl, rfl⟩
          go_wp2_with fail
          go_ret2
          rw [HE.out]
          exact ⟨br.trans (b2.mono br.size), A, c, rfl, hKd.below b2⟩
        | false =>
          have HE := Lib.hid (show rgetT t = none by unfold rgetT; rw [HN.out, if_neg (fun hh => by rw [hh.2] at hbb; simp at hbb)])
          go_wp2_with fail
          refine (rright_any acc A c wr hKd (fun k hk => ⟨by have := (HB.out k hk).1; omega, fun f hf => by have := (HB.out k hk).2 f hf; omega⟩)).mono ?_
          rw [h0]
          rintro e w2 ⟨rfl, b2⟩
          go_wp2_with fail
          refine (rput_any acc A c w2 (hKd.below b2) hpl).mono ?_
          rintro e w3 ⟨rfl, rfl⟩
          go_wp2_with fail
          go_ret2
          rw [HE.out]
          exact ⟨br.trans (b2.mono br.size), rfl⟩
      · have HE := Lib.hid (show rgetT t = none by unfold rgetT; rw [HN.out, if_neg (fun hh => h0 hh.1)])
        obtain ⟨x, hx⟩ : ∃ x, rightE acc = x := ⟨_, rfl⟩
        rw [hx] at h0
        have hx0 : (x != 0) = true := by simpa using h0
        have hx1 : (x == 0) = false := by simpa using h0
        have HX := Lib.hid hx
        clear hx
        go_wp2_with fail
        refine (rright_any acc A c wr hKd (fun k hk => ⟨by have := (HB.out k hk).1; omega, fun f hf => by have := (HB.out k hk).2 f hf; omega⟩)).mono ?_
        rw [HX.out]
        rintro e w2 ⟨rfl, b2⟩
        go_wp2_with fail
        go_ret2
        rw [HE.out]
        exact ⟨br.trans (b2.mono br.size), rfl⟩
    · have es : (str rest).toList.isEmpty = false := by rw [str_toList]; simpa using hr
      have es2 : ((str rest).toList = []) = False := by rw [str_toList]; simpa using hr
      have es3 : (!(str rest).toList.isEmpty) = true := by rw [es]; rfl
      have hz := str_size rest
      have hp : 0 < rest.length := List.length_pos_iff.2 hr
      have ul := upN_le [40] rest
      have cc := up40_any rest wr (by omega)
      have hg := HG.out
      rw [kl, if_neg hr] at hg
      clear HG
      obtain ⟨n, hn⟩ : ∃ n, upN [40] rest = n := ⟨_, rfl⟩
      rw [hn] at hg ul cc
      have HG := Lib.hid hg
      clear hg hn
      have x1 := extract_take rest n
      go_wp2_with fail
      refine cc.mono ?_
      rintro e w1 ⟨rfl, b1⟩
      have B1 := br.trans (b1.mono br.size)
      have HK1 := Lib.hid (HK.out.below b1)
      clear cc HK
      obtain ⟨m, hm⟩ : ∃ m : Nat, min ((n : Int) + 1) (rest.length : Int) = (m : Int) := ⟨min (n + 1) rest.length, by omega⟩
      have x2 := extract_str rest m
      have HM := Lib.hid (show rest.drop m = rest.drop (n + 1) by
        by_cases h2 : n + 1 ≤ rest.length
        · rw [show m = n + 1 by omega]
        · rw [List.drop_eq_nil_of_le (by omega), List.drop_eq_nil_of_le (by omega)])
      go_wp2_with fail
      obtain ⟨P, hP⟩ : ∃ P, fl (rest.length + 1) [] (rest.drop (n + 1)) = P := ⟨_, rfl⟩
      have HP := Lib.hid hP
      clear hP
      go_loopw [5] (fun s wi => ∃ (fa : List Nm) (r : Nm) (g : Nat) (v : Value), s = .string (str r) ∧ Has wi w1.heap.size 42 #[.string (str (rest.take n)), v] ∧ SW wi (w1.heap.size + 1) v fa ∧ fa.length + r.length + 1 ≤ rest.length ∧ r.length + 1 ≤ g ∧ fl g fa r = P ∧ (∀ f ∈ fa, f.length ≤ rest.length) ∧ Below w1.heap.size w1 wi) (fun s _ => (match s with | .string x => x.size | _ => 0))
      case atStart => exact ⟨[], rest.drop (n + 1), rest.length + 1, .slice none 0 0, by rw [HM.out], Has.new _ _ _, SW.nil _ _, by rw [List.length_drop, List.length_nil]; omega, by rw [List.length_drop]; omega, HP.out, (fun f hf => by cases hf), (Below.refl _ _).alloc (Nat.le_refl _) _⟩
      case round =>
        rename World => wi
        obtain ⟨fa, r, g, v, rfl, hX, hSW, hfa, hgr, hfl, hfb, bi⟩ := hrel
        have HFL := Lib.hid hfl
        have HFB := Lib.hid hfb
        clear hfl hfb x1 x2 hm es es2 es3
        obtain ⟨g', rfl⟩ : ∃ g', g = g' + 1 := ⟨g - 1, by omega⟩
        by_cases hr0 : r = []
        · have HPE := Lib.hid (show P = (fa, r) by rw [← HFL.out, fl, if_pos (.inl hr0)])
          have er : (str r).toList = [] := by rw [str_toList, hr0]
          have er2 : (!(str r).toList.isEmpty) = false := by rw [er]; rfl
          have hzr := str_size r
          clear hr0
          have hg2 := HG.out
          rw [HP.out, HPE.out] at hg2
          have HG2 := Lib.hid hg2
          clear hg2
          have HKi := Lib.hid (HK1.out.below bi)
          obtain ⟨Af, cf, rfl, hSt⟩ := hSW.shape
          have hlK := HK1.out.lt
          have hlS := hSW.lt
          obtain ⟨v', w4, hrun, hK4, b4, _, _, _⟩ := HKi.out.app (Nat.le_trans B1.size bi.size) (rest.take n, fa) Af cf hSt (fun h0 a ha => by
            intro e
            have h1 := (hlK _ e).2
            obtain ⟨fb, foff, e5, hc⟩ := hSt.shape h0
            have h2 := (hlS fb (by rw [e5]; rfl)).1
            rw [ha] at e5
            cases e5
            simp only at *
            omega) (by omega)
          have HR := Lib.hid hrun
          obtain ⟨X0, X1⟩ := hX.cell0
          obtain ⟨m2, hm2⟩ : ∃ m2 : Nat, min (2 : Int) (r.length : Int) = (m2 : Int) := ⟨min 2 r.length, by omega⟩
          have x3 := extract_str r m2
          have HM2 := Lib.hid (show r.drop m2 = r.drop 2 by
            by_cases h2 : 2 ≤ r.length
            · rw [show m2 = 2 by omega]
            · rw [List.drop_eq_nil_of_le (by omega), List.drop_eq_nil_of_le (by omega)])
          clear hrun hlK hlS
          go_wp2_with (at_builtin; refine wpList_app HR.out rfl rfl rfl rfl rfl ?_)
          go_wp2_with fail
          go_roundw
          case rel =>
            refine ⟨acc ++ [(rest.take n, fa)], r.drop 2, f', by rw [HM2.out], hK4, by simp; omega, by simp; omega, HG2.out, fun k hk => ?_, B1.trans ((bi.mono B1.size).trans b4)⟩
            rcases List.mem_append.1 hk with hk | hk
            · exact HB.out k hk
            · simp at hk
              subst hk
              exact ⟨by simp; omega, fun f hf => by have := HFB.out f hf; omega⟩
          case measure => simp only [HM2.out, str_size, List.length_drop]; omega
        · have er : (str r).toList.isEmpty = false := by rw [str_toList]; simpa using hr0
          have er2 : ((str r).toList = []) = False := by rw [str_toList]; simpa using hr0
          have er3 : (!(str r).toList.isEmpty) = true := by rw [er]; rfl
          have hzr := str_size r
          have hpr : 0 < r.length := List.length_pos_iff.2 hr0
          have hgt : ((str r)[0]'(by omega)).toNat = (r.getD 0 0).toNat := by rw [str_get]
          by_cases h41 : r.getD 0 0 = 41
          · have HPE := Lib.hid (show P = (fa, r) by rw [← HFL.out, fl, if_pos (.inr h41)])
            have hg41 : ((str r)[0]'(by omega)).toNat = 41 := by rw [hgt, h41]; rfl
            clear hgt
            have hg2 := HG.out
            rw [HP.out, HPE.out] at hg2
            have HG2 := Lib.hid hg2
            clear hg2
            have HKi := Lib.hid (HK1.out.below bi)
            obtain ⟨Af, cf, rfl, hSt⟩ := hSW.shape
            have hlK := HK1.out.lt
            have hlS := hSW.lt
            obtain ⟨v', w4, hrun, hK4, b4, _, _, _⟩ := HKi.out.app (Nat.le_trans B1.size bi.size) (rest.take n, fa) Af cf hSt (fun h0 a ha => by
              intro e
              have h1 := (hlK _ e).2
              obtain ⟨fb, foff, e5, hc⟩ := hSt.shape h0
              have h2 := (hlS fb (by rw [e5]; rfl)).1
              rw [ha] at e5
              cases e5
              simp only at *
              omega) (by omega)
            have HR := Lib.hid hrun
            obtain ⟨X0, X1⟩ := hX.cell0
            obtain ⟨m2, hm2⟩ : ∃ m2 : Nat, min (2 : Int) (r.length : Int) = (m2 : Int) := ⟨min 2 r.length, by omega⟩
            have x3 := extract_str r m2
            have HM2 := Lib.hid (show r.drop m2 = r.drop 2 by
              by_cases h2 : 2 ≤ r.length
              · rw [show m2 = 2 by omega]
              · rw [List.drop_eq_nil_of_le (by omega), List.drop_eq_nil_of_le (by omega)])
            clear hrun hlK hlS
            go_wp2_with (at_builtin; refine wpList_app HR.out rfl rfl rfl rfl rfl ?_)
            go_wp2_with fail
            go_roundw
            case rel =>
              refine ⟨acc ++ [(rest.take n, fa)], r.drop 2, f', by rw [HM2.out], hK4, by simp; omega, by simp; omega, HG2.out, fun k hk => ?_, B1.trans ((bi.mono B1.size).trans b4)⟩
              rcases List.mem_append.1 hk with hk | hk
              · exact HB.out k hk
              · simp at hk
                subst hk
                exact ⟨by simp; omega, fun f hf => by have := HFB.out f hf; omega⟩
            case measure => simp only [HM2.out, str_size, List.length_drop]; omega
          · have hd := HFL.out
            rw [fl, if_neg (by rintro (hh | hh); exact hr0 hh; exact h41 hh)] at hd
            have ukl := upN_le [44, 41] r
            have ukz : upN [44, 41] r = 0 → r.getD 0 0 = 44 := by
              intro h0
              cases r with
              | nil => exact absurd rfl hr0
              | cons b r =>
                rw [upN] at h0
                split at h0
                · rename_i hc
                  simp at hc h41 ⊢
                  exact hc.resolve_right h41
                · omega
            have cc := up44_any r wi (by omega)
            obtain ⟨k, hk⟩ : ∃ k, upN [44, 41] r = k := ⟨_, rfl⟩
            rw [hk] at hd ukl ukz cc
            have HD := Lib.hid hd
            have HUZ := Lib.hid ukz
            have hn41 : ¬ (r.getD 0 0).toNat = 41 := fun e => h41 (UInt8.toNat_inj.1 e)
            have HGT := Lib.hid hgt
            obtain ⟨z, hzz⟩ : ∃ z : Nat, (r.getD 0 0).toNat = z := ⟨_, rfl⟩
            rw [hzz] at hgt hn41
            have d41 : ((z : Int) == 41) = false := by rw [beq_eq_false_iff_ne]; omega
            clear hd ukz hk hzz
            go_wp2_with fail
            refine cc.mono ?_
            rintro e wj ⟨rfl, bj⟩
            have Bj := bi.trans (bj.mono bi.size)
            have hXj : Has wj w1.heap.size 42 #[.string (str (rest.take n)), v] := hX.below bj hX.lt
            have hSj := hSW.below bj
            have hlS := hSj.lt
            clear cc hgt
            obtain ⟨v', w4, hrun, hS4, b4, gr4, sz4, ow4⟩ := (hSj.below (Below.refl _ _).drew).app (w := wj.drew) (by have := hXj.lt; exact this) (r.take k) (by omega)
            obtain ⟨A', c', ev, _⟩ := hS4.shape
            obtain ⟨L, hL⟩ : ∃ L, (fa ++ [r.take k]).length = L := ⟨_, rfl⟩
            rw [hL] at ev
            subst ev
            clear hL
            have hXa : Has ((wj.drew).alloc (.cells #[.string (str (r.take k))] 9)) w1.heap.size 42 #[.string (str (rest.take n)), v] := hXj.below (((Below.refl wj.heap.size wj).drew).alloc (Nat.le_refl _) _) hXj.lt
            have hX4 : Has w4 w1.heap.size 42 #[.string (str (rest.take n)), v] := hXa.grown gr4 (fun e => by have := (hlS _ e).1; omega)
            have hX5 : Has (w4.setCell ⟨w1.heap.size, 1, none⟩ (.slice A' L c')) w1.heap.size 42 #[.string (str (rest.take n)), .slice A' L c'] := hX4.put 1 _
            have hS5 : SW (w4.setCell ⟨w1.heap.size, 1, none⟩ (.slice A' L c')) (w1.heap.size + 1) (.slice A' L c') (fa ++ [r.take k]) := hS4.set _ _ (fun e => by have := (hS4.lt _ e).1; simp only at this; omega)
            have B5 : Below w1.heap.size w1 (w4.setCell ⟨w1.heap.size, 1, none⟩ (.slice A' L c')) := ((Bj.drew).trans (b4.mono (Nat.le_succ _))).setCell (Nat.le_refl _) _
            have HR := Lib.hid hrun
            have HX5 := Lib.hid hX5
            have HS5 := Lib.hid hS5
            have hXb : Has (wj.alloc (.cells #[.string (str (r.take k))] 9)) w1.heap.size 42 #[.string (str (rest.take n)), v] := hXj.below ((Below.refl wj.heap.size wj).alloc (Nat.le_refl _) _) hXj.lt
            obtain ⟨_, X2⟩ := hXb.cell0
            clear hXb
            obtain ⟨X0, X1⟩ := hXj.cell0
            obtain ⟨Y0, Y1⟩ := hX4.cell0
            have F1 := hX4.free 1
            have x4 := extract_take r k
            have x5 := extract_str r k
            have hl1 : (r.drop k).length = r.length - k := List.length_drop
            have HC := Lib.hid (show k = 0 → (r.drop k).getD 0 0 = 44 by intro e; have := HUZ.out e; rw [e, List.drop_zero]; exact this)
            obtain ⟨r1, hr1⟩ : ∃ r1, r.drop k = r1 := ⟨_, rfl⟩
            have hd := HD.out
            rw [hr1] at hd x5 hl1 HC
            have HD1 := Lib.hid hd
            have HFK : Hid (∀ f ∈ fa ++ [r.take k], f.length ≤ rest.length) := Lib.hid (by
              intro f hf
              rcases List.mem_append.1 hf with hf | hf
              · exact HFB.out f hf
              · simp at hf; subst hf; rw [List.length_take]; omega)
            have HL1 := Lib.hid hl1
            clear hl1
            have zr1 := str_size r1
            clear HD hd hr1 hrun hX5 hS5 hXj hSj hXa hX4 hS4 gr4 sz4 ow4 hlS
            go_wp2_with fail
            go_region_law (refine step_app (R := fun x y => .slice A' L c' = x ∧ w4 = y) ⟨_, w4, HR.out, rfl, rfl⟩ rfl rfl rfl (by simp [Act.eval]) (by simp [Act.eval]) ?_; rintro _ _ ⟨rfl, rfl⟩)
            all_goals
              clear X0 X1 X2 Y0 Y1 F1 x4 HR
              by_cases h10 : r1 = []
              · have es : (str r1).toList = [] := by rw [str_toList, h10]
                have es2 : (!(str r1).toList.isEmpty) = false := by rw [es]; rfl
                have hd := HD1.out
                rw [if_neg (by rw [h10]; decide)] at hd
                have hl0 : r1.length = 0 := by rw [h10]; rfl
                have HD2 := Lib.hid hd
                clear hd h10
                go_wp2_with fail
                go_roundw
                case rel => exact ⟨fa ++ [r.take k], r1, g', .slice A' L c', rfl, HX5.out, HS5.out, by rw [List.length_append, List.length_singleton]; omega, by omega, HD2.out, HFK.out, B5⟩
                case measure => simp only [str_size]; omega
              · have es : (str r1).toList.isEmpty = false := by rw [str_toList]; simpa using h10
                have es2 : ((str r1).toList = []) = False := by rw [str_toList]; simpa using h10
                have es3 : (!(str r1).toList.isEmpty) = true := by rw [es]; rfl
                have hp1 : 0 < r1.length := List.length_pos_iff.2 h10
                have hgt1 : ((str r1)[0]'(by omega)).toNat = (r1.getD 0 0).toNat := by rw [str_get]
                by_cases h44 : r1.getD 0 0 = 44
                · have hg44 : ((str r1)[0]'(by omega)).toNat = 44 := by rw [hgt1, h44]; rfl
                  have x6 := extract_str r1 1
                  have hd := HD1.out
                  rw [if_pos h44] at hd
                  have HD2 := Lib.hid hd
                  clear hd hgt1 h44
                  go_wp2_with fail
                  go_roundw
                  case rel => exact ⟨fa ++ [r.take k], r1.drop 1, g', .slice A' L c', by rw [List.drop_one], HX5.out, HS5.out, by rw [List.length_append, List.length_singleton, List.length_drop]; have := HL1.out; omega, by rw [List.length_drop]; have := HL1.out; omega, HD2.out, HFK.out, B5⟩
                  case measure => have := HL1.out; simp only [str_size, List.length_tail]; omega
                · have hn44 : ¬ (r1.getD 0 0).toNat = 44 := fun e => h44 (UInt8.toNat_inj.1 e)
                  have hk0 : ¬ k = 0 := fun e => h44 (HC.out e)
                  obtain ⟨z1, hz1⟩ : ∃ z : Nat, (r1.getD 0 0).toNat = z := ⟨_, rfl⟩
                  rw [hz1] at hgt1 hn44
                  have d44 : ((z1 : Int) == 44) = false := by rw [beq_eq_false_iff_ne]; omega
                  have hd := HD1.out
                  rw [if_neg h44] at hd
                  have HD2 := Lib.hid hd
                  clear hd h44 hz1
                  go_wp2_with fail
                  go_roundw
                  case rel => exact ⟨fa ++ [r.take k], r1, g', .slice A' L c', rfl, HX5.out, HS5.out, by rw [List.length_append, List.length_singleton]; have := HL1.out; omega, by have := HL1.out; omega, HD2.out, HFK.out, B5⟩
                  case measure => have := HL1.out; simp only [str_size]; omega
end Go.Proofs.YtkoomphkbiifhaaDoor
