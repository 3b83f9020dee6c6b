/- The document's Add: two neighbours made one. -/
import Derived.Test.YtadgplpbkephiaaSpRefC
import Derived.Test.YtadgplpbkephiaaSpNear
namespace Go.Proofs.Ytadgplpbkephiaa
open Go.RowKit
set_option linter.unusedVariables false

set_option maxHeartbeats 2000000 in
theorem add19_many {w : World} {b off c : Nat} {S : List Sp} (h : Sl w (some ⟨b, off, none⟩) 4 c S) (v : Int) (hr : decide (Rgt S) = true) (hh : hs S v = false) (k : Nat) (hk : near (putS S v) 4 = k) :
    Calls Try.prog 12 #[.agg #[.slice (some ⟨b, off, none⟩) 4 c], .int .i64 v] w fun e w' => Got (joinS (putS S v) k) w e w' := by
  have hn := h.le
  have hm := h.max
  have hl := h.len
  unfold maxLen at hm
  obtain ⟨i, hi⟩ : ∃ i, pos S v = i := ⟨_, rfl⟩
  have p1 := pos_le v S
  have p2 := pos_lt v S
  have p3 := pos_at v S
  have p4 := putS_pos S v
  rw [hi] at p1 p2 p3 p4
  rw [hl] at p1 p3
  have hic : i ≤ c := by omega
  obtain ⟨ad, had⟩ : ∃ ad : Addr, (if c = i then some (⟨b, off, none⟩ : Addr) else some ⟨b, off + i * 2, none⟩) = some ad := by split <;> exact ⟨_, rfl⟩
  have HP2 := Lib.hid p2
  have HP3 := Lib.hid p3
  have HP4 := Lib.hid p4
  have HHAD : Hid (i < c → ad = ⟨b, off + i * 2, none⟩) := Lib.hid fun hlt => by rw [if_neg (by omega)] at had; exact (Option.some.inj had).symm
  clear p2 p3 p4 hi hl
  have K0 := Ad.start (t := 28) h
  generalize hW : (w.alloc (.cells #[.slice (some ⟨b, off, none⟩) 4 c] 28)).alloc (.cells #[.slice none 0 0] 28) = W0 at K0
  have HW := Lib.hid hW
  have HR := Lib.hid (right19 K0.sl)
  rw [hr] at HR
  have HK := Lib.hid K0
  have x0 := K0.box.cell 0
  clear h hr K0
  go_enter Try.func12, Try.ntmps12
  go_wp2_with fail
  refine HR.out.mono ?_
  rintro e w1 ⟨rfl, b1⟩
  have HK1 := Lib.hid (HK.out.next b1)
  have x1 := HK1.out.box.cell 0
  have HH := Lib.hid (has19 HK1.out.sl v)
  rw [hh] at HH
  clear b1 hh x0
  go_wp2_with fail
  refine HH.out.mono ?_
  rintro e w2 ⟨rfl, b2⟩
  have HK2 := Lib.hid (HK1.out.next b2)
  have x2 := HK2.out.box.cell 0
  clear b2 HK1 x1 HK HR HH
  have hk4 := (near_lt (putS S v) 4).2 (by omega)
  rw [hk] at hk4
  obtain ⟨w3, w4, w5, C, e5, v1, v2, R⟩ := put_runs (HK2.out.sl.pre i p1) (HK2.out.sl.suf i p1 (ad := ad) HHAD.out) v v (n := 5) (by omega) (by omega)
  rw [show S.take i ++ [(v, v)] ++ S.drop i = putS S v by rw [HP4.out]; simp] at R
  have R1 := Lib.hid R.r1
  have R2 := Lib.hid R.r2
  have R3 := Lib.hid R.r3
  have x4 := (HK2.out.next R.b4).box.cell 0
  have HK5 := Lib.hid (HK2.out.next R.b5)
  have HS5 := Lib.hid R.sl
  clear R
  go_wp2
  go_loop [6] (fun iv => ∃ j : Nat, j ≤ i ∧ iv = .int .i64 j) (fun iv => i - (intOf iv).toNat)
  case atStart => exact ⟨0, Nat.zero_le _, rfl⟩
  case round =>
    obtain ⟨j, hj, rfl⟩ := hrel
    by_cases hlt : j < i
    · obtain ⟨b', off', e, hg, c1, -⟩ := HK2.out.sl.cel j (by omega)
      cases e
      have hx := HP2.out j hlt
      generalize (sp S j).1 = x at *
      have hjn : j < 4 := by omega
      have hjn' : (j : Int) < 4 := by omega
      go_wp2
      go_round
      case rel => exact ⟨j + 1, by omega, by go_num⟩
      case measure => simp [intOf]; omega
    · obtain rfl : j = i := by omega
      have HJA := Lib.hid (joinS_at (putS S v) k (by rw [putS_len, HK2.out.sl.len]; omega))
      have HKN := Lib.hid hk
      obtain ⟨g5, o5, rfl⟩ := HS5.out.shp (by have := HS5.out.le; omega)
      have he5 := HS5.out.le
      have hm5 := HS5.out.max
      unfold maxLen at hm5
      by_cases hjn : j < 4
      case' pos =>
        obtain ⟨b', off', e, hg, c1, -⟩ := HK2.out.sl.cel j hjn
        cases e
        have hx := HP3.out hjn
        generalize (sp S j).1 = x at *
        have ead := HHAD.out (by omega)
        clear had
        subst ead
      case' neg =>
        have hjn' : ¬ (j : Int) < 4 := by omega
      all_goals
        go_upto_region 8 with (at_builtin; refine wpList_app R1.out rfl rfl rfl rfl rfl ?_)
        go_upto_region 9 with (at_builtin; refine wpList_app R2.out rfl rfl rfl rfl rfl ?_)
        go_upto_region 10 with (at_builtin; refine wpList_app R3.out rfl rfl rfl rfl rfl ?_)
        clear R1 R2 R3 x4 x2
        have HNS : Hid (∀ q, near (putS S v) (q + 1) = if gapU (putS S v) q < gapU (putS S v) (near (putS S v) q) then q else near (putS S v) q) := Lib.hid fun _ => rfl
        have HN1 : Hid (near (putS S v) 1 = 0) := Lib.hid (by simp [near])
        have HNL : Hid (∀ q, 0 < q → near (putS S v) q < q) := Lib.hid fun q h => (near_lt (putS S v) q).2 h
        go_wp2
        go_loopw [7, 8] (fun t i wr => ∃ q : Nat, 1 ≤ q ∧ q ≤ 4 ∧ i = .int .i64 ((q + 1 : Nat) : Int) ∧ t = .int .i64 ((near (putS S v) q + 1 : Nat) : Int) ∧ Hid (Below w5.heap.size w5 wr)) (fun _ i _ => 5 - (intOf i).toNat)
        case atStart => exact ⟨1, Nat.le_refl _, by omega, rfl, by rw [HN1.out]; rfl, Lib.hid (Below.refl _ _)⟩
        case round =>
          obtain ⟨q, hq1, hq4, rfl, rfl, HBW⟩ := hrel
          have hne := HNL.out q hq1
          have HNE := Lib.hid (HNS.out q)
          have HMK : Hid (q = 4 → near (putS S v) q = k) := Lib.hid fun e => by rw [e]; exact HKN.out
          generalize near (putS S v) q = m at *
          have HSW := Lib.hid (HS5.out.below HBW.out)
          obtain ⟨g5', o5', e, -, hcc⟩ := HSW.out.all (by omega)
          cases e
          obtain ⟨q1, hq1'⟩ : ∃ q1, q + 1 = q1 := ⟨_, rfl⟩
          obtain ⟨m1, hm1'⟩ : ∃ m1, m + 1 = m1 := ⟨_, rfl⟩
          rw [hq1', hm1']
          have a1 : IntKind.i64.wrap ((q1 : Int) - 1) = (q : Int) := by rw [IntWalk.i64_in _ (by omega)]; omega
          have a2 : (q1 : Int) - 1 = (q : Int) := by omega
          have a3 : IntKind.i64.wrap (q : Int) = (q : Int) := IntWalk.i64_in _ (by omega)
          have a4 : IntKind.i64.wrap ((m1 : Int) - 1) = (m : Int) := by rw [IntWalk.i64_in _ (by omega)]; omega
          have a5 : (m1 : Int) - 1 = (m : Int) := by omega
          have a6 : IntKind.i64.wrap (m : Int) = (m : Int) := IntWalk.i64_in _ (by omega)
          by_cases hqq : q < 4
          · have hq5 : (q1 : Int) < 5 := by omega
            have i1 : q1 < 5 := by omega
            have i2 : (q : Int) < 5 := by omega
            have i3 : (m1 : Int) < 5 := by omega
            have i4 : (m : Int) < 5 := by omega
            have i5 : q < 5 := by omega
            have i6 : m1 < 5 := by omega
            have i7 : m < 5 := by omega
            have d1 := (hcc q1 i1).1
            have d2 := (hcc q i5).2
            have d3 := (hcc m1 i6).1
            have d4 := (hcc m i7).2
            rw [gapU_eq, gapU_eq, hq1', hm1'] at HNE
            clear hcc
            generalize (sp (putS S v) q1).1 = x1 at *
            generalize (sp (putS S v) q).2 = x2 at *
            generalize (sp (putS S v) m1).1 = x3 at *
            generalize (sp (putS S v) m).2 = x4 at *
            have g1 := gpv_wrap x2 x1
            have g2 := gpv_wrap x4 x3
            have HQ1 := Lib.hid hq1'
            have HM1 := Lib.hid hm1'
            clear hq1' hm1'
            by_cases hd : gpv x2 x1 < gpv x4 x3
            · rw [if_pos hd] at HNE
              go_wp2_with fail
              go_quiet (fail)
              go_wp2
              go_roundw
              case rel => exact ⟨q1, by omega, by omega, by first | rfl | go_num, by rw [HNE.out, HQ1.out], Lib.hid (below_drewN HBW.out _)⟩
              case measure => simp [intOf]; omega
            · rw [if_neg hd] at HNE
              go_wp2_with fail
              go_quiet (fail)
              go_wp2
              go_roundw
              case rel => exact ⟨q1, by omega, by omega, by first | rfl | go_num, by rw [HNE.out, HM1.out], Lib.hid (below_drewN HBW.out _)⟩
              case measure => simp [intOf]; omega
          · have hq4' : q = 4 := by omega
            have hmk := HMK.out hq4'
            have hq5 : ¬ (q1 : Int) < 5 := by omega
            obtain ⟨m2, hm2⟩ : ∃ m2, m1 + 1 = m2 := ⟨_, rfl⟩
            have hm4 : m < 4 := by omega
            obtain ⟨ad2, had2⟩ : ∃ ad : Addr, (if e5 = m2 then some (⟨g5, o5, none⟩ : Addr) else some ⟨g5, o5 + m2 * 2, none⟩) = some ad := by split <;> exact ⟨_, rfl⟩
            have HAD2 : Hid (m2 < e5 → ad2 = ⟨g5, o5 + m2 * 2, none⟩) := Lib.hid fun hlt => by rw [if_neg (by omega)] at had2; exact (Option.some.inj had2).symm
            have d1 := (hcc m (by omega)).1
            have d2 := (hcc m1 (by omega)).2
            obtain ⟨w7, w8, w9, D, e9, v1', v2', R⟩ := join_runs (HSW.out.pre m (by omega)) (HSW.out.suf m2 (by omega) (ad := ad2) HAD2.out) (sp (putS S v) m).1 (sp (putS S v) m1).2 (n := 4) (by omega) (by omega)
            rw [show (putS S v).take m ++ [((sp (putS S v) m).1, (sp (putS S v) m1).2)] ++ (putS S v).drop m2 = joinS (putS S v) k by rw [HJA.out, ← hmk, hm1', ← hm2, ← hm1']; simp] at R
            have d1' := (R.b3.cell (World.block_lt_of_cell? _ _ d1)).trans d1
            have d2' := (R.b3.cell (World.block_lt_of_cell? _ _ d2)).trans d2
            generalize (sp (putS S v) m).1 = x1 at *
            generalize (sp (putS S v) m1).2 = x2 at *
            have R1 := Lib.hid R.r1
            have R2 := Lib.hid R.r2
            have R3 := Lib.hid R.r3
            have HKW := Lib.hid (HK5.out.next HBW.out)
            have HK9 := Lib.hid (HKW.out.next R.b5)
            have HS9 := Lib.hid R.sl
            have y9 := HK9.out.res.cell 0
            have z9 := HK9.out.res.free 0
            obtain ⟨w10, h10, hr10, hs10, hb10⟩ := HK9.out.store HS9.out
            have HE := Lib.hid (And.intro hs10 hb10)
            have hc10 := hr10.cell 0
            have a7 : IntKind.i64.wrap ((m1 : Int) + 1) = (m2 : Int) := by rw [IntWalk.i64_in _ (by omega)]; omega
            have a8 : (m1 : Int) + 1 = (m2 : Int) := by omega
            have a9 : IntKind.i64.wrap (m2 : Int) = (m2 : Int) := IntWalk.i64_in _ (by omega)
            have i1 : m ≤ e5 := by omega
            have i2 : m2 ≤ 5 := by omega
            have i3 : (m1 : Int) < 5 := by omega
            have i4 : (m : Int) < 5 := by omega
            have i5 : (m2 : Int) ≤ 5 := by omega
            have i6 : m1 < 5 := by omega
            have i7 : m < 5 := by omega
            clear R hr10 hs10 hb10 hcc hmk hq4' d1 d2 HNE HMK
            by_cases hlast : m2 < e5
            · have ead := HAD2.out hlast
              clear had2
              subst ead
              have hne5 : ¬ e5 = m2 := by omega
              go_upto_region 20 with (at_builtin; refine wpList_app R1.out rfl rfl rfl rfl rfl ?_)
              go_region_law (refine step_app (R := fun x y => v2' = x ∧ w8 = y) ⟨_, _, R2.out, rfl, rfl⟩ rfl rfl rfl ?_ ?_ ?_; (· (simp [Act.eval]; done)); (· (simp [Act.eval]; done)); rintro _ _ ⟨rfl, rfl⟩)
              all_goals
                go_wp2_with (at_builtin; refine wpList_app R3.out rfl rfl rfl rfl rfl ?_)
                refine bodyPost_ret (v := .agg #[.slice D 4 e9]) (by simp [results, Try.results12, go_sem, hc10]) rfl ?_
                exact ⟨D, 4, e9, rfl, HE.out.1, HE.out.2⟩
            · have hm25 : m2 = 5 := by omega
              have he : e5 = 5 := by omega
              have ead : ad2 = ⟨g5, o5, none⟩ := by
                rw [if_pos (by omega)] at had2
                exact (Option.some.inj had2).symm
              have r3 := R3.out
              rw [ead, show 5 - m2 = 0 by omega, show e5 - m2 = 0 by omega] at r3
              have R4 := Lib.hid r3
              clear had2 HAD2 R3 r3 ead hlast hm2
              subst he
              subst hm25
              go_upto_region 20 with (at_builtin; refine wpList_app R1.out rfl rfl rfl rfl rfl ?_)
              go_region_law (refine step_app (R := fun x y => v2' = x ∧ w8 = y) ⟨_, _, R2.out, rfl, rfl⟩ rfl rfl rfl ?_ ?_ ?_; (· (simp [Act.eval]; done)); (· (simp [Act.eval]; done)); rintro _ _ ⟨rfl, rfl⟩)
              all_goals
                go_wp2_with (at_builtin; refine wpList_app R4.out rfl rfl rfl rfl rfl ?_)
                refine bodyPost_ret (v := .agg #[.slice D 4 e9]) (by simp [results, Try.results12, go_sem, hc10]) rfl ?_
                exact ⟨D, 4, e9, rfl, HE.out.1, HE.out.2⟩
end Go.Proofs.Ytadgplpbkephiaa
