/- The document's Add: a number put in its place. -/
import Derived.Test.YtadgplpbkephiaaSpRefA
namespace Go.Proofs.Ytadgplpbkephiaa
open Go.RowKit
set_option linter.unusedVariables false

set_option maxHeartbeats 2000000 in
theorem add19_few {w : World} {b off n c : Nat} {S : List Sp} (h : Sl w (some ⟨b, off, none⟩) n c S) (v : Int) (hr : decide (Rgt S) = true) (hh : hs S v = false) (hn4 : n < 4) :
    Calls Try.prog 12 #[.agg #[.slice (some ⟨b, off, none⟩) n c], .int .i64 v] w fun e w' => Got (putS S v) w e w' := by
  have hn := h.le
  have hm := h.max
  have hl := h.len
  unfold maxLen at hm
  obtain ⟨i, hi⟩ : ∃ i, pos S v = i := ⟨_, rfl⟩
  have p1 := pos_le v S
  have p2 := pos_lt v S
  have p3 := pos_at v S
  have p4 := putS_pos S v
  rw [hi] at p1 p2 p3 p4
  rw [hl] at p1 p3
  have hic : i ≤ c := by omega
  obtain ⟨ad, had⟩ : ∃ ad : Addr, (if c = i then some (⟨b, off, none⟩ : Addr) else some ⟨b, off + i * 2, none⟩) = some ad := by split <;> exact ⟨_, rfl⟩
  have HP2 := Lib.hid p2
  have HP3 := Lib.hid p3
  have HP4 := Lib.hid p4
  have HHAD : Hid (i < c → ad = ⟨b, off + i * 2, none⟩) := Lib.hid fun hlt => by rw [if_neg (by omega)] at had; exact (Option.some.inj had).symm
  clear p2 p3 p4 hi hl
  have K0 := Ad.start (t := 28) h
  generalize hW : (w.alloc (.cells #[.slice (some ⟨b, off, none⟩) n c] 28)).alloc (.cells #[.slice none 0 0] 28) = W0 at K0
  have HW := Lib.hid hW
  have HR := Lib.hid (right19 K0.sl)
  rw [hr] at HR
  have HK := Lib.hid K0
  have x0 := K0.box.cell 0
  clear h hr K0
  go_enter Try.func12, Try.ntmps12
  go_wp2_with fail
  refine HR.out.mono ?_
  rintro e w1 ⟨rfl, b1⟩
  have HK1 := Lib.hid (HK.out.next b1)
  have x1 := HK1.out.box.cell 0
  have HH := Lib.hid (has19 HK1.out.sl v)
  rw [hh] at HH
  clear b1 hh x0
  go_wp2_with fail
  refine HH.out.mono ?_
  rintro e w2 ⟨rfl, b2⟩
  have HK2 := Lib.hid (HK1.out.next b2)
  have x2 := HK2.out.box.cell 0
  clear b2 HK1 x1 HK HR HH
  obtain ⟨N1, hN1⟩ : ∃ N1, n + 1 = N1 := ⟨_, rfl⟩
  have hN5 : (N1 : Int) < 5 := by omega
  obtain ⟨w3, w4, w5, C, e5, v1, v2, R⟩ := put_runs (HK2.out.sl.pre i p1) (HK2.out.sl.suf i p1 (ad := ad) HHAD.out) v v (n := N1) (by omega) (by omega)
  rw [show S.take i ++ [(v, v)] ++ S.drop i = putS S v by rw [HP4.out]; simp] at R
  have R1 := Lib.hid R.r1
  have R2 := Lib.hid R.r2
  have R3 := Lib.hid R.r3
  have x4 := (HK2.out.next R.b4).box.cell 0
  have HK5 := Lib.hid (HK2.out.next R.b5)
  have HS5 := Lib.hid R.sl
  clear R
  go_wp2
  go_loop [6] (fun iv => ∃ j : Nat, j ≤ i ∧ iv = .int .i64 j) (fun iv => i - (intOf iv).toNat)
  case atStart => exact ⟨0, Nat.zero_le _, rfl⟩
  case round =>
    obtain ⟨j, hj, rfl⟩ := hrel
    by_cases hlt : j < i
    · obtain ⟨b', off', e, hg, c1, -⟩ := HK2.out.sl.cel j (by omega)
      cases e
      have hx := HP2.out j hlt
      generalize (sp S j).1 = x at *
      have hjn : j < n := by omega
      have hjn' : (j : Int) < n := by omega
      go_wp2
      go_round
      case rel => exact ⟨j + 1, by omega, by go_num⟩
      case measure => simp [intOf]; omega
    · obtain rfl : j = i := by omega
      have y5 := HK5.out.res.cell 0
      have z5 := HK5.out.res.free 0
      obtain ⟨w6, h6, hr6, hs6, hb6⟩ := HK5.out.store HS5.out
      have HE := Lib.hid (And.intro hs6 hb6)
      have hc6 := hr6.cell 0
      clear hr6 hs6 hb6
      by_cases hjn : j < n
      · obtain ⟨b', off', e, hg, c1, -⟩ := HK2.out.sl.cel j hjn
        cases e
        have hx := HP3.out hjn
        generalize (sp S j).1 = x at *
        have ead := HHAD.out (by omega)
        clear had
        subst ead
        go_upto_region 8 with (at_builtin; refine wpList_app R1.out rfl rfl rfl rfl rfl ?_)
        go_upto_region 9 with (at_builtin; refine wpList_app R2.out rfl rfl rfl rfl rfl ?_)
        go_wp2_with (at_builtin; refine wpList_app R3.out rfl rfl rfl rfl rfl ?_)
        refine bodyPost_ret (v := .agg #[.slice C N1 e5]) (by simp [results, Try.results12, go_sem, hc6]) rfl ?_
        exact ⟨C, N1, e5, rfl, HE.out.1, HE.out.2⟩
      · have hjn' : ¬ (j : Int) < n := by omega
        go_upto_region 8 with (at_builtin; refine wpList_app R1.out rfl rfl rfl rfl rfl ?_)
        go_upto_region 9 with (at_builtin; refine wpList_app R2.out rfl rfl rfl rfl rfl ?_)
        go_wp2_with (at_builtin; refine wpList_app R3.out rfl rfl rfl rfl rfl ?_)
        refine bodyPost_ret (v := .agg #[.slice C N1 e5]) (by simp [results, Try.results12, go_sem, hc6]) rfl ?_
        exact ⟨C, N1, e5, rfl, HE.out.1, HE.out.2⟩
end Go.Proofs.Ytadgplpbkephiaa
