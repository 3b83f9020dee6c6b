/- The document's Add: a number put into none. -/
import Derived.Test.YtadgplpbkephiaaSpRefB
namespace Go.Proofs.Ytadgplpbkephiaa
open Go.RowKit
set_option linter.unusedVariables false

set_option maxHeartbeats 2000000 in
theorem add19_zero {w : World} {A : Option Addr} (h : Sl w A 0 0 []) (v : Int) (hr : decide (Rgt []) = true) (hh : hs [] v = false) :
    Calls Try.prog 12 #[.agg #[.slice A 0 0], .int .i64 v] w fun e w' => Got [(v, v)] w e w' := by
  have K0 := Ad.start (t := 28) h
  generalize hW : (w.alloc (.cells #[.slice A 0 0] 28)).alloc (.cells #[.slice none 0 0] 28) = W0 at K0
  have HW := Lib.hid hW
  have HR := Lib.hid (right19 K0.sl)
  rw [hr] at HR
  have HK := Lib.hid K0
  have x0 := K0.box.cell 0
  clear h hr K0
  go_enter Try.func12, Try.ntmps12
  go_wp2_with fail
  refine HR.out.mono ?_
  rintro e w1 ⟨rfl, b1⟩
  have HK1 := Lib.hid (HK.out.next b1)
  have x1 := HK1.out.box.cell 0
  have HH := Lib.hid (has19 HK1.out.sl v)
  rw [hh] at HH
  clear b1 hh x0
  go_wp2_with fail
  refine HH.out.mono ?_
  rintro e w2 ⟨rfl, b2⟩
  have HK2 := Lib.hid (HK1.out.next b2)
  have x2 := HK2.out.box.cell 0
  clear b2 HK1 x1 HK HR HH
  obtain ⟨w3, w4, w5, C, e5, v1, v2, R⟩ := put_runs HK2.out.sl HK2.out.sl v v (n := 1) rfl (by omega)
  rw [show ([] : List Sp) ++ [(v, v)] ++ [] = [(v, v)] from rfl] at R
  have R1 := Lib.hid R.r1
  have R2 := Lib.hid R.r2
  have R3 := Lib.hid R.r3
  have x4 := (HK2.out.next R.b4).box.cell 0
  have HK5 := Lib.hid (HK2.out.next R.b5)
  have HS5 := Lib.hid R.sl
  clear R
  have y5 := HK5.out.res.cell 0
  have z5 := HK5.out.res.free 0
  obtain ⟨w6, h6, hr6, hs6, hb6⟩ := HK5.out.store HS5.out
  have HE := Lib.hid (And.intro hs6 hb6)
  have hc6 := hr6.cell 0
  clear hr6 hs6 hb6
  cases A with
  | none =>
    go_wp2
    go_loop [6] (fun iv => iv = .int .i64 0) (fun iv => 0)
    case atStart => rfl
    case round =>
      subst hrel
      go_upto_region 8 with (at_builtin; refine wpList_app R1.out rfl rfl rfl rfl rfl ?_)
      go_upto_region 9 with (at_builtin; refine wpList_app R2.out rfl rfl rfl rfl rfl ?_)
      go_wp2_with (at_builtin; refine wpList_app R3.out rfl rfl rfl rfl rfl ?_)
      refine bodyPost_ret (v := .agg #[.slice C 1 e5]) (by simp [results, Try.results12, go_sem, hc6]) rfl ?_
      exact ⟨C, 1, e5, rfl, HE.out.1, HE.out.2⟩
  | some ad =>
    go_wp2
    go_loop [6] (fun iv => iv = .int .i64 0) (fun iv => 0)
    case atStart => rfl
    case round =>
      subst hrel
      go_upto_region 8 with (at_builtin; refine wpList_app R1.out rfl rfl rfl rfl rfl ?_)
      go_upto_region 9 with (at_builtin; refine wpList_app R2.out rfl rfl rfl rfl rfl ?_)
      go_wp2_with (at_builtin; refine wpList_app R3.out rfl rfl rfl rfl rfl ?_)
      refine bodyPost_ret (v := .agg #[.slice C 1 e5]) (by simp [results, Try.results12, go_sem, hc6]) rfl ?_
      exact ⟨C, 1, e5, rfl, HE.out.1, HE.out.2⟩
end Go.Proofs.Ytadgplpbkephiaa
