/- The document's Add. -/
import Derived.Test.YtadgplpbkephiaaSpRefM
namespace Go.Proofs.Ytadgplpbkephiaa
open Go.RowKit
set_option linter.unusedVariables false

set_option maxHeartbeats 1000000 in
theorem add19_not {w : World} {A : Option Addr} {n c : Nat} {S : List Sp} (h : Sl w A n c S) (v : Int) (hr : decide (Rgt S) = false) :
    Calls Try.prog 12 #[.agg #[.slice A n c], .int .i64 v] w fun e w' => Got S w e w' := by
  have K0 := Ad.start (t := 28) h
  generalize hW : (w.alloc (.cells #[.slice A n c] 28)).alloc (.cells #[.slice none 0 0] 28) = W0 at K0
  have HW := Lib.hid hW
  have HR := Lib.hid (right19 K0.sl)
  rw [hr] at HR
  have HK := Lib.hid K0
  have x0 := K0.box.cell 0
  clear h hr K0
  go_enter Try.func12, Try.ntmps12
  go_wp2_with fail
  refine HR.out.mono ?_
  rintro e w1 ⟨rfl, b1⟩
  have HK1 := Lib.hid (HK.out.next b1)
  have x1 := HK1.out.box.cell 0
  have y1 := HK1.out.res.cell 0
  have z1 := HK1.out.res.free 0
  obtain ⟨w2, h2, hr2, hs2, hb2⟩ := HK1.out.store HK1.out.sl
  have HE := Lib.hid (And.intro hr2 (And.intro hs2 hb2))
  have hc2 := hr2.cell 0
  clear b1 hr2 hs2 hb2
  go_wp2
  refine bodyPost_ret (v := .agg #[.slice A n c]) (by simp [results, Try.results12, go_sem, hc2]) rfl ?_
  exact ⟨A, n, c, rfl, HE.out.2.1, HE.out.2.2⟩
set_option maxHeartbeats 1000000 in
theorem add19_has {w : World} {A : Option Addr} {n c : Nat} {S : List Sp} (h : Sl w A n c S) (v : Int) (hr : decide (Rgt S) = true) (hh : hs S v = true) :
    Calls Try.prog 12 #[.agg #[.slice A n c], .int .i64 v] w fun e w' => Got S w e w' := by
  have K0 := Ad.start (t := 28) h
  generalize hW : (w.alloc (.cells #[.slice A n c] 28)).alloc (.cells #[.slice none 0 0] 28) = W0 at K0
  have HW := Lib.hid hW
  have HR := Lib.hid (right19 K0.sl)
  rw [hr] at HR
  have HK := Lib.hid K0
  have x0 := K0.box.cell 0
  clear h hr K0
  go_enter Try.func12, Try.ntmps12
  go_wp2_with fail
  refine HR.out.mono ?_
  rintro e w1 ⟨rfl, b1⟩
  have HK1 := Lib.hid (HK.out.next b1)
  have x1 := HK1.out.box.cell 0
  have HH := Lib.hid (has19 HK1.out.sl v)
  rw [hh] at HH
  clear b1 hh x0
  go_wp2_with fail
  refine HH.out.mono ?_
  rintro e w2 ⟨rfl, b2⟩
  have HK2 := Lib.hid (HK1.out.next b2)
  have x2 := HK2.out.box.cell 0
  clear b2 HK1 x1 HK HR HH
  have y2 := HK2.out.res.cell 0
  have z2 := HK2.out.res.free 0
  obtain ⟨w3, h3, hr3, hs3, hb3⟩ := HK2.out.store HK2.out.sl
  have HE := Lib.hid (And.intro hs3 hb3)
  have hc3 := hr3.cell 0
  clear hr3 hs3 hb3
  go_wp2
  refine bodyPost_ret (v := .agg #[.slice A n c]) (by simp [results, Try.results12, go_sem, hc3]) rfl ?_
  exact ⟨A, n, c, rfl, HE.out.1, HE.out.2⟩
end Go.Proofs.Ytadgplpbkephiaa
