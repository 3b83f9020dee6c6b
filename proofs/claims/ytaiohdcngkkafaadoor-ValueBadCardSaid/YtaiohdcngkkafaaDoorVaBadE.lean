/- ValueBad's walk, as its card calls it. -/
import Derived.Test.YtaiohdcngkkafaaDoorVaBadW
import Derived.Test.YtaiohdcngkkafaaDoorVaRow
namespace Go.Proofs.YtaiohdcngkkafaaDoor
open Go.ChangeShapes Go.WideShapes Go.ChangeAt Go.RowKit
theorem u8_wf {zs : List Int} (h : ∀ n ∈ zs, (Lit.int .u8 n).wf = true) : ∀ n ∈ zs, 0 ≤ n ∧ n ≤ 255 := fun n hn => ⟨(bounds_u8 (h n hn)).1, (bounds_u8 (h n hn)).2⟩
theorem bad_at (x0 : Option Addr) (len0 cap0 : Nat) (z0 : List Int) (x1 : Option Addr) (len1 cap1 : Nat) (z1 : List Int) (x2 : Option Addr) (len2 cap2 : Nat) (z2 : List Int) (cut : Int) (hc0 : 0 ≤ cut) (hc1 : cut ≤ 255) (w : World)
    (r0 : IsRow .u8 w x0 len0 cap0 z0) (hz0 : ∀ n ∈ z0, (Lit.int .u8 n).wf = true) (r1 : IsRow .u8 w x1 len1 cap1 z1) (hz1 : ∀ n ∈ z1, (Lit.int .u8 n).wf = true) (r2 : IsRow .i64 w x2 len2 cap2 z2) (hz2 : ∀ n ∈ z2, (Lit.int .i64 n).wf = true) (hT : Tabs8 w) :
    Calls Tryd.prog 11 #[.slice x0 len0 cap0, .slice x1 len1 cap1, .slice x2 len2 cap2, .int .u8 cut] w fun e w' => e = .returned (.bool true) ∧ Below w.heap.size w w' :=
  bad_any x0 len0 cap0 z0 x1 len1 cap1 z1 x2 len2 cap2 z2 cut hc0 hc1 w r0 (u8_wf hz0) r1 (u8_wf hz1) r2 (fun n hn => ⟨(bounds_i64 (hz2 n hn)).1, (bounds_i64 (hz2 n hn)).2⟩) hT
end Go.Proofs.YtaiohdcngkkafaaDoor
