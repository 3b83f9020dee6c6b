/- ValueLooks' walk, as its card calls it. -/
import Derived.Test.YtaiohdcngkkafaaDoorVaLooksW
import Derived.Test.YtaiohdcngkkafaaDoorVaRow
namespace Go.Proofs.YtaiohdcngkkafaaDoor
open Go.ChangeShapes Go.WideShapes Go.ChangeAt Go.RowKit
theorem in64_wf {zs : List Int} (h : ∀ n ∈ zs, (Lit.int .i64 n).wf = true) : ∀ n ∈ zs, in64 n := fun n hn => ⟨(bounds_i64 (h n hn)).1, (bounds_i64 (h n hn)).2⟩
theorem looks_at (x : Option Addr) (len cap : Nat) (zs : List Int) (na fi cut : Int) (hn0 : 0 ≤ na) (hn1 : na ≤ 255) (hf0 : 0 ≤ fi) (hf1 : fi ≤ 255) (hc0 : 0 ≤ cut) (hc1 : cut ≤ 255) (w : World) (hr : IsRow .i64 w x len cap zs) (hz : ∀ n ∈ zs, (Lit.int .i64 n).wf = true) (hT : Tabs8 w) :
    Calls Tryd.prog 12 #[.slice x len cap, .int .u8 na, .int .u8 fi, .int .u8 cut] w fun e w' => e = .returned (.bool true) ∧ Below w.heap.size w w' := looks_any x len cap zs na fi cut hn0 hn1 hf0 hf1 hc0 hc1 w hr (in64_wf hz) hT
end Go.Proofs.YtaiohdcngkkafaaDoor
