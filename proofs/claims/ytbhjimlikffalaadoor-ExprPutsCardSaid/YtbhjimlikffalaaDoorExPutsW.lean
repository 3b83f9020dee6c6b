/- ExprPuts' walk, whether 'same' or not. -/
import Derived.Test.YtbhjimlikffalaaDoorExPutsF
import Derived.Test.YtbhjimlikffalaaDoorExPutsT
namespace Go.Proofs.YtbhjimlikffalaaDoor
open Go.RowKit
set_option linter.unusedVariables false

theorem puts_any (k1 n1 : Int) (op1 v1 f1 : Nm) (A1 : Option Addr) (m1 c1 : Nat) (o1 : Bool) (x1 : Option Addr) (len1 cap1 : Nat) (z1 : List Int) (k2 n2 : Int) (op2 v2 f2 : Nm) (A2 : Option Addr) (m2 c2 : Nat) (o2 : Bool) (x2 : Option Addr) (len2 cap2 : Nat) (z2 : List Int) (same : Bool) (w : World) (r1 : IsRow .u8 w x1 len1 cap1 z1) (hz1 : ∀ n ∈ z1, 0 ≤ n ∧ n ≤ 255) (r2 : IsRow .u8 w x2 len2 cap2 z2) (hz2 : ∀ n ∈ z2, 0 ≤ n ∧ n ≤ 255) (hT : Tabs w) :
    Calls Tryd.prog 3 #[.agg #[.int .i64 k1, .string (str op1), .int .i64 n1, .string (str v1), .string (str f1), .slice A1 m1 c1, .bool o1, .slice x1 len1 cap1], .agg #[.int .i64 k2, .string (str op2), .int .i64 n2, .string (str v2), .string (str f2), .slice A2 m2 c2, .bool o2, .slice x2 len2 cap2], .bool same] w fun e w' => e = .returned (.bool true) ∧ Below w.heap.size w w' := by
  cases same with
  | false => exact puts_F k1 n1 op1 v1 f1 A1 m1 c1 o1 x1 len1 cap1 z1 k2 n2 op2 v2 f2 A2 m2 c2 o2 x2 len2 cap2 z2 w r1 hz1 r2 hz2 hT
  | true => exact puts_T k1 n1 op1 v1 f1 A1 m1 c1 o1 x1 len1 cap1 z1 k2 n2 op2 v2 f2 A2 m2 c2 o2 x2 len2 cap2 z2 w r1 hz1 r2 hz2 hT
end Go.Proofs.YtbhjimlikffalaaDoor
