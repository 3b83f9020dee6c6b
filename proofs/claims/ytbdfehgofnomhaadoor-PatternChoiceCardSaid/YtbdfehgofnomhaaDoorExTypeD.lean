/- Layer 7: what an expression tells (plain functions). -/
import Derived.Test.YtbdfehgofnomhaaDoorExRight
namespace Go.Proofs.YtbdfehgofnomhaaDoor
open Go.RowKit
set_option linter.unusedVariables false

/- What an expression tells, Right or not. -/
mutual
def typT : ET → Int
  | .mk _ op _ _ _ _ _ ks => if typL (opT op).1 ks = true then (opT op).2 else 0
def typL (x : Int) : List ET → Bool
  | [] => true
  | t :: ts => decide (typT t = x) && typL x ts
end
theorem typT_eq (k : Int) (op : Nm) (n : Int) (v f : Nm) (A : Option Addr) (c : Nat) (ks : List ET) : typT (.mk k op n v f A c ks) = if typL (opT op).1 ks = true then (opT op).2 else 0 := by rw [typT]
theorem typL_cons (x : Int) (t : ET) (ts : List ET) : typL x (t :: ts) = (decide (typT t = x) && typL x ts) := by rw [typL]
theorem typL_nil (x : Int) : typL x [] = true := by rw [typL]
end Go.Proofs.YtbdfehgofnomhaaDoor
