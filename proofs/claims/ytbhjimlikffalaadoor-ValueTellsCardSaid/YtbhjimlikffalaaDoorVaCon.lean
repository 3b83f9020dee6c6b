/- Layer 8: contrary, asNumber. -/
import Derived.Test.YtbhjimlikffalaaDoorVaOps
namespace Go.Proofs.YtbhjimlikffalaaDoor
open Go.RowKit
set_option linter.unusedVariables false

theorem as_tt (v : Value) (w : World) : (Instr.typeAssert (.iface 110 v) 87 110 true).run Tryd.prog w = .ok (.tuple #[v, .bool true]) w := by
  simp [Instr.typeAssert, run_underlying Tryd.underlying110, go_sem, Result.andThen]
theorem as_nt (v : Value) (w : World) : (Instr.typeAssert (.iface 85 v) 87 110 true).run Tryd.prog w = .ok (.tuple #[.bool false, .bool false]) w := by
  simp [Instr.typeAssert, run_underlying Tryd.underlying110, go_sem, Result.andThen]
theorem as_nn (v : Value) (w : World) : (Instr.typeAssert (.iface 85 v) 87 85 true).run Tryd.prog w = .ok (.tuple #[v, .bool true]) w := by
  simp [Instr.typeAssert, run_underlying Tryd.underlying85, go_sem, Result.andThen]
theorem as_tn (v : Value) (w : World) : (Instr.typeAssert (.iface 110 v) 87 85 true).run Tryd.prog w = .ok (.tuple #[.int .i64 0, .bool false]) w := by
  simp [Instr.typeAssert, run_underlying Tryd.underlying85, go_sem, Result.andThen]
theorem as_n (v : Value) (w : World) : (Instr.typeAssert (.iface 85 v) 87 85 false).run Tryd.prog w = .ok v w := by
  simp [Instr.typeAssert, run_underlying Tryd.underlying85, go_sem, Result.andThen]
theorem as_t (v : Value) (w : World) : (Instr.typeAssert (.iface 110 v) 87 110 false).run Tryd.prog w = .ok v w := by
  simp [Instr.typeAssert, run_underlying Tryd.underlying110, go_sem, Result.andThen]
/-- What an operation of one tells. -/
def contrV : Vl → Vl × Bool
  | .t b => (.t (!b), false)
  | .n x => (.n (subV 0 x).1, !(subV 0 x).2)
def Vl.ok : Vl → Prop
  | .t _ => True
  | .n x => in64 x
set_option maxHeartbeats 2000000 in
theorem contrary_any (v : Vl) (hv : v.ok) (bad : Bool) (p : Nat) (w : World) (h : Bad w p bad) :
    Calls Tryd.prog 78 #[v.val, clo p] w fun e w' => e = .returned (contrV v).1.val ∧ Bad w' p (bad || (contrV v).2) ∧ FrP p w w' := by
  have ec := enters_clo
  have HB := Lib.hid (fun x ok => clo_any x ok bad p w h)
  have HF := Lib.hid (FrP.refl p w)
  have HH := Lib.hid h
  clear h
  cases v with
  | t b =>
    have a1 := as_tt (.bool b)
    dsimp only [Vl.val, contrV]
    go_enter Tryd.func78, Tryd.ntmps78
    go_wp2
    all_goals go_ret
    all_goals (refine ⟨ret_val ?_, ?_, HF.out⟩ <;> first | rfl | (have := HH.out; simpa using this))
  | n x =>
    have a1 := as_nt (.int .i64 x)
    have a2 := as_n (.int .i64 x)
    have HS := Lib.hid (sub_any 0 x (by unfold in64; decide) hv)
    dsimp only [Vl.val, contrV]
    go_enter Tryd.func78, Tryd.ntmps78
    go_wp2_with (first
      | (go_at_call 21; refine (HS.out _).mono ?_; rw [two]; rintro e w' ⟨rfl, rfl⟩)
      | (go_at_fn 57; refine (HB.out _ _).mono ?_; rintro e w1 ⟨rfl, bd1, fr1⟩))
    go_ret
    exact ⟨rfl, bd1, fr1⟩
/-- What asNumber tells. -/
def asN : Vl → Int
  | .t b => if b then 1 else 0
  | .n x => x
set_option maxHeartbeats 2000000 in
theorem asNumber_any (v : Vl) (w : World) :
    Calls Tryd.prog 59 #[v.val] w fun e w' => e = .returned (.int .i64 (asN v)) ∧ w = w' := by
  cases v with
  | t b =>
    have a1 := as_tn (.bool b)
    have a2 := as_t (.bool b)
    cases b
    all_goals
      dsimp only [Vl.val, asN]
      go_enter Tryd.func59, Tryd.ntmps59
      go_wp2
      go_ret
      exact ⟨rfl, rfl⟩
  | n x =>
    have a1 := as_nn (.int .i64 x)
    dsimp only [Vl.val, asN]
    go_enter Tryd.func59, Tryd.ntmps59
    go_wp2
    go_ret
    exact ⟨rfl, rfl⟩
end Go.Proofs.YtbhjimlikffalaaDoor
