/- What the deferred literals of package wire do, in a call that returns and in one that panics. -/
import Derived.Test.YtglhebpblncjaaaDoorWrMust
namespace Go.Proofs.YtglhebpblncjaaaDoor
open Go.RowKit
set_option linter.unusedVariables false

theorem info_errno : (Tryd.prog.info? 39).map (fun i => (i.zero, i.size, i.bytes)) = some (some (.int .i64 0), 1, 8) := by kernel_rfl
theorem assert_yes (v : Value) (w : World) : (Instr.typeAssert (.iface 39 v) 20 39 true).run Tryd.prog w = .ok (.tuple #[v, .bool true]) w := by
  simp [Instr.typeAssert, run_underlying Tryd.underlying39, go_sem, Result.andThen]
theorem assert_nil (w : World) : (Instr.typeAssert .nilIface 20 39 true).run Tryd.prog w = .ok (.tuple #[.int .i64 0, .bool false]) w := by
  simp [Instr.typeAssert, run_underlying Tryd.underlying39, go_sem, Result.andThen]

theorem pcatch_panicking (p q : Addr) (x y : Value) (c : Int) (older : List PanicEntry) (w : World) (hc : w.cell? p = some x) (hz : w.frozen? p = false) (hc2 : w.cell? q = some y) (hz2 : w.frozen? q = false) (hpq : p ≠ q) :
    CallsD Tryd.prog 45 #[.pointer (some p), .pointer (some q)] (.panicking ({ v := .iface 39 (.int .i64 c), recovered := false } :: older)) w fun e u' w' =>
      e = .returned (.tuple #[]) ∧ u' = .panicking ({ v := .iface 39 (.int .i64 c), recovered := true } :: older) ∧ w' = (w.setCell p (.string (str []))).setCell q (.bool false) := by
  have ha := assert_yes (.int .i64 c)
  refine callsD_of_wpS Tryd.func45 rfl fun c₀ cs hu => ?_
  apply wpS_seq
  apply wpS_region
  simp [wpOpsS, go_sem, recoverD, hu, Tryd.ntmps45, Exit.thenS, ha]
  apply wpS_seq
  apply wpS_region
  simp [wpOpsS, go_sem, Exit.thenS]
  refine wpS_cond (t := true) (by simp [Act.eval, Array.replicate]) ?_
  simp only [if_true]
  apply wpS_region
  have hq : ∀ u, (w.setCell p u).cell? q = some y := fun u => (World.cell?_setCell_other w p q u hpq).trans hc2
  simp [wpOpsS, go_sem, hc, hz, hq, hz2, bodyPostS, results, Tryd.results45]
  rfl
theorem pcatch_idle (p q : Addr) (w : World) :
    CallsD Tryd.prog 45 #[.pointer (some p), .pointer (some q)] .returning w fun e u' w' => e = .returned (.tuple #[]) ∧ u' = .returning ∧ w' = w := by
  refine callsD_of_wpS Tryd.func45 rfl fun c₀ cs hu => ?_
  apply wpS_seq
  apply wpS_region
  simp [wpOpsS, go_sem, recoverD, hu, Tryd.ntmps45, Exit.thenS, assert_nil]
  apply wpS_seq
  apply wpS_region
  simp [wpOpsS, go_sem, Exit.thenS]
  refine wpS_cond (t := false) (by simp [Act.eval, Array.replicate]) ?_
  simp only [Bool.false_eq_true, if_false]
  refine wpS_of_wp (wp_skip ?_)
  cases c₀
  simp_all [bodyPostS, results, Tryd.results45]
theorem gcatch_idle (p q : Addr) (w : World) :
    CallsD Tryd.prog 54 #[.pointer (some p), .pointer (some q)] .returning w fun e u' w' => e = .returned (.tuple #[]) ∧ u' = .returning ∧ w' = w := by
  refine callsD_of_wpS Tryd.func54 rfl fun c₀ cs hu => ?_
  apply wpS_seq
  apply wpS_region
  simp [wpOpsS, go_sem, recoverD, hu, Tryd.ntmps54, Exit.thenS, assert_nil]
  apply wpS_seq
  apply wpS_region
  simp [wpOpsS, go_sem, Exit.thenS]
  refine wpS_cond (t := false) (by simp [Act.eval, Array.replicate]) ?_
  simp only [Bool.false_eq_true, if_false]
  refine wpS_of_wp (wp_skip ?_)
  cases c₀
  simp_all [bodyPostS, results, Tryd.results54]
theorem gcatch_panicking (b d : Nat) (e0 e1 e2 y : Value) (c : Int) (older : List PanicEntry) (w : World) (h0 : w.cell? ⟨b, 0, none⟩ = some e0) (h1 : w.cell? ⟨b, 1, none⟩ = some e1) (h2 : w.cell? ⟨b, 2, none⟩ = some e2)
    (hz0 : w.frozen? ⟨b, 0, none⟩ = false) (hz1 : w.frozen? ⟨b, 1, none⟩ = false) (hz2 : w.frozen? ⟨b, 2, none⟩ = false) (hc2 : w.cell? ⟨d, 0, none⟩ = some y) (hzd : w.frozen? ⟨d, 0, none⟩ = false) (hpq : d ≠ b) :
    CallsD Tryd.prog 54 #[.pointer (some ⟨b, 0, none⟩), .pointer (some ⟨d, 0, none⟩)] (.panicking ({ v := .iface 39 (.int .i64 c), recovered := false } :: older)) w fun e u' w' =>
      e = .returned (.tuple #[]) ∧ u' = .panicking ({ v := .iface 39 (.int .i64 c), recovered := true } :: older) ∧ w' = (((w.setCell ⟨b, 0, none⟩ (.int .i64 0)).setCell ⟨b, 1, none⟩ (.int .i64 0)).setCell ⟨b, 2, none⟩ (.slice none 0 0)).setCell ⟨d, 0, none⟩ (.int .i64 c) := by
  have ha := assert_yes (.int .i64 c)
  refine callsD_of_wpS Tryd.func54 rfl fun c₀ cs hu => ?_
  apply wpS_seq
  apply wpS_region
  simp [wpOpsS, go_sem, recoverD, hu, Tryd.ntmps54, Exit.thenS, ha]
  apply wpS_seq
  apply wpS_region
  simp [wpOpsS, go_sem, Exit.thenS]
  refine wpS_cond (t := true) (by simp [Act.eval, Array.replicate]) ?_
  simp only [if_true]
  have etm : (#[Value.pointer (some ⟨b, 0, none⟩), Value.pointer (some ⟨d, 0, none⟩)] ++
          ((((((((Array.replicate 10 undef).setIfInBounds 3 (Value.iface 39 (Value.int IntKind.i64 c))).setIfInBounds 4 (Value.tuple #[Value.int IntKind.i64 c, Value.bool true])).setIfInBounds
            2 (Value.tuple #[Value.int IntKind.i64 c, Value.bool true])).setIfInBounds 5 (Value.int IntKind.i64 c)).setIfInBounds 6 (Value.bool true)).setIfInBounds 0 (Value.int IntKind.i64 c)).setIfInBounds 1 (Value.bool true)).setIfInBounds 7 (Value.bool true) : Array Value)
      = #[.pointer (some ⟨b, 0, none⟩), .pointer (some ⟨d, 0, none⟩), .int .i64 c, .bool true, .tuple #[.int .i64 c, .bool true], .iface 39 (.int .i64 c), .tuple #[.int .i64 c, .bool true], .int .i64 c, .bool true, .bool true, undef, undef] := by simp [Array.replicate]
  rw [etm]
  refine wpS_of_wp ?_
  go_wp2
  simp [bodyPostS, results, Tryd.results54]
end Go.Proofs.YtglhebpblncjaaaDoor
