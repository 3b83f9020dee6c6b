/- The two tables, laid by the program's own text, read as they are written: what each tied statement of layer 3 takes from its card's condition. -/
import Derived.Test.YtglhebpblncjaaaDoorRows
import Derived.Test.YtglhebpblncjaaaDoorSizeCore
import Derived.Test.YtglhebpblncjaaaDoorArBits
import Derived.ProofKit
import Derived.LaidMore
import Derived.OpenShut
import Derived.Below
import Derived.ChangeOld
import Derived.Stop.Joined
namespace Go.Proofs.YtglhebpblncjaaaDoor
open Go.ChangeShapes Go.WideShapes Go.ChangeAt Go.RowKit

theorem own : ownKnob Tryd.prog.godebug = none := by kernel_rfl
theorem laidOut : laidOutB Tryd.prog = true := by kernel_rfl
theorem gTab : Tryd.prog.globalNamed "jettison/size.classes" = some 0 := by kernel_rfl
theorem tTab : (Tryd.prog.globals[0]?).map (·.type) = some 100 := by kernel_rfl
theorem cInt : Tryd.prog.cellsOf 3 = 1 := by kernel_rfl
theorem gDb : Tryd.prog.globalNamed "math/bits.deBruijn64tab" = some 1 := by kernel_rfl
theorem tDb : (Tryd.prog.globals[1]?).map (·.type) = some 128 := by kernel_rfl
theorem cU8 : Tryd.prog.cellsOf 5 = 1 := by kernel_rfl
/-- What the cards list. -/
abbrev laids : List (String × DataW Unit) := [("jettison/size.classes", Rows.laid_jettison_size_classes), ("math/bits.deBruijn64tab", Rows.laid_math_bits_deBruijn64tab)]

/-- The door's own heap meets the condition. -/
theorem door_met (os : Os) (args : Array Value) : laidMetH Tryd.prog laids ((World.doorLaid Tryd.prog 400 os).forCall (fun _ _ => 0) ⟨#[], args, []⟩).memory :=
  laidMetH_of_parts3 (fuel := 8) (laidMet_of_run' 8 (by kernel_rfl) (by kernel_rfl)) (by kernel_rfl) (by kernel_rfl)

theorem laid_at {H : Type} {k : Nat} (hk : k < 7) : ([.lit (.int .i64 16), .lit (.int .i64 32), .lit (.int .i64 64), .lit (.int .i64 128), .lit (.int .i64 256), .lit (.int .i64 512), .lit (.int .i64 1024)] : List (DataW H))[k]? = some (.lit (.int .i64 (cv k))) := by
  match k, hk with
  | 0, _ => rfl
  | 1, _ => rfl
  | 2, _ => rfl
  | 3, _ => rfl
  | 4, _ => rfl
  | 5, _ => rfl
  | 6, _ => rfl
def dbList {H : Type} : List (DataW H) := Lib.deBruijn64tab.map fun n : Nat => DataW.lit (.int .u8 (n : Int))
theorem db_laid {H : Type} : (Rows.laid_math_bits_deBruijn64tab : DataW H) = .agg dbList := rfl
theorem db_at {H : Type} {k : Nat} (hk : k < 64) : (dbList : List (DataW H))[k]? = some (.lit (.int .u8 ((Lib.deBruijn64tab.getD k 0 : Nat) : Int))) := by
  have hl : Lib.deBruijn64tab.length = 64 := by decide
  rw [dbList, List.getElem?_map, List.getElem?_eq_getElem (by omega), List.getD_eq_getElem?_getD, List.getElem?_eq_getElem (by omega)]
  rfl

theorem tabs_of_laid {W : World} (h : laidMetH Tryd.prog laids W) : Tab W ∧ Dbt W := by
  rw [MakeChecks.laidMetH_plain _ _ _ (by kernel_rfl)] at h
  obtain ⟨ps, ⟨g0, t0, cs0, f0, p0, q0, hg0, ht0, hv0, hd0, ⟨g1, t1, cs1, f1, p1, q1, hg1, ht1, hv1, hd1, _, _⟩, _⟩, _, _⟩ := h
  refine ⟨?_, ?_⟩
  · obtain rfl := Option.some.inj (gTab.symm.trans hg0)
    obtain rfl := Option.some.inj (tTab.symm.trans ht0)
    obtain ⟨xs, m, _, hx, _, hn, hel⟩ := DataW.trod_array Tryd.underlying100 hd0
    simp only [Rows.laid_jettison_size_classes, Prod.mk.injEq, DataW.agg.injEq] at hx
    intro k hk
    have hk' := hel k hk
    rw [cInt, Nat.mul_one, List.getElem?_eq_getElem (by omega)] at hk'
    obtain ⟨n, e1, e2, _⟩ := DataW.trod_int Tryd.underlying3 hk'
    have e3 : (xs.map (·.1))[k]? = some (.lit (.int .i64 (cv k))) := by rw [← hx.1]; exact laid_at hk
    rw [List.getElem?_map, List.getElem?_eq_getElem (by omega), e2] at e3
    obtain rfl : n = cv k := by simpa using e3
    have hc := World.var?_cell hg0 hv0 k
    rw [hc]
    have e4 : (cs0.toList.drop k)[0]? = some (.int .i64 (cv k)) := by
      have : ((cs0.toList.drop k).take 1)[0]? = some (.int .i64 (cv k)) := by rw [e1]; rfl
      rwa [List.getElem?_take_of_lt (by omega)] at this
    rw [List.getElem?_drop, Nat.add_zero] at e4
    simpa using e4
  · obtain rfl := Option.some.inj (gDb.symm.trans hg1)
    obtain rfl := Option.some.inj (tDb.symm.trans ht1)
    obtain ⟨xs, m, _, hx, _, hn, hel⟩ := DataW.trod_array Tryd.underlying128 hd1
    simp only [db_laid, Prod.mk.injEq, DataW.agg.injEq] at hx
    intro k hk
    have hk' := hel k hk
    rw [cU8, Nat.mul_one, List.getElem?_eq_getElem (by omega)] at hk'
    obtain ⟨n, e1, e2, _⟩ := DataW.trod_int Tryd.underlying5 hk'
    have e3 : (xs.map (·.1))[k]? = some (.lit (.int .u8 ((Lib.deBruijn64tab.getD k 0 : Nat) : Int))) := by rw [← hx.1]; exact db_at hk
    rw [List.getElem?_map, List.getElem?_eq_getElem (by omega), e2] at e3
    obtain rfl : n = ((Lib.deBruijn64tab.getD k 0 : Nat) : Int) := by simpa using e3
    have hc := World.var?_cell hg1 hv1 k
    rw [hc]
    have e4 : (cs1.toList.drop k)[0]? = some (.int .u8 ((Lib.deBruijn64tab.getD k 0 : Nat) : Int)) := by
      have : ((cs1.toList.drop k).take 1)[0]? = some (.int .u8 ((Lib.deBruijn64tab.getD k 0 : Nat) : Int)) := by rw [e1]; rfl
      rwa [List.getElem?_take_of_lt (by omega)] at this
    rw [List.getElem?_drop, Nat.add_zero] at e4
    simpa using e4
end Go.Proofs.YtglhebpblncjaaaDoor
