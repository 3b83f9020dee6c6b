/- The table of classes, laid by the program's own text, reads as it is written: what each tied statement of layer 1 takes from its card's condition. -/
import Derived.Test.YtbojiphhcciliaaDoorRows
import Derived.Test.YtbojiphhcciliaaDoorSizeWalks
import Derived.ProofKit
import Derived.LaidMore
import Derived.OpenShut
import Derived.Below
import Derived.ChangeOld
import Derived.Stop.Joined
namespace Go.Proofs.YtbojiphhcciliaaDoor
open Go.ChangeShapes Go.WideShapes Go.ChangeAt Go.RowKit

theorem own : ownKnob Tryd.prog.godebug = none := by kernel_rfl
theorem laidOut : laidOutB Tryd.prog = true := by kernel_rfl
theorem gTab : Tryd.prog.globalNamed "jettison/size.classes" = some 0 := by kernel_rfl
theorem tTab : (Tryd.prog.globals[0]?).map (·.type) = some 37 := by kernel_rfl
theorem cInt : Tryd.prog.cellsOf 3 = 1 := by kernel_rfl

/-- The door's own heap meets the condition. -/
theorem door_met (os : Os) (args : Array Value) : laidMetH Tryd.prog [("jettison/size.classes", Rows.laid_jettison_size_classes)] ((World.doorLaid Tryd.prog 400 os).forCall (fun _ _ => 0) ⟨#[], args, []⟩).memory :=
  laidMetH_of_parts3 (fuel := 8) (laidMet_of_run' 8 (by kernel_rfl) (by kernel_rfl)) (by kernel_rfl) (by kernel_rfl)

theorem laid_at {H : Type} {k : Nat} (hk : k < 7) : ([.lit (.int .i64 16), .lit (.int .i64 32), .lit (.int .i64 64), .lit (.int .i64 128), .lit (.int .i64 256), .lit (.int .i64 512), .lit (.int .i64 1024)] : List (DataW H))[k]? = some (.lit (.int .i64 (cv k))) := by
  match k, hk with
  | 0, _ => rfl
  | 1, _ => rfl
  | 2, _ => rfl
  | 3, _ => rfl
  | 4, _ => rfl
  | 5, _ => rfl
  | 6, _ => rfl

theorem tab_of_laid {W : World} (h : laidMetH Tryd.prog [("jettison/size.classes", Rows.laid_jettison_size_classes)] W) : Tab W := by
  rw [MakeChecks.laidMetH_plain _ _ _ (by kernel_rfl)] at h
  obtain ⟨ps, ⟨g0, t0, cs0, f0, p0, q0, hg0, ht0, hv0, hd0, _, _⟩, _, _⟩ := h
  obtain rfl := Option.some.inj (gTab.symm.trans hg0)
  obtain rfl := Option.some.inj (tTab.symm.trans ht0)
  obtain ⟨xs, m, _, hx, _, hn, hel⟩ := DataW.trod_array Tryd.underlying37 hd0
  simp only [Rows.laid_jettison_size_classes, Prod.mk.injEq, DataW.agg.injEq] at hx
  intro k hk
  have hk' := hel k hk
  rw [cInt, Nat.mul_one, List.getElem?_eq_getElem (by omega)] at hk'
  obtain ⟨n, e1, e2, _⟩ := DataW.trod_int Tryd.underlying3 hk'
  have e3 : (xs.map (·.1))[k]? = some (.lit (.int .i64 (cv k))) := by rw [← hx.1]; exact laid_at hk
  rw [List.getElem?_map, List.getElem?_eq_getElem (by omega), e2] at e3
  obtain rfl : n = cv k := by simpa using e3
  have hc := World.var?_cell hg0 hv0 k
  rw [hc]
  have e4 : (cs0.toList.drop k)[0]? = some (.int .i64 (cv k)) := by
    have : ((cs0.toList.drop k).take 1)[0]? = some (.int .i64 (cv k)) := by rw [e1]; rfl
    rwa [List.getElem?_take_of_lt (by omega)] at this
  rw [List.getElem?_drop, Nat.add_zero] at e4
  simpa using e4
end Go.Proofs.YtbojiphhcciliaaDoor
