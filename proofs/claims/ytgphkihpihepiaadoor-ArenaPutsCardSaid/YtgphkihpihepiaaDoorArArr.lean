/- How an array of three bytes that comes in by value is opened for a walk. -/
import Derived.Test.YtgphkihpihepiaaDoorArRow
namespace Go.Proofs.YtgphkihpihepiaaDoor
open Go.ChangeShapes Go.WideShapes Go.ChangeAt Go.RowKit

theorem arr3_open {H : Type} {enc : TypeId × Value → H} {W : World} {held : Bool} {b0 : Nat} {t e : TypeId} {v : Value} {d : DataW H} {p : List MemPlace}
    (ht : Tryd.prog.underlying t = some (.array 3 e)) (he : Tryd.prog.underlying e = some (.int .u8)) (hc : Tryd.prog.cellsOf e = 1) (hct : Tryd.prog.cellsOf t = 3)
    (hval : Value.okWide Tryd.prog W .any b0 t v) (h : DataW.Trod enc Tryd.prog W 0 (fun _ => true) held t v d p) :
    ∃ X : Nat → Nat, (∀ i, X i ≤ 255) ∧ v = .agg #[.int .u8 (X 0), .int .u8 (X 1), .int .u8 (X 2)] := by
  simp only [Value.okWide, ht] at hval
  obtain ⟨cs, rfl, hsz, _⟩ := hval
  obtain ⟨fuel, hf⟩ := h
  have hf' : DataW.trod enc Tryd.prog W 0 (fun _ => true) held fuel t cs.toList = some (d, p) := hf
  obtain ⟨xs, m, _, _, hlen, hn, hel⟩ := DataW.trod_array ht hf'
  rw [hct] at hsz
  have el : ∀ i, i < 3 → ∃ n : Nat, n ≤ 255 ∧ cs.toList[i]? = some (.int .u8 (n : Int)) := by
    intro i hi
    have hk := hel i hi
    rw [hc, Nat.mul_one, List.getElem?_eq_getElem (by omega)] at hk
    obtain ⟨n, e1, e2, hw⟩ := DataW.trod_int he hk
    have hb := bounds_u8 hw
    have e4 : (cs.toList.drop i)[0]? = some (.int .u8 n) := by
      have : ((cs.toList.drop i).take 1)[0]? = some (.int .u8 n) := by rw [e1]; rfl
      rwa [List.getElem?_take_of_lt (by omega)] at this
    rw [List.getElem?_drop, Nat.add_zero] at e4
    refine ⟨n.toNat, by omega, ?_⟩
    rw [e4, show (n.toNat : Int) = n by omega]
  obtain ⟨n0, b0, h0⟩ := el 0 (by omega)
  obtain ⟨n1, b1, h1⟩ := el 1 (by omega)
  obtain ⟨n2, b2, h2⟩ := el 2 (by omega)
  refine ⟨fun i => if i = 0 then n0 else if i = 1 then n1 else n2, fun i => ?_, ?_⟩
  · by_cases e0 : i = 0
    · simp [e0]; omega
    · by_cases e1 : i = 1
      · simp [e1]; omega
      · simp [e0, e1]; omega
  · congr 1
    apply Array.toList_inj.1
    apply List.ext_getElem?
    intro i
    match i with
    | 0 => rw [h0]; rfl
    | 1 => rw [h1]; rfl
    | 2 => rw [h2]; rfl
    | j + 3 => rw [List.getElem?_eq_none (by simp; omega), List.getElem?_eq_none (by simp)]
end Go.Proofs.YtgphkihpihepiaaDoor
