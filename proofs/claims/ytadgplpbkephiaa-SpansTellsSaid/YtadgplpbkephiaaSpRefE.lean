/- The document's Add, of any. -/
import Derived.Test.YtadgplpbkephiaaSpRefD
namespace Go.Proofs.Ytadgplpbkephiaa
open Go.RowKit
set_option linter.unusedVariables false

theorem add19 {w : World} {A : Option Addr} {n c : Nat} {S : List Sp} (h : Sl w A n c S) (v : Int) :
    Calls Try.prog 12 #[.agg #[.slice A n c], .int .i64 v] w fun e w' => Got (addS S v) w e w' := by
  by_cases hr : Rgt S
  · cases hh : hs S v with
    | true => rw [addS_has hh]; exact add19_has h v (decide_eq_true hr) hh
    | false =>
      have hl := h.len
      rcases Nat.lt_or_ge S.length 4 with h4 | h4
      · rw [addS_put hr hh h4]
        by_cases h0 : 0 < c
        · obtain ⟨b, off, rfl⟩ := h.shp h0
          exact add19_few h v (decide_eq_true hr) hh (by omega)
        · obtain rfl : c = 0 := by omega
          obtain rfl : n = 0 := by have := h.le; omega
          obtain rfl : S = [] := List.eq_nil_of_length_eq_zero hl
          exact add19_zero h v (decide_eq_true hr) hh
      · have h5 : S.length = 4 := by have := hr.1; omega
        obtain rfl : n = 4 := by omega
        obtain ⟨b, off, rfl⟩ := h.shp (by have := h.le; omega)
        rw [addS_join hr hh h5]; exact add19_many h v (decide_eq_true hr) hh _ rfl
  · rw [addS_not hr]; exact add19_not h v (decide_eq_false hr)
end Go.Proofs.Ytadgplpbkephiaa
