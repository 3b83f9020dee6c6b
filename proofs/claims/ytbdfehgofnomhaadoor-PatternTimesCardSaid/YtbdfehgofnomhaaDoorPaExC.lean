/- Layer 9: the chapter's examples: what the calls answer. -/
import Derived.Test.YtbdfehgofnomhaaDoorPaExB
namespace Go.Proofs.YtbdfehgofnomhaaDoor
open Go.RowKit
set_option linter.unusedVariables false

theorem ex_put {e q q2 q1 : Nat} : putQ (exL e q q2 q1) 5 [107] = [65, 32, 97, 32, 59, 32, 33, 66, 32, 98, 91, 98, 46, 121, 93, 32, 59, 32, 40, 65, 32, 120, 32, 59, 32, 67, 32, 99, 123, 49, 44, 51, 125, 32, 124, 32, 66, 32, 122, 41, 32, 87, 73, 84, 72, 73, 78, 32, 53, 32, 66, 89, 32, 107] := by kernel_rfl
theorem ex_right {e q q2 q1 : Nat} : rightQ (exL e q q2 q1) 5 [107] = true := by kernel_rfl
theorem ex_same {e q q2 q1 : Nat} : sameQ (exL e q q2 q1) 5 [107] (exL e q q2 q1) 5 [107] = true := by
  unfold sameQ
  rw [sameIs_refl]
  rfl
theorem ex_count {e q q2 q1 : Nat} : countIs (exL e q q2 q1) = 6 := by kernel_rfl
theorem ex_deep {e q q2 q1 : Nat} : deepIs (exL e q q2 q1) = 2 := by kernel_rfl
theorem call_put {w : World} {e q q2 q1 g : Nat} (hI : Its w (some ⟨g, 0, none⟩) (exL e q q2 q1)) (hT : Tabs w) : Calls Tryd.prog 10 #[.agg #[.slice (some ⟨g, 0, none⟩) 3 3, .int .i64 5, .string (str [107])]] w fun e w' => e = .returned (.string { data := #[65, 32, 97, 32, 59, 32, 33, 66, 32, 98, 91, 98, 46, 121, 93, 32, 59, 32, 40, 65, 32, 120, 32, 59, 32, 67, 32, 99, 123, 49, 44, 51, 125, 32, 124, 32, 66, 32, 122, 41, 32, 87, 73, 84, 72, 73, 78, 32, 53, 32, 66, 89, 32, 107] }) ∧ Below w.heap.size w w' := by
  have h := putQ_any (exL e q q2 q1) (some ⟨g, 0, none⟩) 3 5 [107] w (by simp) hI hT (by simp) ex_right (by rw [ex_put]; simp)
  rw [ex_put] at h
  exact h
theorem call_right {w : World} {e q q2 q1 g : Nat} (hI : Its w (some ⟨g, 0, none⟩) (exL e q q2 q1)) (hT : Tabs w) : Calls Tryd.prog 9 #[.agg #[.slice (some ⟨g, 0, none⟩) 3 3, .int .i64 5, .string (str [107])]] w fun e w' => e = .returned (.bool true) ∧ Below w.heap.size w w' := by
  have h := rightQ_any (exL e q q2 q1) (some ⟨g, 0, none⟩) 3 5 [107] w (by simp) hI hT.1 (by simp)
  rw [ex_right] at h
  exact h
theorem call_same {w : World} {e q q2 q1 g : Nat} (hI : Its w (some ⟨g, 0, none⟩) (exL e q q2 q1)) : Calls Tryd.prog 11 #[.agg #[.slice (some ⟨g, 0, none⟩) 3 3, .int .i64 5, .string (str [107])], .agg #[.slice (some ⟨g, 0, none⟩) 3 3, .int .i64 5, .string (str [107])]] w fun e w' => e = .returned (.bool true) ∧ Below w.heap.size w w' := by
  have h := sameQ_any (exL e q q2 q1) (exL e q q2 q1) (some ⟨g, 0, none⟩) (some ⟨g, 0, none⟩) 3 3 5 5 [107] [107] w (by simp) hI hI
  rw [ex_same] at h
  exact h
theorem call_count {w : World} {e q q2 q1 g : Nat} (hI : Its w (some ⟨g, 0, none⟩) (exL e q q2 q1)) : Calls Tryd.prog 12 #[.slice (some ⟨g, 0, none⟩) 3 3] w fun e w' => e = .returned (.int .i64 6) ∧ Below w.heap.size w w' := by
  have h := countL_any (exL e q q2 q1) (some ⟨g, 0, none⟩) 3 w (by simp) hI (by rw [ex_count]; omega)
  rw [ex_count] at h
  exact h
theorem call_deep {w : World} {e q q2 q1 g : Nat} (hI : Its w (some ⟨g, 0, none⟩) (exL e q q2 q1)) : Calls Tryd.prog 15 #[.slice (some ⟨g, 0, none⟩) 3 3] w fun e w' => e = .returned (.int .i64 2) ∧ Below w.heap.size w w' := by
  have h := deepL_any (exL e q q2 q1) (some ⟨g, 0, none⟩) 3 w (by simp) hI (by rw [ex_deep]; omega)
  rw [ex_deep] at h
  exact h
theorem call_none {w : World} (hT : Tabs w) : Calls Tryd.prog 9 #[.agg #[.slice none 0 0, .int .i64 0, .string { data := #[] }]] w fun e w' => e = .returned (.bool false) ∧ Below w.heap.size w w' := by
  have h := rightQ_any [] none 0 0 [] w (by simp) (fun j hj => by simp at hj) hT.1 (by simp)
  rw [show rightQ [] 0 [] = false by kernel_rfl] at h
  exact h
theorem call_one {w : World} {e q q2 q1 g : Nat} (hI : Its w (some ⟨g, 0, none⟩) (exL e q q2 q1)) (hT : Tabs w) : Calls Tryd.prog 13 #[.slice (some ⟨g, 0, none⟩) 1 3] w fun e w' => e = .returned (.string { data := #[65, 32, 97] }) ∧ Below w.heap.size w w' := by
  have hO : Its w (some ⟨g, 0, none⟩) [onI [65] [97]] := fun j hj => by
    obtain rfl : j = 0 := by simpa using hj
    exact hI 0 (by simp)
  have h := putIs_any [onI [65] [97]] (some ⟨g, 0, none⟩) 3 w (by simp) hO hT (by kernel_rfl) (by rw [show putIs [onI [65] [97]] = [65, 32, 97] by kernel_rfl]; simp)
  rw [show putIs [onI [65] [97]] = [65, 32, 97] by kernel_rfl] at h
  exact h
end Go.Proofs.YtbdfehgofnomhaaDoor
