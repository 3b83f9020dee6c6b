/- Layer 7: expressions that a statement makes itself. -/
import Derived.Test.YtbhjimlikffalaaDoorExPutWalk
import Derived.Test.YtbhjimlikffalaaDoorExSort
import Derived.Test.YtbhjimlikffalaaDoorExTr
namespace Go.Proofs.YtbhjimlikffalaaDoor
open Go.RowKit
set_option linter.unusedVariables false

theorem mkref_any (v f : Nm) (w : World) : Calls Tryd.prog 37 #[.string (str v), .string (str f)] w fun e w' => e = .returned (.agg #[.int .i64 1, .string { data := #[] }, .int .i64 0, .string (str v), .string (str f), .slice none 0 0]) ∧ Below w.heap.size w w' := by
  go_enter Tryd.func37, Tryd.ntmps37
  go_wp2
  refine bodyPost_ret (v := .agg #[.int .i64 1, .string { data := #[] }, .int .i64 0, .string (str v), .string (str f), .slice none 0 0]) (by simp [results, Tryd.results37, go_sem]) rfl ?_
  exact ⟨rfl, (Below.refl _ _).alloc (Nat.le_refl _) _⟩
/- The examples' trees. -/
abbrev e2 (N : Nat) : ET := .mk 3 [45] 0 [] [] (some ⟨N, 0, none⟩) 2 [rf [98] [121], nm 1]
abbrev e1 (N : Nat) : ET := .mk 3 [45] 0 [] [] (some ⟨N + 1, 0, none⟩) 2 [rf [97] [120], e2 N]
abbrev t1 (N : Nat) : ET := .mk 3 [60] 0 [] [] (some ⟨N + 1 + 1 + 1, 0, none⟩) 2 [e1 N, nm 3]
abbrev exW (w : World) : World := ((((w.alloc (.cells (cs2 (rf [98] [121]) (nm 1)) 24)).alloc (.cells (cs2 (rf [97] [120]) (e2 w.heap.size)) 24)).alloc (.cells (cs1 (e1 w.heap.size)) 24)).alloc (.cells (cs2 (e1 w.heap.size) (nm 3)) 24)).alloc (.cells (cs1 (t1 w.heap.size)) 24)
def Pk (N : Nat) (w : World) : Prop := ET.In w (e1 N) ∧ ET.In w (t1 N) ∧ Has w (N + 1 + 1) 24 (cs1 (e1 N)) ∧ Has w (N + 1 + 1 + 1 + 1) 24 (cs1 (t1 N)) ∧ Tabs w
theorem Pk.below {N : Nat} {w w' : World} (h : Pk N w) (hb : Below w.heap.size w w') : Pk N w' :=
  ⟨h.1.below hb, h.2.1.below hb, h.2.2.1.below hb h.2.2.1.lt, h.2.2.2.1.below hb h.2.2.2.1.lt, h.2.2.2.2.below hb⟩
theorem exW_pk (w : World) (hT : Tabs w) : Pk w.heap.size (exW w) ∧ Below w.heap.size w (exW w) := by
  have s1 := step1 w (.cells (cs2 (rf [98] [121]) (nm 1)) 24)
  have h1 : Has (w.alloc (.cells (cs2 (rf [98] [121]) (nm 1)) 24)) w.heap.size 24 (cs2 (rf [98] [121]) (nm 1)) := has_at rfl rfl
  generalize hw1 : w.alloc (.cells (cs2 (rf [98] [121]) (nm 1)) 24) = W1 at s1 h1
  have z1 : W1.heap.size = w.heap.size + 1 := by rw [← hw1]; simp
  have i1 : ET.In W1 (e2 w.heap.size) := in2 3 [45] 0 [] [] 2 h1 (in_rf _ _ _ (by simp) (by simp)) (in_nm _ _ (by omega) (by omega)) (okE_small _ _ _ _ (by simp) (by omega) (by omega))
  have s2 := step1 W1 (.cells (cs2 (rf [97] [120]) (e2 w.heap.size)) 24)
  have h2 : Has (W1.alloc (.cells (cs2 (rf [97] [120]) (e2 w.heap.size)) 24)) (w.heap.size + 1) 24 (cs2 (rf [97] [120]) (e2 w.heap.size)) := has_at rfl z1.symm
  generalize hw2 : W1.alloc (.cells (cs2 (rf [97] [120]) (e2 w.heap.size)) 24) = W2 at s2 h2
  have z2 : W2.heap.size = w.heap.size + 1 + 1 := by rw [← hw2, ← z1]; simp
  have i2 : ET.In W2 (e1 w.heap.size) := in2 3 [45] 0 [] [] 2 h2 (in_rf _ _ _ (by simp) (by simp)) (i1.below s2) (okE_small _ _ _ _ (by simp) (by omega) (by omega))
  have s3 := step1 W2 (.cells (cs1 (e1 w.heap.size)) 24)
  have h3 : Has (W2.alloc (.cells (cs1 (e1 w.heap.size)) 24)) (w.heap.size + 1 + 1) 24 (cs1 (e1 w.heap.size)) := has_at rfl z2.symm
  generalize hw3 : W2.alloc (.cells (cs1 (e1 w.heap.size)) 24) = W3 at s3 h3
  have z3 : W3.heap.size = w.heap.size + 1 + 1 + 1 := by rw [← hw3, ← z2]; simp
  have i3 := i2.below s3
  have s4 := step1 W3 (.cells (cs2 (e1 w.heap.size) (nm 3)) 24)
  have h4 : Has (W3.alloc (.cells (cs2 (e1 w.heap.size) (nm 3)) 24)) (w.heap.size + 1 + 1 + 1) 24 (cs2 (e1 w.heap.size) (nm 3)) := has_at rfl z3.symm
  generalize hw4 : W3.alloc (.cells (cs2 (e1 w.heap.size) (nm 3)) 24) = W4 at s4 h4
  have z4 : W4.heap.size = w.heap.size + 1 + 1 + 1 + 1 := by rw [← hw4, ← z3]; simp
  have i4 : ET.In W4 (t1 w.heap.size) := in2 3 [60] 0 [] [] 2 h4 (i3.below s4) (in_nm _ _ (by omega) (by omega)) (okE_small _ _ _ _ (by simp) (by omega) (by omega))
  have s5 := step1 W4 (.cells (cs1 (t1 w.heap.size)) 24)
  have h5 : Has (W4.alloc (.cells (cs1 (t1 w.heap.size)) 24)) (w.heap.size + 1 + 1 + 1 + 1) 24 (cs1 (t1 w.heap.size)) := has_at rfl z4.symm
  have he : exW w = W4.alloc (.cells (cs1 (t1 w.heap.size)) 24) := by rw [← hw4, ← hw3, ← hw2, ← hw1]
  have t1' := s1.trans (s2.mono s1.size)
  have t2' := t1'.trans (s3.mono t1'.size)
  have t3' := t2'.trans (s4.mono t2'.size)
  have t4' := t3'.trans (s5.mono t3'.size)
  rw [he]
  exact ⟨⟨(i3.below s4).below s5, i4.below s5, (h3.below s4 h3.lt).below s5 (by have := h3.lt; omega), h5, hT.below t4'⟩, t4'⟩
theorem right_e1 (N : Nat) : rightT (e1 N) = true := by kernel_rfl
theorem right_t1 (N : Nat) : rightT (t1 N) = true := by kernel_rfl
theorem type_e1 (N : Nat) : typeT (e1 N) = 1 := by kernel_rfl
theorem type_t1 (N : Nat) : typeT (t1 N) = 2 := by kernel_rfl
theorem type_n1 (N q : Nat) : typeT (.mk 2 [33] 0 [] [] (some ⟨q, 0, none⟩) 1 [e1 N]) = 0 := by kernel_rfl
theorem size_t1 (N : Nat) : (t1 N).size = 7 := by kernel_rfl
theorem same_e1 (N : Nat) : sameT (e1 N) (e1 N) = true := by kernel_rfl
theorem right_m1 : rightT (nm (-1)) = false := by kernel_rfl
theorem put_e1 (N : Nat) : putT 0 (e1 N) = [97, 46, 120, 32, 45, 32, 40, 98, 46, 121, 32, 45, 32, 49, 41] := by
  unfold e1 e2 rf nm
  rw [putT_3, putT_1, putT_3, putT_1, putT_0, show Lib.itoa 1 = [49] by simp [Lib.itoa, Lib.decDigits]]
  kernel_rfl
theorem gath_t1 (N : Nat) : gath (t1 N) = [[97], [98]] := by kernel_rfl
theorem vars_t1 (N : Nat) : varsT (t1 N) = [[97], [98]] := by
  unfold varsT
  rw [gath_t1, show srt [[97], [98]] = [[97], [98]] from List.mergeSort_of_pairwise (by decide)]
  kernel_rfl
end Go.Proofs.YtbhjimlikffalaaDoor
